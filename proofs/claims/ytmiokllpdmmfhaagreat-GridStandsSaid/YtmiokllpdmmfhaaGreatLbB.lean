/-
  Texts and their groups: a text is valid if its groups are, each by itself. And what builds on it.
-/
import Derived.Test.YtmiokllpdmmfhaaGreatLbA
import Derived.Test.YtmiokllpdmmfhaaGreatLaH
import Derived.Test.YtmiokllpdmmfhaaGreatLaG
import Derived.Test.YtmiokllpdmmfhaaGreatLaF
import Derived.Laws.OwnMore
namespace Go.Proofs.YtmiokllpdmmfhaaGreat
def Sgl (g : List Nd) : Prop := ∃ u r, g = u :: r ∧ u.depth = 0 ∧ ∀ x ∈ r, 0 < x.depth
theorem Sgl.head {g : List Nd} (h : Sgl g) (r : List Nd) : ∀ u, (g ++ r)[0]? = some u → u.depth ≤ 0 := by
  obtain ⟨u, t, rfl, hd, _⟩ := h
  intro x hx; simp at hx; subst hx; omega
theorem takeWhile_all {α : Type} (p : α → Bool) : ∀ (a b : List α), (∀ x ∈ a, p x = true) → (a ++ b).takeWhile p = a ++ b.takeWhile p
  | [], b, _ => rfl
  | x :: a, b, h => by
    rw [List.cons_append, List.takeWhile_cons, h x (List.mem_cons_self ..), if_pos rfl, takeWhile_all p a b (fun y hy => h y (List.mem_cons_of_mem _ hy))]; rfl
theorem span_sgl {g rest : List Nd} (h : Sgl g) (hr : ∀ u, rest[0]? = some u → u.depth ≤ 0) : 1 + spanN (g ++ rest) 0 0 = g.length := by
  obtain ⟨u, r, rfl, _, h2⟩ := h
  unfold spanN
  have e : ((u :: r ++ rest).drop (0 + 1)) = r ++ rest := rfl
  rw [e, takeWhile_all _ r rest (fun x hx => decide_eq_true (h2 x hx))]
  have e2 : rest.takeWhile (fun n => decide ((0 : Int) < n.depth)) = [] := by
    cases rest with
    | nil => rfl
    | cons v t =>
      have := hr v rfl
      rw [List.takeWhile_cons, if_neg (by simp; omega)]
  rw [e2]; simp; omega
theorem flat_head {G : List (List Nd)} (h : ∀ g ∈ G, Sgl g) : ∀ u, G.flatten[0]? = some u → u.depth ≤ 0 := by
  cases G with
  | nil => intro u hu; simp at hu
  | cons g r => rw [List.flatten_cons]; exact (h g (List.mem_cons_self ..)).head _
theorem partsW_flat : ∀ (G : List (List Nd)) (o : Nat), (∀ g ∈ G, Sgl g) → (partsW o G.flatten).map (·.2) = G
  | [], o, _ => by rw [List.flatten_nil, partsW_nil]; rfl
  | g :: r, o, h => by
    have hg := h g (List.mem_cons_self ..)
    have hr := fun x hx => h x (List.mem_cons_of_mem g hx)
    have hs := span_sgl hg (flat_head hr)
    obtain ⟨u, t, e, hu, _⟩ := hg
    have h0 : (g ++ r.flatten)[0]? = some u := by rw [e]; rfl
    rw [List.flatten_cons, partsW_at h0, hu, hs, List.map_cons, List.take_left, List.drop_left, partsW_flat r _ hr]
theorem partsN_flat {G : List (List Nd)} (h : ∀ g ∈ G, Sgl g) : partsN G.flatten = G := partsW_flat G 0 h
theorem parts_sgl {ns : List Nd} (hs : Shape ns) : ∀ g ∈ partsN ns, Sgl g := by
  intro g hg
  obtain ⟨p, hp, rfl⟩ := List.mem_map.1 hg
  obtain ⟨q, u, h1, h2, h3⟩ := partsW_grp ns.length 0 ns (Nat.le_refl _) p hp
  have hd : u.depth = 0 := by
    have : p.1 ∈ topsL ns := by rw [tops_is hs]; exact List.mem_map_of_mem hp
    obtain ⟨x, hx, hxd⟩ := tops_at this
    rw [List.getElem?_drop] at h2
    rw [show p.1 = q + 0 by omega, h2] at hx; injection hx with hx; subst hx; exact hxd
  cases hl : ns.drop q with
  | nil => rw [hl] at h2; cases h2
  | cons v r =>
    rw [hl] at h2 h3
    injection h2 with h2; subst h2
    rw [hd] at h3
    refine ⟨v, r.take (spanN (v :: r) 0 0), ?_, hd, ?_⟩
    · show p.2 = _
      rw [h3, Nat.add_comm, List.take_succ_cons]
    · intro x hx
      obtain ⟨k, hk⟩ := List.getElem?_of_mem hx
      rw [List.getElem?_take] at hk
      split at hk
      · rename_i hlt
        obtain ⟨y, hy, hyd⟩ := spanN_at hlt
        rw [show 0 + 1 + k = k + 1 by omega, List.getElem?_cons_succ, hk] at hy
        injection hy with hy; subst hy; exact hyd
      · cases hk
/- validity -/
theorem nodesErr_app (l : Li) : ∀ (a b done : List Nd), nodesErr l done (a ++ b) = 0 ↔ nodesErr l done a = 0 ∧ nodesErr l (done ++ a) b = 0
  | [], b, done => by simp [nodesErr]
  | n :: a, b, done => by
    rw [List.cons_append, nodesErr, nodesErr]
    split
    · rename_i h; simp [h]
    · rw [nodesErr_app l a b (done ++ [n]), List.append_assoc]; rfl
theorem deepR_app {a g : List Nd} (h : g ≠ []) : deepR (a ++ g) = deepR g := by
  unfold deepR
  have h0 : 0 < g.length := List.length_pos_iff.2 h
  rw [List.length_append, List.getElem?_append_right (by omega), show a.length + g.length - 1 - a.length = g.length - 1 by omega]
theorem deepR_pos {a : List Nd} (h : ∀ x ∈ a, 0 ≤ x.depth) : 0 ≤ deepR a := by
  unfold deepR
  cases hx : a[a.length - 1]? with
  | none => simp
  | some x =>
    have := h x (List.mem_of_getElem? hx)
    dsimp only
    split
    · omega
    · split <;> omega
theorem nodeErr_app (l : Li) {a g : List Nd} (h : g ≠ []) (n : Nd) : nodeErr l (a ++ g) n = nodeErr l g n := by
  unfold nodeErr; rw [deepR_app h]
theorem nodesErr_shift (l : Li) {a : List Nd} : ∀ (b g : List Nd), g ≠ [] → nodesErr l (a ++ g) b = nodesErr l g b
  | [], g, _ => rfl
  | n :: b, g, h => by
    rw [nodesErr, nodesErr, nodeErr_app l h, List.append_assoc, nodesErr_shift l b (g ++ [n]) (by simp)]
theorem nodeErr_top (l : Li) {a : List Nd} (ha : ∀ x ∈ a, 0 ≤ x.depth) {u : Nd} (hu : u.depth = 0) : nodeErr l a u = nodeErr l [] u := by
  unfold nodeErr
  have h1 := deepR_pos ha
  have h2 : deepR [] = 0 := rfl
  rw [h2, hu]
  simp [show ¬ deepR a < 0 by omega]
theorem nodesErr_sgl (l : Li) {a g : List Nd} (ha : ∀ x ∈ a, 0 ≤ x.depth) (hg : Sgl g) : nodesErr l a g = nodesErr l [] g := by
  obtain ⟨u, r, rfl, hu, _⟩ := hg
  rw [nodesErr, nodesErr, nodeErr_top l ha hu, nodesErr_shift l r [u] (by simp), List.nil_append]
structure GV (l : Li) (g : List Nd) : Prop where
  sgl : Sgl g
  nodes : nodesErr l [] g = 0
  fits : fitsB g = true
theorem GV.depth {l : Li} {g : List Nd} (h : GV l g) : ∀ x ∈ g, 0 ≤ x.depth ∧ x.depth ≤ 4 := nodes_depth l g [] h.nodes (fun _ hx => by cases hx)
theorem flat_nodes {l : Li} : ∀ (G : List (List Nd)) (a : List Nd), (∀ x ∈ a, 0 ≤ x.depth ∧ x.depth ≤ 4) → (∀ g ∈ G, Sgl g) → (nodesErr l a G.flatten = 0 ↔ ∀ g ∈ G, nodesErr l [] g = 0)
  | [], a, _, _ => by simp [nodesErr]
  | g :: r, a, ha, h => by
    rw [List.flatten_cons, nodesErr_app, nodesErr_sgl l (fun x hx => (ha x hx).1) (h g (List.mem_cons_self ..))]
    constructor
    · rintro ⟨h1, h2⟩
      have hd := nodes_depth l g [] h1 (fun _ hx => by cases hx)
      have := (flat_nodes r (a ++ g) (fun x hx => by rcases List.mem_append.1 hx with hx | hx; exact ha x hx; exact hd x hx) (fun x hx => h x (List.mem_cons_of_mem _ hx))).1 h2
      intro x hx
      rcases List.mem_cons.1 hx with rfl | hx
      · exact h1
      · exact this x hx
    · intro hh
      have h1 := hh g (List.mem_cons_self ..)
      have hd := nodes_depth l g [] h1 (fun _ hx => by cases hx)
      exact ⟨h1, (flat_nodes r (a ++ g) (fun x hx => by rcases List.mem_append.1 hx with hx | hx; exact ha x hx; exact hd x hx) (fun x hx => h x (List.mem_cons_of_mem _ hx))).2 (fun x hx => hh x (List.mem_cons_of_mem _ hx))⟩
theorem parts_cover : ∀ (n o : Nat) (l : List Nd), l.length ≤ n → ∀ i, i < l.length → ∃ p ∈ partsW o l, ∃ j, j < p.2.length ∧ o + i = p.1 + j := by
  intro n
  induction n with
  | zero => intro o l hl i hi; omega
  | succ n ih =>
    intro o l hl i hi
    cases l with
    | nil => simp at hi
    | cons u r =>
      rw [partsW_cons]
      rcases Nat.lt_or_ge i (1 + spanN (u :: r) u.depth 0) with h | h
      · exact ⟨_, List.mem_cons_self .., i, by rw [List.length_take]; omega, rfl⟩
      · obtain ⟨p, hp, j, hj, e⟩ := ih (o + (1 + spanN (u :: r) u.depth 0)) ((u :: r).drop (1 + spanN (u :: r) u.depth 0)) (by simp at hl ⊢; omega) (i - (1 + spanN (u :: r) u.depth 0)) (by rw [List.length_drop]; omega)
        exact ⟨p, List.mem_cons_of_mem _ hp, j, hj, by omega⟩
theorem kind_grp {ns : List Nd} {p : Nat × List Nd} (hp : p ∈ partsW 0 ns) {i : Nat} (hi : i < p.2.length) : kindAt ns (p.1 + i) = kindAt p.2 i := by
  unfold kindAt getN; rw [node_grp hp hi]
theorem fit_grp {ns : List Nd} {p : Nat × List Nd} (hp : p ∈ partsW 0 ns) {i : Nat} (hi : i < p.2.length) : kidsFitB ns (p.1 + i) = kidsFitB p.2 i := by
  unfold kidsFitB
  rw [kids_grp hp hi, List.length_map, kind_grp hp hi, List.all_map]
  congr 1
  have hm : ∀ l : List Nat, (∀ j ∈ l, j < p.2.length) → l.all ((fun j => holdsB (kindAt p.2 i) (kindAt ns j) (kidsL p.2 i).length) ∘ fun j => p.1 + j) = l.all (fun j => holdsB (kindAt p.2 i) (kindAt p.2 j) (kidsL p.2 i).length) := by
    intro l
    induction l with
    | nil => intro _; rfl
    | cons a r ih =>
      intro h
      rw [List.all_cons, List.all_cons, ih (fun j hj => h j (List.mem_cons_of_mem _ hj))]
      show (holdsB _ (kindAt ns (p.1 + a)) _ && _) = _
      rw [kind_grp hp (h a (List.mem_cons_self ..))]
  exact hm _ (fun j hj => kids_lt hj)
theorem fits_parts {ns : List Nd} : fitsB ns = true ↔ ∀ g ∈ partsN ns, fitsB g = true := by
  constructor
  · intro h g hg
    obtain ⟨p, hp, rfl⟩ := List.mem_map.1 hg
    refine List.all_eq_true.2 fun i hi => ?_
    have hi : i < p.2.length := List.mem_range.1 hi
    show kidsFitB p.2 i = true
    rw [← fit_grp hp hi]
    have hlt : p.1 + i < ns.length := by
      have := node_grp hp hi
      rw [List.getElem?_eq_getElem hi] at this
      exact (List.getElem?_eq_some_iff.1 this).1
    exact fits_at h _ hlt
  · intro h
    refine List.all_eq_true.2 fun i hi => ?_
    have hi : i < ns.length := List.mem_range.1 hi
    obtain ⟨p, hp, j, hj, e⟩ := parts_cover ns.length 0 ns (Nat.le_refl _) i hi
    rw [show i = p.1 + j by omega, fit_grp hp hj]
    exact fits_at (h p.2 (List.mem_map_of_mem hp)) j hj
theorem valid_parts {l : Li} {ns : List Nd} (h : textErr l ns = 0) : checkErr l = 0 ∧ ns.length ≤ 200 ∧ ∀ g ∈ partsN ns, GV l g := by
  obtain ⟨h1, h2, h3, h4, _⟩ := text_ok h
  have hs := parts_sgl (shape_of h)
  have h5 := (flat_nodes (l := l) (partsN ns) [] (fun _ hx => by cases hx) hs).1 (by rw [partsN_all]; exact h3)
  exact ⟨h1, h2, fun g hg => ⟨hs g hg, h5 g hg, fits_parts.1 h4 g hg⟩⟩
theorem valid_flat {l : Li} {G : List (List Nd)} (h1 : checkErr l = 0) (h2 : G.flatten.length ≤ 200) (h : ∀ g ∈ G, GV l g) : textErr l G.flatten = 0 := by
  have hs := fun g hg => (h g hg).sgl
  unfold textErr
  rw [if_neg (by omega), if_neg (by omega), (flat_nodes (l := l) G [] (fun _ hx => by cases hx) hs).2 (fun g hg => (h g hg).nodes), if_neg (by simp), fits_parts.2 (by rw [partsN_flat hs]; exact fun g hg => (h g hg).fits), if_pos rfl]
/- what a text with some groups replaced is -/
theorem group_valid {l : Li} {g : List Nd} (h1 : checkErr l = 0) (h2 : g.length ≤ 200) (h : GV l g) : textErr l g = 0 := by
  have := valid_flat (G := [g]) h1 (by simpa using h2) (fun x hx => by simp at hx; subst hx; exact h)
  simpa using this
theorem mem_len {G : List (List Nd)} {g : List Nd} (h : g ∈ G) : g.length ≤ G.flatten.length := by
  obtain ⟨a, b, rfl⟩ := List.append_of_mem h
  rw [List.flatten_append, List.flatten_cons]; simp; omega
theorem kids_seg (ns : List Nd) (d : Int) (b : Nat) (hb : b ≤ ns.length) (hend : ∀ u, ns[b]? = some u → u.depth ≤ d) : ∀ (n a : Nat), b - a ≤ n → a ≤ b → (∀ k, a ≤ k → k < b → ∃ u, ns[k]? = some u ∧ d < u.depth) → (∀ u, a < b → ns[a]? = some u → u.depth = d + 1) →
    ((List.range' a (b - a)).filter (kidB ns d)).flatMap (fun j => List.range' j (1 + spanN ns (d + 1) j)) = List.range' a (b - a)
  | 0, a, hn, hab, _, _ => by rw [show b - a = 0 by omega]; rfl
  | n + 1, a, hn, hab, hall, hfst => by
    rcases Nat.eq_or_lt_of_le hab with e | hlt
    · rw [show b - a = 0 by omega]; rfl
    obtain ⟨u, hu, hud⟩ := hall a (Nat.le_refl _) hlt
    have hue := hfst u hlt hu
    have hal : a < ns.length := by omega
    obtain ⟨s, hs⟩ : ∃ s, s = spanN ns (d + 1) a := ⟨_, rfl⟩
    have hsl := spanN_le ns (d + 1) a hal
    rw [← hs] at hsl
    have hsb : a + 1 + s ≤ b := by
      rcases Nat.lt_or_ge b (a + 1 + s) with h | h
      · exfalso
        obtain ⟨y, hy, hyd⟩ := spanN_at (ns := ns) (d := d + 1) (i := a) (k := b - (a + 1)) (by omega)
        rw [show a + 1 + (b - (a + 1)) = b by omega] at hy
        have := hend y hy; omega
      · exact h
    have e1 : List.range' a (b - a) = a :: (List.range' (a + 1) s ++ List.range' (a + 1 + s) (b - (a + 1 + s))) := by
      rw [show b - a = s + (b - (a + 1 + s)) + 1 by omega, List.range'_succ, List.range'_append_1]
    have e2 : (List.range' (a + 1) s).filter (kidB ns d) = [] := by
      refine List.filter_eq_nil_iff.2 fun j hj => ?_
      rw [List.mem_range'_1] at hj
      obtain ⟨y, hy, hyd⟩ := spanN_at (ns := ns) (d := d + 1) (i := a) (k := j - (a + 1)) (by omega)
      rw [show a + 1 + (j - (a + 1)) = j by omega] at hy
      unfold kidB; rw [hy]; simp; omega
    have e3 : kidB ns d a = true := by unfold kidB; rw [hu]; simp [hue]
    have ih := kids_seg ns d b hb hend n (a + 1 + s) (by omega) hsb (fun k h1 h2 => hall k (by omega) h2) (fun v hv hv2 => by
      rcases spanN_end ns (d + 1) a hal with h | ⟨y, hy, hyd⟩
      · omega
      · rw [← hs, hv2] at hy; injection hy with hy; subst hy
        obtain ⟨z, hz, hzd⟩ := hall (a + 1 + s) (by omega) hv
        rw [hv2] at hz; injection hz with hz; subst hz; omega)
    conv => lhs; rw [e1]
    rw [List.filter_cons, if_pos e3, List.filter_append, e2, List.nil_append, List.flatMap_cons, ih, ← hs, e1]
    rw [Nat.add_comm 1 s, List.range'_succ]; rfl
structure Full (ns : List Nd) : Prop where
  rises : Rises ns
  depth : ∀ x ∈ ns, 0 ≤ x.depth ∧ x.depth ≤ 4
  leaf : ∀ (i : Nat) (u : Nd), ns[i]? = some u → leafB u.kind = true → kidsL ns i = []
theorem leaf_kids {ns : List Nd} (h : fitsB ns = true) {i : Nat} {u : Nd} (hu : ns[i]? = some u) (hk : leafB u.kind = true) : kidsL ns i = [] := by
  have h1 := fits_at h i (List.getElem?_eq_some_iff.1 hu).1
  unfold kidsFitB at h1
  rw [kindAt_is hu] at h1
  simp only [Bool.and_eq_true, Bool.not_eq_true', decide_eq_false_iff_not] at h1
  have e : (kidsR u.kind).2 = 0 := by unfold kidsR; rw [if_pos hk]
  rw [e] at h1
  exact List.eq_nil_of_length_eq_zero (by omega)
theorem kids_fst {ns : List Nd} (hr : Rises ns) {i : Nat} {u v : Nd} (hu : ns[i]? = some u) (hv : ns[i + 1]? = some v) (hd : u.depth < v.depth) : v.depth = u.depth + 1 := by
  have := hr i u v hu hv; omega
theorem leaf_span {ns : List Nd} (h : Full ns) {i : Nat} {u : Nd} (hu : ns[i]? = some u) (hk : leafB u.kind = true) : spanN ns u.depth i = 0 := by
  rcases Nat.eq_zero_or_pos (spanN ns u.depth i) with h0 | h0
  · exact h0
  · exfalso
    obtain ⟨v, hv, hvd⟩ := spanN_at h0
    have hv : ns[i + 1]? = some v := hv
    have hk2 := h.leaf i u hu hk
    unfold kidsL at hk2
    rw [hu] at hk2
    have := List.filter_eq_nil_iff.1 hk2 (i + 1) (by rw [List.mem_range'_1]; omega)
    unfold kidB at this
    rw [hv] at this
    have e := kids_fst h.rises hu hv hvd
    simp [e] at this
theorem full_of {l : Li} {g : List Nd} (h : GV l g) : Full g := by
  obtain ⟨h6, _, _, _⟩ := nodes_shape h.nodes
  exact ⟨h6, h.depth, fun i u hu hk => leaf_kids h.fits hu hk⟩
def leafErr (l : Li) (u : Nd) : Int := if u.kind = 1 then glyphErr l u else gapErr u
theorem node_leaf {l : Li} {a : List Nd} {u : Nd} (h : leafB u.kind = true) : nodeErr l a u = if u.depth < 0 ∨ deepR a < u.depth then 21 else leafErr l u := by
  have hk : u.kind = 1 ∨ u.kind = 6 := by unfold leafB at h; simpa using h
  unfold nodeErr leafErr
  rw [if_neg (by omega)]
  split
  · rfl
  · rcases hk with hk | hk
    · rw [if_pos hk, if_pos hk]
    · rw [if_neg (by omega), if_pos hk, if_neg (by omega)]
theorem deepR_snoc (a : List Nd) (x : Nd) : deepR (a ++ [x]) = if leafB x.kind then x.depth else if x.depth + 1 ≤ 4 then x.depth + 1 else 4 := by
  rw [deepR_app (by simp)]; rfl
def flatGs (g : List Nd) : List (List Nd) := match g with
  | [] => []
  | u :: _ => if u.kind == 5 && decide ((leavesL g).length ≤ 6) then [u :: (leavesL g).map (setD 1)] else (leavesL g).map fun x => [setD 0 x]
theorem flatten_one {α β : Type} (f : α → β) (l : List α) : (l.map fun x => [f x]).flatten = l.map f := by
  induction l with
  | nil => rfl
  | cons a r ih => rw [List.map_cons, List.flatten_cons, ih]; rfl
theorem flatGs_flat (g : List Nd) : (flatGs g).flatten = flatP g := by
  unfold flatGs flatP
  cases g with
  | nil => rfl
  | cons u r =>
    dsimp only
    split
    · simp
    · exact flatten_one _ _
theorem flat_groups (ns : List Nd) : ((partsN ns).flatMap flatGs).flatten = (partsW 0 ns).flatMap fun p => flatP p.2 := by
  unfold partsN
  rw [List.flatMap_map]
  generalize partsW 0 ns = ps
  induction ps with
  | nil => rfl
  | cons p r ih => rw [List.flatMap_cons, List.flatMap_cons, List.flatten_append, ih, flatGs_flat]
/- kids hang on depths alone -/
theorem span_map (ns : List Nd) (d : Int) (i : Nat) : spanN ns d i = (((ns.map Nd.depth).drop (i + 1)).takeWhile fun x => decide (d < x)).length := by
  unfold spanN
  rw [← List.map_drop, List.takeWhile_map, List.length_map]; rfl
theorem kidB_map (ns : List Nd) (d : Int) (j : Nat) : kidB ns d j = ((ns.map Nd.depth)[j]?).any fun x => x == d + 1 := by
  unfold kidB
  rw [List.getElem?_map]
  cases ns[j]? <;> rfl
theorem kids_depth {ns ms : List Nd} (h : ns.map Nd.depth = ms.map Nd.depth) (i : Nat) : kidsL ns i = kidsL ms i := by
  have hi : (ns[i]?).map Nd.depth = (ms[i]?).map Nd.depth := by rw [← List.getElem?_map, ← List.getElem?_map, h]
  unfold kidsL
  cases hn : ns[i]? with
  | none =>
    rw [hn] at hi
    cases hm : ms[i]? with
    | none => rfl
    | some v => rw [hm] at hi; cases hi
  | some u =>
    rw [hn] at hi
    cases hm : ms[i]? with
    | none => rw [hm] at hi; cases hi
    | some v =>
      rw [hm] at hi
      injection hi with hi
      dsimp only
      rw [hi, span_map, span_map, h]
      refine List.filter_congr fun j _ => ?_
      rw [kidB_map, kidB_map, h]
theorem kids_lower (ns : List Nd) (e : Int) (i : Nat) : kidsL (ns.map (lowerN e)) i = kidsL ns i := by
  unfold kidsL
  rw [List.getElem?_map]
  cases hn : ns[i]? with
  | none => rfl
  | some u =>
    simp only [Option.map_some]
    have e1 : spanN (ns.map (lowerN e)) (lowerN e u).depth i = spanN ns u.depth i := by
      unfold spanN
      rw [← List.map_drop, List.takeWhile_map, List.length_map]
      congr 2
      funext x
      show decide (u.depth - e < x.depth - e) = decide (u.depth < x.depth)
      rw [decide_eq_decide]; omega
    rw [e1]
    refine List.filter_congr fun j _ => ?_
    unfold kidB
    rw [List.getElem?_map]
    cases ns[j]? with
    | none => rfl
    | some x =>
      show ((x.depth - e) == u.depth - e + 1) = (x.depth == u.depth + 1)
      rw [Bool.eq_iff_iff]; simp; omega
/- mirrored -/
theorem kindAt_map {f : Nd → Nd} (hk : ∀ u, (f u).kind = u.kind) (ns : List Nd) (j : Nat) : kindAt (ns.map f) j = kindAt ns j := by
  unfold kindAt getN
  rw [List.getElem?_map]
  cases ns[j]? with
  | none => rfl
  | some u => exact hk u
/- plain -/
theorem holds_bes {kid n : Int} (h : holdsB 7 kid n = true) : holdsB 2 kid n = true ∧ kid ≠ 5 ∧ kid ≠ 7 ∧ kid ≠ 2 := by
  unfold holdsB at h
  have h5 : kid ≠ 5 := by intro e; rw [e] at h; cases h
  have h7 : kid ≠ 7 := by intro e; rw [e] at h; cases h
  have b5 : (kid == 5) = false := by simpa using h5
  have b7 : (kid == 7) = false := by simpa using h7
  rw [b5, b7] at h
  have h : (kid != 2) = true := h
  refine ⟨?_, h5, h7, by simpa using h⟩
  unfold holdsB
  rw [b5, b7]; exact h
theorem plain_top {l : Li} {u : Nd} {r : List Nd} (h : GV l (u :: r)) (hk : u.kind = 7) : GV l (u.atK 2 :: r) := by
  obtain ⟨⟨u', r', e, hu, hr⟩, hn, hf⟩ := h
  injection e with e1 e2
  subst e1 e2
  refine ⟨⟨_, _, rfl, hu, hr⟩, ?_, ?_⟩
  · rw [nodesErr] at hn ⊢
    split at hn
    · rename_i h1; exact absurd hn h1
    · rename_i h1
      have h1 : nodeErr l [] u = 0 := by simpa using h1
      have h2 : nodeErr l [] (u.atK 2) = 0 := by
        unfold nodeErr at h1 ⊢
        rw [hk] at h1
        show (if (2 : Int) < 1 ∨ (7 : Int) < 2 then 20 else if u.depth < 0 ∨ deepR [] < u.depth then 21 else if (2 : Int) = 1 then glyphErr l (u.atK 2) else if (2 : Int) = 6 then gapErr (u.atK 2) else plainErr u) = 0
        rw [if_neg (by omega)] at h1 ⊢
        split at h1
        · omega
        · rename_i h3
          rw [if_neg h3, if_neg (by omega), if_neg (by omega)]
          rw [if_neg (by omega), if_neg (by omega)] at h1
          exact h1
      rw [h2, if_neg (by simp)]
      have e : ∀ (b : List Nd), deepR ([] ++ [u.atK 2] ++ b) = deepR ([] ++ [u] ++ b) := by
        intro b
        cases b with
        | nil =>
          simp only [List.append_nil]
          rw [deepR_snoc, deepR_snoc, hk]; rfl
        | cons x t => rw [deepR_app (by simp), deepR_app (by simp)]
      have e2 : ∀ (b t : List Nd), nodesErr l ([] ++ [u.atK 2] ++ b) t = nodesErr l ([] ++ [u] ++ b) t := by
        intro b t
        induction t generalizing b with
        | nil => rfl
        | cons x t ih =>
          have e3 : nodeErr l ([] ++ [u.atK 2] ++ b) x = nodeErr l ([] ++ [u] ++ b) x := by unfold nodeErr; rw [e]
          rw [nodesErr, nodesErr, e3, List.append_assoc ([] ++ [u.atK 2]), List.append_assoc ([] ++ [u]), ih]
      have := e2 [] r
      rw [List.append_nil, List.append_nil] at this
      rw [this]; exact hn
  · refine List.all_eq_true.2 fun i hi => ?_
    have hi2 : i < (u :: r).length := by have := List.mem_range.1 hi; simpa using this
    have h1 := fits_at hf i hi2
    have e : kidsL (u.atK 2 :: r) i = kidsL (u :: r) i := kids_depth (ns := u.atK 2 :: r) (ms := u :: r) rfl i
    have ek : ∀ j, 0 < j → kindAt (u.atK 2 :: r) j = kindAt (u :: r) j := fun j hj => by
      obtain ⟨k, rfl⟩ : ∃ k, j = k + 1 := ⟨j - 1, by omega⟩
      rfl
    have hpos : ∀ j ∈ kidsL (u :: r) i, 0 < j := fun j hj => by
      unfold kidsL at hj
      obtain ⟨x, hx⟩ : ∃ x, (u :: r)[i]? = some x := ⟨_, List.getElem?_eq_getElem hi2⟩
      rw [hx] at hj
      have := (List.mem_filter.1 hj).1
      rw [List.mem_range'_1] at this; omega
    unfold kidsFitB at h1 ⊢
    rw [e]
    simp only [Bool.and_eq_true, Bool.not_eq_true', decide_eq_false_iff_not, List.all_eq_true] at h1 ⊢
    cases i with
    | zero =>
      have k0 : kindAt (u :: r) 0 = 7 := hk
      have k1 : kindAt (u.atK 2 :: r) 0 = 2 := rfl
      rw [k0] at h1
      rw [k1]
      have e7 : kidsR 7 = (2, 6) := by decide
      have e2 : kidsR 2 = (2, 6) := by decide
      rw [e7] at h1
      rw [e2]
      refine ⟨h1.1, fun j hj => ?_⟩
      have := h1.2 j hj
      rw [ek j (hpos j hj)]
      exact (holds_bes this).1
    | succ k =>
      rw [ek (k + 1) (by omega)]
      refine ⟨h1.1, fun j hj => ?_⟩
      rw [ek j (hpos j hj)]
      exact h1.2 j hj
theorem ring_hon {l : Li} {u v : Nd} {r : List Nd} (h : GV l (u :: v :: r)) (hk : u.kind = 5) (hv : v.kind = 7) : u.depth = 0 ∧ v.depth = 1 ∧ (∀ x ∈ r, 2 ≤ x.depth) ∧ kidsL (u :: v :: r) 0 = [1] := by
  have hu : u.depth = 0 := by obtain ⟨x, y, e, h0, _⟩ := h.sgl; injection e with e1 e2; subst e1; exact h0
  have hpos : ∀ x ∈ v :: r, 0 < x.depth := by obtain ⟨x, y, e, _, h0⟩ := h.sgl; injection e with e1 e2; subst e2; exact h0
  have hfu := full_of h
  have hvd : v.depth = 1 := by
    have h1 := hfu.rises 0 u v rfl rfl
    have h2 := hpos v (List.mem_cons_self ..)
    omega
  have hsp : spanN (u :: v :: r) 0 0 = (v :: r).length := by
    unfold spanN
    have e : (u :: v :: r).drop (0 + 1) = v :: r := rfl
    rw [e]
    have := takeWhile_all (fun n : Nd => decide ((0 : Int) < n.depth)) (v :: r) [] (fun x hx => decide_eq_true (hpos x hx))
    rw [List.append_nil] at this
    rw [this]; simp
  have hkl : kidsL (u :: v :: r) 0 = (List.range' 1 (v :: r).length).filter (kidB (u :: v :: r) 0) := by
    have e : kidsL (u :: v :: r) 0 = (List.range' (0 + 1) (spanN (u :: v :: r) u.depth 0)).filter (kidB (u :: v :: r) u.depth) := rfl
    rw [e, hu, hsp]
  have h1 : (1 : Nat) ∈ kidsL (u :: v :: r) 0 := by
    rw [hkl]
    refine List.mem_filter.2 ⟨by rw [List.mem_range'_1]; simp, ?_⟩
    show (some v).any (fun u => u.depth == 0 + 1) = true
    simp [hvd]
  have h2 := fits_kid h.fits (i := 0) (by simp) h1
  have h3 : kindAt (u :: v :: r) 0 = 5 := hk
  have h4 : kindAt (u :: v :: r) 1 = 7 := hv
  rw [h3, h4] at h2
  have h5 : (kidsL (u :: v :: r) 0).length = 1 := by
    unfold holdsB at h2
    simp at h2
    omega
  obtain ⟨z, hz⟩ := List.length_eq_one_iff.1 h5
  rw [hz] at h1
  have hz1 : z = 1 := by simp at h1; omega
  rw [hz1] at hz
  refine ⟨hu, hvd, fun x hx => ?_, hz⟩
  have hx0 := hpos x (List.mem_cons_of_mem _ hx)
  rcases Int.lt_or_le x.depth 2 with hlt | hge
  · exfalso
    obtain ⟨k, hk2⟩ := List.getElem?_of_mem hx
    have hkl2 := (List.getElem?_eq_some_iff.1 hk2).1
    have hm : k + 2 ∈ kidsL (u :: v :: r) 0 := by
      rw [hkl]
      refine List.mem_filter.2 ⟨by rw [List.mem_range'_1, List.length_cons]; omega, ?_⟩
      show ((u :: v :: r)[k + 2]?).any (fun u => u.depth == 0 + 1) = true
      rw [show (u :: v :: r)[k + 2]? = r[k]? from rfl, hk2]
      have : x.depth = 1 := by omega
      simp [this]
    rw [hz] at hm
    simp at hm
  · exact hge
theorem node_lower {l : Li} {a b : List Nd} {x : Nd} (hd : deepR b ≤ deepR a + 1) (h1 : 1 ≤ x.depth) (h : nodeErr l b x = 0) : nodeErr l a (lowerN 1 x) = 0 := by
  unfold nodeErr at h ⊢
  show (if x.kind < 1 ∨ 7 < x.kind then 20 else if x.depth - 1 < 0 ∨ deepR a < x.depth - 1 then 21 else if x.kind = 1 then glyphErr l x else if x.kind = 6 then gapErr x else plainErr x) = 0
  split at h
  · omega
  rename_i h2
  rw [if_neg h2]
  split at h
  · omega
  rw [if_neg (by omega)]
  exact h
theorem nodes_lower {l : Li} : ∀ (r a b : List Nd), deepR b ≤ deepR a + 1 → (∀ x ∈ r, 1 ≤ x.depth) → nodesErr l b r = 0 → nodesErr l a (r.map (lowerN 1)) = 0
  | [], _, _, _, _, _ => rfl
  | x :: r, a, b, hd, hp, h => by
    rw [nodesErr] at h
    split at h
    · rename_i h1; exact absurd h h1
    · rename_i h1
      rw [List.map_cons, nodesErr, node_lower hd (hp x (List.mem_cons_self ..)) (by simpa using h1), if_neg (by simp)]
      refine nodes_lower r _ (b ++ [x]) ?_ (fun y hy => hp y (List.mem_cons_of_mem _ hy)) h
      rw [deepR_snoc, deepR_snoc]
      have e1 : (lowerN 1 x).kind = x.kind := rfl
      have e2 : (lowerN 1 x).depth = x.depth - 1 := rfl
      rw [e1, e2]
      split
      · omega
      · split <;> split <;> omega
theorem plain_ring {l : Li} {u v : Nd} {r : List Nd} (h : GV l (u :: v :: r)) (hk : u.kind = 5) (hv : v.kind = 7) : GV l (u :: r.map (lowerN 1)) := by
  obtain ⟨hu, hvd, hr, hone⟩ := ring_hon h hk hv
  have hn := h.nodes
  have hf := h.fits
  rw [nodesErr] at hn
  have hn1 : nodeErr l [] u = 0 := by
    split at hn
    · rename_i h1; exact absurd hn h1
    · rename_i h1; simpa using h1
  rw [hn1, if_neg (by simp), nodesErr] at hn
  have hn2 : nodesErr l ([] ++ [u] ++ [v]) r = 0 := by
    split at hn
    · rename_i h1; exact absurd hn h1
    · exact hn
  -- the kids
  have k0 : kidsL (u :: r.map (lowerN 1)) 0 = (List.range' 1 r.length).filter (kidB (u :: r.map (lowerN 1)) 0) := by
    have e : kidsL (u :: r.map (lowerN 1)) 0 = (List.range' (0 + 1) (spanN (u :: r.map (lowerN 1)) u.depth 0)).filter (kidB (u :: r.map (lowerN 1)) u.depth) := rfl
    have hsp : spanN (u :: r.map (lowerN 1)) 0 0 = r.length := by
      unfold spanN
      have e : (u :: r.map (lowerN 1)).drop (0 + 1) = r.map (lowerN 1) := rfl
      rw [e]
      have := takeWhile_all (fun n : Nd => decide ((0 : Int) < n.depth)) (r.map (lowerN 1)) [] (fun x hx => by
        obtain ⟨y, hy, rfl⟩ := List.mem_map.1 hx
        have := hr y hy
        exact decide_eq_true (by show 0 < y.depth - 1; omega))
      rw [List.append_nil] at this
      rw [this, List.length_append, List.length_map]; rfl
    rw [e, hu, hsp]
  have k1 : kidsL (u :: v :: r) 1 = (kidsL (u :: r.map (lowerN 1)) 0).map (· + 1) := by
    have e : kidsL (u :: v :: r) 1 = (List.range' (1 + 1) (spanN (u :: v :: r) v.depth 1)).filter (kidB (u :: v :: r) v.depth) := rfl
    have hsp : spanN (u :: v :: r) 1 1 = r.length := by
      unfold spanN
      have e : (u :: v :: r).drop (1 + 1) = r := rfl
      rw [e]
      have := takeWhile_all (fun n : Nd => decide ((1 : Int) < n.depth)) r [] (fun x hx => decide_eq_true (by have := hr x hx; omega))
      rw [List.append_nil] at this
      rw [this, List.length_append]; rfl
    rw [e, hvd, hsp, k0]
    have e3 : List.range' (1 + 1) r.length = (List.range' 1 r.length).map (· + 1) := by
      have := List.map_add_range' (a := 1) 1 r.length 1
      rw [← this]
      refine List.map_congr_left fun x _ => by omega
    rw [e3, List.filter_map]
    congr 1
    refine List.filter_congr fun j hj => ?_
    rw [List.mem_range'_1] at hj
    obtain ⟨k, rfl⟩ : ∃ k, j = k + 1 := ⟨j - 1, by omega⟩
    show kidB (u :: v :: r) 1 (k + 1 + 1) = kidB (u :: r.map (lowerN 1)) 0 (k + 1)
    unfold kidB
    rw [List.getElem?_cons_succ, List.getElem?_cons_succ, List.getElem?_cons_succ, List.getElem?_map]
    cases r[k]? with
    | none => rfl
    | some x =>
      show (x.depth == 1 + 1) = (x.depth - 1 == 0 + 1)
      rw [Bool.eq_iff_iff]; simp; omega
  have kk : ∀ k, kidsL (u :: v :: r) (k + 2) = (kidsL (u :: r.map (lowerN 1)) (k + 1)).map (· + 1) := fun k => by
    rw [show k + 2 = 2 + k by omega, kidsL_drop (u :: v :: r) 2 k, show k + 1 = 1 + k by omega, kidsL_drop (u :: r.map (lowerN 1)) 1 k, List.map_map]
    have e1 : (u :: v :: r).drop 2 = r := rfl
    have e2 : (u :: r.map (lowerN 1)).drop 1 = r.map (lowerN 1) := rfl
    rw [e1, e2, kids_lower]
    refine List.map_congr_left fun x _ => by show 2 + x = 1 + x + 1; omega
  have kind : ∀ k, kindAt (u :: v :: r) (k + 2) = kindAt (u :: r.map (lowerN 1)) (k + 1) := fun k => by
    show kindAt r k = kindAt (r.map (lowerN 1)) k
    exact (kindAt_map (f := lowerN 1) (fun _ => rfl) r k).symm
  have hpos : ∀ i, ∀ j ∈ kidsL (u :: r.map (lowerN 1)) i, 0 < j := fun i j hj => by
    unfold kidsL at hj
    cases hx : (u :: r.map (lowerN 1))[i]? with
    | none => rw [hx] at hj; cases hj
    | some x =>
      rw [hx] at hj
      have := (List.mem_filter.1 hj).1
      rw [List.mem_range'_1] at this; omega
  refine ⟨⟨u, _, rfl, hu, fun x hx => ?_⟩, ?_, ?_⟩
  · obtain ⟨y, hy, rfl⟩ := List.mem_map.1 hx
    have := hr y hy
    show 0 < y.depth - 1; omega
  · rw [nodesErr, hn1, if_neg (by simp)]
    refine nodes_lower r _ ([] ++ [u] ++ [v]) ?_ (fun x hx => by have := hr x hx; omega) hn2
    rw [deepR_snoc, deepR_snoc, hk, hv, hu, hvd]; decide
  · refine List.all_eq_true.2 fun i hi => ?_
    have hil : i < (u :: v :: r).length - 1 := by have := List.mem_range.1 hi; simp at this ⊢; exact this
    have h1 := fits_at hf (i + 1) (by omega)
    cases i with
    | zero =>
      unfold kidsFitB at h1 ⊢
      rw [show (0 : Nat) + 1 = 1 from rfl, k1, List.length_map] at h1
      have e5 : kindAt (u :: r.map (lowerN 1)) 0 = 5 := hk
      have e7 : kindAt (u :: v :: r) 1 = 7 := hv
      rw [e7] at h1
      rw [e5]
      have a7 : kidsR 7 = (2, 6) := by decide
      have a5 : kidsR 5 = (1, 6) := by decide
      rw [a7] at h1
      rw [a5]
      simp only [Bool.and_eq_true, Bool.not_eq_true', decide_eq_false_iff_not, List.all_eq_true] at h1 ⊢
      refine ⟨⟨by omega, h1.1.2⟩, fun j hj => ?_⟩
      have h2 := h1.2 (j + 1) (List.mem_map_of_mem hj)
      obtain ⟨k, rfl⟩ : ∃ k, j = k + 1 := ⟨j - 1, by have := hpos 0 j hj; omega⟩
      rw [show k + 1 + 1 = k + 2 from rfl, kind k] at h2
      obtain ⟨_, q5, q7, q2⟩ := holds_bes h2
      unfold holdsB
      have b5 : (kindAt (u :: r.map (lowerN 1)) (k + 1) == 5) = false := by simpa using q5
      have b7 : (kindAt (u :: r.map (lowerN 1)) (k + 1) == 7) = false := by simpa using q7
      have b2 : (kindAt (u :: r.map (lowerN 1)) (k + 1) != 2) = true := by simpa using q2
      rw [b5, b7, b2]; rfl
    | succ k =>
      unfold kidsFitB at h1 ⊢
      rw [show k + 1 + 1 = k + 2 from rfl, kk k, List.length_map, kind k] at h1
      simp only [Bool.and_eq_true, Bool.not_eq_true', decide_eq_false_iff_not, List.all_eq_true] at h1 ⊢
      refine ⟨h1.1, fun j hj => ?_⟩
      have h2 := h1.2 (j + 1) (List.mem_map_of_mem hj)
      obtain ⟨q, rfl⟩ : ∃ q, j = q + 1 := ⟨j - 1, by have := hpos (k + 1) j hj; omega⟩
      rw [show q + 1 + 1 = q + 2 from rfl, kind q] at h2
      exact h2
theorem plainP_ok {l : Li} {g : List Nd} (h : GV l g) : GV l (plainP g) := by
  obtain ⟨u, r, rfl, hu, _⟩ := h.sgl
  rw [plainP_cons]
  split
  · rename_i h7
    exact plain_top h (by simpa using h7)
  · split
    · rename_i h5
      simp only [Bool.and_eq_true, beq_iff_eq] at h5
      cases r with
      | nil => exact absurd h5.2 (by simp [honB])
      | cons v t =>
        have hv : v.kind = 7 := by have := h5.2; simpa [honB] using this
        exact plain_ring h h5.1 hv
    · exact h
theorem plainP_twice {l : Li} {g : List Nd} (h : GV l g) : plainP (plainP g) = plainP g := by
  obtain ⟨u, r, rfl, hu, _⟩ := h.sgl
  rw [plainP_cons]
  split
  · rw [plainP_cons]; rfl
  · rename_i h7
    split
    · rename_i h5
      simp only [Bool.and_eq_true, beq_iff_eq] at h5
      cases r with
      | nil => exact absurd h5.2 (by simp [honB])
      | cons v t =>
        have hv : v.kind = 7 := by have := h5.2; simpa [honB] using this
        have hg := plain_ring h h5.1 hv
        rw [plainP_cons, if_neg h7]
        cases t with
        | nil => rw [if_neg (by simp [honB])]
        | cons x t =>
          have hx : x.kind ≠ 7 := by
            intro e
            have hr := ring_hon h h5.1 hv
            have hd : x.depth = 2 := by
              have h1 := (full_of h).rises 1 v x rfl rfl
              have h2 := hr.2.2.1 x (List.mem_cons_self ..)
              omega
            have hm : 2 ∈ kidsL (u :: v :: x :: t) 1 := by
              have hv1 : (u :: v :: x :: t)[1]? = some v := rfl
              refine (kids_iff hv1).2 ⟨by omega, by simp, ?_, fun q h1 h2 => ?_⟩
              · show x.depth = _; omega
              · rw [show q = 2 by omega]; show v.depth < x.depth; omega
            have h3 := fits_kid h.fits (i := 1) (by simp) hm
            have a : kindAt (u :: v :: x :: t) 1 = 7 := hv
            have b : kindAt (u :: v :: x :: t) 2 = 7 := e
            rw [a, b] at h3
            cases h3
          rw [if_neg]
          simp [honB]
          intro _
          exact hx
    · rename_i h5
      rw [plainP_cons, if_neg h7, if_neg h5]
theorem plain_groups (ns : List Nd) : ((partsN ns).map plainP).flatten = (partsW 0 ns).flatMap fun p => plainP p.2 := by
  unfold partsN
  rw [List.map_map, List.flatMap_def]; rfl
/- counting -/
/- the three texts -/
theorem flatT_is {l : Li} {ns : List Nd} (h : textErr l ns = 0) : regQ flatP l ns = (((partsN ns).flatMap flatGs).flatten, 0) := by
  unfold regQ
  rw [if_neg (by omega), flat_groups]
theorem plainT_is {l : Li} {ns : List Nd} (h : textErr l ns = 0) : regQ plainP l ns = (((partsN ns).map plainP).flatten, 0) := by
  unfold regQ
  rw [if_neg (by omega), plain_groups]
theorem flatten_le {f : List Nd → List Nd} (hf : ∀ l, (f l).length ≤ l.length) : ∀ G : List (List Nd), ((G.map f).flatten).length ≤ G.flatten.length
  | [] => Nat.le_refl _
  | g :: r => by
    have := hf g
    have := flatten_le hf r
    rw [List.map_cons, List.flatten_cons, List.flatten_cons, List.length_append, List.length_append]; omega
theorem plain_valid {l : Li} {ns : List Nd} (h : textErr l ns = 0) : textErr l ((partsN ns).map plainP).flatten = 0 := by
  obtain ⟨h1, h2, h3⟩ := valid_parts h
  refine valid_flat h1 ?_ (fun g hg => ?_)
  · have := flatten_le plainP_len (partsN ns)
    rw [partsN_all] at this; omega
  · obtain ⟨q, hq, rfl⟩ := List.mem_map.1 hg
    exact plainP_ok (h3 q hq)
/- twice -/
theorem plain_again {l : Li} {ns : List Nd} (h : textErr l ns = 0) : regQ plainP l ((partsN ns).map plainP).flatten = (((partsN ns).map plainP).flatten, 0) := by
  obtain ⟨_, _, h3⟩ := valid_parts h
  rw [plainT_is (plain_valid h), partsN_flat (fun g hg => by
    obtain ⟨q, hq, rfl⟩ := List.mem_map.1 hg
    exact (plainP_ok (h3 q hq)).sgl), List.map_map]
  congr 2
  exact List.map_congr_left fun g hg => plainP_twice (h3 g hg)
/- rings -/
end Go.Proofs.YtmiokllpdmmfhaaGreat
