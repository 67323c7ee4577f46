/-
  Texts and their groups: a text is valid if its groups are, each by itself. And what builds on it.
-/
import Derived.Test.YtcijomljopbelaaGreatGbA
import Derived.Test.YtcijomljopbelaaGreatGaH

/- Texts and their groups: a text is valid if its groups are, each by itself. -/
namespace Go.Proofs.YtcijomljopbelaaGreat

/-- a group by itself: its first node has depth 0, the others lie below it -/
def Sgl (g : List Nd) : Prop := ∃ u r, g = u :: r ∧ u.depth = 0 ∧ ∀ x ∈ r, 0 < x.depth
theorem Sgl.pos {g : List Nd} (h : Sgl g) : 0 < g.length := by obtain ⟨u, r, rfl, _⟩ := h; simp
theorem Sgl.head {g : List Nd} (h : Sgl g) (r : List Nd) : ∀ u, (g ++ r)[0]? = some u → u.depth ≤ 0 := by
  obtain ⟨u, t, rfl, hd, _⟩ := h
  intro x hx; simp at hx; subst hx; omega
theorem takeWhile_all {α : Type} (p : α → Bool) : ∀ (a b : List α), (∀ x ∈ a, p x = true) → (a ++ b).takeWhile p = a ++ b.takeWhile p
  | [], b, _ => rfl
  | x :: a, b, h => by
    rw [List.cons_append, List.takeWhile_cons, h x (List.mem_cons_self ..), if_pos rfl, takeWhile_all p a b (fun y hy => h y (List.mem_cons_of_mem _ hy))]; rfl
theorem span_sgl {g rest : List Nd} (h : Sgl g) (hr : ∀ u, rest[0]? = some u → u.depth ≤ 0) : 1 + spanN (g ++ rest) 0 0 = g.length := by
  obtain ⟨u, r, rfl, _, h2⟩ := h
  unfold spanN
  have e : ((u :: r ++ rest).drop (0 + 1)) = r ++ rest := rfl
  rw [e, takeWhile_all _ r rest (fun x hx => decide_eq_true (h2 x hx))]
  have e2 : rest.takeWhile (fun n => decide ((0 : Int) < n.depth)) = [] := by
    cases rest with
    | nil => rfl
    | cons v t =>
      have := hr v rfl
      rw [List.takeWhile_cons, if_neg (by simp; omega)]
  rw [e2]; simp; omega
theorem flat_head {G : List (List Nd)} (h : ∀ g ∈ G, Sgl g) : ∀ u, G.flatten[0]? = some u → u.depth ≤ 0 := by
  cases G with
  | nil => intro u hu; simp at hu
  | cons g r => rw [List.flatten_cons]; exact (h g (List.mem_cons_self ..)).head _
theorem partsW_flat : ∀ (G : List (List Nd)) (o : Nat), (∀ g ∈ G, Sgl g) → (partsW o G.flatten).map (·.2) = G
  | [], o, _ => by rw [List.flatten_nil, partsW_nil]; rfl
  | g :: r, o, h => by
    have hg := h g (List.mem_cons_self ..)
    have hr := fun x hx => h x (List.mem_cons_of_mem g hx)
    have hs := span_sgl hg (flat_head hr)
    obtain ⟨u, t, e, hu, _⟩ := hg
    have h0 : (g ++ r.flatten)[0]? = some u := by rw [e]; rfl
    rw [List.flatten_cons, partsW_at h0, hu, hs, List.map_cons, List.take_left, List.drop_left, partsW_flat r _ hr]
theorem partsN_flat {G : List (List Nd)} (h : ∀ g ∈ G, Sgl g) : partsN G.flatten = G := partsW_flat G 0 h
theorem parts_sgl {ns : List Nd} (hs : Shape ns) : ∀ g ∈ partsN ns, Sgl g := by
  intro g hg
  obtain ⟨p, hp, rfl⟩ := List.mem_map.1 hg
  obtain ⟨q, u, h1, h2, h3⟩ := partsW_grp ns.length 0 ns (Nat.le_refl _) p hp
  have hd : u.depth = 0 := by
    have : p.1 ∈ topsL ns := by rw [tops_is hs]; exact List.mem_map_of_mem hp
    obtain ⟨x, hx, hxd⟩ := tops_at this
    rw [List.getElem?_drop] at h2
    rw [show p.1 = q + 0 by omega, h2] at hx; injection hx with hx; subst hx; exact hxd
  cases hl : ns.drop q with
  | nil => rw [hl] at h2; cases h2
  | cons v r =>
    rw [hl] at h2 h3
    injection h2 with h2; subst h2
    rw [hd] at h3
    refine ⟨v, r.take (spanN (v :: r) 0 0), ?_, hd, ?_⟩
    · show p.2 = _
      rw [h3, Nat.add_comm, List.take_succ_cons]
    · intro x hx
      obtain ⟨k, hk⟩ := List.getElem?_of_mem hx
      rw [List.getElem?_take] at hk
      split at hk
      · rename_i hlt
        obtain ⟨y, hy, hyd⟩ := spanN_at hlt
        rw [show 0 + 1 + k = k + 1 by omega, List.getElem?_cons_succ, hk] at hy
        injection hy with hy; subst hy; exact hyd
      · cases hk
theorem partsN_app {ns ms : List Nd} (hn : Shape ns) (hm : Shape ms) : partsN (ns ++ ms) = partsN ns ++ partsN ms := by
  have e : ns ++ ms = (partsN ns ++ partsN ms).flatten := by rw [List.flatten_append, partsN_all, partsN_all]
  rw [e]
  refine partsN_flat fun g hg => ?_
  rcases List.mem_append.1 hg with h | h
  · exact parts_sgl hn g h
  · exact parts_sgl hm g h

/- validity -/
theorem nodesErr_app (l : Li) : ∀ (a b done : List Nd), nodesErr l done (a ++ b) = 0 ↔ nodesErr l done a = 0 ∧ nodesErr l (done ++ a) b = 0
  | [], b, done => by simp [nodesErr]
  | n :: a, b, done => by
    rw [List.cons_append, nodesErr, nodesErr]
    split
    · rename_i h; simp [h]
    · rw [nodesErr_app l a b (done ++ [n]), List.append_assoc]; rfl
theorem deepR_app {a g : List Nd} (h : g ≠ []) : deepR (a ++ g) = deepR g := by
  unfold deepR
  have h0 : 0 < g.length := List.length_pos_iff.2 h
  rw [List.length_append, List.getElem?_append_right (by omega), show a.length + g.length - 1 - a.length = g.length - 1 by omega]
theorem deepR_pos {a : List Nd} (h : ∀ x ∈ a, 0 ≤ x.depth) : 0 ≤ deepR a := by
  unfold deepR
  cases hx : a[a.length - 1]? with
  | none => simp
  | some x =>
    have := h x (List.mem_of_getElem? hx)
    dsimp only
    split
    · omega
    · split <;> omega
theorem nodeErr_app (l : Li) {a g : List Nd} (h : g ≠ []) (n : Nd) : nodeErr l (a ++ g) n = nodeErr l g n := by
  unfold nodeErr; rw [deepR_app h]
theorem nodesErr_shift (l : Li) {a : List Nd} : ∀ (b g : List Nd), g ≠ [] → nodesErr l (a ++ g) b = nodesErr l g b
  | [], g, _ => rfl
  | n :: b, g, h => by
    rw [nodesErr, nodesErr, nodeErr_app l h, List.append_assoc, nodesErr_shift l b (g ++ [n]) (by simp)]
theorem nodeErr_top (l : Li) {a : List Nd} (ha : ∀ x ∈ a, 0 ≤ x.depth) {u : Nd} (hu : u.depth = 0) : nodeErr l a u = nodeErr l [] u := by
  unfold nodeErr
  have h1 := deepR_pos ha
  have h2 : deepR [] = 0 := rfl
  rw [h2, hu]
  simp [show ¬ deepR a < 0 by omega]
theorem nodesErr_sgl (l : Li) {a g : List Nd} (ha : ∀ x ∈ a, 0 ≤ x.depth) (hg : Sgl g) : nodesErr l a g = nodesErr l [] g := by
  obtain ⟨u, r, rfl, hu, _⟩ := hg
  rw [nodesErr, nodesErr, nodeErr_top l ha hu, nodesErr_shift l r [u] (by simp), List.nil_append]
/-- a valid group -/
structure GV (l : Li) (g : List Nd) : Prop where
  sgl : Sgl g
  nodes : nodesErr l [] g = 0
  fits : fitsB g = true
theorem GV.depth {l : Li} {g : List Nd} (h : GV l g) : ∀ x ∈ g, 0 ≤ x.depth ∧ x.depth ≤ 4 := nodes_depth l g [] h.nodes (fun _ hx => by cases hx)
theorem flat_nodes {l : Li} : ∀ (G : List (List Nd)) (a : List Nd), (∀ x ∈ a, 0 ≤ x.depth ∧ x.depth ≤ 4) → (∀ g ∈ G, Sgl g) → (nodesErr l a G.flatten = 0 ↔ ∀ g ∈ G, nodesErr l [] g = 0)
  | [], a, _, _ => by simp [nodesErr]
  | g :: r, a, ha, h => by
    rw [List.flatten_cons, nodesErr_app, nodesErr_sgl l (fun x hx => (ha x hx).1) (h g (List.mem_cons_self ..))]
    constructor
    · rintro ⟨h1, h2⟩
      have hd := nodes_depth l g [] h1 (fun _ hx => by cases hx)
      have := (flat_nodes r (a ++ g) (fun x hx => by rcases List.mem_append.1 hx with hx | hx; exact ha x hx; exact hd x hx) (fun x hx => h x (List.mem_cons_of_mem _ hx))).1 h2
      intro x hx
      rcases List.mem_cons.1 hx with rfl | hx
      · exact h1
      · exact this x hx
    · intro hh
      have h1 := hh g (List.mem_cons_self ..)
      have hd := nodes_depth l g [] h1 (fun _ hx => by cases hx)
      exact ⟨h1, (flat_nodes r (a ++ g) (fun x hx => by rcases List.mem_append.1 hx with hx | hx; exact ha x hx; exact hd x hx) (fun x hx => h x (List.mem_cons_of_mem _ hx))).2 (fun x hx => hh x (List.mem_cons_of_mem _ hx))⟩
theorem parts_cover : ∀ (n o : Nat) (l : List Nd), l.length ≤ n → ∀ i, i < l.length → ∃ p ∈ partsW o l, ∃ j, j < p.2.length ∧ o + i = p.1 + j := by
  intro n
  induction n with
  | zero => intro o l hl i hi; omega
  | succ n ih =>
    intro o l hl i hi
    cases l with
    | nil => simp at hi
    | cons u r =>
      rw [partsW_cons]
      rcases Nat.lt_or_ge i (1 + spanN (u :: r) u.depth 0) with h | h
      · exact ⟨_, List.mem_cons_self .., i, by rw [List.length_take]; omega, rfl⟩
      · obtain ⟨p, hp, j, hj, e⟩ := ih (o + (1 + spanN (u :: r) u.depth 0)) ((u :: r).drop (1 + spanN (u :: r) u.depth 0)) (by simp at hl ⊢; omega) (i - (1 + spanN (u :: r) u.depth 0)) (by rw [List.length_drop]; omega)
        exact ⟨p, List.mem_cons_of_mem _ hp, j, hj, by omega⟩
theorem kind_grp {ns : List Nd} {p : Nat × List Nd} (hp : p ∈ partsW 0 ns) {i : Nat} (hi : i < p.2.length) : kindAt ns (p.1 + i) = kindAt p.2 i := by
  unfold kindAt getN; rw [node_grp hp hi]
theorem fit_grp {ns : List Nd} {p : Nat × List Nd} (hp : p ∈ partsW 0 ns) {i : Nat} (hi : i < p.2.length) : kidsFitB ns (p.1 + i) = kidsFitB p.2 i := by
  unfold kidsFitB
  rw [kids_grp hp hi, List.length_map, kind_grp hp hi, List.all_map]
  congr 1
  have hm : ∀ l : List Nat, (∀ j ∈ l, j < p.2.length) → l.all ((fun j => holdsB (kindAt p.2 i) (kindAt ns j) (kidsL p.2 i).length) ∘ fun j => p.1 + j) = l.all (fun j => holdsB (kindAt p.2 i) (kindAt p.2 j) (kidsL p.2 i).length) := by
    intro l
    induction l with
    | nil => intro _; rfl
    | cons a r ih =>
      intro h
      rw [List.all_cons, List.all_cons, ih (fun j hj => h j (List.mem_cons_of_mem _ hj))]
      show (holdsB _ (kindAt ns (p.1 + a)) _ && _) = _
      rw [kind_grp hp (h a (List.mem_cons_self ..))]
  exact hm _ (fun j hj => kids_lt hj)
theorem fits_parts {ns : List Nd} : fitsB ns = true ↔ ∀ g ∈ partsN ns, fitsB g = true := by
  constructor
  · intro h g hg
    obtain ⟨p, hp, rfl⟩ := List.mem_map.1 hg
    refine List.all_eq_true.2 fun i hi => ?_
    have hi : i < p.2.length := List.mem_range.1 hi
    show kidsFitB p.2 i = true
    rw [← fit_grp hp hi]
    have hlt : p.1 + i < ns.length := by
      have := node_grp hp hi
      rw [List.getElem?_eq_getElem hi] at this
      exact (List.getElem?_eq_some_iff.1 this).1
    exact fits_at h _ hlt
  · intro h
    refine List.all_eq_true.2 fun i hi => ?_
    have hi : i < ns.length := List.mem_range.1 hi
    obtain ⟨p, hp, j, hj, e⟩ := parts_cover ns.length 0 ns (Nat.le_refl _) i hi
    rw [show i = p.1 + j by omega, fit_grp hp hj]
    exact fits_at (h p.2 (List.mem_map_of_mem hp)) j hj
/-- a valid text has valid groups -/
theorem valid_parts {l : Li} {ns : List Nd} (h : textErr l ns = 0) : checkErr l = 0 ∧ ns.length ≤ 200 ∧ ∀ g ∈ partsN ns, GV l g := by
  obtain ⟨h1, h2, h3, h4, _⟩ := text_ok h
  have hs := parts_sgl (shape_of h)
  have h5 := (flat_nodes (l := l) (partsN ns) [] (fun _ hx => by cases hx) hs).1 (by rw [partsN_all]; exact h3)
  exact ⟨h1, h2, fun g hg => ⟨hs g hg, h5 g hg, fits_parts.1 h4 g hg⟩⟩
/-- a text of valid groups is valid -/
theorem valid_flat {l : Li} {G : List (List Nd)} (h1 : checkErr l = 0) (h2 : G.flatten.length ≤ 200) (h : ∀ g ∈ G, GV l g) : textErr l G.flatten = 0 := by
  have hs := fun g hg => (h g hg).sgl
  unfold textErr
  rw [if_neg (by omega), if_neg (by omega), (flat_nodes (l := l) G [] (fun _ hx => by cases hx) hs).2 (fun g hg => (h g hg).nodes), if_neg (by simp), fits_parts.2 (by rw [partsN_flat hs]; exact fun g hg => (h g hg).fits), if_pos rfl]

/- what a text with some groups replaced is -/
theorem spliceG (ns ms : List Nd) (f t : Nat) : spliceL ns ms f t = ((partsN ns).take f ++ partsN ms ++ (partsN ns).drop t).flatten := (splice_parts ns ms f t).symm
theorem splice_mem {ns ms : List Nd} {f t : Nat} {g : List Nd} (h : g ∈ (partsN ns).take f ++ partsN ms ++ (partsN ns).drop t) : g ∈ partsN ns ∨ g ∈ partsN ms := by
  rcases List.mem_append.1 h with h | h
  · rcases List.mem_append.1 h with h | h
    · exact .inl (List.mem_of_mem_take h)
    · exact .inr h
  · exact .inl (List.mem_of_mem_drop h)
theorem splice_valid {l : Li} {ns ms : List Nd} (hn : textErr l ns = 0) (hm : textErr l ms = 0) {f t : Nat} (h : (spliceL ns ms f t).length ≤ 200) : textErr l (spliceL ns ms f t) = 0 := by
  obtain ⟨h1, _, h3⟩ := valid_parts hn
  obtain ⟨_, _, h4⟩ := valid_parts hm
  rw [spliceG] at h ⊢
  exact valid_flat h1 h (fun g hg => by rcases splice_mem hg with h | h; exact h3 g h; exact h4 g h)
theorem splice_partsN {l : Li} {ns ms : List Nd} (hn : textErr l ns = 0) (hm : textErr l ms = 0) {f t : Nat} : partsN (spliceL ns ms f t) = (partsN ns).take f ++ partsN ms ++ (partsN ns).drop t := by
  rw [spliceG]
  refine partsN_flat fun g hg => ?_
  rcases splice_mem hg with h | h
  · exact parts_sgl (shape_of hn) g h
  · exact parts_sgl (shape_of hm) g h
/-- the line, by groups -/
def lineG (g : List Nd) : List Mk := (leavesL g).map markR
theorem lineR_parts (ns : List Nd) : lineR ns = (partsN ns).flatMap lineG := by
  unfold lineR partsN
  rw [List.flatMap_map]; rfl
theorem splice_line {l : Li} {ns ms : List Nd} (hn : textErr l ns = 0) (hm : textErr l ms = 0) {f t : Nat} : lineR (spliceL ns ms f t) = ((partsN ns).take f).flatMap lineG ++ lineR ms ++ ((partsN ns).drop t).flatMap lineG := by
  rw [lineR_parts, splice_partsN hn hm, List.flatMap_append, List.flatMap_append, ← lineR_parts]
theorem group_line {g : List Nd} (h : Sgl g) : lineR g = lineG g := by
  have := partsN_flat (G := [g]) (fun x hx => by simp at hx; subst hx; exact h)
  rw [lineR_parts, show g = [g].flatten by simp, this]; simp
theorem group_parts {g : List Nd} (h : Sgl g) : partsN g = [g] := by
  have := partsN_flat (G := [g]) (fun x hx => by simp at hx; subst hx; exact h)
  simpa using this
theorem group_valid {l : Li} {g : List Nd} (h1 : checkErr l = 0) (h2 : g.length ≤ 200) (h : GV l g) : textErr l g = 0 := by
  have := valid_flat (G := [g]) h1 (by simpa using h2) (fun x hx => by simp at hx; subst hx; exact h)
  simpa using this
theorem mem_len {G : List (List Nd)} {g : List Nd} (h : g ∈ G) : g.length ≤ G.flatten.length := by
  obtain ⟨a, b, rfl⟩ := List.append_of_mem h
  rw [List.flatten_append, List.flatten_cons]; simp; omega
theorem part_valid {l : Li} {ns : List Nd} (h : textErr l ns = 0) {g : List Nd} (hg : g ∈ partsN ns) : textErr l g = 0 := by
  obtain ⟨h1, h2, h3⟩ := valid_parts h
  have := mem_len hg
  rw [partsN_all] at this
  exact group_valid h1 (by omega) (h3 g hg)
/-- the groups taken out and put back in -/
theorem splice_back (ns : List Nd) {f t : Nat} (hf : f ≤ t) : spliceL ns (((partsN ns).take t).drop f).flatten f t = ns := by
  unfold spliceL
  rw [← List.flatten_append, ← List.flatten_append]
  have : (partsN ns).take f ++ ((partsN ns).take t).drop f ++ (partsN ns).drop t = partsN ns := by
    have e : (partsN ns).take f = ((partsN ns).take t).take f := by rw [List.take_take, Nat.min_eq_left hf]
    rw [e, List.take_append_drop, List.take_append_drop]
  rw [this, partsN_all]

end Go.Proofs.YtcijomljopbelaaGreat

/- The leaves of a group, read in order, are its leaves: none is lost, none comes twice. -/
namespace Go.Proofs.YtcijomljopbelaaGreat

theorem perm_flat {α β : Type} {f g : α → List β} : ∀ (l : List α), (∀ a ∈ l, (f a).Perm (g a)) → (l.flatMap f).Perm (l.flatMap g)
  | [], _ => .nil
  | a :: l, h => by
    rw [List.flatMap_cons, List.flatMap_cons]
    exact (h a (List.mem_cons_self ..)).append (perm_flat l fun b hb => h b (List.mem_cons_of_mem _ hb))
/-- the nodes below a node are its kids, each with what lies below it -/
theorem kids_seg (ns : List Nd) (d : Int) (b : Nat) (hb : b ≤ ns.length) (hend : ∀ u, ns[b]? = some u → u.depth ≤ d) : ∀ (n a : Nat), b - a ≤ n → a ≤ b → (∀ k, a ≤ k → k < b → ∃ u, ns[k]? = some u ∧ d < u.depth) → (∀ u, a < b → ns[a]? = some u → u.depth = d + 1) →
    ((List.range' a (b - a)).filter (kidB ns d)).flatMap (fun j => List.range' j (1 + spanN ns (d + 1) j)) = List.range' a (b - a)
  | 0, a, hn, hab, _, _ => by rw [show b - a = 0 by omega]; rfl
  | n + 1, a, hn, hab, hall, hfst => by
    rcases Nat.eq_or_lt_of_le hab with e | hlt
    · rw [show b - a = 0 by omega]; rfl
    obtain ⟨u, hu, hud⟩ := hall a (Nat.le_refl _) hlt
    have hue := hfst u hlt hu
    have hal : a < ns.length := by omega
    obtain ⟨s, hs⟩ : ∃ s, s = spanN ns (d + 1) a := ⟨_, rfl⟩
    have hsl := spanN_le ns (d + 1) a hal
    rw [← hs] at hsl
    have hsb : a + 1 + s ≤ b := by
      rcases Nat.lt_or_ge b (a + 1 + s) with h | h
      · exfalso
        obtain ⟨y, hy, hyd⟩ := spanN_at (ns := ns) (d := d + 1) (i := a) (k := b - (a + 1)) (by omega)
        rw [show a + 1 + (b - (a + 1)) = b by omega] at hy
        have := hend y hy; omega
      · exact h
    have e1 : List.range' a (b - a) = a :: (List.range' (a + 1) s ++ List.range' (a + 1 + s) (b - (a + 1 + s))) := by
      rw [show b - a = s + (b - (a + 1 + s)) + 1 by omega, List.range'_succ, List.range'_append_1]
    have e2 : (List.range' (a + 1) s).filter (kidB ns d) = [] := by
      refine List.filter_eq_nil_iff.2 fun j hj => ?_
      rw [List.mem_range'_1] at hj
      obtain ⟨y, hy, hyd⟩ := spanN_at (ns := ns) (d := d + 1) (i := a) (k := j - (a + 1)) (by omega)
      rw [show a + 1 + (j - (a + 1)) = j by omega] at hy
      unfold kidB; rw [hy]; simp; omega
    have e3 : kidB ns d a = true := by unfold kidB; rw [hu]; simp [hue]
    have ih := kids_seg ns d b hb hend n (a + 1 + s) (by omega) hsb (fun k h1 h2 => hall k (by omega) h2) (fun v hv hv2 => by
      rcases spanN_end ns (d + 1) a hal with h | ⟨y, hy, hyd⟩
      · omega
      · rw [← hs, hv2] at hy; injection hy with hy; subst hy
        obtain ⟨z, hz, hzd⟩ := hall (a + 1 + s) (by omega) hv
        rw [hv2] at hz; injection hz with hz; subst hz; omega)
    conv => lhs; rw [e1]
    rw [List.filter_cons, if_pos e3, List.filter_append, e2, List.nil_append, List.flatMap_cons, ih, ← hs, e1]
    rw [Nat.add_comm 1 s, List.range'_succ]; rfl
/-- what a text must have for its leaves to be all that it has -/
structure Full (ns : List Nd) : Prop where
  rises : Rises ns
  depth : ∀ x ∈ ns, 0 ≤ x.depth ∧ x.depth ≤ 4
  leaf : ∀ (i : Nat) (u : Nd), ns[i]? = some u → leafB u.kind = true → kidsL ns i = []
theorem leaf_kids {ns : List Nd} (h : fitsB ns = true) {i : Nat} {u : Nd} (hu : ns[i]? = some u) (hk : leafB u.kind = true) : kidsL ns i = [] := by
  have h1 := fits_at h i (List.getElem?_eq_some_iff.1 hu).1
  unfold kidsFitB at h1
  rw [kindAt_is hu] at h1
  simp only [Bool.and_eq_true, Bool.not_eq_true', decide_eq_false_iff_not] at h1
  have e : (kidsR u.kind).2 = 0 := by unfold kidsR; rw [if_pos hk]
  rw [e] at h1
  exact List.eq_nil_of_length_eq_zero (by omega)
theorem kids_fst {ns : List Nd} (hr : Rises ns) {i : Nat} {u v : Nd} (hu : ns[i]? = some u) (hv : ns[i + 1]? = some v) (hd : u.depth < v.depth) : v.depth = u.depth + 1 := by
  have := hr i u v hu hv; omega
theorem leaf_span {ns : List Nd} (h : Full ns) {i : Nat} {u : Nd} (hu : ns[i]? = some u) (hk : leafB u.kind = true) : spanN ns u.depth i = 0 := by
  rcases Nat.eq_zero_or_pos (spanN ns u.depth i) with h0 | h0
  · exact h0
  · exfalso
    obtain ⟨v, hv, hvd⟩ := spanN_at h0
    have hv : ns[i + 1]? = some v := hv
    have hk2 := h.leaf i u hu hk
    unfold kidsL at hk2
    rw [hu] at hk2
    have := List.filter_eq_nil_iff.1 hk2 (i + 1) (by rw [List.mem_range'_1]; omega)
    unfold kidB at this
    rw [hv] at this
    have e := kids_fst h.rises hu hv hvd
    simp [e] at this
theorem leaves_perm {ns : List Nd} (h : Full ns) : ∀ (f i : Nat) (u : Nd), ns[i]? = some u → 5 ≤ u.depth + f → (leavesF ns f i).Perm ((List.range' i (1 + spanN ns u.depth i)).filter (fun j => leafB (kindAt ns j)))
  | 0, i, u, hu, hf => by have := (h.depth u (List.mem_of_getElem? hu)).2; omega
  | f + 1, i, u, hu, hf => by
    rw [leavesF_at hu]
    have hil := (List.getElem?_eq_some_iff.1 hu).1
    cases hk : leafB u.kind with
    | true =>
      rw [leaf_span h hu hk]
      have : (List.range' i (1 + 0)).filter (fun j => leafB (kindAt ns j)) = [i] := by
        show List.filter _ [i] = _
        rw [List.filter_cons, if_pos (by rw [kindAt_is hu]; exact hk)]; rfl
      rw [this, if_pos rfl]
    | false =>
      rw [if_neg (by simp)]
      have hO : (kidsO ns i u.kind).Perm (kidsL ns i) := by
        unfold kidsO
        split
        · have := List.perm_append_comm (l₁ := (kidsL ns i).drop 1) (l₂ := (kidsL ns i).take 1)
          rw [List.take_append_drop] at this; exact this
        · exact .refl _
      refine (hO.flatMap_right _).trans ?_
      have hstep : ((kidsL ns i).flatMap (leavesF ns f)).Perm ((kidsL ns i).flatMap fun j => (List.range' j (1 + spanN ns (u.depth + 1) j)).filter (fun j => leafB (kindAt ns j))) := by
        refine perm_flat _ fun j hj => ?_
        obtain ⟨x, hx, hxd⟩ := kids_at hu hj
        have := leaves_perm h f j x hx (by omega)
        rw [hxd] at this; exact this
      refine hstep.trans ?_
      rw [← List.filter_flatMap]
      have hle := spanN_le ns u.depth i hil
      have hseg := kids_seg ns u.depth (i + 1 + spanN ns u.depth i) hle (fun y hy => by
        rcases spanN_end ns u.depth i hil with e | ⟨z, hz, hzd⟩
        · have := (List.getElem?_eq_some_iff.1 hy).1; omega
        · rw [hz] at hy; injection hy with hy; subst hy; exact hzd) (spanN ns u.depth i) (i + 1) (by omega) (by omega) (fun k h1 h2 => by
          obtain ⟨y, hy, hyd⟩ := spanN_at (ns := ns) (d := u.depth) (i := i) (k := k - (i + 1)) (by omega)
          rw [show i + 1 + (k - (i + 1)) = k by omega] at hy
          exact ⟨y, hy, hyd⟩) (fun y hlt hy => by
          obtain ⟨z, hz, hzd⟩ := spanN_at (ns := ns) (d := u.depth) (i := i) (k := 0) (by omega)
          rw [Nat.add_zero, hy] at hz; injection hz with hz; subst hz
          exact kids_fst h.rises hu hy hzd)
      rw [show i + 1 + spanN ns u.depth i - (i + 1) = spanN ns u.depth i by omega] at hseg
      have hkl : kidsL ns i = (List.range' (i + 1) (spanN ns u.depth i)).filter (kidB ns u.depth) := by unfold kidsL; rw [hu]
      rw [hkl, hseg, Nat.add_comm 1, List.range'_succ, List.filter_cons, if_neg (by rw [kindAt_is hu, hk]; simp)]
theorem full_of {l : Li} {g : List Nd} (h : GV l g) : Full g := by
  obtain ⟨h6, _, _, _⟩ := nodes_shape h.nodes
  exact ⟨h6, h.depth, fun i u hu hk => leaf_kids h.fits hu hk⟩
theorem map_getN (g : List Nd) : (List.range' 0 g.length).map (getN g) = g := by
  refine List.ext_getElem? fun k => ?_
  rw [List.getElem?_map]
  rcases Nat.lt_or_ge k g.length with h | h
  · rw [List.getElem?_range' (by simpa using h)]
    simp only [Option.map_some, Nat.one_mul, Nat.zero_add]
    unfold getN
    rw [List.getElem?_eq_getElem h]; rfl
  · rw [List.getElem?_eq_none (by simpa using h), List.getElem?_eq_none h]; rfl
def leafN (u : Nd) : Bool := leafB u.kind
/-- the leaves of a group as read are its leaves -/
theorem leaves_all {l : Li} {g : List Nd} (h : GV l g) : (leavesL g).Perm (g.filter leafN) := by
  obtain ⟨u, r, e, hu, _⟩ := h.sgl
  have h0 : g[0]? = some u := by rw [e]; rfl
  have hp := leaves_perm (full_of h) 5 0 u h0 (by omega)
  have hs := span_sgl (rest := []) h.sgl (fun u hu => by simp at hu)
  rw [List.append_nil] at hs
  rw [hu, hs] at hp
  have := hp.map (getN g)
  have e2 : ((List.range' 0 g.length).filter (fun j => leafB (kindAt g j))).map (getN g) = g.filter leafN := by
    have h3 : (fun j => leafB (kindAt g j)) = leafN ∘ getN g := rfl
    rw [h3, ← List.filter_map, map_getN]
  rw [e2] at this
  exact this
theorem leaves_leaf {l : Li} {g : List Nd} (h : GV l g) {x : Nd} (hx : x ∈ leavesL g) : x ∈ g ∧ leafB x.kind = true :=
  List.mem_filter.1 ((leaves_all h).subset hx)
/-- there is a leaf: the last node is one -/
theorem leaves_some {l : Li} {g : List Nd} (h : GV l g) : 0 < (leavesL g).length := by
  rw [(leaves_all h).length_eq]
  have hp := h.sgl.pos
  obtain ⟨u, hu⟩ : ∃ u, g[g.length - 1]? = some u := ⟨_, List.getElem?_eq_getElem (by omega)⟩
  have hk : kidsL g (g.length - 1) = [] := by
    unfold kidsL; rw [hu]
    have hs := spanN_le g u.depth (g.length - 1) (by omega)
    dsimp only
    rw [show spanN g u.depth (g.length - 1) = 0 by omega]; rfl
  have h1 := fits_low h.fits (i := g.length - 1) (by omega)
  rw [hk, kindAt_is hu] at h1
  have hl : leafB u.kind = true := by
    unfold kidsR at h1
    split at h1
    · assumption
    · split at h1
      · simp at h1
      · split at h1 <;> simp at h1
  exact List.length_pos_iff.2 (List.ne_nil_of_mem (List.mem_filter.2 ⟨List.mem_of_getElem? hu, hl⟩))

end Go.Proofs.YtcijomljopbelaaGreat

/- A flat text: its groups, their leaves; it is valid, and flat. -/
namespace Go.Proofs.YtcijomljopbelaaGreat

theorem kidsFit_leaf {u : Nd} (h : leafB u.kind = true) : fitsB [u] = true := by
  refine List.all_eq_true.2 fun i hi => ?_
  have hi : i = 0 := by have := List.mem_range.1 hi; simp at this; exact this
  subst hi
  have hk : kidsL [u] 0 = [] := rfl
  unfold kidsFitB
  rw [hk, show kindAt [u] 0 = u.kind from rfl]
  unfold kidsR
  rw [if_pos h]; rfl
/-- the error of a leaf by itself, wherever it stands -/
def leafErr (l : Li) (u : Nd) : Int := if u.kind = 1 then glyphErr l u else gapErr u
theorem node_leaf {l : Li} {a : List Nd} {u : Nd} (h : leafB u.kind = true) : nodeErr l a u = if u.depth < 0 ∨ deepR a < u.depth then 21 else leafErr l u := by
  have hk : u.kind = 1 ∨ u.kind = 6 := by unfold leafB at h; simpa using h
  unfold nodeErr leafErr
  rw [if_neg (by omega)]
  split
  · rfl
  · rcases hk with hk | hk
    · rw [if_pos hk, if_pos hk]
    · rw [if_neg (by omega), if_pos hk, if_neg (by omega)]
theorem nodes_leaf {l : Li} : ∀ (ns a : List Nd), nodesErr l a ns = 0 → ∀ u ∈ ns, leafB u.kind = true → leafErr l u = 0
  | [], _, _ => fun u hu => by cases hu
  | n :: r, a, h => by
    rw [nodesErr] at h
    split at h
    · rename_i h1; exact absurd h h1
    · rename_i h1
      intro u hu hk
      rcases List.mem_cons.1 hu with rfl | hu
      · have h1 : nodeErr l a u = 0 := by simpa using h1
        rw [node_leaf hk] at h1
        split at h1
        · omega
        · exact h1
      · exact nodes_leaf r _ h u hu hk
theorem leafErr_setD (l : Li) (d : Int) (u : Nd) : leafErr l (setD d u) = leafErr l u := rfl
/-- a leaf as a group -/
theorem leaf_group {l : Li} {u : Nd} (h : leafB u.kind = true) (h2 : leafErr l u = 0) : GV l [setD 0 u] := by
  refine ⟨⟨setD 0 u, [], rfl, rfl, fun x hx => by cases hx⟩, ?_, kidsFit_leaf (u := setD 0 u) h⟩
  have e : nodeErr l [] (setD 0 u) = 0 := by rw [node_leaf (u := setD 0 u) h, leafErr_setD, h2]; rfl
  rw [nodesErr, e, if_neg (by simp)]; rfl
theorem deepR_snoc (a : List Nd) (x : Nd) : deepR (a ++ [x]) = if leafB x.kind then x.depth else if x.depth + 1 ≤ 4 then x.depth + 1 else 4 := by
  rw [deepR_app (by simp)]; rfl
theorem nodes_ring {l : Li} : ∀ (ls a : List Nd), deepR a = 1 → (∀ u ∈ ls, leafB u.kind = true ∧ leafErr l u = 0) → nodesErr l a (ls.map (setD 1)) = 0
  | [], _, _, _ => rfl
  | u :: r, a, ha, h => by
    obtain ⟨h1, h2⟩ := h u (List.mem_cons_self ..)
    have hn : nodeErr l a (setD 1 u) = 0 := by
      rw [node_leaf (u := setD 1 u) h1, leafErr_setD, h2, ha]; rfl
    rw [List.map_cons, nodesErr, hn, if_neg (by simp)]
    refine nodes_ring r _ ?_ (fun x hx => h x (List.mem_cons_of_mem _ hx))
    rw [deepR_snoc, if_pos (show leafB (setD 1 u).kind = true from h1)]; rfl
theorem span_ring {u : Nd} {ls : List Nd} (h : ∀ x ∈ ls, x.depth = 1) : spanN (u :: ls) 0 0 = ls.length := by
  unfold spanN
  have e : (u :: ls).drop (0 + 1) = ls := rfl
  rw [e]
  have := takeWhile_all (fun n : Nd => decide ((0 : Int) < n.depth)) ls [] (fun x hx => by rw [h x hx]; rfl)
  rw [List.append_nil] at this
  rw [this]; simp
theorem kids_ring {u : Nd} {ls : List Nd} (hu : u.depth = 0) (h : ∀ x ∈ ls, x.depth = 1) : kidsL (u :: ls) 0 = List.range' 1 ls.length := by
  have e : kidsL (u :: ls) 0 = (List.range' (0 + 1) (spanN (u :: ls) u.depth 0)).filter (kidB (u :: ls) u.depth) := rfl
  rw [e, hu, span_ring h]
  refine List.filter_eq_self.2 fun j hj => ?_
  rw [List.mem_range'_1] at hj
  unfold kidB
  obtain ⟨k, rfl⟩ : ∃ k, j = k + 1 := ⟨j - 1, by omega⟩
  rw [List.getElem?_cons_succ, List.getElem?_eq_getElem (by omega)]
  have := h ls[k] (List.getElem_mem _)
  simp [this]
theorem kids_in_ring {u : Nd} {ls : List Nd} (h : ∀ x ∈ ls, x.depth = 1) (k : Nat) : kidsL (u :: ls) (k + 1) = [] := by
  unfold kidsL
  rw [List.getElem?_cons_succ]
  cases hx : ls[k]? with
  | none => rfl
  | some x =>
    have hs : spanN (u :: ls) x.depth (k + 1) = 0 := by
      rcases Nat.eq_zero_or_pos (spanN (u :: ls) x.depth (k + 1)) with h0 | h0
      · exact h0
      · obtain ⟨y, hy, hyd⟩ := spanN_at h0
        rw [show k + 1 + 1 + 0 = (k + 1) + 1 by omega, List.getElem?_cons_succ] at hy
        have := h y (List.mem_of_getElem? hy)
        have := h x (List.mem_of_getElem? hx)
        omega
    dsimp only
    rw [hs]; rfl
theorem flat_ring {l : Li} {u : Nd} {ls : List Nd} (hu : u.depth = 0) (hk : u.kind = 5) (hn : nodeErr l [] u = 0) (h1 : 0 < ls.length) (h6 : ls.length ≤ 6) (h : ∀ x ∈ ls, leafB x.kind = true ∧ leafErr l x = 0) : GV l (u :: ls.map (setD 1)) := by
  have hd : ∀ x ∈ ls.map (setD 1), x.depth = 1 := fun x hx => by
    obtain ⟨y, _, rfl⟩ := List.mem_map.1 hx; rfl
  refine ⟨⟨u, _, rfl, hu, fun x hx => by rw [hd x hx]; decide⟩, ?_, ?_⟩
  · rw [nodesErr, hn, if_neg (by simp)]
    refine nodes_ring ls _ ?_ h
    rw [deepR_snoc, hk, hu]; rfl
  · refine List.all_eq_true.2 fun i hi => ?_
    cases i with
    | zero =>
      unfold kidsFitB
      rw [kids_ring hu hd, show kindAt (u :: ls.map (setD 1)) 0 = u.kind from rfl, hk, List.length_range', List.length_map]
      have e : kidsR 5 = (1, 6) := by decide
      rw [e]
      simp only [Bool.and_eq_true, Bool.not_eq_true', decide_eq_false_iff_not, List.all_eq_true]
      refine ⟨⟨by omega, by omega⟩, fun j hj => ?_⟩
      rw [List.mem_range'_1] at hj
      obtain ⟨k, rfl⟩ : ∃ k, j = k + 1 := ⟨j - 1, by omega⟩
      have hx : (u :: ls.map (setD 1))[k + 1]? = some (setD 1 (ls[k]'(by omega))) := by
        rw [List.getElem?_cons_succ, List.getElem?_map, List.getElem?_eq_getElem (by omega)]; rfl
      rw [kindAt_is hx]
      have hb := (h _ (List.getElem_mem (by omega : k < ls.length))).1
      have hk2 : (ls[k]'(by omega)).kind = 1 ∨ (ls[k]'(by omega)).kind = 6 := by unfold leafB at hb; simpa using hb
      show holdsB 5 (ls[k]'(by omega)).kind _ = true
      unfold holdsB
      rcases hk2 with e | e <;> rw [e] <;> rfl
    | succ k =>
      have hk2 : k < ls.length := by have := List.mem_range.1 hi; simp at this; omega
      have hx : (u :: ls.map (setD 1))[k + 1]? = some (setD 1 ls[k]) := by
        rw [List.getElem?_cons_succ, List.getElem?_map, List.getElem?_eq_getElem hk2]; rfl
      unfold kidsFitB
      rw [kids_in_ring hd k, kindAt_is hx]
      have hb : leafB (setD 1 ls[k]).kind = true := (h _ (List.getElem_mem hk2)).1
      unfold kidsR
      rw [if_pos hb]; rfl
/-- the groups of what becomes of a group -/
def flatGs (g : List Nd) : List (List Nd) := match g with
  | [] => []
  | u :: _ => if u.kind == 5 && decide ((leavesL g).length ≤ 6) then [u :: (leavesL g).map (setD 1)] else (leavesL g).map fun x => [setD 0 x]
theorem flatten_one {α β : Type} (f : α → β) (l : List α) : (l.map fun x => [f x]).flatten = l.map f := by
  induction l with
  | nil => rfl
  | cons a r ih => rw [List.map_cons, List.flatten_cons, ih]; rfl
theorem flatGs_flat (g : List Nd) : (flatGs g).flatten = flatP g := by
  unfold flatGs flatP
  cases g with
  | nil => rfl
  | cons u r =>
    dsimp only
    split
    · simp
    · exact flatten_one _ _
theorem flatGs_ok {l : Li} {g : List Nd} (h : GV l g) : ∀ q ∈ flatGs g, GV l q := by
  intro q hq
  have hlf : ∀ x ∈ leavesL g, leafB x.kind = true ∧ leafErr l x = 0 := fun x hx => by
    obtain ⟨h1, h2⟩ := leaves_leaf h hx
    exact ⟨h2, nodes_leaf g [] h.nodes x h1 h2⟩
  have hs := leaves_some h
  obtain ⟨u, r, rfl, hu, _⟩ := h.sgl
  have hn := h.nodes
  rw [nodesErr] at hn
  have hn1 : nodeErr l [] u = 0 := by
    split at hn
    · rename_i h1; exact absurd hn h1
    · rename_i h1; simpa using h1
  unfold flatGs at hq
  dsimp only at hq
  split at hq
  · rename_i hc
    simp only [Bool.and_eq_true, beq_iff_eq, decide_eq_true_eq] at hc
    rw [List.mem_singleton] at hq
    subst hq
    exact flat_ring hu hc.1 hn1 hs hc.2 hlf
  · obtain ⟨x, hx, rfl⟩ := List.mem_map.1 hq
    exact leaf_group (hlf x hx).1 (hlf x hx).2
/-- a flat text, by its groups -/
theorem flat_groups (ns : List Nd) : ((partsN ns).flatMap flatGs).flatten = (partsW 0 ns).flatMap fun p => flatP p.2 := by
  unfold partsN
  rw [List.flatMap_map]
  generalize partsW 0 ns = ps
  induction ps with
  | nil => rfl
  | cons p r ih => rw [List.flatMap_cons, List.flatMap_cons, List.flatten_append, ih, flatGs_flat]
/-- leaves of leaves -/
theorem leaves_one {u : Nd} (h : leafB u.kind = true) : leavesL [u] = [u] := by
  unfold leavesL
  rw [leavesF_at (u := u) rfl, if_pos h]; rfl
theorem leaves_ring {u : Nd} {ls : List Nd} (hk : u.kind = 5) (hu : u.depth = 0) (hd : ∀ x ∈ ls, x.depth = 1) (hl : ∀ x ∈ ls, leafB x.kind = true) : leavesL (u :: ls) = ls := by
  unfold leavesL
  have hkO : kidsO (u :: ls) 0 u.kind = List.range' 1 ls.length := by
    unfold kidsO
    rw [if_neg (by omega), kids_ring hu hd]
  rw [leavesF_at (u := u) rfl, if_neg (by rw [hk]; decide), hkO]
  have h1 : ∀ js : List Nat, (∀ j ∈ js, 1 ≤ j ∧ j < 1 + ls.length) → js.flatMap (leavesF (u :: ls) 4) = js := by
    intro js
    induction js with
    | nil => intro _; rfl
    | cons j r ih =>
      intro hj
      obtain ⟨k, rfl⟩ : ∃ k, j = k + 1 := ⟨j - 1, by have := hj j (List.mem_cons_self ..); omega⟩
      have hk2 : k < ls.length := by have := hj (k + 1) (List.mem_cons_self ..); omega
      have hx : (u :: ls)[k + 1]? = some ls[k] := by rw [List.getElem?_cons_succ, List.getElem?_eq_getElem hk2]
      rw [List.flatMap_cons, leavesF_at hx, if_pos (hl _ (List.getElem_mem hk2)), ih (fun j hj2 => hj j (List.mem_cons_of_mem _ hj2))]; rfl
  rw [h1 _ (fun j hj => by rw [List.mem_range'_1] at hj; exact hj)]
  have h2 := map_getN (u :: ls)
  rw [show (u :: ls).length = ls.length + 1 from rfl, List.range'_succ, List.map_cons] at h2
  injection h2
theorem setD_twice (a b : Int) (u : Nd) : setD a (setD b u) = setD a u := rfl
/-- the leaves of the groups of what becomes of a group -/
theorem flatGs_leaves {l : Li} {g : List Nd} (h : GV l g) : (flatGs g).flatMap (fun q => (leavesL q).map (setD 0)) = (leavesL g).map (setD 0) := by
  have hlf : ∀ x ∈ leavesL g, leafB x.kind = true := fun x hx => (leaves_leaf h hx).2
  obtain ⟨u, r, rfl, hu, _⟩ := h.sgl
  unfold flatGs
  dsimp only
  split
  · rename_i hc
    simp only [Bool.and_eq_true, beq_iff_eq, decide_eq_true_eq] at hc
    rw [List.flatMap_cons, List.flatMap_nil, List.append_nil, leaves_ring hc.1 hu, List.map_map]
    · rfl
    · intro x hx; obtain ⟨y, _, rfl⟩ := List.mem_map.1 hx; rfl
    · intro x hx; obtain ⟨y, hy, rfl⟩ := List.mem_map.1 hx; exact hlf y hy
  · rw [List.flatMap_map]
    generalize leavesL (u :: r) = ls at hlf
    induction ls with
    | nil => rfl
    | cons x t ih =>
      rw [List.flatMap_cons, ih (fun y hy => hlf y (List.mem_cons_of_mem _ hy)), leaves_one (u := setD 0 x) (hlf x (List.mem_cons_self ..))]; rfl
theorem markR_setD (d : Int) (u : Nd) : markR (setD d u) = markR u := rfl
theorem mark_map0 (ls : List Nd) : (ls.map (setD 0)).map markR = ls.map markR := by rw [List.map_map]; rfl
theorem flatGs_line {l : Li} {g : List Nd} (h : GV l g) : (flatGs g).flatMap lineG = lineG g := by
  have h1 := congrArg (List.map markR) (flatGs_leaves h)
  rw [mark_map0, List.map_flatMap] at h1
  show (flatGs g).flatMap (fun q => (leavesL q).map markR) = (leavesL g).map markR
  rw [← h1]
  congr 1
  funext q
  exact (mark_map0 _).symm
/-- flat again -/
theorem flatGs_again {l : Li} {g : List Nd} (h : GV l g) : (flatGs g).flatMap flatGs = flatGs g := by
  have hlf : ∀ x ∈ leavesL g, leafB x.kind = true := fun x hx => (leaves_leaf h hx).2
  obtain ⟨u, r, rfl, hu, _⟩ := h.sgl
  conv => lhs; unfold flatGs
  conv => rhs; unfold flatGs
  dsimp only
  split
  · rename_i hc
    simp only [Bool.and_eq_true, beq_iff_eq, decide_eq_true_eq] at hc
    have e := leaves_ring (ls := (leavesL (u :: r)).map (setD 1)) hc.1 hu (by
      intro x hx; obtain ⟨y, _, rfl⟩ := List.mem_map.1 hx; rfl) (by
      intro x hx; obtain ⟨y, hy, rfl⟩ := List.mem_map.1 hx; exact hlf y hy)
    rw [List.flatMap_cons, List.flatMap_nil, List.append_nil]
    dsimp only
    rw [e, hc.1, List.length_map, if_pos (by simp [hc.2]), List.map_map]
    rfl
  · rename_i hc
    rw [List.flatMap_map]
    generalize leavesL (u :: r) = ls at hlf
    induction ls with
    | nil => rfl
    | cons x t ih =>
      have hx := hlf x (List.mem_cons_self ..)
      have hk : (setD 0 x).kind ≠ 5 := by
        intro e
        have e : x.kind = 5 := e
        rw [e] at hx; cases hx
      rw [List.flatMap_cons, List.map_cons, ih (fun y hy => hlf y (List.mem_cons_of_mem _ hy))]
      have h5 : ((setD 0 x).kind == 5) = false := by simpa using hk
      dsimp only
      rw [h5, leaves_one (u := setD 0 x) hx]
      rfl
theorem flatGs_map {G : List (List Nd)} {l : Li} (h : ∀ g ∈ G, GV l g) : ((G.flatMap flatGs).flatMap flatGs) = G.flatMap flatGs := by
  induction G with
  | nil => rfl
  | cons g r ih => rw [List.flatMap_cons, List.flatMap_append, flatGs_again (h g (List.mem_cons_self ..)), ih (fun x hx => h x (List.mem_cons_of_mem _ hx))]

end Go.Proofs.YtcijomljopbelaaGreat

/- A plain text and a mirrored one: they are valid, and keep their leaves. -/
namespace Go.Proofs.YtcijomljopbelaaGreat

/- kids hang on depths alone -/
theorem span_map (ns : List Nd) (d : Int) (i : Nat) : spanN ns d i = (((ns.map Nd.depth).drop (i + 1)).takeWhile fun x => decide (d < x)).length := by
  unfold spanN
  rw [← List.map_drop, List.takeWhile_map, List.length_map]; rfl
theorem kidB_map (ns : List Nd) (d : Int) (j : Nat) : kidB ns d j = ((ns.map Nd.depth)[j]?).any fun x => x == d + 1 := by
  unfold kidB
  rw [List.getElem?_map]
  cases ns[j]? <;> rfl
theorem kids_depth {ns ms : List Nd} (h : ns.map Nd.depth = ms.map Nd.depth) (i : Nat) : kidsL ns i = kidsL ms i := by
  have hi : (ns[i]?).map Nd.depth = (ms[i]?).map Nd.depth := by rw [← List.getElem?_map, ← List.getElem?_map, h]
  unfold kidsL
  cases hn : ns[i]? with
  | none =>
    rw [hn] at hi
    cases hm : ms[i]? with
    | none => rfl
    | some v => rw [hm] at hi; cases hi
  | some u =>
    rw [hn] at hi
    cases hm : ms[i]? with
    | none => rw [hm] at hi; cases hi
    | some v =>
      rw [hm] at hi
      injection hi with hi
      dsimp only
      rw [hi, span_map, span_map, h]
      refine List.filter_congr fun j _ => ?_
      rw [kidB_map, kidB_map, h]
/-- the kids of nodes that lie deeper by some -/
theorem kids_lower (ns : List Nd) (e : Int) (i : Nat) : kidsL (ns.map (lowerN e)) i = kidsL ns i := by
  unfold kidsL
  rw [List.getElem?_map]
  cases hn : ns[i]? with
  | none => rfl
  | some u =>
    simp only [Option.map_some]
    have e1 : spanN (ns.map (lowerN e)) (lowerN e u).depth i = spanN ns u.depth i := by
      unfold spanN
      rw [← List.map_drop, List.takeWhile_map, List.length_map]
      congr 2
      funext x
      show decide (u.depth - e < x.depth - e) = decide (u.depth < x.depth)
      rw [decide_eq_decide]; omega
    rw [e1]
    refine List.filter_congr fun j _ => ?_
    unfold kidB
    rw [List.getElem?_map]
    cases ns[j]? with
    | none => rfl
    | some x =>
      show ((x.depth - e) == u.depth - e + 1) = (x.depth == u.depth + 1)
      rw [Bool.eq_iff_iff]; simp; omega

/- mirrored -/
theorem flip_kind (l : Li) (u : Nd) : (flipN l u).kind = u.kind := by unfold flipN; split <;> rfl
theorem flip_depth (l : Li) (u : Nd) : (flipN l u).depth = u.depth := by unfold flipN; split <;> rfl
theorem flip_sign (l : Li) (u : Nd) : (flipN l u).sign = u.sign := by unfold flipN; split <;> rfl
theorem flip_twice (l : Li) (u : Nd) : flipN l (flipN l u) = u := by
  unfold flipN
  cases h : (u.kind == 1 && !evenB l u) with
  | false => simp only [h, Bool.false_eq_true, if_false]
  | true =>
    rw [if_pos rfl]
    have h2 : (u.mir.kind == 1 && !evenB l u.mir) = true := h
    rw [h2, if_pos rfl]
    obtain ⟨a, b, c, d, m, f, g, k⟩ := u
    simp [Nd.mir]
theorem glyph_flip {l : Li} {u : Nd} (h : glyphErr l u = 0) (hk : u.kind = 1) : glyphErr l (flipN l u) = 0 := by
  unfold flipN
  cases he : evenB l u with
  | true => rw [if_neg (by simp)]; exact h
  | false =>
    rw [hk, if_pos (by simp)]
    have he2 : (l.signs[u.sign.toNat]?.any (·.even)) = false := he
    unfold glyphErr at h ⊢
    show (if u.sign < 0 ∨ (l.signs.length : Int) ≤ u.sign then 23 else if u.turn < 0 ∨ 3 < u.turn ∨ u.state < 0 ∨ 3 < u.state then 20 else if (!u.mirror) && (l.signs[u.sign.toNat]?.any (·.even)) then 20 else if u.min = 0 ∧ u.max = 0 then 0 else 20) = (0 : Int)
    rw [he2] at h ⊢
    simp only [Bool.and_false, Bool.false_eq_true, if_false] at h ⊢
    exact h
theorem deepR_map {f : Nd → Nd} (hk : ∀ u, (f u).kind = u.kind) (hd : ∀ u, (f u).depth = u.depth) (a : List Nd) : deepR (a.map f) = deepR a := by
  unfold deepR
  rw [List.length_map, List.getElem?_map]
  cases a[a.length - 1]? with
  | none => rfl
  | some x =>
    simp only [Option.map_some]
    rw [hk, hd]
theorem node_flip {l : Li} {a : List Nd} {u : Nd} (h : nodeErr l a u = 0) : nodeErr l (a.map (flipN l)) (flipN l u) = 0 := by
  unfold nodeErr at h ⊢
  rw [deepR_map (flip_kind l) (flip_depth l), flip_kind, flip_depth]
  split at h
  · omega
  rename_i h1
  rw [if_neg h1]
  split at h
  · omega
  rename_i h2
  rw [if_neg h2]
  split at h
  · rename_i h3
    rw [if_pos h3]; exact glyph_flip h h3
  · rename_i h3
    rw [if_neg h3]
    have e : flipN l u = u := by unfold flipN; rw [if_neg (by simp [h3])]
    rw [e]; exact h
theorem nodes_flip {l : Li} : ∀ (ns a : List Nd), nodesErr l a ns = 0 → nodesErr l (a.map (flipN l)) (ns.map (flipN l)) = 0
  | [], _, _ => rfl
  | n :: r, a, h => by
    rw [nodesErr] at h
    split at h
    · rename_i h1; exact absurd h h1
    · rename_i h1
      rw [List.map_cons, nodesErr, node_flip (by simpa using h1), if_neg (by simp)]
      have := nodes_flip r (a ++ [n]) h
      rw [List.map_append] at this; exact this
theorem kindAt_map {f : Nd → Nd} (hk : ∀ u, (f u).kind = u.kind) (ns : List Nd) (j : Nat) : kindAt (ns.map f) j = kindAt ns j := by
  unfold kindAt getN
  rw [List.getElem?_map]
  cases ns[j]? with
  | none => rfl
  | some u => exact hk u
theorem fits_map {f : Nd → Nd} (hk : ∀ u, (f u).kind = u.kind) (hd : ∀ u, (f u).depth = u.depth) (ns : List Nd) : fitsB (ns.map f) = fitsB ns := by
  unfold fitsB
  rw [List.length_map]
  congr 1
  funext i
  have e : kidsL (ns.map f) i = kidsL ns i := kids_depth (by rw [List.map_map]; congr 1; funext u; exact hd u) i
  unfold kidsFitB
  rw [e, kindAt_map hk]
  congr 2
  funext j
  rw [kindAt_map hk]
theorem mirror_valid {l : Li} {ns : List Nd} (h : textErr l ns = 0) : textErr l (ns.map (flipN l)) = 0 := by
  obtain ⟨h1, h2, h3, h4, _⟩ := text_ok h
  unfold textErr
  have h5 : nodesErr l [] (ns.map (flipN l)) = 0 := nodes_flip ns [] h3
  rw [List.length_map, if_neg (by omega), if_neg (by omega), h5, if_neg (by simp), fits_map (flip_kind l) (flip_depth l), if_pos h4]
theorem mirror_twice (l : Li) (ns : List Nd) : (ns.map (flipN l)).map (flipN l) = ns := by
  rw [List.map_map]
  have : flipN l ∘ flipN l = id := by funext u; exact flip_twice l u
  rw [this, List.map_id]

/- plain -/
theorem holds_bes {kid n : Int} (h : holdsB 7 kid n = true) : holdsB 2 kid n = true ∧ kid ≠ 5 ∧ kid ≠ 7 ∧ kid ≠ 2 := by
  unfold holdsB at h
  have h5 : kid ≠ 5 := by intro e; rw [e] at h; cases h
  have h7 : kid ≠ 7 := by intro e; rw [e] at h; cases h
  have b5 : (kid == 5) = false := by simpa using h5
  have b7 : (kid == 7) = false := by simpa using h7
  rw [b5, b7] at h
  have h : (kid != 2) = true := h
  refine ⟨?_, h5, h7, by simpa using h⟩
  unfold holdsB
  rw [b5, b7]; exact h
/-- an honour as a group becomes a beside -/
theorem plain_top {l : Li} {u : Nd} {r : List Nd} (h : GV l (u :: r)) (hk : u.kind = 7) : GV l (u.atK 2 :: r) := by
  obtain ⟨⟨u', r', e, hu, hr⟩, hn, hf⟩ := h
  injection e with e1 e2
  subst e1 e2
  refine ⟨⟨_, _, rfl, hu, hr⟩, ?_, ?_⟩
  · rw [nodesErr] at hn ⊢
    split at hn
    · rename_i h1; exact absurd hn h1
    · rename_i h1
      have h1 : nodeErr l [] u = 0 := by simpa using h1
      have h2 : nodeErr l [] (u.atK 2) = 0 := by
        unfold nodeErr at h1 ⊢
        rw [hk] at h1
        show (if (2 : Int) < 1 ∨ (7 : Int) < 2 then 20 else if u.depth < 0 ∨ deepR [] < u.depth then 21 else if (2 : Int) = 1 then glyphErr l (u.atK 2) else if (2 : Int) = 6 then gapErr (u.atK 2) else plainErr u) = 0
        rw [if_neg (by omega)] at h1 ⊢
        split at h1
        · omega
        · rename_i h3
          rw [if_neg h3, if_neg (by omega), if_neg (by omega)]
          rw [if_neg (by omega), if_neg (by omega)] at h1
          exact h1
      rw [h2, if_neg (by simp)]
      have e : ∀ (b : List Nd), deepR ([] ++ [u.atK 2] ++ b) = deepR ([] ++ [u] ++ b) := by
        intro b
        cases b with
        | nil =>
          simp only [List.append_nil]
          rw [deepR_snoc, deepR_snoc, hk]; rfl
        | cons x t => rw [deepR_app (by simp), deepR_app (by simp)]
      have e2 : ∀ (b t : List Nd), nodesErr l ([] ++ [u.atK 2] ++ b) t = nodesErr l ([] ++ [u] ++ b) t := by
        intro b t
        induction t generalizing b with
        | nil => rfl
        | cons x t ih =>
          have e3 : nodeErr l ([] ++ [u.atK 2] ++ b) x = nodeErr l ([] ++ [u] ++ b) x := by unfold nodeErr; rw [e]
          rw [nodesErr, nodesErr, e3, List.append_assoc ([] ++ [u.atK 2]), List.append_assoc ([] ++ [u]), ih]
      have := e2 [] r
      rw [List.append_nil, List.append_nil] at this
      rw [this]; exact hn
  · refine List.all_eq_true.2 fun i hi => ?_
    have hi2 : i < (u :: r).length := by have := List.mem_range.1 hi; simpa using this
    have h1 := fits_at hf i hi2
    have e : kidsL (u.atK 2 :: r) i = kidsL (u :: r) i := kids_depth (ns := u.atK 2 :: r) (ms := u :: r) rfl i
    have ek : ∀ j, 0 < j → kindAt (u.atK 2 :: r) j = kindAt (u :: r) j := fun j hj => by
      obtain ⟨k, rfl⟩ : ∃ k, j = k + 1 := ⟨j - 1, by omega⟩
      rfl
    have hpos : ∀ j ∈ kidsL (u :: r) i, 0 < j := fun j hj => by
      unfold kidsL at hj
      obtain ⟨x, hx⟩ : ∃ x, (u :: r)[i]? = some x := ⟨_, List.getElem?_eq_getElem hi2⟩
      rw [hx] at hj
      have := (List.mem_filter.1 hj).1
      rw [List.mem_range'_1] at this; omega
    unfold kidsFitB at h1 ⊢
    rw [e]
    simp only [Bool.and_eq_true, Bool.not_eq_true', decide_eq_false_iff_not, List.all_eq_true] at h1 ⊢
    cases i with
    | zero =>
      have k0 : kindAt (u :: r) 0 = 7 := hk
      have k1 : kindAt (u.atK 2 :: r) 0 = 2 := rfl
      rw [k0] at h1
      rw [k1]
      have e7 : kidsR 7 = (2, 6) := by decide
      have e2 : kidsR 2 = (2, 6) := by decide
      rw [e7] at h1
      rw [e2]
      refine ⟨h1.1, fun j hj => ?_⟩
      have := h1.2 j hj
      rw [ek j (hpos j hj)]
      exact (holds_bes this).1
    | succ k =>
      rw [ek (k + 1) (by omega)]
      refine ⟨h1.1, fun j hj => ?_⟩
      rw [ek j (hpos j hj)]
      exact h1.2 j hj
/-- what a ring with an honour is -/
theorem ring_hon {l : Li} {u v : Nd} {r : List Nd} (h : GV l (u :: v :: r)) (hk : u.kind = 5) (hv : v.kind = 7) : u.depth = 0 ∧ v.depth = 1 ∧ (∀ x ∈ r, 2 ≤ x.depth) ∧ kidsL (u :: v :: r) 0 = [1] := by
  have hu : u.depth = 0 := by obtain ⟨x, y, e, h0, _⟩ := h.sgl; injection e with e1 e2; subst e1; exact h0
  have hpos : ∀ x ∈ v :: r, 0 < x.depth := by obtain ⟨x, y, e, _, h0⟩ := h.sgl; injection e with e1 e2; subst e2; exact h0
  have hfu := full_of h
  have hvd : v.depth = 1 := by
    have h1 := hfu.rises 0 u v rfl rfl
    have h2 := hpos v (List.mem_cons_self ..)
    omega
  have hsp : spanN (u :: v :: r) 0 0 = (v :: r).length := by
    unfold spanN
    have e : (u :: v :: r).drop (0 + 1) = v :: r := rfl
    rw [e]
    have := takeWhile_all (fun n : Nd => decide ((0 : Int) < n.depth)) (v :: r) [] (fun x hx => decide_eq_true (hpos x hx))
    rw [List.append_nil] at this
    rw [this]; simp
  have hkl : kidsL (u :: v :: r) 0 = (List.range' 1 (v :: r).length).filter (kidB (u :: v :: r) 0) := by
    have e : kidsL (u :: v :: r) 0 = (List.range' (0 + 1) (spanN (u :: v :: r) u.depth 0)).filter (kidB (u :: v :: r) u.depth) := rfl
    rw [e, hu, hsp]
  have h1 : (1 : Nat) ∈ kidsL (u :: v :: r) 0 := by
    rw [hkl]
    refine List.mem_filter.2 ⟨by rw [List.mem_range'_1]; simp, ?_⟩
    show (some v).any (fun u => u.depth == 0 + 1) = true
    simp [hvd]
  have h2 := fits_kid h.fits (i := 0) (by simp) h1
  have h3 : kindAt (u :: v :: r) 0 = 5 := hk
  have h4 : kindAt (u :: v :: r) 1 = 7 := hv
  rw [h3, h4] at h2
  have h5 : (kidsL (u :: v :: r) 0).length = 1 := by
    unfold holdsB at h2
    simp at h2
    omega
  obtain ⟨z, hz⟩ := List.length_eq_one_iff.1 h5
  rw [hz] at h1
  have hz1 : z = 1 := by simp at h1; omega
  rw [hz1] at hz
  refine ⟨hu, hvd, fun x hx => ?_, hz⟩
  have hx0 := hpos x (List.mem_cons_of_mem _ hx)
  rcases Int.lt_or_le x.depth 2 with hlt | hge
  · exfalso
    obtain ⟨k, hk2⟩ := List.getElem?_of_mem hx
    have hkl2 := (List.getElem?_eq_some_iff.1 hk2).1
    have hm : k + 2 ∈ kidsL (u :: v :: r) 0 := by
      rw [hkl]
      refine List.mem_filter.2 ⟨by rw [List.mem_range'_1, List.length_cons]; omega, ?_⟩
      show ((u :: v :: r)[k + 2]?).any (fun u => u.depth == 0 + 1) = true
      rw [show (u :: v :: r)[k + 2]? = r[k]? from rfl, hk2]
      have : x.depth = 1 := by omega
      simp [this]
    rw [hz] at hm
    simp at hm
  · exact hge
theorem node_lower {l : Li} {a b : List Nd} {x : Nd} (hd : deepR b ≤ deepR a + 1) (h1 : 1 ≤ x.depth) (h : nodeErr l b x = 0) : nodeErr l a (lowerN 1 x) = 0 := by
  unfold nodeErr at h ⊢
  show (if x.kind < 1 ∨ 7 < x.kind then 20 else if x.depth - 1 < 0 ∨ deepR a < x.depth - 1 then 21 else if x.kind = 1 then glyphErr l x else if x.kind = 6 then gapErr x else plainErr x) = 0
  split at h
  · omega
  rename_i h2
  rw [if_neg h2]
  split at h
  · omega
  rw [if_neg (by omega)]
  exact h
theorem nodes_lower {l : Li} : ∀ (r a b : List Nd), deepR b ≤ deepR a + 1 → (∀ x ∈ r, 1 ≤ x.depth) → nodesErr l b r = 0 → nodesErr l a (r.map (lowerN 1)) = 0
  | [], _, _, _, _, _ => rfl
  | x :: r, a, b, hd, hp, h => by
    rw [nodesErr] at h
    split at h
    · rename_i h1; exact absurd h h1
    · rename_i h1
      rw [List.map_cons, nodesErr, node_lower hd (hp x (List.mem_cons_self ..)) (by simpa using h1), if_neg (by simp)]
      refine nodes_lower r _ (b ++ [x]) ?_ (fun y hy => hp y (List.mem_cons_of_mem _ hy)) h
      rw [deepR_snoc, deepR_snoc]
      have e1 : (lowerN 1 x).kind = x.kind := rfl
      have e2 : (lowerN 1 x).depth = x.depth - 1 := rfl
      rw [e1, e2]
      split
      · omega
      · split <;> split <;> omega
/-- a ring without its honour -/
theorem plain_ring {l : Li} {u v : Nd} {r : List Nd} (h : GV l (u :: v :: r)) (hk : u.kind = 5) (hv : v.kind = 7) : GV l (u :: r.map (lowerN 1)) := by
  obtain ⟨hu, hvd, hr, hone⟩ := ring_hon h hk hv
  have hn := h.nodes
  have hf := h.fits
  rw [nodesErr] at hn
  have hn1 : nodeErr l [] u = 0 := by
    split at hn
    · rename_i h1; exact absurd hn h1
    · rename_i h1; simpa using h1
  rw [hn1, if_neg (by simp), nodesErr] at hn
  have hn2 : nodesErr l ([] ++ [u] ++ [v]) r = 0 := by
    split at hn
    · rename_i h1; exact absurd hn h1
    · exact hn
  -- the kids
  have k0 : kidsL (u :: r.map (lowerN 1)) 0 = (List.range' 1 r.length).filter (kidB (u :: r.map (lowerN 1)) 0) := by
    have e : kidsL (u :: r.map (lowerN 1)) 0 = (List.range' (0 + 1) (spanN (u :: r.map (lowerN 1)) u.depth 0)).filter (kidB (u :: r.map (lowerN 1)) u.depth) := rfl
    have hsp : spanN (u :: r.map (lowerN 1)) 0 0 = r.length := by
      unfold spanN
      have e : (u :: r.map (lowerN 1)).drop (0 + 1) = r.map (lowerN 1) := rfl
      rw [e]
      have := takeWhile_all (fun n : Nd => decide ((0 : Int) < n.depth)) (r.map (lowerN 1)) [] (fun x hx => by
        obtain ⟨y, hy, rfl⟩ := List.mem_map.1 hx
        have := hr y hy
        exact decide_eq_true (by show 0 < y.depth - 1; omega))
      rw [List.append_nil] at this
      rw [this, List.length_append, List.length_map]; rfl
    rw [e, hu, hsp]
  have k1 : kidsL (u :: v :: r) 1 = (kidsL (u :: r.map (lowerN 1)) 0).map (· + 1) := by
    have e : kidsL (u :: v :: r) 1 = (List.range' (1 + 1) (spanN (u :: v :: r) v.depth 1)).filter (kidB (u :: v :: r) v.depth) := rfl
    have hsp : spanN (u :: v :: r) 1 1 = r.length := by
      unfold spanN
      have e : (u :: v :: r).drop (1 + 1) = r := rfl
      rw [e]
      have := takeWhile_all (fun n : Nd => decide ((1 : Int) < n.depth)) r [] (fun x hx => decide_eq_true (by have := hr x hx; omega))
      rw [List.append_nil] at this
      rw [this, List.length_append]; rfl
    rw [e, hvd, hsp, k0]
    have e3 : List.range' (1 + 1) r.length = (List.range' 1 r.length).map (· + 1) := by
      have := List.map_add_range' (a := 1) 1 r.length 1
      rw [← this]
      refine List.map_congr_left fun x _ => by omega
    rw [e3, List.filter_map]
    congr 1
    refine List.filter_congr fun j hj => ?_
    rw [List.mem_range'_1] at hj
    obtain ⟨k, rfl⟩ : ∃ k, j = k + 1 := ⟨j - 1, by omega⟩
    show kidB (u :: v :: r) 1 (k + 1 + 1) = kidB (u :: r.map (lowerN 1)) 0 (k + 1)
    unfold kidB
    rw [List.getElem?_cons_succ, List.getElem?_cons_succ, List.getElem?_cons_succ, List.getElem?_map]
    cases r[k]? with
    | none => rfl
    | some x =>
      show (x.depth == 1 + 1) = (x.depth - 1 == 0 + 1)
      rw [Bool.eq_iff_iff]; simp; omega
  have kk : ∀ k, kidsL (u :: v :: r) (k + 2) = (kidsL (u :: r.map (lowerN 1)) (k + 1)).map (· + 1) := fun k => by
    rw [show k + 2 = 2 + k by omega, kidsL_drop (u :: v :: r) 2 k, show k + 1 = 1 + k by omega, kidsL_drop (u :: r.map (lowerN 1)) 1 k, List.map_map]
    have e1 : (u :: v :: r).drop 2 = r := rfl
    have e2 : (u :: r.map (lowerN 1)).drop 1 = r.map (lowerN 1) := rfl
    rw [e1, e2, kids_lower]
    refine List.map_congr_left fun x _ => by show 2 + x = 1 + x + 1; omega
  have kind : ∀ k, kindAt (u :: v :: r) (k + 2) = kindAt (u :: r.map (lowerN 1)) (k + 1) := fun k => by
    show kindAt r k = kindAt (r.map (lowerN 1)) k
    exact (kindAt_map (f := lowerN 1) (fun _ => rfl) r k).symm
  have hpos : ∀ i, ∀ j ∈ kidsL (u :: r.map (lowerN 1)) i, 0 < j := fun i j hj => by
    unfold kidsL at hj
    cases hx : (u :: r.map (lowerN 1))[i]? with
    | none => rw [hx] at hj; cases hj
    | some x =>
      rw [hx] at hj
      have := (List.mem_filter.1 hj).1
      rw [List.mem_range'_1] at this; omega
  refine ⟨⟨u, _, rfl, hu, fun x hx => ?_⟩, ?_, ?_⟩
  · obtain ⟨y, hy, rfl⟩ := List.mem_map.1 hx
    have := hr y hy
    show 0 < y.depth - 1; omega
  · rw [nodesErr, hn1, if_neg (by simp)]
    refine nodes_lower r _ ([] ++ [u] ++ [v]) ?_ (fun x hx => by have := hr x hx; omega) hn2
    rw [deepR_snoc, deepR_snoc, hk, hv, hu, hvd]; decide
  · refine List.all_eq_true.2 fun i hi => ?_
    have hil : i < (u :: v :: r).length - 1 := by have := List.mem_range.1 hi; simp at this ⊢; exact this
    have h1 := fits_at hf (i + 1) (by omega)
    cases i with
    | zero =>
      unfold kidsFitB at h1 ⊢
      rw [show (0 : Nat) + 1 = 1 from rfl, k1, List.length_map] at h1
      have e5 : kindAt (u :: r.map (lowerN 1)) 0 = 5 := hk
      have e7 : kindAt (u :: v :: r) 1 = 7 := hv
      rw [e7] at h1
      rw [e5]
      have a7 : kidsR 7 = (2, 6) := by decide
      have a5 : kidsR 5 = (1, 6) := by decide
      rw [a7] at h1
      rw [a5]
      simp only [Bool.and_eq_true, Bool.not_eq_true', decide_eq_false_iff_not, List.all_eq_true] at h1 ⊢
      refine ⟨⟨by omega, h1.1.2⟩, fun j hj => ?_⟩
      have h2 := h1.2 (j + 1) (List.mem_map_of_mem hj)
      obtain ⟨k, rfl⟩ : ∃ k, j = k + 1 := ⟨j - 1, by have := hpos 0 j hj; omega⟩
      rw [show k + 1 + 1 = k + 2 from rfl, kind k] at h2
      obtain ⟨_, q5, q7, q2⟩ := holds_bes h2
      unfold holdsB
      have b5 : (kindAt (u :: r.map (lowerN 1)) (k + 1) == 5) = false := by simpa using q5
      have b7 : (kindAt (u :: r.map (lowerN 1)) (k + 1) == 7) = false := by simpa using q7
      have b2 : (kindAt (u :: r.map (lowerN 1)) (k + 1) != 2) = true := by simpa using q2
      rw [b5, b7, b2]; rfl
    | succ k =>
      unfold kidsFitB at h1 ⊢
      rw [show k + 1 + 1 = k + 2 from rfl, kk k, List.length_map, kind k] at h1
      simp only [Bool.and_eq_true, Bool.not_eq_true', decide_eq_false_iff_not, List.all_eq_true] at h1 ⊢
      refine ⟨h1.1, fun j hj => ?_⟩
      have h2 := h1.2 (j + 1) (List.mem_map_of_mem hj)
      obtain ⟨q, rfl⟩ : ∃ q, j = q + 1 := ⟨j - 1, by have := hpos (k + 1) j hj; omega⟩
      rw [show q + 1 + 1 = q + 2 from rfl, kind q] at h2
      exact h2
theorem plainP_ok {l : Li} {g : List Nd} (h : GV l g) : GV l (plainP g) := by
  obtain ⟨u, r, rfl, hu, _⟩ := h.sgl
  rw [plainP_cons]
  split
  · rename_i h7
    exact plain_top h (by simpa using h7)
  · split
    · rename_i h5
      simp only [Bool.and_eq_true, beq_iff_eq] at h5
      cases r with
      | nil => exact absurd h5.2 (by simp [honB])
      | cons v t =>
        have hv : v.kind = 7 := by have := h5.2; simpa [honB] using this
        exact plain_ring h h5.1 hv
    · exact h
/-- plain again -/
theorem plainP_twice {l : Li} {g : List Nd} (h : GV l g) : plainP (plainP g) = plainP g := by
  obtain ⟨u, r, rfl, hu, _⟩ := h.sgl
  rw [plainP_cons]
  split
  · rw [plainP_cons]; rfl
  · rename_i h7
    split
    · rename_i h5
      simp only [Bool.and_eq_true, beq_iff_eq] at h5
      cases r with
      | nil => exact absurd h5.2 (by simp [honB])
      | cons v t =>
        have hv : v.kind = 7 := by have := h5.2; simpa [honB] using this
        have hg := plain_ring h h5.1 hv
        rw [plainP_cons, if_neg h7]
        cases t with
        | nil => rw [if_neg (by simp [honB])]
        | cons x t =>
          have hx : x.kind ≠ 7 := by
            intro e
            have hr := ring_hon h h5.1 hv
            have hd : x.depth = 2 := by
              have h1 := (full_of h).rises 1 v x rfl rfl
              have h2 := hr.2.2.1 x (List.mem_cons_self ..)
              omega
            have hm : 2 ∈ kidsL (u :: v :: x :: t) 1 := by
              have hv1 : (u :: v :: x :: t)[1]? = some v := rfl
              refine (kids_iff hv1).2 ⟨by omega, by simp, ?_, fun q h1 h2 => ?_⟩
              · show x.depth = _; omega
              · rw [show q = 2 by omega]; show v.depth < x.depth; omega
            have h3 := fits_kid h.fits (i := 1) (by simp) hm
            have a : kindAt (u :: v :: x :: t) 1 = 7 := hv
            have b : kindAt (u :: v :: x :: t) 2 = 7 := e
            rw [a, b] at h3
            cases h3
          rw [if_neg]
          simp [honB]
          intro _
          exact hx
    · rename_i h5
      rw [plainP_cons, if_neg h7, if_neg h5]
/-- a plain text, by its groups -/
theorem plain_groups (ns : List Nd) : ((partsN ns).map plainP).flatten = (partsW 0 ns).flatMap fun p => plainP p.2 := by
  unfold partsN
  rw [List.map_map, List.flatMap_def]; rfl
/-- what a leaf is counted by -/
def keyN (u : Nd) : Int × Int := (u.kind, u.sign)
theorem plainP_leaves {l : Li} {g : List Nd} (h : GV l g) : ((plainP g).filter leafN).map keyN = (g.filter leafN).map keyN := by
  obtain ⟨u, r, rfl, hu, _⟩ := h.sgl
  rw [plainP_cons]
  split
  · rename_i h7
    have h7 : u.kind = 7 := by simpa using h7
    have e1 : leafN (u.atK 2) = false := rfl
    have e2 : leafN u = false := by unfold leafN; rw [h7]; rfl
    rw [List.filter_cons, List.filter_cons, e1, e2]
    simp only [Bool.false_eq_true, if_false]
  · split
    · rename_i h5
      simp only [Bool.and_eq_true, beq_iff_eq] at h5
      cases r with
      | nil => exact absurd h5.2 (by simp [honB])
      | cons v t =>
        have hv : v.kind = 7 := by have := h5.2; simpa [honB] using this
        have e2 : leafN v = false := by unfold leafN; rw [hv]; rfl
        have e1 : leafN u = false := by unfold leafN; rw [h5.1]; rfl
        show List.map keyN (List.filter leafN (u :: t.map (lowerN 1))) = _
        rw [List.filter_cons, List.filter_cons, List.filter_cons, e1, e2, List.filter_map, if_neg (by simp), if_neg (by simp), if_neg (by simp), List.map_map]
        rfl
    · rfl

end Go.Proofs.YtcijomljopbelaaGreat

/- What is counted of a text; the rings of a text, by its groups; the four laws' facts on lists. -/
namespace Go.Proofs.YtcijomljopbelaaGreat

/- counting -/
theorem addAt_comm (c : List Int) (i j : Nat) : addAt (addAt c i) j = addAt (addAt c j) i := by
  by_cases e : i = j
  · rw [e]
  have h : ∀ (d : List Int) (p q : Nat) (v : Int), p ≠ q → (d.set p v)[q]? = d[q]? := fun d p q v hpq => List.getElem?_set_ne hpq
  unfold addAt
  cases hi : c[i]? with
  | none =>
    cases hj : c[j]? with
    | none => dsimp only; rw [hi]
    | some y => dsimp only; rw [h c j i _ (fun x => e x.symm), hi]
  | some x =>
    cases hj : c[j]? with
    | none => dsimp only; rw [h c i j _ e, hi, hj]
    | some y =>
      dsimp only
      rw [h c i j _ e, h c j i _ (fun x => e x.symm), hi, hj]
      exact List.set_comm _ _ e
/-- one node counted: gaps first, then each sign -/
def cntN (signs : Nat) (c : List Int) (u : Nd) : List Int :=
  if u.kind = 6 then addAt c 0 else if u.kind = 1 ∧ 0 ≤ u.sign ∧ u.sign < (signs : Int) then addAt c (u.sign + 1).toNat else c
def countR (signs : Nat) (ns : List Nd) : List Int := ns.foldl (cntN signs) (List.replicate (signs + 1) 0)
/-- one mark counted -/
def cntM (c : List Int) (m : Mk) : List Int := addAt c (m.sign + 1).toNat
def countM (signs : Nat) (ms : List Mk) : List Int := ms.foldl cntM (List.replicate (signs + 1) 0)
theorem cntN_len (signs : Nat) (c : List Int) (u : Nd) : (cntN signs c u).length = c.length := by
  unfold cntN; split
  · exact addAt_len _ _
  · split
    · exact addAt_len _ _
    · rfl
theorem cntN_comm (signs : Nat) (c : List Int) (u v : Nd) : cntN signs (cntN signs c u) v = cntN signs (cntN signs c v) u := by
  have h : ∀ u : Nd, (∀ c, cntN signs c u = c) ∨ ∃ i, ∀ c, cntN signs c u = addAt c i := fun u => by
    unfold cntN
    split
    · exact .inr ⟨_, fun _ => rfl⟩
    · split
      · exact .inr ⟨_, fun _ => rfl⟩
      · exact .inl fun _ => rfl
  rcases h u with h1 | ⟨i, h1⟩ <;> rcases h v with h2 | ⟨j, h2⟩ <;> simp only [h1, h2]
  exact addAt_comm c i j
theorem cnt_leaf (signs : Nat) (c : List Int) {u : Nd} (h : leafN u = false) : cntN signs c u = c := by
  unfold leafN leafB at h
  simp only [Bool.or_eq_false_iff, beq_eq_false_iff_ne] at h
  unfold cntN
  rw [if_neg h.2, if_neg (fun e => h.1 e.1)]
theorem cnt_filter (signs : Nat) : ∀ (ns : List Nd) (c : List Int), ns.foldl (cntN signs) c = (ns.filter leafN).foldl (cntN signs) c
  | [], _ => rfl
  | u :: r, c => by
    rw [List.filter_cons]
    cases h : leafN u with
    | true => rw [if_pos rfl, List.foldl_cons, List.foldl_cons, cnt_filter signs r]
    | false => rw [if_neg (by simp), List.foldl_cons, cnt_leaf signs c h, cnt_filter signs r]
theorem cnt_perm (signs : Nat) {a b : List Nd} (h : a.Perm b) (c : List Int) : a.foldl (cntN signs) c = b.foldl (cntN signs) c := by
  induction h generalizing c with
  | nil => rfl
  | cons x _ ih => rw [List.foldl_cons, List.foldl_cons, ih]
  | swap x y l => rw [List.foldl_cons, List.foldl_cons, List.foldl_cons, List.foldl_cons, cntN_comm]
  | trans _ _ ih1 ih2 => rw [ih1, ih2]
theorem cnt_key (signs : Nat) : ∀ (a b : List Nd) (c : List Int), a.map keyN = b.map keyN → a.foldl (cntN signs) c = b.foldl (cntN signs) c
  | [], [], _, _ => rfl
  | [], _ :: _, _, h => by cases h
  | _ :: _, [], _, h => by cases h
  | u :: a, v :: b, c, h => by
    rw [List.map_cons, List.map_cons] at h
    injection h with h1 h2
    unfold keyN at h1
    injection h1 with h3 h4
    rw [List.foldl_cons, List.foldl_cons]
    have e : cntN signs c u = cntN signs c v := by unfold cntN; rw [h3, h4]
    rw [e]; exact cnt_key signs a b _ h2
theorem cnt_groups (signs : Nat) {f : List Nd → List Nd} : ∀ (G : List (List Nd)) (c : List Int), (∀ g ∈ G, ∀ c, (f g).foldl (cntN signs) c = g.foldl (cntN signs) c) → (G.flatMap f).foldl (cntN signs) c = G.flatten.foldl (cntN signs) c
  | [], _, _ => rfl
  | g :: r, c, h => by
    rw [List.flatMap_cons, List.flatten_cons, List.foldl_append, List.foldl_append, h g (List.mem_cons_self ..), cnt_groups signs r _ (fun x hx => h x (List.mem_cons_of_mem _ hx))]
theorem cnt_leaves {l : Li} {g : List Nd} (h : GV l g) (signs : Nat) (c : List Int) : (leavesL g).foldl (cntN signs) c = g.foldl (cntN signs) c := by
  rw [cnt_perm signs (leaves_all h), ← cnt_filter]
theorem cnt_setD (signs : Nat) (d : Int) (ls : List Nd) (c : List Int) : (ls.map (setD d)).foldl (cntN signs) c = ls.foldl (cntN signs) c :=
  cnt_key signs _ _ c (by rw [List.map_map]; rfl)
theorem cnt_flat {l : Li} {g : List Nd} (h : GV l g) (signs : Nat) (c : List Int) : (flatP g).foldl (cntN signs) c = g.foldl (cntN signs) c := by
  rw [← cnt_leaves h]
  obtain ⟨u, r, rfl, hu, _⟩ := h.sgl
  rw [flatP_cons]
  split
  · rename_i hc
    simp only [Bool.and_eq_true, beq_iff_eq, decide_eq_true_eq] at hc
    rw [List.foldl_cons, cnt_leaf signs c (by unfold leafN; rw [hc.1]; rfl), cnt_setD]
  · rw [cnt_setD]
theorem cnt_plain {l : Li} {g : List Nd} (h : GV l g) (signs : Nat) (c : List Int) : (plainP g).foldl (cntN signs) c = g.foldl (cntN signs) c := by
  rw [cnt_filter signs (plainP g), cnt_filter signs g, cnt_key signs _ _ c (plainP_leaves h)]
theorem cnt_mirror (l : Li) (ns : List Nd) (signs : Nat) (c : List Int) : (ns.map (flipN l)).foldl (cntN signs) c = ns.foldl (cntN signs) c :=
  cnt_key signs _ _ c (by rw [List.map_map]; refine List.map_congr_left fun u _ => ?_; show (_, _) = (_, _); rw [flip_kind, flip_sign])
/-- the counts of the line are those of the text -/
theorem mark_ok {l : Li} {u : Nd} (hk : leafB u.kind = true) (h : leafErr l u = 0) : (-1 ≤ (markR u).sign ∧ (markR u).sign < (l.signs.length : Int)) ∧ ∀ c, cntM c (markR u) = cntN l.signs.length c u := by
  have hk2 : u.kind = 1 ∨ u.kind = 6 := by unfold leafB at hk; simpa using hk
  unfold leafErr at h
  rcases hk2 with e | e
  · rw [if_pos e] at h
    have hs : 0 ≤ u.sign ∧ u.sign < (l.signs.length : Int) := by
      unfold glyphErr at h
      split at h
      · omega
      · omega
    have em : (markR u).sign = u.sign := by unfold markR; rw [if_neg (by omega)]
    rw [em]
    refine ⟨by omega, fun c => ?_⟩
    unfold cntM cntN
    rw [em, if_neg (by omega), if_pos ⟨e, hs⟩]
  · have em : (markR u).sign = -1 := by unfold markR; rw [if_pos e]
    rw [em]
    refine ⟨by omega, fun c => ?_⟩
    unfold cntM cntN
    rw [em, if_pos e]; rfl
theorem cnt_marks {l : Li} : ∀ (ls : List Nd) (c : List Int), (∀ u ∈ ls, leafB u.kind = true ∧ leafErr l u = 0) → (ls.map markR).foldl cntM c = ls.foldl (cntN l.signs.length) c
  | [], _, _ => rfl
  | u :: r, c, h => by
    obtain ⟨h1, h2⟩ := h u (List.mem_cons_self ..)
    rw [List.map_cons, List.foldl_cons, List.foldl_cons, (mark_ok h1 h2).2, cnt_marks r _ (fun x hx => h x (List.mem_cons_of_mem _ hx))]
theorem leaves_ok {l : Li} {g : List Nd} (h : GV l g) : ∀ x ∈ leavesL g, leafB x.kind = true ∧ leafErr l x = 0 := fun x hx => by
  obtain ⟨h1, h2⟩ := leaves_leaf h hx
  exact ⟨h2, nodes_leaf g [] h.nodes x h1 h2⟩
theorem cnt_line {l : Li} : ∀ (G : List (List Nd)) (c : List Int), (∀ g ∈ G, GV l g) → (G.flatMap lineG).foldl cntM c = G.flatten.foldl (cntN l.signs.length) c
  | [], _, _ => rfl
  | g :: r, c, h => by
    have hg := h g (List.mem_cons_self ..)
    rw [List.flatMap_cons, List.flatten_cons, List.foldl_append, List.foldl_append, show (lineG g) = (leavesL g).map markR from rfl, cnt_marks (leavesL g) c (leaves_ok hg), cnt_leaves hg, cnt_line r _ (fun x hx => h x (List.mem_cons_of_mem _ hx))]
theorem line_count {l : Li} {ns : List Nd} (h : textErr l ns = 0) : countM l.signs.length (lineR ns) = countR l.signs.length ns := by
  obtain ⟨_, _, h3⟩ := valid_parts h
  unfold countM countR
  rw [lineR_parts, cnt_line _ _ h3, partsN_all]
theorem line_signs {l : Li} {ns : List Nd} (h : textErr l ns = 0) : ∀ m ∈ lineR ns, -1 ≤ m.sign ∧ m.sign < (l.signs.length : Int) := by
  obtain ⟨_, _, h3⟩ := valid_parts h
  intro m hm
  rw [lineR_parts] at hm
  obtain ⟨g, hg, hm⟩ := List.mem_flatMap.1 hm
  obtain ⟨u, hu, rfl⟩ := List.mem_map.1 hm
  obtain ⟨h1, h2⟩ := leaves_ok (h3 g hg) u hu
  exact (mark_ok h1 h2).1
/- the three texts -/
theorem flatT_is {l : Li} {ns : List Nd} (h : textErr l ns = 0) : regQ flatP l ns = (((partsN ns).flatMap flatGs).flatten, 0) := by
  unfold regQ
  rw [if_neg (by omega), flat_groups]
theorem plainT_is {l : Li} {ns : List Nd} (h : textErr l ns = 0) : regQ plainP l ns = (((partsN ns).map plainP).flatten, 0) := by
  unfold regQ
  rw [if_neg (by omega), plain_groups]
theorem flatten_le {f : List Nd → List Nd} (hf : ∀ l, (f l).length ≤ l.length) : ∀ G : List (List Nd), ((G.map f).flatten).length ≤ G.flatten.length
  | [] => Nat.le_refl _
  | g :: r => by
    have := hf g
    have := flatten_le hf r
    rw [List.map_cons, List.flatten_cons, List.flatten_cons, List.length_append, List.length_append]; omega
theorem plain_valid {l : Li} {ns : List Nd} (h : textErr l ns = 0) : textErr l ((partsN ns).map plainP).flatten = 0 := by
  obtain ⟨h1, h2, h3⟩ := valid_parts h
  refine valid_flat h1 ?_ (fun g hg => ?_)
  · have := flatten_le plainP_len (partsN ns)
    rw [partsN_all] at this; omega
  · obtain ⟨q, hq, rfl⟩ := List.mem_map.1 hg
    exact plainP_ok (h3 q hq)
theorem flatP_le {l : Li} {g : List Nd} (h : GV l g) : (flatP g).length ≤ g.length := by
  have h1 := (leaves_all h).length_eq
  have h2 := List.length_filter_le leafN g
  obtain ⟨u, r, rfl, hu, _⟩ := h.sgl
  rw [flatP_cons]
  split
  · rename_i hc
    simp only [Bool.and_eq_true, beq_iff_eq, decide_eq_true_eq] at hc
    have hl : leafN u = false := by unfold leafN; rw [hc.1]; rfl
    rw [List.filter_cons, hl, if_neg (by simp)] at h1
    have := List.length_filter_le leafN r
    rw [List.length_cons, List.length_map, List.length_cons]; omega
  · rw [List.length_map]; omega
theorem flat_le2 {l : Li} : ∀ G : List (List Nd), (∀ g ∈ G, GV l g) → (G.flatMap flatGs).flatten.length ≤ G.flatten.length
  | [], _ => Nat.le_refl _
  | g :: r, h => by
    have h1 := flatP_le (h g (List.mem_cons_self ..))
    have h2 := flat_le2 r (fun x hx => h x (List.mem_cons_of_mem _ hx))
    rw [List.flatMap_cons, List.flatten_append, flatGs_flat, List.length_append, List.flatten_cons, List.length_append]; omega
theorem flat_ok {l : Li} {ns : List Nd} (h3 : ∀ g ∈ partsN ns, GV l g) : ∀ g ∈ (partsN ns).flatMap flatGs, GV l g := fun g hg => by
  obtain ⟨q, hq, hg⟩ := List.mem_flatMap.1 hg
  exact flatGs_ok (h3 q hq) g hg
theorem flat_valid {l : Li} {ns : List Nd} (h : textErr l ns = 0) : textErr l ((partsN ns).flatMap flatGs).flatten = 0 := by
  obtain ⟨h1, h2, h3⟩ := valid_parts h
  refine valid_flat h1 ?_ (flat_ok h3)
  have := flat_le2 (partsN ns) h3
  rw [partsN_all] at this; omega
theorem plain_count {l : Li} {ns : List Nd} (h : textErr l ns = 0) (signs : Nat) : countR signs ((partsN ns).map plainP).flatten = countR signs ns := by
  obtain ⟨_, _, h3⟩ := valid_parts h
  unfold countR
  rw [← List.flatMap_def, cnt_groups signs (partsN ns) _ (fun g hg c => cnt_plain (h3 g hg) signs c), partsN_all]
theorem flat_count {l : Li} {ns : List Nd} (h : textErr l ns = 0) (signs : Nat) : countR signs ((partsN ns).flatMap flatGs).flatten = countR signs ns := by
  obtain ⟨_, _, h3⟩ := valid_parts h
  have e : ((partsN ns).flatMap flatGs).flatten = (partsN ns).flatMap flatP := by
    rw [flat_groups]; unfold partsN; rw [List.flatMap_map]
  unfold countR
  rw [e, cnt_groups signs (partsN ns) _ (fun g hg c => cnt_flat (h3 g hg) signs c), partsN_all]
theorem mirror_count (l : Li) (ns : List Nd) (signs : Nat) : countR signs (ns.map (flipN l)) = countR signs ns := cnt_mirror l ns signs _
/- twice -/
theorem plain_again {l : Li} {ns : List Nd} (h : textErr l ns = 0) : regQ plainP l ((partsN ns).map plainP).flatten = (((partsN ns).map plainP).flatten, 0) := by
  obtain ⟨_, _, h3⟩ := valid_parts h
  rw [plainT_is (plain_valid h), partsN_flat (fun g hg => by
    obtain ⟨q, hq, rfl⟩ := List.mem_map.1 hg
    exact (plainP_ok (h3 q hq)).sgl), List.map_map]
  congr 2
  exact List.map_congr_left fun g hg => plainP_twice (h3 g hg)
theorem flat_again {l : Li} {ns : List Nd} (h : textErr l ns = 0) : regQ flatP l ((partsN ns).flatMap flatGs).flatten = (((partsN ns).flatMap flatGs).flatten, 0) := by
  obtain ⟨_, _, h3⟩ := valid_parts h
  rw [flatT_is (flat_valid h), partsN_flat (fun g hg => (flat_ok h3 g hg).sgl), flatGs_map h3]
theorem flat_line {l : Li} {ns : List Nd} (h : textErr l ns = 0) : lineR ((partsN ns).flatMap flatGs).flatten = lineR ns := by
  obtain ⟨_, _, h3⟩ := valid_parts h
  rw [lineR_parts, partsN_flat (fun g hg => (flat_ok h3 g hg).sgl), lineR_parts ns]
  generalize partsN ns = G at h3
  induction G with
  | nil => rfl
  | cons g r ih => rw [List.flatMap_cons, List.flatMap_append, flatGs_line (h3 g (List.mem_cons_self ..)), ih (fun x hx => h3 x (List.mem_cons_of_mem _ hx)), List.flatMap_cons]
/- rings -/
def ringB (g : List Nd) : Bool := g.head?.any fun u => u.kind == 5
/-- the rings of groups, the first mark being at a place -/
def ringsP (at_ : Nat) : List (List Nd) → List (Nat × Nat)
  | [] => []
  | g :: r => (if ringB g then [(at_, at_ + (leavesL g).length)] else []) ++ ringsP (at_ + (leavesL g).length) r
theorem offG_shift (sz : Nat → Nat) (k : Nat) : offG sz (k + 1) = sz 0 + offG (fun i => sz (i + 1)) k := by
  induction k with
  | zero => rw [offG, offG, offG]; omega
  | succ k ih => rw [offG, ih, offG]; omega
theorem ringsP_gen : ∀ (G : List (List Nd)) (at_ : Nat) (sz : Nat → Nat) (isR : Nat → Bool), (∀ k g, G[k]? = some g → sz k = (leavesL g).length ∧ isR k = ringB g) →
    (ringsG sz isR G.length).map (fun p => (at_ + p.1, at_ + p.2)) = ringsP at_ G := by
  have snoc : ∀ (G : List (List Nd)) (g : List Nd) (at_ : Nat), ringsP at_ (G ++ [g]) = ringsP at_ G ++ (if ringB g then [(at_ + (G.map fun x => (leavesL x).length).sum, at_ + (G.map fun x => (leavesL x).length).sum + (leavesL g).length)] else []) := by
    intro G g
    induction G with
    | nil => intro a; simp [ringsP]
    | cons x r ih =>
      intro a
      rw [List.cons_append, ringsP, ih, ringsP, List.append_assoc, List.map_cons, List.sum_cons]
      simp only [Nat.add_assoc]
  have off : ∀ (n : Nat) (G : List (List Nd)) (sz : Nat → Nat), n ≤ G.length → (∀ k g, G[k]? = some g → sz k = (leavesL g).length) → offG sz n = ((G.take n).map fun x => (leavesL x).length).sum := by
    intro n
    induction n with
    | zero => intro G sz _ _; rfl
    | succ n ih =>
      intro G sz hn h
      obtain ⟨g, hg⟩ : ∃ g, G[n]? = some g := ⟨_, List.getElem?_eq_getElem (by omega)⟩
      obtain ⟨hk, e⟩ := List.getElem?_eq_some_iff.1 hg
      rw [offG, ih G sz (by omega) h, h n g hg, List.take_succ_eq_append_getElem hk, e]
      simp
  have main : ∀ (n : Nat) (G : List (List Nd)) (at_ : Nat) (sz : Nat → Nat) (isR : Nat → Bool), n ≤ G.length → (∀ k g, G[k]? = some g → sz k = (leavesL g).length ∧ isR k = ringB g) → (ringsG sz isR n).map (fun p => (at_ + p.1, at_ + p.2)) = ringsP at_ (G.take n) := by
    intro n
    induction n with
    | zero => intro G at_ sz isR _ _; rfl
    | succ n ih =>
      intro G at_ sz isR hn h
      obtain ⟨g, hg⟩ : ∃ g, G[n]? = some g := ⟨_, List.getElem?_eq_getElem (by omega)⟩
      obtain ⟨hk, e⟩ := List.getElem?_eq_some_iff.1 hg
      rw [ringsG, List.map_append, ih G at_ sz isR (by omega) h, List.take_succ_eq_append_getElem hk, e, snoc, (h n g hg).2]
      congr 1
      split
      · rw [List.map_cons, List.map_nil, offG, off n G sz (by omega) (fun k g hk => (h k g hk).1), (h n g hg).1]
        simp only [Nat.add_assoc]
      · rfl
  intro G at_ sz isR h
  have := main G.length G at_ sz isR (Nat.le_refl _) h
  rw [List.take_length] at this; exact this
theorem rings_is {l : Li} {ns : List Nd} (h : textErr l ns = 0) : ringsR ns = ringsP 0 (partsN ns) := by
  have hs := shape_of h
  have hl : (topsL ns).length = (partsN ns).length := by rw [tops_is hs, List.length_map, partsN_len]
  have := ringsP_gen (partsN ns) 0 (szT ns) (isRT ns) (fun k g hg => by
    unfold partsN at hg
    rw [List.getElem?_map] at hg
    cases hp : (partsW 0 ns)[k]? with
    | none => rw [hp] at hg; cases hg
    | some p =>
      rw [hp] at hg
      injection hg with hg
      have hm := List.mem_of_getElem? hp
      have ht : (topsL ns)[k]? = some p.1 := by rw [tops_is hs, List.getElem?_map, hp]; rfl
      have hpos := parts_pos hm
      obtain ⟨u, r, hl2⟩ : ∃ u r, p.2 = u :: r := by cases h' : p.2 with | nil => rw [h'] at hpos; simp at hpos | cons u r => exact ⟨u, r, rfl⟩
      constructor
      · unfold szT
        rw [ht]
        show (leavesF ns 5 p.1).length = _
        have := pick_grp hm 5
        have h2 := congrArg List.length this
        unfold pickN at h2
        rw [List.length_map, List.length_map] at h2
        rw [← h2, ← hg]
        unfold leavesL pickN
        rw [List.length_map]
      · unfold isRT
        rw [ht]
        have h0 := node_grp hm hpos
        rw [Nat.add_zero, hl2] at h0
        have h0 : ns[p.1]? = some u := h0
        show ((getN ns p.1).kind == 5) = _
        rw [getN_at h0, ← hg]
        have hg2 : (fun (x : Nat × List Nd) => x.2) p = u :: r := hl2
        rw [hg2]; rfl)
  unfold ringsR
  rw [hl, ← this]
  conv => lhs; rw [← List.map_id (ringsG (szT ns) (isRT ns) (partsN ns).length)]
  refine List.map_congr_left fun p _ => ?_
  obtain ⟨a, b⟩ := p
  simp
theorem ringsP_app : ∀ (G H : List (List Nd)) (a : Nat), ringsP a (G ++ H) = ringsP a G ++ ringsP (a + (G.map fun x => (leavesL x).length).sum) H
  | [], H, a => by simp [ringsP]
  | g :: r, H, a => by
    rw [List.cons_append, ringsP, ringsP_app r H, ringsP, List.append_assoc, List.map_cons, List.sum_cons, Nat.add_assoc]
/-- no ring has more leaves than a ring may have kids -/
def smallRings (G : List (List Nd)) : Prop := ∀ g ∈ G, ringB g = true → (leavesL g).length ≤ 6
theorem flatGs_rings {l : Li} {g : List Nd} (h : GV l g) (hs : ringB g = true → (leavesL g).length ≤ 6) (a : Nat) : ringsP a (flatGs g) = (if ringB g then [(a, a + (leavesL g).length)] else []) ∧ ((flatGs g).map fun x => (leavesL x).length).sum = (leavesL g).length := by
  have hlf : ∀ x ∈ leavesL g, leafB x.kind = true := fun x hx => (leaves_leaf h hx).2
  obtain ⟨u, r, rfl, hu, _⟩ := h.sgl
  have hb : ringB (u :: r) = (u.kind == 5) := rfl
  rw [hb] at hs
  unfold flatGs
  dsimp only
  rw [hb]
  cases hk : (u.kind == 5) with
  | true =>
    rw [hk] at hs
    have h6 := hs rfl
    have hk5 : u.kind = 5 := by simpa using hk
    have e : leavesL (u :: (leavesL (u :: r)).map (setD 1)) = (leavesL (u :: r)).map (setD 1) := leaves_ring hk5 hu (by
      intro x hx; obtain ⟨y, _, rfl⟩ := List.mem_map.1 hx; rfl) (by
      intro x hx; obtain ⟨y, hy, rfl⟩ := List.mem_map.1 hx; exact hlf y hy)
    rw [if_pos (by simp [h6]), if_pos rfl]
    have hb2 : ringB (u :: (leavesL (u :: r)).map (setD 1)) = true := hk
    rw [ringsP, ringsP, hb2, if_pos rfl, e, List.length_map]
    refine ⟨by simp, ?_⟩
    rw [List.map_cons, e, List.length_map]; simp
  | false =>
    rw [if_neg (by simp), if_neg (by simp)]
    generalize leavesL (u :: r) = ls at hlf
    clear hs h
    induction ls generalizing a with
    | nil => exact ⟨rfl, rfl⟩
    | cons x t ih =>
      have hx := hlf x (List.mem_cons_self ..)
      have h1 : leavesL [setD 0 x] = [setD 0 x] := leaves_one (u := setD 0 x) hx
      have h2 : ringB [setD 0 x] = false := by
        have : x.kind ≠ 5 := by intro e; rw [e] at hx; cases hx
        show (x.kind == 5) = false
        simpa using this
      obtain ⟨i1, i2⟩ := ih (a := a + 1) (fun y hy => hlf y (List.mem_cons_of_mem _ hy))
      rw [List.map_cons, ringsP, h1, h2, if_neg (by simp), List.map_cons, List.sum_cons, h1, i2]
      refine ⟨by simpa using i1, ?_⟩
      simp; omega
theorem flat_ringsP {l : Li} : ∀ (G : List (List Nd)) (a : Nat), (∀ g ∈ G, GV l g) → smallRings G → ringsP a (G.flatMap flatGs) = ringsP a G
  | [], _, _, _ => rfl
  | g :: r, a, h, hs => by
    obtain ⟨h1, h2⟩ := flatGs_rings (h g (List.mem_cons_self ..)) (hs g (List.mem_cons_self ..)) a
    rw [List.flatMap_cons, ringsP_app, h1, h2, flat_ringsP r _ (fun x hx => h x (List.mem_cons_of_mem _ hx)) (fun x hx => hs x (List.mem_cons_of_mem _ hx)), ringsP]
theorem rings_small : ∀ (G : List (List Nd)) (a : Nat), (∀ p ∈ ringsP a G, p.2 - p.1 ≤ 6) → smallRings G
  | [], _, _ => fun g hg => by cases hg
  | g :: r, a, h => by
    rw [ringsP] at h
    intro x hx
    rcases List.mem_cons.1 hx with rfl | hx
    · intro hb
      have := h (a, a + (leavesL x).length) (List.mem_append_left _ (by rw [if_pos hb]; simp))
      dsimp only at this; omega
    · exact rings_small r _ (fun p hp => h p (List.mem_append_right _ hp)) x hx
theorem flat_rings {l : Li} {ns : List Nd} (h : textErr l ns = 0) (hs : ∀ p ∈ ringsR ns, p.2 - p.1 ≤ 6) : ringsR ((partsN ns).flatMap flatGs).flatten = ringsR ns := by
  obtain ⟨_, _, h3⟩ := valid_parts h
  rw [rings_is (flat_valid h), partsN_flat (fun g hg => (flat_ok h3 g hg).sgl), rings_is h]
  rw [rings_is h] at hs
  exact flat_ringsP _ 0 h3 (rings_small _ _ hs)

end Go.Proofs.YtcijomljopbelaaGreat
