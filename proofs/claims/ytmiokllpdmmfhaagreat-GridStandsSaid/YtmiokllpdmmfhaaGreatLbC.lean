/-
  The shapes of a plain text, by the places of its nodes. And what builds on it.
-/
import Derived.Test.YtmiokllpdmmfhaaGreatLaJ
import Derived.Test.YtmiokllpdmmfhaaGreatLbB
import Derived.Test.YtmiokllpdmmfhaaGreatLaC
import Derived.Test.YtmiokllpdmmfhaaGreatLaK
import Derived.Test.YtmiokllpdmmfhaaGreatLaH
namespace Go.Proofs.YtmiokllpdmmfhaaGreat
def glyI (l : Li) (u : Nd) : Int × Int := ((sizeR l u.sign u.turn).1, (sizeR l u.sign u.turn).2.1)
def ringI (cw : Bool) (ks : List Shp) : Shp := if cw then .col 20 ks else .row 20 ks
def ovlI (l : Li) (ns : List Nd) (ks : List Nat) : Shp :=
  .ovl (getN ns (ks.getD 0 0)) (glyI l (getN ns (ks.getD 0 0))).1 (glyI l (getN ns (ks.getD 0 0))).2 (getN ns (ks.getD 1 0)) (glyI l (getN ns (ks.getD 1 0))).1 (glyI l (getN ns (ks.getD 1 0))).2
def shpI (l : Li) (cw : Bool) (ns : List Nd) : Nat → Nat → Shp
  | 0, i => .gap (getN ns i)
  | f + 1, i =>
    if kindAt ns i = 1 then .gly (getN ns i) (glyI l (getN ns i)).1 (glyI l (getN ns i)).2
    else if kindAt ns i = 6 then .gap (getN ns i)
    else if kindAt ns i = 4 then ovlI l ns (kidsL ns i)
    else if kindAt ns i = 2 then .row (4 * (5 - depthAt ns i)) ((kidsL ns i).map (shpI l cw ns f))
    else if kindAt ns i = 3 then .col (4 * (5 - depthAt ns i)) ((kidsL ns i).map (shpI l cw ns f))
    else .rng (getN ns i) (ringI cw ((kidsL ns i).map (shpI l cw ns f)))
structure Pln (l : Li) (ns : List Nd) : Prop where
  ok : textErr l ns = 0
  no7 : ∀ x ∈ ns, x.kind ≠ 7
theorem Pln.node {l : Li} {ns : List Nd} (h : Pln l ns) {i : Nat} {u : Nd} (hu : ns[i]? = some u) : nodeErr l (ns.take i) u = 0 := by
  obtain ⟨_, _, h3, _⟩ := text_ok h.ok
  have := nodes_at l ns [] h3 i u hu
  simpa using this
theorem Pln.full {l : Li} {ns : List Nd} (h : Pln l ns) : Full ns := by
  obtain ⟨_, _, h3, h4, h5, _⟩ := text_ok h.ok
  obtain ⟨h6, _, _, _⟩ := nodes_shape h3
  exact ⟨h6, h5, fun i u hu hk => leaf_kids h4 hu hk⟩
theorem signsErr_at (p : Int) : ∀ (r done : List Sg), signsErr p done r = 0 → ∀ (k : Nat) (s : Sg), r[k]? = some s → codeB s.code = true ∧ signErr s p = 0
  | [], _, _, k, v, h => by simp at h
  | x :: r, done, h0, k, v, h => by
    rw [signsErr] at h0
    split at h0
    · cases h0
    · rename_i hc
      split at h0
      · rename_i hs
        cases k with
        | zero =>
          injection h with h; subst h
          refine ⟨?_, hs⟩
          cases hcb : codeB x.code with
          | true => rfl
          | false => rw [hcb] at hc; simp at hc
        | succ k => exact signsErr_at p r _ h0 k v h
      · rename_i hs; exact absurd h0 hs
theorem alone_li {l : Li} (h : checkErr l = 0) {k : Nat} {s : Sg} (hk : l.signs[k]? = some s) : checkErr ⟨l.per, [s]⟩ = 0 := by
  unfold checkErr at h ⊢
  split at h
  · cases h
  · split at h
    · cases h
    · rename_i hp
      obtain ⟨h1, h2⟩ := signsErr_at _ _ _ h k s hk
      rw [if_neg (by simp), if_neg hp]
      simp [signsErr, h1, h2]
theorem glyph_in {l : Li} {a : List Nd} {u : Nd} (h : nodeErr l a u = 0) (hk : u.kind = 1) : (0 ≤ u.sign ∧ u.sign < (l.signs.length : Int)) ∧ (0 ≤ u.turn ∧ u.turn ≤ 3) := by
  rw [node_leaf (by rw [hk]; rfl)] at h
  split at h
  · cases h
  · unfold leafErr at h
    rw [if_pos hk] at h
    unfold glyphErr at h
    split at h
    · cases h
    · split at h
      · cases h
      · omega
theorem gap_in {l : Li} {a : List Nd} {u : Nd} (h : nodeErr l a u = 0) (hk : u.kind = 6) : 1 ≤ u.max ∧ u.max ≤ 9 := by
  rw [node_leaf (by rw [hk]; rfl)] at h
  split at h
  · cases h
  · unfold leafErr at h
    rw [if_neg (by omega)] at h
    unfold gapErr at h
    split at h
    · cases h
    · omega
theorem size_full {l : Li} (h : checkErr l = 0) {i t : Int} (hi : 0 ≤ i ∧ i < (l.signs.length : Int)) (ht : 0 ≤ t ∧ t ≤ 3) : sizeR l i t = if t = 1 ∨ t = 3 then ((whOf l i).2, (whOf l i).1, 0) else ((whOf l i).1, (whOf l i).2, 0) := by
  unfold sizeR
  rw [if_neg (by omega), if_neg]
  unfold hasB
  rintro (h1 | h1)
  · simp at h1; omega
  · omega
theorem gly_of {L : Lm} {ns : List Nd} (h : Pln L.li ns) {i : Nat} {u : Nd} (hu : ns[i]? = some u) (hk : u.kind = 1) : GlyOf L u (glyI L.li u).1 (glyI L.li u).2 := by
  obtain ⟨h1, h2⟩ := glyph_in (h.node hu) hk
  have hc := (text_ok h.ok).1
  obtain ⟨k, hk2⟩ : ∃ k : Nat, u.sign = (k : Int) := ⟨u.sign.toNat, by omega⟩
  have hl : L.li.signs.length = L.ms.length := by show L.signs.length = _; unfold Lm.signs; rw [List.length_map]
  have hlt : k < L.ms.length := by omega
  have hsg : L.li.signs[k]? = some (L.ms[k]).s := by
    show (L.ms.map (·.s))[k]? = _
    rw [List.getElem?_map, List.getElem?_eq_getElem hlt]; rfl
  refine ⟨hk, h2, k, L.ms[k], hk2, List.getElem?_eq_getElem hlt, ?_⟩
  unfold glyI
  have h4 := size_full (l := ⟨L.per, [(L.ms[k]).s]⟩) (i := 0) (alone_li hc hsg) ⟨by omega, by simp⟩ h2
  rw [size_full hc (by omega) h2, h4]
  have e : whOf L.li u.sign = whOf ⟨L.per, [(L.ms[k]).s]⟩ 0 := by
    unfold whOf
    rw [hk2, Int.toNat_natCast, hsg]; rfl
  show (if u.turn = 1 ∨ u.turn = 3 then _ else _) = _
  rw [← e]
  split <;> rfl
def underN (ns : List Nd) (d : Int) (i : Nat) : List Nd := (ns.drop (i + 1)).take (spanN ns d i)
theorem span_seg {ns : List Nd} {d : Int} {a b : Nat} (ha : a < b) (_hb : b ≤ ns.length) (hs : a + 1 + spanN ns d a ≤ b) : spanN ((ns.drop a).take (b - a)) d 0 = spanN ns d a := by
  have e : ((ns.drop a).take (b - a)).drop 1 = (ns.drop (a + 1)).take (b - (a + 1)) := by
    rw [List.drop_take, List.drop_drop, show b - a - 1 = b - (a + 1) by omega]
  have h1 : ((ns.drop (a + 1)).take (b - (a + 1))).takeWhile (fun n => decide (d < n.depth)) = ((ns.drop (a + 1)).takeWhile (fun n => decide (d < n.depth))).take (b - (a + 1)) := by
    generalize ns.drop (a + 1) = l
    generalize b - (a + 1) = n
    induction l generalizing n with
    | nil => simp
    | cons x r ih =>
      cases n with
      | zero => simp
      | succ n =>
        rw [List.take_succ_cons, List.takeWhile_cons, List.takeWhile_cons]
        split
        · rw [List.take_succ_cons, ih]
        · rw [List.take_nil]
  unfold spanN at hs ⊢
  rw [Nat.zero_add, e, h1, List.length_take]
  omega
theorem sh_seg {L : Lm} {cw : Bool} (ns : List Nd) (d : Int) (b : Nat) (S : Nat → Shp) (hb : b ≤ ns.length) (hend : ∀ u, ns[b]? = some u → u.depth ≤ d) (hS : ∀ j u, ns[j]? = some u → u.depth = d + 1 → ShOf L cw (S j) u (underN ns (d + 1) j)) :
    ∀ (n a : Nat), b - a ≤ n → a ≤ b → (∀ k, a ≤ k → k < b → ∃ u, ns[k]? = some u ∧ d < u.depth) → (∀ u, a < b → ns[a]? = some u → u.depth = d + 1) →
    ShsOf L cw (((List.range' a (b - a)).filter (kidB ns d)).map S) ((ns.drop a).take (b - a))
  | 0, a, hn, hab, _, _ => by rw [show b - a = 0 by omega]; exact List.take_zero
  | n + 1, a, hn, hab, hall, hfst => by
    rcases Nat.eq_or_lt_of_le hab with e | hlt
    · rw [show b - a = 0 by omega]; exact List.take_zero
    obtain ⟨u, hu, hud⟩ := hall a (Nat.le_refl _) hlt
    have hue := hfst u hlt hu
    have hal : a < ns.length := by omega
    obtain ⟨s, hs⟩ : ∃ s, s = spanN ns (d + 1) a := ⟨_, rfl⟩
    have hsl := spanN_le ns (d + 1) a hal
    rw [← hs] at hsl
    have hsb : a + 1 + s ≤ b := by
      rcases Nat.lt_or_ge b (a + 1 + s) with h | h
      · exfalso
        obtain ⟨y, hy, hyd⟩ := spanN_at (ns := ns) (d := d + 1) (i := a) (k := b - (a + 1)) (by omega)
        rw [show a + 1 + (b - (a + 1)) = b by omega] at hy
        have := hend y hy; omega
      · exact h
    have e1 : List.range' a (b - a) = a :: (List.range' (a + 1) s ++ List.range' (a + 1 + s) (b - (a + 1 + s))) := by
      rw [show b - a = s + (b - (a + 1 + s)) + 1 by omega, List.range'_succ, List.range'_append_1]
    have e2 : (List.range' (a + 1) s).filter (kidB ns d) = [] := by
      refine List.filter_eq_nil_iff.2 fun j hj => ?_
      rw [List.mem_range'_1] at hj
      obtain ⟨y, hy, hyd⟩ := spanN_at (ns := ns) (d := d + 1) (i := a) (k := j - (a + 1)) (by omega)
      rw [show a + 1 + (j - (a + 1)) = j by omega] at hy
      unfold kidB; rw [hy]; simp; omega
    have e3 : kidB ns d a = true := by unfold kidB; rw [hu]; simp [hue]
    have ih := sh_seg ns d b S hb hend hS n (a + 1 + s) (by omega) hsb (fun k h1 h2 => hall k (by omega) h2) (fun v hv hv2 => by
      rcases spanN_end ns (d + 1) a hal with h | ⟨y, hy, hyd⟩
      · omega
      · rw [← hs, hv2] at hy; injection hy with hy; subst hy
        obtain ⟨z, hz, hzd⟩ := hall (a + 1 + s) (by omega) hv
        rw [hv2] at hz; injection hz with hz; subst hz; omega)
    have e4 : (ns.drop a).take (b - a) = u :: (underN ns (d + 1) a ++ (ns.drop (a + 1 + s)).take (b - (a + 1 + s))) := by
      obtain ⟨_, hu2⟩ := List.getElem?_eq_some_iff.1 hu
      rw [List.drop_eq_getElem_cons hal, hu2, show b - a = s + (b - (a + 1 + s)) + 1 by omega, List.take_succ_cons, List.take_add]
      unfold underN
      rw [← hs, List.drop_drop]
    rw [e1, List.filter_cons, if_pos e3, List.filter_append, e2, List.nil_append, List.map_cons]
    refine ⟨u, underN ns (d + 1) a, _, e4, ?_, hS a u hu hue, ih⟩
    rw [hue, span_seg hlt hb (by omega)]
    unfold underN
    rw [List.length_take, List.length_drop]
    omega
theorem kids_sh {L : Lm} {cw : Bool} {ns : List Nd} (hr : Rises ns) {i : Nat} {u : Nd} (hu : ns[i]? = some u) (S : Nat → Shp) (hS : ∀ j v, ns[j]? = some v → v.depth = u.depth + 1 → ShOf L cw (S j) v (underN ns (u.depth + 1) j)) : ShsOf L cw ((kidsL ns i).map S) (underN ns u.depth i) := by
  have hil := (List.getElem?_eq_some_iff.1 hu).1
  have hle := spanN_le ns u.depth i hil
  have := sh_seg (L := L) (cw := cw) ns u.depth (i + 1 + spanN ns u.depth i) S hle (fun y hy => by
    rcases spanN_end ns u.depth i hil with e | ⟨z, hz, hzd⟩
    · have := (List.getElem?_eq_some_iff.1 hy).1; omega
    · rw [hz] at hy; injection hy with hy; subst hy; exact hzd) hS (spanN ns u.depth i) (i + 1) (by omega) (by omega) (fun k h1 h2 => by
    obtain ⟨y, hy, hyd⟩ := spanN_at (ns := ns) (d := u.depth) (i := i) (k := k - (i + 1)) (by omega)
    rw [show i + 1 + (k - (i + 1)) = k by omega] at hy
    exact ⟨y, hy, hyd⟩) (fun y hlt hy => by
    obtain ⟨z, hz, hzd⟩ := spanN_at (ns := ns) (d := u.depth) (i := i) (k := 0) (by omega)
    rw [Nat.add_zero, hy] at hz; injection hz with hz; subst hz
    exact kids_fst hr hu hy hzd)
  rw [show i + 1 + spanN ns u.depth i - (i + 1) = spanN ns u.depth i by omega] at this
  have hkl : kidsL ns i = (List.range' (i + 1) (spanN ns u.depth i)).filter (kidB ns u.depth) := by unfold kidsL; rw [hu]
  rw [hkl]; exact this
theorem Pln.fits {l : Li} {ns : List Nd} (h : Pln l ns) : fitsB ns = true := (text_ok h.ok).2.2.2.1
theorem ovl_kids {l : Li} {ns : List Nd} (h : Pln l ns) {i : Nat} {u : Nd} (hu : ns[i]? = some u) (hk : u.kind = 4) : ∃ n1 n2, ns[i + 1]? = some n1 ∧ ns[i + 2]? = some n2 ∧ n1.kind = 1 ∧ n2.kind = 1 ∧ kidsL ns i = [i + 1, i + 2] ∧ underN ns u.depth i = [n1, n2] := by
  have hil := (List.getElem?_eq_some_iff.1 hu).1
  have hf := fits_at h.fits i hil
  have hl : (kidsL ns i).length = 2 := by
    unfold kidsFitB at hf
    rw [kindAt_is hu, hk] at hf
    simp only [Bool.and_eq_true, Bool.not_eq_true', decide_eq_false_iff_not] at hf
    have e : kidsR 4 = (2, 2) := rfl
    rw [e] at hf
    dsimp only at hf
    omega
  have hall : ∀ j ∈ kidsL ns i, kindAt ns j = 1 := fun j hj => by
    have := fits_kid h.fits hil hj
    rw [kindAt_is hu, hk] at this
    unfold holdsB at this
    split at this
    · cases this
    · split at this
      · simp at this
      · simpa using this
  have hle := spanN_le ns u.depth i hil
  have hseg := kids_seg ns u.depth (i + 1 + spanN ns u.depth i) hle (fun y hy => by
    rcases spanN_end ns u.depth i hil with e | ⟨z, hz, hzd⟩
    · have := (List.getElem?_eq_some_iff.1 hy).1; omega
    · rw [hz] at hy; injection hy with hy; subst hy; exact hzd) (spanN ns u.depth i) (i + 1) (by omega) (by omega) (fun k h1 h2 => by
    obtain ⟨y, hy, hyd⟩ := spanN_at (ns := ns) (d := u.depth) (i := i) (k := k - (i + 1)) (by omega)
    rw [show i + 1 + (k - (i + 1)) = k by omega] at hy
    exact ⟨y, hy, hyd⟩) (fun y hlt hy => by
    obtain ⟨z, hz, hzd⟩ := spanN_at (ns := ns) (d := u.depth) (i := i) (k := 0) (by omega)
    rw [Nat.add_zero, hy] at hz; injection hz with hz; subst hz
    exact kids_fst h.full.rises hu hy hzd)
  rw [show i + 1 + spanN ns u.depth i - (i + 1) = spanN ns u.depth i by omega] at hseg
  have hkl : kidsL ns i = (List.range' (i + 1) (spanN ns u.depth i)).filter (kidB ns u.depth) := by unfold kidsL; rw [hu]
  rw [← hkl] at hseg
  have hz : ∀ j ∈ kidsL ns i, spanN ns (u.depth + 1) j = 0 := fun j hj => by
    obtain ⟨x, hx, hxd⟩ := kids_at hu hj
    have hkx := hall j hj
    rw [kindAt_is hx] at hkx
    have := leaf_span h.full hx (by rw [hkx]; rfl)
    rw [hxd] at this; exact this
  have hfm : (kidsL ns i).flatMap (fun j => List.range' j (1 + spanN ns (u.depth + 1) j)) = kidsL ns i := by
    have : ∀ l : List Nat, (∀ j ∈ l, spanN ns (u.depth + 1) j = 0) → l.flatMap (fun j => List.range' j (1 + spanN ns (u.depth + 1) j)) = l := by
      intro l
      induction l with
      | nil => intro _; rfl
      | cons a r ih =>
        intro hh
        rw [List.flatMap_cons, hh a (List.mem_cons_self ..), ih (fun j hj => hh j (List.mem_cons_of_mem _ hj))]; rfl
    exact this _ hz
  rw [hfm] at hseg
  have hsp : spanN ns u.depth i = 2 := by
    have := congrArg List.length hseg
    rw [hl, List.length_range'] at this; omega
  rw [hsp] at hseg hle
  obtain ⟨n1, h1⟩ : ∃ x, ns[i + 1]? = some x := ⟨_, List.getElem?_eq_getElem (by omega)⟩
  obtain ⟨n2, h2⟩ : ∃ x, ns[i + 2]? = some x := ⟨_, List.getElem?_eq_getElem (by omega)⟩
  have hk1 : kidsL ns i = [i + 1, i + 2] := by rw [hseg]; rfl
  refine ⟨n1, n2, h1, h2, ?_, ?_, hk1, ?_⟩
  · have := hall (i + 1) (by rw [hk1]; simp)
    rwa [kindAt_is h1] at this
  · have := hall (i + 2) (by rw [hk1]; simp)
    rwa [kindAt_is h2] at this
  · unfold underN
    rw [hsp]
    obtain ⟨a1, e1⟩ := List.getElem?_eq_some_iff.1 h1
    obtain ⟨a2, e2⟩ := List.getElem?_eq_some_iff.1 h2
    rw [List.drop_eq_getElem_cons a1, e1, List.take_succ_cons, List.drop_eq_getElem_cons a2, e2, List.take_succ_cons, List.take_zero]
theorem kind_in {l : Li} {ns : List Nd} (h : Pln l ns) {i : Nat} {u : Nd} (hu : ns[i]? = some u) : u.kind = 1 ∨ u.kind = 2 ∨ u.kind = 3 ∨ u.kind = 4 ∨ u.kind = 5 ∨ u.kind = 6 := by
  have h1 := (nodeErr_kind (h.node hu)).1
  have h2 := h.no7 u (List.mem_of_getElem? hu)
  omega
theorem sh_of {L : Lm} (cw : Bool) {ns : List Nd} (h : Pln L.li ns) : ∀ (f i : Nat) (u : Nd), ns[i]? = some u → 5 ≤ u.depth + f → ShOf L cw (shpI L.li cw ns f i) u (underN ns u.depth i)
  | 0, i, u, hu, hf => by have := (h.full.depth u (List.mem_of_getElem? hu)).2; omega
  | f + 1, i, u, hu, hf => by
    have hg := getN_at hu
    have hkA := kindAt_is hu
    have hdA : depthAt ns i = u.depth := by unfold depthAt; rw [hg]
    have hd := h.full.depth u (List.mem_of_getElem? hu)
    have hks := kids_sh (L := L) (cw := cw) h.full.rises hu (shpI L.li cw ns f) (fun j v hv hvd => by
      have := sh_of cw h f j v hv (by omega)
      rw [hvd] at this; exact this)
    rw [shpI, hkA, hg, hdA]
    rcases kind_in h hu with hk | hk | hk | hk | hk | hk
    · rw [if_pos hk]; exact ⟨rfl, gly_of h hu hk⟩
    · rw [if_neg (by omega), if_neg (by omega), if_neg (by omega), if_pos hk]
      exact ⟨hk, ⟨hd.1, by omega⟩, rfl, hks⟩
    · rw [if_neg (by omega), if_neg (by omega), if_neg (by omega), if_neg (by omega), if_pos hk]
      exact ⟨hk, ⟨hd.1, by omega⟩, rfl, hks⟩
    · rw [if_neg (by omega), if_neg (by omega), if_pos hk]
      obtain ⟨n1, n2, h1, h2, k1, k2, hkl, hbl⟩ := ovl_kids h hu hk
      rw [hkl, hbl]
      unfold ovlI
      have e1 : getN ns ([i + 1, i + 2].getD 0 0) = n1 := getN_at h1
      have e2 : getN ns ([i + 1, i + 2].getD 1 0) = n2 := getN_at h2
      rw [e1, e2]
      exact ⟨hk, rfl, gly_of h h1 k1, gly_of h h2 k2⟩
    · rw [if_neg (by omega), if_neg (by omega), if_neg (by omega), if_neg (by omega), if_neg (by omega)]
      unfold ringI
      cases cw
      · exact ⟨rfl, hk, rfl, rfl, hks⟩
      · exact ⟨rfl, hk, rfl, rfl, hks⟩
    · rw [if_neg (by omega), if_pos hk]; exact ⟨rfl, hk⟩
def shpsI (l : Li) (cw : Bool) (ns : List Nd) : List Shp := (topsL ns).map (shpI l cw ns 5)
theorem shs_of {L : Lm} (cw : Bool) {ns : List Nd} (h : Pln L.li ns) : ShsOf L cw (shpsI L.li cw ns) ns := by
  have hf := h.full
  have hs := shape_of h.ok
  have := sh_seg (L := L) (cw := cw) ns (-1) ns.length (shpI L.li cw ns 5) (Nat.le_refl _) (fun u hu => by simp at hu) (fun j u hu hd => by
    have h0 : u.depth = 0 := by omega
    have := sh_of cw h 5 j u hu (by omega)
    rw [h0] at this; exact this) ns.length 0 (by omega) (Nat.zero_le _) (fun k _ hk => ⟨ns[k], List.getElem?_eq_getElem hk, by have := (hf.depth ns[k] (List.getElem_mem hk)).1; omega⟩) (fun u hlt hu => by
    have a := hs.first u hu
    have b := (hf.depth u (List.mem_of_getElem? hu)).1
    omega)
  rw [Nat.sub_zero, List.drop_zero, List.take_length] at this
  unfold shpsI topsL
  rw [List.range_eq_range']
  have e : (atD ns 0) = kidB ns (-1) := by funext j; unfold atD kidB; rfl
  rw [e]; exact this
/- sizes -/
def bndI : Nat → Int
  | 0 => 0
  | 1 => 108
  | f + 1 => 6 * bndI f + 124
theorem bndI_le : ∀ f, f ≤ 5 → 0 ≤ bndI f ∧ bndI f ≤ 172084 := by decide
theorem sum_le : ∀ (ks : List Shp) (B : Int), (∀ k ∈ ks, (0 ≤ k.size.1 ∧ k.size.1 ≤ B) ∧ (0 ≤ k.size.2 ∧ k.size.2 ≤ B)) → 0 ≤ B → (0 ≤ sumW ks ∧ sumW ks ≤ ks.length * B) ∧ (0 ≤ sumH ks ∧ sumH ks ≤ ks.length * B) ∧ (0 ≤ maxW ks ∧ maxW ks ≤ B) ∧ (0 ≤ maxH ks ∧ maxH ks ≤ B)
  | [], B, _, hB => by simp [sumW, sumH, maxW, maxH]; omega
  | x :: r, B, h, hB => by
    have h1 := h x (List.mem_cons_self ..)
    have h2 := sum_le r B (fun k hk => h k (List.mem_cons_of_mem _ hk)) hB
    rw [sumW, sumH, maxW, maxH, List.length_cons]
    have e : ((r.length + 1 : Nat) : Int) * B = r.length * B + B := by push_cast; rw [Int.add_mul, Int.one_mul]
    rw [e]
    omega
theorem goodS_of : ∀ {ks : List Shp}, (∀ k ∈ ks, k.good) → goodS ks
  | [], _ => trivial
  | x :: _r, h => ⟨h x (List.mem_cons_self ..), goodS_of fun k hk => h k (List.mem_cons_of_mem _ hk)⟩
theorem gly_bd {l : Li} {ns : List Nd} (h : Pln l ns) {i : Nat} {u : Nd} (hu : ns[i]? = some u) (hk : u.kind = 1) : (0 ≤ (glyI l u).1 ∧ (glyI l u).1 ≤ 12) ∧ (0 ≤ (glyI l u).2 ∧ (glyI l u).2 ≤ 12) := by
  obtain ⟨h1, h2⟩ := glyph_in (h.node hu) hk
  have hc := (text_ok h.ok).1
  unfold glyI
  rw [size_full hc h1 h2]
  have hw : (0 ≤ (whOf l u.sign).1 ∧ (whOf l u.sign).1 ≤ 12) ∧ (0 ≤ (whOf l u.sign).2 ∧ (whOf l u.sign).2 ≤ 12) := by
    unfold whOf
    have hlt : u.sign.toNat < l.signs.length := by omega
    rw [List.getElem?_eq_getElem hlt]
    dsimp only
    have hs : signErr (l.signs[u.sign.toNat]) l.per = 0 := by
      unfold checkErr at hc
      split at hc
      · cases hc
      · split at hc
        · cases hc
        · exact (signsErr_at _ _ _ hc _ _ (List.getElem?_eq_getElem hlt)).2
    unfold signErr at hs
    split at hs
    · cases hs
    · rename_i hw
      simp [withinB] at hw
      omega
  split <;> exact ⟨by first | exact hw.1 | exact hw.2, by first | exact hw.1 | exact hw.2⟩
theorem sh_bd {l : Li} (cw : Bool) {ns : List Nd} (h : Pln l ns) : ∀ (f i : Nat) (u : Nd), ns[i]? = some u → 5 ≤ u.depth + f → f ≤ 5 → (shpI l cw ns f i).good ∧ (0 ≤ (shpI l cw ns f i).size.1 ∧ (shpI l cw ns f i).size.1 ≤ bndI f) ∧ (0 ≤ (shpI l cw ns f i).size.2 ∧ (shpI l cw ns f i).size.2 ≤ bndI f)
  | 0, i, u, hu, hf, _ => by have := (h.full.depth u (List.mem_of_getElem? hu)).2; omega
  | f + 1, i, u, hu, hf, h5 => by
    have hg := getN_at hu
    have hkA := kindAt_is hu
    have hdA : depthAt ns i = u.depth := by unfold depthAt; rw [hg]
    have hd := h.full.depth u (List.mem_of_getElem? hu)
    have hb0 := bndI_le f (by omega)
    have hb1 := bndI_le (f + 1) h5
    have hb2 : 108 ≤ bndI (f + 1) := by cases f with
      | zero => decide
      | succ f => rw [bndI]; omega; simp
    have hkids : ∀ k ∈ (kidsL ns i).map (shpI l cw ns f), k.good ∧ (0 ≤ k.size.1 ∧ k.size.1 ≤ bndI f) ∧ (0 ≤ k.size.2 ∧ k.size.2 ≤ bndI f) := fun k hk => by
      obtain ⟨j, hj, rfl⟩ := List.mem_map.1 hk
      obtain ⟨v, hv, hvd⟩ := kids_at hu hj
      exact sh_bd cw h f j v hv (by omega) (by omega)
    have hsix := fits_six h.fits i
    obtain ⟨ks, hks⟩ : ∃ ks, ks = (kidsL ns i).map (shpI l cw ns f) := ⟨_, rfl⟩
    rw [← hks] at hkids
    have hlen : ks.length ≤ 6 := by rw [hks, List.length_map]; exact hsix
    have hlow : u.kind ≠ 1 → u.kind ≠ 6 → 1 ≤ ks.length := fun a b => by
      have := fits_low h.fits (List.getElem?_eq_some_iff.1 hu).1
      rw [hkA] at this
      rw [hks, List.length_map]
      unfold kidsR leafB at this
      split at this
      · rename_i hh; simp at hh; omega
      · split at this
        · dsimp only at this; omega
        · split at this <;> (dsimp only at this; omega)
    have hf1 : 1 ≤ ks.length → bndI (f + 1) = 6 * bndI f + 124 := fun hk => by
      cases f with
      | zero =>
        exfalso
        obtain ⟨k, hkm⟩ := List.exists_mem_of_length_pos (show 0 < ks.length by omega)
        rw [hks] at hkm
        obtain ⟨j, hj, _⟩ := List.mem_map.1 hkm
        obtain ⟨v, hv, hvd⟩ := kids_at hu hj
        have := (h.full.depth v (List.mem_of_getElem? hv)).2
        omega
      | succ f => rw [bndI]; simp
    have hsum := sum_le ks (bndI f) (fun k hk => (hkids k hk).2) hb0.1
    have hm1 : (ks.length : Int) * bndI f ≤ 6 * bndI f := Int.mul_le_mul_of_nonneg_right (by omega) hb0.1
    have hgs : goodS ks := goodS_of fun k hk => (hkids k hk).1
    have hline : ∀ sp : Int, 0 ≤ sp ∧ sp ≤ 20 → 1 ≤ ks.length → 0 ≤ sp * ((ks.length : Int) - 1) ∧ sp * ((ks.length : Int) - 1) ≤ 100 := fun sp hsp hk => by
      have a := Int.mul_nonneg hsp.1 (show 0 ≤ (ks.length : Int) - 1 by omega)
      have b := Int.mul_le_mul hsp.2 (show (ks.length : Int) - 1 ≤ 5 by omega) (by omega) (by omega)
      omega
    have hrow : ∀ sp : Int, 0 ≤ sp ∧ sp ≤ 20 → 1 ≤ ks.length → ((Shp.row sp ks).good ∧ (0 ≤ (Shp.row sp ks).size.1 ∧ (Shp.row sp ks).size.1 ≤ 6 * bndI f + 100) ∧ (0 ≤ (Shp.row sp ks).size.2 ∧ (Shp.row sp ks).size.2 ≤ 6 * bndI f + 100)) := fun sp hsp hk => by
      have := hline sp hsp hk
      have e := hf1 hk
      have hz : (0 ≤ (Shp.row sp ks).size.1 ∧ (Shp.row sp ks).size.1 ≤ 6 * bndI f + 100) ∧ (0 ≤ (Shp.row sp ks).size.2 ∧ (Shp.row sp ks).size.2 ≤ 6 * bndI f + 100) := by
        rw [Shp.size]; dsimp only; omega
      refine ⟨⟨by omega, by omega, ?_, hgs⟩, hz⟩
      unfold szB; omega
    have hcol : ∀ sp : Int, 0 ≤ sp ∧ sp ≤ 20 → 1 ≤ ks.length → ((Shp.col sp ks).good ∧ (0 ≤ (Shp.col sp ks).size.1 ∧ (Shp.col sp ks).size.1 ≤ 6 * bndI f + 100) ∧ (0 ≤ (Shp.col sp ks).size.2 ∧ (Shp.col sp ks).size.2 ≤ 6 * bndI f + 100)) := fun sp hsp hk => by
      have := hline sp hsp hk
      have e := hf1 hk
      have hz : (0 ≤ (Shp.col sp ks).size.1 ∧ (Shp.col sp ks).size.1 ≤ 6 * bndI f + 100) ∧ (0 ≤ (Shp.col sp ks).size.2 ∧ (Shp.col sp ks).size.2 ≤ 6 * bndI f + 100) := by
        rw [Shp.size]; dsimp only; omega
      refine ⟨⟨by omega, by omega, ?_, hgs⟩, hz⟩
      unfold szB; omega
    rw [shpI, hkA, hg, hdA, ← hks]
    rcases kind_in h hu with hk | hk | hk | hk | hk | hk
    · rw [if_pos hk]
      have := gly_bd h hu hk
      rw [Shp.good, Shp.size]; dsimp only; omega
    · rw [if_neg (by omega), if_neg (by omega), if_neg (by omega), if_pos hk]
      have h1 := hlow (by omega) (by omega)
      have := hrow (4 * (5 - u.depth)) (by omega) h1
      have e := hf1 h1
      exact ⟨this.1, by omega, by omega⟩
    · rw [if_neg (by omega), if_neg (by omega), if_neg (by omega), if_neg (by omega), if_pos hk]
      have h1 := hlow (by omega) (by omega)
      have := hcol (4 * (5 - u.depth)) (by omega) h1
      have e := hf1 h1
      exact ⟨this.1, by omega, by omega⟩
    · rw [if_neg (by omega), if_neg (by omega), if_pos hk]
      obtain ⟨n1, n2, h1, h2, k1, k2, hkl, hbl⟩ := ovl_kids h hu hk
      rw [hkl]
      unfold ovlI
      have e1 : getN ns ([i + 1, i + 2].getD 0 0) = n1 := getN_at h1
      have e2 : getN ns ([i + 1, i + 2].getD 1 0) = n2 := getN_at h2
      rw [e1, e2]
      have := gly_bd h h1 k1
      rw [Shp.good, Shp.size]; dsimp only; omega
    · rw [if_neg (by omega), if_neg (by omega), if_neg (by omega), if_neg (by omega), if_neg (by omega)]
      have h1 := hlow (by omega) (by omega)
      have e := hf1 h1
      unfold ringI
      cases cw
      · have := hrow 20 (by omega) h1
        rw [if_neg (by simp), Shp.good, Shp.size]
        dsimp only
        refine ⟨⟨?_, this.1.szB, this.1⟩, by omega, by omega⟩
        unfold szB; rw [Shp.size]; dsimp only; omega
      · have := hcol 20 (by omega) h1
        rw [if_pos rfl, Shp.good, Shp.size]
        dsimp only
        refine ⟨⟨?_, this.1.szB, this.1⟩, by omega, by omega⟩
        unfold szB; rw [Shp.size]; dsimp only; omega
    · rw [if_neg (by omega), if_pos hk]
      have := gap_in (h.node hu) hk
      rw [Shp.good, Shp.size]; dsimp only; omega
theorem shps_good {l : Li} (cw : Bool) {ns : List Nd} (h : Pln l ns) : ∀ s ∈ shpsI l cw ns, s.good := fun s hs => by
  obtain ⟨j, hj, rfl⟩ := List.mem_map.1 hs
  obtain ⟨u, hu, hd⟩ := tops_at hj
  exact (sh_bd cw h 5 j u hu (by omega) (Nat.le_refl _)).1
theorem plain_pln {l : Li} {ns zs : List Nd} (h : textErr l ns = 0) (hq : regQ plainP l ns = (zs, 0)) : Pln l zs := by
  rw [plainT_is h] at hq
  injection hq with hq _
  subst hq
  have hv := plain_valid h
  have ha := plain_again h
  refine ⟨hv, fun x hx e => ?_⟩
  obtain ⟨_, _, hG⟩ := valid_parts h
  obtain ⟨g, hg, hxg⟩ := List.mem_flatten.1 hx
  obtain ⟨g0, hg0, rfl⟩ := List.mem_map.1 hg
  have h0 := hG g0 hg0
  have hp := plainP_ok h0
  have ht := plainP_twice h0
  have hln : (plainP g0).length ≤ 200 := by
    have a := plainP_len g0
    have b := mem_len hg0
    rw [partsN_all] at b
    have := (text_ok h).2.1
    omega
  generalize plainP g0 = q at hp ht hxg hln
  obtain ⟨u, r, rfl, hu, hr⟩ := hp.sgl
  have h7 : u.kind ≠ 7 := fun e => by
    rw [plainP_cons, if_pos (by simp [e])] at ht
    injection ht with ht _
    have : (u.atK 2).kind = u.kind := by rw [ht]
    rw [e] at this
    cases this
  obtain ⟨j, hj⟩ := List.getElem?_of_mem hxg
  have hs : Shape (u :: r) := shape_of (group_valid (valid_parts h).1 hln hp)
  have hjl := (List.getElem?_eq_some_iff.1 hj).1
  have hdx : 0 < depthAt (u :: r) j := by
    cases j with
    | zero => injection hj with hj; subst hj; exact absurd e h7
    | succ j => unfold depthAt; rw [getN_at hj]; exact hr x (List.mem_of_getElem? (show r[j]? = some x from hj))
  obtain ⟨i, h1, h2, h3, _⟩ := hon_ring hs hjl (by rw [kindAt_is hj]; exact e) hdx
  have hi0 : i = 0 := by
    cases i with
    | zero => rfl
    | succ i =>
      exfalso
      obtain ⟨v, hv⟩ : ∃ v, (u :: r)[i + 1]? = some v := ⟨_, List.getElem?_eq_getElem (by omega)⟩
      unfold depthAt at h3; rw [getN_at hv] at h3
      have := hr v (List.mem_of_getElem? (show r[i]? = some v from hv))
      omega
  subst hi0
  have hk5 : u.kind = 5 := h2
  cases r with
  | nil => rw [h1] at hj; cases hj
  | cons y t =>
    rw [h1] at hj
    injection hj with hj
    subst hj
    rw [plainP_cons, if_neg (by simp [h7]), if_pos (by simp [hk5, honB, e])] at ht
    have := congrArg List.length ht
    simp at this
open Go.RowKit
def pageErr (way len : Int) : Int := if way < 1 ∨ 4 < way ∨ len < 48 ∨ 4800 < len then 40 else 0
set_option maxRecDepth 100000 in
set_option maxHeartbeats 4000000 in
theorem gpage_any (way len : Int) (w : World) : Calls Tryz.prog 21 #[.agg #[.int .i64 way, .int .i64 len]] w fun e w' => e = .returned (.int .i64 (pageErr way len)) ∧ Below w.heap.size w w' := by
  obtain ⟨r, hr⟩ : ∃ r, r = pageErr way len := ⟨_, rfl⟩
  have HR := Lib.hid hr
  rw [← hr]
  clear hr
  unfold pageErr at HR
  by_cases h1 : way < 1
  · have HF := Lib.hid (show r = 40 by rw [HR.out, if_pos (by omega)])
    have d1 : decide (way < 1) = true := decide_eq_true h1
    clear h1 HR
    go_enter Tryz.func21, Tryz.ntmps21
    go_wp2_with fail
    go_ret
    rw [HF.out]
    exact ⟨rfl, below_alloc _ _⟩
  have d1 : decide (way < 1) = false := decide_eq_false h1
  by_cases h2 : 4 < way
  · have HF := Lib.hid (show r = 40 by rw [HR.out, if_pos (by omega)])
    have d2 : decide (4 < way) = true := decide_eq_true h2
    clear h1 h2 HR
    go_enter Tryz.func21, Tryz.ntmps21
    go_wp2_with fail
    go_ret
    rw [HF.out]
    exact ⟨rfl, below_alloc _ _⟩
  have d2 : decide (4 < way) = false := decide_eq_false h2
  by_cases h3 : len < 48
  · have HF := Lib.hid (show r = 40 by rw [HR.out, if_pos (by omega)])
    have d3 : decide (len < 48) = true := decide_eq_true h3
    clear h1 h2 h3 HR
    go_enter Tryz.func21, Tryz.ntmps21
    go_wp2_with fail
    go_ret
    rw [HF.out]
    exact ⟨rfl, below_alloc _ _⟩
  have d3 : decide (len < 48) = false := decide_eq_false h3
  by_cases h4 : 4800 < len
  · have HF := Lib.hid (show r = 40 by rw [HR.out, if_pos (by omega)])
    have d4 : decide (4800 < len) = true := decide_eq_true h4
    clear h1 h2 h3 h4 HR
    go_enter Tryz.func21, Tryz.ntmps21
    go_wp2_with fail
    go_ret
    rw [HF.out]
    exact ⟨rfl, below_alloc _ _⟩
  have d4 : decide (4800 < len) = false := decide_eq_false h4
  have HF := Lib.hid (show r = 0 by rw [HR.out, if_neg (by omega)])
  clear h1 h2 h3 h4 HR
  go_enter Tryz.func21, Tryz.ntmps21
  go_wp2_with fail
  go_ret
  rw [HF.out]
  exact ⟨rfl, below_alloc _ _⟩
set_option maxRecDepth 100000 in
set_option maxHeartbeats 4000000 in
theorem rpage_any (way len : Int) (w : World) : Calls Tryz.prog 22 #[.agg #[.int .i64 way, .int .i64 len]] w fun e w' => e = .returned (.int .i64 (pageErr way len)) ∧ Below w.heap.size w w' := by
  obtain ⟨r, hr⟩ : ∃ r, r = pageErr way len := ⟨_, rfl⟩
  have HR := Lib.hid hr
  rw [← hr]
  clear hr
  unfold pageErr at HR
  by_cases h1 : way < 1
  · have HF := Lib.hid (show r = 40 by rw [HR.out, if_pos (by omega)])
    have d1 : decide (way < 1) = true := decide_eq_true h1
    clear h1 HR
    go_enter Tryz.func22, Tryz.ntmps22
    go_wp2_with fail
    go_ret
    rw [HF.out]
    exact ⟨rfl, below_alloc _ _⟩
  have d1 : decide (way < 1) = false := decide_eq_false h1
  by_cases h2 : 4 < way
  · have HF := Lib.hid (show r = 40 by rw [HR.out, if_pos (by omega)])
    have d2 : decide (4 < way) = true := decide_eq_true h2
    clear h1 h2 HR
    go_enter Tryz.func22, Tryz.ntmps22
    go_wp2_with fail
    go_ret
    rw [HF.out]
    exact ⟨rfl, below_alloc _ _⟩
  have d2 : decide (4 < way) = false := decide_eq_false h2
  by_cases h3 : len < 48
  · have HF := Lib.hid (show r = 40 by rw [HR.out, if_pos (by omega)])
    have d3 : decide (len < 48) = true := decide_eq_true h3
    clear h1 h2 h3 HR
    go_enter Tryz.func22, Tryz.ntmps22
    go_wp2_with fail
    go_ret
    rw [HF.out]
    exact ⟨rfl, below_alloc _ _⟩
  have d3 : decide (len < 48) = false := decide_eq_false h3
  by_cases h4 : 4800 < len
  · have HF := Lib.hid (show r = 40 by rw [HR.out, if_pos (by omega)])
    have d4 : decide (4800 < len) = true := decide_eq_true h4
    clear h1 h2 h3 h4 HR
    go_enter Tryz.func22, Tryz.ntmps22
    go_wp2_with fail
    go_ret
    rw [HF.out]
    exact ⟨rfl, below_alloc _ _⟩
  have d4 : decide (4800 < len) = false := decide_eq_false h4
  have HF := Lib.hid (show r = 0 by rw [HR.out, if_neg (by omega)])
  clear h1 h2 h3 h4 HR
  go_enter Tryz.func22, Tryz.ntmps22
  go_wp2_with fail
  go_ret
  rw [HF.out]
  exact ⟨rfl, below_alloc _ _⟩
open Go.RowKit
set_option maxRecDepth 100000 in
set_option maxHeartbeats 8000000 in
theorem way2_any (w : World) : Calls Tryz.prog 64 #[.int .i64 2] w (GotWay false true 131 132 135 136 w) := by
  obtain ⟨W, hW⟩ : ∃ W, W = w.alloc (.cells wayZ 102) := ⟨_, rfl⟩
  have HB := Lib.hid (show Below w.heap.size w W from hW ▸ below_alloc _ _)
  have D := Lib.hid (show W.heap[w.heap.size]? = some (.cells wayZ 102 (0, 0)) by rw [hW]; exact heap_alloc_new _ _)
  have HSW := Lib.hid (show W.heap.size = w.heap.size + 1 by rw [hW]; simp)
  unfold wayZ at hW
  go_enter Tryz.func64, Tryz.ntmps64
  go_wp2_with fail
  rw [← hW]
  clear hW
  refine (sideways_any _).mono ?_; rintro e w1 ⟨p, rfl, hp, hpb, hb⟩
  have HB1 := Lib.hid (below_more HB.out hb)
  have D := Lib.hid (blk_keep hb D.out)
  have HP := Lib.hid hpb
  have HPS := Lib.hid (show w.heap.size < p by have := HSW.out; omega)
  clear hb hp hpb
  go_wp2_with fail
  refine (downwards_any _).mono ?_; rintro e w2 ⟨q, rfl, hq, hqb, hb⟩
  have HB2 := Lib.hid (below_more HB1.out hb)
  have D := Lib.hid (blk_keep hb D.out)
  have HP0 := Lib.hid HP.out
  have HP := Lib.hid (blk_keep hb HP.out)
  have HQ := Lib.hid hqb
  have HQS := Lib.hid (show w.heap.size < q by have := HB1.out.size; have := HPS.out; have := (Array.getElem?_eq_some_iff.1 HP0.out).1; omega)
  clear hb hq hqb
  have q0 := cell_of_blk D.out 0
  have f0 := free_of_blk D.out 0
  have q1 := cell_of_blk D.out 1
  have f1 := free_of_blk D.out 1
  have q2 := cell_of_blk D.out 2
  have f2 := free_of_blk D.out 2
  have q3 := cell_of_blk D.out 3
  have f3 := free_of_blk D.out 3
  have q4 := cell_of_blk D.out 4
  have f4 := free_of_blk D.out 4
  have q5 := cell_of_blk D.out 5
  have f5 := free_of_blk D.out 5
  have q6 := cell_of_blk D.out 6
  have f6 := free_of_blk D.out 6
  have q7 := cell_of_blk D.out 7
  have f7 := free_of_blk D.out 7
  have hs := (Array.getElem?_eq_some_iff.1 D.out).1
  simp [wayZ] at q0 q1 q2 q3 q4 q5 q6 q7
  go_wp2_with fail
  refine bodyPost_ret (v := .agg #[.bool false, .bool true, .func (.func 131) #[] #[], .func (.func 132) #[] #[], .func (.func 172) #[] #[.pointer (some ⟨p, 0, none⟩)], .func (.func 135) #[] #[], .func (.func 136) #[] #[], .func (.func 172) #[] #[.pointer (some ⟨q, 0, none⟩)]]) (by simp [results, Tryz.results64, go_sem, hs, q0, q1, q2, q3, q4, q5, q6, q7]) rfl ⟨p, q, rfl, ?_, ?_, ?_⟩
  · have h1 := (Array.getElem?_eq_some_iff.1 HP.out).1
    have hne : p ≠ w.heap.size := by have := HPS.out; omega
    clear q0 q1 q2 q3 q4 q5 q6 q7 f0 f1 f2 f3 f4 f5 f6 f7
    rw [heap_alloc_other _ _ _ (by simp; omega)]
    repeat rw [heap_setCell_other _ _ _ _ hne]
    exact HP.out
  · have h1 := (Array.getElem?_eq_some_iff.1 HQ.out).1
    have hne : q ≠ w.heap.size := by have := HQS.out; omega
    clear q0 q1 q2 q3 q4 q5 q6 q7 f0 f1 f2 f3 f4 f5 f6 f7
    rw [heap_alloc_other _ _ _ (by simp; omega)]
    repeat rw [heap_setCell_other _ _ _ _ hne]
    exact HQ.out
  · have h1 := HB2.out.size
    clear q0 q1 q2 q3 q4 q5 q6 q7 f0 f1 f2 f3 f4 f5 f6 f7
    refine Below.alloc ?_ (by simp; omega) _
    iterate 8 (refine Below.setCell ?_ (by dsimp only; omega) _)
    exact HB2.out
set_option maxRecDepth 100000 in
set_option maxHeartbeats 8000000 in
theorem way3_any (w : World) : Calls Tryz.prog 64 #[.int .i64 3] w (GotWay true false 135 136 131 132 w) := by
  obtain ⟨W, hW⟩ : ∃ W, W = w.alloc (.cells wayZ 102) := ⟨_, rfl⟩
  have HB := Lib.hid (show Below w.heap.size w W from hW ▸ below_alloc _ _)
  have D := Lib.hid (show W.heap[w.heap.size]? = some (.cells wayZ 102 (0, 0)) by rw [hW]; exact heap_alloc_new _ _)
  have HSW := Lib.hid (show W.heap.size = w.heap.size + 1 by rw [hW]; simp)
  unfold wayZ at hW
  go_enter Tryz.func64, Tryz.ntmps64
  go_wp2_with fail
  rw [← hW]
  clear hW
  refine (sideways_any _).mono ?_; rintro e w1 ⟨p, rfl, hp, hpb, hb⟩
  have HB1 := Lib.hid (below_more HB.out hb)
  have D := Lib.hid (blk_keep hb D.out)
  have HP := Lib.hid hpb
  have HPS := Lib.hid (show w.heap.size < p by have := HSW.out; omega)
  clear hb hp hpb
  go_wp2_with fail
  refine (downwards_any _).mono ?_; rintro e w2 ⟨q, rfl, hq, hqb, hb⟩
  have HB2 := Lib.hid (below_more HB1.out hb)
  have D := Lib.hid (blk_keep hb D.out)
  have HP0 := Lib.hid HP.out
  have HP := Lib.hid (blk_keep hb HP.out)
  have HQ := Lib.hid hqb
  have HQS := Lib.hid (show w.heap.size < q by have := HB1.out.size; have := HPS.out; have := (Array.getElem?_eq_some_iff.1 HP0.out).1; omega)
  clear hb hq hqb
  have q0 := cell_of_blk D.out 0
  have f0 := free_of_blk D.out 0
  have q1 := cell_of_blk D.out 1
  have f1 := free_of_blk D.out 1
  have q2 := cell_of_blk D.out 2
  have f2 := free_of_blk D.out 2
  have q3 := cell_of_blk D.out 3
  have f3 := free_of_blk D.out 3
  have q4 := cell_of_blk D.out 4
  have f4 := free_of_blk D.out 4
  have q5 := cell_of_blk D.out 5
  have f5 := free_of_blk D.out 5
  have q6 := cell_of_blk D.out 6
  have f6 := free_of_blk D.out 6
  have q7 := cell_of_blk D.out 7
  have f7 := free_of_blk D.out 7
  have hs := (Array.getElem?_eq_some_iff.1 D.out).1
  simp [wayZ] at q0 q1 q2 q3 q4 q5 q6 q7
  go_wp2_with fail
  refine bodyPost_ret (v := .agg #[.bool true, .bool false, .func (.func 135) #[] #[], .func (.func 136) #[] #[], .func (.func 172) #[] #[.pointer (some ⟨q, 0, none⟩)], .func (.func 131) #[] #[], .func (.func 132) #[] #[], .func (.func 172) #[] #[.pointer (some ⟨p, 0, none⟩)]]) (by simp [results, Tryz.results64, go_sem, hs, q0, q1, q2, q3, q4, q5, q6, q7]) rfl ⟨q, p, rfl, ?_, ?_, ?_⟩
  · have h1 := (Array.getElem?_eq_some_iff.1 HQ.out).1
    have hne : q ≠ w.heap.size := by have := HQS.out; omega
    clear q0 q1 q2 q3 q4 q5 q6 q7 f0 f1 f2 f3 f4 f5 f6 f7
    rw [heap_alloc_other _ _ _ (by simp; omega)]
    repeat rw [heap_setCell_other _ _ _ _ hne]
    exact HQ.out
  · have h1 := (Array.getElem?_eq_some_iff.1 HP.out).1
    have hne : p ≠ w.heap.size := by have := HPS.out; omega
    clear q0 q1 q2 q3 q4 q5 q6 q7 f0 f1 f2 f3 f4 f5 f6 f7
    rw [heap_alloc_other _ _ _ (by simp; omega)]
    repeat rw [heap_setCell_other _ _ _ _ hne]
    exact HP.out
  · have h1 := HB2.out.size
    clear q0 q1 q2 q3 q4 q5 q6 q7 f0 f1 f2 f3 f4 f5 f6 f7
    refine Below.alloc ?_ (by simp; omega) _
    iterate 8 (refine Below.setCell ?_ (by dsimp only; omega) _)
    exact HB2.out
set_option maxRecDepth 100000 in
set_option maxHeartbeats 8000000 in
theorem way4_any (w : World) : Calls Tryz.prog 64 #[.int .i64 4] w (GotWay true true 135 136 131 132 w) := by
  obtain ⟨W, hW⟩ : ∃ W, W = w.alloc (.cells wayZ 102) := ⟨_, rfl⟩
  have HB := Lib.hid (show Below w.heap.size w W from hW ▸ below_alloc _ _)
  have D := Lib.hid (show W.heap[w.heap.size]? = some (.cells wayZ 102 (0, 0)) by rw [hW]; exact heap_alloc_new _ _)
  have HSW := Lib.hid (show W.heap.size = w.heap.size + 1 by rw [hW]; simp)
  unfold wayZ at hW
  go_enter Tryz.func64, Tryz.ntmps64
  go_wp2_with fail
  rw [← hW]
  clear hW
  refine (sideways_any _).mono ?_; rintro e w1 ⟨p, rfl, hp, hpb, hb⟩
  have HB1 := Lib.hid (below_more HB.out hb)
  have D := Lib.hid (blk_keep hb D.out)
  have HP := Lib.hid hpb
  have HPS := Lib.hid (show w.heap.size < p by have := HSW.out; omega)
  clear hb hp hpb
  go_wp2_with fail
  refine (downwards_any _).mono ?_; rintro e w2 ⟨q, rfl, hq, hqb, hb⟩
  have HB2 := Lib.hid (below_more HB1.out hb)
  have D := Lib.hid (blk_keep hb D.out)
  have HP0 := Lib.hid HP.out
  have HP := Lib.hid (blk_keep hb HP.out)
  have HQ := Lib.hid hqb
  have HQS := Lib.hid (show w.heap.size < q by have := HB1.out.size; have := HPS.out; have := (Array.getElem?_eq_some_iff.1 HP0.out).1; omega)
  clear hb hq hqb
  have q0 := cell_of_blk D.out 0
  have f0 := free_of_blk D.out 0
  have q1 := cell_of_blk D.out 1
  have f1 := free_of_blk D.out 1
  have q2 := cell_of_blk D.out 2
  have f2 := free_of_blk D.out 2
  have q3 := cell_of_blk D.out 3
  have f3 := free_of_blk D.out 3
  have q4 := cell_of_blk D.out 4
  have f4 := free_of_blk D.out 4
  have q5 := cell_of_blk D.out 5
  have f5 := free_of_blk D.out 5
  have q6 := cell_of_blk D.out 6
  have f6 := free_of_blk D.out 6
  have q7 := cell_of_blk D.out 7
  have f7 := free_of_blk D.out 7
  have hs := (Array.getElem?_eq_some_iff.1 D.out).1
  simp [wayZ] at q0 q1 q2 q3 q4 q5 q6 q7
  go_wp2_with fail
  refine bodyPost_ret (v := .agg #[.bool true, .bool true, .func (.func 135) #[] #[], .func (.func 136) #[] #[], .func (.func 172) #[] #[.pointer (some ⟨q, 0, none⟩)], .func (.func 131) #[] #[], .func (.func 132) #[] #[], .func (.func 172) #[] #[.pointer (some ⟨p, 0, none⟩)]]) (by simp [results, Tryz.results64, go_sem, hs, q0, q1, q2, q3, q4, q5, q6, q7]) rfl ⟨q, p, rfl, ?_, ?_, ?_⟩
  · have h1 := (Array.getElem?_eq_some_iff.1 HQ.out).1
    have hne : q ≠ w.heap.size := by have := HQS.out; omega
    clear q0 q1 q2 q3 q4 q5 q6 q7 f0 f1 f2 f3 f4 f5 f6 f7
    rw [heap_alloc_other _ _ _ (by simp; omega)]
    repeat rw [heap_setCell_other _ _ _ _ hne]
    exact HQ.out
  · have h1 := (Array.getElem?_eq_some_iff.1 HP.out).1
    have hne : p ≠ w.heap.size := by have := HPS.out; omega
    clear q0 q1 q2 q3 q4 q5 q6 q7 f0 f1 f2 f3 f4 f5 f6 f7
    rw [heap_alloc_other _ _ _ (by simp; omega)]
    repeat rw [heap_setCell_other _ _ _ _ hne]
    exact HP.out
  · have h1 := HB2.out.size
    clear q0 q1 q2 q3 q4 q5 q6 q7 f0 f1 f2 f3 f4 f5 f6 f7
    refine Below.alloc ?_ (by simp; omega) _
    iterate 8 (refine Below.setCell ?_ (by dsimp only; omega) _)
    exact HB2.out
def axA1 (c : Bool) : Nat := if c then 135 else 131
def axA2 (c : Bool) : Nat := if c then 136 else 132
def axB1 (c : Bool) : Nat := if c then 131 else 135
def axB2 (c : Bool) : Nat := if c then 132 else 136
def cwN (n : Int) : Bool := decide (2 < n)
def mwN (n : Int) : Bool := (n == 2) || (n == 4)
theorem wayN_any (n : Int) (h : 1 ≤ n ∧ n ≤ 4) (w : World) : Calls Tryz.prog 64 #[.int .i64 n] w (GotWay (cwN n) (mwN n) (axA1 (cwN n)) (axA2 (cwN n)) (axB1 (cwN n)) (axB2 (cwN n)) w) := by
  obtain rfl | rfl | rfl | rfl : n = 1 ∨ n = 2 ∨ n = 3 ∨ n = 4 := by omega
  · exact wayRow_any w
  · exact way2_any w
  · exact way3_any w
  · exact way4_any w
open Go.RowKit
def GotPrepN (cw mw : Bool) (a1 a2 b1 b2 : Nat) (L : Lm) (zs : List Nd) (w : World) (e : Ending) (w' : World) : Prop := ∃ A c pw qw, e = .returned (.tuple #[.slice A zs.length c, .agg #[.int .i64 L.per, .slice L.A L.ms.length L.cap, .bool cw, .bool mw, .func (.func a1) #[] #[], .func (.func a2) #[] #[], .func (.func 172) #[] #[.pointer (some ⟨pw, 0, none⟩)], .func (.func b1) #[] #[], .func (.func b2) #[] #[], .func (.func 172) #[] #[.pointer (some ⟨qw, 0, none⟩)]], .int .i64 0]) ∧ Hid (w'.ownsRow w.heap.size 87 8 (.slice A zs.length c) zs.length (zs.flatMap Nd.cells)) ∧ Below w.heap.size w w'
set_option maxRecDepth 100000 in
set_option maxHeartbeats 8000000 in
theorem prepN_any (way : Int) (cw mw : Bool) (a1 a2 b1 b2 : Nat) (hw : ∀ wx, Calls Tryz.prog 64 #[.int .i64 way] wx (GotWay cw mw a1 a2 b1 b2 wx)) (L : Lm) (A : Option Addr) (cap : Nat) (ns zs : List Nd) (len : Int) (w : World) (hl : LmOk w L) (hn : NdsAt w A ns) (hc1 : ns.length ≤ cap) (hc : cap ≤ maxLen) (hQ : regQ plainP L.li ns = (zs, 0)) (hlen : pageErr way len = 0) :
    Calls Tryz.prog 51 #[.agg #[.int .i64 L.per, .slice L.A L.ms.length L.cap], .agg #[.slice A ns.length cap], .agg #[.int .i64 way, .int .i64 len]] w (GotPrepN cw mw a1 a2 b1 b2 L zs w) := by
  have HPL := Lib.hid (fun wx (hb : Below w.heap.size w wx) => show Calls Tryz.prog 93 #[.agg #[.int .i64 L.per, .slice L.A L.ms.length L.cap], .agg #[.slice A ns.length cap]] wx (GotTextO wx zs 0) by
    have := plainT_any L A cap ns wx (hl.below hb) (hn.below hb) hc1 hc
    rw [hQ] at this; exact this)
  have HW := Lib.hid hw
  have HCK := Lib.hid (fun wx => show Calls Tryz.prog 21 #[.agg #[.int .i64 way, .int .i64 len]] wx (fun e w' => e = .returned (.int .i64 0) ∧ Below wx.heap.size wx w') by
    have := gpage_any way len wx; rw [hlen] at this; exact this)
  obtain ⟨N, hN⟩ : ∃ N, N = ns.length := ⟨_, rfl⟩
  rw [← hN] at HPL hc1 ⊢
  unfold maxLen at hc
  clear hl hn hQ hN hlen hw
  obtain ⟨W1, hW1⟩ : ∃ W1, W1 = w.alloc (.cells #[.int .i64 L.per, .slice L.A L.ms.length L.cap] 24) := ⟨_, rfl⟩
  obtain ⟨W2, hW2⟩ : ∃ W2, W2 = W1.alloc (.cells #[.slice A N cap] 27) := ⟨_, rfl⟩
  obtain ⟨W3, hW3⟩ : ∃ W3, W3 = W2.alloc (.cells #[.int .i64 way, .int .i64 len] 31) := ⟨_, rfl⟩
  obtain ⟨W, hW⟩ : ∃ W, W = W3.alloc (.cells #[.int .i64 0, .slice none 0 0, .bool false, .bool false, .nilFunc, .nilFunc, .nilFunc, .nilFunc, .nilFunc, .nilFunc] 104) := ⟨_, rfl⟩
  have s1 : W1.heap.size = w.heap.size + 1 := by rw [hW1]; simp
  have s2 : W2.heap.size = w.heap.size + 1 + 1 := by rw [hW2]; simp [s1]
  have s3 : W3.heap.size = w.heap.size + 1 + 1 + 1 := by rw [hW3]; simp [s2]
  have s4 : W.heap.size = w.heap.size + 1 + 1 + 1 + 1 := by rw [hW]; simp [s3]
  have k1 : Below w.heap.size w W1 := hW1 ▸ below_alloc _ _
  have k2 : Below W1.heap.size W1 W2 := hW2 ▸ below_alloc _ _
  have k3 : Below W2.heap.size W2 W3 := hW3 ▸ below_alloc _ _
  have k4 : Below W3.heap.size W3 W := hW ▸ below_alloc _ _
  have HB := Lib.hid (below_more (below_more (below_more k1 k2) k3) k4)
  have D0 := Lib.hid (blk_keep k4 (blk_keep k3 (blk_keep k2 (show W1.heap[w.heap.size]? = some (.cells #[.int .i64 L.per, .slice L.A L.ms.length L.cap] 24 (0, 0)) by rw [hW1]; exact heap_alloc_new _ _))))
  have D1 := Lib.hid (blk_keep k4 (blk_keep k3 (show W2.heap[w.heap.size + 1]? = some (.cells #[.slice A N cap] 27 (0, 0)) by rw [hW2, ← s1]; exact heap_alloc_new _ _)))
  have D2 := Lib.hid (blk_keep k4 (show W3.heap[w.heap.size + 1 + 1]? = some (.cells #[.int .i64 way, .int .i64 len] 31 (0, 0)) by rw [hW3, ← s2]; exact heap_alloc_new _ _))
  have D3 := Lib.hid (show W.heap[w.heap.size + 1 + 1 + 1]? = some (.cells #[.int .i64 0, .slice none 0 0, .bool false, .bool false, .nilFunc, .nilFunc, .nilFunc, .nilFunc, .nilFunc, .nilFunc] 104 (0, 0)) by rw [hW, ← s3]; exact heap_alloc_new _ _)
  have hSZ := Lib.hid s4
  clear s1 s2 s3 s4 k1 k2 k3 k4
  go_enter Tryz.func51, Tryz.ntmps51
  go_wp2_with fail
  rw [← hW1, ← hW2, ← hW3, ← hW]
  clear hW1 hW2 hW3 hW
  have x0 := cell_of_blk D0.out 0
  have x1 := cell_of_blk D0.out 1
  have y0 := cell_of_blk D1.out 0
  have hz0 := (Array.getElem?_eq_some_iff.1 D0.out).1
  have hz1 := (Array.getElem?_eq_some_iff.1 D1.out).1
  simp at x0 x1 y0
  go_wp2_with fail
  refine (HPL.out _ HB.out).mono ?_; rintro e v1 ⟨Ap, kp, cp, rfl, hkp, hown, hb1⟩
  have hk2 := hkp.out
  subst hk2
  have HO1 := Lib.hid hown.out
  have HB1 := Lib.hid (below_more HB.out hb1)
  have E0 := Lib.hid (blk_keep hb1 D0.out)
  have E2 := Lib.hid (blk_keep hb1 D2.out)
  have E3 := Lib.hid (blk_keep hb1 D3.out)
  clear hkp hown hb1 x0 x1 y0 hz0 hz1
  have p0 := cell_of_blk E2.out 0
  have p1 := cell_of_blk E2.out 1
  have hz2 := (Array.getElem?_eq_some_iff.1 E2.out).1
  simp at p0 p1
  go_wp2_with fail
  obtain ⟨V1, hV1⟩ : ∃ V1, V1 = v1.alloc (.cells #[.slice Ap zs.length cp] 27) := ⟨_, rfl⟩
  have hbv1 : Below v1.heap.size v1 V1 := hV1 ▸ below_alloc _ _
  have T1 := Lib.hid (show V1.heap[v1.heap.size]? = some (.cells #[.slice Ap zs.length cp] 27 (0, 0)) from hV1 ▸ heap_alloc_new _ _)
  rw [← hV1]
  clear hV1
  refine (HCK.out _).mono ?_; rintro e v2 ⟨rfl, hb2⟩
  have HB2 := Lib.hid (below_more (below_more HB1.out hbv1) hb2)
  have HO2 := Lib.hid (own_base (ownsRow_of_block HO1.out (fun g hg => (below_more hbv1 hb2).block g (HO1.out.lt g hg).2)) HB.out.size)
  have F0 := Lib.hid (blk_keep (below_more hbv1 hb2) E0.out)
  have F2 := Lib.hid (blk_keep (below_more hbv1 hb2) E2.out)
  have F3 := Lib.hid (blk_keep (below_more hbv1 hb2) E3.out)
  have T2 := Lib.hid (blk_keep hb2 T1.out)
  clear hb2 hbv1 p0 p1 hz2
  have p0 := cell_of_blk F2.out 0
  have hz2 := (Array.getElem?_eq_some_iff.1 F2.out).1
  have x0 := cell_of_blk F0.out 0
  have x1 := cell_of_blk F0.out 1
  have hz0 := (Array.getElem?_eq_some_iff.1 F0.out).1
  have t0 := cell_of_blk T2.out 0
  have hz1 := (Array.getElem?_eq_some_iff.1 T2.out).1
  simp at p0 x0 x1 t0
  go_wp2_with fail
  have hvs : w.heap.size + 1 + 1 + 1 < v1.heap.size := by have := (Array.getElem?_eq_some_iff.1 E3.out).1; omega
  have hvs2 : v1.heap.size < v2.heap.size := hz1
  have HKS := Lib.hid (fun (wx : World) (hb : ∀ b, b < v2.heap.size → b ≠ w.heap.size + 1 + 1 + 1 → wx.heap[b]? = v2.heap[b]?) => show wx.cell? ⟨v1.heap.size, 0, none⟩ = some (.slice Ap zs.length cp) ∧ wx.cell? ⟨w.heap.size, 0, none⟩ = some (.int .i64 L.per) ∧ wx.cell? ⟨w.heap.size, 1, none⟩ = some (.slice L.A L.ms.length L.cap) ∧ wx.cell? ⟨w.heap.size + 1 + 1, 0, none⟩ = some (.int .i64 way) from
    ⟨cell_of_blk ((hb _ (by omega) (by omega)).trans T2.out) 0, cell_of_blk ((hb _ (by omega) (by omega)).trans F0.out) 0, cell_of_blk ((hb _ (by omega) (by omega)).trans F0.out) 1, cell_of_blk ((hb _ (by omega) (by omega)).trans F2.out) 0⟩)
  have HDR := Lib.hid (show Below v2.heap.size v2 v2.drew from (Below.refl _ _).drew)
  clear p0 x0 x1 t0
  go_region_held3 (fun wx => wx.cell? ⟨v1.heap.size, 0, none⟩ = some (.slice Ap zs.length cp) ∧ wx.cell? ⟨w.heap.size, 0, none⟩ = some (.int .i64 L.per) ∧ wx.cell? ⟨w.heap.size, 1, none⟩ = some (.slice L.A L.ms.length L.cap) ∧ wx.cell? ⟨w.heap.size + 1 + 1, 0, none⟩ = some (.int .i64 way))
    ((refine HKS.out _ ?_; first | with_reducible exact (fun b hb _ => HDR.out.block b hb) | with_reducible exact (fun b hb _ => hk1.block b hb) | with_reducible exact (fun b hb hn => (heap_setCell_other _ _ _ _ hn).trans ((heap_setCell_other _ _ _ _ hn).trans ((heap_setCell_other _ _ _ _ hn).trans ((heap_setCell_other _ _ _ _ hn).trans ((heap_setCell_other _ _ _ _ hn).trans ((heap_setCell_other _ _ _ _ hn).trans ((heap_setCell_other _ _ _ _ hn).trans ((heap_setCell_other _ _ _ _ hn).trans ((heap_setCell_other _ _ _ _ hn).trans ((heap_setCell_other _ _ _ _ hn).trans (hk1.block b (hb))))))))))))))
    (first
      | (go_at_call 64; refine (HW.out _).mono ?_; rintro e x1 ⟨pw, qw, rfl, hpw, hqw, hx1⟩; have hk1 : Below v2.heap.size v2 x1 := below_more HDR.out hx1; have qk := blk_keep hk1 F3.out; have q0 := cell_of_blk qk 0; have f0 := free_of_blk qk 0; have q1 := cell_of_blk qk 1; have f1 := free_of_blk qk 1; have q2 := cell_of_blk qk 2; have f2 := free_of_blk qk 2; have q3 := cell_of_blk qk 3; have f3 := free_of_blk qk 3; have q4 := cell_of_blk qk 4; have f4 := free_of_blk qk 4; have q5 := cell_of_blk qk 5; have f5 := free_of_blk qk 5; have q6 := cell_of_blk qk 6; have f6 := free_of_blk qk 6; have q7 := cell_of_blk qk 7; have f7 := free_of_blk qk 7; have q8 := cell_of_blk qk 8; have f8 := free_of_blk qk 8; have q9 := cell_of_blk qk 9; have f9 := free_of_blk qk 9; have hqs := (Array.getElem?_eq_some_iff.1 qk).1; simp at q0 q1 q2 q3 q4 q5 q6 q7 q8 q9; clear qk)
      | fail)
  go_wp2_with fail
  refine bodyPost_ret (v := .tuple #[.slice Ap zs.length cp, .agg #[.int .i64 L.per, .slice L.A L.ms.length L.cap, .bool cw, .bool mw, .func (.func a1) #[] #[], .func (.func a2) #[] #[], .func (.func 172) #[] #[.pointer (some ⟨pw, 0, none⟩)], .func (.func b1) #[] #[], .func (.func b2) #[] #[], .func (.func 172) #[] #[.pointer (some ⟨qw, 0, none⟩)]], .int .i64 0]) (by simp [results, Tryz.results51, go_sem, q0, q1, q2, q3, q4, q5, q6, q7, q8, q9]) rfl ⟨Ap, cp, pw, qw, rfl, Lib.hid (ownsRow_of_block HO2.out (fun g hg => ?_)), ?_⟩
  · have hn : g ≠ w.heap.size + 1 + 1 + 1 := by have := (HO1.out.lt g hg).1; have := hSZ.out; omega
    exact (heap_setCell_other _ _ _ _ hn).trans ((heap_setCell_other _ _ _ _ hn).trans ((heap_setCell_other _ _ _ _ hn).trans ((heap_setCell_other _ _ _ _ hn).trans ((heap_setCell_other _ _ _ _ hn).trans ((heap_setCell_other _ _ _ _ hn).trans ((heap_setCell_other _ _ _ _ hn).trans ((heap_setCell_other _ _ _ _ hn).trans ((heap_setCell_other _ _ _ _ hn).trans ((heap_setCell_other _ _ _ _ hn).trans (hk1.block g (HO2.out.lt g hg).2))))))))))
  · clear q0 q1 q2 q3 q4 q5 q6 q7 q8 q9 f0 f1 f2 f3 f4 f5 f6 f7 f8 f9
    have hbf := below_more HB2.out hk1
    iterate 10 (refine Below.setCell ?_ (by dsimp only; omega) _)
    exact hbf
open Go.RowKit
set_option maxRecDepth 100000 in
set_option maxHeartbeats 8000000 in
theorem prepErrT_any (way E : Int) (hE : E ≠ 0) (L : Lm) (A : Option Addr) (cap : Nat) (ns zs : List Nd) (len : Int) (w : World) (hl : LmOk w L) (hn : NdsAt w A ns) (hc1 : ns.length ≤ cap) (hc : cap ≤ maxLen) (hQ : regQ plainP L.li ns = (zs, E)) :
    Calls Tryz.prog 51 #[.agg #[.int .i64 L.per, .slice L.A L.ms.length L.cap], .agg #[.slice A ns.length cap], .agg #[.int .i64 way, .int .i64 len]] w (fun e w' => e = .returned (.tuple #[.slice none 0 0, .agg #[.int .i64 0, .slice none 0 0, .bool false, .bool false, .nilFunc, .nilFunc, .nilFunc, .nilFunc, .nilFunc, .nilFunc], .int .i64 E]) ∧ Below w.heap.size w w') := by
  have HPL := Lib.hid (fun wx (hb : Below w.heap.size w wx) => show Calls Tryz.prog 93 #[.agg #[.int .i64 L.per, .slice L.A L.ms.length L.cap], .agg #[.slice A ns.length cap]] wx (GotTextO wx zs E) by
    have := plainT_any L A cap ns wx (hl.below hb) (hn.below hb) hc1 hc
    rw [hQ] at this; exact this)
  have hbE : (E != 0) = true := by simpa using hE
  obtain ⟨N, hN⟩ : ∃ N, N = ns.length := ⟨_, rfl⟩
  rw [← hN] at HPL hc1 ⊢
  unfold maxLen at hc
  clear hl hn hQ hN hE
  obtain ⟨W1, hW1⟩ : ∃ W1, W1 = w.alloc (.cells #[.int .i64 L.per, .slice L.A L.ms.length L.cap] 24) := ⟨_, rfl⟩
  obtain ⟨W2, hW2⟩ : ∃ W2, W2 = W1.alloc (.cells #[.slice A N cap] 27) := ⟨_, rfl⟩
  obtain ⟨W3, hW3⟩ : ∃ W3, W3 = W2.alloc (.cells #[.int .i64 way, .int .i64 len] 31) := ⟨_, rfl⟩
  obtain ⟨W, hW⟩ : ∃ W, W = W3.alloc (.cells #[.int .i64 0, .slice none 0 0, .bool false, .bool false, .nilFunc, .nilFunc, .nilFunc, .nilFunc, .nilFunc, .nilFunc] 104) := ⟨_, rfl⟩
  have s1 : W1.heap.size = w.heap.size + 1 := by rw [hW1]; simp
  have s2 : W2.heap.size = w.heap.size + 1 + 1 := by rw [hW2]; simp [s1]
  have s3 : W3.heap.size = w.heap.size + 1 + 1 + 1 := by rw [hW3]; simp [s2]
  have s4 : W.heap.size = w.heap.size + 1 + 1 + 1 + 1 := by rw [hW]; simp [s3]
  have k1 : Below w.heap.size w W1 := hW1 ▸ below_alloc _ _
  have k2 : Below W1.heap.size W1 W2 := hW2 ▸ below_alloc _ _
  have k3 : Below W2.heap.size W2 W3 := hW3 ▸ below_alloc _ _
  have k4 : Below W3.heap.size W3 W := hW ▸ below_alloc _ _
  have HB := Lib.hid (below_more (below_more (below_more k1 k2) k3) k4)
  have D0 := Lib.hid (blk_keep k4 (blk_keep k3 (blk_keep k2 (show W1.heap[w.heap.size]? = some (.cells #[.int .i64 L.per, .slice L.A L.ms.length L.cap] 24 (0, 0)) by rw [hW1]; exact heap_alloc_new _ _))))
  have D1 := Lib.hid (blk_keep k4 (blk_keep k3 (show W2.heap[w.heap.size + 1]? = some (.cells #[.slice A N cap] 27 (0, 0)) by rw [hW2, ← s1]; exact heap_alloc_new _ _)))
  have D2 := Lib.hid (blk_keep k4 (show W3.heap[w.heap.size + 1 + 1]? = some (.cells #[.int .i64 way, .int .i64 len] 31 (0, 0)) by rw [hW3, ← s2]; exact heap_alloc_new _ _))
  have D3 := Lib.hid (show W.heap[w.heap.size + 1 + 1 + 1]? = some (.cells #[.int .i64 0, .slice none 0 0, .bool false, .bool false, .nilFunc, .nilFunc, .nilFunc, .nilFunc, .nilFunc, .nilFunc] 104 (0, 0)) by rw [hW, ← s3]; exact heap_alloc_new _ _)
  have hSZ := Lib.hid s4
  clear s1 s2 s3 s4 k1 k2 k3 k4
  go_enter Tryz.func51, Tryz.ntmps51
  go_wp2_with fail
  rw [← hW1, ← hW2, ← hW3, ← hW]
  clear hW1 hW2 hW3 hW
  have x0 := cell_of_blk D0.out 0
  have x1 := cell_of_blk D0.out 1
  have y0 := cell_of_blk D1.out 0
  have hz0 := (Array.getElem?_eq_some_iff.1 D0.out).1
  have hz1 := (Array.getElem?_eq_some_iff.1 D1.out).1
  simp at x0 x1 y0
  go_wp2_with fail
  refine (HPL.out _ HB.out).mono ?_; rintro e v1 ⟨Ap, kp, cp, rfl, hkp, hown, hb1⟩
  have hk2 := hkp.out
  subst hk2
  have HO1 := Lib.hid hown.out
  have HB1 := Lib.hid (below_more HB.out hb1)
  have E0 := Lib.hid (blk_keep hb1 D0.out)
  have E2 := Lib.hid (blk_keep hb1 D2.out)
  have E3 := Lib.hid (blk_keep hb1 D3.out)
  clear hkp hown hb1 x0 x1 y0 hz0 hz1 HO1 E0 E2
  have hsz := HB1.out.size
  have q0 := cell_of_blk E3.out 0; have qf0 := free_of_blk E3.out 0; have q1 := cell_of_blk E3.out 1; have qf1 := free_of_blk E3.out 1; have q2 := cell_of_blk E3.out 2; have qf2 := free_of_blk E3.out 2; have q3 := cell_of_blk E3.out 3; have qf3 := free_of_blk E3.out 3; have q4 := cell_of_blk E3.out 4; have qf4 := free_of_blk E3.out 4; have q5 := cell_of_blk E3.out 5; have qf5 := free_of_blk E3.out 5; have q6 := cell_of_blk E3.out 6; have qf6 := free_of_blk E3.out 6; have q7 := cell_of_blk E3.out 7; have qf7 := free_of_blk E3.out 7; have q8 := cell_of_blk E3.out 8; have qf8 := free_of_blk E3.out 8; have q9 := cell_of_blk E3.out 9; have qf9 := free_of_blk E3.out 9; have hz_q := (Array.getElem?_eq_some_iff.1 E3.out).1; simp at q0 q1 q2 q3 q4 q5 q6 q7 q8 q9
  go_wp2_with fail
  refine bodyPost_ret (v := .tuple #[.slice none 0 0, .agg #[.int .i64 0, .slice none 0 0, .bool false, .bool false, .nilFunc, .nilFunc, .nilFunc, .nilFunc, .nilFunc, .nilFunc], .int .i64 E]) (by simp [results, Tryz.results51, go_sem, q0, q1, q2, q3, q4, q5, q6, q7, q8, q9, hz_q]) rfl ⟨rfl, ?_⟩
  clear q0 q1 q2 q3 q4 q5 q6 q7 q8 q9 hz_q qf0 qf1 qf2 qf3 qf4 qf5 qf6 qf7 qf8 qf9
  have hbf := HB1.out
  repeat (first | with_reducible exact hbf | with_reducible refine Below.drew ?_ | with_reducible refine Below.alloc ?_ (by first | omega | (simp; omega)) _ | with_reducible refine Below.setCell ?_ (by dsimp only; omega) _)
set_option maxRecDepth 100000 in
set_option maxHeartbeats 8000000 in
theorem prepErrG_any (way E : Int) (hE : E ≠ 0) (L : Lm) (A : Option Addr) (cap : Nat) (ns zs : List Nd) (len : Int) (w : World) (hl : LmOk w L) (hn : NdsAt w A ns) (hc1 : ns.length ≤ cap) (hc : cap ≤ maxLen) (hQ : regQ plainP L.li ns = (zs, 0)) (hlen : pageErr way len = E) :
    Calls Tryz.prog 51 #[.agg #[.int .i64 L.per, .slice L.A L.ms.length L.cap], .agg #[.slice A ns.length cap], .agg #[.int .i64 way, .int .i64 len]] w (fun e w' => e = .returned (.tuple #[.slice none 0 0, .agg #[.int .i64 0, .slice none 0 0, .bool false, .bool false, .nilFunc, .nilFunc, .nilFunc, .nilFunc, .nilFunc, .nilFunc], .int .i64 E]) ∧ Below w.heap.size w w') := by
  have HPL := Lib.hid (fun wx (hb : Below w.heap.size w wx) => show Calls Tryz.prog 93 #[.agg #[.int .i64 L.per, .slice L.A L.ms.length L.cap], .agg #[.slice A ns.length cap]] wx (GotTextO wx zs 0) by
    have := plainT_any L A cap ns wx (hl.below hb) (hn.below hb) hc1 hc
    rw [hQ] at this; exact this)
  have hbE : (E != 0) = true := by simpa using hE
  have HCK := Lib.hid (fun wx => show Calls Tryz.prog 21 #[.agg #[.int .i64 way, .int .i64 len]] wx (fun e w' => e = .returned (.int .i64 E) ∧ Below wx.heap.size wx w') by
    have := gpage_any way len wx; rw [hlen] at this; exact this)
  obtain ⟨N, hN⟩ : ∃ N, N = ns.length := ⟨_, rfl⟩
  rw [← hN] at HPL hc1 ⊢
  unfold maxLen at hc
  clear hl hn hQ hN hlen hE
  obtain ⟨W1, hW1⟩ : ∃ W1, W1 = w.alloc (.cells #[.int .i64 L.per, .slice L.A L.ms.length L.cap] 24) := ⟨_, rfl⟩
  obtain ⟨W2, hW2⟩ : ∃ W2, W2 = W1.alloc (.cells #[.slice A N cap] 27) := ⟨_, rfl⟩
  obtain ⟨W3, hW3⟩ : ∃ W3, W3 = W2.alloc (.cells #[.int .i64 way, .int .i64 len] 31) := ⟨_, rfl⟩
  obtain ⟨W, hW⟩ : ∃ W, W = W3.alloc (.cells #[.int .i64 0, .slice none 0 0, .bool false, .bool false, .nilFunc, .nilFunc, .nilFunc, .nilFunc, .nilFunc, .nilFunc] 104) := ⟨_, rfl⟩
  have s1 : W1.heap.size = w.heap.size + 1 := by rw [hW1]; simp
  have s2 : W2.heap.size = w.heap.size + 1 + 1 := by rw [hW2]; simp [s1]
  have s3 : W3.heap.size = w.heap.size + 1 + 1 + 1 := by rw [hW3]; simp [s2]
  have s4 : W.heap.size = w.heap.size + 1 + 1 + 1 + 1 := by rw [hW]; simp [s3]
  have k1 : Below w.heap.size w W1 := hW1 ▸ below_alloc _ _
  have k2 : Below W1.heap.size W1 W2 := hW2 ▸ below_alloc _ _
  have k3 : Below W2.heap.size W2 W3 := hW3 ▸ below_alloc _ _
  have k4 : Below W3.heap.size W3 W := hW ▸ below_alloc _ _
  have HB := Lib.hid (below_more (below_more (below_more k1 k2) k3) k4)
  have D0 := Lib.hid (blk_keep k4 (blk_keep k3 (blk_keep k2 (show W1.heap[w.heap.size]? = some (.cells #[.int .i64 L.per, .slice L.A L.ms.length L.cap] 24 (0, 0)) by rw [hW1]; exact heap_alloc_new _ _))))
  have D1 := Lib.hid (blk_keep k4 (blk_keep k3 (show W2.heap[w.heap.size + 1]? = some (.cells #[.slice A N cap] 27 (0, 0)) by rw [hW2, ← s1]; exact heap_alloc_new _ _)))
  have D2 := Lib.hid (blk_keep k4 (show W3.heap[w.heap.size + 1 + 1]? = some (.cells #[.int .i64 way, .int .i64 len] 31 (0, 0)) by rw [hW3, ← s2]; exact heap_alloc_new _ _))
  have D3 := Lib.hid (show W.heap[w.heap.size + 1 + 1 + 1]? = some (.cells #[.int .i64 0, .slice none 0 0, .bool false, .bool false, .nilFunc, .nilFunc, .nilFunc, .nilFunc, .nilFunc, .nilFunc] 104 (0, 0)) by rw [hW, ← s3]; exact heap_alloc_new _ _)
  have hSZ := Lib.hid s4
  clear s1 s2 s3 s4 k1 k2 k3 k4
  go_enter Tryz.func51, Tryz.ntmps51
  go_wp2_with fail
  rw [← hW1, ← hW2, ← hW3, ← hW]
  clear hW1 hW2 hW3 hW
  have x0 := cell_of_blk D0.out 0
  have x1 := cell_of_blk D0.out 1
  have y0 := cell_of_blk D1.out 0
  have hz0 := (Array.getElem?_eq_some_iff.1 D0.out).1
  have hz1 := (Array.getElem?_eq_some_iff.1 D1.out).1
  simp at x0 x1 y0
  go_wp2_with fail
  refine (HPL.out _ HB.out).mono ?_; rintro e v1 ⟨Ap, kp, cp, rfl, hkp, hown, hb1⟩
  have hk2 := hkp.out
  subst hk2
  have HO1 := Lib.hid hown.out
  have HB1 := Lib.hid (below_more HB.out hb1)
  have E0 := Lib.hid (blk_keep hb1 D0.out)
  have E2 := Lib.hid (blk_keep hb1 D2.out)
  have E3 := Lib.hid (blk_keep hb1 D3.out)
  clear hkp hown hb1 x0 x1 y0 hz0 hz1
  have p0 := cell_of_blk E2.out 0
  have p1 := cell_of_blk E2.out 1
  have hz2 := (Array.getElem?_eq_some_iff.1 E2.out).1
  simp at p0 p1
  go_wp2_with fail
  obtain ⟨V1, hV1⟩ : ∃ V1, V1 = v1.alloc (.cells #[.slice Ap zs.length cp] 27) := ⟨_, rfl⟩
  have hbv1 : Below v1.heap.size v1 V1 := hV1 ▸ below_alloc _ _
  have T1 := Lib.hid (show V1.heap[v1.heap.size]? = some (.cells #[.slice Ap zs.length cp] 27 (0, 0)) from hV1 ▸ heap_alloc_new _ _)
  rw [← hV1]
  clear hV1
  refine (HCK.out _).mono ?_; rintro e v2 ⟨rfl, hb2⟩
  have HB2 := Lib.hid (below_more (below_more HB1.out hbv1) hb2)
  have HO2 := Lib.hid (own_base (ownsRow_of_block HO1.out (fun g hg => (below_more hbv1 hb2).block g (HO1.out.lt g hg).2)) HB.out.size)
  have F0 := Lib.hid (blk_keep (below_more hbv1 hb2) E0.out)
  have F2 := Lib.hid (blk_keep (below_more hbv1 hb2) E2.out)
  have F3 := Lib.hid (blk_keep (below_more hbv1 hb2) E3.out)
  have T2 := Lib.hid (blk_keep hb2 T1.out)
  clear hb2 hbv1 p0 p1 hz2 F0 F2 T2 HO2
  have hsz := HB2.out.size
  have q0 := cell_of_blk F3.out 0; have qf0 := free_of_blk F3.out 0; have q1 := cell_of_blk F3.out 1; have qf1 := free_of_blk F3.out 1; have q2 := cell_of_blk F3.out 2; have qf2 := free_of_blk F3.out 2; have q3 := cell_of_blk F3.out 3; have qf3 := free_of_blk F3.out 3; have q4 := cell_of_blk F3.out 4; have qf4 := free_of_blk F3.out 4; have q5 := cell_of_blk F3.out 5; have qf5 := free_of_blk F3.out 5; have q6 := cell_of_blk F3.out 6; have qf6 := free_of_blk F3.out 6; have q7 := cell_of_blk F3.out 7; have qf7 := free_of_blk F3.out 7; have q8 := cell_of_blk F3.out 8; have qf8 := free_of_blk F3.out 8; have q9 := cell_of_blk F3.out 9; have qf9 := free_of_blk F3.out 9; have hz_q := (Array.getElem?_eq_some_iff.1 F3.out).1; simp at q0 q1 q2 q3 q4 q5 q6 q7 q8 q9
  go_wp2_with fail
  refine bodyPost_ret (v := .tuple #[.slice none 0 0, .agg #[.int .i64 0, .slice none 0 0, .bool false, .bool false, .nilFunc, .nilFunc, .nilFunc, .nilFunc, .nilFunc, .nilFunc], .int .i64 E]) (by simp [results, Tryz.results51, go_sem, q0, q1, q2, q3, q4, q5, q6, q7, q8, q9]) rfl ⟨rfl, ?_⟩
  clear q0 q1 q2 q3 q4 q5 q6 q7 q8 q9 hz_q qf0 qf1 qf2 qf3 qf4 qf5 qf6 qf7 qf8 qf9
  have hbf := HB2.out
  repeat (first | with_reducible exact hbf | with_reducible refine Below.drew ?_ | with_reducible refine Below.alloc ?_ (by first | omega | (simp; omega)) _ | with_reducible refine Below.setCell ?_ (by dsimp only; omega) _)
end Go.Proofs.YtmiokllpdmmfhaaGreat
