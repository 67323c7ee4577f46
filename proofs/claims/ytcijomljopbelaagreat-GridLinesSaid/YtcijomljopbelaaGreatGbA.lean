/-
  The line of a text by its groups and by its nodes: both sides read the same leaves. And what builds on it.
-/
import Derived.Test.YtcijomljopbelaaGreatGaH
import Derived.Test.YtcijomljopbelaaGreatGaF
import Derived.Test.YtcijomljopbelaaGreatGaL
import Derived.Test.YtcijomljopbelaaGreatGaG
import Derived.Test.YtcijomljopbelaaGreatGaE
import Derived.Deep.RegionHeld3
import Derived.Deep.DeepCutAuto
import Derived.Test.YtcijomljopbelaaGreatGaD
import Derived.Test.YtcijomljopbelaaGreatGLaw
import Derived.Laws.OwnMore

/- The line of a text by its groups and by its nodes: both sides read the same leaves. -/
namespace Go.Proofs.YtcijomljopbelaaGreat

theorem tops_parts {ns : List Nd} (h : Shape ns) : ∀ (n k : Nat), ns.length - k ≤ n → (∀ u, ns[k]? = some u → u.depth = 0) → (partsW k (ns.drop k)).map (·.1) = (List.range' k (ns.length - k)).filter (atD ns 0)
  | 0, k, hn, _ => by
    rw [List.drop_eq_nil_of_le (by omega), partsW_nil, show ns.length - k = 0 by omega]; rfl
  | n + 1, k, hn, hd => by
    rcases Nat.lt_or_ge k ns.length with hk | hk
    · obtain ⟨u, hu⟩ : ∃ u, ns[k]? = some u := ⟨_, List.getElem?_eq_getElem hk⟩
      have hu0 := hd u hu
      have h0 : (ns.drop k)[0]? = some u := by rw [List.getElem?_drop, Nat.add_zero]; exact hu
      rw [partsW_at h0, List.map_cons]
      obtain ⟨m, hm⟩ : ∃ m, m = 1 + spanN (ns.drop k) u.depth 0 := ⟨_, rfl⟩
      rw [← hm]
      have hsp : spanN (ns.drop k) u.depth 0 = spanN ns 0 k := by rw [spanN_drop, Nat.add_zero, hu0]
      rw [hsp] at hm
      have hle := spanN_le ns 0 k hk
      have hnext : ∀ u', ns[k + m]? = some u' → u'.depth = 0 := fun u' hu' => by
        have h1 := (h.depth u' (List.mem_of_getElem? hu')).1
        rcases spanN_end ns 0 k hk with he | ⟨x, hx, hxd⟩
        · have := (List.getElem?_eq_some_iff.1 hu').1; omega
        · rw [show k + 1 + spanN ns 0 k = k + m by omega, hu'] at hx
          injection hx with hx; subst hx; omega
      have ih := tops_parts h n (k + m) (by omega) hnext
      rw [List.drop_drop, ih]
      have e : List.range' k (ns.length - k) = k :: (List.range' (k + 1) (m - 1) ++ List.range' (k + m) (ns.length - (k + m))) := by
        rw [show ns.length - k = (1 + (m - 1)) + (ns.length - (k + m)) by omega, ← List.range'_append_1, ← List.range'_append_1, show k + (1 + (m - 1)) = k + m by omega]
        rfl
      rw [e, List.filter_cons]
      have hk0 : atD ns 0 k = true := by unfold atD; rw [hu]; simp [hu0]
      rw [hk0, if_pos rfl, List.filter_append]
      have hnone : (List.range' (k + 1) (m - 1)).filter (atD ns 0) = [] := by
        rw [List.filter_eq_nil_iff]
        intro j hj
        rw [List.mem_range'_1] at hj
        obtain ⟨x, hx, hxd⟩ := spanN_at (ns := ns) (d := 0) (i := k) (k := j - (k + 1)) (by omega)
        rw [show k + 1 + (j - (k + 1)) = j by omega] at hx
        unfold atD; rw [hx]; simp; omega
      rw [hnone, List.nil_append]
    · rw [List.drop_eq_nil_of_le hk, partsW_nil, show ns.length - k = 0 by omega]; rfl
theorem tops_is {ns : List Nd} (h : Shape ns) : topsL ns = (partsW 0 ns).map (·.1) := by
  have := tops_parts h ns.length 0 (by omega) (fun u hu => by have := h.first u hu; have := (h.depth u (List.mem_of_getElem? hu)).1; omega)
  rw [List.drop_zero, Nat.sub_zero] at this
  rw [this]; unfold topsL; rw [List.range_eq_range']

/-- the group's kids are the text's -/
theorem kids_grp {ns : List Nd} {p : Nat × List Nd} (hp : p ∈ partsW 0 ns) {i : Nat} (hi : i < p.2.length) : kidsL ns (p.1 + i) = (kidsL p.2 i).map (fun j => p.1 + j) := by
  obtain ⟨q, u, h1, h2, h3⟩ := partsW_grp ns.length 0 ns (Nat.le_refl _) p hp
  have h1 : p.1 = q := by omega
  rw [h1, kidsL_drop]
  have him : i < 1 + spanN (ns.drop q) u.depth 0 := by rw [h3, List.length_take] at hi; omega
  rw [h3, kidsL_take h2 rfl him]
theorem node_grp {ns : List Nd} {p : Nat × List Nd} (hp : p ∈ partsW 0 ns) {i : Nat} (hi : i < p.2.length) : ns[p.1 + i]? = p.2[i]? := by
  obtain ⟨q, u, h1, h2, h3⟩ := partsW_grp ns.length 0 ns (Nat.le_refl _) p hp
  have h1 : p.1 = q := by omega
  have him : i < 1 + spanN (ns.drop q) u.depth 0 := by rw [h3, List.length_take] at hi; omega
  rw [h1, h3, List.getElem?_take, if_pos him, List.getElem?_drop]
theorem kids_lt {ns : List Nd} {i j : Nat} (h : j ∈ kidsL ns i) : j < ns.length := by
  unfold kidsL at h
  cases hu : ns[i]? with
  | none => rw [hu] at h; cases h
  | some u =>
    rw [hu] at h
    have := (List.mem_filter.1 h).2
    unfold kidB at this
    cases hx : ns[j]? with
    | none => rw [hx] at this; cases this
    | some x => exact (List.getElem?_eq_some_iff.1 hx).1
theorem leaves_grp {ns : List Nd} {p : Nat × List Nd} (hp : p ∈ partsW 0 ns) : ∀ (f i : Nat), i < p.2.length → leavesF ns f (p.1 + i) = (leavesF p.2 f i).map (fun j => p.1 + j)
  | 0, i, _ => rfl
  | f + 1, i, hi => by
    obtain ⟨u, hu⟩ : ∃ u, p.2[i]? = some u := ⟨_, List.getElem?_eq_getElem hi⟩
    have hu2 : ns[p.1 + i]? = some u := (node_grp hp hi).trans hu
    rw [leavesF_at hu, leavesF_at hu2]
    cases leafB u.kind with
    | true => rfl
    | false =>
      simp only [Bool.false_eq_true, if_false]
      have e : kidsO ns (p.1 + i) u.kind = (kidsO p.2 i u.kind).map (fun j => p.1 + j) := by
        unfold kidsO
        rw [kids_grp hp hi]
        split
        · rw [List.map_append, List.map_drop, List.map_take]
        · rfl
      rw [e, List.flatMap_map, List.map_flatMap]
      have hm : ∀ l : List Nat, (∀ j ∈ l, j < p.2.length) → l.flatMap (fun j => leavesF ns f (p.1 + j)) = l.flatMap (fun j => (leavesF p.2 f j).map (fun j => p.1 + j)) := by
        intro l
        induction l with
        | nil => intro _; rfl
        | cons a r ih =>
          intro h
          rw [List.flatMap_cons, List.flatMap_cons, leaves_grp hp f a (h a (List.mem_cons_self ..)), ih (fun j hj => h j (List.mem_cons_of_mem _ hj))]
      exact hm _ (fun j hj => kids_lt (kidsO_mem hj))
theorem leaves_lt {ns : List Nd} : ∀ (f i : Nat), ∀ j ∈ leavesF ns f i, j < ns.length
  | 0, i, j, h => by cases h
  | f + 1, i, j, h => by
    rw [leavesF] at h
    cases hu : ns[i]? with
    | none => rw [hu] at h; cases h
    | some u =>
      rw [hu] at h
      dsimp only at h
      split at h
      · simp at h; subst h; exact (List.getElem?_eq_some_iff.1 hu).1
      · obtain ⟨k, _, hk⟩ := List.mem_flatMap.1 h
        exact leaves_lt f k j hk
theorem parts_pos {ns : List Nd} {p : Nat × List Nd} (hp : p ∈ partsW 0 ns) : 0 < p.2.length := (partsW_pos ns.length 0 ns (Nat.le_refl _) p hp).1
/-- the leaves of a group, as nodes -/
theorem pick_grp {ns : List Nd} {p : Nat × List Nd} (hp : p ∈ partsW 0 ns) (f : Nat) : pickN p.2 (leavesF p.2 f 0) = pickN ns (leavesF ns f p.1) := by
  have h := leaves_grp hp f 0 (parts_pos hp)
  rw [Nat.add_zero] at h
  rw [h]
  unfold pickN
  rw [List.map_map]
  refine List.map_congr_left fun j hj => ?_
  have hj' := leaves_lt f 0 j hj
  show getN p.2 j = getN ns (p.1 + j)
  unfold getN
  rw [node_grp hp hj']
def allLeaves (ns : List Nd) : List Nat := (topsL ns).flatMap (leavesF ns 5)
theorem line_is {ns : List Nd} (h : Shape ns) : lineR ns = (pickN ns (allLeaves ns)).map markR := by
  unfold lineR allLeaves
  rw [tops_is h, List.flatMap_map]
  unfold pickN
  rw [List.map_flatMap, List.map_flatMap]
  have hm : ∀ l : List (Nat × List Nd), (∀ p ∈ l, p ∈ partsW 0 ns) → l.flatMap lineP = l.flatMap (fun p => ((leavesF ns 5 p.1).map (getN ns)).map markR) := by
    intro l
    induction l with
    | nil => intro _; rfl
    | cons a r ih =>
      intro hh
      rw [List.flatMap_cons, List.flatMap_cons, ih (fun j hj => hh j (List.mem_cons_of_mem _ hj))]
      congr 1
      unfold lineP
      rw [pick_grp (hh a (List.mem_cons_self ..))]; rfl
  exact hm _ (fun p hp => hp)

end Go.Proofs.YtcijomljopbelaaGreat

/- Splice: its list, by groups and by nodes. -/
namespace Go.Proofs.YtcijomljopbelaaGreat
open Go.RowKit

/-- the groups of a text -/
def partsN (ns : List Nd) : List (List Nd) := (partsW 0 ns).map (·.2)
theorem partsN_all (ns : List Nd) : (partsN ns).flatten = ns := by
  unfold partsN
  rw [← List.flatMap_def]
  exact parts_all ns.length 0 ns (Nat.le_refl _)
theorem partsN_len (ns : List Nd) : (partsN ns).length = (partsW 0 ns).length := by unfold partsN; rw [List.length_map]
/-- the groups from .. to replaced by a text -/
def spliceL (ns ms : List Nd) (f t : Nat) : List Nd := ((partsN ns).take f).flatten ++ ms ++ ((partsN ns).drop t).flatten
def spliceQ (l : Li) (ns : List Nd) (f t : Int) (ms : List Nd) : List Nd × Int :=
  if textErr l ns ≠ 0 then ([], textErr l ns)
  else if textErr l ms ≠ 0 then ([], textErr l ms)
  else if f < 0 ∨ t < f ∨ (topsL ns).length < t then ([], 1)
  else if 200 < (spliceL ns ms f.toNat t.toNat).length then ([], 2)
  else (spliceL ns ms f.toNat t.toNat, 0)
theorem splice_parts (ns ms : List Nd) (f t : Nat) : ((partsN ns).take f ++ partsN ms ++ (partsN ns).drop t).flatten = spliceL ns ms f t := by
  unfold spliceL
  rw [List.flatten_append, List.flatten_append, partsN_all]
theorem spliceQ_len (l : Li) (ns : List Nd) (f t : Int) (ms : List Nd) : (spliceQ l ns f t ms).1.length ≤ 200 := by
  unfold spliceQ
  split
  · simp
  · split
    · simp
    · split
      · simp
      · split
        · simp
        · dsimp only; omega

end Go.Proofs.YtcijomljopbelaaGreat

/- The specification's Leaves of a node. -/
namespace Go.Proofs.YtcijomljopbelaaGreat
open Go.RowKit

theorem intsV_one (l : List Nat) : ∀ u ∈ intsV l, u.oneCell' = true := fun u hu => by
  unfold intsV at hu
  obtain ⟨j, _, rfl⟩ := List.mem_map.1 hu
  rfl
theorem intsV_app (a b : List Nat) : intsV (a ++ b) = intsV a ++ intsV b := by unfold intsV; rw [List.map_append]
theorem own_one (w : World) (v : Value) (e : TypeId) : (w.alloc (.cells #[v] e)).ownsRow w.heap.size e 1 (.slice (some ⟨w.heap.size, 0, none⟩) 1 1) 1 [v] :=
  ⟨by simp, .inr ⟨w.heap.size, 1, #[v], rfl, Nat.le_refl _, heap_alloc_new _ _, Nat.le_refl _, by unfold maxLen; omega, by simp, by simp⟩⟩

end Go.Proofs.YtcijomljopbelaaGreat

/- The specification's Leaves of a whole text. -/
namespace Go.Proofs.YtcijomljopbelaaGreat
open Go.RowKit

theorem vis_of {ns : List Nd} (h : Shape ns) : VisOk ns ∧ ∀ (i : Nat) (u : Nd), ns[i]? = some u → u.kind = 7 → 2 ≤ (kidsL ns i).length := by
  have h2 : ∀ (i : Nat) (u : Nd), ns[i]? = some u → u.kind = 7 → 2 ≤ (kidsL ns i).length := fun i u hu hk => fits_hon h.fits hu hk
  exact ⟨⟨h.depth, fun i u hu hk => by have := h2 i u hu hk; omega, fun i => fits_six h.fits i⟩, h2⟩
theorem tops_at {ns : List Nd} {j : Nat} (hj : j ∈ topsL ns) : ∃ x, ns[j]? = some x ∧ x.depth = 0 := by
  unfold topsL at hj
  have := (List.mem_filter.1 hj).2
  unfold atD at this
  cases hx : ns[j]? with
  | none => rw [hx] at this; cases this
  | some x => rw [hx] at this; exact ⟨x, rfl, by simpa using this⟩
theorem tops_len (ns : List Nd) : (topsL ns).length ≤ ns.length := by
  unfold topsL
  refine Nat.le_trans (List.length_filter_le _ _) ?_
  rw [List.length_range]; exact Nat.le_refl _

end Go.Proofs.YtcijomljopbelaaGreat

/- Splice by the specification: what is there behind each round, and at the end. -/
namespace Go.Proofs.YtcijomljopbelaaGreat
open Go.RowKit

/-- what is there behind k rounds -/
def accF (P : List (List Nd)) (ms : List Nd) (f t k : Nat) : List Nd := if k ≤ f then (P.take k).flatten else (P.take f).flatten ++ ms ++ ((P.drop t).take (k - t)).flatten
theorem take_at {α : Type} {P : List (List α)} {k : Nat} {x : List α} (h : P[k]? = some x) : (P.take (k + 1)).flatten = (P.take k).flatten ++ x := by
  obtain ⟨hk, e⟩ := List.getElem?_eq_some_iff.1 h
  rw [List.take_succ_eq_append_getElem hk, e, List.flatten_append]; simp
theorem accF_keep {P : List (List Nd)} {ms : List Nd} {f t k : Nat} {x : List Nd} (hx : P[k]? = some x) (hk : k < f) : accF P ms f t (k + 1) = accF P ms f t k ++ x := by
  unfold accF
  rw [if_pos (by omega), if_pos (by omega), take_at hx]
theorem accF_skip {P : List (List Nd)} {ms : List Nd} {f t k : Nat} (h1 : f < k) (h2 : k < t) : accF P ms f t (k + 1) = accF P ms f t k := by
  unfold accF
  rw [if_neg (by omega), if_neg (by omega), show k + 1 - t = 0 by omega, show k - t = 0 by omega]
theorem accF_tail {P : List (List Nd)} {ms : List Nd} {f t k : Nat} {x : List Nd} (hx : P[k]? = some x) (h1 : f < k) (h2 : t ≤ k) : accF P ms f t (k + 1) = accF P ms f t k ++ x := by
  unfold accF
  rw [if_neg (by omega), if_neg (by omega), show k + 1 - t = k - t + 1 by omega, take_at (P := P.drop t) (k := k - t) (x := x) (by rw [List.getElem?_drop, show t + (k - t) = k by omega]; exact hx), ← List.append_assoc]
theorem accF_end {P : List (List Nd)} {ms : List Nd} {f t k : Nat} (hk : P.length ≤ k) (h1 : f < k) : accF P ms f t (k + 1) = accF P ms f t k := by
  unfold accF
  rw [if_neg (by omega), if_neg (by omega), List.take_of_length_le (l := P.drop t) (i := k + 1 - t) (by rw [List.length_drop]; omega), List.take_of_length_le (l := P.drop t) (i := k - t) (by rw [List.length_drop]; omega)]
/-- the round of from: the text comes, and the group, where the cut is empty -/
theorem accF_from {P : List (List Nd)} {ms : List Nd} {f t : Nat} : accF P ms f t f ++ ms = (P.take f).flatten ++ ms := by
  unfold accF; rw [if_pos (Nat.le_refl _)]
theorem accF_mid {P : List (List Nd)} {ms : List Nd} {f t : Nat} (h : f < t ∨ (P.length ≤ f ∧ f ≤ t)) : accF P ms f t (f + 1) = accF P ms f t f ++ ms := by
  rw [accF_from]
  unfold accF
  rw [if_neg (by omega)]
  rcases h with h | h
  · rw [show f + 1 - t = 0 by omega]; simp
  · have hd : P.drop t = [] := List.drop_eq_nil_of_le (by omega)
    rw [hd]; simp
theorem accF_both {P : List (List Nd)} {ms : List Nd} {f : Nat} {x : List Nd} (hx : P[f]? = some x) : accF P ms f f (f + 1) = accF P ms f f f ++ ms ++ x := by
  rw [accF_from]
  unfold accF
  rw [if_neg (by omega), show f + 1 - f = 0 + 1 by omega, take_at (P := P.drop f) (k := 0) (x := x) (by rw [List.getElem?_drop]; exact hx)]
  simp
theorem accF_all (ns ms : List Nd) (f t : Nat) (hf : f ≤ (partsN ns).length) : accF (partsN ns) ms f t ((partsN ns).length + 1) = spliceL ns ms f t := by
  unfold accF spliceL
  rw [if_neg (by omega), List.take_of_length_le (l := (partsN ns).drop t) (by rw [List.length_drop]; omega)]
/-- a group is what is below its first node -/
theorem below_part {ns : List Nd} (h : Shape ns) {k j : Nat} (hj : (topsL ns)[k]? = some j) : (partsN ns)[k]? = some (belowN ns j) := by
  rw [tops_is h, List.getElem?_map] at hj
  unfold partsN
  rw [List.getElem?_map]
  cases hp : (partsW 0 ns)[k]? with
  | none => rw [hp] at hj; cases hj
  | some p =>
    rw [hp] at hj
    injection hj with hj
    have hj : p.1 = j := hj
    have hpm := List.mem_of_getElem? hp
    obtain ⟨q, u, h1, h2, h3⟩ := partsW_grp ns.length 0 ns (Nat.le_refl _) p hpm
    have h1 : p.1 = q := by omega
    have hu : ns[q]? = some u := by rw [List.getElem?_drop] at h2; simpa using h2
    have hsp : spanN (ns.drop q) u.depth 0 = spanN ns u.depth q := by rw [spanN_drop, Nat.add_zero]
    rw [hsp] at h3
    have hd : u.depth = 0 := by
      have : p.1 ∈ topsL ns := by rw [tops_is h]; exact List.mem_map_of_mem hpm
      obtain ⟨x, hx, hxd⟩ := tops_at this
      rw [h1, hu] at hx; injection hx with hx; subst hx; exact hxd
    show some p.2 = _
    rw [← hj, h1, belowN_at hu, ← h3, hd]
    have : lowerN 0 = id := by
      funext x
      obtain ⟨xk, xd, xs, xt, xm, xst, xmn, xmx⟩ := x
      simp [lowerN, Nd.atD]
    rw [this, List.map_id]

/-- one round -/
theorem accF_step {P : List (List Nd)} {ms : List Nd} {f t k np : Nat} {x : List Nd} (hp : P.length = np) (hf : f ≤ t) (hfn : f ≤ np) (hk : k ≤ np) (hx : k < np → P[k]? = some x) :
    accF P ms f t (k + 1) = (accF P ms f t k ++ (if k = f then ms else [])) ++ (if k < np ∧ (k < f ∨ t ≤ k) then x else []) := by
  rcases Nat.lt_trichotomy k f with h | h | h
  · rw [if_neg (by omega), if_pos ⟨by omega, .inl h⟩, accF_keep (hx (by omega)) h, List.append_nil]
  · subst h
    rw [if_pos rfl]
    by_cases h2 : k < t ∨ P.length ≤ k
    · rw [if_neg (by omega), accF_mid (by omega), List.append_nil]
    · have e : t = k := by omega
      subst e
      rw [if_pos ⟨by omega, .inr (Nat.le_refl _)⟩, accF_both (hx (by omega))]
  · rw [if_neg (by omega), List.append_nil]
    by_cases h2 : k < t
    · rw [if_neg (by omega), accF_skip h h2, List.append_nil]
    · by_cases h3 : k < np
      · rw [if_pos ⟨h3, .inr (by omega)⟩, accF_tail (hx h3) h (by omega)]
      · rw [if_neg (by omega), accF_end (by omega) h, List.append_nil]
theorem flatten_take_le {α : Type} (P : List (List α)) (k : Nat) : (P.take k).flatten.length ≤ P.flatten.length := by
  conv => rhs; rw [← List.take_append_drop k P, List.flatten_append, List.length_append]
  omega
theorem flatten_drop_le {α : Type} (P : List (List α)) (k : Nat) : (P.drop k).flatten.length ≤ P.flatten.length := by
  conv => rhs; rw [← List.take_append_drop k P, List.flatten_append, List.length_append]
  omega
theorem accF_len (ns ms : List Nd) (f t k : Nat) : (accF (partsN ns) ms f t k).length ≤ ns.length + ms.length + ns.length := by
  have h1 := flatten_take_le (partsN ns) k
  have h2 := flatten_take_le (partsN ns) f
  have h3 := flatten_take_le ((partsN ns).drop t) (k - t)
  have h4 := flatten_drop_le (partsN ns) t
  rw [partsN_all] at h1 h2 h4
  unfold accF
  split
  · omega
  · rw [List.length_append, List.length_append]; omega

end Go.Proofs.YtcijomljopbelaaGreat

/- Nodes at one depth (atDepth); the leaves of a group one after the other (flat). -/
namespace Go.Proofs.YtcijomljopbelaaGreat
open Go.RowKit

def setD (d : Int) (n : Nd) : Nd := n.atD d

end Go.Proofs.YtcijomljopbelaaGreat

/- The leaves of a group one after the other (flat). -/
namespace Go.Proofs.YtcijomljopbelaaGreat
open Go.RowKit

theorem leaves_tight {ns : List Nd} (h : VisOk ns) : ∀ (f i : Nat), (leavesF ns (f + 1) i).length ≤ 6 ^ f := by
  intro f
  induction f with
  | zero =>
    intro i
    rw [leavesF]
    split
    · simp
    · split
      · simp
      · rename_i u _ _
        have : ∀ l : List Nat, l.flatMap (leavesF ns 0) = [] := fun l => by
          rw [List.flatMap_eq_nil_iff]; intro x _; rfl
        rw [this]; simp
  | succ f ih =>
    intro i
    rw [leavesF]
    split
    · simp
    · split
      · simp; exact Nat.one_le_pow _ _ (by omega)
      · rename_i u _ _
        have h6 : (kidsO ns i u.kind).length ≤ 6 := by rw [kidsO_len]; exact h.six i
        have : ∀ l : List Nat, (l.flatMap (leavesF ns (f + 1))).length ≤ l.length * 6 ^ f := by
          intro l
          induction l with
          | nil => simp
          | cons x l ihl => rw [List.flatMap_cons, List.length_append, List.length_cons, Nat.succ_mul]; have := ih x; omega
        have h1 := this (kidsO ns i u.kind)
        have h2 : (kidsO ns i u.kind).length * 6 ^ f ≤ 6 * 6 ^ f := Nat.mul_le_mul_right _ h6
        rw [Nat.pow_succ, Nat.mul_comm (6 ^ f) 6]; omega
theorem leaves5 {ns : List Nd} (h : VisOk ns) (i : Nat) : (leavesF ns 5 i).length ≤ 1296 := Nat.le_trans (leaves_tight h 4 i) (by decide)
def leavesL (l : List Nd) : List Nd := pickN l (leavesF l 5 0)
/-- a group's leaves, as groups or as a ring's kids -/
def flatP (l : List Nd) : List Nd := match l with
  | [] => []
  | u :: _ => if u.kind == 5 && decide ((leavesL l).length ≤ 6) then u :: (leavesL l).map (setD 1) else (leavesL l).map (setD 0)
theorem flatP_cons (u : Nd) (r : List Nd) : flatP (u :: r) = if u.kind == 5 && decide ((leavesL (u :: r)).length ≤ 6) then u :: (leavesL (u :: r)).map (setD 1) else (leavesL (u :: r)).map (setD 0) := rfl
theorem leavesL_len {l : List Nd} (h : VisOk l) : (leavesL l).length ≤ 1296 := by
  unfold leavesL pickN; rw [List.length_map]; exact leaves5 h 0
theorem flatP_len {l : List Nd} (h : VisOk l) : (flatP l).length ≤ 1297 := by
  cases l with
  | nil => simp [flatP]
  | cons u r =>
    have := leavesL_len h
    rw [flatP_cons]
    split
    · rw [List.length_cons, List.length_map]; omega
    · rw [List.length_map]; omega

end Go.Proofs.YtcijomljopbelaaGreat

/- A text of which each group is changed (regroup), by ostracon/groups.flat. -/
namespace Go.Proofs.YtcijomljopbelaaGreat
open Go.RowKit

end Go.Proofs.YtcijomljopbelaaGreat

/- The program's Flat. -/
namespace Go.Proofs.YtcijomljopbelaaGreat
open Go.RowKit

theorem flat_sum : ∀ ps : List (Nat × List Nd), (∀ p ∈ ps, VisOk p.2) → (ps.flatMap fun p => flatP p.2).length ≤ ps.length * 1297
  | [], _ => by simp
  | p :: r, h => by
    rw [List.flatMap_cons, List.length_append, List.length_cons]
    have := flat_sum r (fun q hq => h q (List.mem_cons_of_mem _ hq))
    have := flatP_len (h p (List.mem_cons_self ..))
    omega
theorem flatQ_len (l : Li) (ns : List Nd) : (regQ flatP l ns).1.length ≤ 1000000 := by
  unfold regQ
  split
  · simp
  · rename_i h
    have ht : textErr l ns = 0 := by simpa using h
    have h1 := flat_sum (partsW 0 ns) (text_ok ht).2.2.2.2.2
    have h2 := partsW_len ns.length 0 ns (Nat.le_refl _)
    have := (text_ok ht).2.1
    dsimp only
    omega

end Go.Proofs.YtcijomljopbelaaGreat

/- Flat by the specification: its list; what a ring of a valid text is. -/
namespace Go.Proofs.YtcijomljopbelaaGreat
open Go.RowKit

def ringNd : Nd := ⟨5, 0, 0, 0, false, 0, 0, 0⟩
/-- what becomes of the group at i -/
def flatG (ns : List Nd) (i : Nat) : List Nd :=
  if (getN ns i).kind == 5 && decide ((leavesF ns 5 i).length ≤ 6) then ringNd :: (pickN ns (leavesF ns 5 i)).map (setD 1) else (pickN ns (leavesF ns 5 i)).map (setD 0)
def flatS (ns : List Nd) : List Nd := (topsL ns).flatMap (flatG ns)
theorem nodes_plain {l : Li} {ns : List Nd} : ∀ (m k : Nat), ns.length - k ≤ m → nodesErr l (ns.take k) (ns.drop k) = 0 → ∀ j x, k ≤ j → ns[j]? = some x → x.kind = 5 → plainErr x = 0
  | 0, k, hm, _, j, x, hj, hx, _ => by have := (List.getElem?_eq_some_iff.1 hx).1; omega
  | m + 1, k, hm, h, j, x, hj, hx, hk => by
    have hjl := (List.getElem?_eq_some_iff.1 hx).1
    obtain ⟨u, hu⟩ : ∃ u, ns[k]? = some u := ⟨_, List.getElem?_eq_getElem (by omega)⟩
    rw [nodesErr_at l ns k u hu] at h
    split at h
    · rename_i h1; exact absurd h h1
    · rename_i h1
      rcases Nat.eq_or_lt_of_le hj with e | e
      · subst e
        rw [hu] at hx; injection hx with hx; subst hx
        have h1 : nodeErr l (ns.take k) u = 0 := by simpa using h1
        unfold nodeErr at h1
        rw [hk] at h1
        split at h1
        · omega
        · split at h1
          · omega
          · rw [if_neg (by omega), if_neg (by omega)] at h1; exact h1
      · exact nodes_plain m (k + 1) (by omega) h j x (by omega) hx hk
theorem ring_is {l : Li} {ns : List Nd} (h : textErr l ns = 0) {x : Nd} (hx : x ∈ ns) (hk : x.kind = 5) (hd : x.depth = 0) : x = ringNd := by
  obtain ⟨j, hj⟩ := List.getElem?_of_mem hx
  have h1 := nodes_plain ns.length 0 (by omega) (by simpa using (text_ok h).2.2.1) j x (Nat.zero_le _) hj hk
  obtain ⟨xk, xd, xs, xt, xm, xst, xmn, xmx⟩ := x
  unfold plainErr at h1
  split at h1
  · rename_i h2
    obtain ⟨h3, h4, h5, h6, h7, h8⟩ := h2
    dsimp only at hk hd h3 h4 h5 h6 h7 h8
    subst hk hd h3 h4 h5 h6 h7 h8
    rfl
  · omega
theorem flatG_is {l : Li} {ns : List Nd} (h : textErr l ns = 0) {p : Nat × List Nd} (hp : p ∈ partsW 0 ns) : flatG ns p.1 = flatP p.2 := by
  have hpos := parts_pos hp
  have hlv : pickN ns (leavesF ns 5 p.1) = leavesL p.2 := (pick_grp hp 5).symm
  have hll : (leavesF ns 5 p.1).length = (leavesL p.2).length := by rw [← hlv]; unfold pickN; rw [List.length_map]
  obtain ⟨u, r, hl⟩ : ∃ u r, p.2 = u :: r := by cases h' : p.2 with | nil => rw [h'] at hpos; simp at hpos | cons u r => exact ⟨u, r, rfl⟩
  have h0 := node_grp hp hpos
  rw [Nat.add_zero, hl] at h0
  have hu : ns[p.1]? = some u := h0
  have hg : getN ns p.1 = u := by unfold getN; rw [hu]; rfl
  have ht : p.1 ∈ topsL ns := by rw [tops_is (shape_of h)]; exact List.mem_map_of_mem hp
  obtain ⟨x, hx, hxd⟩ := tops_at ht
  rw [hu] at hx; injection hx with hx; subst hx
  unfold flatG
  rw [hlv, hll, hg]
  have hP : flatP p.2 = if u.kind == 5 && decide ((leavesL p.2).length ≤ 6) then u :: (leavesL p.2).map (setD 1) else (leavesL p.2).map (setD 0) := by rw [hl]; rfl
  rw [hP]
  by_cases hk : u.kind = 5
  · rw [← ring_is h (List.mem_of_getElem? hu) hk hxd]
  · have hkb : (u.kind == 5) = false := by simpa using hk
    rw [hkb]; rfl
theorem flatS_is {l : Li} {ns : List Nd} (h : textErr l ns = 0) : flatS ns = (partsW 0 ns).flatMap fun p => flatP p.2 := by
  unfold flatS
  rw [tops_is (shape_of h), List.flatMap_map]
  have hm : ∀ ps : List (Nat × List Nd), (∀ p ∈ ps, p ∈ partsW 0 ns) → (ps.flatMap fun p => flatG ns p.1) = ps.flatMap fun p => flatP p.2 := by
    intro ps
    induction ps with
    | nil => intro _; rfl
    | cons p r ih =>
      intro hh
      rw [List.flatMap_cons, List.flatMap_cons, ih (fun q hq => hh q (List.mem_cons_of_mem _ hq)), flatG_is h (hh p (List.mem_cons_self ..))]
  exact hm _ (fun p hp => hp)
def rflatQ (l : Li) (ns : List Nd) : List Nd × Int := if textErr l ns ≠ 0 then ([], textErr l ns) else (flatS ns, 0)
theorem rflat_is (l : Li) (ns : List Nd) : rflatQ l ns = regQ flatP l ns := by
  unfold rflatQ regQ
  split
  · rfl
  · rename_i h
    rw [flatS_is (l := l) (by simpa using h)]

/-- what the walk of Flat keeps: the blocks of before but the text's that is being made, and that text -/
structure FlRel (W2 wr : World) (bo : Nat) (v : Value) (k : Nat) (zs : List Nd) : Prop where
  old : ∀ g, g < W2.heap.size → g ≠ bo → wr.heap[g]? = W2.heap[g]?
  out : wr.heap[bo]? = some (.cells #[v] 27 (0, 0))
  own : wr.ownsRow W2.heap.size 87 8 v k (zs.flatMap Nd.cells)
  size : W2.heap.size ≤ wr.heap.size
section
variable {W2 wr wx wA w3 : World} {bo m c2 : Nat} {A2 : Option Addr} {v : Value} {k : Nat} {zs xs : List Nd}
theorem FlRel.later (h : FlRel W2 wr bo v k zs) (hb : Below wr.heap.size wr wx) : FlRel W2 wx bo v k zs :=
  ⟨fun g h1 h2 => (hb.block g (by have := h.size; omega)).trans (h.old g h1 h2), blk_keep hb h.out, ownsRow_of_block h.own (fun g hg => hb.block g (h.own.lt g hg).2), by have := h.size; have := hb.size; omega⟩
theorem FlRel.step (h : FlRel W2 wr bo v k zs) (ho : bo < W2.heap.size) (hA : Below wr.heap.size wr wA)
    (own2 : w3.ownsRow W2.heap.size 87 8 (.slice A2 m c2) m (zs.flatMap Nd.cells ++ xs.flatMap Nd.cells)) (hg : wA.grownBy w3 v.ownBlock) :
    FlRel W2 (w3.setCell ⟨bo, 0, none⟩ (.slice A2 m c2)) bo (.slice A2 m c2) m (zs ++ xs) ∧ w3.heap[bo]? = some (.cells #[v] 27 (0, 0)) := by
  have hs := h.size
  have hsA := hA.size
  have keep : ∀ g, g < W2.heap.size → w3.heap[g]? = wr.heap[g]? := fun g hg1 => by
    rw [hg.block g (by omega) (fun e => by have := (h.own.lt _ e.symm).1; omega)]
    exact hA.block g (by omega)
  have ho3 : w3.heap[bo]? = some (.cells #[v] 27 (0, 0)) := by rw [keep bo ho]; exact h.out
  refine ⟨⟨fun g h1 h2 => ?_, ?_, ?_, ?_⟩, ho3⟩
  · rw [heap_setCell_other _ _ _ _ h2, keep g h1]; exact h.old g h1 h2
  · rw [heap_setCell_same _ _ _ _ _ _ ho3]; rfl
  · have := ownsRow_of_block (w' := w3.setCell ⟨bo, 0, none⟩ (.slice A2 m c2)) own2 (fun g hg' => heap_setCell_other _ _ _ _ (by have := (own2.lt g hg').1; dsimp only; omega))
    rw [List.flatMap_append]; exact this
  · have := hg.size; simp; omega
theorem FlRel.below {w : World} (h : FlRel W2 wr bo v k zs) (hw : Below w.heap.size w wr) (hb : w.heap.size ≤ W2.heap.size) (ho : w.heap.size ≤ bo) (hA : Below wr.heap.size wr wA) (hg : wA.grownBy w3 v.ownBlock) (u : Value) : Below w.heap.size w (w3.setCell ⟨bo, 0, none⟩ u) :=
  ((below_more hw hA).grown hg (by have := hw.size; have := hA.size; omega) (fun g hg => by have := (h.own.lt g hg).1; omega)).setCell (by dsimp only; omega) _
end
/-- the leaves' row, beside the text that is being made -/
structure LvRow (w : World) (Al : Option Addr) (al : List Nat) (v : Value) (base : Nat) : Prop where
  at_ : ∀ i j, al[i]? = some j → ∃ g, Al = some ⟨g, 0, none⟩ ∧ base ≤ g ∧ g < w.heap.size ∧ w.cell? ⟨g, i, none⟩ = some (.int .i64 (j : Nat)) ∧ v.ownBlock ≠ some g
theorem LvRow.step {wr wA w3 : World} {Al : Option Addr} {al : List Nat} {v : Value} {base bo m c2 : Nat} {A2 : Option Addr} {u : Value} (h : LvRow wr Al al v base) (ho : bo < base) (hA : Below wr.heap.size wr wA) (hg : wA.grownBy w3 v.ownBlock)
    (hat : (Value.slice A2 m c2).ownBlock = v.ownBlock ∨ ∃ b, (Value.slice A2 m c2).ownBlock = some b ∧ wr.heap.size ≤ b) : LvRow (w3.setCell ⟨bo, 0, none⟩ u) Al al (.slice A2 m c2) base := by
  refine ⟨fun i j hj => ?_⟩
  obtain ⟨g, e, h1, h2, h3, h4⟩ := h.at_ i j hj
  have hsA := hA.size
  have hs3 := hg.size
  have hk : (w3.setCell ⟨bo, 0, none⟩ u).heap[g]? = wr.heap[g]? := by
    rw [heap_setCell_other _ _ _ _ (by dsimp only; omega), hg.block g (by omega) (fun e2 => h4 e2.symm)]
    exact hA.block g h2
  refine ⟨g, e, h1, by simp; omega, (World.cell?_of_block (a := ⟨g, i, none⟩) hk).trans h3, ?_⟩
  rcases hat with hat | ⟨b, hat, hb⟩
  · rw [hat]; exact h4
  · rw [hat]; intro e2; injection e2 with e2; omega

end Go.Proofs.YtcijomljopbelaaGreat

/- A text in a mirror, the program's and the specification's. -/
namespace Go.Proofs.YtcijomljopbelaaGreat
open Go.RowKit

def evenB (l : Li) (n : Nd) : Bool := l.signs[n.sign.toNat]?.any (·.even)
def Nd.mir (n : Nd) : Nd := { n with mirror := !n.mirror }
theorem Nd.mir_cells (n : Nd) : n.mir.cells = n.cells.set 4 (.bool (!n.mirror)) := rfl
def flipN (l : Li) (n : Nd) : Nd := if n.kind == 1 && !evenB l n then n.mir else n
def mirrorQ (l : Li) (ns : List Nd) : List Nd × Int :=
  if textErr l ns ≠ 0 then ([], textErr l ns) else (ns.map (flipN l), 0)
theorem sign_ok {l : Li} {done : List Nd} {n : Nd} (h : nodeErr l done n = 0) (hk : n.kind = 1) : 0 ≤ n.sign ∧ n.sign < l.signs.length := by
  unfold nodeErr at h
  split at h
  · omega
  · split at h
    · omega
    · try rw [if_pos hk] at h
      unfold glyphErr at h
      split at h
      · omega
      · omega
theorem signs_ok {l : Li} {ns : List Nd} (h : nodesErr l [] ns = 0) {k : Nat} {n : Nd} (hk : ns[k]? = some n) (h1 : n.kind = 1) : 0 ≤ n.sign ∧ n.sign < l.signs.length :=
  sign_ok (by have := nodes_at l ns [] h k n hk; simpa using this) h1

end Go.Proofs.YtcijomljopbelaaGreat

/- What the laws on papers compare: ints and texts that were made by both sides. -/
namespace Go.Proofs.YtcijomljopbelaaGreat
open Go.RowKit

/-- a slice of ints -/
def IntsIn (w : World) (A : Option Addr) (zs : List Int) : Prop := ∀ k z, zs[k]? = some z → ∃ b o, A = some ⟨b, o, none⟩ ∧ b < w.heap.size ∧ w.cell? ⟨b, o + k, none⟩ = some (.int .i64 z)
theorem IntsIn.below {w w' : World} {A : Option Addr} {zs : List Int} (h : IntsIn w A zs) (hb : Below w.heap.size w w') : IntsIn w' A zs := fun k n hk => by
  obtain ⟨b, o, e, hlt, hv⟩ := h k n hk
  exact ⟨b, o, e, Nat.lt_of_lt_of_le hlt hb.size, (hb.cell (p := ⟨b, _, none⟩) hlt).trans hv⟩
theorem own_ints {w : World} {base : Nat} {A : Option Addr} {n c : Nat} {l : List Int} (h : w.ownsRow base 3 1 (.slice A n c) n (intsZ l)) : IntsIn w A l := fun k j hk => by
  obtain ⟨A2, c2, hv, -, -, h3, h4⟩ := own_slice h
  injection hv with e1 e2 e3
  subst e1 e3
  have hlen : l.length = n := by have := h.1; simpa [intsZ] using this
  cases A with
  | none => have := h4 rfl; have := (List.getElem?_eq_some_iff.1 hk).1; omega
  | some ad =>
    obtain ⟨g, rfl, _, hg, hc⟩ := h3 ad rfl
    refine ⟨g, 0, rfl, hg, ?_⟩
    rw [Nat.zero_add]
    exact hc k _ (by unfold intsZ; rw [List.getElem?_map, hk]; rfl)
/-- ints and an error that were made, by name -/
def GotIntsX (w : World) (zs : List Int) (er : Int) (e : Ending) (w' : World) : Prop :=
  ∃ A k c, e = .returned (.tuple #[.slice A k c, .int .i64 er]) ∧ Hid (k = zs.length) ∧ Hid (IntsIn w' A zs) ∧ Below w.heap.size w w'
theorem GotIntsE.x {w : World} {zs : List Int} {er : Int} {e : Ending} {w' : World} (h : GotIntsE w (zs, er) e w') : GotIntsX w zs er e w' := by
  obtain ⟨A, c, rfl, h1, h2⟩ := h
  exact ⟨A, _, c, rfl, Lib.hid rfl, Lib.hid (own_ints h1), h2⟩
/-- a text and an error that were made -/
def GotTextE (w : World) (ns : List Nd) (er : Int) (e : Ending) (w' : World) : Prop :=
  ∃ A k c, e = .returned (.tuple #[.agg #[.slice A k c], .int .i64 er]) ∧ Hid (k = ns.length) ∧ Hid (NdsAt w' A ns) ∧ Hid (k ≤ c ∧ c ≤ maxLen) ∧ Below w.heap.size w w'

set_option maxHeartbeats 800000 in
theorem sameI_eq (A B : Option Addr) (n m c d : Nat) (zs : List Int) (w : World) (hn : n = zs.length) (hm : m = zs.length) (hA : IntsIn w A zs) (hB : IntsIn w B zs) (hz : zs.length ≤ 1000000) :
    Calls Tryz.prog 25 #[.slice A n c, .slice B m d] w fun e w' => e = .returned (.bool true) ∧ Below w.heap.size w w' := by
  obtain rfl : m = n := hm.trans hn.symm
  have HN := Lib.hid hn
  rw [← hn] at hz
  clear hn hm
  go_enter Tryz.func25, Tryz.ntmps25
  go_wp2
  go_loopw [5] (fun i wr => ∃ k : Nat, k ≤ m ∧ i = .int .i64 k ∧ Hid (Below w.heap.size w wr)) (fun i _ => m - (intOf i).toNat)
  case atStart => exact ⟨0, Nat.zero_le _, rfl, Lib.hid (Below.refl _ _)⟩
  case round =>
    obtain ⟨k, hk, rfl, hb⟩ := hrel
    by_cases hlt : k < m
    · obtain ⟨z, hz⟩ : ∃ z, zs[k]? = some z := ⟨_, List.getElem?_eq_getElem (by have := HN.out; omega)⟩
      obtain ⟨g, o, e1, hg, x⟩ := (hA.below hb.out) k z hz
      obtain ⟨g', o', e2, hg', y⟩ := (hB.below hb.out) k z hz
      subst e1 e2
      clear hz hA hB
      go_wp2
      refine wp_region_later (by kernel_rfl) (by kernel_rfl) ?_; (repeat (first | go_big_quiet_step (fail) | quiet_step (fail))); refine wpQuiet_nil ?_; rintro _ ⟨s, rfl⟩
      go_wp2
      go_roundw
      case rel => exact ⟨k + 1, by omega, by go_num, Lib.hid (hb.out.trans (s.below.mono hb.out.size))⟩
      case measure => simp [intOf]; omega
    · obtain rfl : k = m := by omega
      go_wp2
      go_ret
      exact ⟨rfl, hb.out⟩

theorem rsameT_eq (A B : Option Addr) (n m c d : Nat) (ns : List Nd) (w : World) (hn : n = ns.length) (hm : m = ns.length) (hA : NdsAt w A ns) (hB : NdsAt w B ns) (hz : ns.length ≤ 1000000) :
    Calls Tryz.prog 29 #[.agg #[.slice A n c], .agg #[.slice B m d]] w fun e w' => e = .returned (.bool true) ∧ Below w.heap.size w w' := by
  subst hn hm
  have := rsameT_any A B c d ns ns w hA hB hz hz
  rw [eqUp_refl ndEq ndEq_refl] at this; exact this

end Go.Proofs.YtcijomljopbelaaGreat

/- The line of a text, the program's and the specification's. -/
namespace Go.Proofs.YtcijomljopbelaaGreat
open Go.RowKit

def lineQ (l : Li) (ns : List Nd) : List Mk × Int :=
  if textErr l ns ≠ 0 then ([], textErr l ns) else (lineR ns, 0)
/-- marks and an error that were made -/
def GotMarksX (w : World) (zs : List Mk) (er : Int) (e : Ending) (w' : World) : Prop :=
  ∃ A k c, e = .returned (.tuple #[.slice A k c, .int .i64 er]) ∧ Hid (k = zs.length) ∧ Hid (MksAt w' A zs) ∧ Below w.heap.size w w'
def Mk.val (m : Mk) : Value := .agg #[.int .i64 m.sign, .int .i64 m.state, .int .i64 m.min, .int .i64 m.max]
def mkEq (u v : Mk) : Bool := u.sign == v.sign && u.state == v.state && u.min == v.min && u.max == v.max
theorem mkEq_refl (u : Mk) : mkEq u u = true := by simp [mkEq]
theorem line_bound {ns : List Nd} (h : Shape ns) (hl : ns.length ≤ 250) : (lineR ns).length ≤ 2000000 ∧ (allLeaves ns).length = (lineR ns).length := by
  have e : (lineR ns).length = (allLeaves ns).length := by rw [line_is h, List.length_map]; unfold pickN; rw [List.length_map]
  refine ⟨?_, e.symm⟩
  rw [e]
  unfold allLeaves
  have hf : ∀ l : List Nat, (l.flatMap (leavesF ns 5)).length ≤ l.length * 7776 := by
    intro l
    induction l with
    | nil => simp
    | cons a r ih =>
      have := leavesF_len (vis_of h).1 5 a
      rw [List.flatMap_cons, List.length_append, List.length_cons]
      have h6 : (6 : Nat) ^ 5 = 7776 := by decide
      omega
  have h1 := hf (topsL ns)
  have h2 := tops_len ns
  omega

end Go.Proofs.YtcijomljopbelaaGreat

/- The specification's Order of a text; the comparison of long rows of ints. -/
namespace Go.Proofs.YtcijomljopbelaaGreat
open Go.RowKit

theorem lineR_len {l : Li} {ns : List Nd} (h : textErr l ns = 0) : (lineR ns).length ≤ 2000000 := (line_bound (shape_of h) (by have := (text_ok h).2.1; omega)).1

end Go.Proofs.YtcijomljopbelaaGreat

/- The stretches of the rings of a text (rings): the program's. -/
namespace Go.Proofs.YtcijomljopbelaaGreat
open Go.RowKit

def offG (sz : Nat → Nat) : Nat → Nat
  | 0 => 0
  | k + 1 => offG sz k + sz k
def ringsG (sz : Nat → Nat) (isR : Nat → Bool) : Nat → List (Nat × Nat)
  | 0 => []
  | k + 1 => ringsG sz isR k ++ (if isR k then [(offG sz k, offG sz (k + 1))] else [])
theorem ringsG_len (sz : Nat → Nat) (isR : Nat → Bool) : ∀ k, (ringsG sz isR k).length ≤ k
  | 0 => Nat.le_refl _
  | k + 1 => by
    have := ringsG_len sz isR k
    rw [ringsG, List.length_append]
    split <;> simp <;> omega
theorem offG_le {sz : Nat → Nat} (h : ∀ k, sz k ≤ 7776) : ∀ k, offG sz k ≤ k * 7776
  | 0 => by simp [offG]
  | k + 1 => by have := offG_le h k; have := h k; rw [offG]; omega
def szT (ns : List Nd) (k : Nat) : Nat := match (topsL ns)[k]? with | some i => (leavesF ns 5 i).length | none => 0
def isRT (ns : List Nd) (k : Nat) : Bool := match (topsL ns)[k]? with | some i => (getN ns i).kind == 5 | none => false
def ringsR (ns : List Nd) : List (Nat × Nat) := ringsG (szT ns) (isRT ns) (topsL ns).length
def rgCells (p : Nat × Nat) : List Value := [.int .i64 p.1, .int .i64 p.2]
theorem rg_one (p : Nat × Nat) : ∀ u ∈ rgCells p, u.oneCell' = true := fun u hu => by
  simp [rgCells] at hu
  rcases hu with rfl | rfl <;> rfl
theorem szT_le {ns : List Nd} (h : Shape ns) (k : Nat) : szT ns k ≤ 7776 := by
  unfold szT
  split
  · have := leavesF_len (vis_of h).1 5 (by assumption)
    rw [pow_five] at this; exact this
  · omega
end Go.Proofs.YtcijomljopbelaaGreat

/- How often each sign stands in a text (Tally): both sides. -/
namespace Go.Proofs.YtcijomljopbelaaGreat
open Go.RowKit

def addAt (c : List Int) (k : Nat) : List Int := match c[k]? with | some v => c.set k (v + 1) | none => c
def tallyS (c : List Int) (n : Nd) : List Int := if n.kind == 1 then addAt c n.sign.toNat else c
def tallyR (k : Nat) (ns : List Nd) : List Int := ns.foldl tallyS (List.replicate k 0)
theorem addAt_at {c : List Int} {k : Nat} {v : Int} (h : c[k]? = some v) : addAt c k = c.set k (v + 1) := by unfold addAt; rw [h]
theorem addAt_len (c : List Int) (k : Nat) : (addAt c k).length = c.length := by unfold addAt; split <;> simp
theorem addAt_le {c : List Int} {k : Nat} {b : Int} (h : ∀ v ∈ c, 0 ≤ v ∧ v ≤ b) : ∀ v ∈ addAt c k, 0 ≤ v ∧ v ≤ b + 1 := fun v hv => by
  unfold addAt at hv
  split at hv
  · rename_i u hu
    rcases List.mem_or_eq_of_mem_set hv with h1 | h1
    · have := h v h1; omega
    · have := h u (List.mem_of_getElem? hu); omega
  · have := h v hv; omega
theorem tally_inv : ∀ (ns : List Nd) (c : List Int) (b : Int), (∀ v ∈ c, 0 ≤ v ∧ v ≤ b) → (ns.foldl tallyS c).length = c.length ∧ ∀ v ∈ ns.foldl tallyS c, 0 ≤ v ∧ v ≤ b + ns.length
  | [], c, b, h => by simp; exact h
  | n :: r, c, b, h => by
    rw [List.foldl_cons]
    have h1 : ∀ v ∈ tallyS c n, 0 ≤ v ∧ v ≤ b + 1 := by
      unfold tallyS
      split
      · exact addAt_le h
      · intro v hv; have := h v hv; omega
    have h2 : (tallyS c n).length = c.length := by unfold tallyS; split <;> simp [addAt_len]
    obtain ⟨h3, h4⟩ := tally_inv r _ _ h1
    refine ⟨h3.trans h2, fun v hv => ?_⟩
    have := h4 v hv
    rw [List.length_cons]; push_cast; omega
theorem tally_ok (k : Nat) (ns : List Nd) : (tallyR k ns).length = k ∧ ∀ v ∈ tallyR k ns, 0 ≤ v ∧ v ≤ ns.length := by
  have := tally_inv ns (List.replicate k 0) 0 (fun v hv => by have := (List.mem_replicate.1 hv).2; omega)
  simpa [tallyR] using this
theorem tally_step {k : Nat} {ns : List Nd} {j : Nat} {x : Nd} (h : ns[j]? = some x) : tallyR k (ns.take (j + 1)) = tallyS (tallyR k (ns.take j)) x := by
  obtain ⟨hk', e⟩ := List.getElem?_eq_some_iff.1 h
  unfold tallyR
  rw [List.take_succ_eq_append_getElem hk', e, List.foldl_append]; rfl
theorem nodes_sign {l : Li} {ns : List Nd} : ∀ (m k : Nat), ns.length - k ≤ m → nodesErr l (ns.take k) (ns.drop k) = 0 → ∀ j x, k ≤ j → ns[j]? = some x → x.kind = 1 → 0 ≤ x.sign ∧ x.sign < l.signs.length
  | 0, k, hm, _, j, x, hj, hx, _ => by have := (List.getElem?_eq_some_iff.1 hx).1; omega
  | m + 1, k, hm, h, j, x, hj, hx, hk => by
    have hjl := (List.getElem?_eq_some_iff.1 hx).1
    obtain ⟨u, hu⟩ : ∃ u, ns[k]? = some u := ⟨_, List.getElem?_eq_getElem (by omega)⟩
    rw [nodesErr_at l ns k u hu] at h
    split at h
    · rename_i h1; exact absurd h h1
    · rename_i h1
      rcases Nat.eq_or_lt_of_le hj with e | e
      · subst e
        rw [hu] at hx; injection hx with hx; subst hx
        have h1 : nodeErr l (ns.take k) u = 0 := by simpa using h1
        unfold nodeErr at h1
        rw [hk] at h1
        split at h1
        · omega
        · split at h1
          · omega
          · rw [if_pos rfl] at h1
            unfold glyphErr at h1
            split at h1
            · omega
            · omega
      · exact nodes_sign m (k + 1) (by omega) h j x (by omega) hx hk
theorem tally_sign {l : Li} {ns : List Nd} (h : textErr l ns = 0) : ∀ x ∈ ns, x.kind = 1 → 0 ≤ x.sign ∧ x.sign < l.signs.length := fun x hx hk => by
  obtain ⟨j, hj⟩ := List.getElem?_of_mem hx
  exact nodes_sign ns.length 0 (by omega) (by simpa using (text_ok h).2.2.1) j x (Nat.zero_le _) hj hk
def tallyQ (l : Li) (ns : List Nd) : List Int × Int :=
  if textErr l ns ≠ 0 then ([], textErr l ns) else (tallyR l.signs.length ns, 0)
theorem check_len {l : Li} (h : checkErr l = 0) : l.signs.length ≤ 200 := by
  unfold checkErr at h
  split at h <;> omega
theorem intsZ_set (c : List Int) (k : Nat) (v : Int) : (intsZ c).set k (.int .i64 v) = intsZ (c.set k v) := by unfold intsZ; rw [List.map_set]
theorem intsZ_at {c : List Int} {k : Nat} {v : Int} (h : c[k]? = some v) : (intsZ c)[k]? = some (.int .i64 v) := by unfold intsZ; rw [List.getElem?_map, h]; rfl

end Go.Proofs.YtcijomljopbelaaGreat
