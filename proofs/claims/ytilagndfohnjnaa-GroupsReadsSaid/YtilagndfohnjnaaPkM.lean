/-
  Splice: its list, by groups and by nodes. And what builds on it.
-/
import Derived.Test.YtilagndfohnjnaaPkI
import Derived.Test.YtilagndfohnjnaaPkG
import Derived.Test.YtilagndfohnjnaaGConS
import Derived.Test.YtilagndfohnjnaaPkH
import Derived.Deep.RegionHeld3

/- Splice: its list, by groups and by nodes. -/
namespace Go.Proofs.Ytilagndfohnjnaa
open Go.RowKit

/-- the groups of a text -/
def partsN (ns : List Nd) : List (List Nd) := (partsW 0 ns).map (·.2)
theorem partsN_all (ns : List Nd) : (partsN ns).flatten = ns := by
  unfold partsN
  rw [← List.flatMap_def]
  exact parts_all ns.length 0 ns (Nat.le_refl _)
theorem partsN_len (ns : List Nd) : (partsN ns).length = (partsW 0 ns).length := by unfold partsN; rw [List.length_map]
/-- the groups from .. to replaced by a text -/
def spliceL (ns ms : List Nd) (f t : Nat) : List Nd := ((partsN ns).take f).flatten ++ ms ++ ((partsN ns).drop t).flatten
def spliceQ (l : Li) (ns : List Nd) (f t : Int) (ms : List Nd) : List Nd × Int :=
  if textErr l ns ≠ 0 then ([], textErr l ns)
  else if textErr l ms ≠ 0 then ([], textErr l ms)
  else if f < 0 ∨ t < f ∨ (topsL ns).length < t then ([], 1)
  else if 200 < (spliceL ns ms f.toNat t.toNat).length then ([], 2)
  else (spliceL ns ms f.toNat t.toNat, 0)
theorem splice_parts (ns ms : List Nd) (f t : Nat) : ((partsN ns).take f ++ partsN ms ++ (partsN ns).drop t).flatten = spliceL ns ms f t := by
  unfold spliceL
  rw [List.flatten_append, List.flatten_append, partsN_all]
theorem spliceQ_len (l : Li) (ns : List Nd) (f t : Int) (ms : List Nd) : (spliceQ l ns f t ms).1.length ≤ 200 := by
  unfold spliceQ
  split
  · simp
  · split
    · simp
    · split
      · simp
      · split
        · simp
        · dsimp only; omega

end Go.Proofs.Ytilagndfohnjnaa

/- Splice by the specification: what is there behind each round, and at the end. -/
namespace Go.Proofs.Ytilagndfohnjnaa
open Go.RowKit

/-- what is there behind k rounds -/
def accF (P : List (List Nd)) (ms : List Nd) (f t k : Nat) : List Nd := if k ≤ f then (P.take k).flatten else (P.take f).flatten ++ ms ++ ((P.drop t).take (k - t)).flatten
theorem take_at {α : Type} {P : List (List α)} {k : Nat} {x : List α} (h : P[k]? = some x) : (P.take (k + 1)).flatten = (P.take k).flatten ++ x := by
  obtain ⟨hk, e⟩ := List.getElem?_eq_some_iff.1 h
  rw [List.take_succ_eq_append_getElem hk, e, List.flatten_append]; simp
theorem accF_keep {P : List (List Nd)} {ms : List Nd} {f t k : Nat} {x : List Nd} (hx : P[k]? = some x) (hk : k < f) : accF P ms f t (k + 1) = accF P ms f t k ++ x := by
  unfold accF
  rw [if_pos (by omega), if_pos (by omega), take_at hx]
theorem accF_skip {P : List (List Nd)} {ms : List Nd} {f t k : Nat} (h1 : f < k) (h2 : k < t) : accF P ms f t (k + 1) = accF P ms f t k := by
  unfold accF
  rw [if_neg (by omega), if_neg (by omega), show k + 1 - t = 0 by omega, show k - t = 0 by omega]
theorem accF_tail {P : List (List Nd)} {ms : List Nd} {f t k : Nat} {x : List Nd} (hx : P[k]? = some x) (h1 : f < k) (h2 : t ≤ k) : accF P ms f t (k + 1) = accF P ms f t k ++ x := by
  unfold accF
  rw [if_neg (by omega), if_neg (by omega), show k + 1 - t = k - t + 1 by omega, take_at (P := P.drop t) (k := k - t) (x := x) (by rw [List.getElem?_drop, show t + (k - t) = k by omega]; exact hx), ← List.append_assoc]
theorem accF_end {P : List (List Nd)} {ms : List Nd} {f t k : Nat} (hk : P.length ≤ k) (h1 : f < k) : accF P ms f t (k + 1) = accF P ms f t k := by
  unfold accF
  rw [if_neg (by omega), if_neg (by omega), List.take_of_length_le (l := P.drop t) (i := k + 1 - t) (by rw [List.length_drop]; omega), List.take_of_length_le (l := P.drop t) (i := k - t) (by rw [List.length_drop]; omega)]
/-- the round of from: the text comes, and the group, where the cut is empty -/
theorem accF_from {P : List (List Nd)} {ms : List Nd} {f t : Nat} : accF P ms f t f ++ ms = (P.take f).flatten ++ ms := by
  unfold accF; rw [if_pos (Nat.le_refl _)]
theorem accF_mid {P : List (List Nd)} {ms : List Nd} {f t : Nat} (h : f < t ∨ (P.length ≤ f ∧ f ≤ t)) : accF P ms f t (f + 1) = accF P ms f t f ++ ms := by
  rw [accF_from]
  unfold accF
  rw [if_neg (by omega)]
  rcases h with h | h
  · rw [show f + 1 - t = 0 by omega]; simp
  · have hd : P.drop t = [] := List.drop_eq_nil_of_le (by omega)
    rw [hd]; simp
theorem accF_both {P : List (List Nd)} {ms : List Nd} {f : Nat} {x : List Nd} (hx : P[f]? = some x) : accF P ms f f (f + 1) = accF P ms f f f ++ ms ++ x := by
  rw [accF_from]
  unfold accF
  rw [if_neg (by omega), show f + 1 - f = 0 + 1 by omega, take_at (P := P.drop f) (k := 0) (x := x) (by rw [List.getElem?_drop]; exact hx)]
  simp
theorem accF_all (ns ms : List Nd) (f t : Nat) (hf : f ≤ (partsN ns).length) : accF (partsN ns) ms f t ((partsN ns).length + 1) = spliceL ns ms f t := by
  unfold accF spliceL
  rw [if_neg (by omega), List.take_of_length_le (l := (partsN ns).drop t) (by rw [List.length_drop]; omega)]
/-- a group is what is below its first node -/
theorem below_part {ns : List Nd} (h : Shape ns) {k j : Nat} (hj : (topsL ns)[k]? = some j) : (partsN ns)[k]? = some (belowN ns j) := by
  rw [tops_is h, List.getElem?_map] at hj
  unfold partsN
  rw [List.getElem?_map]
  cases hp : (partsW 0 ns)[k]? with
  | none => rw [hp] at hj; cases hj
  | some p =>
    rw [hp] at hj
    injection hj with hj
    have hj : p.1 = j := hj
    have hpm := List.mem_of_getElem? hp
    obtain ⟨q, u, h1, h2, h3⟩ := partsW_grp ns.length 0 ns (Nat.le_refl _) p hpm
    have h1 : p.1 = q := by omega
    have hu : ns[q]? = some u := by rw [List.getElem?_drop] at h2; simpa using h2
    have hsp : spanN (ns.drop q) u.depth 0 = spanN ns u.depth q := by rw [spanN_drop, Nat.add_zero]
    rw [hsp] at h3
    have hd : u.depth = 0 := by
      have : p.1 ∈ topsL ns := by rw [tops_is h]; exact List.mem_map_of_mem hpm
      obtain ⟨x, hx, hxd⟩ := tops_at this
      rw [h1, hu] at hx; injection hx with hx; subst hx; exact hxd
    show some p.2 = _
    rw [← hj, h1, belowN_at hu, ← h3, hd]
    have : lowerN 0 = id := by
      funext x
      obtain ⟨xk, xd, xs, xt, xm, xst, xmn, xmx⟩ := x
      simp [lowerN, Nd.atD]
    rw [this, List.map_id]

/-- one round -/
theorem accF_step {P : List (List Nd)} {ms : List Nd} {f t k np : Nat} {x : List Nd} (hp : P.length = np) (hf : f ≤ t) (hfn : f ≤ np) (hk : k ≤ np) (hx : k < np → P[k]? = some x) :
    accF P ms f t (k + 1) = (accF P ms f t k ++ (if k = f then ms else [])) ++ (if k < np ∧ (k < f ∨ t ≤ k) then x else []) := by
  rcases Nat.lt_trichotomy k f with h | h | h
  · rw [if_neg (by omega), if_pos ⟨by omega, .inl h⟩, accF_keep (hx (by omega)) h, List.append_nil]
  · subst h
    rw [if_pos rfl]
    by_cases h2 : k < t ∨ P.length ≤ k
    · rw [if_neg (by omega), accF_mid (by omega), List.append_nil]
    · have e : t = k := by omega
      subst e
      rw [if_pos ⟨by omega, .inr (Nat.le_refl _)⟩, accF_both (hx (by omega))]
  · rw [if_neg (by omega), List.append_nil]
    by_cases h2 : k < t
    · rw [if_neg (by omega), accF_skip h h2, List.append_nil]
    · by_cases h3 : k < np
      · rw [if_pos ⟨h3, .inr (by omega)⟩, accF_tail (hx h3) h (by omega)]
      · rw [if_neg (by omega), accF_end (by omega) h, List.append_nil]
theorem flatten_take_le {α : Type} (P : List (List α)) (k : Nat) : (P.take k).flatten.length ≤ P.flatten.length := by
  conv => rhs; rw [← List.take_append_drop k P, List.flatten_append, List.length_append]
  omega
theorem flatten_drop_le {α : Type} (P : List (List α)) (k : Nat) : (P.drop k).flatten.length ≤ P.flatten.length := by
  conv => rhs; rw [← List.take_append_drop k P, List.flatten_append, List.length_append]
  omega
theorem accF_len (ns ms : List Nd) (f t k : Nat) : (accF (partsN ns) ms f t k).length ≤ ns.length + ms.length + ns.length := by
  have h1 := flatten_take_le (partsN ns) k
  have h2 := flatten_take_le (partsN ns) f
  have h3 := flatten_take_le ((partsN ns).drop t) (k - t)
  have h4 := flatten_drop_le (partsN ns) t
  rw [partsN_all] at h1 h2 h4
  unfold accF
  split
  · omega
  · rw [List.length_append, List.length_append]; omega

end Go.Proofs.Ytilagndfohnjnaa

/- The program's Splice. -/
namespace Go.Proofs.Ytilagndfohnjnaa
open Go.RowKit

/-- the parts of a text, each where it lies -/
def srcs (A : Option Addr) (ps : List (Nat × List Nd)) : List Src := ps.map fun p => ⟨A.map fun a => ⟨a.block, a.off + p.1 * 8, none⟩, p.2.length, p.2.length, p.2.flatMap Nd.cells⟩
theorem srcs_val (A : Option Addr) (ps : List (Nat × List Nd)) : (srcs A ps).map (fun s => Value.slice s.A s.n s.c) = partsV A ps := by
  unfold srcs partsV; rw [List.map_map]; rfl
theorem srcs_sum (A : Option Addr) (ps : List (Nat × List Nd)) : sumN (srcs A ps) = (ps.flatMap (·.2)).length := by
  induction ps with
  | nil => rfl
  | cons p r ih =>
    unfold srcs sumN at ih ⊢
    rw [List.map_cons, List.map_cons, List.sum_cons, ih, List.flatMap_cons, List.length_append]
theorem srcs_cells (A : Option Addr) (ps : List (Nat × List Nd)) : (srcs A ps).flatMap (·.xs) = (ps.flatMap (·.2)).flatMap Nd.cells := by
  induction ps with
  | nil => rfl
  | cons p r ih =>
    unfold srcs at ih ⊢
    rw [List.map_cons, List.flatMap_cons, ih, List.flatMap_cons, List.flatMap_append]
theorem srcs_ok {w : World} {A : Option Addr} {ns : List Nd} (hs : Shape ns) (hn : NdsAt w A ns) : ∀ s ∈ srcs A (partsW 0 ns), SrcOk 8 w s := by
  intro s h
  unfold srcs at h
  obtain ⟨p, hp, rfl⟩ := List.mem_map.1 h
  have hg := grp_ok hs p hp
  obtain ⟨b, o, rfl, -, -⟩ := hn 0 _ (List.getElem?_eq_getElem (by have := hg.pos; have := hg.le; omega : 0 < ns.length))
  have h1 : NdsAt w (some ⟨b, o + p.1 * 8, none⟩) p.2 := by
    have := (hn.drop p.1).take p.2.length
    rw [← hg.eq] at this; exact this
  exact nds_src h1 (by have := hg.pos; omega) p.2.length
/-- a row of slices, as the source of a copy -/
theorem row_src {w : World} {base : Nat} {A : Option Addr} {n c : Nat} {l : List Value} (h : w.ownsRow base 25 1 (.slice A n c) n l) (h1 : ∀ u ∈ l, u.oneCell' = true) : SrcOk 1 w ⟨A, n, c, l⟩ := own_src h h1
theorem partsV_one (A : Option Addr) (ps : List (Nat × List Nd)) : ∀ u ∈ partsV A ps, u.oneCell' = true := fun u hu => by
  unfold partsV at hu
  obtain ⟨p, _, rfl⟩ := List.mem_map.1 hu
  rfl
theorem src_take {w : World} {A : Option Addr} {n c : Nat} {l : List Value} (h : SrcOk 1 w ⟨A, n, c, l⟩) (f : Nat) (hf : f ≤ n) (c' : Nat) : SrcOk 1 w ⟨A, f, c', l.take f⟩ := by
  have hl : l.length = n * 1 := h.len
  refine ⟨by rw [List.length_take]; show min f l.length = f * 1; omega, fun e => by have := h.none e; dsimp only at this ⊢; omega, fun ad e j u hj => ?_, fun u hu => h.one u (List.mem_of_mem_take hu), fun ad e hne => h.lt ad e (fun e0 => hne (by show l.take f = []; rw [show l = [] from e0]; simp))⟩
  rw [List.getElem?_take] at hj
  split at hj
  · exact h.cells ad e j u hj
  · cases hj
theorem src_drop {w : World} {g o : Nat} {n c : Nat} {l : List Value} (h : SrcOk 1 w ⟨some ⟨g, o, none⟩, n, c, l⟩) (t : Nat) (ht : t ≤ n) (c' : Nat) : SrcOk 1 w ⟨some ⟨g, o + t, none⟩, n - t, c', l.drop t⟩ := by
  have hl : l.length = n * 1 := h.len
  refine ⟨by rw [List.length_drop]; show l.length - t = (n - t) * 1; omega, fun e => (by cases e), fun ad e j u hj => ?_, fun u hu => h.one u (List.mem_of_mem_drop hu), fun ad e hne => ?_⟩
  · injection e with e; subst e
    rw [List.getElem?_drop] at hj
    have := h.cells _ rfl (t + j) u hj
    rw [addr_add] at this ⊢
    rw [show o + t + j = o + (t + j) by omega]; exact this
  · injection e with e; subst e
    exact h.lt ⟨g, o, none⟩ rfl (fun e0 => hne (by show l.drop t = []; rw [show l = [] from e0]; simp))
theorem src_none (w : World) (A : Option Addr) (c : Nat) : SrcOk 1 w ⟨A, 0, c, []⟩ := ⟨rfl, fun _ => rfl, fun _ _ j u hj => (by simp at hj), fun u hu => (by cases hu), fun _ _ h => absurd rfl h⟩
theorem three_slices (w : World) (s1 s2 s3 : Src) (t : TypeId) : SlicesAt (w.alloc (.cells #[.slice s1.A s1.n s1.c, .slice s2.A s2.n s2.c, .slice s3.A s3.n s3.c] t)) (some ⟨w.heap.size, 0, none⟩) [s1, s2, s3] := fun k s hk => by
  have hb := heap_alloc_new w (.cells #[.slice s1.A s1.n s1.c, .slice s2.A s2.n s2.c, .slice s3.A s3.n s3.c] t)
  refine ⟨w.heap.size, 0, rfl, (Array.getElem?_eq_some_iff.1 hb).1, ?_⟩
  match k, hk with
  | 0, hk => simp at hk; subst hk; exact cell_of_blk hb 0
  | 1, hk => simp at hk; subst hk; exact cell_of_blk hb 1
  | 2, hk => simp at hk; subst hk; exact cell_of_blk hb 2
/-- the groups that Splice puts together -/
def cutS (A B : Option Addr) (ns ms : List Nd) (f t : Nat) : List Src := (srcs A (partsW 0 ns)).take f ++ srcs B (partsW 0 ms) ++ (srcs A (partsW 0 ns)).drop t
theorem cutS_cells (A B : Option Addr) (ns ms : List Nd) (f t : Nat) : (cutS A B ns ms f t).flatMap (·.xs) = (spliceL ns ms f t).flatMap Nd.cells := by
  have h : ∀ (ps : List (Nat × List Nd)), (ps.map (·.2)).flatten = ps.flatMap (·.2) := fun ps => (List.flatMap_def ..).symm
  have e1 : (srcs A (partsW 0 ns)).take f = srcs A ((partsW 0 ns).take f) := by unfold srcs; rw [List.map_take]
  have e2 : (srcs A (partsW 0 ns)).drop t = srcs A ((partsW 0 ns).drop t) := by unfold srcs; rw [List.map_drop]
  unfold cutS spliceL partsN
  rw [e1, e2, List.flatMap_append, List.flatMap_append, srcs_cells, srcs_cells, srcs_cells, ← List.map_take, ← List.map_drop, h, h, List.flatMap_append, List.flatMap_append, parts_all ms.length 0 ms (Nat.le_refl _)]
theorem cutS_sum (A B : Option Addr) (ns ms : List Nd) (f t : Nat) : sumN (cutS A B ns ms f t) = (spliceL ns ms f t).length := by
  have h : ∀ (ps : List (Nat × List Nd)), (ps.map (·.2)).flatten = ps.flatMap (·.2) := fun ps => (List.flatMap_def ..).symm
  have e1 : (srcs A (partsW 0 ns)).take f = srcs A ((partsW 0 ns).take f) := by unfold srcs; rw [List.map_take]
  have e2 : (srcs A (partsW 0 ns)).drop t = srcs A ((partsW 0 ns).drop t) := by unfold srcs; rw [List.map_drop]
  have e3 : ∀ a b : List Src, sumN (a ++ b) = sumN a + sumN b := fun a b => by unfold sumN; rw [List.map_append, List.sum_append]
  unfold cutS spliceL partsN
  rw [e1, e2, e3, e3, srcs_sum, srcs_sum, srcs_sum, ← List.map_take, ← List.map_drop, h, h, List.length_append, List.length_append, parts_all ms.length 0 ms (Nat.le_refl _)]
theorem cutS_ok {w : World} {A B : Option Addr} {ns ms : List Nd} (hs : Shape ns) (hm : Shape ms) (hn : NdsAt w A ns) (hb : NdsAt w B ms) (f t : Nat) : ∀ s ∈ cutS A B ns ms f t, SrcOk 8 w s := by
  intro s h
  unfold cutS at h
  rcases List.mem_append.1 h with h | h
  · rcases List.mem_append.1 h with h | h
    · exact srcs_ok hs hn s (List.mem_of_mem_take h)
    · exact srcs_ok hm hb s h
  · exact srcs_ok hs hn s (List.mem_of_mem_drop h)
theorem cutS_val (A B : Option Addr) (ns ms : List Nd) (f t : Nat) : (cutS A B ns ms f t).map (fun s => Value.slice s.A s.n s.c) = (partsV A (partsW 0 ns)).take f ++ partsV B (partsW 0 ms) ++ (partsV A (partsW 0 ns)).drop t := by
  unfold cutS
  rw [List.map_append, List.map_append, List.map_take, List.map_drop, srcs_val, srcs_val]
/-- a row whose values are slices is a row of sources -/
theorem row_slices {w : World} {base : Nat} {A : Option Addr} {n c : Nat} {ss : List Src} (h : w.ownsRow base 25 1 (.slice A n c) n (ss.map fun s => Value.slice s.A s.n s.c)) : SlicesAt w A ss := fun k s hk => by
  obtain ⟨g, e, -, h2, h3⟩ := row_parts h k (.slice s.A s.n s.c) (by rw [List.getElem?_map, hk]; rfl)
  exact ⟨g, 0, e, h2, by rw [Nat.zero_add]; exact h3⟩

end Go.Proofs.Ytilagndfohnjnaa

/- The program's Splice, walked. -/
namespace Go.Proofs.Ytilagndfohnjnaa
open Go.RowKit

theorem spliceL_le (ns ms : List Nd) (f t : Nat) : (spliceL ns ms f t).length ≤ ns.length + ms.length + ns.length := by
  have h := partsN_all ns
  have h1 : ((partsN ns).take f).flatten.length ≤ ns.length := by
    conv => rhs; rw [← h, ← List.take_append_drop f (partsN ns), List.flatten_append, List.length_append]
    omega
  have h2 : ((partsN ns).drop t).flatten.length ≤ ns.length := by
    conv => rhs; rw [← h, ← List.take_append_drop t (partsN ns), List.flatten_append, List.length_append]
    omega
  unfold spliceL
  rw [List.length_append, List.length_append]; omega

set_option maxRecDepth 100000 in
set_option maxHeartbeats 8000000 in
theorem spliceP_any (L : Lm) (A : Option Addr) (ca : Nat) (ns : List Nd) (f t : Int) (B : Option Addr) (cb : Nat) (ms : List Nd) (w : World) (hl : LmOk w L) (hn : NdsAt w A ns) (h1 : ns.length ≤ ca) (h2 : ca ≤ maxLen) (hm : NdsAt w B ms) (h3 : ms.length ≤ cb) (h4 : cb ≤ maxLen) :
    Calls Try.prog 47 #[.agg #[.int .i64 L.per, .slice L.A L.ms.length L.cap], .agg #[.slice A ns.length ca], .int .i64 f, .int .i64 t, .agg #[.slice B ms.length cb]] w (GotTextO w (spliceQ L.li ns f t ms).1 (spliceQ L.li ns f t ms).2) := by
  obtain ⟨E, hE⟩ : ∃ E, textErr L.li ns = E := ⟨_, rfl⟩
  obtain ⟨F, hF⟩ : ∃ F, textErr L.li ms = F := ⟨_, rfl⟩
  obtain ⟨R, hR⟩ : ∃ R, R = spliceQ L.li ns f t ms := ⟨_, rfl⟩
  have HE := Lib.hid (show R = if E ≠ 0 then ([], E) else if F ≠ 0 then ([], F) else if f < 0 ∨ t < f ∨ (topsL ns).length < t then ([], 1) else if 200 < (spliceL ns ms f.toNat t.toNat).length then ([], 2) else (spliceL ns ms f.toNat t.toNat, 0) by rw [hR, ← hE, ← hF]; rfl)
  have HEE := Lib.hid hE
  have HFF := Lib.hid hF
  have HCK := Lib.hid (fun wx (hb : Below w.heap.size w wx) => gcheck_is L A ca ns wx (hl.below hb) (hn.below hb) h1 h2 E hE)
  have HCK2 := Lib.hid (fun wx (hb : Below w.heap.size w wx) => gcheck_is L B cb ms wx (hl.below hb) (hm.below hb) h3 h4 F hF)
  have HNA := Lib.hid hn
  have HNB := Lib.hid hm
  have H1 := Lib.hid h1
  have H2 := Lib.hid h2
  have H3 := Lib.hid h3
  have H4 := Lib.hid h4
  rw [← hR]
  obtain ⟨N, hN⟩ : ∃ N, N = ns.length := ⟨_, rfl⟩
  obtain ⟨M, hM⟩ : ∃ M, M = ms.length := ⟨_, rfl⟩
  have HN := Lib.hid hN
  have HM := Lib.hid hM
  rw [← hN, ← hM]
  rw [← hN] at HCK
  rw [← hM] at HCK2
  obtain ⟨W0, hW0⟩ : ∃ W, W = (w.alloc (.cells #[.int .i64 L.per, .slice L.A L.ms.length L.cap] 24)).alloc (.cells #[.slice A N ca] 27) := ⟨_, rfl⟩
  have hz0 : W0.heap.size = w.heap.size + 2 := by rw [hW0]; simp
  have HB0 := Lib.hid (show Below w.heap.size w W0 from hW0 ▸ two_under _ _ _)
  have G0 : W0.heap[w.heap.size]? = some (.cells #[.int .i64 L.per, .slice L.A L.ms.length L.cap] 24 (0, 0)) := by rw [hW0, heap_alloc_other _ _ _ (by simp)]; exact heap_alloc_new _ _
  have G1 : W0.heap[w.heap.size + 1]? = some (.cells #[.slice A N ca] 27 (0, 0)) := by rw [hW0]; have := heap_alloc_new (w.alloc (.cells #[.int .i64 L.per, .slice L.A L.ms.length L.cap] 24)) (.cells #[.slice A N ca] 27); simpa using this
  obtain ⟨W, hW⟩ : ∃ W, W = (W0.alloc (.cells #[.slice B M cb] 27)).alloc (.cells #[.slice none 0 0] 27) := ⟨_, rfl⟩
  have HB := Lib.hid (show Below w.heap.size w W from below_more HB0.out (hW ▸ two_under _ _ _))
  have D0 := Lib.hid (show W.heap[w.heap.size]? = some (.cells #[.int .i64 L.per, .slice L.A L.ms.length L.cap] 24 (0, 0)) by rw [hW, heap_alloc_other _ _ _ (by simp; omega), heap_alloc_other _ _ _ (by omega)]; exact G0)
  have D1 := Lib.hid (show W.heap[w.heap.size + 1]? = some (.cells #[.slice A N ca] 27 (0, 0)) by rw [hW, heap_alloc_other _ _ _ (by simp; omega), heap_alloc_other _ _ _ (by omega)]; exact G1)
  have D2 := Lib.hid (show W.heap[w.heap.size + 1 + 1]? = some (.cells #[.slice B M cb] 27 (0, 0)) by rw [hW, heap_alloc_other _ _ _ (by simp; omega)]; have := heap_alloc_new W0 (.cells #[.slice B M cb] 27); rw [hz0] at this; exact this)
  have D3 := Lib.hid (show W.heap[w.heap.size + 1 + 1 + 1]? = some (.cells #[.slice none 0 0] 27 (0, 0)) by rw [hW]; have := heap_alloc_new (W0.alloc (.cells #[.slice B M cb] 27)) (.cells #[.slice none 0 0] 27); rw [World.size_alloc, hz0] at this; exact this)
  clear hl hn hm hE hF hR hN hM h1 h2 h3 h4 G0 G1 hz0 HB0
  rw [hW0] at hW
  clear hW0
  go_enter Try.func47, Try.ntmps47
  go_wp2_with fail
  rw [← hW]
  refine (HCK.out W HB.out).mono ?_; rintro e w1 ⟨rfl, hb⟩
  have HB1 := Lib.hid (below_more HB.out hb)
  have D0 := Lib.hid (blk_keep hb D0.out)
  have D1 := Lib.hid (blk_keep hb D1.out)
  have D2 := Lib.hid (blk_keep hb D2.out)
  have D3 := Lib.hid (blk_keep hb D3.out)
  have x0 := cell_of_blk D0.out 0
  have x1 := cell_of_blk D0.out 1
  have x2 := cell_of_blk D2.out 0
  have q0 := cell_of_blk D3.out 0
  have q1 := free_of_blk D3.out 0
  have hs1 := (Array.getElem?_eq_some_iff.1 D3.out).1
  simp at x0 x1 x2 q0
  clear hb hW HCK HB
  by_cases h0 : E = 0
  case neg =>
    have hbE : (E != 0) = true := by simpa using h0
    have HG := Lib.hid (show R = ([], E) by rw [HE.out, if_pos h0])
    clear h0 HE
    go_wp2
    refine bodyPost_ret (v := .tuple #[.agg #[.slice none 0 0], .int .i64 E]) (by simp [results, Try.results47, go_sem, q0]) rfl ?_
    rw [HG.out]
    exact ⟨none, 0, 0, rfl, Lib.hid rfl, Lib.hid (own_none _ _), HB1.out.setCell (by dsimp only; omega) _⟩
  subst h0
  go_wp2_with fail
  refine (HCK2.out w1 HB1.out).mono ?_; rintro e w2 ⟨rfl, hb⟩
  have HB2 := Lib.hid (below_more HB1.out hb)
  have D1 := Lib.hid (blk_keep hb D1.out)
  have D2 := Lib.hid (blk_keep hb D2.out)
  have D3 := Lib.hid (blk_keep hb D3.out)
  have hs2 := hb.size
  clear hb HCK2 HB1 D0 x0 x1 x2 q0 q1
  have x1 := cell_of_blk D1.out 0
  have q0 := cell_of_blk D3.out 0
  have q1 := free_of_blk D3.out 0
  have hs3 := (Array.getElem?_eq_some_iff.1 D3.out).1
  simp at x1 q0
  by_cases h0 : F = 0
  case neg =>
    have hbE : (F != 0) = true := by simpa using h0
    have HG := Lib.hid (show R = ([], F) by rw [HE.out, if_neg (by simp), if_pos h0])
    clear h0 HE
    go_wp2
    refine bodyPost_ret (v := .tuple #[.agg #[.slice none 0 0], .int .i64 F]) (by simp [results, Try.results47, go_sem, q0]) rfl ?_
    rw [HG.out]
    exact ⟨none, 0, 0, rfl, Lib.hid rfl, Lib.hid (own_none _ _), HB2.out.setCell (by dsimp only; omega) _⟩
  subst h0
  have hka := text_ok HEE.out
  have hkb := text_ok HFF.out
  have HSA := Lib.hid (shape_of HEE.out)
  have HSM := Lib.hid (shape_of HFF.out)
  have hN2 : N ≤ 200 := by have := hka.2.1; rw [HN.out]; exact this
  have hM2 : M ≤ 200 := by have := hkb.2.1; rw [HM.out]; exact this
  obtain ⟨np, hnp⟩ : ∃ np, np = (partsW 0 ns).length := ⟨_, rfl⟩
  obtain ⟨nq, hnq⟩ : ∃ nq, nq = (partsW 0 ms).length := ⟨_, rfl⟩
  have hnpN : np ≤ N := by rw [hnp, HN.out]; exact partsW_len ns.length 0 ns (Nat.le_refl _)
  have hnqM : nq ≤ M := by rw [hnq, HM.out]; exact partsW_len ms.length 0 ms (Nat.le_refl _)
  have HE2 := Lib.hid (show R = if f < 0 ∨ t < f ∨ (np : Int) < t then ([], 1) else if 200 < (spliceL ns ms f.toNat t.toNat).length then ([], 2) else (spliceL ns ms f.toNat t.toNat, 0) by
    rw [HE.out, if_neg (by simp), if_neg (by simp)]
    rw [show (topsL ns).length = np by rw [tops_is HSA.out, List.length_map, hnp]])
  have HSP := Lib.hid (show Calls Try.prog 81 #[.slice A N ca] w2 (GotRow w2 25 1 np (partsV A (partsW 0 ns))) by
    have := split_any A ca ns w2 (HNA.out.below HB2.out) H1.out H2.out (by have := HN.out; omega)
    rw [← HN.out, ← hnp] at this; exact this)
  have HSQ := Lib.hid (fun wx (hb : Below w.heap.size w wx) => show Calls Try.prog 81 #[.slice B M cb] wx (GotRow wx 25 1 nq (partsV B (partsW 0 ms))) by
    have := split_any B cb ms wx (HNB.out.below hb) H3.out H4.out (by have := HM.out; omega)
    rw [← HM.out, ← hnq] at this; exact this)
  have HNP := Lib.hid hnp
  have HNQ := Lib.hid hnq
  clear hka hkb hnp hnq HE
  go_wp2_with fail
  refine HSP.out.mono ?_; rintro e w3 ⟨Ap, cp, rfl, hown, hb⟩
  have HB3 := Lib.hid (below_more HB2.out hb)
  have D2 := Lib.hid (blk_keep hb D2.out)
  have D3 := Lib.hid (blk_keep hb D3.out)
  have hs4 := hb.size
  have HSR := Lib.hid (row_src hown (partsV_one A _))
  have hol := own_len hown
  have hpc := hol.1
  have hpm := hol.2.1
  unfold maxLen at hpm
  have HPN := Lib.hid (show Ap = none → cp = 0 ∧ np = 0 from fun h => by
    rcases hown.2 with ⟨hv, _⟩ | ⟨g', cap, cur, hv, _⟩
    · injection hv with e1 e2 e3; exact ⟨e3, e2⟩
    · injection hv with e1 e2 e3; rw [h] at e1; cases e1)
  have HPA := Lib.hid (fun ad (h : Ap = some ad) => show ∃ gp, ad = ⟨gp, 0, none⟩ by
    rcases hown.2 with ⟨hv, _⟩ | ⟨g', cap, cur, hv, _⟩
    · injection hv with e1 e2 e3; rw [h] at e1; cases e1
    · injection hv with e1 e2 e3; rw [h] at e1; injection e1 with e1; exact ⟨g', e1⟩)
  clear hown hb HSP x1 q0 q1 hol D1
  have x2 := cell_of_blk D2.out 0
  have q0 := cell_of_blk D3.out 0
  have q1 := free_of_blk D3.out 0
  have hs5 := (Array.getElem?_eq_some_iff.1 D3.out).1
  simp at x2 q0
  by_cases hf0 : f < 0
  · have hd : decide (f < 0) = true := decide_eq_true hf0
    have HG := Lib.hid (show R = ([], 1) by rw [HE2.out, if_pos (.inl hf0)])
    go_wp2
    refine bodyPost_ret (v := .tuple #[.agg #[.slice none 0 0], .int .i64 1]) (by simp [results, Try.results47, go_sem, q0]) rfl ?_
    rw [HG.out]
    exact ⟨none, 0, 0, rfl, Lib.hid rfl, Lib.hid (own_none _ _), HB3.out.setCell (by dsimp only; omega) _⟩
  have hd0 : decide (f < 0) = false := decide_eq_false hf0
  by_cases hft : t < f
  · have hd : decide (t < f) = true := decide_eq_true hft
    have HG := Lib.hid (show R = ([], 1) by rw [HE2.out, if_pos (.inr (.inl hft))])
    go_wp2
    refine bodyPost_ret (v := .tuple #[.agg #[.slice none 0 0], .int .i64 1]) (by simp [results, Try.results47, go_sem, q0]) rfl ?_
    rw [HG.out]
    exact ⟨none, 0, 0, rfl, Lib.hid rfl, Lib.hid (own_none _ _), HB3.out.setCell (by dsimp only; omega) _⟩
  have hd1 : decide (t < f) = false := decide_eq_false hft
  by_cases htn : (np : Int) < t
  · have hd : decide ((np : Int) < t) = true := decide_eq_true htn
    have HG := Lib.hid (show R = ([], 1) by rw [HE2.out, if_pos (.inr (.inr htn))])
    go_wp2
    refine bodyPost_ret (v := .tuple #[.agg #[.slice none 0 0], .int .i64 1]) (by simp [results, Try.results47, go_sem, q0]) rfl ?_
    rw [HG.out]
    exact ⟨none, 0, 0, rfl, Lib.hid rfl, Lib.hid (own_none _ _), HB3.out.setCell (by dsimp only; omega) _⟩
  have hd2 : decide ((np : Int) < t) = false := decide_eq_false htn
  have HE3 := Lib.hid (show R = if 200 < (spliceL ns ms f.toNat t.toNat).length then ([], 2) else (spliceL ns ms f.toNat t.toNat, 0) by rw [HE2.out, if_neg (by omega)])
  obtain ⟨fn, rfl⟩ : ∃ fn : Nat, f = fn := ⟨f.toNat, by omega⟩
  obtain ⟨tn, rfl⟩ : ∃ tn : Nat, t = tn := ⟨t.toNat, by omega⟩
  rw [Int.toNat_natCast, Int.toNat_natCast] at HE3
  have hfn : fn ≤ np := by omega
  have htn2 : tn ≤ np := by omega
  have hd3 : decide (tn < fn) = false := decide_eq_false (by omega)
  have hd4 : decide (np < tn) = false := decide_eq_false (by omega)
  clear HE2 hf0 hft htn
  have HSL := Lib.hid (show (spliceL ns ms fn tn).length ≤ 600 by have := spliceL_le ns ms fn tn; have := HN.out; have := HM.out; omega)
  obtain ⟨K, hK⟩ : ∃ K, K = (cutS A B ns ms fn tn).length := ⟨_, rfl⟩
  have HKK := Lib.hid hK
  have HK3 := Lib.hid (show fn + nq + (np - tn) = K by
    have := congrArg List.length (cutS_val A B ns ms fn tn)
    rw [List.length_map, ← hK] at this
    rw [this, List.length_append, List.length_append, List.length_take, List.length_drop]
    unfold partsV; rw [List.length_map, List.length_map, ← HNP.out, ← HNQ.out]; omega)
  clear hK
  go_wp2_with fail
  go_cut [15] (fun v wx => ∃ A5 c5, v = .slice A5 K c5 ∧ Hid (wx.ownsRow w3.heap.size 25 1 (.slice A5 K c5) K ((cutS A B ns ms fn tn).map fun s => Value.slice s.A s.n s.c)) ∧ Hid (Below w3.heap.size w3 wx))
  case first =>
    have HKB := Lib.hid (fun wx (hb : Below w3.heap.size w3 wx) => show wx.cell? ⟨w.heap.size + 1 + 1, 0, none⟩ = some (.slice B M cb) ∧ Below w3.heap.size w3 wx from
      ⟨by have := cell_of_blk (blk_keep hb D2.out) 0; simpa using this, hb⟩)
    have HDR := Lib.hid (show Below w3.heap.size w3 w3.drew from (Below.refl _ _).drew)
    have HSB := Lib.hid (fun wx (h : wx.cell? ⟨w.heap.size + 1 + 1, 0, none⟩ = some (.slice B M cb) ∧ Below w3.heap.size w3 wx) => h.2)
    have HCC := Lib.hid (fun (w4 : World) (Aw : Option Addr) (cw : Nat) (A1 A3 : Option Addr) (c1 n3 c3 : Nat) (hb : Below w3.heap.size w3 w4) (hn3 : n3 = np - tn) (hown : w4.ownsRow w3.drew.heap.size 25 1 (.slice Aw nq cw) nq (partsV B (partsW 0 ms))) (h1 : SrcOk 1 w3 ⟨A1, fn, c1, (partsV A (partsW 0 ns)).take fn⟩) (h3 : SrcOk 1 w3 ⟨A3, n3, c3, (partsV A (partsW 0 ns)).drop tn⟩) =>
      show Calls Try.prog 82 #[.slice (some ⟨w4.heap.size, 0, none⟩) 3 3] (w4.alloc (.cells #[.slice A1 fn c1, .slice Aw nq cw, .slice A3 n3 c3] 99)) (fun e w' => ∃ A5 c5, e = .returned (.slice A5 K c5) ∧ w'.ownsRow w4.heap.size 25 1 (.slice A5 K c5) K ((cutS A B ns ms fn tn).map fun s => Value.slice s.A s.n s.c) ∧ Below (w4.alloc (.cells #[.slice A1 fn c1, .slice Aw nq cw, .slice A3 n3 c3] 99)).heap.size (w4.alloc (.cells #[.slice A1 fn c1, .slice Aw nq cw, .slice A3 n3 c3] 99)) w') by
      subst hn3
      have k1 := (h1.below hb).below (below_alloc w4 (.cells #[.slice A1 fn c1, .slice Aw nq cw, .slice A3 (np - tn) c3] 99))
      have k3 := (h3.below hb).below (below_alloc w4 (.cells #[.slice A1 fn c1, .slice Aw nq cw, .slice A3 (np - tn) c3] 99))
      have k2 := (row_src hown (partsV_one B _)).below (below_alloc w4 (.cells #[.slice A1 fn c1, .slice Aw nq cw, .slice A3 (np - tn) c3] 99))
      have hsum : sumN [⟨A1, fn, c1, (partsV A (partsW 0 ns)).take fn⟩, ⟨Aw, nq, cw, partsV B (partsW 0 ms)⟩, ⟨A3, np - tn, c3, (partsV A (partsW 0 ns)).drop tn⟩] = K := by rw [← HK3.out]; simp [sumN]; omega
      have h5 := concatNds (some ⟨w4.heap.size, 0, none⟩) 3 [⟨A1, fn, c1, (partsV A (partsW 0 ns)).take fn⟩, ⟨Aw, nq, cw, partsV B (partsW 0 ms)⟩, ⟨A3, np - tn, c3, (partsV A (partsW 0 ns)).drop tn⟩] _ (three_slices w4 ⟨A1, fn, c1, (partsV A (partsW 0 ns)).take fn⟩ ⟨Aw, nq, cw, partsV B (partsW 0 ms)⟩ ⟨A3, np - tn, c3, (partsV A (partsW 0 ns)).drop tn⟩ 99)
        (fun s hs => by
          rcases List.mem_cons.1 hs with rfl | hs
          · exact k1
          · rcases List.mem_cons.1 hs with rfl | hs
            · exact k2
            · obtain rfl := List.mem_singleton.1 hs; exact k3) (by rw [hsum, ← HK3.out]; omega) (by simp)
      refine h5.mono ?_
      rintro e w5 ⟨A5, c5, rfl, h6, h7⟩
      rw [hsum] at h6 ⊢
      refine ⟨A5, c5, rfl, ?_, h7⟩
      rw [cutS_val]
      have := own_base h6 (b0 := w4.heap.size) (by simp)
      simpa using this)
    have hi1 : (fn : Int) ≤ (cp : Int) := by omega
    have hi2 : (tn : Int) ≤ (np : Int) := by omega
    have hi3 : fn ≤ cp := by omega
    have hi4 : (np : Int) ≤ (cp : Int) := by omega
    have hi5 : (0 : Int) ≤ (fn : Int) := by omega
    have hi6 : (0 : Int) ≤ (tn : Int) := by omega
    have hi7 : (tn : Int) ≤ (cp : Int) := by omega
    have hi8 : tn ≤ cp := by omega
    clear hd0 hd1 hd2 hd3 hd4 x2 q0 q1
    cases Ap with
    | none =>
      obtain ⟨rfl, rfl⟩ := HPN.out rfl
      obtain rfl : fn = 0 := by omega
      obtain rfl : tn = 0 := by omega
      have k1 := Lib.hid (show SrcOk 1 w3 ⟨none, 0, 0, (partsV A (partsW 0 ns)).take 0⟩ from src_take HSR.out 0 (Nat.le_refl _) 0)
      have k3 := Lib.hid (show SrcOk 1 w3 ⟨none, 0, 0, (partsV A (partsW 0 ns)).drop 0⟩ from HSR.out)
      go_region_held3 (fun w' => w'.cell? ⟨w.heap.size + 1 + 1, 0, none⟩ = some (.slice B M cb) ∧ Below w3.heap.size w3 w')
        ((refine HKB.out _ ?_; first | assumption | exact HDR.out | (refine Below.alloc ?_ (by first | omega | (simp; omega) | simp) _; first | assumption | exact HSB.out _ (by assumption))))
        (first
          | (go_at_call 81; refine (HSQ.out _ (below_more HB3.out HDR.out)).mono ?_; rintro e w4 ⟨Aw, cw, rfl, hown, hb4⟩; have hbw4 := below_more HDR.out hb4; have hz4 := hbw4.size)
          | (go_at_call 82; refine (HCC.out w4 Aw cw _ _ _ _ _ hbw4 (by omega) hown k1.out k3.out).mono ?_; rintro e w5 ⟨A5, c5, rfl, hown5, hb5⟩; have hbw5 := below_more (HSB.out _ (by assumption)) hb5))
      all_goals go_wp2
      all_goals go_meet
      all_goals exact ⟨A5, c5, rfl, Lib.hid (own_base hown5 hz4), Lib.hid hbw5⟩
    | some ap =>
      obtain ⟨gp, rfl⟩ : ∃ gp, ap = ⟨gp, 0, none⟩ := HPA.out ap rfl
      have k1 := Lib.hid (show SrcOk 1 w3 ⟨some ⟨gp, 0, none⟩, fn, cp, (partsV A (partsW 0 ns)).take fn⟩ from src_take HSR.out fn hfn cp)
      by_cases htc : tn = cp
      · have hcn : cp = np := by omega
        obtain rfl : tn = np := by omega
        clear htc
        subst hcn
        have hdn : (partsV A (partsW 0 ns)).drop cp = [] := by
          rw [List.drop_eq_nil_iff]; unfold partsV; rw [List.length_map, ← HNP.out]; exact Nat.le_refl _
        have k3 := Lib.hid (show SrcOk 1 w3 ⟨some ⟨gp, 0, none⟩, 0, 0, (partsV A (partsW 0 ns)).drop cp⟩ by rw [hdn]; exact src_none _ _ _)
        clear hdn
        go_region_held3 (fun w' => w'.cell? ⟨w.heap.size + 1 + 1, 0, none⟩ = some (.slice B M cb) ∧ Below w3.heap.size w3 w')
          ((refine HKB.out _ ?_; first | assumption | exact HDR.out | (refine Below.alloc ?_ (by first | omega | (simp; omega) | simp) _; first | assumption | exact HSB.out _ (by assumption))))
          (first
            | (go_at_call 81; refine (HSQ.out _ (below_more HB3.out HDR.out)).mono ?_; rintro e w4 ⟨Aw, cw, rfl, hown, hb4⟩; have hbw4 := below_more HDR.out hb4; have hz4 := hbw4.size)
            | (go_at_call 82; refine (HCC.out w4 Aw cw _ _ _ _ _ hbw4 (by omega) hown k1.out k3.out).mono ?_; rintro e w5 ⟨A5, c5, rfl, hown5, hb5⟩; have hbw5 := below_more (HSB.out _ (by assumption)) hb5))
        all_goals go_wp2
        all_goals go_meet
        all_goals exact ⟨A5, c5, rfl, Lib.hid (own_base hown5 hz4), Lib.hid hbw5⟩
      · have hcc : (tn = cp) = False := by simp [htc]
        have hcc2 : (cp = tn) = False := by simp; omega
        have k3 := Lib.hid (show SrcOk 1 w3 ⟨some ⟨gp, tn, none⟩, np - tn, cp - tn, (partsV A (partsW 0 ns)).drop tn⟩ by
          have := src_drop HSR.out tn htn2 (cp - tn)
          rw [Nat.zero_add] at this; exact this)
        go_region_held3 (fun w' => w'.cell? ⟨w.heap.size + 1 + 1, 0, none⟩ = some (.slice B M cb) ∧ Below w3.heap.size w3 w')
          ((refine HKB.out _ ?_; first | assumption | exact HDR.out | (refine Below.alloc ?_ (by first | omega | (simp; omega) | simp) _; first | assumption | exact HSB.out _ (by assumption))))
          (first
            | (go_at_call 81; refine (HSQ.out _ (below_more HB3.out HDR.out)).mono ?_; rintro e w4 ⟨Aw, cw, rfl, hown, hb4⟩; have hbw4 := below_more HDR.out hb4; have hz4 := hbw4.size)
            | (go_at_call 82; refine (HCC.out w4 Aw cw _ _ _ _ _ hbw4 (by omega) hown k1.out k3.out).mono ?_; rintro e w5 ⟨A5, c5, rfl, hown5, hb5⟩; have hbw5 := below_more (HSB.out _ (by assumption)) hb5))
        all_goals go_wp2
        all_goals go_meet
        all_goals exact ⟨A5, c5, rfl, Lib.hid (own_base hown5 hz4), Lib.hid hbw5⟩
  case rest =>
  obtain ⟨A5, c5, rfl, hrow, hbc⟩ := hcut
  obtain ⟨w5, rfl⟩ : ∃ w5, w5 = wc := ⟨_, rfl⟩
  have HS5 := Lib.hid hs5
  have HB35 := Lib.hid hbc.out.size
  have HB5 := Lib.hid (below_more HB3.out hbc.out)
  have D3 := Lib.hid (blk_keep hbc.out D3.out)
  have HCC := Lib.hid (show Calls Try.prog 83 #[.slice A5 K c5] w5 (GotRow w5 78 8 (spliceL ns ms fn tn).length ((spliceL ns ms fn tn).flatMap Nd.cells)) by
    have := concatNd A5 c5 (cutS A B ns ms fn tn) w5 (row_slices hrow.out) (cutS_ok HSA.out HSM.out (HNA.out.below HB5.out) (HNB.out.below HB5.out) fn tn) (by rw [cutS_sum]; have := HSL.out; omega) (by rw [← HKK.out, ← HK3.out]; omega)
    rw [cutS_sum, cutS_cells, ← HKK.out] at this; exact this)
  have hsl := HSL.out
  obtain ⟨zs, hzs⟩ : ∃ zs, zs = spliceL ns ms fn tn := ⟨_, rfl⟩
  rw [← hzs] at HCC HE3 hsl
  obtain ⟨m, hm⟩ : ∃ m, m = zs.length := ⟨_, rfl⟩
  have HMM := Lib.hid hm
  rw [← hm] at HCC HE3 hsl
  clear hrow hbc hzs hm HSL q0 q1 x2
  go_wp2_with fail
  refine HCC.out.mono ?_; rintro e w6 ⟨A6, c6, rfl, hown, hb⟩
  have HB6 := Lib.hid (below_more HB5.out hb)
  have D3 := Lib.hid (blk_keep hb D3.out)
  have HO6 := Lib.hid (own_base hown HB5.out.size)
  have q0 := cell_of_blk D3.out 0
  have q1 := free_of_blk D3.out 0
  have hs6 := (Array.getElem?_eq_some_iff.1 D3.out).1
  have hblt := Lib.hid hown.lt
  simp at q0
  have HO7 := Lib.hid (show (w6.setCell ⟨w.heap.size + 1 + 1 + 1, 0, none⟩ (.slice A6 m c6)).ownsRow w.heap.size 78 8 (.slice A6 m c6) m (zs.flatMap Nd.cells) from
    ownsRow_of_block HO6.out (fun g hg => heap_setCell_other _ _ _ _ (by have := (hblt.out g hg).1; have h9 := HS5.out; have h8 := HB35.out; dsimp only; omega)))
  clear hown hb HCC
  by_cases hbig : 200 < m
  · have hd : decide ((200 : Int) < (m : Int)) = true := decide_eq_true (by omega)
    have HG := Lib.hid (show R = ([], 2) by rw [HE3.out, if_pos hbig])
    go_wp2
    refine bodyPost_ret (v := .tuple #[.agg #[.slice none 0 0], .int .i64 2]) (by simp [results, Try.results47, go_sem, q0]) rfl ?_
    rw [HG.out]
    exact ⟨none, 0, 0, rfl, Lib.hid rfl, Lib.hid (own_none _ _), HB6.out.setCell (by dsimp only; omega) _⟩
  · have hd : decide ((200 : Int) < (m : Int)) = false := decide_eq_false (by omega)
    have HG := Lib.hid (show R = (zs, 0) by rw [HE3.out, if_neg hbig])
    go_wp2
    refine bodyPost_ret (v := .tuple #[.agg #[.slice A6 m c6], .int .i64 0]) (by simp [results, Try.results47, go_sem, q0]) rfl ?_
    rw [HG.out]
    exact ⟨A6, m, c6, rfl, HMM, HO7, HB6.out.setCell (by dsimp only; omega) _⟩

end Go.Proofs.Ytilagndfohnjnaa
