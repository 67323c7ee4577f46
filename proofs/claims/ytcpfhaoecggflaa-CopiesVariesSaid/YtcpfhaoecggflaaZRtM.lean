/-
  The specification's table of least costs in memory (layer 9).
-/
import Derived.Test.YtcpfhaoecggflaaZKit
import Derived.Test.YtcpfhaoecggflaaZAln
import Derived.Test.YtcpfhaoecggflaaZRch
namespace Go.Proofs.Ytcpfhaoecggflaa
open Go.RowKit

/-- the table: rows of the call's own in a row of the call's own; the rows from p on are made, and hold the least costs of those rests of which P speaks -/
structure Rt (w : World) (base go : Nat) (a b : List Int) (p : Nat) (P : Nat → Nat → Prop) : Prop where
  ex : ∃ (xs : List Value) (R : Nat → Nat) (ys : Nat → List Value),
    w.ownsRow base 22 1 (.slice (some ⟨go, 0, none⟩) (a.length + 1) (a.length + 1)) (a.length + 1) xs ∧
    (∀ i, p ≤ i → i ≤ a.length → xs[i]? = some (.slice (some ⟨R i, 0, none⟩) (b.length + 1) (b.length + 1)) ∧ R i ≠ go ∧ w.ownsRow base 3 1 (.slice (some ⟨R i, 0, none⟩) (b.length + 1) (b.length + 1)) (b.length + 1) (ys i) ∧ ∀ j, j ≤ b.length → P i j → (ys i)[j]? = some (.int .i64 (cst (a.drop i) (b.drop j)))) ∧
    (∀ i i', p ≤ i → i < i' → i' ≤ a.length → R i ≠ R i')
theorem Rt.below {w w' : World} {base go : Nat} {a b : List Int} {p : Nat} {P : Nat → Nat → Prop} (h : Rt w base go a b p P) (hb : Below w.heap.size w w') : Rt w' base go a b p P := by
  obtain ⟨xs, R, ys, h1, h2, h3⟩ := h.ex
  exact ⟨xs, R, ys, own_below h1 hb, fun i hi hn => by
    obtain ⟨k1, k2, k3, k4⟩ := h2 i hi hn
    exact ⟨k1, k2, own_below k3 hb, k4⟩, h3⟩
theorem Rt.mono {w : World} {base go : Nat} {a b : List Int} {p : Nat} {P Q : Nat → Nat → Prop} (h : Rt w base go a b p P) (hq : ∀ i j, i ≤ a.length → j ≤ b.length → p ≤ i → Q i j → P i j) : Rt w base go a b p Q := by
  obtain ⟨xs, R, ys, h1, h2, h3⟩ := h.ex
  exact ⟨xs, R, ys, h1, fun i hi hn => by
    obtain ⟨k1, k2, k3, k4⟩ := h2 i hi hn
    exact ⟨k1, k2, k3, fun j hj hQ => k4 j hj (hq i j hn hj hi hQ)⟩, h3⟩
/-- no row is made yet -/
theorem Rt.make {w : World} {base go : Nat} {a b : List Int} {xs : List Value} (h : w.ownsRow base 22 1 (.slice (some ⟨go, 0, none⟩) (a.length + 1) (a.length + 1)) (a.length + 1) xs) (P : Nat → Nat → Prop) : Rt w base go a b (a.length + 1) P :=
  ⟨xs, fun _ => 0, fun _ => [], h, (fun i h1 h2 => by omega), fun i i' h1 h2 h3 => by omega⟩
/-- a row is made and stored -/
theorem Rt.row {w w1 : World} {base go i : Nat} {a b : List Int} {P : Nat → Nat → Prop} {zs : List Value} (h : Rt w base go a b (i + 1) P) (hi : i ≤ a.length) (hg : w.grownBy w1 none)
    (hown : w1.ownsRow base 3 1 (.slice (some ⟨w.heap.size, 0, none⟩) (b.length + 1) (b.length + 1)) (b.length + 1) zs) :
    Rt (w1.setCell ⟨go, i, none⟩ (.slice (some ⟨w.heap.size, 0, none⟩) (b.length + 1) (b.length + 1))) base go a b i (fun i' j' => i + 1 ≤ i' ∧ P i' j') := by
  obtain ⟨xs, R, ys, h1, h2, h3⟩ := h.ex
  have hgo : go < w.heap.size := (h1.lt go rfl).2
  have h1' : w1.ownsRow base 22 1 (.slice (some ⟨go, 0, none⟩) (a.length + 1) (a.length + 1)) (a.length + 1) xs := ownsRow_of_block h1 fun k hk => hg.block k (h1.lt k hk).2 (by simp)
  have hlen : xs.length = a.length + 1 := by have := h1.1; omega
  refine ⟨xs.set i (.slice (some ⟨w.heap.size, 0, none⟩) (b.length + 1) (b.length + 1)), fun k => if k = i then w.heap.size else R k, fun k => if k = i then zs else ys k, (h1'.stored i _).1, fun k hk hkn => ?_, fun k k' hk hkk hkn => ?_⟩
  · by_cases e : k = i
    · subst e
      simp only [if_true]
      refine ⟨by rw [List.getElem?_set_self (by omega)], by omega, ?_, fun j hj hP => by omega⟩
      exact ownsRow_of_block hown fun q hq => heap_setCell_other _ _ _ _ (by
        have hq : some w.heap.size = some q := hq
        injection hq with hq; show q ≠ go; omega)
    · simp only [if_neg e]
      obtain ⟨k1, k2, k3, k4⟩ := h2 k (by omega) hkn
      refine ⟨by rw [List.getElem?_set_ne (by omega)]; exact k1, k2, ?_, fun j hj hP => k4 j hj hP.2⟩
      refine ownsRow_of_block k3 fun q hq => ?_
      have hq' : some (R k) = some q := hq
      injection hq' with hq'
      rw [heap_setCell_other _ _ _ _ (by show q ≠ go; rw [← hq']; exact k2)]
      exact hg.block q (k3.lt q hq).2 (by simp)
  · by_cases e : k = i
    · subst e
      show (if k = k then w.heap.size else R k) ≠ (if k' = k then w.heap.size else R k')
      rw [if_pos rfl, if_neg (by omega)]
      have : R k' < w.heap.size := ((h2 k' (by omega) hkn).2.2.1.lt _ rfl).2
      omega
    · show (if k = i then w.heap.size else R k) ≠ (if k' = i then w.heap.size else R k')
      rw [if_neg e, if_neg (by omega)]
      exact h3 k k' (by omega) hkk hkn
theorem Rt.cell0 {w : World} {base go : Nat} {a b : List Int} {p : Nat} {P : Nat → Nat → Prop} (h : Rt w base go a b p P) (i : Nat) (hi : i ≤ a.length) : (∃ u, w.cell? ⟨go, i, none⟩ = some u) ∧ w.frozen? ⟨go, i, none⟩ = false ∧ go < w.heap.size ∧ base ≤ go := by
  obtain ⟨xs, R, ys, h1, _, _⟩ := h.ex
  have hlen : xs.length = a.length + 1 := by have := h1.1; omega
  exact ⟨⟨xs[i]'(by omega), by rw [h1.cellAt i (by omega)]; exact List.getElem?_eq_getElem _⟩, h1.frozenAt i, (h1.lt _ rfl).2, (h1.lt _ rfl).1⟩
/-- a row of the table, as it is read and written -/
theorem Rt.at {w : World} {base go i : Nat} {a b : List Int} {p : Nat} {P : Nat → Nat → Prop} (h : Rt w base go a b p P) (hi : p ≤ i) (hn : i ≤ a.length) :
    ∃ r, w.cell? ⟨go, i, none⟩ = some (.slice (some ⟨r, 0, none⟩) (b.length + 1) (b.length + 1)) ∧ base ≤ r ∧ r < w.heap.size ∧ go < w.heap.size ∧ (∀ j, j ≤ b.length → P i j → w.cell? ⟨r, j, none⟩ = some (.int .i64 (cst (a.drop i) (b.drop j)))) ∧
      (∀ j, j ≤ b.length → (∃ u, w.cell? ⟨r, j, none⟩ = some u) ∧ w.frozen? ⟨r, j, none⟩ = false) ∧
      ∀ j v, j ≤ b.length → v = cst (a.drop i) (b.drop j) → Rt (w.setCell ⟨r, j, none⟩ (.int .i64 v)) base go a b p (fun i' j' => (i' = i ∧ j' = j) ∨ P i' j') := by
  obtain ⟨xs, R, ys, h1, h2, h3⟩ := h.ex
  obtain ⟨k1, k2, k3, k4⟩ := h2 i hi hn
  have hyl : (ys i).length = b.length + 1 := by have := k3.1; omega
  refine ⟨R i, by rw [h1.cellAt i (by omega)]; exact k1, (k3.lt _ rfl).1, (k3.lt _ rfl).2, (h1.lt _ rfl).2, fun j hj hP => by rw [k3.cellAt j (by omega)]; exact k4 j hj hP, fun j hj => ⟨⟨(ys i)[j]'(by omega), by rw [k3.cellAt j (by omega)]; exact List.getElem?_eq_getElem _⟩, k3.frozenAt j⟩, fun j v hj hv => ?_⟩
  subst hv
  refine ⟨xs, R, fun q => if q = i then (ys i).set j (.int .i64 (cst (a.drop i) (b.drop j))) else ys q, ?_, fun q hq hqn => ?_, h3⟩
  · exact ownsRow_of_block h1 fun t ht => heap_setCell_other _ _ _ _ (by
      have ht : some go = some t := ht
      injection ht with ht; show t ≠ R i; rw [← ht]; exact fun e => k2 e.symm)
  · obtain ⟨q1, q2, q3, q4⟩ := h2 q hq hqn
    by_cases e : q = i
    · subst e
      simp only [if_true]
      refine ⟨q1, q2, (k3.stored j _).1, fun j' hj' hP => ?_⟩
      by_cases ej : j' = j
      · subst ej; rw [List.getElem?_set_self (by omega)]
      · rw [List.getElem?_set_ne (by omega)]
        rcases hP with hP | hP
        · exact absurd hP.2 ej
        · exact q4 j' hj' hP
    · simp only [if_neg e]
      refine ⟨q1, q2, ownsRow_of_block q3 fun t ht => heap_setCell_other _ _ _ _ (by
        have ht : some (R q) = some t := ht
        injection ht with ht; show t ≠ R i; rw [← ht]
        rcases Nat.lt_or_gt_of_ne e with hlt | hlt
        · exact h3 q i hq hlt hn
        · exact fun e2 => h3 i q hi hlt hqn e2.symm), fun j' hj' hP => ?_⟩
      rcases hP with hP | hP
      · exact absurd hP.1 e
      · exact q4 j' hj' hP

end Go.Proofs.Ytcpfhaoecggflaa
