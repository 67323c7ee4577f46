/-
  Slices that are joined: what lies in them, cell by cell.
-/
import Derived.Test.YtbfedahonfjpfaaUsd
import Derived.Test.YtbfedahonfjpfaaCopy
namespace Go.Proofs.Ytbfedahonfjpfaa
open Go.RowKit

/-- a slice with the cells that lie in it -/
structure Src where
  A : Option Addr
  n : Nat
  c : Nat
  xs : List Value
structure SrcOk (size : Nat) (w : World) (s : Src) : Prop where
  len : s.xs.length = s.n * size
  none : s.A = none → s.n = 0
  cells : ∀ ad, s.A = some ad → ∀ j u, s.xs[j]? = some u → w.cell? (ad.add j) = some u
  one : ∀ u ∈ s.xs, u.oneCell' = true
  lt : ∀ ad, s.A = some ad → s.xs ≠ [] → ad.block < w.heap.size
theorem add_blk (a : Addr) (n : Nat) : (a.add n).block = a.block := by unfold Addr.add; split <;> rfl
theorem SrcOk.below {size B : Nat} {w w' : World} {s : Src} (h : SrcOk size w s) (hb : Below B w w') (hB : w.heap.size ≤ B := by exact Nat.le_refl _) : SrcOk size w' s :=
  ⟨h.len, h.none, fun ad e j u hj => by
    have hlt := h.lt ad e (fun e2 => by rw [e2] at hj; simp at hj)
    exact (hb.cell (p := ad.add j) (by rw [add_blk]; exact Nat.lt_of_lt_of_le hlt hB)).trans (h.cells ad e j u hj), h.one, fun ad e hne => Nat.lt_of_lt_of_le (h.lt ad e hne) hb.size⟩
/-- a slice of slices -/
def SlicesAt (w : World) (A : Option Addr) (ss : List Src) : Prop := ∀ k s, ss[k]? = some s → ∃ g o, A = some ⟨g, o, none⟩ ∧ g < w.heap.size ∧ w.cell? ⟨g, o + k, none⟩ = some (.slice s.A s.n s.c)
def sumN (ss : List Src) : Nat := (ss.map (·.n)).sum
theorem sumN_take {ss : List Src} {k : Nat} {s : Src} (h : ss[k]? = some s) : sumN (ss.take (k + 1)) = sumN (ss.take k) + s.n := by
  obtain ⟨hk, e⟩ := List.getElem?_eq_some_iff.1 h
  unfold sumN
  rw [List.take_succ_eq_append_getElem hk, e]; simp
theorem sumN_take_le (ss : List Src) (k : Nat) : sumN (ss.take k) ≤ sumN ss := by
  conv => rhs; rw [← List.take_append_drop k ss]
  unfold sumN; rw [List.map_append, List.sum_append]; omega

end Go.Proofs.Ytbfedahonfjpfaa
