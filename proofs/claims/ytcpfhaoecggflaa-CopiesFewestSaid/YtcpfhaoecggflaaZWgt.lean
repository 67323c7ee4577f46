/-
  The program's weight of a table, a closure over two rows (layer 9).
-/
import Derived.Test.YtcpfhaoecggflaaZCho
import Derived.Test.YtcpfhaoecggflaaZGcd
import Derived.Test.YtcpfhaoecggflaaZTal
namespace Go.Proofs.Ytcpfhaoecggflaa
open Go.RowKit

/-- what the closure holds -/
structure WgtAt (w : World) (pa pb pr m n r : Nat) : Prop where
  a : ∃ g c, w.cell? ⟨pa, 0, none⟩ = some (.slice (some ⟨g, 0, none⟩) (m + 1) c) ∧ g < w.heap.size ∧ ∀ j, j ≤ m → w.cell? ⟨g, j, none⟩ = some (.int .i64 (bin m j : Int))
  b : ∃ g c, w.cell? ⟨pb, 0, none⟩ = some (.slice (some ⟨g, 0, none⟩) (n + 1) c) ∧ g < w.heap.size ∧ ∀ j, j ≤ n → w.cell? ⟨g, j, none⟩ = some (.int .i64 (bin n j : Int))
  r : w.cell? ⟨pr, 0, none⟩ = some (.int .i64 r)
  la : pa < w.heap.size
  lb : pb < w.heap.size
  lr : pr < w.heap.size
theorem WgtAt.below {w w' : World} {pa pb pr m n r : Nat} (h : WgtAt w pa pb pr m n r) (hb : Below w.heap.size w w') : WgtAt w' pa pb pr m n r := by
  obtain ⟨⟨g, c, a1, a2, a3⟩, ⟨g', c', b1, b2, b3⟩, hr, la, lb, lr⟩ := h
  have hs := hb.size
  exact ⟨⟨g, c, ((bcell hb).1 _ _ la).trans a1, by omega, fun j hj => ((bcell hb).1 _ _ a2).trans (a3 j hj)⟩, ⟨g', c', ((bcell hb).1 _ _ lb).trans b1, by omega, fun j hj => ((bcell hb).1 _ _ b2).trans (b3 j hj)⟩, ((bcell hb).1 _ _ lr).trans hr, by omega, by omega, by omega⟩

set_option maxHeartbeats 1600000 in
theorem weight_any (x m n r pa pb pr : Nat) (w : World) (h : WgtAt w pa pb pr m n r) (hx : x ≤ m) (hx1 : x ≤ r) (hx2 : r - x ≤ n) (_hm : m ≤ 60) (hn : n ≤ 60) (_hr : r ≤ 60) (hs : m + n ≤ 60) :
    Calls Try.prog 65 #[.int .i64 x, .pointer (some ⟨pa, 0, none⟩), .pointer (some ⟨pb, 0, none⟩), .pointer (some ⟨pr, 0, none⟩)] w fun e w' => e = .returned (.int .i64 (wt m n r x : Nat)) ∧ Below w.heap.size w w' := by
  obtain ⟨⟨g, c, a1, a2, a3⟩, ⟨g', c', b1, b2, b3⟩, hr', la, lb, lr⟩ := h
  have c1 := a3 x hx
  have c2 := b3 (r - x) hx2
  have HW := Lib.hid (show ((bin m x : Int) * (bin n (r - x) : Int)) = (wt m n r x : Nat) by unfold wt; exact (Int.natCast_mul _ _).symm)
  have hb := wt_60 (m := m) (n := n) r x hs
  have hw := IntWalk.i64_in ((bin m x : Int) * (bin n (r - x) : Int)) (by rw [HW.out]; omega)
  obtain ⟨p, hp⟩ : ∃ p, p = bin m x := ⟨_, rfl⟩
  obtain ⟨q, hq⟩ : ∃ q, q = bin n (r - x) := ⟨_, rfl⟩
  obtain ⟨v, hv⟩ : ∃ v, v = wt m n r x := ⟨_, rfl⟩
  rw [← hp] at c1 HW hw
  rw [← hq] at c2 HW hw
  rw [← hv] at HW hb ⊢
  clear hp hq hv a3 b3
  have i1 : x < m + 1 := by omega
  have i2 : (x : Int) < ((m + 1 : Nat) : Int) := by omega
  have i3 : r - x < n + 1 := by omega
  have i4 : (r : Int) - (x : Int) < ((n + 1 : Nat) : Int) := by omega
  have i6 : 0 ≤ (r : Int) - (x : Int) := by omega
  have i5 := IntWalk.i64_in ((r : Int) - (x : Int)) (by omega)
  go_enter Try.func65, Try.ntmps65
  go_wp2
  go_region
  go_wp2
  go_ret
  exact ⟨of_int HW.out, below_drew _⟩

end Go.Proofs.Ytcpfhaoecggflaa
