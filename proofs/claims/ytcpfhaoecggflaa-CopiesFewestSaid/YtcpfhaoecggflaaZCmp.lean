/-
  The order of variants, in the program (layer 9).
-/
import Derived.Test.YtcpfhaoecggflaaZKit
import Derived.Deep.RegionHeld3
import Derived.Deep.DeepCutAuto
import Derived.Sort.Statements
import Derived.Shelf.SlSortCmp.WholeK
namespace Go.Proofs.Ytcpfhaoecggflaa
open Go.RowKit

def cmpI (a b : Int) : Int := if a < b then -1 else if b < a then 1 else 0
theorem nanI_any (n : Int) (w : World) : Calls Try.prog 92 #[.int .i64 n] w fun e w' => e = .returned (.bool false) ∧ w = w' := by
  go_enter Try.func92, Try.ntmps92
  go_wp2
  go_ret
  exact ⟨of_bool (by simp), rfl⟩
theorem cmpI_any (a b : Int) (w : World) : Calls Try.prog 57 #[.int .i64 a, .int .i64 b] w fun e w' => e = .returned (.int .i64 (cmpI a b)) ∧ w = w' := by
  rcases Int.lt_trichotomy a b with h | h | h
  · have HF := Lib.hid (show cmpI a b = -1 by unfold cmpI; rw [if_pos h])
    go_enter Try.func57, Try.ntmps57
    go_wp2_with (first | (go_at_call 92; refine (nanI_any _ _).mono ?_; rintro e w' ⟨rfl, rfl⟩))
    go_ret
    exact ⟨of_int HF.out.symm, rfl⟩
  · subst h
    have HF := Lib.hid (show cmpI a a = 0 by unfold cmpI; simp)
    go_enter Try.func57, Try.ntmps57
    go_wp2_with (first | (go_at_call 92; refine (nanI_any _ _).mono ?_; rintro e w' ⟨rfl, rfl⟩))
    go_ret
    exact ⟨of_int HF.out.symm, rfl⟩
  · have HF := Lib.hid (show cmpI a b = 1 by unfold cmpI; rw [if_neg (by omega), if_pos h])
    go_enter Try.func57, Try.ntmps57
    go_wp2_with (first | (go_at_call 92; refine (nanI_any _ _).mono ?_; rintro e w' ⟨rfl, rfl⟩))
    go_ret
    exact ⟨of_int HF.out.symm, rfl⟩

def orI (x y : Int) : Int := if x ≠ 0 then x else y
set_option maxHeartbeats 1600000 in
theorem or2_any (g : Nat) (x y : Int) (w : World) (h : w.heap[g]? = some (.cells #[.int .i64 x, .int .i64 y] 3 (0, 0))) :
    Calls Try.prog 56 #[.slice (some ⟨g, 0, none⟩) 2 2] w fun e w' => e = .returned (.int .i64 (orI x y)) ∧ w = w' := by
  have x0 := cell_of_blk h 0
  have x1 := cell_of_blk h 1
  simp at x0 x1
  go_enter Try.func56, Try.ntmps56
  go_wp2
  go_loop [8] (fun i => ∃ (j : Nat), j ≤ 2 ∧ i = .int .i64 j ∧ Hid ((0 < j → x = 0) ∧ (1 < j → y = 0))) (fun i => 2 - (intOf i).toNat)
  case atStart => exact ⟨0, Nat.zero_le _, rfl, Lib.hid ⟨(fun h => by omega), fun h => by omega⟩⟩
  case round =>
    obtain ⟨j, hj, rfl, hf⟩ := hrel
    match j, hj with
    | 0, _ =>
      by_cases hx : x = 0
      · subst hx
        have e1 : ((0 : Int) != 0) = false := by decide
        go_wp2
        go_round
        case rel => exact ⟨1, by omega, by go_num, Lib.hid ⟨(fun _ => by first | rfl | trivial), fun h => by omega⟩⟩
        case measure => simp [intOf]
      · have e1 : (x != 0) = true := by simpa using hx
        have HR := Lib.hid (show orI x y = x by unfold orI; rw [if_pos hx])
        go_wp2
        go_ret
        exact ⟨of_int HR.out.symm, rfl⟩
    | 1, _ =>
      have hx := hf.out.1 (by omega)
      subst hx
      by_cases hy : y = 0
      · subst hy
        have e1 : ((0 : Int) != 0) = false := by decide
        go_wp2
        go_round
        case rel => exact ⟨2, by omega, by go_num, Lib.hid ⟨(fun _ => by first | rfl | trivial), fun _ => by first | rfl | trivial⟩⟩
        case measure => simp [intOf]
      · have e1 : (y != 0) = true := by simpa using hy
        have HR := Lib.hid (show orI 0 y = y by unfold orI; rw [if_neg (by simp)])
        go_wp2
        go_ret
        exact ⟨of_int HR.out.symm, rfl⟩
    | 2, _ =>
      have hx := hf.out.1 (by omega)
      have hy := hf.out.2 (by omega)
      subst hx hy
      go_wp2
      go_ret
      exact ⟨rfl, rfl⟩
    | j + 3, h => omega

/-- a variant -/
structure Vn where
  at' : Int
  cp : Int
  sg : List Int
  A : Option Addr
  c : Nat
def Vn.cells (v : Vn) : List Value := [.int .i64 v.at', .int .i64 v.cp, .slice v.A v.sg.length v.c]
def Vn.ct (v : Vn) : Int × Int × List Int := (v.at', v.cp, v.sg)
def ordV (x y : Vn) : Int := orI (cmpI x.at' y.at') (cmpI x.cp y.cp)

set_option maxHeartbeats 3200000 in
theorem ordV_any (x y : Vn) (w : World) : Calls Try.prog 55 #[.agg x.cells.toArray, .agg y.cells.toArray] w fun e w' => e = .returned (.int .i64 (ordV x y)) ∧ ∃ q os, w' = Go.Sort.grow (w.drewN q) os := by
  obtain ⟨a1, c1, s1, A1, d1⟩ := x
  obtain ⟨a2, c2, s2, A2, d2⟩ := y
  unfold Vn.cells ordV
  dsimp only
  generalize s1.length = n1
  generalize s2.length = n2
  obtain ⟨W1, hW1⟩ : ∃ W', W' = w.alloc (.cells #[.int .i64 a1, .int .i64 c1, .slice A1 n1 d1] 39) := ⟨_, rfl⟩; obtain ⟨W, hW⟩ : ∃ W', W' = W1.alloc (.cells #[.int .i64 a2, .int .i64 c2, .slice A2 n2 d2] 39) := ⟨_, rfl⟩; have szW1 : W1.heap.size = w.heap.size + 1 := (by rw [hW1]; simp); have kbW1 : Below w.heap.size w W1 := hW1 ▸ below_alloc _ _; have szW : W.heap.size = w.heap.size + 1 + 1 := (by rw [hW]; simp [szW1]); have kbW : Below W1.heap.size W1 W := hW ▸ below_alloc _ _; have HB := Lib.hid (below_more kbW1 kbW); have D0 := Lib.hid (blk_keep kbW (show W1.heap[w.heap.size]? = some (.cells #[.int .i64 a1, .int .i64 c1, .slice A1 n1 d1] 39 (0, 0)) by rw [hW1]; exact heap_alloc_new _ _)); have D1 := Lib.hid (show W.heap[w.heap.size + 1]? = some (.cells #[.int .i64 a2, .int .i64 c2, .slice A2 n2 d2] 39 (0, 0)) by rw [hW, ← szW1]; exact heap_alloc_new _ _); have SZW := Lib.hid szW; clear szW1 kbW1 szW kbW
  have hWg := Lib.hid (show ∃ os, W = Go.Sort.grow w os from ⟨_, by rw [hW, hW1, Go.Sort.alloc_eq_grow, Go.Sort.alloc_eq_grow, Go.Sort.grow_grow]⟩)
  go_enter Try.func55, Try.ntmps55
  go_wp2_with fail
  rw [← hW1, ← hW]; clear hW1 hW
  have x0 := cell_of_blk D0.out 0; have x1 := cell_of_blk D0.out 1; have hz_x := (Array.getElem?_eq_some_iff.1 D0.out).1; simp at x0 x1
  have y0 := cell_of_blk D1.out 0; have y1 := cell_of_blk D1.out 1; have hz_y := (Array.getElem?_eq_some_iff.1 D1.out).1; simp at y0 y1
  go_region_held3 (fun wx => wx.cell? ⟨w.heap.size, 0, none⟩ = some (.int .i64 a1) ∧ wx.cell? ⟨w.heap.size, 1, none⟩ = some (.int .i64 c1) ∧ wx.cell? ⟨w.heap.size + 1, 0, none⟩ = some (.int .i64 a2) ∧ wx.cell? ⟨w.heap.size + 1, 1, none⟩ = some (.int .i64 c2)) (go_keep)
    (first
      | ((go_at_call 57; refine (cmpI_any _ _ _).mono ?_; rintro e w' ⟨rfl, rfl⟩))
      | ((go_at_call 56; refine (or2_any W.heap.size (cmpI a1 a2) (cmpI c1 c2) (W.alloc (.cells #[.int .i64 (cmpI a1 a2), .int .i64 (cmpI c1 c2)] 3)).drew (heap_alloc_new W _)).mono ?_; rintro e w' ⟨rfl, rfl⟩)))
  go_wp2_with fail
  go_ret
  refine ⟨rfl, 1, ?_⟩
  obtain ⟨os, hos⟩ := hWg.out
  rw [hos]
  exact ⟨_, by rw [Go.Sort.alloc_eq_grow, Go.Sort.grow_grow]; rfl⟩

end Go.Proofs.Ytcpfhaoecggflaa
