/-
  Rows, the space between kids and how they stand (rows, space, across), by the specification.
-/
import Derived.Test.YtcijomljopbelaaGreatGbC
namespace Go.Proofs.YtcijomljopbelaaGreat
open Go.RowKit

set_option maxRecDepth 100000 in
set_option maxHeartbeats 4000000 in
theorem rrows_any (way len : Int) (w : World) : Calls Tryz.prog 104 #[.agg #[.int .i64 way, .int .i64 len]] w fun e w' => e = .returned (.bool (decide (way ≤ 2))) ∧ Below w.heap.size w w' := by
  go_enter Tryz.func104, Tryz.ntmps104
  go_wp2
  go_ret
  exact ⟨rfl, below_alloc _ _⟩

def spcR (u : Nd) : Int := if u.kind = 5 then 20 else 4 * (5 - u.depth)
set_option maxRecDepth 100000 in
set_option maxHeartbeats 4000000 in
theorem rspace_any (u : Nd) (w : World) (h : 0 ≤ u.depth ∧ u.depth ≤ 5) : Calls Tryz.prog 96 #[u.val] w fun e w' => e = .returned (.int .i64 (spcR u)) ∧ Below w.heap.size w w' := by
  obtain ⟨k, d, s, t, m, st, mn, mx⟩ := u
  dsimp only at h
  obtain ⟨h1, h2⟩ := h
  unfold Nd.val spcR
  dsimp only
  by_cases hk : k = 5
  · subst hk
    rw [if_pos rfl]
    go_enter Tryz.func96, Tryz.ntmps96
    go_wp2
    go_ret
    exact ⟨rfl, below_alloc _ _⟩
  · rw [if_neg hk]
    have hb : (k == 5) = false := by simpa using hk
    clear hk
    go_enter Tryz.func96, Tryz.ntmps96
    go_wp2_with fail
    go_ret
    exact ⟨rfl, below_alloc _ _⟩

/-- whether the kids of a node stand side by side -/
def acrB (u : Nd) (way : Int) : Bool := (u.kind == 2) || ((u.kind == 5) && decide (way ≤ 2))
set_option maxRecDepth 100000 in
set_option maxHeartbeats 4000000 in
theorem racross_any (u : Nd) (way len : Int) (w : World) : Calls Tryz.prog 97 #[u.val, .agg #[.int .i64 way, .int .i64 len]] w fun e w' => e = .returned (.bool (acrB u way)) ∧ Below w.heap.size w w' := by
  have HR := Lib.hid (fun wx => rrows_any way len wx)
  obtain ⟨k, d, s, t, m, st, mn, mx⟩ := u
  unfold Nd.val acrB
  dsimp only
  obtain ⟨R, hR⟩ : ∃ R, R = decide (way ≤ 2) := ⟨_, rfl⟩
  rw [← hR] at HR ⊢
  clear hR
  obtain ⟨W1, hW1⟩ : ∃ W', W' = w.alloc (.cells #[.int .i64 k, .int .i64 d, .int .i64 s, .int .i64 t, .bool m, .int .i64 st, .int .i64 mn, .int .i64 mx] 87) := ⟨_, rfl⟩; obtain ⟨W, hW⟩ : ∃ W', W' = W1.alloc (.cells #[.int .i64 way, .int .i64 len] 31) := ⟨_, rfl⟩; have szW1 : W1.heap.size = w.heap.size + 1 := (by rw [hW1]; simp); have kbW1 : Below w.heap.size w W1 := hW1 ▸ below_alloc _ _; have szW : W.heap.size = w.heap.size + 1 + 1 := (by rw [hW]; simp [szW1]); have kbW : Below W1.heap.size W1 W := hW ▸ below_alloc _ _; have HB := Lib.hid (below_more kbW1 kbW); have D0 := Lib.hid (blk_keep kbW (show W1.heap[w.heap.size]? = some (.cells #[.int .i64 k, .int .i64 d, .int .i64 s, .int .i64 t, .bool m, .int .i64 st, .int .i64 mn, .int .i64 mx] 87 (0, 0)) by rw [hW1]; exact heap_alloc_new _ _)); have D1 := Lib.hid (show W.heap[w.heap.size + 1]? = some (.cells #[.int .i64 way, .int .i64 len] 31 (0, 0)) by rw [hW, ← szW1]; exact heap_alloc_new _ _); have SZW := Lib.hid szW; clear szW1 kbW1 szW kbW
  obtain ⟨K2, hK2⟩ : ∃ K, (k == 2) = K := ⟨_, rfl⟩
  obtain ⟨K5, hK5⟩ : ∃ K, (k == 5) = K := ⟨_, rfl⟩
  rw [hK2, hK5]
  cases K2
  case true =>
    go_enter Tryz.func97, Tryz.ntmps97
    go_wp2_with fail
    rw [← hW1, ← hW]; clear hW1 hW
    go_wp2_with fail
    go_ret
    exact ⟨rfl, HB.out⟩
  cases K5
  case false =>
    go_enter Tryz.func97, Tryz.ntmps97
    go_wp2_with fail
    rw [← hW1, ← hW]; clear hW1 hW
    go_wp2_with fail
    go_ret
    exact ⟨rfl, HB.out⟩
  have p0 := cell_of_blk D1.out 0; have p1 := cell_of_blk D1.out 1; have hz_p := (Array.getElem?_eq_some_iff.1 D1.out).1; simp at p0 p1
  go_enter Tryz.func97, Tryz.ntmps97
  go_wp2_with fail
  rw [← hW1, ← hW]; clear hW1 hW
  go_wp2_with fail
  refine (HR.out _).mono ?_; rintro e w2 ⟨rfl, hb⟩
  have HB2 := Lib.hid (below_more HB.out hb)
  clear hb
  go_wp2_with fail
  go_ret
  exact ⟨rfl, HB2.out⟩

end Go.Proofs.YtcijomljopbelaaGreat
