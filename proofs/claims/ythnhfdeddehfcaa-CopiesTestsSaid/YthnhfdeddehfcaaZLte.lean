/-
  Contract of the law of Fisher's test: it returns true.
-/
import Derived.Test.YthnhfdeddehfcaaZRfi
import Derived.Test.YthnhfdeddehfcaaZWrk
namespace Go.Proofs.Ythnhfdeddehfcaa
open Go.RowKit

set_option maxRecDepth 100000 in
set_option maxHeartbeats 8000000 in
theorem law_ctests (a b c d : Int) (w : World) : Calls Try.prog 6 #[.agg #[.int .i64 a, .int .i64 b], .agg #[.int .i64 c, .int .i64 d]] w fun e w' => e = .returned (.bool true) ∧ Below w.heap.size w w' := by
  obtain ⟨W1, hW1⟩ : ∃ W', W' = w.alloc (.cells #[.int .i64 a, .int .i64 b] 51) := ⟨_, rfl⟩; obtain ⟨W, hW⟩ : ∃ W', W' = W1.alloc (.cells #[.int .i64 c, .int .i64 d] 51) := ⟨_, rfl⟩; have szW1 : W1.heap.size = w.heap.size + 1 := (by rw [hW1]; simp); have kbW1 : Below w.heap.size w W1 := hW1 ▸ below_alloc _ _; have szW : W.heap.size = w.heap.size + 1 + 1 := (by rw [hW]; simp [szW1]); have kbW : Below W1.heap.size W1 W := hW ▸ below_alloc _ _; have HB := Lib.hid (below_more kbW1 kbW); have D0 := Lib.hid (blk_keep kbW (show W1.heap[w.heap.size]? = some (.cells #[.int .i64 a, .int .i64 b] 51 (0, 0)) by rw [hW1]; exact heap_alloc_new _ _)); have D1 := Lib.hid (show W.heap[w.heap.size + 1]? = some (.cells #[.int .i64 c, .int .i64 d] 51 (0, 0)) by rw [hW, ← szW1]; exact heap_alloc_new _ _); have SZW := Lib.hid szW; clear szW1 kbW1 szW kbW
  obtain ⟨⟨⟨x, y⟩, er⟩, hq⟩ : ∃ q, q = fishQ a b c d := ⟨_, rfl⟩
  have HP := Lib.hid (fun wx => show Calls Try.prog 27 #[.agg #[.int .i64 a, .int .i64 b], .agg #[.int .i64 c, .int .i64 d]] wx (GotFrac wx ((x, y), er)) by rw [hq]; exact fisher_any a b c d wx)
  have HR := Lib.hid (fun wx => show Calls Try.prog 28 #[.agg #[.int .i64 a, .int .i64 b], .agg #[.int .i64 c, .int .i64 d]] wx (GotFrac wx ((x, y), er)) by rw [hq]; exact rfisher_any a b c d wx)
  clear hq
  go_enter Try.func6, Try.ntmps6
  go_wp2_with fail
  rw [← hW1, ← hW]; clear hW1 hW
  refine (HP.out _).mono ?_; rintro e w1 ⟨rfl, hb1⟩
  have HB1 := Lib.hid (below_more HB.out hb1)
  have D0 := Lib.hid (blk_keep hb1 D0.out)
  have D1 := Lib.hid (blk_keep hb1 D1.out)
  clear hb1 HP
  have x0 := cell_of_blk D0.out 0; have x1 := cell_of_blk D0.out 1; have hz_x := (Array.getElem?_eq_some_iff.1 D0.out).1; simp at x0 x1
  have y0 := cell_of_blk D1.out 0; have y1 := cell_of_blk D1.out 1; have hz_y := (Array.getElem?_eq_some_iff.1 D1.out).1; simp at y0 y1
  go_wp2_with fail
  obtain ⟨V, hV⟩ : ∃ V, V = w1.alloc (.cells #[.int .i64 x, .int .i64 y] 53) := ⟨_, rfl⟩
  have kV : Below w1.heap.size w1 V := hV ▸ below_alloc _ _
  have DV := Lib.hid (show V.heap[w1.heap.size]? = some (.cells #[.int .i64 x, .int .i64 y] 53 (0, 0)) from hV ▸ heap_alloc_new _ _)
  rw [← hV]
  clear hV x0 x1 hz_x y0 y1 hz_y
  refine (HR.out _).mono ?_; rintro e w2 ⟨rfl, hb2⟩
  have HB2 := Lib.hid (below_more (below_more HB1.out kV) hb2)
  have DV := Lib.hid (blk_keep hb2 DV.out)
  clear kV hb2 HR
  have e1 : (x == x) = true := by simp
  have e2 : (y == y) = true := by simp
  have e3 : (er == er) = true := by simp
  have z0 := cell_of_blk DV.out 0; have z1 := cell_of_blk DV.out 1; have hz_z := (Array.getElem?_eq_some_iff.1 DV.out).1; simp at z0 z1
  go_wp2_with fail
  refine (works_any _).mono ?_; rintro e w3 ⟨rfl, hb3⟩
  go_wp2
  go_ret
  exact ⟨rfl, below_more HB2.out (below_more (below_alloc _ _) hb3)⟩

end Go.Proofs.Ythnhfdeddehfcaa
