/-
  Where a box ends, to the right, where its numbers are small.
-/
import Derived.Test.YtmiokllpdmmfhaaGreatLaN
namespace Go.Proofs.YtmiokllpdmmfhaaGreat
open Go.RowKit
set_option maxRecDepth 100000 in
set_option maxHeartbeats 8000000 in
theorem endS2_any (p : Nat) (x : Bx) (w : World) (m1 : smallI (x.x.num * x.w.den)) (m2 : smallI (x.w.num * x.x.den)) (m3 : smallI (x.x.num * x.w.den + x.w.num * x.x.den)) (m4 : 0 < x.x.den * x.w.den) (m5 : smallI (x.x.den * x.w.den)) :
    Calls Tryz.prog 133 #[.agg #[.func (.func 131) #[] #[], .func (.func 132) #[] #[], .func (.func 172) #[] #[.pointer (some ⟨p, 0, none⟩)]], x.val] w (GotFr w (x.en false)) := by
  have HS := Lib.hid (fun wx => show Calls Tryz.prog 131 #[x.val] wx (GotFr wx (x.st false)) from stN_any false x wx)
  have HZ := Lib.hid (fun wx => show Calls Tryz.prog 132 #[x.val] wx (GotFr wx (x.sz false)) from szN_any false x wx)
  have HP := Lib.hid (fun wx => show Calls Tryz.prog 109 #[.agg #[.int .i64 (x.st false).num, .int .i64 (x.st false).den], .agg #[.int .i64 (x.sz false).num, .int .i64 (x.sz false).den]] wx (GotFr wx (x.en false)) from
    plus_any _ _ _ _ wx m1 m2 m3 m4 m5)
  obtain ⟨S, hS⟩ : ∃ S, S = x.st false := ⟨_, rfl⟩
  obtain ⟨Z, hZ⟩ : ∃ Z, Z = x.sz false := ⟨_, rfl⟩
  obtain ⟨E, hE⟩ : ∃ E, E = x.en false := ⟨_, rfl⟩
  rw [← hS] at HS HP
  rw [← hZ] at HZ HP
  rw [← hE] at HP ⊢
  clear m1 m2 m3 m4 m5 hS hZ hE
  obtain ⟨k, sg, t, m, st, mn, mx, ⟨x1, x2⟩, ⟨y1, y2⟩, ⟨w1, w2⟩, ⟨h1, h2⟩⟩ := x
  unfold Bx.val at HS HZ ⊢
  dsimp only at HS HZ ⊢
  unfold GotFr at HS HZ HP ⊢
  obtain ⟨W1, hW1⟩ : ∃ W1, W1 = w.alloc (.cells #[.func (.func 131) #[] #[], .func (.func 132) #[] #[], .func (.func 172) #[] #[.pointer (some ⟨p, 0, none⟩)]] 100) := ⟨_, rfl⟩
  obtain ⟨W2, hW2⟩ : ∃ W2, W2 = W1.alloc (.cells #[.int .i64 k, .int .i64 sg, .int .i64 t, .bool m, .int .i64 st, .int .i64 mn, .int .i64 mx, .int .i64 x1, .int .i64 x2, .int .i64 y1, .int .i64 y2, .int .i64 w1, .int .i64 w2, .int .i64 h1, .int .i64 h2] 82) := ⟨_, rfl⟩
  obtain ⟨W, hW⟩ : ∃ W, W = W2.alloc (.cells #[.int .i64 0, .int .i64 0] 40) := ⟨_, rfl⟩
  have s1 : W1.heap.size = w.heap.size + 1 := by rw [hW1]; simp
  have s2 : W2.heap.size = w.heap.size + 1 + 1 := by rw [hW2]; simp [s1]
  have s3 : W.heap.size = w.heap.size + 1 + 1 + 1 := by rw [hW]; simp [s2]
  have k1 : Below w.heap.size w W1 := hW1 ▸ below_alloc _ _
  have k2 : Below W1.heap.size W1 W2 := hW2 ▸ below_alloc _ _
  have k3 : Below W2.heap.size W2 W := hW ▸ below_alloc _ _
  have HB := Lib.hid (below_more (below_more k1 k2) k3)
  have D0 := Lib.hid (blk_keep k3 (blk_keep k2 (show W1.heap[w.heap.size]? = some (.cells #[.func (.func 131) #[] #[], .func (.func 132) #[] #[], .func (.func 172) #[] #[.pointer (some ⟨p, 0, none⟩)]] 100 (0, 0)) by rw [hW1]; exact heap_alloc_new _ _)))
  have D1 := Lib.hid (blk_keep k3 (show W2.heap[w.heap.size + 1]? = some (.cells #[.int .i64 k, .int .i64 sg, .int .i64 t, .bool m, .int .i64 st, .int .i64 mn, .int .i64 mx, .int .i64 x1, .int .i64 x2, .int .i64 y1, .int .i64 y2, .int .i64 w1, .int .i64 w2, .int .i64 h1, .int .i64 h2] 82 (0, 0)) by rw [hW2, ← s1]; exact heap_alloc_new _ _))
  have D2 := Lib.hid (show W.heap[w.heap.size + 1 + 1]? = some (.cells #[.int .i64 0, .int .i64 0] 40 (0, 0)) by rw [hW, ← s2]; exact heap_alloc_new _ _)
  have hz0 : w.heap.size < W.heap.size := by omega
  have hz1 : w.heap.size + 1 < W.heap.size := by omega
  clear s1 s2 s3 k1 k2 k3
  have c0 := cell_of_blk D0.out 0
  have c1 := cell_of_blk D0.out 1
  have b0 := cell_of_blk D1.out 0
  have b1 := cell_of_blk D1.out 1
  have b2 := cell_of_blk D1.out 2
  have b3 := cell_of_blk D1.out 3
  have b4 := cell_of_blk D1.out 4
  have b5 := cell_of_blk D1.out 5
  have b6 := cell_of_blk D1.out 6
  have b7 := cell_of_blk D1.out 7
  have b8 := cell_of_blk D1.out 8
  have b9 := cell_of_blk D1.out 9
  have b10 := cell_of_blk D1.out 10
  have b11 := cell_of_blk D1.out 11
  have b12 := cell_of_blk D1.out 12
  have b13 := cell_of_blk D1.out 13
  have b14 := cell_of_blk D1.out 14
  simp at c0 c1 b0 b1 b2 b3 b4 b5 b6 b7 b8 b9 b10 b11 b12 b13 b14
  go_enter Tryz.func133, Tryz.ntmps133
  go_wp2_with fail
  rw [← hW1, ← hW2, ← hW]
  clear hW1 hW2 hW
  refine wp_region_later_tail 9 (by kernel_rfl) (by kernel_rfl) ?_; simp only [List.take_succ_cons, List.take_zero, List.drop_succ_cons, List.drop_zero]; (repeat (first | go_big_quiet_step ((first | ((go_at_call 131; exact Calls.later _ (HS.out _))) | ((go_at_call 132; exact Calls.later _ (HZ.out _))) | ((go_at_call 109; exact Calls.later _ (HP.out _))))) | quiet_step ((first | ((go_at_call 131; exact Calls.later _ (HS.out _))) | ((go_at_call 132; exact Calls.later _ (HZ.out _))) | ((go_at_call 109; exact Calls.later _ (HP.out _))))))); refine wpQuiet_nil ?_; rintro _ ⟨s, rfl⟩
  have HBS := Lib.hid (below_more HB.out s.below)
  have K1 := Lib.hid (blk_keep s.below D2.out)
  obtain ⟨X, hX⟩ : ∃ X, X = s.w := ⟨_, rfl⟩
  rw [← hX] at HBS K1 ⊢
  clear hX s c0 c1 b0 b1 b2 b3 b4 b5 b6 b7 b8 b9 b10 b11 b12 b13 b14 hz0 hz1
  have q0 := cell_of_blk K1.out 0
  have q1 := cell_of_blk K1.out 1
  have f0 := free_of_blk K1.out 0
  have f1 := free_of_blk K1.out 1
  have hs := (Array.getElem?_eq_some_iff.1 K1.out).1
  simp at q0 q1
  go_wp2_with fail
  refine bodyPost_ret (v := .agg #[.int .i64 E.num, .int .i64 E.den]) (by simp [results, Tryz.results133, go_sem, q0, q1]) rfl ⟨rfl, ?_⟩
  exact (HBS.out.setCell (by dsimp only; omega) _).setCell (by dsimp only; omega) _
end Go.Proofs.YtmiokllpdmmfhaaGreat
