/-
  Whether a box contains a place in a direction ((axis).contains), by the program.
-/
import Derived.Test.YtcijomljopbelaaGreatGaO
namespace Go.Proofs.YtcijomljopbelaaGreat
open Go.RowKit

/-- a box begins at or before a place and ends behind it -/
def holdB (s : Bool) (x : Bx) (f : Fr) : Bool := !decide (f.num * (x.st s).den < (x.st s).num * f.den) && decide (f.num * (x.en s).den < (x.en s).num * f.den)
theorem cmp_le (x y : Int) : decide (cmpR x y ≤ 0) = !decide (y < x) := by
  unfold cmpR
  split
  · rename_i h; simp; omega
  · split
    · rename_i h1 h2; simp; omega
    · rename_i h1 h2; simp; omega

set_option maxRecDepth 100000 in
set_option maxHeartbeats 8000000 in
theorem contS_any (p : Nat) (x : Bx) (f : Fr) (w : World) (hs : vF (x.st false) = true) (hz : vF (x.sz false) = true) (he : vF (x.en false) = true) (hf : vF f = true) :
    Calls Tryz.prog 87 #[.agg #[.func (.func 131) #[] #[], .func (.func 132) #[] #[], .func (.func 172) #[] #[.pointer (some ⟨p, 0, none⟩)]], x.val, .agg #[.int .i64 f.num, .int .i64 f.den]] w fun e w' => e = .returned (.bool (holdB false x f)) ∧ Below w.heap.size w w' := by
  have HS := Lib.hid (fun wx => show Calls Tryz.prog 131 #[x.val] wx (GotFr wx (x.st false)) from stN_any false x wx)
  have HE := Lib.hid (fun wx => endS_any p x wx hs hz)
  unfold vF at hs he hf
  obtain ⟨a1, a2, a3, a4⟩ := valid_in hs
  obtain ⟨b1, b2, b3, b4⟩ := valid_in he
  obtain ⟨d1, d2, d3, d4⟩ := valid_in hf
  have HC1 := Lib.hid (fun wx => compare_any (x.st false).num (x.st false).den f.num f.den wx (mul_small ⟨a3, a4⟩ ⟨d1, d2⟩) (mul_small ⟨d3, d4⟩ ⟨a1, a2⟩))
  have HC2 := Lib.hid (fun wx => compare_any f.num f.den (x.en false).num (x.en false).den wx (mul_small ⟨d3, d4⟩ ⟨b1, b2⟩) (mul_small ⟨b3, b4⟩ ⟨d1, d2⟩))
  obtain ⟨C1, hC1⟩ : ∃ c, c = cmpR ((x.st false).num * f.den) (f.num * (x.st false).den) := ⟨_, rfl⟩
  obtain ⟨C2, hC2⟩ : ∃ c, c = cmpR (f.num * (x.en false).den) ((x.en false).num * f.den) := ⟨_, rfl⟩
  rw [← hC1] at HC1
  rw [← hC2] at HC2
  obtain ⟨V1, hV1⟩ : ∃ V, V = decide (C1 ≤ 0) := ⟨_, rfl⟩
  obtain ⟨V2, hV2⟩ : ∃ V, V = decide (C2 < 0) := ⟨_, rfl⟩
  have HR := Lib.hid (show holdB false x f = (V1 && V2) by
    unfold holdB
    rw [hV1, hV2, hC1, hC2, cmp_le, cmp_neg])
  rw [HR.out]
  have H1 := Lib.hid hV1.symm
  have H2 := Lib.hid hV2.symm
  obtain ⟨⟨S1, S2⟩, hS⟩ : ∃ S, S = x.st false := ⟨_, rfl⟩
  obtain ⟨⟨E1, E2⟩, hE⟩ : ∃ E, E = x.en false := ⟨_, rfl⟩
  rw [← hS] at HS HC1
  rw [← hE] at HE HC2
  unfold GotFr at HS HE
  dsimp only at HS HE HC1 HC2
  clear hs hz he hf a1 a2 a3 a4 b1 b2 b3 b4 d1 d2 d3 d4 hC1 hC2 hV1 hV2 hS hE HR
  obtain ⟨k, sg, t, m, st, mn, mx, ⟨x1, x2⟩, ⟨y1, y2⟩, ⟨w1, w2⟩, ⟨h1, h2⟩⟩ := x
  obtain ⟨f1, f2⟩ := f
  unfold Bx.val at HS HE ⊢
  dsimp only at HS HE HC1 HC2 ⊢
  obtain ⟨W1, hW1⟩ : ∃ W1, W1 = w.alloc (.cells #[.func (.func 131) #[] #[], .func (.func 132) #[] #[], .func (.func 172) #[] #[.pointer (some ⟨p, 0, none⟩)]] 100) := ⟨_, rfl⟩
  obtain ⟨W2, hW2⟩ : ∃ W2, W2 = W1.alloc (.cells #[.int .i64 k, .int .i64 sg, .int .i64 t, .bool m, .int .i64 st, .int .i64 mn, .int .i64 mx, .int .i64 x1, .int .i64 x2, .int .i64 y1, .int .i64 y2, .int .i64 w1, .int .i64 w2, .int .i64 h1, .int .i64 h2] 82) := ⟨_, rfl⟩
  obtain ⟨W, hW⟩ : ∃ W, W = W2.alloc (.cells #[.int .i64 f1, .int .i64 f2] 40) := ⟨_, rfl⟩
  have s1 : W1.heap.size = w.heap.size + 1 := by rw [hW1]; simp
  have s2 : W2.heap.size = w.heap.size + 1 + 1 := by rw [hW2]; simp [s1]
  have s3 : W.heap.size = w.heap.size + 1 + 1 + 1 := by rw [hW]; simp [s2]
  have k1 : Below w.heap.size w W1 := hW1 ▸ below_alloc _ _
  have k2 : Below W1.heap.size W1 W2 := hW2 ▸ below_alloc _ _
  have k3 : Below W2.heap.size W2 W := hW ▸ below_alloc _ _
  have HB := Lib.hid (below_more (below_more k1 k2) k3)
  have D0 := Lib.hid (blk_keep k3 (blk_keep k2 (show W1.heap[w.heap.size]? = some (.cells #[.func (.func 131) #[] #[], .func (.func 132) #[] #[], .func (.func 172) #[] #[.pointer (some ⟨p, 0, none⟩)]] 100 (0, 0)) by rw [hW1]; exact heap_alloc_new _ _)))
  have D1 := Lib.hid (blk_keep k3 (show W2.heap[w.heap.size + 1]? = some (.cells #[.int .i64 k, .int .i64 sg, .int .i64 t, .bool m, .int .i64 st, .int .i64 mn, .int .i64 mx, .int .i64 x1, .int .i64 x2, .int .i64 y1, .int .i64 y2, .int .i64 w1, .int .i64 w2, .int .i64 h1, .int .i64 h2] 82 (0, 0)) by rw [hW2, ← s1]; exact heap_alloc_new _ _))
  have D2 := Lib.hid (show W.heap[w.heap.size + 1 + 1]? = some (.cells #[.int .i64 f1, .int .i64 f2] 40 (0, 0)) by rw [hW, ← s2]; exact heap_alloc_new _ _)
  have hz0 : w.heap.size < W.heap.size := by omega
  have hz1 : w.heap.size + 1 < W.heap.size := by omega
  have hz2 : w.heap.size + 1 + 1 < W.heap.size := by omega
  clear s1 s2 s3 k1 k2 k3
  have c0 := cell_of_blk D0.out 0
  have c1 := cell_of_blk D0.out 1
  have c2 := cell_of_blk D0.out 2
  have b0 := cell_of_blk D1.out 0
  have b1 := cell_of_blk D1.out 1
  have b2 := cell_of_blk D1.out 2
  have b3 := cell_of_blk D1.out 3
  have b4 := cell_of_blk D1.out 4
  have b5 := cell_of_blk D1.out 5
  have b6 := cell_of_blk D1.out 6
  have b7 := cell_of_blk D1.out 7
  have b8 := cell_of_blk D1.out 8
  have b9 := cell_of_blk D1.out 9
  have b10 := cell_of_blk D1.out 10
  have b11 := cell_of_blk D1.out 11
  have b12 := cell_of_blk D1.out 12
  have b13 := cell_of_blk D1.out 13
  have b14 := cell_of_blk D1.out 14
  have a0 := cell_of_blk D2.out 0
  have a1 := cell_of_blk D2.out 1
  simp at c0 c1 c2 b0 b1 b2 b3 b4 b5 b6 b7 b8 b9 b10 b11 b12 b13 b14 a0 a1
  have h1 := H1.out
  have h2 := H2.out
  cases V1
  · go_enter Tryz.func87, Tryz.ntmps87
    go_wp2_with fail
    rw [← hW1, ← hW2, ← hW]
    clear hW1 hW2 hW
    refine wp_region_later (by kernel_rfl) (by kernel_rfl) ?_; (repeat (first | go_big_quiet_step ((first | ((go_at_call 131; exact Calls.later _ (HS.out _))) | ((go_at_call 99; exact Calls.later _ (HC1.out _))))) | quiet_step ((first | ((go_at_call 131; exact Calls.later _ (HS.out _))) | ((go_at_call 99; exact Calls.later _ (HC1.out _))))))); refine wpQuiet_nil ?_; rintro _ ⟨s, rfl⟩
    have HBS := Lib.hid (below_more HB.out s.below)
    go_wp2_with fail
    go_ret
    exact ⟨rfl, HBS.out⟩
  · cases V2
    all_goals (
      go_enter Tryz.func87, Tryz.ntmps87
      go_wp2_with fail
      rw [← hW1, ← hW2, ← hW]
      clear hW1 hW2 hW
      refine wp_region_later (by kernel_rfl) (by kernel_rfl) ?_; (repeat (first | go_big_quiet_step ((first | ((go_at_call 131; exact Calls.later _ (HS.out _))) | (go_at_call 133; exact Calls.later _ (HE.out _)) | (go_at_call 99; with_reducible exact Calls.later _ (HC1.out _)) | (go_at_call 99; with_reducible exact Calls.later _ (HC2.out _)))) | quiet_step ((first | ((go_at_call 131; exact Calls.later _ (HS.out _))) | (go_at_call 133; exact Calls.later _ (HE.out _)) | (go_at_call 99; with_reducible exact Calls.later _ (HC1.out _)) | (go_at_call 99; with_reducible exact Calls.later _ (HC2.out _)))))); refine wpQuiet_nil ?_; rintro _ ⟨s, rfl⟩
      have HBS := Lib.hid (below_more HB.out s.below)
      go_wp2_with fail
      go_ret
      exact ⟨rfl, HBS.out⟩)

set_option maxRecDepth 100000 in
set_option maxHeartbeats 8000000 in
theorem contD_any (p : Nat) (x : Bx) (f : Fr) (w : World) (hs : vF (x.st true) = true) (hz : vF (x.sz true) = true) (he : vF (x.en true) = true) (hf : vF f = true) :
    Calls Tryz.prog 87 #[.agg #[.func (.func 135) #[] #[], .func (.func 136) #[] #[], .func (.func 172) #[] #[.pointer (some ⟨p, 0, none⟩)]], x.val, .agg #[.int .i64 f.num, .int .i64 f.den]] w fun e w' => e = .returned (.bool (holdB true x f)) ∧ Below w.heap.size w w' := by
  have HS := Lib.hid (fun wx => show Calls Tryz.prog 135 #[x.val] wx (GotFr wx (x.st true)) from stN_any true x wx)
  have HE := Lib.hid (fun wx => endD_any p x wx hs hz)
  unfold vF at hs he hf
  obtain ⟨a1, a2, a3, a4⟩ := valid_in hs
  obtain ⟨b1, b2, b3, b4⟩ := valid_in he
  obtain ⟨d1, d2, d3, d4⟩ := valid_in hf
  have HC1 := Lib.hid (fun wx => compare_any (x.st true).num (x.st true).den f.num f.den wx (mul_small ⟨a3, a4⟩ ⟨d1, d2⟩) (mul_small ⟨d3, d4⟩ ⟨a1, a2⟩))
  have HC2 := Lib.hid (fun wx => compare_any f.num f.den (x.en true).num (x.en true).den wx (mul_small ⟨d3, d4⟩ ⟨b1, b2⟩) (mul_small ⟨b3, b4⟩ ⟨d1, d2⟩))
  obtain ⟨C1, hC1⟩ : ∃ c, c = cmpR ((x.st true).num * f.den) (f.num * (x.st true).den) := ⟨_, rfl⟩
  obtain ⟨C2, hC2⟩ : ∃ c, c = cmpR (f.num * (x.en true).den) ((x.en true).num * f.den) := ⟨_, rfl⟩
  rw [← hC1] at HC1
  rw [← hC2] at HC2
  obtain ⟨V1, hV1⟩ : ∃ V, V = decide (C1 ≤ 0) := ⟨_, rfl⟩
  obtain ⟨V2, hV2⟩ : ∃ V, V = decide (C2 < 0) := ⟨_, rfl⟩
  have HR := Lib.hid (show holdB true x f = (V1 && V2) by
    unfold holdB
    rw [hV1, hV2, hC1, hC2, cmp_le, cmp_neg])
  rw [HR.out]
  have H1 := Lib.hid hV1.symm
  have H2 := Lib.hid hV2.symm
  obtain ⟨⟨S1, S2⟩, hS⟩ : ∃ S, S = x.st true := ⟨_, rfl⟩
  obtain ⟨⟨E1, E2⟩, hE⟩ : ∃ E, E = x.en true := ⟨_, rfl⟩
  rw [← hS] at HS HC1
  rw [← hE] at HE HC2
  unfold GotFr at HS HE
  dsimp only at HS HE HC1 HC2
  clear hs hz he hf a1 a2 a3 a4 b1 b2 b3 b4 d1 d2 d3 d4 hC1 hC2 hV1 hV2 hS hE HR
  obtain ⟨k, sg, t, m, st, mn, mx, ⟨x1, x2⟩, ⟨y1, y2⟩, ⟨w1, w2⟩, ⟨h1, h2⟩⟩ := x
  obtain ⟨f1, f2⟩ := f
  unfold Bx.val at HS HE ⊢
  dsimp only at HS HE HC1 HC2 ⊢
  obtain ⟨W1, hW1⟩ : ∃ W1, W1 = w.alloc (.cells #[.func (.func 135) #[] #[], .func (.func 136) #[] #[], .func (.func 172) #[] #[.pointer (some ⟨p, 0, none⟩)]] 100) := ⟨_, rfl⟩
  obtain ⟨W2, hW2⟩ : ∃ W2, W2 = W1.alloc (.cells #[.int .i64 k, .int .i64 sg, .int .i64 t, .bool m, .int .i64 st, .int .i64 mn, .int .i64 mx, .int .i64 x1, .int .i64 x2, .int .i64 y1, .int .i64 y2, .int .i64 w1, .int .i64 w2, .int .i64 h1, .int .i64 h2] 82) := ⟨_, rfl⟩
  obtain ⟨W, hW⟩ : ∃ W, W = W2.alloc (.cells #[.int .i64 f1, .int .i64 f2] 40) := ⟨_, rfl⟩
  have s1 : W1.heap.size = w.heap.size + 1 := by rw [hW1]; simp
  have s2 : W2.heap.size = w.heap.size + 1 + 1 := by rw [hW2]; simp [s1]
  have s3 : W.heap.size = w.heap.size + 1 + 1 + 1 := by rw [hW]; simp [s2]
  have k1 : Below w.heap.size w W1 := hW1 ▸ below_alloc _ _
  have k2 : Below W1.heap.size W1 W2 := hW2 ▸ below_alloc _ _
  have k3 : Below W2.heap.size W2 W := hW ▸ below_alloc _ _
  have HB := Lib.hid (below_more (below_more k1 k2) k3)
  have D0 := Lib.hid (blk_keep k3 (blk_keep k2 (show W1.heap[w.heap.size]? = some (.cells #[.func (.func 135) #[] #[], .func (.func 136) #[] #[], .func (.func 172) #[] #[.pointer (some ⟨p, 0, none⟩)]] 100 (0, 0)) by rw [hW1]; exact heap_alloc_new _ _)))
  have D1 := Lib.hid (blk_keep k3 (show W2.heap[w.heap.size + 1]? = some (.cells #[.int .i64 k, .int .i64 sg, .int .i64 t, .bool m, .int .i64 st, .int .i64 mn, .int .i64 mx, .int .i64 x1, .int .i64 x2, .int .i64 y1, .int .i64 y2, .int .i64 w1, .int .i64 w2, .int .i64 h1, .int .i64 h2] 82 (0, 0)) by rw [hW2, ← s1]; exact heap_alloc_new _ _))
  have D2 := Lib.hid (show W.heap[w.heap.size + 1 + 1]? = some (.cells #[.int .i64 f1, .int .i64 f2] 40 (0, 0)) by rw [hW, ← s2]; exact heap_alloc_new _ _)
  have hz0 : w.heap.size < W.heap.size := by omega
  have hz1 : w.heap.size + 1 < W.heap.size := by omega
  have hz2 : w.heap.size + 1 + 1 < W.heap.size := by omega
  clear s1 s2 s3 k1 k2 k3
  have c0 := cell_of_blk D0.out 0
  have c1 := cell_of_blk D0.out 1
  have c2 := cell_of_blk D0.out 2
  have b0 := cell_of_blk D1.out 0
  have b1 := cell_of_blk D1.out 1
  have b2 := cell_of_blk D1.out 2
  have b3 := cell_of_blk D1.out 3
  have b4 := cell_of_blk D1.out 4
  have b5 := cell_of_blk D1.out 5
  have b6 := cell_of_blk D1.out 6
  have b7 := cell_of_blk D1.out 7
  have b8 := cell_of_blk D1.out 8
  have b9 := cell_of_blk D1.out 9
  have b10 := cell_of_blk D1.out 10
  have b11 := cell_of_blk D1.out 11
  have b12 := cell_of_blk D1.out 12
  have b13 := cell_of_blk D1.out 13
  have b14 := cell_of_blk D1.out 14
  have a0 := cell_of_blk D2.out 0
  have a1 := cell_of_blk D2.out 1
  simp at c0 c1 c2 b0 b1 b2 b3 b4 b5 b6 b7 b8 b9 b10 b11 b12 b13 b14 a0 a1
  have h1 := H1.out
  have h2 := H2.out
  cases V1
  · go_enter Tryz.func87, Tryz.ntmps87
    go_wp2_with fail
    rw [← hW1, ← hW2, ← hW]
    clear hW1 hW2 hW
    refine wp_region_later (by kernel_rfl) (by kernel_rfl) ?_; (repeat (first | go_big_quiet_step ((first | ((go_at_call 135; exact Calls.later _ (HS.out _))) | ((go_at_call 99; exact Calls.later _ (HC1.out _))))) | quiet_step ((first | ((go_at_call 135; exact Calls.later _ (HS.out _))) | ((go_at_call 99; exact Calls.later _ (HC1.out _))))))); refine wpQuiet_nil ?_; rintro _ ⟨s, rfl⟩
    have HBS := Lib.hid (below_more HB.out s.below)
    go_wp2_with fail
    go_ret
    exact ⟨rfl, HBS.out⟩
  · cases V2
    all_goals (
      go_enter Tryz.func87, Tryz.ntmps87
      go_wp2_with fail
      rw [← hW1, ← hW2, ← hW]
      clear hW1 hW2 hW
      refine wp_region_later (by kernel_rfl) (by kernel_rfl) ?_; (repeat (first | go_big_quiet_step ((first | ((go_at_call 135; exact Calls.later _ (HS.out _))) | (go_at_call 133; exact Calls.later _ (HE.out _)) | (go_at_call 99; with_reducible exact Calls.later _ (HC1.out _)) | (go_at_call 99; with_reducible exact Calls.later _ (HC2.out _)))) | quiet_step ((first | ((go_at_call 135; exact Calls.later _ (HS.out _))) | (go_at_call 133; exact Calls.later _ (HE.out _)) | (go_at_call 99; with_reducible exact Calls.later _ (HC1.out _)) | (go_at_call 99; with_reducible exact Calls.later _ (HC2.out _)))))); refine wpQuiet_nil ?_; rintro _ ⟨s, rfl⟩
      have HBS := Lib.hid (below_more HB.out s.below)
      go_wp2_with fail
      go_ret
      exact ⟨rfl, HBS.out⟩)

end Go.Proofs.YtcijomljopbelaaGreat
