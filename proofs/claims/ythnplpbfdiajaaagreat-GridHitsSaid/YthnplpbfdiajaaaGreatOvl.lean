/-
  Whether two boxes cross in a direction ((axis).overlap), by the program.
-/
import Derived.Test.YthnplpbfdiajaaaGreatGaP
namespace Go.Proofs.YthnplpbfdiajaaaGreat
open Go.RowKit

set_option maxRecDepth 100000 in
set_option maxHeartbeats 16000000 in
theorem ovlS_no (p : Nat) (x y : Bx) (w : World) (hs : vF (x.st false) = true) (hz : vF (x.sz false) = true) (he : vF (x.en false) = true) (ks : vF (y.st false) = true) (kz : vF (y.sz false) = true) (ke : vF (y.en false) = true) (hv : decide ((x.st false).num * (y.en false).den < (y.en false).num * (x.st false).den) = false) :
    Calls Tryz.prog 88 #[.agg #[.func (.func 131) #[] #[], .func (.func 132) #[] #[], .func (.func 172) #[] #[.pointer (some ⟨p, 0, none⟩)]], x.val, y.val] w fun e w' => e = .returned (.bool false) ∧ Below w.heap.size w w' := by
  have HS := Lib.hid (fun wx => show Calls Tryz.prog 131 #[x.val] wx (GotFr wx (x.st false)) from stN_any false x wx)
  have HT := Lib.hid (fun wx => show Calls Tryz.prog 131 #[y.val] wx (GotFr wx (y.st false)) from stN_any false y wx)
  have HE := Lib.hid (fun wx => endS_any p x wx hs hz)
  have HG := Lib.hid (fun wx => endS_any p y wx ks kz)
  unfold vF at hs he ks ke
  obtain ⟨a1, a2, a3, a4⟩ := valid_in hs
  obtain ⟨b1, b2, b3, b4⟩ := valid_in he
  obtain ⟨d1, d2, d3, d4⟩ := valid_in ks
  obtain ⟨e1, e2, e3, e4⟩ := valid_in ke
  have HC1 := Lib.hid (fun wx => compare_any (x.st false).num (x.st false).den (y.en false).num (y.en false).den wx (mul_small ⟨a3, a4⟩ ⟨e1, e2⟩) (mul_small ⟨e3, e4⟩ ⟨a1, a2⟩))
  have HC2 := Lib.hid (fun wx => compare_any (y.st false).num (y.st false).den (x.en false).num (x.en false).den wx (mul_small ⟨d3, d4⟩ ⟨b1, b2⟩) (mul_small ⟨b3, b4⟩ ⟨d1, d2⟩))
  obtain ⟨C1, hC1⟩ : ∃ c, c = cmpR ((x.st false).num * (y.en false).den) ((y.en false).num * (x.st false).den) := ⟨_, rfl⟩
  obtain ⟨C2, hC2⟩ : ∃ c, c = cmpR ((y.st false).num * (x.en false).den) ((x.en false).num * (y.st false).den) := ⟨_, rfl⟩
  rw [← hC1] at HC1
  rw [← hC2] at HC2
  obtain ⟨V1, hV1⟩ : ∃ V, V = decide (C1 < 0) := ⟨_, rfl⟩
  obtain ⟨V2, hV2⟩ : ∃ V, V = decide (C2 < 0) := ⟨_, rfl⟩
  obtain rfl : V1 = false := by rw [hV1, hC1, cmp_neg]; exact hv
  have H1 := Lib.hid hV1.symm
  have H2 := Lib.hid hV2.symm
  have HV := Lib.hid (show decide ((y.st false).num * (x.en false).den < (x.en false).num * (y.st false).den) = V2 by rw [hV2, hC2, cmp_neg])
  clear hv HV
  obtain ⟨⟨S1, S2⟩, hS⟩ : ∃ S, S = x.st false := ⟨_, rfl⟩
  obtain ⟨⟨E1, E2⟩, hE⟩ : ∃ E, E = x.en false := ⟨_, rfl⟩
  obtain ⟨⟨T1, T2⟩, hT⟩ : ∃ S, S = y.st false := ⟨_, rfl⟩
  obtain ⟨⟨G1, G2⟩, hG⟩ : ∃ E, E = y.en false := ⟨_, rfl⟩
  rw [← hS] at HS HC1
  rw [← hE] at HE HC2
  rw [← hT] at HT HC2
  rw [← hG] at HG HC1
  unfold GotFr at HS HE HT HG
  dsimp only at HS HE HT HG HC1 HC2
  clear hs hz he ks kz ke a1 a2 a3 a4 b1 b2 b3 b4 d1 d2 d3 d4 e1 e2 e3 e4 hC1 hC2 hV1 hV2 hS hE hT hG
  obtain ⟨k, sg, t, m, st, mn, mx, ⟨x1, x2⟩, ⟨y1, y2⟩, ⟨w1, w2⟩, ⟨h1, h2⟩⟩ := x
  obtain ⟨k', sg', t', m', st', mn', mx', ⟨x1', x2'⟩, ⟨y1', y2'⟩, ⟨w1', w2'⟩, ⟨h1', h2'⟩⟩ := y
  unfold Bx.val at HS HE HT HG ⊢
  dsimp only at HS HE HT HG HC1 HC2 ⊢
  obtain ⟨W1, hW1⟩ : ∃ W1, W1 = w.alloc (.cells #[.func (.func 131) #[] #[], .func (.func 132) #[] #[], .func (.func 172) #[] #[.pointer (some ⟨p, 0, none⟩)]] 100) := ⟨_, rfl⟩
  obtain ⟨W2, hW2⟩ : ∃ W2, W2 = W1.alloc (.cells #[.int .i64 k, .int .i64 sg, .int .i64 t, .bool m, .int .i64 st, .int .i64 mn, .int .i64 mx, .int .i64 x1, .int .i64 x2, .int .i64 y1, .int .i64 y2, .int .i64 w1, .int .i64 w2, .int .i64 h1, .int .i64 h2] 82) := ⟨_, rfl⟩
  obtain ⟨W, hW⟩ : ∃ W, W = W2.alloc (.cells #[.int .i64 k', .int .i64 sg', .int .i64 t', .bool m', .int .i64 st', .int .i64 mn', .int .i64 mx', .int .i64 x1', .int .i64 x2', .int .i64 y1', .int .i64 y2', .int .i64 w1', .int .i64 w2', .int .i64 h1', .int .i64 h2'] 82) := ⟨_, rfl⟩
  have s1 : W1.heap.size = w.heap.size + 1 := by rw [hW1]; simp
  have s2 : W2.heap.size = w.heap.size + 1 + 1 := by rw [hW2]; simp [s1]
  have s3 : W.heap.size = w.heap.size + 1 + 1 + 1 := by rw [hW]; simp [s2]
  have k1 : Below w.heap.size w W1 := hW1 ▸ below_alloc _ _
  have k2 : Below W1.heap.size W1 W2 := hW2 ▸ below_alloc _ _
  have k3 : Below W2.heap.size W2 W := hW ▸ below_alloc _ _
  have HB := Lib.hid (below_more (below_more k1 k2) k3)
  have D0 := Lib.hid (blk_keep k3 (blk_keep k2 (show W1.heap[w.heap.size]? = some (.cells #[.func (.func 131) #[] #[], .func (.func 132) #[] #[], .func (.func 172) #[] #[.pointer (some ⟨p, 0, none⟩)]] 100 (0, 0)) by rw [hW1]; exact heap_alloc_new _ _)))
  have D1 := Lib.hid (blk_keep k3 (show W2.heap[w.heap.size + 1]? = some (.cells #[.int .i64 k, .int .i64 sg, .int .i64 t, .bool m, .int .i64 st, .int .i64 mn, .int .i64 mx, .int .i64 x1, .int .i64 x2, .int .i64 y1, .int .i64 y2, .int .i64 w1, .int .i64 w2, .int .i64 h1, .int .i64 h2] 82 (0, 0)) by rw [hW2, ← s1]; exact heap_alloc_new _ _))
  have D2 := Lib.hid (show W.heap[w.heap.size + 1 + 1]? = some (.cells #[.int .i64 k', .int .i64 sg', .int .i64 t', .bool m', .int .i64 st', .int .i64 mn', .int .i64 mx', .int .i64 x1', .int .i64 x2', .int .i64 y1', .int .i64 y2', .int .i64 w1', .int .i64 w2', .int .i64 h1', .int .i64 h2'] 82 (0, 0)) by rw [hW, ← s2]; exact heap_alloc_new _ _)
  have hz0 : w.heap.size < W.heap.size := by omega
  have hz1 : w.heap.size + 1 < W.heap.size := by omega
  have hz2 : w.heap.size + 1 + 1 < W.heap.size := by omega
  clear s1 s2 s3 k1 k2 k3
  have c0 := cell_of_blk D0.out 0
  have c1 := cell_of_blk D0.out 1
  have c2 := cell_of_blk D0.out 2
  have b0 := cell_of_blk D1.out 0
  have b1 := cell_of_blk D1.out 1
  have b2 := cell_of_blk D1.out 2
  have b3 := cell_of_blk D1.out 3
  have b4 := cell_of_blk D1.out 4
  have b5 := cell_of_blk D1.out 5
  have b6 := cell_of_blk D1.out 6
  have b7 := cell_of_blk D1.out 7
  have b8 := cell_of_blk D1.out 8
  have b9 := cell_of_blk D1.out 9
  have b10 := cell_of_blk D1.out 10
  have b11 := cell_of_blk D1.out 11
  have b12 := cell_of_blk D1.out 12
  have b13 := cell_of_blk D1.out 13
  have b14 := cell_of_blk D1.out 14
  have a0 := cell_of_blk D2.out 0
  have a1 := cell_of_blk D2.out 1
  have a2 := cell_of_blk D2.out 2
  have a3 := cell_of_blk D2.out 3
  have a4 := cell_of_blk D2.out 4
  have a5 := cell_of_blk D2.out 5
  have a6 := cell_of_blk D2.out 6
  have a7 := cell_of_blk D2.out 7
  have a8 := cell_of_blk D2.out 8
  have a9 := cell_of_blk D2.out 9
  have a10 := cell_of_blk D2.out 10
  have a11 := cell_of_blk D2.out 11
  have a12 := cell_of_blk D2.out 12
  have a13 := cell_of_blk D2.out 13
  have a14 := cell_of_blk D2.out 14
  simp at c0 c1 c2 b0 b1 b2 b3 b4 b5 b6 b7 b8 b9 b10 b11 b12 b13 b14 a0 a1 a2 a3 a4 a5 a6 a7 a8 a9 a10 a11 a12 a13 a14
  have h1 := H1.out
  go_enter Tryz.func88, Tryz.ntmps88
  go_wp2_with fail
  rw [← hW1, ← hW2, ← hW]
  clear hW1 hW2 hW
  refine wp_region_later (by kernel_rfl) (by kernel_rfl) ?_; (repeat (first | go_big_quiet_step ((first | (go_at_call 131; with_reducible exact Calls.later _ (HS.out _)) | (go_at_call 133; with_reducible exact Calls.later _ (HG.out _)) | (go_at_call 99; with_reducible exact Calls.later _ (HC1.out _)))) | quiet_step ((first | (go_at_call 131; with_reducible exact Calls.later _ (HS.out _)) | (go_at_call 133; with_reducible exact Calls.later _ (HG.out _)) | (go_at_call 99; with_reducible exact Calls.later _ (HC1.out _)))))); refine wpQuiet_nil ?_; rintro _ ⟨s, rfl⟩
  have HBS := Lib.hid (below_more HB.out s.below)
  go_wp2_with fail
  go_ret
  exact ⟨rfl, HBS.out⟩
set_option maxRecDepth 100000 in
set_option maxHeartbeats 16000000 in
theorem ovlS_yes (p : Nat) (x y : Bx) (w : World) (hs : vF (x.st false) = true) (hz : vF (x.sz false) = true) (he : vF (x.en false) = true) (ks : vF (y.st false) = true) (kz : vF (y.sz false) = true) (ke : vF (y.en false) = true) (hv : decide ((x.st false).num * (y.en false).den < (y.en false).num * (x.st false).den) = true) :
    Calls Tryz.prog 88 #[.agg #[.func (.func 131) #[] #[], .func (.func 132) #[] #[], .func (.func 172) #[] #[.pointer (some ⟨p, 0, none⟩)]], x.val, y.val] w fun e w' => e = .returned (.bool (decide ((y.st false).num * (x.en false).den < (x.en false).num * (y.st false).den))) ∧ Below w.heap.size w w' := by
  have HS := Lib.hid (fun wx => show Calls Tryz.prog 131 #[x.val] wx (GotFr wx (x.st false)) from stN_any false x wx)
  have HT := Lib.hid (fun wx => show Calls Tryz.prog 131 #[y.val] wx (GotFr wx (y.st false)) from stN_any false y wx)
  have HE := Lib.hid (fun wx => endS_any p x wx hs hz)
  have HG := Lib.hid (fun wx => endS_any p y wx ks kz)
  unfold vF at hs he ks ke
  obtain ⟨a1, a2, a3, a4⟩ := valid_in hs
  obtain ⟨b1, b2, b3, b4⟩ := valid_in he
  obtain ⟨d1, d2, d3, d4⟩ := valid_in ks
  obtain ⟨e1, e2, e3, e4⟩ := valid_in ke
  have HC1 := Lib.hid (fun wx => compare_any (x.st false).num (x.st false).den (y.en false).num (y.en false).den wx (mul_small ⟨a3, a4⟩ ⟨e1, e2⟩) (mul_small ⟨e3, e4⟩ ⟨a1, a2⟩))
  have HC2 := Lib.hid (fun wx => compare_any (y.st false).num (y.st false).den (x.en false).num (x.en false).den wx (mul_small ⟨d3, d4⟩ ⟨b1, b2⟩) (mul_small ⟨b3, b4⟩ ⟨d1, d2⟩))
  obtain ⟨C1, hC1⟩ : ∃ c, c = cmpR ((x.st false).num * (y.en false).den) ((y.en false).num * (x.st false).den) := ⟨_, rfl⟩
  obtain ⟨C2, hC2⟩ : ∃ c, c = cmpR ((y.st false).num * (x.en false).den) ((x.en false).num * (y.st false).den) := ⟨_, rfl⟩
  rw [← hC1] at HC1
  rw [← hC2] at HC2
  obtain ⟨V1, hV1⟩ : ∃ V, V = decide (C1 < 0) := ⟨_, rfl⟩
  obtain ⟨V2, hV2⟩ : ∃ V, V = decide (C2 < 0) := ⟨_, rfl⟩
  obtain rfl : V1 = true := by rw [hV1, hC1, cmp_neg]; exact hv
  have H1 := Lib.hid hV1.symm
  have H2 := Lib.hid hV2.symm
  have HV := Lib.hid (show decide ((y.st false).num * (x.en false).den < (x.en false).num * (y.st false).den) = V2 by rw [hV2, hC2, cmp_neg])
  rw [HV.out]
  clear hv HV
  obtain ⟨⟨S1, S2⟩, hS⟩ : ∃ S, S = x.st false := ⟨_, rfl⟩
  obtain ⟨⟨E1, E2⟩, hE⟩ : ∃ E, E = x.en false := ⟨_, rfl⟩
  obtain ⟨⟨T1, T2⟩, hT⟩ : ∃ S, S = y.st false := ⟨_, rfl⟩
  obtain ⟨⟨G1, G2⟩, hG⟩ : ∃ E, E = y.en false := ⟨_, rfl⟩
  rw [← hS] at HS HC1
  rw [← hE] at HE HC2
  rw [← hT] at HT HC2
  rw [← hG] at HG HC1
  unfold GotFr at HS HE HT HG
  dsimp only at HS HE HT HG HC1 HC2
  clear hs hz he ks kz ke a1 a2 a3 a4 b1 b2 b3 b4 d1 d2 d3 d4 e1 e2 e3 e4 hC1 hC2 hV1 hV2 hS hE hT hG
  obtain ⟨k, sg, t, m, st, mn, mx, ⟨x1, x2⟩, ⟨y1, y2⟩, ⟨w1, w2⟩, ⟨h1, h2⟩⟩ := x
  obtain ⟨k', sg', t', m', st', mn', mx', ⟨x1', x2'⟩, ⟨y1', y2'⟩, ⟨w1', w2'⟩, ⟨h1', h2'⟩⟩ := y
  unfold Bx.val at HS HE HT HG ⊢
  dsimp only at HS HE HT HG HC1 HC2 ⊢
  obtain ⟨W1, hW1⟩ : ∃ W1, W1 = w.alloc (.cells #[.func (.func 131) #[] #[], .func (.func 132) #[] #[], .func (.func 172) #[] #[.pointer (some ⟨p, 0, none⟩)]] 100) := ⟨_, rfl⟩
  obtain ⟨W2, hW2⟩ : ∃ W2, W2 = W1.alloc (.cells #[.int .i64 k, .int .i64 sg, .int .i64 t, .bool m, .int .i64 st, .int .i64 mn, .int .i64 mx, .int .i64 x1, .int .i64 x2, .int .i64 y1, .int .i64 y2, .int .i64 w1, .int .i64 w2, .int .i64 h1, .int .i64 h2] 82) := ⟨_, rfl⟩
  obtain ⟨W, hW⟩ : ∃ W, W = W2.alloc (.cells #[.int .i64 k', .int .i64 sg', .int .i64 t', .bool m', .int .i64 st', .int .i64 mn', .int .i64 mx', .int .i64 x1', .int .i64 x2', .int .i64 y1', .int .i64 y2', .int .i64 w1', .int .i64 w2', .int .i64 h1', .int .i64 h2'] 82) := ⟨_, rfl⟩
  have s1 : W1.heap.size = w.heap.size + 1 := by rw [hW1]; simp
  have s2 : W2.heap.size = w.heap.size + 1 + 1 := by rw [hW2]; simp [s1]
  have s3 : W.heap.size = w.heap.size + 1 + 1 + 1 := by rw [hW]; simp [s2]
  have k1 : Below w.heap.size w W1 := hW1 ▸ below_alloc _ _
  have k2 : Below W1.heap.size W1 W2 := hW2 ▸ below_alloc _ _
  have k3 : Below W2.heap.size W2 W := hW ▸ below_alloc _ _
  have HB := Lib.hid (below_more (below_more k1 k2) k3)
  have D0 := Lib.hid (blk_keep k3 (blk_keep k2 (show W1.heap[w.heap.size]? = some (.cells #[.func (.func 131) #[] #[], .func (.func 132) #[] #[], .func (.func 172) #[] #[.pointer (some ⟨p, 0, none⟩)]] 100 (0, 0)) by rw [hW1]; exact heap_alloc_new _ _)))
  have D1 := Lib.hid (blk_keep k3 (show W2.heap[w.heap.size + 1]? = some (.cells #[.int .i64 k, .int .i64 sg, .int .i64 t, .bool m, .int .i64 st, .int .i64 mn, .int .i64 mx, .int .i64 x1, .int .i64 x2, .int .i64 y1, .int .i64 y2, .int .i64 w1, .int .i64 w2, .int .i64 h1, .int .i64 h2] 82 (0, 0)) by rw [hW2, ← s1]; exact heap_alloc_new _ _))
  have D2 := Lib.hid (show W.heap[w.heap.size + 1 + 1]? = some (.cells #[.int .i64 k', .int .i64 sg', .int .i64 t', .bool m', .int .i64 st', .int .i64 mn', .int .i64 mx', .int .i64 x1', .int .i64 x2', .int .i64 y1', .int .i64 y2', .int .i64 w1', .int .i64 w2', .int .i64 h1', .int .i64 h2'] 82 (0, 0)) by rw [hW, ← s2]; exact heap_alloc_new _ _)
  have hz0 : w.heap.size < W.heap.size := by omega
  have hz1 : w.heap.size + 1 < W.heap.size := by omega
  have hz2 : w.heap.size + 1 + 1 < W.heap.size := by omega
  clear s1 s2 s3 k1 k2 k3
  have c0 := cell_of_blk D0.out 0
  have c1 := cell_of_blk D0.out 1
  have c2 := cell_of_blk D0.out 2
  have b0 := cell_of_blk D1.out 0
  have b1 := cell_of_blk D1.out 1
  have b2 := cell_of_blk D1.out 2
  have b3 := cell_of_blk D1.out 3
  have b4 := cell_of_blk D1.out 4
  have b5 := cell_of_blk D1.out 5
  have b6 := cell_of_blk D1.out 6
  have b7 := cell_of_blk D1.out 7
  have b8 := cell_of_blk D1.out 8
  have b9 := cell_of_blk D1.out 9
  have b10 := cell_of_blk D1.out 10
  have b11 := cell_of_blk D1.out 11
  have b12 := cell_of_blk D1.out 12
  have b13 := cell_of_blk D1.out 13
  have b14 := cell_of_blk D1.out 14
  have a0 := cell_of_blk D2.out 0
  have a1 := cell_of_blk D2.out 1
  have a2 := cell_of_blk D2.out 2
  have a3 := cell_of_blk D2.out 3
  have a4 := cell_of_blk D2.out 4
  have a5 := cell_of_blk D2.out 5
  have a6 := cell_of_blk D2.out 6
  have a7 := cell_of_blk D2.out 7
  have a8 := cell_of_blk D2.out 8
  have a9 := cell_of_blk D2.out 9
  have a10 := cell_of_blk D2.out 10
  have a11 := cell_of_blk D2.out 11
  have a12 := cell_of_blk D2.out 12
  have a13 := cell_of_blk D2.out 13
  have a14 := cell_of_blk D2.out 14
  simp at c0 c1 c2 b0 b1 b2 b3 b4 b5 b6 b7 b8 b9 b10 b11 b12 b13 b14 a0 a1 a2 a3 a4 a5 a6 a7 a8 a9 a10 a11 a12 a13 a14
  have h1 := H1.out
  have h2 := H2.out
  go_enter Tryz.func88, Tryz.ntmps88
  go_wp2_with fail
  rw [← hW1, ← hW2, ← hW]
  clear hW1 hW2 hW
  refine wp_region_later (by kernel_rfl) (by kernel_rfl) ?_; (repeat (first | go_big_quiet_step ((first | (go_at_call 131; with_reducible exact Calls.later _ (HS.out _)) | (go_at_call 131; with_reducible exact Calls.later _ (HT.out _)) | (go_at_call 133; with_reducible exact Calls.later _ (HE.out _)) | (go_at_call 133; with_reducible exact Calls.later _ (HG.out _)) | (go_at_call 99; with_reducible exact Calls.later _ (HC1.out _)) | (go_at_call 99; with_reducible exact Calls.later _ (HC2.out _)))) | quiet_step ((first | (go_at_call 131; with_reducible exact Calls.later _ (HS.out _)) | (go_at_call 131; with_reducible exact Calls.later _ (HT.out _)) | (go_at_call 133; with_reducible exact Calls.later _ (HE.out _)) | (go_at_call 133; with_reducible exact Calls.later _ (HG.out _)) | (go_at_call 99; with_reducible exact Calls.later _ (HC1.out _)) | (go_at_call 99; with_reducible exact Calls.later _ (HC2.out _)))))); refine wpQuiet_nil ?_; rintro _ ⟨s, rfl⟩
  have HBS := Lib.hid (below_more HB.out s.below)
  go_wp2_with fail
  go_ret
  exact ⟨rfl, HBS.out⟩
theorem ovlS_any (p : Nat) (x y : Bx) (w : World) (hs : vF (x.st false) = true) (hz : vF (x.sz false) = true) (he : vF (x.en false) = true) (ks : vF (y.st false) = true) (kz : vF (y.sz false) = true) (ke : vF (y.en false) = true) :
    Calls Tryz.prog 88 #[.agg #[.func (.func 131) #[] #[], .func (.func 132) #[] #[], .func (.func 172) #[] #[.pointer (some ⟨p, 0, none⟩)]], x.val, y.val] w fun e w' => e = .returned (.bool (crossB false x y)) ∧ Below w.heap.size w w' := by
  unfold crossB
  cases h : decide ((x.st false).num * (y.en false).den < (y.en false).num * (x.st false).den)
  · exact ovlS_no p x y w hs hz he ks kz ke h
  · rw [Bool.true_and]; exact ovlS_yes p x y w hs hz he ks kz ke h

end Go.Proofs.YthnplpbfdiajaaaGreat
