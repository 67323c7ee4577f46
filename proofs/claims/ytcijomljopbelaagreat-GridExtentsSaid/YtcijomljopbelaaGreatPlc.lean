/-
  Whether a box has a place in a direction ((axis).isPlaced), by the program.
-/
import Derived.Test.YtcijomljopbelaaGreatGaN
namespace Go.Proofs.YtcijomljopbelaaGreat
open Go.RowKit

set_option maxRecDepth 100000 in
set_option maxHeartbeats 8000000 in
theorem placedS_any (p : Nat) (x : Bx) (w : World) : Calls Tryz.prog 116 #[.agg #[.func (.func 131) #[] #[], .func (.func 132) #[] #[], .func (.func 172) #[] #[.pointer (some ⟨p, 0, none⟩)]], x.val] w fun e w' => e = .returned (.bool (placedB false x)) ∧ Below w.heap.size w w' := by
  have HS := Lib.hid (fun wx => show Calls Tryz.prog 131 #[x.val] wx (GotFr wx (x.st false)) from stN_any false x wx)
  have HZ := Lib.hid (fun wx => show Calls Tryz.prog 132 #[x.val] wx (GotFr wx (x.sz false)) from szN_any false x wx)
  have HE := Lib.hid (fun wx (h1 : vF (x.st false) = true) (h2 : vF (x.sz false) = true) => endS_any p x wx h1 h2)
  have HV1 := Lib.hid (fun wx => isValid_any (x.st false).num (x.st false).den wx)
  have HV2 := Lib.hid (fun wx => isValid_any (x.sz false).num (x.sz false).den wx)
  have HV4 := Lib.hid (fun wx => isValid_any (x.en false).num (x.en false).den wx)
  obtain ⟨V1, hV1⟩ : ∃ V, V = vF (x.st false) := ⟨_, rfl⟩
  obtain ⟨V2, hV2⟩ : ∃ V, V = vF (x.sz false) := ⟨_, rfl⟩
  obtain ⟨V3, hV3⟩ : ∃ V, V = decide (0 < (x.sz false).num) := ⟨_, rfl⟩
  obtain ⟨V4, hV4⟩ : ∃ V, V = vF (x.en false) := ⟨_, rfl⟩
  have HPB := Lib.hid (show placedB false x = ((V1 && V2) && (V3 && V4)) by unfold placedB; rw [← hV1, ← hV2, ← hV3, ← hV4])
  unfold vF at hV1 hV2 hV4
  rw [← hV1] at HV1
  rw [← hV2] at HV2
  rw [← hV4] at HV4
  have HE := Lib.hid (fun wx (h1 : V1 = true) (h2 : V2 = true) => HE.out wx (by unfold vF; rw [← hV1]; exact h1) (by unfold vF; rw [← hV2]; exact h2))
  rw [HPB.out]
  obtain ⟨⟨S1, S2⟩, hS⟩ : ∃ S, S = x.st false := ⟨_, rfl⟩
  obtain ⟨⟨Z1, Z2⟩, hZ⟩ : ∃ Z, Z = x.sz false := ⟨_, rfl⟩
  obtain ⟨⟨E1, E2⟩, hE⟩ : ∃ E, E = x.en false := ⟨_, rfl⟩
  rw [← hS] at HS HV1
  rw [← hZ] at HZ HV2 hV3
  rw [← hE] at HE HV4
  dsimp only at HV1 HV2 HV4 hV3
  have H3 := Lib.hid hV3.symm
  clear hV1 hV2 hV3 hV4 hS hZ hE HPB
  obtain ⟨k, sg, t, m, st, mn, mx, ⟨x1, x2⟩, ⟨y1, y2⟩, ⟨w1, w2⟩, ⟨h1, h2⟩⟩ := x
  unfold Bx.val at HS HZ HE ⊢
  dsimp only at HS HZ HE ⊢
  unfold GotFr at HS HZ HE
  dsimp only at HS HZ HE
  obtain ⟨W1, hW1⟩ : ∃ W1, W1 = w.alloc (.cells #[.func (.func 131) #[] #[], .func (.func 132) #[] #[], .func (.func 172) #[] #[.pointer (some ⟨p, 0, none⟩)]] 100) := ⟨_, rfl⟩
  obtain ⟨W, hW⟩ : ∃ W, W = W1.alloc (.cells #[.int .i64 k, .int .i64 sg, .int .i64 t, .bool m, .int .i64 st, .int .i64 mn, .int .i64 mx, .int .i64 x1, .int .i64 x2, .int .i64 y1, .int .i64 y2, .int .i64 w1, .int .i64 w2, .int .i64 h1, .int .i64 h2] 82) := ⟨_, rfl⟩
  have s1 : W1.heap.size = w.heap.size + 1 := by rw [hW1]; simp
  have k1 : Below w.heap.size w W1 := hW1 ▸ below_alloc _ _
  have k2 : Below W1.heap.size W1 W := hW ▸ below_alloc _ _
  have HB := Lib.hid (below_more k1 k2)
  have D0 := Lib.hid (blk_keep k2 (show W1.heap[w.heap.size]? = some (.cells #[.func (.func 131) #[] #[], .func (.func 132) #[] #[], .func (.func 172) #[] #[.pointer (some ⟨p, 0, none⟩)]] 100 (0, 0)) by rw [hW1]; exact heap_alloc_new _ _))
  have D1 := Lib.hid (show W.heap[w.heap.size + 1]? = some (.cells #[.int .i64 k, .int .i64 sg, .int .i64 t, .bool m, .int .i64 st, .int .i64 mn, .int .i64 mx, .int .i64 x1, .int .i64 x2, .int .i64 y1, .int .i64 y2, .int .i64 w1, .int .i64 w2, .int .i64 h1, .int .i64 h2] 82 (0, 0)) by rw [hW, ← s1]; exact heap_alloc_new _ _)
  clear s1 k1 k2
  have c0 := cell_of_blk D0.out 0
  have c1 := cell_of_blk D0.out 1
  have c2 := cell_of_blk D0.out 2
  have b0 := cell_of_blk D1.out 0
  have b1 := cell_of_blk D1.out 1
  have b2 := cell_of_blk D1.out 2
  have b3 := cell_of_blk D1.out 3
  have b4 := cell_of_blk D1.out 4
  have b5 := cell_of_blk D1.out 5
  have b6 := cell_of_blk D1.out 6
  have b7 := cell_of_blk D1.out 7
  have b8 := cell_of_blk D1.out 8
  have b9 := cell_of_blk D1.out 9
  have b10 := cell_of_blk D1.out 10
  have b11 := cell_of_blk D1.out 11
  have b12 := cell_of_blk D1.out 12
  have b13 := cell_of_blk D1.out 13
  have b14 := cell_of_blk D1.out 14
  have hz0 := (Array.getElem?_eq_some_iff.1 D0.out).1
  have hz1 := (Array.getElem?_eq_some_iff.1 D1.out).1
  simp at c0 c1 c2 b0 b1 b2 b3 b4 b5 b6 b7 b8 b9 b10 b11 b12 b13 b14
  go_enter Tryz.func116, Tryz.ntmps116
  go_wp2_with fail
  rw [← hW1, ← hW]
  clear hW1 hW
  go_wp2_with fail
  refine (HS.out _).mono ?_; rintro e w9 ⟨rfl, hb⟩
  have HB := Lib.hid (below_more HB.out hb)
  have D0 := Lib.hid (blk_keep hb D0.out)
  have D1 := Lib.hid (blk_keep hb D1.out)
  clear hb c0 c1 c2 b0 b1 b2 b3 b4 b5 b6 b7 b8 b9 b10 b11 b12 b13 b14 hz0 hz1
  have c0 := cell_of_blk D0.out 0
  have c1 := cell_of_blk D0.out 1
  have c2 := cell_of_blk D0.out 2
  have b0 := cell_of_blk D1.out 0
  have b1 := cell_of_blk D1.out 1
  have b2 := cell_of_blk D1.out 2
  have b3 := cell_of_blk D1.out 3
  have b4 := cell_of_blk D1.out 4
  have b5 := cell_of_blk D1.out 5
  have b6 := cell_of_blk D1.out 6
  have b7 := cell_of_blk D1.out 7
  have b8 := cell_of_blk D1.out 8
  have b9 := cell_of_blk D1.out 9
  have b10 := cell_of_blk D1.out 10
  have b11 := cell_of_blk D1.out 11
  have b12 := cell_of_blk D1.out 12
  have b13 := cell_of_blk D1.out 13
  have b14 := cell_of_blk D1.out 14
  have hz0 := (Array.getElem?_eq_some_iff.1 D0.out).1
  have hz1 := (Array.getElem?_eq_some_iff.1 D1.out).1
  simp at c0 c1 c2 b0 b1 b2 b3 b4 b5 b6 b7 b8 b9 b10 b11 b12 b13 b14
  go_wp2_with fail
  refine (HV1.out _).mono ?_; rintro e w9 ⟨rfl, hb⟩
  have HB := Lib.hid (below_more HB.out hb)
  have D0 := Lib.hid (blk_keep hb D0.out)
  have D1 := Lib.hid (blk_keep hb D1.out)
  clear hb c0 c1 c2 b0 b1 b2 b3 b4 b5 b6 b7 b8 b9 b10 b11 b12 b13 b14 hz0 hz1
  have c0 := cell_of_blk D0.out 0
  have c1 := cell_of_blk D0.out 1
  have c2 := cell_of_blk D0.out 2
  have b0 := cell_of_blk D1.out 0
  have b1 := cell_of_blk D1.out 1
  have b2 := cell_of_blk D1.out 2
  have b3 := cell_of_blk D1.out 3
  have b4 := cell_of_blk D1.out 4
  have b5 := cell_of_blk D1.out 5
  have b6 := cell_of_blk D1.out 6
  have b7 := cell_of_blk D1.out 7
  have b8 := cell_of_blk D1.out 8
  have b9 := cell_of_blk D1.out 9
  have b10 := cell_of_blk D1.out 10
  have b11 := cell_of_blk D1.out 11
  have b12 := cell_of_blk D1.out 12
  have b13 := cell_of_blk D1.out 13
  have b14 := cell_of_blk D1.out 14
  have hz0 := (Array.getElem?_eq_some_iff.1 D0.out).1
  have hz1 := (Array.getElem?_eq_some_iff.1 D1.out).1
  simp at c0 c1 c2 b0 b1 b2 b3 b4 b5 b6 b7 b8 b9 b10 b11 b12 b13 b14
  cases V1
  case false =>
    go_wp2_with fail
    go_ret
    exact ⟨rfl, HB.out⟩
  go_wp2_with fail
  refine (HZ.out _).mono ?_; rintro e w9 ⟨rfl, hb⟩
  have HB := Lib.hid (below_more HB.out hb)
  have D0 := Lib.hid (blk_keep hb D0.out)
  have D1 := Lib.hid (blk_keep hb D1.out)
  clear hb c0 c1 c2 b0 b1 b2 b3 b4 b5 b6 b7 b8 b9 b10 b11 b12 b13 b14 hz0 hz1
  have c0 := cell_of_blk D0.out 0
  have c1 := cell_of_blk D0.out 1
  have c2 := cell_of_blk D0.out 2
  have b0 := cell_of_blk D1.out 0
  have b1 := cell_of_blk D1.out 1
  have b2 := cell_of_blk D1.out 2
  have b3 := cell_of_blk D1.out 3
  have b4 := cell_of_blk D1.out 4
  have b5 := cell_of_blk D1.out 5
  have b6 := cell_of_blk D1.out 6
  have b7 := cell_of_blk D1.out 7
  have b8 := cell_of_blk D1.out 8
  have b9 := cell_of_blk D1.out 9
  have b10 := cell_of_blk D1.out 10
  have b11 := cell_of_blk D1.out 11
  have b12 := cell_of_blk D1.out 12
  have b13 := cell_of_blk D1.out 13
  have b14 := cell_of_blk D1.out 14
  have hz0 := (Array.getElem?_eq_some_iff.1 D0.out).1
  have hz1 := (Array.getElem?_eq_some_iff.1 D1.out).1
  simp at c0 c1 c2 b0 b1 b2 b3 b4 b5 b6 b7 b8 b9 b10 b11 b12 b13 b14
  go_wp2_with fail
  refine (HV2.out _).mono ?_; rintro e w9 ⟨rfl, hb⟩
  have HB := Lib.hid (below_more HB.out hb)
  have D0 := Lib.hid (blk_keep hb D0.out)
  have D1 := Lib.hid (blk_keep hb D1.out)
  clear hb c0 c1 c2 b0 b1 b2 b3 b4 b5 b6 b7 b8 b9 b10 b11 b12 b13 b14 hz0 hz1
  have c0 := cell_of_blk D0.out 0
  have c1 := cell_of_blk D0.out 1
  have c2 := cell_of_blk D0.out 2
  have b0 := cell_of_blk D1.out 0
  have b1 := cell_of_blk D1.out 1
  have b2 := cell_of_blk D1.out 2
  have b3 := cell_of_blk D1.out 3
  have b4 := cell_of_blk D1.out 4
  have b5 := cell_of_blk D1.out 5
  have b6 := cell_of_blk D1.out 6
  have b7 := cell_of_blk D1.out 7
  have b8 := cell_of_blk D1.out 8
  have b9 := cell_of_blk D1.out 9
  have b10 := cell_of_blk D1.out 10
  have b11 := cell_of_blk D1.out 11
  have b12 := cell_of_blk D1.out 12
  have b13 := cell_of_blk D1.out 13
  have b14 := cell_of_blk D1.out 14
  have hz0 := (Array.getElem?_eq_some_iff.1 D0.out).1
  have hz1 := (Array.getElem?_eq_some_iff.1 D1.out).1
  simp at c0 c1 c2 b0 b1 b2 b3 b4 b5 b6 b7 b8 b9 b10 b11 b12 b13 b14
  cases V2
  case false =>
    go_wp2_with fail
    go_ret
    exact ⟨rfl, HB.out⟩
  go_wp2_with fail
  refine (HZ.out _).mono ?_; rintro e w9 ⟨rfl, hb⟩
  have HB := Lib.hid (below_more HB.out hb)
  have D0 := Lib.hid (blk_keep hb D0.out)
  have D1 := Lib.hid (blk_keep hb D1.out)
  clear hb c0 c1 c2 b0 b1 b2 b3 b4 b5 b6 b7 b8 b9 b10 b11 b12 b13 b14 hz0 hz1
  have c0 := cell_of_blk D0.out 0
  have c1 := cell_of_blk D0.out 1
  have c2 := cell_of_blk D0.out 2
  have b0 := cell_of_blk D1.out 0
  have b1 := cell_of_blk D1.out 1
  have b2 := cell_of_blk D1.out 2
  have b3 := cell_of_blk D1.out 3
  have b4 := cell_of_blk D1.out 4
  have b5 := cell_of_blk D1.out 5
  have b6 := cell_of_blk D1.out 6
  have b7 := cell_of_blk D1.out 7
  have b8 := cell_of_blk D1.out 8
  have b9 := cell_of_blk D1.out 9
  have b10 := cell_of_blk D1.out 10
  have b11 := cell_of_blk D1.out 11
  have b12 := cell_of_blk D1.out 12
  have b13 := cell_of_blk D1.out 13
  have b14 := cell_of_blk D1.out 14
  have hz0 := (Array.getElem?_eq_some_iff.1 D0.out).1
  have hz1 := (Array.getElem?_eq_some_iff.1 D1.out).1
  simp at c0 c1 c2 b0 b1 b2 b3 b4 b5 b6 b7 b8 b9 b10 b11 b12 b13 b14
  have h3 := H3.out
  have hfd : ∀ w : World, (Instr.field 40 (.agg #[.int .i64 Z1, .int .i64 Z2]) 0).run Tryz.prog w = .ok (.int .i64 Z1) w := fun _ => by kernel_rfl
  cases V3
  case false =>
    go_wp2_with fail
    go_ret
    exact ⟨rfl, HB.out⟩
  have HE2 := Lib.hid (fun wx => HE.out wx (by trivial) (by trivial))
  go_wp2_with fail
  refine (HE2.out _).mono ?_; rintro e w9 ⟨rfl, hb⟩
  have HB := Lib.hid (below_more HB.out hb)
  have D0 := Lib.hid (blk_keep hb D0.out)
  have D1 := Lib.hid (blk_keep hb D1.out)
  clear hb c0 c1 c2 b0 b1 b2 b3 b4 b5 b6 b7 b8 b9 b10 b11 b12 b13 b14 hz0 hz1 h3
  have c0 := cell_of_blk D0.out 0
  have c1 := cell_of_blk D0.out 1
  have c2 := cell_of_blk D0.out 2
  have b0 := cell_of_blk D1.out 0
  have b1 := cell_of_blk D1.out 1
  have b2 := cell_of_blk D1.out 2
  have b3 := cell_of_blk D1.out 3
  have b4 := cell_of_blk D1.out 4
  have b5 := cell_of_blk D1.out 5
  have b6 := cell_of_blk D1.out 6
  have b7 := cell_of_blk D1.out 7
  have b8 := cell_of_blk D1.out 8
  have b9 := cell_of_blk D1.out 9
  have b10 := cell_of_blk D1.out 10
  have b11 := cell_of_blk D1.out 11
  have b12 := cell_of_blk D1.out 12
  have b13 := cell_of_blk D1.out 13
  have b14 := cell_of_blk D1.out 14
  have hz0 := (Array.getElem?_eq_some_iff.1 D0.out).1
  have hz1 := (Array.getElem?_eq_some_iff.1 D1.out).1
  simp at c0 c1 c2 b0 b1 b2 b3 b4 b5 b6 b7 b8 b9 b10 b11 b12 b13 b14
  go_wp2_with fail
  refine (HV4.out _).mono ?_; rintro e w9 ⟨rfl, hb⟩
  have HB := Lib.hid (below_more HB.out hb)
  clear hb
  go_wp2_with fail
  go_ret
  exact ⟨rfl, HB.out⟩

set_option maxRecDepth 100000 in
set_option maxHeartbeats 8000000 in
theorem placedD_any (p : Nat) (x : Bx) (w : World) : Calls Tryz.prog 116 #[.agg #[.func (.func 135) #[] #[], .func (.func 136) #[] #[], .func (.func 172) #[] #[.pointer (some ⟨p, 0, none⟩)]], x.val] w fun e w' => e = .returned (.bool (placedB true x)) ∧ Below w.heap.size w w' := by
  have HS := Lib.hid (fun wx => show Calls Tryz.prog 135 #[x.val] wx (GotFr wx (x.st true)) from stN_any true x wx)
  have HZ := Lib.hid (fun wx => show Calls Tryz.prog 136 #[x.val] wx (GotFr wx (x.sz true)) from szN_any true x wx)
  have HE := Lib.hid (fun wx (h1 : vF (x.st true) = true) (h2 : vF (x.sz true) = true) => endD_any p x wx h1 h2)
  have HV1 := Lib.hid (fun wx => isValid_any (x.st true).num (x.st true).den wx)
  have HV2 := Lib.hid (fun wx => isValid_any (x.sz true).num (x.sz true).den wx)
  have HV4 := Lib.hid (fun wx => isValid_any (x.en true).num (x.en true).den wx)
  obtain ⟨V1, hV1⟩ : ∃ V, V = vF (x.st true) := ⟨_, rfl⟩
  obtain ⟨V2, hV2⟩ : ∃ V, V = vF (x.sz true) := ⟨_, rfl⟩
  obtain ⟨V3, hV3⟩ : ∃ V, V = decide (0 < (x.sz true).num) := ⟨_, rfl⟩
  obtain ⟨V4, hV4⟩ : ∃ V, V = vF (x.en true) := ⟨_, rfl⟩
  have HPB := Lib.hid (show placedB true x = ((V1 && V2) && (V3 && V4)) by unfold placedB; rw [← hV1, ← hV2, ← hV3, ← hV4])
  unfold vF at hV1 hV2 hV4
  rw [← hV1] at HV1
  rw [← hV2] at HV2
  rw [← hV4] at HV4
  have HE := Lib.hid (fun wx (h1 : V1 = true) (h2 : V2 = true) => HE.out wx (by unfold vF; rw [← hV1]; exact h1) (by unfold vF; rw [← hV2]; exact h2))
  rw [HPB.out]
  obtain ⟨⟨S1, S2⟩, hS⟩ : ∃ S, S = x.st true := ⟨_, rfl⟩
  obtain ⟨⟨Z1, Z2⟩, hZ⟩ : ∃ Z, Z = x.sz true := ⟨_, rfl⟩
  obtain ⟨⟨E1, E2⟩, hE⟩ : ∃ E, E = x.en true := ⟨_, rfl⟩
  rw [← hS] at HS HV1
  rw [← hZ] at HZ HV2 hV3
  rw [← hE] at HE HV4
  dsimp only at HV1 HV2 HV4 hV3
  have H3 := Lib.hid hV3.symm
  clear hV1 hV2 hV3 hV4 hS hZ hE HPB
  obtain ⟨k, sg, t, m, st, mn, mx, ⟨x1, x2⟩, ⟨y1, y2⟩, ⟨w1, w2⟩, ⟨h1, h2⟩⟩ := x
  unfold Bx.val at HS HZ HE ⊢
  dsimp only at HS HZ HE ⊢
  unfold GotFr at HS HZ HE
  dsimp only at HS HZ HE
  obtain ⟨W1, hW1⟩ : ∃ W1, W1 = w.alloc (.cells #[.func (.func 135) #[] #[], .func (.func 136) #[] #[], .func (.func 172) #[] #[.pointer (some ⟨p, 0, none⟩)]] 100) := ⟨_, rfl⟩
  obtain ⟨W, hW⟩ : ∃ W, W = W1.alloc (.cells #[.int .i64 k, .int .i64 sg, .int .i64 t, .bool m, .int .i64 st, .int .i64 mn, .int .i64 mx, .int .i64 x1, .int .i64 x2, .int .i64 y1, .int .i64 y2, .int .i64 w1, .int .i64 w2, .int .i64 h1, .int .i64 h2] 82) := ⟨_, rfl⟩
  have s1 : W1.heap.size = w.heap.size + 1 := by rw [hW1]; simp
  have k1 : Below w.heap.size w W1 := hW1 ▸ below_alloc _ _
  have k2 : Below W1.heap.size W1 W := hW ▸ below_alloc _ _
  have HB := Lib.hid (below_more k1 k2)
  have D0 := Lib.hid (blk_keep k2 (show W1.heap[w.heap.size]? = some (.cells #[.func (.func 135) #[] #[], .func (.func 136) #[] #[], .func (.func 172) #[] #[.pointer (some ⟨p, 0, none⟩)]] 100 (0, 0)) by rw [hW1]; exact heap_alloc_new _ _))
  have D1 := Lib.hid (show W.heap[w.heap.size + 1]? = some (.cells #[.int .i64 k, .int .i64 sg, .int .i64 t, .bool m, .int .i64 st, .int .i64 mn, .int .i64 mx, .int .i64 x1, .int .i64 x2, .int .i64 y1, .int .i64 y2, .int .i64 w1, .int .i64 w2, .int .i64 h1, .int .i64 h2] 82 (0, 0)) by rw [hW, ← s1]; exact heap_alloc_new _ _)
  clear s1 k1 k2
  have c0 := cell_of_blk D0.out 0
  have c1 := cell_of_blk D0.out 1
  have c2 := cell_of_blk D0.out 2
  have b0 := cell_of_blk D1.out 0
  have b1 := cell_of_blk D1.out 1
  have b2 := cell_of_blk D1.out 2
  have b3 := cell_of_blk D1.out 3
  have b4 := cell_of_blk D1.out 4
  have b5 := cell_of_blk D1.out 5
  have b6 := cell_of_blk D1.out 6
  have b7 := cell_of_blk D1.out 7
  have b8 := cell_of_blk D1.out 8
  have b9 := cell_of_blk D1.out 9
  have b10 := cell_of_blk D1.out 10
  have b11 := cell_of_blk D1.out 11
  have b12 := cell_of_blk D1.out 12
  have b13 := cell_of_blk D1.out 13
  have b14 := cell_of_blk D1.out 14
  have hz0 := (Array.getElem?_eq_some_iff.1 D0.out).1
  have hz1 := (Array.getElem?_eq_some_iff.1 D1.out).1
  simp at c0 c1 c2 b0 b1 b2 b3 b4 b5 b6 b7 b8 b9 b10 b11 b12 b13 b14
  go_enter Tryz.func116, Tryz.ntmps116
  go_wp2_with fail
  rw [← hW1, ← hW]
  clear hW1 hW
  go_wp2_with fail
  refine (HS.out _).mono ?_; rintro e w9 ⟨rfl, hb⟩
  have HB := Lib.hid (below_more HB.out hb)
  have D0 := Lib.hid (blk_keep hb D0.out)
  have D1 := Lib.hid (blk_keep hb D1.out)
  clear hb c0 c1 c2 b0 b1 b2 b3 b4 b5 b6 b7 b8 b9 b10 b11 b12 b13 b14 hz0 hz1
  have c0 := cell_of_blk D0.out 0
  have c1 := cell_of_blk D0.out 1
  have c2 := cell_of_blk D0.out 2
  have b0 := cell_of_blk D1.out 0
  have b1 := cell_of_blk D1.out 1
  have b2 := cell_of_blk D1.out 2
  have b3 := cell_of_blk D1.out 3
  have b4 := cell_of_blk D1.out 4
  have b5 := cell_of_blk D1.out 5
  have b6 := cell_of_blk D1.out 6
  have b7 := cell_of_blk D1.out 7
  have b8 := cell_of_blk D1.out 8
  have b9 := cell_of_blk D1.out 9
  have b10 := cell_of_blk D1.out 10
  have b11 := cell_of_blk D1.out 11
  have b12 := cell_of_blk D1.out 12
  have b13 := cell_of_blk D1.out 13
  have b14 := cell_of_blk D1.out 14
  have hz0 := (Array.getElem?_eq_some_iff.1 D0.out).1
  have hz1 := (Array.getElem?_eq_some_iff.1 D1.out).1
  simp at c0 c1 c2 b0 b1 b2 b3 b4 b5 b6 b7 b8 b9 b10 b11 b12 b13 b14
  go_wp2_with fail
  refine (HV1.out _).mono ?_; rintro e w9 ⟨rfl, hb⟩
  have HB := Lib.hid (below_more HB.out hb)
  have D0 := Lib.hid (blk_keep hb D0.out)
  have D1 := Lib.hid (blk_keep hb D1.out)
  clear hb c0 c1 c2 b0 b1 b2 b3 b4 b5 b6 b7 b8 b9 b10 b11 b12 b13 b14 hz0 hz1
  have c0 := cell_of_blk D0.out 0
  have c1 := cell_of_blk D0.out 1
  have c2 := cell_of_blk D0.out 2
  have b0 := cell_of_blk D1.out 0
  have b1 := cell_of_blk D1.out 1
  have b2 := cell_of_blk D1.out 2
  have b3 := cell_of_blk D1.out 3
  have b4 := cell_of_blk D1.out 4
  have b5 := cell_of_blk D1.out 5
  have b6 := cell_of_blk D1.out 6
  have b7 := cell_of_blk D1.out 7
  have b8 := cell_of_blk D1.out 8
  have b9 := cell_of_blk D1.out 9
  have b10 := cell_of_blk D1.out 10
  have b11 := cell_of_blk D1.out 11
  have b12 := cell_of_blk D1.out 12
  have b13 := cell_of_blk D1.out 13
  have b14 := cell_of_blk D1.out 14
  have hz0 := (Array.getElem?_eq_some_iff.1 D0.out).1
  have hz1 := (Array.getElem?_eq_some_iff.1 D1.out).1
  simp at c0 c1 c2 b0 b1 b2 b3 b4 b5 b6 b7 b8 b9 b10 b11 b12 b13 b14
  cases V1
  case false =>
    go_wp2_with fail
    go_ret
    exact ⟨rfl, HB.out⟩
  go_wp2_with fail
  refine (HZ.out _).mono ?_; rintro e w9 ⟨rfl, hb⟩
  have HB := Lib.hid (below_more HB.out hb)
  have D0 := Lib.hid (blk_keep hb D0.out)
  have D1 := Lib.hid (blk_keep hb D1.out)
  clear hb c0 c1 c2 b0 b1 b2 b3 b4 b5 b6 b7 b8 b9 b10 b11 b12 b13 b14 hz0 hz1
  have c0 := cell_of_blk D0.out 0
  have c1 := cell_of_blk D0.out 1
  have c2 := cell_of_blk D0.out 2
  have b0 := cell_of_blk D1.out 0
  have b1 := cell_of_blk D1.out 1
  have b2 := cell_of_blk D1.out 2
  have b3 := cell_of_blk D1.out 3
  have b4 := cell_of_blk D1.out 4
  have b5 := cell_of_blk D1.out 5
  have b6 := cell_of_blk D1.out 6
  have b7 := cell_of_blk D1.out 7
  have b8 := cell_of_blk D1.out 8
  have b9 := cell_of_blk D1.out 9
  have b10 := cell_of_blk D1.out 10
  have b11 := cell_of_blk D1.out 11
  have b12 := cell_of_blk D1.out 12
  have b13 := cell_of_blk D1.out 13
  have b14 := cell_of_blk D1.out 14
  have hz0 := (Array.getElem?_eq_some_iff.1 D0.out).1
  have hz1 := (Array.getElem?_eq_some_iff.1 D1.out).1
  simp at c0 c1 c2 b0 b1 b2 b3 b4 b5 b6 b7 b8 b9 b10 b11 b12 b13 b14
  go_wp2_with fail
  refine (HV2.out _).mono ?_; rintro e w9 ⟨rfl, hb⟩
  have HB := Lib.hid (below_more HB.out hb)
  have D0 := Lib.hid (blk_keep hb D0.out)
  have D1 := Lib.hid (blk_keep hb D1.out)
  clear hb c0 c1 c2 b0 b1 b2 b3 b4 b5 b6 b7 b8 b9 b10 b11 b12 b13 b14 hz0 hz1
  have c0 := cell_of_blk D0.out 0
  have c1 := cell_of_blk D0.out 1
  have c2 := cell_of_blk D0.out 2
  have b0 := cell_of_blk D1.out 0
  have b1 := cell_of_blk D1.out 1
  have b2 := cell_of_blk D1.out 2
  have b3 := cell_of_blk D1.out 3
  have b4 := cell_of_blk D1.out 4
  have b5 := cell_of_blk D1.out 5
  have b6 := cell_of_blk D1.out 6
  have b7 := cell_of_blk D1.out 7
  have b8 := cell_of_blk D1.out 8
  have b9 := cell_of_blk D1.out 9
  have b10 := cell_of_blk D1.out 10
  have b11 := cell_of_blk D1.out 11
  have b12 := cell_of_blk D1.out 12
  have b13 := cell_of_blk D1.out 13
  have b14 := cell_of_blk D1.out 14
  have hz0 := (Array.getElem?_eq_some_iff.1 D0.out).1
  have hz1 := (Array.getElem?_eq_some_iff.1 D1.out).1
  simp at c0 c1 c2 b0 b1 b2 b3 b4 b5 b6 b7 b8 b9 b10 b11 b12 b13 b14
  cases V2
  case false =>
    go_wp2_with fail
    go_ret
    exact ⟨rfl, HB.out⟩
  go_wp2_with fail
  refine (HZ.out _).mono ?_; rintro e w9 ⟨rfl, hb⟩
  have HB := Lib.hid (below_more HB.out hb)
  have D0 := Lib.hid (blk_keep hb D0.out)
  have D1 := Lib.hid (blk_keep hb D1.out)
  clear hb c0 c1 c2 b0 b1 b2 b3 b4 b5 b6 b7 b8 b9 b10 b11 b12 b13 b14 hz0 hz1
  have c0 := cell_of_blk D0.out 0
  have c1 := cell_of_blk D0.out 1
  have c2 := cell_of_blk D0.out 2
  have b0 := cell_of_blk D1.out 0
  have b1 := cell_of_blk D1.out 1
  have b2 := cell_of_blk D1.out 2
  have b3 := cell_of_blk D1.out 3
  have b4 := cell_of_blk D1.out 4
  have b5 := cell_of_blk D1.out 5
  have b6 := cell_of_blk D1.out 6
  have b7 := cell_of_blk D1.out 7
  have b8 := cell_of_blk D1.out 8
  have b9 := cell_of_blk D1.out 9
  have b10 := cell_of_blk D1.out 10
  have b11 := cell_of_blk D1.out 11
  have b12 := cell_of_blk D1.out 12
  have b13 := cell_of_blk D1.out 13
  have b14 := cell_of_blk D1.out 14
  have hz0 := (Array.getElem?_eq_some_iff.1 D0.out).1
  have hz1 := (Array.getElem?_eq_some_iff.1 D1.out).1
  simp at c0 c1 c2 b0 b1 b2 b3 b4 b5 b6 b7 b8 b9 b10 b11 b12 b13 b14
  have h3 := H3.out
  have hfd : ∀ w : World, (Instr.field 40 (.agg #[.int .i64 Z1, .int .i64 Z2]) 0).run Tryz.prog w = .ok (.int .i64 Z1) w := fun _ => by kernel_rfl
  cases V3
  case false =>
    go_wp2_with fail
    go_ret
    exact ⟨rfl, HB.out⟩
  have HE2 := Lib.hid (fun wx => HE.out wx (by trivial) (by trivial))
  go_wp2_with fail
  refine (HE2.out _).mono ?_; rintro e w9 ⟨rfl, hb⟩
  have HB := Lib.hid (below_more HB.out hb)
  have D0 := Lib.hid (blk_keep hb D0.out)
  have D1 := Lib.hid (blk_keep hb D1.out)
  clear hb c0 c1 c2 b0 b1 b2 b3 b4 b5 b6 b7 b8 b9 b10 b11 b12 b13 b14 hz0 hz1 h3
  have c0 := cell_of_blk D0.out 0
  have c1 := cell_of_blk D0.out 1
  have c2 := cell_of_blk D0.out 2
  have b0 := cell_of_blk D1.out 0
  have b1 := cell_of_blk D1.out 1
  have b2 := cell_of_blk D1.out 2
  have b3 := cell_of_blk D1.out 3
  have b4 := cell_of_blk D1.out 4
  have b5 := cell_of_blk D1.out 5
  have b6 := cell_of_blk D1.out 6
  have b7 := cell_of_blk D1.out 7
  have b8 := cell_of_blk D1.out 8
  have b9 := cell_of_blk D1.out 9
  have b10 := cell_of_blk D1.out 10
  have b11 := cell_of_blk D1.out 11
  have b12 := cell_of_blk D1.out 12
  have b13 := cell_of_blk D1.out 13
  have b14 := cell_of_blk D1.out 14
  have hz0 := (Array.getElem?_eq_some_iff.1 D0.out).1
  have hz1 := (Array.getElem?_eq_some_iff.1 D1.out).1
  simp at c0 c1 c2 b0 b1 b2 b3 b4 b5 b6 b7 b8 b9 b10 b11 b12 b13 b14
  go_wp2_with fail
  refine (HV4.out _).mono ?_; rintro e w9 ⟨rfl, hb⟩
  have HB := Lib.hid (below_more HB.out hb)
  clear hb
  go_wp2_with fail
  go_ret
  exact ⟨rfl, HB.out⟩

end Go.Proofs.YtcijomljopbelaaGreat
