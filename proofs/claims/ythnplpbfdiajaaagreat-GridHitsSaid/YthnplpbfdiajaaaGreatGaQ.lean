/-
  The boxes that contain a point (Hit), by the specification. And what builds on it.
-/
import Derived.Test.YthnplpbfdiajaaaGreatGaP

/- The boxes that contain a point (Hit), by the specification. -/
namespace Go.Proofs.YthnplpbfdiajaaaGreat
open Go.RowKit

set_option maxRecDepth 100000 in
set_option maxHeartbeats 32000000 in
theorem rhit_any (A : Option Addr) (cap : Nat) (bs : List Bx) (f1 f2 g1 g2 : Int) (w : World) (hb : BxsAt w A bs) (hc1 : bs.length ≤ cap) (hc : cap ≤ maxLen) :
    Calls Tryz.prog 40 #[.slice A bs.length cap, .agg #[.int .i64 f1, .int .i64 f2], .agg #[.int .i64 g1, .int .i64 g2]] w (GotNatsE w (hitR bs ⟨f1, f2⟩ ⟨g1, g2⟩)) := by
  obtain ⟨R, hR⟩ : ∃ R, R = hitR bs ⟨f1, f2⟩ ⟨g1, g2⟩ := ⟨_, rfl⟩
  have HR := Lib.hid (show R = if chkB bs ≠ 0 then ([], chkB bs) else if (validB f1 f2 && validB g1 g2) = true then (hitK bs ⟨f1, f2⟩ ⟨g1, g2⟩ bs.length, 0) else ([], 1) from hR)
  have HCK := Lib.hid (fun wx (hbx : Below w.heap.size w wx) => rallp_any A cap bs wx (hb.below hbx) hc1 hc)
  have HV1 := Lib.hid (fun wx => rvalid_any f1 f2 wx)
  have HV2 := Lib.hid (fun wx => rvalid_any g1 g2 wx)
  obtain ⟨V1, hV1⟩ : ∃ V, V = validB f1 f2 := ⟨_, rfl⟩
  obtain ⟨V2, hV2⟩ : ∃ V, V = validB g1 g2 := ⟨_, rfl⟩
  have HVV := Lib.hid hV1
  have HWW := Lib.hid hV2
  rw [← hV1, ← hV2] at HR
  rw [← hV1] at HV1
  rw [← hV2] at HV2
  obtain ⟨C, hC⟩ : ∃ C, C = chkB bs := ⟨_, rfl⟩
  have HCC := Lib.hid hC
  rw [← hC] at HR HCK
  have HBS := Lib.hid hb
  obtain ⟨N, hN⟩ : ∃ N, N = bs.length := ⟨_, rfl⟩
  have HN := Lib.hid hN
  rw [← hR]
  rw [← hN] at HCK HR hc1 ⊢
  unfold maxLen at hc
  obtain ⟨iv, hiv, hzv, hsv, hbv⟩ := info_hid infoInt
  clear hb hC hN hR hV1 hV2
  obtain ⟨W, hW⟩ : ∃ W, W = (w.alloc (.cells #[.int .i64 f1, .int .i64 f2] 40)).alloc (.cells #[.int .i64 g1, .int .i64 g2] 40) := ⟨_, rfl⟩
  have HB := Lib.hid (show Below w.heap.size w W from hW ▸ two_under _ _ _)
  have D2 := Lib.hid (show W.heap[w.heap.size]? = some (.cells #[.int .i64 f1, .int .i64 f2] 40 (0, 0)) by rw [hW, heap_alloc_other _ _ _ (by simp)]; exact heap_alloc_new _ _)
  have D3 := Lib.hid (show W.heap[w.heap.size + 1]? = some (.cells #[.int .i64 g1, .int .i64 g2] 40 (0, 0)) by rw [hW]; have := heap_alloc_new (w.alloc (.cells #[.int .i64 f1, .int .i64 f2] 40)) (.cells #[.int .i64 g1, .int .i64 g2] 40); simpa using this)
  go_enter Tryz.func40, Tryz.ntmps40
  go_wp2_with fail
  rw [← hW]
  clear hW
  refine (HCK.out _ HB.out).mono ?_; rintro e v1 ⟨rfl, hb1⟩
  have HB := Lib.hid (below_more HB.out hb1)
  have D2 := Lib.hid (blk_keep hb1 D2.out)
  have D3 := Lib.hid (blk_keep hb1 D3.out)
  clear hb1 HCK
  by_cases hC0 : C = 0
  case neg =>
    have hbE : (C != 0) = true := by simpa using hC0
    have HF := Lib.hid (show R = ([], C) by rw [HR.out, if_pos hC0])
    clear hC0 HR
    go_wp2_with fail
    go_ret2
    rw [HF.out]
    exact ⟨none, 0, rfl, Lib.hid (World.ownsRow_nil _ _ _ _), HB.out⟩
  have HZ := Lib.hid (chk_zero (show chkB bs = 0 by rw [← HCC.out]; exact hC0))
  have HF := Lib.hid (show R = if (V1 && V2) = true then (hitK bs ⟨f1, f2⟩ ⟨g1, g2⟩ N, 0) else ([], 1) by rw [HR.out, if_neg (by simp [hC0])])
  have hbE : (C != 0) = false := by simpa using hC0
  have hN200 : N ≤ 200 := by have := HZ.out.1; have := HN.out; omega
  clear hC0 HR HCC
  have a0 := cell_of_blk D2.out 0
  have a1 := cell_of_blk D2.out 1
  have hz7 := (Array.getElem?_eq_some_iff.1 D2.out).1
  simp at a0 a1
  go_wp2_with fail
  refine (HV1.out _).mono ?_; rintro e v2 ⟨rfl, hb2⟩
  have HB := Lib.hid (below_more HB.out hb2)
  have D2 := Lib.hid (blk_keep hb2 D2.out)
  have D3 := Lib.hid (blk_keep hb2 D3.out)
  clear hb2 hbE a0 a1 hz7
  cases V1
  case false =>
    go_wp2_with fail
    go_ret2
    rw [HF.out]
    exact ⟨none, 0, rfl, Lib.hid (World.ownsRow_nil _ _ _ _), HB.out⟩
  have a0 := cell_of_blk D3.out 0
  have a1 := cell_of_blk D3.out 1
  have hz7 := (Array.getElem?_eq_some_iff.1 D3.out).1
  simp at a0 a1
  go_wp2_with fail
  refine (HV2.out _).mono ?_; rintro e v3 ⟨rfl, hb2⟩
  have HB := Lib.hid (below_more HB.out hb2)
  have D2 := Lib.hid (blk_keep hb2 D2.out)
  have D3 := Lib.hid (blk_keep hb2 D3.out)
  clear hb2 a0 a1 hz7
  cases V2
  case false =>
    go_wp2_with fail
    go_ret2
    rw [HF.out]
    exact ⟨none, 0, rfl, Lib.hid (World.ownsRow_nil _ _ _ _), HB.out⟩
  have HF := Lib.hid (show R = (hitK bs ⟨f1, f2⟩ ⟨g1, g2⟩ N, 0) by rw [HF.out]; rfl)
  go_wp2_with fail
  go_loopw [9, 10] (fun v i wr => ∃ (k m : Nat), k ≤ N ∧ i = .int .i64 k ∧ m ≤ k ∧ Hid (m = (hitK bs ⟨f1, f2⟩ ⟨g1, g2⟩ k).length) ∧ Hid (wr.ownsRow v3.heap.size 3 1 v m (intsV (hitK bs ⟨f1, f2⟩ ⟨g1, g2⟩ k))) ∧ Hid (Below v3.heap.size v3 wr)) (fun _ i _ => N - (intOf i).toNat)
  case atStart => exact ⟨0, 0, Nat.zero_le _, rfl, Nat.le_refl _, Lib.hid rfl, Lib.hid (by simpa [hitK, intsV] using World.ownsRow_nil _ _ _ _), Lib.hid (Below.refl _ _)⟩
  case round =>
    obtain ⟨k, m', hk, rfl, hmk, hml, hown, hbw⟩ := hrel
    have HOW := Lib.hid hown.out
    have HML := Lib.hid hml.out
    have HBR := Lib.hid hbw.out
    have HBB := Lib.hid (below_more HB.out hbw.out)
    clear hown hbw hml
    by_cases hlt : k < N
    · obtain ⟨x, hx⟩ : ∃ x, bs[k]? = some x := ⟨_, List.getElem?_eq_getElem (by have := HN.out; omega)⟩
      obtain ⟨b, o, hA, hbl, vb0⟩ := HBS.out k x hx
      subst hA
      have vb := vb0.below HBB.out hbl
      have hbo := HZ.out.2 x (List.mem_of_getElem? hx)
      have o1 := both_valid hbo false
      have o2 := both_valid hbo true
      unfold vF at o1 o2
      have vf := valid_in HVV.out.symm
      have vg := valid_in HWW.out.symm
      have vx := valid_in o1.1
      have vw := valid_in o1.2.1
      have vex := valid_in o1.2.2
      have vy := valid_in o2.1
      have vh := valid_in o2.2.1
      have vey := valid_in o2.2.2
      have HA7 := Lib.hid (fun wx => show Calls Tryz.prog 83 #[.agg #[.int .i64 x.x.num, .int .i64 x.x.den], .agg #[.int .i64 x.w.num, .int .i64 x.w.den]] wx (GotFr wx (x.en false)) from
        radd_box false x hbo wx)
      have HA8 := Lib.hid (fun wx => show Calls Tryz.prog 83 #[.agg #[.int .i64 x.y.num, .int .i64 x.y.den], .agg #[.int .i64 x.h.num, .int .i64 x.h.den]] wx (GotFr wx (x.en true)) from
        radd_box true x hbo wx)
      have m1 : smallI (f1 * x.x.den) := mul_small ⟨vf.2.2.1, vf.2.2.2⟩ ⟨vx.1, vx.2.1⟩
      have m2 : smallI (x.x.num * f2) := mul_small ⟨vx.2.2.1, vx.2.2.2⟩ ⟨vf.1, vf.2.1⟩
      have m3 : smallI (f1 * (x.en false).den) := mul_small ⟨vf.2.2.1, vf.2.2.2⟩ ⟨vex.1, vex.2.1⟩
      have m4 : smallI ((x.en false).num * f2) := mul_small ⟨vex.2.2.1, vex.2.2.2⟩ ⟨vf.1, vf.2.1⟩
      have m5 : smallI (g1 * x.y.den) := mul_small ⟨vg.2.2.1, vg.2.2.2⟩ ⟨vy.1, vy.2.1⟩
      have m6 : smallI (x.y.num * g2) := mul_small ⟨vy.2.2.1, vy.2.2.2⟩ ⟨vg.1, vg.2.1⟩
      have m7 : smallI (g1 * (x.en true).den) := mul_small ⟨vg.2.2.1, vg.2.2.2⟩ ⟨vey.1, vey.2.1⟩
      have m8 : smallI ((x.en true).num * g2) := mul_small ⟨vey.2.2.1, vey.2.2.2⟩ ⟨vg.1, vg.2.1⟩
      obtain ⟨L1, hL1⟩ : ∃ L, L = decide (f1 * x.x.den < x.x.num * f2) := ⟨_, rfl⟩
      obtain ⟨L2, hL2⟩ : ∃ L, L = decide (f1 * (x.en false).den < (x.en false).num * f2) := ⟨_, rfl⟩
      obtain ⟨L3, hL3⟩ : ∃ L, L = decide (g1 * x.y.den < x.y.num * g2) := ⟨_, rfl⟩
      obtain ⟨L4, hL4⟩ : ∃ L, L = decide (g1 * (x.en true).den < (x.en true).num * g2) := ⟨_, rfl⟩
      have HPB := Lib.hid (show hitB x ⟨f1, f2⟩ ⟨g1, g2⟩ = ((!L1 && L2) && (!L3 && L4)) by
        rw [hL1, hL2, hL3, hL4]; rfl)
      have HY := Lib.hid (fun (h : ((!L1 && L2) && (!L3 && L4)) = true) => hitK_yes (f := ⟨f1, f2⟩) (g := ⟨g1, g2⟩) hx (by rw [HPB.out]; exact h))
      have HNO := Lib.hid (fun (h : ((!L1 && L2) && (!L3 && L4)) = false) => hitK_no (f := ⟨f1, f2⟩) (g := ⟨g1, g2⟩) hx (by rw [HPB.out]; exact h))
      have K1 := hL1.symm
      have K2 := hL2.symm
      have K3 := hL3.symm
      have K4 := hL4.symm
      obtain ⟨⟨E1, E2'⟩, hE⟩ : ∃ E, E = x.en false := ⟨_, rfl⟩
      obtain ⟨⟨G1, G2⟩, hG⟩ : ∃ E, E = x.en true := ⟨_, rfl⟩
      rw [← hE] at HA7 m3 m4 K2
      rw [← hG] at HA8 m7 m8 K4
      unfold GotFr at HA7 HA8
      dsimp only at HA7 HA8 m3 m4 m7 m8 K2 K4
      have z0 := vb.c0
      have z1 := vb.c1
      have z2 := vb.c2
      have z3 := vb.c3
      have z4 := vb.c4
      have z5 := vb.c5
      have z6 := vb.c6
      have z7 := vb.c7
      have z8 := vb.c8
      have z9 := vb.c9
      have z10 := vb.c10
      have z11 := vb.c11
      have z12 := vb.c12
      have z13 := vb.c13
      have z14 := vb.c14
      have hbr : b < wr.heap.size := by have := HBB.out.size; omega
      have hki : (0 : Int) ≤ (k : Int) := by omega
      have hkl : (k : Int) < (N : Int) := by omega
      clear hL1 hL2 hL3 hL4 hE hG hx vb vb0 HPB hbo o1 o2 vf vg vx vw vex vy vh vey
      obtain ⟨k', sg, t, m, st, mn, mx, ⟨x1, x2⟩, ⟨y1, y2⟩, ⟨w1, w2⟩, ⟨h1, h2⟩⟩ := x
      dsimp only at HA7 HA8 m1 m2 m5 m6 K1 K3 z0 z1 z2 z3 z4 z5 z6 z7 z8 z9 z10 z11 z12 z13 z14
      go_upto_region 11 with fail
      obtain ⟨Y, hY⟩ : ∃ Y, Y = wr.alloc (.cells #[.int .i64 k', .int .i64 sg, .int .i64 t, .bool m, .int .i64 st, .int .i64 mn, .int .i64 mx, .int .i64 x1, .int .i64 x2, .int .i64 y1, .int .i64 y2, .int .i64 w1, .int .i64 w2, .int .i64 h1, .int .i64 h2] 82) := ⟨_, rfl⟩
      have HBY := Lib.hid (show Below wr.heap.size wr Y from hY ▸ below_alloc _ _)
      have B6 := Lib.hid (show Y.heap[wr.heap.size]? = some (.cells #[.int .i64 k', .int .i64 sg, .int .i64 t, .bool m, .int .i64 st, .int .i64 mn, .int .i64 mx, .int .i64 x1, .int .i64 x2, .int .i64 y1, .int .i64 y2, .int .i64 w1, .int .i64 w2, .int .i64 h1, .int .i64 h2] 82 (0, 0)) from hY ▸ heap_alloc_new _ _)
      have E2 := Lib.hid (blk_keep HBY.out (blk_keep HBR.out D2.out))
      have E3 := Lib.hid (blk_keep HBY.out (blk_keep HBR.out D3.out))
      rw [← hY]
      clear hY z0 z1 z2 z3 z4 z5 z6 z7 z8 z9 z10 z11 z12 z13 z14 hbr
      have b7 := cell_of_blk B6.out 7
      have b8 := cell_of_blk B6.out 8
      have b9 := cell_of_blk B6.out 9
      have b10 := cell_of_blk B6.out 10
      have b11 := cell_of_blk B6.out 11
      have b12 := cell_of_blk B6.out 12
      have b13 := cell_of_blk B6.out 13
      have b14 := cell_of_blk B6.out 14
      have a0 := cell_of_blk E2.out 0
      have a1 := cell_of_blk E2.out 1
      have d0 := cell_of_blk E3.out 0
      have d1 := cell_of_blk E3.out 1
      have hz6 := (Array.getElem?_eq_some_iff.1 B6.out).1
      have hz7 := (Array.getElem?_eq_some_iff.1 E2.out).1
      have hz8 := (Array.getElem?_eq_some_iff.1 E3.out).1
      simp at b7 b8 b9 b10 b11 b12 b13 b14 a0 a1 d0 d1
      cases L1
      case true =>
        refine wp_region_later (by kernel_rfl) (by kernel_rfl) ?_; (repeat (first | go_big_quiet_step ((first | (go_at_call 84; exact Calls.later _ (rless_any _ _ _ _ _ (by assumption) (by assumption))) | (go_at_call 83; with_reducible exact Calls.later _ (HA7.out _)) | (go_at_call 83; with_reducible exact Calls.later _ (HA8.out _)))) | quiet_step ((first | (go_at_call 84; exact Calls.later _ (rless_any _ _ _ _ _ (by assumption) (by assumption))) | (go_at_call 83; with_reducible exact Calls.later _ (HA7.out _)) | (go_at_call 83; with_reducible exact Calls.later _ (HA8.out _)))))); refine wpQuiet_nil ?_; rintro _ ⟨s, rfl⟩
        have HBS := Lib.hid (below_more HBY.out s.below)
        obtain ⟨w6, hw6⟩ : ∃ X, X = s.w := ⟨_, rfl⟩
        rw [← hw6] at HBS ⊢
        clear hw6 s b7 b8 b9 b10 b11 b12 b13 b14 a0 a1 d0 d1 hz6 hz7 hz8
        have HB9 := Lib.hid (HBR.out.trans (HBS.out.mono HBR.out.size))
        have HO9 := Lib.hid (ownsRow_of_block HOW.out (fun g hg => HBS.out.block g (HOW.out.lt g hg).2))
        go_wp2_with fail
        go_roundw
        case rel => exact ⟨k + 1, m', by omega, by go_num, by omega, Lib.hid (by rw [HNO.out (by trivial)]; exact HML.out), Lib.hid (by rw [HNO.out (by trivial)]; exact HO9.out), HB9⟩
        case measure => simp [intOf]; omega
      cases L2
      case false =>
        refine wp_region_later (by kernel_rfl) (by kernel_rfl) ?_; (repeat (first | go_big_quiet_step ((first | (go_at_call 84; exact Calls.later _ (rless_any _ _ _ _ _ (by assumption) (by assumption))) | (go_at_call 83; with_reducible exact Calls.later _ (HA7.out _)) | (go_at_call 83; with_reducible exact Calls.later _ (HA8.out _)))) | quiet_step ((first | (go_at_call 84; exact Calls.later _ (rless_any _ _ _ _ _ (by assumption) (by assumption))) | (go_at_call 83; with_reducible exact Calls.later _ (HA7.out _)) | (go_at_call 83; with_reducible exact Calls.later _ (HA8.out _)))))); refine wpQuiet_nil ?_; rintro _ ⟨s, rfl⟩
        have HBS := Lib.hid (below_more HBY.out s.below)
        obtain ⟨w6, hw6⟩ : ∃ X, X = s.w := ⟨_, rfl⟩
        rw [← hw6] at HBS ⊢
        clear hw6 s b7 b8 b9 b10 b11 b12 b13 b14 a0 a1 d0 d1 hz6 hz7 hz8
        have HB9 := Lib.hid (HBR.out.trans (HBS.out.mono HBR.out.size))
        have HO9 := Lib.hid (ownsRow_of_block HOW.out (fun g hg => HBS.out.block g (HOW.out.lt g hg).2))
        go_wp2_with fail
        go_roundw
        case rel => exact ⟨k + 1, m', by omega, by go_num, by omega, Lib.hid (by rw [HNO.out (by trivial)]; exact HML.out), Lib.hid (by rw [HNO.out (by trivial)]; exact HO9.out), HB9⟩
        case measure => simp [intOf]; omega
      cases L3
      case true =>
        refine wp_region_later (by kernel_rfl) (by kernel_rfl) ?_; (repeat (first | go_big_quiet_step ((first | (go_at_call 84; exact Calls.later _ (rless_any _ _ _ _ _ (by assumption) (by assumption))) | (go_at_call 83; with_reducible exact Calls.later _ (HA7.out _)) | (go_at_call 83; with_reducible exact Calls.later _ (HA8.out _)))) | quiet_step ((first | (go_at_call 84; exact Calls.later _ (rless_any _ _ _ _ _ (by assumption) (by assumption))) | (go_at_call 83; with_reducible exact Calls.later _ (HA7.out _)) | (go_at_call 83; with_reducible exact Calls.later _ (HA8.out _)))))); refine wpQuiet_nil ?_; rintro _ ⟨s, rfl⟩
        have HBS := Lib.hid (below_more HBY.out s.below)
        obtain ⟨w6, hw6⟩ : ∃ X, X = s.w := ⟨_, rfl⟩
        rw [← hw6] at HBS ⊢
        clear hw6 s b7 b8 b9 b10 b11 b12 b13 b14 a0 a1 d0 d1 hz6 hz7 hz8
        have HB9 := Lib.hid (HBR.out.trans (HBS.out.mono HBR.out.size))
        have HO9 := Lib.hid (ownsRow_of_block HOW.out (fun g hg => HBS.out.block g (HOW.out.lt g hg).2))
        go_wp2_with fail
        go_roundw
        case rel => exact ⟨k + 1, m', by omega, by go_num, by omega, Lib.hid (by rw [HNO.out (by trivial)]; exact HML.out), Lib.hid (by rw [HNO.out (by trivial)]; exact HO9.out), HB9⟩
        case measure => simp [intOf]; omega
      cases L4
      case false =>
        refine wp_region_later (by kernel_rfl) (by kernel_rfl) ?_; (repeat (first | go_big_quiet_step ((first | (go_at_call 84; exact Calls.later _ (rless_any _ _ _ _ _ (by assumption) (by assumption))) | (go_at_call 83; with_reducible exact Calls.later _ (HA7.out _)) | (go_at_call 83; with_reducible exact Calls.later _ (HA8.out _)))) | quiet_step ((first | (go_at_call 84; exact Calls.later _ (rless_any _ _ _ _ _ (by assumption) (by assumption))) | (go_at_call 83; with_reducible exact Calls.later _ (HA7.out _)) | (go_at_call 83; with_reducible exact Calls.later _ (HA8.out _)))))); refine wpQuiet_nil ?_; rintro _ ⟨s, rfl⟩
        have HBS := Lib.hid (below_more HBY.out s.below)
        obtain ⟨w6, hw6⟩ : ∃ X, X = s.w := ⟨_, rfl⟩
        rw [← hw6] at HBS ⊢
        clear hw6 s b7 b8 b9 b10 b11 b12 b13 b14 a0 a1 d0 d1 hz6 hz7 hz8
        have HB9 := Lib.hid (HBR.out.trans (HBS.out.mono HBR.out.size))
        have HO9 := Lib.hid (ownsRow_of_block HOW.out (fun g hg => HBS.out.block g (HOW.out.lt g hg).2))
        go_wp2_with fail
        go_roundw
        case rel => exact ⟨k + 1, m', by omega, by go_num, by omega, Lib.hid (by rw [HNO.out (by trivial)]; exact HML.out), Lib.hid (by rw [HNO.out (by trivial)]; exact HO9.out), HB9⟩
        case measure => simp [intOf]; omega
      case true =>
        refine wp_region_later (by kernel_rfl) (by kernel_rfl) ?_; (repeat (first | go_big_quiet_step ((first | (go_at_call 84; exact Calls.later _ (rless_any _ _ _ _ _ (by assumption) (by assumption))) | (go_at_call 83; with_reducible exact Calls.later _ (HA7.out _)) | (go_at_call 83; with_reducible exact Calls.later _ (HA8.out _)))) | quiet_step ((first | (go_at_call 84; exact Calls.later _ (rless_any _ _ _ _ _ (by assumption) (by assumption))) | (go_at_call 83; with_reducible exact Calls.later _ (HA7.out _)) | (go_at_call 83; with_reducible exact Calls.later _ (HA8.out _)))))); refine wpQuiet_nil ?_; rintro _ ⟨s, rfl⟩
        have HBS := Lib.hid (below_more HBY.out s.below)
        obtain ⟨w6, hw6⟩ : ∃ X, X = s.w := ⟨_, rfl⟩
        rw [← hw6] at HBS ⊢
        clear hw6 s b7 b8 b9 b10 b11 b12 b13 b14 a0 a1 d0 d1 hz6 hz7 hz8
        have HB9 := Lib.hid (HBR.out.trans (HBS.out.mono HBR.out.size))
        have HO9 := Lib.hid (ownsRow_of_block HOW.out (fun g hg => HBS.out.block g (HOW.out.lt g hg).2))
        obtain ⟨Av, cv, hv7, -, -, -, -⟩ := own_slice HO9.out
        subst hv7
        have HSS := Lib.hid (show v3.heap.size ≤ w6.heap.size from HB9.out.size)
        have HSA := Lib.hid (show ∀ (o : Obj), v3.heap.size ≤ (w6.alloc o).heap.size from fun o => by rw [World.size_alloc]; have := HSS.out; omega)
        have HNR := Lib.hid (new_row w6 [.int .i64 k] 3)
        have HN1 := Lib.hid (show ∀ u ∈ ([.int .i64 k] : List Value), u.oneCell' = true from fun u hu => by simp at hu; subst hu; rfl)
        go_wp2_with (first
          | (at_builtin; refine wpList_append_src _ rfl (.tmp 65) (.tmp 67) 49 rfl v3.heap.size 3 iv (.int .i64 0) 1 8 Tryz.underlying49 hiv.out hzv.out hsv.out hbv.out rfl (by decide) (.slice Av m' cv) m' (intsV (hitK bs ⟨f1, f2⟩ ⟨g1, g2⟩ k)) rfl (HO9.out.alloc _) (some ⟨w6.heap.size, 0, none⟩) 1 1 [.int .i64 k] rfl rfl (fun h => by cases h) HNR.out HN1.out (by unfold maxLen; omega) (by omega) (HSA.out _) (m' + 1) rfl ?_))
        intro A9 c9 w9 own9 hg9 _
        have HB10 := Lib.hid ((HB9.out.alloc HSS.out _).grown hg9 (by rw [World.size_alloc]; have := HSS.out; omega) (fun g hg => (HO9.out.lt g hg).1))
        have HO10 := Lib.hid (show w9.ownsRow v3.heap.size 3 1 (.slice A9 (m' + 1) c9) (m' + 1) (intsV (hitK bs ⟨f1, f2⟩ ⟨g1, g2⟩ (k + 1))) by rw [HY.out (by trivial), intsV_snoc]; exact own9)
        clear own9 hg9 HNR HN1 HSA HSS
        go_wp2_with fail
        go_roundw
        case rel => exact ⟨k + 1, m' + 1, by omega, by go_num, by omega, Lib.hid (by rw [HY.out (by trivial), List.length_append, ← HML.out]; rfl), HO10, HB10⟩
        case measure => simp [intOf]; omega
    · obtain rfl : k = N := by omega
      obtain ⟨Av, cv, hv7, -, -, -, -⟩ := own_slice HOW.out
      subst hv7
      have HOF := Lib.hid (own_base HOW.out HB.out.size)
      go_wp2_with fail
      go_ret2
      rw [HF.out]
      exact ⟨Av, cv, by rw [← HML.out]; rfl, Lib.hid (by rw [← HML.out]; exact HOF.out), HBB.out⟩

end Go.Proofs.YthnplpbfdiajaaaGreat

/- Whether two boxes cross (Cross), by the specification. -/
namespace Go.Proofs.YthnplpbfdiajaaaGreat
open Go.RowKit

set_option maxRecDepth 100000 in
set_option maxHeartbeats 16000000 in
theorem rcross_any (x y : Bx) (w : World) (hx : bothB x = true) (hy : bothB y = true) :
    Calls Tryz.prog 48 #[x.val, y.val] w fun e w' => e = .returned (.bool (crossB false x y && crossB true x y)) ∧ Below w.heap.size w w' := by
  have HAX := Lib.hid (fun wx => radd_box false x hx wx)
  have HAY := Lib.hid (fun wx => radd_box true x hx wx)
  have HBX := Lib.hid (fun wx => radd_box false y hy wx)
  have HBY := Lib.hid (fun wx => radd_box true y hy wx)
  have HL1 := Lib.hid (fun wx => rless_box false x y hx hy wx)
  have HL2 := Lib.hid (fun wx => rless_box false y x hy hx wx)
  have HL3 := Lib.hid (fun wx => rless_box true x y hx hy wx)
  have HL4 := Lib.hid (fun wx => rless_box true y x hy hx wx)
  obtain ⟨V1, hV1⟩ : ∃ V, V = decide ((x.st false).num * (y.en false).den < (y.en false).num * (x.st false).den) := ⟨_, rfl⟩
  obtain ⟨V2, hV2⟩ : ∃ V, V = decide ((y.st false).num * (x.en false).den < (x.en false).num * (y.st false).den) := ⟨_, rfl⟩
  obtain ⟨V3, hV3⟩ : ∃ V, V = decide ((x.st true).num * (y.en true).den < (y.en true).num * (x.st true).den) := ⟨_, rfl⟩
  obtain ⟨V4, hV4⟩ : ∃ V, V = decide ((y.st true).num * (x.en true).den < (x.en true).num * (y.st true).den) := ⟨_, rfl⟩
  have HR := Lib.hid (show (crossB false x y && crossB true x y) = ((V1 && V2) && (V3 && V4)) by
    unfold crossB
    rw [← hV1, ← hV2, ← hV3, ← hV4])
  rw [HR.out]
  rw [← hV1] at HL1
  rw [← hV2] at HL2
  rw [← hV3] at HL3
  rw [← hV4] at HL4
  obtain ⟨⟨A1, A2⟩, hA⟩ : ∃ E, E = x.en false := ⟨_, rfl⟩
  obtain ⟨⟨B1, B2⟩, hB⟩ : ∃ E, E = x.en true := ⟨_, rfl⟩
  obtain ⟨⟨C1, C2⟩, hC⟩ : ∃ E, E = y.en false := ⟨_, rfl⟩
  obtain ⟨⟨D1, D2⟩, hD⟩ : ∃ E, E = y.en true := ⟨_, rfl⟩
  rw [← hA] at HAX HL2
  rw [← hB] at HAY HL4
  rw [← hC] at HBX HL1
  rw [← hD] at HBY HL3
  unfold GotFr at HAX HAY HBX HBY
  unfold Bx.st at HAX HAY HBX HBY HL1 HL2 HL3 HL4
  unfold Bx.sz at HAX HAY HBX HBY
  clear hx hy hV1 hV2 hV3 hV4 hA hB hC hD HR

  obtain ⟨k, sg, t, m, st, mn, mx, ⟨x1, x2⟩, ⟨y1, y2⟩, ⟨w1, w2⟩, ⟨h1, h2⟩⟩ := x
  obtain ⟨k', sg', t', m', st', mn', mx', ⟨x1', x2'⟩, ⟨y1', y2'⟩, ⟨w1', w2'⟩, ⟨h1', h2'⟩⟩ := y
  unfold Bx.val
  simp only [Bool.false_eq_true, ↓reduceIte] at HAX HAY HBX HBY HL1 HL2 HL3 HL4
  dsimp only at HAX HAY HBX HBY HL1 HL2 HL3 HL4 ⊢
  obtain ⟨W2, hW2⟩ : ∃ W2, W2 = w.alloc (.cells #[.int .i64 k, .int .i64 sg, .int .i64 t, .bool m, .int .i64 st, .int .i64 mn, .int .i64 mx, .int .i64 x1, .int .i64 x2, .int .i64 y1, .int .i64 y2, .int .i64 w1, .int .i64 w2, .int .i64 h1, .int .i64 h2] 82) := ⟨_, rfl⟩
  obtain ⟨W, hW⟩ : ∃ W, W = W2.alloc (.cells #[.int .i64 k', .int .i64 sg', .int .i64 t', .bool m', .int .i64 st', .int .i64 mn', .int .i64 mx', .int .i64 x1', .int .i64 x2', .int .i64 y1', .int .i64 y2', .int .i64 w1', .int .i64 w2', .int .i64 h1', .int .i64 h2'] 82) := ⟨_, rfl⟩
  have s2 : W2.heap.size = w.heap.size + 1 := by rw [hW2]; simp
  have s3 : W.heap.size = w.heap.size + 1 + 1 := by rw [hW]; simp [s2]
  have k2 : Below w.heap.size w W2 := hW2 ▸ below_alloc _ _
  have k3 : Below W2.heap.size W2 W := hW ▸ below_alloc _ _
  have HB := Lib.hid (below_more k2 k3)
  have D1 := Lib.hid (blk_keep k3 (show W2.heap[w.heap.size]? = some (.cells #[.int .i64 k, .int .i64 sg, .int .i64 t, .bool m, .int .i64 st, .int .i64 mn, .int .i64 mx, .int .i64 x1, .int .i64 x2, .int .i64 y1, .int .i64 y2, .int .i64 w1, .int .i64 w2, .int .i64 h1, .int .i64 h2] 82 (0, 0)) by rw [hW2]; exact heap_alloc_new _ _))
  have D2 := Lib.hid (show W.heap[w.heap.size + 1]? = some (.cells #[.int .i64 k', .int .i64 sg', .int .i64 t', .bool m', .int .i64 st', .int .i64 mn', .int .i64 mx', .int .i64 x1', .int .i64 x2', .int .i64 y1', .int .i64 y2', .int .i64 w1', .int .i64 w2', .int .i64 h1', .int .i64 h2'] 82 (0, 0)) by rw [hW, ← s2]; exact heap_alloc_new _ _)
  have hz1 : w.heap.size < W.heap.size := by omega
  have hz2 : w.heap.size + 1 < W.heap.size := by omega
  clear s2 s3 k2 k3
  have b7 := cell_of_blk D1.out 7
  have b8 := cell_of_blk D1.out 8
  have b9 := cell_of_blk D1.out 9
  have b10 := cell_of_blk D1.out 10
  have b11 := cell_of_blk D1.out 11
  have b12 := cell_of_blk D1.out 12
  have b13 := cell_of_blk D1.out 13
  have b14 := cell_of_blk D1.out 14
  have a7 := cell_of_blk D2.out 7
  have a8 := cell_of_blk D2.out 8
  have a9 := cell_of_blk D2.out 9
  have a10 := cell_of_blk D2.out 10
  have a11 := cell_of_blk D2.out 11
  have a12 := cell_of_blk D2.out 12
  have a13 := cell_of_blk D2.out 13
  have a14 := cell_of_blk D2.out 14
  simp at b7 b8 b9 b10 b11 b12 b13 b14 a7 a8 a9 a10 a11 a12 a13 a14
  cases V1
  case false =>
    go_enter Tryz.func48, Tryz.ntmps48
    go_wp2_with fail
    rw [← hW2, ← hW]
    clear hW2 hW
    refine wp_region_later (by kernel_rfl) (by kernel_rfl) ?_; (repeat (first | go_big_quiet_step ((first | (go_at_call 83; with_reducible exact Calls.later _ (HBX.out _)) | (go_at_call 84; with_reducible exact Calls.later _ (HL1.out _)))) | quiet_step ((first | (go_at_call 83; with_reducible exact Calls.later _ (HBX.out _)) | (go_at_call 84; with_reducible exact Calls.later _ (HL1.out _)))))); refine wpQuiet_nil ?_; rintro _ ⟨s, rfl⟩
    have HBS := Lib.hid (below_more HB.out s.below)
    go_wp2_with fail
    go_ret
    exact ⟨rfl, HBS.out⟩
  cases V2
  case false =>
    go_enter Tryz.func48, Tryz.ntmps48
    go_wp2_with fail
    rw [← hW2, ← hW]
    clear hW2 hW
    refine wp_region_later (by kernel_rfl) (by kernel_rfl) ?_; (repeat (first | go_big_quiet_step ((first | (go_at_call 83; with_reducible exact Calls.later _ (HBX.out _)) | (go_at_call 84; with_reducible exact Calls.later _ (HL1.out _)) | (go_at_call 83; with_reducible exact Calls.later _ (HAX.out _)) | (go_at_call 84; with_reducible exact Calls.later _ (HL2.out _)))) | quiet_step ((first | (go_at_call 83; with_reducible exact Calls.later _ (HBX.out _)) | (go_at_call 84; with_reducible exact Calls.later _ (HL1.out _)) | (go_at_call 83; with_reducible exact Calls.later _ (HAX.out _)) | (go_at_call 84; with_reducible exact Calls.later _ (HL2.out _)))))); refine wpQuiet_nil ?_; rintro _ ⟨s, rfl⟩
    have HBS := Lib.hid (below_more HB.out s.below)
    go_wp2_with fail
    go_ret
    exact ⟨rfl, HBS.out⟩
  cases V3
  case false =>
    go_enter Tryz.func48, Tryz.ntmps48
    go_wp2_with fail
    rw [← hW2, ← hW]
    clear hW2 hW
    refine wp_region_later (by kernel_rfl) (by kernel_rfl) ?_; (repeat (first | go_big_quiet_step ((first | (go_at_call 83; with_reducible exact Calls.later _ (HBX.out _)) | (go_at_call 84; with_reducible exact Calls.later _ (HL1.out _)) | (go_at_call 83; with_reducible exact Calls.later _ (HAX.out _)) | (go_at_call 84; with_reducible exact Calls.later _ (HL2.out _)) | (go_at_call 83; with_reducible exact Calls.later _ (HBY.out _)) | (go_at_call 84; with_reducible exact Calls.later _ (HL3.out _)))) | quiet_step ((first | (go_at_call 83; with_reducible exact Calls.later _ (HBX.out _)) | (go_at_call 84; with_reducible exact Calls.later _ (HL1.out _)) | (go_at_call 83; with_reducible exact Calls.later _ (HAX.out _)) | (go_at_call 84; with_reducible exact Calls.later _ (HL2.out _)) | (go_at_call 83; with_reducible exact Calls.later _ (HBY.out _)) | (go_at_call 84; with_reducible exact Calls.later _ (HL3.out _)))))); refine wpQuiet_nil ?_; rintro _ ⟨s, rfl⟩
    have HBS := Lib.hid (below_more HB.out s.below)
    go_wp2_with fail
    go_ret
    exact ⟨rfl, HBS.out⟩
  cases V4
  case false =>
    go_enter Tryz.func48, Tryz.ntmps48
    go_wp2_with fail
    rw [← hW2, ← hW]
    clear hW2 hW
    refine wp_region_later (by kernel_rfl) (by kernel_rfl) ?_; (repeat (first | go_big_quiet_step ((first | (go_at_call 83; with_reducible exact Calls.later _ (HBX.out _)) | (go_at_call 84; with_reducible exact Calls.later _ (HL1.out _)) | (go_at_call 83; with_reducible exact Calls.later _ (HAX.out _)) | (go_at_call 84; with_reducible exact Calls.later _ (HL2.out _)) | (go_at_call 83; with_reducible exact Calls.later _ (HBY.out _)) | (go_at_call 84; with_reducible exact Calls.later _ (HL3.out _)) | (go_at_call 83; with_reducible exact Calls.later _ (HAY.out _)) | (go_at_call 84; with_reducible exact Calls.later _ (HL4.out _)))) | quiet_step ((first | (go_at_call 83; with_reducible exact Calls.later _ (HBX.out _)) | (go_at_call 84; with_reducible exact Calls.later _ (HL1.out _)) | (go_at_call 83; with_reducible exact Calls.later _ (HAX.out _)) | (go_at_call 84; with_reducible exact Calls.later _ (HL2.out _)) | (go_at_call 83; with_reducible exact Calls.later _ (HBY.out _)) | (go_at_call 84; with_reducible exact Calls.later _ (HL3.out _)) | (go_at_call 83; with_reducible exact Calls.later _ (HAY.out _)) | (go_at_call 84; with_reducible exact Calls.later _ (HL4.out _)))))); refine wpQuiet_nil ?_; rintro _ ⟨s, rfl⟩
    have HBS := Lib.hid (below_more HB.out s.below)
    go_wp2_with fail
    go_ret
    exact ⟨rfl, HBS.out⟩
  go_enter Tryz.func48, Tryz.ntmps48
  go_wp2_with fail
  rw [← hW2, ← hW]
  clear hW2 hW
  refine wp_region_later (by kernel_rfl) (by kernel_rfl) ?_; (repeat (first | go_big_quiet_step ((first | (go_at_call 83; with_reducible exact Calls.later _ (HBX.out _)) | (go_at_call 84; with_reducible exact Calls.later _ (HL1.out _)) | (go_at_call 83; with_reducible exact Calls.later _ (HAX.out _)) | (go_at_call 84; with_reducible exact Calls.later _ (HL2.out _)) | (go_at_call 83; with_reducible exact Calls.later _ (HBY.out _)) | (go_at_call 84; with_reducible exact Calls.later _ (HL3.out _)) | (go_at_call 83; with_reducible exact Calls.later _ (HAY.out _)) | (go_at_call 84; with_reducible exact Calls.later _ (HL4.out _)))) | quiet_step ((first | (go_at_call 83; with_reducible exact Calls.later _ (HBX.out _)) | (go_at_call 84; with_reducible exact Calls.later _ (HL1.out _)) | (go_at_call 83; with_reducible exact Calls.later _ (HAX.out _)) | (go_at_call 84; with_reducible exact Calls.later _ (HL2.out _)) | (go_at_call 83; with_reducible exact Calls.later _ (HBY.out _)) | (go_at_call 84; with_reducible exact Calls.later _ (HL3.out _)) | (go_at_call 83; with_reducible exact Calls.later _ (HAY.out _)) | (go_at_call 84; with_reducible exact Calls.later _ (HL4.out _)))))); refine wpQuiet_nil ?_; rintro _ ⟨s, rfl⟩
  have HBS := Lib.hid (below_more HB.out s.below)
  go_wp2_with fail
  go_ret
  exact ⟨rfl, HBS.out⟩

end Go.Proofs.YthnplpbfdiajaaaGreat

/- The pairs of boxes that cross (Crossing), by the specification. -/
namespace Go.Proofs.YthnplpbfdiajaaaGreat
open Go.RowKit

set_option maxRecDepth 100000 in
set_option maxHeartbeats 64000000 in
theorem rcrs_any (A : Option Addr) (cap : Nat) (bs : List Bx) (w : World) (hb : BxsAt w A bs) (hc1 : bs.length ≤ cap) (hc : cap ≤ maxLen) :
    Calls Tryz.prog 42 #[.slice A bs.length cap] w (GotPairsE w (crossR bs)) := by
  obtain ⟨R, hR⟩ : ∃ R, R = crossR bs := ⟨_, rfl⟩
  have HR := Lib.hid (show R = if chkB bs ≠ 0 then ([], chkB bs) else (crossK bs bs.length, 0) from hR)
  have HCK := Lib.hid (rallp_any A cap bs w hb hc1 hc)
  obtain ⟨C, hC⟩ : ∃ C, C = chkB bs := ⟨_, rfl⟩
  have HCC := Lib.hid hC
  rw [← hC] at HR HCK
  have HBS := Lib.hid hb
  obtain ⟨N, hN⟩ : ∃ N, N = bs.length := ⟨_, rfl⟩
  have HN := Lib.hid hN
  rw [← hR]
  rw [← hN] at HCK HR hc1 ⊢
  unfold maxLen at hc
  obtain ⟨iv, hiv, hzv, hsv, hbv⟩ := info_hid infoPr
  clear hb hC hN hR
  go_enter Tryz.func42, Tryz.ntmps42
  go_wp2_with fail
  refine (HCK.out).mono ?_; rintro e v1 ⟨rfl, hb1⟩
  have HB := Lib.hid hb1
  clear hb1 HCK
  by_cases hC0 : C = 0
  case neg =>
    have hbE : (C != 0) = true := by simpa using hC0
    have HF := Lib.hid (show R = ([], C) by rw [HR.out, if_pos hC0])
    clear hC0 HR
    go_wp2_with fail
    go_ret2
    rw [HF.out]
    exact ⟨none, 0, rfl, Lib.hid (World.ownsRow_nil _ _ _ _), HB.out⟩
  have HZ := Lib.hid (chk_zero (show chkB bs = 0 by rw [← HCC.out]; exact hC0))
  have HF := Lib.hid (show R = (crossK bs N, 0) by rw [HR.out, if_neg (by simp [hC0])])
  have hbE : (C != 0) = false := by simpa using hC0
  have hN200 : N ≤ 200 := by have := HZ.out.1; have := HN.out; omega
  clear hC0 HR HCC
  go_wp2_with fail
  obtain ⟨V, hV⟩ : ∃ V, V = v1 := ⟨_, rfl⟩
  have HB3 := Lib.hid (show Below w.heap.size w V from hV ▸ HB.out)
  rw [← hV]
  clear hV hbE HB
  go_loopw [5, 6] (fun v i wr => ∃ (k m : Nat), k ≤ N ∧ i = .int .i64 k ∧ m ≤ k * 200 ∧ Hid (m = (crossK bs k).length) ∧ Hid (wr.ownsRow V.heap.size 78 2 v m ((crossK bs k).flatMap prV)) ∧ Hid (Below V.heap.size V wr)) (fun _ i _ => N - (intOf i).toNat)
  case atStart => exact ⟨0, 0, Nat.zero_le _, rfl, Nat.zero_le _, Lib.hid rfl, Lib.hid (by simpa [crossK] using World.ownsRow_nil _ _ _ _), Lib.hid (Below.refl _ _)⟩
  case round =>
    obtain ⟨k, m', hk, rfl, hmk, hml, hown, hbw⟩ := hrel
    have HOW := Lib.hid hown.out
    have HML := Lib.hid hml.out
    have HBR := Lib.hid hbw.out
    have HBB := Lib.hid (below_more HB3.out hbw.out)
    clear hown hbw hml
    by_cases hlt : k < N
    · obtain ⟨x, hx⟩ : ∃ x, bs[k]? = some x := ⟨_, List.getElem?_eq_getElem (by have := HN.out; omega)⟩
      obtain ⟨b, o, hA, hbl, vb0⟩ := HBS.out k x hx
      subst hA
      have HVX := Lib.hid vb0
      have HOX := Lib.hid (HZ.out.2 x (List.mem_of_getElem? hx))
      have HXK := Lib.hid hx
      have hki : (0 : Int) ≤ (k : Int) := by omega
      have hkl : (k : Int) < (N : Int) := by omega
      clear hx vb0
      go_wp2_with fail
      obtain ⟨wo, rfl⟩ : ∃ wo : World, wo = wr := ⟨_, rfl⟩
      go_loopw [5, 7] (fun v i wr => ∃ (j m : Nat), k + 1 ≤ j ∧ j ≤ N ∧ i = .int .i64 j ∧ m ≤ k * 200 + j ∧ Hid (m = (crossK bs k ++ rowK bs k j).length) ∧ Hid (wr.ownsRow V.heap.size 78 2 v m ((crossK bs k ++ rowK bs k j).flatMap prV)) ∧ Hid (Below V.heap.size V wr)) (fun _ i _ => N - (intOf i).toNat)
      case atStart => exact ⟨k + 1, m', Nat.le_refl _, by omega, by go_num, by omega, Lib.hid (by rw [rowK_start, List.append_nil]; exact HML.out), Lib.hid (by rw [rowK_start, List.append_nil]; exact HOW.out), HBR⟩
      case round =>
        obtain ⟨j, n', hkj, hj, rfl, hnk, hnl, hown, hbw⟩ := hrel
        have HOV := Lib.hid hown.out
        have HNL := Lib.hid hnl.out
        have HBQ := Lib.hid hbw.out
        have HBB := Lib.hid (below_more HB3.out hbw.out)
        clear hown hnl hbw
        by_cases hlj : j < N
        · obtain ⟨y, hy⟩ : ∃ y, bs[j]? = some y := ⟨_, List.getElem?_eq_getElem (by have := HN.out; omega)⟩
          obtain ⟨b', o', hA', hbl', vb1⟩ := HBS.out j y hy
          simp at hA'
          obtain ⟨rfl, rfl⟩ := hA'
          have va := HVX.out.below HBB.out hbl
          have vb := vb1.below HBB.out hbl'
          have hoy := HZ.out.2 y (List.mem_of_getElem? hy)
          have HP := Lib.hid (fun wx => rcross_any x y wx HOX.out hoy)
          obtain ⟨Q, hQ⟩ : ∃ Q, Q = (crossB false x y && crossB true x y) := ⟨_, rfl⟩
          have HPB := Lib.hid (show crossI bs k j = Q by rw [crossI_at HXK.out hy, hQ]; rfl)
          rw [← hQ] at HP
          have HY := Lib.hid (fun (h : Q = true) => rowK_yes (bs := bs) (k := k) (j := j) (by omega) (by rw [HPB.out]; exact h))
          have HNO := Lib.hid (fun (h : Q = false) => rowK_no (bs := bs) (k := k) (j := j) (by rw [HPB.out]; exact h))
          have z0 := vb.c0
          have z1 := vb.c1
          have z2 := vb.c2
          have z3 := vb.c3
          have z4 := vb.c4
          have z5 := vb.c5
          have z6 := vb.c6
          have z7 := vb.c7
          have z8 := vb.c8
          have z9 := vb.c9
          have z10 := vb.c10
          have z11 := vb.c11
          have z12 := vb.c12
          have z13 := vb.c13
          have z14 := vb.c14
          have y0 := va.c0
          have y1 := va.c1
          have y2 := va.c2
          have y3 := va.c3
          have y4 := va.c4
          have y5 := va.c5
          have y6 := va.c6
          have y7 := va.c7
          have y8 := va.c8
          have y9 := va.c9
          have y10 := va.c10
          have y11 := va.c11
          have y12 := va.c12
          have y13 := va.c13
          have y14 := va.c14
          have hbr : b < wr.heap.size := by have := HBB.out.size; omega
          have hji : (0 : Int) ≤ (j : Int) := by omega
          have hjl : (j : Int) < (N : Int) := by omega
          clear hQ hy va vb vb1 HPB hoy
          unfold Bx.val at HP
          go_wp2_with fail
          refine wp_region_later (by kernel_rfl) (by kernel_rfl) ?_; (repeat (first | go_big_quiet_step ((go_at_call 48; with_reducible exact Calls.later _ (HP.out _))) | quiet_step ((go_at_call 48; with_reducible exact Calls.later _ (HP.out _))))); refine wpQuiet_nil ?_; rintro _ ⟨s, rfl⟩
          have HB5 := Lib.hid s.below
          generalize s.w = w6 at HB5 ⊢
          clear z0 z1 z2 z3 z4 z5 z6 z7 z8 z9 z10 z11 z12 z13 z14 y0 y1 y2 y3 y4 y5 y6 y7 y8 y9 y10 y11 y12 y13 y14 hbr
          have HB9 := Lib.hid (HBQ.out.trans (HB5.out.mono HBQ.out.size))
          have HO9 := Lib.hid (ownsRow_of_block HOV.out (fun g hg => HB5.out.block g (HOV.out.lt g hg).2))
          cases Q
          · go_wp2_with fail
            go_roundw
            case rel => exact ⟨j + 1, n', by omega, by omega, by go_num, by omega, Lib.hid (by rw [HNO.out (by trivial)]; exact HNL.out), Lib.hid (by rw [HNO.out (by trivial)]; exact HO9.out), HB9⟩
            case measure => simp [intOf]; omega
          · obtain ⟨Aw, cw, hv8, -, -, -, -⟩ := own_slice HO9.out
            subst hv8
            have HSS := Lib.hid (show V.heap.size ≤ w6.heap.size from HB9.out.size)
            have HSA := Lib.hid (show ∀ (o : Obj), V.heap.size ≤ (w6.alloc o).heap.size from fun o => by rw [World.size_alloc]; have := HSS.out; omega)
            have HNR := Lib.hid (new_row w6 [.int .i64 k, .int .i64 j] 78)
            have HN1 := Lib.hid (show ∀ u ∈ ([.int .i64 k, .int .i64 j] : List Value), u.oneCell' = true from fun u hu => by simp at hu; rcases hu with rfl | rfl <;> rfl)
            go_wp2_with (first
              | (at_builtin; refine wpList_append_src _ rfl (.tmp 36) (.tmp 40) 74 rfl V.heap.size 78 iv (.agg #[.int .i64 0, .int .i64 0]) 2 16 Tryz.underlying74 hiv.out hzv.out hsv.out hbv.out rfl (by decide) (.slice Aw n' cw) n' ((crossK bs k ++ rowK bs k j).flatMap prV) rfl (HO9.out.alloc _) (some ⟨w6.heap.size, 0, none⟩) 1 1 [.int .i64 k, .int .i64 j] rfl rfl (fun h => by cases h) HNR.out HN1.out (by unfold maxLen; omega) (by omega) (HSA.out _) (n' + 1) rfl ?_))
            intro A9 c9 w9 own9 hg9 _
            have HB10 := Lib.hid ((HB9.out.alloc HSS.out _).grown hg9 (by rw [World.size_alloc]; have := HSS.out; omega) (fun g hg => (HO9.out.lt g hg).1))
            have HO10 := Lib.hid (show w9.ownsRow V.heap.size 78 2 (.slice A9 (n' + 1) c9) (n' + 1) ((crossK bs k ++ rowK bs k (j + 1)).flatMap prV) by rw [HY.out (by trivial), ← List.append_assoc, List.flatMap_append]; first | exact own9 | (rw [List.flatMap_append, List.append_assoc]; exact own9))
            clear own9 hg9 HNR HN1 HSA HSS
            go_wp2_with fail
            go_roundw
            case rel => exact ⟨j + 1, n' + 1, by omega, by omega, by go_num, by omega, Lib.hid (by rw [HY.out (by trivial), ← List.append_assoc, List.length_append, ← HNL.out]; rfl), HO10, HB10⟩
            case measure => simp [intOf]; omega
        · obtain rfl : j = N := by omega
          go_wp2_with fail
          go_roundw
          case rel => exact ⟨k + 1, n', by omega, by go_num, by omega, Lib.hid (by rw [crossK_succ, ← HN.out]; exact HNL.out), Lib.hid (by rw [crossK_succ, ← HN.out]; exact HOV.out), HBQ⟩
          case measure => simp [intOf]; omega
    · obtain rfl : k = N := by omega
      obtain ⟨Av, cv, hv7, -, -, -, -⟩ := own_slice HOW.out
      subst hv7
      have HOF := Lib.hid (own_base HOW.out HB3.out.size)
      go_wp2_with fail
      go_ret2
      rw [HF.out]
      exact ⟨Av, cv, by rw [← HML.out]; rfl, Lib.hid (by rw [← HML.out]; exact HOF.out), HBB.out⟩

end Go.Proofs.YthnplpbfdiajaaaGreat
