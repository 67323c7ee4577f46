/-
  The pairs of boxes that cross (Crossing), by the program.
-/
import Derived.Test.YthnplpbfdiajaaaGreatOvlD
import Derived.Test.YthnplpbfdiajaaaGreatGaP
namespace Go.Proofs.YthnplpbfdiajaaaGreat
open Go.RowKit

set_option maxRecDepth 100000 in
set_option maxHeartbeats 64000000 in
theorem crs_any (A : Option Addr) (cap : Nat) (bs : List Bx) (w : World) (hb : BxsAt w A bs) (hc1 : bs.length ≤ cap) (hc : cap ≤ maxLen) :
    Calls Tryz.prog 41 #[.slice A bs.length cap] w (GotPairsE w (crossR bs)) := by
  obtain ⟨R, hR⟩ : ∃ R, R = crossR bs := ⟨_, rfl⟩
  have HR := Lib.hid (show R = if chkB bs ≠ 0 then ([], chkB bs) else (crossK bs bs.length, 0) from hR)
  have HCK := Lib.hid (checkb_any A cap bs w hb hc1 hc)
  obtain ⟨C, hC⟩ : ∃ C, C = chkB bs := ⟨_, rfl⟩
  have HCC := Lib.hid hC
  rw [← hC] at HR HCK
  have HBS := Lib.hid hb
  obtain ⟨N, hN⟩ : ∃ N, N = bs.length := ⟨_, rfl⟩
  have HN := Lib.hid hN
  rw [← hR]
  rw [← hN] at HCK HR hc1 ⊢
  unfold maxLen at hc
  obtain ⟨iv, hiv, hzv, hsv, hbv⟩ := info_hid infoPr
  clear hb hC hN hR
  go_enter Tryz.func41, Tryz.ntmps41
  go_wp2_with fail
  refine (HCK.out).mono ?_; rintro e v1 ⟨rfl, hb1⟩
  have HB := Lib.hid hb1
  clear hb1 HCK
  by_cases hC0 : C = 0
  case neg =>
    have hbE : (C != 0) = true := by simpa using hC0
    have HF := Lib.hid (show R = ([], C) by rw [HR.out, if_pos hC0])
    clear hC0 HR
    go_wp2_with fail
    go_ret2
    rw [HF.out]
    exact ⟨none, 0, rfl, Lib.hid (World.ownsRow_nil _ _ _ _), HB.out⟩
  have HZ := Lib.hid (chk_zero (show chkB bs = 0 by rw [← HCC.out]; exact hC0))
  have HF := Lib.hid (show R = (crossK bs N, 0) by rw [HR.out, if_neg (by simp [hC0])])
  have hbE : (C != 0) = false := by simpa using hC0
  have hN200 : N ≤ 200 := by have := HZ.out.1; have := HN.out; omega
  clear hC0 HR HCC
  go_wp2_with fail
  refine (sideways_any _).mono ?_; rintro e v4 ⟨p, rfl, hp, hpb, hb1⟩
  have HB := Lib.hid (below_more HB.out hb1)
  clear hp hpb hb1 hbE
  go_wp2_with fail
  refine (downwards_any _).mono ?_; rintro e v5 ⟨q, rfl, hq, hqb, hb2⟩
  have HB := Lib.hid (below_more HB.out hb2)
  clear hq hqb hb2
  go_upto_region 6 with fail
  obtain ⟨V, hV⟩ : ∃ V, V = (v5.alloc (.cells #[.func (.func 131) #[] #[], .func (.func 132) #[] #[], .func (.func 172) #[] #[.pointer (some ⟨p, 0, none⟩)]] 100)).alloc (.cells #[.func (.func 135) #[] #[], .func (.func 136) #[] #[], .func (.func 172) #[] #[.pointer (some ⟨q, 0, none⟩)]] 100) := ⟨_, rfl⟩
  have HBV := Lib.hid (show Below v5.heap.size v5 V from hV ▸ two_under _ _ _)
  have D0 := Lib.hid (show V.heap[v5.heap.size]? = some (.cells #[.func (.func 131) #[] #[], .func (.func 132) #[] #[], .func (.func 172) #[] #[.pointer (some ⟨p, 0, none⟩)]] 100 (0, 0)) by rw [hV, heap_alloc_other _ _ _ (by simp)]; exact heap_alloc_new _ _)
  have D1 := Lib.hid (show V.heap[v5.heap.size + 1]? = some (.cells #[.func (.func 135) #[] #[], .func (.func 136) #[] #[], .func (.func 172) #[] #[.pointer (some ⟨q, 0, none⟩)]] 100 (0, 0)) by rw [hV]; have := heap_alloc_new (v5.alloc (.cells #[.func (.func 131) #[] #[], .func (.func 132) #[] #[], .func (.func 172) #[] #[.pointer (some ⟨p, 0, none⟩)]] 100)) (.cells #[.func (.func 135) #[] #[], .func (.func 136) #[] #[], .func (.func 172) #[] #[.pointer (some ⟨q, 0, none⟩)]] 100); simpa using this)
  have HB3 := Lib.hid (below_more HB.out HBV.out)
  rw [← hV]
  clear hV
  go_wp2_with fail
  go_loopw [5, 21] (fun v i wr => ∃ (k m : Nat), k ≤ N ∧ i = .int .i64 k ∧ m ≤ k * 200 ∧ Hid (m = (crossK bs k).length) ∧ Hid (wr.ownsRow V.heap.size 78 2 v m ((crossK bs k).flatMap prV)) ∧ Hid (Below V.heap.size V wr)) (fun _ i _ => N - (intOf i).toNat)
  case atStart => exact ⟨0, 0, Nat.zero_le _, rfl, Nat.zero_le _, Lib.hid rfl, Lib.hid (by simpa [crossK] using World.ownsRow_nil _ _ _ _), Lib.hid (Below.refl _ _)⟩
  case round =>
    obtain ⟨k, m', hk, rfl, hmk, hml, hown, hbw⟩ := hrel
    have HOW := Lib.hid hown.out
    have HML := Lib.hid hml.out
    have HBR := Lib.hid hbw.out
    have HBB := Lib.hid (below_more HB3.out hbw.out)
    clear hown hbw hml
    by_cases hlt : k < N
    · obtain ⟨x, hx⟩ : ∃ x, bs[k]? = some x := ⟨_, List.getElem?_eq_getElem (by have := HN.out; omega)⟩
      obtain ⟨b, o, hA, hbl, vb0⟩ := HBS.out k x hx
      subst hA
      have vb := vb0.below HBB.out hbl
      have HOX := Lib.hid (HZ.out.2 x (List.mem_of_getElem? hx))
      have HXK := Lib.hid hx
      have z0 := vb.c0
      have z1 := vb.c1
      have z2 := vb.c2
      have z3 := vb.c3
      have z4 := vb.c4
      have z5 := vb.c5
      have z6 := vb.c6
      have z7 := vb.c7
      have z8 := vb.c8
      have z9 := vb.c9
      have z10 := vb.c10
      have z11 := vb.c11
      have z12 := vb.c12
      have z13 := vb.c13
      have z14 := vb.c14
      have hbr : b < wr.heap.size := by have := HBB.out.size; omega
      have hki : (0 : Int) ≤ (k : Int) := by omega
      have hkl : (k : Int) < (N : Int) := by omega
      clear hx vb vb0
      obtain ⟨Av, cv, hv7, -, -, -, -⟩ := own_slice HOW.out
      subst hv7
      go_upto_region 9 with fail
      obtain ⟨Y, hY⟩ : ∃ Y, Y = wr.alloc (.cells #[.int .i64 x.kind, .int .i64 x.sign, .int .i64 x.turn, .bool x.mirror, .int .i64 x.state, .int .i64 x.min, .int .i64 x.max, .int .i64 x.x.num, .int .i64 x.x.den, .int .i64 x.y.num, .int .i64 x.y.den, .int .i64 x.w.num, .int .i64 x.w.den, .int .i64 x.h.num, .int .i64 x.h.den] 82) := ⟨_, rfl⟩
      have HBY := Lib.hid (show Below wr.heap.size wr Y from hY ▸ below_alloc _ _)
      have B9 := Lib.hid (show Y.heap[wr.heap.size]? = some (.cells #[.int .i64 x.kind, .int .i64 x.sign, .int .i64 x.turn, .bool x.mirror, .int .i64 x.state, .int .i64 x.min, .int .i64 x.max, .int .i64 x.x.num, .int .i64 x.x.den, .int .i64 x.y.num, .int .i64 x.y.den, .int .i64 x.w.num, .int .i64 x.w.den, .int .i64 x.h.num, .int .i64 x.h.den] 82 (0, 0)) from hY ▸ heap_alloc_new _ _)
      have HOY := Lib.hid (show Y.ownsRow V.heap.size 78 2 (.slice Av m' cv) m' ((crossK bs k).flatMap prV) from hY ▸ HOW.out.alloc _)
      have HNE := Lib.hid (show (Value.slice Av m' cv).ownBlock ≠ some wr.heap.size from fun h => by have := (HOW.out.lt _ h).2; omega)
      have HVY := Lib.hid (HBR.out.trans (HBY.out.mono HBR.out.size))
      rw [← hY]
      obtain ⟨X, hX⟩ : ∃ X, X = wr.heap.size := ⟨_, rfl⟩
      rw [← hX] at B9 HNE ⊢
      clear hY hX z0 z1 z2 z3 z4 z5 z6 z7 z8 z9 z10 z11 z12 z13 z14 hbr HOW HBY HBR HBB
      go_wp2_with fail
      clear wr
      go_loopw [5, 10] (fun v i wr => ∃ (j m : Nat), k + 1 ≤ j ∧ j ≤ N ∧ i = .int .i64 j ∧ m ≤ k * 200 + j ∧ Hid (m = (crossK bs k ++ rowK bs k j).length) ∧ Hid (wr.ownsRow V.heap.size 78 2 v m ((crossK bs k ++ rowK bs k j).flatMap prV)) ∧ Hid (v.ownBlock ≠ some X) ∧ Hid (wr.heap[X]? = some (.cells #[.int .i64 x.kind, .int .i64 x.sign, .int .i64 x.turn, .bool x.mirror, .int .i64 x.state, .int .i64 x.min, .int .i64 x.max, .int .i64 x.x.num, .int .i64 x.x.den, .int .i64 x.y.num, .int .i64 x.y.den, .int .i64 x.w.num, .int .i64 x.w.den, .int .i64 x.h.num, .int .i64 x.h.den] 82 (0, 0))) ∧ Hid (Below V.heap.size V wr)) (fun _ i _ => N - (intOf i).toNat)
      case atStart => exact ⟨k + 1, m', Nat.le_refl _, by omega, by go_num, by omega, Lib.hid (by rw [rowK_start, List.append_nil]; exact HML.out), Lib.hid (by rw [rowK_start, List.append_nil]; exact HOY.out), HNE, B9, HVY⟩
      case round =>
        obtain ⟨j, n', hkj, hj, rfl, hnk, hnl, hown, hne, hxb, hbw⟩ := hrel
        have HOW := Lib.hid hown.out
        have HNL := Lib.hid hnl.out
        have HNX := Lib.hid hne.out
        have HXB := Lib.hid hxb.out
        have HBR := Lib.hid hbw.out
        have HBB := Lib.hid (below_more HB3.out hbw.out)
        clear hown hnl hne hxb hbw HNE B9 HVY HOY
        by_cases hlj : j < N
        · obtain ⟨y, hy⟩ : ∃ y, bs[j]? = some y := ⟨_, List.getElem?_eq_getElem (by have := HN.out; omega)⟩
          obtain ⟨b', o', hA', hbl', vb0⟩ := HBS.out j y hy
          simp at hA'
          obtain ⟨rfl, rfl⟩ := hA'
          have vb := vb0.below HBB.out hbl'
          have o1 := both_valid HOX.out false
          have o2 := both_valid HOX.out true
          have hoy := HZ.out.2 y (List.mem_of_getElem? hy)
          have p1 := both_valid hoy false
          have p2 := both_valid hoy true
          have HP1 := Lib.hid (fun wx => ovlS_any p x y wx o1.1 o1.2.1 o1.2.2 p1.1 p1.2.1 p1.2.2)
          have HP2 := Lib.hid (fun wx => ovlD_any q x y wx o2.1 o2.2.1 o2.2.2 p2.1 p2.2.1 p2.2.2)
          obtain ⟨Q1, hQ1⟩ : ∃ Q, Q = crossB false x y := ⟨_, rfl⟩
          obtain ⟨Q2, hQ2⟩ : ∃ Q, Q = crossB true x y := ⟨_, rfl⟩
          have HPB := Lib.hid (show crossI bs k j = (Q1 && Q2) by rw [crossI_at HXK.out hy, hQ1, hQ2]; rfl)
          rw [← hQ1] at HP1
          rw [← hQ2] at HP2
          have HY := Lib.hid (fun (h : (Q1 && Q2) = true) => rowK_yes (bs := bs) (k := k) (j := j) (by omega) (by rw [HPB.out]; exact h))
          have HNO := Lib.hid (fun (h : (Q1 && Q2) = false) => rowK_no (bs := bs) (k := k) (j := j) (by rw [HPB.out]; exact h))
          have z0 := vb.c0
          have z1 := vb.c1
          have z2 := vb.c2
          have z3 := vb.c3
          have z4 := vb.c4
          have z5 := vb.c5
          have z6 := vb.c6
          have z7 := vb.c7
          have z8 := vb.c8
          have z9 := vb.c9
          have z10 := vb.c10
          have z11 := vb.c11
          have z12 := vb.c12
          have z13 := vb.c13
          have z14 := vb.c14
          have hbr : b < wr.heap.size := by have := HBB.out.size; omega
          have hji : (0 : Int) ≤ (j : Int) := by omega
          have hjl : (j : Int) < (N : Int) := by omega
          clear hQ1 hQ2 hy vb vb0 HPB o1 o2 p1 p2 hoy
          unfold Bx.val at HP1 HP2
          go_upto_region 13 with fail
          obtain ⟨Y2, hY⟩ : ∃ Y2, Y2 = wr.alloc (.cells #[.int .i64 y.kind, .int .i64 y.sign, .int .i64 y.turn, .bool y.mirror, .int .i64 y.state, .int .i64 y.min, .int .i64 y.max, .int .i64 y.x.num, .int .i64 y.x.den, .int .i64 y.y.num, .int .i64 y.y.den, .int .i64 y.w.num, .int .i64 y.w.den, .int .i64 y.h.num, .int .i64 y.h.den] 82) := ⟨_, rfl⟩
          have HBY := Lib.hid (show Below wr.heap.size wr Y2 from hY ▸ below_alloc _ _)
          have B6 := Lib.hid (show Y2.heap[wr.heap.size]? = some (.cells #[.int .i64 y.kind, .int .i64 y.sign, .int .i64 y.turn, .bool y.mirror, .int .i64 y.state, .int .i64 y.min, .int .i64 y.max, .int .i64 y.x.num, .int .i64 y.x.den, .int .i64 y.y.num, .int .i64 y.y.den, .int .i64 y.w.num, .int .i64 y.w.den, .int .i64 y.h.num, .int .i64 y.h.den] 82 (0, 0)) from hY ▸ heap_alloc_new _ _)
          have E9 := Lib.hid (blk_keep HBY.out HXB.out)
          have E0 := Lib.hid (blk_keep HBY.out (blk_keep HBR.out D0.out))
          have E1 := Lib.hid (blk_keep HBY.out (blk_keep HBR.out D1.out))
          rw [← hY]
          clear hY z0 z1 z2 z3 z4 z5 z6 z7 z8 z9 z10 z11 z12 z13 z14 hbr
          have c0 := cell_of_blk E0.out 0
          have c1 := cell_of_blk E0.out 1
          have c2 := cell_of_blk E0.out 2
          have b0 := cell_of_blk E9.out 0
          have b1 := cell_of_blk E9.out 1
          have b2 := cell_of_blk E9.out 2
          have b3 := cell_of_blk E9.out 3
          have b4 := cell_of_blk E9.out 4
          have b5 := cell_of_blk E9.out 5
          have b6 := cell_of_blk E9.out 6
          have b7 := cell_of_blk E9.out 7
          have b8 := cell_of_blk E9.out 8
          have b9 := cell_of_blk E9.out 9
          have b10 := cell_of_blk E9.out 10
          have b11 := cell_of_blk E9.out 11
          have b12 := cell_of_blk E9.out 12
          have b13 := cell_of_blk E9.out 13
          have b14 := cell_of_blk E9.out 14
          have a0 := cell_of_blk B6.out 0
          have a1 := cell_of_blk B6.out 1
          have a2 := cell_of_blk B6.out 2
          have a3 := cell_of_blk B6.out 3
          have a4 := cell_of_blk B6.out 4
          have a5 := cell_of_blk B6.out 5
          have a6 := cell_of_blk B6.out 6
          have a7 := cell_of_blk B6.out 7
          have a8 := cell_of_blk B6.out 8
          have a9 := cell_of_blk B6.out 9
          have a10 := cell_of_blk B6.out 10
          have a11 := cell_of_blk B6.out 11
          have a12 := cell_of_blk B6.out 12
          have a13 := cell_of_blk B6.out 13
          have a14 := cell_of_blk B6.out 14
          have hz0 := (Array.getElem?_eq_some_iff.1 E0.out).1
          have hz6 := (Array.getElem?_eq_some_iff.1 B6.out).1
          have hz9 := (Array.getElem?_eq_some_iff.1 E9.out).1
          simp at c0 c1 c2 b0 b1 b2 b3 b4 b5 b6 b7 b8 b9 b10 b11 b12 b13 b14 a0 a1 a2 a3 a4 a5 a6 a7 a8 a9 a10 a11 a12 a13 a14
          go_wp2_with fail
          refine (HP1.out _).mono ?_; rintro e w5 ⟨rfl, hb5⟩
          have HB5 := Lib.hid (below_more HBY.out hb5)
          have E1 := Lib.hid (blk_keep hb5 E1.out)
          have E9 := Lib.hid (blk_keep hb5 E9.out)
          have B6 := Lib.hid (blk_keep hb5 B6.out)
          clear hb5 c0 c1 c2 b0 b1 b2 b3 b4 b5 b6 b7 b8 b9 b10 b11 b12 b13 b14 a0 a1 a2 a3 a4 a5 a6 a7 a8 a9 a10 a11 a12 a13 a14 hz0 hz6 hz9
          cases Q1
          · have HB9 := Lib.hid (HBR.out.trans (HB5.out.mono HBR.out.size))
            have HO9 := Lib.hid (ownsRow_of_block HOW.out (fun g hg => HB5.out.block g (HOW.out.lt g hg).2))
            go_wp2_with fail
            go_roundw
            case rel => exact ⟨j + 1, n', by omega, by omega, by go_num, by omega, Lib.hid (by rw [HNO.out (by trivial)]; exact HNL.out), Lib.hid (by rw [HNO.out (by trivial)]; exact HO9.out), HNX, E9, HB9⟩
            case measure => simp [intOf]; omega
          have c0 := cell_of_blk E1.out 0
          have c1 := cell_of_blk E1.out 1
          have c2 := cell_of_blk E1.out 2
          have b0 := cell_of_blk E9.out 0
          have b1 := cell_of_blk E9.out 1
          have b2 := cell_of_blk E9.out 2
          have b3 := cell_of_blk E9.out 3
          have b4 := cell_of_blk E9.out 4
          have b5 := cell_of_blk E9.out 5
          have b6 := cell_of_blk E9.out 6
          have b7 := cell_of_blk E9.out 7
          have b8 := cell_of_blk E9.out 8
          have b9 := cell_of_blk E9.out 9
          have b10 := cell_of_blk E9.out 10
          have b11 := cell_of_blk E9.out 11
          have b12 := cell_of_blk E9.out 12
          have b13 := cell_of_blk E9.out 13
          have b14 := cell_of_blk E9.out 14
          have a0 := cell_of_blk B6.out 0
          have a1 := cell_of_blk B6.out 1
          have a2 := cell_of_blk B6.out 2
          have a3 := cell_of_blk B6.out 3
          have a4 := cell_of_blk B6.out 4
          have a5 := cell_of_blk B6.out 5
          have a6 := cell_of_blk B6.out 6
          have a7 := cell_of_blk B6.out 7
          have a8 := cell_of_blk B6.out 8
          have a9 := cell_of_blk B6.out 9
          have a10 := cell_of_blk B6.out 10
          have a11 := cell_of_blk B6.out 11
          have a12 := cell_of_blk B6.out 12
          have a13 := cell_of_blk B6.out 13
          have a14 := cell_of_blk B6.out 14
          have hz0 := (Array.getElem?_eq_some_iff.1 E1.out).1
          have hz6 := (Array.getElem?_eq_some_iff.1 B6.out).1
          have hz9 := (Array.getElem?_eq_some_iff.1 E9.out).1
          simp at c0 c1 c2 b0 b1 b2 b3 b4 b5 b6 b7 b8 b9 b10 b11 b12 b13 b14 a0 a1 a2 a3 a4 a5 a6 a7 a8 a9 a10 a11 a12 a13 a14
          go_wp2_with fail
          refine (HP2.out _).mono ?_; rintro e w6 ⟨rfl, hb6⟩
          have HB6 := Lib.hid (below_more HB5.out hb6)
          have HB9 := Lib.hid (HBR.out.trans (HB6.out.mono HBR.out.size))
          have HO9 := Lib.hid (ownsRow_of_block HOW.out (fun g hg => HB6.out.block g (HOW.out.lt g hg).2))
          have E9 := Lib.hid (blk_keep hb6 E9.out)
          clear hb6 c0 c1 c2 b0 b1 b2 b3 b4 b5 b6 b7 b8 b9 b10 b11 b12 b13 b14 a0 a1 a2 a3 a4 a5 a6 a7 a8 a9 a10 a11 a12 a13 a14 hz0 hz6 hz9
          cases Q2
          · go_wp2_with fail
            go_roundw
            case rel => exact ⟨j + 1, n', by omega, by omega, by go_num, by omega, Lib.hid (by rw [HNO.out (by trivial)]; exact HNL.out), Lib.hid (by rw [HNO.out (by trivial)]; exact HO9.out), HNX, E9, HB9⟩
            case measure => simp [intOf]; omega
          · obtain ⟨Aw, cw, hv8, -, -, -, -⟩ := own_slice HO9.out
            subst hv8
            have HSS := Lib.hid (show V.heap.size ≤ w6.heap.size from HB9.out.size)
            have HSA := Lib.hid (show ∀ (o : Obj), V.heap.size ≤ (w6.alloc o).heap.size from fun o => by rw [World.size_alloc]; have := HSS.out; omega)
            have HNR := Lib.hid (new_row w6 [.int .i64 k, .int .i64 j] 78)
            have HN1 := Lib.hid (show ∀ u ∈ ([.int .i64 k, .int .i64 j] : List Value), u.oneCell' = true from fun u hu => by simp at hu; rcases hu with rfl | rfl <;> rfl)
            go_wp2_with (first
              | (at_builtin; refine wpList_append_src _ rfl (.tmp 48) (.tmp 52) 74 rfl V.heap.size 78 iv (.agg #[.int .i64 0, .int .i64 0]) 2 16 Tryz.underlying74 hiv.out hzv.out hsv.out hbv.out rfl (by decide) (.slice Aw n' cw) n' ((crossK bs k ++ rowK bs k j).flatMap prV) rfl (HO9.out.alloc _) (some ⟨w6.heap.size, 0, none⟩) 1 1 [.int .i64 k, .int .i64 j] rfl rfl (fun h => by cases h) HNR.out HN1.out (by unfold maxLen; omega) (by omega) (HSA.out _) (n' + 1) rfl ?_))
            intro A9 c9 w9 own9 hg9 hob9
            have hx6 : X < w6.heap.size := (Array.getElem?_eq_some_iff.1 E9.out).1
            have HB10 := Lib.hid ((HB9.out.alloc HSS.out _).grown hg9 (by rw [World.size_alloc]; have := HSS.out; omega) (fun g hg => (HO9.out.lt g hg).1))
            have HO10 := Lib.hid (show w9.ownsRow V.heap.size 78 2 (.slice A9 (n' + 1) c9) (n' + 1) ((crossK bs k ++ rowK bs k (j + 1)).flatMap prV) by rw [HY.out (by trivial), ← List.append_assoc, List.flatMap_append]; first | exact own9 | (rw [List.flatMap_append, List.append_assoc]; exact own9))
            have E10 := Lib.hid (show w9.heap[X]? = some (.cells #[.int .i64 x.kind, .int .i64 x.sign, .int .i64 x.turn, .bool x.mirror, .int .i64 x.state, .int .i64 x.min, .int .i64 x.max, .int .i64 x.x.num, .int .i64 x.x.den, .int .i64 x.y.num, .int .i64 x.y.den, .int .i64 x.w.num, .int .i64 x.w.den, .int .i64 x.h.num, .int .i64 x.h.den] 82 (0, 0)) from (hg9.block X (by rw [World.size_alloc]; omega) (fun h => HNX.out h.symm)).trans ((heap_alloc_other _ _ _ hx6).trans E9.out))
            have HN10 := Lib.hid (show (Value.slice A9 (n' + 1) c9).ownBlock ≠ some X from fun h => by
              rcases hob9 with h1 | h1
              · exact HNX.out (h1.symm.trans h)
              · rw [h1] at h; injection h with h; first | omega | (rw [World.size_alloc] at h; omega))
            clear own9 hg9 hob9 HNR HN1 HSA HSS hx6
            go_wp2_with fail
            go_roundw
            case rel => exact ⟨j + 1, n' + 1, by omega, by omega, by go_num, by omega, Lib.hid (by rw [HY.out (by trivial), ← List.append_assoc, List.length_append, ← HNL.out]; rfl), HO10, HN10, E10, HB10⟩
            case measure => simp [intOf]; omega
        · obtain rfl : j = N := by omega
          go_wp2_with fail
          go_roundw
          case rel => exact ⟨k + 1, n', by omega, by go_num, by omega, Lib.hid (by rw [crossK_succ, ← HN.out]; exact HNL.out), Lib.hid (by rw [crossK_succ, ← HN.out]; exact HOW.out), HBR⟩
          case measure => simp [intOf]; omega
    · obtain rfl : k = N := by omega
      obtain ⟨Av, cv, hv7, -, -, -, -⟩ := own_slice HOW.out
      subst hv7
      have HOF := Lib.hid (own_base HOW.out HB3.out.size)
      go_wp2_with fail
      go_ret2
      rw [HF.out]
      exact ⟨Av, cv, by rw [← HML.out]; rfl, Lib.hid (by rw [← HML.out]; exact HOF.out), HBB.out⟩

end Go.Proofs.YthnplpbfdiajaaaGreat
