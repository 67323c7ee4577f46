/-
  Where boxes begin downwards and how far they reach ((axis).span), by the program.
-/
import Derived.Test.YtcijomljopbelaaGreatSpn
namespace Go.Proofs.YtcijomljopbelaaGreat
open Go.RowKit

set_option maxRecDepth 100000 in
set_option maxHeartbeats 32000000 in
theorem spanD_any (p : Nat) (A : Option Addr) (cap : Nat) (bs : List Bx) (w : World) (hb : BxsAt w A bs) (hc1 : bs.length ≤ cap) (_hc : cap ≤ maxLen) (h0 : 0 < bs.length) (h200 : bs.length ≤ 200) (hok : ∀ x ∈ bs, bothB x = true) :
    Calls Tryz.prog 79 #[.agg #[.func (.func 135) #[] #[], .func (.func 136) #[] #[], .func (.func 172) #[] #[.pointer (some ⟨p, 0, none⟩)]], .slice A bs.length cap] w (GotSpan w (extS true bs) (extZ true bs)) := by
  obtain ⟨x0, hx0⟩ : ∃ x, bs[0]? = some x := ⟨_, List.getElem?_eq_getElem h0⟩
  obtain ⟨RS, hRS⟩ : ∃ r, r = extS true bs := ⟨_, rfl⟩
  obtain ⟨RZ, hRZ⟩ : ∃ r, r = extZ true bs := ⟨_, rfl⟩
  have HRS := Lib.hid (show RS = minK true bs bs.length from hRS)
  have HRZ := Lib.hid (show RZ = minusF (maxK true bs bs.length) (minK true bs bs.length) from hRZ)
  rw [← hRS, ← hRZ]
  have HMO := Lib.hid (fun k => minK_ok true hx0 hok k)
  have HXO := Lib.hid (fun k => maxK_ok true hx0 hok k)
  have HM0 := Lib.hid (minK_zero true hx0)
  have HX0 := Lib.hid (maxK_zero true hx0)
  have HOK := Lib.hid hok
  have HBS := Lib.hid hb
  obtain ⟨N, hN⟩ : ∃ N, N = bs.length := ⟨_, rfl⟩
  have HN := Lib.hid hN
  rw [← hN] at hc1 h0 h200 HRS HRZ ⊢
  unfold maxLen at _hc
  obtain ⟨b0, o0, hA, hbl0, vb0⟩ := hb 0 x0 hx0
  subst hA
  rw [Nat.zero_mul, Nat.add_zero] at vb0
  have VB0 := Lib.hid vb0
  have hm0 := List.mem_of_getElem? hx0
  have hv0 := both_valid (hok x0 hm0) true
  have HS0 := Lib.hid (fun wx => show Calls Tryz.prog 135 #[x0.val] wx (GotFr wx (x0.st true)) from stN_any true x0 wx)
  have HE0 := Lib.hid (fun wx => endD_any p x0 wx hv0.1 hv0.2.1)
  rw [← HM0.out] at HS0
  rw [← HX0.out] at HE0
  obtain ⟨m0, hm0e⟩ : ∃ m, m = minK true bs 0 := ⟨_, rfl⟩
  obtain ⟨M0, hM0e⟩ : ∃ m, m = maxK true bs 0 := ⟨_, rfl⟩
  rw [← hm0e] at HS0
  rw [← hM0e] at HE0
  have HE1 := Lib.hid hm0e
  have HE2 := Lib.hid hM0e
  clear hb hok hRS hRZ hx0 hN vb0 hm0 hv0 HM0 HX0 hm0e hM0e
  obtain ⟨W1, hW1⟩ : ∃ W', W' = w.alloc (.cells #[.func (.func 135) #[] #[], .func (.func 136) #[] #[], .func (.func 172) #[] #[.pointer (some ⟨p, 0, none⟩)]] 100) := ⟨_, rfl⟩; obtain ⟨W2, hW2⟩ : ∃ W', W' = W1.alloc (.cells #[.int .i64 0, .int .i64 0] 40) := ⟨_, rfl⟩; obtain ⟨W, hW⟩ : ∃ W', W' = W2.alloc (.cells #[.int .i64 0, .int .i64 0] 40) := ⟨_, rfl⟩; have szW1 : W1.heap.size = w.heap.size + 1 := (by rw [hW1]; simp); have kbW1 : Below w.heap.size w W1 := hW1 ▸ below_alloc _ _; have szW2 : W2.heap.size = w.heap.size + 1 + 1 := (by rw [hW2]; simp [szW1]); have kbW2 : Below W1.heap.size W1 W2 := hW2 ▸ below_alloc _ _; have szW : W.heap.size = w.heap.size + 1 + 1 + 1 := (by rw [hW]; simp [szW2]); have kbW : Below W2.heap.size W2 W := hW ▸ below_alloc _ _; have HB := Lib.hid (below_more (below_more kbW1 kbW2) kbW); have D0 := Lib.hid (blk_keep kbW (blk_keep kbW2 (show W1.heap[w.heap.size]? = some (.cells #[.func (.func 135) #[] #[], .func (.func 136) #[] #[], .func (.func 172) #[] #[.pointer (some ⟨p, 0, none⟩)]] 100 (0, 0)) by rw [hW1]; exact heap_alloc_new _ _))); have D1 := Lib.hid (blk_keep kbW (show W2.heap[w.heap.size + 1]? = some (.cells #[.int .i64 0, .int .i64 0] 40 (0, 0)) by rw [hW2, ← szW1]; exact heap_alloc_new _ _)); have D2 := Lib.hid (show W.heap[w.heap.size + 1 + 1]? = some (.cells #[.int .i64 0, .int .i64 0] 40 (0, 0)) by rw [hW, ← szW2]; exact heap_alloc_new _ _); have SZW := Lib.hid szW; clear szW1 kbW1 szW2 kbW2 szW kbW
  have hsz := SZW.out
  have h1lt : w.heap.size + 1 < W.heap.size := by omega
  have h1le : w.heap.size ≤ W.heap.size := by omega
  clear hsz
  have HKS := Lib.hid (fun wx (h : Kp w.heap.size W (w.heap.size + 1) wx) => show (wx.cell? ⟨w.heap.size, 0, none⟩ = some (.func (.func 135) #[] #[]) ∧ wx.cell? ⟨w.heap.size, 1, none⟩ = some (.func (.func 136) #[] #[]) ∧ wx.cell? ⟨w.heap.size, 2, none⟩ = some (.func (.func 172) #[] #[.pointer (some ⟨p, 0, none⟩)])) ∧
    (wx.cell? ⟨b0, o0, none⟩ = some (.int .i64 x0.kind) ∧ wx.cell? ⟨b0, o0 + 1, none⟩ = some (.int .i64 x0.sign) ∧ wx.cell? ⟨b0, o0 + 2, none⟩ = some (.int .i64 x0.turn) ∧ wx.cell? ⟨b0, o0 + 3, none⟩ = some (.bool x0.mirror) ∧ wx.cell? ⟨b0, o0 + 4, none⟩ = some (.int .i64 x0.state) ∧ wx.cell? ⟨b0, o0 + 5, none⟩ = some (.int .i64 x0.min) ∧ wx.cell? ⟨b0, o0 + 6, none⟩ = some (.int .i64 x0.max) ∧ wx.cell? ⟨b0, o0 + 7, none⟩ = some (.int .i64 x0.x.num) ∧ wx.cell? ⟨b0, o0 + 8, none⟩ = some (.int .i64 x0.x.den) ∧ wx.cell? ⟨b0, o0 + 9, none⟩ = some (.int .i64 x0.y.num) ∧ wx.cell? ⟨b0, o0 + 10, none⟩ = some (.int .i64 x0.y.den) ∧ wx.cell? ⟨b0, o0 + 11, none⟩ = some (.int .i64 x0.w.num) ∧ wx.cell? ⟨b0, o0 + 12, none⟩ = some (.int .i64 x0.w.den) ∧ wx.cell? ⟨b0, o0 + 13, none⟩ = some (.int .i64 x0.h.num) ∧ wx.cell? ⟨b0, o0 + 14, none⟩ = some (.int .i64 x0.h.den)) from
    have d := h.keep (by omega) D0.out
    have v := VB0.out.below (HB.out.trans h.bel) hbl0
    ⟨⟨cell_of_blk d 0, cell_of_blk d 1, cell_of_blk d 2⟩, v.c0, v.c1, v.c2, v.c3, v.c4, v.c5, v.c6, v.c7, v.c8, v.c9, v.c10, v.c11, v.c12, v.c13, v.c14⟩)
  have HX1 : Has (w.heap.size + 1) 0 0 W := D1.out
  unfold Bx.val at HS0 HE0
  have hi0 : (0 : Int) < (N : Int) := by omega
  go_enter Tryz.func79, Tryz.ntmps79
  go_wp2_with fail
  rw [← hW1, ← hW2, ← hW]; clear hW1 hW2 hW
  go_cut [6] (fun q wx => ∃ g, q = .pointer (some ⟨g, 0, none⟩) ∧ Hid (SpR w.heap.size W (w.heap.size + 1) g m0 M0 wx))
  case first => as_aux_lemma =>
    have HDR := Lib.hid (show Kp w.heap.size W (w.heap.size + 1) W.drew from (Kp.refl _ _ _).drew)
    go_region_held3 (fun wx => (wx.cell? ⟨w.heap.size, 0, none⟩ = some (.func (.func 135) #[] #[]) ∧ wx.cell? ⟨w.heap.size, 1, none⟩ = some (.func (.func 136) #[] #[]) ∧ wx.cell? ⟨w.heap.size, 2, none⟩ = some (.func (.func 172) #[] #[.pointer (some ⟨p, 0, none⟩)])) ∧
      (wx.cell? ⟨b0, o0, none⟩ = some (.int .i64 x0.kind) ∧ wx.cell? ⟨b0, o0 + 1, none⟩ = some (.int .i64 x0.sign) ∧ wx.cell? ⟨b0, o0 + 2, none⟩ = some (.int .i64 x0.turn) ∧ wx.cell? ⟨b0, o0 + 3, none⟩ = some (.bool x0.mirror) ∧ wx.cell? ⟨b0, o0 + 4, none⟩ = some (.int .i64 x0.state) ∧ wx.cell? ⟨b0, o0 + 5, none⟩ = some (.int .i64 x0.min) ∧ wx.cell? ⟨b0, o0 + 6, none⟩ = some (.int .i64 x0.max) ∧ wx.cell? ⟨b0, o0 + 7, none⟩ = some (.int .i64 x0.x.num) ∧ wx.cell? ⟨b0, o0 + 8, none⟩ = some (.int .i64 x0.x.den) ∧ wx.cell? ⟨b0, o0 + 9, none⟩ = some (.int .i64 x0.y.num) ∧ wx.cell? ⟨b0, o0 + 10, none⟩ = some (.int .i64 x0.y.den) ∧ wx.cell? ⟨b0, o0 + 11, none⟩ = some (.int .i64 x0.w.num) ∧ wx.cell? ⟨b0, o0 + 12, none⟩ = some (.int .i64 x0.w.den) ∧ wx.cell? ⟨b0, o0 + 13, none⟩ = some (.int .i64 x0.h.num) ∧ wx.cell? ⟨b0, o0 + 14, none⟩ = some (.int .i64 x0.h.den)))
      ((refine HKS.out _ ?_; (repeat (first | with_reducible assumption | with_reducible exact Kp.refl _ _ _ | with_reducible refine Kp.drew ?_ | with_reducible refine Kp.alloc ?_ (by omega) _ | (with_reducible refine Kp.set ?_ _ _ _ (by omega) (by first | exact .inl rfl | exact .inr (by omega))) | (with_reducible refine Kp.below ?_ (by omega) (by assumption))))))
      (first
        | (go_at_call 135; refine (HS0.out _).mono ?_; rintro e wa ⟨rfl, hba⟩; have ka : Kp w.heap.size W (w.heap.size + 1) wa := by (repeat (first | with_reducible assumption | with_reducible exact Kp.refl _ _ _ | with_reducible refine Kp.drew ?_ | with_reducible refine Kp.alloc ?_ (by omega) _ | (with_reducible refine Kp.set ?_ _ _ _ (by omega) (by first | exact .inl rfl | exact .inr (by omega))) | (with_reducible refine Kp.below ?_ (by omega) (by assumption))))
           have hha : Has (w.heap.size + 1) 0 0 wa := by (repeat (first | with_reducible assumption | with_reducible exact Has.new _ _ _ | with_reducible refine Has.drew ?_ | with_reducible refine Has.set2 _ _ ?_ | with_reducible refine Has.other (by omega) ?_ | with_reducible refine Has.alloc ?_ _ | (with_reducible refine Has.below ?_ (by assumption))))
           have sza := ka.size
           have qa0 := (hha).c0; have qa1 := (hha).c1; have qaf0 := (hha).f0; have qaf1 := (hha).f1; have qaz := (hha).lt)
        | (go_at_call 133; refine (HE0.out _).mono ?_; rintro e wb ⟨rfl, hbb⟩; have kb : Kp w.heap.size W (w.heap.size + 1) wb := by (repeat (first | with_reducible assumption | with_reducible exact Kp.refl _ _ _ | with_reducible refine Kp.drew ?_ | with_reducible refine Kp.alloc ?_ (by omega) _ | (with_reducible refine Kp.set ?_ _ _ _ (by omega) (by first | exact .inl rfl | exact .inr (by omega))) | (with_reducible refine Kp.below ?_ (by omega) (by assumption))))
           have szb := kb.size
           have hhb : Has (w.heap.size + 1) 0 0 wb := by (repeat (first | with_reducible assumption | with_reducible exact Has.new _ _ _ | with_reducible refine Has.drew ?_ | with_reducible refine Has.set2 _ _ ?_ | with_reducible refine Has.other (by omega) ?_ | with_reducible refine Has.alloc ?_ _ | (with_reducible refine Has.below ?_ (by assumption))))
           have qb0 := (hhb).c0; have qb1 := (hhb).c1; have qbf0 := (hhb).f0; have qbf1 := (hhb).f1; have qbz := (hhb).lt
           (try (have hg1 := Has.below (Has.below (Has.drew (Has.new W 0 0)) hba) hbb; have qg0 := (hg1).c0; have qg1 := (hg1).c1; have qgf0 := (hg1).f0; have qgf1 := (hg1).f1; have qgz := (hg1).lt))
           (try (have hg2 := Has.below (Has.new wa 0 0) hbb; have qh0 := (hg2).c0; have qh1 := (hg2).c1; have qhf0 := (hg2).f0; have qhf1 := (hg2).f1; have qhz := (hg2).lt)))
        | fail)
    all_goals (
      go_wp2_with fail
      go_meet
      first
      | exact ⟨_, rfl, Lib.hid (spR_a kb h1le (Nat.le_succ _) hhb)⟩
      | exact ⟨_, rfl, Lib.hid (spR_b kb h1le (Nat.le_succ _) h1lt hhb hg2 sza)⟩
      | exact ⟨_, rfl, Lib.hid (spR_b kb h1le (Nat.le_succ _) h1lt hhb hg1 (Nat.le_refl _))⟩
      | fail)
  case rest =>
  obtain ⟨g, rfl, hsp⟩ := hcut
  obtain ⟨V, hV⟩ : ∃ V, V = wc := ⟨_, rfl⟩
  rw [← hV] at hsp ⊢
  have HSP := Lib.hid hsp.out
  clear hV hsp HKS HX1 HS0 HE0
  go_wp2_with fail
  go_loopw [22] (fun i wr => ∃ k : Nat, k ≤ N ∧ i = .int .i64 k ∧ Hid (SpR w.heap.size W (w.heap.size + 1) g (minK true bs k) (maxK true bs k) wr)) (fun i _ => N - (intOf i).toNat)
  case atStart => exact ⟨0, Nat.zero_le _, rfl, Lib.hid (by rw [← HE1.out, ← HE2.out]; exact HSP.out)⟩
  case round =>
    obtain ⟨k, hk, rfl, hr⟩ := hrel
    have HR := Lib.hid hr.out
    clear hr
    have HVm := Lib.hid (HMO.out k)
    have HVM := Lib.hid (HXO.out k)
    obtain ⟨⟨m1, m2⟩, hm⟩ : ∃ m, m = minK true bs k := ⟨_, rfl⟩
    obtain ⟨⟨M1, M2⟩, hM⟩ : ∃ m, m = maxK true bs k := ⟨_, rfl⟩
    rw [← hm, ← hM] at HR
    rw [← hm] at HVm
    rw [← hM] at HVM
    have HEm := Lib.hid hm
    have HEM := Lib.hid hM
    clear hm hM
    by_cases hlt : k < N
    · as_aux_lemma =>
        obtain ⟨x, hx⟩ : ∃ x, bs[k]? = some x := ⟨_, List.getElem?_eq_getElem (by have := HN.out; omega)⟩
        obtain ⟨b, o, hA, hbl, vb0⟩ := HBS.out k x hx
        injection hA with hA; injection hA with hA1 hA2
        subst hA1 hA2
        have vb := vb0.below (HB.out.trans HR.out.kp.bel) hbl
        have hbo := HOK.out x (List.mem_of_getElem? hx)
        have hv := both_valid hbo true
        have HS := Lib.hid (fun wx => show Calls Tryz.prog 135 #[x.val] wx (GotFr wx (x.st true)) from stN_any true x wx)
        have HE := Lib.hid (fun wx => endD_any p x wx hv.1 hv.2.1)
        have s1 := span_small hv.1 HVm.out
        have s2 := span_small hv.2.2 HVM.out
        have HC1 := Lib.hid (fun wx => compare_any (x.st true).num (x.st true).den m1 m2 wx s1.1 s1.2)
        have HC2 := Lib.hid (fun wx => compare_any (x.en true).num (x.en true).den M1 M2 wx s2.1 s2.2)
        obtain ⟨C1, hC1⟩ : ∃ c, c = cmpR ((x.st true).num * m2) (m1 * (x.st true).den) := ⟨_, rfl⟩
        obtain ⟨C2, hC2⟩ : ∃ c, c = cmpR ((x.en true).num * M2) (M1 * (x.en true).den) := ⟨_, rfl⟩
        rw [← hC1] at HC1
        rw [← hC2] at HC2
        obtain ⟨V1, hV1⟩ : ∃ V, V = decide (C1 < 0) := ⟨_, rfl⟩
        obtain ⟨V2, hV2⟩ : ∃ V, V = decide (0 < C2) := ⟨_, rfl⟩
        have HN1 := Lib.hid (show minK true bs (k + 1) = if V1 = true then x.st true else ⟨m1, m2⟩ by
          rw [minK_step true hx, ← HEm.out]; unfold stepMin
          rw [hV1, hC1, cmp_neg]; simp only [decide_eq_true_eq])
        have HN2 := Lib.hid (show maxK true bs (k + 1) = if V2 = true then x.en true else ⟨M1, M2⟩ by
          rw [maxK_step true hx, ← HEM.out]; unfold stepMax
          rw [hV2, hC2, cmp_pos]; simp only [decide_eq_true_eq])
        have K1 := hV1.symm
        have K2 := hV2.symm
        obtain ⟨⟨S1, S2⟩, hS⟩ : ∃ S, S = x.st true := ⟨_, rfl⟩
        obtain ⟨⟨E1, E2⟩, hE⟩ : ∃ E, E = x.en true := ⟨_, rfl⟩
        rw [← hS] at HS HC1 HN1
        rw [← hE] at HE HC2 HN2
        unfold GotFr at HS HE
        dsimp only at HS HE HC1 HC2
        have z0 := vb.c0
        have z1 := vb.c1
        have z2 := vb.c2
        have z3 := vb.c3
        have z4 := vb.c4
        have z5 := vb.c5
        have z6 := vb.c6
        have z7 := vb.c7
        have z8 := vb.c8
        have z9 := vb.c9
        have z10 := vb.c10
        have z11 := vb.c11
        have z12 := vb.c12
        have z13 := vb.c13
        have z14 := vb.c14
        have hbr : b0 < wr.heap.size := by have := HR.out.kp.bel.size; omega
        have hwr : W.heap.size ≤ wr.heap.size := HR.out.kp.size
        have hki : (0 : Int) ≤ (k : Int) := by omega
        have hkl : (k : Int) < (N : Int) := by omega
        clear hC1 hC2 hV1 hV2 hS hE hx vb vb0 hbo hv s1 s2 HVm HVM HEm HEM
        obtain ⟨k', sg, t, m, st, mn, mx, ⟨x1, x2⟩, ⟨y1, y2⟩, ⟨w1, w2⟩, ⟨h1, h2⟩⟩ := x
        unfold Bx.val at HS HE
        dsimp only at HS HE z0 z1 z2 z3 z4 z5 z6 z7 z8 z9 z10 z11 z12 z13 z14
        go_upto_region 5 with fail
        obtain ⟨Y, hY⟩ : ∃ Y, Y = wr.alloc (.cells #[.int .i64 k', .int .i64 sg, .int .i64 t, .bool m, .int .i64 st, .int .i64 mn, .int .i64 mx, .int .i64 x1, .int .i64 x2, .int .i64 y1, .int .i64 y2, .int .i64 w1, .int .i64 w2, .int .i64 h1, .int .i64 h2] 82) := ⟨_, rfl⟩
        have B6 := Lib.hid (show Y.heap[wr.heap.size]? = some (.cells #[.int .i64 k', .int .i64 sg, .int .i64 t, .bool m, .int .i64 st, .int .i64 mn, .int .i64 mx, .int .i64 x1, .int .i64 x2, .int .i64 y1, .int .i64 y2, .int .i64 w1, .int .i64 w2, .int .i64 h1, .int .i64 h2] 82 (0, 0)) from hY ▸ heap_alloc_new _ _)
        have RY := Lib.hid (show SpR w.heap.size W (w.heap.size + 1) g ⟨m1, m2⟩ ⟨M1, M2⟩ Y from HR.out.below h1le (hY ▸ below_alloc _ _))
        rw [← hY]
        clear hY z0 z1 z2 z3 z4 z5 z6 z7 z8 z9 z10 z11 z12 z13 z14 hbr HR
        have AX := Lib.hid (RY.out.kp.keep (by omega) D0.out)
        have a0 := cell_of_blk AX.out 0; have a1 := cell_of_blk AX.out 1; have a2 := cell_of_blk AX.out 2; have hz_a := (Array.getElem?_eq_some_iff.1 AX.out).1; simp at a0 a1 a2
        have b0 := cell_of_blk B6.out 0; have b1 := cell_of_blk B6.out 1; have b2 := cell_of_blk B6.out 2; have b3 := cell_of_blk B6.out 3; have b4 := cell_of_blk B6.out 4; have b5 := cell_of_blk B6.out 5; have b6 := cell_of_blk B6.out 6; have b7 := cell_of_blk B6.out 7; have b8 := cell_of_blk B6.out 8; have b9 := cell_of_blk B6.out 9; have b10 := cell_of_blk B6.out 10; have b11 := cell_of_blk B6.out 11; have b12 := cell_of_blk B6.out 12; have b13 := cell_of_blk B6.out 13; have b14 := cell_of_blk B6.out 14; have hz_b := (Array.getElem?_eq_some_iff.1 B6.out).1; simp at b0 b1 b2 b3 b4 b5 b6 b7 b8 b9 b10 b11 b12 b13 b14
        have q0 := (RY.out.st).c0; have q1 := (RY.out.st).c1; have qf0 := (RY.out.st).f0; have qf1 := (RY.out.st).f1; have qz := (RY.out.st).lt
        obtain ⟨mn', hmn'⟩ : ∃ m, m = minK true bs (k + 1) := ⟨_, rfl⟩
        rw [← hmn'] at HN1
        have HMN := Lib.hid hmn'
        clear hmn'
        cases V1
        case' false =>
          refine wp_region_later (by kernel_rfl) (by kernel_rfl) ?_; (repeat (first | go_big_quiet_step ((first | ((go_at_call 135; exact Calls.later _ (HS.out _))) | ((go_at_call 99; exact Calls.later _ (HC1.out _))))) | quiet_step ((first | ((go_at_call 135; exact Calls.later _ (HS.out _))) | ((go_at_call 99; exact Calls.later _ (HC1.out _))))))); refine wpQuiet_nil ?_; rintro _ ⟨s, rfl⟩
          have RZ := Lib.hid (show SpR w.heap.size W (w.heap.size + 1) g mn' ⟨M1, M2⟩ s.w by
            have := RY.out.below h1le s.below
            rw [HN1.out]; exact this)
          have BZ := Lib.hid (blk_keep s.below B6.out)
          have hzl := (Array.getElem?_eq_some_iff.1 BZ.out).1
          obtain ⟨Z, hZ⟩ : ∃ Z, Z = s.w := ⟨_, rfl⟩
          rw [← hZ] at RZ BZ hzl ⊢
          clear hZ s a0 a1 a2 hz_a b0 b1 b2 b3 b4 b5 b6 b7 b8 b9 b10 b11 b12 b13 b14 hz_b q0 q1 qf0 qf1 qz AX RY B6
          go_upto_region 7 with fail
        case' true =>
          refine wp_region_later (by kernel_rfl) (by kernel_rfl) ?_; (repeat (first | go_big_quiet_step ((first | ((go_at_call 135; exact Calls.later _ (HS.out _))) | ((go_at_call 99; exact Calls.later _ (HC1.out _))))) | quiet_step ((first | ((go_at_call 135; exact Calls.later _ (HS.out _))) | ((go_at_call 99; exact Calls.later _ (HC1.out _))))))); refine wpQuiet_nil ?_; rintro _ ⟨s, rfl⟩
          have RX := Lib.hid (RY.out.below h1le s.below)
          have BX := Lib.hid (blk_keep s.below B6.out)
          obtain ⟨Z0, hZ⟩ : ∃ Z, Z = s.w := ⟨_, rfl⟩
          rw [← hZ] at RX BX ⊢
          clear hZ s a0 a1 a2 hz_a b0 b1 b2 b3 b4 b5 b6 b7 b8 b9 b10 b11 b12 b13 b14 hz_b q0 q1 qf0 qf1 qz AX RY B6
          have AX := Lib.hid (RX.out.kp.keep (by omega) D0.out)
          have a0 := cell_of_blk AX.out 0; have a1 := cell_of_blk AX.out 1; have a2 := cell_of_blk AX.out 2; have hz_a := (Array.getElem?_eq_some_iff.1 AX.out).1; simp at a0 a1 a2
          have b0 := cell_of_blk BX.out 0; have b1 := cell_of_blk BX.out 1; have b2 := cell_of_blk BX.out 2; have b3 := cell_of_blk BX.out 3; have b4 := cell_of_blk BX.out 4; have b5 := cell_of_blk BX.out 5; have b6 := cell_of_blk BX.out 6; have b7 := cell_of_blk BX.out 7; have b8 := cell_of_blk BX.out 8; have b9 := cell_of_blk BX.out 9; have b10 := cell_of_blk BX.out 10; have b11 := cell_of_blk BX.out 11; have b12 := cell_of_blk BX.out 12; have b13 := cell_of_blk BX.out 13; have b14 := cell_of_blk BX.out 14; have hz_b := (Array.getElem?_eq_some_iff.1 BX.out).1; simp at b0 b1 b2 b3 b4 b5 b6 b7 b8 b9 b10 b11 b12 b13 b14
          go_wp2_with fail
          refine (HS.out _).mono ?_; rintro e v2 ⟨rfl, hb2⟩
          have RX := Lib.hid (RX.out.below h1le hb2)
          have BX := Lib.hid (blk_keep hb2 BX.out)
          clear hb2 a0 a1 a2 hz_a b0 b1 b2 b3 b4 b5 b6 b7 b8 b9 b10 b11 b12 b13 b14 hz_b AX
          have q0 := (RX.out.st).c0; have q1 := (RX.out.st).c1; have qf0 := (RX.out.st).f0; have qf1 := (RX.out.st).f1; have qz := (RX.out.st).lt
          go_upto_region 7 with fail
          have RZ := Lib.hid (show SpR w.heap.size W (w.heap.size + 1) g mn' ⟨M1, M2⟩ _ by
            rw [HN1.out]; exact RX.out.setS (Nat.le_succ _) h1lt S1 S2)
          have BZ := Lib.hid ((heap_setCell_other _ ⟨w.heap.size + 1, 1, none⟩ (.int .i64 S2) _ (by dsimp only; omega)).trans ((heap_setCell_other _ ⟨w.heap.size + 1, 0, none⟩ (.int .i64 S1) _ (by dsimp only; omega)).trans BX.out))
          obtain ⟨Z, hZ⟩ : ∃ Z, Z = (v2.setCell ⟨w.heap.size + 1, 0, none⟩ (.int .i64 S1)).setCell ⟨w.heap.size + 1, 1, none⟩ (.int .i64 S2) := ⟨_, rfl⟩
          rw [← hZ] at RZ BZ ⊢
          have hzl := (Array.getElem?_eq_some_iff.1 BZ.out).1
          clear hZ q0 q1 qf0 qf1 qz RX BX
        all_goals as_aux_lemma => (
          clear K1
          have AX := Lib.hid (RZ.out.kp.keep (by omega) D0.out)
          have a0 := cell_of_blk AX.out 0; have a1 := cell_of_blk AX.out 1; have a2 := cell_of_blk AX.out 2; have hz_a := (Array.getElem?_eq_some_iff.1 AX.out).1; simp at a0 a1 a2
          have b0 := cell_of_blk BZ.out 0; have b1 := cell_of_blk BZ.out 1; have b2 := cell_of_blk BZ.out 2; have b3 := cell_of_blk BZ.out 3; have b4 := cell_of_blk BZ.out 4; have b5 := cell_of_blk BZ.out 5; have b6 := cell_of_blk BZ.out 6; have b7 := cell_of_blk BZ.out 7; have b8 := cell_of_blk BZ.out 8; have b9 := cell_of_blk BZ.out 9; have b10 := cell_of_blk BZ.out 10; have b11 := cell_of_blk BZ.out 11; have b12 := cell_of_blk BZ.out 12; have b13 := cell_of_blk BZ.out 13; have b14 := cell_of_blk BZ.out 14; have hz_b := (Array.getElem?_eq_some_iff.1 BZ.out).1; simp at b0 b1 b2 b3 b4 b5 b6 b7 b8 b9 b10 b11 b12 b13 b14
          have q0 := (RZ.out.en).c0; have q1 := (RZ.out.en).c1; have qf0 := (RZ.out.en).f0; have qf1 := (RZ.out.en).f1; have qz := (RZ.out.en).lt
          cases V2
          case' false =>
            refine wp_region_later (by kernel_rfl) (by kernel_rfl) ?_; (repeat (first | go_big_quiet_step ((first | (go_at_call 133; exact Calls.later _ (HE.out _)) | ((go_at_call 99; exact Calls.later _ (HC2.out _))))) | quiet_step ((first | (go_at_call 133; exact Calls.later _ (HE.out _)) | ((go_at_call 99; exact Calls.later _ (HC2.out _))))))); refine wpQuiet_nil ?_; rintro _ ⟨s, rfl⟩
            have RF := Lib.hid (RZ.out.below h1le s.below)
            clear a0 a1 a2 hz_a b0 b1 b2 b3 b4 b5 b6 b7 b8 b9 b10 b11 b12 b13 b14 hz_b q0 q1 qf0 qf1 qz AX
            go_wp2_with fail
            go_roundw
          case' true =>
            refine wp_region_later (by kernel_rfl) (by kernel_rfl) ?_; (repeat (first | go_big_quiet_step ((first | (go_at_call 133; exact Calls.later _ (HE.out _)) | ((go_at_call 99; exact Calls.later _ (HC2.out _))))) | quiet_step ((first | (go_at_call 133; exact Calls.later _ (HE.out _)) | ((go_at_call 99; exact Calls.later _ (HC2.out _))))))); refine wpQuiet_nil ?_; rintro _ ⟨s, rfl⟩
            have RX := Lib.hid (RZ.out.below h1le s.below)
            have BX := Lib.hid (blk_keep s.below BZ.out)
            obtain ⟨Z0, hZ⟩ : ∃ Z, Z = s.w := ⟨_, rfl⟩
            rw [← hZ] at RX BX ⊢
            clear hZ s a0 a1 a2 hz_a b0 b1 b2 b3 b4 b5 b6 b7 b8 b9 b10 b11 b12 b13 b14 hz_b q0 q1 qf0 qf1 qz AX RZ BZ
            have AX := Lib.hid (RX.out.kp.keep (by omega) D0.out)
            have a0 := cell_of_blk AX.out 0; have a1 := cell_of_blk AX.out 1; have a2 := cell_of_blk AX.out 2; have hz_a := (Array.getElem?_eq_some_iff.1 AX.out).1; simp at a0 a1 a2
            have b0 := cell_of_blk BX.out 0; have b1 := cell_of_blk BX.out 1; have b2 := cell_of_blk BX.out 2; have b3 := cell_of_blk BX.out 3; have b4 := cell_of_blk BX.out 4; have b5 := cell_of_blk BX.out 5; have b6 := cell_of_blk BX.out 6; have b7 := cell_of_blk BX.out 7; have b8 := cell_of_blk BX.out 8; have b9 := cell_of_blk BX.out 9; have b10 := cell_of_blk BX.out 10; have b11 := cell_of_blk BX.out 11; have b12 := cell_of_blk BX.out 12; have b13 := cell_of_blk BX.out 13; have b14 := cell_of_blk BX.out 14; have hz_b := (Array.getElem?_eq_some_iff.1 BX.out).1; simp at b0 b1 b2 b3 b4 b5 b6 b7 b8 b9 b10 b11 b12 b13 b14
            go_wp2_with fail
            refine (HE.out _).mono ?_; rintro e v3 ⟨rfl, hb3⟩
            have RX := Lib.hid (RX.out.below h1le hb3)
            clear hb3 a0 a1 a2 hz_a b0 b1 b2 b3 b4 b5 b6 b7 b8 b9 b10 b11 b12 b13 b14 hz_b AX BX
            have q0 := (RX.out.en).c0; have q1 := (RX.out.en).c1; have qf0 := (RX.out.en).f0; have qf1 := (RX.out.en).f1; have qz := (RX.out.en).lt
            have RF := Lib.hid (RX.out.setE h1le h1lt E1 E2)
            go_wp2_with fail
            go_roundw
          all_goals first
            | exact ⟨k + 1, by omega, by go_num, Lib.hid (by rw [← HMN.out, HN2.out]; exact RF.out)⟩
            | (simp [intOf]; done)
            | (simp [intOf]; omega))
    · as_aux_lemma =>
        obtain rfl : k = N := by omega
        have hrs := Lib.hid (show RS = ⟨m1, m2⟩ by rw [HRS.out, HEm.out])
        have HMI := Lib.hid (fun wx => show Calls Tryz.prog 134 #[.agg #[.int .i64 M1, .int .i64 M2], .agg #[.int .i64 m1, .int .i64 m2]] wx (GotFr wx RZ) by
          have a := valid_in (show validB m1 m2 = true from HVm.out)
          have b := valid_in (show validB M1 M2 = true from HVM.out)
          have := minus_any M1 M2 m1 m2 wx (by unfold smallI; omega) (mul_small b.2.2 ⟨a.1, a.2.1⟩) (mul_small ⟨by omega, by omega⟩ ⟨b.1, b.2.1⟩) (sum_small b.2.2 ⟨a.1, a.2.1⟩ ⟨by omega, by omega⟩ ⟨b.1, b.2.1⟩) (Int.mul_pos (by omega) (by omega)) (mul_small ⟨by omega, by omega⟩ ⟨a.1, a.2.1⟩)
          rw [HRZ.out, ← HEm.out, ← HEM.out]
          unfold minusF
          dsimp only
          rw [← sub_is]; exact this)
        unfold GotFr at HMI
        have hlo := HR.out.lo
        have hne1 : g ≠ w.heap.size + 1 := by omega
        have hne2 : w.heap.size + 1 ≠ w.heap.size + 1 + 1 := by omega
        have hne3 : g ≠ w.heap.size + 1 + 1 := by have := (Array.getElem?_eq_some_iff.1 D2.out).1; omega
        have HZ2 := Lib.hid (show Has (w.heap.size + 1 + 1) 0 0 wr from HR.out.kp.keep (by omega) D2.out)
        have HK2 := Lib.hid (fun wx (h : Has (w.heap.size + 1) m1 m2 wx ∧ Has g M1 M2 wx) => show (wx.cell? ⟨w.heap.size + 1, 0, none⟩ = some (.int .i64 m1) ∧ wx.cell? ⟨w.heap.size + 1, 1, none⟩ = some (.int .i64 m2)) ∧ wx.cell? ⟨g, 0, none⟩ = some (.int .i64 M1) ∧ wx.cell? ⟨g, 1, none⟩ = some (.int .i64 M2) from ⟨⟨h.1.c0, h.1.c1⟩, h.2.c0, h.2.c1⟩)
        have HDD := Lib.hid (show Has (w.heap.size + 1) m1 m2 wr.drew ∧ Has g M1 M2 wr.drew from ⟨HR.out.st.drew, HR.out.en.drew⟩)
        clear HVm HVM HEm HEM
        go_wp2_with fail
        go_region_held3 (fun wx => (wx.cell? ⟨w.heap.size + 1, 0, none⟩ = some (.int .i64 m1) ∧ wx.cell? ⟨w.heap.size + 1, 1, none⟩ = some (.int .i64 m2)) ∧ wx.cell? ⟨g, 0, none⟩ = some (.int .i64 M1) ∧ wx.cell? ⟨g, 1, none⟩ = some (.int .i64 M2))
          ((refine HK2.out _ ?_; first | with_reducible exact HDD.out | with_reducible exact ⟨kst, ken⟩ | with_reducible exact ⟨kst.set2 _ _, ken.other hne1⟩ | with_reducible exact ⟨(kst.set2 _ _).other hne2, (ken.other hne1).other hne3⟩))
          (first
            | (go_at_call 134; refine (HMI.out _).mono ?_; rintro e wm ⟨rfl, hbc⟩; have kc := HR.out.below h1le (un_drew hbc)
               have hz2 : Has (w.heap.size + 1 + 1) 0 0 wm := HZ2.out.below (un_drew hbc)
               have kst : Has (w.heap.size + 1) m1 m2 wm := kc.st
               have ken : Has g M1 M2 wm := kc.en
               have qc0 := (kst).c0; have qc1 := (kst).c1; have qcf0 := (kst).f0; have qcf1 := (kst).f1; have qcz := (kst).lt
               have qd0 := (ken).c0; have qd1 := (ken).c1; have qdf0 := (ken).f0; have qdf1 := (ken).f1; have qdz := (ken).lt
               have qe0 := (hz2).c0; have qe1 := (hz2).c1; have qef0 := (hz2).f0; have qef1 := (hz2).f1; have qez := (hz2).lt)
            | fail)
        go_wp2_with fail
        rw [hrs.out]
        refine bodyPost_ret (v := .tuple #[.agg #[.int .i64 m1, .int .i64 m2], .agg #[.int .i64 RZ.num, .int .i64 RZ.den]]) (by simp [results, Tryz.results79, go_sem, qc0, qc1, qe0, qe1]) rfl ⟨rfl, ?_⟩
        have hbf := HB.out.trans kc.kp.bel
        clear qc0 qc1 qcf0 qcf1 qd0 qd1 qdf0 qdf1 qe0 qe1 qef0 qef1
        iterate 4 (refine Below.setCell ?_ (by dsimp only; omega) _)
        exact hbf

end Go.Proofs.YtcijomljopbelaaGreat
