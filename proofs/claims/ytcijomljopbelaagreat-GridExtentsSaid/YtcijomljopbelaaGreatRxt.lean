/-
  The smallest rectangle that contains all boxes (Extent), by the specification.
-/
import Derived.Test.YtcijomljopbelaaGreatNew2
import Derived.Test.YtcijomljopbelaaGreatGaP
import Derived.Test.YtcijomljopbelaaGreatSpn
import Derived.Test.YtcijomljopbelaaGreatRsb
import Derived.Deep.RegionHeld3
import Derived.Deep.DeepCutAuto
namespace Go.Proofs.YtcijomljopbelaaGreat
open Go.RowKit

theorem rsub_small {n d p q : Int} (h1 : validB n d = true) (h2 : validB p q = true) (w : World) : Calls Tryz.prog 85 #[.agg #[.int .i64 n, .int .i64 d], .agg #[.int .i64 p, .int .i64 q]] w (GotFr w (minusF ⟨n, d⟩ ⟨p, q⟩)) := by
  have a := valid_in h1
  have b := valid_in h2
  have h3 : smallI (n * q + -p * d) := sum_small a.2.2 ⟨b.1, b.2.1⟩ ⟨by omega, by omega⟩ ⟨a.1, a.2.1⟩
  rw [sub_is] at h3
  exact rsub_any n d p q w (mul_small a.2.2 ⟨b.1, b.2.1⟩) (mul_small b.2.2 ⟨a.1, a.2.1⟩) h3 (Int.mul_pos (by omega) (by omega)) (mul_small ⟨by omega, by omega⟩ ⟨b.1, b.2.1⟩)

set_option maxRecDepth 100000 in
set_option maxHeartbeats 32000000 in
theorem rext_any (A : Option Addr) (cap : Nat) (bs : List Bx) (w : World) (hb : BxsAt w A bs) (hc1 : bs.length ≤ cap) (hc : cap ≤ maxLen) :
    Calls Tryz.prog 38 #[.slice A bs.length cap] w (GotExt w (extR bs)) := by
  obtain ⟨R, hR⟩ : ∃ R, R = extR bs := ⟨_, rfl⟩
  have HR := Lib.hid (show R = if chkB bs ≠ 0 then ((⟨0, 0⟩, ⟨0, 0⟩, ⟨0, 0⟩, ⟨0, 0⟩), chkB bs) else if bs.length = 0 then ((⟨0, 0⟩, ⟨0, 0⟩, ⟨0, 0⟩, ⟨0, 0⟩), 3) else if (vF (extZ false bs) && vF (extZ true bs)) = true then ((extS false bs, extS true bs, extZ false bs, extZ true bs), 0) else ((⟨0, 0⟩, ⟨0, 0⟩, ⟨0, 0⟩, ⟨0, 0⟩), 41) from hR)
  have HCK := Lib.hid (fun wx (hbx : Below w.heap.size w wx) => rallp_any A cap bs wx (hb.below hbx) hc1 hc)
  obtain ⟨C, hC⟩ : ∃ C, C = chkB bs := ⟨_, rfl⟩
  have HCC := Lib.hid hC
  rw [← hC] at HR HCK
  obtain ⟨SX, hSX⟩ : ∃ r, r = extS false bs := ⟨_, rfl⟩
  obtain ⟨SY, hSY⟩ : ∃ r, r = extS true bs := ⟨_, rfl⟩
  obtain ⟨ZX, hZX⟩ : ∃ r, r = extZ false bs := ⟨_, rfl⟩
  obtain ⟨ZY, hZY⟩ : ∃ r, r = extZ true bs := ⟨_, rfl⟩
  rw [← hSX, ← hSY, ← hZX, ← hZY] at HR
  have HSX := Lib.hid (show SX = minK false bs bs.length from hSX)
  have HSY := Lib.hid (show SY = minK true bs bs.length from hSY)
  have HZX := Lib.hid (show ZX = minusF (maxK false bs bs.length) (minK false bs bs.length) from hZX)
  have HZY := Lib.hid (show ZY = minusF (maxK true bs bs.length) (minK true bs bs.length) from hZY)
  have HV1 := Lib.hid (fun wx => rvalid_any ZX.num ZX.den wx)
  have HV2 := Lib.hid (fun wx => rvalid_any ZY.num ZY.den wx)
  unfold vF at HR
  obtain ⟨V1, hV1⟩ : ∃ V, V = validB ZX.num ZX.den := ⟨_, rfl⟩
  obtain ⟨V2, hV2⟩ : ∃ V, V = validB ZY.num ZY.den := ⟨_, rfl⟩
  rw [← hV1, ← hV2] at HR
  rw [← hV1] at HV1
  rw [← hV2] at HV2
  have HBS := Lib.hid hb
  obtain ⟨N, hN⟩ : ∃ N, N = bs.length := ⟨_, rfl⟩
  have HN := Lib.hid hN
  rw [← hR]
  rw [← hN] at HCK HR hc1 HSX HSY HZX HZY ⊢
  unfold maxLen at hc
  clear hb hC hN hR hSX hSY hZX hZY hV1 hV2
  obtain ⟨W1, hW1⟩ : ∃ W', W' = w.alloc (.cells #[.int .i64 0, .int .i64 0, .int .i64 0, .int .i64 0, .int .i64 0, .int .i64 0, .int .i64 0, .int .i64 0] 68) := ⟨_, rfl⟩; obtain ⟨W, hW⟩ : ∃ W', W' = W1.alloc (.cells #[.int .i64 0, .int .i64 0, .int .i64 0, .int .i64 0, .int .i64 0, .int .i64 0, .int .i64 0, .int .i64 0] 68) := ⟨_, rfl⟩; have szW1 : W1.heap.size = w.heap.size + 1 := (by rw [hW1]; simp); have kbW1 : Below w.heap.size w W1 := hW1 ▸ below_alloc _ _; have szW : W.heap.size = w.heap.size + 1 + 1 := (by rw [hW]; simp [szW1]); have kbW : Below W1.heap.size W1 W := hW ▸ below_alloc _ _; have HB := Lib.hid (below_more kbW1 kbW); have D0 := Lib.hid (blk_keep kbW (show W1.heap[w.heap.size]? = some (.cells #[.int .i64 0, .int .i64 0, .int .i64 0, .int .i64 0, .int .i64 0, .int .i64 0, .int .i64 0, .int .i64 0] 68 (0, 0)) by rw [hW1]; exact heap_alloc_new _ _)); have D1 := Lib.hid (show W.heap[w.heap.size + 1]? = some (.cells #[.int .i64 0, .int .i64 0, .int .i64 0, .int .i64 0, .int .i64 0, .int .i64 0, .int .i64 0, .int .i64 0] 68 (0, 0)) by rw [hW, ← szW1]; exact heap_alloc_new _ _); have SZW := Lib.hid szW; clear szW1 kbW1 szW kbW
  go_enter Tryz.func38, Tryz.ntmps38
  go_wp2_with fail
  rw [← hW1, ← hW]; clear hW1 hW
  refine (HCK.out _ HB.out).mono ?_; rintro e v1 ⟨rfl, hb1⟩
  have HB1 := Lib.hid (below_more HB.out hb1)
  have D0 := Lib.hid (blk_keep hb1 D0.out)
  have D1 := Lib.hid (blk_keep hb1 D1.out)
  have hv1 : w.heap.size + 1 < v1.heap.size := (Array.getElem?_eq_some_iff.1 D1.out).1
  clear hb1 HCK HB SZW
  by_cases hC0 : C = 0
  case neg =>
    have hbE : (C != 0) = true := by simpa using hC0
    have HF := Lib.hid (show R = ((⟨0, 0⟩, ⟨0, 0⟩, ⟨0, 0⟩, ⟨0, 0⟩), C) by rw [HR.out, if_pos hC0])
    clear hC0 HR
    have p0 := cell_of_blk D0.out 0; have pf0 := free_of_blk D0.out 0; have p1 := cell_of_blk D0.out 1; have pf1 := free_of_blk D0.out 1; have p2 := cell_of_blk D0.out 2; have pf2 := free_of_blk D0.out 2; have p3 := cell_of_blk D0.out 3; have pf3 := free_of_blk D0.out 3; have p4 := cell_of_blk D0.out 4; have pf4 := free_of_blk D0.out 4; have p5 := cell_of_blk D0.out 5; have pf5 := free_of_blk D0.out 5; have p6 := cell_of_blk D0.out 6; have pf6 := free_of_blk D0.out 6; have p7 := cell_of_blk D0.out 7; have pf7 := free_of_blk D0.out 7; have hz_p := (Array.getElem?_eq_some_iff.1 D0.out).1; simp at p0 p1 p2 p3 p4 p5 p6 p7
    have q0 := cell_of_blk D1.out 0; have q1 := cell_of_blk D1.out 1; have q2 := cell_of_blk D1.out 2; have q3 := cell_of_blk D1.out 3; have q4 := cell_of_blk D1.out 4; have q5 := cell_of_blk D1.out 5; have q6 := cell_of_blk D1.out 6; have q7 := cell_of_blk D1.out 7; have hz_q := (Array.getElem?_eq_some_iff.1 D1.out).1; simp at q0 q1 q2 q3 q4 q5 q6 q7
    go_wp2_with fail
    rw [HF.out]
    refine bodyPost_ret (v := .tuple #[.agg #[.int .i64 0, .int .i64 0, .int .i64 0, .int .i64 0, .int .i64 0, .int .i64 0, .int .i64 0, .int .i64 0], .int .i64 C]) (by simp [results, Tryz.results38, go_sem, p0, p1, p2, p3, p4, p5, p6, p7]) rfl ⟨rfl, ?_⟩
    have hbf := HB1.out
    clear p0 p1 p2 p3 p4 p5 p6 p7 hz_p pf0 pf1 pf2 pf3 pf4 pf5 pf6 pf7
    iterate 8 (refine Below.setCell ?_ (by dsimp only; omega) _)
    exact hbf
  have HZ := Lib.hid (chk_zero (show chkB bs = 0 by rw [← HCC.out]; exact hC0))
  have HF := Lib.hid (show R = if N = 0 then ((⟨0, 0⟩, ⟨0, 0⟩, ⟨0, 0⟩, ⟨0, 0⟩), 3) else if (V1 && V2) = true then ((SX, SY, ZX, ZY), 0) else ((⟨0, 0⟩, ⟨0, 0⟩, ⟨0, 0⟩, ⟨0, 0⟩), 41) by rw [HR.out, if_neg (by simp [hC0])])
  have hbE : (C != 0) = false := by simpa using hC0
  clear hC0 HR HCC
  by_cases hN0 : N = 0
  case pos =>
    have HF := Lib.hid (show R = ((⟨0, 0⟩, ⟨0, 0⟩, ⟨0, 0⟩, ⟨0, 0⟩), 3) by rw [HF.out, if_pos hN0])
    have hne : ((N : Int) == 0) = true := by simp [hN0]
    clear hN0
    have p0 := cell_of_blk D0.out 0; have pf0 := free_of_blk D0.out 0; have p1 := cell_of_blk D0.out 1; have pf1 := free_of_blk D0.out 1; have p2 := cell_of_blk D0.out 2; have pf2 := free_of_blk D0.out 2; have p3 := cell_of_blk D0.out 3; have pf3 := free_of_blk D0.out 3; have p4 := cell_of_blk D0.out 4; have pf4 := free_of_blk D0.out 4; have p5 := cell_of_blk D0.out 5; have pf5 := free_of_blk D0.out 5; have p6 := cell_of_blk D0.out 6; have pf6 := free_of_blk D0.out 6; have p7 := cell_of_blk D0.out 7; have pf7 := free_of_blk D0.out 7; have hz_p := (Array.getElem?_eq_some_iff.1 D0.out).1; simp at p0 p1 p2 p3 p4 p5 p6 p7
    have q0 := cell_of_blk D1.out 0; have q1 := cell_of_blk D1.out 1; have q2 := cell_of_blk D1.out 2; have q3 := cell_of_blk D1.out 3; have q4 := cell_of_blk D1.out 4; have q5 := cell_of_blk D1.out 5; have q6 := cell_of_blk D1.out 6; have q7 := cell_of_blk D1.out 7; have hz_q := (Array.getElem?_eq_some_iff.1 D1.out).1; simp at q0 q1 q2 q3 q4 q5 q6 q7
    go_wp2_with fail
    rw [HF.out]
    refine bodyPost_ret (v := .tuple #[.agg #[.int .i64 0, .int .i64 0, .int .i64 0, .int .i64 0, .int .i64 0, .int .i64 0, .int .i64 0, .int .i64 0], .int .i64 3]) (by simp [results, Tryz.results38, go_sem, p0, p1, p2, p3, p4, p5, p6, p7]) rfl ⟨rfl, ?_⟩
    have hbf := HB1.out
    clear p0 p1 p2 p3 p4 p5 p6 p7 hz_p pf0 pf1 pf2 pf3 pf4 pf5 pf6 pf7
    iterate 8 (refine Below.setCell ?_ (by dsimp only; omega) _)
    exact hbf
  have hne : ((N : Int) == 0) = false := by simp [hN0]
  have HF := Lib.hid (show R = if (V1 && V2) = true then ((SX, SY, ZX, ZY), 0) else ((⟨0, 0⟩, ⟨0, 0⟩, ⟨0, 0⟩, ⟨0, 0⟩), 41) by rw [HF.out, if_neg hN0])
  have h200 : N ≤ 200 := by rw [HN.out]; exact HZ.out.1
  have HOK := Lib.hid HZ.out.2
  obtain ⟨x0, hx0⟩ : ∃ x, bs[0]? = some x := ⟨_, List.getElem?_eq_getElem (by have := HN.out; omega)⟩
  have HMO := Lib.hid (fun s k => minK_ok s hx0 HOK.out k)
  have HXO := Lib.hid (fun s k => maxK_ok s hx0 HOK.out k)
  have HM0 := Lib.hid (fun s => minK_zero s hx0)
  have HX0 := Lib.hid (fun s => maxK_zero s hx0)
  obtain ⟨b0, o0, hA, hbl0, vb0⟩ := HBS.out 0 x0 hx0
  subst hA
  rw [Nat.zero_mul, Nat.add_zero] at vb0
  have VB0 := Lib.hid vb0
  have hbo0 := HOK.out x0 (List.mem_of_getElem? hx0)
  have HA7 := Lib.hid (fun wx => show Calls Tryz.prog 83 #[.agg #[.int .i64 x0.x.num, .int .i64 x0.x.den], .agg #[.int .i64 x0.w.num, .int .i64 x0.w.den]] wx (GotFr wx (x0.en false)) from radd_box false x0 hbo0 wx)
  have HA8 := Lib.hid (fun wx => show Calls Tryz.prog 83 #[.agg #[.int .i64 x0.y.num, .int .i64 x0.y.den], .agg #[.int .i64 x0.h.num, .int .i64 x0.h.den]] wx (GotFr wx (x0.en true)) from radd_box true x0 hbo0 wx)
  obtain ⟨E, hE⟩ : ∃ E, E = x0.en false := ⟨_, rfl⟩
  obtain ⟨G, hG⟩ : ∃ E, E = x0.en true := ⟨_, rfl⟩
  have HEE := Lib.hid hE
  have HGG := Lib.hid hG
  rw [← hE] at HA7
  rw [← hG] at HA8
  have hi0 : (0 : Int) < (N : Int) := by omega
  have hn0 : 0 < N := by omega
  clear hN0 HZ hx0 vb0 hbo0 hE hG
  have hbv : b0 < v1.heap.size := by have := HB1.out.size; omega
  have HKS := Lib.hid (fun wx (h : Below v1.heap.size v1 wx) => show (wx.cell? ⟨b0, o0 + 7, none⟩ = some (.int .i64 x0.x.num) ∧ wx.cell? ⟨b0, o0 + 8, none⟩ = some (.int .i64 x0.x.den) ∧ wx.cell? ⟨b0, o0 + 9, none⟩ = some (.int .i64 x0.y.num) ∧ wx.cell? ⟨b0, o0 + 10, none⟩ = some (.int .i64 x0.y.den) ∧ wx.cell? ⟨b0, o0 + 11, none⟩ = some (.int .i64 x0.w.num) ∧ wx.cell? ⟨b0, o0 + 12, none⟩ = some (.int .i64 x0.w.den) ∧ wx.cell? ⟨b0, o0 + 13, none⟩ = some (.int .i64 x0.h.num) ∧ wx.cell? ⟨b0, o0 + 14, none⟩ = some (.int .i64 x0.h.den)) from
    have v := VB0.out.below (below_more HB1.out h) hbl0
    ⟨v.c7, v.c8, v.c9, v.c10, v.c11, v.c12, v.c13, v.c14⟩)
  have HDR := Lib.hid (show Below v1.heap.size v1 v1.drew from (Below.refl _ _).drew)
  go_upto_region 7 with fail
  go_cut [6, 7] (fun p q wx => ∃ x6 x7, p = .pointer (some ⟨x6, 0, none⟩) ∧ q = .pointer (some ⟨x7, 0, none⟩) ∧ Hid (New2 v1 x6 x7 x0.x x0.y wx))
  case first => as_aux_lemma =>
    go_region_held3 (fun wx => (wx.cell? ⟨b0, o0 + 7, none⟩ = some (.int .i64 x0.x.num) ∧ wx.cell? ⟨b0, o0 + 8, none⟩ = some (.int .i64 x0.x.den) ∧ wx.cell? ⟨b0, o0 + 9, none⟩ = some (.int .i64 x0.y.num) ∧ wx.cell? ⟨b0, o0 + 10, none⟩ = some (.int .i64 x0.y.den) ∧ wx.cell? ⟨b0, o0 + 11, none⟩ = some (.int .i64 x0.w.num) ∧ wx.cell? ⟨b0, o0 + 12, none⟩ = some (.int .i64 x0.w.den) ∧ wx.cell? ⟨b0, o0 + 13, none⟩ = some (.int .i64 x0.h.num) ∧ wx.cell? ⟨b0, o0 + 14, none⟩ = some (.int .i64 x0.h.den)))
      ((refine HKS.out _ ?_; (repeat (first | with_reducible exact Below.refl _ _ | with_reducible refine Below.drew ?_ | (with_reducible refine Below.alloc ?_ (by first | omega | (simp; omega) | simp) _) | (with_reducible refine Below.setCell ?_ (by first | omega | (simp; omega) | simp) _))))) (fail)
    all_goals (
      go_wp2_with fail
      go_meet
      first
      | exact ⟨_, _, rfl, rfl, Lib.hid (New2.none_ (Below.refl _ _)).drew⟩
      | exact ⟨_, _, rfl, rfl, Lib.hid (New2.rev (Below.refl _ _)).drew⟩
      | fail)
  case rest =>
  obtain ⟨x6, x7, rfl, rfl, h2⟩ := hcut
  obtain ⟨V, hV⟩ : ∃ V, V = wc := ⟨_, rfl⟩
  rw [← hV] at h2 ⊢
  have N2 := Lib.hid h2.out
  have l6 := N2.out.l1
  have l7 := N2.out.l2
  have hvV := N2.out.bel.size
  have hx6 := N2.out.h1.lt
  have hx7 := N2.out.h2.lt
  clear hV h2 HKS HDR
  have HKS := Lib.hid (fun wx (h : Below V.heap.size V wx) => show (wx.cell? ⟨x6, 0, none⟩ = some (.int .i64 x0.x.num) ∧ wx.cell? ⟨x6, 1, none⟩ = some (.int .i64 x0.x.den)) ∧ (wx.cell? ⟨x7, 0, none⟩ = some (.int .i64 x0.y.num) ∧ wx.cell? ⟨x7, 1, none⟩ = some (.int .i64 x0.y.den)) ∧ (wx.cell? ⟨b0, o0 + 11, none⟩ = some (.int .i64 x0.w.num) ∧ wx.cell? ⟨b0, o0 + 12, none⟩ = some (.int .i64 x0.w.den) ∧ wx.cell? ⟨b0, o0 + 13, none⟩ = some (.int .i64 x0.h.num) ∧ wx.cell? ⟨b0, o0 + 14, none⟩ = some (.int .i64 x0.h.den)) from
    have v := VB0.out.below (below_more HB1.out (below_more N2.out.bel h)) hbl0
    have a := N2.out.h1.below h
    have b := N2.out.h2.below h
    ⟨⟨a.c0, a.c1⟩, ⟨b.c0, b.c1⟩, v.c11, v.c12, v.c13, v.c14⟩)
  have HDR := Lib.hid (show Below V.heap.size V V.drew from (Below.refl _ _).drew)
  go_upto_region 8 with fail
  go_cut [8, 9] (fun p q wx => ∃ x8 x9, p = .pointer (some ⟨x8, 0, none⟩) ∧ q = .pointer (some ⟨x9, 0, none⟩) ∧ Hid (New2 V x8 x9 E G wx))
  case first => as_aux_lemma =>
    go_region_held3 (fun wx => (wx.cell? ⟨x6, 0, none⟩ = some (.int .i64 x0.x.num) ∧ wx.cell? ⟨x6, 1, none⟩ = some (.int .i64 x0.x.den)) ∧ (wx.cell? ⟨x7, 0, none⟩ = some (.int .i64 x0.y.num) ∧ wx.cell? ⟨x7, 1, none⟩ = some (.int .i64 x0.y.den)) ∧ (wx.cell? ⟨b0, o0 + 11, none⟩ = some (.int .i64 x0.w.num) ∧ wx.cell? ⟨b0, o0 + 12, none⟩ = some (.int .i64 x0.w.den) ∧ wx.cell? ⟨b0, o0 + 13, none⟩ = some (.int .i64 x0.h.num) ∧ wx.cell? ⟨b0, o0 + 14, none⟩ = some (.int .i64 x0.h.den)))
      ((refine HKS.out _ ?_; (repeat (first | with_reducible assumption | with_reducible exact Below.refl _ _ | with_reducible refine Below.drew ?_ | (with_reducible refine Below.alloc ?_ (by first | omega | (simp; omega) | simp) _) | (with_reducible refine Below.setCell ?_ (by first | omega | (simp; omega) | simp) _)))))
      (first
        | (have hzz := hba; go_at_call 83; refine (HA8.out _).mono ?_; rintro e wb ⟨rfl, hbb⟩
           have kab : Below wa.heap.size wa wb := by first | with_reducible exact hbb | exact below_of hbb | exact below_of (below_of hbb)
           have kb := below_more ka kab
           have zb := hbb.size; (try simp at zb)
           (try (have f1 := Has.below e1 kab; have qa0 := (f1).c0; have qa1 := (f1).c1; have qaf0 := (f1).f0; have qaf1 := (f1).f1; have qaz := (f1).lt))
           (try (have f2 := Has.below e2 kab; have qb0 := (f2).c0; have qb1 := (f2).c1; have qbf0 := (f2).f0; have qbf1 := (f2).f1; have qbz := (f2).lt))
           (try (have f3 := Has.below (Has.new wa 0 0) hbb; have qc0 := (f3).c0; have qc1 := (f3).c1; have qcf0 := (f3).f0; have qcf1 := (f3).f1; have qcz := (f3).lt))
           (try (have f3 := Has.below (Has.alloc (Has.new wa 0 0) _) hbb; have f4 := (New2.none_ (a := ⟨0, 0⟩) (b := ⟨0, 0⟩) (Below.refl wa.heap.size wa)).h2.below hbb; have qc0 := (f3).c0; have qc1 := (f3).c1; have qcf0 := (f3).f0; have qcf1 := (f3).f1; have qcz := (f3).lt; have qd0 := (f4).c0; have qd1 := (f4).c1; have qdf0 := (f4).f0; have qdf1 := (f4).f1; have qdz := (f4).lt)))
        | (go_at_call 83; refine (HA7.out _).mono ?_; rintro e wa ⟨rfl, hba⟩
           have ka : Below V.heap.size V wa := by first | exact un_drew hba | exact below_of (un_drew hba) | exact below_of (below_of (un_drew hba))
           have za := hba.size; (try simp at za)
           (try (have e1 := Has.below (Has.drew (Has.new V 0 0)) hba))
           (try (have e1 := Has.below (Has.drew (Has.alloc (Has.new V 0 0) _)) hba; have e2 := (New2.none_ (a := ⟨0, 0⟩) (b := ⟨0, 0⟩) (Below.refl V.heap.size V)).h2.drew.below hba)))
        | fail)
    all_goals (
      go_wp2_with fail
      go_meet
      refine ⟨_, _, rfl, rfl, Lib.hid ?_⟩
      first
      | with_reducible exact New2.none_ kb
      | with_reducible exact New2.rev kb
      | (with_reducible refine New2.fst kb ?_ ?_ <;> first | with_reducible assumption | omega)
      | (with_reducible refine New2.snd kb ?_ ?_ <;> first | with_reducible assumption | omega)
      | (with_reducible refine New2.both kb ?_ ?_ ?_ ?_ ?_ <;> first | with_reducible assumption | omega)
      | fail)
  case rest =>
  obtain ⟨x8, x9, rfl, rfl, h2⟩ := hcut
  obtain ⟨V2', hV⟩ : ∃ V, V = wc := ⟨_, rfl⟩
  rw [← hV] at h2 ⊢
  have EX := Lib.hid (show Ex4 v1 x6 x7 x8 x9 (minK false bs 0) (minK true bs 0) (maxK false bs 0) (maxK true bs 0) V2' by
    rw [HM0.out, HM0.out, HX0.out, HX0.out, ← HEE.out, ← HGG.out]
    have k := h2.out
    exact ⟨below_more N2.out.bel k.bel, N2.out.h1.below k.bel, N2.out.h2.below k.bel, k.h1, k.h2, l6, l7, by have := k.l1; omega, by have := k.l2; omega, N2.out.ne, by have := k.l1; omega, by have := k.l2; omega, by have := k.l1; omega, by have := k.l2; omega, k.ne⟩)
  clear hV h2 HKS HDR N2 HA7 HA8 hx6 hx7 hvV
  go_wp2_with fail
  go_loopw [10] (fun i wr => ∃ k : Nat, k ≤ N ∧ i = .int .i64 k ∧ Hid (Ex4 v1 x6 x7 x8 x9 (minK false bs k) (minK true bs k) (maxK false bs k) (maxK true bs k) wr)) (fun i _ => N - (intOf i).toNat)
  case atStart => exact ⟨0, Nat.zero_le _, rfl, EX⟩
  case round =>
    obtain ⟨k, hk, rfl, hr⟩ := hrel
    have HR := Lib.hid hr.out
    clear hr EX
    by_cases hlt : k < N
    · as_aux_lemma =>
        obtain ⟨x, hx⟩ : ∃ x, bs[k]? = some x := ⟨_, List.getElem?_eq_getElem (by have := HN.out; omega)⟩
        obtain ⟨b, o, hA, hbl, vb0⟩ := HBS.out k x hx
        injection hA with hA; injection hA with hA1 hA2
        subst hA1 hA2
        have vb := vb0.below (below_more HB1.out HR.out.bel) hbl
        have hbo := HOK.out x (List.mem_of_getElem? hx)
        have hvx := both_valid hbo false
        have hvy := both_valid hbo true
        have HA9 := Lib.hid (fun wx => show Calls Tryz.prog 83 #[.agg #[.int .i64 x.x.num, .int .i64 x.x.den], .agg #[.int .i64 x.w.num, .int .i64 x.w.den]] wx (GotFr wx (x.en false)) from radd_box false x hbo wx)
        have HA10 := Lib.hid (fun wx => show Calls Tryz.prog 83 #[.agg #[.int .i64 x.y.num, .int .i64 x.y.den], .agg #[.int .i64 x.h.num, .int .i64 x.h.den]] wx (GotFr wx (x.en true)) from radd_box true x hbo wx)
        have Vmx0 := Lib.hid (HMO.out false k)
        obtain ⟨⟨mx0, mx0'⟩, hmx0⟩ : ∃ m, m = minK false bs k := ⟨_, rfl⟩
        rw [← hmx0] at HR Vmx0
        have Emx0 := Lib.hid hmx0
        clear hmx0
        have Vmy0 := Lib.hid (HMO.out true k)
        obtain ⟨⟨my0, my0'⟩, hmy0⟩ : ∃ m, m = minK true bs k := ⟨_, rfl⟩
        rw [← hmy0] at HR Vmy0
        have Emy0 := Lib.hid hmy0
        clear hmy0
        have Vex0 := Lib.hid (HXO.out false k)
        obtain ⟨⟨ex0, ex0'⟩, hex0⟩ : ∃ m, m = maxK false bs k := ⟨_, rfl⟩
        rw [← hex0] at HR Vex0
        have Eex0 := Lib.hid hex0
        clear hex0
        have Vey0 := Lib.hid (HXO.out true k)
        obtain ⟨⟨ey0, ey0'⟩, hey0⟩ : ∃ m, m = maxK true bs k := ⟨_, rfl⟩
        rw [← hey0] at HR Vey0
        have Eey0 := Lib.hid hey0
        clear hey0
        have s1 := span_small hvx.1 Vmx0.out
        have s2 := span_small hvy.1 Vmy0.out
        have s3 := span_small Vex0.out hvx.2.2
        have s4 := span_small Vey0.out hvy.2.2
        have HL1 := Lib.hid (fun wx => rless_any (x.x).num (x.x).den mx0 mx0' wx s1.1 s1.2)
        obtain ⟨L1, hL1⟩ : ∃ L, L = decide ((x.x).num * mx0' < mx0 * (x.x).den) := ⟨_, rfl⟩
        rw [← hL1] at HL1
        have HN1 := Lib.hid (show minK false bs (k + 1) = if L1 = true then x.st false else ⟨mx0, mx0'⟩ by
          rw [minK_step false hx, ← Emx0.out, hL1]; unfold stepMin; simp only [decide_eq_true_eq]; try rfl)
        clear hL1
        have HL2 := Lib.hid (fun wx => rless_any (x.y).num (x.y).den my0 my0' wx s2.1 s2.2)
        obtain ⟨L2, hL2⟩ : ∃ L, L = decide ((x.y).num * my0' < my0 * (x.y).den) := ⟨_, rfl⟩
        rw [← hL2] at HL2
        have HN2 := Lib.hid (show minK true bs (k + 1) = if L2 = true then x.st true else ⟨my0, my0'⟩ by
          rw [minK_step true hx, ← Emy0.out, hL2]; unfold stepMin; simp only [decide_eq_true_eq]; try rfl)
        clear hL2
        have HL3 := Lib.hid (fun wx => rless_any ex0 ex0' (x.en false).num (x.en false).den wx s3.1 s3.2)
        obtain ⟨L3, hL3⟩ : ∃ L, L = decide (ex0 * (x.en false).den < (x.en false).num * ex0') := ⟨_, rfl⟩
        rw [← hL3] at HL3
        have HN3 := Lib.hid (show maxK false bs (k + 1) = if L3 = true then x.en false else ⟨ex0, ex0'⟩ by
          rw [maxK_step false hx, ← Eex0.out, hL3]; unfold stepMax; simp only [decide_eq_true_eq]; try rfl)
        clear hL3
        have HL4 := Lib.hid (fun wx => rless_any ey0 ey0' (x.en true).num (x.en true).den wx s4.1 s4.2)
        obtain ⟨L4, hL4⟩ : ∃ L, L = decide (ey0 * (x.en true).den < (x.en true).num * ey0') := ⟨_, rfl⟩
        rw [← hL4] at HL4
        have HN4 := Lib.hid (show maxK true bs (k + 1) = if L4 = true then x.en true else ⟨ey0, ey0'⟩ by
          rw [maxK_step true hx, ← Eey0.out, hL4]; unfold stepMax; simp only [decide_eq_true_eq]; try rfl)
        clear hL4
        obtain ⟨⟨mx1, mx1'⟩, hmx1⟩ : ∃ m, m = minK false bs (k + 1) := ⟨_, rfl⟩
        rw [← hmx1] at HN1
        have HM1 := Lib.hid hmx1
        clear hmx1
        obtain ⟨⟨my1, my1'⟩, hmy1⟩ : ∃ m, m = minK true bs (k + 1) := ⟨_, rfl⟩
        rw [← hmy1] at HN2
        have HM2 := Lib.hid hmy1
        clear hmy1
        obtain ⟨⟨ex1, ex1'⟩, hex1⟩ : ∃ m, m = maxK false bs (k + 1) := ⟨_, rfl⟩
        rw [← hex1] at HN3
        have HM3 := Lib.hid hex1
        clear hex1
        obtain ⟨⟨ey1, ey1'⟩, hey1⟩ : ∃ m, m = maxK true bs (k + 1) := ⟨_, rfl⟩
        rw [← hey1] at HN4
        have HM4 := Lib.hid hey1
        clear hey1
        obtain ⟨⟨e1, e2⟩, he⟩ : ∃ E, E = x.en false := ⟨_, rfl⟩
        obtain ⟨⟨g1, g2⟩, hg⟩ : ∃ E, E = x.en true := ⟨_, rfl⟩
        rw [← he] at HA9 HL3 HN3
        rw [← hg] at HA10 HL4 HN4
        unfold GotFr at HA9 HA10
        dsimp only at HA9 HA10 HL3 HL4
        have z0 := vb.c0
        have z1 := vb.c1
        have z2 := vb.c2
        have z3 := vb.c3
        have z4 := vb.c4
        have z5 := vb.c5
        have z6 := vb.c6
        have z7 := vb.c7
        have z8 := vb.c8
        have z9 := vb.c9
        have z10 := vb.c10
        have z11 := vb.c11
        have z12 := vb.c12
        have z13 := vb.c13
        have z14 := vb.c14
        have hwr : v1.heap.size ≤ wr.heap.size := HR.out.bel.size
        have hbr : b0 < wr.heap.size := by omega
        have r6 := HR.out.h6.lt
        have r7 := HR.out.h7.lt
        have r8 := HR.out.h8.lt
        have r9 := HR.out.h9.lt
        have hki : (0 : Int) ≤ (k : Int) := by omega
        have hkl : (k : Int) < (N : Int) := by omega
        clear he hg hx vb vb0 hbo hvx hvy s1 s2 s3 s4 Vmx0 Vmy0 Vex0 Vey0 Emx0 Emy0 Eex0 Eey0
        obtain ⟨k', sg, t, m, st, mn, mx, ⟨x1, x2⟩, ⟨y1, y2⟩, ⟨w1, w2⟩, ⟨h1, h2⟩⟩ := x
        dsimp only at HA9 HA10 HL1 HL2 z0 z1 z2 z3 z4 z5 z6 z7 z8 z9 z10 z11 z12 z13 z14
        have HN1 := Lib.hid (show (⟨mx1, mx1'⟩ : Fr) = if L1 = true then ⟨x1, x2⟩ else ⟨mx0, mx0'⟩ from HN1.out)
        have HN2 := Lib.hid (show (⟨my1, my1'⟩ : Fr) = if L2 = true then ⟨y1, y2⟩ else ⟨my0, my0'⟩ from HN2.out)
        go_upto_region 13 with fail
        obtain ⟨Y, hY⟩ : ∃ Y, Y = wr.alloc (.cells #[.int .i64 k', .int .i64 sg, .int .i64 t, .bool m, .int .i64 st, .int .i64 mn, .int .i64 mx, .int .i64 x1, .int .i64 x2, .int .i64 y1, .int .i64 y2, .int .i64 w1, .int .i64 w2, .int .i64 h1, .int .i64 h2] 82) := ⟨_, rfl⟩
        have BZ := Lib.hid (show Y.heap[wr.heap.size]? = some (.cells #[.int .i64 k', .int .i64 sg, .int .i64 t, .bool m, .int .i64 st, .int .i64 mn, .int .i64 mx, .int .i64 x1, .int .i64 x2, .int .i64 y1, .int .i64 y2, .int .i64 w1, .int .i64 w2, .int .i64 h1, .int .i64 h2] 82 (0, 0)) from hY ▸ heap_alloc_new _ _)
        have RZ := Lib.hid (show Ex4 v1 x6 x7 x8 x9 ⟨mx0, mx0'⟩ ⟨my0, my0'⟩ ⟨ex0, ex0'⟩ ⟨ey0, ey0'⟩ Y from HR.out.below (hY ▸ below_alloc _ _))
        rw [← hY]
        clear hY z0 z1 z2 z3 z4 z5 z6 z7 z8 z9 z10 z11 z12 z13 z14 hbr HR
        have b0 := cell_of_blk BZ.out 0; have b1 := cell_of_blk BZ.out 1; have b2 := cell_of_blk BZ.out 2; have b3 := cell_of_blk BZ.out 3; have b4 := cell_of_blk BZ.out 4; have b5 := cell_of_blk BZ.out 5; have b6 := cell_of_blk BZ.out 6; have b7 := cell_of_blk BZ.out 7; have b8 := cell_of_blk BZ.out 8; have b9 := cell_of_blk BZ.out 9; have b10 := cell_of_blk BZ.out 10; have b11 := cell_of_blk BZ.out 11; have b12 := cell_of_blk BZ.out 12; have b13 := cell_of_blk BZ.out 13; have b14 := cell_of_blk BZ.out 14; have hz_b := (Array.getElem?_eq_some_iff.1 BZ.out).1; simp at b0 b1 b2 b3 b4 b5 b6 b7 b8 b9 b10 b11 b12 b13 b14
        have q0 := (RZ.out.h6).c0; have q1 := (RZ.out.h6).c1; have qf0 := (RZ.out.h6).f0; have qf1 := (RZ.out.h6).f1; have qz := (RZ.out.h6).lt
        go_wp2_with fail
        refine (HL1.out _).mono ?_; rintro e v0' ⟨rfl, hbj⟩
        have RZ := Lib.hid (RZ.out.below hbj)
        have BZ := Lib.hid (blk_keep hbj BZ.out)
        clear hbj b0 b1 b2 b3 b4 b5 b6 b7 b8 b9 b10 b11 b12 b13 b14 hz_b q0 q1 qf0 qf1 qz
        go_upto_if 58 with fail
        go_cut [] (fun wx => Hid (Ex4 v1 x6 x7 x8 x9 ⟨mx1, mx1'⟩ ⟨my0, my0'⟩ ⟨ex0, ex0'⟩ ⟨ey0, ey0'⟩ wx) ∧ Hid (wx.heap[wr.heap.size]? = some (.cells #[.int .i64 k', .int .i64 sg, .int .i64 t, .bool m, .int .i64 st, .int .i64 mn, .int .i64 mx, .int .i64 x1, .int .i64 x2, .int .i64 y1, .int .i64 y2, .int .i64 w1, .int .i64 w2, .int .i64 h1, .int .i64 h2] 82 (0, 0))))
        case first =>
          cases L1
          case false =>
            go_wp2_with fail
            go_meet
            exact ⟨Lib.hid (by rw [HN1.out]; exact RZ.out), BZ⟩
          case true =>
            have b0 := cell_of_blk BZ.out 0; have b1 := cell_of_blk BZ.out 1; have b2 := cell_of_blk BZ.out 2; have b3 := cell_of_blk BZ.out 3; have b4 := cell_of_blk BZ.out 4; have b5 := cell_of_blk BZ.out 5; have b6 := cell_of_blk BZ.out 6; have b7 := cell_of_blk BZ.out 7; have b8 := cell_of_blk BZ.out 8; have b9 := cell_of_blk BZ.out 9; have b10 := cell_of_blk BZ.out 10; have b11 := cell_of_blk BZ.out 11; have b12 := cell_of_blk BZ.out 12; have b13 := cell_of_blk BZ.out 13; have b14 := cell_of_blk BZ.out 14; have hz_b := (Array.getElem?_eq_some_iff.1 BZ.out).1; simp at b0 b1 b2 b3 b4 b5 b6 b7 b8 b9 b10 b11 b12 b13 b14
            have q0 := (RZ.out.h6).c0; have q1 := (RZ.out.h6).c1; have qf0 := (RZ.out.h6).f0; have qf1 := (RZ.out.h6).f1; have qz := (RZ.out.h6).lt
            go_wp2_with fail
            go_meet
            exact ⟨Lib.hid (by rw [HN1.out]; exact RZ.out.set6 x1 x2), Lib.hid ((heap_setCell_other _ _ _ _ (by dsimp only; omega)).trans ((heap_setCell_other _ _ _ _ (by dsimp only; omega)).trans BZ.out))⟩
        case rest =>
        obtain ⟨hr1, hr2⟩ := hcut
        obtain ⟨Zc, hZc⟩ : ∃ Z, Z = wc := ⟨_, rfl⟩
        rw [← hZc] at hr1 hr2 ⊢
        have RZ := Lib.hid hr1.out
        have BZ := Lib.hid hr2.out
        clear hZc hr1 hr2
        have b0 := cell_of_blk BZ.out 0; have b1 := cell_of_blk BZ.out 1; have b2 := cell_of_blk BZ.out 2; have b3 := cell_of_blk BZ.out 3; have b4 := cell_of_blk BZ.out 4; have b5 := cell_of_blk BZ.out 5; have b6 := cell_of_blk BZ.out 6; have b7 := cell_of_blk BZ.out 7; have b8 := cell_of_blk BZ.out 8; have b9 := cell_of_blk BZ.out 9; have b10 := cell_of_blk BZ.out 10; have b11 := cell_of_blk BZ.out 11; have b12 := cell_of_blk BZ.out 12; have b13 := cell_of_blk BZ.out 13; have b14 := cell_of_blk BZ.out 14; have hz_b := (Array.getElem?_eq_some_iff.1 BZ.out).1; simp at b0 b1 b2 b3 b4 b5 b6 b7 b8 b9 b10 b11 b12 b13 b14
        have q0 := (RZ.out.h7).c0; have q1 := (RZ.out.h7).c1; have qf0 := (RZ.out.h7).f0; have qf1 := (RZ.out.h7).f1; have qz := (RZ.out.h7).lt
        go_wp2_with fail
        refine (HL2.out _).mono ?_; rintro e v1' ⟨rfl, hbj⟩
        have RZ := Lib.hid (RZ.out.below hbj)
        have BZ := Lib.hid (blk_keep hbj BZ.out)
        clear hbj b0 b1 b2 b3 b4 b5 b6 b7 b8 b9 b10 b11 b12 b13 b14 hz_b q0 q1 qf0 qf1 qz
        go_upto_if 64 with fail
        go_cut [] (fun wx => Hid (Ex4 v1 x6 x7 x8 x9 ⟨mx1, mx1'⟩ ⟨my1, my1'⟩ ⟨ex0, ex0'⟩ ⟨ey0, ey0'⟩ wx) ∧ Hid (wx.heap[wr.heap.size]? = some (.cells #[.int .i64 k', .int .i64 sg, .int .i64 t, .bool m, .int .i64 st, .int .i64 mn, .int .i64 mx, .int .i64 x1, .int .i64 x2, .int .i64 y1, .int .i64 y2, .int .i64 w1, .int .i64 w2, .int .i64 h1, .int .i64 h2] 82 (0, 0))))
        case first =>
          cases L2
          case false =>
            go_wp2_with fail
            go_meet
            exact ⟨Lib.hid (by rw [HN2.out]; exact RZ.out), BZ⟩
          case true =>
            have b0 := cell_of_blk BZ.out 0; have b1 := cell_of_blk BZ.out 1; have b2 := cell_of_blk BZ.out 2; have b3 := cell_of_blk BZ.out 3; have b4 := cell_of_blk BZ.out 4; have b5 := cell_of_blk BZ.out 5; have b6 := cell_of_blk BZ.out 6; have b7 := cell_of_blk BZ.out 7; have b8 := cell_of_blk BZ.out 8; have b9 := cell_of_blk BZ.out 9; have b10 := cell_of_blk BZ.out 10; have b11 := cell_of_blk BZ.out 11; have b12 := cell_of_blk BZ.out 12; have b13 := cell_of_blk BZ.out 13; have b14 := cell_of_blk BZ.out 14; have hz_b := (Array.getElem?_eq_some_iff.1 BZ.out).1; simp at b0 b1 b2 b3 b4 b5 b6 b7 b8 b9 b10 b11 b12 b13 b14
            have q0 := (RZ.out.h7).c0; have q1 := (RZ.out.h7).c1; have qf0 := (RZ.out.h7).f0; have qf1 := (RZ.out.h7).f1; have qz := (RZ.out.h7).lt
            go_wp2_with fail
            go_meet
            exact ⟨Lib.hid (by rw [HN2.out]; exact RZ.out.set7 y1 y2), Lib.hid ((heap_setCell_other _ _ _ _ (by dsimp only; omega)).trans ((heap_setCell_other _ _ _ _ (by dsimp only; omega)).trans BZ.out))⟩
        case rest =>
        obtain ⟨hr1, hr2⟩ := hcut
        obtain ⟨Zc, hZc⟩ : ∃ Z, Z = wc := ⟨_, rfl⟩
        rw [← hZc] at hr1 hr2 ⊢
        have RZ := Lib.hid hr1.out
        have BZ := Lib.hid hr2.out
        clear hZc hr1 hr2
        have b0 := cell_of_blk BZ.out 0; have b1 := cell_of_blk BZ.out 1; have b2 := cell_of_blk BZ.out 2; have b3 := cell_of_blk BZ.out 3; have b4 := cell_of_blk BZ.out 4; have b5 := cell_of_blk BZ.out 5; have b6 := cell_of_blk BZ.out 6; have b7 := cell_of_blk BZ.out 7; have b8 := cell_of_blk BZ.out 8; have b9 := cell_of_blk BZ.out 9; have b10 := cell_of_blk BZ.out 10; have b11 := cell_of_blk BZ.out 11; have b12 := cell_of_blk BZ.out 12; have b13 := cell_of_blk BZ.out 13; have b14 := cell_of_blk BZ.out 14; have hz_b := (Array.getElem?_eq_some_iff.1 BZ.out).1; simp at b0 b1 b2 b3 b4 b5 b6 b7 b8 b9 b10 b11 b12 b13 b14
        have q0 := (RZ.out.h8).c0; have q1 := (RZ.out.h8).c1; have qf0 := (RZ.out.h8).f0; have qf1 := (RZ.out.h8).f1; have qz := (RZ.out.h8).lt
        go_upto_region 17 with fail
        refine wp_region_later (by kernel_rfl) (by kernel_rfl) ?_; (repeat (first | go_big_quiet_step ((first | ((go_at_call 83; exact Calls.later _ (HA9.out _))) | ((go_at_call 84; exact Calls.later _ (HL3.out _))))) | quiet_step ((first | ((go_at_call 83; exact Calls.later _ (HA9.out _))) | ((go_at_call 84; exact Calls.later _ (HL3.out _))))))); refine wpQuiet_nil ?_; rintro _ ⟨s, rfl⟩
        have RZ := Lib.hid (RZ.out.below s.below)
        have BZ := Lib.hid (blk_keep s.below BZ.out)
        obtain ⟨Z, hZ⟩ : ∃ Z, Z = s.w := ⟨_, rfl⟩
        rw [← hZ] at RZ BZ ⊢
        clear hZ s b0 b1 b2 b3 b4 b5 b6 b7 b8 b9 b10 b11 b12 b13 b14 hz_b q0 q1 qf0 qf1 qz
        go_upto_if 73 with fail
        go_cut [] (fun wx => Hid (Ex4 v1 x6 x7 x8 x9 ⟨mx1, mx1'⟩ ⟨my1, my1'⟩ ⟨ex1, ex1'⟩ ⟨ey0, ey0'⟩ wx) ∧ Hid (wx.heap[wr.heap.size]? = some (.cells #[.int .i64 k', .int .i64 sg, .int .i64 t, .bool m, .int .i64 st, .int .i64 mn, .int .i64 mx, .int .i64 x1, .int .i64 x2, .int .i64 y1, .int .i64 y2, .int .i64 w1, .int .i64 w2, .int .i64 h1, .int .i64 h2] 82 (0, 0))))
        case first =>
          cases L3
          case false =>
            go_wp2_with fail
            go_meet
            exact ⟨Lib.hid (by rw [HN3.out]; exact RZ.out), BZ⟩
          case true =>
            have b0 := cell_of_blk BZ.out 0; have b1 := cell_of_blk BZ.out 1; have b2 := cell_of_blk BZ.out 2; have b3 := cell_of_blk BZ.out 3; have b4 := cell_of_blk BZ.out 4; have b5 := cell_of_blk BZ.out 5; have b6 := cell_of_blk BZ.out 6; have b7 := cell_of_blk BZ.out 7; have b8 := cell_of_blk BZ.out 8; have b9 := cell_of_blk BZ.out 9; have b10 := cell_of_blk BZ.out 10; have b11 := cell_of_blk BZ.out 11; have b12 := cell_of_blk BZ.out 12; have b13 := cell_of_blk BZ.out 13; have b14 := cell_of_blk BZ.out 14; have hz_b := (Array.getElem?_eq_some_iff.1 BZ.out).1; simp at b0 b1 b2 b3 b4 b5 b6 b7 b8 b9 b10 b11 b12 b13 b14
            have q0 := (RZ.out.h8).c0; have q1 := (RZ.out.h8).c1; have qf0 := (RZ.out.h8).f0; have qf1 := (RZ.out.h8).f1; have qz := (RZ.out.h8).lt
            go_wp2_with fail
            refine (HA9.out _).mono ?_; rintro e vj ⟨rfl, hbj⟩
            have RZ := Lib.hid (RZ.out.below hbj)
            have BZ := Lib.hid (blk_keep hbj BZ.out)
            clear hbj b0 b1 b2 b3 b4 b5 b6 b7 b8 b9 b10 b11 b12 b13 b14 hz_b q0 q1 qf0 qf1 qz
            have q0 := (RZ.out.h8).c0; have q1 := (RZ.out.h8).c1; have qf0 := (RZ.out.h8).f0; have qf1 := (RZ.out.h8).f1; have qz := (RZ.out.h8).lt
            go_wp2_with fail
            go_meet
            exact ⟨Lib.hid (by rw [HN3.out]; exact RZ.out.set8 e1 e2), Lib.hid ((heap_setCell_other _ _ _ _ (by dsimp only; omega)).trans ((heap_setCell_other _ _ _ _ (by dsimp only; omega)).trans BZ.out))⟩
        case rest =>
        obtain ⟨hr1, hr2⟩ := hcut
        obtain ⟨Zc, hZc⟩ : ∃ Z, Z = wc := ⟨_, rfl⟩
        rw [← hZc] at hr1 hr2 ⊢
        have RZ := Lib.hid hr1.out
        have BZ := Lib.hid hr2.out
        clear hZc hr1 hr2
        have b0 := cell_of_blk BZ.out 0; have b1 := cell_of_blk BZ.out 1; have b2 := cell_of_blk BZ.out 2; have b3 := cell_of_blk BZ.out 3; have b4 := cell_of_blk BZ.out 4; have b5 := cell_of_blk BZ.out 5; have b6 := cell_of_blk BZ.out 6; have b7 := cell_of_blk BZ.out 7; have b8 := cell_of_blk BZ.out 8; have b9 := cell_of_blk BZ.out 9; have b10 := cell_of_blk BZ.out 10; have b11 := cell_of_blk BZ.out 11; have b12 := cell_of_blk BZ.out 12; have b13 := cell_of_blk BZ.out 13; have b14 := cell_of_blk BZ.out 14; have hz_b := (Array.getElem?_eq_some_iff.1 BZ.out).1; simp at b0 b1 b2 b3 b4 b5 b6 b7 b8 b9 b10 b11 b12 b13 b14
        have q0 := (RZ.out.h9).c0; have q1 := (RZ.out.h9).c1; have qf0 := (RZ.out.h9).f0; have qf1 := (RZ.out.h9).f1; have qz := (RZ.out.h9).lt
        go_upto_region 19 with fail
        refine wp_region_later (by kernel_rfl) (by kernel_rfl) ?_; (repeat (first | go_big_quiet_step ((first | ((go_at_call 83; exact Calls.later _ (HA10.out _))) | ((go_at_call 84; exact Calls.later _ (HL4.out _))))) | quiet_step ((first | ((go_at_call 83; exact Calls.later _ (HA10.out _))) | ((go_at_call 84; exact Calls.later _ (HL4.out _))))))); refine wpQuiet_nil ?_; rintro _ ⟨s, rfl⟩
        have RZ := Lib.hid (RZ.out.below s.below)
        have BZ := Lib.hid (blk_keep s.below BZ.out)
        obtain ⟨Z, hZ⟩ : ∃ Z, Z = s.w := ⟨_, rfl⟩
        rw [← hZ] at RZ BZ ⊢
        clear hZ s b0 b1 b2 b3 b4 b5 b6 b7 b8 b9 b10 b11 b12 b13 b14 hz_b q0 q1 qf0 qf1 qz
        go_upto_if 85 with fail
        cases L4
        case false =>
          go_wp2_with fail
          go_roundw
          all_goals first
            | exact ⟨k + 1, by omega, by go_num, Lib.hid (by rw [← HM1.out, ← HM2.out, ← HM3.out, ← HM4.out, HN4.out]; exact RZ.out)⟩
            | (simp [intOf]; done)
            | (simp [intOf]; omega)
        case true =>
          have b0 := cell_of_blk BZ.out 0; have b1 := cell_of_blk BZ.out 1; have b2 := cell_of_blk BZ.out 2; have b3 := cell_of_blk BZ.out 3; have b4 := cell_of_blk BZ.out 4; have b5 := cell_of_blk BZ.out 5; have b6 := cell_of_blk BZ.out 6; have b7 := cell_of_blk BZ.out 7; have b8 := cell_of_blk BZ.out 8; have b9 := cell_of_blk BZ.out 9; have b10 := cell_of_blk BZ.out 10; have b11 := cell_of_blk BZ.out 11; have b12 := cell_of_blk BZ.out 12; have b13 := cell_of_blk BZ.out 13; have b14 := cell_of_blk BZ.out 14; have hz_b := (Array.getElem?_eq_some_iff.1 BZ.out).1; simp at b0 b1 b2 b3 b4 b5 b6 b7 b8 b9 b10 b11 b12 b13 b14
          have q0 := (RZ.out.h9).c0; have q1 := (RZ.out.h9).c1; have qf0 := (RZ.out.h9).f0; have qf1 := (RZ.out.h9).f1; have qz := (RZ.out.h9).lt
          go_wp2_with fail
          refine (HA10.out _).mono ?_; rintro e vj ⟨rfl, hbj⟩
          have RZ := Lib.hid (RZ.out.below hbj)
          have BZ := Lib.hid (blk_keep hbj BZ.out)
          clear hbj b0 b1 b2 b3 b4 b5 b6 b7 b8 b9 b10 b11 b12 b13 b14 hz_b q0 q1 qf0 qf1 qz
          have q0 := (RZ.out.h9).c0; have q1 := (RZ.out.h9).c1; have qf0 := (RZ.out.h9).f0; have qf1 := (RZ.out.h9).f1; have qz := (RZ.out.h9).lt
          go_wp2_with fail
          go_roundw
          all_goals first
            | exact ⟨k + 1, by omega, by go_num, Lib.hid (by rw [← HM1.out, ← HM2.out, ← HM3.out, ← HM4.out, HN4.out]; exact RZ.out.set9 g1 g2)⟩
            | (simp [intOf]; done)
            | (simp [intOf]; omega)
    · (
        obtain rfl : k = N := by omega
        have Vmx0 := Lib.hid (HMO.out false k)
        obtain ⟨⟨mx0, mx0'⟩, hmx0⟩ : ∃ m, m = minK false bs k := ⟨_, rfl⟩
        rw [← hmx0] at HR Vmx0
        have Emx0 := Lib.hid hmx0
        clear hmx0
        have Vmy0 := Lib.hid (HMO.out true k)
        obtain ⟨⟨my0, my0'⟩, hmy0⟩ : ∃ m, m = minK true bs k := ⟨_, rfl⟩
        rw [← hmy0] at HR Vmy0
        have Emy0 := Lib.hid hmy0
        clear hmy0
        have Vex0 := Lib.hid (HXO.out false k)
        obtain ⟨⟨ex0, ex0'⟩, hex0⟩ : ∃ m, m = maxK false bs k := ⟨_, rfl⟩
        rw [← hex0] at HR Vex0
        have Eex0 := Lib.hid hex0
        clear hex0
        have Vey0 := Lib.hid (HXO.out true k)
        obtain ⟨⟨ey0, ey0'⟩, hey0⟩ : ∃ m, m = maxK true bs k := ⟨_, rfl⟩
        rw [← hey0] at HR Vey0
        have Eey0 := Lib.hid hey0
        clear hey0
        have HS1 := Lib.hid (fun wx => show Calls Tryz.prog 85 #[.agg #[.int .i64 ex0, .int .i64 ex0'], .agg #[.int .i64 mx0, .int .i64 mx0']] wx (GotFr wx ZX) by
          have := rsub_small (show validB ex0 ex0' = true from Vex0.out) (show validB mx0 mx0' = true from Vmx0.out) wx
          rw [HZX.out, ← Eex0.out, ← Emx0.out]; exact this)
        have HS2 := Lib.hid (fun wx => show Calls Tryz.prog 85 #[.agg #[.int .i64 ey0, .int .i64 ey0'], .agg #[.int .i64 my0, .int .i64 my0']] wx (GotFr wx ZY) by
          have := rsub_small (show validB ey0 ey0' = true from Vey0.out) (show validB my0 my0' = true from Vmy0.out) wx
          rw [HZY.out, ← Eey0.out, ← Emy0.out]; exact this)
        have HSS := Lib.hid (show SX = ⟨mx0, mx0'⟩ ∧ SY = ⟨my0, my0'⟩ from ⟨by rw [HSX.out, Emx0.out], by rw [HSY.out, Emy0.out]⟩)
        obtain ⟨P1, P2⟩ := ZX
        obtain ⟨Q1, Q2⟩ := ZY
        unfold GotFr at HS1 HS2
        dsimp only at HS1 HS2 HV1 HV2
        have HKS := Lib.hid (fun wx (h : Below wr.heap.size wr wx) => show (wx.cell? ⟨x8, 0, none⟩ = some (.int .i64 ex0) ∧ wx.cell? ⟨x8, 1, none⟩ = some (.int .i64 ex0')) ∧ (wx.cell? ⟨x6, 0, none⟩ = some (.int .i64 mx0) ∧ wx.cell? ⟨x6, 1, none⟩ = some (.int .i64 mx0')) ∧ (wx.cell? ⟨x9, 0, none⟩ = some (.int .i64 ey0) ∧ wx.cell? ⟨x9, 1, none⟩ = some (.int .i64 ey0')) ∧ wx.cell? ⟨x7, 0, none⟩ = some (.int .i64 my0) ∧ wx.cell? ⟨x7, 1, none⟩ = some (.int .i64 my0') from
          have a := HR.out.below h
          ⟨⟨a.h8.c0, a.h8.c1⟩, ⟨a.h6.c0, a.h6.c1⟩, ⟨a.h9.c0, a.h9.c1⟩, a.h7.c0, a.h7.c1⟩)
        have HDR := Lib.hid (show Below wr.heap.size wr wr.drew from (Below.refl _ _).drew)
        have r6 := HR.out.h6.lt
        have r7 := HR.out.h7.lt
        have r8 := HR.out.h8.lt
        have r9 := HR.out.h9.lt
        have hwr : v1.heap.size ≤ wr.heap.size := HR.out.bel.size
        clear Vmx0 Vmy0 Vex0 Vey0 Emx0 Emy0 Eex0 Eey0 HZX HZY HSX HSY HMO HXO HM0 HX0
        go_upto_region 21 with fail
        go_cut [12, 13] (fun p q wx => ∃ x8 x9, p = .pointer (some ⟨x8, 0, none⟩) ∧ q = .pointer (some ⟨x9, 0, none⟩) ∧ Hid (New2 wr x8 x9 ⟨P1, P2⟩ ⟨Q1, Q2⟩ wx))
        case first => as_aux_lemma =>
          go_region_held3 (fun wx => (wx.cell? ⟨x8, 0, none⟩ = some (.int .i64 ex0) ∧ wx.cell? ⟨x8, 1, none⟩ = some (.int .i64 ex0')) ∧ (wx.cell? ⟨x6, 0, none⟩ = some (.int .i64 mx0) ∧ wx.cell? ⟨x6, 1, none⟩ = some (.int .i64 mx0')) ∧ (wx.cell? ⟨x9, 0, none⟩ = some (.int .i64 ey0) ∧ wx.cell? ⟨x9, 1, none⟩ = some (.int .i64 ey0')) ∧ wx.cell? ⟨x7, 0, none⟩ = some (.int .i64 my0) ∧ wx.cell? ⟨x7, 1, none⟩ = some (.int .i64 my0'))
            ((refine HKS.out _ ?_; (repeat (first | with_reducible assumption | with_reducible exact Below.refl _ _ | with_reducible refine Below.drew ?_ | (with_reducible refine Below.alloc ?_ (by first | omega | (simp; omega) | simp) _) | (with_reducible refine Below.setCell ?_ (by first | omega | (simp; omega) | simp) _)))))
            (first
              | (have hzz := hba; go_at_call 85; refine (HS2.out _).mono ?_; rintro e wb ⟨rfl, hbb⟩
                 have kab : Below wa.heap.size wa wb := by first | with_reducible exact hbb | exact below_of hbb | exact below_of (below_of hbb)
                 have kb := below_more ka kab
                 have zb := hbb.size; (try simp at zb)
                 (try (have f1 := Has.below e1 kab; have qa0 := (f1).c0; have qa1 := (f1).c1; have qaf0 := (f1).f0; have qaf1 := (f1).f1; have qaz := (f1).lt))
                 (try (have f2 := Has.below e2 kab; have qb0 := (f2).c0; have qb1 := (f2).c1; have qbf0 := (f2).f0; have qbf1 := (f2).f1; have qbz := (f2).lt))
                 (try (have f3 := Has.below (Has.new wa 0 0) hbb; have qc0 := (f3).c0; have qc1 := (f3).c1; have qcf0 := (f3).f0; have qcf1 := (f3).f1; have qcz := (f3).lt))
                 (try (have f3 := Has.below (Has.alloc (Has.new wa 0 0) _) hbb; have f4 := (New2.none_ (a := ⟨0, 0⟩) (b := ⟨0, 0⟩) (Below.refl wa.heap.size wa)).h2.below hbb; have qc0 := (f3).c0; have qc1 := (f3).c1; have qcf0 := (f3).f0; have qcf1 := (f3).f1; have qcz := (f3).lt; have qd0 := (f4).c0; have qd1 := (f4).c1; have qdf0 := (f4).f0; have qdf1 := (f4).f1; have qdz := (f4).lt)))
              | (go_at_call 85; refine (HS1.out _).mono ?_; rintro e wa ⟨rfl, hba⟩
                 have ka : Below wr.heap.size wr wa := by first | exact un_drew hba | exact below_of (un_drew hba) | exact below_of (below_of (un_drew hba))
                 have za := hba.size; (try simp at za)
                 (try (have e1 := Has.below (Has.drew (Has.new wr 0 0)) hba))
                 (try (have e1 := Has.below (Has.drew (Has.alloc (Has.new wr 0 0) _)) hba; have e2 := (New2.none_ (a := ⟨0, 0⟩) (b := ⟨0, 0⟩) (Below.refl wr.heap.size wr)).h2.drew.below hba)))
              | fail)
          all_goals (
            go_wp2_with fail
            go_meet
            refine ⟨_, _, rfl, rfl, Lib.hid ?_⟩
            first
            | with_reducible exact New2.none_ kb
            | with_reducible exact New2.rev kb
            | (with_reducible refine New2.fst kb ?_ ?_ <;> first | with_reducible assumption | omega)
            | (with_reducible refine New2.snd kb ?_ ?_ <;> first | with_reducible assumption | omega)
            | (with_reducible refine New2.both kb ?_ ?_ ?_ ?_ ?_ <;> first | with_reducible assumption | omega)
            | fail)
        case rest =>
        obtain ⟨x12, x13, rfl, rfl, h2⟩ := hcut
        obtain ⟨Z3, hZ3⟩ : ∃ Z, Z = wc := ⟨_, rfl⟩
        rw [← hZ3] at h2 ⊢
        have N3 := Lib.hid h2.out
        have EX := Lib.hid (HR.out.below N3.out.bel)
        clear hZ3 h2 HKS HDR HS1 HS2 HR
        have a0 := (N3.out.h1).c0; have a1 := (N3.out.h1).c1; have af0 := (N3.out.h1).f0; have af1 := (N3.out.h1).f1; have az := (N3.out.h1).lt
        go_wp2_with fail
        refine (HV1.out _).mono ?_; rintro e v6 ⟨rfl, hb6⟩
        have EX := Lib.hid (EX.out.below hb6)
        have H13 := Lib.hid (N3.out.h2.below hb6)
        have H12 := Lib.hid (N3.out.h1.below hb6)
        clear hb6 a0 a1 af0 af1 az N3
        cases V1
        case false =>
          have HF := Lib.hid (show R = ((⟨0, 0⟩, ⟨0, 0⟩, ⟨0, 0⟩, ⟨0, 0⟩), 41) by first | (rw [HF.out]; rfl) | (rw [HF.out, if_neg (by omega)]; rfl))
          have HBF := Lib.hid EX.out.bel
          have D0 := Lib.hid (blk_keep HBF.out D0.out)
          have D1 := Lib.hid (blk_keep HBF.out D1.out)
          have p0 := cell_of_blk D0.out 0; have pf0 := free_of_blk D0.out 0; have p1 := cell_of_blk D0.out 1; have pf1 := free_of_blk D0.out 1; have p2 := cell_of_blk D0.out 2; have pf2 := free_of_blk D0.out 2; have p3 := cell_of_blk D0.out 3; have pf3 := free_of_blk D0.out 3; have p4 := cell_of_blk D0.out 4; have pf4 := free_of_blk D0.out 4; have p5 := cell_of_blk D0.out 5; have pf5 := free_of_blk D0.out 5; have p6 := cell_of_blk D0.out 6; have pf6 := free_of_blk D0.out 6; have p7 := cell_of_blk D0.out 7; have pf7 := free_of_blk D0.out 7; have hz_p := (Array.getElem?_eq_some_iff.1 D0.out).1; simp at p0 p1 p2 p3 p4 p5 p6 p7
          have q0 := cell_of_blk D1.out 0; have q1 := cell_of_blk D1.out 1; have q2 := cell_of_blk D1.out 2; have q3 := cell_of_blk D1.out 3; have q4 := cell_of_blk D1.out 4; have q5 := cell_of_blk D1.out 5; have q6 := cell_of_blk D1.out 6; have q7 := cell_of_blk D1.out 7; have hz_q := (Array.getElem?_eq_some_iff.1 D1.out).1; simp at q0 q1 q2 q3 q4 q5 q6 q7
          go_wp2_with fail
          rw [HF.out]
          refine bodyPost_ret (v := .tuple #[.agg #[.int .i64 0, .int .i64 0, .int .i64 0, .int .i64 0, .int .i64 0, .int .i64 0, .int .i64 0, .int .i64 0], .int .i64 41]) (by simp [results, Tryz.results38, go_sem, p0, p1, p2, p3, p4, p5, p6, p7]) rfl ⟨rfl, ?_⟩
          have hbf := below_more HB1.out HBF.out
          clear p0 p1 p2 p3 p4 p5 p6 p7 hz_p pf0 pf1 pf2 pf3 pf4 pf5 pf6 pf7
          iterate 8 (refine Below.setCell ?_ (by dsimp only; omega) _)
          exact hbf
        have a0 := (H13.out).c0; have a1 := (H13.out).c1; have af0 := (H13.out).f0; have af1 := (H13.out).f1; have az := (H13.out).lt
        go_wp2_with fail
        refine (HV2.out _).mono ?_; rintro e v7 ⟨rfl, hb7⟩
        have EX := Lib.hid (EX.out.below hb7)
        have H13 := Lib.hid (H13.out.below hb7)
        have H12 := Lib.hid (H12.out.below hb7)
        have HBF := Lib.hid EX.out.bel
        have D0 := Lib.hid (blk_keep HBF.out D0.out)
        have D1 := Lib.hid (blk_keep HBF.out D1.out)
        clear hb7 a0 a1 af0 af1 az
        cases V2
        case false =>
          have HF := Lib.hid (show R = ((⟨0, 0⟩, ⟨0, 0⟩, ⟨0, 0⟩, ⟨0, 0⟩), 41) by first | (rw [HF.out]; rfl) | (rw [HF.out, if_neg (by omega)]; rfl))
          have p0 := cell_of_blk D0.out 0; have pf0 := free_of_blk D0.out 0; have p1 := cell_of_blk D0.out 1; have pf1 := free_of_blk D0.out 1; have p2 := cell_of_blk D0.out 2; have pf2 := free_of_blk D0.out 2; have p3 := cell_of_blk D0.out 3; have pf3 := free_of_blk D0.out 3; have p4 := cell_of_blk D0.out 4; have pf4 := free_of_blk D0.out 4; have p5 := cell_of_blk D0.out 5; have pf5 := free_of_blk D0.out 5; have p6 := cell_of_blk D0.out 6; have pf6 := free_of_blk D0.out 6; have p7 := cell_of_blk D0.out 7; have pf7 := free_of_blk D0.out 7; have hz_p := (Array.getElem?_eq_some_iff.1 D0.out).1; simp at p0 p1 p2 p3 p4 p5 p6 p7
          have q0 := cell_of_blk D1.out 0; have q1 := cell_of_blk D1.out 1; have q2 := cell_of_blk D1.out 2; have q3 := cell_of_blk D1.out 3; have q4 := cell_of_blk D1.out 4; have q5 := cell_of_blk D1.out 5; have q6 := cell_of_blk D1.out 6; have q7 := cell_of_blk D1.out 7; have hz_q := (Array.getElem?_eq_some_iff.1 D1.out).1; simp at q0 q1 q2 q3 q4 q5 q6 q7
          go_wp2_with fail
          rw [HF.out]
          refine bodyPost_ret (v := .tuple #[.agg #[.int .i64 0, .int .i64 0, .int .i64 0, .int .i64 0, .int .i64 0, .int .i64 0, .int .i64 0, .int .i64 0], .int .i64 41]) (by simp [results, Tryz.results38, go_sem, p0, p1, p2, p3, p4, p5, p6, p7]) rfl ⟨rfl, ?_⟩
          have hbf := below_more HB1.out HBF.out
          clear p0 p1 p2 p3 p4 p5 p6 p7 hz_p pf0 pf1 pf2 pf3 pf4 pf5 pf6 pf7
          iterate 8 (refine Below.setCell ?_ (by dsimp only; omega) _)
          exact hbf
        have HF := Lib.hid (show R = ((⟨mx0, mx0'⟩, ⟨my0, my0'⟩, ⟨P1, P2⟩, ⟨Q1, Q2⟩), 0) by first | (rw [HF.out, HSS.out.1, HSS.out.2]; rfl) | (rw [HF.out, if_neg (by omega), HSS.out.1, HSS.out.2]; rfl))
        have a0 := (EX.out.h6).c0; have a1 := (EX.out.h6).c1; have af0 := (EX.out.h6).f0; have af1 := (EX.out.h6).f1; have az := (EX.out.h6).lt
        have bb0 := (EX.out.h7).c0; have bb1 := (EX.out.h7).c1; have bbf0 := (EX.out.h7).f0; have bbf1 := (EX.out.h7).f1; have bbz := (EX.out.h7).lt
        have c0 := (H12.out).c0; have c1 := (H12.out).c1; have cf0 := (H12.out).f0; have cf1 := (H12.out).f1; have cz := (H12.out).lt
        have d0 := (H13.out).c0; have d1 := (H13.out).c1; have df0 := (H13.out).f0; have df1 := (H13.out).f1; have dz := (H13.out).lt
        have p0 := cell_of_blk D0.out 0; have pf0 := free_of_blk D0.out 0; have p1 := cell_of_blk D0.out 1; have pf1 := free_of_blk D0.out 1; have p2 := cell_of_blk D0.out 2; have pf2 := free_of_blk D0.out 2; have p3 := cell_of_blk D0.out 3; have pf3 := free_of_blk D0.out 3; have p4 := cell_of_blk D0.out 4; have pf4 := free_of_blk D0.out 4; have p5 := cell_of_blk D0.out 5; have pf5 := free_of_blk D0.out 5; have p6 := cell_of_blk D0.out 6; have pf6 := free_of_blk D0.out 6; have p7 := cell_of_blk D0.out 7; have pf7 := free_of_blk D0.out 7; have hz_p := (Array.getElem?_eq_some_iff.1 D0.out).1; simp at p0 p1 p2 p3 p4 p5 p6 p7
        go_wp2_with fail
        rw [HF.out]
        refine bodyPost_ret (v := .tuple #[.agg #[.int .i64 mx0, .int .i64 mx0', .int .i64 my0, .int .i64 my0', .int .i64 P1, .int .i64 P2, .int .i64 Q1, .int .i64 Q2], .int .i64 0]) (by simp [results, Tryz.results38, go_sem, p0, p1, p2, p3, p4, p5, p6, p7]) rfl ⟨rfl, ?_⟩
        have hbf := below_more HB1.out HBF.out
        clear p0 p1 p2 p3 p4 p5 p6 p7 hz_p pf0 pf1 pf2 pf3 pf4 pf5 pf6 pf7 a0 a1 af0 af1 bb0 bb1 bbf0 bbf1 c0 c1 cf0 cf1 d0 d1 df0 df1
        iterate 8 (refine Below.setCell ?_ (by dsimp only; omega) _)
        exact hbf)

end Go.Proofs.YtcijomljopbelaaGreat
