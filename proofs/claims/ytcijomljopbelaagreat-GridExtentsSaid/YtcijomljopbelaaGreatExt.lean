/-
  The smallest rectangle that contains all boxes (Extent), by the program.
-/
import Derived.Test.YtcijomljopbelaaGreatEx4
import Derived.Test.YtcijomljopbelaaGreatSpnD
namespace Go.Proofs.YtcijomljopbelaaGreat
open Go.RowKit

set_option maxRecDepth 100000 in
set_option maxHeartbeats 32000000 in
theorem ext_any (A : Option Addr) (cap : Nat) (bs : List Bx) (w : World) (hb : BxsAt w A bs) (hc1 : bs.length ≤ cap) (hc : cap ≤ maxLen) :
    Calls Tryz.prog 37 #[.slice A bs.length cap] w (GotExtP w (extR bs)) := by
  obtain ⟨R, hR⟩ : ∃ R, R = extR bs := ⟨_, rfl⟩
  have HR := Lib.hid (show R = if chkB bs ≠ 0 then ((⟨0, 0⟩, ⟨0, 0⟩, ⟨0, 0⟩, ⟨0, 0⟩), chkB bs) else if bs.length = 0 then ((⟨0, 0⟩, ⟨0, 0⟩, ⟨0, 0⟩, ⟨0, 0⟩), 3) else if (vF (extZ false bs) && vF (extZ true bs)) = true then ((extS false bs, extS true bs, extZ false bs, extZ true bs), 0) else ((⟨0, 0⟩, ⟨0, 0⟩, ⟨0, 0⟩, ⟨0, 0⟩), 41) from hR)
  have HCK := Lib.hid (fun wx (hbx : Below w.heap.size w wx) => checkb_any A cap bs wx (hb.below hbx) hc1 hc)
  have HSS := Lib.hid (fun (p : Nat) wx (hbx : Below w.heap.size w wx) (h0 : 0 < bs.length) (h2 : bs.length ≤ 200) (hok : ∀ x ∈ bs, bothB x = true) => spanS_any p A cap bs wx (hb.below hbx) hc1 hc h0 h2 hok)
  have HSD := Lib.hid (fun (p : Nat) wx (hbx : Below w.heap.size w wx) (h0 : 0 < bs.length) (h2 : bs.length ≤ 200) (hok : ∀ x ∈ bs, bothB x = true) => spanD_any p A cap bs wx (hb.below hbx) hc1 hc h0 h2 hok)
  obtain ⟨C, hC⟩ : ∃ C, C = chkB bs := ⟨_, rfl⟩
  have HCC := Lib.hid hC
  rw [← hC] at HR HCK
  obtain ⟨SX, hSX⟩ : ∃ r, r = extS false bs := ⟨_, rfl⟩
  obtain ⟨SY, hSY⟩ : ∃ r, r = extS true bs := ⟨_, rfl⟩
  obtain ⟨ZX, hZX⟩ : ∃ r, r = extZ false bs := ⟨_, rfl⟩
  obtain ⟨ZY, hZY⟩ : ∃ r, r = extZ true bs := ⟨_, rfl⟩
  rw [← hSX, ← hSY, ← hZX, ← hZY] at HR
  rw [← hSX, ← hZX] at HSS
  rw [← hSY, ← hZY] at HSD
  have HV1 := Lib.hid (fun wx => isValid_any ZX.num ZX.den wx)
  have HV2 := Lib.hid (fun wx => isValid_any ZY.num ZY.den wx)
  unfold vF at HR
  obtain ⟨V1, hV1⟩ : ∃ V, V = validB ZX.num ZX.den := ⟨_, rfl⟩
  obtain ⟨V2, hV2⟩ : ∃ V, V = validB ZY.num ZY.den := ⟨_, rfl⟩
  rw [← hV1, ← hV2] at HR
  rw [← hV1] at HV1
  rw [← hV2] at HV2
  obtain ⟨N, hN⟩ : ∃ N, N = bs.length := ⟨_, rfl⟩
  have HN := Lib.hid hN
  rw [← hR]
  rw [← hN] at HCK HR HSS HSD hc1 ⊢
  unfold maxLen at hc
  unfold GotSpan at HSS HSD
  clear hb hC hN hR hSX hSY hZX hZY hV1 hV2
  obtain ⟨W1, hW1⟩ : ∃ W', W' = w.alloc (.cells #[.int .i64 0, .int .i64 0] 40) := ⟨_, rfl⟩; obtain ⟨W2, hW2⟩ : ∃ W', W' = W1.alloc (.cells #[.int .i64 0, .int .i64 0] 40) := ⟨_, rfl⟩; obtain ⟨W3, hW3⟩ : ∃ W', W' = W2.alloc (.cells #[.int .i64 0, .int .i64 0] 40) := ⟨_, rfl⟩; obtain ⟨W4, hW4⟩ : ∃ W', W' = W3.alloc (.cells #[.int .i64 0, .int .i64 0] 40) := ⟨_, rfl⟩; obtain ⟨W, hW⟩ : ∃ W', W' = W4.alloc (.cells #[.int .i64 0, .int .i64 0] 40) := ⟨_, rfl⟩; have szW1 : W1.heap.size = w.heap.size + 1 := (by rw [hW1]; simp); have kbW1 : Below w.heap.size w W1 := hW1 ▸ below_alloc _ _; have szW2 : W2.heap.size = w.heap.size + 1 + 1 := (by rw [hW2]; simp [szW1]); have kbW2 : Below W1.heap.size W1 W2 := hW2 ▸ below_alloc _ _; have szW3 : W3.heap.size = w.heap.size + 1 + 1 + 1 := (by rw [hW3]; simp [szW2]); have kbW3 : Below W2.heap.size W2 W3 := hW3 ▸ below_alloc _ _; have szW4 : W4.heap.size = w.heap.size + 1 + 1 + 1 + 1 := (by rw [hW4]; simp [szW3]); have kbW4 : Below W3.heap.size W3 W4 := hW4 ▸ below_alloc _ _; have szW : W.heap.size = w.heap.size + 1 + 1 + 1 + 1 + 1 := (by rw [hW]; simp [szW4]); have kbW : Below W4.heap.size W4 W := hW ▸ below_alloc _ _; have HB := Lib.hid (below_more (below_more (below_more (below_more kbW1 kbW2) kbW3) kbW4) kbW); have D0 := Lib.hid (blk_keep kbW (blk_keep kbW4 (blk_keep kbW3 (blk_keep kbW2 (show W1.heap[w.heap.size]? = some (.cells #[.int .i64 0, .int .i64 0] 40 (0, 0)) by rw [hW1]; exact heap_alloc_new _ _))))); have D1 := Lib.hid (blk_keep kbW (blk_keep kbW4 (blk_keep kbW3 (show W2.heap[w.heap.size + 1]? = some (.cells #[.int .i64 0, .int .i64 0] 40 (0, 0)) by rw [hW2, ← szW1]; exact heap_alloc_new _ _)))); have D2 := Lib.hid (blk_keep kbW (blk_keep kbW4 (show W3.heap[w.heap.size + 1 + 1]? = some (.cells #[.int .i64 0, .int .i64 0] 40 (0, 0)) by rw [hW3, ← szW2]; exact heap_alloc_new _ _))); have D3 := Lib.hid (blk_keep kbW (show W4.heap[w.heap.size + 1 + 1 + 1]? = some (.cells #[.int .i64 0, .int .i64 0] 40 (0, 0)) by rw [hW4, ← szW3]; exact heap_alloc_new _ _)); have D4 := Lib.hid (show W.heap[w.heap.size + 1 + 1 + 1 + 1]? = some (.cells #[.int .i64 0, .int .i64 0] 40 (0, 0)) by rw [hW, ← szW4]; exact heap_alloc_new _ _); have SZW := Lib.hid szW; clear szW1 kbW1 szW2 kbW2 szW3 kbW3 szW4 kbW4 szW kbW
  have EX := Lib.hid (show Ex4 w w.heap.size (w.heap.size + 1) (w.heap.size + 1 + 1) (w.heap.size + 1 + 1 + 1) ⟨0, 0⟩ ⟨0, 0⟩ ⟨0, 0⟩ ⟨0, 0⟩ W from
    ⟨HB.out, D0.out, D1.out, D2.out, D3.out, by omega, by omega, by omega, by omega, by omega, by omega, by omega, by omega, by omega, by omega⟩)
  have H7 := Lib.hid (show Has (w.heap.size + 1 + 1 + 1 + 1) 0 0 W from D4.out)
  clear D0 D1 D2 D3 D4 SZW
  have HK7 := Lib.hid (fun wx (h : Has (w.heap.size + 1 + 1 + 1 + 1) 0 0 wx) => show wx.cell? ⟨w.heap.size + 1 + 1 + 1 + 1, 0, none⟩ = some (.int .i64 0) ∧ wx.cell? ⟨w.heap.size + 1 + 1 + 1 + 1, 1, none⟩ = some (.int .i64 0) from ⟨h.c0, h.c1⟩)
  go_enter Tryz.func37, Tryz.ntmps37
  go_wp2_with fail
  rw [← hW1, ← hW2, ← hW3, ← hW4, ← hW]; clear hW1 hW2 hW3 hW4 hW
  refine (HCK.out _ HB.out).mono ?_; rintro e v1 ⟨rfl, hb1⟩
  have EX := Lib.hid (EX.out.below hb1)
  have H7 := Lib.hid (H7.out.below hb1)
  clear hb1 HCK HB
  by_cases hC0 : C = 0
  case neg =>
    have hbE : (C != 0) = true := by simpa using hC0
    have HF := Lib.hid (show R = ((⟨0, 0⟩, ⟨0, 0⟩, ⟨0, 0⟩, ⟨0, 0⟩), C) by rw [HR.out, if_pos hC0])
    clear hC0 HR
    go_wp2_with fail
    have p0 := (EX.out.h6).c0; have p1 := (EX.out.h6).c1; have pf0 := (EX.out.h6).f0; have pf1 := (EX.out.h6).f1; have pz := (EX.out.h6).lt
    have q0 := (EX.out.h7).c0; have q1 := (EX.out.h7).c1; have qf0 := (EX.out.h7).f0; have qf1 := (EX.out.h7).f1; have qz := (EX.out.h7).lt
    have s0 := (EX.out.h8).c0; have s1 := (EX.out.h8).c1; have sf0 := (EX.out.h8).f0; have sf1 := (EX.out.h8).f1; have sz := (EX.out.h8).lt
    have t0 := (EX.out.h9).c0; have t1 := (EX.out.h9).c1; have tf0 := (EX.out.h9).f0; have tf1 := (EX.out.h9).f1; have tz := (EX.out.h9).lt
    have r0 := (H7.out).c0; have r1 := (H7.out).c1; have rf0 := (H7.out).f0; have rf1 := (H7.out).f1; have rz := (H7.out).lt
    go_region
    go_wp2_with fail
    rw [HF.out]
    refine bodyPost_ret (v := .tuple #[.agg #[.int .i64 0, .int .i64 0], .agg #[.int .i64 0, .int .i64 0], .agg #[.int .i64 0, .int .i64 0], .agg #[.int .i64 0, .int .i64 0], .int .i64 C]) (by simp [results, Tryz.results37, go_sem, p0, p1, q0, q1, s0, s1, t0, t1]) rfl ⟨rfl, ?_⟩
    have hbf := EX.out.bel
    clear p0 p1 pf0 pf1 q0 q1 qf0 qf1 s0 s1 sf0 sf1 t0 t1 tf0 tf1
    repeat (first | with_reducible exact hbf | with_reducible refine Below.drew ?_ | with_reducible refine Below.setCell ?_ (by dsimp only; omega) _)
  have HZ := Lib.hid (chk_zero (show chkB bs = 0 by rw [← HCC.out]; exact hC0))
  have HF := Lib.hid (show R = if N = 0 then ((⟨0, 0⟩, ⟨0, 0⟩, ⟨0, 0⟩, ⟨0, 0⟩), 3) else if (V1 && V2) = true then ((SX, SY, ZX, ZY), 0) else ((⟨0, 0⟩, ⟨0, 0⟩, ⟨0, 0⟩, ⟨0, 0⟩), 41) by rw [HR.out, if_neg (by simp [hC0])])
  have hbE : (C != 0) = false := by simpa using hC0
  clear hC0 HR HCC
  by_cases hN0 : N = 0
  case pos =>
    have HF := Lib.hid (show R = ((⟨0, 0⟩, ⟨0, 0⟩, ⟨0, 0⟩, ⟨0, 0⟩), 3) by rw [HF.out, if_pos hN0])
    have hne : ((N : Int) == 0) = true := by simp [hN0]
    clear hN0 HSS HSD
    go_wp2_with fail
    have p0 := (EX.out.h6).c0; have p1 := (EX.out.h6).c1; have pf0 := (EX.out.h6).f0; have pf1 := (EX.out.h6).f1; have pz := (EX.out.h6).lt
    have q0 := (EX.out.h7).c0; have q1 := (EX.out.h7).c1; have qf0 := (EX.out.h7).f0; have qf1 := (EX.out.h7).f1; have qz := (EX.out.h7).lt
    have s0 := (EX.out.h8).c0; have s1 := (EX.out.h8).c1; have sf0 := (EX.out.h8).f0; have sf1 := (EX.out.h8).f1; have sz := (EX.out.h8).lt
    have t0 := (EX.out.h9).c0; have t1 := (EX.out.h9).c1; have tf0 := (EX.out.h9).f0; have tf1 := (EX.out.h9).f1; have tz := (EX.out.h9).lt
    have r0 := (H7.out).c0; have r1 := (H7.out).c1; have rf0 := (H7.out).f0; have rf1 := (H7.out).f1; have rz := (H7.out).lt
    go_region
    go_wp2_with fail
    rw [HF.out]
    refine bodyPost_ret (v := .tuple #[.agg #[.int .i64 0, .int .i64 0], .agg #[.int .i64 0, .int .i64 0], .agg #[.int .i64 0, .int .i64 0], .agg #[.int .i64 0, .int .i64 0], .int .i64 3]) (by simp [results, Tryz.results37, go_sem, p0, p1, q0, q1, s0, s1, t0, t1]) rfl ⟨rfl, ?_⟩
    have hbf := EX.out.bel
    clear p0 p1 pf0 pf1 q0 q1 qf0 qf1 s0 s1 sf0 sf1 t0 t1 tf0 tf1
    repeat (first | with_reducible exact hbf | with_reducible refine Below.drew ?_ | with_reducible refine Below.setCell ?_ (by dsimp only; omega) _)
  have hne : ((N : Int) == 0) = false := by simp [hN0]
  have HF := Lib.hid (show R = if (V1 && V2) = true then ((SX, SY, ZX, ZY), 0) else ((⟨0, 0⟩, ⟨0, 0⟩, ⟨0, 0⟩, ⟨0, 0⟩), 41) by rw [HF.out, if_neg hN0])
  have HN0 := Lib.hid (show 0 < N by omega)
  have HN2 := Lib.hid (show N ≤ 200 by rw [HN.out]; exact HZ.out.1)
  have HOK := Lib.hid HZ.out.2
  clear hN0 HZ
  obtain ⟨X1, X2⟩ := SX
  obtain ⟨Y1, Y2⟩ := SY
  obtain ⟨P1, P2⟩ := ZX
  obtain ⟨Q1, Q2⟩ := ZY
  dsimp only at HSS HSD HV1 HV2
  go_wp2_with fail
  refine (sideways_any _).mono ?_; rintro e v2 ⟨p, rfl, hp, hpb, hb2⟩
  have EX := Lib.hid (EX.out.below hb2)
  have H7 := Lib.hid (H7.out.below hb2)
  clear hp hpb hb2 hbE hne
  go_wp2_with fail
  refine (HSS.out p _ EX.out.bel HN0.out HN2.out HOK.out).mono ?_; rintro e v3 ⟨rfl, hb3⟩
  have EX := Lib.hid (EX.out.below hb3)
  have H7 := Lib.hid (H7.out.below hb3)
  clear hb3 HSS
  have p0 := (EX.out.h6).c0; have p1 := (EX.out.h6).c1; have pf0 := (EX.out.h6).f0; have pf1 := (EX.out.h6).f1; have pz := (EX.out.h6).lt
  have s0 := (EX.out.h8).c0; have s1 := (EX.out.h8).c1; have sf0 := (EX.out.h8).f0; have sf1 := (EX.out.h8).f1; have sz := (EX.out.h8).lt
  go_wp2_with fail
  refine (downwards_any _).mono ?_; rintro e v4 ⟨q, rfl, hq, hqb, hb4⟩
  have EX := Lib.hid (((EX.out.set6 X1 X2).set8 P1 P2).below hb4)
  have H7 := Lib.hid (((H7.out.other (by omega)).other (by omega)).below hb4)
  clear hq hqb hb4 p0 p1 pf0 pf1 pz s0 s1 sf0 sf1 sz
  go_wp2_with fail
  refine (HSD.out q _ EX.out.bel HN0.out HN2.out HOK.out).mono ?_; rintro e v5 ⟨rfl, hb5⟩
  have EX := Lib.hid (EX.out.below hb5)
  have H7 := Lib.hid (H7.out.below hb5)
  clear hb5 HSD
  have p0 := (EX.out.h6).c0; have p1 := (EX.out.h6).c1; have pf0 := (EX.out.h6).f0; have pf1 := (EX.out.h6).f1; have pz := (EX.out.h6).lt
  have q0 := (EX.out.h7).c0; have q1 := (EX.out.h7).c1; have qf0 := (EX.out.h7).f0; have qf1 := (EX.out.h7).f1; have qz := (EX.out.h7).lt
  have s0 := (EX.out.h8).c0; have s1 := (EX.out.h8).c1; have sf0 := (EX.out.h8).f0; have sf1 := (EX.out.h8).f1; have sz := (EX.out.h8).lt
  have t0 := (EX.out.h9).c0; have t1 := (EX.out.h9).c1; have tf0 := (EX.out.h9).f0; have tf1 := (EX.out.h9).f1; have tz := (EX.out.h9).lt
  go_wp2_with fail
  refine (HV1.out _).mono ?_; rintro e v6 ⟨rfl, hb6⟩
  have EX := Lib.hid (((EX.out.set7 Y1 Y2).set9 Q1 Q2).below hb6)
  have H7 := Lib.hid (((H7.out.other (by omega)).other (by omega)).below hb6)
  clear hb6 p0 p1 pf0 pf1 pz q0 q1 qf0 qf1 qz s0 s1 sf0 sf1 sz t0 t1 tf0 tf1 tz
  cases V1
  case false =>
    have HF := Lib.hid (show R = ((⟨0, 0⟩, ⟨0, 0⟩, ⟨0, 0⟩, ⟨0, 0⟩), 41) by rw [HF.out]; rfl)
    go_wp2_with fail
    have p0 := (EX.out.h6).c0; have p1 := (EX.out.h6).c1; have pf0 := (EX.out.h6).f0; have pf1 := (EX.out.h6).f1; have pz := (EX.out.h6).lt
    have q0 := (EX.out.h7).c0; have q1 := (EX.out.h7).c1; have qf0 := (EX.out.h7).f0; have qf1 := (EX.out.h7).f1; have qz := (EX.out.h7).lt
    have s0 := (EX.out.h8).c0; have s1 := (EX.out.h8).c1; have sf0 := (EX.out.h8).f0; have sf1 := (EX.out.h8).f1; have sz := (EX.out.h8).lt
    have t0 := (EX.out.h9).c0; have t1 := (EX.out.h9).c1; have tf0 := (EX.out.h9).f0; have tf1 := (EX.out.h9).f1; have tz := (EX.out.h9).lt
    have r0 := (H7.out).c0; have r1 := (H7.out).c1; have rf0 := (H7.out).f0; have rf1 := (H7.out).f1; have rz := (H7.out).lt
    go_region
    go_wp2_with fail
    rw [HF.out]
    refine bodyPost_ret (v := .tuple #[.agg #[.int .i64 0, .int .i64 0], .agg #[.int .i64 0, .int .i64 0], .agg #[.int .i64 0, .int .i64 0], .agg #[.int .i64 0, .int .i64 0], .int .i64 41]) (by simp [results, Tryz.results37, go_sem, p0, p1, q0, q1, s0, s1, t0, t1]) rfl ⟨rfl, ?_⟩
    have hbf := EX.out.bel
    clear p0 p1 pf0 pf1 q0 q1 qf0 qf1 s0 s1 sf0 sf1 t0 t1 tf0 tf1
    repeat (first | with_reducible exact hbf | with_reducible refine Below.drew ?_ | with_reducible refine Below.setCell ?_ (by dsimp only; omega) _)
  have t0 := (EX.out.h9).c0; have t1 := (EX.out.h9).c1; have tf0 := (EX.out.h9).f0; have tf1 := (EX.out.h9).f1; have tz := (EX.out.h9).lt
  go_wp2_with fail
  refine (HV2.out _).mono ?_; rintro e v7 ⟨rfl, hb7⟩
  have EX := Lib.hid (EX.out.below hb7)
  have H7 := Lib.hid (H7.out.below hb7)
  clear hb7 t0 t1 tf0 tf1 tz
  cases V2
  case false =>
    have HF := Lib.hid (show R = ((⟨0, 0⟩, ⟨0, 0⟩, ⟨0, 0⟩, ⟨0, 0⟩), 41) by rw [HF.out]; rfl)
    go_wp2_with fail
    have p0 := (EX.out.h6).c0; have p1 := (EX.out.h6).c1; have pf0 := (EX.out.h6).f0; have pf1 := (EX.out.h6).f1; have pz := (EX.out.h6).lt
    have q0 := (EX.out.h7).c0; have q1 := (EX.out.h7).c1; have qf0 := (EX.out.h7).f0; have qf1 := (EX.out.h7).f1; have qz := (EX.out.h7).lt
    have s0 := (EX.out.h8).c0; have s1 := (EX.out.h8).c1; have sf0 := (EX.out.h8).f0; have sf1 := (EX.out.h8).f1; have sz := (EX.out.h8).lt
    have t0 := (EX.out.h9).c0; have t1 := (EX.out.h9).c1; have tf0 := (EX.out.h9).f0; have tf1 := (EX.out.h9).f1; have tz := (EX.out.h9).lt
    have r0 := (H7.out).c0; have r1 := (H7.out).c1; have rf0 := (H7.out).f0; have rf1 := (H7.out).f1; have rz := (H7.out).lt
    go_region
    go_wp2_with fail
    rw [HF.out]
    refine bodyPost_ret (v := .tuple #[.agg #[.int .i64 0, .int .i64 0], .agg #[.int .i64 0, .int .i64 0], .agg #[.int .i64 0, .int .i64 0], .agg #[.int .i64 0, .int .i64 0], .int .i64 41]) (by simp [results, Tryz.results37, go_sem, p0, p1, q0, q1, s0, s1, t0, t1]) rfl ⟨rfl, ?_⟩
    have hbf := EX.out.bel
    clear p0 p1 pf0 pf1 q0 q1 qf0 qf1 s0 s1 sf0 sf1 t0 t1 tf0 tf1
    repeat (first | with_reducible exact hbf | with_reducible refine Below.drew ?_ | with_reducible refine Below.setCell ?_ (by dsimp only; omega) _)
  have HF := Lib.hid (show R = ((⟨X1, X2⟩, ⟨Y1, Y2⟩, ⟨P1, P2⟩, ⟨Q1, Q2⟩), 0) by rw [HF.out]; rfl)
  have p0 := (EX.out.h6).c0; have p1 := (EX.out.h6).c1; have pf0 := (EX.out.h6).f0; have pf1 := (EX.out.h6).f1; have pz := (EX.out.h6).lt
  have q0 := (EX.out.h7).c0; have q1 := (EX.out.h7).c1; have qf0 := (EX.out.h7).f0; have qf1 := (EX.out.h7).f1; have qz := (EX.out.h7).lt
  have s0 := (EX.out.h8).c0; have s1 := (EX.out.h8).c1; have sf0 := (EX.out.h8).f0; have sf1 := (EX.out.h8).f1; have sz := (EX.out.h8).lt
  have t0 := (EX.out.h9).c0; have t1 := (EX.out.h9).c1; have tf0 := (EX.out.h9).f0; have tf1 := (EX.out.h9).f1; have tz := (EX.out.h9).lt
  go_wp2_with fail
  go_region
  go_wp2_with fail
  rw [HF.out]
  refine bodyPost_ret (v := .tuple #[.agg #[.int .i64 X1, .int .i64 X2], .agg #[.int .i64 Y1, .int .i64 Y2], .agg #[.int .i64 P1, .int .i64 P2], .agg #[.int .i64 Q1, .int .i64 Q2], .int .i64 0]) (by simp [results, Tryz.results37, go_sem, p0, p1, q0, q1, s0, s1, t0, t1]) rfl ⟨rfl, ?_⟩
  have hbf := EX.out.bel
  clear p0 p1 pf0 pf1 q0 q1 qf0 qf1 s0 s1 sf0 sf1 t0 t1 tf0 tf1
  repeat (first | with_reducible exact hbf | with_reducible refine Below.drew ?_ | with_reducible refine Below.setCell ?_ (by dsimp only; omega) _)

end Go.Proofs.YtcijomljopbelaaGreat
