/-
  Contract of the law of Lines: it returns true.
-/
import Derived.Test.YtcijomljopbelaaGreatLaw4
import Derived.Test.YtcijomljopbelaaGreatGLnq
import Derived.Test.YtcijomljopbelaaGreatGaF
import Derived.Test.YtcijomljopbelaaGreatGaK
import Derived.Deep.RegionHeld3
import Derived.Deep.DeepCutAuto
namespace Go.Proofs.YtcijomljopbelaaGreat
open Go.RowKit

set_option maxHeartbeats 16000000 in
set_option maxRecDepth 100000 in
theorem law_glines (L : Lm) (A : Option Addr) (cap : Nat) (ns : List Nd) (way len : Int) (w : World) (hl : LmOk w L) (hn : NdsAt w A ns) (hc1 : ns.length ≤ cap) (hc : cap ≤ maxLen)  :
    Calls Tryz.prog 4 #[.agg #[.int .i64 L.per, .slice L.A L.ms.length L.cap, .slice A ns.length cap], .agg #[.int .i64 way, .int .i64 len]] w fun e w' => e = .returned (.bool true) ∧ Below w.heap.size w w' := by
  have HNS0 := Lib.hid hn
  have HL0 := Lib.hid hl
  have HC1 := Lib.hid hc1
  have HCM := Lib.hid hc
  have hnm : ns.length ≤ maxLen := Nat.le_trans hc1 hc
  have HBG := Lib.hid (fun wx (hb : Below w.heap.size w wx) r (h : bigG L.li ns.length = r) => show Calls Tryz.prog 13 #[.agg #[.int .i64 L.per, .slice L.A L.ms.length L.cap, .slice A ns.length cap]] wx _ from bigG_is L A ns.length cap wx (hl.below hb) hnm r h)
  clear hl hn hc1 hc hnm
  obtain ⟨B, hB⟩ : ∃ B, bigG L.li ns.length = B := ⟨_, rfl⟩
  have HBB := Lib.hid hB
  clear hB
  obtain ⟨N, hN⟩ : ∃ N, N = ns.length := ⟨_, rfl⟩
  have HN := Lib.hid hN
  rw [← hN] at HBG HC1 HBB ⊢
  clear hN
  obtain ⟨W1, hW1⟩ : ∃ W', W' = w.alloc (.cells #[.int .i64 L.per, .slice L.A L.ms.length L.cap, .slice A N cap] 29) := ⟨_, rfl⟩; obtain ⟨W, hW⟩ : ∃ W', W' = W1.alloc (.cells #[.int .i64 way, .int .i64 len] 31) := ⟨_, rfl⟩; have szW1 : W1.heap.size = w.heap.size + 1 := (by rw [hW1]; simp); have kbW1 : Below w.heap.size w W1 := hW1 ▸ below_alloc _ _; have szW : W.heap.size = w.heap.size + 1 + 1 := (by rw [hW]; simp [szW1]); have kbW : Below W1.heap.size W1 W := hW ▸ below_alloc _ _; have HB := Lib.hid (below_more kbW1 kbW); have D0 := Lib.hid (blk_keep kbW (show W1.heap[w.heap.size]? = some (.cells #[.int .i64 L.per, .slice L.A L.ms.length L.cap, .slice A N cap] 29 (0, 0)) by rw [hW1]; exact heap_alloc_new _ _)); have D1 := Lib.hid (show W.heap[w.heap.size + 1]? = some (.cells #[.int .i64 way, .int .i64 len] 31 (0, 0)) by rw [hW, ← szW1]; exact heap_alloc_new _ _); have SZW := Lib.hid szW; clear szW1 kbW1 szW kbW
  have HL := Lib.hid (HL0.out.below HB.out)
  have HNS := Lib.hid (HNS0.out.below HB.out)
  go_enter Tryz.func4, Tryz.ntmps4
  go_wp2_with fail
  rw [← hW1, ← hW]; clear hW1 hW
  refine (HBG.out _ HB.out _ HBB.out).mono ?_; rintro e w1 ⟨rfl, hb1⟩
  have B1 := Lib.hid hb1
  have D := Lib.hid (blk_keep hb1 D0.out)
  have G := Lib.hid (blk_keep hb1 D1.out)
  clear hb1 HL0 HNS0 HBG D0 D1
  cases B with
  | true =>
    go_wp2_with fail
    refine (works4_any _).mono ?_; rintro e w2 ⟨rfl, hb2⟩
    go_wp2
    go_ret
    exact ⟨rfl, below_more (below_more HB.out B1.out) hb2⟩
  | false =>
    have HNB := Lib.hid (not_bigG (L := L) HBB.out)
    have L1 := Lib.hid (HL.out.below B1.out)
    have N1 := Lib.hid (HNS.out.below B1.out)
    have BC := Lib.hid (Below.refl w1.heap.size w1)
    obtain ⟨⟨ls, er⟩, hQ0⟩ : ∃ q, q = lnsQ L.li way len ns := ⟨_, rfl⟩
    have HQ0 := Lib.hid hQ0
    have HSL := Lib.hid (show ls.length ≤ 1000 ∧ ∀ q ∈ ls, q.length ≤ 1000000 by have := lnsQ_small L.li way len ns; rw [← hQ0] at this; exact this)
    clear hQ0
    have HK := Lib.hid (fun w' (hb : Below w1.heap.size w1 w') => show w'.cell? ⟨w.heap.size, 0, none⟩ = some (.int .i64 L.per) ∧ w'.cell? ⟨w.heap.size, 1, none⟩ = some (.slice L.A L.ms.length L.cap) ∧ w'.cell? ⟨w.heap.size, 2, none⟩ = some (.slice A N cap) ∧ w'.cell? ⟨w.heap.size + 1, 0, none⟩ = some (.int .i64 way) ∧ w'.cell? ⟨w.heap.size + 1, 1, none⟩ = some (.int .i64 len) ∧ Below w1.heap.size w1 w' from
      ⟨cell_of_blk (blk_keep hb D.out) 0, cell_of_blk (blk_keep hb D.out) 1, cell_of_blk (blk_keep hb D.out) 2, cell_of_blk (blk_keep hb G.out) 0, cell_of_blk (blk_keep hb G.out) 1, hb⟩)
    have HDR := Lib.hid (show Below w1.heap.size w1 w1.drew from (Below.refl _ _).drew)
    have HSB := Lib.hid (fun wx (h : wx.cell? ⟨w.heap.size, 0, none⟩ = some (.int .i64 L.per) ∧ wx.cell? ⟨w.heap.size, 1, none⟩ = some (.slice L.A L.ms.length L.cap) ∧ wx.cell? ⟨w.heap.size, 2, none⟩ = some (.slice A N cap) ∧ wx.cell? ⟨w.heap.size + 1, 0, none⟩ = some (.int .i64 way) ∧ wx.cell? ⟨w.heap.size + 1, 1, none⟩ = some (.int .i64 len) ∧ Below w1.heap.size w1 wx) => h.2.2.2.2.2)
    have HLS := Lib.hid (fun wx (hb : Below w1.heap.size w1 wx) => show Calls Tryz.prog 16 #[.agg #[.int .i64 L.per, .slice L.A L.ms.length L.cap, .slice A N cap]] wx (GotListX wx L.li) from
      (list4_any L A N cap wx (L1.out.below (below_more BC.out hb)) (by have := HNB.out.2.1; omega) (fun m hm => by have := (HNB.out.2.2 m hm).1; omega)).mono fun _ _ h => h.x)
    have HTX := Lib.hid (fun wx (hb : Below w1.heap.size w1 wx) => show Calls Tryz.prog 17 #[.agg #[.int .i64 L.per, .slice L.A L.ms.length L.cap, .slice A N cap]] wx (GotTextX wx ns) by
      have := text4_any L A cap ns wx (N1.out.below (below_more BC.out hb)) (by rw [← HN.out]; exact HC1.out) HCM.out (by rw [← HN.out]; have := HNB.out.1; omega)
      rw [← HN.out] at this; exact this.mono fun _ _ h => h.x)
    have HPJ := Lib.hid (fun wx (pm : Int) (mm : List Sm) (Am : Option Addr) (km cm : Nat) (hkm : km = mm.length) (hok : LmOk wx ⟨pm, mm, Am, cm⟩) (hli : (Lm.mk pm mm Am cm).li = L.li) (A2 : Option Addr) (k2 c2 : Nat) (hk : k2 = ns.length) (hn : NdsAt wx A2 ns) (h1 : k2 ≤ c2) (h2 : c2 ≤ maxLen) => show Calls Tryz.prog 23 #[.agg #[.int .i64 pm, .slice Am km cm], .agg #[.slice A2 k2 c2], .agg #[.int .i64 way, .int .i64 len]] wx (GotLnX wx ls er) by
      subst hk hkm
      have := glines_any ⟨pm, mm, Am, cm⟩ A2 c2 ns way len wx hok hn h1 h2
      rw [hli, ← HQ0.out] at this; exact this.mono fun _ _ h => h.x)
    go_wp2_with fail
    go_region_held3 (fun w' => w'.cell? ⟨w.heap.size, 0, none⟩ = some (.int .i64 L.per) ∧ w'.cell? ⟨w.heap.size, 1, none⟩ = some (.slice L.A L.ms.length L.cap) ∧ w'.cell? ⟨w.heap.size, 2, none⟩ = some (.slice A N cap) ∧ w'.cell? ⟨w.heap.size + 1, 0, none⟩ = some (.int .i64 way) ∧ w'.cell? ⟨w.heap.size + 1, 1, none⟩ = some (.int .i64 len) ∧ Below w1.heap.size w1 w')
      ((refine HK.out _ ?_; first | assumption | exact HDR.out))
      (first
      | (go_at_call 16; refine (HLS.out _ (HSB.out _ (by assumption))).mono ?_; rintro e wl ⟨pm, mm, Am, km, cm, rfl, hkm, hokl, hlil, hbl⟩; have hbwl := below_more (HSB.out _ (by assumption)) hbl)
      | (go_at_call 17; refine (HTX.out _ (HSB.out _ (by assumption))).mono ?_; rintro e wt ⟨A2, kt, c2, rfl, hkt, hnt, hkc, hcm, hbt⟩; have hbwt := below_more (HSB.out _ (by assumption)) hbt)
      | (go_at_call 23; refine (HPJ.out _ pm mm Am km cm hkm.out (hokl.out.below hbt) hlil.out A2 kt c2 hkt.out hnt.out hkc hcm).mono ?_; rintro e wp0 ⟨Ap, kp, cp, rfl, hkp, hap, hbp0⟩; have hbwp0 := below_more (HSB.out _ (by assumption)) hbp0))
    have KP := Lib.hid hkp.out
    have PA := Lib.hid hap.out
    clear hkp hap
    have BC := Lib.hid (below_more BC.out hbwp0)
    have D := Lib.hid (blk_keep hbwp0 D.out)
    have G := Lib.hid (blk_keep hbwp0 G.out)
    clear HK HDR HSB HLS HTX HPJ hbwl hbwt hbwp0 hbp0 hbl hbt hkm hokl hlil hkt hnt hkc hcm
    have x0 := cell_of_blk D.out 0; have x1 := cell_of_blk D.out 1; have x2 := cell_of_blk D.out 2; have hz_x := (Array.getElem?_eq_some_iff.1 D.out).1; simp at x0 x1 x2
    have p0 := cell_of_blk G.out 0; have p1 := cell_of_blk G.out 1; have hz_p := (Array.getElem?_eq_some_iff.1 G.out).1; simp at p0 p1
    have HRJ := Lib.hid (show Calls Tryz.prog 24 #[.agg #[.int .i64 L.per, .slice L.A L.ms.length L.cap], .agg #[.slice A N cap], .agg #[.int .i64 way, .int .i64 len]] wp0 (GotLnX wp0 ls er) by
      have hn := N1.out.below BC.out
      have hok := L1.out.below BC.out
      have h1 : ns.length ≤ cap := by rw [← HN.out]; exact HC1.out
      have h2 := HCM.out
      have := rlines_any L A cap ns way len wp0 hok hn h1 h2
      rw [← HQ0.out, ← HN.out] at this; exact this.mono fun _ _ h => h.x)
    go_wp2_with fail
    refine HRJ.out.mono ?_; rintro e wr0 ⟨Ar, kr, cr, rfl, hkr, har, hbr0⟩
    have hkk := hkr.out.trans KP.out.symm
    subst hkk
    have RA := Lib.hid har.out
    have PA := Lib.hid (PA.out.below hbr0)
    have BF := Lib.hid (below_more (below_more HB.out B1.out) (below_more BC.out hbr0))
    have hk3 : kr ≤ 1000 := by have := HSL.out.1; have := KP.out; omega
    clear HRJ hbr0 hkr har x0 x1 x2 hz_x p0 p1 hz_p HQ0 BC D G L1 N1 HL HNS
    have he1 : (er != er) = false := by simp
    have he2 : (kr != kr) = false := by simp
    have he3 : ((kr : Int) != (kr : Int)) = false := by simp
    go_wp2_with fail
    go_loopw [9] (fun i wr => ∃ k : Nat, k ≤ kr ∧ i = .int .i64 k ∧ Hid (Below wr0.heap.size wr0 wr)) (fun i _ => kr - (intOf i).toNat)
    case atStart => exact ⟨0, Nat.zero_le _, rfl, Lib.hid (Below.refl _ _)⟩
    case round =>
      obtain ⟨k, hk, rfl, hb⟩ := hrel
      have HBR := Lib.hid hb.out
      clear hb
      by_cases hlt : k < kr
      · obtain ⟨l, hl⟩ : ∃ l, ls[k]? = some l := ⟨_, List.getElem?_eq_getElem (by have := KP.out; omega)⟩
        have hls := HSL.out.2 l (List.mem_of_getElem? hl)
        obtain ⟨g1, X1, d1, rfl, hg1, hz1, hi1⟩ := (PA.out.below HBR.out) k l hl
        obtain ⟨g2, X2, d2, rfl, hg2, hz2, hi2⟩ := (RA.out.below HBR.out) k l hl
        have HSI := Lib.hid (fun wx (hb : Below wr.heap.size wr wx) => sameI_eq X1 X2 l.length l.length d1 d2 (l.map fun (n : Nat) => (n : Int)) wx (by simp) (by simp) (hi1.below hb) (hi2.below hb) (by simpa using hls))
        obtain ⟨m, hm⟩ : ∃ m, m = l.length := ⟨_, rfl⟩
        rw [← hm] at HSI hz1 hz2
        have hki : (0 : Int) ≤ (k : Int) := by omega
        have hkl : (k : Int) < (kr : Int) := by omega
        clear hl hls hi1 hi2 hm
        go_wp2_with fail
        refine wp_region_later (by kernel_rfl) (by kernel_rfl) ?_; (repeat (first | go_big_quiet_step ((((go_at_call 25; exact Calls.later _ (HSI.out _ (Later.below _)))))) | quiet_step ((((go_at_call 25; exact Calls.later _ (HSI.out _ (Later.below _)))))))); refine wpQuiet_nil ?_; rintro _ ⟨s, rfl⟩
        have HB9 := Lib.hid (HBR.out.trans (s.below.mono HBR.out.size))
        go_wp2_with fail
        go_roundw
        case rel => exact ⟨k + 1, by omega, by go_num, HB9⟩
        case measure => simp [intOf]; omega
      · obtain rfl : k = kr := by omega
        have BF := Lib.hid (below_more BF.out HBR.out)
        go_wp2_with fail
        refine (works4_any _).mono ?_; rintro e w9 ⟨rfl, hb9⟩
        go_wp2
        go_ret
        exact ⟨rfl, below_more BF.out hb9⟩

end Go.Proofs.YtcijomljopbelaaGreat
