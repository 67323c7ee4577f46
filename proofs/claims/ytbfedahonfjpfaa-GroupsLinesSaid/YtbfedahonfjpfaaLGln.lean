/-
  Contract of the law of Line, Order and Rings: it returns true.
-/
import Derived.Test.YtbfedahonfjpfaaPkE
import Derived.Test.YtbfedahonfjpfaaPkJ
import Derived.Deep.RegionHeld3
import Derived.Deep.DeepCutAuto
namespace Go.Proofs.Ytbfedahonfjpfaa
open Go.RowKit

theorem lineQ_len (l : Li) (ns : List Nd) : (lineQ l ns).1.length ≤ 2000000 := by
  unfold lineQ
  split
  · simp
  · rename_i h
    exact lineR_len (by simpa using h)
theorem orderR_len (l : Li) (ns : List Nd) : (orderR l ns).1.length ≤ 2000000 := by
  unfold orderR
  split
  · simp
  · rename_i h
    split
    · simp
    · rw [List.length_map]; exact lineR_len (by simpa using h)
theorem ringQ_len (l : Li) (ns : List Nd) : (ringQ l ns).1.length ≤ ns.length := by
  unfold ringQ
  split
  · simp
  · exact Nat.le_trans (ringsG_len _ _ _) (tops_len ns)

set_option maxHeartbeats 6400000 in
set_option maxRecDepth 100000 in
theorem law_glines (L : Lm) (A : Option Addr) (cap : Nat) (ns : List Nd)  (w : World) (hl : LmOk w L) (hn : NdsAt w A ns) (hc1 : ns.length ≤ cap) (hc : cap ≤ maxLen)  :
    Calls Try.prog 5 #[.agg #[.int .i64 L.per, .slice L.A L.ms.length L.cap, .slice A ns.length cap]] w fun e w' => e = .returned (.bool true) ∧ Below w.heap.size w w' := by
  obtain ⟨W, hW⟩ : ∃ W, W = (w.alloc (.cells #[.int .i64 L.per, .slice L.A L.ms.length L.cap, .slice A ns.length cap] 29)) := ⟨_, rfl⟩
  have HB := Lib.hid (show Below w.heap.size w W from hW ▸ (Below.refl _ _).alloc (Nat.le_refl _) _)
  have C1 := Lib.hid (show W.heap[w.heap.size]? = some (.cells #[.int .i64 L.per, .slice L.A L.ms.length L.cap, .slice A ns.length cap] 29 (0, 0)) by
    rw [hW]; exact heap_alloc_new _ _)
  have HL := Lib.hid (hl.below HB.out)
  have HNS := Lib.hid (hn.below HB.out)
  have HC1 := Lib.hid hc1
  have HCM := Lib.hid hc
  have hnm : ns.length ≤ maxLen := Nat.le_trans hc1 hc
  have HBG := Lib.hid (fun r (h : bigG L.li ns.length = r) => show Calls Try.prog 15 #[.agg #[.int .i64 L.per, .slice L.A L.ms.length L.cap, .slice A ns.length cap]] W _ from bigG_is L A ns.length cap W HL.out hnm r h)
  clear hl hn hc1 hc hnm
  obtain ⟨B, hB⟩ : ∃ B, bigG L.li ns.length = B := ⟨_, rfl⟩
  have HBB := Lib.hid hB
  clear hB
  obtain ⟨N, hN⟩ : ∃ N, N = ns.length := ⟨_, rfl⟩
  have HN := Lib.hid hN
  rw [← hN] at hW C1 HBG HC1 HBB ⊢
  clear hN
  go_enter Try.func5, Try.ntmps5
  go_wp2_with fail
  rw [← hW]
  refine (HBG.out _ HBB.out).mono ?_; rintro e w1 ⟨rfl, hb1⟩
  have B1 := Lib.hid hb1
  have D := Lib.hid (blk_keep hb1 C1.out)
  have x0 := cell_of_blk D.out 0
  have x1 := cell_of_blk D.out 1
  have x2 := cell_of_blk D.out 2
  simp at x0 x1 x2
  have hsz1 := (Array.getElem?_eq_some_iff.1 D.out).1
  clear hb1 hW
  cases B with
  | true =>
    go_wp2_with fail
    refine (works2_any _).mono ?_; rintro e w2 ⟨rfl, hb2⟩
    go_wp2
    go_ret
    exact ⟨rfl, below_more (below_more HB.out B1.out) hb2⟩
  | false =>
    have HNB := Lib.hid (not_bigG (L := L) HBB.out)
    have L1 := Lib.hid (HL.out.below B1.out)
    have N1 := Lib.hid (HNS.out.below B1.out)
    clear x0 x1 x2 hsz1
    have BC := Lib.hid (Below.refl w1.heap.size w1)
    obtain ⟨⟨zs0, er0⟩, hQ0⟩ : ∃ q, q = lineQ L.li ns := ⟨_, rfl⟩
    have HQ0 := Lib.hid hQ0
    have HLN0 := Lib.hid (show zs0.length ≤ 2000000 by have := lineQ_len L.li ns; rw [← hQ0] at this; dsimp only at this; have := HNB.out.1; have := HN.out; omega)
    clear hQ0
    have HK := Lib.hid (fun w' (hb : Below w1.heap.size w1 w') => show w'.cell? ⟨w.heap.size, 0, none⟩ = some (.int .i64 L.per) ∧ w'.cell? ⟨w.heap.size, 1, none⟩ = some (.slice L.A L.ms.length L.cap) ∧ w'.cell? ⟨w.heap.size, 2, none⟩ = some (.slice A N cap) ∧ Below w1.heap.size w1 w' from
      ⟨cell_of_blk (blk_keep hb D.out) 0, cell_of_blk (blk_keep hb D.out) 1, cell_of_blk (blk_keep hb D.out) 2, hb⟩)
    have HDR := Lib.hid (show Below w1.heap.size w1 w1.drew from (Below.refl _ _).drew)
    have HSB := Lib.hid (fun wx (h : wx.cell? ⟨w.heap.size, 0, none⟩ = some (.int .i64 L.per) ∧ wx.cell? ⟨w.heap.size, 1, none⟩ = some (.slice L.A L.ms.length L.cap) ∧ wx.cell? ⟨w.heap.size, 2, none⟩ = some (.slice A N cap) ∧ Below w1.heap.size w1 wx) => h.2.2.2)
    have HLS := Lib.hid (fun wx (hb : Below w1.heap.size w1 wx) => show Calls Try.prog 17 #[.agg #[.int .i64 L.per, .slice L.A L.ms.length L.cap, .slice A N cap]] wx (GotListX wx L.li) from
      (list2_any L A N cap wx (L1.out.below (below_more BC.out hb)) (by have := HNB.out.2.1; omega) (fun m hm => by have := (HNB.out.2.2 m hm).1; omega)).mono fun _ _ h => h.x)
    have HTX := Lib.hid (fun wx (hb : Below w1.heap.size w1 wx) => show Calls Try.prog 18 #[.agg #[.int .i64 L.per, .slice L.A L.ms.length L.cap, .slice A N cap]] wx (GotTextX wx ns) by
      have := text2_any L A cap ns wx (N1.out.below (below_more BC.out hb)) (by rw [← HN.out]; exact HC1.out) HCM.out (by rw [← HN.out]; have := HNB.out.1; omega)
      rw [← HN.out] at this; exact this.mono fun _ _ h => h.x)
    have HPJ := Lib.hid (fun wx (pm : Int) (mm : List Sm) (Am : Option Addr) (km cm : Nat) (hkm : km = mm.length) (hok : LmOk wx ⟨pm, mm, Am, cm⟩) (hli : (Lm.mk pm mm Am cm).li = L.li) (A2 : Option Addr) (k2 c2 : Nat) (hk : k2 = ns.length) (hn : NdsAt wx A2 ns) (h1 : k2 ≤ c2) (h2 : c2 ≤ maxLen) => show Calls Try.prog 28 #[.agg #[.int .i64 pm, .slice Am km cm], .agg #[.slice A2 k2 c2]] wx (GotMarksX wx zs0 er0) by
      subst hk hkm
      have := lineP_any ⟨pm, mm, Am, cm⟩ A2 c2 ns wx hok hn h1 h2
      rw [hli, ← HQ0.out] at this; exact this.mono fun _ _ h => h.x)
    go_wp2_with fail
    go_region_held3 (fun w' => w'.cell? ⟨w.heap.size, 0, none⟩ = some (.int .i64 L.per) ∧ w'.cell? ⟨w.heap.size, 1, none⟩ = some (.slice L.A L.ms.length L.cap) ∧ w'.cell? ⟨w.heap.size, 2, none⟩ = some (.slice A N cap) ∧ Below w1.heap.size w1 w')
      ((refine HK.out _ ?_; first | assumption | exact HDR.out))
      (first
      | (go_at_call 17; refine (HLS.out _ (HSB.out _ (by assumption))).mono ?_; rintro e wl ⟨pm, mm, Am, km, cm, rfl, hkm, hokl, hlil, hbl⟩; have hbwl := below_more (HSB.out _ (by assumption)) hbl)
      | (go_at_call 18; refine (HTX.out _ (HSB.out _ (by assumption))).mono ?_; rintro e wt ⟨A2, kt, c2, rfl, hkt, hnt, hkc, hcm, hbt⟩; have hbwt := below_more (HSB.out _ (by assumption)) hbt)
      | (go_at_call 28; refine (HPJ.out _ pm mm Am km cm hkm.out (hokl.out.below hbt) hlil.out A2 kt c2 hkt.out hnt.out hkc hcm).mono ?_; rintro e wp0 ⟨Ap0, kp0, cp0, rfl, hkp0, hip0, hbp0⟩; have hbwp0 := below_more (HSB.out _ (by assumption)) hbp0))
    have Hp0 := Lib.hid hip0.out
    have Kp0 := Lib.hid hkp0.out
    have BC := Lib.hid (below_more BC.out hbwp0)
    have D := Lib.hid (blk_keep hbwp0 D.out)
    clear HK HDR HSB HLS HTX HPJ hbwl hbwt hbwp0 hbp0 hbl hbt hkm hokl hlil hkt hnt hkc hcm hip0 hkp0
    have x0 := cell_of_blk D.out 0
    have x1 := cell_of_blk D.out 1
    have x2 := cell_of_blk D.out 2
    simp at x0 x1 x2
    have HRJ := Lib.hid (show Calls Try.prog 29 #[.agg #[.int .i64 L.per, .slice L.A L.ms.length L.cap], .agg #[.slice A N cap]] wp0 (GotMarksX wp0 zs0 er0) by
      have hn := N1.out.below BC.out
      have hok := L1.out.below BC.out
      have h1 : ns.length ≤ cap := by rw [← HN.out]; exact HC1.out
      have h2 := HCM.out
      have := rline3_any L A cap ns wp0 hok hn h1 h2
      rw [← HQ0.out, ← HN.out] at this; exact this.mono fun _ _ h => h.x)
    go_wp2_with fail
    refine HRJ.out.mono ?_; rintro e wr0 ⟨Ar0, kr0, cr0, rfl, hkr0, hir0, hbr0⟩
    have Hr0 := Lib.hid hir0.out
    have Kr0 := Lib.hid hkr0.out
    have Hp0 := Lib.hid (Hp0.out.below hbr0)
    have BC := Lib.hid (below_more BC.out hbr0)
    have D := Lib.hid (blk_keep hbr0 D.out)
    clear HRJ hbr0 hir0 hkr0 x0 x1 x2
    obtain ⟨⟨zs1, er1⟩, hQ1⟩ : ∃ q, q = orderR L.li ns := ⟨_, rfl⟩
    have HQ1 := Lib.hid hQ1
    have HLN1 := Lib.hid (show zs1.length ≤ 2000000 by have := orderR_len L.li ns; rw [← hQ1] at this; dsimp only at this; have := HNB.out.1; have := HN.out; omega)
    clear hQ1
    have HK := Lib.hid (fun w' (hb : Below wr0.heap.size wr0 w') => show w'.cell? ⟨w.heap.size, 0, none⟩ = some (.int .i64 L.per) ∧ w'.cell? ⟨w.heap.size, 1, none⟩ = some (.slice L.A L.ms.length L.cap) ∧ w'.cell? ⟨w.heap.size, 2, none⟩ = some (.slice A N cap) ∧ Below wr0.heap.size wr0 w' from
      ⟨cell_of_blk (blk_keep hb D.out) 0, cell_of_blk (blk_keep hb D.out) 1, cell_of_blk (blk_keep hb D.out) 2, hb⟩)
    have HDR := Lib.hid (show Below wr0.heap.size wr0 wr0.drew from (Below.refl _ _).drew)
    have HSB := Lib.hid (fun wx (h : wx.cell? ⟨w.heap.size, 0, none⟩ = some (.int .i64 L.per) ∧ wx.cell? ⟨w.heap.size, 1, none⟩ = some (.slice L.A L.ms.length L.cap) ∧ wx.cell? ⟨w.heap.size, 2, none⟩ = some (.slice A N cap) ∧ Below wr0.heap.size wr0 wx) => h.2.2.2)
    have HLS := Lib.hid (fun wx (hb : Below wr0.heap.size wr0 wx) => show Calls Try.prog 17 #[.agg #[.int .i64 L.per, .slice L.A L.ms.length L.cap, .slice A N cap]] wx (GotListX wx L.li) from
      (list2_any L A N cap wx (L1.out.below (below_more BC.out hb)) (by have := HNB.out.2.1; omega) (fun m hm => by have := (HNB.out.2.2 m hm).1; omega)).mono fun _ _ h => h.x)
    have HTX := Lib.hid (fun wx (hb : Below wr0.heap.size wr0 wx) => show Calls Try.prog 18 #[.agg #[.int .i64 L.per, .slice L.A L.ms.length L.cap, .slice A N cap]] wx (GotTextX wx ns) by
      have := text2_any L A cap ns wx (N1.out.below (below_more BC.out hb)) (by rw [← HN.out]; exact HC1.out) HCM.out (by rw [← HN.out]; have := HNB.out.1; omega)
      rw [← HN.out] at this; exact this.mono fun _ _ h => h.x)
    have HPJ := Lib.hid (fun wx (pm : Int) (mm : List Sm) (Am : Option Addr) (km cm : Nat) (hkm : km = mm.length) (hok : LmOk wx ⟨pm, mm, Am, cm⟩) (hli : (Lm.mk pm mm Am cm).li = L.li) (A2 : Option Addr) (k2 c2 : Nat) (hk : k2 = ns.length) (hn : NdsAt wx A2 ns) (h1 : k2 ≤ c2) (h2 : c2 ≤ maxLen) => show Calls Try.prog 30 #[.agg #[.int .i64 pm, .slice Am km cm], .agg #[.slice A2 k2 c2]] wx (GotIntsX wx zs1 er1) by
      subst hk hkm
      have := order_any2 ⟨pm, mm, Am, cm⟩ A2 c2 ns wx hok hn h1 h2
      rw [hli, ← HQ1.out] at this; exact this.mono fun _ _ h => h.x)
    go_wp2_with fail
    go_region_held3 (fun w' => w'.cell? ⟨w.heap.size, 0, none⟩ = some (.int .i64 L.per) ∧ w'.cell? ⟨w.heap.size, 1, none⟩ = some (.slice L.A L.ms.length L.cap) ∧ w'.cell? ⟨w.heap.size, 2, none⟩ = some (.slice A N cap) ∧ Below wr0.heap.size wr0 w')
      ((refine HK.out _ ?_; first | assumption | exact HDR.out))
      (first
      | (go_at_call 17; refine (HLS.out _ (HSB.out _ (by assumption))).mono ?_; rintro e wl ⟨pm, mm, Am, km, cm, rfl, hkm, hokl, hlil, hbl⟩; have hbwl := below_more (HSB.out _ (by assumption)) hbl)
      | (go_at_call 18; refine (HTX.out _ (HSB.out _ (by assumption))).mono ?_; rintro e wt ⟨A2, kt, c2, rfl, hkt, hnt, hkc, hcm, hbt⟩; have hbwt := below_more (HSB.out _ (by assumption)) hbt)
      | (go_at_call 30; refine (HPJ.out _ pm mm Am km cm hkm.out (hokl.out.below hbt) hlil.out A2 kt c2 hkt.out hnt.out hkc hcm).mono ?_; rintro e wp1 ⟨Ap1, kp1, cp1, rfl, hkp1, hip1, hbp1⟩; have hbwp1 := below_more (HSB.out _ (by assumption)) hbp1))
    have Hp1 := Lib.hid hip1.out
    have Kp1 := Lib.hid hkp1.out
    have Hp0 := Lib.hid (Hp0.out.below hbwp1)
    have Hr0 := Lib.hid (Hr0.out.below hbwp1)
    have BC := Lib.hid (below_more BC.out hbwp1)
    have D := Lib.hid (blk_keep hbwp1 D.out)
    clear HK HDR HSB HLS HTX HPJ hbwl hbwt hbwp1 hbp1 hbl hbt hkm hokl hlil hkt hnt hkc hcm hip1 hkp1
    have x0 := cell_of_blk D.out 0
    have x1 := cell_of_blk D.out 1
    have x2 := cell_of_blk D.out 2
    simp at x0 x1 x2
    have HRJ := Lib.hid (show Calls Try.prog 31 #[.agg #[.int .i64 L.per, .slice L.A L.ms.length L.cap], .agg #[.slice A N cap]] wp1 (GotIntsX wp1 zs1 er1) by
      have hn := N1.out.below BC.out
      have hok := L1.out.below BC.out
      have h1 : ns.length ≤ cap := by rw [← HN.out]; exact HC1.out
      have h2 := HCM.out
      have := rorder_any L A cap ns wp1 hok hn h1 h2
      rw [← HQ1.out, ← HN.out] at this; exact this)
    go_wp2_with fail
    refine HRJ.out.mono ?_; rintro e wr1 ⟨Ar1, kr1, cr1, rfl, hkr1, hir1, hbr1⟩
    have Hr1 := Lib.hid hir1.out
    have Kr1 := Lib.hid hkr1.out
    have Hp0 := Lib.hid (Hp0.out.below hbr1)
    have Hr0 := Lib.hid (Hr0.out.below hbr1)
    have Hp1 := Lib.hid (Hp1.out.below hbr1)
    have BC := Lib.hid (below_more BC.out hbr1)
    have D := Lib.hid (blk_keep hbr1 D.out)
    clear HRJ hbr1 hir1 hkr1 x0 x1 x2
    obtain ⟨⟨zs2, er2⟩, hQ2⟩ : ∃ q, q = ringQ L.li ns := ⟨_, rfl⟩
    have HQ2 := Lib.hid hQ2
    have HLN2 := Lib.hid (show zs2.length ≤ 1000000 by have := ringQ_len L.li ns; rw [← hQ2] at this; dsimp only at this; have := HNB.out.1; have := HN.out; omega)
    clear hQ2
    have HK := Lib.hid (fun w' (hb : Below wr1.heap.size wr1 w') => show w'.cell? ⟨w.heap.size, 0, none⟩ = some (.int .i64 L.per) ∧ w'.cell? ⟨w.heap.size, 1, none⟩ = some (.slice L.A L.ms.length L.cap) ∧ w'.cell? ⟨w.heap.size, 2, none⟩ = some (.slice A N cap) ∧ Below wr1.heap.size wr1 w' from
      ⟨cell_of_blk (blk_keep hb D.out) 0, cell_of_blk (blk_keep hb D.out) 1, cell_of_blk (blk_keep hb D.out) 2, hb⟩)
    have HDR := Lib.hid (show Below wr1.heap.size wr1 wr1.drew from (Below.refl _ _).drew)
    have HSB := Lib.hid (fun wx (h : wx.cell? ⟨w.heap.size, 0, none⟩ = some (.int .i64 L.per) ∧ wx.cell? ⟨w.heap.size, 1, none⟩ = some (.slice L.A L.ms.length L.cap) ∧ wx.cell? ⟨w.heap.size, 2, none⟩ = some (.slice A N cap) ∧ Below wr1.heap.size wr1 wx) => h.2.2.2)
    have HLS := Lib.hid (fun wx (hb : Below wr1.heap.size wr1 wx) => show Calls Try.prog 17 #[.agg #[.int .i64 L.per, .slice L.A L.ms.length L.cap, .slice A N cap]] wx (GotListX wx L.li) from
      (list2_any L A N cap wx (L1.out.below (below_more BC.out hb)) (by have := HNB.out.2.1; omega) (fun m hm => by have := (HNB.out.2.2 m hm).1; omega)).mono fun _ _ h => h.x)
    have HTX := Lib.hid (fun wx (hb : Below wr1.heap.size wr1 wx) => show Calls Try.prog 18 #[.agg #[.int .i64 L.per, .slice L.A L.ms.length L.cap, .slice A N cap]] wx (GotTextX wx ns) by
      have := text2_any L A cap ns wx (N1.out.below (below_more BC.out hb)) (by rw [← HN.out]; exact HC1.out) HCM.out (by rw [← HN.out]; have := HNB.out.1; omega)
      rw [← HN.out] at this; exact this.mono fun _ _ h => h.x)
    have HPJ := Lib.hid (fun wx (pm : Int) (mm : List Sm) (Am : Option Addr) (km cm : Nat) (hkm : km = mm.length) (hok : LmOk wx ⟨pm, mm, Am, cm⟩) (hli : (Lm.mk pm mm Am cm).li = L.li) (A2 : Option Addr) (k2 c2 : Nat) (hk : k2 = ns.length) (hn : NdsAt wx A2 ns) (h1 : k2 ≤ c2) (h2 : c2 ≤ maxLen) => show Calls Try.prog 32 #[.agg #[.int .i64 pm, .slice Am km cm], .agg #[.slice A2 k2 c2]] wx (GotRgX wx zs2 er2) by
      subst hk hkm
      have := ringsP_any ⟨pm, mm, Am, cm⟩ A2 c2 ns wx hok hn h1 h2
      rw [hli, ← HQ2.out] at this; exact this.mono fun _ _ h => h.x)
    go_wp2_with fail
    go_region_held3 (fun w' => w'.cell? ⟨w.heap.size, 0, none⟩ = some (.int .i64 L.per) ∧ w'.cell? ⟨w.heap.size, 1, none⟩ = some (.slice L.A L.ms.length L.cap) ∧ w'.cell? ⟨w.heap.size, 2, none⟩ = some (.slice A N cap) ∧ Below wr1.heap.size wr1 w')
      ((refine HK.out _ ?_; first | assumption | exact HDR.out))
      (first
      | (go_at_call 17; refine (HLS.out _ (HSB.out _ (by assumption))).mono ?_; rintro e wl ⟨pm, mm, Am, km, cm, rfl, hkm, hokl, hlil, hbl⟩; have hbwl := below_more (HSB.out _ (by assumption)) hbl)
      | (go_at_call 18; refine (HTX.out _ (HSB.out _ (by assumption))).mono ?_; rintro e wt ⟨A2, kt, c2, rfl, hkt, hnt, hkc, hcm, hbt⟩; have hbwt := below_more (HSB.out _ (by assumption)) hbt)
      | (go_at_call 32; refine (HPJ.out _ pm mm Am km cm hkm.out (hokl.out.below hbt) hlil.out A2 kt c2 hkt.out hnt.out hkc hcm).mono ?_; rintro e wp2 ⟨Ap2, kp2, cp2, rfl, hkp2, hip2, hbp2⟩; have hbwp2 := below_more (HSB.out _ (by assumption)) hbp2))
    have Hp2 := Lib.hid hip2.out
    have Kp2 := Lib.hid hkp2.out
    have Hp0 := Lib.hid (Hp0.out.below hbwp2)
    have Hr0 := Lib.hid (Hr0.out.below hbwp2)
    have Hp1 := Lib.hid (Hp1.out.below hbwp2)
    have Hr1 := Lib.hid (Hr1.out.below hbwp2)
    have BC := Lib.hid (below_more BC.out hbwp2)
    have D := Lib.hid (blk_keep hbwp2 D.out)
    clear HK HDR HSB HLS HTX HPJ hbwl hbwt hbwp2 hbp2 hbl hbt hkm hokl hlil hkt hnt hkc hcm hip2 hkp2
    have x0 := cell_of_blk D.out 0
    have x1 := cell_of_blk D.out 1
    have x2 := cell_of_blk D.out 2
    simp at x0 x1 x2
    have HRJ := Lib.hid (show Calls Try.prog 33 #[.agg #[.int .i64 L.per, .slice L.A L.ms.length L.cap], .agg #[.slice A N cap]] wp2 (GotRgX wp2 zs2 er2) by
      have hn := N1.out.below BC.out
      have hok := L1.out.below BC.out
      have h1 : ns.length ≤ cap := by rw [← HN.out]; exact HC1.out
      have h2 := HCM.out
      have := rrings_any L A cap ns wp2 hok hn h1 h2
      rw [← HQ2.out, ← HN.out] at this; exact this.mono fun _ _ h => h.x)
    go_wp2_with fail
    refine HRJ.out.mono ?_; rintro e wr2 ⟨Ar2, kr2, cr2, rfl, hkr2, hir2, hbr2⟩
    have Hr2 := Lib.hid hir2.out
    have Kr2 := Lib.hid hkr2.out
    have Hp0 := Lib.hid (Hp0.out.below hbr2)
    have Hr0 := Lib.hid (Hr0.out.below hbr2)
    have Hp1 := Lib.hid (Hp1.out.below hbr2)
    have Hr1 := Lib.hid (Hr1.out.below hbr2)
    have Hp2 := Lib.hid (Hp2.out.below hbr2)
    have BC := Lib.hid (below_more BC.out hbr2)
    have D := Lib.hid (blk_keep hbr2 D.out)
    clear HRJ hbr2 hir2 hkr2 x0 x1 x2
    have HSJ := Lib.hid (show Calls Try.prog 34 #[.slice Ap0 kp0 cp0, .slice Ar0 kr0 cr0] wr2 (fun e w' => e = .returned (.bool true) ∧ Below wr2.heap.size wr2 w') from
      sameM_eq _ _ _ _ _ _ zs0 wr2 Kp0.out Kr0.out Hp0.out Hr0.out HLN0.out)
    go_wp2_with fail
    refine HSJ.out.mono ?_; rintro e ws0 ⟨rfl, hbs⟩
    have Hp0 := Lib.hid (Hp0.out.below hbs)
    have Hr0 := Lib.hid (Hr0.out.below hbs)
    have Hp1 := Lib.hid (Hp1.out.below hbs)
    have Hr1 := Lib.hid (Hr1.out.below hbs)
    have Hp2 := Lib.hid (Hp2.out.below hbs)
    have Hr2 := Lib.hid (Hr2.out.below hbs)
    have BC := Lib.hid (below_more BC.out hbs)
    clear HSJ hbs
    have HSJ := Lib.hid (show Calls Try.prog 27 #[.slice Ap1 kp1 cp1, .slice Ar1 kr1 cr1] ws0 (fun e w' => e = .returned (.bool true) ∧ Below ws0.heap.size ws0 w') from
      sameI_eq2 _ _ _ _ _ _ zs1 ws0 Kp1.out Kr1.out Hp1.out Hr1.out HLN1.out)
    go_wp2_with fail
    refine HSJ.out.mono ?_; rintro e ws1 ⟨rfl, hbs⟩
    have Hp0 := Lib.hid (Hp0.out.below hbs)
    have Hr0 := Lib.hid (Hr0.out.below hbs)
    have Hp1 := Lib.hid (Hp1.out.below hbs)
    have Hr1 := Lib.hid (Hr1.out.below hbs)
    have Hp2 := Lib.hid (Hp2.out.below hbs)
    have Hr2 := Lib.hid (Hr2.out.below hbs)
    have BC := Lib.hid (below_more BC.out hbs)
    clear HSJ hbs
    have HCV := Lib.hid (spans_any Ap2 kp2 cp2 zs2 ws1 Kp2.out Hp2.out HLN2.out)
    go_wp2_with fail
    refine HCV.out.mono ?_; rintro e wv2 ⟨Av2, kv2, cv2, rfl, hkv, hiv, hbv⟩
    have Kp2 := Lib.hid hkv.out
    have HV2 := Lib.hid hiv.out
    have Hp0 := Lib.hid (Hp0.out.below hbv)
    have Hr0 := Lib.hid (Hr0.out.below hbv)
    have Hp1 := Lib.hid (Hp1.out.below hbv)
    have Hr1 := Lib.hid (Hr1.out.below hbv)
    have Hp2 := Lib.hid (Hp2.out.below hbv)
    have Hr2 := Lib.hid (Hr2.out.below hbv)
    have Hp2 := HV2
    have BC := Lib.hid (below_more BC.out hbv)
    clear HCV hkv hiv hbv HV2
    have HSJ := Lib.hid (show Calls Try.prog 35 #[.slice Av2 kv2 cv2, .slice Ar2 kr2 cr2] wv2 (fun e w' => e = .returned (.bool true) ∧ Below wv2.heap.size wv2 w') from
      sameG_eq _ _ _ _ _ _ zs2 wv2 Kp2.out Kr2.out Hp2.out Hr2.out HLN2.out)
    go_wp2_with fail
    refine HSJ.out.mono ?_; rintro e ws2 ⟨rfl, hbs⟩
    have Hp0 := Lib.hid (Hp0.out.below hbs)
    have Hr0 := Lib.hid (Hr0.out.below hbs)
    have Hp1 := Lib.hid (Hp1.out.below hbs)
    have Hr1 := Lib.hid (Hr1.out.below hbs)
    have Hp2 := Lib.hid (Hp2.out.below hbs)
    have Hr2 := Lib.hid (Hr2.out.below hbs)
    have BC := Lib.hid (below_more BC.out hbs)
    clear HSJ hbs
    go_wp2_with fail
    refine (works2_any _).mono ?_; rintro e wz ⟨rfl, hbz⟩
    go_wp2
    go_ret
    exact ⟨rfl, below_more HB.out (below_more B1.out (below_more BC.out hbz))⟩

end Go.Proofs.Ytbfedahonfjpfaa
