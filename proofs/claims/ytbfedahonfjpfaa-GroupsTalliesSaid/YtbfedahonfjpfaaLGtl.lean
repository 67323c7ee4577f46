/-
  Contract of the law of Tally and Flat: it returns true.
-/
import Derived.Test.YtbfedahonfjpfaaPkE
import Derived.Test.YtbfedahonfjpfaaPkL
import Derived.Test.YtbfedahonfjpfaaPkG
import Derived.Deep.RegionHeld3
import Derived.Deep.DeepCutAuto
namespace Go.Proofs.Ytbfedahonfjpfaa
open Go.RowKit

theorem tallyQ_len (l : Li) (ns : List Nd) : (tallyQ l ns).1.length ≤ 1000000 := by
  unfold tallyQ
  split
  · simp
  · rename_i h
    have h1 := check_len (text_ok (show textErr l ns = 0 by simpa using h)).1
    have h2 := (tally_ok l.signs.length ns).1
    dsimp only
    omega

set_option maxHeartbeats 6400000 in
set_option maxRecDepth 100000 in
theorem law_gtallies (L : Lm) (A : Option Addr) (cap : Nat) (ns : List Nd)  (w : World) (hl : LmOk w L) (hn : NdsAt w A ns) (hc1 : ns.length ≤ cap) (hc : cap ≤ maxLen)  :
    Calls Try.prog 10 #[.agg #[.int .i64 L.per, .slice L.A L.ms.length L.cap, .slice A ns.length cap]] w fun e w' => e = .returned (.bool true) ∧ Below w.heap.size w w' := by
  obtain ⟨W, hW⟩ : ∃ W, W = (w.alloc (.cells #[.int .i64 L.per, .slice L.A L.ms.length L.cap, .slice A ns.length cap] 29)) := ⟨_, rfl⟩
  have HB := Lib.hid (show Below w.heap.size w W from hW ▸ (Below.refl _ _).alloc (Nat.le_refl _) _)
  have C1 := Lib.hid (show W.heap[w.heap.size]? = some (.cells #[.int .i64 L.per, .slice L.A L.ms.length L.cap, .slice A ns.length cap] 29 (0, 0)) by
    rw [hW]; exact heap_alloc_new _ _)
  have HL := Lib.hid (hl.below HB.out)
  have HNS := Lib.hid (hn.below HB.out)
  have HC1 := Lib.hid hc1
  have HCM := Lib.hid hc
  have hnm : ns.length ≤ maxLen := Nat.le_trans hc1 hc
  have HBG := Lib.hid (fun r (h : bigG L.li ns.length = r) => show Calls Try.prog 15 #[.agg #[.int .i64 L.per, .slice L.A L.ms.length L.cap, .slice A ns.length cap]] W _ from bigG_is L A ns.length cap W HL.out hnm r h)
  clear hl hn hc1 hc hnm
  obtain ⟨B, hB⟩ : ∃ B, bigG L.li ns.length = B := ⟨_, rfl⟩
  have HBB := Lib.hid hB
  clear hB
  obtain ⟨N, hN⟩ : ∃ N, N = ns.length := ⟨_, rfl⟩
  have HN := Lib.hid hN
  rw [← hN] at hW C1 HBG HC1 HBB ⊢
  clear hN
  go_enter Try.func10, Try.ntmps10
  go_wp2_with fail
  rw [← hW]
  refine (HBG.out _ HBB.out).mono ?_; rintro e w1 ⟨rfl, hb1⟩
  have B1 := Lib.hid hb1
  have D := Lib.hid (blk_keep hb1 C1.out)
  have x0 := cell_of_blk D.out 0
  have x1 := cell_of_blk D.out 1
  have x2 := cell_of_blk D.out 2
  simp at x0 x1 x2
  have hsz1 := (Array.getElem?_eq_some_iff.1 D.out).1
  clear hb1 hW
  cases B with
  | true =>
    go_wp2_with fail
    refine (works2_any _).mono ?_; rintro e w2 ⟨rfl, hb2⟩
    go_wp2
    go_ret
    exact ⟨rfl, below_more (below_more HB.out B1.out) hb2⟩
  | false =>
    have HNB := Lib.hid (not_bigG (L := L) HBB.out)
    have L1 := Lib.hid (HL.out.below B1.out)
    have N1 := Lib.hid (HNS.out.below B1.out)
    clear x0 x1 x2 hsz1
    have BC := Lib.hid (Below.refl w1.heap.size w1)
    obtain ⟨⟨zs0, er0⟩, hQ0⟩ : ∃ q, q = tallyQ L.li ns := ⟨_, rfl⟩
    have HQ0 := Lib.hid hQ0
    have HLN0 := Lib.hid (show zs0.length ≤ 1000000 by have := tallyQ_len L.li ns; rw [← hQ0] at this; dsimp only at this; have := HNB.out.1; have := HN.out; omega)
    clear hQ0
    have HK := Lib.hid (fun w' (hb : Below w1.heap.size w1 w') => show w'.cell? ⟨w.heap.size, 0, none⟩ = some (.int .i64 L.per) ∧ w'.cell? ⟨w.heap.size, 1, none⟩ = some (.slice L.A L.ms.length L.cap) ∧ w'.cell? ⟨w.heap.size, 2, none⟩ = some (.slice A N cap) ∧ Below w1.heap.size w1 w' from
      ⟨cell_of_blk (blk_keep hb D.out) 0, cell_of_blk (blk_keep hb D.out) 1, cell_of_blk (blk_keep hb D.out) 2, hb⟩)
    have HDR := Lib.hid (show Below w1.heap.size w1 w1.drew from (Below.refl _ _).drew)
    have HSB := Lib.hid (fun wx (h : wx.cell? ⟨w.heap.size, 0, none⟩ = some (.int .i64 L.per) ∧ wx.cell? ⟨w.heap.size, 1, none⟩ = some (.slice L.A L.ms.length L.cap) ∧ wx.cell? ⟨w.heap.size, 2, none⟩ = some (.slice A N cap) ∧ Below w1.heap.size w1 wx) => h.2.2.2)
    have HLS := Lib.hid (fun wx (hb : Below w1.heap.size w1 wx) => show Calls Try.prog 17 #[.agg #[.int .i64 L.per, .slice L.A L.ms.length L.cap, .slice A N cap]] wx (GotListX wx L.li) from
      (list2_any L A N cap wx (L1.out.below (below_more BC.out hb)) (by have := HNB.out.2.1; omega) (fun m hm => by have := (HNB.out.2.2 m hm).1; omega)).mono fun _ _ h => h.x)
    have HTX := Lib.hid (fun wx (hb : Below w1.heap.size w1 wx) => show Calls Try.prog 18 #[.agg #[.int .i64 L.per, .slice L.A L.ms.length L.cap, .slice A N cap]] wx (GotTextX wx ns) by
      have := text2_any L A cap ns wx (N1.out.below (below_more BC.out hb)) (by rw [← HN.out]; exact HC1.out) HCM.out (by rw [← HN.out]; have := HNB.out.1; omega)
      rw [← HN.out] at this; exact this.mono fun _ _ h => h.x)
    have HPJ := Lib.hid (fun wx (pm : Int) (mm : List Sm) (Am : Option Addr) (km cm : Nat) (hkm : km = mm.length) (hok : LmOk wx ⟨pm, mm, Am, cm⟩) (hli : (Lm.mk pm mm Am cm).li = L.li) (A2 : Option Addr) (k2 c2 : Nat) (hk : k2 = ns.length) (hn : NdsAt wx A2 ns) (h1 : k2 ≤ c2) (h2 : c2 ≤ maxLen) => show Calls Try.prog 49 #[.agg #[.int .i64 pm, .slice Am km cm], .agg #[.slice A2 k2 c2]] wx (GotIntsX wx zs0 er0) by
      subst hk hkm
      have := tallyP_any ⟨pm, mm, Am, cm⟩ A2 c2 ns wx hok hn h1 h2
      rw [hli, ← HQ0.out] at this; exact this)
    go_wp2_with fail
    go_region_held3 (fun w' => w'.cell? ⟨w.heap.size, 0, none⟩ = some (.int .i64 L.per) ∧ w'.cell? ⟨w.heap.size, 1, none⟩ = some (.slice L.A L.ms.length L.cap) ∧ w'.cell? ⟨w.heap.size, 2, none⟩ = some (.slice A N cap) ∧ Below w1.heap.size w1 w')
      ((refine HK.out _ ?_; first | assumption | exact HDR.out))
      (first
      | (go_at_call 17; refine (HLS.out _ (HSB.out _ (by assumption))).mono ?_; rintro e wl ⟨pm, mm, Am, km, cm, rfl, hkm, hokl, hlil, hbl⟩; have hbwl := below_more (HSB.out _ (by assumption)) hbl)
      | (go_at_call 18; refine (HTX.out _ (HSB.out _ (by assumption))).mono ?_; rintro e wt ⟨A2, kt, c2, rfl, hkt, hnt, hkc, hcm, hbt⟩; have hbwt := below_more (HSB.out _ (by assumption)) hbt)
      | (go_at_call 49; refine (HPJ.out _ pm mm Am km cm hkm.out (hokl.out.below hbt) hlil.out A2 kt c2 hkt.out hnt.out hkc hcm).mono ?_; rintro e wp0 ⟨Ap0, kp0, cp0, rfl, hkp0, hip0, hbp0⟩; have hbwp0 := below_more (HSB.out _ (by assumption)) hbp0))
    have Hp0 := Lib.hid hip0.out
    have Kp0 := Lib.hid hkp0.out
    have BC := Lib.hid (below_more BC.out hbwp0)
    have D := Lib.hid (blk_keep hbwp0 D.out)
    clear HK HDR HSB HLS HTX HPJ hbwl hbwt hbwp0 hbp0 hbl hbt hkm hokl hlil hkt hnt hkc hcm hip0 hkp0
    have x0 := cell_of_blk D.out 0
    have x1 := cell_of_blk D.out 1
    have x2 := cell_of_blk D.out 2
    simp at x0 x1 x2
    have HRJ := Lib.hid (show Calls Try.prog 50 #[.agg #[.int .i64 L.per, .slice L.A L.ms.length L.cap], .agg #[.slice A N cap]] wp0 (GotIntsX wp0 zs0 er0) by
      have hn := N1.out.below BC.out
      have hok := L1.out.below BC.out
      have h1 : ns.length ≤ cap := by rw [← HN.out]; exact HC1.out
      have h2 := HCM.out
      have := rtally_any L A cap ns wp0 hok hn h1 h2
      rw [← HQ0.out, ← HN.out] at this; exact this)
    go_wp2_with fail
    refine HRJ.out.mono ?_; rintro e wr0 ⟨Ar0, kr0, cr0, rfl, hkr0, hir0, hbr0⟩
    have Hr0 := Lib.hid hir0.out
    have Kr0 := Lib.hid hkr0.out
    have Hp0 := Lib.hid (Hp0.out.below hbr0)
    have BC := Lib.hid (below_more BC.out hbr0)
    have D := Lib.hid (blk_keep hbr0 D.out)
    clear HRJ hbr0 hir0 hkr0 x0 x1 x2
    obtain ⟨⟨zs1, er1⟩, hQ1⟩ : ∃ q, q = regQ flatP L.li ns := ⟨_, rfl⟩
    have HQ1 := Lib.hid hQ1
    have HLN1 := Lib.hid (show zs1.length ≤ 1000000 by have := flatQ_len L.li ns; rw [← hQ1] at this; dsimp only at this; have := HNB.out.1; have := HN.out; omega)
    clear hQ1
    have HK := Lib.hid (fun w' (hb : Below wr0.heap.size wr0 w') => show w'.cell? ⟨w.heap.size, 0, none⟩ = some (.int .i64 L.per) ∧ w'.cell? ⟨w.heap.size, 1, none⟩ = some (.slice L.A L.ms.length L.cap) ∧ w'.cell? ⟨w.heap.size, 2, none⟩ = some (.slice A N cap) ∧ Below wr0.heap.size wr0 w' from
      ⟨cell_of_blk (blk_keep hb D.out) 0, cell_of_blk (blk_keep hb D.out) 1, cell_of_blk (blk_keep hb D.out) 2, hb⟩)
    have HDR := Lib.hid (show Below wr0.heap.size wr0 wr0.drew from (Below.refl _ _).drew)
    have HSB := Lib.hid (fun wx (h : wx.cell? ⟨w.heap.size, 0, none⟩ = some (.int .i64 L.per) ∧ wx.cell? ⟨w.heap.size, 1, none⟩ = some (.slice L.A L.ms.length L.cap) ∧ wx.cell? ⟨w.heap.size, 2, none⟩ = some (.slice A N cap) ∧ Below wr0.heap.size wr0 wx) => h.2.2.2)
    have HLS := Lib.hid (fun wx (hb : Below wr0.heap.size wr0 wx) => show Calls Try.prog 17 #[.agg #[.int .i64 L.per, .slice L.A L.ms.length L.cap, .slice A N cap]] wx (GotListX wx L.li) from
      (list2_any L A N cap wx (L1.out.below (below_more BC.out hb)) (by have := HNB.out.2.1; omega) (fun m hm => by have := (HNB.out.2.2 m hm).1; omega)).mono fun _ _ h => h.x)
    have HTX := Lib.hid (fun wx (hb : Below wr0.heap.size wr0 wx) => show Calls Try.prog 18 #[.agg #[.int .i64 L.per, .slice L.A L.ms.length L.cap, .slice A N cap]] wx (GotTextX wx ns) by
      have := text2_any L A cap ns wx (N1.out.below (below_more BC.out hb)) (by rw [← HN.out]; exact HC1.out) HCM.out (by rw [← HN.out]; have := HNB.out.1; omega)
      rw [← HN.out] at this; exact this.mono fun _ _ h => h.x)
    have HPJ := Lib.hid (fun wx (pm : Int) (mm : List Sm) (Am : Option Addr) (km cm : Nat) (hkm : km = mm.length) (hok : LmOk wx ⟨pm, mm, Am, cm⟩) (hli : (Lm.mk pm mm Am cm).li = L.li) (A2 : Option Addr) (k2 c2 : Nat) (hk : k2 = ns.length) (hn : NdsAt wx A2 ns) (h1 : k2 ≤ c2) (h2 : c2 ≤ maxLen) => show Calls Try.prog 51 #[.agg #[.int .i64 pm, .slice Am km cm], .agg #[.slice A2 k2 c2]] wx (GotTextO wx zs1 er1) by
      subst hk hkm
      have := flatT_any ⟨pm, mm, Am, cm⟩ A2 c2 ns wx hok hn h1 h2
      rw [hli, ← HQ1.out] at this; exact this)
    go_wp2_with fail
    go_cut [7, 8] (fun p q wx => ∃ x, p = .pointer (some ⟨x, 0, none⟩) ∧ q = .int .i64 er1 ∧ Hid (TBox wr0 wx x zs1))
    case first =>
      go_region_held3 (fun w' => w'.cell? ⟨w.heap.size, 0, none⟩ = some (.int .i64 L.per) ∧ w'.cell? ⟨w.heap.size, 1, none⟩ = some (.slice L.A L.ms.length L.cap) ∧ w'.cell? ⟨w.heap.size, 2, none⟩ = some (.slice A N cap) ∧ Below wr0.heap.size wr0 w')
        (((refine HK.out _ ?_; first | assumption | exact HDR.out | (repeat (first | exact Below.refl _ _ | assumption | refine Below.drew ?_ | refine Below.alloc ?_ (by first | omega | (simp; omega) | simp) _ | refine Below.setCell ?_ (by first | omega | (simp; omega) | simp) _)))))
        (first
        | (go_at_call 17; refine (HLS.out _ (HSB.out _ (by assumption))).mono ?_; rintro e wl ⟨pm, mm, Am, km, cm, rfl, hkm, hokl, hlil, hbl⟩; have hbwl := below_more (HSB.out _ (by assumption)) hbl; have hzl := hbwl.size; have hyl := hbl.size; (try simp at hyl); (try (have hqwl0 : wr0.heap.size < wl.heap.size := by omega)); have HBl := Lib.hid hbl; have hltl := fun b hb => Nat.lt_of_lt_of_le (n := b) hb hbl.size; obtain ⟨hcl, hfl⟩ := bcell hbl; clear hbl)
        | (go_at_call 18; refine (HTX.out _ (HSB.out _ (by assumption))).mono ?_; rintro e wt ⟨A2, kt, c2, rfl, hkt, hnt, hkc, hcm, hbt⟩; have hbwt := below_more (HSB.out _ (by assumption)) hbt; have hzt := hbwt.size; have hyt := hbt.size; (try simp at hyt); (try (have hqwt0 : wr0.heap.size < wt.heap.size := by omega)); (try (have hqwt1 : wl.heap.size < wt.heap.size := by omega)); have HBt := Lib.hid hbt; have hltt := fun b hb => Nat.lt_of_lt_of_le (n := b) hb hbt.size; obtain ⟨hct, hft⟩ := bcell hbt; have hlt2 : Below wl.heap.size wl wt := (by first | exact hbt | exact below_of hbt | exact below_of (below_of hbt)); clear hbt)
        | (go_at_call 51; refine (HPJ.out _ pm mm Am km cm hkm.out (hokl.out.below (below_more hlt2 (by first | exact Below.refl _ _ | exact below_alloc _ _ | exact (below_alloc _ _).drew | exact two_under _ _ _))) hlil.out A2 kt c2 hkt.out (hnt.out.below (by first | exact Below.refl _ _ | exact below_alloc _ _ | exact (below_alloc _ _).drew | exact two_under _ _ _)) hkc hcm).mono ?_; rintro e wp1 ⟨Ap1, kp1, cp1, rfl, hkp1, hip1, hbp1⟩; have hbwp1 := below_more (HSB.out _ (by assumption)) hbp1; have hzp1 := hbwp1.size; have hyp1 := hbp1.size; (try simp at hyp1); (try (have hqwp10 : wr0.heap.size < wp1.heap.size := by omega)); (try (have hqwp11 : wl.heap.size < wp1.heap.size := by omega)); (try (have hqwp12 : wt.heap.size < wp1.heap.size := by omega)); have HBp1 := Lib.hid hbp1; have hltp1 := fun b hb => Nat.lt_of_lt_of_le (n := b) hb hbp1.size; obtain ⟨hcp1, hfp1⟩ := bcell hbp1; clear hbp1))
      all_goals go_wp2
      all_goals go_meet
      all_goals refine ⟨_, rfl, rfl, Lib.hid ?_⟩
      all_goals first
        | (refine tbox_of (wp1) ?_ HBl HBt HBp1 hkp1 hip1 ?_ ?_ ?_ ?_ ?_; (first | with_reducible rfl | (simp [go_sem] <;> fail) | (simp [go_sem, *] <;> fail) | (go_simp <;> fail)))
        | (refine tbox_of (wp1.alloc (.cells #[.slice none 0 0] 27)) ?_ HBl HBt HBp1 hkp1 hip1 ?_ ?_ ?_ ?_ ?_; (first | with_reducible rfl | (simp [go_sem] <;> fail) | (simp [go_sem, *] <;> fail) | (go_simp <;> fail)))
      all_goals first
        | exact .inl ⟨heap_alloc_new _ _, by simp⟩
        | exact .inr (.inl ⟨heap_alloc_new _ _, by simp⟩)
        | exact .inr (.inr (.inl ⟨heap_alloc_new _ _, by simp⟩))
        | exact .inr (.inr (.inr ⟨heap_alloc_new _ _, by simp⟩))
        | (repeat (first | exact Below.refl _ _ | refine Below.drew ?_ | refine Below.alloc ?_ (by simp) _))
    case rest =>
    obtain ⟨x1, rfl, rfl, hbox⟩ := hcut
    obtain ⟨wp1, rfl⟩ : ∃ w, w = wc := ⟨_, rfl⟩
    obtain ⟨Ap1, kp1, cp1, hbw, hbx, hk, hi⟩ := hbox.out
    have Hp1 := Lib.hid hi
    have Kp1 := Lib.hid hk
    have Dx1 := Lib.hid hbx
    have Hp0 := Lib.hid (Hp0.out.below hbw)
    have Hr0 := Lib.hid (Hr0.out.below hbw)
    have BC := Lib.hid (below_more BC.out hbw)
    have D := Lib.hid (blk_keep hbw D.out)
    clear HK HDR HSB HLS HTX HPJ hbox hbw hbx hk hi
    have x0 := cell_of_blk D.out 0
    have x1 := cell_of_blk D.out 1
    have x2 := cell_of_blk D.out 2
    simp at x0 x1 x2
    have HRJ := Lib.hid (show Calls Try.prog 52 #[.agg #[.int .i64 L.per, .slice L.A L.ms.length L.cap], .agg #[.slice A N cap]] wp1 (GotTextO wp1 zs1 er1) by
      have hn := N1.out.below BC.out
      have hok := L1.out.below BC.out
      have h1 : ns.length ≤ cap := by rw [← HN.out]; exact HC1.out
      have h2 := HCM.out
      have := rflat_any2 L A cap ns wp1 hok hn h1 h2
      rw [← HQ1.out, ← HN.out] at this; exact this)
    go_wp2_with fail
    refine HRJ.out.mono ?_; rintro e wr1 ⟨Ar1, kr1, cr1, rfl, hkr1, hir1, hbr1⟩
    have Hr1 := Lib.hid (own_nodes hir1.out)
    have Kr1 := Lib.hid hkr1.out
    have Hp0 := Lib.hid (Hp0.out.below hbr1)
    have Hr0 := Lib.hid (Hr0.out.below hbr1)
    have Hp1 := Lib.hid (Hp1.out.below hbr1)
    have Dx1 := Lib.hid (blk_keep hbr1 Dx1.out)
    have BC := Lib.hid (below_more BC.out hbr1)
    have D := Lib.hid (blk_keep hbr1 D.out)
    clear HRJ hbr1 hir1 hkr1 x0 x1 x2
    have HY := Lib.hid (below_alloc wr1 (.cells #[.slice Ar1 kr1 cr1] 27))
    have Dy1 := Lib.hid (heap_alloc_new wr1 (.cells #[.slice Ar1 kr1 cr1] 27))
    go_wp2_with fail
    obtain ⟨wy1, hwy⟩ : ∃ wy, wy = wr1.alloc (.cells #[.slice Ar1 kr1 cr1] 27) := ⟨_, rfl⟩
    rw [← hwy] at HY Dy1 ⊢
    have Hp0 := Lib.hid (Hp0.out.below HY.out)
    have Hr0 := Lib.hid (Hr0.out.below HY.out)
    have Hp1 := Lib.hid (Hp1.out.below HY.out)
    have Dx1 := Lib.hid (blk_keep HY.out Dx1.out)
    have Hr1 := Lib.hid (Hr1.out.below HY.out)
    have BC := Lib.hid (below_more BC.out HY.out)
    have D := Lib.hid (blk_keep HY.out D.out)
    clear HY hwy
    have HSJ := Lib.hid (show Calls Try.prog 27 #[.slice Ap0 kp0 cp0, .slice Ar0 kr0 cr0] wy1 (fun e w' => e = .returned (.bool true) ∧ Below wy1.heap.size wy1 w') from
      sameI_eq _ _ _ _ _ _ zs0 wy1 Kp0.out Kr0.out Hp0.out Hr0.out HLN0.out)
    refine HSJ.out.mono ?_; rintro e ws0 ⟨rfl, hbs⟩
    have Hp0 := Lib.hid (Hp0.out.below hbs)
    have Hr0 := Lib.hid (Hr0.out.below hbs)
    have Hp1 := Lib.hid (Hp1.out.below hbs)
    have Dx1 := Lib.hid (blk_keep hbs Dx1.out)
    have Hr1 := Lib.hid (Hr1.out.below hbs)
    have Dy1 := Lib.hid (blk_keep hbs Dy1.out)
    have BC := Lib.hid (below_more BC.out hbs)
    clear HSJ hbs
    have HSJ := Lib.hid (show Calls Try.prog 22 #[.agg #[.slice Ap1 kp1 cp1], .agg #[.slice Ar1 kr1 cr1]] ws0 (fun e w' => e = .returned (.bool true) ∧ Below ws0.heap.size ws0 w') from
      rsameT_eq _ _ _ _ _ _ zs1 ws0 Kp1.out Kr1.out Hp1.out Hr1.out HLN1.out)
    have tx := cell_of_blk Dx1.out 0
    have ty := cell_of_blk Dy1.out 0
    have tx0 := (Array.getElem?_eq_some_iff.1 Dx1.out).1
    have ty0 := (Array.getElem?_eq_some_iff.1 Dy1.out).1
    simp at tx ty
    go_wp2_with fail
    refine HSJ.out.mono ?_; rintro e ws1 ⟨rfl, hbs⟩
    clear tx ty tx0 ty0
    have Hp0 := Lib.hid (Hp0.out.below hbs)
    have Hr0 := Lib.hid (Hr0.out.below hbs)
    have Hp1 := Lib.hid (Hp1.out.below hbs)
    have Dx1 := Lib.hid (blk_keep hbs Dx1.out)
    have Hr1 := Lib.hid (Hr1.out.below hbs)
    have Dy1 := Lib.hid (blk_keep hbs Dy1.out)
    have BC := Lib.hid (below_more BC.out hbs)
    clear HSJ hbs
    go_wp2_with fail
    refine (works2_any _).mono ?_; rintro e wz ⟨rfl, hbz⟩
    go_wp2
    go_ret
    exact ⟨rfl, below_more HB.out (below_more B1.out (below_more BC.out hbz))⟩

end Go.Proofs.Ytbfedahonfjpfaa
