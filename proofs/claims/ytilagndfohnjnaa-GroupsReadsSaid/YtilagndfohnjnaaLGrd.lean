/-
  Contract of the law that each leaf of a text is read once: it returns true.
-/
import Derived.Test.YtilagndfohnjnaaPkR
import Derived.Test.YtilagndfohnjnaaPkE
import Derived.Deep.RegionHeld3
import Derived.Deep.DeepCutAuto
import Derived.Deep.QuietTactic
import Derived.BigQuiet
import Derived.IntWalk
namespace Go.Proofs.Ytilagndfohnjnaa
open Go.RowKit

set_option maxHeartbeats 16000000 in
set_option maxRecDepth 100000 in
theorem law_greads (L : Lm) (A : Option Addr) (cap : Nat) (ns : List Nd)  (w : World) (hl : LmOk w L) (hn : NdsAt w A ns) (hc1 : ns.length ≤ cap) (hc : cap ≤ maxLen)  :
    Calls Try.prog 11 #[.agg #[.int .i64 L.per, .slice L.A L.ms.length L.cap, .slice A ns.length cap]] w fun e w' => e = .returned (.bool true) ∧ Below w.heap.size w w' := by
  obtain ⟨W, hW⟩ : ∃ W, W = w.alloc (.cells #[.int .i64 L.per, .slice L.A L.ms.length L.cap, .slice A ns.length cap] 29) := ⟨_, rfl⟩
  have HB := Lib.hid (show Below w.heap.size w W from hW ▸ below_alloc _ _)
  have C1 := Lib.hid (show W.heap[w.heap.size]? = some (.cells #[.int .i64 L.per, .slice L.A L.ms.length L.cap, .slice A ns.length cap] 29 (0, 0)) by
    rw [hW]; exact heap_alloc_new _ _)
  have HL := Lib.hid (hl.below HB.out)
  have HNS := Lib.hid (hn.below HB.out)
  have HC1 := Lib.hid hc1
  have HCM := Lib.hid hc
  have HL0 := Lib.hid hl
  have HN0 := Lib.hid hn
  have HRT := Lib.hid (fun r (h : rightB L.li ns = r) => show Calls Try.prog 53 #[.agg #[.int .i64 L.per, .slice L.A L.ms.length L.cap, .slice A ns.length cap]] W _ from right_is L A cap ns W HL.out HNS.out hc1 hc r h)
  obtain ⟨G, hG⟩ : ∃ G, rightB L.li ns = G := ⟨_, rfl⟩
  have HBB := Lib.hid hG
  clear hG hl hn hc1 hc
  obtain ⟨N, hN⟩ : ∃ N, N = ns.length := ⟨_, rfl⟩
  have HN := Lib.hid hN
  rw [← hN] at hW C1 HRT HC1 ⊢
  clear hN
  go_enter Try.func11, Try.ntmps11
  go_wp2_with fail
  rw [← hW]
  refine (HRT.out _ HBB.out).mono ?_; rintro e w1 ⟨rfl, hb1⟩
  have HBC := Lib.hid (below_more HB.out hb1)
  have D := Lib.hid (blk_keep hb1 C1.out)
  clear hb1 hW
  cases G with
  | false =>
    go_wp2_with fail
    refine (works2_any _).mono ?_; rintro e w2 ⟨rfl, hb2⟩
    go_wp2
    go_ret
    exact ⟨rfl, below_more HBC.out hb2⟩
  | true =>
    obtain ⟨hbg, hok⟩ := right_yes HBB.out
    have HOK := Lib.hid hok
    have HNB := Lib.hid (not_bigG (L := L) hbg)
    clear hbg hok
    have L0 := Lib.hid (fun wx (hb : Below w.heap.size w wx) => show LmOk wx L from HL0.out.below hb)
    have N0 := Lib.hid (fun wx (hb : Below w.heap.size w wx) => show NdsAt wx A ns from HN0.out.below hb)
    have HLS := Lib.hid (fun wx (hb : Below w.heap.size w wx) => show Calls Try.prog 17 #[.agg #[.int .i64 L.per, .slice L.A L.ms.length L.cap, .slice A N cap]] wx (GotListX wx L.li) from
      (list2_any L A N cap wx (L0.out wx hb) (by have := HNB.out.2.1; omega) (fun m hm => by have := (HNB.out.2.2 m hm).1; omega)).mono fun _ _ h => h.x)
    have HTX := Lib.hid (fun wx (hb : Below w.heap.size w wx) => show Calls Try.prog 18 #[.agg #[.int .i64 L.per, .slice L.A L.ms.length L.cap, .slice A N cap]] wx (GotTextX wx ns) by
      have := text2_any L A cap ns wx (N0.out wx hb) (by rw [← HN.out]; exact HC1.out) HCM.out (by rw [← HN.out]; have := HNB.out.1; have := HN.out; omega)
      rw [← HN.out] at this; exact this.mono fun _ _ h => h.x)
    have HN2 := Lib.hid (show ns.length ≤ 200 from (text_ok HOK.out).2.1)
    obtain ⟨K, hK⟩ : ∃ K, K = L.ms.length := ⟨_, rfl⟩
    have hKK : L.li.signs.length = K := by rw [hK, show L.li.signs = L.signs from rfl, Lm.length_signs]
    have HK2 := Lib.hid hK
    have hk200 : K ≤ 200 := by rw [← hKK]; exact check_len (text_ok HOK.out).1
    obtain ⟨ps, hps⟩ : ∃ ps, ps = ((partsN ns).map plainP).flatten := ⟨_, rfl⟩
    obtain ⟨fs, hfs⟩ : ∃ fs, fs = ((partsN ns).flatMap flatGs).flatten := ⟨_, rfl⟩
    obtain ⟨mr, hmr⟩ : ∃ mr, mr = ns.map (flipN L.li) := ⟨_, rfl⟩
    obtain ⟨cw, hcw⟩ : ∃ cw, cw = countR K ns := ⟨_, rfl⟩
    obtain ⟨ln, hln⟩ : ∃ ln, ln = lineR ns := ⟨_, rfl⟩
    have HLQ := Lib.hid (show lineQ L.li ns = (ln, 0) by rw [hln]; exact line_valid HOK.out)
    have HLL := Lib.hid (show ln.length ≤ 200 by rw [hln]; exact line_le HOK.out)
    have HLC := Lib.hid (show countM K ln = cw by rw [hln, hcw, ← hKK]; exact line_count HOK.out)
    have HMS := Lib.hid (show ∀ m ∈ ln, -1 ≤ m.sign ∧ m.sign < (K : Int) by rw [hln, ← hKK]; exact line_signs HOK.out)
    have HP1 := Lib.hid (show regQ plainP L.li ns = (ps, 0) by rw [hps]; exact plainT_is HOK.out)
    have HF1 := Lib.hid (show regQ flatP L.li ns = (fs, 0) by rw [hfs]; exact flatT_is HOK.out)
    have HM1 := Lib.hid (show mirrorQ L.li ns = (mr, 0) by rw [hmr]; exact mirror_valid2 HOK.out)
    have HPV := Lib.hid (show textErr L.li ps = 0 ∧ countR K ps = cw by rw [hps, hcw]; exact ⟨plain_valid HOK.out, plain_count HOK.out K⟩)
    have HFV := Lib.hid (show textErr L.li fs = 0 ∧ countR K fs = cw by rw [hfs, hcw]; exact ⟨flat_valid HOK.out, flat_count HOK.out K⟩)
    have HMV := Lib.hid (show textErr L.li mr = 0 ∧ countR K mr = cw by rw [hmr, hcw]; exact ⟨mirror_valid HOK.out, mirror_count _ ns K⟩)
    have HCW := Lib.hid (show countR K ns = cw from hcw.symm)
    have hcl : cw.length = K + 1 := by rw [hcw]; exact (count_ok K ns).1
    have HCWL := Lib.hid hcl
    clear hps hfs hmr hcw hln hcl hKK hK

    go_wp2_with fail
    have HPJ := Lib.hid (fun wx (pm : Int) (mm : List Sm) (Am : Option Addr) (km cm : Nat) (hkm : km = mm.length) (hok : LmOk wx ⟨pm, mm, Am, cm⟩) (hli : (Lm.mk pm mm Am cm).li = L.li) (A2 : Option Addr) (k2 c2 : Nat) (hk : k2 = ns.length) (hn : NdsAt wx A2 ns) (h1 : k2 ≤ c2) (h2 : c2 ≤ maxLen) => show Calls Try.prog 28 #[.agg #[.int .i64 pm, .slice Am km cm], .agg #[.slice A2 k2 c2]] wx (GotMarksX wx ln 0) by
      subst hk hkm
      have := lineP_any ⟨pm, mm, Am, cm⟩ A2 c2 ns wx hok hn h1 h2
      rw [hli, HLQ.out] at this; exact this.mono fun _ _ h => h.x)
    have HK := Lib.hid (fun wx (hb : Below w1.heap.size w1 wx) => show wx.cell? ⟨w.heap.size, 0, none⟩ = some (.int .i64 L.per) ∧ wx.cell? ⟨w.heap.size, 1, none⟩ = some (.slice L.A L.ms.length L.cap) ∧ wx.cell? ⟨w.heap.size, 2, none⟩ = some (.slice A N cap) ∧ Below w1.heap.size w1 wx from
      ⟨cell_of_blk (blk_keep hb D.out) 0, cell_of_blk (blk_keep hb D.out) 1, cell_of_blk (blk_keep hb D.out) 2, hb⟩)
    have HDR := Lib.hid (show Below w1.heap.size w1 w1.drew from (Below.refl _ _).drew)
    have HSB := Lib.hid (fun wx (h : wx.cell? ⟨w.heap.size, 0, none⟩ = some (.int .i64 L.per) ∧ wx.cell? ⟨w.heap.size, 1, none⟩ = some (.slice L.A L.ms.length L.cap) ∧ wx.cell? ⟨w.heap.size, 2, none⟩ = some (.slice A N cap) ∧ Below w1.heap.size w1 wx) => h.2.2.2)
    go_wp2_with fail
    go_region_held3 (fun wx => wx.cell? ⟨w.heap.size, 0, none⟩ = some (.int .i64 L.per) ∧ wx.cell? ⟨w.heap.size, 1, none⟩ = some (.slice L.A L.ms.length L.cap) ∧ wx.cell? ⟨w.heap.size, 2, none⟩ = some (.slice A N cap) ∧ Below w1.heap.size w1 wx)
      ((refine HK.out _ ?_; first | assumption | exact HDR.out | (repeat (first | exact Below.refl _ _ | assumption | refine Below.drew ?_ | refine Below.alloc ?_ (by first | omega | (simp; omega) | simp) _ | refine Below.setCell ?_ (by first | omega | (simp; omega) | simp) _))))
      (first
      | (go_at_call 17; refine (HLS.out _ (below_more HBC.out (HSB.out _ (by assumption)))).mono ?_; rintro e wl ⟨pm, mm, Am, km, cm, rfl, hkm, hokl, hlil, hbl⟩; have hbwl := below_more (HSB.out _ (by assumption)) hbl; have hzl := hbwl.size; have hyl := hbl.size; (try simp at hyl); (try (have hqwl0 : w1.heap.size < wl.heap.size := by omega)); have HBl := Lib.hid hbl; have hltl := fun b hb => Nat.lt_of_lt_of_le (n := b) hb hbl.size; obtain ⟨hcl, hfl⟩ := bcell hbl; clear hbl)
      | (go_at_call 18; refine (HTX.out _ (below_more HBC.out (HSB.out _ (by assumption)))).mono ?_; rintro e wt ⟨A2, kt, c2, rfl, hkt, hnt, hkc, hcm, hbt⟩; have hbwt := below_more (HSB.out _ (by assumption)) hbt; have hzt := hbwt.size; have hyt := hbt.size; (try simp at hyt); (try (have hqwt0 : w1.heap.size < wt.heap.size := by omega)); (try (have hqwt1 : wl.heap.size < wt.heap.size := by omega)); have HBt := Lib.hid hbt; have hltt := fun b hb => Nat.lt_of_lt_of_le (n := b) hb hbt.size; obtain ⟨hct, hft⟩ := bcell hbt; have hlt2 : Below wl.heap.size wl wt := (by first | exact hbt | exact below_of hbt | exact below_of (below_of hbt)); clear hbt)
      | (go_at_call 28; refine (HPJ.out _ pm mm Am km cm hkm.out (hokl.out.below (below_more hlt2 (by first | exact Below.refl _ _ | exact below_alloc _ _ | exact (below_alloc _ _).drew | exact two_under _ _ _))) hlil.out A2 kt c2 hkt.out (hnt.out.below (by first | exact Below.refl _ _ | exact below_alloc _ _ | exact (below_alloc _ _).drew | exact two_under _ _ _)) hkc hcm).mono ?_; rintro e wn ⟨An, kn, cn, rfl, hkn, hin, hbn⟩; have hbwn := below_more (HSB.out _ (by assumption)) hbn))
    have BWn := Lib.hid hbwn
    have HBC := Lib.hid (below_more HBC.out hbwn)
    clear HK HDR HSB HPJ hbwl hbwn hbn hkm hokl hlil hzl hyl HBl hltl hcl hfl hbwt hkt hnt hkc hcm hzt hyt HBt hltt hct hft hlt2
    have HKN := Lib.hid hkn.out
    have HIN := Lib.hid hin.out
    clear hkn hin
    have D := Lib.hid (blk_keep BWn.out D.out)
    clear BWn
    have HPJ := Lib.hid (fun wx (pm : Int) (mm : List Sm) (Am : Option Addr) (km cm : Nat) (hkm : km = mm.length) (hok : LmOk wx ⟨pm, mm, Am, cm⟩) (hli : (Lm.mk pm mm Am cm).li = L.li) (A2 : Option Addr) (k2 c2 : Nat) (hk : k2 = ns.length) (hn : NdsAt wx A2 ns) (h1 : k2 ≤ c2) (h2 : c2 ≤ maxLen) => show Calls Try.prog 37 #[.agg #[.int .i64 pm, .slice Am km cm], .agg #[.slice A2 k2 c2]] wx (GotTextO wx ps 0) by
      subst hk hkm
      have := plainT_any ⟨pm, mm, Am, cm⟩ A2 c2 ns wx hok hn h1 h2
      rw [hli, HP1.out] at this; exact this)
    have HK := Lib.hid (fun wx (hb : Below wn.heap.size wn wx) => show wx.cell? ⟨w.heap.size, 0, none⟩ = some (.int .i64 L.per) ∧ wx.cell? ⟨w.heap.size, 1, none⟩ = some (.slice L.A L.ms.length L.cap) ∧ wx.cell? ⟨w.heap.size, 2, none⟩ = some (.slice A N cap) ∧ Below wn.heap.size wn wx from
      ⟨cell_of_blk (blk_keep hb D.out) 0, cell_of_blk (blk_keep hb D.out) 1, cell_of_blk (blk_keep hb D.out) 2, hb⟩)
    have HDR := Lib.hid (show Below wn.heap.size wn wn.drew from (Below.refl _ _).drew)
    have HSB := Lib.hid (fun wx (h : wx.cell? ⟨w.heap.size, 0, none⟩ = some (.int .i64 L.per) ∧ wx.cell? ⟨w.heap.size, 1, none⟩ = some (.slice L.A L.ms.length L.cap) ∧ wx.cell? ⟨w.heap.size, 2, none⟩ = some (.slice A N cap) ∧ Below wn.heap.size wn wx) => h.2.2.2)
    go_wp2_with fail
    go_cut [5, 6] (fun p q wx => ∃ x, p = .pointer (some ⟨x, 0, none⟩) ∧ q = .int .i64 0 ∧ Hid (TBoxC wn wx x ps))
    case first => as_aux_lemma =>
      go_region_held3 (fun wx => wx.cell? ⟨w.heap.size, 0, none⟩ = some (.int .i64 L.per) ∧ wx.cell? ⟨w.heap.size, 1, none⟩ = some (.slice L.A L.ms.length L.cap) ∧ wx.cell? ⟨w.heap.size, 2, none⟩ = some (.slice A N cap) ∧ Below wn.heap.size wn wx)
        ((refine HK.out _ ?_; first | assumption | exact HDR.out | (repeat (first | exact Below.refl _ _ | assumption | refine Below.drew ?_ | refine Below.alloc ?_ (by first | omega | (simp; omega) | simp) _ | refine Below.setCell ?_ (by first | omega | (simp; omega) | simp) _))))
        (first
        | (go_at_call 17; refine (HLS.out _ (below_more HBC.out (HSB.out _ (by assumption)))).mono ?_; rintro e wl ⟨pm, mm, Am, km, cm, rfl, hkm, hokl, hlil, hbl⟩; have hbwl := below_more (HSB.out _ (by assumption)) hbl; have hzl := hbwl.size; have hyl := hbl.size; (try simp at hyl); (try (have hqwl0 : wn.heap.size < wl.heap.size := by omega)); have HBl := Lib.hid hbl; have hltl := fun b hb => Nat.lt_of_lt_of_le (n := b) hb hbl.size; obtain ⟨hcl, hfl⟩ := bcell hbl; clear hbl)
        | (go_at_call 18; refine (HTX.out _ (below_more HBC.out (HSB.out _ (by assumption)))).mono ?_; rintro e wt ⟨A2, kt, c2, rfl, hkt, hnt, hkc, hcm, hbt⟩; have hbwt := below_more (HSB.out _ (by assumption)) hbt; have hzt := hbwt.size; have hyt := hbt.size; (try simp at hyt); (try (have hqwt0 : wn.heap.size < wt.heap.size := by omega)); (try (have hqwt1 : wl.heap.size < wt.heap.size := by omega)); have HBt := Lib.hid hbt; have hltt := fun b hb => Nat.lt_of_lt_of_le (n := b) hb hbt.size; obtain ⟨hct, hft⟩ := bcell hbt; have hlt2 : Below wl.heap.size wl wt := (by first | exact hbt | exact below_of hbt | exact below_of (below_of hbt)); clear hbt)
        | (go_at_call 37; refine (HPJ.out _ pm mm Am km cm hkm.out (hokl.out.below (below_more hlt2 (by first | exact Below.refl _ _ | exact below_alloc _ _ | exact (below_alloc _ _).drew | exact two_under _ _ _))) hlil.out A2 kt c2 hkt.out (hnt.out.below (by first | exact Below.refl _ _ | exact below_alloc _ _ | exact (below_alloc _ _).drew | exact two_under _ _ _)) hkc hcm).mono ?_; rintro e wp0 ⟨Ap0, kp0, cp0, rfl, hkp0, hip0, hbp0⟩; have hbwp0 := below_more (HSB.out _ (by assumption)) hbp0; have hzp0 := hbwp0.size; have hyp0 := hbp0.size; (try simp at hyp0); (try (have hqwp00 : wn.heap.size < wp0.heap.size := by omega)); (try (have hqwp01 : wl.heap.size < wp0.heap.size := by omega)); (try (have hqwp02 : wt.heap.size < wp0.heap.size := by omega)); have HBp0 := Lib.hid hbp0; have hltp0 := fun b hb => Nat.lt_of_lt_of_le (n := b) hb hbp0.size; obtain ⟨hcp0, hfp0⟩ := bcell hbp0; clear hbp0))
      all_goals go_wp2
      all_goals go_meet
      all_goals refine ⟨_, rfl, rfl, Lib.hid ?_⟩
      all_goals first
        | (refine tboxc_of (wp0) ?_ HBl HBt HBp0 hkp0 hip0 ?_ ?_ ?_ ?_ ?_; (first | with_reducible rfl | (simp [go_sem] <;> fail) | (simp [go_sem, *] <;> fail) | (go_simp <;> fail)))
        | (refine tboxc_of (wp0.alloc (.cells #[.slice none 0 0] 27)) ?_ HBl HBt HBp0 hkp0 hip0 ?_ ?_ ?_ ?_ ?_; (first | with_reducible rfl | (simp [go_sem] <;> fail) | (simp [go_sem, *] <;> fail) | (go_simp <;> fail)))
      all_goals first
        | exact .inl ⟨heap_alloc_new _ _, by simp⟩
        | exact .inr (.inl ⟨heap_alloc_new _ _, by simp⟩)
        | exact .inr (.inr (.inl ⟨heap_alloc_new _ _, by simp⟩))
        | exact .inr (.inr (.inr ⟨heap_alloc_new _ _, by simp⟩))
        | (repeat (first | exact Below.refl _ _ | refine Below.drew ?_ | refine Below.alloc ?_ (by simp) _))
    case rest =>
    obtain ⟨xp0, rfl, rfl, hbox⟩ := hcut
    obtain ⟨wp0, rfl⟩ : ∃ w, w = wc := ⟨_, rfl⟩
    obtain ⟨Ap0, kp0, cp0, hbw, hbx, hk, hi, hkcp0, hcmp0⟩ := hbox.out
    have Hp0 := Lib.hid hi
    have Kp0 := Lib.hid hk
    have Dxp0 := Lib.hid hbx
    have BWp0 := Lib.hid hbw
    have HBC := Lib.hid (below_more HBC.out hbw)
    clear HK HDR HSB HPJ hbox hbw hbx hk hi
    have D := Lib.hid (blk_keep BWp0.out D.out)
    have HIN := Lib.hid (HIN.out.below BWp0.out)
    clear BWp0
    have HPJ := Lib.hid (fun wx (pm : Int) (mm : List Sm) (Am : Option Addr) (km cm : Nat) (hkm : km = mm.length) (hok : LmOk wx ⟨pm, mm, Am, cm⟩) (hli : (Lm.mk pm mm Am cm).li = L.li) (A2 : Option Addr) (k2 c2 : Nat) (hk : k2 = ns.length) (hn : NdsAt wx A2 ns) (h1 : k2 ≤ c2) (h2 : c2 ≤ maxLen) => show Calls Try.prog 51 #[.agg #[.int .i64 pm, .slice Am km cm], .agg #[.slice A2 k2 c2]] wx (GotTextO wx fs 0) by
      subst hk hkm
      have := flatT_any ⟨pm, mm, Am, cm⟩ A2 c2 ns wx hok hn h1 h2
      rw [hli, HF1.out] at this; exact this)
    have HK := Lib.hid (fun wx (hb : Below wp0.heap.size wp0 wx) => show wx.cell? ⟨w.heap.size, 0, none⟩ = some (.int .i64 L.per) ∧ wx.cell? ⟨w.heap.size, 1, none⟩ = some (.slice L.A L.ms.length L.cap) ∧ wx.cell? ⟨w.heap.size, 2, none⟩ = some (.slice A N cap) ∧ Below wp0.heap.size wp0 wx from
      ⟨cell_of_blk (blk_keep hb D.out) 0, cell_of_blk (blk_keep hb D.out) 1, cell_of_blk (blk_keep hb D.out) 2, hb⟩)
    have HDR := Lib.hid (show Below wp0.heap.size wp0 wp0.drew from (Below.refl _ _).drew)
    have HSB := Lib.hid (fun wx (h : wx.cell? ⟨w.heap.size, 0, none⟩ = some (.int .i64 L.per) ∧ wx.cell? ⟨w.heap.size, 1, none⟩ = some (.slice L.A L.ms.length L.cap) ∧ wx.cell? ⟨w.heap.size, 2, none⟩ = some (.slice A N cap) ∧ Below wp0.heap.size wp0 wx) => h.2.2.2)
    go_wp2_with fail
    go_cut [7, 8] (fun p q wx => ∃ x, p = .pointer (some ⟨x, 0, none⟩) ∧ q = .int .i64 0 ∧ Hid (TBoxC wp0 wx x fs))
    case first => as_aux_lemma =>
      go_region_held3 (fun wx => wx.cell? ⟨w.heap.size, 0, none⟩ = some (.int .i64 L.per) ∧ wx.cell? ⟨w.heap.size, 1, none⟩ = some (.slice L.A L.ms.length L.cap) ∧ wx.cell? ⟨w.heap.size, 2, none⟩ = some (.slice A N cap) ∧ Below wp0.heap.size wp0 wx)
        ((refine HK.out _ ?_; first | assumption | exact HDR.out | (repeat (first | exact Below.refl _ _ | assumption | refine Below.drew ?_ | refine Below.alloc ?_ (by first | omega | (simp; omega) | simp) _ | refine Below.setCell ?_ (by first | omega | (simp; omega) | simp) _))))
        (first
        | (go_at_call 17; refine (HLS.out _ (below_more HBC.out (HSB.out _ (by assumption)))).mono ?_; rintro e wl ⟨pm, mm, Am, km, cm, rfl, hkm, hokl, hlil, hbl⟩; have hbwl := below_more (HSB.out _ (by assumption)) hbl; have hzl := hbwl.size; have hyl := hbl.size; (try simp at hyl); (try (have hqwl0 : wp0.heap.size < wl.heap.size := by omega)); have HBl := Lib.hid hbl; have hltl := fun b hb => Nat.lt_of_lt_of_le (n := b) hb hbl.size; obtain ⟨hcl, hfl⟩ := bcell hbl; clear hbl)
        | (go_at_call 18; refine (HTX.out _ (below_more HBC.out (HSB.out _ (by assumption)))).mono ?_; rintro e wt ⟨A2, kt, c2, rfl, hkt, hnt, hkc, hcm, hbt⟩; have hbwt := below_more (HSB.out _ (by assumption)) hbt; have hzt := hbwt.size; have hyt := hbt.size; (try simp at hyt); (try (have hqwt0 : wp0.heap.size < wt.heap.size := by omega)); (try (have hqwt1 : wl.heap.size < wt.heap.size := by omega)); have HBt := Lib.hid hbt; have hltt := fun b hb => Nat.lt_of_lt_of_le (n := b) hb hbt.size; obtain ⟨hct, hft⟩ := bcell hbt; have hlt2 : Below wl.heap.size wl wt := (by first | exact hbt | exact below_of hbt | exact below_of (below_of hbt)); clear hbt)
        | (go_at_call 51; refine (HPJ.out _ pm mm Am km cm hkm.out (hokl.out.below (below_more hlt2 (by first | exact Below.refl _ _ | exact below_alloc _ _ | exact (below_alloc _ _).drew | exact two_under _ _ _))) hlil.out A2 kt c2 hkt.out (hnt.out.below (by first | exact Below.refl _ _ | exact below_alloc _ _ | exact (below_alloc _ _).drew | exact two_under _ _ _)) hkc hcm).mono ?_; rintro e wf0 ⟨Af0, kf0, cf0, rfl, hkf0, hif0, hbf0⟩; have hbwf0 := below_more (HSB.out _ (by assumption)) hbf0; have hzf0 := hbwf0.size; have hyf0 := hbf0.size; (try simp at hyf0); (try (have hqwf00 : wp0.heap.size < wf0.heap.size := by omega)); (try (have hqwf01 : wl.heap.size < wf0.heap.size := by omega)); (try (have hqwf02 : wt.heap.size < wf0.heap.size := by omega)); have HBf0 := Lib.hid hbf0; have hltf0 := fun b hb => Nat.lt_of_lt_of_le (n := b) hb hbf0.size; obtain ⟨hcf0, hff0⟩ := bcell hbf0; clear hbf0))
      all_goals go_wp2
      all_goals go_meet
      all_goals refine ⟨_, rfl, rfl, Lib.hid ?_⟩
      all_goals first
        | (refine tboxc_of (wf0) ?_ HBl HBt HBf0 hkf0 hif0 ?_ ?_ ?_ ?_ ?_; (first | with_reducible rfl | (simp [go_sem] <;> fail) | (simp [go_sem, *] <;> fail) | (go_simp <;> fail)))
        | (refine tboxc_of (wf0.alloc (.cells #[.slice none 0 0] 27)) ?_ HBl HBt HBf0 hkf0 hif0 ?_ ?_ ?_ ?_ ?_; (first | with_reducible rfl | (simp [go_sem] <;> fail) | (simp [go_sem, *] <;> fail) | (go_simp <;> fail)))
      all_goals first
        | exact .inl ⟨heap_alloc_new _ _, by simp⟩
        | exact .inr (.inl ⟨heap_alloc_new _ _, by simp⟩)
        | exact .inr (.inr (.inl ⟨heap_alloc_new _ _, by simp⟩))
        | exact .inr (.inr (.inr ⟨heap_alloc_new _ _, by simp⟩))
        | (repeat (first | exact Below.refl _ _ | refine Below.drew ?_ | refine Below.alloc ?_ (by simp) _))
    case rest =>
    obtain ⟨xf0, rfl, rfl, hbox⟩ := hcut
    obtain ⟨wf0, rfl⟩ : ∃ w, w = wc := ⟨_, rfl⟩
    obtain ⟨Af0, kf0, cf0, hbw, hbx, hk, hi, hkcf0, hcmf0⟩ := hbox.out
    have Hf0 := Lib.hid hi
    have Kf0 := Lib.hid hk
    have Dxf0 := Lib.hid hbx
    have BWf0 := Lib.hid hbw
    have HBC := Lib.hid (below_more HBC.out hbw)
    clear HK HDR HSB HPJ hbox hbw hbx hk hi
    have D := Lib.hid (blk_keep BWf0.out D.out)
    have Dxp0 := Lib.hid (blk_keep BWf0.out Dxp0.out)
    have HIN := Lib.hid (HIN.out.below BWf0.out)
    have Hp0 := Lib.hid (Hp0.out.below BWf0.out)
    clear BWf0
    have HPJ := Lib.hid (fun wx (pm : Int) (mm : List Sm) (Am : Option Addr) (km cm : Nat) (hkm : km = mm.length) (hok : LmOk wx ⟨pm, mm, Am, cm⟩) (hli : (Lm.mk pm mm Am cm).li = L.li) (A2 : Option Addr) (k2 c2 : Nat) (hk : k2 = ns.length) (hn : NdsAt wx A2 ns) (h1 : k2 ≤ c2) (h2 : c2 ≤ maxLen) => show Calls Try.prog 39 #[.agg #[.int .i64 pm, .slice Am km cm], .agg #[.slice A2 k2 c2]] wx (GotTextO wx mr 0) by
      subst hk hkm
      have := mirrorP_any ⟨pm, mm, Am, cm⟩ A2 c2 ns wx hok hn h1 h2
      rw [hli, HM1.out] at this; exact this)
    have HK := Lib.hid (fun wx (hb : Below wf0.heap.size wf0 wx) => show wx.cell? ⟨w.heap.size, 0, none⟩ = some (.int .i64 L.per) ∧ wx.cell? ⟨w.heap.size, 1, none⟩ = some (.slice L.A L.ms.length L.cap) ∧ wx.cell? ⟨w.heap.size, 2, none⟩ = some (.slice A N cap) ∧ Below wf0.heap.size wf0 wx from
      ⟨cell_of_blk (blk_keep hb D.out) 0, cell_of_blk (blk_keep hb D.out) 1, cell_of_blk (blk_keep hb D.out) 2, hb⟩)
    have HDR := Lib.hid (show Below wf0.heap.size wf0 wf0.drew from (Below.refl _ _).drew)
    have HSB := Lib.hid (fun wx (h : wx.cell? ⟨w.heap.size, 0, none⟩ = some (.int .i64 L.per) ∧ wx.cell? ⟨w.heap.size, 1, none⟩ = some (.slice L.A L.ms.length L.cap) ∧ wx.cell? ⟨w.heap.size, 2, none⟩ = some (.slice A N cap) ∧ Below wf0.heap.size wf0 wx) => h.2.2.2)
    go_wp2_with fail
    go_cut [9, 10] (fun p q wx => ∃ x, p = .pointer (some ⟨x, 0, none⟩) ∧ q = .int .i64 0 ∧ Hid (TBoxC wf0 wx x mr))
    case first => as_aux_lemma =>
      go_region_held3 (fun wx => wx.cell? ⟨w.heap.size, 0, none⟩ = some (.int .i64 L.per) ∧ wx.cell? ⟨w.heap.size, 1, none⟩ = some (.slice L.A L.ms.length L.cap) ∧ wx.cell? ⟨w.heap.size, 2, none⟩ = some (.slice A N cap) ∧ Below wf0.heap.size wf0 wx)
        ((refine HK.out _ ?_; first | assumption | exact HDR.out | (repeat (first | exact Below.refl _ _ | assumption | refine Below.drew ?_ | refine Below.alloc ?_ (by first | omega | (simp; omega) | simp) _ | refine Below.setCell ?_ (by first | omega | (simp; omega) | simp) _))))
        (first
        | (go_at_call 17; refine (HLS.out _ (below_more HBC.out (HSB.out _ (by assumption)))).mono ?_; rintro e wl ⟨pm, mm, Am, km, cm, rfl, hkm, hokl, hlil, hbl⟩; have hbwl := below_more (HSB.out _ (by assumption)) hbl; have hzl := hbwl.size; have hyl := hbl.size; (try simp at hyl); (try (have hqwl0 : wf0.heap.size < wl.heap.size := by omega)); have HBl := Lib.hid hbl; have hltl := fun b hb => Nat.lt_of_lt_of_le (n := b) hb hbl.size; obtain ⟨hcl, hfl⟩ := bcell hbl; clear hbl)
        | (go_at_call 18; refine (HTX.out _ (below_more HBC.out (HSB.out _ (by assumption)))).mono ?_; rintro e wt ⟨A2, kt, c2, rfl, hkt, hnt, hkc, hcm, hbt⟩; have hbwt := below_more (HSB.out _ (by assumption)) hbt; have hzt := hbwt.size; have hyt := hbt.size; (try simp at hyt); (try (have hqwt0 : wf0.heap.size < wt.heap.size := by omega)); (try (have hqwt1 : wl.heap.size < wt.heap.size := by omega)); have HBt := Lib.hid hbt; have hltt := fun b hb => Nat.lt_of_lt_of_le (n := b) hb hbt.size; obtain ⟨hct, hft⟩ := bcell hbt; have hlt2 : Below wl.heap.size wl wt := (by first | exact hbt | exact below_of hbt | exact below_of (below_of hbt)); clear hbt)
        | (go_at_call 39; refine (HPJ.out _ pm mm Am km cm hkm.out (hokl.out.below (below_more hlt2 (by first | exact Below.refl _ _ | exact below_alloc _ _ | exact (below_alloc _ _).drew | exact two_under _ _ _))) hlil.out A2 kt c2 hkt.out (hnt.out.below (by first | exact Below.refl _ _ | exact below_alloc _ _ | exact (below_alloc _ _).drew | exact two_under _ _ _)) hkc hcm).mono ?_; rintro e wm0 ⟨Am0, km0, cm0, rfl, hkm0, him0, hbm0⟩; have hbwm0 := below_more (HSB.out _ (by assumption)) hbm0; have hzm0 := hbwm0.size; have hym0 := hbm0.size; (try simp at hym0); (try (have hqwm00 : wf0.heap.size < wm0.heap.size := by omega)); (try (have hqwm01 : wl.heap.size < wm0.heap.size := by omega)); (try (have hqwm02 : wt.heap.size < wm0.heap.size := by omega)); have HBm0 := Lib.hid hbm0; have hltm0 := fun b hb => Nat.lt_of_lt_of_le (n := b) hb hbm0.size; obtain ⟨hcm0, hfm0⟩ := bcell hbm0; clear hbm0))
      all_goals go_wp2
      all_goals go_meet
      all_goals refine ⟨_, rfl, rfl, Lib.hid ?_⟩
      all_goals first
        | (refine tboxc_of (wm0) ?_ HBl HBt HBm0 hkm0 him0 ?_ ?_ ?_ ?_ ?_; (first | with_reducible rfl | (simp [go_sem] <;> fail) | (simp [go_sem, *] <;> fail) | (go_simp <;> fail)))
        | (refine tboxc_of (wm0.alloc (.cells #[.slice none 0 0] 27)) ?_ HBl HBt HBm0 hkm0 him0 ?_ ?_ ?_ ?_ ?_; (first | with_reducible rfl | (simp [go_sem] <;> fail) | (simp [go_sem, *] <;> fail) | (go_simp <;> fail)))
      all_goals first
        | exact .inl ⟨heap_alloc_new _ _, by simp⟩
        | exact .inr (.inl ⟨heap_alloc_new _ _, by simp⟩)
        | exact .inr (.inr (.inl ⟨heap_alloc_new _ _, by simp⟩))
        | exact .inr (.inr (.inr ⟨heap_alloc_new _ _, by simp⟩))
        | (repeat (first | exact Below.refl _ _ | refine Below.drew ?_ | refine Below.alloc ?_ (by simp) _))
    case rest =>
    obtain ⟨xm0, rfl, rfl, hbox⟩ := hcut
    obtain ⟨wm0, rfl⟩ : ∃ w, w = wc := ⟨_, rfl⟩
    obtain ⟨Am0, km0, cm0, hbw, hbx, hk, hi, hkcm0, hcmm0⟩ := hbox.out
    have Hm0 := Lib.hid hi
    have Km0 := Lib.hid hk
    have Dxm0 := Lib.hid hbx
    have BWm0 := Lib.hid hbw
    have HBC := Lib.hid (below_more HBC.out hbw)
    clear HK HDR HSB HPJ hbox hbw hbx hk hi
    have D := Lib.hid (blk_keep BWm0.out D.out)
    have Dxp0 := Lib.hid (blk_keep BWm0.out Dxp0.out)
    have Dxf0 := Lib.hid (blk_keep BWm0.out Dxf0.out)
    have HIN := Lib.hid (HIN.out.below BWm0.out)
    have Hp0 := Lib.hid (Hp0.out.below BWm0.out)
    have Hf0 := Lib.hid (Hf0.out.below BWm0.out)
    clear BWm0
    have x1 := cell_of_blk D.out 1
    have x2 := cell_of_blk D.out 2
    have hx0 := (Array.getElem?_eq_some_iff.1 D.out).1
    simp at x1 x2
    rw [← HK2.out] at x1
    have HCT := Lib.hid (show Calls Try.prog 54 #[.agg #[.slice A N cap], .int .i64 K] wm0 (fun e w' => ∃ Ac cc, e = .returned (.slice Ac (K + 1) cc) ∧ Hid (IntsIn w' Ac cw) ∧ Below wm0.heap.size wm0 w') by
      have := counted_any A cap ns K wm0 (N0.out wm0 HBC.out) (by rw [← HN.out]; exact HC1.out) HCM.out (by have := HN2.out; omega) (by omega)
      rw [HCW.out, ← HN.out] at this; exact this)
    go_wp2_with fail
    refine HCT.out.mono ?_; rintro e wc ⟨Ac, cc, rfl, hic, hbc⟩
    have BWc := Lib.hid hbc
    have HBC := Lib.hid (below_more HBC.out hbc)
    have HIC := Lib.hid hic.out
    clear HCT x1 x2 hx0 hic hbc
    have D := Lib.hid (blk_keep BWc.out D.out)
    have Dxp0 := Lib.hid (blk_keep BWc.out Dxp0.out)
    have Dxf0 := Lib.hid (blk_keep BWc.out Dxf0.out)
    have Dxm0 := Lib.hid (blk_keep BWc.out Dxm0.out)
    have HIN := Lib.hid (HIN.out.below BWc.out)
    have Hp0 := Lib.hid (Hp0.out.below BWc.out)
    have Hf0 := Lib.hid (Hf0.out.below BWc.out)
    have Hm0 := Lib.hid (Hm0.out.below BWc.out)
    clear BWc
    obtain ⟨iv, hiv, hzv, hsv, hbv⟩ := info_hid infoInt
    go_wp2_with (first
      | (at_make; refine wpList_make_full _ rfl (.tmp 74) (.tmp 74) 38 rfl wc.heap.size 3 iv (.int .i64 0) 1 Try.underlying38 hiv.out hzv.out hsv.out .i64 .i64 (K + 1 : Nat) (K + 1 : Nat) (K + 1) rfl rfl rfl rfl ?b2 ?b3 ?b4 ?_))
    case b2 => rw [hbv.out]; omega
    case b3 => unfold maxLen; omega
    case b4 => omega
    intro wg hown hg
    have HWG := Lib.hid (show Below wc.heap.size wc wg from (Below.refl _ _).grown hg (Nat.le_refl _) (fun g hg => by cases hg))
    have HOG := Lib.hid (show wg.ownsRow wc.heap.size 3 1 (.slice (some ⟨wc.heap.size, 0, none⟩) (K + 1) (K + 1)) (K + 1) (intsZ (countM K (ln.take 0))) by
      have h : intsZ (countM K (ln.take 0)) = (madeCells (#[.int .i64 0] : Array Value) (K + 1)).toList := by
        rw [toList_madeCells_one]; simp [countM, intsZ]
      rw [h]; exact hown)
    have hkn : kn ≤ 200 := by rw [HKN.out]; exact HLL.out
    clear hown hg
    go_wp2_with fail
    go_loopw [13] (fun i wr => ∃ (k : Nat), k ≤ kn ∧ i = .int .i64 k ∧ Hid (wr.ownsRow wc.heap.size 3 1 (.slice (some ⟨wc.heap.size, 0, none⟩) (K + 1) (K + 1)) (K + 1) (intsZ (countM K (ln.take k)))) ∧ Hid (Below wc.heap.size wc wr)) (fun i _ => kn - (intOf i).toNat)
    case atStart => exact ⟨0, Nat.zero_le _, rfl, HOG, HWG⟩
    case round =>
      obtain ⟨k, hk, rfl, hown, hbw⟩ := hrel
      have HBW := Lib.hid hbw.out
      have HOW := Lib.hid hown.out
      clear hbw hown
      have hsw := HBW.out.size
      by_cases hlt : k < kn
      · obtain ⟨x, hx⟩ : ∃ x, ln[k]? = some x := ⟨_, List.getElem?_eq_getElem (by have := HKN.out; omega)⟩
        obtain ⟨b, o, rfl, hblt, hva0⟩ := HIN.out k x hx
        have D := Lib.hid (blk_keep HBW.out D.out)
        have x1 := cell_of_blk D.out 1
        have hx0 := (Array.getElem?_eq_some_iff.1 D.out).1
        simp at x1
        rw [← HK2.out] at x1
        have hne : b ≠ wc.heap.size := by omega
        have hne2 : wc.heap.size ≠ b := by omega
        have hbr : b < wr.heap.size := by omega
        obtain ⟨hs1, hs2⟩ := HMS.out x (List.mem_of_getElem? hx)
        have z0 := (HBW.out.cell (p := ⟨b, o + k * 4, none⟩) hblt).trans hva0.c0
        have HST := Lib.hid (countM_step (k := K) hx)
        obtain ⟨hcl, hcv⟩ := countM_ok K (ln.take k)
        have htl : (ln.take k).length = k := by rw [List.length_take]; have := HKN.out; omega
        rw [htl] at hcv
        obtain ⟨cs, hcs⟩ : ∃ cs, cs = countM K (ln.take k) := ⟨_, rfl⟩
        rw [← hcs] at HST HOW hcl hcv
        obtain ⟨xs, xst, xmn, xmx⟩ := x
        dsimp only at z0 hs1 hs2
        obtain ⟨q, hq⟩ : ∃ q : Nat, xs + 1 = q := ⟨(xs + 1).toNat, by omega⟩
        have hqK : q < K + 1 := by omega
        obtain ⟨v, hv⟩ : ∃ v, cs[q]? = some v := ⟨_, List.getElem?_eq_getElem (by rw [hcl]; exact hqK)⟩
        obtain ⟨hv0, hv1⟩ := hcv v (List.mem_of_getElem? hv)
        have HS2 := Lib.hid (show countM K (ln.take (k + 1)) = cs.set q (v + 1) by
          rw [HST.out]; unfold cntM; dsimp only; rw [hq, Int.toNat_natCast]; exact addAt_at hv)
        obtain ⟨g, e1, hbg, hg, -, -, hcell, hfr⟩ := own_open HOW.out (by omega)
        injection e1 with e1; injection e1 with e1 _
        have zc : wr.cell? ⟨wc.heap.size, q, none⟩ = some (.int .i64 v) := by rw [e1]; exact hcell _ _ (intsZ_at hv)
        have zf : wr.frozen? ⟨wc.heap.size, q, none⟩ = false := by rw [e1]; exact hfr _
        have hz2 : wc.heap.size < wr.heap.size := by omega
        have HNEW := Lib.hid (fun (u : World) (hu : Below wr.heap.size wr u) => show (u.setCell ⟨wc.heap.size, q, none⟩ (.int .i64 (v + 1))).ownsRow wc.heap.size 3 1 (.slice (some ⟨wc.heap.size, 0, none⟩) (K + 1) (K + 1)) (K + 1) (intsZ (countM K (ln.take (k + 1)))) by
          have h0 := ownsRow_of_block (w' := u) HOW.out (fun g hg => hu.block g (HOW.out.lt g hg).2)
          have h1 := own_set h0 (g := wc.heap.size) rfl q (.int .i64 (v + 1))
          rw [intsZ_set, ← HS2.out] at h1
          exact h1)
        have hd1 : decide (xs < -1) = false := decide_eq_false (by omega)
        have hd2 : decide ((K : Int) ≤ xs) = false := decide_eq_false (by omega)
        have hk0 : (0 : Int) ≤ (k : Int) := by omega
        have hkn2 : (k : Int) < (kn : Int) := by omega
        have hq0 : (0 : Int) ≤ (q : Int) := by omega
        have hqK2 : (q : Int) < ((K + 1 : Nat) : Int) := by omega
        have hwq : IntKind.i64.wrap (xs + 1) = (q : Int) := by rw [hq]; exact IntWalk.i64_in _ (by omega)
        have hwr : IntKind.i64.wrap (v + 1) = v + 1 := IntWalk.i64_in _ (by omega)
        clear hx hva0 hv hcell hfr e1 hbg hg HST hcl hcv htl hcs hq
        go_wp2_with fail
        go_quiet (fail)
        go_wp2_with fail
        go_roundw
        case rel => exact ⟨k + 1, by omega, by go_num, Lib.hid (HNEW.out _ ⟨rfl, rfl, rfl, Nat.le_refl _, fun _ _ => rfl⟩), Lib.hid ((HBW.out.trans (c := wr.drewN nq) ⟨rfl, rfl, rfl, Nat.le_refl _, fun _ _ => rfl⟩).setCell (Nat.le_refl _) _)⟩
        case measure => simp [intOf]; omega
      · obtain rfl : k = kn := by omega
        have HT := Lib.hid (show ln.take k = ln by rw [HKN.out, List.take_length])
        have h1 := HOW.out
        rw [HT.out, HLC.out] at h1
        have HI := Lib.hid (own_ints h1)
        clear h1
        have HBC := Lib.hid (below_more HBC.out HBW.out)
        have D := Lib.hid (blk_keep HBW.out D.out)
        have Dxp0 := Lib.hid (blk_keep HBW.out Dxp0.out)
        have Dxf0 := Lib.hid (blk_keep HBW.out Dxf0.out)
        have Dxm0 := Lib.hid (blk_keep HBW.out Dxm0.out)
        have Hp0 := Lib.hid (Hp0.out.below HBW.out)
        have Hf0 := Lib.hid (Hf0.out.below HBW.out)
        have Hm0 := Lib.hid (Hm0.out.below HBW.out)
        have HIC := Lib.hid (HIC.out.below HBW.out)
        have HSM := Lib.hid (show Calls Try.prog 27 #[.slice (some ⟨wc.heap.size, 0, none⟩) (K + 1) (K + 1), .slice Ac (K + 1) cc] wr (fun e w' => e = .returned (.bool true) ∧ Below wr.heap.size wr w') from
          sameI_eq _ _ _ _ _ _ cw wr HCWL.out.symm HCWL.out.symm HI.out HIC.out (by rw [HCWL.out]; omega))
        go_wp2_with fail
        refine HSM.out.mono ?_; rintro e ws ⟨rfl, hbs⟩
        have HBC := Lib.hid (below_more HBC.out hbs)
        have D := Lib.hid (blk_keep hbs D.out)
        have Dxp0 := Lib.hid (blk_keep hbs Dxp0.out)
        have Dxf0 := Lib.hid (blk_keep hbs Dxf0.out)
        have Dxm0 := Lib.hid (blk_keep hbs Dxm0.out)
        have Hp0 := Lib.hid (Hp0.out.below hbs)
        have Hf0 := Lib.hid (Hf0.out.below hbs)
        have Hm0 := Lib.hid (Hm0.out.below hbs)
        have HIC := Lib.hid (HIC.out.below hbs)
        clear HSM hbs HI HBW HOW hsw HT
        have p0 := cell_of_blk Dxp0.out 0
        have f0 := cell_of_blk Dxf0.out 0
        have m0 := cell_of_blk Dxm0.out 0
        have p1 := (Array.getElem?_eq_some_iff.1 Dxp0.out).1
        have f1 := (Array.getElem?_eq_some_iff.1 Dxf0.out).1
        have m1 := (Array.getElem?_eq_some_iff.1 Dxm0.out).1
        simp at p0 f0 m0
        obtain ⟨wb, hwb⟩ : ∃ wb, wb = ws.alloc (.cells #[.slice Ap0 kp0 cp0, .slice Af0 kf0 cf0, .slice Am0 km0 cm0] 27) := ⟨_, rfl⟩
        have HWB := Lib.hid (show Below ws.heap.size ws wb from hwb ▸ below_alloc _ _)
        have HBK := Lib.hid (show wb.heap[ws.heap.size]? = some (.cells #[.slice Ap0 kp0 cp0, .slice Af0 kf0 cf0, .slice Am0 km0 cm0] 27 (0, 0)) by rw [hwb]; exact heap_alloc_new _ _)
        have HSZ := Lib.hid (show ws.heap.size < wb.heap.size by rw [hwb]; simp)
        have HTB := Lib.hid (fun (q : Nat) (hq : q < 3) => show ∃ A2 k2 c2 zs, wb.cell? ⟨ws.heap.size, q, none⟩ = some (.slice A2 k2 c2) ∧ k2 = zs.length ∧ k2 ≤ c2 ∧ c2 ≤ maxLen ∧ NdsAt wb A2 zs ∧ textErr L.li zs = 0 ∧ countR K zs = cw from
          match q, hq with
          | 0, _ => ⟨Ap0, kp0, cp0, ps, cell_of_blk HBK.out 0, Kp0.out, hkcp0, hcmp0, Hp0.out.below HWB.out, HPV.out⟩
          | 1, _ => ⟨Af0, kf0, cf0, fs, cell_of_blk HBK.out 1, Kf0.out, hkcf0, hcmf0, Hf0.out.below HWB.out, HFV.out⟩
          | 2, _ => ⟨Am0, km0, cm0, mr, cell_of_blk HBK.out 2, Km0.out, hkcm0, hcmm0, Hm0.out.below HWB.out, HMV.out⟩
          | q + 3, h => absurd h (by omega))
        go_wp2_with fail
        rw [← hwb]
        have DB := Lib.hid (blk_keep HWB.out D.out)
        have HCB := Lib.hid (HIC.out.below HWB.out)
        have HBB2 := Lib.hid (below_more HBC.out HWB.out)
        clear hwb p0 f0 m0 p1 f1 m1 D HIC HBC
        go_loopw [120] (fun i wr => ∃ (k : Nat), k ≤ 3 ∧ i = .int .i64 k ∧ Hid (Below wb.heap.size wb wr)) (fun i _ => 3 - (intOf i).toNat)
        case atStart => exact ⟨0, by omega, rfl, Lib.hid (Below.refl _ _)⟩
        case round =>
          obtain ⟨k, hk3, rfl, hbx⟩ := hrel
          have HBX := Lib.hid hbx.out
          clear hbx
          have HBC := Lib.hid (below_more HBB2.out HBX.out)
          by_cases hlt3 : k < 3
          · obtain ⟨A2, k2, c2, zs, hcell, hk2, hkc2, hcm2, hn2, hv2, hcnt⟩ := HTB.out k hlt3
            have z0 := (HBX.out.cell (p := ⟨ws.heap.size, k, none⟩) HSZ.out).trans hcell
            have hszb : ws.heap.size < wr.heap.size := Nat.lt_of_lt_of_le HSZ.out HBX.out.size
            have HZ := Lib.hid hk2
            have HV := Lib.hid hv2
            have HC := Lib.hid hcnt
            have HNZ := Lib.hid (hn2.below HBX.out)
            have hk0 : (0 : Int) ≤ (k : Int) := by omega
            have hk4 : (k : Int) < 3 := by omega
            obtain ⟨wt, hwt⟩ : ∃ wt, wt = wr.alloc (.cells #[.slice A2 k2 c2] 27) := ⟨_, rfl⟩
            have HWT := Lib.hid (show Below wr.heap.size wr wt from hwt ▸ below_alloc _ _)
            have T := Lib.hid (show wt.heap[wr.heap.size]? = some (.cells #[.slice A2 k2 c2] 27 (0, 0)) by rw [hwt]; exact heap_alloc_new _ _)
            have HBC := Lib.hid (below_more HBC.out HWT.out)
            have HBX0 := Lib.hid HBX.out
            have HBX := Lib.hid (below_more HBX.out HWT.out)
            have HNZ := Lib.hid (HNZ.out.below HWT.out)
            have D := Lib.hid (blk_keep HBX0.out DB.out)
            have x0 := cell_of_blk D.out 0
            have x1 := cell_of_blk D.out 1
            have hx0 := (Array.getElem?_eq_some_iff.1 D.out).1
            simp at x0 x1
            have D := Lib.hid (blk_keep HWT.out D.out)
            have HCK := Lib.hid (show Calls Try.prog 20 #[.agg #[.int .i64 L.per, .slice L.A L.ms.length L.cap], .agg #[.slice A2 k2 c2]] wt (fun e w' => e = .returned (.int .i64 0) ∧ Below wt.heap.size wt w') by
              have := rgcheck_is L A2 c2 zs wt (L0.out wt HBC.out) HNZ.out (by rw [← HZ.out]; exact hkc2) hcm2 0 HV.out
              rw [← HZ.out] at this; exact this)
            have hz200 : k2 ≤ 200 := by rw [HZ.out]; exact (text_ok HV.out).2.1
            clear hcell hk2 hn2 hv2 hcnt
            go_wp2_with fail
            rw [← hwt]
            refine HCK.out.mono ?_; rintro e wu ⟨rfl, hbu⟩
            have HBC := Lib.hid (below_more HBC.out hbu)
            have HBX := Lib.hid (below_more HBX.out hbu)
            have HNZ := Lib.hid (HNZ.out.below hbu)
            have T := Lib.hid (blk_keep hbu T.out)
            have D := Lib.hid (blk_keep hbu D.out)
            clear HCK hbu x0 x1 hx0 z0 hwt HBX0
            have x1 := cell_of_blk D.out 1
            have hx0 := (Array.getElem?_eq_some_iff.1 D.out).1
            have t0 := cell_of_blk T.out 0
            have ht0 := (Array.getElem?_eq_some_iff.1 T.out).1
            simp at x1 t0
            rw [← HK2.out] at x1
            have HCT := Lib.hid (show Calls Try.prog 54 #[.agg #[.slice A2 k2 c2], .int .i64 K] wu (fun e w' => ∃ Ac cc, e = .returned (.slice Ac (K + 1) cc) ∧ Hid (IntsIn w' Ac cw) ∧ Below wu.heap.size wu w') by
              have := counted_any A2 c2 zs K wu HNZ.out (by rw [← HZ.out]; exact hkc2) hcm2 (by rw [← HZ.out]; omega) (by omega)
              rw [HC.out, ← HZ.out] at this; exact this)
            go_wp2_with fail
            refine HCT.out.mono ?_; rintro e wv ⟨Av2, cv2, rfl, hiv2, hbv2⟩
            have HBC := Lib.hid (below_more HBC.out hbv2)
            have HBX := Lib.hid (below_more HBX.out hbv2)
            have HI2 := Lib.hid hiv2.out
            clear HCT hbv2 hiv2 x1 hx0 t0 ht0
            have HSM := Lib.hid (show Calls Try.prog 27 #[.slice Av2 (K + 1) cv2, .slice Ac (K + 1) cc] wv (fun e w' => e = .returned (.bool true) ∧ Below wv.heap.size wv w') from
              sameI_eq _ _ _ _ _ _ cw wv HCWL.out.symm HCWL.out.symm HI2.out (HCB.out.below HBX.out) (by rw [HCWL.out]; omega))
            go_wp2_with fail
            refine HSM.out.mono ?_; rintro e wy ⟨rfl, hby⟩
            have HBX := Lib.hid (below_more HBX.out hby)
            clear HSM hby
            go_wp2_with fail
            go_roundw
            case rel => exact ⟨k + 1, by omega, by go_num, HBX⟩
            case measure => simp [intOf]; omega
          · obtain rfl : k = 3 := by omega
            go_wp2_with fail
            refine (works2_any _).mono ?_; rintro e wz ⟨rfl, hbz⟩
            go_wp2
            go_ret
            exact ⟨rfl, below_more HBC.out hbz⟩

end Go.Proofs.Ytilagndfohnjnaa
