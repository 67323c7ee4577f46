/-
  Contract of the law on texts that are made plain, flat or mirrored twice: it returns true.
-/
import Derived.Test.YtilagndfohnjnaaPkQ
import Derived.Test.YtilagndfohnjnaaPkE
import Derived.Deep.RegionHeld3
import Derived.Deep.DeepCutAuto
import Derived.Deep.QuietTactic
import Derived.BigQuiet
import Derived.IntWalk
namespace Go.Proofs.Ytilagndfohnjnaa
open Go.RowKit

set_option maxHeartbeats 16000000 in
set_option maxRecDepth 100000 in
theorem law_gtwice (L : Lm) (A : Option Addr) (cap : Nat) (ns : List Nd)  (w : World) (hl : LmOk w L) (hn : NdsAt w A ns) (hc1 : ns.length ≤ cap) (hc : cap ≤ maxLen)  :
    Calls Try.prog 12 #[.agg #[.int .i64 L.per, .slice L.A L.ms.length L.cap, .slice A ns.length cap]] w fun e w' => e = .returned (.bool true) ∧ Below w.heap.size w w' := by
  obtain ⟨W, hW⟩ : ∃ W, W = w.alloc (.cells #[.int .i64 L.per, .slice L.A L.ms.length L.cap, .slice A ns.length cap] 29) := ⟨_, rfl⟩
  have HB := Lib.hid (show Below w.heap.size w W from hW ▸ below_alloc _ _)
  have C1 := Lib.hid (show W.heap[w.heap.size]? = some (.cells #[.int .i64 L.per, .slice L.A L.ms.length L.cap, .slice A ns.length cap] 29 (0, 0)) by
    rw [hW]; exact heap_alloc_new _ _)
  have HL := Lib.hid (hl.below HB.out)
  have HNS := Lib.hid (hn.below HB.out)
  have HC1 := Lib.hid hc1
  have HCM := Lib.hid hc
  have HL0 := Lib.hid hl
  have HN0 := Lib.hid hn
  have HRT := Lib.hid (fun r (h : rightB L.li ns = r) => show Calls Try.prog 53 #[.agg #[.int .i64 L.per, .slice L.A L.ms.length L.cap, .slice A ns.length cap]] W _ from right_is L A cap ns W HL.out HNS.out hc1 hc r h)
  obtain ⟨G, hG⟩ : ∃ G, rightB L.li ns = G := ⟨_, rfl⟩
  have HBB := Lib.hid hG
  clear hG hl hn hc1 hc
  obtain ⟨N, hN⟩ : ∃ N, N = ns.length := ⟨_, rfl⟩
  have HN := Lib.hid hN
  rw [← hN] at hW C1 HRT HC1 ⊢
  clear hN
  go_enter Try.func12, Try.ntmps12
  go_wp2_with fail
  rw [← hW]
  refine (HRT.out _ HBB.out).mono ?_; rintro e w1 ⟨rfl, hb1⟩
  have HBC := Lib.hid (below_more HB.out hb1)
  have D := Lib.hid (blk_keep hb1 C1.out)
  clear hb1 hW
  cases G with
  | false =>
    go_wp2_with fail
    refine (works2_any _).mono ?_; rintro e w2 ⟨rfl, hb2⟩
    go_wp2
    go_ret
    exact ⟨rfl, below_more HBC.out hb2⟩
  | true =>
    obtain ⟨hbg, hok⟩ := right_yes HBB.out
    have HOK := Lib.hid hok
    have HNB := Lib.hid (not_bigG (L := L) hbg)
    clear hbg hok
    have L0 := Lib.hid (fun wx (hb : Below w.heap.size w wx) => show LmOk wx L from HL0.out.below hb)
    have N0 := Lib.hid (fun wx (hb : Below w.heap.size w wx) => show NdsAt wx A ns from HN0.out.below hb)
    have HLS := Lib.hid (fun wx (hb : Below w.heap.size w wx) => show Calls Try.prog 17 #[.agg #[.int .i64 L.per, .slice L.A L.ms.length L.cap, .slice A N cap]] wx (GotListX wx L.li) from
      (list2_any L A N cap wx (L0.out wx hb) (by have := HNB.out.2.1; omega) (fun m hm => by have := (HNB.out.2.2 m hm).1; omega)).mono fun _ _ h => h.x)
    have HTX := Lib.hid (fun wx (hb : Below w.heap.size w wx) => show Calls Try.prog 18 #[.agg #[.int .i64 L.per, .slice L.A L.ms.length L.cap, .slice A N cap]] wx (GotTextX wx ns) by
      have := text2_any L A cap ns wx (N0.out wx hb) (by rw [← HN.out]; exact HC1.out) HCM.out (by rw [← HN.out]; have := HNB.out.1; have := HN.out; omega)
      rw [← HN.out] at this; exact this.mono fun _ _ h => h.x)
    have HN2 := Lib.hid (show ns.length ≤ 200 from (text_ok HOK.out).2.1)
    obtain ⟨ps, hps⟩ : ∃ ps, ps = ((partsN ns).map plainP).flatten := ⟨_, rfl⟩
    obtain ⟨fs, hfs⟩ : ∃ fs, fs = ((partsN ns).flatMap flatGs).flatten := ⟨_, rfl⟩
    obtain ⟨mr, hmr⟩ : ∃ mr, mr = ns.map (flipN L.li) := ⟨_, rfl⟩
    have HP1 := Lib.hid (show regQ plainP L.li ns = (ps, 0) by rw [hps]; exact plainT_is HOK.out)
    have HP2 := Lib.hid (show regQ plainP L.li ps = (ps, 0) by rw [hps]; exact plain_again HOK.out)
    have HF1 := Lib.hid (show regQ flatP L.li ns = (fs, 0) by rw [hfs]; exact flatT_is HOK.out)
    have HF2 := Lib.hid (show regQ flatP L.li fs = (fs, 0) by rw [hfs]; exact flat_again HOK.out)
    have HM1 := Lib.hid (show mirrorQ L.li ns = (mr, 0) by rw [hmr]; exact mirror_valid2 HOK.out)
    have HM2 := Lib.hid (show mirrorQ L.li mr = (ns, 0) by rw [hmr]; exact mirror_back HOK.out)
    have HPL := Lib.hid (show ps.length ≤ 200 by rw [hps]; exact (text_ok (plain_valid HOK.out)).2.1)
    have HFL := Lib.hid (show fs.length ≤ 200 by rw [hfs]; exact (text_ok (flat_valid HOK.out)).2.1)
    have HML := Lib.hid (show mr.length ≤ 200 by rw [hmr, List.length_map]; exact HN2.out)
    have HAL := Lib.hid (fun (h : ∀ p ∈ ringsR ns, p.2 - p.1 ≤ 6) => show alikeQ L.li ns fs = (true, 0) by rw [hfs]; exact flat_alike HOK.out h)
    clear hps hfs hmr
    have HPJ := Lib.hid (fun wx (pm : Int) (mm : List Sm) (Am : Option Addr) (km cm : Nat) (hkm : km = mm.length) (hok : LmOk wx ⟨pm, mm, Am, cm⟩) (hli : (Lm.mk pm mm Am cm).li = L.li) (A2 : Option Addr) (k2 c2 : Nat) (hk : k2 = ns.length) (hn : NdsAt wx A2 ns) (h1 : k2 ≤ c2) (h2 : c2 ≤ maxLen) => show Calls Try.prog 37 #[.agg #[.int .i64 pm, .slice Am km cm], .agg #[.slice A2 k2 c2]] wx (GotTextO wx ps 0) by
      subst hk hkm
      have := plainT_any ⟨pm, mm, Am, cm⟩ A2 c2 ns wx hok hn h1 h2
      rw [hli, HP1.out] at this; exact this)
    have HK := Lib.hid (fun wx (hb : Below w1.heap.size w1 wx) => show wx.cell? ⟨w.heap.size, 0, none⟩ = some (.int .i64 L.per) ∧ wx.cell? ⟨w.heap.size, 1, none⟩ = some (.slice L.A L.ms.length L.cap) ∧ wx.cell? ⟨w.heap.size, 2, none⟩ = some (.slice A N cap) ∧ Below w1.heap.size w1 wx from
      ⟨cell_of_blk (blk_keep hb D.out) 0, cell_of_blk (blk_keep hb D.out) 1, cell_of_blk (blk_keep hb D.out) 2, hb⟩)
    have HDR := Lib.hid (show Below w1.heap.size w1 w1.drew from (Below.refl _ _).drew)
    have HSB := Lib.hid (fun wx (h : wx.cell? ⟨w.heap.size, 0, none⟩ = some (.int .i64 L.per) ∧ wx.cell? ⟨w.heap.size, 1, none⟩ = some (.slice L.A L.ms.length L.cap) ∧ wx.cell? ⟨w.heap.size, 2, none⟩ = some (.slice A N cap) ∧ Below w1.heap.size w1 wx) => h.2.2.2)
    go_wp2_with fail
    go_cut [3, 4] (fun p q wx => ∃ x, p = .pointer (some ⟨x, 0, none⟩) ∧ q = .int .i64 0 ∧ Hid (TBoxC w1 wx x ps))
    case first => as_aux_lemma =>
      go_region_held3 (fun wx => wx.cell? ⟨w.heap.size, 0, none⟩ = some (.int .i64 L.per) ∧ wx.cell? ⟨w.heap.size, 1, none⟩ = some (.slice L.A L.ms.length L.cap) ∧ wx.cell? ⟨w.heap.size, 2, none⟩ = some (.slice A N cap) ∧ Below w1.heap.size w1 wx)
        ((refine HK.out _ ?_; first | assumption | exact HDR.out | (repeat (first | exact Below.refl _ _ | assumption | refine Below.drew ?_ | refine Below.alloc ?_ (by first | omega | (simp; omega) | simp) _ | refine Below.setCell ?_ (by first | omega | (simp; omega) | simp) _))))
        (first
        | (go_at_call 17; refine (HLS.out _ (below_more HBC.out (HSB.out _ (by assumption)))).mono ?_; rintro e wl ⟨pm, mm, Am, km, cm, rfl, hkm, hokl, hlil, hbl⟩; have hbwl := below_more (HSB.out _ (by assumption)) hbl; have hzl := hbwl.size; have hyl := hbl.size; (try simp at hyl); (try (have hqwl0 : w1.heap.size < wl.heap.size := by omega)); have HBl := Lib.hid hbl; have hltl := fun b hb => Nat.lt_of_lt_of_le (n := b) hb hbl.size; obtain ⟨hcl, hfl⟩ := bcell hbl; clear hbl)
        | (go_at_call 18; refine (HTX.out _ (below_more HBC.out (HSB.out _ (by assumption)))).mono ?_; rintro e wt ⟨A2, kt, c2, rfl, hkt, hnt, hkc, hcm, hbt⟩; have hbwt := below_more (HSB.out _ (by assumption)) hbt; have hzt := hbwt.size; have hyt := hbt.size; (try simp at hyt); (try (have hqwt0 : w1.heap.size < wt.heap.size := by omega)); (try (have hqwt1 : wl.heap.size < wt.heap.size := by omega)); have HBt := Lib.hid hbt; have hltt := fun b hb => Nat.lt_of_lt_of_le (n := b) hb hbt.size; obtain ⟨hct, hft⟩ := bcell hbt; have hlt2 : Below wl.heap.size wl wt := (by first | exact hbt | exact below_of hbt | exact below_of (below_of hbt)); clear hbt)
        | (go_at_call 37; refine (HPJ.out _ pm mm Am km cm hkm.out (hokl.out.below (below_more hlt2 (by first | exact Below.refl _ _ | exact below_alloc _ _ | exact (below_alloc _ _).drew | exact two_under _ _ _))) hlil.out A2 kt c2 hkt.out (hnt.out.below (by first | exact Below.refl _ _ | exact below_alloc _ _ | exact (below_alloc _ _).drew | exact two_under _ _ _)) hkc hcm).mono ?_; rintro e wp0 ⟨Ap0, kp0, cp0, rfl, hkp0, hip0, hbp0⟩; have hbwp0 := below_more (HSB.out _ (by assumption)) hbp0; have hzp0 := hbwp0.size; have hyp0 := hbp0.size; (try simp at hyp0); (try (have hqwp00 : w1.heap.size < wp0.heap.size := by omega)); (try (have hqwp01 : wl.heap.size < wp0.heap.size := by omega)); (try (have hqwp02 : wt.heap.size < wp0.heap.size := by omega)); have HBp0 := Lib.hid hbp0; have hltp0 := fun b hb => Nat.lt_of_lt_of_le (n := b) hb hbp0.size; obtain ⟨hcp0, hfp0⟩ := bcell hbp0; clear hbp0))
      all_goals go_wp2
      all_goals go_meet
      all_goals refine ⟨_, rfl, rfl, Lib.hid ?_⟩
      all_goals first
        | (refine tboxc_of (wp0) ?_ HBl HBt HBp0 hkp0 hip0 ?_ ?_ ?_ ?_ ?_; (first | with_reducible rfl | (simp [go_sem] <;> fail) | (simp [go_sem, *] <;> fail) | (go_simp <;> fail)))
        | (refine tboxc_of (wp0.alloc (.cells #[.slice none 0 0] 27)) ?_ HBl HBt HBp0 hkp0 hip0 ?_ ?_ ?_ ?_ ?_; (first | with_reducible rfl | (simp [go_sem] <;> fail) | (simp [go_sem, *] <;> fail) | (go_simp <;> fail)))
      all_goals first
        | exact .inl ⟨heap_alloc_new _ _, by simp⟩
        | exact .inr (.inl ⟨heap_alloc_new _ _, by simp⟩)
        | exact .inr (.inr (.inl ⟨heap_alloc_new _ _, by simp⟩))
        | exact .inr (.inr (.inr ⟨heap_alloc_new _ _, by simp⟩))
        | (repeat (first | exact Below.refl _ _ | refine Below.drew ?_ | refine Below.alloc ?_ (by simp) _))
    case rest =>
    obtain ⟨xp0, rfl, rfl, hbox⟩ := hcut
    obtain ⟨wp0, rfl⟩ : ∃ w, w = wc := ⟨_, rfl⟩
    obtain ⟨Ap0, kp0, cp0, hbw, hbx, hk, hi, hkcp0, hcmp0⟩ := hbox.out
    have Hp0 := Lib.hid hi
    have Kp0 := Lib.hid hk
    have Dxp0 := Lib.hid hbx
    have BWp0 := Lib.hid hbw
    have HBC := Lib.hid (below_more HBC.out hbw)
    clear HK HDR HSB HPJ hbox hbw hbx hk hi
    have D := Lib.hid (blk_keep BWp0.out D.out)
    clear BWp0
    have HPJ := Lib.hid (fun wx (pm : Int) (mm : List Sm) (Am : Option Addr) (km cm : Nat) (hkm : km = mm.length) (hok : LmOk wx ⟨pm, mm, Am, cm⟩) (hli : (Lm.mk pm mm Am cm).li = L.li) (A2 : Option Addr) (k2 c2 : Nat) (hk : k2 = ps.length) (hn : NdsAt wx A2 ps) (h1 : k2 ≤ c2) (h2 : c2 ≤ maxLen) => show Calls Try.prog 37 #[.agg #[.int .i64 pm, .slice Am km cm], .agg #[.slice A2 k2 c2]] wx (GotTextO wx ps 0) by
      subst hk hkm
      have := plainT_any ⟨pm, mm, Am, cm⟩ A2 c2 ps wx hok hn h1 h2
      rw [hli, HP2.out] at this; exact this)
    have HCP := Lib.hid (fun wx (hb : Below wp0.heap.size wp0 wx) => show Calls Try.prog 42 #[.agg #[.slice Ap0 kp0 cp0]] wx (GotTextX wx ps) by
      have := rcopyT_any Ap0 cp0 ps wx (Hp0.out.below hb) (by rw [← Kp0.out]; exact hkcp0) hcmp0 (by have := HPL.out; omega)
      rw [← Kp0.out] at this; exact this.mono fun _ _ h => h.x)
    have HXC := Lib.hid (fun wx (hb : Below wp0.heap.size wp0 wx) => show wx.cell? ⟨xp0, 0, none⟩ = some (.slice Ap0 kp0 cp0) by have := cell_of_blk (blk_keep hb Dxp0.out) 0; simpa using this)
    have HK := Lib.hid (fun wx (hb : Below wp0.heap.size wp0 wx) => show wx.cell? ⟨w.heap.size, 0, none⟩ = some (.int .i64 L.per) ∧ wx.cell? ⟨w.heap.size, 1, none⟩ = some (.slice L.A L.ms.length L.cap) ∧ wx.cell? ⟨w.heap.size, 2, none⟩ = some (.slice A N cap) ∧ wx.cell? ⟨xp0, 0, none⟩ = some (.slice Ap0 kp0 cp0) ∧ Below wp0.heap.size wp0 wx from
      ⟨cell_of_blk (blk_keep hb D.out) 0, cell_of_blk (blk_keep hb D.out) 1, cell_of_blk (blk_keep hb D.out) 2, HXC.out wx hb, hb⟩)
    have HDR := Lib.hid (show Below wp0.heap.size wp0 wp0.drew from (Below.refl _ _).drew)
    have HSB := Lib.hid (fun wx (h : wx.cell? ⟨w.heap.size, 0, none⟩ = some (.int .i64 L.per) ∧ wx.cell? ⟨w.heap.size, 1, none⟩ = some (.slice L.A L.ms.length L.cap) ∧ wx.cell? ⟨w.heap.size, 2, none⟩ = some (.slice A N cap) ∧ wx.cell? ⟨xp0, 0, none⟩ = some (.slice Ap0 kp0 cp0) ∧ Below wp0.heap.size wp0 wx) => h.2.2.2.2)
    go_wp2_with fail
    go_cut [5, 6] (fun p q wx => ∃ x, p = .pointer (some ⟨x, 0, none⟩) ∧ q = .int .i64 0 ∧ Hid (TBoxC wp0 wx x ps))
    case first => as_aux_lemma =>
      go_region_held3 (fun wx => wx.cell? ⟨w.heap.size, 0, none⟩ = some (.int .i64 L.per) ∧ wx.cell? ⟨w.heap.size, 1, none⟩ = some (.slice L.A L.ms.length L.cap) ∧ wx.cell? ⟨w.heap.size, 2, none⟩ = some (.slice A N cap) ∧ wx.cell? ⟨xp0, 0, none⟩ = some (.slice Ap0 kp0 cp0) ∧ Below wp0.heap.size wp0 wx)
        ((refine HK.out _ ?_; first | assumption | exact HDR.out | (repeat (first | exact Below.refl _ _ | assumption | refine Below.drew ?_ | refine Below.alloc ?_ (by first | omega | (simp; omega) | simp) _ | refine Below.setCell ?_ (by first | omega | (simp; omega) | simp) _))))
        (first
        | (go_at_call 17; refine (HLS.out _ (below_more HBC.out (HSB.out _ (by assumption)))).mono ?_; rintro e wl ⟨pm, mm, Am, km, cm, rfl, hkm, hokl, hlil, hbl⟩; have hbwl := below_more (HSB.out _ (by assumption)) hbl; have hzl := hbwl.size; have hyl := hbl.size; (try simp at hyl); (try (have hqwl0 : wp0.heap.size < wl.heap.size := by omega)); have HBl := Lib.hid hbl; have hltl := fun b hb => Nat.lt_of_lt_of_le (n := b) hb hbl.size; obtain ⟨hcl, hfl⟩ := bcell hbl; clear hbl)
        | (go_at_call 42; refine (HCP.out _ (HSB.out _ (by assumption))).mono ?_; rintro e wt ⟨A2, kt, c2, rfl, hkt, hnt, hkc, hcm, hbt⟩; have hbwt := below_more (HSB.out _ (by assumption)) hbt; have hzt := hbwt.size; have hyt := hbt.size; (try simp at hyt); (try (have hqwt0 : wp0.heap.size < wt.heap.size := by omega)); (try (have hqwt1 : wl.heap.size < wt.heap.size := by omega)); have HBt := Lib.hid hbt; have hltt := fun b hb => Nat.lt_of_lt_of_le (n := b) hb hbt.size; obtain ⟨hct, hft⟩ := bcell hbt; have hlt2 : Below wl.heap.size wl wt := (by first | exact hbt | exact below_of hbt | exact below_of (below_of hbt)); clear hbt)
        | (go_at_call 37; refine (HPJ.out _ pm mm Am km cm hkm.out (hokl.out.below (below_more hlt2 (by first | exact Below.refl _ _ | exact below_alloc _ _ | exact (below_alloc _ _).drew | exact two_under _ _ _))) hlil.out A2 kt c2 hkt.out (hnt.out.below (by first | exact Below.refl _ _ | exact below_alloc _ _ | exact (below_alloc _ _).drew | exact two_under _ _ _)) hkc hcm).mono ?_; rintro e wp1 ⟨Ap1, kp1, cp1, rfl, hkp1, hip1, hbp1⟩; have hbwp1 := below_more (HSB.out _ (by assumption)) hbp1; have hzp1 := hbwp1.size; have hyp1 := hbp1.size; (try simp at hyp1); (try (have hqwp10 : wp0.heap.size < wp1.heap.size := by omega)); (try (have hqwp11 : wl.heap.size < wp1.heap.size := by omega)); (try (have hqwp12 : wt.heap.size < wp1.heap.size := by omega)); have HBp1 := Lib.hid hbp1; have hltp1 := fun b hb => Nat.lt_of_lt_of_le (n := b) hb hbp1.size; obtain ⟨hcp1, hfp1⟩ := bcell hbp1; clear hbp1))
      all_goals go_wp2
      all_goals go_meet
      all_goals refine ⟨_, rfl, rfl, Lib.hid ?_⟩
      all_goals first
        | (refine tboxc_of (wp1) ?_ HBl HBt HBp1 hkp1 hip1 ?_ ?_ ?_ ?_ ?_; (first | with_reducible rfl | (simp [go_sem] <;> fail) | (simp [go_sem, *] <;> fail) | (go_simp <;> fail)))
        | (refine tboxc_of (wp1.alloc (.cells #[.slice none 0 0] 27)) ?_ HBl HBt HBp1 hkp1 hip1 ?_ ?_ ?_ ?_ ?_; (first | with_reducible rfl | (simp [go_sem] <;> fail) | (simp [go_sem, *] <;> fail) | (go_simp <;> fail)))
      all_goals first
        | exact .inl ⟨heap_alloc_new _ _, by simp⟩
        | exact .inr (.inl ⟨heap_alloc_new _ _, by simp⟩)
        | exact .inr (.inr (.inl ⟨heap_alloc_new _ _, by simp⟩))
        | exact .inr (.inr (.inr ⟨heap_alloc_new _ _, by simp⟩))
        | (repeat (first | exact Below.refl _ _ | refine Below.drew ?_ | refine Below.alloc ?_ (by simp) _))
    case rest =>
    obtain ⟨xp1, rfl, rfl, hbox⟩ := hcut
    obtain ⟨wp1, rfl⟩ : ∃ w, w = wc := ⟨_, rfl⟩
    obtain ⟨Ap1, kp1, cp1, hbw, hbx, hk, hi, hkcp1, hcmp1⟩ := hbox.out
    have Hp1 := Lib.hid hi
    have Kp1 := Lib.hid hk
    have Dxp1 := Lib.hid hbx
    have BWp1 := Lib.hid hbw
    have HBC := Lib.hid (below_more HBC.out hbw)
    clear HK HDR HSB HPJ hbox hbw hbx hk hi HCP HXC
    have D := Lib.hid (blk_keep BWp1.out D.out)
    have Dxp0 := Lib.hid (blk_keep BWp1.out Dxp0.out)
    have Hp0 := Lib.hid (Hp0.out.below BWp1.out)
    clear BWp1
    have HPJ := Lib.hid (fun wx (pm : Int) (mm : List Sm) (Am : Option Addr) (km cm : Nat) (hkm : km = mm.length) (hok : LmOk wx ⟨pm, mm, Am, cm⟩) (hli : (Lm.mk pm mm Am cm).li = L.li) (A2 : Option Addr) (k2 c2 : Nat) (hk : k2 = ns.length) (hn : NdsAt wx A2 ns) (h1 : k2 ≤ c2) (h2 : c2 ≤ maxLen) => show Calls Try.prog 51 #[.agg #[.int .i64 pm, .slice Am km cm], .agg #[.slice A2 k2 c2]] wx (GotTextO wx fs 0) by
      subst hk hkm
      have := flatT_any ⟨pm, mm, Am, cm⟩ A2 c2 ns wx hok hn h1 h2
      rw [hli, HF1.out] at this; exact this)
    have HK := Lib.hid (fun wx (hb : Below wp1.heap.size wp1 wx) => show wx.cell? ⟨w.heap.size, 0, none⟩ = some (.int .i64 L.per) ∧ wx.cell? ⟨w.heap.size, 1, none⟩ = some (.slice L.A L.ms.length L.cap) ∧ wx.cell? ⟨w.heap.size, 2, none⟩ = some (.slice A N cap) ∧ Below wp1.heap.size wp1 wx from
      ⟨cell_of_blk (blk_keep hb D.out) 0, cell_of_blk (blk_keep hb D.out) 1, cell_of_blk (blk_keep hb D.out) 2, hb⟩)
    have HDR := Lib.hid (show Below wp1.heap.size wp1 wp1.drew from (Below.refl _ _).drew)
    have HSB := Lib.hid (fun wx (h : wx.cell? ⟨w.heap.size, 0, none⟩ = some (.int .i64 L.per) ∧ wx.cell? ⟨w.heap.size, 1, none⟩ = some (.slice L.A L.ms.length L.cap) ∧ wx.cell? ⟨w.heap.size, 2, none⟩ = some (.slice A N cap) ∧ Below wp1.heap.size wp1 wx) => h.2.2.2)
    go_wp2_with fail
    go_cut [7, 8] (fun p q wx => ∃ x, p = .pointer (some ⟨x, 0, none⟩) ∧ q = .int .i64 0 ∧ Hid (TBoxC wp1 wx x fs))
    case first => as_aux_lemma =>
      go_region_held3 (fun wx => wx.cell? ⟨w.heap.size, 0, none⟩ = some (.int .i64 L.per) ∧ wx.cell? ⟨w.heap.size, 1, none⟩ = some (.slice L.A L.ms.length L.cap) ∧ wx.cell? ⟨w.heap.size, 2, none⟩ = some (.slice A N cap) ∧ Below wp1.heap.size wp1 wx)
        ((refine HK.out _ ?_; first | assumption | exact HDR.out | (repeat (first | exact Below.refl _ _ | assumption | refine Below.drew ?_ | refine Below.alloc ?_ (by first | omega | (simp; omega) | simp) _ | refine Below.setCell ?_ (by first | omega | (simp; omega) | simp) _))))
        (first
        | (go_at_call 17; refine (HLS.out _ (below_more HBC.out (HSB.out _ (by assumption)))).mono ?_; rintro e wl ⟨pm, mm, Am, km, cm, rfl, hkm, hokl, hlil, hbl⟩; have hbwl := below_more (HSB.out _ (by assumption)) hbl; have hzl := hbwl.size; have hyl := hbl.size; (try simp at hyl); (try (have hqwl0 : wp1.heap.size < wl.heap.size := by omega)); have HBl := Lib.hid hbl; have hltl := fun b hb => Nat.lt_of_lt_of_le (n := b) hb hbl.size; obtain ⟨hcl, hfl⟩ := bcell hbl; clear hbl)
        | (go_at_call 18; refine (HTX.out _ (below_more HBC.out (HSB.out _ (by assumption)))).mono ?_; rintro e wt ⟨A2, kt, c2, rfl, hkt, hnt, hkc, hcm, hbt⟩; have hbwt := below_more (HSB.out _ (by assumption)) hbt; have hzt := hbwt.size; have hyt := hbt.size; (try simp at hyt); (try (have hqwt0 : wp1.heap.size < wt.heap.size := by omega)); (try (have hqwt1 : wl.heap.size < wt.heap.size := by omega)); have HBt := Lib.hid hbt; have hltt := fun b hb => Nat.lt_of_lt_of_le (n := b) hb hbt.size; obtain ⟨hct, hft⟩ := bcell hbt; have hlt2 : Below wl.heap.size wl wt := (by first | exact hbt | exact below_of hbt | exact below_of (below_of hbt)); clear hbt)
        | (go_at_call 51; refine (HPJ.out _ pm mm Am km cm hkm.out (hokl.out.below (below_more hlt2 (by first | exact Below.refl _ _ | exact below_alloc _ _ | exact (below_alloc _ _).drew | exact two_under _ _ _))) hlil.out A2 kt c2 hkt.out (hnt.out.below (by first | exact Below.refl _ _ | exact below_alloc _ _ | exact (below_alloc _ _).drew | exact two_under _ _ _)) hkc hcm).mono ?_; rintro e wf0 ⟨Af0, kf0, cf0, rfl, hkf0, hif0, hbf0⟩; have hbwf0 := below_more (HSB.out _ (by assumption)) hbf0; have hzf0 := hbwf0.size; have hyf0 := hbf0.size; (try simp at hyf0); (try (have hqwf00 : wp1.heap.size < wf0.heap.size := by omega)); (try (have hqwf01 : wl.heap.size < wf0.heap.size := by omega)); (try (have hqwf02 : wt.heap.size < wf0.heap.size := by omega)); have HBf0 := Lib.hid hbf0; have hltf0 := fun b hb => Nat.lt_of_lt_of_le (n := b) hb hbf0.size; obtain ⟨hcf0, hff0⟩ := bcell hbf0; clear hbf0))
      all_goals go_wp2
      all_goals go_meet
      all_goals refine ⟨_, rfl, rfl, Lib.hid ?_⟩
      all_goals first
        | (refine tboxc_of (wf0) ?_ HBl HBt HBf0 hkf0 hif0 ?_ ?_ ?_ ?_ ?_; (first | with_reducible rfl | (simp [go_sem] <;> fail) | (simp [go_sem, *] <;> fail) | (go_simp <;> fail)))
        | (refine tboxc_of (wf0.alloc (.cells #[.slice none 0 0] 27)) ?_ HBl HBt HBf0 hkf0 hif0 ?_ ?_ ?_ ?_ ?_; (first | with_reducible rfl | (simp [go_sem] <;> fail) | (simp [go_sem, *] <;> fail) | (go_simp <;> fail)))
      all_goals first
        | exact .inl ⟨heap_alloc_new _ _, by simp⟩
        | exact .inr (.inl ⟨heap_alloc_new _ _, by simp⟩)
        | exact .inr (.inr (.inl ⟨heap_alloc_new _ _, by simp⟩))
        | exact .inr (.inr (.inr ⟨heap_alloc_new _ _, by simp⟩))
        | (repeat (first | exact Below.refl _ _ | refine Below.drew ?_ | refine Below.alloc ?_ (by simp) _))
    case rest =>
    obtain ⟨xf0, rfl, rfl, hbox⟩ := hcut
    obtain ⟨wf0, rfl⟩ : ∃ w, w = wc := ⟨_, rfl⟩
    obtain ⟨Af0, kf0, cf0, hbw, hbx, hk, hi, hkcf0, hcmf0⟩ := hbox.out
    have Hf0 := Lib.hid hi
    have Kf0 := Lib.hid hk
    have Dxf0 := Lib.hid hbx
    have BWf0 := Lib.hid hbw
    have HBC := Lib.hid (below_more HBC.out hbw)
    clear HK HDR HSB HPJ hbox hbw hbx hk hi
    have D := Lib.hid (blk_keep BWf0.out D.out)
    have Dxp0 := Lib.hid (blk_keep BWf0.out Dxp0.out)
    have Dxp1 := Lib.hid (blk_keep BWf0.out Dxp1.out)
    have Hp0 := Lib.hid (Hp0.out.below BWf0.out)
    have Hp1 := Lib.hid (Hp1.out.below BWf0.out)
    clear BWf0
    have HPJ := Lib.hid (fun wx (pm : Int) (mm : List Sm) (Am : Option Addr) (km cm : Nat) (hkm : km = mm.length) (hok : LmOk wx ⟨pm, mm, Am, cm⟩) (hli : (Lm.mk pm mm Am cm).li = L.li) (A2 : Option Addr) (k2 c2 : Nat) (hk : k2 = fs.length) (hn : NdsAt wx A2 fs) (h1 : k2 ≤ c2) (h2 : c2 ≤ maxLen) => show Calls Try.prog 51 #[.agg #[.int .i64 pm, .slice Am km cm], .agg #[.slice A2 k2 c2]] wx (GotTextO wx fs 0) by
      subst hk hkm
      have := flatT_any ⟨pm, mm, Am, cm⟩ A2 c2 fs wx hok hn h1 h2
      rw [hli, HF2.out] at this; exact this)
    have HCP := Lib.hid (fun wx (hb : Below wf0.heap.size wf0 wx) => show Calls Try.prog 42 #[.agg #[.slice Af0 kf0 cf0]] wx (GotTextX wx fs) by
      have := rcopyT_any Af0 cf0 fs wx (Hf0.out.below hb) (by rw [← Kf0.out]; exact hkcf0) hcmf0 (by have := HFL.out; omega)
      rw [← Kf0.out] at this; exact this.mono fun _ _ h => h.x)
    have HXC := Lib.hid (fun wx (hb : Below wf0.heap.size wf0 wx) => show wx.cell? ⟨xf0, 0, none⟩ = some (.slice Af0 kf0 cf0) by have := cell_of_blk (blk_keep hb Dxf0.out) 0; simpa using this)
    have HK := Lib.hid (fun wx (hb : Below wf0.heap.size wf0 wx) => show wx.cell? ⟨w.heap.size, 0, none⟩ = some (.int .i64 L.per) ∧ wx.cell? ⟨w.heap.size, 1, none⟩ = some (.slice L.A L.ms.length L.cap) ∧ wx.cell? ⟨w.heap.size, 2, none⟩ = some (.slice A N cap) ∧ wx.cell? ⟨xf0, 0, none⟩ = some (.slice Af0 kf0 cf0) ∧ Below wf0.heap.size wf0 wx from
      ⟨cell_of_blk (blk_keep hb D.out) 0, cell_of_blk (blk_keep hb D.out) 1, cell_of_blk (blk_keep hb D.out) 2, HXC.out wx hb, hb⟩)
    have HDR := Lib.hid (show Below wf0.heap.size wf0 wf0.drew from (Below.refl _ _).drew)
    have HSB := Lib.hid (fun wx (h : wx.cell? ⟨w.heap.size, 0, none⟩ = some (.int .i64 L.per) ∧ wx.cell? ⟨w.heap.size, 1, none⟩ = some (.slice L.A L.ms.length L.cap) ∧ wx.cell? ⟨w.heap.size, 2, none⟩ = some (.slice A N cap) ∧ wx.cell? ⟨xf0, 0, none⟩ = some (.slice Af0 kf0 cf0) ∧ Below wf0.heap.size wf0 wx) => h.2.2.2.2)
    go_wp2_with fail
    go_cut [9, 10] (fun p q wx => ∃ x, p = .pointer (some ⟨x, 0, none⟩) ∧ q = .int .i64 0 ∧ Hid (TBoxC wf0 wx x fs))
    case first => as_aux_lemma =>
      go_region_held3 (fun wx => wx.cell? ⟨w.heap.size, 0, none⟩ = some (.int .i64 L.per) ∧ wx.cell? ⟨w.heap.size, 1, none⟩ = some (.slice L.A L.ms.length L.cap) ∧ wx.cell? ⟨w.heap.size, 2, none⟩ = some (.slice A N cap) ∧ wx.cell? ⟨xf0, 0, none⟩ = some (.slice Af0 kf0 cf0) ∧ Below wf0.heap.size wf0 wx)
        ((refine HK.out _ ?_; first | assumption | exact HDR.out | (repeat (first | exact Below.refl _ _ | assumption | refine Below.drew ?_ | refine Below.alloc ?_ (by first | omega | (simp; omega) | simp) _ | refine Below.setCell ?_ (by first | omega | (simp; omega) | simp) _))))
        (first
        | (go_at_call 17; refine (HLS.out _ (below_more HBC.out (HSB.out _ (by assumption)))).mono ?_; rintro e wl ⟨pm, mm, Am, km, cm, rfl, hkm, hokl, hlil, hbl⟩; have hbwl := below_more (HSB.out _ (by assumption)) hbl; have hzl := hbwl.size; have hyl := hbl.size; (try simp at hyl); (try (have hqwl0 : wf0.heap.size < wl.heap.size := by omega)); have HBl := Lib.hid hbl; have hltl := fun b hb => Nat.lt_of_lt_of_le (n := b) hb hbl.size; obtain ⟨hcl, hfl⟩ := bcell hbl; clear hbl)
        | (go_at_call 42; refine (HCP.out _ (HSB.out _ (by assumption))).mono ?_; rintro e wt ⟨A2, kt, c2, rfl, hkt, hnt, hkc, hcm, hbt⟩; have hbwt := below_more (HSB.out _ (by assumption)) hbt; have hzt := hbwt.size; have hyt := hbt.size; (try simp at hyt); (try (have hqwt0 : wf0.heap.size < wt.heap.size := by omega)); (try (have hqwt1 : wl.heap.size < wt.heap.size := by omega)); have HBt := Lib.hid hbt; have hltt := fun b hb => Nat.lt_of_lt_of_le (n := b) hb hbt.size; obtain ⟨hct, hft⟩ := bcell hbt; have hlt2 : Below wl.heap.size wl wt := (by first | exact hbt | exact below_of hbt | exact below_of (below_of hbt)); clear hbt)
        | (go_at_call 51; refine (HPJ.out _ pm mm Am km cm hkm.out (hokl.out.below (below_more hlt2 (by first | exact Below.refl _ _ | exact below_alloc _ _ | exact (below_alloc _ _).drew | exact two_under _ _ _))) hlil.out A2 kt c2 hkt.out (hnt.out.below (by first | exact Below.refl _ _ | exact below_alloc _ _ | exact (below_alloc _ _).drew | exact two_under _ _ _)) hkc hcm).mono ?_; rintro e wf1 ⟨Af1, kf1, cf1, rfl, hkf1, hif1, hbf1⟩; have hbwf1 := below_more (HSB.out _ (by assumption)) hbf1; have hzf1 := hbwf1.size; have hyf1 := hbf1.size; (try simp at hyf1); (try (have hqwf10 : wf0.heap.size < wf1.heap.size := by omega)); (try (have hqwf11 : wl.heap.size < wf1.heap.size := by omega)); (try (have hqwf12 : wt.heap.size < wf1.heap.size := by omega)); have HBf1 := Lib.hid hbf1; have hltf1 := fun b hb => Nat.lt_of_lt_of_le (n := b) hb hbf1.size; obtain ⟨hcf1, hff1⟩ := bcell hbf1; clear hbf1))
      all_goals go_wp2
      all_goals go_meet
      all_goals refine ⟨_, rfl, rfl, Lib.hid ?_⟩
      all_goals first
        | (refine tboxc_of (wf1) ?_ HBl HBt HBf1 hkf1 hif1 ?_ ?_ ?_ ?_ ?_; (first | with_reducible rfl | (simp [go_sem] <;> fail) | (simp [go_sem, *] <;> fail) | (go_simp <;> fail)))
        | (refine tboxc_of (wf1.alloc (.cells #[.slice none 0 0] 27)) ?_ HBl HBt HBf1 hkf1 hif1 ?_ ?_ ?_ ?_ ?_; (first | with_reducible rfl | (simp [go_sem] <;> fail) | (simp [go_sem, *] <;> fail) | (go_simp <;> fail)))
      all_goals first
        | exact .inl ⟨heap_alloc_new _ _, by simp⟩
        | exact .inr (.inl ⟨heap_alloc_new _ _, by simp⟩)
        | exact .inr (.inr (.inl ⟨heap_alloc_new _ _, by simp⟩))
        | exact .inr (.inr (.inr ⟨heap_alloc_new _ _, by simp⟩))
        | (repeat (first | exact Below.refl _ _ | refine Below.drew ?_ | refine Below.alloc ?_ (by simp) _))
    case rest =>
    obtain ⟨xf1, rfl, rfl, hbox⟩ := hcut
    obtain ⟨wf1, rfl⟩ : ∃ w, w = wc := ⟨_, rfl⟩
    obtain ⟨Af1, kf1, cf1, hbw, hbx, hk, hi, hkcf1, hcmf1⟩ := hbox.out
    have Hf1 := Lib.hid hi
    have Kf1 := Lib.hid hk
    have Dxf1 := Lib.hid hbx
    have BWf1 := Lib.hid hbw
    have HBC := Lib.hid (below_more HBC.out hbw)
    clear HK HDR HSB HPJ hbox hbw hbx hk hi HCP HXC
    have D := Lib.hid (blk_keep BWf1.out D.out)
    have Dxp0 := Lib.hid (blk_keep BWf1.out Dxp0.out)
    have Dxp1 := Lib.hid (blk_keep BWf1.out Dxp1.out)
    have Dxf0 := Lib.hid (blk_keep BWf1.out Dxf0.out)
    have Hp0 := Lib.hid (Hp0.out.below BWf1.out)
    have Hp1 := Lib.hid (Hp1.out.below BWf1.out)
    have Hf0 := Lib.hid (Hf0.out.below BWf1.out)
    clear BWf1
    have HPJ := Lib.hid (fun wx (pm : Int) (mm : List Sm) (Am : Option Addr) (km cm : Nat) (hkm : km = mm.length) (hok : LmOk wx ⟨pm, mm, Am, cm⟩) (hli : (Lm.mk pm mm Am cm).li = L.li) (A2 : Option Addr) (k2 c2 : Nat) (hk : k2 = ns.length) (hn : NdsAt wx A2 ns) (h1 : k2 ≤ c2) (h2 : c2 ≤ maxLen) => show Calls Try.prog 39 #[.agg #[.int .i64 pm, .slice Am km cm], .agg #[.slice A2 k2 c2]] wx (GotTextO wx mr 0) by
      subst hk hkm
      have := mirrorP_any ⟨pm, mm, Am, cm⟩ A2 c2 ns wx hok hn h1 h2
      rw [hli, HM1.out] at this; exact this)
    have HK := Lib.hid (fun wx (hb : Below wf1.heap.size wf1 wx) => show wx.cell? ⟨w.heap.size, 0, none⟩ = some (.int .i64 L.per) ∧ wx.cell? ⟨w.heap.size, 1, none⟩ = some (.slice L.A L.ms.length L.cap) ∧ wx.cell? ⟨w.heap.size, 2, none⟩ = some (.slice A N cap) ∧ Below wf1.heap.size wf1 wx from
      ⟨cell_of_blk (blk_keep hb D.out) 0, cell_of_blk (blk_keep hb D.out) 1, cell_of_blk (blk_keep hb D.out) 2, hb⟩)
    have HDR := Lib.hid (show Below wf1.heap.size wf1 wf1.drew from (Below.refl _ _).drew)
    have HSB := Lib.hid (fun wx (h : wx.cell? ⟨w.heap.size, 0, none⟩ = some (.int .i64 L.per) ∧ wx.cell? ⟨w.heap.size, 1, none⟩ = some (.slice L.A L.ms.length L.cap) ∧ wx.cell? ⟨w.heap.size, 2, none⟩ = some (.slice A N cap) ∧ Below wf1.heap.size wf1 wx) => h.2.2.2)
    go_wp2_with fail
    go_cut [11, 12] (fun p q wx => ∃ x, p = .pointer (some ⟨x, 0, none⟩) ∧ q = .int .i64 0 ∧ Hid (TBoxC wf1 wx x mr))
    case first => as_aux_lemma =>
      go_region_held3 (fun wx => wx.cell? ⟨w.heap.size, 0, none⟩ = some (.int .i64 L.per) ∧ wx.cell? ⟨w.heap.size, 1, none⟩ = some (.slice L.A L.ms.length L.cap) ∧ wx.cell? ⟨w.heap.size, 2, none⟩ = some (.slice A N cap) ∧ Below wf1.heap.size wf1 wx)
        ((refine HK.out _ ?_; first | assumption | exact HDR.out | (repeat (first | exact Below.refl _ _ | assumption | refine Below.drew ?_ | refine Below.alloc ?_ (by first | omega | (simp; omega) | simp) _ | refine Below.setCell ?_ (by first | omega | (simp; omega) | simp) _))))
        (first
        | (go_at_call 17; refine (HLS.out _ (below_more HBC.out (HSB.out _ (by assumption)))).mono ?_; rintro e wl ⟨pm, mm, Am, km, cm, rfl, hkm, hokl, hlil, hbl⟩; have hbwl := below_more (HSB.out _ (by assumption)) hbl; have hzl := hbwl.size; have hyl := hbl.size; (try simp at hyl); (try (have hqwl0 : wf1.heap.size < wl.heap.size := by omega)); have HBl := Lib.hid hbl; have hltl := fun b hb => Nat.lt_of_lt_of_le (n := b) hb hbl.size; obtain ⟨hcl, hfl⟩ := bcell hbl; clear hbl)
        | (go_at_call 18; refine (HTX.out _ (below_more HBC.out (HSB.out _ (by assumption)))).mono ?_; rintro e wt ⟨A2, kt, c2, rfl, hkt, hnt, hkc, hcm, hbt⟩; have hbwt := below_more (HSB.out _ (by assumption)) hbt; have hzt := hbwt.size; have hyt := hbt.size; (try simp at hyt); (try (have hqwt0 : wf1.heap.size < wt.heap.size := by omega)); (try (have hqwt1 : wl.heap.size < wt.heap.size := by omega)); have HBt := Lib.hid hbt; have hltt := fun b hb => Nat.lt_of_lt_of_le (n := b) hb hbt.size; obtain ⟨hct, hft⟩ := bcell hbt; have hlt2 : Below wl.heap.size wl wt := (by first | exact hbt | exact below_of hbt | exact below_of (below_of hbt)); clear hbt)
        | (go_at_call 39; refine (HPJ.out _ pm mm Am km cm hkm.out (hokl.out.below (below_more hlt2 (by first | exact Below.refl _ _ | exact below_alloc _ _ | exact (below_alloc _ _).drew | exact two_under _ _ _))) hlil.out A2 kt c2 hkt.out (hnt.out.below (by first | exact Below.refl _ _ | exact below_alloc _ _ | exact (below_alloc _ _).drew | exact two_under _ _ _)) hkc hcm).mono ?_; rintro e wm0 ⟨Am0, km0, cm0, rfl, hkm0, him0, hbm0⟩; have hbwm0 := below_more (HSB.out _ (by assumption)) hbm0; have hzm0 := hbwm0.size; have hym0 := hbm0.size; (try simp at hym0); (try (have hqwm00 : wf1.heap.size < wm0.heap.size := by omega)); (try (have hqwm01 : wl.heap.size < wm0.heap.size := by omega)); (try (have hqwm02 : wt.heap.size < wm0.heap.size := by omega)); have HBm0 := Lib.hid hbm0; have hltm0 := fun b hb => Nat.lt_of_lt_of_le (n := b) hb hbm0.size; obtain ⟨hcm0, hfm0⟩ := bcell hbm0; clear hbm0))
      all_goals go_wp2
      all_goals go_meet
      all_goals refine ⟨_, rfl, rfl, Lib.hid ?_⟩
      all_goals first
        | (refine tboxc_of (wm0) ?_ HBl HBt HBm0 hkm0 him0 ?_ ?_ ?_ ?_ ?_; (first | with_reducible rfl | (simp [go_sem] <;> fail) | (simp [go_sem, *] <;> fail) | (go_simp <;> fail)))
        | (refine tboxc_of (wm0.alloc (.cells #[.slice none 0 0] 27)) ?_ HBl HBt HBm0 hkm0 him0 ?_ ?_ ?_ ?_ ?_; (first | with_reducible rfl | (simp [go_sem] <;> fail) | (simp [go_sem, *] <;> fail) | (go_simp <;> fail)))
      all_goals first
        | exact .inl ⟨heap_alloc_new _ _, by simp⟩
        | exact .inr (.inl ⟨heap_alloc_new _ _, by simp⟩)
        | exact .inr (.inr (.inl ⟨heap_alloc_new _ _, by simp⟩))
        | exact .inr (.inr (.inr ⟨heap_alloc_new _ _, by simp⟩))
        | (repeat (first | exact Below.refl _ _ | refine Below.drew ?_ | refine Below.alloc ?_ (by simp) _))
    case rest =>
    obtain ⟨xm0, rfl, rfl, hbox⟩ := hcut
    obtain ⟨wm0, rfl⟩ : ∃ w, w = wc := ⟨_, rfl⟩
    obtain ⟨Am0, km0, cm0, hbw, hbx, hk, hi, hkcm0, hcmm0⟩ := hbox.out
    have Hm0 := Lib.hid hi
    have Km0 := Lib.hid hk
    have Dxm0 := Lib.hid hbx
    have BWm0 := Lib.hid hbw
    have HBC := Lib.hid (below_more HBC.out hbw)
    clear HK HDR HSB HPJ hbox hbw hbx hk hi
    have D := Lib.hid (blk_keep BWm0.out D.out)
    have Dxp0 := Lib.hid (blk_keep BWm0.out Dxp0.out)
    have Dxp1 := Lib.hid (blk_keep BWm0.out Dxp1.out)
    have Dxf0 := Lib.hid (blk_keep BWm0.out Dxf0.out)
    have Dxf1 := Lib.hid (blk_keep BWm0.out Dxf1.out)
    have Hp0 := Lib.hid (Hp0.out.below BWm0.out)
    have Hp1 := Lib.hid (Hp1.out.below BWm0.out)
    have Hf0 := Lib.hid (Hf0.out.below BWm0.out)
    have Hf1 := Lib.hid (Hf1.out.below BWm0.out)
    clear BWm0
    have HPJ := Lib.hid (fun wx (pm : Int) (mm : List Sm) (Am : Option Addr) (km cm : Nat) (hkm : km = mm.length) (hok : LmOk wx ⟨pm, mm, Am, cm⟩) (hli : (Lm.mk pm mm Am cm).li = L.li) (A2 : Option Addr) (k2 c2 : Nat) (hk : k2 = mr.length) (hn : NdsAt wx A2 mr) (h1 : k2 ≤ c2) (h2 : c2 ≤ maxLen) => show Calls Try.prog 39 #[.agg #[.int .i64 pm, .slice Am km cm], .agg #[.slice A2 k2 c2]] wx (GotTextO wx ns 0) by
      subst hk hkm
      have := mirrorP_any ⟨pm, mm, Am, cm⟩ A2 c2 mr wx hok hn h1 h2
      rw [hli, HM2.out] at this; exact this)
    have HCP := Lib.hid (fun wx (hb : Below wm0.heap.size wm0 wx) => show Calls Try.prog 42 #[.agg #[.slice Am0 km0 cm0]] wx (GotTextX wx mr) by
      have := rcopyT_any Am0 cm0 mr wx (Hm0.out.below hb) (by rw [← Km0.out]; exact hkcm0) hcmm0 (by have := HML.out; omega)
      rw [← Km0.out] at this; exact this.mono fun _ _ h => h.x)
    have HXC := Lib.hid (fun wx (hb : Below wm0.heap.size wm0 wx) => show wx.cell? ⟨xm0, 0, none⟩ = some (.slice Am0 km0 cm0) by have := cell_of_blk (blk_keep hb Dxm0.out) 0; simpa using this)
    have HK := Lib.hid (fun wx (hb : Below wm0.heap.size wm0 wx) => show wx.cell? ⟨w.heap.size, 0, none⟩ = some (.int .i64 L.per) ∧ wx.cell? ⟨w.heap.size, 1, none⟩ = some (.slice L.A L.ms.length L.cap) ∧ wx.cell? ⟨w.heap.size, 2, none⟩ = some (.slice A N cap) ∧ wx.cell? ⟨xm0, 0, none⟩ = some (.slice Am0 km0 cm0) ∧ Below wm0.heap.size wm0 wx from
      ⟨cell_of_blk (blk_keep hb D.out) 0, cell_of_blk (blk_keep hb D.out) 1, cell_of_blk (blk_keep hb D.out) 2, HXC.out wx hb, hb⟩)
    have HDR := Lib.hid (show Below wm0.heap.size wm0 wm0.drew from (Below.refl _ _).drew)
    have HSB := Lib.hid (fun wx (h : wx.cell? ⟨w.heap.size, 0, none⟩ = some (.int .i64 L.per) ∧ wx.cell? ⟨w.heap.size, 1, none⟩ = some (.slice L.A L.ms.length L.cap) ∧ wx.cell? ⟨w.heap.size, 2, none⟩ = some (.slice A N cap) ∧ wx.cell? ⟨xm0, 0, none⟩ = some (.slice Am0 km0 cm0) ∧ Below wm0.heap.size wm0 wx) => h.2.2.2.2)
    go_wp2_with fail
    go_cut [13, 14] (fun p q wx => ∃ x, p = .pointer (some ⟨x, 0, none⟩) ∧ q = .int .i64 0 ∧ Hid (TBoxC wm0 wx x ns))
    case first => as_aux_lemma =>
      go_region_held3 (fun wx => wx.cell? ⟨w.heap.size, 0, none⟩ = some (.int .i64 L.per) ∧ wx.cell? ⟨w.heap.size, 1, none⟩ = some (.slice L.A L.ms.length L.cap) ∧ wx.cell? ⟨w.heap.size, 2, none⟩ = some (.slice A N cap) ∧ wx.cell? ⟨xm0, 0, none⟩ = some (.slice Am0 km0 cm0) ∧ Below wm0.heap.size wm0 wx)
        ((refine HK.out _ ?_; first | assumption | exact HDR.out | (repeat (first | exact Below.refl _ _ | assumption | refine Below.drew ?_ | refine Below.alloc ?_ (by first | omega | (simp; omega) | simp) _ | refine Below.setCell ?_ (by first | omega | (simp; omega) | simp) _))))
        (first
        | (go_at_call 17; refine (HLS.out _ (below_more HBC.out (HSB.out _ (by assumption)))).mono ?_; rintro e wl ⟨pm, mm, Am, km, cm, rfl, hkm, hokl, hlil, hbl⟩; have hbwl := below_more (HSB.out _ (by assumption)) hbl; have hzl := hbwl.size; have hyl := hbl.size; (try simp at hyl); (try (have hqwl0 : wm0.heap.size < wl.heap.size := by omega)); have HBl := Lib.hid hbl; have hltl := fun b hb => Nat.lt_of_lt_of_le (n := b) hb hbl.size; obtain ⟨hcl, hfl⟩ := bcell hbl; clear hbl)
        | (go_at_call 42; refine (HCP.out _ (HSB.out _ (by assumption))).mono ?_; rintro e wt ⟨A2, kt, c2, rfl, hkt, hnt, hkc, hcm, hbt⟩; have hbwt := below_more (HSB.out _ (by assumption)) hbt; have hzt := hbwt.size; have hyt := hbt.size; (try simp at hyt); (try (have hqwt0 : wm0.heap.size < wt.heap.size := by omega)); (try (have hqwt1 : wl.heap.size < wt.heap.size := by omega)); have HBt := Lib.hid hbt; have hltt := fun b hb => Nat.lt_of_lt_of_le (n := b) hb hbt.size; obtain ⟨hct, hft⟩ := bcell hbt; have hlt2 : Below wl.heap.size wl wt := (by first | exact hbt | exact below_of hbt | exact below_of (below_of hbt)); clear hbt)
        | (go_at_call 39; refine (HPJ.out _ pm mm Am km cm hkm.out (hokl.out.below (below_more hlt2 (by first | exact Below.refl _ _ | exact below_alloc _ _ | exact (below_alloc _ _).drew | exact two_under _ _ _))) hlil.out A2 kt c2 hkt.out (hnt.out.below (by first | exact Below.refl _ _ | exact below_alloc _ _ | exact (below_alloc _ _).drew | exact two_under _ _ _)) hkc hcm).mono ?_; rintro e wm1 ⟨Am1, km1, cm1, rfl, hkm1, him1, hbm1⟩; have hbwm1 := below_more (HSB.out _ (by assumption)) hbm1; have hzm1 := hbwm1.size; have hym1 := hbm1.size; (try simp at hym1); (try (have hqwm10 : wm0.heap.size < wm1.heap.size := by omega)); (try (have hqwm11 : wl.heap.size < wm1.heap.size := by omega)); (try (have hqwm12 : wt.heap.size < wm1.heap.size := by omega)); have HBm1 := Lib.hid hbm1; have hltm1 := fun b hb => Nat.lt_of_lt_of_le (n := b) hb hbm1.size; obtain ⟨hcm1, hfm1⟩ := bcell hbm1; clear hbm1))
      all_goals go_wp2
      all_goals go_meet
      all_goals refine ⟨_, rfl, rfl, Lib.hid ?_⟩
      all_goals first
        | (refine tboxc_of (wm1) ?_ HBl HBt HBm1 hkm1 him1 ?_ ?_ ?_ ?_ ?_; (first | with_reducible rfl | (simp [go_sem] <;> fail) | (simp [go_sem, *] <;> fail) | (go_simp <;> fail)))
        | (refine tboxc_of (wm1.alloc (.cells #[.slice none 0 0] 27)) ?_ HBl HBt HBm1 hkm1 him1 ?_ ?_ ?_ ?_ ?_; (first | with_reducible rfl | (simp [go_sem] <;> fail) | (simp [go_sem, *] <;> fail) | (go_simp <;> fail)))
      all_goals first
        | exact .inl ⟨heap_alloc_new _ _, by simp⟩
        | exact .inr (.inl ⟨heap_alloc_new _ _, by simp⟩)
        | exact .inr (.inr (.inl ⟨heap_alloc_new _ _, by simp⟩))
        | exact .inr (.inr (.inr ⟨heap_alloc_new _ _, by simp⟩))
        | (repeat (first | exact Below.refl _ _ | refine Below.drew ?_ | refine Below.alloc ?_ (by simp) _))
    case rest =>
    obtain ⟨xm1, rfl, rfl, hbox⟩ := hcut
    obtain ⟨wm1, rfl⟩ : ∃ w, w = wc := ⟨_, rfl⟩
    obtain ⟨Am1, km1, cm1, hbw, hbx, hk, hi, hkcm1, hcmm1⟩ := hbox.out
    have Hm1 := Lib.hid hi
    have Km1 := Lib.hid hk
    have Dxm1 := Lib.hid hbx
    have BWm1 := Lib.hid hbw
    have HBC := Lib.hid (below_more HBC.out hbw)
    clear HK HDR HSB HPJ hbox hbw hbx hk hi HCP HXC
    have D := Lib.hid (blk_keep BWm1.out D.out)
    have Dxp0 := Lib.hid (blk_keep BWm1.out Dxp0.out)
    have Dxp1 := Lib.hid (blk_keep BWm1.out Dxp1.out)
    have Dxf0 := Lib.hid (blk_keep BWm1.out Dxf0.out)
    have Dxf1 := Lib.hid (blk_keep BWm1.out Dxf1.out)
    have Dxm0 := Lib.hid (blk_keep BWm1.out Dxm0.out)
    have Hp0 := Lib.hid (Hp0.out.below BWm1.out)
    have Hp1 := Lib.hid (Hp1.out.below BWm1.out)
    have Hf0 := Lib.hid (Hf0.out.below BWm1.out)
    have Hf1 := Lib.hid (Hf1.out.below BWm1.out)
    have Hm0 := Lib.hid (Hm0.out.below BWm1.out)
    clear BWm1
    have HSM := Lib.hid (show Calls Try.prog 22 #[.agg #[.slice Ap0 kp0 cp0], .agg #[.slice Ap1 kp1 cp1]] wm1 (fun e w' => e = .returned (.bool true) ∧ Below wm1.heap.size wm1 w') from
      rsameT_eq _ _ _ _ _ _ ps wm1 Kp0.out Kp1.out Hp0.out Hp1.out (by have := HPL.out; omega))
    have s0 := cell_of_blk Dxp0.out 0
    have s1 := (Array.getElem?_eq_some_iff.1 Dxp0.out).1
    have t0 := cell_of_blk Dxp1.out 0
    have t1 := (Array.getElem?_eq_some_iff.1 Dxp1.out).1
    simp at s0 t0
    go_wp2_with fail
    refine HSM.out.mono ?_; rintro e ws1 ⟨rfl, hbs⟩
    have BWs := Lib.hid hbs
    have HBC := Lib.hid (below_more HBC.out hbs)
    clear HSM s0 s1 t0 t1 hbs
    have D := Lib.hid (blk_keep BWs.out D.out)
    have Dxp0 := Lib.hid (blk_keep BWs.out Dxp0.out)
    have Dxp1 := Lib.hid (blk_keep BWs.out Dxp1.out)
    have Dxf0 := Lib.hid (blk_keep BWs.out Dxf0.out)
    have Dxf1 := Lib.hid (blk_keep BWs.out Dxf1.out)
    have Dxm0 := Lib.hid (blk_keep BWs.out Dxm0.out)
    have Dxm1 := Lib.hid (blk_keep BWs.out Dxm1.out)
    have Hp0 := Lib.hid (Hp0.out.below BWs.out)
    have Hp1 := Lib.hid (Hp1.out.below BWs.out)
    have Hf0 := Lib.hid (Hf0.out.below BWs.out)
    have Hf1 := Lib.hid (Hf1.out.below BWs.out)
    have Hm0 := Lib.hid (Hm0.out.below BWs.out)
    have Hm1 := Lib.hid (Hm1.out.below BWs.out)
    clear BWs
    have HSM := Lib.hid (show Calls Try.prog 22 #[.agg #[.slice Af0 kf0 cf0], .agg #[.slice Af1 kf1 cf1]] ws1 (fun e w' => e = .returned (.bool true) ∧ Below ws1.heap.size ws1 w') from
      rsameT_eq _ _ _ _ _ _ fs ws1 Kf0.out Kf1.out Hf0.out Hf1.out (by have := HFL.out; omega))
    have s0 := cell_of_blk Dxf0.out 0
    have s1 := (Array.getElem?_eq_some_iff.1 Dxf0.out).1
    have t0 := cell_of_blk Dxf1.out 0
    have t1 := (Array.getElem?_eq_some_iff.1 Dxf1.out).1
    simp at s0 t0
    go_wp2_with fail
    refine HSM.out.mono ?_; rintro e ws2 ⟨rfl, hbs⟩
    have BWs := Lib.hid hbs
    have HBC := Lib.hid (below_more HBC.out hbs)
    clear HSM s0 s1 t0 t1 hbs
    have D := Lib.hid (blk_keep BWs.out D.out)
    have Dxp0 := Lib.hid (blk_keep BWs.out Dxp0.out)
    have Dxp1 := Lib.hid (blk_keep BWs.out Dxp1.out)
    have Dxf0 := Lib.hid (blk_keep BWs.out Dxf0.out)
    have Dxf1 := Lib.hid (blk_keep BWs.out Dxf1.out)
    have Dxm0 := Lib.hid (blk_keep BWs.out Dxm0.out)
    have Dxm1 := Lib.hid (blk_keep BWs.out Dxm1.out)
    have Hp0 := Lib.hid (Hp0.out.below BWs.out)
    have Hp1 := Lib.hid (Hp1.out.below BWs.out)
    have Hf0 := Lib.hid (Hf0.out.below BWs.out)
    have Hf1 := Lib.hid (Hf1.out.below BWs.out)
    have Hm0 := Lib.hid (Hm0.out.below BWs.out)
    have Hm1 := Lib.hid (Hm1.out.below BWs.out)
    clear BWs
    have HSM := Lib.hid (show Calls Try.prog 22 #[.agg #[.slice Am1 km1 cm1], .agg #[.slice A N cap]] ws2 (fun e w' => e = .returned (.bool true) ∧ Below ws2.heap.size ws2 w') from
      rsameT_eq _ _ _ _ _ _ ns ws2 Km1.out HN.out Hm1.out (N0.out ws2 HBC.out) (by have := HN2.out; omega))
    have s0 := cell_of_blk Dxm1.out 0
    have s1 := (Array.getElem?_eq_some_iff.1 Dxm1.out).1
    have t0 := cell_of_blk D.out 2
    have t1 := (Array.getElem?_eq_some_iff.1 D.out).1
    simp at s0 t0
    go_wp2_with fail
    refine HSM.out.mono ?_; rintro e ws3 ⟨rfl, hbs⟩
    have BWs := Lib.hid hbs
    have HBC := Lib.hid (below_more HBC.out hbs)
    clear HSM s0 s1 t0 t1 hbs
    have D := Lib.hid (blk_keep BWs.out D.out)
    have Dxp0 := Lib.hid (blk_keep BWs.out Dxp0.out)
    have Dxp1 := Lib.hid (blk_keep BWs.out Dxp1.out)
    have Dxf0 := Lib.hid (blk_keep BWs.out Dxf0.out)
    have Dxf1 := Lib.hid (blk_keep BWs.out Dxf1.out)
    have Dxm0 := Lib.hid (blk_keep BWs.out Dxm0.out)
    have Dxm1 := Lib.hid (blk_keep BWs.out Dxm1.out)
    have Hp0 := Lib.hid (Hp0.out.below BWs.out)
    have Hp1 := Lib.hid (Hp1.out.below BWs.out)
    have Hf0 := Lib.hid (Hf0.out.below BWs.out)
    have Hf1 := Lib.hid (Hf1.out.below BWs.out)
    have Hm0 := Lib.hid (Hm0.out.below BWs.out)
    have Hm1 := Lib.hid (Hm1.out.below BWs.out)
    clear BWs
    have HRG := Lib.hid (show Calls Try.prog 33 #[.agg #[.int .i64 L.per, .slice L.A L.ms.length L.cap], .agg #[.slice A N cap]] ws3 (GotRgX ws3 (ringsR ns) 0) by
      have := rrings_any L A cap ns ws3 (L0.out ws3 HBC.out) (N0.out ws3 HBC.out) (by rw [← HN.out]; exact HC1.out) HCM.out
      rw [ring_valid HOK.out, ← HN.out] at this; exact this.mono fun _ _ h => h.x)
    have HRB := Lib.hid (rings_bd HOK.out)
    obtain ⟨rg, hrg⟩ : ∃ rg, rg = ringsR ns := ⟨_, rfl⟩
    rw [← hrg] at HRG HRB HAL
    have HRL := Lib.hid (show rg.length ≤ 1000 by
      rw [hrg]
      unfold ringsR
      have h1 := ringsG_len (szT ns) (isRT ns) (topsL ns).length
      have h2 := tops_len ns
      have := HN2.out
      omega)
    clear hrg
    have x0 := cell_of_blk D.out 0
    have x1 := cell_of_blk D.out 1
    have x2 := cell_of_blk D.out 2
    have hx0 := (Array.getElem?_eq_some_iff.1 D.out).1
    simp at x0 x1 x2
    go_wp2_with fail
    refine HRG.out.mono ?_; rintro e wj ⟨Ar, kr, cr, rfl, hkr, hir, hbr⟩
    have BWr := Lib.hid hbr
    have HBC := Lib.hid (below_more HBC.out hbr)
    have HKR := Lib.hid hkr.out
    have HIR := Lib.hid hir.out
    clear HRG x0 x1 x2 hx0 hkr hir hbr
    have D := Lib.hid (blk_keep BWr.out D.out)
    have Dxp0 := Lib.hid (blk_keep BWr.out Dxp0.out)
    have Dxp1 := Lib.hid (blk_keep BWr.out Dxp1.out)
    have Dxf0 := Lib.hid (blk_keep BWr.out Dxf0.out)
    have Dxf1 := Lib.hid (blk_keep BWr.out Dxf1.out)
    have Dxm0 := Lib.hid (blk_keep BWr.out Dxm0.out)
    have Dxm1 := Lib.hid (blk_keep BWr.out Dxm1.out)
    have Hp0 := Lib.hid (Hp0.out.below BWr.out)
    have Hp1 := Lib.hid (Hp1.out.below BWr.out)
    have Hf0 := Lib.hid (Hf0.out.below BWr.out)
    have Hf1 := Lib.hid (Hf1.out.below BWr.out)
    have Hm0 := Lib.hid (Hm0.out.below BWr.out)
    have Hm1 := Lib.hid (Hm1.out.below BWr.out)
    clear BWr
    have hkr : kr ≤ 1000 := by rw [HKR.out]; exact HRL.out
    go_wp2_with fail
    go_loopw [17] (fun i wr => ∃ (k : Nat), k ≤ kr ∧ i = .int .i64 k ∧ Hid (∀ q p, q < k → rg[q]? = some p → p.2 - p.1 ≤ 6) ∧ Hid (Below wj.heap.size wj wr)) (fun i _ => kr - (intOf i).toNat)
    case atStart => exact ⟨0, Nat.zero_le _, rfl, Lib.hid (fun q p h => absurd h (by omega)), Lib.hid (Below.refl _ _)⟩
    case round =>
      obtain ⟨k, hk, rfl, hsm, hbx⟩ := hrel
      have HSM := Lib.hid hsm.out
      have HWR := Lib.hid hbx.out
      clear hsm hbx
      have HBX := Lib.hid (below_more HBC.out HWR.out)
      have D := Lib.hid (blk_keep HWR.out D.out)
      have Dxf0 := Lib.hid (blk_keep HWR.out Dxf0.out)
      have Hf0 := Lib.hid (Hf0.out.below HWR.out)
      by_cases hlt : k < kr
      · obtain ⟨p, hp⟩ : ∃ p, rg[k]? = some p := ⟨_, List.getElem?_eq_getElem (by have := HKR.out; omega)⟩
        obtain ⟨hp1, hp2⟩ := HRB.out p (List.mem_of_getElem? hp)
        obtain ⟨b, o, hAr, hb, hc1, hc2⟩ := HIR.out k p hp
        subst hAr
        have z1 := (HWR.out.cell (p := ⟨b, o + k * 2, none⟩) hb).trans hc1
        have z2 := (HWR.out.cell (p := ⟨b, o + k * 2 + 1, none⟩) hb).trans hc2
        obtain ⟨pf, pt⟩ := p
        dsimp only at hp1 hp2 z1 z2
        have HPK := Lib.hid hp
        have hbx : b < wr.heap.size := by have := HWR.out.size; omega
        have hk0 : (0 : Int) ≤ (k : Int) := by omega
        have hkn : (k : Int) < (kr : Int) := by omega
        clear hp hc1 hc2
        by_cases hbig : pt - pf ≤ 6
        · have hd1 : decide ((6 : Int) < (pt : Int) - (pf : Int)) = false := decide_eq_false (by omega)
          have HSN := Lib.hid (show ∀ q p, q < k + 1 → rg[q]? = some p → p.2 - p.1 ≤ 6 from fun q p hq hqp => by
            rcases Nat.lt_or_ge q k with h | h
            · exact HSM.out q p h hqp
            · have e : q = k := by omega
              subst e
              rw [HPK.out] at hqp; injection hqp with e; subst e; exact hbig)
          have hw1 : IntKind.i64.wrap ((pt : Int) - (pf : Int)) = (pt : Int) - (pf : Int) := IntWalk.i64_in _ (by omega)
          clear hbig
          go_wp2_with fail
          go_quiet (fail)
          clear hw1
          go_wp2_with fail
          go_roundw
          case rel => exact ⟨k + 1, by omega, by go_num, HSN, Lib.hid (HWR.out.trans ⟨rfl, rfl, rfl, Nat.le_refl _, fun _ _ => rfl⟩)⟩
          case measure => simp [intOf]; omega
        · have hd1 : decide ((6 : Int) < (pt : Int) - (pf : Int)) = true := decide_eq_true (by omega)
          have hw1 : IntKind.i64.wrap ((pt : Int) - (pf : Int)) = (pt : Int) - (pf : Int) := IntWalk.i64_in _ (by omega)
          clear hbig
          go_wp2_with fail
          go_quiet (fail)
          clear hw1
          go_wp2_with fail
          refine (works2_any _).mono ?_; rintro e wz ⟨rfl, hbz⟩
          go_wp2
          go_ret
          exact ⟨rfl, below_more (HBX.out.trans (c := wr.drewN nq) ⟨rfl, rfl, rfl, Nat.le_refl _, fun _ _ => rfl⟩) hbz⟩
      · obtain rfl : k = kr := by omega
        have HQA := Lib.hid (HAL.out (fun p hp => by
          obtain ⟨q, hq⟩ := List.getElem?_of_mem hp
          exact HSM.out q p (by have := (List.getElem?_eq_some_iff.1 hq).1; have := HKR.out; omega) hq))
        have HBC := Lib.hid HBX.out
        clear hk hlt HSM
        have HCP := Lib.hid (fun wy (hb : Below wr.heap.size wr wy) => show Calls Try.prog 42 #[.agg #[.slice Af0 kf0 cf0]] wy (GotTextX wy fs) by
          have := rcopyT_any Af0 cf0 fs wy (Hf0.out.below hb) (by rw [← Kf0.out]; exact hkcf0) hcmf0 (by have := HFL.out; omega)
          rw [← Kf0.out] at this; exact this.mono fun _ _ h => h.x)
        have HXC := Lib.hid (fun wy (hb : Below wr.heap.size wr wy) => show wy.cell? ⟨xf0, 0, none⟩ = some (.slice Af0 kf0 cf0) by have := cell_of_blk (blk_keep hb Dxf0.out) 0; simpa using this)
        obtain ⟨wv, rfl⟩ : ∃ wv, wv = wr := ⟨_, rfl⟩
        go_wp2_with fail
        have HPJ := Lib.hid (fun wx (pm : Int) (mm : List Sm) (Am : Option Addr) (km cm : Nat) (hkm : km = mm.length) (hok : LmOk wx ⟨pm, mm, Am, cm⟩) (hli : (Lm.mk pm mm Am cm).li = L.li) (A2 : Option Addr) (k2 c2 : Nat) (hk : k2 = ns.length) (hn : NdsAt wx A2 ns) (h1 : k2 ≤ c2) (h2 : c2 ≤ maxLen) (A3 : Option Addr) (k3 c3 : Nat) (hk3 : k3 = fs.length) (hn3 : NdsAt wx A3 fs) (h3 : k3 ≤ c3) (h4 : c3 ≤ maxLen) => show Calls Try.prog 41 #[.agg #[.int .i64 pm, .slice Am km cm], .agg #[.slice A2 k2 c2], .agg #[.slice A3 k3 c3]] wx (GotBE wx true 0) by
      subst hk hkm
      have := alikeP_any ⟨pm, mm, Am, cm⟩ A2 A3 c2 c3 ns fs wx hok hn hn3 h1 h2 (by rw [← hk3]; exact h3) h4
      rw [hli, HQA.out, ← hk3] at this; exact this)
        have HK := Lib.hid (fun wx (hb : Below wv.heap.size wv wx) => show wx.cell? ⟨w.heap.size, 0, none⟩ = some (.int .i64 L.per) ∧ wx.cell? ⟨w.heap.size, 1, none⟩ = some (.slice L.A L.ms.length L.cap) ∧ wx.cell? ⟨w.heap.size, 2, none⟩ = some (.slice A N cap) ∧ wx.cell? ⟨xf0, 0, none⟩ = some (.slice Af0 kf0 cf0) ∧ Below wv.heap.size wv wx from
          ⟨cell_of_blk (blk_keep hb D.out) 0, cell_of_blk (blk_keep hb D.out) 1, cell_of_blk (blk_keep hb D.out) 2, HXC.out wx hb, hb⟩)
        have HDR := Lib.hid (show Below wv.heap.size wv wv.drew from (Below.refl _ _).drew)
        have HSB := Lib.hid (fun wx (h : wx.cell? ⟨w.heap.size, 0, none⟩ = some (.int .i64 L.per) ∧ wx.cell? ⟨w.heap.size, 1, none⟩ = some (.slice L.A L.ms.length L.cap) ∧ wx.cell? ⟨w.heap.size, 2, none⟩ = some (.slice A N cap) ∧ wx.cell? ⟨xf0, 0, none⟩ = some (.slice Af0 kf0 cf0) ∧ Below wv.heap.size wv wx) => h.2.2.2.2)
        go_wp2_with fail
        go_region_held3 (fun wx => wx.cell? ⟨w.heap.size, 0, none⟩ = some (.int .i64 L.per) ∧ wx.cell? ⟨w.heap.size, 1, none⟩ = some (.slice L.A L.ms.length L.cap) ∧ wx.cell? ⟨w.heap.size, 2, none⟩ = some (.slice A N cap) ∧ wx.cell? ⟨xf0, 0, none⟩ = some (.slice Af0 kf0 cf0) ∧ Below wv.heap.size wv wx)
          ((refine HK.out _ ?_; first | assumption | exact HDR.out | (repeat (first | exact Below.refl _ _ | assumption | refine Below.drew ?_ | refine Below.alloc ?_ (by first | omega | (simp; omega) | simp) _ | refine Below.setCell ?_ (by first | omega | (simp; omega) | simp) _))))
          (first
          | (go_at_call 17; refine (HLS.out _ (below_more HBC.out (HSB.out _ (by assumption)))).mono ?_; rintro e wl ⟨pm, mm, Am, km, cm, rfl, hkm, hokl, hlil, hbl⟩; have hbwl := below_more (HSB.out _ (by assumption)) hbl; have hzl := hbwl.size; have hyl := hbl.size; (try simp at hyl); (try (have hqwl0 : wv.heap.size < wl.heap.size := by omega)); have HBl := Lib.hid hbl; have hltl := fun b hb => Nat.lt_of_lt_of_le (n := b) hb hbl.size; obtain ⟨hcl, hfl⟩ := bcell hbl; clear hbl)
          | (go_at_call 18; refine (HTX.out _ (below_more HBC.out (HSB.out _ (by assumption)))).mono ?_; rintro e wt ⟨A2, kt, c2, rfl, hkt, hnt, hkc, hcm, hbt⟩; have hbwt := below_more (HSB.out _ (by assumption)) hbt; have hzt := hbwt.size; have hyt := hbt.size; (try simp at hyt); (try (have hqwt0 : wv.heap.size < wt.heap.size := by omega)); (try (have hqwt1 : wl.heap.size < wt.heap.size := by omega)); have HBt := Lib.hid hbt; have hltt := fun b hb => Nat.lt_of_lt_of_le (n := b) hb hbt.size; obtain ⟨hct, hft⟩ := bcell hbt; have hlt2 : Below wl.heap.size wl wt := (by first | exact hbt | exact below_of hbt | exact below_of (below_of hbt)); clear hbt)
          | (go_at_call 42; refine (HCP.out _ (HSB.out _ (by assumption))).mono ?_; rintro e wk ⟨A3, kk, c3, rfl, hkk, hnk, hkk2, hcc3, hbk⟩; have hbwk := below_more (HSB.out _ (by assumption)) hbk; have hzk := hbwk.size; have hyk := hbk.size; (try simp at hyk); (try (have hqwk0 : wv.heap.size < wk.heap.size := by omega)); (try (have hqwk1 : wl.heap.size < wk.heap.size := by omega)); (try (have hqwk2 : wt.heap.size < wk.heap.size := by omega)); have HBk := Lib.hid hbk; have hltk := fun b hb => Nat.lt_of_lt_of_le (n := b) hb hbk.size; obtain ⟨hck, hfk⟩ := bcell hbk; have hlt3 : Below wt.heap.size wt wk := (by first | exact hbk | exact below_of hbk | exact below_of (below_of hbk)); clear hbk)
          | (go_at_call 41; refine (HPJ.out _ pm mm Am km cm hkm.out (hokl.out.below (below_more hlt2 (below_more hlt3 (by first | exact Below.refl _ _ | exact below_alloc _ _ | exact (below_alloc _ _).drew | exact two_under _ _ _)))) hlil.out A2 kt c2 hkt.out (hnt.out.below (below_more hlt3 (by first | exact Below.refl _ _ | exact below_alloc _ _ | exact (below_alloc _ _).drew | exact two_under _ _ _))) hkc hcm A3 kk c3 hkk.out (hnk.out.below (by first | exact Below.refl _ _ | exact below_alloc _ _ | exact (below_alloc _ _).drew | exact two_under _ _ _)) hkk2 hcc3).mono ?_; rintro e wq ⟨rfl, hbq⟩; have hbwq := below_more (HSB.out _ (by assumption)) hbq))
        have BWq := Lib.hid hbwq
        have HBC := Lib.hid (below_more HBC.out hbwq)
        clear HK HDR HSB HPJ hbwl hbwq hbq hkm hokl hlil hzl hyl HBl hltl hcl hfl hbwt hkt hnt hkc hcm hzt hyt HBt hltt hct hft hlt2 HCP HXC
        go_wp2_with fail
        refine (works2_any _).mono ?_; rintro e wz ⟨rfl, hbz⟩
        go_wp2
        go_ret
        exact ⟨rfl, below_more HBC.out hbz⟩

end Go.Proofs.Ytilagndfohnjnaa
