/-
  Contract of the law that a text whose groups are replaced by themselves is the text again: it returns true.
-/
import Derived.Test.YtilagndfohnjnaaPkO
import Derived.Test.YtilagndfohnjnaaPkE
import Derived.Deep.RegionHeld3
import Derived.Deep.DeepCutAuto
namespace Go.Proofs.Ytilagndfohnjnaa
open Go.RowKit

set_option maxHeartbeats 16000000 in
set_option maxRecDepth 100000 in
theorem law_grestored (L : Lm) (A : Option Addr) (cap : Nat) (ns : List Nd) (f t : Int) (w : World) (hl : LmOk w L) (hn : NdsAt w A ns) (hc1 : ns.length ≤ cap) (hc : cap ≤ maxLen)  :
    Calls Try.prog 13 #[.agg #[.int .i64 L.per, .slice L.A L.ms.length L.cap, .slice A ns.length cap], .int .i64 f, .int .i64 t] w fun e w' => e = .returned (.bool true) ∧ Below w.heap.size w w' := by
  obtain ⟨W, hW⟩ : ∃ W, W = w.alloc (.cells #[.int .i64 L.per, .slice L.A L.ms.length L.cap, .slice A ns.length cap] 29) := ⟨_, rfl⟩
  have HB := Lib.hid (show Below w.heap.size w W from hW ▸ below_alloc _ _)
  have C1 := Lib.hid (show W.heap[w.heap.size]? = some (.cells #[.int .i64 L.per, .slice L.A L.ms.length L.cap, .slice A ns.length cap] 29 (0, 0)) by
    rw [hW]; exact heap_alloc_new _ _)
  have HL := Lib.hid (hl.below HB.out)
  have HNS := Lib.hid (hn.below HB.out)
  have HC1 := Lib.hid hc1
  have HCM := Lib.hid hc
  have HL0 := Lib.hid hl
  have HN0 := Lib.hid hn
  have HRT := Lib.hid (fun r (h : rightB L.li ns = r) => show Calls Try.prog 53 #[.agg #[.int .i64 L.per, .slice L.A L.ms.length L.cap, .slice A ns.length cap]] W _ from right_is L A cap ns W HL.out HNS.out hc1 hc r h)
  obtain ⟨G, hG⟩ : ∃ G, rightB L.li ns = G := ⟨_, rfl⟩
  have HBB := Lib.hid hG
  clear hG hl hn hc1 hc
  obtain ⟨N, hN⟩ : ∃ N, N = ns.length := ⟨_, rfl⟩
  have HN := Lib.hid hN
  rw [← hN] at hW C1 HRT HC1 ⊢
  clear hN
  go_enter Try.func13, Try.ntmps13
  go_wp2_with fail
  rw [← hW]
  refine (HRT.out _ HBB.out).mono ?_; rintro e w1 ⟨rfl, hb1⟩
  have HBC := Lib.hid (below_more HB.out hb1)
  have D := Lib.hid (blk_keep hb1 C1.out)
  clear hb1 hW
  cases G with
  | false =>
    go_wp2_with fail
    refine (works2_any _).mono ?_; rintro e w2 ⟨rfl, hb2⟩
    go_wp2
    go_ret
    exact ⟨rfl, below_more HBC.out hb2⟩
  | true =>
    obtain ⟨hbg, hok⟩ := right_yes HBB.out
    have HOK := Lib.hid hok
    have HNB := Lib.hid (not_bigG (L := L) hbg)
    clear hbg hok
    have L0 := Lib.hid (fun wx (hb : Below w.heap.size w wx) => show LmOk wx L from HL0.out.below hb)
    have N0 := Lib.hid (fun wx (hb : Below w.heap.size w wx) => show NdsAt wx A ns from HN0.out.below hb)
    have HLS := Lib.hid (fun wx (hb : Below w.heap.size w wx) => show Calls Try.prog 17 #[.agg #[.int .i64 L.per, .slice L.A L.ms.length L.cap, .slice A N cap]] wx (GotListX wx L.li) from
      (list2_any L A N cap wx (L0.out wx hb) (by have := HNB.out.2.1; omega) (fun m hm => by have := (HNB.out.2.2 m hm).1; omega)).mono fun _ _ h => h.x)
    have HTX := Lib.hid (fun wx (hb : Below w.heap.size w wx) => show Calls Try.prog 18 #[.agg #[.int .i64 L.per, .slice L.A L.ms.length L.cap, .slice A N cap]] wx (GotTextX wx ns) by
      have := text2_any L A cap ns wx (N0.out wx hb) (by rw [← HN.out]; exact HC1.out) HCM.out (by rw [← HN.out]; have := HNB.out.1; have := HN.out; omega)
      rw [← HN.out] at this; exact this.mono fun _ _ h => h.x)
    have hx0 := (Array.getElem?_eq_some_iff.1 D.out).1
    have HCE := Lib.hid (show checkErr L.li = 0 from (text_ok HOK.out).1)
    have HN2 := Lib.hid (show N ≤ 200 by rw [HN.out]; exact (text_ok HOK.out).2.1)
    have HTV := Lib.hid (show groupsQ L.li ns = ((topsL ns).map fun (j : Nat) => (j : Int), 0) by unfold groupsQ; rw [if_neg (by rw [HOK.out]; simp)])
    have HST := Lib.hid (fun (k j : Nat) (h : (topsL ns)[k]? = some j) => sub_top HOK.out h)
    have HPN := Lib.hid (show (topsL ns).length = (partsN ns).length from tops_parts_len HOK.out)
    have htl := tops_len ns
    obtain ⟨tl, htl2⟩ : ∃ tl, tl = topsL ns := ⟨_, rfl⟩
    rw [← htl2] at HTV HST HPN htl
    rw [← HN.out] at htl
    obtain ⟨np, hnp⟩ : ∃ np, np = tl.length := ⟨_, rfl⟩
    have HTL := Lib.hid hnp
    rw [← hnp] at HPN htl
    clear htl2 hnp hx0
    have HPJ := Lib.hid (fun wx (pm : Int) (mm : List Sm) (Am : Option Addr) (km cm : Nat) (hkm : km = mm.length) (hok : LmOk wx ⟨pm, mm, Am, cm⟩) (hli : (Lm.mk pm mm Am cm).li = L.li) (A2 : Option Addr) (k2 c2 : Nat) (hk : k2 = ns.length) (hn : NdsAt wx A2 ns) (h1 : k2 ≤ c2) (h2 : c2 ≤ maxLen) => show Calls Try.prog 25 #[.agg #[.int .i64 pm, .slice Am km cm], .agg #[.slice A2 k2 c2]] wx (fun e w' => ∃ Ag cg, e = .returned (.tuple #[.slice Ag np cg, .int .i64 0]) ∧ Hid (∀ (k j : Nat), tl[k]? = some j → ∃ b o, Ag = some ⟨b, o, none⟩ ∧ b < w'.heap.size ∧ w'.cell? ⟨b, o + k, none⟩ = some (.int .i64 (j : Nat))) ∧ np ≤ cg ∧ cg ≤ maxLen ∧ Below wx.heap.size wx w') by
      subst hk hkm
      have := groupsP_any ⟨pm, mm, Am, cm⟩ A2 c2 ns wx hok hn h1 h2
      rw [hli, HTV.out] at this; exact this.mono fun e w' h => by
        obtain ⟨Ag, kg, cg, he, hkg, hig, hlc, hcm, hbg⟩ := gotI_open h
        rw [List.length_map, ← HTL.out] at hkg
        subst hkg
        exact ⟨Ag, cg, he, Lib.hid (fun k j hj => hig k (j : Int) (by rw [List.getElem?_map, hj]; rfl)), hlc, hcm, hbg⟩)
    have HK := Lib.hid (fun wx (hb : Below w1.heap.size w1 wx) => show wx.cell? ⟨w.heap.size, 0, none⟩ = some (.int .i64 L.per) ∧ wx.cell? ⟨w.heap.size, 1, none⟩ = some (.slice L.A L.ms.length L.cap) ∧ wx.cell? ⟨w.heap.size, 2, none⟩ = some (.slice A N cap) ∧ Below w1.heap.size w1 wx from
      ⟨cell_of_blk (blk_keep hb D.out) 0, cell_of_blk (blk_keep hb D.out) 1, cell_of_blk (blk_keep hb D.out) 2, hb⟩)
    have HDR := Lib.hid (show Below w1.heap.size w1 w1.drew from (Below.refl _ _).drew)
    have HSB := Lib.hid (fun wx (h : wx.cell? ⟨w.heap.size, 0, none⟩ = some (.int .i64 L.per) ∧ wx.cell? ⟨w.heap.size, 1, none⟩ = some (.slice L.A L.ms.length L.cap) ∧ wx.cell? ⟨w.heap.size, 2, none⟩ = some (.slice A N cap) ∧ Below w1.heap.size w1 wx) => h.2.2.2)
    go_wp2_with fail
    go_region_held3 (fun wx => wx.cell? ⟨w.heap.size, 0, none⟩ = some (.int .i64 L.per) ∧ wx.cell? ⟨w.heap.size, 1, none⟩ = some (.slice L.A L.ms.length L.cap) ∧ wx.cell? ⟨w.heap.size, 2, none⟩ = some (.slice A N cap) ∧ Below w1.heap.size w1 wx)
      ((refine HK.out _ ?_; first | assumption | exact HDR.out | (repeat (first | exact Below.refl _ _ | assumption | refine Below.drew ?_ | refine Below.alloc ?_ (by first | omega | (simp; omega) | simp) _ | refine Below.setCell ?_ (by first | omega | (simp; omega) | simp) _))))
      (first
      | (go_at_call 17; refine (HLS.out _ (below_more HBC.out (HSB.out _ (by assumption)))).mono ?_; rintro e wl ⟨pm, mm, Am, km, cm, rfl, hkm, hokl, hlil, hbl⟩; have hbwl := below_more (HSB.out _ (by assumption)) hbl; have hzl := hbwl.size; have hyl := hbl.size; (try simp at hyl); (try (have hqwl0 : w1.heap.size < wl.heap.size := by omega)); have HBl := Lib.hid hbl; have hltl := fun b hb => Nat.lt_of_lt_of_le (n := b) hb hbl.size; obtain ⟨hcl, hfl⟩ := bcell hbl; clear hbl)
      | (go_at_call 18; refine (HTX.out _ (below_more HBC.out (HSB.out _ (by assumption)))).mono ?_; rintro e wt ⟨A2, kt, c2, rfl, hkt, hnt, hkc, hcm, hbt⟩; have hbwt := below_more (HSB.out _ (by assumption)) hbt; have hzt := hbwt.size; have hyt := hbt.size; (try simp at hyt); (try (have hqwt0 : w1.heap.size < wt.heap.size := by omega)); (try (have hqwt1 : wl.heap.size < wt.heap.size := by omega)); have HBt := Lib.hid hbt; have hltt := fun b hb => Nat.lt_of_lt_of_le (n := b) hb hbt.size; obtain ⟨hct, hft⟩ := bcell hbt; have hlt2 : Below wl.heap.size wl wt := (by first | exact hbt | exact below_of hbt | exact below_of (below_of hbt)); clear hbt)
      | (go_at_call 25; refine (HPJ.out _ pm mm Am km cm hkm.out (hokl.out.below (below_more hlt2 (by first | exact Below.refl _ _ | exact below_alloc _ _ | exact (below_alloc _ _).drew | exact two_under _ _ _))) hlil.out A2 kt c2 hkt.out (hnt.out.below (by first | exact Below.refl _ _ | exact below_alloc _ _ | exact (below_alloc _ _).drew | exact two_under _ _ _)) hkc hcm).mono ?_; rintro e wg ⟨Ag, cg, rfl, hig, hgc, hgm, hbg⟩; have hbwg := below_more (HSB.out _ (by assumption)) hbg))
    have BWg := Lib.hid hbwg
    have HBC := Lib.hid (below_more HBC.out hbwg)
    clear HK HDR HSB HPJ hbwl hbwt hbwg hbg hkm hokl hlil hkt hnt hkc hcm hzl hyl HBl hltl hcl hfl hzt hyt HBt hltt hct hft hlt2
    have D := Lib.hid (blk_keep BWg.out D.out)
    have HIG := Lib.hid hig.out
    unfold maxLen at hgm
    clear hig BWg
    have hx0 := (Array.getElem?_eq_some_iff.1 D.out).1
    by_cases hbad : f < 0 ∨ t < f ∨ (np : Int) < t
    · have HBD := Lib.hid hbad
      obtain ⟨T, hT⟩ : ∃ T, T = true := ⟨_, rfl⟩
      go_upto_region 6 with fail
      go_cut [43] (fun s wx => s = .bool true ∧ wx = wg)
      case first =>
        by_cases h1 : f < 0
        · go_wp2_with fail
          go_meet
          exact ⟨rfl, rfl⟩
        · by_cases h2 : t < f
          · go_wp2_with fail
            go_meet
            exact ⟨rfl, rfl⟩
          · have h3 : (np : Int) < t := by omega
            go_wp2_with fail
            go_meet
            exact ⟨rfl, rfl⟩
      case rest =>
      obtain ⟨rfl, rfl⟩ := hcut
      obtain ⟨wg, rfl⟩ : ∃ w, w = wc := ⟨_, rfl⟩
      clear hbad
      have HQS := Lib.hid (show spliceQ L.li ns f t [] = ([], 1) by
        unfold spliceQ
        rw [if_neg (by rw [HOK.out]; simp), if_neg (by rw [nil_valid HCE.out]; simp), if_pos]
        have := HBD.out; have h2 := HTL.out; have h3 := HPN.out
        rw [tops_parts_len HOK.out, ← h3]; exact this)
      go_wp2_with fail
      have HPJ := Lib.hid (fun wx (pm : Int) (mm : List Sm) (Am : Option Addr) (km cm : Nat) (hkm : km = mm.length) (hok : LmOk wx ⟨pm, mm, Am, cm⟩) (hli : (Lm.mk pm mm Am cm).li = L.li) (A2 : Option Addr) (k2 c2 : Nat) (hk : k2 = ns.length) (hn : NdsAt wx A2 ns) (h1 : k2 ≤ c2) (h2 : c2 ≤ maxLen) => show Calls Try.prog 47 #[.agg #[.int .i64 pm, .slice Am km cm], .agg #[.slice A2 k2 c2], .int .i64 f, .int .i64 t, .agg #[.slice none 0 0]] wx (GotTextO wx [] 1) by
      subst hk hkm
      have := spliceP_any ⟨pm, mm, Am, cm⟩ A2 c2 ns f t none 0 [] wx hok hn h1 h2 (NdsAt.nil _ _) (Nat.le_refl _) (by unfold maxLen; decide)
      rw [hli, HQS.out] at this; exact this)
      have HK := Lib.hid (fun wx (hb : Below wg.heap.size wg wx) => show wx.cell? ⟨w.heap.size, 0, none⟩ = some (.int .i64 L.per) ∧ wx.cell? ⟨w.heap.size, 1, none⟩ = some (.slice L.A L.ms.length L.cap) ∧ wx.cell? ⟨w.heap.size, 2, none⟩ = some (.slice A N cap) ∧ Below wg.heap.size wg wx from
        ⟨cell_of_blk (blk_keep hb D.out) 0, cell_of_blk (blk_keep hb D.out) 1, cell_of_blk (blk_keep hb D.out) 2, hb⟩)
      have HDR := Lib.hid (show Below wg.heap.size wg wg.drew from (Below.refl _ _).drew)
      have HSB := Lib.hid (fun wx (h : wx.cell? ⟨w.heap.size, 0, none⟩ = some (.int .i64 L.per) ∧ wx.cell? ⟨w.heap.size, 1, none⟩ = some (.slice L.A L.ms.length L.cap) ∧ wx.cell? ⟨w.heap.size, 2, none⟩ = some (.slice A N cap) ∧ Below wg.heap.size wg wx) => h.2.2.2)
      go_wp2_with fail
      go_cut [9, 10] (fun p q wx => ∃ x, p = .pointer (some ⟨x, 0, none⟩) ∧ q = .int .i64 1 ∧ Hid (TBoxC wg wx x []))
      case first =>
        go_region_held3 (fun wx => wx.cell? ⟨w.heap.size, 0, none⟩ = some (.int .i64 L.per) ∧ wx.cell? ⟨w.heap.size, 1, none⟩ = some (.slice L.A L.ms.length L.cap) ∧ wx.cell? ⟨w.heap.size, 2, none⟩ = some (.slice A N cap) ∧ Below wg.heap.size wg wx)
          ((refine HK.out _ ?_; first | assumption | exact HDR.out | (repeat (first | exact Below.refl _ _ | assumption | refine Below.drew ?_ | refine Below.alloc ?_ (by first | omega | (simp; omega) | simp) _ | refine Below.setCell ?_ (by first | omega | (simp; omega) | simp) _))))
          (first
          | (go_at_call 17; refine (HLS.out _ (below_more HBC.out (HSB.out _ (by assumption)))).mono ?_; rintro e wl ⟨pm, mm, Am, km, cm, rfl, hkm, hokl, hlil, hbl⟩; have hbwl := below_more (HSB.out _ (by assumption)) hbl; have hzl := hbwl.size; have hyl := hbl.size; (try simp at hyl); (try (have hqwl0 : wg.heap.size < wl.heap.size := by omega)); have HBl := Lib.hid hbl; have hltl := fun b hb => Nat.lt_of_lt_of_le (n := b) hb hbl.size; obtain ⟨hcl, hfl⟩ := bcell hbl; clear hbl)
          | (go_at_call 18; refine (HTX.out _ (below_more HBC.out (HSB.out _ (by assumption)))).mono ?_; rintro e wt ⟨A2, kt, c2, rfl, hkt, hnt, hkc, hcm, hbt⟩; have hbwt := below_more (HSB.out _ (by assumption)) hbt; have hzt := hbwt.size; have hyt := hbt.size; (try simp at hyt); (try (have hqwt0 : wg.heap.size < wt.heap.size := by omega)); (try (have hqwt1 : wl.heap.size < wt.heap.size := by omega)); have HBt := Lib.hid hbt; have hltt := fun b hb => Nat.lt_of_lt_of_le (n := b) hb hbt.size; obtain ⟨hct, hft⟩ := bcell hbt; have hlt2 : Below wl.heap.size wl wt := (by first | exact hbt | exact below_of hbt | exact below_of (below_of hbt)); clear hbt)
          | (go_at_call 47; refine (HPJ.out _ pm mm Am km cm hkm.out (hokl.out.below (below_more hlt2 (by first | exact Below.refl _ _ | exact below_alloc _ _ | exact (below_alloc _ _).drew | exact two_under _ _ _))) hlil.out A2 kt c2 hkt.out (hnt.out.below (by first | exact Below.refl _ _ | exact below_alloc _ _ | exact (below_alloc _ _).drew | exact two_under _ _ _)) hkc hcm).mono ?_; rintro e wq ⟨Aq, kq, cq, rfl, hkq, hiq, hbq⟩; have hbwq := below_more (HSB.out _ (by assumption)) hbq; have hzq := hbwq.size; have hyq := hbq.size; (try simp at hyq); (try (have hqwq0 : wg.heap.size < wq.heap.size := by omega)); (try (have hqwq1 : wl.heap.size < wq.heap.size := by omega)); (try (have hqwq2 : wt.heap.size < wq.heap.size := by omega)); have HBq := Lib.hid hbq; have hltq := fun b hb => Nat.lt_of_lt_of_le (n := b) hb hbq.size; obtain ⟨hcq, hfq⟩ := bcell hbq; clear hbq))
        all_goals go_wp2
        all_goals go_meet
        all_goals refine ⟨_, rfl, rfl, Lib.hid ?_⟩
        all_goals first
          | (refine tboxc_of (wq) ?_ HBl HBt HBq hkq hiq ?_ ?_ ?_ ?_ ?_; (first | with_reducible rfl | (simp [go_sem] <;> fail) | (simp [go_sem, *] <;> fail) | (go_simp <;> fail)))
          | (refine tboxc_of (wq.alloc (.cells #[.slice none 0 0] 27)) ?_ HBl HBt HBq hkq hiq ?_ ?_ ?_ ?_ ?_; (first | with_reducible rfl | (simp [go_sem] <;> fail) | (simp [go_sem, *] <;> fail) | (go_simp <;> fail)))
        all_goals first
          | exact .inl ⟨heap_alloc_new _ _, by simp⟩
          | exact .inr (.inl ⟨heap_alloc_new _ _, by simp⟩)
          | exact .inr (.inr (.inl ⟨heap_alloc_new _ _, by simp⟩))
          | exact .inr (.inr (.inr ⟨heap_alloc_new _ _, by simp⟩))
          | (repeat (first | exact Below.refl _ _ | refine Below.drew ?_ | refine Below.alloc ?_ (by simp) _))
      case rest =>
      obtain ⟨xq, rfl, rfl, hbox⟩ := hcut
      obtain ⟨wq, rfl⟩ : ∃ w, w = wc := ⟨_, rfl⟩
      obtain ⟨Aq, kq, cq, hbw, hbx, hk, hi, hkcq, hcmq⟩ := hbox.out
      have Hq := Lib.hid hi
      have Kq := Lib.hid hk
      have Dxq := Lib.hid hbx
      have BWq := Lib.hid hbw
      have HBC := Lib.hid (below_more HBC.out hbw)
      clear HK HDR HSB HPJ hbox hbw hbx hk hi
      go_wp2_with fail
      refine (works2_any _).mono ?_; rintro e wz ⟨rfl, hbz⟩
      go_wp2
      go_ret
      exact ⟨rfl, below_more HBC.out hbz⟩
    obtain ⟨fn, rfl⟩ : ∃ fn : Nat, f = fn := ⟨f.toNat, by omega⟩
    obtain ⟨tn, rfl⟩ : ∃ tn : Nat, t = tn := ⟨t.toNat, by omega⟩
    have hft : fn ≤ tn := by omega
    have htn : tn ≤ np := by omega
    clear hbad
    have hd1 : decide (tn < fn) = false := decide_eq_false (by omega)
    have hd2 : decide (np < tn) = false := decide_eq_false (by omega)
    obtain ⟨wb, hwb⟩ : ∃ wb, wb = wg.alloc (.cells #[.slice none 0 0] 27) := ⟨_, rfl⟩
    have HSZ := Lib.hid (show wb.heap.size = wg.heap.size + 1 by rw [hwb]; simp)
    have HWB := Lib.hid (show Below wg.heap.size wg wb from hwb ▸ below_alloc _ _)
    have HBB2 := Lib.hid (below_more HBC.out HWB.out)
    have E4 := Lib.hid (show wb.heap[wg.heap.size]? = some (.cells #[.slice none 0 0] 27 (0, 0)) by rw [hwb]; exact heap_alloc_new _ _)
    have DB := Lib.hid (blk_keep HWB.out D.out)
    have HRK := Lib.hid (fun (k j : Nat) (h : tl[k]? = some j) => show ∃ b o, Ag = some ⟨b, o, none⟩ ∧ b < wg.heap.size ∧ wb.cell? ⟨b, o + k, none⟩ = some (.int .i64 (j : Nat)) by
      obtain ⟨b, o, e, hb, hc⟩ := HIG.out k j h
      exact ⟨b, o, e, hb, (HWB.out.cell (p := ⟨b, o + k, none⟩) hb).trans hc⟩)
    have HSB0 := Lib.hid (show w.heap.size < wg.heap.size from hx0)
    clear D HIG hx0
    go_wp2_with fail
    rw [← hwb]
    clear hwb
    have hszb := HSZ.out
    have hsb0 := HSB0.out
    clear hszb
    obtain ⟨iv, hiv, hzv, hsv, hbv⟩ := info_hid infoNd
    go_loopw [12] (fun i wr => ∃ (k c : Nat), fn ≤ k ∧ k ≤ tn ∧ i = .int .i64 k ∧ c ≤ 200 ∧ Hid (∃ v, c = (((partsN ns).take k).drop fn).flatten.length ∧ FlRel wb wr wg.heap.size v c (((partsN ns).take k).drop fn).flatten) ∧ Hid (Below w.heap.size w wr)) (fun i _ => tn - (intOf i).toNat)
    case atStart =>
      have e : (((partsN ns).take fn).drop fn).flatten = [] := by rw [List.drop_eq_nil_of_le (by rw [List.length_take]; omega)]; rfl
      exact ⟨fn, 0, Nat.le_refl _, hft, rfl, by omega, Lib.hid ⟨.slice none 0 0, by rw [e]; rfl, by rw [e]; exact ⟨fun _ _ _ => rfl, E4.out, World.ownsRow_nil _ _ _ _, Nat.le_refl _⟩⟩, HBB2⟩
    case round =>
      obtain ⟨k, c, hk1, hk2, rfl, hc2, hr, hbw⟩ := hrel
      obtain ⟨v, hcz, hor⟩ := hr.out
      have HR := Lib.hid hor
      have HCZ := Lib.hid hcz
      have HBC := Lib.hid hbw.out
      have hsw := HR.out.size
      have hszb := HSZ.out
      have D := Lib.hid (show wr.heap[w.heap.size]? = some (.cells #[.int .i64 L.per, .slice L.A L.ms.length L.cap, .slice A N cap] 29 (0, 0)) from (HR.out.old _ (by omega) (by omega)).trans DB.out)
      have HRW := Lib.hid (fun (q j : Nat) (h : tl[q]? = some j) => show ∃ b o, Ag = some ⟨b, o, none⟩ ∧ b < wr.heap.size ∧ wr.cell? ⟨b, o + q, none⟩ = some (.int .i64 (j : Nat)) by
        obtain ⟨b, o, e, hb, hc⟩ := HRK.out q j h
        exact ⟨b, o, e, by omega, (World.cell?_of_block (a := ⟨b, o + q, none⟩) (HR.out.old b (by omega) (by show b ≠ wg.heap.size; omega))).trans hc⟩)
      have hwgr : wg.heap.size < wr.heap.size := by omega
      clear hr hbw hcz hor hszb
      by_cases hlt : k < tn
      · obtain ⟨j, hj⟩ : ∃ j, tl[k]? = some j := ⟨_, List.getElem?_eq_getElem (by have := HTL.out; omega)⟩
        obtain ⟨gr, hgr, hsq⟩ := HST.out k j hj
        have HGR := Lib.hid hgr
        have HSQ := Lib.hid hsq
        have HGV := Lib.hid (part_valid HOK.out (List.mem_of_getElem? hgr))
        have HGL := Lib.hid (show c + gr.length ≤ 200 by
          have h1 := cut_snoc hk1 hgr
          have h2 := cut_le (partsN ns) fn (k + 1)
          rw [partsN_all, ← HN.out, h1, List.length_append, ← HCZ.out] at h2
          have := HN2.out; omega)
        obtain ⟨g, o, hAg, hg, hrc⟩ := HRW.out k j hj
        subst hAg
        have HRC := Lib.hid (fun wx (hb : Below wr.heap.size wr wx) => (hb.cell (p := ⟨g, o + k, none⟩) hg).trans hrc)
        obtain ⟨Av, cv, hv, -, -, -, -⟩ := own_slice HR.out.own
        subst hv
        have hk0 : (0 : Int) ≤ (k : Int) := by omega
        have hkn : (k : Int) < (np : Int) := by omega
        have hktn : (k : Int) < (tn : Int) := by omega
        clear hj hgr hsq hrc
        go_wp2_with fail
        have HPJ := Lib.hid (fun wx (pm : Int) (mm : List Sm) (Am : Option Addr) (km cm : Nat) (hkm : km = mm.length) (hok : LmOk wx ⟨pm, mm, Am, cm⟩) (hli : (Lm.mk pm mm Am cm).li = L.li) (A2 : Option Addr) (k2 c2 : Nat) (hk : k2 = ns.length) (hn : NdsAt wx A2 ns) (h1 : k2 ≤ c2) (h2 : c2 ≤ maxLen) => show Calls Try.prog 45 #[.agg #[.int .i64 pm, .slice Am km cm], .agg #[.slice A2 k2 c2], .int .i64 (j : Nat)] wx (GotTextO wx gr 0) by
      subst hk hkm
      have := subP_any ⟨pm, mm, Am, cm⟩ A2 c2 ns (j : Nat) wx hok hn h1 h2
      rw [hli, HSQ.out] at this; exact this)
        have HK := Lib.hid (fun wx (hb : Below wr.heap.size wr wx) => show wx.cell? ⟨w.heap.size, 0, none⟩ = some (.int .i64 L.per) ∧ wx.cell? ⟨w.heap.size, 1, none⟩ = some (.slice L.A L.ms.length L.cap) ∧ wx.cell? ⟨w.heap.size, 2, none⟩ = some (.slice A N cap) ∧ wx.cell? ⟨g, o + k, none⟩ = some (.int .i64 (j : Nat)) ∧ Below wr.heap.size wr wx from
          ⟨cell_of_blk (blk_keep hb D.out) 0, cell_of_blk (blk_keep hb D.out) 1, cell_of_blk (blk_keep hb D.out) 2, HRC.out wx hb, hb⟩)
        have HDR := Lib.hid (show Below wr.heap.size wr wr.drew from (Below.refl _ _).drew)
        have HSB := Lib.hid (fun wx (h : wx.cell? ⟨w.heap.size, 0, none⟩ = some (.int .i64 L.per) ∧ wx.cell? ⟨w.heap.size, 1, none⟩ = some (.slice L.A L.ms.length L.cap) ∧ wx.cell? ⟨w.heap.size, 2, none⟩ = some (.slice A N cap) ∧ wx.cell? ⟨g, o + k, none⟩ = some (.int .i64 (j : Nat)) ∧ Below wr.heap.size wr wx) => h.2.2.2.2)
        go_wp2_with fail
        go_cut [13, 14] (fun p q wx => ∃ x, p = .pointer (some ⟨x, 0, none⟩) ∧ q = .int .i64 0 ∧ Hid (TBoxC wr wx x gr))
        case first =>
          go_region_held3 (fun wx => wx.cell? ⟨w.heap.size, 0, none⟩ = some (.int .i64 L.per) ∧ wx.cell? ⟨w.heap.size, 1, none⟩ = some (.slice L.A L.ms.length L.cap) ∧ wx.cell? ⟨w.heap.size, 2, none⟩ = some (.slice A N cap) ∧ wx.cell? ⟨g, o + k, none⟩ = some (.int .i64 (j : Nat)) ∧ Below wr.heap.size wr wx)
            ((refine HK.out _ ?_; first | assumption | exact HDR.out | (repeat (first | exact Below.refl _ _ | assumption | refine Below.drew ?_ | refine Below.alloc ?_ (by first | omega | (simp; omega) | simp) _ | refine Below.setCell ?_ (by first | omega | (simp; omega) | simp) _))))
            (first
            | (go_at_call 17; refine (HLS.out _ (below_more HBC.out (HSB.out _ (by assumption)))).mono ?_; rintro e wl ⟨pm, mm, Am, km, cm, rfl, hkm, hokl, hlil, hbl⟩; have hbwl := below_more (HSB.out _ (by assumption)) hbl; have hzl := hbwl.size; have hyl := hbl.size; (try simp at hyl); (try (have hqwl0 : wr.heap.size < wl.heap.size := by omega)); have HBl := Lib.hid hbl; have hltl := fun b hb => Nat.lt_of_lt_of_le (n := b) hb hbl.size; obtain ⟨hcl, hfl⟩ := bcell hbl; clear hbl)
            | (go_at_call 18; refine (HTX.out _ (below_more HBC.out (HSB.out _ (by assumption)))).mono ?_; rintro e wt ⟨A2, kt, c2, rfl, hkt, hnt, hkc, hcm, hbt⟩; have hbwt := below_more (HSB.out _ (by assumption)) hbt; have hzt := hbwt.size; have hyt := hbt.size; (try simp at hyt); (try (have hqwt0 : wr.heap.size < wt.heap.size := by omega)); (try (have hqwt1 : wl.heap.size < wt.heap.size := by omega)); have HBt := Lib.hid hbt; have hltt := fun b hb => Nat.lt_of_lt_of_le (n := b) hb hbt.size; obtain ⟨hct, hft⟩ := bcell hbt; have hlt2 : Below wl.heap.size wl wt := (by first | exact hbt | exact below_of hbt | exact below_of (below_of hbt)); clear hbt)
            | (go_at_call 45; refine (HPJ.out _ pm mm Am km cm hkm.out (hokl.out.below (below_more hlt2 (by first | exact Below.refl _ _ | exact below_alloc _ _ | exact (below_alloc _ _).drew | exact two_under _ _ _))) hlil.out A2 kt c2 hkt.out (hnt.out.below (by first | exact Below.refl _ _ | exact below_alloc _ _ | exact (below_alloc _ _).drew | exact two_under _ _ _)) hkc hcm).mono ?_; rintro e ws ⟨As, ks, cs, rfl, hks, his, hbs⟩; have hbws := below_more (HSB.out _ (by assumption)) hbs; have hzs := hbws.size; have hys := hbs.size; (try simp at hys); (try (have hqws0 : wr.heap.size < ws.heap.size := by omega)); (try (have hqws1 : wl.heap.size < ws.heap.size := by omega)); (try (have hqws2 : wt.heap.size < ws.heap.size := by omega)); have HBs := Lib.hid hbs; have hlts := fun b hb => Nat.lt_of_lt_of_le (n := b) hb hbs.size; obtain ⟨hcs, hfs⟩ := bcell hbs; clear hbs))
          all_goals go_wp2
          all_goals go_meet
          all_goals refine ⟨_, rfl, rfl, Lib.hid ?_⟩
          all_goals first
            | (refine tboxc_of (ws) ?_ HBl HBt HBs hks his ?_ ?_ ?_ ?_ ?_; (first | with_reducible rfl | (simp [go_sem] <;> fail) | (simp [go_sem, *] <;> fail) | (go_simp <;> fail)))
            | (refine tboxc_of (ws.alloc (.cells #[.slice none 0 0] 27)) ?_ HBl HBt HBs hks his ?_ ?_ ?_ ?_ ?_; (first | with_reducible rfl | (simp [go_sem] <;> fail) | (simp [go_sem, *] <;> fail) | (go_simp <;> fail)))
          all_goals first
            | exact .inl ⟨heap_alloc_new _ _, by simp⟩
            | exact .inr (.inl ⟨heap_alloc_new _ _, by simp⟩)
            | exact .inr (.inr (.inl ⟨heap_alloc_new _ _, by simp⟩))
            | exact .inr (.inr (.inr ⟨heap_alloc_new _ _, by simp⟩))
            | (repeat (first | exact Below.refl _ _ | refine Below.drew ?_ | refine Below.alloc ?_ (by simp) _))
        case rest =>
        obtain ⟨xs, rfl, rfl, hbox⟩ := hcut
        obtain ⟨ws, rfl⟩ : ∃ w, w = wc := ⟨_, rfl⟩
        obtain ⟨As, ks, cs, hbw, hbx, hk, hi, hkcs, hcms⟩ := hbox.out
        have Hs := Lib.hid hi
        have Ks := Lib.hid hk
        have Dxs := Lib.hid hbx
        have BWs := Lib.hid hbw
        have HBC := Lib.hid (below_more HBC.out hbw)
        clear HK HDR HSB HPJ hbox hbw hbx hk hi
        have D := Lib.hid (blk_keep BWs.out D.out)
        have HR := Lib.hid (HR.out.later BWs.out)
        have hss := HR.out.size
        have HCS := Lib.hid (show Calls Try.prog 20 #[.agg #[.int .i64 L.per, .slice L.A L.ms.length L.cap], .agg #[.slice As ks cs]] ws (fun e w' => e = .returned (.int .i64 0) ∧ Below ws.heap.size ws w') by
          have := rgcheck_is L As cs gr ws (L0.out ws HBC.out) Hs.out (by rw [← Ks.out]; exact hkcs) hcms 0 HGV.out
          rw [← Ks.out] at this; exact this)
        have x0 := cell_of_blk D.out 0
        have x1 := cell_of_blk D.out 1
        have s0 := cell_of_blk Dxs.out 0
        have hx0 := (Array.getElem?_eq_some_iff.1 D.out).1
        have hs0 := (Array.getElem?_eq_some_iff.1 Dxs.out).1
        simp at x0 x1 s0
        clear HRC HRW hwgr hg
        go_wp2_with fail
        refine HCS.out.mono ?_; rintro e wc ⟨rfl, hbc⟩
        have HR := Lib.hid (HR.out.later hbc)
        have HBC := Lib.hid (below_more HBC.out hbc)
        have Dxs := Lib.hid (blk_keep hbc Dxs.out)
        have Hs := Lib.hid (Hs.out.below hbc)
        clear HCS x0 x1 s0 hx0 hs0 hbc BWs D hss
        have hss := HR.out.size
        have HSX := Lib.hid (nds_srcX Hs.out)
        have o0 := cell_of_blk HR.out.out 0
        have s0 := cell_of_blk Dxs.out 0
        have ho0 := (Array.getElem?_eq_some_iff.1 HR.out.out).1
        have hs0 := (Array.getElem?_eq_some_iff.1 Dxs.out).1
        simp at o0 s0
        have hkl : c + ks ≤ 200 := by rw [Ks.out]; exact HGL.out
        go_wp2_with (first
          | (at_builtin; refine wpList_append_src _ rfl (.tmp 89) (.tmp 91) 25 rfl wb.heap.size 78 iv (.agg #[.int .i64 0, .int .i64 0, .int .i64 0, .int .i64 0, .bool false, .int .i64 0, .int .i64 0, .int .i64 0]) 8 64 Try.underlying25 hiv.out hzv.out hsv.out hbv.out rfl (by decide) (.slice Av c cv) c ((((partsN ns).take k).drop fn).flatten.flatMap Nd.cells) rfl ?own1 As ks cs (gr.flatMap Nd.cells) rfl ?l1 ?k1 ?c1 ?o1 ?m1 ?b1 ?s1 (c + ks) rfl ?_))
        case own1 => exact HR.out.own
        case l1 => rw [flat_cells, Ks.out]
        case k1 => intro h; rw [Ks.out]; exact HSX.out.1 h
        case o1 => intro u hu; obtain ⟨y, _, hy⟩ := List.mem_flatMap.1 hu; exact nd_one y u hy
        case c1 =>
          first | intro ad had jj u' hj | intro jj u' hj
          exact HSX.out.2 ad had jj u' hj
        case m1 => unfold maxLen; omega
        case b1 => omega
        case s1 => omega
        intro A5 c5 w5 own5 hg5 hat5
        have hwgb : wg.heap.size < wb.heap.size := by have := HSZ.out; omega
        obtain ⟨hsp, k3⟩ := HR.out.step (xs := gr) hwgb (Below.refl _ _) own5 hg5
        have HSP := Lib.hid hsp
        have HBN := Lib.hid (HR.out.below HBC.out HBB2.out.size (by omega) (Below.refl _ _) hg5 (.slice A5 (c + ks) c5))
        have q0 := cell_of_blk k3 0
        have q1 := free_of_blk k3 0
        have q2 := (Array.getElem?_eq_some_iff.1 k3).1
        simp at q0
        have HSN := Lib.hid (cut_snoc hk1 HGR.out)
        clear own5 hg5 hat5 hsp k3 o0 s0 ho0 hs0
        go_wp2_with fail
        go_roundw
        case rel => exact ⟨k + 1, c + ks, by omega, by omega, by go_num, by omega, Lib.hid ⟨_, by rw [HSN.out, List.length_append, ← HCZ.out, Ks.out], by rw [HSN.out]; exact HSP.out⟩, HBN⟩
        case measure => simp [intOf]; omega
      · obtain rfl : k = tn := by omega
        obtain ⟨zs, hzs⟩ : ∃ zs, zs = (((partsN ns).take k).drop fn).flatten := ⟨_, rfl⟩
        have HZS := Lib.hid hzs
        rw [← hzs] at HR HCZ
        have HZV := Lib.hid (show textErr L.li zs = 0 by
          rw [HZS.out]
          refine some_valid HOK.out (fun g hg => List.mem_of_mem_take (List.mem_of_mem_drop hg)) ?_
          rw [← HZS.out, ← HCZ.out]; exact hc2)
        have HSQ := Lib.hid (show spliceQ L.li ns fn k zs = (ns, 0) by
          have hb := splice_back ns hk1
          rw [← HZS.out] at hb
          unfold spliceQ
          rw [if_neg (by rw [HOK.out]; simp), if_neg (by rw [HZV.out]; simp), if_neg, Int.toNat_natCast, Int.toNat_natCast, hb, if_neg (by have := HN2.out; rw [HN.out] at this; omega)]
          have h2 := HPN.out
          rw [tops_parts_len HOK.out, ← h2]; omega)
        obtain ⟨Av, cv, hv, -, -, -, -⟩ := own_slice HR.out.own
        subst hv
        have HZN := Lib.hid (own_nodes HR.out.own)
        have hcc := (own_len HR.out.own).1
        have hvm := (own_len HR.out.own).2.1
        have HWC := Lib.hid (fun wx (hb : Below wr.heap.size wr wx) => show wx.cell? ⟨wg.heap.size, 0, none⟩ = some (.slice Av c cv) by have := cell_of_blk (blk_keep hb HR.out.out) 0; simpa using this)
        clear hzs HRW
        go_wp2_with fail
        have HPJ := Lib.hid (fun wx (pm : Int) (mm : List Sm) (Am : Option Addr) (km cm : Nat) (hkm : km = mm.length) (hok : LmOk wx ⟨pm, mm, Am, cm⟩) (hli : (Lm.mk pm mm Am cm).li = L.li) (A2 : Option Addr) (k2 c2 : Nat) (hk : k2 = ns.length) (hn : NdsAt wx A2 ns) (h1 : k2 ≤ c2) (h2 : c2 ≤ maxLen) (A3 : Option Addr) (k3 c3 : Nat) (hk3 : k3 = zs.length) (hn3 : NdsAt wx A3 zs) (h3 : k3 ≤ c3) (h4 : c3 ≤ maxLen) => show Calls Try.prog 47 #[.agg #[.int .i64 pm, .slice Am km cm], .agg #[.slice A2 k2 c2], .int .i64 fn, .int .i64 k, .agg #[.slice A3 k3 c3]] wx (GotTextO wx ns 0) by
      subst hk hkm
      have := spliceP_any ⟨pm, mm, Am, cm⟩ A2 c2 ns fn k A3 c3 zs wx hok hn h1 h2 hn3 (by rw [← hk3]; exact h3) h4
      rw [hli, HSQ.out, ← hk3] at this; exact this)
        have HK := Lib.hid (fun wx (hb : Below wr.heap.size wr wx) => show wx.cell? ⟨w.heap.size, 0, none⟩ = some (.int .i64 L.per) ∧ wx.cell? ⟨w.heap.size, 1, none⟩ = some (.slice L.A L.ms.length L.cap) ∧ wx.cell? ⟨w.heap.size, 2, none⟩ = some (.slice A N cap) ∧ wx.cell? ⟨wg.heap.size, 0, none⟩ = some (.slice Av c cv) ∧ Below wr.heap.size wr wx from
          ⟨cell_of_blk (blk_keep hb D.out) 0, cell_of_blk (blk_keep hb D.out) 1, cell_of_blk (blk_keep hb D.out) 2, HWC.out wx hb, hb⟩)
        have HDR := Lib.hid (show Below wr.heap.size wr wr.drew from (Below.refl _ _).drew)
        have HSB := Lib.hid (fun wx (h : wx.cell? ⟨w.heap.size, 0, none⟩ = some (.int .i64 L.per) ∧ wx.cell? ⟨w.heap.size, 1, none⟩ = some (.slice L.A L.ms.length L.cap) ∧ wx.cell? ⟨w.heap.size, 2, none⟩ = some (.slice A N cap) ∧ wx.cell? ⟨wg.heap.size, 0, none⟩ = some (.slice Av c cv) ∧ Below wr.heap.size wr wx) => h.2.2.2.2)
        go_wp2_with fail
        go_cut [15, 16] (fun p q wx => ∃ x, p = .pointer (some ⟨x, 0, none⟩) ∧ q = .int .i64 0 ∧ Hid (TBoxC wr wx x ns))
        case first =>
          go_region_held3 (fun wx => wx.cell? ⟨w.heap.size, 0, none⟩ = some (.int .i64 L.per) ∧ wx.cell? ⟨w.heap.size, 1, none⟩ = some (.slice L.A L.ms.length L.cap) ∧ wx.cell? ⟨w.heap.size, 2, none⟩ = some (.slice A N cap) ∧ wx.cell? ⟨wg.heap.size, 0, none⟩ = some (.slice Av c cv) ∧ Below wr.heap.size wr wx)
            ((refine HK.out _ ?_; first | assumption | exact HDR.out | (repeat (first | exact Below.refl _ _ | assumption | refine Below.drew ?_ | refine Below.alloc ?_ (by first | omega | (simp; omega) | simp) _ | refine Below.setCell ?_ (by first | omega | (simp; omega) | simp) _))))
            (first
            | (go_at_call 17; refine (HLS.out _ (below_more HBC.out (HSB.out _ (by assumption)))).mono ?_; rintro e wl ⟨pm, mm, Am, km, cm, rfl, hkm, hokl, hlil, hbl⟩; have hbwl := below_more (HSB.out _ (by assumption)) hbl; have hzl := hbwl.size; have hyl := hbl.size; (try simp at hyl); (try (have hqwl0 : wr.heap.size < wl.heap.size := by omega)); have HBl := Lib.hid hbl; have hltl := fun b hb => Nat.lt_of_lt_of_le (n := b) hb hbl.size; obtain ⟨hcl, hfl⟩ := bcell hbl; clear hbl)
            | (go_at_call 18; refine (HTX.out _ (below_more HBC.out (HSB.out _ (by assumption)))).mono ?_; rintro e wt ⟨A2, kt, c2, rfl, hkt, hnt, hkc, hcm, hbt⟩; have hbwt := below_more (HSB.out _ (by assumption)) hbt; have hzt := hbwt.size; have hyt := hbt.size; (try simp at hyt); (try (have hqwt0 : wr.heap.size < wt.heap.size := by omega)); (try (have hqwt1 : wl.heap.size < wt.heap.size := by omega)); have HBt := Lib.hid hbt; have hltt := fun b hb => Nat.lt_of_lt_of_le (n := b) hb hbt.size; obtain ⟨hct, hft⟩ := bcell hbt; have hlt2 : Below wl.heap.size wl wt := (by first | exact hbt | exact below_of hbt | exact below_of (below_of hbt)); clear hbt)
            | (go_at_call 47; refine (HPJ.out _ pm mm Am km cm hkm.out (hokl.out.below (below_more hlt2 (by first | exact Below.refl _ _ | exact below_alloc _ _ | exact (below_alloc _ _).drew | exact two_under _ _ _))) hlil.out A2 kt c2 hkt.out (hnt.out.below (by first | exact Below.refl _ _ | exact below_alloc _ _ | exact (below_alloc _ _).drew | exact two_under _ _ _)) hkc hcm Av c cv HCZ.out (HZN.out.below (HSB.out _ (by assumption))) hcc hvm).mono ?_; rintro e wy ⟨Ay, ky, cy, rfl, hky, hiy, hby⟩; have hbwy := below_more (HSB.out _ (by assumption)) hby; have hzy := hbwy.size; have hyy := hby.size; (try simp at hyy); (try (have hqwy0 : wr.heap.size < wy.heap.size := by omega)); (try (have hqwy1 : wl.heap.size < wy.heap.size := by omega)); (try (have hqwy2 : wt.heap.size < wy.heap.size := by omega)); have HBy := Lib.hid hby; have hlty := fun b hb => Nat.lt_of_lt_of_le (n := b) hb hby.size; obtain ⟨hcy, hfy⟩ := bcell hby; clear hby))
          all_goals go_wp2
          all_goals go_meet
          all_goals refine ⟨_, rfl, rfl, Lib.hid ?_⟩
          all_goals first
            | (refine tboxc_of (wy) ?_ HBl HBt HBy hky hiy ?_ ?_ ?_ ?_ ?_; (first | with_reducible rfl | (simp [go_sem] <;> fail) | (simp [go_sem, *] <;> fail) | (go_simp <;> fail)))
            | (refine tboxc_of (wy.alloc (.cells #[.slice none 0 0] 27)) ?_ HBl HBt HBy hky hiy ?_ ?_ ?_ ?_ ?_; (first | with_reducible rfl | (simp [go_sem] <;> fail) | (simp [go_sem, *] <;> fail) | (go_simp <;> fail)))
          all_goals first
            | exact .inl ⟨heap_alloc_new _ _, by simp⟩
            | exact .inr (.inl ⟨heap_alloc_new _ _, by simp⟩)
            | exact .inr (.inr (.inl ⟨heap_alloc_new _ _, by simp⟩))
            | exact .inr (.inr (.inr ⟨heap_alloc_new _ _, by simp⟩))
            | (repeat (first | exact Below.refl _ _ | refine Below.drew ?_ | refine Below.alloc ?_ (by simp) _))
        case rest =>
        obtain ⟨xy, rfl, rfl, hbox⟩ := hcut
        obtain ⟨wy, rfl⟩ : ∃ w, w = wc := ⟨_, rfl⟩
        obtain ⟨Ay, ky, cy, hbw, hbx, hk, hi, hkcy, hcmy⟩ := hbox.out
        have Hy := Lib.hid hi
        have Ky := Lib.hid hk
        have Dxy := Lib.hid hbx
        have BWy := Lib.hid hbw
        have HBC := Lib.hid (below_more HBC.out hbw)
        clear HK HDR HSB HPJ hbox hbw hbx hk hi HWC
        have D := Lib.hid (blk_keep BWy.out D.out)
        have x0 := cell_of_blk D.out 2
        have s0 := cell_of_blk Dxy.out 0
        have hx0 := (Array.getElem?_eq_some_iff.1 D.out).1
        have hs0 := (Array.getElem?_eq_some_iff.1 Dxy.out).1
        simp at x0 s0
        have HSM := Lib.hid (show Calls Try.prog 22 #[.agg #[.slice Ay ky cy], .agg #[.slice A N cap]] wy (fun e w' => e = .returned (.bool true) ∧ Below wy.heap.size wy w') from
          rsameT_eq _ _ _ _ _ _ ns wy Ky.out HN.out Hy.out (N0.out wy HBC.out) (by have := HN2.out; rw [HN.out] at this; omega))
        go_wp2_with fail
        refine HSM.out.mono ?_; rintro e wu ⟨rfl, hbu⟩
        go_wp2_with fail
        refine (works2_any _).mono ?_; rintro e wz ⟨rfl, hbz⟩
        go_wp2
        go_ret
        exact ⟨rfl, below_more (below_more HBC.out hbu) hbz⟩

end Go.Proofs.Ytilagndfohnjnaa
