/-
  Contract of the law on the line of a spliced text: it returns true.
-/
import Derived.Test.YtilagndfohnjnaaPkP
import Derived.Test.YtilagndfohnjnaaPkE
import Derived.Deep.RegionHeld3
import Derived.Deep.DeepCutAuto
namespace Go.Proofs.Ytilagndfohnjnaa
open Go.RowKit

set_option maxHeartbeats 16000000 in
set_option maxRecDepth 100000 in
theorem law_ginorder (L : Lm) (A : Option Addr) (cap : Nat) (ns : List Nd) (f t : Int) (B : Option Addr) (cb : Nat) (ms : List Nd) (w : World) (hl : LmOk w L) (hn : NdsAt w A ns) (hc1 : ns.length ≤ cap) (hc : cap ≤ maxLen) (hm : NdsAt w B ms) (hd1 : ms.length ≤ cb) (hd : cb ≤ maxLen) :
    Calls Try.prog 14 #[.agg #[.int .i64 L.per, .slice L.A L.ms.length L.cap, .slice A ns.length cap], .agg #[.int .i64 f, .int .i64 t, .slice B ms.length cb]] w fun e w' => e = .returned (.bool true) ∧ Below w.heap.size w w' := by
  obtain ⟨W, hW⟩ : ∃ W, W = (w.alloc (.cells #[.int .i64 L.per, .slice L.A L.ms.length L.cap, .slice A ns.length cap] 29)).alloc (.cells #[.int .i64 f, .int .i64 t, .slice B ms.length cb] 64) := ⟨_, rfl⟩
  have HB := Lib.hid (show Below w.heap.size w W from hW ▸ two_under _ _ _)
  have C1 := Lib.hid (show W.heap[w.heap.size]? = some (.cells #[.int .i64 L.per, .slice L.A L.ms.length L.cap, .slice A ns.length cap] 29 (0, 0)) by
    rw [hW, heap_alloc_other _ _ _ (by simp)]; exact heap_alloc_new _ _)
  have C2 := Lib.hid (show W.heap[w.heap.size + 1]? = some (.cells #[.int .i64 f, .int .i64 t, .slice B ms.length cb] 64 (0, 0)) by
    rw [hW]; have := heap_alloc_new (w.alloc (.cells #[.int .i64 L.per, .slice L.A L.ms.length L.cap, .slice A ns.length cap] 29)) (.cells #[.int .i64 f, .int .i64 t, .slice B ms.length cb] 64); simpa using this)
  have HL := Lib.hid (hl.below HB.out)
  have HNS := Lib.hid (hn.below HB.out)
  have HC1 := Lib.hid hc1
  have HCM := Lib.hid hc
  have HL0 := Lib.hid hl
  have HN0 := Lib.hid hn
  have HM0 := Lib.hid hm
  have HD1 := Lib.hid hd1
  have HDM := Lib.hid hd
  have HRT := Lib.hid (fun r (h : rightB L.li ns = r) => show Calls Try.prog 53 #[.agg #[.int .i64 L.per, .slice L.A L.ms.length L.cap, .slice A ns.length cap]] W _ from right_is L A cap ns W HL.out HNS.out hc1 hc r h)
  obtain ⟨G, hG⟩ : ∃ G, rightB L.li ns = G := ⟨_, rfl⟩
  have HBB := Lib.hid hG
  clear hG hl hn hc1 hc hm hd1 hd
  obtain ⟨N, hN⟩ : ∃ N, N = ns.length := ⟨_, rfl⟩
  have HN := Lib.hid hN
  rw [← hN] at hW C1 HRT HC1 ⊢
  clear hN
  obtain ⟨M, hM⟩ : ∃ M, M = ms.length := ⟨_, rfl⟩
  have HM := Lib.hid hM
  rw [← hM] at hW C2 HD1 ⊢
  clear hM
  obtain ⟨WQ, hWQ⟩ : ∃ WQ, WQ = W.alloc (.cells #[.int .i64 L.per, .slice L.A L.ms.length L.cap, .slice B M cb] 29) := ⟨_, rfl⟩
  have HSW := Lib.hid (show W.heap.size = w.heap.size + 1 + 1 by rw [hW]; simp)
  have C3 := Lib.hid (show WQ.heap[w.heap.size + 1 + 1]? = some (.cells #[.int .i64 L.per, .slice L.A L.ms.length L.cap, .slice B M cb] 29 (0, 0)) by rw [hWQ, ← HSW.out]; exact heap_alloc_new _ _)
  have hbq : Below W.heap.size W WQ := hWQ ▸ below_alloc _ _
  have HBQ := Lib.hid (below_more HB.out hbq)
  have C1 := Lib.hid (blk_keep hbq C1.out)
  have C2 := Lib.hid (blk_keep hbq C2.out)
  have HRT := Lib.hid (fun wx (hb : Below w.heap.size w wx) r (h : rightB L.li ns = r) => show Calls Try.prog 53 #[.agg #[.int .i64 L.per, .slice L.A L.ms.length L.cap, .slice A N cap]] wx (fun e w' => e = .returned (.bool r) ∧ Below wx.heap.size wx w') by
    have := right_is L A cap ns wx (HL0.out.below hb) (HN0.out.below hb) (by rw [← HN.out]; exact HC1.out) HCM.out r h
    rw [← HN.out] at this; exact this)
  have HRQ := Lib.hid (fun wx (hb : Below w.heap.size w wx) r (h : rightB L.li ms = r) => show Calls Try.prog 53 #[.agg #[.int .i64 L.per, .slice L.A L.ms.length L.cap, .slice B M cb]] wx (fun e w' => e = .returned (.bool r) ∧ Below wx.heap.size wx w') by
    have := right_is L B cb ms wx (HL0.out.below hb) (HM0.out.below hb) (by rw [← HM.out]; exact HD1.out) HDM.out r h
    rw [← HM.out] at this; exact this)
  clear hbq
  have x0 := cell_of_blk C1.out 0
  have x1 := cell_of_blk C1.out 1
  have y2 := cell_of_blk C2.out 2
  have hx0 := (Array.getElem?_eq_some_iff.1 C1.out).1
  have hy0 := (Array.getElem?_eq_some_iff.1 C2.out).1
  have hsw := HSW.out
  rw [hW] at hWQ hsw
  clear hsw
  simp at x0 x1 y2
  go_enter Try.func14, Try.ntmps14
  go_wp2_with fail
  rw [← hWQ]
  clear x0 x1 y2 hx0 hy0
  refine (HRT.out _ HBQ.out _ HBB.out).mono ?_; rintro e w1 ⟨rfl, hb1⟩
  have HBC := Lib.hid (below_more HBQ.out hb1)
  have D := Lib.hid (blk_keep hb1 C1.out)
  have E := Lib.hid (blk_keep hb1 C2.out)
  have F := Lib.hid (blk_keep hb1 C3.out)
  clear hb1 hWQ hW C1 C2 C3
  have x0 := cell_of_blk F.out 0
  have x1 := cell_of_blk F.out 1
  have x2 := cell_of_blk F.out 2
  have hx0 := (Array.getElem?_eq_some_iff.1 F.out).1
  simp at x0 x1 x2
  cases G with
  | false =>
    go_wp2_with fail
    refine (works2_any _).mono ?_; rintro e w2 ⟨rfl, hb2⟩
    go_wp2
    go_ret
    exact ⟨rfl, below_more HBC.out hb2⟩
  | true =>
    obtain ⟨H, hH⟩ : ∃ H, rightB L.li ms = H := ⟨_, rfl⟩
    have HHH := Lib.hid hH
    clear hH
    go_wp2_with fail
    refine (HRQ.out _ HBC.out _ HHH.out).mono ?_; rintro e w2 ⟨rfl, hb2⟩
    have HBC := Lib.hid (below_more HBC.out hb2)
    have D := Lib.hid (blk_keep hb2 D.out)
    have E := Lib.hid (blk_keep hb2 E.out)
    have F := Lib.hid (blk_keep hb2 F.out)
    clear hb2 x0 x1 x2 hx0
    cases H with
    | false =>
      go_wp2_with fail
      refine (works2_any _).mono ?_; rintro e w3 ⟨rfl, hb3⟩
      go_wp2
      go_ret
      exact ⟨rfl, below_more HBC.out hb3⟩
    | true =>
      obtain ⟨hbg, hok⟩ := right_yes HBB.out
      have HOK := Lib.hid hok
      have HNB := Lib.hid (not_bigG (L := L) hbg)
      clear hbg hok
      have L0 := Lib.hid (fun wx (hb : Below w.heap.size w wx) => show LmOk wx L from HL0.out.below hb)
      have N0 := Lib.hid (fun wx (hb : Below w.heap.size w wx) => show NdsAt wx A ns from HN0.out.below hb)
      have HLS := Lib.hid (fun wx (hb : Below w.heap.size w wx) => show Calls Try.prog 17 #[.agg #[.int .i64 L.per, .slice L.A L.ms.length L.cap, .slice A N cap]] wx (GotListX wx L.li) from
        (list2_any L A N cap wx (L0.out wx hb) (by have := HNB.out.2.1; omega) (fun m hm => by have := (HNB.out.2.2 m hm).1; omega)).mono fun _ _ h => h.x)
      have HTX := Lib.hid (fun wx (hb : Below w.heap.size w wx) => show Calls Try.prog 18 #[.agg #[.int .i64 L.per, .slice L.A L.ms.length L.cap, .slice A N cap]] wx (GotTextX wx ns) by
        have := text2_any L A cap ns wx (N0.out wx hb) (by rw [← HN.out]; exact HC1.out) HCM.out (by rw [← HN.out]; have := HNB.out.1; have := HN.out; omega)
        rw [← HN.out] at this; exact this.mono fun _ _ h => h.x)
      obtain ⟨-, hokm⟩ := right_yes HHH.out
      have HOM := Lib.hid hokm
      clear hokm
      have M0 := Lib.hid (fun wx (hb : Below w.heap.size w wx) => show NdsAt wx B ms from HM0.out.below hb)
      have HN2 := Lib.hid (show N ≤ 200 by rw [HN.out]; exact (text_ok HOK.out).2.1)
      have HM2 := Lib.hid (show M ≤ 200 by rw [HM.out]; exact (text_ok HOM.out).2.1)
      have HTQ := Lib.hid (fun wx (hb : Below w.heap.size w wx) => show Calls Try.prog 18 #[.agg #[.int .i64 L.per, .slice L.A L.ms.length L.cap, .slice B M cb]] wx (GotTextX wx ms) by
        have := text2_any L B cb ms wx (M0.out wx hb) (by rw [← HM.out]; exact HD1.out) HDM.out (by rw [← HM.out]; have := HM2.out; omega)
        rw [← HM.out] at this; exact this.mono fun _ _ h => h.x)
      obtain ⟨⟨zs, er⟩, hQ⟩ : ∃ q, q = spliceQ L.li ns f t ms := ⟨_, rfl⟩
      have HQ := Lib.hid hQ
      clear hQ
      go_wp2_with fail
      have HPJ := Lib.hid (fun wx (pm : Int) (mm : List Sm) (Am : Option Addr) (km cm : Nat) (hkm : km = mm.length) (hok : LmOk wx ⟨pm, mm, Am, cm⟩) (hli : (Lm.mk pm mm Am cm).li = L.li) (A2 : Option Addr) (k2 c2 : Nat) (hk : k2 = ns.length) (hn : NdsAt wx A2 ns) (h1 : k2 ≤ c2) (h2 : c2 ≤ maxLen) (A3 : Option Addr) (k3 c3 : Nat) (hk3 : k3 = ms.length) (hn3 : NdsAt wx A3 ms) (h3 : k3 ≤ c3) (h4 : c3 ≤ maxLen) => show Calls Try.prog 47 #[.agg #[.int .i64 pm, .slice Am km cm], .agg #[.slice A2 k2 c2], .int .i64 f, .int .i64 t, .agg #[.slice A3 k3 c3]] wx (GotTextO wx zs er) by
      subst hk hkm
      have := spliceP_any ⟨pm, mm, Am, cm⟩ A2 c2 ns f t A3 c3 ms wx hok hn h1 h2 hn3 (by rw [← hk3]; exact h3) h4
      rw [hli, ← HQ.out, ← hk3] at this; exact this)
      have HK := Lib.hid (fun wx (hb : Below w2.heap.size w2 wx) => show wx.cell? ⟨w.heap.size, 0, none⟩ = some (.int .i64 L.per) ∧ wx.cell? ⟨w.heap.size, 1, none⟩ = some (.slice L.A L.ms.length L.cap) ∧ wx.cell? ⟨w.heap.size, 2, none⟩ = some (.slice A N cap) ∧ wx.cell? ⟨w.heap.size + 1, 0, none⟩ = some (.int .i64 f) ∧ wx.cell? ⟨w.heap.size + 1, 1, none⟩ = some (.int .i64 t) ∧ wx.cell? ⟨w.heap.size + 1 + 1, 0, none⟩ = some (.int .i64 L.per) ∧ wx.cell? ⟨w.heap.size + 1 + 1, 1, none⟩ = some (.slice L.A L.ms.length L.cap) ∧ wx.cell? ⟨w.heap.size + 1 + 1, 2, none⟩ = some (.slice B M cb) ∧ Below w2.heap.size w2 wx from
        ⟨cell_of_blk (blk_keep hb D.out) 0, cell_of_blk (blk_keep hb D.out) 1, cell_of_blk (blk_keep hb D.out) 2, cell_of_blk (blk_keep hb E.out) 0, cell_of_blk (blk_keep hb E.out) 1, cell_of_blk (blk_keep hb F.out) 0, cell_of_blk (blk_keep hb F.out) 1, cell_of_blk (blk_keep hb F.out) 2, hb⟩)
      have HDR := Lib.hid (show Below w2.heap.size w2 w2.drew from (Below.refl _ _).drew)
      have HSB := Lib.hid (fun wx (h : wx.cell? ⟨w.heap.size, 0, none⟩ = some (.int .i64 L.per) ∧ wx.cell? ⟨w.heap.size, 1, none⟩ = some (.slice L.A L.ms.length L.cap) ∧ wx.cell? ⟨w.heap.size, 2, none⟩ = some (.slice A N cap) ∧ wx.cell? ⟨w.heap.size + 1, 0, none⟩ = some (.int .i64 f) ∧ wx.cell? ⟨w.heap.size + 1, 1, none⟩ = some (.int .i64 t) ∧ wx.cell? ⟨w.heap.size + 1 + 1, 0, none⟩ = some (.int .i64 L.per) ∧ wx.cell? ⟨w.heap.size + 1 + 1, 1, none⟩ = some (.slice L.A L.ms.length L.cap) ∧ wx.cell? ⟨w.heap.size + 1 + 1, 2, none⟩ = some (.slice B M cb) ∧ Below w2.heap.size w2 wx) => h.2.2.2.2.2.2.2.2)
      go_wp2_with fail
      go_cut [6, 7] (fun p q wx => ∃ x, p = .pointer (some ⟨x, 0, none⟩) ∧ q = .int .i64 er ∧ Hid (TBoxC w2 wx x zs))
      case first =>
        go_region_held3 (fun wx => wx.cell? ⟨w.heap.size, 0, none⟩ = some (.int .i64 L.per) ∧ wx.cell? ⟨w.heap.size, 1, none⟩ = some (.slice L.A L.ms.length L.cap) ∧ wx.cell? ⟨w.heap.size, 2, none⟩ = some (.slice A N cap) ∧ wx.cell? ⟨w.heap.size + 1, 0, none⟩ = some (.int .i64 f) ∧ wx.cell? ⟨w.heap.size + 1, 1, none⟩ = some (.int .i64 t) ∧ wx.cell? ⟨w.heap.size + 1 + 1, 0, none⟩ = some (.int .i64 L.per) ∧ wx.cell? ⟨w.heap.size + 1 + 1, 1, none⟩ = some (.slice L.A L.ms.length L.cap) ∧ wx.cell? ⟨w.heap.size + 1 + 1, 2, none⟩ = some (.slice B M cb) ∧ Below w2.heap.size w2 wx)
          ((refine HK.out _ ?_; first | assumption | exact HDR.out | (repeat (first | exact Below.refl _ _ | assumption | refine Below.drew ?_ | refine Below.alloc ?_ (by first | omega | (simp; omega) | simp) _ | refine Below.setCell ?_ (by first | omega | (simp; omega) | simp) _))))
          (first
          | (go_at_call 17; refine (HLS.out _ (below_more HBC.out (HSB.out _ (by assumption)))).mono ?_; rintro e wl ⟨pm, mm, Am, km, cm, rfl, hkm, hokl, hlil, hbl⟩; have hbwl := below_more (HSB.out _ (by assumption)) hbl; have hzl := hbwl.size; have hyl := hbl.size; (try simp at hyl); (try (have hqwl0 : w2.heap.size < wl.heap.size := by omega)); have HBl := Lib.hid hbl; have hltl := fun b hb => Nat.lt_of_lt_of_le (n := b) hb hbl.size; obtain ⟨hcl, hfl⟩ := bcell hbl; clear hbl)
          | (go_at_call 18; have hseen := hnt; refine (HTQ.out _ (below_more HBC.out (HSB.out _ (by assumption)))).mono ?_; rintro e wt2 ⟨A3, kt2, c3, rfl, hkt2, hnt2, hkc2, hcm2, hbt2⟩; have hbwt2 := below_more (HSB.out _ (by assumption)) hbt2; have hzt2 := hbwt2.size; have hyt2 := hbt2.size; (try simp at hyt2); (try (have hqwt20 : w2.heap.size < wt2.heap.size := by omega)); (try (have hqwt21 : wl.heap.size < wt2.heap.size := by omega)); (try (have hqwt22 : wt.heap.size < wt2.heap.size := by omega)); have HBt2 := Lib.hid hbt2; have hltt2 := fun b hb => Nat.lt_of_lt_of_le (n := b) hb hbt2.size; obtain ⟨hct2, hft2⟩ := bcell hbt2; have hlt3 : Below wt.heap.size wt wt2 := (by first | exact hbt2 | exact below_of hbt2 | exact below_of (below_of hbt2)); clear hbt2 hseen)
          | (go_at_call 18; refine (HTX.out _ (below_more HBC.out (HSB.out _ (by assumption)))).mono ?_; rintro e wt ⟨A2, kt, c2, rfl, hkt, hnt, hkc, hcm, hbt⟩; have hbwt := below_more (HSB.out _ (by assumption)) hbt; have hzt := hbwt.size; have hyt := hbt.size; (try simp at hyt); (try (have hqwt0 : w2.heap.size < wt.heap.size := by omega)); (try (have hqwt1 : wl.heap.size < wt.heap.size := by omega)); have HBt := Lib.hid hbt; have hltt := fun b hb => Nat.lt_of_lt_of_le (n := b) hb hbt.size; obtain ⟨hct, hft⟩ := bcell hbt; have hlt2 : Below wl.heap.size wl wt := (by first | exact hbt | exact below_of hbt | exact below_of (below_of hbt)); clear hbt)
          | (go_at_call 47; refine (HPJ.out _ pm mm Am km cm hkm.out (hokl.out.below (below_more hlt2 (below_more hlt3 (by first | exact Below.refl _ _ | exact below_alloc _ _ | exact (below_alloc _ _).drew | exact two_under _ _ _)))) hlil.out A2 kt c2 hkt.out (hnt.out.below (below_more hlt3 (by first | exact Below.refl _ _ | exact below_alloc _ _ | exact (below_alloc _ _).drew | exact two_under _ _ _))) hkc hcm A3 kt2 c3 hkt2.out (hnt2.out.below (by first | exact Below.refl _ _ | exact below_alloc _ _ | exact (below_alloc _ _).drew | exact two_under _ _ _)) hkc2 hcm2).mono ?_; rintro e wq ⟨Aq, kq, cq, rfl, hkq, hiq, hbq⟩; have hbwq := below_more (HSB.out _ (by assumption)) hbq; have hzq := hbwq.size; have hyq := hbq.size; (try simp at hyq); (try (have hqwq0 : w2.heap.size < wq.heap.size := by omega)); (try (have hqwq1 : wl.heap.size < wq.heap.size := by omega)); (try (have hqwq2 : wt.heap.size < wq.heap.size := by omega)); (try (have hqwq3 : wt2.heap.size < wq.heap.size := by omega)); have HBq := Lib.hid hbq; have hltq := fun b hb => Nat.lt_of_lt_of_le (n := b) hb hbq.size; obtain ⟨hcq, hfq⟩ := bcell hbq; clear hbq))
        all_goals go_wp2
        all_goals go_meet
        all_goals refine ⟨_, rfl, rfl, Lib.hid ?_⟩
        all_goals first
          | (refine tboxc_of2 (wq) ?_ HBl HBt HBt2 HBq hkq hiq ?_ ?_ ?_ ?_ ?_ ?_; (first | with_reducible rfl | (simp [go_sem] <;> fail) | (simp [go_sem, *] <;> fail) | (go_simp <;> fail)))
          | (refine tboxc_of2 (wq.alloc (.cells #[.slice none 0 0] 27)) ?_ HBl HBt HBt2 HBq hkq hiq ?_ ?_ ?_ ?_ ?_ ?_; (first | with_reducible rfl | (simp [go_sem] <;> fail) | (simp [go_sem, *] <;> fail) | (go_simp <;> fail)))
        all_goals first
          | exact .inr (.inr (.inr (.inl ⟨heap_alloc_new _ _, by simp⟩)))
          | exact .inr (.inr (.inr (.inr ⟨heap_alloc_new _ _, by simp⟩)))
          | exact .inl ⟨heap_alloc_new _ _, by simp⟩
          | exact .inr (.inl ⟨heap_alloc_new _ _, by simp⟩)
          | exact .inr (.inr (.inl ⟨heap_alloc_new _ _, by simp⟩))
          | exact .inr (.inr (.inr ⟨heap_alloc_new _ _, by simp⟩))
          | (repeat (first | exact Below.refl _ _ | refine Below.drew ?_ | refine Below.alloc ?_ (by simp) _))
      case rest =>
      obtain ⟨xq, rfl, rfl, hbox⟩ := hcut
      obtain ⟨wq, rfl⟩ : ∃ w, w = wc := ⟨_, rfl⟩
      obtain ⟨Aq, kq, cq, hbw, hbx, hk, hi, hkcq, hcmq⟩ := hbox.out
      have Hq := Lib.hid hi
      have Kq := Lib.hid hk
      have Dxq := Lib.hid hbx
      have BWq := Lib.hid hbw
      have HBC := Lib.hid (below_more HBC.out hbw)
      clear HK HDR HSB HPJ hbox hbw hbx hk hi
      have D := Lib.hid (blk_keep BWq.out D.out)
      have E := Lib.hid (blk_keep BWq.out E.out)
      have F := Lib.hid (blk_keep BWq.out F.out)
      by_cases her : er = 0
      case neg =>
        have hbe : (er != 0) = true := by simpa using her
        clear her
        go_wp2_with fail
        refine (works2_any _).mono ?_; rintro e w3 ⟨rfl, hb3⟩
        go_wp2
        go_ret
        exact ⟨rfl, below_more HBC.out hb3⟩
      subst her
      obtain ⟨fn, tn, rfl, rfl, hft, htn, hze, hzv⟩ := splice_ok (f := f) (t := t) HOK.out HOM.out (by rw [← HQ.out])
      have HZE := Lib.hid (show zs = spliceL ns ms fn tn by rw [← hze, ← HQ.out])
      have HZV := Lib.hid (show textErr L.li zs = 0 by rw [HZE.out]; exact hzv)
      have HTV := Lib.hid (show groupsQ L.li ns = ((topsL ns).map fun (j : Nat) => (j : Int), 0) by unfold groupsQ; rw [if_neg (by rw [HOK.out]; simp)])
      have HST := Lib.hid (fun (k j : Nat) (h : (topsL ns)[k]? = some j) => sub_top HOK.out h)
      have HPN := Lib.hid (show (topsL ns).length = (partsN ns).length from tops_parts_len HOK.out)
      have htl := tops_len ns
      obtain ⟨tl, htl2⟩ : ∃ tl, tl = topsL ns := ⟨_, rfl⟩
      rw [← htl2] at HTV HST HPN htl
      rw [← HN.out] at htl
      obtain ⟨np, hnp⟩ : ∃ np, np = tl.length := ⟨_, rfl⟩
      have HTL := Lib.hid hnp
      rw [← hnp] at HPN htl
      rw [← HPN.out] at htn
      have hfn : fn ≤ np := by omega
      clear htl2 hnp hze hzv HQ
      have HGS := Lib.hid (show Calls Try.prog 26 #[.agg #[.int .i64 L.per, .slice L.A L.ms.length L.cap], .agg #[.slice A N cap]] wq (fun e w' => ∃ Ag cg, e = .returned (.tuple #[.slice Ag np cg, .int .i64 0]) ∧ Hid (∀ (k j : Nat), tl[k]? = some j → ∃ b o, Ag = some ⟨b, o, none⟩ ∧ b < w'.heap.size ∧ w'.cell? ⟨b, o + k, none⟩ = some (.int .i64 (j : Nat))) ∧ np ≤ cg ∧ cg ≤ maxLen ∧ Below wq.heap.size wq w') by
        have := rgroups_any L A cap ns wq (L0.out wq HBC.out) (N0.out wq HBC.out) (by rw [← HN.out]; exact HC1.out) HCM.out
        rw [HTV.out, ← HN.out] at this
        exact this.mono fun e w' h => by
          obtain ⟨Ag, kg, cg, he, hkg, hig, hlc, hcm, hbg⟩ := gotI_open h
          rw [List.length_map, ← HTL.out] at hkg
          subst hkg
          exact ⟨Ag, cg, he, Lib.hid (fun k j hj => hig k (j : Int) (by rw [List.getElem?_map, hj]; rfl)), hlc, hcm, hbg⟩)
      have x0 := cell_of_blk D.out 0
      have x1 := cell_of_blk D.out 1
      have x2 := cell_of_blk D.out 2
      have hx0 := (Array.getElem?_eq_some_iff.1 D.out).1
      simp at x0 x1 x2
      go_wp2_with fail
      refine HGS.out.mono ?_; rintro e wg ⟨Ag, cg, rfl, hig, hgc, hgm, hbg⟩
      have HBC := Lib.hid (below_more HBC.out hbg)
      have D := Lib.hid (blk_keep hbg D.out)
      have E := Lib.hid (blk_keep hbg E.out)
      have F := Lib.hid (blk_keep hbg F.out)
      have Dxq := Lib.hid (blk_keep hbg Dxq.out)
      have Hq := Lib.hid (Hq.out.below hbg)
      have HIG := Lib.hid hig.out
      unfold maxLen at hgm
      have HBCG := Lib.hid HBC.out
      have DG := Lib.hid D.out
      have EG := Lib.hid E.out
      have FG := Lib.hid F.out
      have XG := Lib.hid Dxq.out
      have QG := Lib.hid Hq.out
      clear x0 x1 x2 hx0 hig hbg HGS HTV HBC D E F Dxq Hq
      obtain ⟨iv, hiv, hzv, hsv, hbv⟩ := info_hid infoMk
      have hnp200 : np ≤ 200 := by have := HN2.out; omega
      go_wp2_with fail
      go_loopw [10, 11] (fun v i wr => ∃ (k c : Nat), k ≤ np + 1 ∧ i = .int .i64 k ∧ c ≤ 600 ∧ Hid (c = (wantM ns ms fn tn k).length ∧ wr.ownsRow wg.heap.size 69 4 v c ((wantM ns ms fn tn k).flatMap Mk.cells)) ∧ Hid (Below wg.heap.size wg wr)) (fun _ i _ => np + 1 - (intOf i).toNat)
      case atStart => exact ⟨0, 0, Nat.zero_le _, rfl, by omega, Lib.hid ⟨by simp [wantM, accG], by
        have e : wantM ns ms fn tn 0 = [] := by simp [wantM, accG]
        rw [e]; exact World.ownsRow_nil _ _ _ _⟩, Lib.hid (Below.refl _ _)⟩
      case round =>
        obtain ⟨k, c, hk, rfl, hc6, hr, hbw⟩ := hrel
        have HCZ := Lib.hid hr.out.1
        have HOW := Lib.hid hr.out.2
        have HWG := Lib.hid hbw.out
        have HBC := Lib.hid (below_more HBCG.out HWG.out)
        have D := Lib.hid (blk_keep HWG.out DG.out)
        have E := Lib.hid (blk_keep HWG.out EG.out)
        have F := Lib.hid (blk_keep HWG.out FG.out)
        clear hr hbw
        by_cases hlt : k ≤ np
        · have HNX := Lib.hid (fun x (hx : k < np → (partsN ns)[k]? = some x) => want_step (ms := ms) (f := fn) (t := tn) HPN.out.symm hft hfn hlt hx)
          have HWL := Lib.hid (want_len HOK.out HOM.out fn tn (k + 1))
          obtain ⟨zz, hzz⟩ : ∃ zz, zz = wantM ns ms fn tn k := ⟨_, rfl⟩
          have HZZ := Lib.hid hzz
          rw [← hzz] at HCZ HOW HNX
          clear hzz
          have y0 := cell_of_blk E.out 0
          have hy0 := (Array.getElem?_eq_some_iff.1 E.out).1
          simp at y0
          go_upto_if 68 with fail
          go_cut [10, 11] (fun v i wx => ∃ (c' : Nat) (zz' : List Mk), i = .int .i64 k ∧ c' ≤ 1000 ∧ Hid (c' = zz'.length) ∧ Hid (zz' = zz ++ (if k = fn then lineR ms else [])) ∧ Hid (wx.ownsRow wg.heap.size 69 4 v c' (zz'.flatMap Mk.cells)) ∧ Hid (Below wg.heap.size wg wx))
          case first =>
            by_cases hf : k = fn
            · have hb1 : ((k : Int) == (fn : Int)) = true := by simp [hf]
              have HF := Lib.hid hf
              clear hf y0 hy0
              have HLM := Lib.hid (line_le HOM.out)
              have HTX := HTQ
              go_wp2_with fail
              have HPJ := Lib.hid (fun wx (pm : Int) (mm : List Sm) (Am : Option Addr) (km cm : Nat) (hkm : km = mm.length) (hok : LmOk wx ⟨pm, mm, Am, cm⟩) (hli : (Lm.mk pm mm Am cm).li = L.li) (A2 : Option Addr) (k2 c2 : Nat) (hk : k2 = ms.length) (hn : NdsAt wx A2 ms) (h1 : k2 ≤ c2) (h2 : c2 ≤ maxLen) => show Calls Try.prog 28 #[.agg #[.int .i64 pm, .slice Am km cm], .agg #[.slice A2 k2 c2]] wx (GotMarksO wx (lineR ms) 0) by
      subst hk hkm
      have := lineP_any ⟨pm, mm, Am, cm⟩ A2 c2 ms wx hok hn h1 h2
      rw [hli, line_valid HOM.out] at this; exact this)
              have HK := Lib.hid (fun wx (hb : Below wr.heap.size wr wx) => show wx.cell? ⟨w.heap.size, 0, none⟩ = some (.int .i64 L.per) ∧ wx.cell? ⟨w.heap.size, 1, none⟩ = some (.slice L.A L.ms.length L.cap) ∧ wx.cell? ⟨w.heap.size, 2, none⟩ = some (.slice A N cap) ∧ wx.cell? ⟨w.heap.size + 1 + 1, 0, none⟩ = some (.int .i64 L.per) ∧ wx.cell? ⟨w.heap.size + 1 + 1, 1, none⟩ = some (.slice L.A L.ms.length L.cap) ∧ wx.cell? ⟨w.heap.size + 1 + 1, 2, none⟩ = some (.slice B M cb) ∧ Below wr.heap.size wr wx from
                ⟨cell_of_blk (blk_keep hb D.out) 0, cell_of_blk (blk_keep hb D.out) 1, cell_of_blk (blk_keep hb D.out) 2, cell_of_blk (blk_keep hb F.out) 0, cell_of_blk (blk_keep hb F.out) 1, cell_of_blk (blk_keep hb F.out) 2, hb⟩)
              have HDR := Lib.hid (show Below wr.heap.size wr wr.drew from (Below.refl _ _).drew)
              have HSB := Lib.hid (fun wx (h : wx.cell? ⟨w.heap.size, 0, none⟩ = some (.int .i64 L.per) ∧ wx.cell? ⟨w.heap.size, 1, none⟩ = some (.slice L.A L.ms.length L.cap) ∧ wx.cell? ⟨w.heap.size, 2, none⟩ = some (.slice A N cap) ∧ wx.cell? ⟨w.heap.size + 1 + 1, 0, none⟩ = some (.int .i64 L.per) ∧ wx.cell? ⟨w.heap.size + 1 + 1, 1, none⟩ = some (.slice L.A L.ms.length L.cap) ∧ wx.cell? ⟨w.heap.size + 1 + 1, 2, none⟩ = some (.slice B M cb) ∧ Below wr.heap.size wr wx) => h.2.2.2.2.2.2)
              go_wp2_with fail
              go_region_held3 (fun wx => wx.cell? ⟨w.heap.size, 0, none⟩ = some (.int .i64 L.per) ∧ wx.cell? ⟨w.heap.size, 1, none⟩ = some (.slice L.A L.ms.length L.cap) ∧ wx.cell? ⟨w.heap.size, 2, none⟩ = some (.slice A N cap) ∧ wx.cell? ⟨w.heap.size + 1 + 1, 0, none⟩ = some (.int .i64 L.per) ∧ wx.cell? ⟨w.heap.size + 1 + 1, 1, none⟩ = some (.slice L.A L.ms.length L.cap) ∧ wx.cell? ⟨w.heap.size + 1 + 1, 2, none⟩ = some (.slice B M cb) ∧ Below wr.heap.size wr wx)
                ((refine HK.out _ ?_; first | assumption | exact HDR.out | (repeat (first | exact Below.refl _ _ | assumption | refine Below.drew ?_ | refine Below.alloc ?_ (by first | omega | (simp; omega) | simp) _ | refine Below.setCell ?_ (by first | omega | (simp; omega) | simp) _))))
                (first
                | (go_at_call 17; refine (HLS.out _ (below_more HBC.out (HSB.out _ (by assumption)))).mono ?_; rintro e wl ⟨pm, mm, Am, km, cm, rfl, hkm, hokl, hlil, hbl⟩; have hbwl := below_more (HSB.out _ (by assumption)) hbl; have hzl := hbwl.size; have hyl := hbl.size; (try simp at hyl); (try (have hqwl0 : wr.heap.size < wl.heap.size := by omega)); have HBl := Lib.hid hbl; have hltl := fun b hb => Nat.lt_of_lt_of_le (n := b) hb hbl.size; obtain ⟨hcl, hfl⟩ := bcell hbl; clear hbl)
                | (go_at_call 18; refine (HTX.out _ (below_more HBC.out (HSB.out _ (by assumption)))).mono ?_; rintro e wt ⟨A2, kt, c2, rfl, hkt, hnt, hkc, hcm, hbt⟩; have hbwt := below_more (HSB.out _ (by assumption)) hbt; have hzt := hbwt.size; have hyt := hbt.size; (try simp at hyt); (try (have hqwt0 : wr.heap.size < wt.heap.size := by omega)); (try (have hqwt1 : wl.heap.size < wt.heap.size := by omega)); have HBt := Lib.hid hbt; have hltt := fun b hb => Nat.lt_of_lt_of_le (n := b) hb hbt.size; obtain ⟨hct, hft⟩ := bcell hbt; have hlt2 : Below wl.heap.size wl wt := (by first | exact hbt | exact below_of hbt | exact below_of (below_of hbt)); clear hbt)
                | (go_at_call 28; refine (HPJ.out _ pm mm Am km cm hkm.out (hokl.out.below (below_more hlt2 (by first | exact Below.refl _ _ | exact below_alloc _ _ | exact (below_alloc _ _).drew | exact two_under _ _ _))) hlil.out A2 kt c2 hkt.out (hnt.out.below (by first | exact Below.refl _ _ | exact below_alloc _ _ | exact (below_alloc _ _).drew | exact two_under _ _ _)) hkc hcm).mono ?_; rintro e wm ⟨Am1, km1, cm1, rfl, hkm1, hom1, hbm⟩; have hbwm := below_more (HSB.out _ (by assumption)) hbm))
              have BWm := Lib.hid hbwm
              have HBC := Lib.hid (below_more HBC.out hbwm)
              clear HK HDR HSB HPJ hbwl hbwm hbm hkm hokl hlil hzl hyl HBl hltl hcl hfl hbwt hkt hnt hkc hcm hzt hyt HBt hltt hct hft hlt2
              clear HTX
              have hsw := HWG.out.size
              have HOW := Lib.hid (ownsRow_of_block HOW.out (fun g hg => BWm.out.block g (HOW.out.lt g hg).2))
              have HSX := Lib.hid (marks_src hom1.out)
              have hkm2 : km1 ≤ 200 := by rw [hkm1.out]; exact HLM.out
              obtain ⟨Av, cv, hv, -, -, -, -⟩ := own_slice HOW.out
              subst hv
              have HWM := Lib.hid (below_more HWG.out BWm.out)
              have hsm := HWM.out.size
              have HKM := Lib.hid hkm1.out
              clear hkm1 hom1
              go_wp2_with (first
                | (at_builtin; refine wpList_append_src _ rfl (.tmp 79) (.tmp 80) 44 rfl wg.heap.size 69 iv (.agg #[.int .i64 0, .int .i64 0, .int .i64 0, .int .i64 0]) 4 32 Try.underlying44 hiv.out hzv.out hsv.out hbv.out rfl (by decide) (.slice Av c cv) c (zz.flatMap Mk.cells) rfl ?own1 Am1 km1 cm1 ((lineR ms).flatMap Mk.cells) rfl ?l1 ?k1 ?c1 ?o1 ?m1 ?b1 ?s1 (c + km1) rfl ?_))
              case own1 => exact HOW.out
              case l1 => rw [mk_flat, HKM.out]
              case k1 => intro h; exact HSX.out.1 h
              case o1 => exact mk_ones _
              case c1 =>
                first | intro ad had jj u' hj | intro jj u' hj
                exact HSX.out.2 ad had jj u' hj
              case m1 => unfold maxLen; omega
              case b1 => omega
              case s1 => omega
              intro A5 c5 w5 own5 hg5 hat5
              have HO5 := Lib.hid (show w5.ownsRow wg.heap.size 69 4 (.slice A5 (c + km1) c5) (c + km1) ((zz ++ lineR ms).flatMap Mk.cells) by rw [List.flatMap_append]; exact own5)
              have HB5 := Lib.hid (Below.grown HWM.out hg5 (by omega) (fun g' e => (HOW.out.lt g' e).1))
              clear own5 hg5 hat5
              go_wp2_with fail
              go_meet
              exact ⟨c + km1, zz ++ lineR ms, rfl, by omega, Lib.hid (by rw [List.length_append, ← HCZ.out, HKM.out]), Lib.hid (by rw [if_pos HF.out]), HO5, HB5⟩
            · have hb1 : ((k : Int) == (fn : Int)) = false := beq_false_of_ne (by omega)
              have HF := Lib.hid hf
              clear hf
              go_wp2_with fail
              go_meet
              exact ⟨c, zz, rfl, by omega, HCZ, Lib.hid (by rw [if_neg HF.out, List.append_nil]), HOW, HWG⟩
          case rest =>
          obtain ⟨c', zz', rfl, hc8, hx1, hx2, hx3, hx4⟩ := hcut
          clear y0 hy0 HCZ HOW HBC D E F HWG
          obtain ⟨w4, rfl⟩ : ∃ w4, w4 = wc := ⟨_, rfl⟩
          have HCZ := Lib.hid hx1.out
          have HZP := Lib.hid hx2.out
          have HOW := Lib.hid hx3.out
          have HWG := Lib.hid hx4.out
          have HBC := Lib.hid (below_more HBCG.out HWG.out)
          have D := Lib.hid (blk_keep HWG.out DG.out)
          have E := Lib.hid (blk_keep HWG.out EG.out)
          clear hx1 hx2 hx3 hx4
          obtain ⟨T, hT⟩ : ∃ T, T = decide (k < np ∧ (k < fn ∨ tn ≤ k)) := ⟨_, rfl⟩
          have y0 := cell_of_blk E.out 0
          have y1 := cell_of_blk E.out 1
          have hy0 := (Array.getElem?_eq_some_iff.1 E.out).1
          simp at y0 y1
          go_upto_region 17 with fail
          go_cut [97] (fun s wx => s = .bool T ∧ wx = w4)
          case first =>
            by_cases h1 : k < np
            · by_cases h2 : k < fn
              · have e : T = true := by rw [hT]; exact decide_eq_true ⟨h1, .inl h2⟩
                subst e
                clear hT
                go_wp2_with fail
                go_meet
                exact ⟨rfl, rfl⟩
              · by_cases h3 : tn ≤ k
                · have e : T = true := by rw [hT]; exact decide_eq_true ⟨h1, .inr h3⟩
                  subst e
                  clear hT
                  go_wp2_with fail
                  go_meet
                  exact ⟨rfl, rfl⟩
                · have e : T = false := by rw [hT]; exact decide_eq_false (by omega)
                  subst e
                  clear hT
                  go_wp2_with fail
                  go_meet
                  exact ⟨rfl, rfl⟩
            · have e : T = false := by rw [hT]; exact decide_eq_false (by omega)
              subst e
              clear hT
              go_wp2_with fail
              go_meet
              exact ⟨rfl, rfl⟩
          case rest =>
          obtain ⟨rfl, rfl⟩ := hcut
          obtain ⟨w4, rfl⟩ : ∃ w4, w4 = wc := ⟨_, rfl⟩
          have HT := Lib.hid hT
          clear hT y0 y1 hy0
          cases T with
          | false =>
            have HTF := Lib.hid (show ¬ (k < np ∧ (k < fn ∨ tn ≤ k)) from of_decide_eq_false HT.out.symm)
            have HN3 := Lib.hid (show zz' = wantM ns ms fn tn (k + 1) by
              by_cases h : k < np
              · obtain ⟨x, hx⟩ : ∃ x, (partsN ns)[k]? = some x := ⟨_, List.getElem?_eq_getElem (by rw [← HPN.out]; exact h)⟩
                rw [HNX.out x (fun _ => hx), if_neg HTF.out, List.append_nil]; exact HZP.out
              · rw [HNX.out [] (fun h' => absurd h' h), if_neg HTF.out, List.append_nil]; exact HZP.out)
            have hcl : c' ≤ 600 := by rw [HCZ.out, HN3.out]; exact HWL.out
            go_wp2_with fail
            go_roundw
            case rel => exact ⟨k + 1, c', by omega, by go_num, hcl, Lib.hid ⟨by rw [← HN3.out]; exact HCZ.out, by rw [← HN3.out]; exact HOW.out⟩, HWG⟩
            case measure => simp [intOf]; omega
          | true =>
            have hTT : k < np ∧ (k < fn ∨ tn ≤ k) := of_decide_eq_true HT.out.symm
            have hlt2 := hTT.1
            have HTT := Lib.hid hTT
            obtain ⟨j, hj⟩ : ∃ j, tl[k]? = some j := ⟨_, List.getElem?_eq_getElem (by have := HTL.out; omega)⟩
            obtain ⟨gr, hgr, hsq⟩ := HST.out k j hj
            have HSQ := Lib.hid hsq
            have hmem := List.mem_of_getElem? hgr
            have HGV := Lib.hid (part_valid HOK.out hmem)
            have HN3 := Lib.hid (show wantM ns ms fn tn (k + 1) = zz' ++ lineR gr by
              rw [HNX.out gr (fun _ => hgr), if_pos HTT.out, part_line HOK.out hmem, ← HZP.out])
            have HLG := Lib.hid (line_le HGV.out)
            obtain ⟨g, o, hAg, hg, hrc⟩ := HIG.out k j hj
            subst hAg
            have HRC := Lib.hid (fun wx (hb : Below w4.heap.size w4 wx) => ((below_more HWG.out hb).cell (p := ⟨g, o + k, none⟩) hg).trans hrc)
            have hk0 : (0 : Int) ≤ (k : Int) := by omega
            have hkn : (k : Int) < (np : Int) := by omega
            clear hj hgr hsq hmem hrc hTT
            go_wp2_with fail
            have HPJ := Lib.hid (fun wx (pm : Int) (mm : List Sm) (Am : Option Addr) (km cm : Nat) (hkm : km = mm.length) (hok : LmOk wx ⟨pm, mm, Am, cm⟩) (hli : (Lm.mk pm mm Am cm).li = L.li) (A2 : Option Addr) (k2 c2 : Nat) (hk : k2 = ns.length) (hn : NdsAt wx A2 ns) (h1 : k2 ≤ c2) (h2 : c2 ≤ maxLen) => show Calls Try.prog 45 #[.agg #[.int .i64 pm, .slice Am km cm], .agg #[.slice A2 k2 c2], .int .i64 (j : Nat)] wx (GotTextO wx gr 0) by
      subst hk hkm
      have := subP_any ⟨pm, mm, Am, cm⟩ A2 c2 ns (j : Nat) wx hok hn h1 h2
      rw [hli, HSQ.out] at this; exact this)
            have HK := Lib.hid (fun wx (hb : Below w4.heap.size w4 wx) => show wx.cell? ⟨w.heap.size, 0, none⟩ = some (.int .i64 L.per) ∧ wx.cell? ⟨w.heap.size, 1, none⟩ = some (.slice L.A L.ms.length L.cap) ∧ wx.cell? ⟨w.heap.size, 2, none⟩ = some (.slice A N cap) ∧ wx.cell? ⟨g, o + k, none⟩ = some (.int .i64 (j : Nat)) ∧ Below w4.heap.size w4 wx from
              ⟨cell_of_blk (blk_keep hb D.out) 0, cell_of_blk (blk_keep hb D.out) 1, cell_of_blk (blk_keep hb D.out) 2, HRC.out wx hb, hb⟩)
            have HDR := Lib.hid (show Below w4.heap.size w4 w4.drew from (Below.refl _ _).drew)
            have HSB := Lib.hid (fun wx (h : wx.cell? ⟨w.heap.size, 0, none⟩ = some (.int .i64 L.per) ∧ wx.cell? ⟨w.heap.size, 1, none⟩ = some (.slice L.A L.ms.length L.cap) ∧ wx.cell? ⟨w.heap.size, 2, none⟩ = some (.slice A N cap) ∧ wx.cell? ⟨g, o + k, none⟩ = some (.int .i64 (j : Nat)) ∧ Below w4.heap.size w4 wx) => h.2.2.2.2)
            go_wp2_with fail
            go_cut [14, 15] (fun p q wx => ∃ x, p = .pointer (some ⟨x, 0, none⟩) ∧ q = .int .i64 0 ∧ Hid (TBoxC w4 wx x gr))
            case first =>
              go_region_held3 (fun wx => wx.cell? ⟨w.heap.size, 0, none⟩ = some (.int .i64 L.per) ∧ wx.cell? ⟨w.heap.size, 1, none⟩ = some (.slice L.A L.ms.length L.cap) ∧ wx.cell? ⟨w.heap.size, 2, none⟩ = some (.slice A N cap) ∧ wx.cell? ⟨g, o + k, none⟩ = some (.int .i64 (j : Nat)) ∧ Below w4.heap.size w4 wx)
                ((refine HK.out _ ?_; first | assumption | exact HDR.out | (repeat (first | exact Below.refl _ _ | assumption | refine Below.drew ?_ | refine Below.alloc ?_ (by first | omega | (simp; omega) | simp) _ | refine Below.setCell ?_ (by first | omega | (simp; omega) | simp) _))))
                (first
                | (go_at_call 17; refine (HLS.out _ (below_more HBC.out (HSB.out _ (by assumption)))).mono ?_; rintro e wl ⟨pm, mm, Am, km, cm, rfl, hkm, hokl, hlil, hbl⟩; have hbwl := below_more (HSB.out _ (by assumption)) hbl; have hzl := hbwl.size; have hyl := hbl.size; (try simp at hyl); (try (have hqwl0 : w4.heap.size < wl.heap.size := by omega)); have HBl := Lib.hid hbl; have hltl := fun b hb => Nat.lt_of_lt_of_le (n := b) hb hbl.size; obtain ⟨hcl, hfl⟩ := bcell hbl; clear hbl)
                | (go_at_call 18; refine (HTX.out _ (below_more HBC.out (HSB.out _ (by assumption)))).mono ?_; rintro e wt ⟨A2, kt, c2, rfl, hkt, hnt, hkc, hcm, hbt⟩; have hbwt := below_more (HSB.out _ (by assumption)) hbt; have hzt := hbwt.size; have hyt := hbt.size; (try simp at hyt); (try (have hqwt0 : w4.heap.size < wt.heap.size := by omega)); (try (have hqwt1 : wl.heap.size < wt.heap.size := by omega)); have HBt := Lib.hid hbt; have hltt := fun b hb => Nat.lt_of_lt_of_le (n := b) hb hbt.size; obtain ⟨hct, hft⟩ := bcell hbt; have hlt2 : Below wl.heap.size wl wt := (by first | exact hbt | exact below_of hbt | exact below_of (below_of hbt)); clear hbt)
                | (go_at_call 45; refine (HPJ.out _ pm mm Am km cm hkm.out (hokl.out.below (below_more hlt2 (by first | exact Below.refl _ _ | exact below_alloc _ _ | exact (below_alloc _ _).drew | exact two_under _ _ _))) hlil.out A2 kt c2 hkt.out (hnt.out.below (by first | exact Below.refl _ _ | exact below_alloc _ _ | exact (below_alloc _ _).drew | exact two_under _ _ _)) hkc hcm).mono ?_; rintro e ws ⟨As, ks, cs, rfl, hks, his, hbs⟩; have hbws := below_more (HSB.out _ (by assumption)) hbs; have hzs := hbws.size; have hys := hbs.size; (try simp at hys); (try (have hqws0 : w4.heap.size < ws.heap.size := by omega)); (try (have hqws1 : wl.heap.size < ws.heap.size := by omega)); (try (have hqws2 : wt.heap.size < ws.heap.size := by omega)); have HBs := Lib.hid hbs; have hlts := fun b hb => Nat.lt_of_lt_of_le (n := b) hb hbs.size; obtain ⟨hcs, hfs⟩ := bcell hbs; clear hbs))
              all_goals go_wp2
              all_goals go_meet
              all_goals refine ⟨_, rfl, rfl, Lib.hid ?_⟩
              all_goals first
                | (refine tboxc_of (ws) ?_ HBl HBt HBs hks his ?_ ?_ ?_ ?_ ?_; (first | with_reducible rfl | (simp [go_sem] <;> fail) | (simp [go_sem, *] <;> fail) | (go_simp <;> fail)))
                | (refine tboxc_of (ws.alloc (.cells #[.slice none 0 0] 27)) ?_ HBl HBt HBs hks his ?_ ?_ ?_ ?_ ?_; (first | with_reducible rfl | (simp [go_sem] <;> fail) | (simp [go_sem, *] <;> fail) | (go_simp <;> fail)))
              all_goals first
                | exact .inl ⟨heap_alloc_new _ _, by simp⟩
                | exact .inr (.inl ⟨heap_alloc_new _ _, by simp⟩)
                | exact .inr (.inr (.inl ⟨heap_alloc_new _ _, by simp⟩))
                | exact .inr (.inr (.inr ⟨heap_alloc_new _ _, by simp⟩))
                | (repeat (first | exact Below.refl _ _ | refine Below.drew ?_ | refine Below.alloc ?_ (by simp) _))
            case rest =>
            obtain ⟨xs, rfl, rfl, hbox⟩ := hcut
            obtain ⟨ws, rfl⟩ : ∃ w, w = wc := ⟨_, rfl⟩
            obtain ⟨As, ks, cs, hbw, hbx, hk, hi, hkcs, hcms⟩ := hbox.out
            have Hs := Lib.hid hi
            have Ks := Lib.hid hk
            have Dxs := Lib.hid hbx
            have BWs := Lib.hid hbw
            have HBC := Lib.hid (below_more HBC.out hbw)
            clear HK HDR HSB HPJ hbox hbw hbx hk hi
            have D := Lib.hid (blk_keep BWs.out D.out)
            have HWG := Lib.hid (below_more HWG.out BWs.out)
            have HOW := Lib.hid (ownsRow_of_block HOW.out (fun g hg => BWs.out.block g (HOW.out.lt g hg).2))
            have HXS := Lib.hid (fun wx (hb : Below ws.heap.size ws wx) => show wx.cell? ⟨xs, 0, none⟩ = some (.slice As ks cs) by have := cell_of_blk (blk_keep hb Dxs.out) 0; simpa using this)
            clear HRC BWs
            go_wp2_with fail
            have HPJ := Lib.hid (fun wx (pm : Int) (mm : List Sm) (Am : Option Addr) (km cm : Nat) (hkm : km = mm.length) (hok : LmOk wx ⟨pm, mm, Am, cm⟩) (hli : (Lm.mk pm mm Am cm).li = L.li) (A2 : Option Addr) (k2 c2 : Nat) (hk : k2 = gr.length) (hn : NdsAt wx A2 gr) (h1 : k2 ≤ c2) (h2 : c2 ≤ maxLen) => show Calls Try.prog 28 #[.agg #[.int .i64 pm, .slice Am km cm], .agg #[.slice A2 k2 c2]] wx (GotMarksO wx (lineR gr) 0) by
      subst hk hkm
      have := lineP_any ⟨pm, mm, Am, cm⟩ A2 c2 gr wx hok hn h1 h2
      rw [hli, line_valid HGV.out] at this; exact this)
            have HK := Lib.hid (fun wx (hb : Below ws.heap.size ws wx) => show wx.cell? ⟨w.heap.size, 0, none⟩ = some (.int .i64 L.per) ∧ wx.cell? ⟨w.heap.size, 1, none⟩ = some (.slice L.A L.ms.length L.cap) ∧ wx.cell? ⟨w.heap.size, 2, none⟩ = some (.slice A N cap) ∧ wx.cell? ⟨xs, 0, none⟩ = some (.slice As ks cs) ∧ Below ws.heap.size ws wx from
              ⟨cell_of_blk (blk_keep hb D.out) 0, cell_of_blk (blk_keep hb D.out) 1, cell_of_blk (blk_keep hb D.out) 2, HXS.out wx hb, hb⟩)
            have HDR := Lib.hid (show Below ws.heap.size ws ws.drew from (Below.refl _ _).drew)
            have HSB := Lib.hid (fun wx (h : wx.cell? ⟨w.heap.size, 0, none⟩ = some (.int .i64 L.per) ∧ wx.cell? ⟨w.heap.size, 1, none⟩ = some (.slice L.A L.ms.length L.cap) ∧ wx.cell? ⟨w.heap.size, 2, none⟩ = some (.slice A N cap) ∧ wx.cell? ⟨xs, 0, none⟩ = some (.slice As ks cs) ∧ Below ws.heap.size ws wx) => h.2.2.2.2)
            go_wp2_with fail
            go_region_held3 (fun wx => wx.cell? ⟨w.heap.size, 0, none⟩ = some (.int .i64 L.per) ∧ wx.cell? ⟨w.heap.size, 1, none⟩ = some (.slice L.A L.ms.length L.cap) ∧ wx.cell? ⟨w.heap.size, 2, none⟩ = some (.slice A N cap) ∧ wx.cell? ⟨xs, 0, none⟩ = some (.slice As ks cs) ∧ Below ws.heap.size ws wx)
              ((refine HK.out _ ?_; first | assumption | exact HDR.out | (repeat (first | exact Below.refl _ _ | assumption | refine Below.drew ?_ | refine Below.alloc ?_ (by first | omega | (simp; omega) | simp) _ | refine Below.setCell ?_ (by first | omega | (simp; omega) | simp) _))))
              (first
              | (go_at_call 17; refine (HLS.out _ (below_more HBC.out (HSB.out _ (by assumption)))).mono ?_; rintro e wl ⟨pm, mm, Am, km, cm, rfl, hkm, hokl, hlil, hbl⟩; have hbwl := below_more (HSB.out _ (by assumption)) hbl; have hzl := hbwl.size; have hyl := hbl.size; (try simp at hyl); (try (have hqwl0 : ws.heap.size < wl.heap.size := by omega)); have HBl := Lib.hid hbl; have hltl := fun b hb => Nat.lt_of_lt_of_le (n := b) hb hbl.size; obtain ⟨hcl, hfl⟩ := bcell hbl; clear hbl)
              | (go_at_call 28; refine (HPJ.out _ pm mm Am km cm hkm.out (hokl.out.below (by first | exact Below.refl _ _ | exact below_alloc _ _ | exact (below_alloc _ _).drew | exact two_under _ _ _)) hlil.out As ks cs Ks.out (Hs.out.below (HSB.out _ (by assumption))) hkcs hcms).mono ?_; rintro e wm ⟨Am1, km1, cm1, rfl, hkm1, hom1, hbm⟩; have hbwm := below_more (HSB.out _ (by assumption)) hbm))
            have BWm := Lib.hid hbwm
            have HBC := Lib.hid (below_more HBC.out hbwm)
            clear HK HDR HSB HPJ hbwl hbwm hbm hkm hokl hlil hzl hyl HBl hltl hcl hfl HXS
            have HOW := Lib.hid (ownsRow_of_block HOW.out (fun g hg => BWm.out.block g (HOW.out.lt g hg).2))
            have HSX := Lib.hid (marks_src hom1.out)
            have hkm2 : km1 ≤ 200 := by rw [hkm1.out]; exact HLG.out
            obtain ⟨Av, cv, hv, -, -, -, -⟩ := own_slice HOW.out
            subst hv
            have HWM := Lib.hid (below_more HWG.out BWm.out)
            have hsm := HWM.out.size
            have HKM := Lib.hid hkm1.out
            have HCL := Lib.hid (show c' + km1 ≤ 600 by
              have := HWL.out
              rw [HN3.out, List.length_append, ← HCZ.out, ← HKM.out] at this; exact this)
            clear hkm1 hom1
            go_wp2_with (first
              | (at_builtin; refine wpList_append_src _ rfl (.tmp 123) (.tmp 124) 44 rfl wg.heap.size 69 iv (.agg #[.int .i64 0, .int .i64 0, .int .i64 0, .int .i64 0]) 4 32 Try.underlying44 hiv.out hzv.out hsv.out hbv.out rfl (by decide) (.slice Av c' cv) c' (zz'.flatMap Mk.cells) rfl ?own1 Am1 km1 cm1 ((lineR gr).flatMap Mk.cells) rfl ?l1 ?k1 ?c1 ?o1 ?m1 ?b1 ?s1 (c' + km1) rfl ?_))
            case own1 => exact HOW.out
            case l1 => rw [mk_flat, HKM.out]
            case k1 => intro h; exact HSX.out.1 h
            case o1 => exact mk_ones _
            case c1 =>
              first | intro ad had jj u' hj | intro jj u' hj
              exact HSX.out.2 ad had jj u' hj
            case m1 => unfold maxLen; omega
            case b1 => omega
            case s1 => omega
            intro A5 c5 w5 own5 hg5 hat5
            have HO5 := Lib.hid (show w5.ownsRow wg.heap.size 69 4 (.slice A5 (c' + km1) c5) (c' + km1) ((zz' ++ lineR gr).flatMap Mk.cells) by rw [List.flatMap_append]; exact own5)
            have HB5 := Lib.hid (Below.grown HWM.out hg5 (by omega) (fun g' e => (HOW.out.lt g' e).1))
            clear own5 hg5 hat5
            go_wp2_with fail
            go_roundw
            case rel => exact ⟨k + 1, c' + km1, by omega, by go_num, HCL.out, Lib.hid ⟨by rw [HN3.out, List.length_append, ← HCZ.out, ← HKM.out], by rw [HN3.out]; exact HO5.out⟩, HB5⟩
            case measure => simp [intOf]; omega
        · obtain rfl : k = np + 1 := by omega
          have HEW := Lib.hid (show wantM ns ms fn tn (np + 1) = lineR zs by
            have := want_end HOK.out HOM.out (f := fn) (t := tn) (by rw [← HPN.out]; exact hfn)
            rw [← HPN.out] at this
            rw [this, HZE.out])
          have HLZ := Lib.hid (line_le HZV.out)
          have Dxq := Lib.hid (blk_keep HWG.out XG.out)
          have Hq := Lib.hid (QG.out.below HWG.out)
          have HXQ := Lib.hid (fun wx (hb : Below wr.heap.size wr wx) => show wx.cell? ⟨xq, 0, none⟩ = some (.slice Aq kq cq) by have := cell_of_blk (blk_keep hb Dxq.out) 0; simpa using this)
          obtain ⟨Av, cv, hv, -, -, -, -⟩ := own_slice HOW.out
          subst hv
          have HMW := Lib.hid (show MksAt wr Av (lineR zs) by have := own_marks HOW.out; rw [HEW.out] at this; exact this)
          have HCW := Lib.hid (show c = (lineR zs).length by rw [← HEW.out]; exact HCZ.out)
          go_wp2_with fail
          have HPJ := Lib.hid (fun wx (pm : Int) (mm : List Sm) (Am : Option Addr) (km cm : Nat) (hkm : km = mm.length) (hok : LmOk wx ⟨pm, mm, Am, cm⟩) (hli : (Lm.mk pm mm Am cm).li = L.li) (A2 : Option Addr) (k2 c2 : Nat) (hk : k2 = zs.length) (hn : NdsAt wx A2 zs) (h1 : k2 ≤ c2) (h2 : c2 ≤ maxLen) => show Calls Try.prog 28 #[.agg #[.int .i64 pm, .slice Am km cm], .agg #[.slice A2 k2 c2]] wx (GotMarksX wx (lineR zs) 0) by
      subst hk hkm
      have := lineP_any ⟨pm, mm, Am, cm⟩ A2 c2 zs wx hok hn h1 h2
      rw [hli, line_valid HZV.out] at this; exact this.mono fun _ _ h => h.x)
          have HK := Lib.hid (fun wx (hb : Below wr.heap.size wr wx) => show wx.cell? ⟨w.heap.size, 0, none⟩ = some (.int .i64 L.per) ∧ wx.cell? ⟨w.heap.size, 1, none⟩ = some (.slice L.A L.ms.length L.cap) ∧ wx.cell? ⟨w.heap.size, 2, none⟩ = some (.slice A N cap) ∧ wx.cell? ⟨xq, 0, none⟩ = some (.slice Aq kq cq) ∧ Below wr.heap.size wr wx from
            ⟨cell_of_blk (blk_keep hb D.out) 0, cell_of_blk (blk_keep hb D.out) 1, cell_of_blk (blk_keep hb D.out) 2, HXQ.out wx hb, hb⟩)
          have HDR := Lib.hid (show Below wr.heap.size wr wr.drew from (Below.refl _ _).drew)
          have HSB := Lib.hid (fun wx (h : wx.cell? ⟨w.heap.size, 0, none⟩ = some (.int .i64 L.per) ∧ wx.cell? ⟨w.heap.size, 1, none⟩ = some (.slice L.A L.ms.length L.cap) ∧ wx.cell? ⟨w.heap.size, 2, none⟩ = some (.slice A N cap) ∧ wx.cell? ⟨xq, 0, none⟩ = some (.slice Aq kq cq) ∧ Below wr.heap.size wr wx) => h.2.2.2.2)
          go_wp2_with fail
          go_region_held3 (fun wx => wx.cell? ⟨w.heap.size, 0, none⟩ = some (.int .i64 L.per) ∧ wx.cell? ⟨w.heap.size, 1, none⟩ = some (.slice L.A L.ms.length L.cap) ∧ wx.cell? ⟨w.heap.size, 2, none⟩ = some (.slice A N cap) ∧ wx.cell? ⟨xq, 0, none⟩ = some (.slice Aq kq cq) ∧ Below wr.heap.size wr wx)
            ((refine HK.out _ ?_; first | assumption | exact HDR.out | (repeat (first | exact Below.refl _ _ | assumption | refine Below.drew ?_ | refine Below.alloc ?_ (by first | omega | (simp; omega) | simp) _ | refine Below.setCell ?_ (by first | omega | (simp; omega) | simp) _))))
            (first
            | (go_at_call 17; refine (HLS.out _ (below_more HBC.out (HSB.out _ (by assumption)))).mono ?_; rintro e wl ⟨pm, mm, Am, km, cm, rfl, hkm, hokl, hlil, hbl⟩; have hbwl := below_more (HSB.out _ (by assumption)) hbl; have hzl := hbwl.size; have hyl := hbl.size; (try simp at hyl); (try (have hqwl0 : wr.heap.size < wl.heap.size := by omega)); have HBl := Lib.hid hbl; have hltl := fun b hb => Nat.lt_of_lt_of_le (n := b) hb hbl.size; obtain ⟨hcl, hfl⟩ := bcell hbl; clear hbl)
            | (go_at_call 28; refine (HPJ.out _ pm mm Am km cm hkm.out (hokl.out.below (by first | exact Below.refl _ _ | exact below_alloc _ _ | exact (below_alloc _ _).drew | exact two_under _ _ _)) hlil.out Aq kq cq Kq.out (Hq.out.below (HSB.out _ (by assumption))) hkcq hcmq).mono ?_; rintro e wm ⟨Am1, km1, cm1, rfl, hkm1, hom1, hbm⟩; have hbwm := below_more (HSB.out _ (by assumption)) hbm))
          have BWm := Lib.hid hbwm
          have HBC := Lib.hid (below_more HBC.out hbwm)
          clear HK HDR HSB HPJ hbwl hbwm hbm hkm hokl hlil hzl hyl HBl hltl hcl hfl HXQ
          have HSM := Lib.hid (show Calls Try.prog 34 #[.slice Am1 km1 cm1, .slice Av c cv] wm (fun e w' => e = .returned (.bool true) ∧ Below wm.heap.size wm w') from
            sameM_eq _ _ _ _ _ _ (lineR zs) wm hkm1.out HCW.out hom1.out (HMW.out.below BWm.out) (by have := HLZ.out; omega))
          clear hkm1 hom1
          go_wp2_with fail
          refine HSM.out.mono ?_; rintro e wu ⟨rfl, hbu⟩
          go_wp2_with fail
          refine (works2_any _).mono ?_; rintro e wz ⟨rfl, hbz⟩
          go_wp2
          go_ret
          exact ⟨rfl, below_more (below_more HBC.out hbu) hbz⟩

end Go.Proofs.Ytilagndfohnjnaa
