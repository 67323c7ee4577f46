/-
  Contract of the law of Splice: it returns true.
-/
import Derived.Test.YtilagndfohnjnaaPkE
import Derived.Test.YtilagndfohnjnaaPkO
import Derived.Test.YtilagndfohnjnaaPkM
import Derived.Test.YtilagndfohnjnaaPkG
import Derived.Deep.RegionHeld3
import Derived.Deep.DeepCutAuto
namespace Go.Proofs.Ytilagndfohnjnaa
open Go.RowKit

set_option maxHeartbeats 6400000 in
set_option maxRecDepth 100000 in
theorem law_gsplices (L : Lm) (A : Option Addr) (cap : Nat) (ns : List Nd) (f t : Int) (B : Option Addr) (cb : Nat) (ms : List Nd) (w : World) (hl : LmOk w L) (hn : NdsAt w A ns) (hc1 : ns.length ≤ cap) (hc : cap ≤ maxLen) (hm : NdsAt w B ms) (hd1 : ms.length ≤ cb) (hd : cb ≤ maxLen) :
    Calls Try.prog 9 #[.agg #[.int .i64 L.per, .slice L.A L.ms.length L.cap, .slice A ns.length cap], .agg #[.int .i64 f, .int .i64 t, .slice B ms.length cb]] w fun e w' => e = .returned (.bool true) ∧ Below w.heap.size w w' := by
  obtain ⟨W, hW⟩ : ∃ W, W = (w.alloc (.cells #[.int .i64 L.per, .slice L.A L.ms.length L.cap, .slice A ns.length cap] 29)).alloc (.cells #[.int .i64 f, .int .i64 t, .slice B ms.length cb] 64) := ⟨_, rfl⟩
  have HB := Lib.hid (show Below w.heap.size w W from hW ▸ two_under _ _ _)
  have C1 := Lib.hid (show W.heap[w.heap.size]? = some (.cells #[.int .i64 L.per, .slice L.A L.ms.length L.cap, .slice A ns.length cap] 29 (0, 0)) by
    rw [hW, heap_alloc_other _ _ _ (by simp)]; exact heap_alloc_new _ _)
  have C2 := Lib.hid (show W.heap[w.heap.size + 1]? = some (.cells #[.int .i64 f, .int .i64 t, .slice B ms.length cb] 64 (0, 0)) by
    rw [hW]; have := heap_alloc_new (w.alloc (.cells #[.int .i64 L.per, .slice L.A L.ms.length L.cap, .slice A ns.length cap] 29)) (.cells #[.int .i64 f, .int .i64 t, .slice B ms.length cb] 64); simpa using this)
  have HL := Lib.hid (hl.below HB.out)
  have HNS := Lib.hid (hn.below HB.out)
  have HC1 := Lib.hid hc1
  have HCM := Lib.hid hc
  have HMS := Lib.hid (hm.below HB.out)
  have HD1 := Lib.hid hd1
  have HDM := Lib.hid hd
  have hmm : ms.length ≤ 9223372036854775807 := by have := Nat.le_trans hd1 hd; unfold maxLen at this; exact this
  have hnm : ns.length ≤ maxLen := Nat.le_trans hc1 hc
  have HBG := Lib.hid (fun r (h : bigG L.li ns.length = r) => show Calls Try.prog 15 #[.agg #[.int .i64 L.per, .slice L.A L.ms.length L.cap, .slice A ns.length cap]] W _ from bigG_is L A ns.length cap W HL.out hnm r h)
  clear hl hn hc1 hc hnm hm hd1 hd
  obtain ⟨G, hG⟩ : ∃ G, bigG L.li ns.length = G := ⟨_, rfl⟩
  have HBB := Lib.hid hG
  clear hG
  obtain ⟨N, hN⟩ : ∃ N, N = ns.length := ⟨_, rfl⟩
  have HN := Lib.hid hN
  obtain ⟨M, hM⟩ : ∃ M, M = ms.length := ⟨_, rfl⟩
  have HM := Lib.hid hM
  rw [← hN] at hW C1 HBG HC1 HBB ⊢
  rw [← hM] at hW C2 HD1 hmm ⊢
  clear hN hM
  go_enter Try.func9, Try.ntmps9
  go_wp2_with fail
  rw [← hW]
  refine (HBG.out _ HBB.out).mono ?_; rintro e w1 ⟨rfl, hb1⟩
  have B1 := Lib.hid hb1
  have D := Lib.hid (blk_keep hb1 C1.out)
  have E := Lib.hid (blk_keep hb1 C2.out)
  have y2 := cell_of_blk E.out 2
  have hy0 := (Array.getElem?_eq_some_iff.1 E.out).1
  simp at y2
  have x0 := cell_of_blk D.out 0
  have x1 := cell_of_blk D.out 1
  have x2 := cell_of_blk D.out 2
  simp at x0 x1 x2
  have hsz1 := (Array.getElem?_eq_some_iff.1 D.out).1
  clear hb1 hW
  cases G with
  | true =>
    go_wp2_with fail
    refine (works2_any _).mono ?_; rintro e w2 ⟨rfl, hb2⟩
    go_wp2
    go_ret
    exact ⟨rfl, below_more (below_more HB.out B1.out) hb2⟩
  | false =>
    by_cases hbig : 210 < M
    · have hb0 : decide ((210 : Int) < (M : Int)) = true := decide_eq_true (by omega)
      go_wp2_with fail
      refine (works2_any _).mono ?_; rintro e w2 ⟨rfl, hb2⟩
      go_wp2
      go_ret
      exact ⟨rfl, below_more (below_more HB.out B1.out) hb2⟩
    have hb0 : decide ((210 : Int) < (M : Int)) = false := decide_eq_false (by omega)
    have HM2 := Lib.hid (show M ≤ 210 by omega)
    have M1 := Lib.hid (HMS.out.below B1.out)
    have HNB := Lib.hid (not_bigG (L := L) HBB.out)
    have L1 := Lib.hid (HL.out.below B1.out)
    have N1 := Lib.hid (HNS.out.below B1.out)
    clear x0 x1 x2 hsz1 hbig hmm
    have BC := Lib.hid (Below.refl w1.heap.size w1)
    obtain ⟨⟨zs0, er0⟩, hQ0⟩ : ∃ q, q = spliceQ L.li ns f t ms := ⟨_, rfl⟩
    have HQ0 := Lib.hid hQ0
    have HLN0 := Lib.hid (show zs0.length ≤ 1000000 by have := spliceQ_len L.li ns f t ms; rw [← hQ0] at this; dsimp only at this; omega)
    clear hQ0
    have HK := Lib.hid (fun w' (hb : Below w1.heap.size w1 w') => show w'.cell? ⟨w.heap.size, 0, none⟩ = some (.int .i64 L.per) ∧ w'.cell? ⟨w.heap.size, 1, none⟩ = some (.slice L.A L.ms.length L.cap) ∧ w'.cell? ⟨w.heap.size, 2, none⟩ = some (.slice A N cap) ∧ w'.cell? ⟨w.heap.size + 1, 0, none⟩ = some (.int .i64 f) ∧ w'.cell? ⟨w.heap.size + 1, 1, none⟩ = some (.int .i64 t) ∧ w'.cell? ⟨w.heap.size + 1, 2, none⟩ = some (.slice B M cb) ∧ Below w1.heap.size w1 w' from
      ⟨cell_of_blk (blk_keep hb D.out) 0, cell_of_blk (blk_keep hb D.out) 1, cell_of_blk (blk_keep hb D.out) 2, cell_of_blk (blk_keep hb E.out) 0, cell_of_blk (blk_keep hb E.out) 1, cell_of_blk (blk_keep hb E.out) 2, hb⟩)
    have HDR := Lib.hid (show Below w1.heap.size w1 w1.drew from (Below.refl _ _).drew)
    have HSB := Lib.hid (fun wx (h : wx.cell? ⟨w.heap.size, 0, none⟩ = some (.int .i64 L.per) ∧ wx.cell? ⟨w.heap.size, 1, none⟩ = some (.slice L.A L.ms.length L.cap) ∧ wx.cell? ⟨w.heap.size, 2, none⟩ = some (.slice A N cap) ∧ wx.cell? ⟨w.heap.size + 1, 0, none⟩ = some (.int .i64 f) ∧ wx.cell? ⟨w.heap.size + 1, 1, none⟩ = some (.int .i64 t) ∧ wx.cell? ⟨w.heap.size + 1, 2, none⟩ = some (.slice B M cb) ∧ Below w1.heap.size w1 wx) => h.2.2.2.2.2.2)
    have HLS := Lib.hid (fun wx (hb : Below w1.heap.size w1 wx) => show Calls Try.prog 17 #[.agg #[.int .i64 L.per, .slice L.A L.ms.length L.cap, .slice A N cap]] wx (GotListX wx L.li) from
      (list2_any L A N cap wx (L1.out.below (below_more BC.out hb)) (by have := HNB.out.2.1; omega) (fun m hm => by have := (HNB.out.2.2 m hm).1; omega)).mono fun _ _ h => h.x)
    have HTX := Lib.hid (fun wx (hb : Below w1.heap.size w1 wx) => show Calls Try.prog 18 #[.agg #[.int .i64 L.per, .slice L.A L.ms.length L.cap, .slice A N cap]] wx (GotTextX wx ns) by
      have := text2_any L A cap ns wx (N1.out.below (below_more BC.out hb)) (by rw [← HN.out]; exact HC1.out) HCM.out (by rw [← HN.out]; have := HNB.out.1; omega)
      rw [← HN.out] at this; exact this.mono fun _ _ h => h.x)
    have HCP := Lib.hid (fun wx (hb : Below w1.heap.size w1 wx) => show Calls Try.prog 42 #[.agg #[.slice B M cb]] wx (GotTextX wx ms) by
      have := rcopyT_any B cb ms wx (M1.out.below hb) (by rw [← HM.out]; exact HD1.out) HDM.out (by rw [← HM.out]; have := HM2.out; omega)
      rw [← HM.out] at this; exact this.mono fun _ _ h => h.x)
    have HPJ := Lib.hid (fun wx (pm : Int) (mm : List Sm) (Am : Option Addr) (km cm : Nat) (hkm : km = mm.length) (hok : LmOk wx ⟨pm, mm, Am, cm⟩) (hli : (Lm.mk pm mm Am cm).li = L.li) (A2 : Option Addr) (k2 c2 : Nat) (hk : k2 = ns.length) (hn : NdsAt wx A2 ns) (h1 : k2 ≤ c2) (h2 : c2 ≤ maxLen) (A3 : Option Addr) (k3 c3 : Nat) (hk3 : k3 = ms.length) (hn3 : NdsAt wx A3 ms) (h3 : k3 ≤ c3) (h4 : c3 ≤ maxLen) => show Calls Try.prog 47 #[.agg #[.int .i64 pm, .slice Am km cm], .agg #[.slice A2 k2 c2], .int .i64 f, .int .i64 t, .agg #[.slice A3 k3 c3]] wx (GotTextO wx zs0 er0) by
      subst hk hkm hk3
      have := spliceP_any ⟨pm, mm, Am, cm⟩ A2 c2 ns f t A3 c3 ms wx hok hn h1 h2 hn3 h3 h4
      rw [hli, ← HQ0.out] at this; exact this)
    go_wp2_with fail
    go_cut [5, 6] (fun p q wx => ∃ x, p = .pointer (some ⟨x, 0, none⟩) ∧ q = .int .i64 er0 ∧ Hid (TBox w1 wx x zs0))
    case first =>
      go_region_held3 (fun w' => w'.cell? ⟨w.heap.size, 0, none⟩ = some (.int .i64 L.per) ∧ w'.cell? ⟨w.heap.size, 1, none⟩ = some (.slice L.A L.ms.length L.cap) ∧ w'.cell? ⟨w.heap.size, 2, none⟩ = some (.slice A N cap) ∧ w'.cell? ⟨w.heap.size + 1, 0, none⟩ = some (.int .i64 f) ∧ w'.cell? ⟨w.heap.size + 1, 1, none⟩ = some (.int .i64 t) ∧ w'.cell? ⟨w.heap.size + 1, 2, none⟩ = some (.slice B M cb) ∧ Below w1.heap.size w1 w')
        (((refine HK.out _ ?_; first | assumption | exact HDR.out | (repeat (first | exact Below.refl _ _ | assumption | refine Below.drew ?_ | refine Below.alloc ?_ (by first | omega | (simp; omega) | simp) _ | refine Below.setCell ?_ (by first | omega | (simp; omega) | simp) _)))))
        (first
        | (go_at_call 17; refine (HLS.out _ (HSB.out _ (by assumption))).mono ?_; rintro e wl ⟨pm, mm, Am, km, cm, rfl, hkm, hokl, hlil, hbl⟩; have hbwl := below_more (HSB.out _ (by assumption)) hbl; have hzl := hbwl.size; have hyl := hbl.size; (try simp at hyl); (try (have hqwl0 : w1.heap.size < wl.heap.size := by omega)); have HBl := Lib.hid hbl; have hltl := fun b hb => Nat.lt_of_lt_of_le (n := b) hb hbl.size; obtain ⟨hcl, hfl⟩ := bcell hbl; clear hbl)
        | (go_at_call 18; refine (HTX.out _ (HSB.out _ (by assumption))).mono ?_; rintro e wt ⟨A2, kt, c2, rfl, hkt, hnt, hkc, hcm, hbt⟩; have hbwt := below_more (HSB.out _ (by assumption)) hbt; have hzt := hbwt.size; have hyt := hbt.size; (try simp at hyt); (try (have hqwt0 : w1.heap.size < wt.heap.size := by omega)); (try (have hqwt1 : wl.heap.size < wt.heap.size := by omega)); have HBt := Lib.hid hbt; have hltt := fun b hb => Nat.lt_of_lt_of_le (n := b) hb hbt.size; obtain ⟨hct, hft⟩ := bcell hbt; have hlt2 : Below wl.heap.size wl wt := (by first | exact hbt | exact below_of hbt | exact below_of (below_of hbt)); clear hbt)
        | (go_at_call 42; refine (HCP.out _ (HSB.out _ (by assumption))).mono ?_; rintro e wt2 ⟨A3, kt2, c3, rfl, hkt2, hnt2, hkc2, hcm2, hbt2⟩; have hbwt2 := below_more (HSB.out _ (by assumption)) hbt2; have hzt2 := hbwt2.size; have hyt2 := hbt2.size; (try simp at hyt2); (try (have hqwt20 : w1.heap.size < wt2.heap.size := by omega)); (try (have hqwt21 : wl.heap.size < wt2.heap.size := by omega)); (try (have hqwt22 : wt.heap.size < wt2.heap.size := by omega)); have HBt2 := Lib.hid hbt2; have hltt2 := fun b hb => Nat.lt_of_lt_of_le (n := b) hb hbt2.size; obtain ⟨hct2, hft2⟩ := bcell hbt2; have hlt3 : Below wt.heap.size wt wt2 := (by first | exact hbt2 | exact below_of hbt2 | exact below_of (below_of hbt2)); clear hbt2)
        | (go_at_call 47; refine (HPJ.out _ pm mm Am km cm hkm.out (hokl.out.below (below_more hlt2 (below_more hlt3 (by first | exact Below.refl _ _ | exact below_alloc _ _ | exact (below_alloc _ _).drew | exact two_under _ _ _)))) hlil.out A2 kt c2 hkt.out (hnt.out.below (below_more hlt3 (by first | exact Below.refl _ _ | exact below_alloc _ _ | exact (below_alloc _ _).drew | exact two_under _ _ _))) hkc hcm A3 kt2 c3 hkt2.out (hnt2.out.below (by first | exact Below.refl _ _ | exact below_alloc _ _ | exact (below_alloc _ _).drew | exact two_under _ _ _)) hkc2 hcm2).mono ?_; rintro e wp0 ⟨Ap0, kp0, cp0, rfl, hkp0, hip0, hbp0⟩; have hbwp0 := below_more (HSB.out _ (by assumption)) hbp0; have hzp0 := hbwp0.size; have hyp0 := hbp0.size; (try simp at hyp0); (try (have hqwp00 : w1.heap.size < wp0.heap.size := by omega)); (try (have hqwp01 : wl.heap.size < wp0.heap.size := by omega)); (try (have hqwp02 : wt.heap.size < wp0.heap.size := by omega)); (try (have hqwp03 : wt2.heap.size < wp0.heap.size := by omega)); have HBp0 := Lib.hid hbp0; have hltp0 := fun b hb => Nat.lt_of_lt_of_le (n := b) hb hbp0.size; obtain ⟨hcp0, hfp0⟩ := bcell hbp0; clear hbp0))
      all_goals go_wp2
      all_goals go_meet
      all_goals refine ⟨_, rfl, rfl, Lib.hid ?_⟩
      all_goals first
        | (refine tbox_of2 (wp0) ?_ HBl HBt HBt2 HBp0 hkp0 hip0 ?_ ?_ ?_ ?_ ?_ ?_; (first | with_reducible rfl | (simp [go_sem] <;> fail) | (simp [go_sem, *] <;> fail) | (go_simp <;> fail)))
        | (refine tbox_of2 (wp0.alloc (.cells #[.slice none 0 0] 27)) ?_ HBl HBt HBt2 HBp0 hkp0 hip0 ?_ ?_ ?_ ?_ ?_ ?_; (first | with_reducible rfl | (simp [go_sem] <;> fail) | (simp [go_sem, *] <;> fail) | (go_simp <;> fail)))
      all_goals first
        | exact .inl ⟨heap_alloc_new _ _, by simp⟩
        | exact .inr (.inl ⟨heap_alloc_new _ _, by simp⟩)
        | exact .inr (.inr (.inl ⟨heap_alloc_new _ _, by simp⟩))
        | exact .inr (.inr (.inr (.inl ⟨heap_alloc_new _ _, by simp⟩)))
        | exact .inr (.inr (.inr (.inr ⟨heap_alloc_new _ _, by simp⟩)))
        | (repeat (first | exact Below.refl _ _ | refine Below.drew ?_ | refine Below.alloc ?_ (by simp) _))
    case rest =>
    obtain ⟨x0, rfl, rfl, hbox⟩ := hcut
    obtain ⟨wp0, rfl⟩ : ∃ w, w = wc := ⟨_, rfl⟩
    obtain ⟨Ap0, kp0, cp0, hbw, hbx, hk, hi⟩ := hbox.out
    have Hp0 := Lib.hid hi
    have Kp0 := Lib.hid hk
    have Dx0 := Lib.hid hbx
    have BC := Lib.hid (below_more BC.out hbw)
    have D := Lib.hid (blk_keep hbw D.out)
    have E := Lib.hid (blk_keep hbw E.out)
    clear HK HDR HSB HLS HTX HCP HPJ hbox hbw hbx hk hi
    have x0 := cell_of_blk D.out 0
    have x1 := cell_of_blk D.out 1
    have x2 := cell_of_blk D.out 2
    have y0 := cell_of_blk E.out 0
    have y1 := cell_of_blk E.out 1
    have y2 := cell_of_blk E.out 2
    have hx0 := (Array.getElem?_eq_some_iff.1 D.out).1
    have hy0 := (Array.getElem?_eq_some_iff.1 E.out).1
    simp at x0 x1 x2 y0 y1 y2
    have HRJ := Lib.hid (show Calls Try.prog 48 #[.agg #[.int .i64 L.per, .slice L.A L.ms.length L.cap], .agg #[.slice A N cap], .int .i64 f, .int .i64 t, .agg #[.slice B M cb]] wp0 (GotTextO wp0 zs0 er0) by
      have := rsplice_any L A cap ns f t B cb ms wp0 (L1.out.below BC.out) (N1.out.below BC.out) (by rw [← HN.out]; exact HC1.out) HCM.out (M1.out.below BC.out) (by rw [← HM.out]; exact HD1.out) HDM.out
      rw [← HQ0.out, ← HN.out, ← HM.out] at this; exact this)
    go_wp2_with fail
    refine HRJ.out.mono ?_; rintro e wr0 ⟨Ar0, kr0, cr0, rfl, hkr0, hir0, hbr0⟩
    have Hr0 := Lib.hid (own_nodes hir0.out)
    have Kr0 := Lib.hid hkr0.out
    have Hp0 := Lib.hid (Hp0.out.below hbr0)
    have Dx0 := Lib.hid (blk_keep hbr0 Dx0.out)
    have BC := Lib.hid (below_more BC.out hbr0)
    have D := Lib.hid (blk_keep hbr0 D.out)
    clear HRJ hbr0 hir0 hkr0 x0 x1 x2 y0 y1 y2 hx0 hy0
    have HY := Lib.hid (below_alloc wr0 (.cells #[.slice Ar0 kr0 cr0] 27))
    have Dy0 := Lib.hid (heap_alloc_new wr0 (.cells #[.slice Ar0 kr0 cr0] 27))
    have tx := cell_of_blk Dx0.out 0
    have tx0 := (Array.getElem?_eq_some_iff.1 Dx0.out).1
    simp at tx
    go_wp2_with fail
    clear tx tx0
    obtain ⟨wy0, hwy⟩ : ∃ wy, wy = wr0.alloc (.cells #[.slice Ar0 kr0 cr0] 27) := ⟨_, rfl⟩
    rw [← hwy] at HY Dy0 ⊢
    have Hp0 := Lib.hid (Hp0.out.below HY.out)
    have Dx0 := Lib.hid (blk_keep HY.out Dx0.out)
    have Hr0 := Lib.hid (Hr0.out.below HY.out)
    have BC := Lib.hid (below_more BC.out HY.out)
    have D := Lib.hid (blk_keep HY.out D.out)
    clear HY hwy
    have HSJ := Lib.hid (show Calls Try.prog 22 #[.agg #[.slice Ap0 kp0 cp0], .agg #[.slice Ar0 kr0 cr0]] wy0 (fun e w' => e = .returned (.bool true) ∧ Below wy0.heap.size wy0 w') from
      rsameT_eq _ _ _ _ _ _ zs0 wy0 Kp0.out Kr0.out Hp0.out Hr0.out HLN0.out)
    refine HSJ.out.mono ?_; rintro e ws0 ⟨rfl, hbs⟩
    have Hp0 := Lib.hid (Hp0.out.below hbs)
    have Dx0 := Lib.hid (blk_keep hbs Dx0.out)
    have Hr0 := Lib.hid (Hr0.out.below hbs)
    have Dy0 := Lib.hid (blk_keep hbs Dy0.out)
    have BC := Lib.hid (below_more BC.out hbs)
    clear HSJ hbs
    go_wp2_with fail
    refine (works2_any _).mono ?_; rintro e wz ⟨rfl, hbz⟩
    go_wp2
    go_ret
    exact ⟨rfl, below_more HB.out (below_more B1.out (below_more BC.out hbz))⟩

end Go.Proofs.Ytilagndfohnjnaa
