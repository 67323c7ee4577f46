/-
  Contract of the law of Hit and Crossing: it returns true.
-/
import Derived.Test.YthnplpbfdiajaaaGreatWk4
import Derived.Test.YthnplpbfdiajaaaGreatGaN
import Derived.Test.YthnplpbfdiajaaaGreatGaP
import Derived.Test.YthnplpbfdiajaaaGreatGaQ
import Derived.Test.YthnplpbfdiajaaaGreatCrs
namespace Go.Proofs.YthnplpbfdiajaaaGreat
open Go.RowKit

set_option maxRecDepth 100000 in
set_option maxHeartbeats 32000000 in
theorem law_ghits (A : Option Addr) (cap : Nat) (bs : List Bx) (x1 x2 y1 y2 : Int) (w : World) (hb : BxsAt w A bs) (hc1 : bs.length ≤ cap) (hc : cap ≤ maxLen) :
    Calls Tryz.prog 9 #[.slice A bs.length cap, .agg #[.int .i64 x1, .int .i64 x2], .agg #[.int .i64 y1, .int .i64 y2]] w fun e w' => e = .returned (.bool true) ∧ Below w.heap.size w w' := by
  have HWK := Lib.hid works4_any
  by_cases h210 : 210 < bs.length
  · obtain ⟨N, hN⟩ : ∃ N, N = bs.length := ⟨_, rfl⟩
    rw [← hN] at hc1 h210 ⊢
    have hd : decide ((210 : Int) < (N : Int)) = true := decide_eq_true (by omega)
    unfold maxLen at hc
    clear hb hN
    obtain ⟨W, hW⟩ : ∃ W, W = (w.alloc (.cells #[.int .i64 x1, .int .i64 x2] 40)).alloc (.cells #[.int .i64 y1, .int .i64 y2] 40) := ⟨_, rfl⟩
    have HB := Lib.hid (show Below w.heap.size w W from hW ▸ two_under _ _ _)
    go_enter Tryz.func9, Tryz.ntmps9
    go_wp2_with fail
    rw [← hW]
    clear hW
    refine (HWK.out _).mono ?_; rintro e w4 ⟨rfl, hb4⟩
    go_wp2_with fail
    go_ret
    exact ⟨rfl, below_more HB.out hb4⟩
  have hsm : bs.length ≤ 1000000 := by omega
  have HCP := Lib.hid (fun wx (hbx : Below w.heap.size w wx) => copied_any A cap bs wx (hb.below hbx) hc1 hc hsm)
  obtain ⟨⟨H, E⟩, hH⟩ : ∃ r, r = hitR bs ⟨x1, x2⟩ ⟨y1, y2⟩ := ⟨_, rfl⟩
  obtain ⟨⟨P, G⟩, hP⟩ : ∃ r, r = crossR bs := ⟨_, rfl⟩
  have HH := Lib.hid (fun (Ac : Option Addr) (cc : Nat) wx (hbx : BxsAt wx Ac bs) (h1 : bs.length ≤ cc) (h2 : cc ≤ maxLen) => show Calls Tryz.prog 39 #[.slice Ac bs.length cc, .agg #[.int .i64 x1, .int .i64 x2], .agg #[.int .i64 y1, .int .i64 y2]] wx (GotNs wx H.length H E) by
    have := hit_any Ac cc bs x1 x2 y1 y2 wx hbx h1 h2; rw [← hH] at this; exact this.mono fun e w' h => gotNs h)
  have HRH := Lib.hid (fun wx (hbx : Below w.heap.size w wx) => show Calls Tryz.prog 40 #[.slice A bs.length cap, .agg #[.int .i64 x1, .int .i64 x2], .agg #[.int .i64 y1, .int .i64 y2]] wx (GotNs wx H.length H E) by
    have := rhit_any A cap bs x1 x2 y1 y2 wx (hb.below hbx) hc1 hc; rw [← hH] at this; exact this.mono fun e w' h => gotNs h)
  have HC := Lib.hid (fun (Ac : Option Addr) (cc : Nat) wx (hbx : BxsAt wx Ac bs) (h1 : bs.length ≤ cc) (h2 : cc ≤ maxLen) => show Calls Tryz.prog 41 #[.slice Ac bs.length cc] wx (GotPs wx P.length P G) by
    have := crs_any Ac cc bs wx hbx h1 h2; rw [← hP] at this; exact this.mono fun e w' h => gotPs h)
  have HRC := Lib.hid (fun wx (hbx : Below w.heap.size w wx) => show Calls Tryz.prog 42 #[.slice A bs.length cap] wx (GotPs wx P.length P G) by
    have := rcrs_any A cap bs wx (hb.below hbx) hc1 hc; rw [← hP] at this; exact this.mono fun e w' h => gotPs h)
  have hHl : H.length ≤ 210 := by have := hitR_len bs ⟨x1, x2⟩ ⟨y1, y2⟩; rw [← hH] at this; have : H.length ≤ bs.length := this; omega
  have hPl : P.length ≤ 44100 := by have := crossR_len bs (by omega); rw [← hP] at this; exact this
  obtain ⟨N, hN⟩ : ∃ N, N = bs.length := ⟨_, rfl⟩
  obtain ⟨L, hL⟩ : ∃ L, L = H.length := ⟨_, rfl⟩
  obtain ⟨M, hM⟩ : ∃ M, M = P.length := ⟨_, rfl⟩
  rw [← hN] at HCP HH HRH HC HRC hc1 hsm h210 ⊢
  rw [← hL] at HH HRH hHl
  rw [← hM] at HC HRC hPl
  have HL := Lib.hid hL
  have HM := Lib.hid hM
  have HOB := Lib.hid (fun (wx : World) (base : Nat) (Ac : Option Addr) (cc : Nat) (h : wx.ownsRow base 82 15 (.slice Ac N cc) N (bs.flatMap Bx.cells)) => show BxsAt wx Ac bs ∧ N ≤ cc ∧ cc ≤ maxLen from by
    obtain ⟨A2, c2, hv, h3, h4, -, -⟩ := own_slice h
    injection hv with e1 e2 e3
    subst e1 e3
    exact ⟨own_boxes h, h3, h4⟩)
  have hd : decide ((210 : Int) < (N : Int)) = false := decide_eq_false (by omega)
  unfold maxLen at hc
  clear hb hH hP hN hL hM h210 hsm
  obtain ⟨W, hW⟩ : ∃ W, W = (w.alloc (.cells #[.int .i64 x1, .int .i64 x2] 40)).alloc (.cells #[.int .i64 y1, .int .i64 y2] 40) := ⟨_, rfl⟩
  have HB := Lib.hid (show Below w.heap.size w W from hW ▸ two_under _ _ _)
  have D0 := Lib.hid (show W.heap[w.heap.size]? = some (.cells #[.int .i64 x1, .int .i64 x2] 40 (0, 0)) by rw [hW, heap_alloc_other _ _ _ (by simp)]; exact heap_alloc_new _ _)
  have D1 := Lib.hid (show W.heap[w.heap.size + 1]? = some (.cells #[.int .i64 y1, .int .i64 y2] 40 (0, 0)) by rw [hW]; have := heap_alloc_new (w.alloc (.cells #[.int .i64 x1, .int .i64 x2] 40)) (.cells #[.int .i64 y1, .int .i64 y2] 40); simpa using this)
  go_enter Tryz.func9, Tryz.ntmps9
  go_wp2_with fail
  rw [← hW]
  clear hW
  go_wp2_with fail
  have HKD := Lib.hid (fun wx (hb : Below W.heap.size W wx) => show wx.cell? ⟨w.heap.size, 0, none⟩ = some (.int .i64 x1) ∧ wx.cell? ⟨w.heap.size, 1, none⟩ = some (.int .i64 x2) ∧ wx.cell? ⟨w.heap.size + 1, 0, none⟩ = some (.int .i64 y1) ∧ wx.cell? ⟨w.heap.size + 1, 1, none⟩ = some (.int .i64 y2) ∧ Below W.heap.size W wx from
    ⟨by have := cell_of_blk (blk_keep hb D0.out) 0; simpa using this, by have := cell_of_blk (blk_keep hb D0.out) 1; simpa using this, by have := cell_of_blk (blk_keep hb D1.out) 0; simpa using this, by have := cell_of_blk (blk_keep hb D1.out) 1; simpa using this, hb⟩)
  have HDR := Lib.hid (show Below W.heap.size W W.drew from (Below.refl _ _).drew)
  have HSB := Lib.hid (fun wx (h : wx.cell? ⟨w.heap.size, 0, none⟩ = some (.int .i64 x1) ∧ wx.cell? ⟨w.heap.size, 1, none⟩ = some (.int .i64 x2) ∧ wx.cell? ⟨w.heap.size + 1, 0, none⟩ = some (.int .i64 y1) ∧ wx.cell? ⟨w.heap.size + 1, 1, none⟩ = some (.int .i64 y2) ∧ Below W.heap.size W wx) => h.2.2.2.2)
  have HCD := Lib.hid (fun wx (hb : Below W.heap.size W wx) => HCP.out wx (below_more HB.out hb))
  go_region_held3 (fun wx => wx.cell? ⟨w.heap.size, 0, none⟩ = some (.int .i64 x1) ∧ wx.cell? ⟨w.heap.size, 1, none⟩ = some (.int .i64 x2) ∧ wx.cell? ⟨w.heap.size + 1, 0, none⟩ = some (.int .i64 y1) ∧ wx.cell? ⟨w.heap.size + 1, 1, none⟩ = some (.int .i64 y2) ∧ Below W.heap.size W wx)
    (first | (refine HKD.out _ ?_; first | assumption | exact HDR.out))
    (first
      | (go_at_call 31; refine (HCD.out _ (HSB.out _ (by assumption))).mono ?_; rintro e w1 ⟨Ac, cc, rfl, own, hb1⟩; have hbw1 := below_more (HSB.out _ (by assumption)) hb1; have hc1' := HOB.out _ _ _ _ own)
      | (go_at_call 39; refine (HH.out _ _ _ hc1'.1 hc1'.2.1 hc1'.2.2).mono ?_; rintro e w2 ⟨A1, c1, rfl, hn1, hb2⟩; have hbw2 := below_more (HSB.out _ (by assumption)) hb2))
  have HB2 := Lib.hid hbw2
  have HN0 := Lib.hid hn1.out
  have HB := Lib.hid (below_more HB.out HB2.out)
  have D0 := Lib.hid (blk_keep HB2.out D0.out)
  have D1 := Lib.hid (blk_keep HB2.out D1.out)
  clear own hb1 hb2 hbw1 hbw2 hc1' hn1 HKD HDR HSB HCD HB2
  have x0 := cell_of_blk D0.out 0
  have x1' := cell_of_blk D0.out 1
  have y0 := cell_of_blk D1.out 0
  have y1' := cell_of_blk D1.out 1
  have hx := (Array.getElem?_eq_some_iff.1 D0.out).1
  have hy := (Array.getElem?_eq_some_iff.1 D1.out).1
  simp at x0 x1' y0 y1'
  go_wp2_with fail
  refine (HRH.out _ HB.out).mono ?_; rintro e w3 ⟨A2, c2, rfl, hn2, hb3⟩
  have HN1 := Lib.hid (HN0.out.below hb3)
  have HN2 := Lib.hid hn2.out
  have HB := Lib.hid (below_more HB.out hb3)
  clear hb3 HN0 hn2 D0 D1 x0 x1' y0 y1' hx hy
  go_wp2_with fail
  refine (HCP.out _ HB.out).mono ?_; rintro e w4 ⟨Ad, cd, rfl, own, hb4⟩
  have HC1 := Lib.hid (HOB.out _ _ _ _ own)
  have HN1 := Lib.hid (HN1.out.below hb4)
  have HN2 := Lib.hid (HN2.out.below hb4)
  have HB := Lib.hid (below_more HB.out hb4)
  clear own hb4
  go_wp2_with fail
  refine (HC.out _ _ _ HC1.out.1 HC1.out.2.1 HC1.out.2.2).mono ?_; rintro e w5 ⟨A3, c3, rfl, hp3, hb5⟩
  have HN1 := Lib.hid (HN1.out.below hb5)
  have HN2 := Lib.hid (HN2.out.below hb5)
  have HB := Lib.hid (below_more HB.out hb5)
  clear hb5 HC1
  go_wp2_with fail
  refine (HRC.out _ HB.out).mono ?_; rintro e w6 ⟨A4, c4, rfl, hp4, hb6⟩
  have HN1 := Lib.hid (HN1.out.below hb6)
  have HN2 := Lib.hid (HN2.out.below hb6)
  have HP1 := Lib.hid (hp3.out.below hb6)
  have HP2 := Lib.hid hp4.out
  have HB := Lib.hid (below_more HB.out hb6)
  clear hb6 hp3 hp4
  have hee : (E != E) = false := by simp
  have hgg : (G != G) = false := by simp
  have hmm : ((M : Int) != (M : Int)) = false := by simp
  go_wp2_with fail
  refine (sameN_eq A1 A2 L c1 c2 H _ HL.out HN1.out HN2.out (by omega)).mono ?_; rintro e w7 ⟨rfl, hb7⟩
  have HP1 := Lib.hid (HP1.out.below hb7)
  have HP2 := Lib.hid (HP2.out.below hb7)
  have HB := Lib.hid (below_more HB.out hb7)
  clear hb7 HN1 HN2 HL
  go_wp2_with fail
  go_loopw [15] (fun i wr => ∃ k : Nat, k ≤ M ∧ i = .int .i64 k ∧ Hid (Below w7.heap.size w7 wr)) (fun i _ => M - (intOf i).toNat)
  case atStart => exact ⟨0, Nat.zero_le _, rfl, Lib.hid (Below.refl _ _)⟩
  case round =>
    obtain ⟨k, hk, rfl, hbw⟩ := hrel
    have HBR := Lib.hid hbw.out
    clear hbw
    by_cases hlt : k < M
    · obtain ⟨z, hz⟩ : ∃ z, P[k]? = some z := ⟨_, List.getElem?_eq_getElem (by have := HM.out; omega)⟩
      obtain ⟨g, o, e1, hg, x0, x1'⟩ := (HP1.out.below HBR.out) k z hz
      obtain ⟨g', o', e2, hg', y0, y1'⟩ := (HP2.out.below HBR.out) k z hz
      subst e1 e2
      obtain ⟨za, zb⟩ := z
      dsimp only at x0 x1' y0 y1'
      have he := fun wx => eqPr za zb wx
      have hki : (0 : Int) ≤ (k : Int) := by omega
      have hkl : (k : Int) < (M : Int) := by omega
      clear hz
      go_wp2_with fail
      refine wp_region_later (by kernel_rfl) (by kernel_rfl) ?_; (repeat (first | go_big_quiet_step (fail) | quiet_step (fail))); refine wpQuiet_nil ?_; rintro _ ⟨s, rfl⟩
      have HB9 := Lib.hid (HBR.out.trans (s.below.mono HBR.out.size))
      go_wp2_with fail
      go_roundw
      case rel => exact ⟨k + 1, by omega, by go_num, HB9⟩
      case measure => simp [intOf]; omega
    · obtain rfl : k = M := by omega
      go_wp2_with fail
      refine (HWK.out _).mono ?_; rintro e w9 ⟨rfl, hb9⟩
      go_wp2_with fail
      go_ret
      exact ⟨rfl, below_more (below_more HB.out HBR.out) hb9⟩

end Go.Proofs.YthnplpbfdiajaaaGreat
