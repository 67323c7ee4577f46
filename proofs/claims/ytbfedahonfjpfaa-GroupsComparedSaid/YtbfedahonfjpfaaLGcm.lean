/-
  Contract of the law of Same and Alike: it returns true.
-/
import Derived.Test.YtbfedahonfjpfaaPkE
import Derived.Test.YtbfedahonfjpfaaPkK
import Derived.Deep.RegionHeld3
namespace Go.Proofs.Ytbfedahonfjpfaa
open Go.RowKit

set_option maxHeartbeats 6400000 in
set_option maxRecDepth 100000 in
theorem law_gcompared (L : Lm) (A : Option Addr) (cap : Nat) (ns : List Nd) (B : Option Addr) (cb : Nat) (ms : List Nd) (w : World) (hl : LmOk w L) (hn : NdsAt w A ns) (hc1 : ns.length ≤ cap) (hc : cap ≤ maxLen) (hm : NdsAt w B ms) (hd1 : ms.length ≤ cb) (hd : cb ≤ maxLen) :
    Calls Try.prog 7 #[.agg #[.int .i64 L.per, .slice L.A L.ms.length L.cap, .slice A ns.length cap], .agg #[.slice B ms.length cb]] w fun e w' => e = .returned (.bool true) ∧ Below w.heap.size w w' := by
  obtain ⟨W, hW⟩ : ∃ W, W = (w.alloc (.cells #[.int .i64 L.per, .slice L.A L.ms.length L.cap, .slice A ns.length cap] 29)).alloc (.cells #[.slice B ms.length cb] 27) := ⟨_, rfl⟩
  have HB := Lib.hid (show Below w.heap.size w W from hW ▸ two_under _ _ _)
  have C1 := Lib.hid (show W.heap[w.heap.size]? = some (.cells #[.int .i64 L.per, .slice L.A L.ms.length L.cap, .slice A ns.length cap] 29 (0, 0)) by
    rw [hW, heap_alloc_other _ _ _ (by simp)]; exact heap_alloc_new _ _)
  have C2 := Lib.hid (show W.heap[w.heap.size + 1]? = some (.cells #[.slice B ms.length cb] 27 (0, 0)) by
    rw [hW]; have := heap_alloc_new (w.alloc (.cells #[.int .i64 L.per, .slice L.A L.ms.length L.cap, .slice A ns.length cap] 29)) (.cells #[.slice B ms.length cb] 27); simpa using this)
  have HL := Lib.hid (hl.below HB.out)
  have HNS := Lib.hid (hn.below HB.out)
  have HMS := Lib.hid (hm.below HB.out)
  have HC1 := Lib.hid hc1
  have HCM := Lib.hid hc
  have HD1 := Lib.hid hd1
  have HDM := Lib.hid hd
  have hnm : ns.length ≤ maxLen := Nat.le_trans hc1 hc
  have hmm : ms.length ≤ 9223372036854775807 := by have := Nat.le_trans hd1 hd; unfold maxLen at this; exact this
  have HBG := Lib.hid (fun r (h : bigG L.li ns.length = r) => show Calls Try.prog 15 #[.agg #[.int .i64 L.per, .slice L.A L.ms.length L.cap, .slice A ns.length cap]] W _ from bigG_is L A ns.length cap W HL.out hnm r h)
  clear hl hn hc1 hc hnm hm hd1 hd
  obtain ⟨G, hG⟩ : ∃ G, bigG L.li ns.length = G := ⟨_, rfl⟩
  have HBB := Lib.hid hG
  clear hG
  obtain ⟨N, hN⟩ : ∃ N, N = ns.length := ⟨_, rfl⟩
  have HN := Lib.hid hN
  obtain ⟨M, hM⟩ : ∃ M, M = ms.length := ⟨_, rfl⟩
  have HM := Lib.hid hM
  rw [← hN] at hW C1 HBG HC1 HBB ⊢
  rw [← hM] at hW C2 HD1 hmm ⊢
  clear hN hM
  go_enter Try.func7, Try.ntmps7
  go_wp2_with fail
  rw [← hW]
  refine (HBG.out _ HBB.out).mono ?_; rintro e w1 ⟨rfl, hb1⟩
  have B1 := Lib.hid hb1
  have D := Lib.hid (blk_keep hb1 C1.out)
  have T := Lib.hid (blk_keep hb1 C2.out)
  have y0 := cell_of_blk T.out 0
  have hy0 := (Array.getElem?_eq_some_iff.1 T.out).1
  simp at y0
  clear hb1 hW
  have HWK := Lib.hid (fun (wx : World) (hb : Below w1.heap.size w1 wx) => (works2_any wx).mono (R' := fun e w' => e = .returned (.bool true) ∧ Below w.heap.size w w') fun e w' h => ⟨h.1, below_more (below_more (below_more HB.out B1.out) hb) h.2⟩)
  cases G with
  | true =>
    go_wp2_with fail
    refine (HWK.out _ (Below.refl _ _)).mono ?_; rintro e w2 ⟨rfl, hb2⟩
    go_wp2
    go_ret
    exact ⟨rfl, hb2⟩
  | false =>
  by_cases hbig : 210 < M
  · have hb0 : decide ((210 : Int) < (M : Int)) = true := decide_eq_true (by omega)
    go_wp2_with fail
    refine (HWK.out _ (Below.refl _ _)).mono ?_; rintro e w2 ⟨rfl, hb2⟩
    go_wp2
    go_ret
    exact ⟨rfl, hb2⟩
  have hb0 : decide ((210 : Int) < (M : Int)) = false := decide_eq_false (by omega)
  have HNB := Lib.hid (not_bigG (L := L) HBB.out)
  have HM2 := Lib.hid (show M ≤ 210 by omega)
  have L1 := Lib.hid (HL.out.below B1.out)
  have N1 := Lib.hid (HNS.out.below B1.out)
  have M1 := Lib.hid (HMS.out.below B1.out)
  obtain ⟨⟨q, er⟩, hQ⟩ : ∃ z, z = alikeQ L.li ns ms := ⟨_, rfl⟩
  have HQ := Lib.hid hQ
  obtain ⟨S, hS⟩ : ∃ S, eqUp ndEq ns ms = S := ⟨_, rfl⟩
  have HS := Lib.hid hS
  clear hQ hS hmm
  have HK := Lib.hid (fun w' (hb : Below w1.heap.size w1 w') => show w'.cell? ⟨w.heap.size, 0, none⟩ = some (.int .i64 L.per) ∧ w'.cell? ⟨w.heap.size, 1, none⟩ = some (.slice L.A L.ms.length L.cap) ∧ w'.cell? ⟨w.heap.size, 2, none⟩ = some (.slice A N cap) ∧ w'.cell? ⟨w.heap.size + 1, 0, none⟩ = some (.slice B M cb) ∧ Below w1.heap.size w1 w' from
    ⟨cell_of_blk (blk_keep hb D.out) 0, cell_of_blk (blk_keep hb D.out) 1, cell_of_blk (blk_keep hb D.out) 2, cell_of_blk (blk_keep hb T.out) 0, hb⟩)
  have HDR := Lib.hid (show Below w1.heap.size w1 w1.drew from (Below.refl _ _).drew)
  have HSB := Lib.hid (fun wx (h : wx.cell? ⟨w.heap.size, 0, none⟩ = some (.int .i64 L.per) ∧ wx.cell? ⟨w.heap.size, 1, none⟩ = some (.slice L.A L.ms.length L.cap) ∧ wx.cell? ⟨w.heap.size, 2, none⟩ = some (.slice A N cap) ∧ wx.cell? ⟨w.heap.size + 1, 0, none⟩ = some (.slice B M cb) ∧ Below w1.heap.size w1 wx) => h.2.2.2.2)
  have HLS := Lib.hid (fun wx (hb : Below w1.heap.size w1 wx) => show Calls Try.prog 17 #[.agg #[.int .i64 L.per, .slice L.A L.ms.length L.cap, .slice A N cap]] wx (GotListX wx L.li) from
    (list2_any L A N cap wx (L1.out.below hb) (by have := HNB.out.2.1; omega) (fun m hm => by have := (HNB.out.2.2 m hm).1; omega)).mono fun _ _ h => h.x)
  have HTX := Lib.hid (fun wx (hb : Below w1.heap.size w1 wx) => show Calls Try.prog 18 #[.agg #[.int .i64 L.per, .slice L.A L.ms.length L.cap, .slice A N cap]] wx (GotTextX wx ns) by
    have := text2_any L A cap ns wx (N1.out.below hb) (by rw [← HN.out]; exact HC1.out) HCM.out (by rw [← HN.out]; have := HNB.out.1; omega)
    rw [← HN.out] at this; exact this.mono fun _ _ h => h.x)
  have HCP := Lib.hid (fun wx (hb : Below w1.heap.size w1 wx) => show Calls Try.prog 42 #[.agg #[.slice B M cb]] wx (GotTextX wx ms) by
    have := rcopyT_any B cb ms wx (M1.out.below hb) (by rw [← HM.out]; exact HD1.out) HDM.out (by rw [← HM.out]; have := HM2.out; omega)
    rw [← HM.out] at this; exact this.mono fun _ _ h => h.x)
  have HPJ := Lib.hid (fun wx (pm : Int) (mm : List Sm) (Am : Option Addr) (km cm : Nat) (hkm : km = mm.length) (hok : LmOk wx ⟨pm, mm, Am, cm⟩) (hli : (Lm.mk pm mm Am cm).li = L.li) (A2 : Option Addr) (k2 c2 : Nat) (hk : k2 = ns.length) (hn : NdsAt wx A2 ns) (h1 : k2 ≤ c2) (h2 : c2 ≤ maxLen) (A3 : Option Addr) (k3 c3 : Nat) (hk3 : k3 = ms.length) (hn3 : NdsAt wx A3 ms) (h3 : k3 ≤ c3) (h4 : c3 ≤ maxLen) => show Calls Try.prog 41 #[.agg #[.int .i64 pm, .slice Am km cm], .agg #[.slice A2 k2 c2], .agg #[.slice A3 k3 c3]] wx (GotBE wx q er) by
    subst hk hkm hk3
    have := alikeP_any ⟨pm, mm, Am, cm⟩ A2 A3 c2 c3 ns ms wx hok hn hn3 h1 h2 h3 h4
    rw [hli, ← HQ.out] at this; exact this)
  go_wp2_with fail
  go_region_held3 (fun w' => w'.cell? ⟨w.heap.size, 0, none⟩ = some (.int .i64 L.per) ∧ w'.cell? ⟨w.heap.size, 1, none⟩ = some (.slice L.A L.ms.length L.cap) ∧ w'.cell? ⟨w.heap.size, 2, none⟩ = some (.slice A N cap) ∧ w'.cell? ⟨w.heap.size + 1, 0, none⟩ = some (.slice B M cb) ∧ Below w1.heap.size w1 w')
    ((refine HK.out _ ?_; first | assumption | exact HDR.out))
    (first
      | (go_at_call 17; refine (HLS.out _ (HSB.out _ (by assumption))).mono ?_; rintro e wl ⟨pm, mm, Am, km, cm, rfl, hkm, hokl, hlil, hbl⟩; have hbwl := below_more (HSB.out _ (by assumption)) hbl)
      | (go_at_call 18; refine (HTX.out _ (HSB.out _ (by assumption))).mono ?_; rintro e wt ⟨A2, kt, c2, rfl, hkt, hnt, hkc, hcm, hbt⟩; have hbwt := below_more (HSB.out _ (by assumption)) hbt)
      | (go_at_call 42; refine (HCP.out _ (HSB.out _ (by assumption))).mono ?_; rintro e wk ⟨A3, kk, c3, rfl, hkk, hnk, hkk2, hck, hbk⟩; have hbwk := below_more (HSB.out _ (by assumption)) hbk)
      | (go_at_call 41; refine (HPJ.out _ pm mm Am km cm hkm.out ((hokl.out.below hbt).below hbk) hlil.out A2 kt c2 hkt.out (hnt.out.below hbk) hkc hcm A3 kk c3 hkk.out hnk.out hkk2 hck).mono ?_; rintro e wp ⟨rfl, hbp⟩; have hbwp := below_more (HSB.out _ (by assumption)) hbp))
  have BC := Lib.hid hbwp
  have D2 := Lib.hid (blk_keep hbwp D.out)
  have T2 := Lib.hid (blk_keep hbwp T.out)
  clear HLS HPJ hbwl hbwt hbwk hbwp hbp hbl hbt hbk hkm hokl hlil hkt hnt hkc hcm hkk hnk hkk2 hck y0 hy0 hb0 hbig HDR
  have x0 := cell_of_blk D2.out 0
  have x1 := cell_of_blk D2.out 1
  have x2 := cell_of_blk D2.out 2
  have y0 := cell_of_blk T2.out 0
  have hx0 := (Array.getElem?_eq_some_iff.1 D2.out).1
  have hy0 := (Array.getElem?_eq_some_iff.1 T2.out).1
  simp at x0 x1 x2 y0
  have HRA := Lib.hid (show Calls Try.prog 43 #[.agg #[.int .i64 L.per, .slice L.A L.ms.length L.cap], .agg #[.slice A N cap], .agg #[.slice B M cb]] wp (GotBE wp q er) by
    have := ralike_any L A B cap cb ns ms wp (L1.out.below BC.out) (N1.out.below BC.out) (M1.out.below BC.out) (by rw [← HN.out]; exact HC1.out) HCM.out (by rw [← HM.out]; exact HD1.out) HDM.out
    rw [← HQ.out, ← HN.out, ← HM.out] at this; exact this)
  go_wp2_with fail
  refine HRA.out.mono ?_; rintro e wr ⟨rfl, hbr⟩
  have BR := Lib.hid (below_more BC.out hbr)
  clear hbr HRA x0 x1 x2 y0 hx0 hy0 BC D2 T2
  have HDR := Lib.hid (show Below w1.heap.size w1 wr.drew from BR.out.drew)
  have HSM := Lib.hid (fun wx (A2 : Option Addr) (k2 c2 : Nat) (hk : k2 = ns.length) (hn : NdsAt wx A2 ns) (A3 : Option Addr) (k3 c3 : Nat) (hk3 : k3 = ms.length) (hn3 : NdsAt wx A3 ms) => show Calls Try.prog 44 #[.agg #[.slice A2 k2 c2], .agg #[.slice A3 k3 c3]] wx (fun e w' => e = .returned (.bool S) ∧ Below wx.heap.size wx w') by
    subst hk hk3
    have := gsame_any A2 A3 c2 c3 ns ms wx hn hn3 (by have := HNB.out.1; have := HN.out; omega) (by have := HM2.out; have := HM.out; omega)
    rw [HS.out] at this; exact this)
  have HRS := Lib.hid (fun wx (hb : Below w1.heap.size w1 wx) => show Calls Try.prog 22 #[.agg #[.slice A N cap], .agg #[.slice B M cb]] wx (fun e w' => e = .returned (.bool S) ∧ Below wx.heap.size wx w') by
    have := rsameT_any A B cap cb ns ms wx (N1.out.below hb) (M1.out.below hb) (by have := HNB.out.1; have := HN.out; omega) (by have := HM2.out; have := HM.out; omega)
    rw [HS.out, ← HN.out, ← HM.out] at this; exact this)
  clear HQ
  go_wp2_with fail
  go_cut [4] (fun b wx => b = .bool true ∧ Hid (Below w.heap.size w wx))
  case first =>
    cases S <;> cases q <;>
    go_region_held3 (fun w' => w'.cell? ⟨w.heap.size, 0, none⟩ = some (.int .i64 L.per) ∧ w'.cell? ⟨w.heap.size, 1, none⟩ = some (.slice L.A L.ms.length L.cap) ∧ w'.cell? ⟨w.heap.size, 2, none⟩ = some (.slice A N cap) ∧ w'.cell? ⟨w.heap.size + 1, 0, none⟩ = some (.slice B M cb) ∧ Below w1.heap.size w1 w')
      ((refine HK.out _ ?_; first | assumption | exact HDR.out))
      (first
        | (go_at_call 18; refine (HTX.out _ (HSB.out _ (by assumption))).mono ?_; rintro e wt ⟨A2, kt, c2, rfl, hkt, hnt, hkc, hcm, hbt⟩; have hbwt := below_more (HSB.out _ (by assumption)) hbt)
        | (go_at_call 42; refine (HCP.out _ (HSB.out _ (by assumption))).mono ?_; rintro e wk ⟨A3, kk, c3, rfl, hkk, hnk, hkk2, hck, hbk⟩; have hbwk := below_more (HSB.out _ (by assumption)) hbk)
        | (go_at_call 44; refine (HSM.out _ A2 kt c2 hkt.out (hnt.out.below hbk) A3 kk c3 hkk.out hnk.out).mono ?_; rintro e ws ⟨rfl, hbs⟩; have hbws := below_more (HSB.out _ (by assumption)) hbs)
        | (go_at_call 22; refine (HRS.out _ (HSB.out _ (by assumption))).mono ?_; rintro e wu ⟨rfl, hbu⟩; have hbwu := below_more (HSB.out _ (by assumption)) hbu)
        | (go_at_call 16; refine (works2_any _).mono ?_; rintro e wz ⟨rfl, hbz⟩; have hbwz := below_more (HSB.out _ (by assumption)) hbz))
    all_goals go_wp2
    all_goals go_meet
    all_goals exact ⟨rfl, Lib.hid (below_more (below_more HB.out B1.out) hbwz)⟩
  case rest =>
    obtain ⟨rfl, hbx⟩ := hcut
    go_wp2
    go_ret
    exact ⟨rfl, hbx.out⟩

end Go.Proofs.Ytbfedahonfjpfaa
