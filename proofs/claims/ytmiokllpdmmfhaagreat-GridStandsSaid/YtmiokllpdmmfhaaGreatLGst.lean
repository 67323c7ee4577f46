/-
  Contract of the law of layouts: it returns true.
-/
import Derived.Test.YtmiokllpdmmfhaaGreatLdG
import Derived.Test.YtmiokllpdmmfhaaGreatLcJ
import Derived.Test.YtmiokllpdmmfhaaGreatLdA
import Derived.Test.YtmiokllpdmmfhaaGreatLdE
import Derived.Test.YtmiokllpdmmfhaaGreatLdD
import Derived.Test.YtmiokllpdmmfhaaGreatLdC
import Derived.Test.YtmiokllpdmmfhaaGreatLbD
import Derived.Test.YtmiokllpdmmfhaaGreatLbC
import Derived.Test.YtmiokllpdmmfhaaGreatLaF
import Derived.Deep.RegionHeld3
import Derived.Deep.DeepCutAuto
namespace Go.Proofs.YtmiokllpdmmfhaaGreat
open Go.RowKit
def GotLyX (w : World) (bs : List Bx) (er : Int) (e : Ending) (w' : World) : Prop := ∃ (A : Option Addr) (k c : Nat), e = .returned (.tuple #[.slice A k c, .int .i64 er]) ∧ Hid (k = bs.length) ∧ Hid (BxsAt w' A bs) ∧ k ≤ c ∧ c ≤ maxLen ∧ Below w.heap.size w w'
theorem gotLyX {bs : List Bx} {er : Int} {w : World} {e : Ending} {w' : World} (h : GotLayE (bs, er) w e w') : GotLyX w bs er e w' := by
  obtain ⟨A, c, rfl, h1, h2⟩ := h
  obtain ⟨h3, h4, -⟩ := own_len h1.out
  exact ⟨A, bs.length, c, rfl, Lib.hid rfl, Lib.hid (own_boxes h1.out), h3, h4, h2⟩
theorem infoBool : (Tryz.prog.info? 4).map (fun i => (i.zero, i.size, i.bytes)) = some (some (.bool false), 1, 1) := by kernel_rfl
structure StF (way : Int) (bs : List Bx) (zs : List Nd) : Prop where
  kd : bs.map (·.kind) = kdsN zs
  ok : okBx bs (ovN zs false)
  pl : ∀ x ∈ bs, PlB x
  wi : ∀ x ∈ bs, ∃ ln, WiB (cwN way) (mwN way) x ln
  co : ∀ a ∈ bs, ∀ b ∈ bs, crossP a b = true → conOk a b
  n : zs.length ≤ 200
theorem stF_of {L : Lm} {way len : Int} {ns zs : List Nd} (hT : textErr L.li ns = 0) (hP : pageErr way len = 0) (hz : zs = (regQ plainP L.li ns).1) :
    ∃ bs, layQ L.li way len ns = (bs, 0) ∧ StF way bs zs := by
  have hb : bothE L.li ns way len = 0 := by unfold bothE; rw [hT, hP]; simp
  have hq : regQ plainP L.li ns = ((regQ plainP L.li ns).1, 0) := by rw [plainT_is hT]
  have hp := plain_pln hT hq
  rw [← hz] at hp
  have hlb : 0 ≤ len ∧ len ≤ 4800 := by
    have := hP
    unfold pageErr at this
    split at this <;> omega
  refine ⟨layL (cwN way) (mwN way) len (shpsI L.li (cwN way) zs), ?_, ?_⟩
  · unfold layQ; rw [hb, hz]; simp
  · obtain ⟨h1, h2⟩ := layL_kinds (cwN way) (mwN way) (len := len) hp
    refine ⟨h1, ?_, layL_placed (cwN way) (mwN way) hp hlb, layL_within hp, layL_con hp hlb, (text_ok hp.ok).2.1⟩
    rw [← h2]; exact layL_ok (cwN way) (mwN way) hp
set_option maxHeartbeats 32000000 in
set_option maxRecDepth 100000 in
theorem law_gstands (L : Lm) (A : Option Addr) (cap : Nat) (ns : List Nd) (way len : Int) (w : World) (hl : LmOk w L) (hn : NdsAt w A ns) (hc1 : ns.length ≤ cap) (hc : cap ≤ maxLen)  :
    Calls Tryz.prog 11 #[.agg #[.int .i64 L.per, .slice L.A L.ms.length L.cap, .slice A ns.length cap], .agg #[.int .i64 way, .int .i64 len]] w fun e w' => e = .returned (.bool true) ∧ Below w.heap.size w w' := by
  have HNS0 := Lib.hid hn
  have HL0 := Lib.hid hl
  have HC1 := Lib.hid hc1
  have HCM := Lib.hid hc
  have hnm : ns.length ≤ maxLen := Nat.le_trans hc1 hc
  have HBG := Lib.hid (fun wx (hb : Below w.heap.size w wx) r (h : bigG L.li ns.length = r) => show Calls Tryz.prog 13 #[.agg #[.int .i64 L.per, .slice L.A L.ms.length L.cap, .slice A ns.length cap]] wx _ from bigG_is L A ns.length cap wx (hl.below hb) hnm r h)
  have HCK := Lib.hid (fun wx (hb : Below w.heap.size w wx) r (h : textErr L.li ns = r) => rgcheck_is L A cap ns wx (hl.below hb) (hn.below hb) hc1 hc r h)
  have HPL := Lib.hid (fun wx (hb : Below w.heap.size w wx) => rplain_any2 L A cap ns wx (hl.below hb) (hn.below hb) hc1 hc)
  have HPG := Lib.hid (fun wx => rpage_any way len wx)
  clear hl hn hc1 hc hnm
  obtain ⟨B, hB⟩ : ∃ B, bigG L.li ns.length = B := ⟨_, rfl⟩
  have HBB := Lib.hid hB
  obtain ⟨T, hT⟩ : ∃ T, textErr L.li ns = T := ⟨_, rfl⟩
  have HTT := Lib.hid hT
  obtain ⟨P, hP⟩ : ∃ P, P = pageErr way len := ⟨_, rfl⟩
  have HPP := Lib.hid hP
  rw [← hP] at HPG
  clear hB hT hP
  obtain ⟨N, hN⟩ : ∃ N, N = ns.length := ⟨_, rfl⟩
  have HN := Lib.hid hN
  rw [← hN] at HBG HCK HPL HC1 HBB ⊢
  clear hN
  obtain ⟨W1, hW1⟩ : ∃ W', W' = w.alloc (.cells #[.int .i64 L.per, .slice L.A L.ms.length L.cap, .slice A N cap] 29) := ⟨_, rfl⟩; obtain ⟨W, hW⟩ : ∃ W', W' = W1.alloc (.cells #[.int .i64 way, .int .i64 len] 31) := ⟨_, rfl⟩; have szW1 : W1.heap.size = w.heap.size + 1 := (by rw [hW1]; simp); have kbW1 : Below w.heap.size w W1 := hW1 ▸ below_alloc _ _; have szW : W.heap.size = w.heap.size + 1 + 1 := (by rw [hW]; simp [szW1]); have kbW : Below W1.heap.size W1 W := hW ▸ below_alloc _ _; have HB := Lib.hid (below_more kbW1 kbW); have D0 := Lib.hid (blk_keep kbW (show W1.heap[w.heap.size]? = some (.cells #[.int .i64 L.per, .slice L.A L.ms.length L.cap, .slice A N cap] 29 (0, 0)) by rw [hW1]; exact heap_alloc_new _ _)); have D1 := Lib.hid (show W.heap[w.heap.size + 1]? = some (.cells #[.int .i64 way, .int .i64 len] 31 (0, 0)) by rw [hW, ← szW1]; exact heap_alloc_new _ _); have SZW := Lib.hid szW; clear szW1 kbW1 szW kbW
  have HL := Lib.hid (HL0.out.below HB.out)
  have HNS := Lib.hid (HNS0.out.below HB.out)
  go_enter Tryz.func11, Tryz.ntmps11
  go_wp2_with fail
  rw [← hW1, ← hW]; clear hW1 hW
  refine (HBG.out _ HB.out _ HBB.out).mono ?_; rintro e w1 ⟨rfl, hb1⟩
  have B1 := Lib.hid hb1
  have D := Lib.hid (blk_keep hb1 D0.out)
  have G := Lib.hid (blk_keep hb1 D1.out)
  clear hb1 HL0 HNS0 HBG D0 D1
  cases B with
  | true =>
    go_wp2_with fail
    refine (works4b_any _).mono ?_; rintro e w2 ⟨rfl, hb2⟩
    go_wp2
    go_ret
    exact ⟨rfl, below_more (below_more HB.out B1.out) hb2⟩
  | false =>
    have HNB := Lib.hid (not_bigG (L := L) HBB.out)
    have x0 := cell_of_blk D.out 0; have x1 := cell_of_blk D.out 1; have x2 := cell_of_blk D.out 2; have hz_x := (Array.getElem?_eq_some_iff.1 D.out).1; simp at x0 x1 x2
    go_wp2_with fail
    refine (HCK.out _ (below_more HB.out B1.out) _ HTT.out).mono ?_; rintro e w2 ⟨rfl, hb2⟩
    have B2 := Lib.hid (below_more B1.out hb2)
    have D := Lib.hid (blk_keep hb2 D.out)
    have G := Lib.hid (blk_keep hb2 G.out)
    clear hb2 HCK x0 x1 x2 hz_x
    by_cases hT0 : T = 0
    case neg =>
      have ht : (T != 0) = true := by simpa using hT0
      clear hT0
      go_wp2_with fail
      refine (works4b_any _).mono ?_; rintro e w3 ⟨rfl, hb3⟩
      go_wp2
      go_ret
      exact ⟨rfl, below_more (below_more HB.out B2.out) hb3⟩
    subst hT0
    have p0 := cell_of_blk G.out 0; have p1 := cell_of_blk G.out 1; have hz_p := (Array.getElem?_eq_some_iff.1 G.out).1; simp at p0 p1
    go_wp2_with fail
    refine (HPG.out _).mono ?_; rintro e w3 ⟨rfl, hb3⟩
    have B3 := Lib.hid (below_more B2.out hb3)
    have D := Lib.hid (blk_keep hb3 D.out)
    have G := Lib.hid (blk_keep hb3 G.out)
    clear hb3 HPG p0 p1 hz_p
    by_cases hP0 : P = 0
    case neg =>
      have hp : (P != 0) = true := by simpa using hP0
      clear hP0
      go_wp2_with fail
      refine (works4b_any _).mono ?_; rintro e w4 ⟨rfl, hb4⟩
      go_wp2
      go_ret
      exact ⟨rfl, below_more (below_more HB.out B3.out) hb4⟩
    subst hP0
    obtain ⟨zs, hzs⟩ : ∃ zs, zs = (regQ plainP L.li ns).1 := ⟨_, rfl⟩
    have hq0 : (regQ plainP L.li ns).2 = 0 := by rw [plainT_is HTT.out]
    obtain ⟨bs, hbs, hst⟩ := stF_of (len := len) HTT.out HPP.out.symm hzs
    have HQ0 := Lib.hid hbs.symm
    have HST := Lib.hid hst
    have hwb : 1 ≤ way ∧ way ≤ 4 := by
      have := HPP.out.symm
      unfold pageErr at this
      split at this <;> omega
    rw [← hzs, hq0] at HPL
    clear hzs hq0 hbs hst
    have L1 := Lib.hid (HL.out.below B3.out)
    have N1 := Lib.hid (HNS.out.below B3.out)
    have BC := Lib.hid (Below.refl w3.heap.size w3)
    have HK := Lib.hid (fun w' (hb : Below w3.heap.size w3 w') => show w'.cell? ⟨w.heap.size, 0, none⟩ = some (.int .i64 L.per) ∧ w'.cell? ⟨w.heap.size, 1, none⟩ = some (.slice L.A L.ms.length L.cap) ∧ w'.cell? ⟨w.heap.size, 2, none⟩ = some (.slice A N cap) ∧ w'.cell? ⟨w.heap.size + 1, 0, none⟩ = some (.int .i64 way) ∧ w'.cell? ⟨w.heap.size + 1, 1, none⟩ = some (.int .i64 len) ∧ Below w3.heap.size w3 w' from
      ⟨cell_of_blk (blk_keep hb D.out) 0, cell_of_blk (blk_keep hb D.out) 1, cell_of_blk (blk_keep hb D.out) 2, cell_of_blk (blk_keep hb G.out) 0, cell_of_blk (blk_keep hb G.out) 1, hb⟩)
    have HDR := Lib.hid (show Below w3.heap.size w3 w3.drew from (Below.refl _ _).drew)
    have HSB := Lib.hid (fun wx (h : wx.cell? ⟨w.heap.size, 0, none⟩ = some (.int .i64 L.per) ∧ wx.cell? ⟨w.heap.size, 1, none⟩ = some (.slice L.A L.ms.length L.cap) ∧ wx.cell? ⟨w.heap.size, 2, none⟩ = some (.slice A N cap) ∧ wx.cell? ⟨w.heap.size + 1, 0, none⟩ = some (.int .i64 way) ∧ wx.cell? ⟨w.heap.size + 1, 1, none⟩ = some (.int .i64 len) ∧ Below w3.heap.size w3 wx) => h.2.2.2.2.2)
    have HLS := Lib.hid (fun wx (hb : Below w3.heap.size w3 wx) => show Calls Tryz.prog 16 #[.agg #[.int .i64 L.per, .slice L.A L.ms.length L.cap, .slice A N cap]] wx (GotListX wx L.li) from
      (list4_any L A N cap wx (L1.out.below (below_more BC.out hb)) (by have := HNB.out.2.1; omega) (fun m hm => by have := (HNB.out.2.2 m hm).1; omega)).mono fun _ _ h => h.x)
    have HTX := Lib.hid (fun wx (hb : Below w3.heap.size w3 wx) => show Calls Tryz.prog 17 #[.agg #[.int .i64 L.per, .slice L.A L.ms.length L.cap, .slice A N cap]] wx (GotTextX wx ns) by
      have := text4_any L A cap ns wx (N1.out.below (below_more BC.out hb)) (by rw [← HN.out]; exact HC1.out) HCM.out (by rw [← HN.out]; have := HNB.out.1; omega)
      rw [← HN.out] at this; exact this.mono fun _ _ h => h.x)
    have HPJ := Lib.hid (fun wx (pm : Int) (mm : List Sm) (Am : Option Addr) (km cm : Nat) (hkm : km = mm.length) (hok : LmOk wx ⟨pm, mm, Am, cm⟩) (hli : (Lm.mk pm mm Am cm).li = L.li) (A2 : Option Addr) (k2 c2 : Nat) (hk : k2 = ns.length) (hn : NdsAt wx A2 ns) (h1 : k2 ≤ c2) (h2 : c2 ≤ maxLen) => show Calls Tryz.prog 26 #[.agg #[.int .i64 pm, .slice Am km cm], .agg #[.slice A2 k2 c2], .agg #[.int .i64 way, .int .i64 len]] wx (GotLyX wx bs 0) by
      subst hk hkm
      have := glay_any ⟨pm, mm, Am, cm⟩ A2 c2 ns way len wx hok hn h1 h2
      rw [hli, ← HQ0.out] at this; exact this.mono fun _ _ h => gotLyX h)
    have ht0 : ((0 : Int) != 0) = false := by simp
    go_upto_region 3 with fail
    go_region_held3 (fun w' => w'.cell? ⟨w.heap.size, 0, none⟩ = some (.int .i64 L.per) ∧ w'.cell? ⟨w.heap.size, 1, none⟩ = some (.slice L.A L.ms.length L.cap) ∧ w'.cell? ⟨w.heap.size, 2, none⟩ = some (.slice A N cap) ∧ w'.cell? ⟨w.heap.size + 1, 0, none⟩ = some (.int .i64 way) ∧ w'.cell? ⟨w.heap.size + 1, 1, none⟩ = some (.int .i64 len) ∧ Below w3.heap.size w3 w')
      ((refine HK.out _ ?_; first | assumption | exact HDR.out))
      (first
      | (go_at_call 16; refine (HLS.out _ (HSB.out _ (by assumption))).mono ?_; rintro e wl ⟨pm, mm, Am, km, cm, rfl, hkm, hokl, hlil, hbl⟩; have hbwl := below_more (HSB.out _ (by assumption)) hbl)
      | (go_at_call 17; refine (HTX.out _ (HSB.out _ (by assumption))).mono ?_; rintro e wt ⟨A2, kt, c2, rfl, hkt, hnt, hkc, hcm, hbt⟩; have hbwt := below_more (HSB.out _ (by assumption)) hbt)
      | (go_at_call 26; refine (HPJ.out _ pm mm Am km cm hkm.out (hokl.out.below hbt) hlil.out A2 kt c2 hkt.out hnt.out hkc hcm).mono ?_; rintro e wp0 ⟨Ap, kp, cp, rfl, hkp, hap, hpc, hpm, hbp0⟩; have hbwp0 := below_more (HSB.out _ (by assumption)) hbp0))
    have KP := Lib.hid hkp.out
    have PA := Lib.hid hap.out
    clear hkp hap
    have BC := Lib.hid (below_more BC.out hbwp0)
    have D := Lib.hid (blk_keep hbwp0 D.out)
    have G := Lib.hid (blk_keep hbwp0 G.out)
    clear HK HDR HSB HLS HTX HPJ hbwl hbwt hbwp0 hbp0 hbl hbt hkm hokl hlil hkt hnt hkc hcm HQ0
    have x0 := cell_of_blk D.out 0; have x1 := cell_of_blk D.out 1; have x2 := cell_of_blk D.out 2; have hz_x := (Array.getElem?_eq_some_iff.1 D.out).1; simp at x0 x1 x2
    have BW0 := Lib.hid (below_more (below_more HB.out B3.out) BC.out)
    go_wp2_with fail
    refine (HPL.out _ BW0.out).mono ?_; rintro e w4 ⟨Az, kz, cz, rfl, hkz, hown, hb4⟩
    have BW4 := Lib.hid (below_more BW0.out hb4)
    have G := Lib.hid (blk_keep hb4 G.out)
    have PA := Lib.hid (PA.out.below hb4)
    have hkz2 := hkz.out
    subst hkz2
    have ZA := Lib.hid (own_nodes hown.out)
    clear hkz hown hb4 HPL x0 x1 x2 hz_x D
    go_upto_region 5 with fail
    obtain ⟨w5, hw5⟩ : ∃ w5, w5 = w4.alloc (.cells #[.slice Az zs.length cz] 27) := ⟨_, rfl⟩
    have HW5 := Lib.hid (show Below w4.heap.size w4 w5 from hw5 ▸ below_alloc _ _)
    have T := Lib.hid (show w5.heap[w4.heap.size]? = some (.cells #[.slice Az zs.length cz] 27 (0, 0)) by rw [hw5]; exact heap_alloc_new _ _)
    rw [← hw5]
    have BW5 := Lib.hid (below_more BW4.out HW5.out)
    have PA := Lib.hid (PA.out.below HW5.out)
    have ZA := Lib.hid (ZA.out.below HW5.out)
    have G := Lib.hid (blk_keep HW5.out G.out)
    clear hw5 HW5 BW4 BW0 BC N1 L1
    have hk200 : kp ≤ 200 := by
      have h1 : (bs.map (·.kind)).length = (kdsN zs).length := by rw [HST.out.kd]
      have h2 : (kdsN zs).length ≤ zs.length := by unfold kdsN; rw [List.length_map]; exact List.length_filter_le _ _
      have h3 := HST.out.n
      rw [List.length_map] at h1
      rw [KP.out]; omega
    obtain ⟨iv, hiv, hzv, hsv, hbv⟩ := info_hid infoBool
    have hkw : IntKind.i64.wrap ((kp : Int) + 1) = ((kp + 1 : Nat) : Int) := by
      rw [IntWalk.i64_in _ (by omega)]; omega
    go_wp2_with (first
      | (at_make; refine wpList_make_full _ rfl (.tmp 50) (.tmp 50) 85 rfl w5.heap.size 4 iv (.bool false) 1 Tryz.underlying85 hiv.out hzv.out hsv.out .i64 .i64 (kp + 1 : Nat) (kp + 1 : Nat) (kp + 1) rfl rfl rfl rfl ?b2 ?b3 ?b4 ?_))
    case b2 => rw [hbv.out]; omega
    case b3 => unfold maxLen; omega
    case b4 => omega
    intro w6 hown hg
    have BW6 := Lib.hid (show Below w5.heap.size w5 w6 from (Below.refl _ _).grown hg (Nat.le_refl _) (fun g hg => by cases hg))
    have HOW := Lib.hid (show w6.ownsRow w5.heap.size 4 1 (.slice (some ⟨w5.heap.size, 0, none⟩) (kp + 1) (kp + 1)) (kp + 1) (ovC kp (zs.take 0)) by
      have h : ovC kp (zs.take 0) = (madeCells (#[.bool false] : Array Value) (kp + 1)).toList := by
        rw [toList_madeCells_one, List.take_zero, ovC_nil, List.map_replicate]
      rw [h]; exact hown)
    clear hown hg hiv hzv hsv hbv hkw
    obtain ⟨Z, hZ⟩ : ∃ Z, Z = zs.length := ⟨_, rfl⟩
    have HZ := Lib.hid hZ
    have hz200 : Z ≤ 200 := by rw [hZ]; exact HST.out.n
    rw [← hZ] at T
    clear hZ
    go_wp2_with fail
    go_loopw [9, 11] (fun n i wr => ∃ (j : Nat), j ≤ Z ∧ i = .int .i64 j ∧ n = .int .i64 ((kdsN (zs.take j)).length : Nat) ∧ Hid (wr.ownsRow w5.heap.size 4 1 (.slice (some ⟨w5.heap.size, 0, none⟩) (kp + 1) (kp + 1)) (kp + 1) (ovC kp (zs.take j))) ∧ Hid (Below w5.heap.size w5 wr)) (fun _ i _ => Z - (intOf i).toNat)
    case atStart => exact ⟨0, Nat.zero_le _, rfl, rfl, HOW, BW6⟩
    case round =>
      obtain ⟨j, hj, rfl, rfl, hown, hbw⟩ := hrel
      have HBW := Lib.hid hbw.out
      have HOW := Lib.hid hown.out
      clear hbw hown
      have T := Lib.hid (blk_keep HBW.out T.out)
      have t0 := cell_of_blk T.out 0
      have ht1 := (Array.getElem?_eq_some_iff.1 T.out).1
      simp at t0
      obtain ⟨m, hm⟩ : ∃ m, m = (kdsN (zs.take j)).length := ⟨_, rfl⟩
      rw [← hm]
      have hmp : m ≤ kp := by rw [hm, KP.out]; exact kds_le HST.out.kd j
      have hm0 : (0 : Int) ≤ (m : Int) := by omega
      by_cases hlt : j < Z
      · as_aux_lemma =>
          obtain ⟨u, hu⟩ : ∃ u, zs[j]? = some u := ⟨_, List.getElem?_eq_getElem (by have := HZ.out; omega)⟩
          have HTK := Lib.hid (show zs.take (j + 1) = zs.take j ++ [u] by
            obtain ⟨h1, h2⟩ := List.getElem?_eq_some_iff.1 hu
            rw [List.take_succ_eq_append_getElem h1, h2])
          obtain ⟨b, o, rfl, hb1, hva⟩ := (ZA.out.below HBW.out) j u hu
          have z0 := hva.c0
          have hj0 : (0 : Int) ≤ (j : Int) := by omega
          have hjZ : (j : Int) < (Z : Int) := by omega
          obtain ⟨kd, hkd⟩ : ∃ kd, u.kind = kd := ⟨_, rfl⟩
          rw [hkd] at z0
          have hku := hkd
          clear hkd hva
          obtain ⟨lf, hlf⟩ : ∃ lf, leafB kd = lf := ⟨_, rfl⟩
          have HLF := Lib.hid (fun wx => leaf_is kd wx lf hlf)
          by_cases h1 : kd = 1
          · subst h1
            obtain rfl : lf = true := by rw [← hlf]; decide
            clear hlf
            obtain ⟨x, hx, hxk⟩ := kds_at HST.out.kd hu (by rw [hku]; decide)
            rw [← hm] at hx
            obtain ⟨b', o', rfl, hb2, hvb⟩ := (PA.out.below HBW.out) m x hx
            have y0 := hvb.c0
            rw [hxk, hku] at y0
            have HN1 := Lib.hid (show (kdsN (zs.take (j + 1))).length = m + 1 by
              rw [HTK.out, kds_snoc, hku, if_pos (by decide), List.length_append, ← hm]; rfl)
            have hmk : m < kp := by rw [KP.out]; exact (List.getElem?_eq_some_iff.1 hx).1
            have HOW2 := Lib.hid (show ovC kp (zs.take (j + 1)) = ovC kp (zs.take j) by
              rw [HTK.out]; exact ovC_lr (by rw [hku]; decide) (by rw [← hm]; exact hmk))
            have hmk2 : (m : Int) < (kp : Int) := by omega
            clear hx hxk hvb hu hku hm
            go_wp2_with fail
            refine (HLF.out _).mono ?_; rintro e wl ⟨rfl, rfl⟩
            go_wp2_with fail
            go_roundw
            case rel => exact ⟨j + 1, by omega, by go_num, by rw [HN1.out]; go_num, Lib.hid (by rw [HOW2.out]; exact HOW.out), HBW⟩
            case measure => simp [intOf]; omega
          by_cases h6 : kd = 6
          · subst h6
            obtain rfl : lf = true := by rw [← hlf]; decide
            clear hlf
            obtain ⟨x, hx, hxk⟩ := kds_at HST.out.kd hu (by rw [hku]; decide)
            rw [← hm] at hx
            obtain ⟨b', o', rfl, hb2, hvb⟩ := (PA.out.below HBW.out) m x hx
            have y0 := hvb.c0
            rw [hxk, hku] at y0
            have HN1 := Lib.hid (show (kdsN (zs.take (j + 1))).length = m + 1 by
              rw [HTK.out, kds_snoc, hku, if_pos (by decide), List.length_append, ← hm]; rfl)
            have hmk : m < kp := by rw [KP.out]; exact (List.getElem?_eq_some_iff.1 hx).1
            have HOW2 := Lib.hid (show ovC kp (zs.take (j + 1)) = ovC kp (zs.take j) by
              rw [HTK.out]; exact ovC_lr (by rw [hku]; decide) (by rw [← hm]; exact hmk))
            have hmk2 : (m : Int) < (kp : Int) := by omega
            clear hx hxk hvb hu hku hm
            go_wp2_with fail
            refine (HLF.out _).mono ?_; rintro e wl ⟨rfl, rfl⟩
            go_wp2_with fail
            go_roundw
            case rel => exact ⟨j + 1, by omega, by go_num, by rw [HN1.out]; go_num, Lib.hid (by rw [HOW2.out]; exact HOW.out), HBW⟩
            case measure => simp [intOf]; omega
          obtain rfl : lf = false := by rw [← hlf]; unfold leafB; simp [h1, h6]
          by_cases h5 : kd = 5
          · subst h5
            clear hlf
            obtain ⟨x, hx, hxk⟩ := kds_at HST.out.kd hu (by rw [hku]; decide)
            rw [← hm] at hx
            obtain ⟨b', o', rfl, hb2, hvb⟩ := (PA.out.below HBW.out) m x hx
            have y0 := hvb.c0
            rw [hxk, hku] at y0
            have HN1 := Lib.hid (show (kdsN (zs.take (j + 1))).length = m + 1 by
              rw [HTK.out, kds_snoc, hku, if_pos (by decide), List.length_append, ← hm]; rfl)
            have hmk : m < kp := by rw [KP.out]; exact (List.getElem?_eq_some_iff.1 hx).1
            have HOW2 := Lib.hid (show ovC kp (zs.take (j + 1)) = ovC kp (zs.take j) by
              rw [HTK.out]; exact ovC_lr (by rw [hku]; decide) (by rw [← hm]; exact hmk))
            have hmk2 : (m : Int) < (kp : Int) := by omega
            clear hx hxk hvb hu hku hm
            go_wp2_with fail
            refine (HLF.out _).mono ?_; rintro e wl ⟨rfl, rfl⟩
            go_wp2_with fail
            go_roundw
            case rel => exact ⟨j + 1, by omega, by go_num, by rw [HN1.out]; go_num, Lib.hid (by rw [HOW2.out]; exact HOW.out), HBW⟩
            case measure => simp [intOf]; omega
          have hr : lrB u.kind = false := by rw [hku]; unfold lrB; rw [hlf]; simp [h5]
          have HN1 := Lib.hid (show (kdsN (zs.take (j + 1))).length = m by
            rw [HTK.out, kds_snoc, hr, if_neg (by decide), List.append_nil, ← hm])
          have hk5 : (kd == 5) = false := by simpa using h5
          by_cases h4 : kd = 4
          · subst h4
            have HOW2 := Lib.hid (show ovC kp (zs.take (j + 1)) = (ovC kp (zs.take j)).set m (.bool true) by
              rw [HTK.out, ovC_ov hr (by rw [hku]; rfl), ← hm])
            obtain ⟨g, e1, hbg, hg, -, -, hcell, hfr⟩ := own_open HOW.out (by omega)
            injection e1 with e1; injection e1 with e1 _
            obtain ⟨v, hv⟩ : ∃ v, (ovC kp (zs.take j))[m]? = some v := ⟨_, List.getElem?_eq_getElem (by rw [ovC_len (by rw [← hm]; exact hmp)]; omega)⟩
            have zc : wr.cell? ⟨w5.heap.size, m, none⟩ = some v := by rw [e1]; exact hcell _ _ hv
            have zf : wr.frozen? ⟨w5.heap.size, m, none⟩ = false := by rw [e1]; exact hfr _
            have HNEW := Lib.hid (show (wr.setCell ⟨w5.heap.size, m, none⟩ (.bool true)).ownsRow w5.heap.size 4 1 (.slice (some ⟨w5.heap.size, 0, none⟩) (kp + 1) (kp + 1)) (kp + 1) (ovC kp (zs.take (j + 1))) by
              rw [HOW2.out]; exact own_set HOW.out (g := w5.heap.size) rfl m (.bool true))
            have hz2 : w5.heap.size < wr.heap.size := by rw [e1]; exact hg
            have hmk3 : (m : Int) < ((kp + 1 : Nat) : Int) := by omega
            clear hv hcell hfr e1 hbg hg hu hku hm hr hlf h1 h6 h5 HOW2
            go_wp2_with fail
            refine (HLF.out _).mono ?_; rintro e wl ⟨rfl, rfl⟩
            go_wp2_with fail
            go_roundw
            case rel => exact ⟨j + 1, by omega, by go_num, by rw [HN1.out], HNEW, Lib.hid (HBW.out.setCell (Nat.le_refl _) _)⟩
            case measure => simp [intOf]; omega
          · have hk4 : (kd == 4) = false := by simpa using h4
            have HOW2 := Lib.hid (show ovC kp (zs.take (j + 1)) = ovC kp (zs.take j) by
              rw [HTK.out]; exact ovC_no hr (by rw [hku]; exact hk4))
            clear hu hku hm hr hlf h1 h6 h5 h4
            go_wp2_with fail
            refine (HLF.out _).mono ?_; rintro e wl ⟨rfl, rfl⟩
            go_wp2_with fail
            go_roundw
            case rel => exact ⟨j + 1, by omega, by go_num, by rw [HN1.out], Lib.hid (by rw [HOW2.out]; exact HOW.out), HBW⟩
            case measure => simp [intOf]; omega
      · obtain rfl : j = Z := by omega
        have HTL := Lib.hid (show zs.take j = zs by rw [HZ.out, List.take_length])
        have hmk : m = kp := by
          rw [hm, HTL.out, KP.out]
          have h1 : (bs.map (·.kind)).length = (kdsN zs).length := by rw [HST.out.kd]
          rw [List.length_map] at h1; exact h1.symm
        have HOW := Lib.hid (show wr.ownsRow w5.heap.size 4 1 (.slice (some ⟨w5.heap.size, 0, none⟩) (kp + 1) (kp + 1)) (kp + 1) (ovC kp zs) by
          have := HOW.out; rw [HTL.out] at this; exact this)
        rw [hmk]
        have hkk : ((kp : Int) != (kp : Int)) = false := by simp
        have BW7 := Lib.hid (below_more BW5.out HBW.out)
        have PA := Lib.hid (PA.out.below HBW.out)
        have G := Lib.hid (blk_keep HBW.out G.out)
        clear hm hmk hmp hm0 hlt HTL ZA BW5 BW6
        go_upto_region 19 with fail
        clear T t0 ht1
        obtain ⟨w7, rfl⟩ : ∃ w7 : World, w7 = wr := ⟨_, rfl⟩
        have HSO := Lib.hid HST.out.ok
        go_wp2_with fail
        go_loopw [13] (fun i wr => ∃ (a : Nat), a ≤ kp ∧ i = .int .i64 a ∧ Hid (Below w7.heap.size w7 wr)) (fun i _ => kp - (intOf i).toNat)
        case atStart => exact ⟨0, Nat.zero_le _, rfl, Lib.hid (Below.refl _ _)⟩
        case round =>
          obtain ⟨a, ha, rfl, hbw⟩ := hrel
          have HB8 := Lib.hid hbw.out
          clear hbw
          by_cases hlta : a < kp
          · obtain ⟨x, hx⟩ : ∃ x, bs[a]? = some x := ⟨_, List.getElem?_eq_getElem (by have := KP.out; omega)⟩
            obtain ⟨b, o, rfl, hbl, hvx⟩ := PA.out a x hx
            have HVX := Lib.hid hvx
            have hxm := List.mem_of_getElem? hx
            have HXM := Lib.hid hxm
            obtain ⟨hbo, hpl⟩ := plB_both (HST.out.pl x hxm)
            have HBO := Lib.hid hbo
            have HP := Lib.hid (fun wx => rplaced_any x wx)
            rw [hpl] at HP
            obtain ⟨ln, hln⟩ := HST.out.wi x hxm
            have HWI := Lib.hid (fun wx => wthn_any x way len ln wx hwb hln)
            have HXX := Lib.hid hx
            obtain ⟨y0, y1, y2, y3, y4, y5, y6, y7, y8, y9, y10, y11, y12, y13, y14⟩ := hvx.below HB8.out hbl
            have GG := Lib.hid (blk_keep HB8.out G.out)
            have g0 := cell_of_blk GG.out 0
            have g1 := cell_of_blk GG.out 1
            have hg1 := (Array.getElem?_eq_some_iff.1 GG.out).1
            simp at g0 g1
            have hbr : b < wr.heap.size := by have := HB8.out.size; omega
            have ha0 : (0 : Int) ≤ (a : Int) := by omega
            have hak : (a : Int) < (kp : Int) := by omega
            clear hvx hxm hbo hpl hln hx
            unfold Bx.val at HP HWI
            go_wp2_with fail
            refine wp_region_later (by kernel_rfl) (by kernel_rfl) ?_; (repeat (first | go_big_quiet_step ((first | (go_at_call 46; with_reducible exact Calls.later _ (HP.out _)) | (go_at_call 47; with_reducible exact Calls.later _ (HWI.out _)))) | quiet_step ((first | (go_at_call 46; with_reducible exact Calls.later _ (HP.out _)) | (go_at_call 47; with_reducible exact Calls.later _ (HWI.out _)))))); refine wpQuiet_nil ?_; rintro _ ⟨s, rfl⟩
            have HB5 := Lib.hid s.below
            generalize s.w = w8 at HB5 ⊢
            have HB9 := Lib.hid (HB8.out.trans (HB5.out.mono HB8.out.size))
            clear y0 y1 y2 y3 y4 y5 y6 y7 y8 y9 y10 y11 y12 y13 y14 g0 g1 hg1 GG HP HWI hbr HB5
            go_wp2_with fail
            obtain ⟨wo, rfl⟩ : ∃ wo : World, wo = wr := ⟨_, rfl⟩
            go_loopw [14] (fun i wr => ∃ (c : Nat), a + 1 ≤ c ∧ c ≤ kp ∧ i = .int .i64 c ∧ Hid (Below w7.heap.size w7 wr)) (fun i _ => kp - (intOf i).toNat)
            case atStart => exact ⟨a + 1, Nat.le_refl _, by omega, by go_num, HB9⟩
            case round =>
              obtain ⟨c, hac, hc, rfl, hbw⟩ := hrel
              have HBQ := Lib.hid hbw.out
              clear hbw
              by_cases hlc : c < kp
              · as_aux_lemma =>
                  obtain ⟨y, hy⟩ : ∃ y, bs[c]? = some y := ⟨_, List.getElem?_eq_getElem (by have := KP.out; omega)⟩
                  obtain ⟨b', o', hA', hbl', hvy⟩ := PA.out c y hy
                  simp at hA'
                  obtain ⟨rfl, rfl⟩ := hA'
                  have hym := List.mem_of_getElem? hy
                  have HVY := Lib.hid hvy
                  have HP2 := Lib.hid (fun wx => rcross_any x y wx HBO.out (plB_both (HST.out.pl y hym)).1)
                  obtain ⟨Q, hQ⟩ : ∃ Q, Q = crossP x y := ⟨_, rfl⟩
                  have HCO := Lib.hid (fun (h : Q = true) => HST.out.co x HXM.out y hym (hQ ▸ h))
                  have HOK := Lib.hid (fun (h : Q = true) => okBx_at bs _ HSO.out a c x y (by omega) HXX.out hy (hQ ▸ h))
                  rw [crossP_is, ← hQ] at HP2
                  obtain ⟨y0, y1, y2, y3, y4, y5, y6, y7, y8, y9, y10, y11, y12, y13, y14⟩ := HVX.out.below HBQ.out hbl
                  obtain ⟨z0, z1, z2, z3, z4, z5, z6, z7, z8, z9, z10, z11, z12, z13, z14⟩ := hvy.below HBQ.out hbl'
                  have hbr : b < wr.heap.size := by have := HBQ.out.size; omega
                  have hc0 : (0 : Int) ≤ (c : Int) := by omega
                  have hck : (c : Int) < (kp : Int) := by omega
                  clear hQ hy hvy hym
                  unfold Bx.val at HP2
                  go_wp2_with fail
                  refine wp_region_later (by kernel_rfl) (by kernel_rfl) ?_; (repeat (first | go_big_quiet_step ((go_at_call 48; with_reducible exact Calls.later _ (HP2.out _))) | quiet_step ((go_at_call 48; with_reducible exact Calls.later _ (HP2.out _))))); refine wpQuiet_nil ?_; rintro _ ⟨s, rfl⟩
                  have HB5 := Lib.hid s.below
                  generalize s.w = w9 at HB5 ⊢
                  have HB10 := Lib.hid (HBQ.out.trans (HB5.out.mono HBQ.out.size))
                  clear y0 y1 y2 y3 y4 y5 y6 y7 y8 y9 y10 y11 y12 y13 y14 z0 z1 z2 z3 z4 z5 z6 z7 z8 z9 z10 z11 z12 z13 z14 hbr HP2 HB5
                  cases Q with
                  | false =>
                    go_wp2_with fail
                    go_roundw
                    case rel => exact ⟨c + 1, by omega, by omega, by go_num, HB10⟩
                    case measure => simp [intOf]; omega
                  | true =>
                    obtain ⟨hcon, hov⟩ := HOK.out rfl
                    have HCN := Lib.hid (fun wx => contains_any x y wx (HCO.out rfl))
                    rw [hcon] at HCN
                    unfold Bx.val at HCN
                    obtain ⟨y0, y1, y2, y3, y4, y5, y6, y7, y8, y9, y10, y11, y12, y13, y14⟩ := HVX.out.below HB10.out hbl
                    obtain ⟨z0, z1, z2, z3, z4, z5, z6, z7, z8, z9, z10, z11, z12, z13, z14⟩ := HVY.out.below HB10.out hbl'
                    have hbr : b < w9.heap.size := by have := HB10.out.size; omega
                    clear HB9 HBQ HCO HOK hcon
                    obtain ⟨g, e1, hbg, hg, -, -, hcell, -⟩ := own_open HOW.out (by omega)
                    injection e1 with e1; injection e1 with e1 _
                    have hca1 : IntKind.i64.wrap ((a : Int) + 1) = (a : Int) + 1 := IntWalk.i64_in _ (by omega)
                    have hak2 : (a : Int) < ((kp + 1 : Nat) : Int) := by omega
                    have HCE := Lib.hid (fun (h : (ovN zs false)[a]? = some true) => show w9.cell? ⟨w5.heap.size, a, none⟩ = some (.bool true) from
                      (HB10.out.cell (p := ⟨w5.heap.size, a, none⟩) (by rw [e1]; exact hg)).trans (by rw [e1]; exact hcell a _ (ovC_all h)))
                    have hw59 : w5.heap.size < w9.heap.size := by rw [e1]; exact Nat.lt_of_lt_of_le hg HB10.out.size
                    clear e1 hbg hg hcell
                    by_cases h5 : x.kind = 5
                    · have hk5 : (x.kind != 5) = false := by rw [h5]; rfl
                      clear h5 hov hca1
                      go_wp2_with fail
                      refine wp_region_later (by kernel_rfl) (by kernel_rfl) ?_; (repeat (first | go_big_quiet_step ((go_at_call 49; with_reducible exact Calls.later _ (HCN.out _))) | quiet_step ((go_at_call 49; with_reducible exact Calls.later _ (HCN.out _))))); refine wpQuiet_nil ?_; rintro _ ⟨s, rfl⟩
                      have HB5 := Lib.hid s.below
                      generalize s.w = w10 at HB5 ⊢
                      have HB11 := Lib.hid (HB10.out.trans (HB5.out.mono HB10.out.size))
                      clear y0 y1 y2 y3 y4 y5 y6 y7 y8 y9 y10 y11 y12 y13 y14 z0 z1 z2 z3 z4 z5 z6 z7 z8 z9 z10 z11 z12 z13 z14 hbr HCN HB5
                      go_wp2_with fail
                      go_roundw
                      case rel => exact ⟨c + 1, by omega, by omega, by go_num, HB11⟩
                      case measure => simp [intOf]; omega
                    · obtain ⟨hca, hov2⟩ := hov.resolve_left h5
                      have hk5 : (x.kind != 5) = true := by simpa using h5
                      have hwa : IntKind.i64.wrap ((a : Int) + 1) = (c : Int) := by rw [hca1, hca]; omega
                      have hcc : ((c : Int) != (c : Int)) = false := by simp
                      have zo := HCE.out hov2
                      clear h5 hov hca1 hca hov2
                      go_wp2_with fail
                      refine wp_region_later (by kernel_rfl) (by kernel_rfl) ?_; (repeat (first | go_big_quiet_step ((go_at_call 49; with_reducible exact Calls.later _ (HCN.out _))) | quiet_step ((go_at_call 49; with_reducible exact Calls.later _ (HCN.out _))))); refine wpQuiet_nil ?_; rintro _ ⟨s, rfl⟩
                      have HB5 := Lib.hid s.below
                      generalize s.w = w10 at HB5 ⊢
                      have HB11 := Lib.hid (HB10.out.trans (HB5.out.mono HB10.out.size))
                      clear y0 y1 y2 y3 y4 y5 y6 y7 y8 y9 y10 y11 y12 y13 y14 z0 z1 z2 z3 z4 z5 z6 z7 z8 z9 z10 z11 z12 z13 z14 hbr HCN HB5
                      go_wp2_with fail
                      go_roundw
                      case rel => exact ⟨c + 1, by omega, by omega, by go_num, HB11⟩
                      case measure => simp [intOf]; omega
              · obtain rfl : c = kp := by omega
                go_wp2_with fail
                go_roundw
                case rel => exact ⟨a + 1, by omega, by go_num, HBQ⟩
                case measure => simp [intOf]; omega
          · obtain rfl : a = kp := by omega
            go_wp2_with fail
            refine (works4b_any _).mono ?_; rintro e wz ⟨rfl, hbz⟩
            go_wp2
            go_ret
            exact ⟨rfl, below_more BW7.out (below_more HB8.out hbz)⟩
end Go.Proofs.YtmiokllpdmmfhaaGreat
