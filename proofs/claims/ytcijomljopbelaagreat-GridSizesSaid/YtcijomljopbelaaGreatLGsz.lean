/-
  Contract of the law of Check, Natural and Scale: it returns true.
-/
import Derived.Test.YtcijomljopbelaaGreatLaw4
import Derived.Test.YtcijomljopbelaaGreatNat7
import Derived.Test.YtcijomljopbelaaGreatRsc2
import Derived.Test.YtcijomljopbelaaGreatGaF
import Derived.Test.YtcijomljopbelaaGreatGaK
import Derived.Deep.RegionHeld3
import Derived.Deep.DeepCutAuto
namespace Go.Proofs.YtcijomljopbelaaGreat
open Go.RowKit

theorem eqFr_me (n d : Int) (w : World) : (binOp .eql 40 (.agg #[.int .i64 n, .int .i64 d]) (.agg #[.int .i64 n, .int .i64 d])).run Tryz.prog w = .ok (.bool true) w := by
  rw [eqFr]; simp

set_option maxHeartbeats 16000000 in
set_option maxRecDepth 100000 in
theorem law_gsizes (L : Lm) (A : Option Addr) (cap : Nat) (ns : List Nd) (way len node : Int) (w : World) (hl : LmOk w L) (hn : NdsAt w A ns) (hc1 : ns.length ≤ cap) (hc : cap ≤ maxLen)  :
    Calls Tryz.prog 3 #[.agg #[.int .i64 L.per, .slice L.A L.ms.length L.cap, .slice A ns.length cap], .agg #[.int .i64 way, .int .i64 len], .int .i64 node] w fun e w' => e = .returned (.bool true) ∧ Below w.heap.size w w' := by
  have HNS0 := Lib.hid hn
  have HL0 := Lib.hid hl
  have HC1 := Lib.hid hc1
  have HCM := Lib.hid hc
  have hnm : ns.length ≤ maxLen := Nat.le_trans hc1 hc
  have HBG := Lib.hid (fun wx (hb : Below w.heap.size w wx) r (h : bigG L.li ns.length = r) => show Calls Tryz.prog 13 #[.agg #[.int .i64 L.per, .slice L.A L.ms.length L.cap, .slice A ns.length cap]] wx _ from bigG_is L A ns.length cap wx (hl.below hb) hnm r h)
  clear hl hn hc1 hc hnm
  obtain ⟨B, hB⟩ : ∃ B, bigG L.li ns.length = B := ⟨_, rfl⟩
  have HBB := Lib.hid hB
  clear hB
  obtain ⟨N, hN⟩ : ∃ N, N = ns.length := ⟨_, rfl⟩
  have HN := Lib.hid hN
  rw [← hN] at HBG HC1 HBB ⊢
  clear hN
  obtain ⟨W1, hW1⟩ : ∃ W', W' = w.alloc (.cells #[.int .i64 L.per, .slice L.A L.ms.length L.cap, .slice A N cap] 29) := ⟨_, rfl⟩; obtain ⟨W, hW⟩ : ∃ W', W' = W1.alloc (.cells #[.int .i64 way, .int .i64 len] 31) := ⟨_, rfl⟩; have szW1 : W1.heap.size = w.heap.size + 1 := (by rw [hW1]; simp); have kbW1 : Below w.heap.size w W1 := hW1 ▸ below_alloc _ _; have szW : W.heap.size = w.heap.size + 1 + 1 := (by rw [hW]; simp [szW1]); have kbW : Below W1.heap.size W1 W := hW ▸ below_alloc _ _; have HB := Lib.hid (below_more kbW1 kbW); have D0 := Lib.hid (blk_keep kbW (show W1.heap[w.heap.size]? = some (.cells #[.int .i64 L.per, .slice L.A L.ms.length L.cap, .slice A N cap] 29 (0, 0)) by rw [hW1]; exact heap_alloc_new _ _)); have D1 := Lib.hid (show W.heap[w.heap.size + 1]? = some (.cells #[.int .i64 way, .int .i64 len] 31 (0, 0)) by rw [hW, ← szW1]; exact heap_alloc_new _ _); have SZW := Lib.hid szW; clear szW1 kbW1 szW kbW
  have HL := Lib.hid (HL0.out.below HB.out)
  have HNS := Lib.hid (HNS0.out.below HB.out)
  go_enter Tryz.func3, Tryz.ntmps3
  go_wp2_with fail
  rw [← hW1, ← hW]; clear hW1 hW
  refine (HBG.out _ HB.out _ HBB.out).mono ?_; rintro e w1 ⟨rfl, hb1⟩
  have B1 := Lib.hid hb1
  have D := Lib.hid (blk_keep hb1 D0.out)
  have G := Lib.hid (blk_keep hb1 D1.out)
  clear hb1 HL0 HNS0 HBG D0 D1
  cases B with
  | true =>
    go_wp2_with fail
    refine (works4_any _).mono ?_; rintro e w2 ⟨rfl, hb2⟩
    go_wp2
    go_ret
    exact ⟨rfl, below_more (below_more HB.out B1.out) hb2⟩
  | false =>
    have HNB := Lib.hid (not_bigG (L := L) HBB.out)
    have L1 := Lib.hid (HL.out.below B1.out)
    have N1 := Lib.hid (HNS.out.below B1.out)
    have BC := Lib.hid (Below.refl w1.heap.size w1)
    obtain ⟨⟨q1, q2, q3⟩, hQ0⟩ : ∃ q, q = natQ L.li way len ns node := ⟨_, rfl⟩
    have HQ0 := Lib.hid hQ0
    clear hQ0
    have HK := Lib.hid (fun w' (hb : Below w1.heap.size w1 w') => show w'.cell? ⟨w.heap.size, 0, none⟩ = some (.int .i64 L.per) ∧ w'.cell? ⟨w.heap.size, 1, none⟩ = some (.slice L.A L.ms.length L.cap) ∧ w'.cell? ⟨w.heap.size, 2, none⟩ = some (.slice A N cap) ∧ w'.cell? ⟨w.heap.size + 1, 0, none⟩ = some (.int .i64 way) ∧ w'.cell? ⟨w.heap.size + 1, 1, none⟩ = some (.int .i64 len) ∧ Below w1.heap.size w1 w' from
      ⟨cell_of_blk (blk_keep hb D.out) 0, cell_of_blk (blk_keep hb D.out) 1, cell_of_blk (blk_keep hb D.out) 2, cell_of_blk (blk_keep hb G.out) 0, cell_of_blk (blk_keep hb G.out) 1, hb⟩)
    have HDR := Lib.hid (show Below w1.heap.size w1 w1.drew from (Below.refl _ _).drew)
    have HSB := Lib.hid (fun wx (h : wx.cell? ⟨w.heap.size, 0, none⟩ = some (.int .i64 L.per) ∧ wx.cell? ⟨w.heap.size, 1, none⟩ = some (.slice L.A L.ms.length L.cap) ∧ wx.cell? ⟨w.heap.size, 2, none⟩ = some (.slice A N cap) ∧ wx.cell? ⟨w.heap.size + 1, 0, none⟩ = some (.int .i64 way) ∧ wx.cell? ⟨w.heap.size + 1, 1, none⟩ = some (.int .i64 len) ∧ Below w1.heap.size w1 wx) => h.2.2.2.2.2)
    have HLS := Lib.hid (fun wx (hb : Below w1.heap.size w1 wx) => show Calls Tryz.prog 16 #[.agg #[.int .i64 L.per, .slice L.A L.ms.length L.cap, .slice A N cap]] wx (GotListX wx L.li) from
      (list4_any L A N cap wx (L1.out.below (below_more BC.out hb)) (by have := HNB.out.2.1; omega) (fun m hm => by have := (HNB.out.2.2 m hm).1; omega)).mono fun _ _ h => h.x)
    have HTX := Lib.hid (fun wx (hb : Below w1.heap.size w1 wx) => show Calls Tryz.prog 17 #[.agg #[.int .i64 L.per, .slice L.A L.ms.length L.cap, .slice A N cap]] wx (GotTextX wx ns) by
      have := text4_any L A cap ns wx (N1.out.below (below_more BC.out hb)) (by rw [← HN.out]; exact HC1.out) HCM.out (by rw [← HN.out]; have := HNB.out.1; omega)
      rw [← HN.out] at this; exact this.mono fun _ _ h => h.x)
    have HPJ := Lib.hid (fun wx (pm : Int) (mm : List Sm) (Am : Option Addr) (km cm : Nat) (hkm : km = mm.length) (hok : LmOk wx ⟨pm, mm, Am, cm⟩) (hli : (Lm.mk pm mm Am cm).li = L.li) (A2 : Option Addr) (k2 c2 : Nat) (hk : k2 = ns.length) (hn : NdsAt wx A2 ns) (h1 : k2 ≤ c2) (h2 : c2 ≤ maxLen) => show Calls Tryz.prog 15 #[.agg #[.int .i64 pm, .slice Am km cm], .agg #[.slice A2 k2 c2], .agg #[.int .i64 way, .int .i64 len], .int .i64 node] wx (fun e w' => e = .returned (.tuple #[.int .i64 q1, .int .i64 q2, .int .i64 q3]) ∧ Below wx.heap.size wx w') by
      subst hk hkm
      have := gnat_any ⟨pm, mm, Am, cm⟩ A2 c2 ns way len node wx hok hn h1 h2
      rw [hli, ← HQ0.out] at this; exact this)
    go_wp2_with fail
    go_region_held3 (fun w' => w'.cell? ⟨w.heap.size, 0, none⟩ = some (.int .i64 L.per) ∧ w'.cell? ⟨w.heap.size, 1, none⟩ = some (.slice L.A L.ms.length L.cap) ∧ w'.cell? ⟨w.heap.size, 2, none⟩ = some (.slice A N cap) ∧ w'.cell? ⟨w.heap.size + 1, 0, none⟩ = some (.int .i64 way) ∧ w'.cell? ⟨w.heap.size + 1, 1, none⟩ = some (.int .i64 len) ∧ Below w1.heap.size w1 w')
      ((refine HK.out _ ?_; first | assumption | exact HDR.out))
      (first
      | (go_at_call 16; refine (HLS.out _ (HSB.out _ (by assumption))).mono ?_; rintro e wl ⟨pm, mm, Am, km, cm, rfl, hkm, hokl, hlil, hbl⟩; have hbwl := below_more (HSB.out _ (by assumption)) hbl)
      | (go_at_call 17; refine (HTX.out _ (HSB.out _ (by assumption))).mono ?_; rintro e wt ⟨A2, kt, c2, rfl, hkt, hnt, hkc, hcm, hbt⟩; have hbwt := below_more (HSB.out _ (by assumption)) hbt)
      | (go_at_call 15; refine (HPJ.out _ pm mm Am km cm hkm.out (hokl.out.below hbt) hlil.out A2 kt c2 hkt.out hnt.out hkc hcm).mono ?_; rintro e wp0 ⟨rfl, hbp0⟩; have hbwp0 := below_more (HSB.out _ (by assumption)) hbp0))
    have BC := Lib.hid (below_more BC.out hbwp0)
    have D := Lib.hid (blk_keep hbwp0 D.out)
    have G := Lib.hid (blk_keep hbwp0 G.out)
    clear HK HDR HSB HLS HTX HPJ hbwl hbwt hbwp0 hbp0 hbl hbt hkm hokl hlil hkt hnt hkc hcm
    have x0 := cell_of_blk D.out 0; have x1 := cell_of_blk D.out 1; have x2 := cell_of_blk D.out 2; have hz_x := (Array.getElem?_eq_some_iff.1 D.out).1; simp at x0 x1 x2
    have p0 := cell_of_blk G.out 0; have p1 := cell_of_blk G.out 1; have hz_p := (Array.getElem?_eq_some_iff.1 G.out).1; simp at p0 p1
    have HRJ := Lib.hid (show Calls Tryz.prog 18 #[.agg #[.int .i64 L.per, .slice L.A L.ms.length L.cap], .agg #[.slice A N cap], .agg #[.int .i64 way, .int .i64 len], .int .i64 node] wp0 (fun e w' => e = .returned (.tuple #[.int .i64 q1, .int .i64 q2, .int .i64 q3]) ∧ Below wp0.heap.size wp0 w') by
      have hn := N1.out.below BC.out
      have hok := L1.out.below BC.out
      have h1 : ns.length ≤ cap := by rw [← HN.out]; exact HC1.out
      have h2 := HCM.out
      have := rnat_any L A cap ns way len node wp0 hok hn h1 h2
      rw [← HQ0.out, ← HN.out] at this; exact this)
    go_wp2_with fail
    refine HRJ.out.mono ?_; rintro e wr0 ⟨rfl, hbr0⟩
    have BC := Lib.hid (below_more BC.out hbr0)
    have D := Lib.hid (blk_keep hbr0 D.out)
    have G := Lib.hid (blk_keep hbr0 G.out)
    clear HRJ hbr0 x0 x1 x2 hz_x p0 p1 hz_p HQ0
    obtain ⟨⟨⟨f1, f2⟩, er⟩, hQ1⟩ : ∃ q, q = sclQ L.li way len ns node := ⟨_, rfl⟩
    have HQ1 := Lib.hid hQ1
    clear hQ1
    have HK := Lib.hid (fun w' (hb : Below wr0.heap.size wr0 w') => show w'.cell? ⟨w.heap.size, 0, none⟩ = some (.int .i64 L.per) ∧ w'.cell? ⟨w.heap.size, 1, none⟩ = some (.slice L.A L.ms.length L.cap) ∧ w'.cell? ⟨w.heap.size, 2, none⟩ = some (.slice A N cap) ∧ w'.cell? ⟨w.heap.size + 1, 0, none⟩ = some (.int .i64 way) ∧ w'.cell? ⟨w.heap.size + 1, 1, none⟩ = some (.int .i64 len) ∧ Below wr0.heap.size wr0 w' from
      ⟨cell_of_blk (blk_keep hb D.out) 0, cell_of_blk (blk_keep hb D.out) 1, cell_of_blk (blk_keep hb D.out) 2, cell_of_blk (blk_keep hb G.out) 0, cell_of_blk (blk_keep hb G.out) 1, hb⟩)
    have HDR := Lib.hid (show Below wr0.heap.size wr0 wr0.drew from (Below.refl _ _).drew)
    have HSB := Lib.hid (fun wx (h : wx.cell? ⟨w.heap.size, 0, none⟩ = some (.int .i64 L.per) ∧ wx.cell? ⟨w.heap.size, 1, none⟩ = some (.slice L.A L.ms.length L.cap) ∧ wx.cell? ⟨w.heap.size, 2, none⟩ = some (.slice A N cap) ∧ wx.cell? ⟨w.heap.size + 1, 0, none⟩ = some (.int .i64 way) ∧ wx.cell? ⟨w.heap.size + 1, 1, none⟩ = some (.int .i64 len) ∧ Below wr0.heap.size wr0 wx) => h.2.2.2.2.2)
    have HLS := Lib.hid (fun wx (hb : Below wr0.heap.size wr0 wx) => show Calls Tryz.prog 16 #[.agg #[.int .i64 L.per, .slice L.A L.ms.length L.cap, .slice A N cap]] wx (GotListX wx L.li) from
      (list4_any L A N cap wx (L1.out.below (below_more BC.out hb)) (by have := HNB.out.2.1; omega) (fun m hm => by have := (HNB.out.2.2 m hm).1; omega)).mono fun _ _ h => h.x)
    have HTX := Lib.hid (fun wx (hb : Below wr0.heap.size wr0 wx) => show Calls Tryz.prog 17 #[.agg #[.int .i64 L.per, .slice L.A L.ms.length L.cap, .slice A N cap]] wx (GotTextX wx ns) by
      have := text4_any L A cap ns wx (N1.out.below (below_more BC.out hb)) (by rw [← HN.out]; exact HC1.out) HCM.out (by rw [← HN.out]; have := HNB.out.1; omega)
      rw [← HN.out] at this; exact this.mono fun _ _ h => h.x)
    have HPJ := Lib.hid (fun wx (pm : Int) (mm : List Sm) (Am : Option Addr) (km cm : Nat) (hkm : km = mm.length) (hok : LmOk wx ⟨pm, mm, Am, cm⟩) (hli : (Lm.mk pm mm Am cm).li = L.li) (A2 : Option Addr) (k2 c2 : Nat) (hk : k2 = ns.length) (hn : NdsAt wx A2 ns) (h1 : k2 ≤ c2) (h2 : c2 ≤ maxLen) => show Calls Tryz.prog 19 #[.agg #[.int .i64 pm, .slice Am km cm], .agg #[.slice A2 k2 c2], .agg #[.int .i64 way, .int .i64 len], .int .i64 node] wx (fun e w' => e = .returned (.tuple #[.agg #[.int .i64 f1, .int .i64 f2], .int .i64 er]) ∧ Below wx.heap.size wx w') by
      subst hk hkm
      have := gscale_any ⟨pm, mm, Am, cm⟩ A2 c2 ns way len node wx hok hn h1 h2
      rw [hli, ← HQ1.out] at this; exact this)
    go_wp2_with fail
    go_cut [13, 14] (fun p q wx => ∃ x, p = .pointer (some ⟨x, 0, none⟩) ∧ q = .int .i64 er ∧ Hid (BoxIn wr0 wx x f1 f2))
    case first =>
      go_region_held3 (fun w' => w'.cell? ⟨w.heap.size, 0, none⟩ = some (.int .i64 L.per) ∧ w'.cell? ⟨w.heap.size, 1, none⟩ = some (.slice L.A L.ms.length L.cap) ∧ w'.cell? ⟨w.heap.size, 2, none⟩ = some (.slice A N cap) ∧ w'.cell? ⟨w.heap.size + 1, 0, none⟩ = some (.int .i64 way) ∧ w'.cell? ⟨w.heap.size + 1, 1, none⟩ = some (.int .i64 len) ∧ Below wr0.heap.size wr0 w')
        (((refine HK.out _ ?_; first | assumption | exact HDR.out | (repeat (first | exact Below.refl _ _ | assumption | refine Below.drew ?_ | refine Below.alloc ?_ (by first | omega | (simp; omega) | simp) _ | refine Below.setCell ?_ (by first | omega | (simp; omega) | simp) _)))))
        (first
        | (go_at_call 16; refine (HLS.out _ (HSB.out _ (by assumption))).mono ?_; rintro e wl ⟨pm, mm, Am, km, cm, rfl, hkm, hokl, hlil, hbl⟩; have hbwl := below_more (HSB.out _ (by assumption)) hbl; have hzl := hbwl.size; have hyl := hbl.size; (try simp at hyl); (try (have hqwl0 : wr0.heap.size < wl.heap.size := by omega)); have HBl := Lib.hid hbl; have hltl := fun b hb => Nat.lt_of_lt_of_le (n := b) hb hbl.size; obtain ⟨hcl, hfl⟩ := bcell hbl; clear hbl)
        | (go_at_call 17; refine (HTX.out _ (HSB.out _ (by assumption))).mono ?_; rintro e wt ⟨A2, kt, c2, rfl, hkt, hnt, hkc, hcm, hbt⟩; have hbwt := below_more (HSB.out _ (by assumption)) hbt; have hzt := hbwt.size; have hyt := hbt.size; (try simp at hyt); (try (have hqwt0 : wr0.heap.size < wt.heap.size := by omega)); (try (have hqwt1 : wl.heap.size < wt.heap.size := by omega)); have HBt := Lib.hid hbt; have hltt := fun b hb => Nat.lt_of_lt_of_le (n := b) hb hbt.size; obtain ⟨hct, hft⟩ := bcell hbt; have hlt2 : Below wl.heap.size wl wt := (by first | exact hbt | exact below_of hbt | exact below_of (below_of hbt)); clear hbt)
        | (go_at_call 19; refine (HPJ.out _ pm mm Am km cm hkm.out (hokl.out.below (below_more hlt2 (by first | exact Below.refl _ _ | exact below_alloc _ _ | exact (below_alloc _ _).drew | exact two_under _ _ _))) hlil.out A2 kt c2 hkt.out (hnt.out.below (by first | exact Below.refl _ _ | exact below_alloc _ _ | exact (below_alloc _ _).drew | exact two_under _ _ _)) hkc hcm).mono ?_; rintro e wp0 ⟨rfl, hbp0⟩; have hbwp0 := below_more (HSB.out _ (by assumption)) hbp0; have hzp0 := hbwp0.size; have hyp0 := hbp0.size; (try simp at hyp0); (try (have hqwp00 : wr0.heap.size < wp0.heap.size := by omega)); (try (have hqwp01 : wl.heap.size < wp0.heap.size := by omega)); (try (have hqwp02 : wt.heap.size < wp0.heap.size := by omega)); have HBp0 := Lib.hid hbp0; have hltp0 := fun b hb => Nat.lt_of_lt_of_le (n := b) hb hbp0.size; obtain ⟨hcp0, hfp0⟩ := bcell hbp0; clear hbp0))
      all_goals go_wp2
      all_goals go_meet
      all_goals first
        | exact ⟨_, rfl, rfl, Lib.hid (box_new hbwp0)⟩
        | exact ⟨_, rfl, rfl, Lib.hid (box_set hbwt HBp0.out)⟩
        | exact ⟨_, rfl, rfl, Lib.hid (box_set hbwl (below_more HBt.out HBp0.out))⟩
        | exact ⟨_, rfl, rfl, Lib.hid (box_set (Below.refl _ _) (below_more (below_more (un_drew HBl.out) HBt.out) HBp0.out))⟩
        | fail
    case rest =>
    obtain ⟨bx, rfl, rfl, hbox⟩ := hcut
    obtain ⟨wq, rfl⟩ : ∃ w, w = wc := ⟨_, rfl⟩
    have BC := Lib.hid (below_more BC.out hbox.out.2.1)
    have D := Lib.hid (blk_keep hbox.out.2.1 D.out)
    have G := Lib.hid (blk_keep hbox.out.2.1 G.out)
    have DX := Lib.hid hbox.out.1
    clear HK HDR HSB HLS HTX HPJ hbox
    have x0 := cell_of_blk D.out 0; have x1 := cell_of_blk D.out 1; have x2 := cell_of_blk D.out 2; have hz_x := (Array.getElem?_eq_some_iff.1 D.out).1; simp at x0 x1 x2
    have p0 := cell_of_blk G.out 0; have p1 := cell_of_blk G.out 1; have hz_p := (Array.getElem?_eq_some_iff.1 G.out).1; simp at p0 p1
    have HRJ := Lib.hid (show Calls Tryz.prog 20 #[.agg #[.int .i64 L.per, .slice L.A L.ms.length L.cap], .agg #[.slice A N cap], .agg #[.int .i64 way, .int .i64 len], .int .i64 node] wq (fun e w' => e = .returned (.tuple #[.agg #[.int .i64 f1, .int .i64 f2], .int .i64 er]) ∧ Below wq.heap.size wq w') by
      have hn := N1.out.below BC.out
      have hok := L1.out.below BC.out
      have h1 : ns.length ≤ cap := by rw [← HN.out]; exact HC1.out
      have h2 := HCM.out
      have := rscl_any L A cap ns way len node wq hok hn h1 h2
      rw [← HQ1.out, ← HN.out] at this; exact this)
    go_wp2_with fail
    refine HRJ.out.mono ?_; rintro e wr1 ⟨rfl, hbr1⟩
    have BC := Lib.hid (below_more BC.out hbr1)
    have G := Lib.hid (blk_keep hbr1 G.out)
    have DX := Lib.hid (blk_keep hbr1 DX.out)
    clear HRJ hbr1 x0 x1 x2 hz_x p0 p1 hz_p HQ1 D
    go_upto_region 7 with fail
    obtain ⟨V, hV⟩ : ∃ V, V = wr1.alloc (.cells #[.int .i64 f1, .int .i64 f2] 40) := ⟨_, rfl⟩
    have kV : Below wr1.heap.size wr1 V := hV ▸ below_alloc _ _
    have DY := Lib.hid (show V.heap[wr1.heap.size]? = some (.cells #[.int .i64 f1, .int .i64 f2] 40 (0, 0)) from hV ▸ heap_alloc_new _ _)
    have BC := Lib.hid (below_more BC.out kV)
    have G := Lib.hid (blk_keep kV G.out)
    have DX := Lib.hid (blk_keep kV DX.out)
    rw [← hV]
    clear hV kV
    have p0 := cell_of_blk G.out 0; have p1 := cell_of_blk G.out 1; have hz_p := (Array.getElem?_eq_some_iff.1 G.out).1; simp at p0 p1
    have x0 := cell_of_blk DX.out 0; have x1 := cell_of_blk DX.out 1; have hz_x := (Array.getElem?_eq_some_iff.1 DX.out).1; simp at x0 x1
    have y0 := cell_of_blk DY.out 0; have y1 := cell_of_blk DY.out 1; have hz_y := (Array.getElem?_eq_some_iff.1 DY.out).1; simp at y0 y1
    have hq1 : (q1 == q1) = true := by simp
    have hq2 : (q2 == q2) = true := by simp
    have hq3 : (q3 == q3) = true := by simp
    have he1 : (er == er) = true := by simp
    obtain ⟨pe, hpe⟩ : ∃ pe, pe = pageErr way len := ⟨_, rfl⟩
    have HG1 := Lib.hid (fun wx => gpage_any way len wx)
    have HG2 := Lib.hid (fun wx => rpage_any way len wx)
    rw [← hpe] at HG1 HG2
    have he2 : (pe == pe) = true := by simp
    have heF := fun wx => eqFr_me f1 f2 wx
    clear hpe
    refine wp_region_later (by kernel_rfl) (by kernel_rfl) ?_; (repeat (first | go_big_quiet_step ((first | ((go_at_call 21; exact Calls.later _ (HG1.out _))) | ((go_at_call 22; exact Calls.later _ (HG2.out _))) | ((go_at_call 14; exact Calls.later _ (works4_any _))))) | quiet_step ((first | ((go_at_call 21; exact Calls.later _ (HG1.out _))) | ((go_at_call 22; exact Calls.later _ (HG2.out _))) | ((go_at_call 14; exact Calls.later _ (works4_any _))))))); refine wpQuiet_nil ?_; rintro _ ⟨s, rfl⟩
    have BF := Lib.hid (below_more (below_more HB.out B1.out) (below_more BC.out s.below))
    go_wp2_with fail
    go_ret
    exact ⟨rfl, BF.out⟩

end Go.Proofs.YtcijomljopbelaaGreat
