/-
  The boxes of a plain text (lay), by the specification.
-/
import Derived.Test.YtmiokllpdmmfhaaGreatRplF
import Derived.Test.YtmiokllpdmmfhaaGreatLcE
import Derived.Test.YtmiokllpdmmfhaaGreatLcF
import Derived.Deep.MidRow
import Derived.Deep.RegionHeld3
import Derived.Deep.DeepCutAuto
namespace Go.Proofs.YtmiokllpdmmfhaaGreat
open Go.RowKit
structure Mid (A : Nat) (wi w : World) (o : Value) : Prop where
  off : ∀ g, o.ownBlock = some g → g < A ∨ wi.heap.size ≤ g
  keep : ∀ g, A ≤ g → g < wi.heap.size → w.heap[g]? = wi.heap[g]?
  size : wi.heap.size ≤ w.heap.size
theorem Mid.below {A : Nat} {wi w w' : World} {o : Value} (h : Mid A wi w o) (hb : Below w.heap.size w w') : Mid A wi w' o :=
  ⟨h.off, fun g h1 h2 => (hb.block g (by have := h.size; omega)).trans (h.keep g h1 h2), Nat.le_trans h.size hb.size⟩
theorem Mid.grown {A : Nat} {wi w w1 w' : World} {o o' : Value} (h : Mid A wi w o) (hb : Below w.heap.size w w1) (hg : w1.grownBy w' o.ownBlock) (hn : o'.ownBlock = o.ownBlock ∨ o'.ownBlock = some w1.heap.size) : Mid A wi w' o' := by
  have h1 := h.below hb
  refine ⟨fun g hgo => ?_, fun g h2 h3 => ?_, Nat.le_trans h1.size hg.size⟩
  · rcases hn with hn | hn
    · exact h.off g (hn ▸ hgo)
    · rw [hn] at hgo; injection hgo with hgo; have := h1.size; omega
  · exact (hg.block g (by have := h1.size; omega) (fun e => by have := h.off g e.symm; omega)).trans (h1.keep g h2 h3)
theorem bxs_at (l : List Pc) {k : Nat} {p : Pc} (h : l[k]? = some p) (j : Nat) (u : Value) (hu : ((boxZ p).cells)[j]? = some u) : (l.flatMap fun p => (boxZ p).cells)[k * 15 + j]? = some u := by
  have hj : j < 15 := (List.getElem?_eq_some_iff.1 hu).1
  rw [flat_at (f := fun p => (boxZ p).cells) (c := 15) (fun _ => rfl) l k p h j hj]; exact hu
theorem rcs_at (l : List Pc) {k : Nat} {p : Pc} (h : l[k]? = some p) (j : Nat) (u : Value) (hu : (rcC p)[j]? = some u) : (l.flatMap rcC)[k * 4 + j]? = some u := by
  have hj : j < 4 := (List.getElem?_eq_some_iff.1 hu).1
  rw [flat_at (f := rcC) (c := 4) (fun _ => rfl) l k p h j hj]; exact hu
def layT (cw mw : Bool) (len : Int) (ks : List Shp) (k : Nat) : List Bx := (List.range k).flatMap fun k => grpB cw mw (blA cw len ks k)
theorem layT_step (cw mw : Bool) (len : Int) (ks : List Shp) (k : Nat) : layT cw mw len ks (k + 1) = layT cw mw len ks k ++ grpB cw mw (blA cw len ks k) := by
  unfold layT
  rw [List.range_succ, List.flatMap_append]; simp
def bxOf (mw : Bool) (sc x y : Fr) (p : Pc) : Bx := if mw then (boxPc sc x y p).mir else boxPc sc x y p
set_option maxRecDepth 100000 in
set_option maxHeartbeats 64000000 in
theorem rlay_any (L : Lm) (way len : Int) (A : Option Addr) (cap : Nat) (zs : List Nd) (w : World) (hl : LmOk w L) (hn : NdsAt w A zs) (hp : Pln L.li zs) (hc1 : zs.length ≤ cap) (hc : cap ≤ maxLen) (hlb : 48 ≤ len ∧ len ≤ 4800) (hwb : 1 ≤ way ∧ way ≤ 4) :
    Calls Tryz.prog 65 #[.agg #[.int .i64 L.per, .slice L.A L.ms.length L.cap], .agg #[.slice A zs.length cap], .agg #[.int .i64 way, .int .i64 len]] w (GotRow w 82 15 (layL (cwN way) (mwN way) len (shpsI L.li (cwN way) zs)).length ((layL (cwN way) (mwN way) len (shpsI L.li (cwN way) zs)).flatMap Bx.cells)) := by
  have hz200 := (text_ok hp.ok).2.1
  have hdz : ∀ x ∈ zs, 0 ≤ x.depth := fun x hx => (hp.full.depth x hx).1
  have hG : ∀ s ∈ shpsI L.li (cwN way) zs, s.good := shps_good (cwN way) hp
  have hB : ∀ s ∈ shpsI L.li (cwN way) zs, szB s := fun s hs => (hG s hs).szB
  have HKD := Lib.hid (fun wx (hb : Below w.heap.size w wx) => show Calls Tryz.prog 60 #[.agg #[.slice A zs.length cap], .int .i64 (-1)] wx (GotRow wx 3 1 (topsL zs).length (intsV (topsL zs))) by
    have := rkids_any A cap zs (-1) 0 0 wx (hn.below hb) hc1 hc (by omega) (.inr ⟨rfl, rfl, rfl⟩)
    rw [tops_kids hdz] at this; exact this)
  have HSD := Lib.hid (fun wx (hb : Below w.heap.size w wx) => rst_any L way len A cap zs wx (hl.below hb) (hn.below hb) hp hc1 hc hlb)
  obtain ⟨ks, hks⟩ : ∃ ks, ks = shpsI L.li (cwN way) zs := ⟨_, rfl⟩
  have hsz : ∀ s ∈ ks, (0 ≤ s.size.1 ∧ s.size.1 ≤ 172084) ∧ (0 ≤ s.size.2 ∧ s.size.2 ≤ 172084) := fun s hs => shps_size (cwN way) hp s (hks ▸ hs)
  have hcn : ∀ s ∈ ks, s.cnt ≤ 100000 := fun s hs => by
    rw [hks] at hs
    obtain ⟨j, _, rfl⟩ := List.mem_map.1 hs
    exact Nat.le_trans (cnt_bd (cwN way) hp 5 j) (by decide)
  have HTS := Lib.hid (fun (k j : Nat) (hj : (topsL zs)[k]? = some j) => show ∃ s, ks[k]? = some s ∧ (∀ wx, Below w.heap.size w wx → Calls Tryz.prog 58 #[.agg #[.int .i64 L.per, .slice L.A L.ms.length L.cap], .agg #[.slice A zs.length cap], .agg #[.int .i64 way, .int .i64 len], .int .i64 j, .bool false] wx (fun e w' => e = .returned (.tuple #[.int .i64 s.size.1, .int .i64 s.size.2]) ∧ Below wx.heap.size wx w')) ∧ (∀ wx, Below w.heap.size w wx → Calls Tryz.prog 61 #[.agg #[.int .i64 L.per, .slice L.A L.ms.length L.cap], .agg #[.slice A zs.length cap], .agg #[.int .i64 way, .int .i64 len], .int .i64 j] wx (fun e w' => e = .returned (.agg #[.int .i64 (sclR (cwN way) s).num, .int .i64 (sclR (cwN way) s).den]) ∧ Below wx.heap.size wx w'))
      ∧ (∀ wx, Below w.heap.size w wx → Calls Tryz.prog 112 #[.agg #[.int .i64 L.per, .slice L.A L.ms.length L.cap], .agg #[.slice A zs.length cap], .agg #[.int .i64 way, .int .i64 len], .int .i64 j, .agg #[.int .i64 0, .int .i64 0, .int .i64 s.size.1, .int .i64 s.size.2]] wx (GotPl (s.pcs 0 0) wx)) by
    obtain ⟨u, hu, hd⟩ := tops_at (List.mem_of_getElem? hj)
    refine ⟨shpI L.li (cwN way) zs 5 j, by rw [hks]; unfold shpsI; rw [List.getElem?_map, hj]; rfl, fun wx hb => ?_, fun wx hb => ?_, fun wx hb => ?_⟩
    · have := rsz_any L way len A cap zs hp hc1 hc 5 j u false wx hu (by omega) (Nat.le_refl _) (hl.below hb) (hn.below hb)
      rw [inI_false] at this; exact this
    · exact rscale_any L way len A cap zs j u wx (hl.below hb) (hn.below hb) hp hc1 hc hu
    · exact rpl_any L way len A cap zs hp hc1 hc 5 j u 0 0 wx hu (by omega) (Nat.le_refl _) (hl.below hb) (hn.below hb) (by omega) (by omega))
  rw [← hks] at hB hG HSD ⊢
  have hkl : ks.length = (topsL zs).length := by rw [hks]; unfold shpsI; rw [List.length_map]
  have hk2 : ks.length ≤ 200 := by
    have h1 : (topsL zs).length ≤ zs.length := by
      unfold topsL
      refine Nat.le_trans (List.length_filter_le _ _) ?_
      rw [List.length_range]; exact Nat.le_refl _
    omega
  obtain ⟨cw, hcw⟩ : ∃ cw, cw = cwN way := ⟨_, rfl⟩
  obtain ⟨mw, hmw⟩ : ∃ mw, mw = mwN way := ⟨_, rfl⟩
  rw [← hcw] at HTS HSD ⊢
  rw [← hmw]
  have HCW := Lib.hid (show cw = !decide (way ≤ 2) by rw [hcw]; unfold cwN; by_cases h : way ≤ 2 <;> simp [h] <;> omega)
  have HMW := Lib.hid (show ∃ rm, way.tmod 2 = rm ∧ (0 ≤ rm ∧ rm ≤ 1) ∧ (rm == 0) = mw by
    rw [hmw]
    obtain rfl | rfl | rfl | rfl : way = 1 ∨ way = 2 ∨ way = 3 ∨ way = 4 := by omega
    · exact ⟨1, rfl, by omega, rfl⟩
    · exact ⟨0, rfl, by omega, rfl⟩
    · exact ⟨1, rfl, by omega, rfl⟩
    · exact ⟨0, rfl, by omega, rfl⟩)
  have HCO := Lib.hid (fun (k : Nat) (s : Shp) (hs : ks[k]? = some s) => cor_ok (cw := cw) (len := len) ⟨by omega, by omega⟩ hB hs (by have := (List.getElem?_eq_some_iff.1 hs).1; omega) (hsz s (List.mem_of_getElem? hs)).1 (hsz s (List.mem_of_getElem? hs)).2)
  have HOK := Lib.hid (fun (k : Nat) (s : Shp) (hs : ks[k]? = some s) (p : Pc) (hpp : p ∈ s.pcs 0 0) => okM_of (cw := cw) (len := len) ⟨by omega, by omega⟩ hB hs (by have := (List.getElem?_eq_some_iff.1 hs).1; omega) (hsz s (List.mem_of_getElem? hs)).1 (hsz s (List.mem_of_getElem? hs)).2 p (pcs_small (hG s (List.mem_of_getElem? hs)) p hpp))
  have HSM := Lib.hid (fun (s : Shp) (hs : s ∈ ks) (p : Pc) (hpp : p ∈ s.pcs 0 0) => pcs_small (hG s hs) p hpp)
  have HSZB := Lib.hid hsz
  have HCN := Lib.hid hcn
  have HRW := Lib.hid (fun wx => rrows_any way len wx)
  obtain ⟨R, hR⟩ : ∃ R, R = decide (way ≤ 2) := ⟨_, rfl⟩
  rw [← hR] at HRW HCW
  obtain ⟨ts, hts⟩ : ∃ ts, ts = topsL zs := ⟨_, rfl⟩
  rw [← hts] at HTS HKD hkl
  obtain ⟨K, hK⟩ : ∃ K, K = ks.length := ⟨_, rfl⟩
  have HK := Lib.hid hK
  have HKT := Lib.hid (show K = ts.length by rw [hK]; exact hkl)
  have HLT := Lib.hid (show layL cw mw len ks = layT cw mw len ks K by rw [hK]; rfl)
  have HLL := Lib.hid (fun (k : Nat) (hk : k ≤ K) => show (layT cw mw len ks k).length ≤ k * 100000 by
    induction k with
    | zero => simp [layT]
    | succ k ih =>
      have h1 := ih (by omega)
      obtain ⟨s, hs⟩ : ∃ s, ks[k]? = some s := ⟨_, List.getElem?_eq_getElem (by omega)⟩
      have h2 := hcn s (List.mem_of_getElem? hs)
      rw [layT_step, List.length_append]
      have h3 : (grpB cw mw (blA cw len ks k)).length ≤ 100000 := by unfold grpB; rw [List.length_map, blA_at hs, pcs_cnt]; exact h2
      omega)
  rw [← hkl, ← hK] at HKD
  rw [← hK] at HSD hk2
  rw [HLT.out]
  obtain ⟨N, hN⟩ : ∃ N, N = zs.length := ⟨_, rfl⟩
  rw [← hN] at HKD HTS HSD hc1 ⊢
  unfold maxLen at hc
  clear hl hn hp hz200 hdz hB hG hks hcw hmw hR hts hK hN hkl hsz hcn
  obtain ⟨W1, hW1⟩ : ∃ W', W' = w.alloc (.cells #[.int .i64 L.per, .slice L.A L.ms.length L.cap] 24) := ⟨_, rfl⟩; obtain ⟨W2, hW2⟩ : ∃ W', W' = W1.alloc (.cells #[.slice A N cap] 27) := ⟨_, rfl⟩; obtain ⟨W, hW⟩ : ∃ W', W' = W2.alloc (.cells #[.int .i64 way, .int .i64 len] 31) := ⟨_, rfl⟩; have szW1 : W1.heap.size = w.heap.size + 1 := (by rw [hW1]; simp); have kbW1 : Below w.heap.size w W1 := hW1 ▸ below_alloc _ _; have szW2 : W2.heap.size = w.heap.size + 1 + 1 := (by rw [hW2]; simp [szW1]); have kbW2 : Below W1.heap.size W1 W2 := hW2 ▸ below_alloc _ _; have szW : W.heap.size = w.heap.size + 1 + 1 + 1 := (by rw [hW]; simp [szW2]); have kbW : Below W2.heap.size W2 W := hW ▸ below_alloc _ _; have HB := Lib.hid (below_more (below_more kbW1 kbW2) kbW); have D0 := Lib.hid (blk_keep kbW (blk_keep kbW2 (show W1.heap[w.heap.size]? = some (.cells #[.int .i64 L.per, .slice L.A L.ms.length L.cap] 24 (0, 0)) by rw [hW1]; exact heap_alloc_new _ _))); have D1 := Lib.hid (blk_keep kbW (show W2.heap[w.heap.size + 1]? = some (.cells #[.slice A N cap] 27 (0, 0)) by rw [hW2, ← szW1]; exact heap_alloc_new _ _)); have D2 := Lib.hid (show W.heap[w.heap.size + 1 + 1]? = some (.cells #[.int .i64 way, .int .i64 len] 31 (0, 0)) by rw [hW, ← szW2]; exact heap_alloc_new _ _); have SZW := Lib.hid szW; clear szW1 kbW1 szW2 kbW2 szW kbW
  have x0 := cell_of_blk D0.out 0; have x1 := cell_of_blk D0.out 1; have hz_x := (Array.getElem?_eq_some_iff.1 D0.out).1; simp at x0 x1
  have y0 := cell_of_blk D1.out 0; have hz_y := (Array.getElem?_eq_some_iff.1 D1.out).1; simp at y0
  have p0 := cell_of_blk D2.out 0; have p1 := cell_of_blk D2.out 1; have hz_p := (Array.getElem?_eq_some_iff.1 D2.out).1; simp at p0 p1
  obtain ⟨iv, hiv, hzv, hsv, hbv⟩ := info_hid infoBx
  go_enter Tryz.func65, Tryz.ntmps65
  go_wp2_with fail
  rw [← hW1, ← hW2, ← hW]; clear hW1 hW2 hW
  go_wp2_with fail
  refine (HSD.out _ HB.out).mono ?_; rintro e v0 ⟨As, cs, rfl, hos, hb0⟩
  have HB0 := Lib.hid (below_more HB.out hb0)
  have HOS := Lib.hid hos
  have D0 := Lib.hid (blk_keep hb0 D0.out)
  have D1 := Lib.hid (blk_keep hb0 D1.out)
  have D2 := Lib.hid (blk_keep hb0 D2.out)
  clear hos hb0 HSD x0 x1 hz_x y0 hz_y p0 p1 hz_p
  have y0 := cell_of_blk D1.out 0; have hz_y := (Array.getElem?_eq_some_iff.1 D1.out).1; simp at y0
  go_wp2_with fail
  refine (HKD.out _ HB0.out).mono ?_; rintro e w1 ⟨A1, c1, rfl, hown, hb1⟩
  have HB1 := Lib.hid (below_more HB0.out hb1)
  have E0 := Lib.hid (blk_keep hb1 D0.out)
  have E1 := Lib.hid (blk_keep hb1 D1.out)
  have E2 := Lib.hid (blk_keep hb1 D2.out)
  have HOS := Lib.hid (ownsRow_of_block HOS.out (fun g hg => hb1.block g (HOS.out.lt g hg).2))
  obtain ⟨hKc, hcm, -⟩ := own_len hown
  have HCE := Lib.hid (fun (k j : Nat) (hj : ts[k]? = some j) => (show ∃ b, A1 = some ⟨b, 0, none⟩ ∧ b < w1.heap.size ∧ w1.cell? ⟨b, k, none⟩ = some (.int .i64 (j : Int)) from by
    obtain ⟨b, h1, -, h2, -, -, h3, -⟩ := own_open hown (by have := (List.getElem?_eq_some_iff.1 hj).1; have := HKT.out; omega)
    exact ⟨b, h1, h2, h3 k _ (by unfold intsV; rw [List.getElem?_map, hj]; rfl)⟩))
  obtain ⟨hKs, hcs, -⟩ := own_len HOS.out
  have HCS := Lib.hid (fun (k : Nat) (hk : k < K) => (show ∃ b, As = some ⟨b, 0, none⟩ ∧ b < w1.heap.size ∧ w1.cell? ⟨b, k * 2, none⟩ = some (.int .i64 (blA cw len ks k).ln) ∧ w1.cell? ⟨b, k * 2 + 1, none⟩ = some (.int .i64 (blA cw len ks k).st) from by
    obtain ⟨b, h1, -, h2, -, -, h3, -⟩ := own_open HOS.out (by omega)
    have hst : stC cw len ks K = (List.range K).flatMap fun j => [.int .i64 (blA cw len ks j).ln, .int .i64 (blA cw len ks j).st] := rfl
    have hr : (List.range K)[k]? = some k := by rw [List.getElem?_range hk]
    exact ⟨b, h1, h2, h3 (k * 2 + 0) _ (by rw [hst, flat_at (c := 2) (fun _ => rfl) _ k k hr 0 (by omega)]; rfl), h3 (k * 2 + 1) _ (by rw [hst, flat_at (c := 2) (fun _ => rfl) _ k k hr 1 (by omega)]; rfl)⟩))
  unfold maxLen at hcm hcs
  clear hown hb1 HKD HOS D0 D1 D2 y0 hz_y HB0
  go_wp2_with fail
  go_loopw [7, 10] (fun ov i wr => ∃ (k m : Nat), k ≤ K ∧ i = .int .i64 k ∧ Hid (m = (layT cw mw len ks k).length) ∧ Hid (wr.ownsRow w1.heap.size 82 15 ov m ((layT cw mw len ks k).flatMap Bx.cells)) ∧ Hid (Below w1.heap.size w1 wr)) (fun _ i _ => K - (intOf i).toNat)
  case atStart => exact ⟨0, 0, Nat.zero_le _, rfl, Lib.hid rfl, Lib.hid (by simpa [layT] using World.ownsRow_nil _ _ _ _), Lib.hid (Below.refl _ _)⟩
  case round =>
    obtain ⟨k, m, hk, rfl, hml, hown, hbw⟩ := hrel
    have HOW := Lib.hid hown.out
    have HBR := Lib.hid hbw.out
    have HML := Lib.hid hml.out
    clear hown hbw hml
    by_cases hlt : k < K
    · obtain ⟨j, hj⟩ : ∃ j, ts[k]? = some j := ⟨_, List.getElem?_eq_getElem (by have := HKT.out; omega)⟩
      obtain ⟨s, hs, hsz, hscl, hplc⟩ := HTS.out k j hj
      have HSZ := Lib.hid hsz
      have HSC := Lib.hid hscl
      have hsm := List.mem_of_getElem? hs
      obtain ⟨b, rfl, hbl, hcell⟩ := HCE.out k j hj
      obtain ⟨bs, rfl, hbs, hln, hst⟩ := HCS.out k hlt
      obtain ⟨c1b, c2b, c3b, c4b, c5b, c6b, c7b⟩ := HCO.out k s hs
      have hszb := HSZB.out s hsm
      have HSTP := Lib.hid (layT_step cw mw len ks k)
      have HOKM := Lib.hid (fun p hpp => HOK.out k s hs p hpp)
      have HSMP := Lib.hid (fun p hpp => HSM.out s hsm p hpp)
      have hcns := HCN.out s hsm
      obtain ⟨B, hBB⟩ : ∃ B, B = blA cw len ks k := ⟨_, rfl⟩
      have HGRP := Lib.hid (show grpB cw mw B = (s.pcs 0 0).map (bxOf mw B.sc (corX cw B) (corY cw B)) by unfold grpB; rw [hBB, c7b]; rfl)
      have hacr : acR cw s = if R then s.size.2 else s.size.1 := by unfold acR; rw [HCW.out]; cases R <;> rfl
      rw [← hBB] at hln hst c1b c2b c5b c6b HSTP HOKM
      have HCR := Lib.hid (show plusF ⟨72 * B.ln, 1⟩ (fracR (48 * (sclR cw s).den - acR cw s * (sclR cw s).num) (2 * (sclR cw s).den)) = croR B.ac.num B.ac.den B.ln by
        rw [c6b, Int.mul_comm (acR cw s)]; exact cor_spec (by omega))
      have HXE := Lib.hid (show corX cw B = if R then ⟨B.st, 1⟩ else croR B.ac.num B.ac.den B.ln by unfold corX; rw [HCW.out]; cases R <;> rfl)
      have HYE := Lib.hid (show corY cw B = if R then croR B.ac.num B.ac.den B.ln else ⟨B.st, 1⟩ by unfold corY; rw [HCW.out]; cases R <;> rfl)
      have HSCE := Lib.hid c5b
      obtain ⟨ln, hlne⟩ : ∃ ln, ln = B.ln := ⟨_, rfl⟩
      obtain ⟨st, hste⟩ : ∃ st, st = B.st := ⟨_, rfl⟩
      obtain ⟨CR, hcre⟩ : ∃ c, c = croR B.ac.num B.ac.den B.ln := ⟨_, rfl⟩
      rw [← hcre] at HCR HXE HYE
      rw [← hlne] at hln c2b HCR
      rw [← hste] at hst c1b HXE HYE
      obtain ⟨⟨g1, g2⟩, hg⟩ : ∃ g, g = sclR cw s := ⟨_, rfl⟩
      obtain ⟨⟨sw, sh⟩, hsp⟩ : ∃ p, p = s.size := ⟨_, rfl⟩
      obtain ⟨ac, hace⟩ : ∃ a, a = acR cw s := ⟨_, rfl⟩
      rw [← hg] at HSC HSCE HCR c3b
      rw [← hace] at HCR hacr c4b
      rw [← hsp] at HSZ hplc hszb hacr HSMP
      dsimp only at HSC HSCE HSZ HCR hplc hszb hacr c3b HSMP
      obtain ⟨l, hle⟩ : ∃ l, l = s.pcs 0 0 := ⟨_, rfl⟩
      obtain ⟨q, hq⟩ : ∃ q, q = l.length := ⟨_, rfl⟩
      have hqc : q ≤ 100000 := by rw [hq, hle, pcs_cnt]; exact hcns
      rw [← hle] at HGRP HOKM HSMP hplc
      have HPC := Lib.hid (fun wx (hb : Below w.heap.size w wx) => show Calls Tryz.prog 112 #[.agg #[.int .i64 L.per, .slice L.A L.ms.length L.cap], .agg #[.slice A N cap], .agg #[.int .i64 way, .int .i64 len], .int .i64 j, .agg #[.int .i64 0, .int .i64 0, .int .i64 sw, .int .i64 sh]] wx (fun e w' => ∃ A c B d, e = .returned (.tuple #[.slice A q c, .slice B q d])
          ∧ Hid (w'.ownsRow wx.heap.size 82 15 (.slice A q c) q (l.flatMap fun p => (boxZ p).cells)) ∧ Hid (w'.ownsRow wx.heap.size 174 4 (.slice B q d) q (l.flatMap rcC)) ∧ Below wx.heap.size wx w') from by
          have := hplc wx hb
          unfold GotPl at this
          rw [← hq] at this; exact this)
      have HQ := Lib.hid hq
      have hki : (0 : Int) ≤ (k : Int) := by omega
      have hkl : (k : Int) < (K : Int) := by omega
      have hbr : b < wr.heap.size := by have := HBR.out.size; omega
      have hbsr : bs < wr.heap.size := by have := HBR.out.size; omega
      have HBW := Lib.hid (below_more HB1.out HBR.out)
      have F0 := Lib.hid (blk_keep HBR.out E0.out)
      have F1 := Lib.hid (blk_keep HBR.out E1.out)
      have F2 := Lib.hid (blk_keep HBR.out E2.out)
      obtain ⟨jz, hjz⟩ : ∃ jz : Int, jz = (j : Int) := ⟨_, rfl⟩
      rw [← hjz] at hcell HSZ HSC HPC
      have ZJ := Lib.hid ((HBR.out.cell (p := ⟨b, k, none⟩) hbl).trans hcell)
      have ZS := Lib.hid (show wr.cell? ⟨bs, k * 2, none⟩ = some (.int .i64 ln) ∧ wr.cell? ⟨bs, k * 2 + 1, none⟩ = some (.int .i64 st) from ⟨(HBR.out.cell (p := ⟨bs, k * 2, none⟩) hbs).trans hln, (HBR.out.cell (p := ⟨bs, k * 2 + 1, none⟩) hbs).trans hst⟩)
      have HBL := Lib.hid hbl
      have HBS := Lib.hid hbs
      clear hjz hcell hln hst hj hs hsz hscl hplc hsm hBB hlne hste hcre hg hsp hace hle hq c5b c6b c7b hcns hbl hbs
      go_upto_region 7 with fail
      go_cut [11] (fun p wx => ∃ g, p = .pointer (some ⟨g, 0, none⟩) ∧ Hid (BoxIn wr wx g g1 g2))
      case first =>
        have HDA := Lib.hid (show Below wr.heap.size wr (wr.alloc (.cells #[.int .i64 0, .int .i64 0] 40)).drew from (below_alloc _ _).drew)
        have HDR := Lib.hid (show Below wr.heap.size wr wr.drew from (Below.refl _ _).drew)
        have HKS := Lib.hid (fun wx (hb : Below wr.heap.size wr wx) => show wx.cell? ⟨w.heap.size, 0, none⟩ = some (.int .i64 L.per) ∧ wx.cell? ⟨w.heap.size, 1, none⟩ = some (.slice L.A L.ms.length L.cap) ∧ wx.cell? ⟨w.heap.size + 1, 0, none⟩ = some (.slice A N cap) ∧ wx.cell? ⟨w.heap.size + 1 + 1, 0, none⟩ = some (.int .i64 way) ∧ wx.cell? ⟨w.heap.size + 1 + 1, 1, none⟩ = some (.int .i64 len) ∧ wx.cell? ⟨b, k, none⟩ = some (.int .i64 jz) from
          have d0 := blk_keep hb F0.out
          have d1 := blk_keep hb F1.out
          have d2 := blk_keep hb F2.out
          ⟨cell_of_blk d0 0, cell_of_blk d0 1, cell_of_blk d1 0, cell_of_blk d2 0, cell_of_blk d2 1, (hb.cell (p := ⟨b, k, none⟩) hbr).trans ZJ.out⟩)
        go_region_held3 (fun wx => wx.cell? ⟨w.heap.size, 0, none⟩ = some (.int .i64 L.per) ∧ wx.cell? ⟨w.heap.size, 1, none⟩ = some (.slice L.A L.ms.length L.cap) ∧ wx.cell? ⟨w.heap.size + 1, 0, none⟩ = some (.slice A N cap) ∧ wx.cell? ⟨w.heap.size + 1 + 1, 0, none⟩ = some (.int .i64 way) ∧ wx.cell? ⟨w.heap.size + 1 + 1, 1, none⟩ = some (.int .i64 len) ∧ wx.cell? ⟨b, k, none⟩ = some (.int .i64 jz))
          ((refine HKS.out _ ?_; first | exact HDR.out | exact HDA.out | assumption | (refine Below.alloc ?_ ?_ _ <;> first | assumption | exact HDR.out | exact Nat.le_refl _ | exact Below.size (by assumption)) | (refine Below.setCell (Below.setCell ?_ ?_ _) ?_ _ <;> first | assumption | exact Nat.le_refl _ | exact Below.size (by assumption))))
          (first
            | (go_at_call 61; refine (HSC.out _ (below_more HBW.out (by first | exact HDR.out | exact HDA.out))).mono ?_; rintro e wa ⟨rfl, hba⟩; have ka : Below wr.heap.size wr wa := by first | exact below_more HDR.out hba | exact below_more HDA.out hba
               (try (have z := blk_keep hba (show (wr.alloc (.cells #[.int .i64 0, .int .i64 0] 40)).drew.heap[wr.heap.size]? = _ from heap_alloc_new wr (.cells #[.int .i64 0, .int .i64 0] 40)); have z0 := cell_of_blk z 0; have z1 := cell_of_blk z 1; have y0 := free_of_blk z 0; have y1 := free_of_blk z 1; have hzz := (Array.getElem?_eq_some_iff.1 z).1; simp at z0 z1 y0 y1 hzz; clear z)))
            | fail)
        all_goals (
          go_wp2_with fail
          go_meet
          first
          | exact ⟨_, rfl, Lib.hid (box_new ka)⟩
          | exact ⟨_, rfl, Lib.hid (box_set (Below.refl _ _) (un_drew hba))⟩
          | fail)
      case rest =>
      obtain ⟨gs, rfl, hbox⟩ := hcut
      have BX := Lib.hid hbox.out.1
      have BK := Lib.hid hbox.out.2.1
      have BG := Lib.hid hbox.out.2.2
      obtain ⟨w3, rfl⟩ : ∃ w3, w3 = wc := ⟨_, rfl⟩
      clear hbox HSC
      have HBW3 := Lib.hid (below_more HBW.out BK.out)
      have Y0 := Lib.hid (blk_keep BK.out F0.out)
      have Y1 := Lib.hid (blk_keep BK.out F1.out)
      have Y2 := Lib.hid (blk_keep BK.out F2.out)
      have z := (BK.out.cell (p := ⟨b, k, none⟩) hbr).trans ZJ.out
      have hbr3 : b < w3.heap.size := by have := BK.out.size; omega
      have x0 := cell_of_blk Y0.out 0; have x1 := cell_of_blk Y0.out 1; have hz_x := (Array.getElem?_eq_some_iff.1 Y0.out).1; simp at x0 x1
      have y0 := cell_of_blk Y1.out 0; have hz_y := (Array.getElem?_eq_some_iff.1 Y1.out).1; simp at y0
      have p0 := cell_of_blk Y2.out 0; have p1 := cell_of_blk Y2.out 1; have hz_p := (Array.getElem?_eq_some_iff.1 Y2.out).1; simp at p0 p1
      go_upto_region 8 with fail
      refine wp_region_later (by kernel_rfl) (by kernel_rfl) ?_; (repeat (first | go_big_quiet_step (((go_at_call 58; exact Calls.later _ (HSZ.out _ (below_more HBW3.out (Later.below _)))))) | quiet_step (((go_at_call 58; exact Calls.later _ (HSZ.out _ (below_more HBW3.out (Later.below _)))))))); refine wpQuiet_nil ?_; rintro _ ⟨s, rfl⟩
      have HB4 := Lib.hid s.below
      obtain ⟨w4, hw4⟩ : ∃ w4, w4 = s.w := ⟨_, rfl⟩
      rw [← hw4] at HB4 ⊢
      clear hw4 s z hbr3 x0 x1 hz_x y0 hz_y p0 p1 hz_p HSZ
      have HR4 := Lib.hid (below_more BK.out HB4.out)
      have HBW4 := Lib.hid (below_more HBW.out HR4.out)
      have Y0 := Lib.hid (blk_keep HR4.out F0.out)
      have Y1 := Lib.hid (blk_keep HR4.out F1.out)
      have Y2 := Lib.hid (blk_keep HR4.out F2.out)
      have z := (HR4.out.cell (p := ⟨b, k, none⟩) hbr).trans ZJ.out
      have hbr4 : b < w4.heap.size := by have := HR4.out.size; omega
      have BX := Lib.hid (blk_keep HB4.out BX.out)
      have x0 := cell_of_blk Y0.out 0; have x1 := cell_of_blk Y0.out 1; have hz_x := (Array.getElem?_eq_some_iff.1 Y0.out).1; simp at x0 x1
      have y0 := cell_of_blk Y1.out 0; have hz_y := (Array.getElem?_eq_some_iff.1 Y1.out).1; simp at y0
      have p0 := cell_of_blk Y2.out 0; have p1 := cell_of_blk Y2.out 1; have hz_p := (Array.getElem?_eq_some_iff.1 Y2.out).1; simp at p0 p1
      go_upto_region 9 with fail
      refine wp_region_later_mid 10 0 (by kernel_rfl) (by kernel_rfl) ?_
      simp only [List.take_succ_cons, List.take_zero, List.drop_succ_cons, List.drop_zero]
      (repeat (first | go_big_quiet_step (fail) | quiet_step (fail)))
      refine wpQuiet_nil ?_
      rintro _ ⟨s0, rfl⟩
      have k5 := Lib.hid s0.below
      go_wp2_with fail
      refine (HPC.out _ (below_more HBW4.out k5.out)).mono ?_; rintro e wp ⟨A2, c3, B2, d2, rfl, hob, hor, hbp⟩
      have k6 := Lib.hid (below_more k5.out hbp)
      have HOB := Lib.hid hob.out
      have HOR := Lib.hid hor.out
      have hsz5 := k5.out.size
      clear hob hor hbp z x0 x1 hz_x y0 hz_y p0 p1 hz_p HPC hbr4
      go_wp2_with fail
      refine midQ_normal ?_
      (repeat (first | go_big_quiet_step (fail) | quiet_step (fail)))
      refine wpQuiet_nil ?_
      rintro _ ⟨s2, rfl⟩
      have HB5 := Lib.hid (below_more k6.out s2.below)
      have HOB := Lib.hid (ownsRow_of_block HOB.out (fun g hg => s2.below.block g (HOB.out.lt g hg).2))
      have HOR := Lib.hid (ownsRow_of_block HOR.out (fun g hg => s2.below.block g (HOR.out.lt g hg).2))
      obtain ⟨v5, hv5⟩ : ∃ w4, w4 = s2.w := ⟨_, rfl⟩
      rw [← hv5] at HB5 HOB HOR ⊢
      have HOB := Lib.hid (own_base HOB.out hsz5)
      have HOR := Lib.hid (own_base HOR.out hsz5)
      clear hv5 s2 k6 hsz5
      have HR5 := Lib.hid (below_more HR4.out HB5.out)
      have BX := Lib.hid (blk_keep HB5.out BX.out)
      have HWH := Lib.hid (fun wx => rwhole_any st wx)
      try unfold GotFr at HWH
      have HKS := Lib.hid (fun wx (h : Below v5.heap.size v5 wx) => show wx.cell? ⟨bs, k * 2, none⟩ = some (.int .i64 ln) ∧ wx.cell? ⟨bs, k * 2 + 1, none⟩ = some (.int .i64 st) from
        have h9 := below_more HR5.out h
        ⟨(h9.cell (p := ⟨bs, k * 2, none⟩) hbsr).trans ZS.out.1, (h9.cell (p := ⟨bs, k * 2 + 1, none⟩) hbsr).trans ZS.out.2⟩)
      have HDR := Lib.hid (show Below v5.heap.size v5 v5.drew from (Below.refl _ _).drew)
      go_upto_region 10 with fail
      go_cut [16, 17] (fun p q wx => ∃ x8 x9, p = .pointer (some ⟨x8, 0, none⟩) ∧ q = .pointer (some ⟨x9, 0, none⟩) ∧ Hid (New2 v5 x8 x9 ⟨st, 1⟩ ⟨st, 1⟩ wx))
      case first => as_aux_lemma =>
        go_region_held3 (fun wx => wx.cell? ⟨bs, k * 2, none⟩ = some (.int .i64 ln) ∧ wx.cell? ⟨bs, k * 2 + 1, none⟩ = some (.int .i64 st))
          ((refine HKS.out _ ?_; (repeat (first | with_reducible assumption | with_reducible exact Below.refl _ _ | with_reducible refine Below.drew ?_ | (with_reducible refine Below.alloc ?_ (by first | omega | (simp; omega) | simp) _) | (with_reducible refine Below.setCell ?_ (by first | omega | (simp; omega) | simp) _)))))
          (first
            | (have hzz := hba; go_at_call 103; refine (HWH.out _).mono ?_; rintro e wb ⟨rfl, hbb⟩
               have kab : Below wa.heap.size wa wb := by first | with_reducible exact hbb | exact below_of hbb | exact below_of (below_of hbb)
               have kb := below_more ka kab
               have zb := hbb.size; (try simp at zb)
               (try (have f1 := Has.below e1 kab; have qa0 := (f1).c0; have qa1 := (f1).c1; have qaf0 := (f1).f0; have qaf1 := (f1).f1; have qaz := (f1).lt))
               (try (have f2 := Has.below e2 kab; have qb0 := (f2).c0; have qb1 := (f2).c1; have qbf0 := (f2).f0; have qbf1 := (f2).f1; have qbz := (f2).lt))
               (try (have f3 := Has.below (Has.new wa 0 0) hbb; have qc0 := (f3).c0; have qc1 := (f3).c1; have qcf0 := (f3).f0; have qcf1 := (f3).f1; have qcz := (f3).lt))
               (try (have f3 := Has.below (Has.alloc (Has.new wa 0 0) _) hbb; have f4 := (New2.none_ (a := ⟨0, 0⟩) (b := ⟨0, 0⟩) (Below.refl wa.heap.size wa)).h2.below hbb; have qc0 := (f3).c0; have qc1 := (f3).c1; have qcf0 := (f3).f0; have qcf1 := (f3).f1; have qcz := (f3).lt; have qd0 := (f4).c0; have qd1 := (f4).c1; have qdf0 := (f4).f0; have qdf1 := (f4).f1; have qdz := (f4).lt)))
            | (go_at_call 103; refine (HWH.out _).mono ?_; rintro e wa ⟨rfl, hba⟩
               have ka : Below v5.heap.size v5 wa := by first | exact un_drew hba | exact below_of (un_drew hba) | exact below_of (below_of (un_drew hba))
               have za := hba.size; (try simp at za)
               (try (have e1 := Has.below (Has.drew (Has.new v5 0 0)) hba))
               (try (have e1 := Has.below (Has.drew (Has.alloc (Has.new v5 0 0) _)) hba; have e2 := (New2.none_ (a := ⟨0, 0⟩) (b := ⟨0, 0⟩) (Below.refl v5.heap.size v5)).h2.drew.below hba)))
            | fail)
        all_goals (
          go_wp2_with fail
          go_meet
          refine ⟨_, _, rfl, rfl, Lib.hid ?_⟩
          first
          | with_reducible exact New2.none_ kb
          | with_reducible exact New2.rev kb
          | (with_reducible refine New2.fst kb ?_ ?_ <;> first | with_reducible assumption | omega)
          | (with_reducible refine New2.snd kb ?_ ?_ <;> first | with_reducible assumption | omega)
          | (with_reducible refine New2.both kb ?_ ?_ ?_ ?_ ?_ <;> first | with_reducible assumption | omega)
          | fail)
      case rest =>
      obtain ⟨gx, gy, rfl, rfl, h2⟩ := hcut
      obtain ⟨v6, hv6⟩ : ∃ V, V = wc := ⟨_, rfl⟩
      rw [← hv6] at h2 ⊢
      have N2 := Lib.hid h2.out
      clear hv6 h2 HKS HDR HWH
      have HR6 := Lib.hid (below_more HR5.out N2.out.bel)
      have Y2 := Lib.hid (blk_keep HR6.out F2.out)
      have p0 := cell_of_blk Y2.out 0; have p1 := cell_of_blk Y2.out 1; have hz_p := (Array.getElem?_eq_some_iff.1 Y2.out).1; simp at p0 p1
      go_wp2_with fail
      refine (HRW.out _).mono ?_; rintro e v7 ⟨rfl, hb7⟩
      have HR7 := Lib.hid (below_more HR6.out hb7)
      have X7 := Lib.hid (N2.out.h1.below hb7)
      have Y7 := Lib.hid (N2.out.h2.below hb7)
      have NE7 := Lib.hid (show gx ≠ gy ∧ v5.heap.size ≤ gx ∧ v5.heap.size ≤ gy from ⟨N2.out.ne, N2.out.l1, N2.out.l2⟩)
      have HV7 := Lib.hid (below_more N2.out.bel hb7)
      have BX7 := Lib.hid (show Has gs g1 g2 v7 from blk_keep HV7.out BX.out)
      clear hb7 Y2 p0 p1 hz_p N2
      have hacb : 0 ≤ ac * g1 ∧ ac * g1 ≤ 172084 * 48 := ⟨Int.mul_nonneg c4b.1 c3b.1.1, Int.mul_le_mul c4b.2 c3b.1.2 c3b.1.1 (by omega)⟩
      have HFR := Lib.hid (fun wx => rfrac_any (48 * g2 - ac * g1) (2 * g2) wx (by (try unfold smallI); omega) (by omega))
      have hfn := fracR_num (n := 48 * g2 - ac * g1) (d := 2 * g2) (B := 8300000) (by omega) (by omega)
      have hfd := fracR_den (n := 48 * g2 - ac * g1) (d := 2 * g2) (by omega)
      obtain ⟨⟨r1, r2⟩, hr⟩ : ∃ f, f = fracR (48 * g2 - ac * g1) (2 * g2) := ⟨_, rfl⟩
      rw [← hr] at HFR HCR hfn hfd
      try unfold GotFr at HFR
      dsimp only at HFR hfn hfd
      have HAD := Lib.hid (fun wx => add_cor ⟨72 * ln, 1⟩ ⟨r1, r2⟩ wx ⟨by dsimp only; omega, by dsimp only; omega⟩ hfn (by dsimp only; omega))
      have HCK := Lib.hid (show CorOk CR by
        rw [← HCR.out]
        obtain ⟨q1, q2, q3, q4, q5⟩ := cor_add (X := ⟨72 * ln, 1⟩) (F := ⟨r1, r2⟩) ⟨by dsimp only; omega, by dsimp only; omega⟩ hfn (by dsimp only; omega)
        dsimp only at q1 q2 q3 q4 q5
        unfold plusF
        dsimp only
        have := mul_bd2 (a := 72 * ln) (K := 14472) (by omega) (show 0 ≤ r2 ∧ r2 ≤ 344168 by omega)
        exact corOk_fr (by omega) (by omega))
      rw [HCR.out] at HAD
      try unfold GotFr at HAD
      dsimp only at HAD
      clear hr HCR
      obtain ⟨⟨cr1, cr2⟩, hcr⟩ : ∃ f, f = CR := ⟨_, rfl⟩
      rw [← hcr] at HAD HCK HXE HYE
      dsimp only at HAD
      clear hcr CR
      have HWH := Lib.hid (fun wx => rwhole_any (72 * ln) wx)
      try unfold GotFr at HWH
      go_upto_if 78 with fail
      go_cut [] (fun wx => Hid (Has gx (corX cw B).num (corX cw B).den wx) ∧ Hid (Has gy (corY cw B).num (corY cw B).den wx) ∧ Hid (Has gs g1 g2 wx) ∧ Hid (Below v5.heap.size v5 wx))
      case first =>
        have hb5r : bs < v7.heap.size := by have := HR7.out.size; omega
        have z := (HR7.out.cell (p := ⟨bs, k * 2, none⟩) hbsr).trans ZS.out.1
        have m0 := ((BX7.out)).c0; have m1 := ((BX7.out)).c1; have mf0 := ((BX7.out)).f0; have mf1 := ((BX7.out)).f1; have mz := ((BX7.out)).lt
        cases R
        case true =>
          rw [if_pos rfl] at HXE HYE hacr
          subst hacr
          have n0 := ((Y7.out)).c0; have n1 := ((Y7.out)).c1; have nf0 := ((Y7.out)).f0; have nf1 := ((Y7.out)).f1; have nz := ((Y7.out)).lt
          go_upto_region 12 with fail
          refine wp_region_later_tail 20 (by kernel_rfl) (by kernel_rfl) ?_; simp only [List.take_succ_cons, List.take_zero, List.drop_succ_cons, List.drop_zero]; (repeat (first | go_big_quiet_step (first | ((go_at_call 103; exact Calls.later _ (HWH.out _))) | ((go_at_call 105; exact Calls.later _ (HFR.out _))) | ((go_at_call 83; exact Calls.later _ (HAD.out _)))) | quiet_step (first | ((go_at_call 103; exact Calls.later _ (HWH.out _))) | ((go_at_call 105; exact Calls.later _ (HFR.out _))) | ((go_at_call 83; exact Calls.later _ (HAD.out _)))))); refine wpQuiet_nil ?_; rintro _ ⟨s, rfl⟩
          have kb := Lib.hid s.below
          have Y8 := Lib.hid (Y7.out.below s.below)
          obtain ⟨v8, hv8⟩ : ∃ z, z = s.w := ⟨_, rfl⟩
          rw [← hv8] at kb Y8 ⊢
          clear hv8 s m0 m1 mf0 mf1 mz n0 n1 nf0 nf1 nz z hb5r
          have n0 := ((Y8.out)).c0; have n1 := ((Y8.out)).c1; have nf0 := ((Y8.out)).f0; have nf1 := ((Y8.out)).f1; have nz := ((Y8.out)).lt
          go_wp2_with fail
          go_meet
          have hbv := below_more HV7.out kb.out
          exact ⟨Lib.hid (by rw [HXE.out]; exact (X7.out.below kb.out).other NE7.out.1), Lib.hid (by rw [HYE.out]; exact Y8.out.set2 _ _), Lib.hid ((BX7.out.below kb.out).other (by have := NE7.out.2.2; have := BX.out; have := (Array.getElem?_eq_some_iff.1 this).1; omega)), Lib.hid ((hbv.setCell NE7.out.2.2 _).setCell NE7.out.2.2 _)⟩
        case false =>
          rw [if_neg (by decide)] at HXE HYE hacr
          subst hacr
          have n0 := ((X7.out)).c0; have n1 := ((X7.out)).c1; have nf0 := ((X7.out)).f0; have nf1 := ((X7.out)).f1; have nz := ((X7.out)).lt
          go_upto_region 13 with fail
          refine wp_region_later_tail 20 (by kernel_rfl) (by kernel_rfl) ?_; simp only [List.take_succ_cons, List.take_zero, List.drop_succ_cons, List.drop_zero]; (repeat (first | go_big_quiet_step (first | ((go_at_call 103; exact Calls.later _ (HWH.out _))) | ((go_at_call 105; exact Calls.later _ (HFR.out _))) | ((go_at_call 83; exact Calls.later _ (HAD.out _)))) | quiet_step (first | ((go_at_call 103; exact Calls.later _ (HWH.out _))) | ((go_at_call 105; exact Calls.later _ (HFR.out _))) | ((go_at_call 83; exact Calls.later _ (HAD.out _)))))); refine wpQuiet_nil ?_; rintro _ ⟨s, rfl⟩
          have kb := Lib.hid s.below
          have Y8 := Lib.hid (X7.out.below s.below)
          obtain ⟨v8, hv8⟩ : ∃ z, z = s.w := ⟨_, rfl⟩
          rw [← hv8] at kb Y8 ⊢
          clear hv8 s m0 m1 mf0 mf1 mz n0 n1 nf0 nf1 nz z hb5r
          have n0 := ((Y8.out)).c0; have n1 := ((Y8.out)).c1; have nf0 := ((Y8.out)).f0; have nf1 := ((Y8.out)).f1; have nz := ((Y8.out)).lt
          go_wp2_with fail
          go_meet
          have hbv := below_more HV7.out kb.out
          exact ⟨Lib.hid (by rw [HXE.out]; exact Y8.out.set2 _ _), Lib.hid (by rw [HYE.out]; exact (Y7.out.below kb.out).other (Ne.symm NE7.out.1)), Lib.hid ((BX7.out.below kb.out).other (by have := NE7.out.2.1; have := BX.out; have := (Array.getElem?_eq_some_iff.1 this).1; omega)), Lib.hid ((hbv.setCell NE7.out.2.1 _).setCell NE7.out.2.1 _)⟩
      case rest =>
      obtain ⟨hgx, hgy, hgs, hbw⟩ := hcut
      obtain ⟨wi, rfl⟩ : ∃ z, z = wc := ⟨_, rfl⟩
      obtain ⟨wo, rfl⟩ : ∃ z, z = wr := ⟨_, rfl⟩
      have HGX := Lib.hid hgx.out
      have HGY := Lib.hid hgy.out
      have HGS := Lib.hid hgs.out
      have HVI := Lib.hid hbw.out
      have HRI := Lib.hid (below_more HR5.out HVI.out)
      have HXO := Lib.hid (show CorOk (corX cw B) by rw [HXE.out]; cases R <;> first | exact HCK.out | exact corOk_st (by omega))
      have HYO := Lib.hid (show CorOk (corY cw B) by rw [HYE.out]; cases R <;> first | exact HCK.out | exact corOk_st (by omega))
      obtain ⟨⟨Xc1, Xc2⟩, hX⟩ : ∃ X, X = corX cw B := ⟨_, rfl⟩
      obtain ⟨⟨Yc1, Yc2⟩, hY⟩ : ∃ Y, Y = corY cw B := ⟨_, rfl⟩
      rw [← hX, ← hY, HSCE.out] at HGRP HOKM
      rw [← hX] at HGX HXO
      rw [← hY] at HGY HYO
      dsimp only at HGX HGY
      obtain ⟨D, hD⟩ : ∃ D, D = layT cw mw len ks k := ⟨_, rfl⟩
      have HDD := Lib.hid hD
      have hmD := HML.out
      rw [← hD] at HOW hmD HSTP
      have HMD := Lib.hid hmD
      have hmb : m ≤ 20000000 := by
        have h1 := HLL.out k (by omega)
        rw [← hD, ← hmD] at h1
        have h2 := Nat.mul_le_mul_right 100000 (show k ≤ 200 by omega)
        omega
      have hg12 := c3b
      clear hgx hgy hgs hbw hX hY hD HXE HYE HCK HFR HAD HWH hfn hfd hacb hacr BX7 X7 Y7 HV7 BX HR7 HR6 HB5 Y0 Y1 hmD
      have HMI := Lib.hid (show Mid wo.heap.size wi wi u7 from ⟨fun g hg => .inl (HOW.out.lt g hg).2, fun _ _ _ => rfl, Nat.le_refl _⟩)
      have HOI := Lib.hid (ownsRow_of_block HOW.out (fun g hg => HRI.out.block g (HOW.out.lt g hg).2))
      have HBI := Lib.hid (below_more HBR.out HRI.out)
      go_wp2_with fail
      go_loopw [7, 18] (fun ov iv' wr => ∃ (kk m' : Nat), kk ≤ q ∧ iv' = .int .i64 kk ∧ Hid (m' = m + kk) ∧ Hid (wr.ownsRow w1.heap.size 82 15 ov m' ((D ++ (l.take kk).map (bxOf mw ⟨g1, g2⟩ ⟨Xc1, Xc2⟩ ⟨Yc1, Yc2⟩)).flatMap Bx.cells)) ∧ Hid (Mid wo.heap.size wi wr ov) ∧ Hid (Below w1.heap.size w1 wr)) (fun _ iv' _ => q - (intOf iv').toNat)
      case atStart => exact ⟨0, m, Nat.zero_le _, rfl, Lib.hid rfl, Lib.hid (by simpa using HOI.out), HMI, HBI⟩
      case round =>
        obtain ⟨kk, m', hkk, rfl, hm', hown, hmid, hbw⟩ := hrel
        have HOW2 := Lib.hid hown.out
        have HM := Lib.hid hmid.out
        have HBK := Lib.hid hbw.out
        have HM2 := Lib.hid hm'.out
        have hmb2 : m' ≤ 30000000 := by have := HM2.out; omega
        clear hown hmid hbw hm' HOI HMI HBI
        by_cases hlt2 : kk < q
        · obtain ⟨pc, hpc0⟩ : ∃ pc, l[kk]? = some pc := ⟨_, List.getElem?_eq_getElem (by have := HQ.out; omega)⟩
          have hpm := List.mem_of_getElem? hpc0
          obtain ⟨Gb, rfl, hGb1, hGb2, hGb3, hGb4, hGbc, -⟩ := own_open HOB.out (by omega)
          obtain ⟨Gr, rfl, hGr1, hGr2, hGr3, hGr4, hGrc, -⟩ := own_open HOR.out (by omega)
          unfold maxLen at hGb4 hGr4
          have hsr4 := HR4.out.size
          have hsvi := HVI.out.size
          have HGL := Lib.hid (show Gb < wi.heap.size ∧ Gr < wi.heap.size by omega)
          have HIN := Lib.hid (fun (wx : World) (o : Value) (hm : Mid wo.heap.size wi wx o) => show Has gx Xc1 Xc2 wx ∧ Has gy Yc1 Yc2 wx ∧ Has gs g1 g2 wx ∧ (∀ (k : Nat) (p : Pc), l[k]? = some p → ∀ (j : Nat) (u : Value), ((boxZ p).cells)[j]? = some u → wx.cell? ⟨Gb, k * 15 + j, none⟩ = some u) ∧ (∀ (k : Nat) (p : Pc), l[k]? = some p → ∀ (j : Nat) (u : Value), (rcC p)[j]? = some u → wx.cell? ⟨Gr, k * 4 + j, none⟩ = some u) from by
            have h1 := NE7.out.2.1
            have h2 := NE7.out.2.2
            have h3 := HR5.out.size
            have h4 := BG.out
            refine ⟨(hm.keep gx (by omega) HGX.out.lt).trans HGX.out, (hm.keep gy (by omega) HGY.out.lt).trans HGY.out, (hm.keep gs (by omega) HGS.out.lt).trans HGS.out, fun k p hk j u hu => ?_, fun k p hk j u hu => ?_⟩
            · refine (World.cell?_of_block (w := v5) (a := ⟨Gb, k * 15 + j, none⟩) ?_).trans (hGbc _ _ (bxs_at l hk j u hu))
              exact (hm.keep Gb (by omega) (by omega)).trans (HVI.out.block Gb hGb2)
            · refine (World.cell?_of_block (w := v5) (a := ⟨Gr, k * 4 + j, none⟩) ?_).trans (hGrc _ _ (rcs_at l hk j u hu))
              exact (hm.keep Gr (by omega) (by omega)).trans (HVI.out.block Gr hGr2))
          clear hGb1 hGb2 hGbc hGr1 hGr2 hGrc hsr4 hsvi
          have hok := HOKM.out pc hpm
          have hsq := HSMP.out pc hpm
          have HTAK := Lib.hid (show (D ++ (l.take (kk + 1)).map (bxOf mw ⟨g1, g2⟩ ⟨Xc1, Xc2⟩ ⟨Yc1, Yc2⟩)).flatMap Bx.cells = (D ++ (l.take kk).map (bxOf mw ⟨g1, g2⟩ ⟨Xc1, Xc2⟩ ⟨Yc1, Yc2⟩)).flatMap Bx.cells ++ (bxOf mw ⟨g1, g2⟩ ⟨Xc1, Xc2⟩ ⟨Yc1, Yc2⟩ pc).cells by
            obtain ⟨hk1, hk2⟩ := List.getElem?_eq_some_iff.1 hpc0
            rw [List.take_succ_eq_append_getElem hk1, hk2]
            simp)
          obtain ⟨bx, hbx⟩ : ∃ b, b = bxOf mw ⟨g1, g2⟩ ⟨Xc1, Xc2⟩ ⟨Yc1, Yc2⟩ pc := ⟨_, rfl⟩
          have HBX := Lib.hid hbx
          rw [← hbx] at HTAK
          obtain ⟨bp, hbp⟩ : ∃ b, b = boxPc ⟨g1, g2⟩ ⟨Xc1, Xc2⟩ ⟨Yc1, Yc2⟩ pc := ⟨_, rfl⟩
          have HBX2 := Lib.hid (show bx = if mw then bp.mir else bp by rw [hbx, hbp]; rfl)
          rw [← hbp] at hok
          have HBP := Lib.hid hbp
          clear hbx HBX hbp hpm
          have HPC := Lib.hid hpc0
          clear hpc0
          obtain ⟨⟨nk, nd, ns, nt, nm, nst, nmn, nmx⟩, p1, p2, p3, p4⟩ := pc
          unfold smallQ at hsq
          dsimp only at hsq
          have hpc := HPC
          have w1b := mul_bd2 (a := p1) (K := 172084) (by omega) (show 0 ≤ g1 ∧ g1 ≤ 48 by omega)
          have w2b := mul_bd2 (a := p2) (K := 172084) (by omega) (show 0 ≤ g1 ∧ g1 ≤ 48 by omega)
          have w3b := mul_bd2 (a := p3) (K := 172084) (by omega) (show 0 ≤ g1 ∧ g1 ≤ 48 by omega)
          have w4b := mul_bd2 (a := p4) (K := 172084) (by omega) (show 0 ≤ g1 ∧ g1 ≤ 48 by omega)
          have HT0 := Lib.hid (fun wx => rtimes_any p1 g1 g2 wx (by unfold smallI; omega) (by omega))
          have HT1 := Lib.hid (fun wx => rtimes_any p2 g1 g2 wx (by unfold smallI; omega) (by omega))
          have HT2 := Lib.hid (fun wx => rtimes_any p3 g1 g2 wx (by unfold smallI; omega) (by omega))
          have HT3 := Lib.hid (fun wx => rtimes_any p4 g1 g2 wx (by unfold smallI; omega) (by omega))
          have n1 := fracR_num (n := p1 * g1) (d := g2) (B := 8300000) (by omega) (by omega)
          have n2 := fracR_den (n := p1 * g1) (d := g2) (by omega)
          have n3 := fracR_num (n := p2 * g1) (d := g2) (B := 8300000) (by omega) (by omega)
          have n4 := fracR_den (n := p2 * g1) (d := g2) (by omega)
          have hbe := HBP.out
          unfold boxPc at hbe
          dsimp only at hbe
          rw [Int.mul_comm g1 p1, Int.mul_comm g1 p2, Int.mul_comm g1 p3, Int.mul_comm g1 p4] at hbe
          obtain ⟨⟨t1, t2⟩, ht1⟩ : ∃ f, f = fracR (p1 * g1) g2 := ⟨_, rfl⟩
          obtain ⟨⟨t3, t4⟩, ht2⟩ : ∃ f, f = fracR (p2 * g1) g2 := ⟨_, rfl⟩
          rw [← ht1] at HT0 n1 n2
          rw [← ht2] at HT1 n3 n4
          rw [← ht1, ← ht2] at hbe
          obtain ⟨⟨fc1, fc2⟩, ht3⟩ : ∃ f, f = fracR (p3 * g1) g2 := ⟨_, rfl⟩
          obtain ⟨⟨fd1, fd2⟩, ht4⟩ : ∃ f, f = fracR (p4 * g1) g2 := ⟨_, rfl⟩
          rw [← ht3] at HT2
          rw [← ht4] at HT3
          rw [← ht3, ← ht4] at hbe
          have HA0 := Lib.hid (fun wx => add_cor ⟨Xc1, Xc2⟩ ⟨t1, t2⟩ wx HXO.out n1 (by omega))
          have HA1 := Lib.hid (fun wx => add_cor ⟨Yc1, Yc2⟩ ⟨t3, t4⟩ wx HYO.out n3 (by omega))
          obtain ⟨⟨fa1, fa2⟩, ha1⟩ : ∃ f, f = plusF ⟨Xc1, Xc2⟩ ⟨t1, t2⟩ := ⟨_, rfl⟩
          obtain ⟨⟨fb1, fb2⟩, hb1⟩ : ∃ f, f = plusF ⟨Yc1, Yc2⟩ ⟨t3, t4⟩ := ⟨_, rfl⟩
          rw [← ha1] at HA0 hbe
          rw [← hb1] at HA1 hbe
          unfold GotFr at HT0 HT1 HT2 HT3 HA0 HA1
          dsimp only at HT0 HT1 HT2 HT3 HA0 HA1
          subst hbe
          have HTU := Lib.hid (fun wx => rturned_any ⟨nk, ns, nt, nm, nst, nmn, nmx, ⟨fa1, fa2⟩, ⟨fb1, fb2⟩, ⟨fc1, fc2⟩, ⟨fd1, fd2⟩⟩ wx hok)
          unfold GotFr Bx.val at HTU
          dsimp only at HTU
          clear w1b w2b w3b w4b n1 n2 n3 n4 ht1 ht2 ht3 ht4 ha1 hb1 hok HBP
          have hk0 : (0 : Int) ≤ (kk : Int) := by omega
          have hk1 : (kk : Int) < (q : Int) := by omega
          have hGbk : Gb < wr.heap.size := by have := HGL.out.1; have := HM.out.size; omega
          have HRB : wr.rangeAt Gb (kk * 15) [.int .i64 nk, .int .i64 ns, .int .i64 nt, .bool nm, .int .i64 nst, .int .i64 nmn, .int .i64 nmx, .int .i64 0, .int .i64 0, .int .i64 0, .int .i64 0, .int .i64 0, .int .i64 0, .int .i64 0, .int .i64 0] := fun j v h => (HIN.out wr u7 HM.out).2.2.2.1 kk _ hpc.out j v h
          go_upto_region 17 with fail
          refine wp_region_lit ?_
          refine wpList_plain rfl (fun KK hKK => ?_)
          go_big_move
          refine hKK _ _ ?_
          clear hKK KK
          refine wpList_plain rfl (fun KK hKK => ?_)
          go_big_move
          refine hKK _ _ ?_
          clear hKK KK
          refine wpList_plain rfl (fun KK hKK => ?_)
          go_big_op
          refine hKK _ _ ?_
          clear hKK KK
          refine wpList_load_mid rfl 82 (.tmp 127) rfl Gb (kk * 15) rfl [.int .i64 nk, .int .i64 ns, .int .i64 nt, .bool nm, .int .i64 nst, .int .i64 nmn, .int .i64 nmx, .int .i64 0, .int .i64 0, .int .i64 0, .int .i64 0, .int .i64 0, .int .i64 0, .int .i64 0, .int .i64 0] _ HRB Tryz.underlying82 rfl (by kernel_rfl) ?_
          clear HRB hGbk
          go_upto_region 18 with fail
          have e0 : (wr.alloc (.cells #[.int .i64 nk, .int .i64 ns, .int .i64 nt, .bool nm, .int .i64 nst, .int .i64 nmn, .int .i64 nmx, .int .i64 0, .int .i64 0, .int .i64 0, .int .i64 0, .int .i64 0, .int .i64 0, .int .i64 0, .int .i64 0] 82)).heap[wr.heap.size]? = some (.cells #[.int .i64 nk, .int .i64 ns, .int .i64 nt, .bool nm, .int .i64 nst, .int .i64 nmn, .int .i64 nmx, .int .i64 0, .int .i64 0, .int .i64 0, .int .i64 0, .int .i64 0, .int .i64 0, .int .i64 0, .int .i64 0] 82 (0, 0)) := heap_alloc_new _ _
          have b0 : Below wr.heap.size wr (wr.alloc (.cells #[.int .i64 nk, .int .i64 ns, .int .i64 nt, .bool nm, .int .i64 nst, .int .i64 nmn, .int .i64 nmx, .int .i64 0, .int .i64 0, .int .i64 0, .int .i64 0, .int .i64 0, .int .i64 0, .int .i64 0, .int .i64 0] 82)) := below_alloc _ _
          obtain ⟨q0, hq0⟩ : ∃ v, v = wr.alloc (.cells #[.int .i64 nk, .int .i64 ns, .int .i64 nt, .bool nm, .int .i64 nst, .int .i64 nmn, .int .i64 nmx, .int .i64 0, .int .i64 0, .int .i64 0, .int .i64 0, .int .i64 0, .int .i64 0, .int .i64 0, .int .i64 0] 82) := ⟨_, rfl⟩
          rw [← hq0] at e0 b0 ⊢
          have E0 := Lib.hid e0
          have BW0 := Lib.hid b0
          have HM0 := Lib.hid (HM.out.below b0)
          clear e0 b0 hq0
          have H0 := HIN.out q0 u7 HM0.out
          obtain ⟨hgx, hgy, hgs, -, hrc⟩ := H0
          have m0 := hgx.c0; have m1 := hgx.c1; have mz := hgx.lt
          have s0 := hgs.c0; have s1 := hgs.c1; have sz := hgs.lt
          have rc : q0.cell? ⟨Gr, kk * 4, none⟩ = some (.int .i64 p1) := hrc kk _ hpc.out 0 _ rfl
          have hGr : Gr < q0.heap.size := by have := HGL.out.2; have := HM0.out.size; omega
          clear hgx hgy hgs hrc
          go_upto_region 18 with fail
          refine wp_region_later_tail 10 (by kernel_rfl) (by kernel_rfl) ?_; simp only [List.take_succ_cons, List.take_zero, List.drop_succ_cons, List.drop_zero]; (repeat (first | go_big_quiet_step (first | ((go_at_call 106; exact Calls.later _ (HT0.out _))) | ((go_at_call 83; exact Calls.later _ (HA0.out _)))) | quiet_step (first | ((go_at_call 106; exact Calls.later _ (HT0.out _))) | ((go_at_call 83; exact Calls.later _ (HA0.out _)))))); refine wpQuiet_nil ?_; rintro _ ⟨s, rfl⟩
          have kb0 := Lib.hid s.below
          have DD := Lib.hid (blk_keep s.below E0.out)
          obtain ⟨z0, hz0⟩ : ∃ z, z = s.w := ⟨_, rfl⟩
          rw [← hz0] at kb0 DD ⊢
          clear hz0 s s0 s1 sz rc hGr m0 m1 mz
          have q7 := cell_of_blk DD.out 7; have qf7 := free_of_blk DD.out 7; have q8 := cell_of_blk DD.out 8; have qf8 := free_of_blk DD.out 8; have hz_q := (Array.getElem?_eq_some_iff.1 DD.out).1; simp at q7 q8
          go_upto_region 19 with fail
          have e9 := heap_setCell_same _ wr.heap.size 8 (.int .i64 fa2) _ _ (heap_setCell_same z0 wr.heap.size 7 (.int .i64 fa1) _ _ DD.out)
          have b9 : Below wr.heap.size wr ((z0.setCell ⟨wr.heap.size, 7, none⟩ (.int .i64 fa1)).setCell ⟨wr.heap.size, 8, none⟩ (.int .i64 fa2)) := ((BW0.out.trans (kb0.out.mono BW0.out.size)).setCell (Nat.le_refl _) _).setCell (Nat.le_refl _) _
          obtain ⟨q1, hq1⟩ : ∃ w', w' = (z0.setCell ⟨wr.heap.size, 7, none⟩ (.int .i64 fa1)).setCell ⟨wr.heap.size, 8, none⟩ (.int .i64 fa2) := ⟨_, rfl⟩
          rw [← hq1] at e9 b9 ⊢
          have E1 := Lib.hid (show q1.heap[wr.heap.size]? = some (.cells #[.int .i64 nk, .int .i64 ns, .int .i64 nt, .bool nm, .int .i64 nst, .int .i64 nmn, .int .i64 nmx, .int .i64 fa1, .int .i64 fa2, .int .i64 0, .int .i64 0, .int .i64 0, .int .i64 0, .int .i64 0, .int .i64 0] 82 (0, 0)) by simpa using e9)
          have BW1 := Lib.hid b9
          have HM1 := Lib.hid (HM.out.below b9)
          clear hq1 e9 b9 DD q7 q8 qf7 qf8 hz_q kb0 z0 E0 BW0 HM0
          have H1 := HIN.out q1 u7 HM1.out
          obtain ⟨hgx, hgy, hgs, -, hrc⟩ := H1
          have m0 := hgy.c0; have m1 := hgy.c1; have mz := hgy.lt
          have s0 := hgs.c0; have s1 := hgs.c1; have sz := hgs.lt
          have rc : q1.cell? ⟨Gr, kk * 4 + 1, none⟩ = some (.int .i64 p2) := hrc kk _ hpc.out 1 _ rfl
          have hGr : Gr < q1.heap.size := by have := HGL.out.2; have := HM1.out.size; omega
          clear hgx hgy hgs hrc
          go_upto_region 19 with fail
          refine wp_region_later_tail 10 (by kernel_rfl) (by kernel_rfl) ?_; simp only [List.take_succ_cons, List.take_zero, List.drop_succ_cons, List.drop_zero]; (repeat (first | go_big_quiet_step (first | ((go_at_call 106; exact Calls.later _ (HT1.out _))) | ((go_at_call 83; exact Calls.later _ (HA1.out _)))) | quiet_step (first | ((go_at_call 106; exact Calls.later _ (HT1.out _))) | ((go_at_call 83; exact Calls.later _ (HA1.out _)))))); refine wpQuiet_nil ?_; rintro _ ⟨s, rfl⟩
          have kb1 := Lib.hid s.below
          have DD := Lib.hid (blk_keep s.below E1.out)
          obtain ⟨z1, hz1⟩ : ∃ z, z = s.w := ⟨_, rfl⟩
          rw [← hz1] at kb1 DD ⊢
          clear hz1 s s0 s1 sz rc hGr m0 m1 mz
          have q9 := cell_of_blk DD.out 9; have qf9 := free_of_blk DD.out 9; have q10 := cell_of_blk DD.out 10; have qf10 := free_of_blk DD.out 10; have hz_q := (Array.getElem?_eq_some_iff.1 DD.out).1; simp at q9 q10
          go_upto_region 20 with fail
          have e9 := heap_setCell_same _ wr.heap.size 10 (.int .i64 fb2) _ _ (heap_setCell_same z1 wr.heap.size 9 (.int .i64 fb1) _ _ DD.out)
          have b9 : Below wr.heap.size wr ((z1.setCell ⟨wr.heap.size, 9, none⟩ (.int .i64 fb1)).setCell ⟨wr.heap.size, 10, none⟩ (.int .i64 fb2)) := ((BW1.out.trans (kb1.out.mono BW1.out.size)).setCell (Nat.le_refl _) _).setCell (Nat.le_refl _) _
          obtain ⟨q2, hq2⟩ : ∃ w', w' = (z1.setCell ⟨wr.heap.size, 9, none⟩ (.int .i64 fb1)).setCell ⟨wr.heap.size, 10, none⟩ (.int .i64 fb2) := ⟨_, rfl⟩
          rw [← hq2] at e9 b9 ⊢
          have E2 := Lib.hid (show q2.heap[wr.heap.size]? = some (.cells #[.int .i64 nk, .int .i64 ns, .int .i64 nt, .bool nm, .int .i64 nst, .int .i64 nmn, .int .i64 nmx, .int .i64 fa1, .int .i64 fa2, .int .i64 fb1, .int .i64 fb2, .int .i64 0, .int .i64 0, .int .i64 0, .int .i64 0] 82 (0, 0)) by simpa using e9)
          have BW2 := Lib.hid b9
          have HM2 := Lib.hid (HM.out.below b9)
          clear hq2 e9 b9 DD q9 q10 qf9 qf10 hz_q kb1 z1 E1 BW1 HM1
          have H2 := HIN.out q2 u7 HM2.out
          obtain ⟨hgx, hgy, hgs, -, hrc⟩ := H2
          have s0 := hgs.c0; have s1 := hgs.c1; have sz := hgs.lt
          have rc : q2.cell? ⟨Gr, kk * 4 + 2, none⟩ = some (.int .i64 p3) := hrc kk _ hpc.out 2 _ rfl
          have hGr : Gr < q2.heap.size := by have := HGL.out.2; have := HM2.out.size; omega
          clear hgx hgy hgs hrc
          go_upto_region 20 with fail
          refine wp_region_later_tail 8 (by kernel_rfl) (by kernel_rfl) ?_; simp only [List.take_succ_cons, List.take_zero, List.drop_succ_cons, List.drop_zero]; (repeat (first | go_big_quiet_step (((go_at_call 106; exact Calls.later _ (HT2.out _)))) | quiet_step (((go_at_call 106; exact Calls.later _ (HT2.out _)))))); refine wpQuiet_nil ?_; rintro _ ⟨s, rfl⟩
          have kb2 := Lib.hid s.below
          have DD := Lib.hid (blk_keep s.below E2.out)
          obtain ⟨z2, hz2⟩ : ∃ z, z = s.w := ⟨_, rfl⟩
          rw [← hz2] at kb2 DD ⊢
          clear hz2 s s0 s1 sz rc hGr
          have q11 := cell_of_blk DD.out 11; have qf11 := free_of_blk DD.out 11; have q12 := cell_of_blk DD.out 12; have qf12 := free_of_blk DD.out 12; have hz_q := (Array.getElem?_eq_some_iff.1 DD.out).1; simp at q11 q12
          go_upto_region 21 with fail
          have e9 := heap_setCell_same _ wr.heap.size 12 (.int .i64 fc2) _ _ (heap_setCell_same z2 wr.heap.size 11 (.int .i64 fc1) _ _ DD.out)
          have b9 : Below wr.heap.size wr ((z2.setCell ⟨wr.heap.size, 11, none⟩ (.int .i64 fc1)).setCell ⟨wr.heap.size, 12, none⟩ (.int .i64 fc2)) := ((BW2.out.trans (kb2.out.mono BW2.out.size)).setCell (Nat.le_refl _) _).setCell (Nat.le_refl _) _
          obtain ⟨q3, hq3⟩ : ∃ w', w' = (z2.setCell ⟨wr.heap.size, 11, none⟩ (.int .i64 fc1)).setCell ⟨wr.heap.size, 12, none⟩ (.int .i64 fc2) := ⟨_, rfl⟩
          rw [← hq3] at e9 b9 ⊢
          have E3 := Lib.hid (show q3.heap[wr.heap.size]? = some (.cells #[.int .i64 nk, .int .i64 ns, .int .i64 nt, .bool nm, .int .i64 nst, .int .i64 nmn, .int .i64 nmx, .int .i64 fa1, .int .i64 fa2, .int .i64 fb1, .int .i64 fb2, .int .i64 fc1, .int .i64 fc2, .int .i64 0, .int .i64 0] 82 (0, 0)) by simpa using e9)
          have BW3 := Lib.hid b9
          have HM3 := Lib.hid (HM.out.below b9)
          clear hq3 e9 b9 DD q11 q12 qf11 qf12 hz_q kb2 z2 E2 BW2 HM2
          have H3 := HIN.out q3 u7 HM3.out
          obtain ⟨hgx, hgy, hgs, -, hrc⟩ := H3
          have s0 := hgs.c0; have s1 := hgs.c1; have sz := hgs.lt
          have rc : q3.cell? ⟨Gr, kk * 4 + 3, none⟩ = some (.int .i64 p4) := hrc kk _ hpc.out 3 _ rfl
          have hGr : Gr < q3.heap.size := by have := HGL.out.2; have := HM3.out.size; omega
          clear hgx hgy hgs hrc
          go_upto_region 21 with fail
          refine wp_region_later_tail 8 (by kernel_rfl) (by kernel_rfl) ?_; simp only [List.take_succ_cons, List.take_zero, List.drop_succ_cons, List.drop_zero]; (repeat (first | go_big_quiet_step (((go_at_call 106; exact Calls.later _ (HT3.out _)))) | quiet_step (((go_at_call 106; exact Calls.later _ (HT3.out _)))))); refine wpQuiet_nil ?_; rintro _ ⟨s, rfl⟩
          have kb3 := Lib.hid s.below
          have DD := Lib.hid (blk_keep s.below E3.out)
          obtain ⟨z3, hz3⟩ : ∃ z, z = s.w := ⟨_, rfl⟩
          rw [← hz3] at kb3 DD ⊢
          clear hz3 s s0 s1 sz rc hGr
          have q13 := cell_of_blk DD.out 13; have qf13 := free_of_blk DD.out 13; have q14 := cell_of_blk DD.out 14; have qf14 := free_of_blk DD.out 14; have hz_q := (Array.getElem?_eq_some_iff.1 DD.out).1; simp at q13 q14
          go_upto_region 22 with fail
          have e9 := heap_setCell_same _ wr.heap.size 14 (.int .i64 fd2) _ _ (heap_setCell_same z3 wr.heap.size 13 (.int .i64 fd1) _ _ DD.out)
          have b9 : Below wr.heap.size wr ((z3.setCell ⟨wr.heap.size, 13, none⟩ (.int .i64 fd1)).setCell ⟨wr.heap.size, 14, none⟩ (.int .i64 fd2)) := ((BW3.out.trans (kb3.out.mono BW3.out.size)).setCell (Nat.le_refl _) _).setCell (Nat.le_refl _) _
          obtain ⟨q4, hq4⟩ : ∃ w', w' = (z3.setCell ⟨wr.heap.size, 13, none⟩ (.int .i64 fd1)).setCell ⟨wr.heap.size, 14, none⟩ (.int .i64 fd2) := ⟨_, rfl⟩
          rw [← hq4] at e9 b9 ⊢
          have E4 := Lib.hid (show q4.heap[wr.heap.size]? = some (.cells #[.int .i64 nk, .int .i64 ns, .int .i64 nt, .bool nm, .int .i64 nst, .int .i64 nmn, .int .i64 nmx, .int .i64 fa1, .int .i64 fa2, .int .i64 fb1, .int .i64 fb2, .int .i64 fc1, .int .i64 fc2, .int .i64 fd1, .int .i64 fd2] 82 (0, 0)) by simpa using e9)
          have BW4 := Lib.hid b9
          have HM4 := Lib.hid (HM.out.below b9)
          clear hq4 e9 b9 DD q13 q14 qf13 qf14 hz_q kb3 z3 E3 BW3 HM3
          have HBQ := Lib.hid (below_more HBK.out BW4.out)
          have EP := Lib.hid (blk_keep HBQ.out E2.out)
          have p0 := cell_of_blk EP.out 0; have hz_p := (Array.getElem?_eq_some_iff.1 EP.out).1; simp at p0
          obtain ⟨rm, hrm, hrb, hmw0⟩ := HMW.out
          have HM0 := Lib.hid hmw0
          clear hmw0
          go_upto_if 168 with fail
          clear p0 hz_p
          go_cut [] (fun wx => Hid (wx.heap[wr.heap.size]? = some (.cells bx.cells.toArray 82 (0, 0))) ∧ Hid (Below wr.heap.size wr wx))
          case first =>
            have hm0 := HM0.out
            cases mw
            case false =>
              have HBE := Lib.hid (show bx = ⟨nk, ns, nt, nm, nst, nmn, nmx, ⟨fa1, fa2⟩, ⟨fb1, fb2⟩, ⟨fc1, fc2⟩, ⟨fd1, fd2⟩⟩ by rw [HBX2.out]; rfl)
              go_wp2_with fail
              go_meet
              exact ⟨Lib.hid (by rw [HBE.out]; exact E4.out), BW4⟩
            case true =>
              have HBE := Lib.hid (show bx = (⟨nk, ns, nt, nm, nst, nmn, nmx, ⟨fa1, fa2⟩, ⟨fb1, fb2⟩, ⟨fc1, fc2⟩, ⟨fd1, fd2⟩⟩ : Bx).mir by rw [HBX2.out]; rfl)
              have HBE := Lib.hid (show bx = ⟨nk, ns, nt, nm, nst, nmn, nmx, (⟨nk, ns, nt, nm, nst, nmn, nmx, ⟨fa1, fa2⟩, ⟨fb1, fb2⟩, ⟨fc1, fc2⟩, ⟨fd1, fd2⟩⟩ : Bx).mir.x, ⟨fb1, fb2⟩, ⟨fc1, fc2⟩, ⟨fd1, fd2⟩⟩ by rw [HBE.out]; rfl)
              obtain ⟨⟨ga1, ga2⟩, hga⟩ : ∃ f, f = (⟨nk, ns, nt, nm, nst, nmn, nmx, ⟨fa1, fa2⟩, ⟨fb1, fb2⟩, ⟨fc1, fc2⟩, ⟨fd1, fd2⟩⟩ : Bx).mir.x := ⟨_, rfl⟩
              rw [← hga] at HBE HTU
              dsimp only at HTU
              clear hga
              have HRB : q4.rangeAt wr.heap.size 0 [.int .i64 nk, .int .i64 ns, .int .i64 nt, .bool nm, .int .i64 nst, .int .i64 nmn, .int .i64 nmx, .int .i64 fa1, .int .i64 fa2, .int .i64 fb1, .int .i64 fb2, .int .i64 fc1, .int .i64 fc2, .int .i64 fd1, .int .i64 fd2] := fun j v h => by
                rw [Nat.zero_add, cell_of_blk E4.out j]; simpa using h
              go_upto_region 23 with fail
              refine wp_region_lit ?_
              refine wpList_load_mid rfl 82 (.tmp 19) rfl wr.heap.size 0 rfl [.int .i64 nk, .int .i64 ns, .int .i64 nt, .bool nm, .int .i64 nst, .int .i64 nmn, .int .i64 nmx, .int .i64 fa1, .int .i64 fa2, .int .i64 fb1, .int .i64 fb2, .int .i64 fc1, .int .i64 fc2, .int .i64 fd1, .int .i64 fd2] _ HRB Tryz.underlying82 rfl (by kernel_rfl) ?_
              clear HRB
              go_wp2_with fail
              refine (HTU.out _).mono ?_; rintro e q5 ⟨rfl, hb5⟩
              have BW5 := Lib.hid (BW4.out.trans (hb5.mono BW4.out.size))
              have E5 := Lib.hid (blk_keep hb5 E4.out)
              clear hb5
              have q7 := cell_of_blk E5.out 7; have qf7 := free_of_blk E5.out 7; have q8 := cell_of_blk E5.out 8; have qf8 := free_of_blk E5.out 8; have hz_q := (Array.getElem?_eq_some_iff.1 E5.out).1; simp at q7 q8
              go_wp2_with fail
              go_meet
              have e9 := heap_setCell_same _ wr.heap.size 8 (.int .i64 ga2) _ _ (heap_setCell_same q5 wr.heap.size 7 (.int .i64 ga1) _ _ E5.out)
              exact ⟨Lib.hid (by rw [HBE.out]; simpa [Bx.cells] using e9), Lib.hid ((BW5.out.setCell (Nat.le_refl _) _).setCell (Nat.le_refl _) _)⟩
          case rest =>
          obtain ⟨he, hb⟩ := hcut
          obtain ⟨q6, rfl⟩ : ∃ z, z = wc := ⟨_, rfl⟩
          have E6 := Lib.hid he.out
          have BW6 := Lib.hid hb.out
          clear he hb E4 BW4 HM4 HTU HMW hrm hrb HM0 HBQ EP HBX2
          obtain ⟨bk, bsg, bt, bm, bst, bmn, bmx, ⟨o1, o2⟩, ⟨o3, o4⟩, ⟨o5, o6⟩, ⟨o7, o8⟩⟩ := bx
          have HO6 := Lib.hid (ownsRow_of_block HOW2.out (fun g hg => BW6.out.block g (HOW2.out.lt g hg).2))
          obtain ⟨xs, hxs⟩ : ∃ xs, xs = (D ++ (l.take kk).map (bxOf mw ⟨g1, g2⟩ ⟨Xc1, Xc2⟩ ⟨Yc1, Yc2⟩)).flatMap Bx.cells := ⟨_, rfl⟩
          rw [← hxs] at HO6 HTAK
          clear hxs
          have HB6 := Lib.hid (below_more HBK.out BW6.out)
          have HSS := Lib.hid HB6.out.size
          obtain ⟨Av, cv, hv7, -, -, -, -⟩ := own_slice HO6.out
          subst hv7
          have HRB : q6.rangeAt wr.heap.size 0 [.int .i64 bk, .int .i64 bsg, .int .i64 bt, .bool bm, .int .i64 bst, .int .i64 bmn, .int .i64 bmx, .int .i64 o1, .int .i64 o2, .int .i64 o3, .int .i64 o4, .int .i64 o5, .int .i64 o6, .int .i64 o7, .int .i64 o8] := fun j v h => by
            rw [Nat.zero_add, cell_of_blk E6.out j]; simpa [Bx.cells] using h
          have HSA := Lib.hid (show ∀ (o : Obj), w1.heap.size ≤ (q6.alloc o).heap.size from fun o => by rw [World.size_alloc]; have := HSS.out; omega)
          have HNR := Lib.hid (new_row q6 [.int .i64 bk, .int .i64 bsg, .int .i64 bt, .bool bm, .int .i64 bst, .int .i64 bmn, .int .i64 bmx, .int .i64 o1, .int .i64 o2, .int .i64 o3, .int .i64 o4, .int .i64 o5, .int .i64 o6, .int .i64 o7, .int .i64 o8] 82)
          have HN1 := Lib.hid (show ∀ u ∈ ([.int .i64 bk, .int .i64 bsg, .int .i64 bt, .bool bm, .int .i64 bst, .int .i64 bmn, .int .i64 bmx, .int .i64 o1, .int .i64 o2, .int .i64 o3, .int .i64 o4, .int .i64 o5, .int .i64 o6, .int .i64 o7, .int .i64 o8] : List Value), u.oneCell' = true from bx_one ⟨bk, bsg, bt, bm, bst, bmn, bmx, ⟨o1, o2⟩, ⟨o3, o4⟩, ⟨o5, o6⟩, ⟨o7, o8⟩⟩)
          go_upto_region 24 with fail
          refine wp_region_lit ?_
          refine wpList_plain rfl (fun KK hKK => ?_)
          go_big_move
          refine hKK _ _ ?_
          clear hKK KK
          refine wpList_load_mid rfl 82 (.tmp 19) rfl wr.heap.size 0 rfl [.int .i64 bk, .int .i64 bsg, .int .i64 bt, .bool bm, .int .i64 bst, .int .i64 bmn, .int .i64 bmx, .int .i64 o1, .int .i64 o2, .int .i64 o3, .int .i64 o4, .int .i64 o5, .int .i64 o6, .int .i64 o7, .int .i64 o8] _ HRB Tryz.underlying82 rfl (by kernel_rfl) ?_
          clear HRB
          go_wp2_with (first
            | (at_builtin; refine wpList_append_src _ rfl (.tmp 172) (.tmp 174) 51 rfl w1.heap.size 82 iv (.agg #[.int .i64 0, .int .i64 0, .int .i64 0, .bool false, .int .i64 0, .int .i64 0, .int .i64 0, .int .i64 0, .int .i64 0, .int .i64 0, .int .i64 0, .int .i64 0, .int .i64 0, .int .i64 0, .int .i64 0]) 15 120 Tryz.underlying51 hiv.out hzv.out hsv.out hbv.out rfl (by decide) (.slice Av m' cv) m' xs rfl (HO6.out.alloc _) (some ⟨q6.heap.size, 0, none⟩) 1 1 [.int .i64 bk, .int .i64 bsg, .int .i64 bt, .bool bm, .int .i64 bst, .int .i64 bmn, .int .i64 bmx, .int .i64 o1, .int .i64 o2, .int .i64 o3, .int .i64 o4, .int .i64 o5, .int .i64 o6, .int .i64 o7, .int .i64 o8] rfl rfl (fun h => by cases h) HNR.out HN1.out (by unfold maxLen; omega) (by omega) (HSA.out _) (m' + 1) rfl ?_))
          intro A9 c9 w9 own9 hg9 hn9
          have HM9 := Lib.hid (HM.out.grown (o' := .slice A9 (m' + 1) c9) (BW6.out.alloc BW6.out.size _) hg9 (by rw [World.size_alloc]; exact hn9))
          have HB9 := Lib.hid ((HB6.out.alloc HSS.out _).grown hg9 (by rw [World.size_alloc]; have := HSS.out; omega) (fun g hg => (HO6.out.lt g hg).1))
          have HO9 := Lib.hid (show w9.ownsRow w1.heap.size 82 15 (.slice A9 (m' + 1) c9) (m' + 1) ((D ++ (l.take (kk + 1)).map (bxOf mw ⟨g1, g2⟩ ⟨Xc1, Xc2⟩ ⟨Yc1, Yc2⟩)).flatMap Bx.cells) by
            rw [HTAK.out]; exact own9)
          clear own9 hg9 hn9 HNR HN1 HSA HO6 HB6 BW6 E6 HSS
          go_wp2_with fail
          go_roundw
          case rel => exact ⟨kk + 1, m' + 1, by omega, by go_num, Lib.hid (by have := HM2.out; omega), HO9, HM9, HB9⟩
          case measure => simp [intOf]; omega
        · obtain rfl : kk = q := by omega
          have HOF := Lib.hid (show wr.ownsRow w1.heap.size 82 15 u7 m' ((layT cw mw len ks (k + 1)).flatMap Bx.cells) by
            have e : l.take kk = l := by rw [HQ.out, List.take_length]
            have h := HOW2.out
            rw [e] at h
            rw [HSTP.out, HGRP.out]; exact h)
          have HML2 := Lib.hid (show m' = (layT cw mw len ks (k + 1)).length by
            rw [HSTP.out, HGRP.out, List.length_append, List.length_map, HM2.out, HMD.out, HQ.out])
          go_wp2_with fail
          go_roundw
          case rel => exact ⟨k + 1, m', by omega, by go_num, HML2, HOF, HBK⟩
          case measure => simp [intOf]; omega
    · obtain rfl : k = K := by omega
      have hml := HML.out
      subst hml
      obtain ⟨Av, cv, hv7, -, -, -, -⟩ := own_slice HOW.out
      subst hv7
      have HBF := Lib.hid (below_more HB1.out HBR.out)
      have HOF := Lib.hid (own_base HOW.out HB1.out.size)
      go_wp2_with fail
      go_ret
      exact ⟨Av, cv, rfl, HOF.out, HBF.out⟩
end Go.Proofs.YtmiokllpdmmfhaaGreat
