/-
  The specification's Splice, walked up to its loop (the round is not done). And what builds on it.
-/
import Derived.Test.YtilagndfohnjnaaPkN
import Derived.Test.YtilagndfohnjnaaPkL
import Derived.Test.YtilagndfohnjnaaPkG
import Derived.Test.YtilagndfohnjnaaPkH
import Derived.Test.YtilagndfohnjnaaPkI
import Derived.Deep.RegionHeld3
import Derived.Deep.RegionLaw
import Derived.Deep.DeepCutAuto
import Derived.Test.YtilagndfohnjnaaPkE
import Derived.Test.YtilagndfohnjnaaPkM

/- The specification's Splice, walked up to its loop (the round is not done). -/
namespace Go.Proofs.Ytilagndfohnjnaa
open Go.RowKit

theorem nds_srcX {w : World} {B : Option Addr} {ms : List Nd} (h : NdsAt w B ms) : (B = none → ms.length = 0) ∧ ∀ ad, B = some ad → ∀ j u, (ms.flatMap Nd.cells)[j]? = some u → w.cell? (ad.add j) = some u := by
  cases ms with
  | nil => exact ⟨fun _ => rfl, fun ad _ j u hj => by simp at hj⟩
  | cons x r =>
    obtain ⟨b, o, rfl, _, _⟩ := h 0 x rfl
    exact ⟨fun e => (by cases e), fun ad e => (by injection e with e; subst e; exact nds_cells h _ rfl)⟩
theorem flat_cells (ms : List Nd) : (ms.flatMap Nd.cells).length = ms.length * 8 := flat_len (f := Nd.cells) (fun _ => rfl) _

set_option maxRecDepth 100000 in
set_option maxHeartbeats 8000000 in
theorem rsplice_any (L : Lm) (A : Option Addr) (ca : Nat) (ns : List Nd) (f t : Int) (B : Option Addr) (cb : Nat) (ms : List Nd) (w : World) (hl : LmOk w L) (hn : NdsAt w A ns) (h1 : ns.length ≤ ca) (h2 : ca ≤ maxLen) (hm : NdsAt w B ms) (h3 : ms.length ≤ cb) (h4 : cb ≤ maxLen) :
    Calls Try.prog 48 #[.agg #[.int .i64 L.per, .slice L.A L.ms.length L.cap], .agg #[.slice A ns.length ca], .int .i64 f, .int .i64 t, .agg #[.slice B ms.length cb]] w (GotTextO w (spliceQ L.li ns f t ms).1 (spliceQ L.li ns f t ms).2) := by
  obtain ⟨E, hE⟩ : ∃ E, textErr L.li ns = E := ⟨_, rfl⟩
  obtain ⟨F, hF⟩ : ∃ F, textErr L.li ms = F := ⟨_, rfl⟩
  obtain ⟨R, hR⟩ : ∃ R, R = spliceQ L.li ns f t ms := ⟨_, rfl⟩
  have HE := Lib.hid (show R = if E ≠ 0 then ([], E) else if F ≠ 0 then ([], F) else if f < 0 ∨ t < f ∨ (topsL ns).length < t then ([], 1) else if 200 < (spliceL ns ms f.toNat t.toNat).length then ([], 2) else (spliceL ns ms f.toNat t.toNat, 0) by rw [hR, ← hE, ← hF]; rfl)
  have HEE := Lib.hid hE
  have HFF := Lib.hid hF
  have HCK := Lib.hid (fun wx (hb : Below w.heap.size w wx) => rgcheck_is L A ca ns wx (hl.below hb) (hn.below hb) h1 h2 E hE)
  have HCK2 := Lib.hid (fun wx (hb : Below w.heap.size w wx) => rgcheck_is L B cb ms wx (hl.below hb) (hm.below hb) h3 h4 F hF)
  have HNA := Lib.hid hn
  have HNB := Lib.hid hm
  have H1 := Lib.hid h1
  have H2 := Lib.hid h2
  have H3 := Lib.hid h3
  have H4 := Lib.hid h4
  rw [← hR]
  obtain ⟨N, hN⟩ : ∃ N, N = ns.length := ⟨_, rfl⟩
  obtain ⟨M, hM⟩ : ∃ M, M = ms.length := ⟨_, rfl⟩
  have HN := Lib.hid hN
  have HM := Lib.hid hM
  rw [← hN, ← hM]
  rw [← hN] at HCK
  rw [← hM] at HCK2
  obtain ⟨W0, hW0⟩ : ∃ W, W = (w.alloc (.cells #[.int .i64 L.per, .slice L.A L.ms.length L.cap] 24)).alloc (.cells #[.slice A N ca] 27) := ⟨_, rfl⟩
  have hz0 : W0.heap.size = w.heap.size + 2 := by rw [hW0]; simp
  have HB0 := Lib.hid (show Below w.heap.size w W0 from hW0 ▸ two_under _ _ _)
  have G0 : W0.heap[w.heap.size]? = some (.cells #[.int .i64 L.per, .slice L.A L.ms.length L.cap] 24 (0, 0)) := by rw [hW0, heap_alloc_other _ _ _ (by simp)]; exact heap_alloc_new _ _
  have G1 : W0.heap[w.heap.size + 1]? = some (.cells #[.slice A N ca] 27 (0, 0)) := by rw [hW0]; have := heap_alloc_new (w.alloc (.cells #[.int .i64 L.per, .slice L.A L.ms.length L.cap] 24)) (.cells #[.slice A N ca] 27); simpa using this
  obtain ⟨W, hW⟩ : ∃ W, W = (W0.alloc (.cells #[.slice B M cb] 27)).alloc (.cells #[.slice none 0 0] 27) := ⟨_, rfl⟩
  have HB := Lib.hid (show Below w.heap.size w W from below_more HB0.out (hW ▸ two_under _ _ _))
  have D0 := Lib.hid (show W.heap[w.heap.size]? = some (.cells #[.int .i64 L.per, .slice L.A L.ms.length L.cap] 24 (0, 0)) by rw [hW, heap_alloc_other _ _ _ (by simp; omega), heap_alloc_other _ _ _ (by omega)]; exact G0)
  have D1 := Lib.hid (show W.heap[w.heap.size + 1]? = some (.cells #[.slice A N ca] 27 (0, 0)) by rw [hW, heap_alloc_other _ _ _ (by simp; omega), heap_alloc_other _ _ _ (by omega)]; exact G1)
  have D2 := Lib.hid (show W.heap[w.heap.size + 1 + 1]? = some (.cells #[.slice B M cb] 27 (0, 0)) by rw [hW, heap_alloc_other _ _ _ (by simp; omega)]; have := heap_alloc_new W0 (.cells #[.slice B M cb] 27); rw [hz0] at this; exact this)
  have D3 := Lib.hid (show W.heap[w.heap.size + 1 + 1 + 1]? = some (.cells #[.slice none 0 0] 27 (0, 0)) by rw [hW]; have := heap_alloc_new (W0.alloc (.cells #[.slice B M cb] 27)) (.cells #[.slice none 0 0] 27); rw [World.size_alloc, hz0] at this; exact this)
  clear hl hn hm hE hF hR hN hM h1 h2 h3 h4 G0 G1 hz0 HB0
  rw [hW0] at hW
  clear hW0
  obtain ⟨iv, hiv, hzv, hsv, hbv⟩ := info_hid infoNd
  go_enter Try.func48, Try.ntmps48
  go_wp2_with fail
  rw [← hW]
  refine (HCK.out W HB.out).mono ?_; rintro e w1 ⟨rfl, hb⟩
  have HB1 := Lib.hid (below_more HB.out hb)
  have D0 := Lib.hid (blk_keep hb D0.out)
  have D1 := Lib.hid (blk_keep hb D1.out)
  have D2 := Lib.hid (blk_keep hb D2.out)
  have D3 := Lib.hid (blk_keep hb D3.out)
  have x0 := cell_of_blk D0.out 0
  have x1 := cell_of_blk D0.out 1
  have x2 := cell_of_blk D2.out 0
  have q0 := cell_of_blk D3.out 0
  have q1 := free_of_blk D3.out 0
  have hs1 := (Array.getElem?_eq_some_iff.1 D3.out).1
  simp at x0 x1 x2 q0
  clear hb hW HCK HB
  by_cases h0 : E = 0
  case neg =>
    have hbE : (E != 0) = true := by simpa using h0
    have HG := Lib.hid (show R = ([], E) by rw [HE.out, if_pos h0])
    clear h0 HE
    go_wp2
    refine bodyPost_ret (v := .tuple #[.agg #[.slice none 0 0], .int .i64 E]) (by simp [results, Try.results48, go_sem, q0]) rfl ?_
    rw [HG.out]
    exact ⟨none, 0, 0, rfl, Lib.hid rfl, Lib.hid (own_none _ _), HB1.out.setCell (by dsimp only; omega) _⟩
  subst h0
  go_wp2_with fail
  refine (HCK2.out w1 HB1.out).mono ?_; rintro e w2 ⟨rfl, hb⟩
  have HB2 := Lib.hid (below_more HB1.out hb)
  have D1 := Lib.hid (blk_keep hb D1.out)
  have D2 := Lib.hid (blk_keep hb D2.out)
  have D3 := Lib.hid (blk_keep hb D3.out)
  have hs2 := hb.size
  clear hb HCK2 HB1 D0 x0 x1 x2 q0 q1
  have x1 := cell_of_blk D1.out 0
  have q0 := cell_of_blk D3.out 0
  have q1 := free_of_blk D3.out 0
  have hs3 := (Array.getElem?_eq_some_iff.1 D3.out).1
  simp at x1 q0
  by_cases h0 : F = 0
  case neg =>
    have hbE : (F != 0) = true := by simpa using h0
    have HG := Lib.hid (show R = ([], F) by rw [HE.out, if_neg (by simp), if_pos h0])
    clear h0 HE
    go_wp2
    refine bodyPost_ret (v := .tuple #[.agg #[.slice none 0 0], .int .i64 F]) (by simp [results, Try.results48, go_sem, q0]) rfl ?_
    rw [HG.out]
    exact ⟨none, 0, 0, rfl, Lib.hid rfl, Lib.hid (own_none _ _), HB2.out.setCell (by dsimp only; omega) _⟩
  subst h0
  have hka := text_ok HEE.out
  have hkb := text_ok HFF.out
  have hsh := shape_of HEE.out
  obtain ⟨hok, hon2⟩ := vis_of hsh
  have HN2 := Lib.hid (show N ≤ 200 by have := hka.2.1; rw [HN.out]; exact this)
  have hN2 := HN2.out
  have hM2 : M ≤ 200 := by have := hkb.2.1; rw [HM.out]; exact this
  have HKD := Lib.hid (show Calls Try.prog 67 #[.agg #[.slice A N ca], .int .i64 (-1)] w2 (GotRow w2 3 1 (topsL ns).length (intsV (topsL ns))) by
    have := rkids_any A ca ns (-1) 0 0 w2 (HNA.out.below HB2.out) H1.out H2.out (by have := HN.out; omega) (.inr ⟨rfl, rfl, rfl⟩)
    rw [tops_kids (fun x hx => (hsh.depth x hx).1), ← HN.out] at this; exact this)
  have HPT := Lib.hid (fun (k j : Nat) (h : (topsL ns)[k]? = some j) => below_part hsh h)
  have HAT := Lib.hid (fun j (hj : j ∈ topsL ns) => tops_at hj)
  have HDP := Lib.hid hsh.depth
  have htl := tops_len ns
  obtain ⟨np, hnp⟩ : ∃ np, np = (topsL ns).length := ⟨_, rfl⟩
  have HPL := Lib.hid (show (partsN ns).length = np by rw [partsN_len, hnp, tops_is hsh, List.length_map])
  have HE2 := Lib.hid (show R = if f < 0 ∨ t < f ∨ (np : Int) < t then ([], 1) else if 200 < (spliceL ns ms f.toNat t.toNat).length then ([], 2) else (spliceL ns ms f.toNat t.toNat, 0) by
    rw [HE.out, if_neg (by simp), if_neg (by simp), hnp])
  obtain ⟨tl, htl2⟩ : ∃ tl, tl = topsL ns := ⟨_, rfl⟩
  rw [← htl2] at HKD HPT HAT htl hnp
  rw [← hnp] at HKD htl
  rw [← HN.out] at htl
  have HTL := Lib.hid hnp
  clear hka hkb hnp hsh hok hon2 HE htl2
  go_wp2_with fail
  refine HKD.out.mono ?_; rintro e w3 ⟨Ak, ck, rfl, hown, hb⟩
  have HB3 := Lib.hid (below_more HB2.out hb)
  have D1 := Lib.hid (blk_keep hb D1.out)
  have D2 := Lib.hid (blk_keep hb D2.out)
  have D3 := Lib.hid (blk_keep hb D3.out)
  have hs4 := hb.size
  have HRI := Lib.hid (row_ints hown)
  have hol := own_len hown
  have hpc := hol.1
  have hpm := hol.2.1
  unfold maxLen at hpm
  clear hown hb HKD x1 q0 q1 hol
  have x2 := cell_of_blk D2.out 0
  have q0 := cell_of_blk D3.out 0
  have q1 := free_of_blk D3.out 0
  have hs5 := (Array.getElem?_eq_some_iff.1 D3.out).1
  simp at x2 q0
  by_cases hf0 : f < 0
  · have hd : decide (f < 0) = true := decide_eq_true hf0
    have HG := Lib.hid (show R = ([], 1) by rw [HE2.out, if_pos (.inl hf0)])
    go_wp2
    refine bodyPost_ret (v := .tuple #[.agg #[.slice none 0 0], .int .i64 1]) (by simp [results, Try.results48, go_sem, q0]) rfl ?_
    rw [HG.out]
    exact ⟨none, 0, 0, rfl, Lib.hid rfl, Lib.hid (own_none _ _), HB3.out.setCell (by dsimp only; omega) _⟩
  have hd0 : decide (f < 0) = false := decide_eq_false hf0
  by_cases hft : t < f
  · have hd : decide (t < f) = true := decide_eq_true hft
    have HG := Lib.hid (show R = ([], 1) by rw [HE2.out, if_pos (.inr (.inl hft))])
    go_wp2
    refine bodyPost_ret (v := .tuple #[.agg #[.slice none 0 0], .int .i64 1]) (by simp [results, Try.results48, go_sem, q0]) rfl ?_
    rw [HG.out]
    exact ⟨none, 0, 0, rfl, Lib.hid rfl, Lib.hid (own_none _ _), HB3.out.setCell (by dsimp only; omega) _⟩
  have hd1 : decide (t < f) = false := decide_eq_false hft
  by_cases htn : (np : Int) < t
  · have hd : decide ((np : Int) < t) = true := decide_eq_true htn
    have HG := Lib.hid (show R = ([], 1) by rw [HE2.out, if_pos (.inr (.inr htn))])
    go_wp2
    refine bodyPost_ret (v := .tuple #[.agg #[.slice none 0 0], .int .i64 1]) (by simp [results, Try.results48, go_sem, q0]) rfl ?_
    rw [HG.out]
    exact ⟨none, 0, 0, rfl, Lib.hid rfl, Lib.hid (own_none _ _), HB3.out.setCell (by dsimp only; omega) _⟩
  have hd2 : decide ((np : Int) < t) = false := decide_eq_false htn
  have HE3 := Lib.hid (show R = if 200 < (spliceL ns ms f.toNat t.toNat).length then ([], 2) else (spliceL ns ms f.toNat t.toNat, 0) by rw [HE2.out, if_neg (by omega)])
  obtain ⟨fn, rfl⟩ : ∃ fn : Nat, f = fn := ⟨f.toNat, by omega⟩
  obtain ⟨tn, rfl⟩ : ∃ tn : Nat, t = tn := ⟨t.toNat, by omega⟩
  rw [Int.toNat_natCast, Int.toNat_natCast] at HE3
  have hfn : fn ≤ np := by omega
  have htn2 : tn ≤ np := by omega
  have hd3 : decide (tn < fn) = false := decide_eq_false (by omega)
  have hd4 : decide (np < tn) = false := decide_eq_false (by omega)
  clear HE2 hf0 hft htn
  obtain ⟨wb, hwb⟩ : ∃ wb, wb = w3.alloc (.cells #[.slice none 0 0] 27) := ⟨_, rfl⟩
  have HB4 := Lib.hid (show Below w.heap.size w wb from hwb ▸ HB3.out.alloc HB3.out.size _)
  have HSZ := Lib.hid (show wb.heap.size = w3.heap.size + 1 by rw [hwb]; simp)
  have hl1 := (Array.getElem?_eq_some_iff.1 D1.out).1
  have hl2 := (Array.getElem?_eq_some_iff.1 D2.out).1
  have E1 := Lib.hid (show wb.heap[w.heap.size + 1]? = some (.cells #[.slice A N ca] 27 (0, 0)) by rw [hwb, heap_alloc_other _ _ _ hl1]; exact D1.out)
  have E2 := Lib.hid (show wb.heap[w.heap.size + 1 + 1]? = some (.cells #[.slice B M cb] 27 (0, 0)) by rw [hwb, heap_alloc_other _ _ _ hl2]; exact D2.out)
  have E3 := Lib.hid (show wb.heap[w.heap.size + 1 + 1 + 1]? = some (.cells #[.slice none 0 0] 27 (0, 0)) by rw [hwb, heap_alloc_other _ _ _ hs5]; exact D3.out)
  have E4 := Lib.hid (show wb.heap[w3.heap.size]? = some (.cells #[.slice none 0 0] 27 (0, 0)) by rw [hwb]; exact heap_alloc_new _ _)
  have HRK := Lib.hid (fun (k j : Nat) (h : tl[k]? = some j) => show ∃ g o, Ak = some ⟨g, o, none⟩ ∧ g < w3.heap.size ∧ wb.cell? ⟨g, o + k, none⟩ = some (.int .i64 (j : Nat)) by
    obtain ⟨g, o, e, hg, hc⟩ := HRI.out k j h
    exact ⟨g, o, e, hg, by rw [hwb]; exact ((below_alloc w3 _).cell (p := ⟨g, o + k, none⟩) hg).trans hc⟩)
  clear x2 q0 q1 D1 D2 D3
  go_wp2_with fail
  rw [← hwb]
  clear hwb
  have hszb := HSZ.out
  have hsb := HB4.out.size
  clear hszb
  go_loopw [15] (fun i wr => ∃ (k c : Nat), k ≤ np + 1 ∧ i = .int .i64 k ∧ c ≤ 600 ∧ Hid (∃ v, c = (accF (partsN ns) ms fn tn k).length ∧ FlRel wb wr w3.heap.size v c (accF (partsN ns) ms fn tn k)) ∧ Hid (Below w.heap.size w wr)) (fun i _ => np + 1 - (intOf i).toNat)
  case atStart => exact ⟨0, 0, Nat.zero_le _, rfl, by omega, Lib.hid ⟨.slice none 0 0, by simp [accF], by
    have : accF (partsN ns) ms fn tn 0 = [] := by simp [accF]
    rw [this]; exact ⟨fun _ _ _ => rfl, E4.out, World.ownsRow_nil _ _ _ _, Nat.le_refl _⟩⟩, HB4⟩
  case round =>
    obtain ⟨k, c, hk, rfl, hc6, hr, hbw⟩ := hrel
    obtain ⟨v, hcz, hor⟩ := hr.out
    have HR := Lib.hid hor
    have HCZ := Lib.hid hcz
    have HBW := Lib.hid hbw.out
    have hsw := HR.out.size
    have hszb := HSZ.out
    have hlb : w3.heap.size < wr.heap.size := by omega
    have R1 := Lib.hid (show wr.heap[w.heap.size + 1]? = some (.cells #[.slice A N ca] 27 (0, 0)) from (HR.out.old _ (by omega) (by omega)).trans E1.out)
    have R2 := Lib.hid (show wr.heap[w.heap.size + 1 + 1]? = some (.cells #[.slice B M cb] 27 (0, 0)) from (HR.out.old _ (by omega) (by omega)).trans E2.out)
    have HRW := Lib.hid (fun (q j : Nat) (h : tl[q]? = some j) => show ∃ g o, Ak = some ⟨g, o, none⟩ ∧ g < w3.heap.size ∧ wr.cell? ⟨g, o + q, none⟩ = some (.int .i64 (j : Nat)) by
      obtain ⟨g, o, e, hg, hc⟩ := HRK.out q j h
      exact ⟨g, o, e, hg, (World.cell?_of_block (a := ⟨g, o + q, none⟩) (HR.out.old g (by omega) (by show g ≠ w3.heap.size; omega))).trans hc⟩)
    clear hr hbw hcz hor hszb
    by_cases hlt : k ≤ np
    · obtain ⟨zs, hzs⟩ : ∃ zs, zs = accF (partsN ns) ms fn tn k := ⟨_, rfl⟩
      have HZS := Lib.hid hzs
      rw [← hzs] at HR HCZ
      have hft2 : fn ≤ tn := by have := of_decide_eq_false hd3; omega
      have HNX := Lib.hid (fun x (hx : k < np → (partsN ns)[k]? = some x) => accF_step (ms := ms) (f := fn) (t := tn) HPL.out hft2 hfn hlt hx)
      clear hzs hft2
      go_upto_if 55 with fail
      go_cut [15] (fun i wx => ∃ (v' : Value) (c' : Nat) (zs' : List Nd), i = .int .i64 k ∧ c' ≤ 800 ∧ Hid (c' = zs'.length) ∧ Hid (zs' = zs ++ (if k = fn then ms else [])) ∧ Hid (FlRel wb wx w3.heap.size v' c' zs') ∧ Hid (Below w.heap.size w wx))
      case first =>
        by_cases hf : k = fn
        · have hb1 : ((k : Int) == (fn : Int)) = true := by simp [hf]
          have HF := Lib.hid hf
          obtain ⟨Av, cv, hv, -, -, -, -⟩ := own_slice HR.out.own
          subst hv
          have o0 := cell_of_blk HR.out.out 0
          have y0 := cell_of_blk R2.out 0
          have y1 := (Array.getElem?_eq_some_iff.1 R2.out).1
          have y2 := (Array.getElem?_eq_some_iff.1 HR.out.out).1
          simp at o0 y0
          have HSX := Lib.hid (nds_srcX (HNB.out.below HBW.out))
          clear hf
          go_wp2_with (first
            | (at_builtin; refine wpList_append_src _ rfl (.tmp 57) (.tmp 59) 25 rfl wb.heap.size 78 iv (.agg #[.int .i64 0, .int .i64 0, .int .i64 0, .int .i64 0, .bool false, .int .i64 0, .int .i64 0, .int .i64 0]) 8 64 Try.underlying25 hiv.out hzv.out hsv.out hbv.out rfl (by decide) (.slice Av c cv) c (zs.flatMap Nd.cells) rfl ?own1 B M cb (ms.flatMap Nd.cells) rfl ?l1 ?k1 ?c1 ?o1 ?m1 ?b1 ?s1 (c + M) rfl ?_))
          case own1 => exact HR.out.own
          case l1 => rw [flat_cells, HM.out]
          case k1 => intro h; rw [HM.out]; exact HSX.out.1 h
          case o1 => intro u hu; obtain ⟨y, _, hy⟩ := List.mem_flatMap.1 hu; exact nd_one y u hy
          case c1 =>
            first | intro ad had jj u' hj | intro jj u' hj
            exact HSX.out.2 ad had jj u' hj
          case m1 => unfold maxLen; omega
          case b1 => omega
          case s1 => omega
          intro A5 c5 w5 own5 hg5 hat5
          obtain ⟨hsp, k3⟩ := HR.out.step (xs := ms) (by have := HSZ.out; omega) (Below.refl _ _) own5 hg5
          have HSP := Lib.hid hsp
          have HBN := Lib.hid (HR.out.below HBW.out (by have := HSZ.out; omega) (by omega) (Below.refl _ _) hg5 (.slice A5 (c + M) c5))
          have q0 := cell_of_blk k3 0
          have q1 := free_of_blk k3 0
          have q2 := (Array.getElem?_eq_some_iff.1 k3).1
          simp at q0
          clear own5 hg5 hat5 hsp k3 o0 y0 y1 y2
          go_wp2_with fail
          go_meet
          exact ⟨_, c + M, zs ++ ms, rfl, by omega, Lib.hid (by rw [List.length_append, ← HCZ.out, HM.out]), Lib.hid (by rw [if_pos HF.out]), HSP, HBN⟩
        · have hb1 : ((k : Int) == (fn : Int)) = false := beq_false_of_ne (by omega)
          have HF := Lib.hid hf
          clear hf
          go_wp2_with fail
          go_meet
          exact ⟨v, c, zs, rfl, by omega, HCZ, Lib.hid (by rw [if_neg HF.out, List.append_nil]), HR, HBW⟩
      case rest =>
      obtain ⟨v', c', zs', rfl, hc8, hx1, hx2, hx3, hx4⟩ := hcut
      obtain ⟨w4, rfl⟩ : ∃ w4, w4 = wc := ⟨_, rfl⟩
      have HCZ' := Lib.hid hx1.out
      have HZ' := Lib.hid hx2.out
      have HR' := Lib.hid hx3.out
      have HB' := Lib.hid hx4.out
      clear hx1 hx2 hx3 hx4 HR HCZ HBW R1 R2 HRW hsw hlb
      have hsw := HR'.out.size
      have hszb := HSZ.out
      have hlb : w3.heap.size < w4.heap.size := by omega
      have R1 := Lib.hid (show w4.heap[w.heap.size + 1]? = some (.cells #[.slice A N ca] 27 (0, 0)) from (HR'.out.old _ (by omega) (by omega)).trans E1.out)
      have HRW := Lib.hid (fun (q j : Nat) (h : tl[q]? = some j) => show ∃ g o, Ak = some ⟨g, o, none⟩ ∧ g < w3.heap.size ∧ w4.cell? ⟨g, o + q, none⟩ = some (.int .i64 (j : Nat)) by
        obtain ⟨g, o, e, hg, hc⟩ := HRK.out q j h
        exact ⟨g, o, e, hg, (World.cell?_of_block (a := ⟨g, o + q, none⟩) (HR'.out.old g (by omega) (by show g ≠ w3.heap.size; omega))).trans hc⟩)
      clear hszb
      obtain ⟨T, hT⟩ : ∃ T, T = decide (k < np ∧ (k < fn ∨ tn ≤ k)) := ⟨_, rfl⟩
      go_upto_region 16 with fail
      go_cut [75] (fun s wx => s = .bool T ∧ wx = w4)
      case first =>
        by_cases h1 : k < np
        · by_cases h2 : k < fn
          · have e : T = true := by rw [hT]; exact decide_eq_true ⟨h1, .inl h2⟩
            subst e
            clear hT
            go_wp2_with fail
            go_meet
            exact ⟨rfl, rfl⟩
          · by_cases h3 : tn ≤ k
            · have e : T = true := by rw [hT]; exact decide_eq_true ⟨h1, .inr h3⟩
              subst e
              clear hT
              go_wp2_with fail
              go_meet
              exact ⟨rfl, rfl⟩
            · have e : T = false := by rw [hT]; exact decide_eq_false (by omega)
              subst e
              clear hT
              go_wp2_with fail
              go_meet
              exact ⟨rfl, rfl⟩
        · have e : T = false := by rw [hT]; exact decide_eq_false (by omega)
          subst e
          clear hT
          go_wp2_with fail
          go_meet
          exact ⟨rfl, rfl⟩
      case rest =>
      obtain ⟨rfl, rfl⟩ := hcut
      obtain ⟨w4, rfl⟩ : ∃ w4, w4 = wc := ⟨_, rfl⟩
      have HT := Lib.hid hT
      clear hT
      cases T with
      | false =>
        have HTF := Lib.hid (show ¬ (k < np ∧ (k < fn ∨ tn ≤ k)) from of_decide_eq_false HT.out.symm)
        have HN2 := Lib.hid (show zs' = accF (partsN ns) ms fn tn (k + 1) by
          by_cases h : k < np
          · obtain ⟨x, hx⟩ : ∃ x, (partsN ns)[k]? = some x := ⟨_, List.getElem?_eq_getElem (by rw [HPL.out]; exact h)⟩
            rw [HNX.out x (fun _ => hx), ← HZS.out, if_neg HTF.out, List.append_nil]; exact HZ'.out
          · rw [HNX.out [] (fun h' => absurd h' h), ← HZS.out, if_neg HTF.out, List.append_nil]; exact HZ'.out)
        have hcl : c' ≤ 600 := by
          have := accF_len ns ms fn tn (k + 1)
          rw [← HN2.out, ← HCZ'.out, ← HN.out, ← HM.out] at this; omega
        go_wp2_with fail
        go_roundw
        case rel => exact ⟨k + 1, c', by omega, by go_num, hcl, Lib.hid ⟨v', by rw [← HN2.out]; exact HCZ'.out, by rw [← HN2.out]; exact HR'.out⟩, HB'⟩
        case measure => simp [intOf]; omega
      | true =>
        have hTT : k < np ∧ (k < fn ∨ tn ≤ k) := of_decide_eq_true HT.out.symm
        have hlt2 := hTT.1
        have HTT := Lib.hid hTT
        obtain ⟨j, hj⟩ : ∃ j, tl[k]? = some j := ⟨_, List.getElem?_eq_getElem (by have := HTL.out; omega)⟩
        obtain ⟨xj, hxj, hxd⟩ := HAT.out j (List.mem_of_getElem? hj)
        have hjN : j < N := by rw [HN.out]; exact (List.getElem?_eq_some_iff.1 hxj).1
        have HP := Lib.hid (HPT.out k j hj)
        obtain ⟨x, hx⟩ : ∃ x, x = belowN ns j := ⟨_, rfl⟩
        have HBE := Lib.hid (fun wx (hb : Below w.heap.size w wx) => show Calls Try.prog 80 #[.agg #[.slice A N ca], .int .i64 (j : Nat)] wx (GotText wx x) by
          have := rbelow_any A ca j ns xj wx (HNA.out.below hb) H1.out H2.out (by rw [← HN.out]; have := HN2.out; omega) hxj HDP.out
          rw [← hx, ← HN.out] at this; exact this)
        have hxl : x.length ≤ 200 := by
          have h1 := mem_len (List.mem_of_getElem? HP.out)
          rw [← hx, partsN_all, ← HN.out] at h1; have := HN2.out; omega
        have HN3 := Lib.hid (show accF (partsN ns) ms fn tn (k + 1) = zs' ++ x by
          rw [HNX.out x (fun _ => by rw [hx]; exact HP.out), ← HZS.out, if_pos HTT.out, ← HZ'.out])
        obtain ⟨m, hm⟩ : ∃ m, m = x.length := ⟨_, rfl⟩
        have HMX := Lib.hid hm
        have hml : m ≤ 200 := by omega
        have HBE2 := Lib.hid (fun wx (hb : Below w.heap.size w wx) => show Calls Try.prog 80 #[.agg #[.slice A N ca], .int .i64 (j : Nat)] wx (fun e w' => ∃ A5 c5, e = .returned (.agg #[.slice A5 m c5]) ∧ Hid (w'.ownsRow wx.heap.size 78 8 (.slice A5 m c5) m (x.flatMap Nd.cells)) ∧ Below wx.heap.size wx w') from
          (HBE.out wx hb).mono fun e w' ⟨A5, c5, h1, h2, h3⟩ => ⟨A5, c5, by rw [HMX.out]; exact h1, Lib.hid (by rw [HMX.out]; exact h2), h3⟩)
        obtain ⟨g, o, rfl, hg, hrc⟩ := HRW.out k j hj
        obtain ⟨Av, cv, hv, -, -, -, -⟩ := own_slice HR'.out.own
        subst hv
        have o0 := cell_of_blk HR'.out.out 0
        have y0 := cell_of_blk R1.out 0
        have y1 := (Array.getElem?_eq_some_iff.1 R1.out).1
        have y2 := (Array.getElem?_eq_some_iff.1 HR'.out.out).1
        simp at o0 y0
        have hgl : g < w4.heap.size := by omega
        have hk0 : (0 : Int) ≤ (k : Int) := by omega
        have hkn : (k : Int) < (np : Int) := by omega
        have hnc : np ≤ ck := by omega
        have HLX := Lib.hid (show (x.flatMap Nd.cells).length = m * 8 by rw [flat_cells, HMX.out])
        have HOX := Lib.hid (show ∀ u ∈ x.flatMap Nd.cells, u.oneCell' = true from fun u hu => by obtain ⟨y, _, hy⟩ := List.mem_flatMap.1 hu; exact nd_one y u hy)
        have HDR := Lib.hid (show Below w.heap.size w w4.drew from HB'.out.drew)
        clear hj hxj hxd hx hm hxl hTT HBE
        have HWB1 := Lib.hid (show w3.heap.size < wb.heap.size by have := HSZ.out; omega)
        have HCL := Lib.hid (show c' + m ≤ 600 by
          have := accF_len ns ms fn tn (k + 1)
          rw [HN3.out, List.length_append, ← HCZ'.out, ← HMX.out, ← HN.out, ← HM.out] at this; omega)
        have HBS := Lib.hid (show Below w4.heap.size w4 w4.drew from (Below.refl _ _).drew)
        have hfld : ∀ (A : Option Addr) (m c : Nat) (wx : World), Sem.run Try.prog (Instr.field 27 (Value.agg #[Value.slice A m c]) 0) wx = .ok (.slice A m c) wx := fun A m c wx => by first | rfl | kernel_rfl | simp [Instr.field, go_sem]
        go_wp2_with fail
        go_region_law (first
          | (refine step_append_src _ (by rfl) (.tmp 77) (.tmp 84) 25 (by rfl) wb.heap.size 78 iv (.agg #[.int .i64 0, .int .i64 0, .int .i64 0, .int .i64 0, .bool false, .int .i64 0, .int .i64 0, .int .i64 0]) 8 64 Try.underlying25 hiv.out hzv.out hsv.out hbv.out rfl (by decide) (.slice Av c' cv) c' (zs'.flatMap Nd.cells) (by rfl) HO6.out A5 m c5 (x.flatMap Nd.cells) (by rfl) HLX.out (own_len ho5.out).2.2 HS6.out HOX.out (by unfold maxLen; have := HCL.out; omega) (by have := HCL.out; omega) (by have := HB6.out.size; omega) (c' + m) rfl ?_; intro A6 c6 w7 own7 hg7; obtain ⟨hsp, k3⟩ := HR'.out.step (xs := x) HWB1.out HB6.out own7 hg7; have HSP := Lib.hid hsp; have HBN := Lib.hid (HR'.out.below HB'.out (by have := HWB1.out; omega) (by omega) HB6.out hg7 (.slice A6 (c' + m) c6)); have q0 := cell_of_blk k3 0; have q1 := free_of_blk k3 0; have q2 := (Array.getElem?_eq_some_iff.1 k3).1; simp at q0; clear own7 hg7 hsp k3)
          | (go_simp; go_at_call 80; refine (HBE2.out _ (by first | exact HDR.out | exact HB'.out)).mono ?_; rintro e w6 ⟨A5, c5, rfl, ho5, hb5⟩; have HB6 := Lib.hid (show Below w4.heap.size w4 w6 from by first | exact below_more HBS.out hb5 | exact hb5); have HO6 := Lib.hid (HR'.out.later HB6.out).own; have HS6 := Lib.hid (show ∀ ad, A5 = some ad → ∀ jj u, (x.flatMap Nd.cells)[jj]? = some u → w6.cell? (ad.add jj) = some u from (nds_srcX (own_nodes ho5.out)).2); have o6 : w6.cell? ⟨w3.heap.size, 0, none⟩ = some (.slice Av c' cv) := (HB6.out.cell (p := ⟨w3.heap.size, 0, none⟩) (by omega)).trans o0; have hz5 := HB6.out.size; clear hb5))
        all_goals (
          go_wp2_with fail
          go_roundw
          case rel => exact ⟨k + 1, c' + m, by omega, by go_num, HCL.out, Lib.hid ⟨_, by rw [HN3.out, List.length_append, ← HCZ'.out, ← HMX.out], by rw [HN3.out]; exact HSP.out⟩, HBN⟩
          case measure => simp [intOf]; omega)
    · obtain rfl : k = np + 1 := by omega
      have HAL := Lib.hid (show accF (partsN ns) ms fn tn (np + 1) = spliceL ns ms fn tn by
        have := accF_all ns ms fn tn (by rw [HPL.out]; exact hfn)
        rw [HPL.out] at this; exact this)
      obtain ⟨zs, hzs⟩ : ∃ zs, zs = spliceL ns ms fn tn := ⟨_, rfl⟩
      rw [← hzs] at HAL
      rw [HAL.out] at HR HCZ
      have HE4 := Lib.hid (show R = if 200 < zs.length then ([], 2) else (zs, 0) by rw [HE3.out, ← hzs])
      obtain ⟨Av, cv, hv, -, -, -, -⟩ := own_slice HR.out.own
      subst hv
      have R3 := Lib.hid (show wr.heap[w.heap.size + 1 + 1 + 1]? = some (.cells #[.slice none 0 0] 27 (0, 0)) from (HR.out.old _ (by have := HSZ.out; omega) (by omega)).trans E3.out)
      have o0 := cell_of_blk HR.out.out 0
      have q0 := cell_of_blk R3.out 0
      have q1 := free_of_blk R3.out 0
      have q2 := (Array.getElem?_eq_some_iff.1 R3.out).1
      simp at o0 q0
      clear hzs hlt
      by_cases hbig : 200 < c
      · have hd9 : decide ((200 : Int) < (c : Int)) = true := decide_eq_true (by omega)
        have HG := Lib.hid (show R = ([], 2) by rw [HE4.out, if_pos (by rw [← HCZ.out]; exact hbig)])
        go_wp2
        refine bodyPost_ret (v := .tuple #[.agg #[.slice none 0 0], .int .i64 2]) (by simp [results, Try.results48, go_sem, q0]) rfl ?_
        rw [HG.out]
        exact ⟨none, 0, 0, rfl, Lib.hid rfl, Lib.hid (own_none _ _), HBW.out.setCell (by dsimp only; omega) _⟩
      · have hd9 : decide ((200 : Int) < (c : Int)) = false := decide_eq_false (by omega)
        have HG := Lib.hid (show R = (zs, 0) by rw [HE4.out, if_neg (by rw [← HCZ.out]; exact hbig)])
        have HO := Lib.hid (show (wr.setCell ⟨w.heap.size + 1 + 1 + 1, 0, none⟩ (.slice Av c cv)).ownsRow w.heap.size 78 8 (.slice Av c cv) c (zs.flatMap Nd.cells) from
          own_base (ownsRow_of_block (w' := wr.setCell ⟨w.heap.size + 1 + 1 + 1, 0, none⟩ (.slice Av c cv)) HR.out.own (fun g hg => heap_setCell_other _ _ _ _ (by have := (HR.out.own.lt g hg).1; have := HSZ.out; dsimp only; omega))) (show w.heap.size ≤ wb.heap.size by have := HSZ.out; have := HB4.out.size; omega))
        have HBB := Lib.hid (show Below w.heap.size w (wr.setCell ⟨w.heap.size + 1 + 1 + 1, 0, none⟩ (.slice Av c cv)) from HBW.out.setCell (by dsimp only; omega) _)
        go_wp2
        refine bodyPost_ret (v := .tuple #[.agg #[.slice Av c cv], .int .i64 0]) (by simp [results, Try.results48, go_sem, q0]) rfl ?_
        rw [HG.out]
        exact ⟨Av, c, cv, rfl, HCZ, HO, HBB.out⟩

end Go.Proofs.Ytilagndfohnjnaa

/- Whether a paper is valid and not big (right); what the laws without the document's answer need of it. -/
namespace Go.Proofs.Ytilagndfohnjnaa
open Go.RowKit

/-- a box that holds a text that was made -/
def TBoxC (w1 wx : World) (x : Nat) (zs : List Nd) : Prop :=
  ∃ A k c, Below w1.heap.size w1 wx ∧ wx.heap[x]? = some (.cells #[.slice A k c] 27 (0, 0)) ∧ k = zs.length ∧ NdsAt wx A zs ∧ k ≤ c ∧ c ≤ maxLen
theorem tboxc_at {P2 wp P3 wx : World} {w1 : World} {zs : List Nd} {x : Nat} {A : Option Addr} {k c : Nat}
    (hwx : wx = P3.setCell ⟨x, 0, none⟩ (.slice A k c)) (hw : Below w1.heap.size w1 P2) (hp : Below P2.heap.size P2 wp) (h3 : Below wp.heap.size wp P3)
    (hk : k = zs.length) (own : wp.ownsRow P2.heap.size 78 8 (.slice A k c) k (zs.flatMap Nd.cells)) (hx1 : w1.heap.size ≤ x)
    (hx : (P2.heap[x]? = some (Obj.cells #[.slice none 0 0] 27 (0, 0))) ∨ (P3.heap[x]? = some (Obj.cells #[.slice none 0 0] 27 (0, 0)) ∧ wp.heap.size ≤ x)) : TBoxC w1 wx x zs := by
  subst hwx
  have s1 := hw.size
  have s2 := hp.size
  have s3 := h3.size
  have hx2 : P3.heap[x]? = some (Obj.cells #[.slice none 0 0] 27 (0, 0)) ∧ (x < P2.heap.size ∨ wp.heap.size ≤ x) := by
    rcases hx with h | ⟨h, hq⟩
    · have := (Array.getElem?_eq_some_iff.1 h).1
      exact ⟨((below_more hp h3).block x this).trans h, .inl this⟩
    · exact ⟨h, .inr hq⟩
  obtain ⟨bx, hx3⟩ := hx2
  refine ⟨A, k, c, (below_more hw (below_more hp h3)).setCell hx1 _, ?_, hk, own_nodes (ownsRow_of_block own (fun g hg => ?_)), (own_len own).1, (own_len own).2.1⟩
  · rw [heap_setCell_same _ _ _ _ _ _ bx]; rfl
  · have := own.lt g hg
    rw [heap_setCell_other _ _ _ _ (by dsimp only; omega)]; exact h3.block g this.2
theorem tboxc_of {w1 P0 wl P1 wt P2 wp wx : World} (P3 : World) {zs : List Nd} {x : Nat} {A : Option Addr} {k c : Nat}
    (hwx : wx = P3.setCell ⟨x, 0, none⟩ (.slice A k c)) (hl : Hid (Below P0.heap.size P0 wl)) (ht : Hid (Below P1.heap.size P1 wt)) (hp : Hid (Below P2.heap.size P2 wp))
    (hk : Hid (k = zs.length)) (own : Hid (wp.ownsRow P2.heap.size 78 8 (.slice A k c) k (zs.flatMap Nd.cells)))
    (h0 : Below w1.heap.size w1 P0) (h1 : Below wl.heap.size wl P1) (h2 : Below wt.heap.size wt P2) (h3 : Below wp.heap.size wp P3)
    (hx : (P0.heap[x]? = some (Obj.cells #[.slice none 0 0] 27 (0, 0)) ∧ w1.heap.size ≤ x) ∨ (P1.heap[x]? = some (Obj.cells #[.slice none 0 0] 27 (0, 0)) ∧ wl.heap.size ≤ x) ∨
      (P2.heap[x]? = some (Obj.cells #[.slice none 0 0] 27 (0, 0)) ∧ wt.heap.size ≤ x) ∨ (P3.heap[x]? = some (Obj.cells #[.slice none 0 0] 27 (0, 0)) ∧ wp.heap.size ≤ x)) : TBoxC w1 wx x zs := by
  have hl := hl.out
  have ht := ht.out
  have hp := hp.out
  have s0 := h0.size
  have s1 := hl.size
  have s2 := h1.size
  have s3 := ht.size
  have s4 := h2.size
  have s5 := hp.size
  refine tboxc_at hwx (below_more (below_more h0 hl) (below_more h1 (below_more ht h2))) hp h3 hk.out own.out ?_ ?_
  · rcases hx with ⟨_, h⟩ | ⟨_, h⟩ | ⟨_, h⟩ | ⟨_, h⟩ <;> omega
  · rcases hx with ⟨h, _⟩ | ⟨h, _⟩ | ⟨h, _⟩ | h
    · exact .inl (((below_more hl (below_more h1 (below_more ht h2))).block x (Array.getElem?_eq_some_iff.1 h).1).trans h)
    · exact .inl (((below_more ht h2).block x (Array.getElem?_eq_some_iff.1 h).1).trans h)
    · exact .inl h
    · exact .inr h
theorem gotI_open {w : World} {zs : List Int} {er : Int} {e : Ending} {w' : World} (h : GotIntsE w (zs, er) e w') : ∃ A k c, e = .returned (.tuple #[.slice A k c, .int .i64 er]) ∧ k = zs.length ∧ IntsIn w' A zs ∧ k ≤ c ∧ c ≤ maxLen ∧ Below w.heap.size w w' := by
  obtain ⟨A, c, rfl, h1, h2⟩ := h
  obtain ⟨A2, k2, c2, he, hk, hi, hb⟩ := GotIntsE.x (w := w) (er := er) (e := .returned (.tuple #[.slice A zs.length c, .int .i64 er])) (w' := w') ⟨A, c, rfl, h1, h2⟩
  injection he with he
  injection he with he
  have he0 := congrArg (fun a : Array Value => a[0]?) he
  simp at he0
  obtain ⟨e1, e2, e3⟩ := he0
  subst e1 e2 e3
  exact ⟨A, zs.length, c, rfl, rfl, hi, (own_len h1).1, (own_len h1).2.1, h2⟩

def rightB (l : Li) (ns : List Nd) : Bool := !bigG l ns.length && (textErr l ns == 0)
theorem right_yes {l : Li} {ns : List Nd} (h : rightB l ns = true) : bigG l ns.length = false ∧ textErr l ns = 0 := by
  unfold rightB at h; simpa using h

set_option maxRecDepth 100000 in
set_option maxHeartbeats 4000000 in
theorem right_is (L : Lm) (A : Option Addr) (cap : Nat) (ns : List Nd) (w : World) (hl : LmOk w L) (hn : NdsAt w A ns) (hc1 : ns.length ≤ cap) (hc : cap ≤ maxLen) (r : Bool) (hr : rightB L.li ns = r) :
    Calls Try.prog 53 #[.agg #[.int .i64 L.per, .slice L.A L.ms.length L.cap, .slice A ns.length cap]] w fun e w' => e = .returned (.bool r) ∧ Below w.heap.size w w' := by
  obtain ⟨W, hW⟩ : ∃ W, W = (w.alloc (.cells #[.int .i64 L.per, .slice L.A L.ms.length L.cap, .slice A ns.length cap] 29)) := ⟨_, rfl⟩
  have HB := Lib.hid (show Below w.heap.size w W from hW ▸ (Below.refl _ _).alloc (Nat.le_refl _) _)
  have C1 := Lib.hid (show W.heap[w.heap.size]? = some (.cells #[.int .i64 L.per, .slice L.A L.ms.length L.cap, .slice A ns.length cap] 29 (0, 0)) by
    rw [hW]; exact heap_alloc_new _ _)
  have hnm : ns.length ≤ maxLen := Nat.le_trans hc1 hc
  have HBG := Lib.hid (fun r (h : bigG L.li ns.length = r) => show Calls Try.prog 15 #[.agg #[.int .i64 L.per, .slice L.A L.ms.length L.cap, .slice A ns.length cap]] W _ from bigG_is L A ns.length cap W (hl.below HB.out) hnm r h)
  have HCK := Lib.hid (fun wx (hb : Below w.heap.size w wx) r (h : textErr L.li ns = r) => rgcheck_is L A cap ns wx (hl.below hb) (hn.below hb) hc1 hc r h)
  obtain ⟨G, hG⟩ : ∃ G, bigG L.li ns.length = G := ⟨_, rfl⟩
  obtain ⟨E, hE⟩ : ∃ E, textErr L.li ns = E := ⟨_, rfl⟩
  have HR := Lib.hid (show r = (!G && (E == 0)) by rw [← hr, ← hG, ← hE]; rfl)
  have HBB := Lib.hid hG
  have HEE := Lib.hid hE
  clear hl hn hc1 hc hnm hG hE hr
  obtain ⟨N, hN⟩ : ∃ N, N = ns.length := ⟨_, rfl⟩
  rw [← hN] at hW C1 HBG HCK HBB ⊢
  clear hN
  go_enter Try.func53, Try.ntmps53
  go_wp2_with fail
  rw [← hW]
  refine (HBG.out _ HBB.out).mono ?_; rintro e w1 ⟨rfl, hb1⟩
  have D := Lib.hid (blk_keep hb1 C1.out)
  have HB1 := Lib.hid (below_more HB.out hb1)
  have x0 := cell_of_blk D.out 0
  have x1 := cell_of_blk D.out 1
  have x2 := cell_of_blk D.out 2
  simp at x0 x1 x2
  have hsz1 := (Array.getElem?_eq_some_iff.1 D.out).1
  clear hb1 hW
  cases G with
  | true =>
    go_wp2_with fail
    go_ret
    exact ⟨of_bool (by rw [HR.out]; rfl), HB1.out⟩
  | false =>
    go_wp2_with fail
    refine (HCK.out w1 HB1.out E HEE.out).mono ?_; rintro e w2 ⟨rfl, hb2⟩
    by_cases h0 : E = 0
    · subst h0
      go_wp2_with fail
      go_ret
      exact ⟨of_bool (by rw [HR.out]; rfl), below_more HB1.out hb2⟩
    · have hb : (E == 0) = false := by simpa using h0
      have HR2 := Lib.hid (show r = false by rw [HR.out, hb]; rfl)
      clear h0
      go_wp2_with fail
      go_ret
      exact ⟨of_bool HR2.out.symm, below_more HB1.out hb2⟩

theorem nil_valid {l : Li} (h : checkErr l = 0) : textErr l [] = 0 := by
  unfold textErr
  rw [if_neg (by omega), if_neg (by simp)]; rfl
theorem sub_top {l : Li} {ns : List Nd} (h : textErr l ns = 0) {k j : Nat} (hj : (topsL ns)[k]? = some j) : ∃ g, (partsN ns)[k]? = some g ∧ subQ l ns (j : Nat) = (g, 0) := by
  have hs := shape_of h
  refine ⟨belowN ns j, below_part hs hj, ?_⟩
  obtain ⟨x, hx, _⟩ := tops_at (List.mem_of_getElem? hj)
  have hjl := (List.getElem?_eq_some_iff.1 hx).1
  have hp : placeErr l ns (j : Nat) = 0 := by
    unfold placeErr
    rw [h]; simp; omega
  unfold subQ
  rw [hp]
  simp
theorem tops_parts_len {l : Li} {ns : List Nd} (h : textErr l ns = 0) : (topsL ns).length = (partsN ns).length := by
  rw [tops_is (shape_of h), List.length_map, partsN_len]
/-- some of the groups of a valid text are a valid text -/
theorem some_valid {l : Li} {ns : List Nd} (h : textErr l ns = 0) {P : List (List Nd)} (hP : ∀ g ∈ P, g ∈ partsN ns) (hl : P.flatten.length ≤ 200) : textErr l P.flatten = 0 := by
  obtain ⟨h1, _, h3⟩ := valid_parts h
  exact valid_flat h1 hl (fun g hg => h3 g (hP g hg))
theorem cut_le (P : List (List Nd)) (f t : Nat) : ((P.take t).drop f).flatten.length ≤ P.flatten.length := by
  have h1 := flatten_take_le P t
  have h2 := flatten_drop_le (P.take t) f
  omega
theorem cut_snoc {P : List (List Nd)} {f k : Nat} {g : List Nd} (hf : f ≤ k) (hg : P[k]? = some g) : ((P.take (k + 1)).drop f).flatten = ((P.take k).drop f).flatten ++ g := by
  obtain ⟨hk, e⟩ := List.getElem?_eq_some_iff.1 hg
  rw [List.take_succ_eq_append_getElem hk, e, List.drop_append_of_le_length (by rw [List.length_take]; omega), List.flatten_append]; simp

end Go.Proofs.Ytilagndfohnjnaa
