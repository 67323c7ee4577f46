/-
  Where the groups stand (stands), by the specification.
-/
import Derived.Test.YtmiokllpdmmfhaaGreatArr
import Derived.Test.YtmiokllpdmmfhaaGreatRsc2
import Derived.Test.YtmiokllpdmmfhaaGreatLaK
import Derived.Test.YtmiokllpdmmfhaaGreatLcI
import Derived.Deep.RegionHeld3
import Derived.Deep.DeepCutAuto
namespace Go.Proofs.YtmiokllpdmmfhaaGreat
open Go.RowKit
set_option maxRecDepth 100000 in
set_option maxHeartbeats 4000000 in
theorem rtimes_any (k n d : Int) (w : World) (h1 : smallI (k * n)) (h2 : 0 < d ∧ d ≤ 4000000000000000000) :
    Calls Tryz.prog 106 #[.int .i64 k, .agg #[.int .i64 n, .int .i64 d]] w (GotFr w (fracR (k * n) d)) := by
  have HF := Lib.hid (fun wx => rfrac_any (k * n) d wx h1 h2)
  have e1 := small_wrap h1
  obtain ⟨x, hx⟩ : ∃ x, x = k * n := ⟨_, rfl⟩
  have f1 : IntKind.i64.wrap (k * n) = x := by rw [hx]; exact e1
  rw [← hx] at HF ⊢
  obtain ⟨F, hF⟩ : ∃ F, F = fracR x d := ⟨_, rfl⟩
  rw [← hF] at HF ⊢
  clear hx e1 h1 h2 hF
  obtain ⟨W1, hW1⟩ : ∃ W', W' = w.alloc (.cells #[.int .i64 n, .int .i64 d] 40) := ⟨_, rfl⟩; obtain ⟨W, hW⟩ : ∃ W', W' = W1.alloc (.cells #[.int .i64 0, .int .i64 0] 40) := ⟨_, rfl⟩; have szW1 : W1.heap.size = w.heap.size + 1 := (by rw [hW1]; simp); have kbW1 : Below w.heap.size w W1 := hW1 ▸ below_alloc _ _; have szW : W.heap.size = w.heap.size + 1 + 1 := (by rw [hW]; simp [szW1]); have kbW : Below W1.heap.size W1 W := hW ▸ below_alloc _ _; have HB := Lib.hid (below_more kbW1 kbW); have D0 := Lib.hid (blk_keep kbW (show W1.heap[w.heap.size]? = some (.cells #[.int .i64 n, .int .i64 d] 40 (0, 0)) by rw [hW1]; exact heap_alloc_new _ _)); have D1 := Lib.hid (show W.heap[w.heap.size + 1]? = some (.cells #[.int .i64 0, .int .i64 0] 40 (0, 0)) by rw [hW, ← szW1]; exact heap_alloc_new _ _); have SZW := Lib.hid szW; clear szW1 kbW1 szW kbW
  go_enter Tryz.func106, Tryz.ntmps106
  go_wp2_with fail
  rw [← hW1, ← hW]; clear hW1 hW
  refine (HF.out _).mono ?_; rintro e wf ⟨rfl, hb⟩
  have HB1 := Lib.hid (below_more HB.out hb)
  have D1 := Lib.hid (blk_keep hb D1.out)
  clear hb
  have q0 := cell_of_blk D1.out 0; have qf0 := free_of_blk D1.out 0; have q1 := cell_of_blk D1.out 1; have qf1 := free_of_blk D1.out 1; have hz_q := (Array.getElem?_eq_some_iff.1 D1.out).1; simp at q0 q1
  go_wp2
  exact bodyPost_ret (v := .agg #[.int .i64 F.num, .int .i64 F.den]) (by simp [results, Tryz.results106, go_sem, q0, q1]) rfl ⟨rfl, (HB1.out.setCell (by dsimp only; omega) _).setCell (by dsimp only; omega) _⟩
set_option maxRecDepth 100000 in
set_option maxHeartbeats 4000000 in
theorem radd2_any (n d p q : Int) (w : World) (h1 : smallI (n * q)) (h2 : smallI (p * d)) (h3 : smallI (n * q + p * d)) (h4 : 0 < d * q) (h5 : smallI (d * q)) :
    Calls Tryz.prog 83 #[.agg #[.int .i64 n, .int .i64 d], .agg #[.int .i64 p, .int .i64 q]] w (GotFr w (fracR (n * q + p * d) (d * q))) := by
  have HF := Lib.hid (fun wx => rfrac_any (n * q + p * d) (d * q) wx h3 ⟨h4, h5.2⟩)
  have e1 := small_wrap h1
  have e2 := small_wrap h2
  have e3 := small_wrap h3
  have e4 := small_wrap h5
  obtain ⟨x, hx⟩ : ∃ x, x = n * q := ⟨_, rfl⟩
  obtain ⟨y, hy⟩ : ∃ y, y = p * d := ⟨_, rfl⟩
  obtain ⟨z, hz⟩ : ∃ z, z = x + y := ⟨_, rfl⟩
  obtain ⟨u, hu⟩ : ∃ u, u = d * q := ⟨_, rfl⟩
  have f1 : IntKind.i64.wrap (n * q) = x := by rw [hx]; exact e1
  have f2 : IntKind.i64.wrap (p * d) = y := by rw [hy]; exact e2
  have f3 : IntKind.i64.wrap (x + y) = z := by rw [hz, hx, hy]; exact e3
  have f4 : IntKind.i64.wrap (d * q) = u := by rw [hu]; exact e4
  rw [← hx, ← hy, ← hu, ← hz] at HF ⊢
  obtain ⟨F, hF⟩ : ∃ F, F = fracR z u := ⟨_, rfl⟩
  rw [← hF] at HF ⊢
  clear hx hy hz hu e1 e2 e3 e4 h1 h2 h3 h4 h5 hF
  obtain ⟨W, hW⟩ : ∃ W, W = ((w.alloc (.cells #[.int .i64 n, .int .i64 d] 40)).alloc (.cells #[.int .i64 p, .int .i64 q] 40)).alloc (.cells #[.int .i64 0, .int .i64 0] 40) := ⟨_, rfl⟩
  have HB := Lib.hid (show Below w.heap.size w W from hW ▸ (two_under _ _ _).alloc (by simp; omega) _)
  have D2 := Lib.hid (show W.heap[w.heap.size + 1 + 1]? = some (.cells #[.int .i64 0, .int .i64 0] 40 (0, 0)) by rw [hW]; have := heap_alloc_new ((w.alloc (.cells #[.int .i64 n, .int .i64 d] 40)).alloc (.cells #[.int .i64 p, .int .i64 q] 40)) (.cells #[.int .i64 0, .int .i64 0] 40); simpa using this)
  go_enter Tryz.func83, Tryz.ntmps83
  go_wp2_with fail
  rw [← hW]
  clear hW
  refine (HF.out _).mono ?_; rintro e wf ⟨rfl, hb⟩
  have HB1 := Lib.hid (below_more HB.out hb)
  have D2 := Lib.hid (blk_keep hb D2.out)
  have q0 := cell_of_blk D2.out 0
  have q1 := cell_of_blk D2.out 1
  have f0 := free_of_blk D2.out 0
  have f1 := free_of_blk D2.out 1
  have hs := (Array.getElem?_eq_some_iff.1 D2.out).1
  simp at q0 q1
  clear hb
  go_wp2
  exact bodyPost_ret (v := .agg #[.int .i64 F.num, .int .i64 F.den]) (by simp [results, Tryz.results83, go_sem, q0, q1]) rfl ⟨rfl, (HB1.out.setCell (by dsimp only; omega) _).setCell (by dsimp only; omega) _⟩
theorem infoSt : (Tryz.prog.info? 129).map (fun i => (i.zero, i.size, i.bytes)) = some (some (.agg #[.int .i64 0, .int .i64 0]), 2, 16) := by kernel_rfl
def stC (cw : Bool) (len : Int) (ks : List Shp) (k : Nat) : List Value := (List.range k).flatMap fun j => [.int .i64 (blA cw len ks j).ln, .int .i64 (blA cw len ks j).st]
theorem stC_step (cw : Bool) (len : Int) (ks : List Shp) (k : Nat) : stC cw len ks (k + 1) = stC cw len ks k ++ [.int .i64 (blA cw len ks k).ln, .int .i64 (blA cw len ks k).st] := by
  unfold stC
  rw [List.range_succ, List.flatMap_append]; simp
theorem scl_bd {cw : Bool} {s : Shp} (hB : szB s) : ((0 ≤ (sclR cw s).num ∧ (sclR cw s).num ≤ 48) ∧ 1 ≤ (sclR cw s).den ∧ (sclR cw s).den ≤ 1000000) := (newBl_bd2 (cw := cw) hB).1
set_option maxRecDepth 100000 in
set_option maxHeartbeats 32000000 in
theorem rst_any (L : Lm) (way len : Int) (A : Option Addr) (cap : Nat) (zs : List Nd) (w : World) (hl : LmOk w L) (hn : NdsAt w A zs) (hp : Pln L.li zs) (hc1 : zs.length ≤ cap) (hc : cap ≤ maxLen) (hlb : 48 ≤ len ∧ len ≤ 4800) :
    Calls Tryz.prog 62 #[.agg #[.int .i64 L.per, .slice L.A L.ms.length L.cap], .agg #[.slice A zs.length cap], .agg #[.int .i64 way, .int .i64 len]] w (GotRow w 129 2 (shpsI L.li (cwN way) zs).length (stC (cwN way) len (shpsI L.li (cwN way) zs) (shpsI L.li (cwN way) zs).length)) := by
  have hz200 := (text_ok hp.ok).2.1
  have hdz : ∀ x ∈ zs, 0 ≤ x.depth := fun x hx => (hp.full.depth x hx).1
  have hB : ∀ s ∈ shpsI L.li (cwN way) zs, szB s := fun s hs => (shps_good (cwN way) hp s hs).szB
  have HKD := Lib.hid (fun wx (hb : Below w.heap.size w wx) => show Calls Tryz.prog 60 #[.agg #[.slice A zs.length cap], .int .i64 (-1)] wx (GotRow wx 3 1 (topsL zs).length (intsV (topsL zs))) by
    have := rkids_any A cap zs (-1) 0 0 wx (hn.below hb) hc1 hc (by omega) (.inr ⟨rfl, rfl, rfl⟩)
    rw [tops_kids hdz] at this; exact this)
  obtain ⟨ks, hks⟩ : ∃ ks, ks = shpsI L.li (cwN way) zs := ⟨_, rfl⟩
  have HTS := Lib.hid (fun (k j : Nat) (hj : (topsL zs)[k]? = some j) => show ∃ s, ks[k]? = some s ∧ (∀ wx, Below w.heap.size w wx → Calls Tryz.prog 58 #[.agg #[.int .i64 L.per, .slice L.A L.ms.length L.cap], .agg #[.slice A zs.length cap], .agg #[.int .i64 way, .int .i64 len], .int .i64 j, .bool false] wx (fun e w' => e = .returned (.tuple #[.int .i64 s.size.1, .int .i64 s.size.2]) ∧ Below wx.heap.size wx w')) ∧ (∀ wx, Below w.heap.size w wx → Calls Tryz.prog 61 #[.agg #[.int .i64 L.per, .slice L.A L.ms.length L.cap], .agg #[.slice A zs.length cap], .agg #[.int .i64 way, .int .i64 len], .int .i64 j] wx (fun e w' => e = .returned (.agg #[.int .i64 (sclR (cwN way) s).num, .int .i64 (sclR (cwN way) s).den]) ∧ Below wx.heap.size wx w')) by
    obtain ⟨u, hu, hd⟩ := tops_at (List.mem_of_getElem? hj)
    refine ⟨shpI L.li (cwN way) zs 5 j, by rw [hks]; unfold shpsI; rw [List.getElem?_map, hj]; rfl, fun wx hb => ?_, fun wx hb => ?_⟩
    · have := rsz_any L way len A cap zs hp hc1 hc 5 j u false wx hu (by omega) (Nat.le_refl _) (hl.below hb) (hn.below hb)
      rw [inI_false] at this; exact this
    · exact rscale_any L way len A cap zs j u wx (hl.below hb) (hn.below hb) hp hc1 hc hu)
  rw [← hks] at hB ⊢
  have hkl : ks.length = (topsL zs).length := by rw [hks]; unfold shpsI; rw [List.length_map]
  have hk2 : ks.length ≤ 200 := by
    have h1 : (topsL zs).length ≤ zs.length := by
      unfold topsL
      refine Nat.le_trans (List.length_filter_le _ _) ?_
      rw [List.length_range]; exact Nat.le_refl _
    omega
  obtain ⟨cw, hcw⟩ : ∃ cw, cw = cwN way := ⟨_, rfl⟩
  rw [← hcw] at HTS ⊢
  have HCW := Lib.hid (show cw = !decide (way ≤ 2) by rw [hcw]; unfold cwN; by_cases h : way ≤ 2 <;> simp [h] <;> omega)
  have HBD := Lib.hid (fun (s : Shp) (hm : s ∈ ks) => (show ((0 ≤ (newBl cw s).al.num ∧ (newBl cw s).al.num ≤ 100000000) ∧ 1 ≤ (newBl cw s).al.den ∧ (newBl cw s).al.den ≤ 1000000) from newBl_bd (hB s hm)))
  have HBS := Lib.hid (fun (s : Shp) (hm : s ∈ ks) => (show _ ∧ szB s from ⟨scl_bd (cw := cw) (hB s hm), hB s hm⟩))
  have HCL := Lib.hid (fun (s : Shp) (hm : s ∈ ks) => al_le (cw := cw) (hB s hm))
  have HST := Lib.hid (fun k (hk : k ≤ ks.length) => stA_bd (cw := cw) (len := len) hB k hk)
  have HRW := Lib.hid (fun wx => rrows_any way len wx)
  obtain ⟨R, hR⟩ : ∃ R, R = decide (way ≤ 2) := ⟨_, rfl⟩
  rw [← hR] at HRW HCW
  obtain ⟨ts, hts⟩ : ∃ ts, ts = topsL zs := ⟨_, rfl⟩
  rw [← hts] at HTS HKD hkl
  obtain ⟨K, hK⟩ : ∃ K, K = ks.length := ⟨_, rfl⟩
  have HK := Lib.hid hK
  have HKT := Lib.hid (show K = ts.length by rw [hK]; exact hkl)
  rw [← hkl, ← hK] at HKD
  rw [← hK] at HST hk2 ⊢
  obtain ⟨N, hN⟩ : ∃ N, N = zs.length := ⟨_, rfl⟩
  rw [← hN] at HKD HTS hc1 ⊢
  unfold maxLen at hc
  clear hl hn hp hz200 hdz hB hks hcw hR hts hK hN hkl
  obtain ⟨W1, hW1⟩ : ∃ W', W' = w.alloc (.cells #[.int .i64 L.per, .slice L.A L.ms.length L.cap] 24) := ⟨_, rfl⟩; obtain ⟨W2, hW2⟩ : ∃ W', W' = W1.alloc (.cells #[.slice A N cap] 27) := ⟨_, rfl⟩; obtain ⟨W, hW⟩ : ∃ W', W' = W2.alloc (.cells #[.int .i64 way, .int .i64 len] 31) := ⟨_, rfl⟩; have szW1 : W1.heap.size = w.heap.size + 1 := (by rw [hW1]; simp); have kbW1 : Below w.heap.size w W1 := hW1 ▸ below_alloc _ _; have szW2 : W2.heap.size = w.heap.size + 1 + 1 := (by rw [hW2]; simp [szW1]); have kbW2 : Below W1.heap.size W1 W2 := hW2 ▸ below_alloc _ _; have szW : W.heap.size = w.heap.size + 1 + 1 + 1 := (by rw [hW]; simp [szW2]); have kbW : Below W2.heap.size W2 W := hW ▸ below_alloc _ _; have HB := Lib.hid (below_more (below_more kbW1 kbW2) kbW); have D0 := Lib.hid (blk_keep kbW (blk_keep kbW2 (show W1.heap[w.heap.size]? = some (.cells #[.int .i64 L.per, .slice L.A L.ms.length L.cap] 24 (0, 0)) by rw [hW1]; exact heap_alloc_new _ _))); have D1 := Lib.hid (blk_keep kbW (show W2.heap[w.heap.size + 1]? = some (.cells #[.slice A N cap] 27 (0, 0)) by rw [hW2, ← szW1]; exact heap_alloc_new _ _)); have D2 := Lib.hid (show W.heap[w.heap.size + 1 + 1]? = some (.cells #[.int .i64 way, .int .i64 len] 31 (0, 0)) by rw [hW, ← szW2]; exact heap_alloc_new _ _); have SZW := Lib.hid szW; clear szW1 kbW1 szW2 kbW2 szW kbW
  have y0 := cell_of_blk D1.out 0; have hz_y := (Array.getElem?_eq_some_iff.1 D1.out).1; simp at y0
  obtain ⟨iv, hiv, hzv, hsv, hbv⟩ := info_hid infoSt
  go_enter Tryz.func62, Tryz.ntmps62
  go_wp2_with fail
  rw [← hW1, ← hW2, ← hW]; clear hW1 hW2 hW
  go_wp2_with fail
  refine (HKD.out _ HB.out).mono ?_; rintro e w1 ⟨A1, c1, rfl, hown, hb1⟩
  have HB1 := Lib.hid (below_more HB.out hb1)
  have HO1 := Lib.hid hown
  have E0 := Lib.hid (blk_keep hb1 D0.out)
  have E1 := Lib.hid (blk_keep hb1 D1.out)
  have E2 := Lib.hid (blk_keep hb1 D2.out)
  obtain ⟨hKc, hcm, -⟩ := own_len hown
  have HCE := Lib.hid (fun (k j : Nat) (hj : ts[k]? = some j) => (show ∃ b, A1 = some ⟨b, 0, none⟩ ∧ b < w1.heap.size ∧ w1.cell? ⟨b, k, none⟩ = some (.int .i64 (j : Int)) from by
    obtain ⟨b, h1, -, h2, -, -, h3, -⟩ := own_open hown (by have := (List.getElem?_eq_some_iff.1 hj).1; have := HKT.out; omega)
    exact ⟨b, h1, h2, h3 k _ (by unfold intsV; rw [List.getElem?_map, hj]; rfl)⟩))
  unfold maxLen at hcm
  clear hown hb1 HKD HO1 D0 D1 D2 y0 hz_y
  go_wp2_with fail
  go_loopw [7, 9, 10, 11] (fun v l st i wr => ∃ (k : Nat) (ln x : Int), k ≤ K ∧ i = .int .i64 k ∧ l = .int .i64 ln ∧ st = .int .i64 x ∧ Hid ((ln, x) = stA cw len (ks.take k)) ∧ Hid (wr.ownsRow w1.heap.size 129 2 v k (stC cw len ks k)) ∧ Hid (Below w1.heap.size w1 wr)) (fun _ _ _ i _ => K - (intOf i).toNat)
  case atStart => exact ⟨0, 0, 0, Nat.zero_le _, rfl, rfl, rfl, Lib.hid rfl, Lib.hid (by simpa [stC] using World.ownsRow_nil _ _ _ _), Lib.hid (Below.refl _ _)⟩
  case round =>
    obtain ⟨k, ln, x, hk, rfl, rfl, rfl, hpos, hown, hbw⟩ := hrel
    have HOW := Lib.hid hown.out
    have HBR := Lib.hid hbw.out
    have HPO := Lib.hid hpos.out
    clear hown hbw hpos
    by_cases hlt : k < K
    · obtain ⟨j, hj⟩ : ∃ j, ts[k]? = some j := ⟨_, List.getElem?_eq_getElem (by have := HKT.out; omega)⟩
      obtain ⟨s, hs, hsz, hscl⟩ := HTS.out k j hj
      have HSZ := Lib.hid hsz
      have HSC := Lib.hid hscl
      have hsm := List.mem_of_getElem? hs
      obtain ⟨b, rfl, hbl, hcell⟩ := HCE.out k j hj
      have HBL := Lib.hid (blA_at (cw := cw) (len := len) hs)
      have HNX := Lib.hid (stA_step (cw := cw) (len := len) hs)
      have HCLS := Lib.hid (stC_step cw len ks k)
      have hbd := HBD.out s hsm
      obtain ⟨hbs, hszB⟩ := HBS.out s hsm
      have hcl := HCL.out s hsm
      have hst := HST.out k hk
      rw [← HPO.out] at hst HNX HBL
      dsimp only at hst
      obtain ⟨nb, hnb⟩ : ∃ nb, nb = newBl cw s := ⟨_, rfl⟩
      have HBK := Lib.hid (show brkB cw len s x = (decide (0 < x) && decide (len * (endR nb x).den < (endR nb x).num)) by rw [hnb]; rfl)
      have HPL := Lib.hid (show plA cw len (ln, x) s = if brkB cw len s x then (ln + 1, 0) else (ln, x) from rfl)
      have HNX2 := Lib.hid (show nxA cw len (ln, x) s = ((plA cw len (ln, x) s).1, (plA cw len (ln, x) s).2 + ceilR nb.al.num nb.al.den + 24) by rw [hnb]; rfl)
      obtain ⟨⟨g1, g2⟩, hg⟩ : ∃ g, g = sclR cw s := ⟨_, rfl⟩
      obtain ⟨⟨sw, sh⟩, hsp⟩ : ∃ p, p = s.size := ⟨_, rfl⟩
      have HAL := Lib.hid (show nb.al = if R then fracR (sw * g1) g2 else fracR (sh * g1) g2 by
        rw [hnb]
        show fracR ((sclR cw s).num * alR cw s) (sclR cw s).den = _
        unfold alR
        rw [← hg, ← hsp, HCW.out]
        cases R
        · simp [Int.mul_comm]
        · simp [Int.mul_comm])
      rw [← hnb] at hbd hcl
      unfold szB at hszB
      rw [← hg] at HSC hbs
      rw [← hsp] at HSZ hszB
      dsimp only at HSZ HSC hbs hszB
      have HBL := Lib.hid (show (blA cw len ks k).ln = (plA cw len (ln, x) s).1 ∧ (blA cw len ks k).st = (plA cw len (ln, x) s).2 by rw [HBL.out]; exact ⟨rfl, rfl⟩)
      clear hnb hg hsp hs hsm hj hsz hscl
      obtain ⟨nbs, ⟨n1, e1'⟩, ⟨n2, d2⟩, ⟨n3, d3⟩, nln, nst⟩ := nb
      dsimp only at hbd hcl HBK HNX2 HAL
      have hki : (0 : Int) ≤ (k : Int) := by omega
      have hkl : (k : Int) < (K : Int) := by omega
      have z := (HBR.out.cell (p := ⟨b, k, none⟩) hbl).trans hcell
      have hbr : b < wr.heap.size := by have := HBR.out.size; omega
      have HBW := Lib.hid (below_more HB1.out HBR.out)
      have F0 := Lib.hid (blk_keep HBR.out E0.out)
      have F1 := Lib.hid (blk_keep HBR.out E1.out)
      have F2 := Lib.hid (blk_keep HBR.out E2.out)
      have x0 := cell_of_blk F0.out 0; have x1 := cell_of_blk F0.out 1; have hz_x := (Array.getElem?_eq_some_iff.1 F0.out).1; simp at x0 x1
      have y0 := cell_of_blk F1.out 0; have hz_y := (Array.getElem?_eq_some_iff.1 F1.out).1; simp at y0
      have p0 := cell_of_blk F2.out 0; have p1 := cell_of_blk F2.out 1; have hz_p := (Array.getElem?_eq_some_iff.1 F2.out).1; simp at p0 p1
      obtain ⟨jz, hjz⟩ : ∃ jz : Int, jz = (j : Int) := ⟨_, rfl⟩
      rw [← hjz] at z hcell HSZ HSC
      have HZJ := Lib.hid hcell
      clear hcell hjz
      go_wp2_with fail
      refine wp_region_later (by kernel_rfl) (by kernel_rfl) ?_; (repeat (first | go_big_quiet_step (((go_at_call 58; exact Calls.later _ (HSZ.out _ (below_more HBW.out (Later.below _)))))) | quiet_step (((go_at_call 58; exact Calls.later _ (HSZ.out _ (below_more HBW.out (Later.below _)))))))); refine wpQuiet_nil ?_; rintro _ ⟨s', rfl⟩
      have HB2 := Lib.hid (HBR.out.trans (s'.below.mono HBR.out.size))
      obtain ⟨w2, hw2⟩ : ∃ w2, w2 = s'.w := ⟨_, rfl⟩
      have HO2 := Lib.hid (ownsRow_of_block HOW.out (fun g hg => s'.below.block g (HOW.out.lt g hg).2))
      have HR2 := Lib.hid s'.below
      rw [← hw2] at HB2 HO2 HR2 ⊢
      clear hw2 s' z hbr x0 x1 hz_x y0 hz_y p0 p1 hz_p F0 F1 F2
      obtain ⟨⟨m1, m2⟩, hm⟩ : ∃ m, m = fracR (sw * g1) g2 := ⟨_, rfl⟩
      obtain ⟨⟨v1, v2⟩, hv⟩ : ∃ m, m = fracR (sh * g1) g2 := ⟨_, rfl⟩
      have HT1 := Lib.hid (fun wx => rtimes_any sw g1 g2 wx (by
        have a := Int.mul_nonneg hszB.1.1 hbs.1.1
        have c := Int.mul_le_mul hszB.1.2 hbs.1.2 (by omega) (by omega)
        unfold smallI; omega) (by omega))
      have HT2 := Lib.hid (fun wx => rtimes_any sh g1 g2 wx (by
        have a := Int.mul_nonneg hszB.2.1 hbs.1.1
        have c := Int.mul_le_mul hszB.2.2 hbs.1.2 (by omega) (by omega)
        unfold smallI; omega) (by omega))
      unfold GotFr at HT1 HT2
      rw [← hm] at HT1 HAL
      rw [← hv] at HT2 HAL
      dsimp only at HT1 HT2
      clear hm hv
      have G0 := Lib.hid (blk_keep HB2.out E0.out)
      have G1 := Lib.hid (blk_keep HB2.out E1.out)
      have G2 := Lib.hid (blk_keep HB2.out E2.out)
      have hb2 : b < w2.heap.size := by have := HB2.out.size; omega
      have ZJ := Lib.hid ((HB2.out.cell (p := ⟨b, k, none⟩) hbl).trans HZJ.out)
      have HBW2 := Lib.hid (below_more HB1.out HB2.out)
      go_upto_region 8 with fail
      go_cut [14] (fun p wx => ∃ g, p = .pointer (some ⟨g, 0, none⟩) ∧ Hid (BoxIn w2 wx g m1 m2))
      case first =>
        have HDA := Lib.hid (show Below w2.heap.size w2 (w2.alloc (.cells #[.int .i64 0, .int .i64 0] 40)).drew from (below_alloc _ _).drew)
        have HDR := Lib.hid (show Below w2.heap.size w2 w2.drew from (Below.refl _ _).drew)
        have HKS := Lib.hid (fun wx (hb : Below w2.heap.size w2 wx) => show wx.cell? ⟨w.heap.size, 0, none⟩ = some (.int .i64 L.per) ∧ wx.cell? ⟨w.heap.size, 1, none⟩ = some (.slice L.A L.ms.length L.cap) ∧ wx.cell? ⟨w.heap.size + 1, 0, none⟩ = some (.slice A N cap) ∧ wx.cell? ⟨w.heap.size + 1 + 1, 0, none⟩ = some (.int .i64 way) ∧ wx.cell? ⟨w.heap.size + 1 + 1, 1, none⟩ = some (.int .i64 len) ∧ wx.cell? ⟨b, k, none⟩ = some (.int .i64 jz) from
          have d0 := blk_keep hb G0.out
          have d1 := blk_keep hb G1.out
          have d2 := blk_keep hb G2.out
          ⟨cell_of_blk d0 0, cell_of_blk d0 1, cell_of_blk d1 0, cell_of_blk d2 0, cell_of_blk d2 1, (hb.cell (p := ⟨b, k, none⟩) hb2).trans ZJ.out⟩)
        go_region_held3 (fun wx => wx.cell? ⟨w.heap.size, 0, none⟩ = some (.int .i64 L.per) ∧ wx.cell? ⟨w.heap.size, 1, none⟩ = some (.slice L.A L.ms.length L.cap) ∧ wx.cell? ⟨w.heap.size + 1, 0, none⟩ = some (.slice A N cap) ∧ wx.cell? ⟨w.heap.size + 1 + 1, 0, none⟩ = some (.int .i64 way) ∧ wx.cell? ⟨w.heap.size + 1 + 1, 1, none⟩ = some (.int .i64 len) ∧ wx.cell? ⟨b, k, none⟩ = some (.int .i64 jz))
          ((refine HKS.out _ ?_; first | exact HDR.out | exact HDA.out | assumption | (refine Below.alloc ?_ ?_ _ <;> first | assumption | exact HDR.out | exact Nat.le_refl _ | exact Below.size (by assumption)) | (refine Below.setCell (Below.setCell ?_ ?_ _) ?_ _ <;> first | assumption | exact Nat.le_refl _ | exact Below.size (by assumption))))
          (first
            | (go_at_call 61; refine (HSC.out _ (below_more HBW2.out (by first | exact HDR.out | exact HDA.out))).mono ?_; rintro e wa ⟨rfl, hba⟩; have ka : Below w2.heap.size w2 wa := by first | exact below_more HDR.out hba | exact below_more HDA.out hba)
            | (go_at_call 106; refine (HT1.out _).mono ?_; rintro e wb ⟨rfl, hbb⟩; have kb : Below w2.heap.size w2 wb := by first | exact below_more ka hbb | exact below_more (ka.alloc ka.size _) hbb
               (try (have z := blk_keep (below_more hba hbb) (show (w2.alloc (.cells #[.int .i64 0, .int .i64 0] 40)).drew.heap[w2.heap.size]? = _ from heap_alloc_new w2 (.cells #[.int .i64 0, .int .i64 0] 40)); have z0 := cell_of_blk z 0; have z1 := cell_of_blk z 1; have y0 := free_of_blk z 0; have y1 := free_of_blk z 1; have hzz := (Array.getElem?_eq_some_iff.1 z).1; simp at z0 z1 y0 y1 hzz; clear z))
               (try (have z := blk_keep hbb (heap_alloc_new wa (.cells #[.int .i64 0, .int .i64 0] 40)); have z0 := cell_of_blk z 0; have z1 := cell_of_blk z 1; have y0 := free_of_blk z 0; have y1 := free_of_blk z 1; have hzz := (Array.getElem?_eq_some_iff.1 z).1; simp at z0 z1 y0 y1 hzz; clear z)))
            | fail)
        all_goals (
          go_wp2_with fail
          go_meet
          first
          | exact ⟨_, rfl, Lib.hid (box_new kb)⟩
          | exact ⟨_, rfl, Lib.hid (box_set ka hbb)⟩
          | exact ⟨_, rfl, Lib.hid (box_set (Below.refl _ _) (below_more (un_drew hba) hbb))⟩
          | fail)
      case rest =>
      obtain ⟨g, rfl, hbox⟩ := hcut
      have BX := Lib.hid hbox.out.1
      have BK := Lib.hid hbox.out.2.1
      have BG := Lib.hid hbox.out.2.2
      obtain ⟨w3, rfl⟩ : ∃ w3, w3 = wc := ⟨_, rfl⟩
      clear hbox HT1
      have Y2 := Lib.hid (blk_keep BK.out G2.out)
      have p0 := cell_of_blk Y2.out 0; have p1 := cell_of_blk Y2.out 1; have hz_p := (Array.getElem?_eq_some_iff.1 Y2.out).1; simp at p0 p1
      go_wp2_with fail
      refine (HRW.out _).mono ?_; rintro e w4 ⟨rfl, hb4⟩
      have BK4 := Lib.hid (below_more BK.out hb4)
      have BX := Lib.hid (blk_keep hb4 BX.out)
      clear hb4 Y2 p0 p1 hz_p BK
      go_upto_if 46 with fail
      go_cut [] (fun wx => Hid (wx.heap[g]? = some (.cells #[.int .i64 n2, .int .i64 d2] 40 (0, 0))) ∧ Hid (Below w2.heap.size w2 wx))
      case first =>
        cases R
        case true =>
          have he : (⟨n2, d2⟩ : Fr) = ⟨m1, m2⟩ := HAL.out
          injection he with h1 h2
          have H1 := Lib.hid h1
          have H2 := Lib.hid h2
          clear h1 h2
          go_wp2_with fail
          go_meet
          exact ⟨Lib.hid (by rw [H1.out, H2.out]; exact BX.out), BK4⟩
        case false =>
          have he : (⟨n2, d2⟩ : Fr) = ⟨v1, v2⟩ := HAL.out
          injection he with h1 h2
          have H1 := Lib.hid h1
          have H2 := Lib.hid h2
          clear h1 h2
          have Y0 := Lib.hid (blk_keep BK4.out G0.out)
          have Y1 := Lib.hid (blk_keep BK4.out G1.out)
          have Y2 := Lib.hid (blk_keep BK4.out G2.out)
          have z := (BK4.out.cell (p := ⟨b, k, none⟩) hb2).trans ZJ.out
          have hbr : b < w4.heap.size := by have := BK4.out.size; omega
          have x0 := cell_of_blk Y0.out 0; have x1 := cell_of_blk Y0.out 1; have hz_x := (Array.getElem?_eq_some_iff.1 Y0.out).1; simp at x0 x1
          have y0 := cell_of_blk Y1.out 0; have hz_y := (Array.getElem?_eq_some_iff.1 Y1.out).1; simp at y0
          have p0 := cell_of_blk Y2.out 0; have p1 := cell_of_blk Y2.out 1; have hz_p := (Array.getElem?_eq_some_iff.1 Y2.out).1; simp at p0 p1
          go_upto_region 10 with fail
          refine wp_region_later_tail 10 (by kernel_rfl) (by kernel_rfl) ?_; simp only [List.take_succ_cons, List.take_zero, List.drop_succ_cons, List.drop_zero]; (repeat (first | go_big_quiet_step ((first | ((go_at_call 61; exact Calls.later _ (HSC.out _ (below_more HBW2.out (below_more BK4.out (Later.below _)))))) | ((go_at_call 106; exact Calls.later _ (HT2.out _))))) | quiet_step ((first | ((go_at_call 61; exact Calls.later _ (HSC.out _ (below_more HBW2.out (below_more BK4.out (Later.below _)))))) | ((go_at_call 106; exact Calls.later _ (HT2.out _))))))); refine wpQuiet_nil ?_; rintro _ ⟨s', rfl⟩
          have BK5 := Lib.hid (below_more BK4.out s'.below)
          have BX5 := Lib.hid (blk_keep s'.below BX.out)
          obtain ⟨w5, hw5⟩ : ∃ w5, w5 = s'.w := ⟨_, rfl⟩
          rw [← hw5] at BK5 BX5 ⊢
          clear hw5 s' x0 x1 hz_x y0 hz_y p0 p1 hz_p z hbr
          have q0 := cell_of_blk BX5.out 0; have qf0 := free_of_blk BX5.out 0; have q1 := cell_of_blk BX5.out 1; have qf1 := free_of_blk BX5.out 1; have hz_q := (Array.getElem?_eq_some_iff.1 BX5.out).1; simp at q0 q1
          go_wp2_with fail
          go_meet
          have e9 := heap_setCell_same _ g 1 (.int .i64 v2) _ _ (heap_setCell_same w5 g 0 (.int .i64 v1) _ _ BX5.out)
          exact ⟨Lib.hid (by rw [H1.out, H2.out]; simpa using e9), Lib.hid ((BK5.out.setCell BG.out _).setCell BG.out _)⟩
      case rest =>
      obtain ⟨hbx, hbk⟩ := hcut
      have BX := Lib.hid hbx.out
      have BK := Lib.hid hbk.out
      obtain ⟨w5, rfl⟩ : ∃ w5, w5 = wc := ⟨_, rfl⟩
      clear hbx hbk BK4 HT2 HSC HAL
      have hPL := HPL.out
      obtain ⟨B, hBB⟩ : ∃ B, B = brkB cw len s x := ⟨_, rfl⟩
      rw [← hBB] at hPL HBK
      have HPL2 := Lib.hid hPL
      clear hPL HPL hBB
      go_upto_region 11 with fail
      go_cut [68] (fun t wx => t = .bool B ∧ Hid (Below w5.heap.size w5 wx))
      case first =>
        have Y2 := Lib.hid (blk_keep BK.out G2.out)
        have p0 := cell_of_blk Y2.out 0; have p1 := cell_of_blk Y2.out 1; have hz_p := (Array.getElem?_eq_some_iff.1 Y2.out).1; simp at p0 p1
        have q0 := cell_of_blk BX.out 0; have q1 := cell_of_blk BX.out 1; have hz_q := (Array.getElem?_eq_some_iff.1 BX.out).1; simp at q0 q1
        by_cases hx0 : 0 < x
        · have d1 : decide (0 < x) = true := decide_eq_true hx0
          have ha := Int.mul_nonneg (show 0 ≤ x by omega) (show 0 ≤ d2 by omega)
          have hb := Int.mul_le_mul (show x ≤ 200004800 by omega) (show d2 ≤ 1000000 by omega) (by omega) (by omega)
          have HAD := Lib.hid (fun wx => radd2_any x 1 n2 d2 wx (by unfold smallI; omega) (by unfold smallI; omega) (by unfold smallI; omega) (by omega) (by unfold smallI; omega))
          have hen : (0 ≤ (fracR (x * d2 + n2 * 1) (1 * d2)).num ∧ (fracR (x * d2 + n2 * 1) (1 * d2)).num ≤ 2000000000000000) ∧ 1 ≤ (fracR (x * d2 + n2 * 1) (1 * d2)).den ∧ (fracR (x * d2 + n2 * 1) (1 * d2)).den ≤ 1000000 := by
            have := fracR_bd (n := x * d2 + n2 * 1) (d := 1 * d2) (by omega) (by omega)
            omega
          have HBK2 := Lib.hid (show B = decide (len * (fracR (x * d2 + n2 * 1) (1 * d2)).den < (fracR (x * d2 + n2 * 1) (1 * d2)).num) by rw [HBK.out, d1]; rfl)
          unfold GotFr at HAD
          obtain ⟨⟨r1, r2⟩, hr⟩ : ∃ m, m = fracR (x * d2 + n2 * 1) (1 * d2) := ⟨_, rfl⟩
          rw [← hr] at hen HAD HBK2
          dsimp only at hen HAD HBK2
          have HLS := Lib.hid (fun wx => show Calls Tryz.prog 84 #[.agg #[.int .i64 len, .int .i64 1], .agg #[.int .i64 r1, .int .i64 r2]] wx (fun e w' => e = .returned (.bool B) ∧ Below wx.heap.size wx w') by
            have a := Int.mul_nonneg (show 0 ≤ len by omega) (show 0 ≤ r2 by omega)
            have c := Int.mul_le_mul hlb.2 hen.2.2 (by omega) (by omega)
            have := rless_any len 1 r1 r2 wx (by unfold smallI; omega) (by unfold smallI; omega)
            rw [HBK2.out]
            rw [Int.mul_one] at this
            exact this)
          clear hr hen HBK HBK2 ha hb
          refine wp_region_later (by kernel_rfl) (by kernel_rfl) ?_; (repeat (first | go_big_quiet_step ((first | ((go_at_call 103; exact Calls.later _ (rwhole_any _ _))) | ((go_at_call 83; exact Calls.later _ (HAD.out _))) | ((go_at_call 84; exact Calls.later _ (HLS.out _))))) | quiet_step ((first | ((go_at_call 103; exact Calls.later _ (rwhole_any _ _))) | ((go_at_call 83; exact Calls.later _ (HAD.out _))) | ((go_at_call 84; exact Calls.later _ (HLS.out _))))))); refine wpQuiet_nil ?_; rintro _ ⟨s', rfl⟩
          go_wp2_with fail
          go_meet
          exact ⟨rfl, Lib.hid s'.below⟩
        · have d1 : decide (0 < x) = false := decide_eq_false hx0
          have HBK2 := Lib.hid (show B = false by rw [HBK.out, d1]; rfl)
          refine wp_region_later (by kernel_rfl) (by kernel_rfl) ?_; (repeat (first | go_big_quiet_step (fail) | quiet_step (fail))); refine wpQuiet_nil ?_; rintro _ ⟨s', rfl⟩
          go_wp2_with fail
          go_meet
          exact ⟨by rw [HBK2.out], Lib.hid s'.below⟩
      case rest =>
        obtain ⟨rfl, hbc⟩ := hcut
        obtain ⟨w6, rfl⟩ : ∃ w6, w6 = wc := ⟨_, rfl⟩
        have BX := Lib.hid (blk_keep hbc.out BX.out)
        have BK := Lib.hid (below_more BK.out hbc.out)
        clear hbc HBK
        go_upto_if 68 with fail
        go_cut [9, 10] (fun a c wx => ∃ l2 x2, a = .int .i64 l2 ∧ c = .int .i64 x2 ∧ Hid ((l2, x2) = plA cw len (ln, x) s) ∧ Hid (Below w6.heap.size w6 wx))
        case first =>
          cases B
          · go_wp2_with fail
            go_meet
            exact ⟨ln, x, rfl, rfl, Lib.hid (by rw [HPL2.out]; rfl), Lib.hid (Below.refl _ _)⟩
          · go_wp2_with fail
            go_meet
            exact ⟨ln + 1, 0, rfl, rfl, Lib.hid (by rw [HPL2.out]; rfl), Lib.hid (Below.refl _ _)⟩
        case rest =>
        obtain ⟨l2, x2, rfl, rfl, hp2, hbc2⟩ := hcut
        obtain ⟨w7, rfl⟩ : ∃ w7, w7 = wc := ⟨_, rfl⟩
        have HP2 := Lib.hid hp2.out
        have BX := Lib.hid (blk_keep hbc2.out BX.out)
        have BK := Lib.hid (below_more BK.out hbc2.out)
        have hb2' := plA_bd (cw := cw) (len := len) (s := s) (p := (ln, x)) (k := (k : Int)) hst
        rw [← HP2.out] at hb2'
        dsimp only at hb2'
        have HBL2 := Lib.hid (show (blA cw len ks k).ln = l2 ∧ (blA cw len ks k).st = x2 by rw [HBL.out.1, HBL.out.2, ← HP2.out]; exact ⟨rfl, rfl⟩)
        have HNX3 := Lib.hid (show stA cw len (ks.take (k + 1)) = (l2, x2 + ceilR n2 d2 + 24) by rw [HNX.out, HNX2.out, ← HP2.out])
        have HOV := Lib.hid (ownsRow_of_block HO2.out (fun g hg => BK.out.block g (HO2.out.lt g hg).2))
        have HBR7 := Lib.hid (HB2.out.trans (BK.out.mono HB2.out.size))
        have hcb : 0 ≤ ceilR n2 d2 ∧ ceilR n2 d2 ≤ 1000000 := hcl
        have hcq : (n2 + d2 - 1) / d2 = ceilR n2 d2 := rfl
        obtain ⟨cl, hcl2⟩ : ∃ c, c = ceilR n2 d2 := ⟨_, rfl⟩
        rw [← hcl2] at hcb hcq HNX3
        have HCQ := Lib.hid hcq
        clear hp2 hbc2 HBL HNX HNX2 HPL2 hst HP2 hcl hcl2 hcq
        obtain ⟨Av, cv, hv7, -, -, -, -⟩ := own_slice HOV.out
        subst hv7
        have HSS := Lib.hid HBR7.out.size
        have HSA := Lib.hid (show ∀ (o : Obj), w1.heap.size ≤ (w7.alloc o).heap.size from fun o => by rw [World.size_alloc]; have := HSS.out; omega)
        have HNR := Lib.hid (new_row w7 [.int .i64 l2, .int .i64 x2] 129)
        have HN1 := Lib.hid (show ∀ u ∈ ([.int .i64 l2, .int .i64 x2] : List Value), u.oneCell' = true from fun u hu => by simp at hu; rcases hu with rfl | rfl <;> rfl)
        go_wp2_with (first
          | (at_builtin; refine wpList_append_src _ rfl (.tmp 71) (.tmp 75) 126 rfl w1.heap.size 129 iv (.agg #[.int .i64 0, .int .i64 0]) 2 16 Tryz.underlying126 hiv.out hzv.out hsv.out hbv.out rfl (by decide) (.slice Av k cv) k (stC cw len ks k) rfl (HOV.out.alloc _) (some ⟨w7.heap.size, 0, none⟩) 1 1 [.int .i64 l2, .int .i64 x2] rfl rfl (fun h => by cases h) HNR.out HN1.out (by unfold maxLen; omega) (by omega) (HSA.out _) (k + 1) rfl ?_))
        intro A9 c9 w9 own9 hg9 _
        have HB9 := Lib.hid ((HBR7.out.alloc HSS.out _).grown hg9 (by rw [World.size_alloc]; have := HSS.out; omega) (fun g hg => (HOV.out.lt g hg).1))
        have HO9 := Lib.hid (show w9.ownsRow w1.heap.size 129 2 (.slice A9 (k + 1) c9) (k + 1) (stC cw len ks (k + 1)) by
          rw [HCLS.out, HBL2.out.1, HBL2.out.2]; exact own9)
        have B9 := Lib.hid (show w9.heap[g]? = some (.cells #[.int .i64 n2, .int .i64 d2] 40 (0, 0)) from
          (hg9.block g (by rw [World.size_alloc]; have := (Array.getElem?_eq_some_iff.1 BX.out).1; omega) (fun h => by have h1 := (HO2.out.lt _ (show (Value.slice Av k cv).ownBlock = some g from h.symm)).2; have := BG.out; omega)).trans ((heap_alloc_other _ _ _ (Array.getElem?_eq_some_iff.1 BX.out).1).trans BX.out))
        clear own9 hg9 HNR HN1 HSA HCLS HBL2 HOV BX BK HBR7
        have hcQ := HCQ.out
        have q0 := cell_of_blk B9.out 0; have q1 := cell_of_blk B9.out 1; have hz_q := (Array.getElem?_eq_some_iff.1 B9.out).1; simp at q0 q1
        go_wp2_with fail
        go_roundw
        case rel => exact ⟨k + 1, l2, x2 + cl + 24, by omega, by go_num, rfl, rfl, Lib.hid HNX3.out.symm, HO9, HB9⟩
        case measure => simp [intOf]; omega
    · obtain rfl : k = K := by omega
      obtain ⟨Av, cv, hv7, -, -, -, -⟩ := own_slice HOW.out
      subst hv7
      have HBF := Lib.hid (below_more HB1.out HBR.out)
      have HOF := Lib.hid (own_base HOW.out HB1.out.size)
      go_wp2_with fail
      go_ret
      exact ⟨Av, cv, rfl, HOF.out, HBF.out⟩
end Go.Proofs.YtmiokllpdmmfhaaGreat
