/-
  The pieces of a column, of a gap, by the program.
-/
import Derived.Test.YtmiokllpdmmfhaaGreatLaM
namespace Go.Proofs.YtmiokllpdmmfhaaGreat
open Go.RowKit
theorem col_far {ks : List Shp} {sp : Int} {j : Nat} {k : Shp} (hsp : 0 ≤ sp ∧ sp ≤ 1000) (hB : ∀ k ∈ ks, szB k) (hk : ks[j]? = some k) : (0 ≤ sumH (ks.take j) + sp * (j : Int) ∧ sumH (ks.take j) + sp * (j : Int) + k.size.2 ≤ sp * ((ks.length : Int) - 1) + sumH ks) ∧ cntS (ks.take j) + k.cnt ≤ cntS ks ∧ (sumH (ks.take (j + 1)) + sp * ((j + 1 : Nat) : Int) = sumH (ks.take j) + sp * (j : Int) + (k.size.2 + sp)) := by
  obtain ⟨hj, _⟩ := List.getElem?_eq_some_iff.1 hk
  have e := take_snocS hk
  have h1 := (sum_bd (ks.take j) (fun q hq => hB q (List.mem_of_mem_take hq))).2.1
  have h2 := (sum_bd (ks.drop (j + 1)) (fun q hq => hB q (List.mem_of_mem_drop hq))).2.1
  have h3 : sumH ks = sumH (ks.take (j + 1)) + sumH (ks.drop (j + 1)) := by rw [← sumH_app2, List.take_append_drop]
  have h4 : cntS ks = cntS (ks.take (j + 1)) + cntS (ks.drop (j + 1)) := by rw [← cntS_app, List.take_append_drop]
  rw [e, sumH_app] at h3
  rw [e, cntS_app] at h4
  have h5 : cntS [k] = k.cnt := by rw [cntS, cntS]; rfl
  have h6 := Int.mul_le_mul_of_nonneg_left (show (j : Int) ≤ (ks.length : Int) - 1 by omega) hsp.1
  have h7 := Int.mul_nonneg hsp.1 (show (0 : Int) ≤ (j : Int) by omega)
  have h8 : sp * ((j + 1 : Nat) : Int) = sp * (j : Int) + sp := by push_cast; rw [Int.mul_add, Int.mul_one]
  rw [e, sumH_app, h8]
  omega
set_option maxRecDepth 100000 in
set_option maxHeartbeats 16000000 in
theorem colpcs_any (sp : Int) (ks : List Shp) (hsp : 0 ≤ sp ∧ sp ≤ 1000) (hn : ks.length ≤ 1000) (hRB : szB (.col sp ks)) (hB : ∀ k ∈ ks, szB k) (hO : ∀ k ∈ ks, SzOk k) (hP : ∀ k ∈ ks, PcOk k) : PcOk (.col sp ks) := by
  have hSO := colsize_any sp ks hsp hn hB hO
  intro w arg x y hx hy hc hv
  have HV0 := Lib.hid hv
  obtain ⟨A, c, e, h1, h2, h3⟩ := hv
  injection e with _ e
  subst e
  have HV := Lib.hid h3
  have HO := Lib.hid hO
  have HP := Lib.hid hP
  obtain ⟨n, hnn⟩ : ∃ n, n = ks.length := ⟨_, rfl⟩
  have HN := Lib.hid hnn
  obtain ⟨H, hH⟩ : ∃ H, H = maxW ks := ⟨_, rfl⟩
  obtain ⟨T, hT⟩ : ∃ T, T = sp * ((n : Int) - 1) + sumH ks := ⟨_, rfl⟩
  have hse : (Shp.col sp ks).size = (H, T) := by rw [Shp.size, hT, hH, hnn]
  unfold szB at hRB
  rw [hse] at hx hy hRB
  dsimp only at hx hy hRB
  rw [Shp.cnt] at hc
  have HSO := Lib.hid (fun wx (hbx : Below w.heap.size w wx) => show Calls Tryz.prog 224 #[.agg #[.int .i64 sp, .slice A n c]] wx (fun e w' => e = .returned (.tuple #[.int .i64 H, .int .i64 T]) ∧ Below wx.heap.size wx w') by
    have := hSO wx _ (ShV.below hbx (.col sp ks) _ HV0.out)
    unfold GotSz at this
    rw [hse, ← hnn] at this; exact this)
  have HFAR := Lib.hid (fun (j : Nat) (k : Shp) (hk : ks[j]? = some k) => show (0 ≤ sumH (ks.take j) + sp * (j : Int) ∧ sumH (ks.take j) + sp * (j : Int) + k.size.2 ≤ T) ∧ cntS (ks.take j) + k.cnt ≤ cntS ks ∧ (sumH (ks.take (j + 1)) + sp * ((j + 1 : Nat) : Int) = sumH (ks.take j) + sp * (j : Int) + (k.size.2 + sp)) by
    rw [hT, hnn]; exact col_far hsp hB hk)
  have HMX := Lib.hid (fun k hk => show k.size.1 ≤ H from hH ▸ (max_mem ks hB k hk).1)
  have HB := Lib.hid hB
  have HF := Lib.hid (show (Shp.col sp ks).pcs x y = pcsC sp H ks x y by rw [Shp.pcs, hH])
  obtain ⟨W, hW⟩ : ∃ W, W = w.alloc (.cells #[.int .i64 sp, .slice A n c] 210) := ⟨_, rfl⟩
  have HBW := Lib.hid (show Below w.heap.size w W from hW ▸ below_alloc _ _)
  have D0 := Lib.hid (show W.heap[w.heap.size]? = some (.cells #[.int .i64 sp, .slice A n c] 210 (0, 0)) from hW ▸ heap_alloc_new _ _)
  have hn0 : (0 : Int) ≤ (n : Int) := by omega
  show Calls Tryz.prog 223 #[.agg #[.int .i64 sp, .slice A ks.length c], .int .i64 x, .int .i64 y] w _
  unfold GotPcs
  rw [HF.out]
  rw [← hnn] at h1 hn ⊢
  unfold maxLen at h2
  obtain ⟨iv, hiv, hzv, hsv, hbv⟩ := info_hid infoPc
  clear h3 hB hO hP hSO hH hT hnn hse HV0 HF
  go_enter Tryz.func223, Tryz.ntmps223
  go_wp2_with fail
  rw [← hW]
  clear hW
  have x0 := cell_of_blk D0.out 0
  have x1 := cell_of_blk D0.out 1
  have hs := (Array.getElem?_eq_some_iff.1 D0.out).1
  simp at x0 x1
  go_wp2_with fail
  refine (HSO.out _ HBW.out).mono ?_; rintro e w1 ⟨rfl, hb1⟩
  have HB1 := Lib.hid (below_more HBW.out hb1)
  have D1 := Lib.hid (blk_keep hb1 D0.out)
  clear hb1 x0 x1 hs
  have x1 := cell_of_blk D1.out 1
  have hs1 := (Array.getElem?_eq_some_iff.1 D1.out).1
  simp at x1
  go_wp2_with fail
  go_loopw [2, 9, 22] (fun a v i wr => ∃ (j m : Nat), j ≤ n ∧ i = .int .i64 j ∧ m ≤ 1000000 ∧ Hid (a = .int .i64 (y + (sumH (ks.take j) + sp * (j : Int)))) ∧ Hid (m = (pcsC sp H (ks.take j) x y).length) ∧ Hid (wr.ownsRow w1.heap.size 166 12 v m ((pcsC sp H (ks.take j) x y).flatMap Pc.cells)) ∧ Hid (Below w1.heap.size w1 wr)) (fun _ _ i _ => n - (intOf i).toNat)
  case atStart => exact ⟨0, 0, Nat.zero_le _, rfl, Nat.zero_le _, Lib.hid (by simp [sumH]), Lib.hid (by simp [pcsC]), Lib.hid (by simpa [pcsC] using World.ownsRow_nil _ _ _ _), Lib.hid (Below.refl _ _)⟩
  case round =>
    obtain ⟨j, m, hj, rfl, hm1, hav, hml, hown, hbw⟩ := hrel
    have HOW := Lib.hid hown.out
    have HBR := Lib.hid hbw.out
    have HML := Lib.hid hml.out
    clear hown hbw hml
    have hav2 := hav.out
    subst hav2
    clear hav
    have D2 := Lib.hid (blk_keep HBR.out D1.out)
    by_cases hlt : j < n
    · obtain ⟨k, hk⟩ : ∃ k, ks[j]? = some k := ⟨_, List.getElem?_eq_getElem (by have := HN.out; omega)⟩
      obtain ⟨b, o, u, hA, hb, hcell, hu⟩ := ShVs.at_ ks 0 j k HV.out hk
      subst hA
      rw [Nat.zero_add] at hcell
      obtain ⟨arg, rfl⟩ := hu.iface
      have hmem := List.mem_of_getElem? hk
      have hkb := HB.out k hmem
      have HBA := Lib.hid (below_more HB1.out HBR.out)
      have z := (HBA.out.cell (p := ⟨b, o + j, none⟩) hb).trans hcell
      have hbr : b < wr.heap.size := by have := HBA.out.size; omega
      have hj0 : (0 : Int) ≤ (j : Int) := by omega
      have hjn : (j : Int) < (n : Int) := by omega
      obtain ⟨f1, f2, f3⟩ := HFAR.out j k hk
      have hle := HMX.out k hmem
      have HC := Lib.hid (fun wx (hbx : Below w.heap.size w wx) => HO.out k hmem wx arg (ShV.below hbx k _ hu))
      obtain ⟨xj, hxj⟩ : ∃ v, v = y + (sumH (ks.take j) + sp * (j : Int)) := ⟨_, rfl⟩
      obtain ⟨yj, hyj⟩ : ∃ v, v = x + (H - k.size.1) / 2 := ⟨_, rfl⟩
      unfold szB at hkb
      have hxb : 0 ≤ xj ∧ xj + k.size.2 ≤ 1000000000 := by rw [hxj]; omega
      have hyb : 0 ≤ yj ∧ yj + k.size.1 ≤ 1000000000 := by rw [hyj]; omega
      have HPC := Lib.hid (fun wx (hbx : Below w.heap.size w wx) => HP.out k hmem wx arg yj xj hyb hxb (by omega) (ShV.below hbx k _ hu))
      have HTK := Lib.hid (show pcsC sp H (ks.take (j + 1)) x y = pcsC sp H (ks.take j) x y ++ k.pcs yj xj by
        rw [take_snocS hk, pcsC_app, List.length_take, Nat.min_eq_left (by have := HN.out; omega), hxj, hyj])
      obtain ⟨L, hL⟩ : ∃ L, L = k.pcs yj xj := ⟨_, rfl⟩
      obtain ⟨q, hq⟩ : ∃ q, q = L.length := ⟨_, rfl⟩
      obtain ⟨done, hdn⟩ : ∃ d, d = pcsC sp H (ks.take j) x y := ⟨_, rfl⟩
      have hmq : m + q ≤ 1000000 := by
        have := HML.out
        rw [this, pcsC_cnt, hq, hL, pcs_cnt]; omega
      have HXN := Lib.hid (show y + (sumH (ks.take (j + 1)) + sp * ((j + 1 : Nat) : Int)) = xj + (k.size.2 + sp) by rw [f3, hxj]; omega)
      obtain ⟨⟨p1, p2⟩, hp⟩ : ∃ p, p = k.size := ⟨_, rfl⟩
      rw [← hp] at hkb hxb hyb hle HXN hyj
      dsimp only at hkb hxb hyb hle HXN hyj
      have HP0 := Lib.hid hp
      have HC2 := Lib.hid (fun wx (hbx : Below w.heap.size w wx) => show Calls Tryz.prog (szFn k) #[arg] wx (fun e w' => e = .returned (.tuple #[.int .i64 p1, .int .i64 p2]) ∧ Below wx.heap.size wx w') by
        have := HC.out wx hbx
        unfold GotSz at this
        rw [← HP0.out] at this; exact this)
      have hdiv : (H - p1).tdiv 2 = (H - p1) / 2 := Int.tdiv_eq_ediv_of_nonneg (by omega)
      have HPC2 := Lib.hid (fun wx (hbx : Below w.heap.size w wx) => show Calls Tryz.prog (pcFn k) #[arg, .int .i64 (x + (H - p1) / 2), .int .i64 xj] wx (GotRow wx 166 12 q (L.flatMap Pc.cells)) by
        have := HPC.out wx hbx
        unfold GotPcs at this
        rw [hq, hL, ← hyj]; exact this)
      rw [← hL, ← hdn] at HTK
      rw [← hdn] at HOW HML
      rw [← hxj]
      have HL := Lib.hid hL
      have HQ := Lib.hid hq
      clear hcell hu hmem hp HC HPC HP0 f1 f2 f3 hxj hyj hL hq hdn hk HV
      obtain ⟨Av, cv, hv, -, -, -, -⟩ := own_slice HOW.out
      subst hv
      have e2 := cell_of_blk D2.out 1
      have e0 := cell_of_blk D2.out 0
      have hs2 := (Array.getElem?_eq_some_iff.1 D2.out).1
      simp at e0 e2
      clear D2 HFAR HMX HO HP HB
      have HM := fun wx => pc_method k arg wx
      cases k <;> (
        simp only [tyOf, szFn, pcFn] at z HC2 HPC2 HM
        go_wp2_with fail
        refine (HC2.out _ HBA.out).mono ?_; rintro e w2 ⟨rfl, hb2⟩
        have HB2 := Lib.hid (below_more HBR.out hb2)
        have HO2 := Lib.hid (ownsRow_of_block (w' := w2) HOW.out (fun g hg => hb2.block g (HOW.out.lt g hg).2))
        have D2 := Lib.hid (blk_keep HB2.out D1.out)
        have HBA2 := Lib.hid (below_more HB1.out HB2.out)
        clear hb2 e0 e2 hs2
        go_wp2_with fail
        refine (HPC2.out _ HBA2.out).mono ?_; rintro e w3 ⟨A3, c3, rfl, hown3, hb3⟩
        have HB3 := Lib.hid (below_more HB2.out hb3)
        have HO3 := Lib.hid (ownsRow_of_block (w' := w3) HO2.out (fun g hg => hb3.block g (HO2.out.lt g hg).2))
        obtain ⟨g1, g2, g3, g4⟩ := own_srcP hown3
        have G1 := Lib.hid g1
        have G2 := Lib.hid g2
        have G3 := Lib.hid g3
        have hw13 := HB3.out.size
        unfold maxLen at g4
        clear hb3 g1 g2 g3 hown3 D2
        go_wp2_with (first
          | (at_builtin; refine wpList_append_src _ rfl (.tmp 31) (.tmp 40) 163 rfl w1.heap.size 166 iv (.agg #[.int .i64 0, .int .i64 0, .int .i64 0, .int .i64 0, .bool false, .int .i64 0, .int .i64 0, .int .i64 0, .int .i64 0, .int .i64 0, .int .i64 0, .int .i64 0]) 12 96 Tryz.underlying163 hiv.out hzv.out hsv.out hbv.out rfl (by decide) (.slice Av m cv) m (done.flatMap Pc.cells) rfl ?own2 A3 q c3 (L.flatMap Pc.cells) rfl G1.out G2.out ?c2 pcs_one ?m2 ?b2 ?s2 (m + q) rfl ?_))
        case own2 => exact HO3.out
        case c2 => exact G3.out
        case m2 => unfold maxLen; omega
        case b2 => omega
        case s2 => omega
        intro A4 c4 w4 own4 hg4 _
        have HB4 := Lib.hid (HB3.out.grown hg4 (by omega) (fun g hg => (HO3.out.lt g hg).1))
        have HO4 := Lib.hid own4
        clear own4 hg4
        have D4 := Lib.hid (blk_keep HB4.out D1.out)
        have e0 := cell_of_blk D4.out 0
        have hs4 := (Array.getElem?_eq_some_iff.1 D4.out).1
        simp at e0
        go_wp2_with fail
        all_goals go_roundw
        all_goals first
          | exact ⟨j + 1, m + q, by omega, by go_num, by omega, Lib.hid (by rw [HXN.out]), Lib.hid (by rw [HTK.out, List.length_append, ← HML.out, ← HQ.out]), Lib.hid (by rw [HTK.out, List.flatMap_append]; exact HO4.out), HB4⟩
          | (simp [intOf]; done)
          | (simp [intOf]; omega))
    · obtain rfl : j = n := by omega
      have HT := Lib.hid (show ks.take j = ks by rw [HN.out, List.take_length])
      have h1 := HOW.out
      have h2 := HML.out
      rw [HT.out] at h1 h2
      obtain ⟨Av, cv, hv, -, -, -, -⟩ := own_slice h1
      subst hv
      have hsz := HB1.out.size
      have HOF := Lib.hid (own_base h1 hsz)
      have HM2 := Lib.hid h2
      have HBB := Lib.hid (below_more HB1.out HBR.out)
      clear h1 h2 D2 HFAR HMX HO HP HB
      go_wp2_with fail
      go_ret
      exact ⟨Av, cv, by rw [← HM2.out]; rfl, by rw [← HM2.out]; exact HOF.out, HBB.out⟩
set_option maxRecDepth 100000 in
set_option maxHeartbeats 8000000 in
theorem gappcs_any (n : Nd) (h1 : 0 ≤ n.max ∧ n.max ≤ 1000000) : PcOk (.gap n) := by
  intro w arg x y hx hy hc hv
  injection hv with _ e
  subst e
  obtain ⟨nk, nd, ns, nt, nm, nst, nmn, nmx⟩ := n
  dsimp only at h1
  have HC := Lib.hid (fun wx => gapsize_any nk nd ns nt nm nst nmn nmx wx h1)
  clear hx hy hc
  obtain ⟨W, hW⟩ : ∃ W, W = w.alloc (.cells #[.int .i64 nk, .int .i64 nd, .int .i64 ns, .int .i64 nt, .bool nm, .int .i64 nst, .int .i64 nmn, .int .i64 nmx] 204) := ⟨_, rfl⟩
  have HB := Lib.hid (show Below w.heap.size w W from hW ▸ below_alloc _ _)
  have D0 := Lib.hid (show W.heap[w.heap.size]? = some (.cells #[.int .i64 nk, .int .i64 nd, .int .i64 ns, .int .i64 nt, .bool nm, .int .i64 nst, .int .i64 nmn, .int .i64 nmx] 204 (0, 0)) from hW ▸ heap_alloc_new _ _)
  show Calls Tryz.prog 217 _ w _
  unfold GotPcs
  rw [Shp.pcs]
  go_enter Tryz.func217, Tryz.ntmps217
  go_wp2_with fail
  rw [← hW]
  clear hW
  have x0 := cell_of_blk D0.out 0
  have x1 := cell_of_blk D0.out 1
  have x2 := cell_of_blk D0.out 2
  have x3 := cell_of_blk D0.out 3
  have x4 := cell_of_blk D0.out 4
  have x5 := cell_of_blk D0.out 5
  have x6 := cell_of_blk D0.out 6
  have x7 := cell_of_blk D0.out 7
  have hs := (Array.getElem?_eq_some_iff.1 D0.out).1
  simp at x0 x1 x2 x3 x4 x5 x6 x7
  go_wp2_with fail
  refine (HC.out _).mono ?_; rintro e w2 ⟨rfl, hb2⟩
  have HB2 := Lib.hid (below_more HB.out hb2)
  have D2 := Lib.hid (blk_keep hb2 D0.out)
  clear hb2 x0 x1 x2 x3 x4 x5 x6 x7 hs
  have x0 := cell_of_blk D2.out 0
  have x1 := cell_of_blk D2.out 1
  have x2 := cell_of_blk D2.out 2
  have x3 := cell_of_blk D2.out 3
  have x4 := cell_of_blk D2.out 4
  have x5 := cell_of_blk D2.out 5
  have x6 := cell_of_blk D2.out 6
  have x7 := cell_of_blk D2.out 7
  have hs := (Array.getElem?_eq_some_iff.1 D2.out).1
  simp at x0 x1 x2 x3 x4 x5 x6 x7
  go_wp2_with fail
  go_ret
  have hsz := HB2.out.size
  refine ⟨_, _, rfl, own_base (own_lit w2 (Pc.cells ⟨⟨nk, nd, ns, nt, nm, nst, nmn, nmx⟩, x, y, 12 * nmx, 24⟩) _ 12 1 rfl (by unfold maxLen; omega)) hsz, HB2.out.alloc hsz _⟩
end Go.Proofs.YtmiokllpdmmfhaaGreat
