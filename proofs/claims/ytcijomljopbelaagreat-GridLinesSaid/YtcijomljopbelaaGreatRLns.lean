/-
  The specification's Lines.
-/
import Derived.Test.YtcijomljopbelaaGreatLn2
import Derived.Test.YtcijomljopbelaaGreatRst
import Derived.Test.YtcijomljopbelaaGreatGLns
namespace Go.Proofs.YtcijomljopbelaaGreat
open Go.RowKit

theorem stC_len (cw : Bool) (len : Int) (ks : List Shp) : ∀ k, (stC cw len ks k).length = k * 2
  | 0 => rfl
  | k + 1 => by rw [stC_step, List.length_append, stC_len]; show k * 2 + 2 = _; omega
theorem stC_at (cw : Bool) (len : Int) (ks : List Shp) (j : Nat) : ∀ k, j < k → (stC cw len ks k)[j * 2]? = some (.int .i64 (blA cw len ks j).ln)
  | 0, h => by omega
  | k + 1, h => by
    rw [stC_step]
    rcases Nat.lt_or_ge j k with h1 | h1
    · rw [List.getElem?_append_left (by rw [stC_len]; omega)]
      exact stC_at cw len ks j k h1
    · obtain rfl : j = k := by omega
      rw [List.getElem?_append_right (by rw [stC_len]; omega), stC_len, Nat.sub_self]; rfl

set_option maxRecDepth 100000 in
set_option maxHeartbeats 32000000 in
theorem rlines_any (L : Lm) (A : Option Addr) (cap : Nat) (ns : List Nd) (way len : Int) (w : World) (hl : LmOk w L) (hn : NdsAt w A ns) (hc1 : ns.length ≤ cap) (hc : cap ≤ maxLen) :
    Calls Tryz.prog 24 #[.agg #[.int .i64 L.per, .slice L.A L.ms.length L.cap], .agg #[.slice A ns.length cap], .agg #[.int .i64 way, .int .i64 len]] w (GotLnE (lnsQ L.li way len ns) w) := by
  obtain ⟨E, hE⟩ : ∃ E, bothE L.li ns way len = E := ⟨_, rfl⟩
  have HBO := Lib.hid (fun wx (hb : Below w.heap.size w wx) => rboth_is L A cap ns way len wx (hl.below hb) (hn.below hb) hc1 hc E hE)
  obtain ⟨Q, hQ⟩ : ∃ Q, Q = lnsQ L.li way len ns := ⟨_, rfl⟩
  have HQ := Lib.hid (show Q = if E ≠ 0 then ([], E) else (lnL (lnF (cwN way) len (shpsI L.li (cwN way) (regQ plainP L.li ns).1)) (shpsI L.li (cwN way) (regQ plainP L.li ns).1).length, 0) by rw [hQ]; unfold lnsQ; rw [hE])
  rw [← hQ]
  have HEE := Lib.hid hE
  have HL := Lib.hid hl
  have HPL := Lib.hid (fun wx (hb : Below w.heap.size w wx) => rplain_any2 L A cap ns wx (hl.below hb) (hn.below hb) hc1 hc)
  obtain ⟨N, hN⟩ : ∃ N, N = ns.length := ⟨_, rfl⟩
  rw [← hN] at HBO HPL hc1 ⊢
  unfold maxLen at hc
  clear hl hn hE hQ hN
  obtain ⟨W1, hW1⟩ : ∃ W', W' = w.alloc (.cells #[.int .i64 L.per, .slice L.A L.ms.length L.cap] 24) := ⟨_, rfl⟩; obtain ⟨W2, hW2⟩ : ∃ W', W' = W1.alloc (.cells #[.slice A N cap] 27) := ⟨_, rfl⟩; obtain ⟨W, hW⟩ : ∃ W', W' = W2.alloc (.cells #[.int .i64 way, .int .i64 len] 31) := ⟨_, rfl⟩; have szW1 : W1.heap.size = w.heap.size + 1 := (by rw [hW1]; simp); have kbW1 : Below w.heap.size w W1 := hW1 ▸ below_alloc _ _; have szW2 : W2.heap.size = w.heap.size + 1 + 1 := (by rw [hW2]; simp [szW1]); have kbW2 : Below W1.heap.size W1 W2 := hW2 ▸ below_alloc _ _; have szW : W.heap.size = w.heap.size + 1 + 1 + 1 := (by rw [hW]; simp [szW2]); have kbW : Below W2.heap.size W2 W := hW ▸ below_alloc _ _; have HB := Lib.hid (below_more (below_more kbW1 kbW2) kbW); have D0 := Lib.hid (blk_keep kbW (blk_keep kbW2 (show W1.heap[w.heap.size]? = some (.cells #[.int .i64 L.per, .slice L.A L.ms.length L.cap] 24 (0, 0)) by rw [hW1]; exact heap_alloc_new _ _))); have D1 := Lib.hid (blk_keep kbW (show W2.heap[w.heap.size + 1]? = some (.cells #[.slice A N cap] 27 (0, 0)) by rw [hW2, ← szW1]; exact heap_alloc_new _ _)); have D2 := Lib.hid (show W.heap[w.heap.size + 1 + 1]? = some (.cells #[.int .i64 way, .int .i64 len] 31 (0, 0)) by rw [hW, ← szW2]; exact heap_alloc_new _ _); have SZW := Lib.hid szW; clear szW1 kbW1 szW2 kbW2 szW kbW
  have x0 := cell_of_blk D0.out 0; have x1 := cell_of_blk D0.out 1; have hz_x := (Array.getElem?_eq_some_iff.1 D0.out).1; simp at x0 x1
  have y0 := cell_of_blk D1.out 0; have hz_y := (Array.getElem?_eq_some_iff.1 D1.out).1; simp at y0
  have p0 := cell_of_blk D2.out 0; have p1 := cell_of_blk D2.out 1; have hz_p := (Array.getElem?_eq_some_iff.1 D2.out).1; simp at p0 p1
  obtain ⟨iv, hiv, hzv, hsv, hbv⟩ := info_hid infoInt
  obtain ⟨iu, hiu, hzu, hsu, hbu⟩ := info_hid infoInts
  go_enter Tryz.func24, Tryz.ntmps24
  go_wp2_with fail
  rw [← hW1, ← hW2, ← hW]; clear hW1 hW2 hW
  go_wp2_with fail
  refine (HBO.out _ HB.out).mono ?_; rintro e w1 ⟨rfl, hb1⟩
  have HB1 := Lib.hid (below_more HB.out hb1)
  have D0 := Lib.hid (blk_keep hb1 D0.out)
  have D1 := Lib.hid (blk_keep hb1 D1.out)
  have D2 := Lib.hid (blk_keep hb1 D2.out)
  clear hb1 HBO x0 x1 hz_x y0 hz_y p0 p1 hz_p
  have hq := HB1.out.size
  by_cases h0 : E = 0
  case neg =>
    have hb : (E != 0) = true := by simpa using h0
    have HF := Lib.hid (show Q = ([], E) by rw [HQ.out, if_pos h0])
    clear HQ h0
    go_wp2_with fail
    go_ret2
    rw [HF.out]
    exact ⟨none, 0, [], rfl, Lib.hid (LnOwn.nil _ _), HB1.out⟩
  subst h0
  have ht := both_ok HEE.out
  have hq2 : regQ plainP L.li ns = ((regQ plainP L.li ns).1, 0) := by rw [plainT_is ht.1]
  obtain ⟨zs, hzs⟩ : ∃ zs, zs = (regQ plainP L.li ns).1 := ⟨_, rfl⟩
  rw [← hzs] at hq2 HQ
  rw [hq2] at HPL
  dsimp only at HPL
  have hp := plain_pln ht.1 hq2
  have hz200 := (text_ok hp.ok).2.1
  have hdz : ∀ x ∈ zs, 0 ≤ x.depth := fun x hx => (hp.full.depth x hx).1
  have hB : ∀ s ∈ shpsI L.li (cwN way) zs, szB s := fun s hs => (shps_good (cwN way) hp s hs).szB
  have hkl : (shpsI L.li (cwN way) zs).length = (topsL zs).length := by unfold shpsI; rw [List.length_map]
  have hM2 : (shpsI L.li (cwN way) zs).length ≤ 200 := by
    have h1 : (topsL zs).length ≤ zs.length := by
      unfold topsL
      refine Nat.le_trans (List.length_filter_le _ _) ?_
      rw [List.length_range]; exact Nat.le_refl _
    omega
  have HQ := Lib.hid (show Q = (lnL (lnF (cwN way) len (shpsI L.li (cwN way) zs)) (shpsI L.li (cwN way) zs).length, 0) by rw [HQ.out]; simp)
  have hlb : 48 ≤ len ∧ len ≤ 4800 := by
    have := ht.2
    unfold pageErr at this
    split at this <;> omega
  have HSD := Lib.hid (fun wx (hb : Below w.heap.size w wx) (Ap : Option Addr) (cp : Nat) (hz : NdsAt wx Ap zs) (h1 : zs.length ≤ cp) (h2 : cp ≤ maxLen) => rst_any L way len Ap cp zs wx (HL.out.below hb) hz hp h1 h2 hlb)
  obtain ⟨ks, hks⟩ : ∃ ks, ks = shpsI L.li (cwN way) zs := ⟨_, rfl⟩
  obtain ⟨cw, hcw⟩ : ∃ cw, cw = cwN way := ⟨_, rfl⟩
  rw [← hks, ← hcw] at HSD HQ
  rw [← hks] at hB hM2
  have HLF := Lib.hid (lnF_ok (cw := cw) (len := len) hB)
  obtain ⟨f, hf⟩ : ∃ f, f = lnF cw len ks := ⟨_, rfl⟩
  rw [← hf] at HLF HQ
  have HSM := Lib.hid (fun k (hk : k ≤ ks.length) => lnL_small f k (fun j hj => (HLF.out j (by omega)).2))
  obtain ⟨M, hM⟩ : ∃ M, M = ks.length := ⟨_, rfl⟩
  have HMM := Lib.hid hM
  rw [← hM] at HSD HLF HSM hM2 HQ
  clear hB hkl hks hcw hf hlb
  clear ht hq2 hzs hp hdz hM hz200
  have x0 := cell_of_blk D0.out 0; have x1 := cell_of_blk D0.out 1; have hz_x := (Array.getElem?_eq_some_iff.1 D0.out).1; simp at x0 x1
  have y0 := cell_of_blk D1.out 0; have hz_y := (Array.getElem?_eq_some_iff.1 D1.out).1; simp at y0
  go_wp2_with fail
  refine (HPL.out _ HB1.out).mono ?_; rintro e w2 ⟨Ap, kp, cp, rfl, hkp, hown, hb2⟩
  have HB2 := Lib.hid (below_more HB1.out hb2)
  have D0 := Lib.hid (blk_keep hb2 D0.out)
  have D2 := Lib.hid (blk_keep hb2 D2.out)
  have hkz := hkp.out
  subst hkz
  have HO := Lib.hid hown.out
  clear hkp hown hb2 HPL x0 x1 hz_x y0 hz_y D1
  go_upto_region 5 with fail
  obtain ⟨V3, hV3⟩ : ∃ V3, V3 = w2.alloc (.cells #[.slice Ap zs.length cp] 27) := ⟨_, rfl⟩
  have k3 : Below w2.heap.size w2 V3 := hV3 ▸ below_alloc _ _
  have DT := Lib.hid (show V3.heap[w2.heap.size]? = some (.cells #[.slice Ap zs.length cp] 27 (0, 0)) from hV3 ▸ heap_alloc_new _ _)
  have HB3 := Lib.hid (below_more HB2.out k3)
  have D0 := Lib.hid (blk_keep k3 D0.out)
  have D2 := Lib.hid (blk_keep k3 D2.out)
  have HZ := Lib.hid ((own_nodes HO.out).below k3)
  obtain ⟨hz1, hz2, -⟩ := own_len HO.out
  have HZ2 := Lib.hid hz2
  unfold maxLen at hz2
  rw [← hV3]
  clear hV3 k3 HO
  have x0 := cell_of_blk D0.out 0; have x1 := cell_of_blk D0.out 1; have hz_x := (Array.getElem?_eq_some_iff.1 D0.out).1; simp at x0 x1
  have p0 := cell_of_blk D2.out 0; have p1 := cell_of_blk D2.out 1; have hz_p := (Array.getElem?_eq_some_iff.1 D2.out).1; simp at p0 p1
  have t0 := cell_of_blk DT.out 0; have hz_t := (Array.getElem?_eq_some_iff.1 DT.out).1; simp at t0
  go_wp2_with fail
  refine (HSD.out V3 HB3.out Ap cp HZ.out hz1 HZ2.out).mono ?_; rintro e v1 ⟨Ab, cb, rfl, hown, hb4⟩
  have HB1 := Lib.hid (below_more HB3.out hb4)
  obtain ⟨hMc, hcm, -⟩ := own_len hown
  unfold maxLen at hcm
  have HCE := Lib.hid (fun (k : Nat) (hk : k < M) => (show ∃ b, Ab = some ⟨b, 0, none⟩ ∧ b < v1.heap.size ∧ v1.cell? ⟨b, k * 2, none⟩ = some (.int .i64 (blA cw len ks k).ln) from by
    obtain ⟨b, h1, -, h2, -, -, h3, -⟩ := own_open hown (by omega)
    exact ⟨b, h1, h2, h3 _ _ (stC_at _ _ _ k M hk)⟩))
  clear hown hb4 HSD x0 x1 hz_x p0 p1 hz_p t0 hz_t D0 D2 DT HZ
  go_wp2_with fail
  go_loopw [12, 13] (fun v i wr => ∃ (k n : Nat) (A' : Option Addr) (c' : Nat) (vs : List Value), k ≤ M ∧ i = .int .i64 k ∧ v = .slice A' n c' ∧ Hid (n = (lnL f k).length) ∧ Hid (LnOwn wr v1.heap.size (.slice A' n c') (lnL f k) vs) ∧ Hid (Below v1.heap.size v1 wr)) (fun _ i _ => M - (intOf i).toNat)
  case atStart => exact ⟨0, 0, none, 0, [], Nat.zero_le _, rfl, rfl, Lib.hid rfl, Lib.hid (LnOwn.nil _ _), Lib.hid (Below.refl _ _)⟩
  case round =>
    obtain ⟨k, n, A', c', vs, hk, rfl, rfl, hn, hln, hbw⟩ := hrel
    have HNN := Lib.hid hn.out
    have HLO := Lib.hid hln.out
    have HBR := Lib.hid hbw.out
    clear hn hln hbw
    by_cases hlt : k < M
    · have hlf := HLF.out k hlt
      have hsm := HSM.out k (by omega)
      obtain ⟨b, rfl, hbV, hcell⟩ := HCE.out k hlt
      have hls : lnL f (k + 1) = lnS (lnL f k) (f k) k := rfl
      obtain ⟨bln, hbl⟩ : ∃ x, x = (blA cw len ks k).ln := ⟨_, rfl⟩
      rw [← hbl] at hlf hcell
      obtain ⟨l, hl⟩ : ∃ l, l = f k := ⟨_, rfl⟩
      obtain ⟨ls, hlL⟩ : ∃ ls, ls = lnL f k := ⟨_, rfl⟩
      rw [← hl, ← hlL] at hls hlf
      rw [← hlL] at HNN HLO hsm
      obtain ⟨hb1', hb2'⟩ := hlf
      clear hbl
      subst hb1'
      have hnl := HNN.out
      rw [← hnl] at hb2' hsm
      have HLS := Lib.hid hls
      have HSQ := Lib.hid hsm.2
      have hnk := hsm.1
      have hki : (0 : Int) ≤ (k : Int) := by omega
      have hkl : (k : Int) < (M : Int) := by omega
      have z0 := (HBR.out.cell (p := ⟨b, k * 2, none⟩) hbV).trans hcell
      have HZ0 := Lib.hid hcell
      have hgr : b < wr.heap.size := by have := HBR.out.size; omega
      obtain ⟨Y, rfl⟩ : ∃ Y, Y = wr := ⟨_, rfl⟩
      have HLY := Lib.hid HLO.out
      have HBY := Lib.hid HBR.out
      clear hcell hl hlL hls hsm hnl HBR HLO
      go_upto_if 44 with fail
      go_cut [12] (fun v wx => ∃ (nn : Nat) (A2 : Option Addr) (c2 : Nat) (ls2 : List (List Nat)) (vs2 : List Value), v = .slice A2 nn c2 ∧ nn ≤ k + 1 ∧ l < nn ∧ Hid (ls2.length = nn) ∧ Hid (lnL f (k + 1) = ls2.set l (ls2.getD l [] ++ [k])) ∧ Hid (∀ q ∈ ls2, q.length ≤ k) ∧ Hid (LnOwn wx v1.heap.size (.slice A2 nn c2) ls2 vs2) ∧ Hid (Below v1.heap.size v1 wx))
      case first =>
        by_cases hln : l = n
        · subst hln
          have HSA := Lib.hid (show ∀ (o : Obj), v1.heap.size ≤ (Y.alloc o).heap.size from fun o => by rw [World.size_alloc]; have := HBY.out.size; omega)
          have HNR := Lib.hid (new_row Y [.slice none 0 0] 49)
          have HN1 := Lib.hid (show ∀ u ∈ ([.slice none 0 0] : List Value), u.oneCell' = true from fun u hu => by simp at hu; subst hu; rfl)
          have HOY := Lib.hid (show Y.ownsRow v1.heap.size 49 1 (.slice A' l c') l vs by have := HLY.out.own; rw [← HNN.out] at this; exact this)
          go_wp2_with (first
            | (at_builtin; refine wpList_append_src _ rfl (.tmp 45) (.tmp 46) 45 rfl v1.heap.size 49 iu (.slice none 0 0) 1 24 Tryz.underlying45 hiu.out hzu.out hsu.out hbu.out rfl (by decide) (.slice A' l c') l vs rfl (HOY.out.alloc _) (some ⟨Y.heap.size, 0, none⟩) 1 1 [.slice none 0 0] rfl rfl (fun h => by cases h) HNR.out HN1.out (by unfold maxLen; omega) (by omega) (HSA.out _) (l + 1) rfl ?_))
          intro A9 c9 w9 own9 hg9 hn9
          have HMO := Lib.hid (HLY.out.more (below_alloc Y _) hg9 (hn9.imp id (fun h => h.trans (by rw [World.size_alloc]))) (by rw [← HNN.out]; exact own9))
          have HB9 := Lib.hid ((HBY.out.alloc HBY.out.size _).grown hg9 (HSA.out _) (fun g hg => (HOY.out.lt g hg).1))
          clear own9 hg9 hn9 HNR HN1 HSA HOY
          go_wp2_with fail
          go_meet
          exact ⟨l + 1, A9, c9, ls ++ [[]], _, rfl, by omega, by omega, Lib.hid (by rw [List.length_append, ← HNN.out]; rfl), Lib.hid (by rw [HLS.out]; unfold lnS; simp only [if_pos HNN.out]), Lib.hid (fun q hq => by
            rcases List.mem_append.1 hq with hm | hm
            · exact HSQ.out q hm
            · rw [List.mem_singleton] at hm; subst hm; exact Nat.zero_le _), HMO, HB9⟩
        · have e1 : ((l : Int) == (n : Int)) = false := by simp; omega
          have e2 : (l == n) = false := by simp; omega
          have e3 : decide (l = n) = false := decide_eq_false hln
          have e4 : ¬(l : Int) = (n : Int) := by omega
          have HNE := Lib.hid (show ¬l = ls.length by rw [← HNN.out]; exact hln)
          go_wp2_with fail
          go_meet
          exact ⟨n, A', c', ls, vs, rfl, by omega, by omega, Lib.hid HNN.out.symm, Lib.hid (by rw [HLS.out]; unfold lnS; simp only [if_neg HNE.out]), HSQ, HLY, HBY⟩
      case rest =>
        obtain ⟨nn, A2, c2, ls2, vs2, rfl, hnn, hl2, hlen2, hstep, hsq2, hlo2, hb2⟩ := hcut
        obtain ⟨Z, rfl⟩ : ∃ Z, Z = wc := ⟨_, rfl⟩
        have HL2 := Lib.hid hlen2.out
        have HLO2 := Lib.hid hlo2.out
        have HB2 := Lib.hid hb2.out
        have HSQ2 := Lib.hid hsq2.out
        have HSTP := Lib.hid hstep.out
        clear hlen2 hstep hsq2 hlo2 hb2 HLY HBY HSQ HLS z0 hgr
        have ho2 := HLO2.out.own
        rw [HL2.out] at ho2
        obtain ⟨G, rfl, -, hGZ, hnc2, hcm2, hcell2, hfr2⟩ := own_open ho2 (by omega)
        unfold maxLen at hcm2
        obtain ⟨x, hx⟩ : ∃ x, vs2[l]? = some x := ⟨_, List.getElem?_eq_getElem (by have := HLO2.out.len; have := HL2.out; omega)⟩
        obtain ⟨q, hq⟩ : ∃ q, ls2[l]? = some q := ⟨_, List.getElem?_eq_getElem (by have := HL2.out; omega)⟩
        have hgd : ls2.getD l [] = q := by rw [List.getD_eq_getElem?_getD, hq]; rfl
        have HST := Lib.hid (show lnL f (k + 1) = ls2.set l (q ++ [k]) by rw [HSTP.out, hgd])
        have hql : q.length ≤ k := HSQ2.out q (List.mem_of_getElem? hq)
        have zG : Z.cell? ⟨G, l, none⟩ = some x := hcell2 l x hx
        have HXI := Lib.hid (HLO2.out.inn l q x hq hx)
        have HAF := Lib.hid (fun (w1 w' : World) (hb : Below Z.heap.size Z w1) (hg : w1.grownBy w' x.ownBlock) => HLO2.out.after hx hb hg)
        have HPT := Lib.hid (fun (w1 w' : World) (x' : Value) (hb : Below Z.heap.size Z w1) (hg : w1.grownBy w' x.ownBlock) (hn : x'.ownBlock = x.ownBlock ∨ x'.ownBlock = some w1.heap.size) (own : w'.ownsRow v1.heap.size 3 1 x' (q.length + 1) (intsV q ++ [.int .i64 (k : Nat)])) => HLO2.out.put (i := k) hq hx (show (Value.slice (some ⟨G, 0, none⟩) nn c2).ownBlock = some G from rfl) hb hg hn own)
        have hl0 : (0 : Int) ≤ (l : Int) := by omega
        have hl1 : (l : Int) < (nn : Int) := by omega
        clear ho2 hcell2 hfr2 hx hq hgd HSTP HSQ2
        go_upto_region 12 with fail
        have HZA := Lib.hid (show Below Z.heap.size Z ((Z.alloc (.cells #[.int .i64 (k : Nat)] 3)).drew) from (below_alloc _ _).drew)
        have HZB := Lib.hid (show v1.heap.size ≤ ((Z.alloc (.cells #[.int .i64 (k : Nat)] 3)).drew).heap.size from Nat.le_trans HB2.out.size HZA.out.size)
        have HZC := Lib.hid (HB2.out.trans (HZA.out.mono HB2.out.size))
        have HXA := Lib.hid (show ((Z.alloc (.cells #[.int .i64 (k : Nat)] 3)).drew).ownsRow v1.heap.size 3 1 x q.length (intsV q) from ownsRow_of_block HXI.out (fun g hg => HZA.out.block g (HXI.out.lt g hg).2))
        have HNR := Lib.hid (show ∀ ad, some (⟨Z.heap.size, 0, none⟩ : Addr) = some ad → ∀ (j : Nat) (u : Value), [Value.int .i64 (k : Nat)][j]? = some u → ((Z.alloc (.cells #[.int .i64 (k : Nat)] 3)).drew).cell? (ad.add j) = some u from fun ad e j u h => new_row Z [.int .i64 (k : Nat)] 3 ad e j u h)
        have HN1 := Lib.hid (show ∀ u ∈ ([.int .i64 (k : Nat)] : List Value), u.oneCell' = true from fun u hu => by simp at hu; subst hu; rfl)
        have hbZ : b < Z.heap.size := by have := HB2.out.size; omega
        have zb : Z.cell? ⟨b, k * 2, none⟩ = some (.int .i64 (l : Int)) := (HB2.out.cell (p := ⟨b, k * 2, none⟩) hbV).trans HZ0.out
        have zA7 := HZA.out.cell (p := ⟨b, k * 2, none⟩) hbZ
        have zAG := HZA.out.cell (p := ⟨G, l, none⟩) hGZ
        rw [zb] at zA7
        rw [zG] at zAG
        refine wp_region_tillZ (fun wx => wx.cell? ⟨b, k * 2, none⟩ = some (.int .i64 (l : Int)) ∧ wx.cell? ⟨G, l, none⟩ = some x) 18 (by kernel_rfl) ?_
        have HS : Z.drew.cell? ⟨b, k * 2, none⟩ = some (.int .i64 (l : Int)) ∧ Z.drew.cell? ⟨G, l, none⟩ = some x := ⟨zb, zG⟩
        refine tillZ_take (i := 0) (v := ?_) rfl (by kernel_rfl) (by kernel_rfl) (by kernel_rfl) (by kernel_rfl) (fun _ _ _ h => h) (Or.inl ⟨by rfl, ?_⟩) HS ?_
        case refine_2 => (intro wx hSw; obtain ⟨s1, s2⟩ := hSw; go_simp; try with_reducible rfl)
        refine tillZ_take (i := 1) (v := ?_) rfl (by kernel_rfl) (by kernel_rfl) (by kernel_rfl) (by kernel_rfl) (fun _ _ _ h => h) (Or.inl ⟨by rfl, ?_⟩) HS ?_
        case refine_2 => (intro wx hSw; obtain ⟨s1, s2⟩ := hSw; go_simp; try with_reducible rfl)
        refine tillZ_take (i := 2) (v := ?_) rfl (by kernel_rfl) (by kernel_rfl) (by kernel_rfl) (by kernel_rfl) (fun _ _ _ h => h) (Or.inl ⟨by rfl, ?_⟩) HS ?_
        case refine_2 => (intro wx hSw; obtain ⟨s1, s2⟩ := hSw; go_simp; try with_reducible rfl)
        refine tillZ_take (i := 3) (v := ?_) rfl (by kernel_rfl) (by kernel_rfl) (by kernel_rfl) (by kernel_rfl) (fun _ _ _ h => h) (Or.inl ⟨by rfl, ?_⟩) HS ?_
        case refine_2 => (intro wx hSw; obtain ⟨s1, s2⟩ := hSw; go_simp; try with_reducible rfl)
        refine tillZ_take (i := 4) (v := ?_) rfl (by kernel_rfl) (by kernel_rfl) (by kernel_rfl) (by kernel_rfl) (fun _ _ _ h => h) (Or.inl ⟨by rfl, ?_⟩) HS ?_
        case refine_2 => (intro wx hSw; obtain ⟨s1, s2⟩ := hSw; go_simp; try with_reducible rfl)
        refine tillZ_take (i := 5) (v := ?_) rfl (by kernel_rfl) (by kernel_rfl) (by kernel_rfl) (by kernel_rfl) (fun _ _ _ h => h) (Or.inl ⟨by rfl, ?_⟩) HS ?_
        case refine_2 => (intro wx hSw; obtain ⟨s1, s2⟩ := hSw; go_simp; try with_reducible rfl)
        refine tillZ_take (i := 6) (v := ?_) rfl (by kernel_rfl) (by kernel_rfl) (by kernel_rfl) (by kernel_rfl) (fun _ _ _ h => h) (Or.inl ⟨by rfl, ?_⟩) HS ?_
        case refine_2 => (intro wx hSw; obtain ⟨s1, s2⟩ := hSw; go_simp; try with_reducible rfl)
        refine tillZ_take (i := 7) (v := ?_) rfl (by kernel_rfl) (by kernel_rfl) (by kernel_rfl) (by kernel_rfl) (fun _ _ _ h => h) (Or.inl ⟨by rfl, ?_⟩) HS ?_
        case refine_2 => (intro wx hSw; obtain ⟨s1, s2⟩ := hSw; go_simp; try with_reducible rfl)
        refine tillZ_take (i := 8) (v := ?_) rfl (by kernel_rfl) (by kernel_rfl) (by kernel_rfl) (by kernel_rfl) (fun _ _ _ h => h) (Or.inl ⟨by rfl, ?_⟩) HS ?_
        case refine_2 => (intro wx hSw; obtain ⟨s1, s2⟩ := hSw; go_simp; try with_reducible rfl)
        refine tillZ_take (i := 9) (v := ?_) rfl (by kernel_rfl) (by kernel_rfl) (by kernel_rfl) (by kernel_rfl) (fun _ _ _ h => h) (Or.inl ⟨by rfl, ?_⟩) HS ?_
        case refine_2 => (intro wx hSw; obtain ⟨s1, s2⟩ := hSw; go_simp; try with_reducible rfl)
        refine tillZ_take (i := 10) (v := ?_) rfl (by kernel_rfl) (by kernel_rfl) (by kernel_rfl) (by kernel_rfl) (fun _ _ _ h => h) (Or.inl ⟨by rfl, ?_⟩) HS ?_
        case refine_2 => (intro wx hSw; obtain ⟨s1, s2⟩ := hSw; go_simp; try with_reducible rfl)
        refine tillZ_take (i := 11) (v := ?_) rfl (by kernel_rfl) (by kernel_rfl) (by kernel_rfl) (by kernel_rfl) (fun _ _ _ h => h) (Or.inl ⟨by rfl, ?_⟩) HS ?_
        case refine_2 => (intro wx hSw; obtain ⟨s1, s2⟩ := hSw; go_simp; try with_reducible rfl)
        refine tillZ_take (i := 12) (v := ?_) rfl (by kernel_rfl) (by kernel_rfl) (by kernel_rfl) (by kernel_rfl) (fun _ _ _ h => h) (Or.inl ⟨by rfl, ?_⟩) HS ?_
        case refine_2 => (intro wx hSw; obtain ⟨s1, s2⟩ := hSw; go_simp; try with_reducible rfl)
        refine tillZ_take (i := 13) (v := ?_) rfl (by kernel_rfl) (by kernel_rfl) (by kernel_rfl) (by kernel_rfl) (fun _ _ _ h => h) (Or.inl ⟨by rfl, ?_⟩) HS ?_
        case refine_2 => (intro wx hSw; obtain ⟨s1, s2⟩ := hSw; go_simp; try with_reducible rfl)
        refine tillZ_take (i := 14) (v := ?_) rfl (by kernel_rfl) (by kernel_rfl) (by kernel_rfl) (by kernel_rfl) (fun _ _ _ h => h) (Or.inl ⟨by rfl, ?_⟩) HS ?_
        case refine_2 => (intro wx hSw; obtain ⟨s1, s2⟩ := hSw; go_simp; try with_reducible rfl)
        refine tillZ_step (i := 15) (by kernel_rfl) rfl (fun K hK => ?_)
        go_simp
        refine hK.out _ _ (.inr ⟨zA7, zAG⟩) ?_
        clear hK K HS
        refine tillZ_step (i := 16) (by kernel_rfl) rfl (fun K hK => ?_)
        refine step_append_src2 _ rfl (.tmp 61) (.tmp 63) 49 rfl v1.heap.size 3 iv (.int .i64 0) 1 8 Tryz.underlying49 hiv.out hzv.out hsv.out hbv.out rfl (by decide) x q.length (intsV q) rfl HXA.out (some ⟨Z.heap.size, 0, none⟩) 1 1 [.int .i64 (k : Nat)] rfl rfl (fun h => by cases h) HNR.out HN1.out (by unfold maxLen; omega) (by omega) HZB.out (q.length + 1) rfl ?_
        intro A9 c9 w9 own9 hg9 hn9
        obtain ⟨a1, a2, a3, -⟩ := HAF.out _ w9 HZA.out hg9
        have HP9 := Lib.hid (HPT.out _ w9 _ HZA.out hg9 hn9 own9)
        have HB9 := Lib.hid (HZC.out.grown hg9 HZB.out (fun g hg => (HXI.out.lt g hg).1))
        have k7 := (HB9.out.cell (p := ⟨b, k * 2, none⟩) hbV).trans HZ0.out
        clear own9 hg9 hn9
        have HS : w9.cell? ⟨b, k * 2, none⟩ = some (.int .i64 (l : Int)) ∧ w9.cell? ⟨G, l, none⟩ = some x := ⟨k7, a1⟩
        refine hK.out _ _ (.inr HS) ?_
        clear hK K
        refine tillZ_take (i := 17) (v := ?_) rfl (by kernel_rfl) (by kernel_rfl) (by kernel_rfl) (by kernel_rfl) (fun _ _ _ h => h) (Or.inl ⟨by rfl, ?_⟩) HS ?_
        case refine_2 => (intro wx hSw; obtain ⟨s1, s2⟩ := hSw; go_simp; try with_reducible rfl)
        refine tillZ_step (i := 18) (by kernel_rfl) rfl (fun K hK => ?_)
        go_simp
        refine hK.out _ _ (.inl rfl) ?_
        clear hK K
        refine tillZ_done (by kernel_rfl) ?_ _
        have HL3 := Lib.hid (show LnOwn _ v1.heap.size _ (lnL f (k + 1)) _ by rw [HST.out]; exact HP9.out)
        have HB3 := Lib.hid (HB9.out.setCell (show v1.heap.size ≤ (⟨G, l, none⟩ : Addr).block from (HLO2.out.own.lt G rfl).1) (.slice A9 (q.length + 1) c9))
        have HN3 := Lib.hid (show nn = (lnL f (k + 1)).length by rw [HST.out, List.length_set]; exact HL2.out.symm)
        go_wp2_with fail
        go_roundw
        case rel => exact ⟨k + 1, nn, _, c2, _, by omega, by go_num, rfl, HN3, HL3, HB3⟩
        case measure => simp [intOf]; omega
    · obtain rfl : k = M := by omega
      have HBF := Lib.hid (below_more HB1.out HBR.out)
      have HOF := Lib.hid (HLO.out.base HB1.out.size)
      have hnn := HNN.out
      subst hnn
      go_wp2_with fail
      go_ret2
      rw [HQ.out]
      exact ⟨A', c', vs, rfl, HOF, HBF.out⟩

end Go.Proofs.YtcijomljopbelaaGreat
