/-
  The scale of a group (Scale), by the specification, with its errors.
-/
import Derived.Test.YtcijomljopbelaaGreatRscl
import Derived.Test.YtcijomljopbelaaGreatRnat
namespace Go.Proofs.YtcijomljopbelaaGreat
open Go.RowKit

theorem rscale_any (L : Lm) (way len : Int) (A : Option Addr) (cap : Nat) (zs : List Nd) (i : Nat) (u : Nd) (w : World) (hl : LmOk w L) (hn : NdsAt w A zs) (hp : Pln L.li zs) (hc1 : zs.length ≤ cap) (hc : cap ≤ maxLen) (hu : zs[i]? = some u) :
    Calls Tryz.prog 61 #[.agg #[.int .i64 L.per, .slice L.A L.ms.length L.cap], .agg #[.slice A zs.length cap], .agg #[.int .i64 way, .int .i64 len], .int .i64 i] w (GotF2 (sclR (cwN way) (shpI L.li (cwN way) zs 5 i)) w) := by
  cases hR : decide (way ≤ 2) <;> cases hG : (u.kind == 5)
  · exact rscaleCN_any L way len A cap zs i u w hl hn hp hc1 hc hu hR hG
  · exact rscaleCG_any L way len A cap zs i u w hl hn hp hc1 hc hu hR hG
  · exact rscaleRN_any L way len A cap zs i u w hl hn hp hc1 hc hu hR hG
  · exact rscaleRG_any L way len A cap zs i u w hl hn hp hc1 hc hu hR hG

set_option maxRecDepth 100000 in
set_option maxHeartbeats 16000000 in
theorem rscl_any (L : Lm) (A : Option Addr) (cap : Nat) (ns : List Nd) (way len grp : Int) (w : World) (hl : LmOk w L) (hn : NdsAt w A ns) (hc1 : ns.length ≤ cap) (hc : cap ≤ maxLen) :
    Calls Tryz.prog 20 #[.agg #[.int .i64 L.per, .slice L.A L.ms.length L.cap], .agg #[.slice A ns.length cap], .agg #[.int .i64 way, .int .i64 len], .int .i64 grp] w (GotFE (sclQ L.li way len ns grp) w) := by
  obtain ⟨E, hE⟩ : ∃ E, bothE L.li ns way len = E := ⟨_, rfl⟩
  have HBO := Lib.hid (fun wx (hb : Below w.heap.size w wx) => rboth_is L A cap ns way len wx (hl.below hb) (hn.below hb) hc1 hc E hE)
  obtain ⟨Q, hQ⟩ : ∃ Q, Q = sclQ L.li way len ns grp := ⟨_, rfl⟩
  have HQ := Lib.hid (show Q = if E ≠ 0 then (⟨0, 0⟩, E) else if outB (topsL (regQ plainP L.li ns).1).length grp then (⟨0, 0⟩, 1)
      else (sclR (cwN way) (shpI L.li (cwN way) (regQ plainP L.li ns).1 5 ((topsL (regQ plainP L.li ns).1).getD grp.toNat 0)), 0) by rw [hQ]; unfold sclQ; rw [hE])
  rw [← hQ]
  have HEE := Lib.hid hE
  have HL := Lib.hid hl
  have HPL := Lib.hid (fun wx (hb : Below w.heap.size w wx) => rplain_any2 L A cap ns wx (hl.below hb) (hn.below hb) hc1 hc)
  obtain ⟨N, hN⟩ : ∃ N, N = ns.length := ⟨_, rfl⟩
  rw [← hN] at HBO HPL hc1 ⊢
  unfold maxLen at hc
  clear hl hn hE hQ hN
  obtain ⟨W1, hW1⟩ : ∃ W', W' = w.alloc (.cells #[.int .i64 L.per, .slice L.A L.ms.length L.cap] 24) := ⟨_, rfl⟩; obtain ⟨W2, hW2⟩ : ∃ W', W' = W1.alloc (.cells #[.slice A N cap] 27) := ⟨_, rfl⟩; obtain ⟨W3, hW3⟩ : ∃ W', W' = W2.alloc (.cells #[.int .i64 way, .int .i64 len] 31) := ⟨_, rfl⟩; obtain ⟨W, hW⟩ : ∃ W', W' = W3.alloc (.cells #[.int .i64 0, .int .i64 0] 40) := ⟨_, rfl⟩; have szW1 : W1.heap.size = w.heap.size + 1 := (by rw [hW1]; simp); have kbW1 : Below w.heap.size w W1 := hW1 ▸ below_alloc _ _; have szW2 : W2.heap.size = w.heap.size + 1 + 1 := (by rw [hW2]; simp [szW1]); have kbW2 : Below W1.heap.size W1 W2 := hW2 ▸ below_alloc _ _; have szW3 : W3.heap.size = w.heap.size + 1 + 1 + 1 := (by rw [hW3]; simp [szW2]); have kbW3 : Below W2.heap.size W2 W3 := hW3 ▸ below_alloc _ _; have szW : W.heap.size = w.heap.size + 1 + 1 + 1 + 1 := (by rw [hW]; simp [szW3]); have kbW : Below W3.heap.size W3 W := hW ▸ below_alloc _ _; have HB := Lib.hid (below_more (below_more (below_more kbW1 kbW2) kbW3) kbW); have D0 := Lib.hid (blk_keep kbW (blk_keep kbW3 (blk_keep kbW2 (show W1.heap[w.heap.size]? = some (.cells #[.int .i64 L.per, .slice L.A L.ms.length L.cap] 24 (0, 0)) by rw [hW1]; exact heap_alloc_new _ _)))); have D1 := Lib.hid (blk_keep kbW (blk_keep kbW3 (show W2.heap[w.heap.size + 1]? = some (.cells #[.slice A N cap] 27 (0, 0)) by rw [hW2, ← szW1]; exact heap_alloc_new _ _))); have D2 := Lib.hid (blk_keep kbW (show W3.heap[w.heap.size + 1 + 1]? = some (.cells #[.int .i64 way, .int .i64 len] 31 (0, 0)) by rw [hW3, ← szW2]; exact heap_alloc_new _ _)); have D3 := Lib.hid (show W.heap[w.heap.size + 1 + 1 + 1]? = some (.cells #[.int .i64 0, .int .i64 0] 40 (0, 0)) by rw [hW, ← szW3]; exact heap_alloc_new _ _); have SZW := Lib.hid szW; clear szW1 kbW1 szW2 kbW2 szW3 kbW3 szW kbW
  have x0 := cell_of_blk D0.out 0; have x1 := cell_of_blk D0.out 1; have hz_x := (Array.getElem?_eq_some_iff.1 D0.out).1; simp at x0 x1
  have y0 := cell_of_blk D1.out 0; have hz_y := (Array.getElem?_eq_some_iff.1 D1.out).1; simp at y0
  have p0 := cell_of_blk D2.out 0; have p1 := cell_of_blk D2.out 1; have hz_p := (Array.getElem?_eq_some_iff.1 D2.out).1; simp at p0 p1
  go_enter Tryz.func20, Tryz.ntmps20
  go_wp2_with fail
  rw [← hW1, ← hW2, ← hW3, ← hW]; clear hW1 hW2 hW3 hW
  go_wp2_with fail
  refine (HBO.out _ HB.out).mono ?_; rintro e w1 ⟨rfl, hb1⟩
  have HB1 := Lib.hid (below_more HB.out hb1)
  have D0 := Lib.hid (blk_keep hb1 D0.out)
  have D1 := Lib.hid (blk_keep hb1 D1.out)
  have D2 := Lib.hid (blk_keep hb1 D2.out)
  have D3 := Lib.hid (blk_keep hb1 D3.out)
  clear hb1 HBO x0 x1 hz_x y0 hz_y p0 p1 hz_p
  have hq := HB1.out.size
  by_cases h0 : E = 0
  case neg =>
    have hb : (E != 0) = true := by simpa using h0
    have HF := Lib.hid (show Q = (⟨0, 0⟩, E) by rw [HQ.out, if_pos h0])
    clear HQ h0
    have q0 := cell_of_blk D3.out 0; have qf0 := free_of_blk D3.out 0; have q1 := cell_of_blk D3.out 1; have qf1 := free_of_blk D3.out 1; have hz_q := (Array.getElem?_eq_some_iff.1 D3.out).1; simp at q0 q1
    go_wp2_with fail
    refine bodyPost_ret (v := .tuple #[.agg #[.int .i64 0, .int .i64 0], .int .i64 E]) (by simp [results, Tryz.results20, go_sem, q0, q1, hz_q]) rfl (gotFE HF.out ?_)
    have hbf := HB1.out
    repeat (first | with_reducible exact hbf | with_reducible refine Below.drew ?_ | with_reducible refine Below.setCell ?_ (by dsimp only; omega) _)
  subst h0
  have ht := both_ok HEE.out
  have hq2 : regQ plainP L.li ns = ((regQ plainP L.li ns).1, 0) := by rw [plainT_is ht.1]
  obtain ⟨zs, hzs⟩ : ∃ zs, zs = (regQ plainP L.li ns).1 := ⟨_, rfl⟩
  rw [← hzs] at hq2 HQ
  rw [hq2] at HPL
  dsimp only at HPL
  have hp := plain_pln ht.1 hq2
  have hz200 := (text_ok hp.ok).2.1
  have hdz : ∀ x ∈ zs, 0 ≤ x.depth := fun x hx => (hp.full.depth x hx).1
  have HQ := Lib.hid (show Q = if outB (topsL zs).length grp then (⟨0, 0⟩, 1) else (sclR (cwN way) (shpI L.li (cwN way) zs 5 ((topsL zs).getD grp.toNat 0)), 0) by rw [HQ.out]; simp)
  have HKD := Lib.hid (fun wx (Ap : Option Addr) (cp : Nat) (hz : NdsAt wx Ap zs) (h1 : zs.length ≤ cp) (h2 : cp ≤ maxLen) => show Calls Tryz.prog 60 #[.agg #[.slice Ap zs.length cp], .int .i64 (-1)] wx (GotRow wx 3 1 (topsL zs).length (intsV (topsL zs))) by
    have := rkids_any Ap cp zs (-1) 0 0 wx hz h1 h2 (by omega) (.inr ⟨rfl, rfl, rfl⟩)
    rw [tops_kids hdz] at this; exact this)
  have HSC := Lib.hid (fun wx (hb : Below w.heap.size w wx) (Ap : Option Addr) (cp : Nat) (hz : NdsAt wx Ap zs) (h1 : zs.length ≤ cp) (h2 : cp ≤ maxLen) (i : Nat) (u : Nd) (hu : zs[i]? = some u) => rscale_any L way len Ap cp zs i u wx (HL.out.below hb) hz hp h1 h2 hu)
  have HTA := Lib.hid (fun (j : Nat) (hj : j ∈ topsL zs) => tops_at hj)
  obtain ⟨M, hM⟩ : ∃ M, M = (topsL zs).length := ⟨_, rfl⟩
  have HMM := Lib.hid hM
  rw [← hM] at HQ HKD
  clear ht hq2 hzs hp hdz hM hz200
  have x0 := cell_of_blk D0.out 0; have x1 := cell_of_blk D0.out 1; have hz_x := (Array.getElem?_eq_some_iff.1 D0.out).1; simp at x0 x1
  have y0 := cell_of_blk D1.out 0; have hz_y := (Array.getElem?_eq_some_iff.1 D1.out).1; simp at y0
  go_wp2_with fail
  refine (HPL.out _ HB1.out).mono ?_; rintro e w2 ⟨Ap, kp, cp, rfl, hkp, hown, hb2⟩
  have HB2 := Lib.hid (below_more HB1.out hb2)
  have D0 := Lib.hid (blk_keep hb2 D0.out)
  have D2 := Lib.hid (blk_keep hb2 D2.out)
  have D3 := Lib.hid (blk_keep hb2 D3.out)
  have hkz := hkp.out
  subst hkz
  have HO := Lib.hid hown.out
  clear hkp hown hb2 HPL x0 x1 hz_x y0 hz_y D1
  go_wp2_with fail
  obtain ⟨V3, hV3⟩ : ∃ V3, V3 = w2.alloc (.cells #[.slice Ap zs.length cp] 27) := ⟨_, rfl⟩
  have k3 : Below w2.heap.size w2 V3 := hV3 ▸ below_alloc _ _
  have DT := Lib.hid (show V3.heap[w2.heap.size]? = some (.cells #[.slice Ap zs.length cp] 27 (0, 0)) from hV3 ▸ heap_alloc_new _ _)
  have HB3 := Lib.hid (below_more HB2.out k3)
  have D0 := Lib.hid (blk_keep k3 D0.out)
  have D2 := Lib.hid (blk_keep k3 D2.out)
  have D3 := Lib.hid (blk_keep k3 D3.out)
  have HZ := Lib.hid ((own_nodes HO.out).below k3)
  obtain ⟨hz1, hz2, -⟩ := own_len HO.out
  have HZ2 := Lib.hid hz2
  unfold maxLen at hz2
  rw [← hV3]
  clear hV3 k3 HO
  refine (HKD.out V3 Ap cp HZ.out hz1 HZ2.out).mono ?_; rintro e w4 ⟨A4, c4, rfl, hown4, hb4⟩
  have HB4 := Lib.hid (below_more HB3.out hb4)
  have D0 := Lib.hid (blk_keep hb4 D0.out)
  have D2 := Lib.hid (blk_keep hb4 D2.out)
  have D3 := Lib.hid (blk_keep hb4 D3.out)
  have DT := Lib.hid (blk_keep hb4 DT.out)
  have HZ := Lib.hid (HZ.out.below hb4)
  have HO4 := Lib.hid hown4
  clear hown4 hb4 HKD
  have hq4 := HB4.out.size
  by_cases hneg : grp < 0
  · have HF := Lib.hid (show Q = (⟨0, 0⟩, 1) by rw [HQ.out, if_pos (by unfold outB; simp [hneg])])
    clear HQ
    have q0 := cell_of_blk D3.out 0; have qf0 := free_of_blk D3.out 0; have q1 := cell_of_blk D3.out 1; have qf1 := free_of_blk D3.out 1; have hz_q := (Array.getElem?_eq_some_iff.1 D3.out).1; simp at q0 q1
    go_wp2_with fail
    refine bodyPost_ret (v := .tuple #[.agg #[.int .i64 0, .int .i64 0], .int .i64 1]) (by simp [results, Tryz.results20, go_sem, q0, q1, hz_q]) rfl (gotFE HF.out ?_)
    have hbf := HB4.out
    repeat (first | with_reducible exact hbf | with_reducible refine Below.drew ?_ | with_reducible refine Below.setCell ?_ (by dsimp only; omega) _)
  by_cases hbig : (M : Int) ≤ grp
  · have HF := Lib.hid (show Q = (⟨0, 0⟩, 1) by rw [HQ.out, if_pos (by unfold outB; simp [hbig])])
    have d1 : decide (grp < 0) = false := decide_eq_false hneg
    have d2 : decide ((M : Int) ≤ grp) = true := decide_eq_true hbig
    clear HQ
    have q0 := cell_of_blk D3.out 0; have qf0 := free_of_blk D3.out 0; have q1 := cell_of_blk D3.out 1; have qf1 := free_of_blk D3.out 1; have hz_q := (Array.getElem?_eq_some_iff.1 D3.out).1; simp at q0 q1
    go_wp2_with fail
    refine bodyPost_ret (v := .tuple #[.agg #[.int .i64 0, .int .i64 0], .int .i64 1]) (by simp [results, Tryz.results20, go_sem, q0, q1, hz_q]) rfl (gotFE HF.out ?_)
    have hbf := HB4.out
    repeat (first | with_reducible exact hbf | with_reducible refine Below.drew ?_ | with_reducible refine Below.setCell ?_ (by dsimp only; omega) _)
  obtain ⟨g, rfl⟩ : ∃ g : Nat, grp = (g : Int) := ⟨grp.toNat, by omega⟩
  have hgM : g < M := by omega
  obtain ⟨j, hj⟩ : ∃ j, (topsL zs)[g]? = some j := ⟨_, List.getElem?_eq_getElem (by have := HMM.out; omega)⟩
  obtain ⟨u, hu, -⟩ := HTA.out j (List.mem_of_getElem? hj)
  have HF := Lib.hid (show Q = (sclR (cwN way) (shpI L.li (cwN way) zs 5 j), 0) by
    rw [HQ.out, if_neg (by unfold outB; simp; omega), Int.toNat_natCast, List.getD_eq_getElem?_getD, hj]; rfl)
  have HSJ := Lib.hid (fun wx (hb : Below w4.heap.size w4 wx) => HSC.out wx (below_more HB4.out hb) Ap cp (HZ.out.below hb) hz1 HZ2.out j u hu)
  obtain ⟨⟨r1, r2⟩, hr⟩ : ∃ r, r = sclR (cwN way) (shpI L.li (cwN way) zs 5 j) := ⟨_, rfl⟩
  rw [← hr] at HF HSJ
  unfold GotF2 at HSJ
  dsimp only at HSJ
  obtain ⟨b, rfl, -, hbl, hMc, hcm, hcell, -⟩ := own_open HO4.out (by have := HMM.out; omega)
  have z : w4.cell? ⟨b, g, none⟩ = some (.int .i64 (j : Int)) := hcell g _ (by unfold intsV; rw [List.getElem?_map, hj]; rfl)
  obtain ⟨jz, hjz⟩ : ∃ jz : Int, jz = (j : Int) := ⟨_, rfl⟩
  rw [← hjz] at z HSJ
  unfold maxLen at hcm
  have d1 : decide ((g : Int) < 0) = false := decide_eq_false (by omega)
  have d2 : decide ((M : Int) ≤ (g : Int)) = false := decide_eq_false (by omega)
  have d3 : decide (M ≤ g) = false := decide_eq_false (by omega)
  have hg0 : (0 : Int) ≤ (g : Int) := by omega
  have hgI : (g : Int) < (M : Int) := by omega
  clear hneg hbig hj hu hr hcell HQ HO4 HSC HTA hjz
  have x0 := cell_of_blk D0.out 0; have x1 := cell_of_blk D0.out 1; have hz_x := (Array.getElem?_eq_some_iff.1 D0.out).1; simp at x0 x1
  have p0 := cell_of_blk D2.out 0; have p1 := cell_of_blk D2.out 1; have hz_p := (Array.getElem?_eq_some_iff.1 D2.out).1; simp at p0 p1
  have t0 := cell_of_blk DT.out 0; have hz_t := (Array.getElem?_eq_some_iff.1 DT.out).1; simp at t0
  go_upto_region 8 with fail
  refine wp_region_later_tail 8 (by kernel_rfl) (by kernel_rfl) ?_; simp only [List.take_succ_cons, List.take_zero, List.drop_succ_cons, List.drop_zero]; (repeat (first | go_big_quiet_step (((go_at_call 61; exact Calls.later _ (HSJ.out _ (Later.below _))))) | quiet_step (((go_at_call 61; exact Calls.later _ (HSJ.out _ (Later.below _))))))); refine wpQuiet_nil ?_; rintro _ ⟨s, rfl⟩
  have HB5 := Lib.hid (below_more HB4.out s.below)
  have D3 := Lib.hid (blk_keep s.below D3.out)
  obtain ⟨w5, hw5⟩ : ∃ w5, w5 = s.w := ⟨_, rfl⟩
  rw [← hw5] at HB5 D3 ⊢
  clear hw5 s x0 x1 hz_x p0 p1 hz_p t0 hz_t z
  have hq5 := HB5.out.size
  have q0 := cell_of_blk D3.out 0; have qf0 := free_of_blk D3.out 0; have q1 := cell_of_blk D3.out 1; have qf1 := free_of_blk D3.out 1; have hz_q := (Array.getElem?_eq_some_iff.1 D3.out).1; simp at q0 q1
  go_wp2_with fail
  refine bodyPost_ret (v := .tuple #[.agg #[.int .i64 r1, .int .i64 r2], .int .i64 0]) (by simp [results, Tryz.results20, go_sem, q0, q1, hz_q]) rfl (gotFE HF.out ?_)
  have hbf := HB5.out
  repeat (first | with_reducible exact hbf | with_reducible refine Below.drew ?_ | with_reducible refine Below.setCell ?_ (by dsimp only; omega) _)

end Go.Proofs.YtcijomljopbelaaGreat
