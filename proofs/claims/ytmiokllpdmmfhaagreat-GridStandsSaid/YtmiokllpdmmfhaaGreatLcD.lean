/-
  The pieces of a ring, by the program. And what builds on it.
-/
import Derived.Test.YtmiokllpdmmfhaaGreatShp9
import Derived.Test.YtmiokllpdmmfhaaGreatLaL
import Derived.Deep.RegionHeld
import Derived.IntWalk
import Derived.Test.YtmiokllpdmmfhaaGreatBox
import Derived.Deep.MidRow
namespace Go.Proofs.YtmiokllpdmmfhaaGreat
open Go.RowKit
set_option maxRecDepth 100000 in
set_option maxHeartbeats 16000000 in
theorem rngpcs_any (n : Nd) (s : Shp) (hB : szB (.rng n s)) (hO : SzOk (.rng n s)) (hP : PcOk s) (hS : szB s) : PcOk (.rng n s) := by
  intro w arg x y hx hy hc hv
  have HV0 := Lib.hid hv
  obtain ⟨u, e, h⟩ := hv
  injection e with _ e
  subst e
  obtain ⟨arg, rfl⟩ := h.iface
  have HP0 := Lib.hid hP
  obtain ⟨⟨p1, p2⟩, hp⟩ : ∃ p, p = s.size := ⟨_, rfl⟩
  have hse : (Shp.rng n s).size = (p1 + 24, p2 + 24) := by rw [Shp.size, ← hp]
  unfold szB at hB hS
  rw [hse] at hx hy hB
  rw [← hp] at hS
  rw [Shp.cnt] at hc
  dsimp only at hx hy hB hS
  have HSO := Lib.hid (fun wx (hbx : Below w.heap.size w wx) => show Calls Tryz.prog 226 #[.agg #[.int .i64 n.kind, .int .i64 n.depth, .int .i64 n.sign, .int .i64 n.turn, .bool n.mirror, .int .i64 n.state, .int .i64 n.min, .int .i64 n.max, .iface (tyOf s) arg]] wx (fun e w' => e = .returned (.tuple #[.int .i64 (p1 + 24), .int .i64 (p2 + 24)]) ∧ Below wx.heap.size wx w') by
    have := hO wx _ (ShV.below hbx (.rng n s) _ HV0.out)
    unfold GotSz at this
    rw [hse] at this; exact this)
  obtain ⟨L, hL⟩ : ∃ L, L = s.pcs (x + 12) (y + 12) := ⟨_, rfl⟩
  obtain ⟨q, hq⟩ : ∃ q, q = L.length := ⟨_, rfl⟩
  have hqb : q + 1 ≤ 1000000 := by rw [hq, hL, pcs_cnt]; exact hc
  have HPC := Lib.hid (fun wx (hbx : Below w.heap.size w wx) => show Calls Tryz.prog (pcFn s) #[arg, .int .i64 (x + 12), .int .i64 (y + 12)] wx (GotRow wx 166 12 q (L.flatMap Pc.cells)) by
    have := HP0.out wx arg (x + 12) (y + 12) (by rw [← hp]; dsimp only; omega) (by rw [← hp]; dsimp only; omega) (by omega) (ShV.below hbx s _ h)
    unfold GotPcs at this
    rw [hq, hL]; exact this)
  have HF := Lib.hid (show (Shp.rng n s).pcs x y = ⟨n, x, y, p1 + 24, p2 + 24⟩ :: L by rw [Shp.pcs, ← hp, hL])
  have HQ := Lib.hid hq
  have HM := Lib.hid (fun wx => pc_method s arg wx)
  show Calls Tryz.prog 225 #[.agg #[.int .i64 n.kind, .int .i64 n.depth, .int .i64 n.sign, .int .i64 n.turn, .bool n.mirror, .int .i64 n.state, .int .i64 n.min, .int .i64 n.max, .iface (tyOf s) arg], .int .i64 x, .int .i64 y] w _
  unfold GotPcs
  rw [HF.out]
  clear hO hP HP0 hse hp h hL hq hc HV0 HF
  obtain ⟨nk, nd, ns, nt, nm, nst, nmn, nmx⟩ := n
  dsimp only at HSO ⊢
  obtain ⟨W, hW⟩ : ∃ W, W = w.alloc (.cells #[.int .i64 nk, .int .i64 nd, .int .i64 ns, .int .i64 nt, .bool nm, .int .i64 nst, .int .i64 nmn, .int .i64 nmx, .iface (tyOf s) arg] 212) := ⟨_, rfl⟩
  have HB := Lib.hid (show Below w.heap.size w W from hW ▸ below_alloc _ _)
  have D0 := Lib.hid (show W.heap[w.heap.size]? = some (.cells #[.int .i64 nk, .int .i64 nd, .int .i64 ns, .int .i64 nt, .bool nm, .int .i64 nst, .int .i64 nmn, .int .i64 nmx, .iface (tyOf s) arg] 212 (0, 0)) from hW ▸ heap_alloc_new _ _)
  obtain ⟨iv, hiv, hzv, hsv, hbv⟩ := info_hid infoPc
  go_enter Tryz.func225, Tryz.ntmps225
  go_wp2_with fail
  rw [← hW]
  clear hW
  have x0 := cell_of_blk D0.out 0
  have x1 := cell_of_blk D0.out 1
  have x2 := cell_of_blk D0.out 2
  have x3 := cell_of_blk D0.out 3
  have x4 := cell_of_blk D0.out 4
  have x5 := cell_of_blk D0.out 5
  have x6 := cell_of_blk D0.out 6
  have x7 := cell_of_blk D0.out 7
  have x8 := cell_of_blk D0.out 8
  have hs := (Array.getElem?_eq_some_iff.1 D0.out).1
  simp at x0 x1 x2 x3 x4 x5 x6 x7 x8
  go_wp2_with fail
  refine (HSO.out _ HB.out).mono ?_; rintro e w2 ⟨rfl, hb2⟩
  have HB2 := Lib.hid (below_more HB.out hb2)
  have D2 := Lib.hid (blk_keep hb2 D0.out)
  clear hb2 x0 x1 x2 x3 x4 x5 x6 x7 x8 hs
  have x0 := cell_of_blk D2.out 0
  have x1 := cell_of_blk D2.out 1
  have x2 := cell_of_blk D2.out 2
  have x3 := cell_of_blk D2.out 3
  have x4 := cell_of_blk D2.out 4
  have x5 := cell_of_blk D2.out 5
  have x6 := cell_of_blk D2.out 6
  have x7 := cell_of_blk D2.out 7
  have x8 := cell_of_blk D2.out 8
  have hs := (Array.getElem?_eq_some_iff.1 D2.out).1
  simp at x0 x1 x2 x3 x4 x5 x6 x7 x8
  have HM2 := HM.out
  go_wp2_with fail
  obtain ⟨W3, hW3⟩ : ∃ W3, W3 = w2.alloc (.cells #[.int .i64 nk, .int .i64 nd, .int .i64 ns, .int .i64 nt, .bool nm, .int .i64 nst, .int .i64 nmn, .int .i64 nmx, .int .i64 x, .int .i64 y, .int .i64 (p1 + 24), .int .i64 (p2 + 24)] 166) := ⟨_, rfl⟩
  have HB3 := Lib.hid (show Below w.heap.size w W3 from hW3 ▸ HB2.out.alloc HB2.out.size _)
  have D3 := Lib.hid (show W3.heap[w2.heap.size]? = some (.cells #[.int .i64 nk, .int .i64 nd, .int .i64 ns, .int .i64 nt, .bool nm, .int .i64 nst, .int .i64 nmn, .int .i64 nmx, .int .i64 x, .int .i64 y, .int .i64 (p1 + 24), .int .i64 (p2 + 24)] 166 (0, 0)) from hW3 ▸ heap_alloc_new _ _)
  have D4 := Lib.hid (show W3.heap[w.heap.size]? = some (.cells #[.int .i64 nk, .int .i64 nd, .int .i64 ns, .int .i64 nt, .bool nm, .int .i64 nst, .int .i64 nmn, .int .i64 nmx, .iface (tyOf s) arg] 212 (0, 0)) from blk_keep (hW3 ▸ below_alloc w2 _) D2.out)
  rw [← hW3]
  clear hW3 x0 x1 x2 x3 x4 x5 x6 x7 x8 hs
  have HK := Lib.hid (fun wx (hb : Below W3.heap.size W3 wx) => show wx.cell? ⟨w2.heap.size, 0, none⟩ = some (.int .i64 nk) ∧ wx.cell? ⟨w2.heap.size, 1, none⟩ = some (.int .i64 nd) ∧ wx.cell? ⟨w2.heap.size, 2, none⟩ = some (.int .i64 ns) ∧ wx.cell? ⟨w2.heap.size, 3, none⟩ = some (.int .i64 nt) ∧ wx.cell? ⟨w2.heap.size, 4, none⟩ = some (.bool nm) ∧ wx.cell? ⟨w2.heap.size, 5, none⟩ = some (.int .i64 nst) ∧ wx.cell? ⟨w2.heap.size, 6, none⟩ = some (.int .i64 nmn) ∧ wx.cell? ⟨w2.heap.size, 7, none⟩ = some (.int .i64 nmx) ∧ wx.cell? ⟨w2.heap.size, 8, none⟩ = some (.int .i64 x) ∧ wx.cell? ⟨w2.heap.size, 9, none⟩ = some (.int .i64 y) ∧ wx.cell? ⟨w2.heap.size, 10, none⟩ = some (.int .i64 (p1 + 24)) ∧ wx.cell? ⟨w2.heap.size, 11, none⟩ = some (.int .i64 (p2 + 24)) ∧ wx.cell? ⟨w.heap.size, 8, none⟩ = some (.iface (tyOf s) arg) from
    ⟨cell_of_blk (blk_keep hb D3.out) 0, cell_of_blk (blk_keep hb D3.out) 1, cell_of_blk (blk_keep hb D3.out) 2, cell_of_blk (blk_keep hb D3.out) 3, cell_of_blk (blk_keep hb D3.out) 4, cell_of_blk (blk_keep hb D3.out) 5, cell_of_blk (blk_keep hb D3.out) 6, cell_of_blk (blk_keep hb D3.out) 7, cell_of_blk (blk_keep hb D3.out) 8, cell_of_blk (blk_keep hb D3.out) 9, cell_of_blk (blk_keep hb D3.out) 10, cell_of_blk (blk_keep hb D3.out) 11, cell_of_blk (blk_keep hb D4.out) 8⟩)
  have HDR := Lib.hid (show Below W3.heap.size W3 W3.drew from (Below.refl _ _).drew)
  have HDA := Lib.hid (show Below W3.heap.size W3 ((W3.alloc (.cells #[.int .i64 nk, .int .i64 nd, .int .i64 ns, .int .i64 nt, .bool nm, .int .i64 nst, .int .i64 nmn, .int .i64 nmx, .int .i64 x, .int .i64 y, .int .i64 (p1 + 24), .int .i64 (p2 + 24)] 166)).drew) from (below_alloc _ _).drew)
  have hsz3 := HB3.out.size
  have e1 : IntKind.i64.wrap (x + 12) = x + 12 := IntWalk.i64_in _ (by omega)
  have e2 : IntKind.i64.wrap (y + 12) = y + 12 := IntWalk.i64_in _ (by omega)
  have HS0 := HK.out _ HDR.out
  obtain ⟨PC, hPC⟩ : ∃ P : List Value, P = (⟨⟨nk, nd, ns, nt, nm, nst, nmn, nmx⟩, x, y, p1 + 24, p2 + 24⟩ : Pc).cells := ⟨_, rfl⟩
  have HPP := Lib.hid (show ((⟨⟨nk, nd, ns, nt, nm, nst, nmn, nmx⟩, x, y, p1 + 24, p2 + 24⟩ : Pc) :: L).flatMap Pc.cells = PC ++ L.flatMap Pc.cells by rw [hPC, List.flatMap_cons])
  have HLN := Lib.hid (show ((⟨⟨nk, nd, ns, nt, nm, nst, nmn, nmx⟩, x, y, p1 + 24, p2 + 24⟩ : Pc) :: L).length = 1 + q by rw [List.length_cons, HQ.out]; omega)
  rw [List.length_cons] at HLN
  have HLL := Lib.hid (show (L.flatMap Pc.cells).length = q * 12 by rw [HQ.out]; exact flat_len (f := Pc.cells) (fun _ => rfl) _)
  have HL1 := Lib.hid (show ∀ u ∈ L.flatMap Pc.cells, u.oneCell' = true from fun u hu => by
    obtain ⟨p, _, h⟩ := List.mem_flatMap.1 hu
    exact pc_one p u h)
  have HOL := Lib.hid (fun (wx : World) => show (wx.alloc (.cells #[.int .i64 nk, .int .i64 nd, .int .i64 ns, .int .i64 nt, .bool nm, .int .i64 nst, .int .i64 nmn, .int .i64 nmx, .int .i64 x, .int .i64 y, .int .i64 (p1 + 24), .int .i64 (p2 + 24)] 166)).ownsRow wx.heap.size 166 12 (.slice (some ⟨wx.heap.size, 0, none⟩) 1 1) 1 PC from by
    rw [hPC]; exact own_lit wx (Pc.cells ⟨⟨nk, nd, ns, nt, nm, nst, nmn, nmx⟩, x, y, p1 + 24, p2 + 24⟩) _ 12 1 rfl (by unfold maxLen; omega))
  clear hPC
  (
    refine wp_region_held_drew (S := (fun wx => wx.cell? ⟨w2.heap.size, 0, none⟩ = some (.int .i64 nk) ∧ wx.cell? ⟨w2.heap.size, 1, none⟩ = some (.int .i64 nd) ∧ wx.cell? ⟨w2.heap.size, 2, none⟩ = some (.int .i64 ns) ∧ wx.cell? ⟨w2.heap.size, 3, none⟩ = some (.int .i64 nt) ∧ wx.cell? ⟨w2.heap.size, 4, none⟩ = some (.bool nm) ∧ wx.cell? ⟨w2.heap.size, 5, none⟩ = some (.int .i64 nst) ∧ wx.cell? ⟨w2.heap.size, 6, none⟩ = some (.int .i64 nmn) ∧ wx.cell? ⟨w2.heap.size, 7, none⟩ = some (.int .i64 nmx) ∧ wx.cell? ⟨w2.heap.size, 8, none⟩ = some (.int .i64 x) ∧ wx.cell? ⟨w2.heap.size, 9, none⟩ = some (.int .i64 y) ∧ wx.cell? ⟨w2.heap.size, 10, none⟩ = some (.int .i64 (p1 + 24)) ∧ wx.cell? ⟨w2.heap.size, 11, none⟩ = some (.int .i64 (p2 + 24)) ∧ wx.cell? ⟨w.heap.size, 8, none⟩ = some (.iface _ arg))) (by kernel_rfl) HS0 (fun HS => ?_)
    refine wpAnyH_take (i := 0) (v := ?_) rfl (by kernel_rfl) (by kernel_rfl) (by kernel_rfl) (fun _ _ _ h => h) (Or.inl ⟨by rfl, ?_⟩) HS ?_
    case refine_2 => (intro wx hSw; obtain ⟨s0, s1, s2, s3, s4, s5, s6, s7, s8, s9, s10, s11, s12⟩ := hSw; go_simp; try with_reducible rfl)
    refine wpAnyH_take (i := 2) (v := ?_) rfl (by kernel_rfl) (by kernel_rfl) (by kernel_rfl) (fun _ _ _ h => h) (Or.inl ⟨by rfl, ?_⟩) HS ?_
    case refine_2 => (intro wx hSw; obtain ⟨s0, s1, s2, s3, s4, s5, s6, s7, s8, s9, s10, s11, s12⟩ := hSw; go_simp; try with_reducible rfl)
    refine wpAnyH_take (i := 3) (v := ?_) rfl (by kernel_rfl) (by kernel_rfl) (by kernel_rfl) (fun _ _ _ h => h) (Or.inl ⟨by rfl, ?_⟩) HS ?_
    case refine_2 => (intro wx hSw; obtain ⟨s0, s1, s2, s3, s4, s5, s6, s7, s8, s9, s10, s11, s12⟩ := hSw; go_simp; try with_reducible rfl)
    refine wpAnyH_take (i := 4) (v := ?_) rfl (by kernel_rfl) (by kernel_rfl) (by kernel_rfl) (fun _ _ _ h => h) (Or.inl ⟨by rfl, ?_⟩) HS ?_
    case refine_2 => (intro wx hSw; obtain ⟨s0, s1, s2, s3, s4, s5, s6, s7, s8, s9, s10, s11, s12⟩ := hSw; go_simp; try with_reducible rfl)
    refine wpAnyH_take (i := 5) (v := ?_) rfl (by kernel_rfl) (by kernel_rfl) (by kernel_rfl) (fun _ _ _ h => h) (Or.inl ⟨by rfl, ?_⟩) HS ?_
    case refine_2 => (intro wx hSw; obtain ⟨s0, s1, s2, s3, s4, s5, s6, s7, s8, s9, s10, s11, s12⟩ := hSw; go_simp; try with_reducible rfl)
    refine wpAnyH_take (i := 6) (v := ?_) rfl (by kernel_rfl) (by kernel_rfl) (by kernel_rfl) (fun _ _ _ h => h) (Or.inl ⟨by rfl, ?_⟩) HS ?_
    case refine_2 => (intro wx hSw; obtain ⟨s0, s1, s2, s3, s4, s5, s6, s7, s8, s9, s10, s11, s12⟩ := hSw; go_simp; try with_reducible rfl)
    refine wpAnyH_take (i := 7) (v := ?_) rfl (by kernel_rfl) (by kernel_rfl) (by kernel_rfl) (fun _ _ _ h => h) (Or.inl ⟨by rfl, ?_⟩) HS ?_
    case refine_2 => (intro wx hSw; obtain ⟨s0, s1, s2, s3, s4, s5, s6, s7, s8, s9, s10, s11, s12⟩ := hSw; go_simp; try with_reducible rfl)
    refine wpAnyH_ready (rs := [1, 8]) (by kernel_rfl) (by simp) ?_
    refine AllReadyH.cons rfl (fun K hK => ?_) (AllReadyH.cons rfl (fun K hK => ?_) AllReadyH.nil)
    · go_simp
      refine hK.out _ _ (HK.out _ HDA.out) (fun HS => ?_)
      clear hK K
      cases s <;> (
        simp only [tyOf, pcFn] at HPC HK HS
        refine wpAnyH_ready (rs := [8]) (by kernel_rfl) (by simp) ?_
        refine AllReadyH.cons rfl (fun K hK => ?_) AllReadyH.nil
        go_simp
        refine (HPC.out _ (below_more HB3.out HDA.out)).mono ?_; rintro e w4 ⟨A4, c4, rfl, hown4, hb4⟩
        have k4 := below_more HDA.out hb4
        have kw4 := below_more HB3.out k4
        have hoA := ownsRow_of_block (w' := w4) (HOL.out W3) (fun g hg => hb4.block g ((HOL.out W3).lt g hg).2)
        go_wp2_with fail
        refine hK.out _ _ (HK.out _ k4) (fun HS => ?_)
        clear hK K
        refine wpAnyH_ready (rs := [9]) (by kernel_rfl) (by simp) ?_
        refine AllReadyH.cons rfl (fun K hK => ?_) AllReadyH.nil
        obtain ⟨g1, g2, g3, g4⟩ := own_srcP hown4
        refine step_append_src2 _ rfl (.tmp 23) (.tmp 30) 163 rfl W3.heap.size 166 iv (.agg #[.int .i64 0, .int .i64 0, .int .i64 0, .int .i64 0, .bool false, .int .i64 0, .int .i64 0, .int .i64 0, .int .i64 0, .int .i64 0, .int .i64 0, .int .i64 0]) 12 96 Tryz.underlying163 hiv.out hzv.out hsv.out hbv.out rfl (by decide) _ 1 PC rfl hoA A4 q c4 (L.flatMap Pc.cells) rfl HLL.out g2 g3 HL1.out (by unfold maxLen; omega) (by omega) k4.size (1 + q) rfl ?_
        intro A9 c9 w9 own9 hg9 hn9
        have k0 := Below.grown k4 hg9 k4.size (fun g hg => (hoA.lt g hg).1)
        have HB9 := Lib.hid (below_more HB3.out k0)
        have k9 := HK.out w9 k0
        refine hK.out _ _ k9 (fun HS => ?_)
        clear hK K
        refine wpAnyH_take (i := 10) (v := ?_) rfl (by kernel_rfl) (by kernel_rfl) (by kernel_rfl) (fun _ _ _ h => h) (Or.inl ⟨by rfl, ?_⟩) HS ?_
        case refine_2 => (intro wx hSw; obtain ⟨s0, s1, s2, s3, s4, s5, s6, s7, s8, s9, s10, s11, s12⟩ := hSw; go_simp; try with_reducible rfl)
        refine wpAnyH_done (by kernel_rfl) ?_ _
        go_wp2_with fail
        go_ret
        exact ⟨A9, c9, (by rw [HLN.out]; rfl), by rw [HLN.out, HPP.out]; exact own_base own9 hsz3, HB9.out⟩)
    · cases s <;> (
        simp only [tyOf, pcFn] at HPC HK HS
        go_simp
        refine (HPC.out _ (below_more HB3.out HDR.out)).mono ?_; rintro e w4 ⟨A4, c4, rfl, hown4, hb4⟩
        have k4 := below_more HDR.out hb4
        go_wp2_with fail
        refine hK.out _ _ (HK.out _ k4) (fun HS => ?_)
        clear hK K
        refine wpAnyH_ready (rs := [1]) (by kernel_rfl) (by simp) ?_
        refine AllReadyH.cons rfl (fun K hK => ?_) AllReadyH.nil
        go_simp
        have k5 : Below W3.heap.size W3 (w4.alloc (.cells #[.int .i64 nk, .int .i64 nd, .int .i64 ns, .int .i64 nt, .bool nm, .int .i64 nst, .int .i64 nmn, .int .i64 nmx, .int .i64 x, .int .i64 y, .int .i64 (p1 + 24), .int .i64 (p2 + 24)] 166)) := k4.alloc k4.size _
        have hoA := own_base (HOL.out w4) k4.size
        have hown4 := ownsRow_of_block (w' := w4.alloc (.cells #[.int .i64 nk, .int .i64 nd, .int .i64 ns, .int .i64 nt, .bool nm, .int .i64 nst, .int .i64 nmn, .int .i64 nmx, .int .i64 x, .int .i64 y, .int .i64 (p1 + 24), .int .i64 (p2 + 24)] 166)) hown4 (fun g hg => (below_alloc w4 _).block g (hown4.lt g hg).2)
        refine hK.out _ _ (HK.out _ k5) (fun HS => ?_)
        clear hK K
        refine wpAnyH_ready (rs := [9]) (by kernel_rfl) (by simp) ?_
        refine AllReadyH.cons rfl (fun K hK => ?_) AllReadyH.nil
        obtain ⟨g1, g2, g3, g4⟩ := own_srcP hown4
        refine step_append_src2 _ rfl (.tmp 23) (.tmp 30) 163 rfl W3.heap.size 166 iv (.agg #[.int .i64 0, .int .i64 0, .int .i64 0, .int .i64 0, .bool false, .int .i64 0, .int .i64 0, .int .i64 0, .int .i64 0, .int .i64 0, .int .i64 0, .int .i64 0]) 12 96 Tryz.underlying163 hiv.out hzv.out hsv.out hbv.out rfl (by decide) _ 1 PC rfl hoA A4 q c4 (L.flatMap Pc.cells) rfl HLL.out g2 g3 HL1.out (by unfold maxLen; omega) (by omega) k5.size (1 + q) rfl ?_
        intro A9 c9 w9 own9 hg9 hn9
        have k0 := Below.grown k5 hg9 k5.size (fun g hg => (hoA.lt g hg).1)
        have HB9 := Lib.hid (below_more HB3.out k0)
        have k9 := HK.out w9 k0
        refine hK.out _ _ k9 (fun HS => ?_)
        clear hK K
        refine wpAnyH_take (i := 10) (v := ?_) rfl (by kernel_rfl) (by kernel_rfl) (by kernel_rfl) (fun _ _ _ h => h) (Or.inl ⟨by rfl, ?_⟩) HS ?_
        case refine_2 => (intro wx hSw; obtain ⟨s0, s1, s2, s3, s4, s5, s6, s7, s8, s9, s10, s11, s12⟩ := hSw; go_simp; try with_reducible rfl)
        refine wpAnyH_done (by kernel_rfl) ?_ _
        go_wp2_with fail
        go_ret
        exact ⟨A9, c9, (by rw [HLN.out]; rfl), by rw [HLN.out, HPP.out]; exact own_base own9 hsz3, HB9.out⟩))
open Go.RowKit
set_option maxRecDepth 100000 in
set_option maxHeartbeats 16000000 in
theorem ovlpcs_any (n1 : Nd) (a b : Int) (n2 : Nd) (c d : Int) (h1 : 0 ≤ a ∧ a ≤ 1000000) (h2 : 0 ≤ b ∧ b ≤ 1000000) : PcOk (.ovl n1 a b n2 c d) := by
  intro w arg x y hx hy hc hv
  have HSO0 := Lib.hid (fun wx (hbx : Below w.heap.size w wx) => ovlsize_any n1 a b n2 c d h1 h2 wx arg (ShV.below hbx (.ovl n1 a b n2 c d) _ hv))
  injection hv with _ e
  subst e
  rw [Shp.size] at hx hy
  dsimp only at hx hy
  unfold GotSz at HSO0
  rw [Shp.size] at HSO0
  have HGP := Lib.hid (fun wx => show Calls Tryz.prog 215 #[.agg #[.int .i64 n1.kind, .int .i64 n1.depth, .int .i64 n1.sign, .int .i64 n1.turn, .bool n1.mirror, .int .i64 n1.state, .int .i64 n1.min, .int .i64 n1.max, .int .i64 a, .int .i64 b], .int .i64 x, .int .i64 y] wx (GotRow wx 166 12 1 (Pc.cells ⟨n1, x, y, 4 * a, 4 * b⟩)) from by
    have := glypcs_any n1 a b h1 h2 wx _ x y (by rw [Shp.size]; exact hx) (by rw [Shp.size]; exact hy) (by rw [Shp.cnt]; omega) rfl
    unfold GotPcs at this
    rw [Shp.pcs] at this
    rw [List.flatMap_singleton] at this
    exact this)
  obtain ⟨nk, nd, ns, nt, nm, nst, nmn, nmx⟩ := n1
  obtain ⟨mk, md, ms, mt, mm, mst, mmn, mmx⟩ := n2
  dsimp only at HSO0 HGP
  have HSO := Lib.hid HSO0.out
  clear HSO0
  obtain ⟨QC, hQC⟩ : ∃ Q : List Value, Q = (⟨⟨nk, nd, ns, nt, nm, nst, nmn, nmx⟩, x, y, 4 * a, 4 * b⟩ : Pc).cells := ⟨_, rfl⟩
  obtain ⟨PC, hPC⟩ : ∃ P : List Value, P = (⟨⟨mk, md, ms, mt, mm, mst, mmn, mmx⟩, x + a, y + b, 2 * a, 2 * b⟩ : Pc).cells := ⟨_, rfl⟩
  rw [← hQC] at HGP
  have HPP := Lib.hid (show ([⟨⟨nk, nd, ns, nt, nm, nst, nmn, nmx⟩, x, y, 4 * a, 4 * b⟩, ⟨⟨mk, md, ms, mt, mm, mst, mmn, mmx⟩, x + a, y + b, 2 * a, 2 * b⟩] : List Pc).flatMap Pc.cells = QC ++ PC by rw [hQC, hPC]; rfl)
  have HPL := Lib.hid (show PC.length = 1 * 12 by rw [hPC]; rfl)
  have HP1 := Lib.hid (show ∀ u ∈ PC, u.oneCell' = true by rw [hPC]; exact pc_one _)
  have HNW := Lib.hid (fun (wx : World) => show ∀ ad, some (⟨wx.heap.size, 0, none⟩ : Addr) = some ad → ∀ (j : Nat) (u : Value), PC[j]? = some u → (wx.alloc (.cells #[.int .i64 mk, .int .i64 md, .int .i64 ms, .int .i64 mt, .bool mm, .int .i64 mst, .int .i64 mmn, .int .i64 mmx, .int .i64 (x + a), .int .i64 (y + b), .int .i64 (2 * a), .int .i64 (2 * b)] 166)).cell? (ad.add j) = some u from by
    rw [hPC]; exact new_row wx (Pc.cells ⟨⟨mk, md, ms, mt, mm, mst, mmn, mmx⟩, x + a, y + b, 2 * a, 2 * b⟩) 166)
  clear hQC hPC hc
  obtain ⟨W, hW⟩ : ∃ W, W = w.alloc (.cells #[.int .i64 nk, .int .i64 nd, .int .i64 ns, .int .i64 nt, .bool nm, .int .i64 nst, .int .i64 nmn, .int .i64 nmx, .int .i64 a, .int .i64 b, .int .i64 mk, .int .i64 md, .int .i64 ms, .int .i64 mt, .bool mm, .int .i64 mst, .int .i64 mmn, .int .i64 mmx, .int .i64 c, .int .i64 d] 206) := ⟨_, rfl⟩
  have HB := Lib.hid (show Below w.heap.size w W from hW ▸ below_alloc _ _)
  have D0 := Lib.hid (show W.heap[w.heap.size]? = some (.cells #[.int .i64 nk, .int .i64 nd, .int .i64 ns, .int .i64 nt, .bool nm, .int .i64 nst, .int .i64 nmn, .int .i64 nmx, .int .i64 a, .int .i64 b, .int .i64 mk, .int .i64 md, .int .i64 ms, .int .i64 mt, .bool mm, .int .i64 mst, .int .i64 mmn, .int .i64 mmx, .int .i64 c, .int .i64 d] 206 (0, 0)) from hW ▸ heap_alloc_new _ _)
  have q4 : (4 * a).tdiv 4 = a := by rw [Int.tdiv_eq_ediv_of_nonneg (by omega)]; omega
  have q5 : (4 * b).tdiv 4 = b := by rw [Int.tdiv_eq_ediv_of_nonneg (by omega)]; omega
  have q2 : (4 * a).tdiv 2 = 2 * a := by rw [Int.tdiv_eq_ediv_of_nonneg (by omega)]; omega
  have q3 : (4 * b).tdiv 2 = 2 * b := by rw [Int.tdiv_eq_ediv_of_nonneg (by omega)]; omega
  obtain ⟨iv, hiv, hzv, hsv, hbv⟩ := info_hid infoPc
  show Calls Tryz.prog 219 _ w _
  unfold GotPcs
  rw [Shp.pcs]
  go_enter Tryz.func219, Tryz.ntmps219
  go_upto_region 1 with fail
  rw [← hW]
  clear hW
  have HR0 : W.rangeAt w.heap.size 0 [.int .i64 nk, .int .i64 nd, .int .i64 ns, .int .i64 nt, .bool nm, .int .i64 nst, .int .i64 nmn, .int .i64 nmx, .int .i64 a, .int .i64 b, .int .i64 mk, .int .i64 md, .int .i64 ms, .int .i64 mt, .bool mm, .int .i64 mst, .int .i64 mmn, .int .i64 mmx, .int .i64 c, .int .i64 d] := fun j v h => by
    rw [Nat.zero_add, cell_of_blk D0.out j]; simpa using h
  refine wp_region_lit ?_
  refine wpList_load_mid rfl 206 (.tmp 3) rfl w.heap.size 0 rfl [.int .i64 nk, .int .i64 nd, .int .i64 ns, .int .i64 nt, .bool nm, .int .i64 nst, .int .i64 nmn, .int .i64 nmx, .int .i64 a, .int .i64 b, .int .i64 mk, .int .i64 md, .int .i64 ms, .int .i64 mt, .bool mm, .int .i64 mst, .int .i64 mmn, .int .i64 mmx, .int .i64 c, .int .i64 d] _ HR0 Tryz.underlying206 rfl (by kernel_rfl) ?_
  clear HR0
  go_wp2_with fail
  refine (HSO.out _ HB.out).mono ?_; rintro e w2 ⟨rfl, hb2⟩
  have HB2 := Lib.hid (below_more HB.out hb2)
  have D2 := Lib.hid (blk_keep hb2 D0.out)
  clear hb2
  have x10 : w2.cell? ⟨w.heap.size, 10, none⟩ = some (.int .i64 mk) := cell_of_blk D2.out 10
  have x11 : w2.cell? ⟨w.heap.size, 11, none⟩ = some (.int .i64 md) := cell_of_blk D2.out 11
  have x12 : w2.cell? ⟨w.heap.size, 12, none⟩ = some (.int .i64 ms) := cell_of_blk D2.out 12
  have x13 : w2.cell? ⟨w.heap.size, 13, none⟩ = some (.int .i64 mt) := cell_of_blk D2.out 13
  have x14 : w2.cell? ⟨w.heap.size, 14, none⟩ = some (.bool mm) := cell_of_blk D2.out 14
  have x15 : w2.cell? ⟨w.heap.size, 15, none⟩ = some (.int .i64 mst) := cell_of_blk D2.out 15
  have x16 : w2.cell? ⟨w.heap.size, 16, none⟩ = some (.int .i64 mmn) := cell_of_blk D2.out 16
  have x17 : w2.cell? ⟨w.heap.size, 17, none⟩ = some (.int .i64 mmx) := cell_of_blk D2.out 17
  have hzx := (Array.getElem?_eq_some_iff.1 D2.out).1
  go_upto_region 3 with fail
  obtain ⟨W3, hW3⟩ : ∃ W3, W3 = w2.alloc (.cells #[.int .i64 mk, .int .i64 md, .int .i64 ms, .int .i64 mt, .bool mm, .int .i64 mst, .int .i64 mmn, .int .i64 mmx, .int .i64 (x + a), .int .i64 (y + b), .int .i64 (2 * a), .int .i64 (2 * b)] 166) := ⟨_, rfl⟩
  have HB3 := Lib.hid (show Below w.heap.size w W3 from hW3 ▸ HB2.out.alloc HB2.out.size _)
  have D3 := Lib.hid (show W3.heap[w2.heap.size]? = some (.cells #[.int .i64 mk, .int .i64 md, .int .i64 ms, .int .i64 mt, .bool mm, .int .i64 mst, .int .i64 mmn, .int .i64 mmx, .int .i64 (x + a), .int .i64 (y + b), .int .i64 (2 * a), .int .i64 (2 * b)] 166 (0, 0)) from hW3 ▸ heap_alloc_new _ _)
  have D4 := Lib.hid (show W3.heap[w.heap.size]? = some (.cells #[.int .i64 nk, .int .i64 nd, .int .i64 ns, .int .i64 nt, .bool nm, .int .i64 nst, .int .i64 nmn, .int .i64 nmx, .int .i64 a, .int .i64 b, .int .i64 mk, .int .i64 md, .int .i64 ms, .int .i64 mt, .bool mm, .int .i64 mst, .int .i64 mmn, .int .i64 mmx, .int .i64 c, .int .i64 d] 206 (0, 0)) from blk_keep (hW3 ▸ below_alloc w2 _) D2.out)
  first
    | rw [← hW3]
    | fail
  clear hW3 x10 x11 x12 x13 x14 x15 x16 x17 hzx
  generalize (Value.agg #[.int .i64 nk, .int .i64 nd, .int .i64 ns, .int .i64 nt, .bool nm, .int .i64 nst, .int .i64 nmn, .int .i64 nmx, .int .i64 a, .int .i64 b, .int .i64 mk, .int .i64 md, .int .i64 ms, .int .i64 mt, .bool mm, .int .i64 mst, .int .i64 mmn, .int .i64 mmx, .int .i64 c, .int .i64 d]) = VV0
  generalize (Value.agg #[.int .i64 mk, .int .i64 md, .int .i64 ms, .int .i64 mt, .bool mm, .int .i64 mst, .int .i64 mmn, .int .i64 mmx, .int .i64 (x + a), .int .i64 (y + b), .int .i64 (2 * a), .int .i64 (2 * b)]) = VV1
  generalize (Value.agg #[.int .i64 mk, .int .i64 md, .int .i64 ms, .int .i64 mt, .bool mm, .int .i64 mst, .int .i64 mmn, .int .i64 mmx]) = VV2
  obtain ⟨S, hS⟩ : ∃ S : World → Prop, S = (fun wx => wx.cell? ⟨w.heap.size, 0, none⟩ = some (.int .i64 nk) ∧ wx.cell? ⟨w.heap.size, 1, none⟩ = some (.int .i64 nd) ∧ wx.cell? ⟨w.heap.size, 2, none⟩ = some (.int .i64 ns) ∧ wx.cell? ⟨w.heap.size, 3, none⟩ = some (.int .i64 nt) ∧ wx.cell? ⟨w.heap.size, 4, none⟩ = some (.bool nm) ∧ wx.cell? ⟨w.heap.size, 5, none⟩ = some (.int .i64 nst) ∧ wx.cell? ⟨w.heap.size, 6, none⟩ = some (.int .i64 nmn) ∧ wx.cell? ⟨w.heap.size, 7, none⟩ = some (.int .i64 nmx) ∧ wx.cell? ⟨w.heap.size, 8, none⟩ = some (.int .i64 a) ∧ wx.cell? ⟨w.heap.size, 9, none⟩ = some (.int .i64 b) ∧ wx.cell? ⟨w2.heap.size, 0, none⟩ = some (.int .i64 mk) ∧ wx.cell? ⟨w2.heap.size, 1, none⟩ = some (.int .i64 md) ∧ wx.cell? ⟨w2.heap.size, 2, none⟩ = some (.int .i64 ms) ∧ wx.cell? ⟨w2.heap.size, 3, none⟩ = some (.int .i64 mt) ∧ wx.cell? ⟨w2.heap.size, 4, none⟩ = some (.bool mm) ∧ wx.cell? ⟨w2.heap.size, 5, none⟩ = some (.int .i64 mst) ∧ wx.cell? ⟨w2.heap.size, 6, none⟩ = some (.int .i64 mmn) ∧ wx.cell? ⟨w2.heap.size, 7, none⟩ = some (.int .i64 mmx) ∧ wx.cell? ⟨w2.heap.size, 8, none⟩ = some (.int .i64 (x + a)) ∧ wx.cell? ⟨w2.heap.size, 9, none⟩ = some (.int .i64 (y + b)) ∧ wx.cell? ⟨w2.heap.size, 10, none⟩ = some (.int .i64 (2 * a)) ∧ wx.cell? ⟨w2.heap.size, 11, none⟩ = some (.int .i64 (2 * b))) := ⟨_, rfl⟩
  have HSU := Lib.hid (fun wx (h : S wx) => show wx.cell? ⟨w.heap.size, 0, none⟩ = some (.int .i64 nk) ∧ wx.cell? ⟨w.heap.size, 1, none⟩ = some (.int .i64 nd) ∧ wx.cell? ⟨w.heap.size, 2, none⟩ = some (.int .i64 ns) ∧ wx.cell? ⟨w.heap.size, 3, none⟩ = some (.int .i64 nt) ∧ wx.cell? ⟨w.heap.size, 4, none⟩ = some (.bool nm) ∧ wx.cell? ⟨w.heap.size, 5, none⟩ = some (.int .i64 nst) ∧ wx.cell? ⟨w.heap.size, 6, none⟩ = some (.int .i64 nmn) ∧ wx.cell? ⟨w.heap.size, 7, none⟩ = some (.int .i64 nmx) ∧ wx.cell? ⟨w.heap.size, 8, none⟩ = some (.int .i64 a) ∧ wx.cell? ⟨w.heap.size, 9, none⟩ = some (.int .i64 b) ∧ wx.cell? ⟨w2.heap.size, 0, none⟩ = some (.int .i64 mk) ∧ wx.cell? ⟨w2.heap.size, 1, none⟩ = some (.int .i64 md) ∧ wx.cell? ⟨w2.heap.size, 2, none⟩ = some (.int .i64 ms) ∧ wx.cell? ⟨w2.heap.size, 3, none⟩ = some (.int .i64 mt) ∧ wx.cell? ⟨w2.heap.size, 4, none⟩ = some (.bool mm) ∧ wx.cell? ⟨w2.heap.size, 5, none⟩ = some (.int .i64 mst) ∧ wx.cell? ⟨w2.heap.size, 6, none⟩ = some (.int .i64 mmn) ∧ wx.cell? ⟨w2.heap.size, 7, none⟩ = some (.int .i64 mmx) ∧ wx.cell? ⟨w2.heap.size, 8, none⟩ = some (.int .i64 (x + a)) ∧ wx.cell? ⟨w2.heap.size, 9, none⟩ = some (.int .i64 (y + b)) ∧ wx.cell? ⟨w2.heap.size, 10, none⟩ = some (.int .i64 (2 * a)) ∧ wx.cell? ⟨w2.heap.size, 11, none⟩ = some (.int .i64 (2 * b)) from by rw [hS] at h; exact h)
  have HK := Lib.hid (fun wx (hb : Below W3.heap.size W3 wx) => show S wx from by
    rw [hS]
    exact ⟨cell_of_blk (blk_keep hb D4.out) 0, cell_of_blk (blk_keep hb D4.out) 1, cell_of_blk (blk_keep hb D4.out) 2, cell_of_blk (blk_keep hb D4.out) 3, cell_of_blk (blk_keep hb D4.out) 4, cell_of_blk (blk_keep hb D4.out) 5, cell_of_blk (blk_keep hb D4.out) 6, cell_of_blk (blk_keep hb D4.out) 7, cell_of_blk (blk_keep hb D4.out) 8, cell_of_blk (blk_keep hb D4.out) 9, cell_of_blk (blk_keep hb D3.out) 0, cell_of_blk (blk_keep hb D3.out) 1, cell_of_blk (blk_keep hb D3.out) 2, cell_of_blk (blk_keep hb D3.out) 3, cell_of_blk (blk_keep hb D3.out) 4, cell_of_blk (blk_keep hb D3.out) 5, cell_of_blk (blk_keep hb D3.out) 6, cell_of_blk (blk_keep hb D3.out) 7, cell_of_blk (blk_keep hb D3.out) 8, cell_of_blk (blk_keep hb D3.out) 9, cell_of_blk (blk_keep hb D3.out) 10, cell_of_blk (blk_keep hb D3.out) 11⟩)
  clear hS
  have HDR := Lib.hid (show Below W3.heap.size W3 W3.drew from (Below.refl _ _).drew)
  have HDA := Lib.hid (show Below W3.heap.size W3 ((W3.alloc (.cells #[.int .i64 mk, .int .i64 md, .int .i64 ms, .int .i64 mt, .bool mm, .int .i64 mst, .int .i64 mmn, .int .i64 mmx, .int .i64 (x + a), .int .i64 (y + b), .int .i64 (2 * a), .int .i64 (2 * b)] 166)).drew) from (below_alloc _ _).drew)
  have hsz3 := HB3.out.size
  have HS0 := HK.out _ HDR.out
  refine wp_region_held_drew (S := S) (by kernel_rfl) HS0 (fun HS => ?_)
  refine wpAnyH_take (i := 0) (v := ?_) rfl (by kernel_rfl) (by kernel_rfl) (by kernel_rfl) (fun _ _ _ h => h) (Or.inl ⟨by rfl, ?_⟩) HS ?_
  case refine_2 => (intro wx hSw; go_simp; try with_reducible rfl)
  refine wpAnyH_take (i := 1) (v := ?_) rfl (by kernel_rfl) (by kernel_rfl) (by kernel_rfl) (fun _ _ _ h => h) (Or.inl ⟨by rfl, ?_⟩) HS ?_
  case refine_2 => (intro wx hSw; obtain ⟨s0, s1, s2, s3, s4, s5, s6, s7, s8, s9, -⟩ := HSU.out wx hSw; go_simp; try with_reducible rfl)
  refine wpAnyH_take (i := 2) (v := ?_) rfl (by kernel_rfl) (by kernel_rfl) (by kernel_rfl) (fun _ _ _ h => h) (Or.inl ⟨by rfl, ?_⟩) HS ?_
  case refine_2 => (intro wx hSw; go_simp; try with_reducible rfl)
  refine wpAnyH_take (i := 3) (v := ?_) rfl (by kernel_rfl) (by kernel_rfl) (by kernel_rfl) (fun _ _ _ h => h) (Or.inl ⟨by rfl, ?_⟩) HS ?_
  case refine_2 => (intro wx hSw; go_simp; try with_reducible rfl)
  refine wpAnyH_take (i := 5) (v := ?_) rfl (by kernel_rfl) (by kernel_rfl) (by kernel_rfl) (fun _ _ _ h => h) (Or.inl ⟨by rfl, ?_⟩) HS ?_
  case refine_2 => (intro wx hSw; obtain ⟨-, -, -, -, -, -, -, -, -, -, s10, s11, s12, s13, s14, s15, s16, s17, s18, s19, s20, s21⟩ := HSU.out wx hSw; go_simp; try with_reducible rfl)
  refine wpAnyH_ready (rs := [4, 6]) (by kernel_rfl) (by simp) ?_
  refine AllReadyH.cons rfl (fun K hK => ?_) (AllReadyH.cons rfl (fun K hK => ?_) AllReadyH.nil)
  · go_simp
    refine (HGP.out _).mono ?_; rintro e w4 ⟨A4, c4, rfl, hown4, hb4⟩
    have k4 := below_more HDR.out hb4
    go_wp2_with fail
    refine hK.out _ _ (HK.out _ k4) (fun HS => ?_)
    clear hK K
    refine wpAnyH_ready (rs := [6]) (by kernel_rfl) (by simp) ?_
    refine AllReadyH.cons rfl (fun K hK => ?_) AllReadyH.nil
    go_simp
    have k5 : Below W3.heap.size W3 (w4.alloc (.cells #[.int .i64 mk, .int .i64 md, .int .i64 ms, .int .i64 mt, .bool mm, .int .i64 mst, .int .i64 mmn, .int .i64 mmx, .int .i64 (x + a), .int .i64 (y + b), .int .i64 (2 * a), .int .i64 (2 * b)] 166)) := k4.alloc k4.size _
    have hown5 := own_base (ownsRow_of_block (w' := w4.alloc (.cells #[.int .i64 mk, .int .i64 md, .int .i64 ms, .int .i64 mt, .bool mm, .int .i64 mst, .int .i64 mmn, .int .i64 mmx, .int .i64 (x + a), .int .i64 (y + b), .int .i64 (2 * a), .int .i64 (2 * b)] 166)) hown4 (fun g hg => (below_alloc w4 _).block g (hown4.lt g hg).2)) (show W3.heap.size ≤ W3.drew.heap.size from HDR.out.size)
    have hnews := HNW.out w4
    refine hK.out _ _ (HK.out _ k5) (fun HS => ?_)
    clear hK K
    refine wpAnyH_ready (rs := [7]) (by kernel_rfl) (by simp) ?_
    refine AllReadyH.cons rfl (fun K hK => ?_) AllReadyH.nil
    refine step_append_src2 _ rfl (.tmp 35) (.tmp 37) 163 rfl W3.heap.size 166 iv (.agg #[.int .i64 0, .int .i64 0, .int .i64 0, .int .i64 0, .bool false, .int .i64 0, .int .i64 0, .int .i64 0, .int .i64 0, .int .i64 0, .int .i64 0, .int .i64 0]) 12 96 Tryz.underlying163 hiv.out hzv.out hsv.out hbv.out rfl (by decide) (.slice A4 1 c4) 1 QC rfl hown5 _ 1 1 PC rfl HPL.out (fun h => by cases h) hnews HP1.out (by unfold maxLen; omega) (by omega) k5.size (1 + 1) rfl ?_
    intro A9 c9 w9 own9 hg9 hn9
    have k0 := Below.grown k5 hg9 k5.size (fun g hg => (hown5.lt g hg).1)
    have HB9 := Lib.hid (below_more HB3.out k0)
    refine hK.out _ _ (HK.out _ k0) (fun HS => ?_)
    clear hK K
    refine wpAnyH_take (i := 8) (v := ?_) rfl (by kernel_rfl) (by kernel_rfl) (by kernel_rfl) (fun _ _ _ h => h) (Or.inl ⟨by rfl, ?_⟩) HS ?_
    case refine_2 => (intro wx hSw; go_simp; try with_reducible rfl)
    refine wpAnyH_done (by kernel_rfl) ?_ _
    go_wp2_with fail
    go_ret
    exact ⟨A9, c9, rfl, by rw [HPP.out]; exact own_base own9 hsz3, HB9.out⟩
  · go_simp
    refine hK.out _ _ (HK.out _ HDA.out) (fun HS => ?_)
    clear hK K
    refine wpAnyH_ready (rs := [4]) (by kernel_rfl) (by simp) ?_
    refine AllReadyH.cons rfl (fun K hK => ?_) AllReadyH.nil
    go_simp
    refine (HGP.out _).mono ?_; rintro e w4 ⟨A4, c4, rfl, hown4, hb4⟩
    have k4 := below_more HDA.out hb4
    have hnews : ∀ ad, some (⟨W3.heap.size, 0, none⟩ : Addr) = some ad → ∀ (j : Nat) (u : Value), PC[j]? = some u → w4.cell? (ad.add j) = some u := fun ad e j u hu => by
      have h := HNW.out W3 ad e j u hu
      injection e with e
      subst e
      refine (hb4.cell (p := (⟨W3.heap.size, 0, none⟩ : Addr).add j) ?_).trans h
      rw [addr_add]
      show W3.heap.size < ((W3.alloc _).drew).heap.size
      have : ((W3.alloc (.cells #[.int .i64 mk, .int .i64 md, .int .i64 ms, .int .i64 mt, .bool mm, .int .i64 mst, .int .i64 mmn, .int .i64 mmx, .int .i64 (x + a), .int .i64 (y + b), .int .i64 (2 * a), .int .i64 (2 * b)] 166)).drew).heap.size = W3.heap.size + 1 := World.size_alloc _ _
      omega
    have hown5 := own_base hown4 (show W3.heap.size ≤ ((W3.alloc (.cells #[.int .i64 mk, .int .i64 md, .int .i64 ms, .int .i64 mt, .bool mm, .int .i64 mst, .int .i64 mmn, .int .i64 mmx, .int .i64 (x + a), .int .i64 (y + b), .int .i64 (2 * a), .int .i64 (2 * b)] 166)).drew).heap.size from HDA.out.size)
    go_wp2_with fail
    refine hK.out _ _ (HK.out _ k4) (fun HS => ?_)
    clear hK K
    refine wpAnyH_ready (rs := [7]) (by kernel_rfl) (by simp) ?_
    refine AllReadyH.cons rfl (fun K hK => ?_) AllReadyH.nil
    refine step_append_src2 _ rfl (.tmp 35) (.tmp 37) 163 rfl W3.heap.size 166 iv (.agg #[.int .i64 0, .int .i64 0, .int .i64 0, .int .i64 0, .bool false, .int .i64 0, .int .i64 0, .int .i64 0, .int .i64 0, .int .i64 0, .int .i64 0, .int .i64 0]) 12 96 Tryz.underlying163 hiv.out hzv.out hsv.out hbv.out rfl (by decide) (.slice A4 1 c4) 1 QC rfl hown5 _ 1 1 PC rfl HPL.out (fun h => by cases h) hnews HP1.out (by unfold maxLen; omega) (by omega) k4.size (1 + 1) rfl ?_
    intro A9 c9 w9 own9 hg9 hn9
    have k0 := Below.grown k4 hg9 k4.size (fun g hg => (hown5.lt g hg).1)
    have HB9 := Lib.hid (below_more HB3.out k0)
    refine hK.out _ _ (HK.out _ k0) (fun HS => ?_)
    clear hK K
    refine wpAnyH_take (i := 8) (v := ?_) rfl (by kernel_rfl) (by kernel_rfl) (by kernel_rfl) (fun _ _ _ h => h) (Or.inl ⟨by rfl, ?_⟩) HS ?_
    case refine_2 => (intro wx hSw; go_simp; try with_reducible rfl)
    refine wpAnyH_done (by kernel_rfl) ?_ _
    go_wp2_with fail
    go_ret
    exact ⟨A9, c9, rfl, by rw [HPP.out]; exact own_base own9 hsz3, HB9.out⟩
open Go.RowKit
mutual
theorem pcs_ok : ∀ (s : Shp), s.good → PcOk s
  | .gly n a b, h => by
    rw [Shp.good] at h
    exact glypcs_any n a b (by omega) (by omega)
  | .gap n, h => by
    rw [Shp.good] at h
    exact gappcs_any n (by omega)
  | .ovl n1 a b n2 c d, h => by
    rw [Shp.good] at h
    exact ovlpcs_any n1 a b n2 c d (by omega) (by omega)
  | .row sp ks, h => by
    rw [Shp.good] at h
    exact rowpcs_any sp ks h.1 h.2.1 h.2.2.1 (fun k hk => (goodS.mem h.2.2.2 k hk).szB) (size_oks ks h.2.2.2) (pcs_oks ks h.2.2.2)
  | .col sp ks, h => by
    rw [Shp.good] at h
    exact colpcs_any sp ks h.1 h.2.1 h.2.2.1 (fun k hk => (goodS.mem h.2.2.2 k hk).szB) (size_oks ks h.2.2.2) (pcs_oks ks h.2.2.2)
  | .rng n s, h => by
    have h0 := h
    rw [Shp.good] at h
    exact rngpcs_any n s h.1 (size_ok _ h0) (pcs_ok s h.2.2) h.2.1
theorem pcs_oks : ∀ (ks : List Shp), goodS ks → ∀ k ∈ ks, PcOk k
  | [], _, k, hk => by simp at hk
  | x :: r, h, k, hk => by
    rw [goodS] at h
    rcases List.mem_cons.1 hk with hk | hk
    · rw [hk]; exact pcs_ok x h.1
    · exact pcs_oks r h.2 k hk
end
end Go.Proofs.YtmiokllpdmmfhaaGreat
