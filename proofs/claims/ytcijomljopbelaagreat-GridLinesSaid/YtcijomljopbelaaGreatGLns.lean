/-
  The program's Lines.
-/
import Derived.Test.YtcijomljopbelaaGreatLn2
import Derived.Test.YtcijomljopbelaaGreatGscl
import Derived.Test.YtcijomljopbelaaGreatLay1
import Derived.Test.YtcijomljopbelaaGreatHldZ
namespace Go.Proofs.YtcijomljopbelaaGreat
open Go.RowKit

theorem infoInts : (Tryz.prog.info? 49).map (fun i => (i.zero, i.size, i.bytes)) = some (some (.slice none 0 0), 1, 24) := by kernel_rfl

set_option maxRecDepth 100000 in
set_option maxHeartbeats 16000000 in
theorem glinesE_any (L : Lm) (A : Option Addr) (cap : Nat) (ns : List Nd) (way len : Int) (w : World) (hl : LmOk w L) (hn : NdsAt w A ns) (hc1 : ns.length ≤ cap) (hc : cap ≤ maxLen) (E : Int) (h0 : ¬E = 0) (hE : bothE L.li ns way len = E) :
    Calls Tryz.prog 23 #[.agg #[.int .i64 L.per, .slice L.A L.ms.length L.cap], .agg #[.slice A ns.length cap], .agg #[.int .i64 way, .int .i64 len]] w (GotLnE ([], E) w) := by
  have HAR := Lib.hid (fun wx (hbx : Below w.heap.size w wx) => arrErr_any way E h0 L A cap ns len wx (hl.below hbx) (hn.below hbx) hc1 hc hE)
  have hb : (E != 0) = true := by simpa using h0
  obtain ⟨N, hN⟩ : ∃ N, N = ns.length := ⟨_, rfl⟩
  rw [← hN] at HAR hc1 ⊢
  unfold maxLen at hc
  clear hl hn hE hN h0
  obtain ⟨W1, hW1⟩ : ∃ W', W' = w.alloc (.cells #[.int .i64 L.per, .slice L.A L.ms.length L.cap] 24) := ⟨_, rfl⟩; obtain ⟨W2, hW2⟩ : ∃ W', W' = W1.alloc (.cells #[.slice A N cap] 27) := ⟨_, rfl⟩; obtain ⟨W, hW⟩ : ∃ W', W' = W2.alloc (.cells #[.int .i64 way, .int .i64 len] 31) := ⟨_, rfl⟩; have szW1 : W1.heap.size = w.heap.size + 1 := (by rw [hW1]; simp); have kbW1 : Below w.heap.size w W1 := hW1 ▸ below_alloc _ _; have szW2 : W2.heap.size = w.heap.size + 1 + 1 := (by rw [hW2]; simp [szW1]); have kbW2 : Below W1.heap.size W1 W2 := hW2 ▸ below_alloc _ _; have szW : W.heap.size = w.heap.size + 1 + 1 + 1 := (by rw [hW]; simp [szW2]); have kbW : Below W2.heap.size W2 W := hW ▸ below_alloc _ _; have HB := Lib.hid (below_more (below_more kbW1 kbW2) kbW); have D0 := Lib.hid (blk_keep kbW (blk_keep kbW2 (show W1.heap[w.heap.size]? = some (.cells #[.int .i64 L.per, .slice L.A L.ms.length L.cap] 24 (0, 0)) by rw [hW1]; exact heap_alloc_new _ _))); have D1 := Lib.hid (blk_keep kbW (show W2.heap[w.heap.size + 1]? = some (.cells #[.slice A N cap] 27 (0, 0)) by rw [hW2, ← szW1]; exact heap_alloc_new _ _)); have D2 := Lib.hid (show W.heap[w.heap.size + 1 + 1]? = some (.cells #[.int .i64 way, .int .i64 len] 31 (0, 0)) by rw [hW, ← szW2]; exact heap_alloc_new _ _); have SZW := Lib.hid szW; clear szW1 kbW1 szW2 kbW2 szW kbW
  have x0 := cell_of_blk D0.out 0; have x1 := cell_of_blk D0.out 1; have hz_x := (Array.getElem?_eq_some_iff.1 D0.out).1; simp at x0 x1
  have y0 := cell_of_blk D1.out 0; have hz_y := (Array.getElem?_eq_some_iff.1 D1.out).1; simp at y0
  have p0 := cell_of_blk D2.out 0; have p1 := cell_of_blk D2.out 1; have hz_p := (Array.getElem?_eq_some_iff.1 D2.out).1; simp at p0 p1
  go_enter Tryz.func23, Tryz.ntmps23
  go_wp2_with fail
  rw [← hW1, ← hW2, ← hW]; clear hW1 hW2 hW
  go_wp2_with fail
  refine (HAR.out _ HB.out).mono ?_; rintro e v1 ⟨rfl, hb1⟩
  have HB1 := Lib.hid (below_more HB.out hb1)
  clear hb1 HAR x0 x1 hz_x y0 hz_y p0 p1 hz_p
  go_wp2_with fail
  go_ret2
  exact ⟨none, 0, [], rfl, Lib.hid (LnOwn.nil _ _), HB1.out⟩

set_option maxRecDepth 100000 in
set_option maxHeartbeats 32000000 in
theorem glinesK_any (L : Lm) (A : Option Addr) (cap : Nat) (ns zs : List Nd) (way len : Int) (w : World) (hl : LmOk w L) (hn : NdsAt w A ns) (hc1 : ns.length ≤ cap) (hc : cap ≤ maxLen) (hT : textErr L.li ns = 0) (hQ : regQ plainP L.li ns = (zs, 0)) (hP : pageErr way len = 0) :
    Calls Tryz.prog 23 #[.agg #[.int .i64 L.per, .slice L.A L.ms.length L.cap], .agg #[.slice A ns.length cap], .agg #[.int .i64 way, .int .i64 len]] w (GotLnE (lnL (lnF (cwN way) len (shpsI L.li (cwN way) zs)) (shpsI L.li (cwN way) zs).length, 0) w) := by
  have hp := plain_pln hT hQ
  have hB : ∀ s ∈ shpsI L.li (cwN way) zs, szB s := fun s hs => (shps_good (cwN way) hp s hs).szB
  have HAR := Lib.hid (fun wx (hbx : Below w.heap.size w wx) => arrQ_any way len L A cap ns zs wx (hl.below hbx) (hn.below hbx) hc1 hc hT hQ hP)
  have hz200 := (text_ok hp.ok).2.1
  have hkl : (shpsI L.li (cwN way) zs).length = (topsL zs).length := by unfold shpsI; rw [List.length_map]
  have hM2 : (shpsI L.li (cwN way) zs).length ≤ 200 := by
    have h1 : (topsL zs).length ≤ zs.length := by
      unfold topsL
      refine Nat.le_trans (List.length_filter_le _ _) ?_
      rw [List.length_range]; exact Nat.le_refl _
    omega
  obtain ⟨ks, hks⟩ : ∃ ks, ks = shpsI L.li (cwN way) zs := ⟨_, rfl⟩
  obtain ⟨cw, hcw⟩ : ∃ cw, cw = cwN way := ⟨_, rfl⟩
  rw [← hks, ← hcw] at HAR ⊢
  rw [← hks] at hB hM2
  have HLF := Lib.hid (lnF_ok (cw := cw) (len := len) hB)
  obtain ⟨f, hf⟩ : ∃ f, f = lnF cw len ks := ⟨_, rfl⟩
  rw [← hf] at HLF ⊢
  have HSM := Lib.hid (fun k (hk : k ≤ ks.length) => lnL_small f k (fun j hj => (HLF.out j (by omega)).2))
  have HBA := Lib.hid (fun k s (h : ks[k]? = some s) => blA_at (cw := cw) (len := len) h)
  unfold GotArr at HAR
  obtain ⟨M, hM⟩ : ∃ M, M = ks.length := ⟨_, rfl⟩
  have HMM := Lib.hid hM
  rw [← hM] at HAR HLF HSM hM2 ⊢
  obtain ⟨N, hN⟩ : ∃ N, N = ns.length := ⟨_, rfl⟩
  rw [← hN] at HAR hc1 ⊢
  unfold maxLen at hc
  clear hl hn hT hQ hP hp hB hz200 hkl hks hcw hf hM hN
  obtain ⟨W1, hW1⟩ : ∃ W', W' = w.alloc (.cells #[.int .i64 L.per, .slice L.A L.ms.length L.cap] 24) := ⟨_, rfl⟩; obtain ⟨W2, hW2⟩ : ∃ W', W' = W1.alloc (.cells #[.slice A N cap] 27) := ⟨_, rfl⟩; obtain ⟨W, hW⟩ : ∃ W', W' = W2.alloc (.cells #[.int .i64 way, .int .i64 len] 31) := ⟨_, rfl⟩; have szW1 : W1.heap.size = w.heap.size + 1 := (by rw [hW1]; simp); have kbW1 : Below w.heap.size w W1 := hW1 ▸ below_alloc _ _; have szW2 : W2.heap.size = w.heap.size + 1 + 1 := (by rw [hW2]; simp [szW1]); have kbW2 : Below W1.heap.size W1 W2 := hW2 ▸ below_alloc _ _; have szW : W.heap.size = w.heap.size + 1 + 1 + 1 := (by rw [hW]; simp [szW2]); have kbW : Below W2.heap.size W2 W := hW ▸ below_alloc _ _; have HB := Lib.hid (below_more (below_more kbW1 kbW2) kbW); have D0 := Lib.hid (blk_keep kbW (blk_keep kbW2 (show W1.heap[w.heap.size]? = some (.cells #[.int .i64 L.per, .slice L.A L.ms.length L.cap] 24 (0, 0)) by rw [hW1]; exact heap_alloc_new _ _))); have D1 := Lib.hid (blk_keep kbW (show W2.heap[w.heap.size + 1]? = some (.cells #[.slice A N cap] 27 (0, 0)) by rw [hW2, ← szW1]; exact heap_alloc_new _ _)); have D2 := Lib.hid (show W.heap[w.heap.size + 1 + 1]? = some (.cells #[.int .i64 way, .int .i64 len] 31 (0, 0)) by rw [hW, ← szW2]; exact heap_alloc_new _ _); have SZW := Lib.hid szW; clear szW1 kbW1 szW2 kbW2 szW kbW
  have x0 := cell_of_blk D0.out 0; have x1 := cell_of_blk D0.out 1; have hz_x := (Array.getElem?_eq_some_iff.1 D0.out).1; simp at x0 x1
  have y0 := cell_of_blk D1.out 0; have hz_y := (Array.getElem?_eq_some_iff.1 D1.out).1; simp at y0
  have p0 := cell_of_blk D2.out 0; have p1 := cell_of_blk D2.out 1; have hz_p := (Array.getElem?_eq_some_iff.1 D2.out).1; simp at p0 p1
  obtain ⟨iv, hiv, hzv, hsv, hbv⟩ := info_hid infoInt
  obtain ⟨iu, hiu, hzu, hsu, hbu⟩ := info_hid infoInts
  go_enter Tryz.func23, Tryz.ntmps23
  go_wp2_with fail
  rw [← hW1, ← hW2, ← hW]; clear hW1 hW2 hW
  go_wp2_with fail
  refine (HAR.out _ HB.out).mono ?_; rintro e v1 ⟨Ab, cb, args, rfl, hown, -, hb1⟩
  have HB1 := Lib.hid (below_more HB.out hb1)
  obtain ⟨hMc, hcm, -⟩ := own_len hown.out
  unfold maxLen at hcm
  have HCE := Lib.hid (fun (k : Nat) (s : Shp) (hs : ks[k]? = some s) => (show ∃ b, Ab = some ⟨b, 0, none⟩ ∧ b < v1.heap.size ∧ ∀ (c : Nat) (u : Value), (blCells (usV ks args k) (blA cw len ks k))[c]? = some u → v1.cell? ⟨b, k * 9 + c, none⟩ = some u from by
    have hk := (List.getElem?_eq_some_iff.1 hs).1
    have hm := HMM.out
    obtain ⟨b, h1, -, h2, -, -, h3, -⟩ := own_open hown.out (by omega)
    refine ⟨b, h1, h2, fun c u hu => h3 _ _ ?_⟩
    have hc9 := (List.getElem?_eq_some_iff.1 hu).1
    rw [cellsA_at _ _ _ _ k c hc9 M (by omega)]
    exact hu))
  clear hown hb1 HAR x0 x1 hz_x y0 hz_y p0 p1 hz_p D0 D1 D2
  go_wp2_with fail
  go_loopw [10, 25] (fun v i wr => ∃ (k n : Nat) (A' : Option Addr) (c' : Nat) (vs : List Value), k ≤ M ∧ i = .int .i64 k ∧ v = .slice A' n c' ∧ Hid (n = (lnL f k).length) ∧ Hid (LnOwn wr v1.heap.size (.slice A' n c') (lnL f k) vs) ∧ Hid (Below v1.heap.size v1 wr)) (fun _ i _ => M - (intOf i).toNat)
  case atStart => exact ⟨0, 0, none, 0, [], Nat.zero_le _, rfl, rfl, Lib.hid rfl, Lib.hid (LnOwn.nil _ _), Lib.hid (Below.refl _ _)⟩
  case round =>
    obtain ⟨k, n, A', c', vs, hk, rfl, rfl, hn, hln, hbw⟩ := hrel
    have HNN := Lib.hid hn.out
    have HLO := Lib.hid hln.out
    have HBR := Lib.hid hbw.out
    clear hn hln hbw
    by_cases hlt : k < M
    · obtain ⟨s, hs⟩ : ∃ s, ks[k]? = some s := ⟨_, List.getElem?_eq_getElem (by have := HMM.out; omega)⟩
      have hlf := HLF.out k hlt
      have hsm := HSM.out k (by omega)
      obtain ⟨b, rfl, hbV, hcell⟩ := HCE.out k s hs
      rw [usV_at hs] at hcell
      obtain ⟨arg, harg⟩ : ∃ a, a = args k := ⟨_, rfl⟩
      rw [← harg] at hcell
      have hls : lnL f (k + 1) = lnS (lnL f k) (f k) k := rfl
      obtain ⟨bl, hbl⟩ : ∃ bl, bl = blA cw len ks k := ⟨_, rfl⟩
      rw [← hbl] at hlf hcell
      obtain ⟨bs, ⟨n1, d1⟩, ⟨n2, d2⟩, ⟨n3, d3⟩, bln, bst⟩ := bl
      obtain ⟨l, hl⟩ : ∃ l, l = f k := ⟨_, rfl⟩
      obtain ⟨ls, hlL⟩ : ∃ ls, ls = lnL f k := ⟨_, rfl⟩
      rw [← hl, ← hlL] at hls hlf
      rw [← hlL] at HNN HLO hsm
      obtain ⟨hb1', hb2'⟩ := hlf
      dsimp only at hb1'
      subst hb1'
      have hnl := HNN.out
      rw [← hnl] at hb2' hsm
      have HLS := Lib.hid hls
      have HSQ := Lib.hid hsm.2
      have hnk := hsm.1
      have hki : (0 : Int) ≤ (k : Int) := by omega
      have hkl : (k : Int) < (M : Int) := by omega
      have z0 := (HBR.out.cell (p := ⟨b, k * 9 + 0, none⟩) hbV).trans (hcell 0 _ rfl)
      have z1 := (HBR.out.cell (p := ⟨b, k * 9 + 1, none⟩) hbV).trans (hcell 1 _ rfl)
      have z2 := (HBR.out.cell (p := ⟨b, k * 9 + 2, none⟩) hbV).trans (hcell 2 _ rfl)
      have z3 := (HBR.out.cell (p := ⟨b, k * 9 + 3, none⟩) hbV).trans (hcell 3 _ rfl)
      have z4 := (HBR.out.cell (p := ⟨b, k * 9 + 4, none⟩) hbV).trans (hcell 4 _ rfl)
      have z5 := (HBR.out.cell (p := ⟨b, k * 9 + 5, none⟩) hbV).trans (hcell 5 _ rfl)
      have z6 := (HBR.out.cell (p := ⟨b, k * 9 + 6, none⟩) hbV).trans (hcell 6 _ rfl)
      have z7 := (HBR.out.cell (p := ⟨b, k * 9 + 7, none⟩) hbV).trans (hcell 7 _ rfl)
      have z8 := (HBR.out.cell (p := ⟨b, k * 9 + 8, none⟩) hbV).trans (hcell 8 _ rfl)
      dsimp only at z0 z1 z2 z3 z4 z5 z6 z7 z8
      simp only [Nat.add_zero] at z0
      have hgr : b < wr.heap.size := by have := HBR.out.size; omega
      clear hcell harg hbl hl hlL hls hsm hs hnl
      go_upto_region 8 with fail
      obtain ⟨Y, hY⟩ : ∃ Y, Y = wr.alloc (.cells #[.iface (tyOf s) arg, .int .i64 n1, .int .i64 d1, .int .i64 n2, .int .i64 d2, .int .i64 n3, .int .i64 d3, .int .i64 (l : Int), .int .i64 bst] 123) := ⟨_, rfl⟩
      have hby : Below wr.heap.size wr Y := hY ▸ below_alloc _ _
      have T1 := Lib.hid (show Y.heap[wr.heap.size]? = some (.cells #[.iface (tyOf s) arg, .int .i64 n1, .int .i64 d1, .int .i64 n2, .int .i64 d2, .int .i64 n3, .int .i64 d3, .int .i64 (l : Int), .int .i64 bst] 123 (0, 0)) from hY ▸ heap_alloc_new _ _)
      have HOF := Lib.hid (HLO.out.off wr.heap.size (.inr (Nat.le_refl _)))
      have HLY := Lib.hid (HLO.out.below hby)
      have HBY := Lib.hid (HBR.out.trans (hby.mono HBR.out.size))
      have HVR := Lib.hid HBR.out.size
      rw [← hY]
      clear hY hby z0 z1 z2 z3 z4 z5 z6 z7 z8 HBR HLO hgr
      have q0 := cell_of_blk T1.out 0; have q1 := cell_of_blk T1.out 1; have q2 := cell_of_blk T1.out 2; have q3 := cell_of_blk T1.out 3; have q4 := cell_of_blk T1.out 4; have q5 := cell_of_blk T1.out 5; have q6 := cell_of_blk T1.out 6; have q7 := cell_of_blk T1.out 7; have q8 := cell_of_blk T1.out 8; have hz_q := (Array.getElem?_eq_some_iff.1 T1.out).1; simp at q0 q1 q2 q3 q4 q5 q6 q7 q8
      go_upto_if 34 with fail
      go_cut [10] (fun v wx => ∃ (nn : Nat) (A2 : Option Addr) (c2 : Nat) (ls2 : List (List Nat)) (vs2 : List Value), v = .slice A2 nn c2 ∧ nn ≤ k + 1 ∧ l < nn ∧ Hid (ls2.length = nn) ∧ Hid (lnL f (k + 1) = ls2.set l (ls2.getD l [] ++ [k])) ∧ Hid (∀ q ∈ ls2, q.length ≤ k) ∧ Hid (LnOwn wx v1.heap.size (.slice A2 nn c2) ls2 vs2) ∧ Hid (Below v1.heap.size v1 wx)
        ∧ Hid ((.slice A2 nn c2 : Value).ownBlock ≠ some wr.heap.size ∧ ∀ (j : Nat) (x : Value), vs2[j]? = some x → x.ownBlock ≠ some wr.heap.size) ∧ Hid (wx.heap[wr.heap.size]? = some (.cells #[.iface (tyOf s) arg, .int .i64 n1, .int .i64 d1, .int .i64 n2, .int .i64 d2, .int .i64 n3, .int .i64 d3, .int .i64 (l : Int), .int .i64 bst] 123 (0, 0))))
      case first =>
        by_cases hln : l = n
        · subst hln
          have HSA := Lib.hid (show ∀ (o : Obj), v1.heap.size ≤ (Y.alloc o).heap.size from fun o => by rw [World.size_alloc]; have := HBY.out.size; omega)
          have HNR := Lib.hid (new_row Y [.slice none 0 0] 49)
          have HN1 := Lib.hid (show ∀ u ∈ ([.slice none 0 0] : List Value), u.oneCell' = true from fun u hu => by simp at hu; subst hu; rfl)
          have HOY := Lib.hid (show Y.ownsRow v1.heap.size 49 1 (.slice A' l c') l vs by have := HLY.out.own; rw [← HNN.out] at this; exact this)
          go_wp2_with (first
            | (at_builtin; refine wpList_append_src _ rfl (.tmp 35) (.tmp 36) 45 rfl v1.heap.size 49 iu (.slice none 0 0) 1 24 Tryz.underlying45 hiu.out hzu.out hsu.out hbu.out rfl (by decide) (.slice A' l c') l vs rfl (HOY.out.alloc _) (some ⟨Y.heap.size, 0, none⟩) 1 1 [.slice none 0 0] rfl rfl (fun h => by cases h) HNR.out HN1.out (by unfold maxLen; omega) (by omega) (HSA.out _) (l + 1) rfl ?_))
          intro A9 c9 w9 own9 hg9 hn9
          have HMO := Lib.hid (HLY.out.more (below_alloc Y _) hg9 (hn9.imp id (fun h => h.trans (by rw [World.size_alloc]))) (by rw [← HNN.out]; exact own9))
          have HB9 := Lib.hid ((HBY.out.alloc HBY.out.size _).grown hg9 (HSA.out _) (fun g hg => (HOY.out.lt g hg).1))
          have hbx := (Array.getElem?_eq_some_iff.1 T1.out).1
          have HX9 := Lib.hid ((hg9.block wr.heap.size (by rw [World.size_alloc]; omega) (fun h => HOF.out.1 h.symm)).trans ((heap_alloc_other _ _ _ hbx).trans T1.out))
          have HO9 := Lib.hid (show (.slice A9 (l + 1) c9 : Value).ownBlock ≠ some wr.heap.size ∧ ∀ (j : Nat) (x : Value), (vs ++ [.slice none 0 0])[j]? = some x → x.ownBlock ≠ some wr.heap.size from ⟨fun e => by
              rcases hn9 with h | h
              · exact HOF.out.1 (h.symm.trans e)
              · rw [h] at e
                injection e with e; omega,
            fun j x hx => by
              rcases List.mem_append.1 (List.mem_of_getElem? hx) with hm | hm
              · obtain ⟨i, hi⟩ := List.getElem?_of_mem hm
                exact HOF.out.2 i x hi
              · rw [List.mem_singleton] at hm; subst hm
                intro e; cases e⟩)
          clear own9 hg9 hn9 HNR HN1 HSA HOY hbx
          go_wp2_with fail
          go_meet
          exact ⟨l + 1, A9, c9, ls ++ [[]], _, rfl, by omega, by omega, Lib.hid (by rw [List.length_append, ← HNN.out]; rfl), Lib.hid (by rw [HLS.out]; unfold lnS; simp only [if_pos HNN.out]), Lib.hid (fun q hq => by
            rcases List.mem_append.1 hq with hm | hm
            · exact HSQ.out q hm
            · rw [List.mem_singleton] at hm; subst hm; exact Nat.zero_le _), HMO, HB9, HO9, HX9⟩
        · have e1 : ((l : Int) == (n : Int)) = false := by simp; omega
          have e2 : (l == n) = false := by simp; omega
          have e3 : decide (l = n) = false := decide_eq_false hln
          have e4 : ¬(l : Int) = (n : Int) := by omega
          have HNE := Lib.hid (show ¬l = ls.length by rw [← HNN.out]; exact hln)
          go_wp2_with fail
          go_meet
          exact ⟨n, A', c', ls, vs, rfl, by omega, by omega, Lib.hid HNN.out.symm, Lib.hid (by rw [HLS.out]; unfold lnS; simp only [if_neg HNE.out]), HSQ, HLY, HBY, HOF, T1⟩
      case rest =>
        obtain ⟨nn, A2, c2, ls2, vs2, rfl, hnn, hl2, hlen2, hstep, hsq2, hlo2, hb2, hof2, hbx2⟩ := hcut
        obtain ⟨Z, rfl⟩ : ∃ Z, Z = wc := ⟨_, rfl⟩
        have HL2 := Lib.hid hlen2.out
        have HLO2 := Lib.hid hlo2.out
        have HOF2 := Lib.hid hof2.out
        have HB2 := Lib.hid hb2.out
        have B2 := Lib.hid hbx2.out
        have HSQ2 := Lib.hid hsq2.out
        have HSTP := Lib.hid hstep.out
        clear hlen2 hstep hsq2 hlo2 hb2 hof2 hbx2 HLY HBY HOF T1 HSQ HLS q0 q1 q2 q3 q4 q5 q6 q7 q8 hz_q
        have ho2 := HLO2.out.own
        rw [HL2.out] at ho2
        obtain ⟨G, rfl, -, hGZ, hnc2, hcm2, hcell2, hfr2⟩ := own_open ho2 (by omega)
        unfold maxLen at hcm2
        obtain ⟨x, hx⟩ : ∃ x, vs2[l]? = some x := ⟨_, List.getElem?_eq_getElem (by have := HLO2.out.len; have := HL2.out; omega)⟩
        obtain ⟨q, hq⟩ : ∃ q, ls2[l]? = some q := ⟨_, List.getElem?_eq_getElem (by have := HL2.out; omega)⟩
        have hgd : ls2.getD l [] = q := by rw [List.getD_eq_getElem?_getD, hq]; rfl
        have HST := Lib.hid (show lnL f (k + 1) = ls2.set l (q ++ [k]) by rw [HSTP.out, hgd])
        have hql : q.length ≤ k := HSQ2.out q (List.mem_of_getElem? hq)
        have zG : Z.cell? ⟨G, l, none⟩ = some x := hcell2 l x hx
        have HXI := Lib.hid (HLO2.out.inn l q x hq hx)
        have HXB := Lib.hid (HOF2.out.2 l x hx)
        have HAF := Lib.hid (fun (w1 w' : World) (hb : Below Z.heap.size Z w1) (hg : w1.grownBy w' x.ownBlock) => HLO2.out.after hx hb hg)
        have HPT := Lib.hid (fun (w1 w' : World) (x' : Value) (hb : Below Z.heap.size Z w1) (hg : w1.grownBy w' x.ownBlock) (hn : x'.ownBlock = x.ownBlock ∨ x'.ownBlock = some w1.heap.size) (own : w'.ownsRow v1.heap.size 3 1 x' (q.length + 1) (intsV q ++ [.int .i64 (k : Nat)])) => HLO2.out.put (i := k) hq hx (show (Value.slice (some ⟨G, 0, none⟩) nn c2).ownBlock = some G from rfl) hb hg hn own)
        have hl0 : (0 : Int) ≤ (l : Int) := by omega
        have hl1 : (l : Int) < (nn : Int) := by omega
        clear ho2 hcell2 hfr2 hx hq hgd HSTP HSQ2 HOF2
        go_upto_region 10 with fail
        have HZA := Lib.hid (show Below Z.heap.size Z ((Z.alloc (.cells #[.int .i64 (k : Nat)] 3)).drew) from (below_alloc _ _).drew)
        have HZB := Lib.hid (show v1.heap.size ≤ ((Z.alloc (.cells #[.int .i64 (k : Nat)] 3)).drew).heap.size from Nat.le_trans HB2.out.size HZA.out.size)
        have HZC := Lib.hid (HB2.out.trans (HZA.out.mono HB2.out.size))
        have HXA := Lib.hid (show ((Z.alloc (.cells #[.int .i64 (k : Nat)] 3)).drew).ownsRow v1.heap.size 3 1 x q.length (intsV q) from ownsRow_of_block HXI.out (fun g hg => HZA.out.block g (HXI.out.lt g hg).2))
        have HNR := Lib.hid (show ∀ ad, some (⟨Z.heap.size, 0, none⟩ : Addr) = some ad → ∀ (j : Nat) (u : Value), [Value.int .i64 (k : Nat)][j]? = some u → ((Z.alloc (.cells #[.int .i64 (k : Nat)] 3)).drew).cell? (ad.add j) = some u from fun ad e j u h => new_row Z [.int .i64 (k : Nat)] 3 ad e j u h)
        have HN1 := Lib.hid (show ∀ u ∈ ([.int .i64 (k : Nat)] : List Value), u.oneCell' = true from fun u hu => by simp at hu; subst hu; rfl)
        have q0 := cell_of_blk B2.out 0; have q1 := cell_of_blk B2.out 1; have q2 := cell_of_blk B2.out 2; have q3 := cell_of_blk B2.out 3; have q4 := cell_of_blk B2.out 4; have q5 := cell_of_blk B2.out 5; have q6 := cell_of_blk B2.out 6; have q7 := cell_of_blk B2.out 7; have q8 := cell_of_blk B2.out 8; have hz_q := (Array.getElem?_eq_some_iff.1 B2.out).1; simp at q0 q1 q2 q3 q4 q5 q6 q7 q8
        have zA7 := HZA.out.cell (p := ⟨wr.heap.size, 7, none⟩) hz_q
        have zAG := HZA.out.cell (p := ⟨G, l, none⟩) hGZ
        rw [q7] at zA7
        rw [zG] at zAG
        refine wp_region_tillZ (fun wx => wx.cell? ⟨wr.heap.size, 7, none⟩ = some (.int .i64 (l : Int)) ∧ wx.cell? ⟨G, l, none⟩ = some x) 12 (by kernel_rfl) ?_
        have HS : Z.drew.cell? ⟨wr.heap.size, 7, none⟩ = some (.int .i64 (l : Int)) ∧ Z.drew.cell? ⟨G, l, none⟩ = some x := ⟨q7, zG⟩
        refine tillZ_take (i := 0) (v := ?_) rfl (by kernel_rfl) (by kernel_rfl) (by kernel_rfl) (by kernel_rfl) (fun _ _ _ h => h) (Or.inl ⟨by rfl, ?_⟩) HS ?_
        case refine_2 => (intro wx hSw; obtain ⟨s1, s2⟩ := hSw; go_simp; try with_reducible rfl)
        refine tillZ_take (i := 1) (v := ?_) rfl (by kernel_rfl) (by kernel_rfl) (by kernel_rfl) (by kernel_rfl) (fun _ _ _ h => h) (Or.inl ⟨by rfl, ?_⟩) HS ?_
        case refine_2 => (intro wx hSw; obtain ⟨s1, s2⟩ := hSw; go_simp; try with_reducible rfl)
        refine tillZ_take (i := 2) (v := ?_) rfl (by kernel_rfl) (by kernel_rfl) (by kernel_rfl) (by kernel_rfl) (fun _ _ _ h => h) (Or.inl ⟨by rfl, ?_⟩) HS ?_
        case refine_2 => (intro wx hSw; obtain ⟨s1, s2⟩ := hSw; go_simp; try with_reducible rfl)
        refine tillZ_take (i := 3) (v := ?_) rfl (by kernel_rfl) (by kernel_rfl) (by kernel_rfl) (by kernel_rfl) (fun _ _ _ h => h) (Or.inl ⟨by rfl, ?_⟩) HS ?_
        case refine_2 => (intro wx hSw; obtain ⟨s1, s2⟩ := hSw; go_simp; try with_reducible rfl)
        refine tillZ_take (i := 4) (v := ?_) rfl (by kernel_rfl) (by kernel_rfl) (by kernel_rfl) (by kernel_rfl) (fun _ _ _ h => h) (Or.inl ⟨by rfl, ?_⟩) HS ?_
        case refine_2 => (intro wx hSw; obtain ⟨s1, s2⟩ := hSw; go_simp; try with_reducible rfl)
        refine tillZ_take (i := 5) (v := ?_) rfl (by kernel_rfl) (by kernel_rfl) (by kernel_rfl) (by kernel_rfl) (fun _ _ _ h => h) (Or.inl ⟨by rfl, ?_⟩) HS ?_
        case refine_2 => (intro wx hSw; obtain ⟨s1, s2⟩ := hSw; go_simp; try with_reducible rfl)
        refine tillZ_take (i := 6) (v := ?_) rfl (by kernel_rfl) (by kernel_rfl) (by kernel_rfl) (by kernel_rfl) (fun _ _ _ h => h) (Or.inl ⟨by rfl, ?_⟩) HS ?_
        case refine_2 => (intro wx hSw; obtain ⟨s1, s2⟩ := hSw; go_simp; try with_reducible rfl)
        refine tillZ_take (i := 7) (v := ?_) rfl (by kernel_rfl) (by kernel_rfl) (by kernel_rfl) (by kernel_rfl) (fun _ _ _ h => h) (Or.inl ⟨by rfl, ?_⟩) HS ?_
        case refine_2 => (intro wx hSw; obtain ⟨s1, s2⟩ := hSw; go_simp; try with_reducible rfl)
        refine tillZ_take (i := 8) (v := ?_) rfl (by kernel_rfl) (by kernel_rfl) (by kernel_rfl) (by kernel_rfl) (fun _ _ _ h => h) (Or.inl ⟨by rfl, ?_⟩) HS ?_
        case refine_2 => (intro wx hSw; obtain ⟨s1, s2⟩ := hSw; go_simp; try with_reducible rfl)
        refine tillZ_step (i := 9) (by kernel_rfl) rfl (fun K hK => ?_)
        go_simp
        refine hK.out _ _ (.inr ⟨zA7, zAG⟩) ?_
        clear hK K HS
        refine tillZ_step (i := 10) (by kernel_rfl) rfl (fun K hK => ?_)
        refine step_append_src2 _ rfl (.tmp 45) (.tmp 47) 49 rfl v1.heap.size 3 iv (.int .i64 0) 1 8 Tryz.underlying49 hiv.out hzv.out hsv.out hbv.out rfl (by decide) x q.length (intsV q) rfl HXA.out (some ⟨Z.heap.size, 0, none⟩) 1 1 [.int .i64 (k : Nat)] rfl rfl (fun h => by cases h) HNR.out HN1.out (by unfold maxLen; omega) (by omega) HZB.out (q.length + 1) rfl ?_
        intro A9 c9 w9 own9 hg9 hn9
        obtain ⟨a1, a2, a3, a4⟩ := HAF.out _ w9 HZA.out hg9
        have k9 := a4 _ _ _ HXB.out B2.out
        have k7 := cell_of_blk k9 7
        simp at k7
        have HP9 := Lib.hid (HPT.out _ w9 _ HZA.out hg9 hn9 own9)
        have HB9 := Lib.hid (HZC.out.grown hg9 HZB.out (fun g hg => (HXI.out.lt g hg).1))
        clear own9 hg9 hn9 a4 k9
        have HS : w9.cell? ⟨wr.heap.size, 7, none⟩ = some (.int .i64 (l : Int)) ∧ w9.cell? ⟨G, l, none⟩ = some x := ⟨k7, a1⟩
        refine hK.out _ _ (.inr HS) ?_
        clear hK K
        refine tillZ_take (i := 11) (v := ?_) rfl (by kernel_rfl) (by kernel_rfl) (by kernel_rfl) (by kernel_rfl) (fun _ _ _ h => h) (Or.inl ⟨by rfl, ?_⟩) HS ?_
        case refine_2 => (intro wx hSw; obtain ⟨s1, s2⟩ := hSw; go_simp; try with_reducible rfl)
        refine tillZ_step (i := 12) (by kernel_rfl) rfl (fun K hK => ?_)
        go_simp
        refine hK.out _ _ (.inl rfl) ?_
        clear hK K
        refine tillZ_done (by kernel_rfl) ?_ _
        have HL3 := Lib.hid (show LnOwn _ v1.heap.size _ (lnL f (k + 1)) _ by rw [HST.out]; exact HP9.out)
        have HB3 := Lib.hid (HB9.out.setCell (show v1.heap.size ≤ (⟨G, l, none⟩ : Addr).block from (HLO2.out.own.lt G rfl).1) (.slice A9 (q.length + 1) c9))
        have HN3 := Lib.hid (show nn = (lnL f (k + 1)).length by rw [HST.out, List.length_set]; exact HL2.out.symm)
        go_wp2_with fail
        go_roundw
        case rel => exact ⟨k + 1, nn, _, c2, _, by omega, by go_num, rfl, HN3, HL3, HB3⟩
        case measure => simp [intOf]; omega
    · obtain rfl : k = M := by omega
      have HBF := Lib.hid (below_more HB1.out HBR.out)
      have HOF := Lib.hid (HLO.out.base HB1.out.size)
      have hnn := HNN.out
      subst hnn
      go_wp2_with fail
      go_ret2
      exact ⟨A', c', vs, rfl, HOF, HBF.out⟩

end Go.Proofs.YtcijomljopbelaaGreat
