/-
  The boxes and rectangles of a node with kids (placed), by the specification.
-/
import Derived.Test.YtmiokllpdmmfhaaGreatLcC
import Derived.Test.YtmiokllpdmmfhaaGreatRsi
import Derived.Test.YtmiokllpdmmfhaaGreatTailM
import Derived.Deep.MidRow
import Derived.Deep.RegionHeld3
import Derived.Deep.DeepCutAuto
import Derived.Deep.CutBlock
namespace Go.Proofs.YtmiokllpdmmfhaaGreat
open Go.RowKit
theorem infoRc : (Tryz.prog.info? 174).map (fun i => (i.zero, i.size, i.bytes)) = some (some (.agg #[.int .i64 0, .int .i64 0, .int .i64 0, .int .i64 0]), 4, 32) := by kernel_rfl
set_option maxRecDepth 100000 in
set_option maxHeartbeats 32000000 in
theorem rplN_any (L : Lm) (way len : Int) (A : Option Addr) (cap : Nat) (zs : List Nd) (i : Nat) (u : Nd) (x y wd hg : Int) (w : World) (_hl : LmOk w L) (hn : NdsAt w A zs) (hc1 : zs.length ≤ cap) (hc : cap ≤ maxLen) (hz : zs.length ≤ 1000000) (hu : zs[i]? = some u) (hlf : leafB u.kind = false) (hud : 0 ≤ u.depth ∧ u.depth ≤ 4)
    (n : Nat) (ks0 : List Nat) (hks : kidsL zs i = ks0) (hnk : n = ks0.length) (hn1 : 1 ≤ n) (hn6 : n ≤ 6)
    (k5 O acr : Bool) (sp : Int) (hk5 : (u.kind == 5) = k5) (hO : (u.kind == 4) = O) (hacr : acrB u way = acr) (hsp : spcR u = sp)
    (ix iy iw ih : Int) (hI : if k5 then ix = x + 12 ∧ iy = y + 12 ∧ iw = wd - 24 ∧ ih = hg - 24 else ix = x ∧ iy = y ∧ iw = wd ∧ ih = hg)
    (hB : ((0 ≤ x ∧ x ≤ 1000000000) ∧ (0 ≤ y ∧ y ≤ 1000000000)) ∧ (0 ≤ wd ∧ wd ≤ 1000000000) ∧ (0 ≤ hg ∧ hg ≤ 1000000000))
    (hIW : 0 ≤ iw ∧ 0 ≤ ih) (ACC : Nat → List Pc) (POS : Nat → Int) (h0 : ACC 0 = if k5 then [⟨u, x, y, wd, hg⟩] else []) (hp0 : POS 0 = 0)
    (hPB : ∀ j, j ≤ n → 0 ≤ POS j ∧ POS j ≤ 1000000000) (hAB : ∀ j, j ≤ n → (ACC j).length ≤ 1000000)
    (HIC : ∀ (j kj : Nat), ks0[j]? = some kj → ∃ (sw sh X Y Wd Hg : Int) (Ls : List Pc),
      (∀ wx, Below w.heap.size w wx → Calls Tryz.prog 58 #[.agg #[.int .i64 L.per, .slice L.A L.ms.length L.cap], .agg #[.slice A zs.length cap], .agg #[.int .i64 way, .int .i64 len], .int .i64 kj, .bool false] wx (fun e w' => e = .returned (.tuple #[.int .i64 sw, .int .i64 sh]) ∧ Below wx.heap.size wx w'))
      ∧ (∀ wx, Below w.heap.size w wx → Calls Tryz.prog 112 #[.agg #[.int .i64 L.per, .slice L.A L.ms.length L.cap], .agg #[.slice A zs.length cap], .agg #[.int .i64 way, .int .i64 len], .int .i64 kj, .agg #[.int .i64 X, .int .i64 Y, .int .i64 Wd, .int .i64 Hg]] wx (GotPl Ls wx))
      ∧ ACC (j + 1) = ACC j ++ Ls ∧ rectB O acr j ix iy iw ih sw sh (POS j) X Y Wd Hg ∧ POS (j + 1) = posB O acr (POS j) sw sh sp ∧ (0 ≤ sw ∧ sw ≤ 1000000) ∧ (0 ≤ sh ∧ sh ≤ 1000000)) :
    Calls Tryz.prog 112 #[.agg #[.int .i64 L.per, .slice L.A L.ms.length L.cap], .agg #[.slice A zs.length cap], .agg #[.int .i64 way, .int .i64 len], .int .i64 i, .agg #[.int .i64 x, .int .i64 y, .int .i64 wd, .int .i64 hg]] w (GotPl (ACC n) w) := by
  have HKD := Lib.hid (fun wx (hbx : Below w.heap.size w wx) => show Calls Tryz.prog 60 #[.agg #[.slice A zs.length cap], .int .i64 i] wx (GotRow wx 3 1 n (intsV ks0)) by
    have := rkids_any A cap zs i (u.depth + 1) (i + 1) wx (hn.below hbx) hc1 hc (by omega) (.inl ⟨i, u, rfl, hu, rfl, rfl, by omega, by omega⟩)
    rw [kidsG_is hu, hks, ← hnk] at this; exact this)
  obtain ⟨b, o, rfl, hb, hva⟩ := hn i u hu
  have hin := (List.getElem?_eq_some_iff.1 hu).1
  have HIC := Lib.hid HIC
  have HPB := Lib.hid hPB
  have HAB := Lib.hid hAB
  have H0 := Lib.hid h0
  have HP0 := Lib.hid hp0
  have HNK := Lib.hid hnk
  obtain ⟨N, hN⟩ : ∃ N, N = zs.length := ⟨_, rfl⟩
  rw [← hN] at hin hc1 HKD HIC ⊢
  have HLE := Lib.hid (fun wx => leaf_is u.kind wx false hlf)
  have HSP := Lib.hid (fun wx => rspace_any u wx (by omega))
  have HAC := Lib.hid (fun wx => racross_any u way len wx)
  have hspb := spc_bd u (by omega)
  rw [hsp] at hspb HSP
  rw [hacr] at HAC
  have hI2 : (0 ≤ ix ∧ ix ≤ 1000000012) ∧ (0 ≤ iy ∧ iy ≤ 1000000012) ∧ (-24 ≤ iw ∧ iw ≤ 1000000000) ∧ (-24 ≤ ih ∧ ih ≤ 1000000000) := by
    cases k5
    · rw [if_neg (by decide)] at hI; omega
    · rw [if_pos rfl] at hI; omega
  have HI := Lib.hid hI
  have HU0 := Lib.hid (show u = ⟨u.kind, u.depth, u.sign, u.turn, u.mirror, u.state, u.min, u.max⟩ from rfl)
  obtain ⟨uk, ud, us, ut, um, ust, umn, umx⟩ := u
  obtain ⟨y0, y1, y2, y3, y4, y5, y6, y7⟩ := hva
  unfold Nd.val at HSP HAC
  dsimp only at y0 y1 y2 y3 y4 y5 y6 y7 HLE hk5 hO HSP HAC
  unfold maxLen at hc
  have hi0 : (0 : Int) ≤ (i : Int) := by omega
  have hiN : (i : Int) < (N : Int) := by omega
  clear _hl hn hu hlf hN hPB hAB h0 hp0 hnk hks hud hz hacr hsp hI HU0
  obtain ⟨W1, hW1⟩ : ∃ W', W' = w.alloc (.cells #[.int .i64 L.per, .slice L.A L.ms.length L.cap] 24) := ⟨_, rfl⟩; obtain ⟨W2, hW2⟩ : ∃ W', W' = W1.alloc (.cells #[.slice (some ⟨b, o, none⟩) N cap] 27) := ⟨_, rfl⟩; obtain ⟨W3, hW3⟩ : ∃ W', W' = W2.alloc (.cells #[.int .i64 way, .int .i64 len] 31) := ⟨_, rfl⟩; obtain ⟨W, hW⟩ : ∃ W', W' = W3.alloc (.cells #[.int .i64 x, .int .i64 y, .int .i64 wd, .int .i64 hg] 174) := ⟨_, rfl⟩; have szW1 : W1.heap.size = w.heap.size + 1 := (by rw [hW1]; simp); have kbW1 : Below w.heap.size w W1 := hW1 ▸ below_alloc _ _; have szW2 : W2.heap.size = w.heap.size + 1 + 1 := (by rw [hW2]; simp [szW1]); have kbW2 : Below W1.heap.size W1 W2 := hW2 ▸ below_alloc _ _; have szW3 : W3.heap.size = w.heap.size + 1 + 1 + 1 := (by rw [hW3]; simp [szW2]); have kbW3 : Below W2.heap.size W2 W3 := hW3 ▸ below_alloc _ _; have szW : W.heap.size = w.heap.size + 1 + 1 + 1 + 1 := (by rw [hW]; simp [szW3]); have kbW : Below W3.heap.size W3 W := hW ▸ below_alloc _ _; have HB := Lib.hid (below_more (below_more (below_more kbW1 kbW2) kbW3) kbW); have D0 := Lib.hid (blk_keep kbW (blk_keep kbW3 (blk_keep kbW2 (show W1.heap[w.heap.size]? = some (.cells #[.int .i64 L.per, .slice L.A L.ms.length L.cap] 24 (0, 0)) by rw [hW1]; exact heap_alloc_new _ _)))); have D1 := Lib.hid (blk_keep kbW (blk_keep kbW3 (show W2.heap[w.heap.size + 1]? = some (.cells #[.slice (some ⟨b, o, none⟩) N cap] 27 (0, 0)) by rw [hW2, ← szW1]; exact heap_alloc_new _ _))); have D2 := Lib.hid (blk_keep kbW (show W3.heap[w.heap.size + 1 + 1]? = some (.cells #[.int .i64 way, .int .i64 len] 31 (0, 0)) by rw [hW3, ← szW2]; exact heap_alloc_new _ _)); have D3 := Lib.hid (show W.heap[w.heap.size + 1 + 1 + 1]? = some (.cells #[.int .i64 x, .int .i64 y, .int .i64 wd, .int .i64 hg] 174 (0, 0)) by rw [hW, ← szW3]; exact heap_alloc_new _ _); have SZW := Lib.hid szW; clear szW1 kbW1 szW2 kbW2 szW3 kbW3 szW kbW
  have y0 := (HB.out.cell (p := ⟨b, _, none⟩) hb).trans y0
  have y1 := (HB.out.cell (p := ⟨b, _, none⟩) hb).trans y1
  have y2 := (HB.out.cell (p := ⟨b, _, none⟩) hb).trans y2
  have y3 := (HB.out.cell (p := ⟨b, _, none⟩) hb).trans y3
  have y4 := (HB.out.cell (p := ⟨b, _, none⟩) hb).trans y4
  have y5 := (HB.out.cell (p := ⟨b, _, none⟩) hb).trans y5
  have y6 := (HB.out.cell (p := ⟨b, _, none⟩) hb).trans y6
  have y7 := (HB.out.cell (p := ⟨b, _, none⟩) hb).trans y7
  have hbW : b < W.heap.size := by have := HB.out.size; omega
  have q0 := cell_of_blk D1.out 0; have hz_q := (Array.getElem?_eq_some_iff.1 D1.out).1; simp at q0
  obtain ⟨iv, hiv, hzv, hsv, hbv⟩ := info_hid infoBx
  obtain ⟨iu, hiu, hzu, hsu, hbu⟩ := info_hid infoRc
  go_enter Tryz.func112, Tryz.ntmps112
  go_upto_region 1 with fail
  rw [← hW1, ← hW2, ← hW3, ← hW]; clear hW1 hW2 hW3 hW
  go_upto_region 2 with fail
  obtain ⟨v2, hv2⟩ : ∃ v, v = W.alloc (.cells #[.int .i64 uk, .int .i64 ud, .int .i64 us, .int .i64 ut, .bool um, .int .i64 ust, .int .i64 umn, .int .i64 umx] 87) := ⟨_, rfl⟩
  have hb2 : Below W.heap.size W v2 := hv2 ▸ below_alloc _ _
  have HB2 := Lib.hid (below_more HB.out hb2)
  have DN := Lib.hid (show v2.heap[W.heap.size]? = some (.cells #[.int .i64 uk, .int .i64 ud, .int .i64 us, .int .i64 ut, .bool um, .int .i64 ust, .int .i64 umn, .int .i64 umx] 87 (0, 0)) from hv2 ▸ heap_alloc_new _ _)
  have D0 := Lib.hid (blk_keep hb2 D0.out)
  have D1 := Lib.hid (blk_keep hb2 D1.out)
  have D2 := Lib.hid (blk_keep hb2 D2.out)
  have D3 := Lib.hid (blk_keep hb2 D3.out)
  rw [← hv2]
  clear hv2 hb2 y0 y1 y2 y3 y4 y5 y6 y7 hbW q0 hz_q
  have n0 := cell_of_blk DN.out 0; have n1 := cell_of_blk DN.out 1; have n2 := cell_of_blk DN.out 2; have n3 := cell_of_blk DN.out 3; have n4 := cell_of_blk DN.out 4; have n5 := cell_of_blk DN.out 5; have n6 := cell_of_blk DN.out 6; have n7 := cell_of_blk DN.out 7; have hz_n := (Array.getElem?_eq_some_iff.1 DN.out).1; simp at n0 n1 n2 n3 n4 n5 n6 n7
  go_upto_region 3 with fail
  obtain ⟨V, hV⟩ : ∃ v, v = v2.alloc (.cells #[.int .i64 uk, .int .i64 us, .int .i64 ut, .bool um, .int .i64 ust, .int .i64 umn, .int .i64 umx, .int .i64 0, .int .i64 0, .int .i64 0, .int .i64 0, .int .i64 0, .int .i64 0, .int .i64 0, .int .i64 0] 82) := ⟨_, rfl⟩
  have hb3 : Below v2.heap.size v2 V := hV ▸ below_alloc _ _
  have HBV := Lib.hid (below_more HB2.out hb3)
  have DB := Lib.hid (show V.heap[v2.heap.size]? = some (.cells #[.int .i64 uk, .int .i64 us, .int .i64 ut, .bool um, .int .i64 ust, .int .i64 umn, .int .i64 umx, .int .i64 0, .int .i64 0, .int .i64 0, .int .i64 0, .int .i64 0, .int .i64 0, .int .i64 0, .int .i64 0] 82 (0, 0)) from hV ▸ heap_alloc_new _ _)
  have D0 := Lib.hid (blk_keep hb3 D0.out)
  have D1 := Lib.hid (blk_keep hb3 D1.out)
  have D2 := Lib.hid (blk_keep hb3 D2.out)
  have D3 := Lib.hid (blk_keep hb3 D3.out)
  have DN := Lib.hid (blk_keep hb3 DN.out)
  rw [← hV]
  clear hV hb3 n0 n1 n2 n3 n4 n5 n6 n7 hz_n
  have n0 := cell_of_blk DN.out 0; have hz_n := (Array.getElem?_eq_some_iff.1 DN.out).1; simp at n0
  go_wp2_with fail
  refine (HLE.out _).mono ?_; rintro e wl ⟨rfl, rfl⟩
  have r0 := cell_of_blk D3.out 0; have r1 := cell_of_blk D3.out 1; have r2 := cell_of_blk D3.out 2; have r3 := cell_of_blk D3.out 3; have hz_r := (Array.getElem?_eq_some_iff.1 D3.out).1; simp at r0 r1 r2 r3
  go_upto_region 8 with fail
  obtain ⟨I, hIw⟩ : ∃ v, v = V.alloc (.cells #[.int .i64 x, .int .i64 y, .int .i64 wd, .int .i64 hg] 174) := ⟨_, rfl⟩
  have hbI : Below V.heap.size V I := hIw ▸ below_alloc _ _
  have HBI := Lib.hid hbI
  have HSI := Lib.hid (show I.heap.size = V.heap.size + 1 from hIw ▸ World.size_alloc _ _)
  have DI := Lib.hid (show I.heap[V.heap.size]? = some (.cells #[.int .i64 x, .int .i64 y, .int .i64 wd, .int .i64 hg] 174 (0, 0)) from hIw ▸ heap_alloc_new _ _)
  rw [← hIw]
  clear hIw hbI n0 hz_n r0 r1 r2 r3 hz_r
  have DNI := Lib.hid (blk_keep HBI.out DN.out)
  have n0 := cell_of_blk DNI.out 0; have hz_n := (Array.getElem?_eq_some_iff.1 DNI.out).1; simp at n0
  go_upto_if 55 with fail
  clear n0 hz_n
  go_cut [14, 15] (fun ov av wx => Hid (Two wx (V.heap.size + 1) ov av (ACC 0)) ∧ Hid (wx.heap[V.heap.size]? = some (.cells #[.int .i64 ix, .int .i64 iy, .int .i64 iw, .int .i64 ih] 174 (0, 0))) ∧ Hid (Below V.heap.size V wx) ∧ Hid (V.heap.size + 1 ≤ wx.heap.size))
  case first =>
    cases k5
    case false =>
      have hI3 := HI.out
      rw [if_neg (by decide)] at hI3
      obtain ⟨e1, e2, e3, e4⟩ := hI3
      have HE := Lib.hid (show ACC 0 = [] by rw [H0.out]; rfl)
      go_wp2_with fail
      go_meet
      exact ⟨Lib.hid (by rw [HE.out]; exact Two.nil _ _), Lib.hid (by rw [e1, e2, e3, e4]; exact DI.out), HBI, Lib.hid (by rw [HSI.out]; exact Nat.le_refl _)⟩
    case true =>
      have hI3 := HI.out
      rw [if_pos rfl] at hI3
      obtain ⟨e1, e2, e3, e4⟩ := hI3
      have HE := Lib.hid (show ACC 0 = [] ++ [⟨⟨uk, ud, us, ut, um, ust, umn, umx⟩, x, y, wd, hg⟩] by rw [H0.out]; rfl)
      go_upto_region 9 with fail
      have HR9 : I.rangeAt v2.heap.size 0 [.int .i64 uk, .int .i64 us, .int .i64 ut, .bool um, .int .i64 ust, .int .i64 umn, .int .i64 umx, .int .i64 0, .int .i64 0, .int .i64 0, .int .i64 0, .int .i64 0, .int .i64 0, .int .i64 0, .int .i64 0] := fun j v h => by
        rw [Nat.zero_add, cell_of_blk (blk_keep HBI.out DB.out) j]; simpa using h
      have HNR := Lib.hid (new_row I [.int .i64 uk, .int .i64 us, .int .i64 ut, .bool um, .int .i64 ust, .int .i64 umn, .int .i64 umx, .int .i64 0, .int .i64 0, .int .i64 0, .int .i64 0, .int .i64 0, .int .i64 0, .int .i64 0, .int .i64 0] 82)
      have HN1 := Lib.hid (show ∀ u ∈ ([.int .i64 uk, .int .i64 us, .int .i64 ut, .bool um, .int .i64 ust, .int .i64 umn, .int .i64 umx, .int .i64 0, .int .i64 0, .int .i64 0, .int .i64 0, .int .i64 0, .int .i64 0, .int .i64 0, .int .i64 0] : List Value), u.oneCell' = true from bx_one (boxZ ⟨⟨uk, ud, us, ut, um, ust, umn, umx⟩, x, y, wd, hg⟩))
      have HSA := Lib.hid (show ∀ (o : Obj), V.heap.size + 1 ≤ (I.alloc o).heap.size from fun o => by rw [World.size_alloc]; have := HSI.out; omega)
      refine wp_region_lit ?_
      refine wpList_plain rfl (fun K hK => ?_)
      go_big_move
      refine hK _ _ ?_
      clear hK K
      refine wpList_load_mid rfl 82 (.tmp 13) rfl v2.heap.size 0 rfl [.int .i64 uk, .int .i64 us, .int .i64 ut, .bool um, .int .i64 ust, .int .i64 umn, .int .i64 umx, .int .i64 0, .int .i64 0, .int .i64 0, .int .i64 0, .int .i64 0, .int .i64 0, .int .i64 0, .int .i64 0] _ HR9 Tryz.underlying82 rfl (by kernel_rfl) ?_
      clear HR9
      go_wp2_with (first
        | (at_builtin; refine wpList_append_src _ rfl (.tmp 56) (.tmp 58) 51 rfl (V.heap.size + 1) 82 iv (.agg #[.int .i64 0, .int .i64 0, .int .i64 0, .bool false, .int .i64 0, .int .i64 0, .int .i64 0, .int .i64 0, .int .i64 0, .int .i64 0, .int .i64 0, .int .i64 0, .int .i64 0, .int .i64 0, .int .i64 0]) 15 120 Tryz.underlying51 hiv.out hzv.out hsv.out hbv.out rfl (by decide) (.slice none 0 0) 0 [] rfl (World.ownsRow_nil _ _ _ _) (some ⟨I.heap.size, 0, none⟩) 1 1 [.int .i64 uk, .int .i64 us, .int .i64 ut, .bool um, .int .i64 ust, .int .i64 umn, .int .i64 umx, .int .i64 0, .int .i64 0, .int .i64 0, .int .i64 0, .int .i64 0, .int .i64 0, .int .i64 0, .int .i64 0] rfl rfl (fun h => by cases h) HNR.out HN1.out (by unfold maxLen; omega) (by omega) (HSA.out _) 1 rfl ?_))
      intro A4 c4 w4 own4 hg4 hn4
      have hb4 : Below I.heap.size I w4 := (below_alloc I _).grown hg4 (by rw [World.size_alloc]; omega) (fun g hg => by cases hg)
      have HB4 := Lib.hid hb4
      have HW4 := Lib.hid own4
      have HG4 := Lib.hid hg4
      have HM4 := Lib.hid hn4
      clear own4 hg4 hn4 hb4 HNR HN1 HSA
      have D34 := Lib.hid (blk_keep HB4.out (blk_keep HBI.out D3.out))
      have r0 := cell_of_blk D34.out 0; have r1 := cell_of_blk D34.out 1; have r2 := cell_of_blk D34.out 2; have r3 := cell_of_blk D34.out 3; have hz_r := (Array.getElem?_eq_some_iff.1 D34.out).1; simp at r0 r1 r2 r3
      go_upto_region 10 with fail
      have HNR := Lib.hid (new_row w4 [.int .i64 x, .int .i64 y, .int .i64 wd, .int .i64 hg] 174)
      have HN1 := Lib.hid (show ∀ u ∈ ([.int .i64 x, .int .i64 y, .int .i64 wd, .int .i64 hg] : List Value), u.oneCell' = true from fun u hu => by simp at hu; rcases hu with rfl | rfl | rfl | rfl <;> rfl)
      have HSA := Lib.hid (show ∀ (o : Obj), V.heap.size + 1 ≤ (w4.alloc o).heap.size from fun o => by rw [World.size_alloc]; have := HSI.out; have := HB4.out.size; omega)
      go_wp2_with (first
        | (at_builtin; refine wpList_append_src _ rfl (.tmp 60) (.tmp 62) 170 rfl (V.heap.size + 1) 174 iu (.agg #[.int .i64 0, .int .i64 0, .int .i64 0, .int .i64 0]) 4 32 Tryz.underlying170 hiu.out hzu.out hsu.out hbu.out rfl (by decide) (.slice none 0 0) 0 [] rfl (World.ownsRow_nil _ _ _ _) (some ⟨w4.heap.size, 0, none⟩) 1 1 [.int .i64 x, .int .i64 y, .int .i64 wd, .int .i64 hg] rfl rfl (fun h => by cases h) HNR.out HN1.out (by unfold maxLen; omega) (by omega) (HSA.out _) 1 rfl ?_))
      intro A5 c5 w5 own5 hg5 hn5
      have hb5 : Below w4.heap.size w4 w5 := (below_alloc w4 _).grown hg5 (by rw [World.size_alloc]; omega) (fun g hg => by cases hg)
      have HB5 := Lib.hid (below_more HB4.out hb5)
      have HTW := Lib.hid (show Two w5 (V.heap.size + 1) (.slice A4 1 c4) (.slice A5 1 c5) ([] ++ [⟨⟨uk, ud, us, ut, um, ust, umn, umx⟩, x, y, wd, hg⟩]) from by
        refine ⟨ownsRow_of_block HW4.out (fun g hg => hb5.block g (HW4.out.lt g hg).2), own5, fun g h1 h2 => ?_⟩
        have hlt := (HW4.out.lt g h1).2
        rcases hn5 with h3 | h3
        · rw [h3] at h2; cases h2
        · rw [h3] at h2; injection h2 with h2; omega)
      clear own5 hg5 hn5 hb5 HNR HN1 HSA HW4 HG4 HM4 r0 r1 r2 r3 hz_r D34
      have D35 := Lib.hid (blk_keep HB5.out (blk_keep HBI.out D3.out))
      have DI5 := Lib.hid (blk_keep HB5.out DI.out)
      have r0 := cell_of_blk D35.out 0; have r1 := cell_of_blk D35.out 1; have r2 := cell_of_blk D35.out 2; have r3 := cell_of_blk D35.out 3; have hz_r := (Array.getElem?_eq_some_iff.1 D35.out).1; simp at r0 r1 r2 r3
      have q0 := cell_of_blk DI5.out 0; have qf0 := free_of_blk DI5.out 0; have q1 := cell_of_blk DI5.out 1; have qf1 := free_of_blk DI5.out 1; have q2 := cell_of_blk DI5.out 2; have qf2 := free_of_blk DI5.out 2; have q3 := cell_of_blk DI5.out 3; have qf3 := free_of_blk DI5.out 3; have hz_q := (Array.getElem?_eq_some_iff.1 DI5.out).1; simp at q0 q1 q2 q3
      obtain ⟨⟨⟨b1, b2⟩, b3, b4⟩, ⟨b5, b6⟩, b7, b8⟩ := hB
      go_wp2_with fail
      go_meet
      have e9 := heap_setCell_same _ V.heap.size 3 (.int .i64 ih) _ _ (heap_setCell_same _ V.heap.size 2 (.int .i64 iw) _ _ (heap_setCell_same _ V.heap.size 1 (.int .i64 iy) _ _ (heap_setCell_same w5 V.heap.size 0 (.int .i64 ix) _ _ DI5.out)))
      have hbl : Below V.heap.size V w5 := below_more HBI.out HB5.out
      have hz5 : V.heap.size + 1 ≤ w5.heap.size := by have := HSI.out; have := HB5.out.size; omega
      rw [← e1, ← e2, ← e3, ← e4, HE.out]
      exact ⟨Lib.hid ((((HTW.out.set (by omega) 0 _).set (by omega) 1 _).set (by omega) 2 _).set (by omega) 3 _), Lib.hid (by simpa using e9), Lib.hid ((((hbl.setCell (Nat.le_refl _) _).setCell (Nat.le_refl _) _).setCell (Nat.le_refl _) _).setCell (Nat.le_refl _) _), Lib.hid (by simpa using hz5)⟩
  case rest =>
    obtain ⟨htw, hdi, hbc, hsc⟩ := hcut
    obtain ⟨c0, rfl⟩ : ∃ z, z = wc := ⟨_, rfl⟩
    have HT := Lib.hid htw.out
    have DI := Lib.hid hdi.out
    have HBC := Lib.hid hbc.out
    have HSC := Lib.hid hsc.out
    clear htw hdi hbc hsc HI hB
    have E1 := Lib.hid (blk_keep HBC.out D1.out)
    have q0 := cell_of_blk E1.out 0; have hz_q := (Array.getElem?_eq_some_iff.1 E1.out).1; simp at q0
    go_wp2_with fail
    refine (HKD.out _ (below_more HBV.out HBC.out)).mono ?_; rintro e w1 ⟨A1, c1, rfl, hown, hb1⟩
    obtain ⟨G, rfl, hG1, hG2, hG3, hG4, hcell, -⟩ := own_open hown (by omega)
    have HKO := Lib.hid (fun (j kj : Nat) (hj : ks0[j]? = some kj) => show w1.cell? ⟨G, j, none⟩ = some (.int .i64 (kj : Int)) from hcell j _ (by unfold intsV; rw [List.getElem?_map, hj]; rfl))
    have HT1 := Lib.hid (HT.out.below hb1)
    have HBC1 := Lib.hid (HBC.out.trans (hb1.mono (show V.heap.size ≤ c0.heap.size by have := HSC.out; omega)))
    have DI1 := Lib.hid (blk_keep hb1 DI.out)
    have HOF := Lib.hid (show u14.ownBlock ≠ some G ∧ u15.ownBlock ≠ some G from ⟨fun h => by have := (HT.out.lt.1 G h).2; omega, fun h => by have := (HT.out.lt.2 G h).2; omega⟩)
    have HG2 := Lib.hid hG2
    have HSV1 := Lib.hid (show V.heap.size + 1 ≤ w1.heap.size by have := HSC.out; have := hb1.size; omega)
    unfold maxLen at hG4
    clear hown hb1 hcell hG1 hG2 HT DI HBC HSC E1 q0 hz_q HKD
    go_wp2_with fail
    go_loopw [14, 15, 18, 19] (fun ov av ps iw' wr => ∃ j, j ≤ n ∧ iw' = .int .i64 j ∧ Hid (ps = .int .i64 (POS j)) ∧ Hid (Two wr (V.heap.size + 1) ov av (ACC j)) ∧ Hid (ov.ownBlock ≠ some G ∧ av.ownBlock ≠ some G) ∧ Hid (wr.heap[G]? = w1.heap[G]? ∧ G < wr.heap.size) ∧ Hid (Below (V.heap.size + 1) w1 wr)) (fun _ _ _ iw' _ => n - (intOf iw').toNat)
    case atStart => exact ⟨0, Nat.zero_le _, rfl, Lib.hid (by rw [HP0.out]), HT1, HOF, Lib.hid ⟨rfl, HG2.out⟩, Lib.hid (Below.refl _ _)⟩
    case round =>
      obtain ⟨j, hj, rfl, hps, htw, hof, hkb, hbw⟩ := hrel
      have hps2 := hps.out
      subst hps2
      have HT := Lib.hid htw.out
      have HOF := Lib.hid hof.out
      have HKB := Lib.hid hkb.out
      have HBW := Lib.hid hbw.out
      clear hps htw hof hkb hbw HT1
      have HBV1 := Lib.hid (HBC1.out.trans (HBW.out.mono (by omega)))
      have HBR := Lib.hid (below_more HBV.out HBV1.out)
      by_cases hlt : j < n
      · obtain ⟨kj, hkj⟩ : ∃ kj, ks0[j]? = some kj := ⟨_, List.getElem?_eq_getElem (by have := HNK.out; omega)⟩
        obtain ⟨sw, sh, X, Y, Wd, Hg, Ls, hsz, hpl, hac, hrc, hpo, hsw, hsh⟩ := HIC.out j kj hkj
        have HSZ := Lib.hid hsz
        obtain ⟨q, hq⟩ : ∃ q, q = Ls.length := ⟨_, rfl⟩
        have HPC := Lib.hid (fun wx (hb : Below w.heap.size w wx) => show Calls Tryz.prog 112 #[.agg #[.int .i64 L.per, .slice L.A L.ms.length L.cap], .agg #[.slice (some ⟨b, o, none⟩) N cap], .agg #[.int .i64 way, .int .i64 len], .int .i64 kj, .agg #[.int .i64 X, .int .i64 Y, .int .i64 Wd, .int .i64 Hg]] wx (fun e w' => ∃ A c B d, e = .returned (.tuple #[.slice A q c, .slice B q d])
  ∧ Hid (w'.ownsRow wx.heap.size 82 15 (.slice A q c) q (Ls.flatMap fun p => (boxZ p).cells)) ∧ Hid (w'.ownsRow wx.heap.size 174 4 (.slice B q d) q (Ls.flatMap rcC)) ∧ Below wx.heap.size wx w') from by
          have := hpl wx hb
          unfold GotPl at this
          rw [← hq] at this; exact this)
        have HRC := Lib.hid hrc
        have HPO := Lib.hid hpo
        have HAC2 := Lib.hid hac
        have HQ := Lib.hid hq
        have HMQ := Lib.hid (show (ACC j).length + q ≤ 1000000 by have := HAB.out (j + 1) (by omega); rw [hac, List.length_append, ← hq] at this; exact this)
        have hpb := HPB.out j hj
        obtain ⟨pj, hpj⟩ : ∃ p, p = POS j := ⟨_, rfl⟩
        rw [← hpj] at hpb HRC HPO ⊢
        have z : wr.cell? ⟨G, j, none⟩ = some (.int .i64 (kj : Int)) := (World.cell?_of_block (w := w1) HKB.out.1).trans (HKO.out j kj hkj)
        have hG := HKB.out.2
        have hj0 : (0 : Int) ≤ (j : Int) := by omega
        have hjn : (j : Int) < (n : Int) := by omega
        obtain ⟨kz, hkz⟩ : ∃ kz : Int, kz = (kj : Int) := ⟨_, rfl⟩
        rw [← hkz] at z HSZ HPC
        have F0 := Lib.hid (blk_keep HBV1.out D0.out)
        have F1 := Lib.hid (blk_keep HBV1.out D1.out)
        have F2 := Lib.hid (blk_keep HBV1.out D2.out)
        have FN := Lib.hid (blk_keep HBV1.out DN.out)
        have FI := Lib.hid ((HBW.out.block V.heap.size (by omega)).trans DI1.out)
        have x0 := cell_of_blk F0.out 0; have x1 := cell_of_blk F0.out 1; have hz_x := (Array.getElem?_eq_some_iff.1 F0.out).1; simp at x0 x1
        have y0 := cell_of_blk F1.out 0; have hz_y := (Array.getElem?_eq_some_iff.1 F1.out).1; simp at y0
        have p0 := cell_of_blk F2.out 0; have p1 := cell_of_blk F2.out 1; have hz_p := (Array.getElem?_eq_some_iff.1 F2.out).1; simp at p0 p1
        clear hkj hsz hpl hac hrc hpo hq hpj hkz
        go_wp2_with fail
        refine wp_region_later (by kernel_rfl) (by kernel_rfl) ?_; (repeat (first | go_big_quiet_step (((go_at_call 58; exact Calls.later _ (HSZ.out _ (below_more HBR.out (Later.below _)))))) | quiet_step (((go_at_call 58; exact Calls.later _ (HSZ.out _ (below_more HBR.out (Later.below _)))))))); refine wpQuiet_nil ?_; rintro _ ⟨s, rfl⟩
        have HB2 := Lib.hid s.below
        obtain ⟨w2, hw2⟩ : ∃ w2, w2 = s.w := ⟨_, rfl⟩
        rw [← hw2] at HB2 ⊢
        clear hw2 s x0 x1 hz_x y0 hz_y p0 p1 hz_p
        have z := (HB2.out.cell (p := ⟨G, j, none⟩) hG).trans z
        have HG9 := Lib.hid (show G < w2.heap.size by have := HB2.out.size; omega)
        have HZ := Lib.hid z
        have F0 := Lib.hid (blk_keep HB2.out F0.out)
        have F1 := Lib.hid (blk_keep HB2.out F1.out)
        have F2 := Lib.hid (blk_keep HB2.out F2.out)
        have FN := Lib.hid (blk_keep HB2.out FN.out)
        have FI := Lib.hid (blk_keep HB2.out FI.out)
        clear z hG
        have r0 := cell_of_blk FI.out 0; have r1 := cell_of_blk FI.out 1; have r2 := cell_of_blk FI.out 2; have r3 := cell_of_blk FI.out 3; have hz_r := (Array.getElem?_eq_some_iff.1 FI.out).1; simp at r0 r1 r2 r3
        go_upto_block 2 with fail
        obtain ⟨K, hK⟩ : ∃ K, K = w2.alloc (.cells #[.int .i64 ix, .int .i64 iy, .int .i64 sw, .int .i64 sh] 174) := ⟨_, rfl⟩
        have hbK : Below w2.heap.size w2 K := hK ▸ below_alloc _ _
        have HBK := Lib.hid hbK
        have DK := Lib.hid (show K.heap[w2.heap.size]? = some (.cells #[.int .i64 ix, .int .i64 iy, .int .i64 sw, .int .i64 sh] 174 (0, 0)) from hK ▸ heap_alloc_new _ _)
        have HKZ := Lib.hid (show K.heap.size = w2.heap.size + 1 from hK ▸ World.size_alloc _ _)
        have G2 := Lib.hid (blk_keep HBK.out F2.out)
        have GN := Lib.hid (blk_keep HBK.out FN.out)
        have GI := Lib.hid (blk_keep HBK.out FI.out)
        rw [← hK]
        clear hK hbK r0 r1 r2 r3 hz_r
        go_cut [18] (fun ps wx => Hid (ps = .int .i64 (POS (j + 1))) ∧ Hid (wx.heap[w2.heap.size]? = some (.cells #[.int .i64 X, .int .i64 Y, .int .i64 Wd, .int .i64 Hg] 174 (0, 0))) ∧ Hid (Below w2.heap.size w2 wx) ∧ Hid (w2.heap.size + 1 ≤ wx.heap.size))
        case first =>
          have hkz := HKZ.out
          cases O
          case true =>
            by_cases hj1 : j = 1
            · have hr := HRC.out
              have hp := HPO.out
              unfold rectB at hr
              unfold posB at hp
              rw [if_pos rfl, if_pos hj1] at hr
              rw [if_pos rfl] at hp
              obtain ⟨r1, r2, r3, r4⟩ := hr
              have hj2 : ((j : Int) == 1) = true := by simp [hj1]
              have t4 : iw.tdiv 4 = iw / 4 := Int.tdiv_eq_ediv_of_nonneg hIW.1
              have t5 : ih.tdiv 4 = ih / 4 := Int.tdiv_eq_ediv_of_nonneg hIW.2
              have t6 : iw.tdiv 2 = iw / 2 := Int.tdiv_eq_ediv_of_nonneg hIW.1
              have t7 : ih.tdiv 2 = ih / 2 := Int.tdiv_eq_ediv_of_nonneg hIW.2
              have HR := Lib.hid (⟨r1, r2, r3, r4, hp⟩ : _ ∧ _ ∧ _ ∧ _ ∧ _)
              clear r1 r2 r3 r4 hp HRC HPO hj1
              have n0 := cell_of_blk GN.out 0; have hz_n := (Array.getElem?_eq_some_iff.1 GN.out).1; simp at n0
              have r0 := cell_of_blk GI.out 0; have r1 := cell_of_blk GI.out 1; have r2 := cell_of_blk GI.out 2; have r3 := cell_of_blk GI.out 3; have hz_r := (Array.getElem?_eq_some_iff.1 GI.out).1; simp at r0 r1 r2 r3
              have q0 := cell_of_blk DK.out 0; have qf0 := free_of_blk DK.out 0; have q1 := cell_of_blk DK.out 1; have qf1 := free_of_blk DK.out 1; have q2 := cell_of_blk DK.out 2; have qf2 := free_of_blk DK.out 2; have q3 := cell_of_blk DK.out 3; have qf3 := free_of_blk DK.out 3; have hz_q := (Array.getElem?_eq_some_iff.1 DK.out).1; simp at q0 q1 q2 q3
              go_wp2_with fail
              go_meet
              have e9 := heap_setCell_same _ w2.heap.size 3 (.int .i64 (ih / 2)) _ _ (heap_setCell_same _ w2.heap.size 2 (.int .i64 (iw / 2)) _ _ (heap_setCell_same _ w2.heap.size 1 (.int .i64 (iy + ih / 4)) _ _ (heap_setCell_same K w2.heap.size 0 (.int .i64 (ix + iw / 4)) _ _ DK.out)))
              obtain ⟨r1, r2, r3, r4, hp⟩ := HR.out
              exact ⟨Lib.hid (by rw [hp]), Lib.hid (by rw [r1, r2, r3, r4]; simpa using e9), Lib.hid ((((HBK.out.setCell (Nat.le_refl _) _).setCell (Nat.le_refl _) _).setCell (Nat.le_refl _) _).setCell (Nat.le_refl _) _), Lib.hid (by simp; omega)⟩
            · have hr := HRC.out
              have hp := HPO.out
              unfold rectB at hr
              unfold posB at hp
              rw [if_pos rfl, if_neg hj1] at hr
              rw [if_pos rfl] at hp
              obtain ⟨r1, r2, r3, r4⟩ := hr
              have hj2 : ((j : Int) == 1) = false := by simp; omega
              have HR := Lib.hid (⟨r1, r2, r3, r4, hp⟩ : _ ∧ _ ∧ _ ∧ _ ∧ _)
              clear r1 r2 r3 r4 hp HRC HPO hj1
              have n0 := cell_of_blk GN.out 0; have hz_n := (Array.getElem?_eq_some_iff.1 GN.out).1; simp at n0
              go_wp2_with fail
              go_meet
              obtain ⟨r1, r2, r3, r4, hp⟩ := HR.out
              exact ⟨Lib.hid (by rw [hp]), Lib.hid (by rw [r1, r2, r3, r4]; exact DK.out), HBK, Lib.hid (by rw [hkz]; exact Nat.le_refl _)⟩
          case false =>
            have hp := HPO.out
            unfold posB at hp
            rw [if_neg (by decide)] at hp
            have HPO := Lib.hid hp
            clear hp
            have n0 := cell_of_blk GN.out 0; have n1 := cell_of_blk GN.out 1; have n2 := cell_of_blk GN.out 2; have n3 := cell_of_blk GN.out 3; have n4 := cell_of_blk GN.out 4; have n5 := cell_of_blk GN.out 5; have n6 := cell_of_blk GN.out 6; have n7 := cell_of_blk GN.out 7; have hz_n := (Array.getElem?_eq_some_iff.1 GN.out).1; simp at n0 n1 n2 n3 n4 n5 n6 n7
            have p0 := cell_of_blk G2.out 0; have p1 := cell_of_blk G2.out 1; have hz_p := (Array.getElem?_eq_some_iff.1 G2.out).1; simp at p0 p1
            go_wp2_with fail
            refine (HAC.out _).mono ?_; rintro e wa ⟨rfl, hba⟩
            have HBA := Lib.hid (below_more HBK.out hba)
            have DK := Lib.hid (blk_keep hba DK.out)
            have GN := Lib.hid (blk_keep hba GN.out)
            have GI := Lib.hid (blk_keep hba GI.out)
            have hza := hba.size
            clear hba n0 n1 n2 n3 n4 n5 n6 n7 hz_n p0 p1 hz_p
            have r0 := cell_of_blk GI.out 0; have r1 := cell_of_blk GI.out 1; have r2 := cell_of_blk GI.out 2; have r3 := cell_of_blk GI.out 3; have hz_r := (Array.getElem?_eq_some_iff.1 GI.out).1; simp at r0 r1 r2 r3
            have q0 := cell_of_blk DK.out 0; have qf0 := free_of_blk DK.out 0; have q1 := cell_of_blk DK.out 1; have qf1 := free_of_blk DK.out 1; have q2 := cell_of_blk DK.out 2; have qf2 := free_of_blk DK.out 2; have q3 := cell_of_blk DK.out 3; have qf3 := free_of_blk DK.out 3; have hz_q := (Array.getElem?_eq_some_iff.1 DK.out).1; simp at q0 q1 q2 q3
            cases acr
            case true =>
              have hr := HRC.out
              unfold rectB at hr
              rw [if_neg (by decide), if_pos rfl] at hr
              obtain ⟨r0, r1, r2, r3, r4⟩ := hr
              have hp := HPO.out
              rw [if_pos rfl] at hp
              have HR := Lib.hid (⟨r1, r2, r3, r4, hp⟩ : _ ∧ _ ∧ _ ∧ _ ∧ _)
              have t4 : (ih - sh).tdiv 2 = (ih - sh) / 2 := Int.tdiv_eq_ediv_of_nonneg (by omega)
              clear r1 r2 r3 r4 hp HRC HPO
              go_upto_region 26 with fail
              have e9 := heap_setCell_same _ w2.heap.size 3 (.int .i64 sh) _ _ (heap_setCell_same _ w2.heap.size 2 (.int .i64 sw) _ _ (heap_setCell_same _ w2.heap.size 1 (.int .i64 (iy + (ih - sh) / 2)) _ _ (heap_setCell_same wa w2.heap.size 0 (.int .i64 (ix + pj)) _ _ DK.out)))
              have hb9 : Below w2.heap.size w2 ((((wa.setCell ⟨w2.heap.size, 0, none⟩ (.int .i64 (ix + pj))).setCell ⟨w2.heap.size, 1, none⟩ (.int .i64 (iy + (ih - sh) / 2))).setCell ⟨w2.heap.size, 2, none⟩ (.int .i64 sw)).setCell ⟨w2.heap.size, 3, none⟩ (.int .i64 sh)) := (((HBA.out.setCell (Nat.le_refl _) _).setCell (Nat.le_refl _) _).setCell (Nat.le_refl _) _).setCell (Nat.le_refl _) _
              obtain ⟨w9, hw9⟩ : ∃ w', w' = (((wa.setCell ⟨w2.heap.size, 0, none⟩ (.int .i64 (ix + pj))).setCell ⟨w2.heap.size, 1, none⟩ (.int .i64 (iy + (ih - sh) / 2))).setCell ⟨w2.heap.size, 2, none⟩ (.int .i64 sw)).setCell ⟨w2.heap.size, 3, none⟩ (.int .i64 sh) := ⟨_, rfl⟩
              rw [← hw9] at e9 hb9 ⊢
              have E9 := Lib.hid (show w9.heap[w2.heap.size]? = some (.cells #[.int .i64 (ix + pj), .int .i64 (iy + (ih - sh) / 2), .int .i64 sw, .int .i64 sh] 174 (0, 0)) by simpa using e9)
              have HB9 := Lib.hid hb9
              have H9 := Lib.hid (blk_keep HB9.out FN.out)
              clear hw9 e9 hb9 r0 r1 r2 r3 hz_r q0 q1 q2 q3 qf0 qf1 qf2 qf3 hz_q
              have n0 := cell_of_blk H9.out 0; have n1 := cell_of_blk H9.out 1; have n2 := cell_of_blk H9.out 2; have n3 := cell_of_blk H9.out 3; have n4 := cell_of_blk H9.out 4; have n5 := cell_of_blk H9.out 5; have n6 := cell_of_blk H9.out 6; have n7 := cell_of_blk H9.out 7; have hz_n := (Array.getElem?_eq_some_iff.1 H9.out).1; simp at n0 n1 n2 n3 n4 n5 n6 n7
              go_wp2_with fail
              refine (HSP.out _).mono ?_; rintro e wb ⟨rfl, hbb⟩
              have HBB := Lib.hid (below_more HB9.out hbb)
              have E9 := Lib.hid (blk_keep hbb E9.out)
              have hzb := HBB.out.size
              clear hbb n0 n1 n2 n3 n4 n5 n6 n7 hz_n
              go_wp2_with fail
              go_meet
              obtain ⟨r1, r2, r3, r4, hp⟩ := HR.out
              exact ⟨Lib.hid (by rw [hp]), Lib.hid (by rw [r1, r2, r3, r4]; exact E9.out), HBB, Lib.hid (by have := (Array.getElem?_eq_some_iff.1 E9.out).1; omega)⟩
            case false =>
              have hr := HRC.out
              unfold rectB at hr
              rw [if_neg (by decide), if_neg (by decide)] at hr
              obtain ⟨r0, r1, r2, r3, r4⟩ := hr
              have hp := HPO.out
              rw [if_neg (by decide)] at hp
              have HR := Lib.hid (⟨r1, r2, r3, r4, hp⟩ : _ ∧ _ ∧ _ ∧ _ ∧ _)
              have t4 : (iw - sw).tdiv 2 = (iw - sw) / 2 := Int.tdiv_eq_ediv_of_nonneg (by omega)
              clear r1 r2 r3 r4 hp HRC HPO
              go_upto_region 20 with fail
              have e9 := heap_setCell_same _ w2.heap.size 3 (.int .i64 sh) _ _ (heap_setCell_same _ w2.heap.size 2 (.int .i64 sw) _ _ (heap_setCell_same _ w2.heap.size 1 (.int .i64 (iy + pj)) _ _ (heap_setCell_same wa w2.heap.size 0 (.int .i64 (ix + (iw - sw) / 2)) _ _ DK.out)))
              have hb9 : Below w2.heap.size w2 ((((wa.setCell ⟨w2.heap.size, 0, none⟩ (.int .i64 (ix + (iw - sw) / 2))).setCell ⟨w2.heap.size, 1, none⟩ (.int .i64 (iy + pj))).setCell ⟨w2.heap.size, 2, none⟩ (.int .i64 sw)).setCell ⟨w2.heap.size, 3, none⟩ (.int .i64 sh)) := (((HBA.out.setCell (Nat.le_refl _) _).setCell (Nat.le_refl _) _).setCell (Nat.le_refl _) _).setCell (Nat.le_refl _) _
              obtain ⟨w9, hw9⟩ : ∃ w', w' = (((wa.setCell ⟨w2.heap.size, 0, none⟩ (.int .i64 (ix + (iw - sw) / 2))).setCell ⟨w2.heap.size, 1, none⟩ (.int .i64 (iy + pj))).setCell ⟨w2.heap.size, 2, none⟩ (.int .i64 sw)).setCell ⟨w2.heap.size, 3, none⟩ (.int .i64 sh) := ⟨_, rfl⟩
              rw [← hw9] at e9 hb9 ⊢
              have E9 := Lib.hid (show w9.heap[w2.heap.size]? = some (.cells #[.int .i64 (ix + (iw - sw) / 2), .int .i64 (iy + pj), .int .i64 sw, .int .i64 sh] 174 (0, 0)) by simpa using e9)
              have HB9 := Lib.hid hb9
              have H9 := Lib.hid (blk_keep HB9.out FN.out)
              clear hw9 e9 hb9 r0 r1 r2 r3 hz_r q0 q1 q2 q3 qf0 qf1 qf2 qf3 hz_q
              have n0 := cell_of_blk H9.out 0; have n1 := cell_of_blk H9.out 1; have n2 := cell_of_blk H9.out 2; have n3 := cell_of_blk H9.out 3; have n4 := cell_of_blk H9.out 4; have n5 := cell_of_blk H9.out 5; have n6 := cell_of_blk H9.out 6; have n7 := cell_of_blk H9.out 7; have hz_n := (Array.getElem?_eq_some_iff.1 H9.out).1; simp at n0 n1 n2 n3 n4 n5 n6 n7
              go_wp2_with fail
              refine (HSP.out _).mono ?_; rintro e wb ⟨rfl, hbb⟩
              have HBB := Lib.hid (below_more HB9.out hbb)
              have E9 := Lib.hid (blk_keep hbb E9.out)
              have hzb := HBB.out.size
              clear hbb n0 n1 n2 n3 n4 n5 n6 n7 hz_n
              go_wp2_with fail
              go_meet
              obtain ⟨r1, r2, r3, r4, hp⟩ := HR.out
              exact ⟨Lib.hid (by rw [hp]), Lib.hid (by rw [r1, r2, r3, r4]; exact E9.out), HBB, Lib.hid (by have := (Array.getElem?_eq_some_iff.1 E9.out).1; omega)⟩
        case rest =>
          obtain ⟨hps, hdk, hbk, hzk⟩ := hcut
          obtain ⟨c2, rfl⟩ : ∃ z, z = wc := ⟨_, rfl⟩
          have hps2 := hps.out
          subst hps2
          have DK := Lib.hid hdk.out
          have HBK := Lib.hid hbk.out
          have HR2 := Lib.hid (below_more HB2.out HBK.out)
          have HBRK := Lib.hid (below_more HBR.out HR2.out)
          clear hps hdk hbk hzk HRC HPO HSZ HKZ G2 GN GI
          have z := (HBK.out.cell (p := ⟨G, j, none⟩) HG9.out).trans HZ.out
          have hG := HG9.out
          have hG : G < c2.heap.size := by have := HBK.out.size; omega
          have F0 := Lib.hid (blk_keep HBK.out F0.out)
          have F1 := Lib.hid (blk_keep HBK.out F1.out)
          have F2 := Lib.hid (blk_keep HBK.out F2.out)
          have x0 := cell_of_blk F0.out 0; have x1 := cell_of_blk F0.out 1; have hz_x := (Array.getElem?_eq_some_iff.1 F0.out).1; simp at x0 x1
          have y0 := cell_of_blk F1.out 0; have hz_y := (Array.getElem?_eq_some_iff.1 F1.out).1; simp at y0
          have p0 := cell_of_blk F2.out 0; have p1 := cell_of_blk F2.out 1; have hz_p := (Array.getElem?_eq_some_iff.1 F2.out).1; simp at p0 p1
          have r0 := cell_of_blk DK.out 0; have r1 := cell_of_blk DK.out 1; have r2 := cell_of_blk DK.out 2; have r3 := cell_of_blk DK.out 3; have hz_r := (Array.getElem?_eq_some_iff.1 DK.out).1; simp at r0 r1 r2 r3
          go_upto_region 27 with fail
          refine wp_region_later_mid 8 0 (by kernel_rfl) (by kernel_rfl) ?_
          simp only [List.take_succ_cons, List.take_zero, List.drop_succ_cons, List.drop_zero]
          (repeat (first | go_big_quiet_step (fail) | quiet_step (fail)))
          refine wpQuiet_nil ?_
          rintro _ ⟨s, rfl⟩
          have k5 := Lib.hid s.below
          go_wp2_with fail
          refine (HPC.out _ (below_more HBRK.out k5.out)).mono ?_; rintro e wp ⟨A2, c3, B2, d2, rfl, hob, hor, hbp⟩
          have k6 := Lib.hid (below_more k5.out hbp)
          have HOB := Lib.hid hob.out
          have HOR := Lib.hid hor.out
          have hsz6 := hbp.size
          have hsz5 := k5.out.size
          clear hob hor hbp z x0 x1 hz_x y0 hz_y p0 p1 hz_p r0 r1 r2 r3 hz_r HPC
          go_wp2_with fail
          refine midQ_normal ?_
          (repeat (first | go_big_quiet_step (fail) | quiet_step (fail)))
          refine wpQuiet_nil ?_
          rintro _ ⟨s2, rfl⟩
          have HB4 := Lib.hid (below_more HR2.out (below_more k6.out s2.below))
          have HOB := Lib.hid (ownsRow_of_block HOB.out (fun g hg => s2.below.block g (HOB.out.lt g hg).2))
          have HOR := Lib.hid (ownsRow_of_block HOR.out (fun g hg => s2.below.block g (HOR.out.lt g hg).2))
          obtain ⟨w4, hw4⟩ : ∃ w4, w4 = s2.w := ⟨_, rfl⟩
          rw [← hw4] at HB4 HOB HOR ⊢
          have HT4 := Lib.hid (HT.out.below HB4.out)
          have HKB4 := Lib.hid (show w4.heap[G]? = w1.heap[G]? ∧ G < w4.heap.size from ⟨(HB4.out.block G HKB.out.2).trans HKB.out.1, by have := HB4.out.size; have := HKB.out.2; omega⟩)
          have HBW4 := Lib.hid (HBW.out.trans (HB4.out.mono (show V.heap.size + 1 ≤ wr.heap.size by have := HBW.out.size; have := HSV1.out; omega)))
          have HV4 := Lib.hid (show V.heap.size + 1 ≤ w4.heap.size by have := HBW.out.size; have := HSV1.out; have := HB4.out.size; omega)
          have HWS := Lib.hid (show wr.heap.size ≤ s.w.heap.size by have := HR2.out.size; omega)
          clear hw4 s2 k6 hsz6 hsz5
          obtain ⟨dn, hdn⟩ : ∃ d, d = ACC j := ⟨_, rfl⟩
          rw [← hdn] at HT4 HMQ HAC2
          obtain ⟨m, hm⟩ : ∃ m, m = dn.length := ⟨_, rfl⟩
          have HM := Lib.hid hm
          rw [← hm] at HMQ
          have hmq := HMQ.out
          have hob4 := HT4.out.ob
          have hoa4 := HT4.out.oa
          rw [← hm] at hob4 hoa4
          obtain ⟨Av, cv, hv, -, -, -, -⟩ := own_slice hob4
          subst hv
          obtain ⟨Bv, bv, hv, -, -, -, -⟩ := own_slice hoa4
          subst hv
          have HOB4 := Lib.hid hob4
          have HOA4 := Lib.hid hoa4
          obtain ⟨g1, g2, g3, g4⟩ := own_srcP HOB.out
          have G1 := Lib.hid g1
          have G2 := Lib.hid g2
          have G3 := Lib.hid g3
          unfold maxLen at g4
          obtain ⟨f1, f2, f3, f4⟩ := own_srcP HOR.out
          have L1 := Lib.hid f1
          have L2 := Lib.hid f2
          unfold maxLen at f4
          clear hdn hm hob4 hoa4 g1 g2 g3 f1 f2 f3
          go_wp2_with (first
            | (at_builtin; refine wpList_append_src _ rfl (.tmp 193) (.tmp 194) 51 rfl (V.heap.size + 1) 82 iv (.agg #[.int .i64 0, .int .i64 0, .int .i64 0, .bool false, .int .i64 0, .int .i64 0, .int .i64 0, .int .i64 0, .int .i64 0, .int .i64 0, .int .i64 0, .int .i64 0, .int .i64 0, .int .i64 0, .int .i64 0]) 15 120 Tryz.underlying51 hiv.out hzv.out hsv.out hbv.out rfl (by decide) (.slice Av m cv) m (dn.flatMap fun p => (boxZ p).cells) rfl HOB4.out A2 q c3 (Ls.flatMap fun p => (boxZ p).cells) rfl G1.out G2.out G3.out boxZ_one (by unfold maxLen; omega) (by omega) HV4.out (m + q) rfl ?_))
          intro A6 c6 w6 own6 hg6 hn6
          have HW6 := Lib.hid own6
          have HG6 := Lib.hid hg6
          have HN6 := Lib.hid hn6
          have HV6 := Lib.hid (show w4.heap.size ≤ w6.heap.size from hg6.size)
          have HOA6 := Lib.hid (own_grown HOA4.out hg6 (fun g ha ho => HT4.out.ne g ho ha))
          have HOR6 := Lib.hid (own_grown HOR.out hg6 (fun g ha ho => by
            have h1 := (HOR.out.lt g ha).1
            have h2 := (HT.out.lt.1 g ho).2
            have h3 := HWS.out
            omega))
          obtain ⟨f1, f2, f3, f5⟩ := own_srcP HOR6.out
          have L3 := Lib.hid f3
          have HVV := Lib.hid (show V.heap.size + 1 ≤ w6.heap.size by have := HV6.out; have := HV4.out; omega)
          clear own6 hg6 hn6 f1 f2 f3 f5
          go_wp2_with (first
            | (at_builtin; refine wpList_append_src _ rfl (.tmp 196) (.tmp 197) 170 rfl (V.heap.size + 1) 174 iu (.agg #[.int .i64 0, .int .i64 0, .int .i64 0, .int .i64 0]) 4 32 Tryz.underlying170 hiu.out hzu.out hsu.out hbu.out rfl (by decide) (.slice Bv m bv) m (dn.flatMap rcC) rfl HOA6.out B2 q d2 (Ls.flatMap rcC) rfl L1.out L2.out L3.out rcC_one (by unfold maxLen; omega) (by omega) HVV.out (m + q) rfl ?_))
          intro A7 c7 w7 own7 hg7 hn7
          have HT7 := Lib.hid (HT4.out.step HM.out HQ.out HW6.out HG6.out HN6.out own7 hg7 hn7)
          rw [← HAC2.out] at HT7
          have HO7 := Lib.hid (show (Value.slice A6 (m + q) c6).ownBlock ≠ some G ∧ (Value.slice A7 (m + q) c7).ownBlock ≠ some G from
            ⟨off_grown HN6.out HKB4.out.2 HOF.out.1, off_grown hn7 (Nat.lt_of_lt_of_le HKB4.out.2 HV6.out) HOF.out.2⟩)
          have HK7 := Lib.hid (show w7.heap[G]? = w1.heap[G]? ∧ G < w7.heap.size from by
            have h1 := HG6.out.block G HKB4.out.2 (fun e => HOF.out.1 e.symm)
            have h2 := hg7.block G (Nat.lt_of_lt_of_le HKB4.out.2 HV6.out) (fun e => HOF.out.2 e.symm)
            exact ⟨(h2.trans h1).trans HKB4.out.1, Nat.lt_of_lt_of_le (Nat.lt_of_lt_of_le HKB4.out.2 HV6.out) hg7.size⟩)
          have HB7 := Lib.hid ((HBW4.out.grown HG6.out HV4.out (fun g hg => (HT4.out.lt.1 g hg).1)).grown hg7 HVV.out (fun g hg => (HT4.out.lt.2 g hg).1))
          clear own7 hg7 hn7
          go_wp2_with fail
          go_roundw
          case rel => exact ⟨j + 1, by omega, by go_num, Lib.hid rfl, HT7, HO7, HK7, HB7⟩
          case measure => simp [intOf]; omega
      · obtain rfl : j = n := by omega
        have hq := HBV.out.size
        have HBF := Lib.hid (HBR.out)
        have ho1 := own_base HT.out.ob (show w.heap.size ≤ V.heap.size + 1 by omega)
        have ho2 := own_base HT.out.oa (show w.heap.size ≤ V.heap.size + 1 by omega)
        have HO1 := Lib.hid ho1
        have HO2 := Lib.hid ho2
        obtain ⟨Av, cv, hv, -, -, -, -⟩ := own_slice ho1
        subst hv
        obtain ⟨Bv, bv, hv, -, -, -, -⟩ := own_slice ho2
        subst hv
        clear ho1 ho2
        go_wp2_with fail
        go_ret2
        exact ⟨Av, cv, Bv, bv, rfl, HO1, HO2, HBF.out⟩
end Go.Proofs.YtmiokllpdmmfhaaGreat
