/-
  The boxes and rectangles of a node (placed), by the specification: of a leaf.
-/
import Derived.Test.YtmiokllpdmmfhaaGreatBoxM
import Derived.Test.YtmiokllpdmmfhaaGreatRst
import Derived.Deep.RegionHeld
namespace Go.Proofs.YtmiokllpdmmfhaaGreat
open Go.RowKit
def boxZ (p : Pc) : Bx := ⟨p.n.kind, p.n.sign, p.n.turn, p.n.mirror, p.n.state, p.n.min, p.n.max, ⟨0, 0⟩, ⟨0, 0⟩, ⟨0, 0⟩, ⟨0, 0⟩⟩
def rcC (p : Pc) : List Value := [.int .i64 p.x, .int .i64 p.y, .int .i64 p.wd, .int .i64 p.hg]
def GotPl (l : List Pc) (w : World) (e : Ending) (w' : World) : Prop := ∃ A c B d, e = .returned (.tuple #[.slice A l.length c, .slice B l.length d])
  ∧ Hid (w'.ownsRow w.heap.size 82 15 (.slice A l.length c) l.length (l.flatMap fun p => (boxZ p).cells)) ∧ Hid (w'.ownsRow w.heap.size 174 4 (.slice B l.length d) l.length (l.flatMap rcC)) ∧ Below w.heap.size w w'
set_option maxRecDepth 100000 in
set_option maxHeartbeats 16000000 in
theorem rplL_any (L : Lm) (way len : Int) (A : Option Addr) (cap : Nat) (zs : List Nd) (i : Nat) (u : Nd) (x y wd hg : Int) (w : World) (_hl : LmOk w L) (hn : NdsAt w A zs) (_hc1 : zs.length ≤ cap) (_hc : cap ≤ maxLen) (hu : zs[i]? = some u) (hlf : leafB u.kind = true) :
    Calls Tryz.prog 112 #[.agg #[.int .i64 L.per, .slice L.A L.ms.length L.cap], .agg #[.slice A zs.length cap], .agg #[.int .i64 way, .int .i64 len], .int .i64 i, .agg #[.int .i64 x, .int .i64 y, .int .i64 wd, .int .i64 hg]] w (GotPl [⟨u, x, y, wd, hg⟩] w) := by
  obtain ⟨b, o, rfl, hb, hva⟩ := hn i u hu
  have hin := (List.getElem?_eq_some_iff.1 hu).1
  obtain ⟨N, hN⟩ : ∃ N, N = zs.length := ⟨_, rfl⟩
  rw [← hN] at hin _hc1 ⊢
  have HLE := Lib.hid (fun wx => leaf_is u.kind wx true hlf)
  obtain ⟨uk, ud, us, ut, um, ust, umn, umx⟩ := u
  obtain ⟨y0, y1, y2, y3, y4, y5, y6, y7⟩ := hva
  dsimp only at y0 y1 y2 y3 y4 y5 y6 y7 HLE
  unfold maxLen at _hc
  clear _hl hn hu hlf hN
  have hi0 : (0 : Int) ≤ (i : Int) := by omega
  have hiN : (i : Int) < (N : Int) := by omega
  obtain ⟨W1, hW1⟩ : ∃ W', W' = w.alloc (.cells #[.int .i64 L.per, .slice L.A L.ms.length L.cap] 24) := ⟨_, rfl⟩; obtain ⟨W2, hW2⟩ : ∃ W', W' = W1.alloc (.cells #[.slice (some ⟨b, o, none⟩) N cap] 27) := ⟨_, rfl⟩; obtain ⟨W3, hW3⟩ : ∃ W', W' = W2.alloc (.cells #[.int .i64 way, .int .i64 len] 31) := ⟨_, rfl⟩; obtain ⟨W, hW⟩ : ∃ W', W' = W3.alloc (.cells #[.int .i64 x, .int .i64 y, .int .i64 wd, .int .i64 hg] 174) := ⟨_, rfl⟩; have szW1 : W1.heap.size = w.heap.size + 1 := (by rw [hW1]; simp); have kbW1 : Below w.heap.size w W1 := hW1 ▸ below_alloc _ _; have szW2 : W2.heap.size = w.heap.size + 1 + 1 := (by rw [hW2]; simp [szW1]); have kbW2 : Below W1.heap.size W1 W2 := hW2 ▸ below_alloc _ _; have szW3 : W3.heap.size = w.heap.size + 1 + 1 + 1 := (by rw [hW3]; simp [szW2]); have kbW3 : Below W2.heap.size W2 W3 := hW3 ▸ below_alloc _ _; have szW : W.heap.size = w.heap.size + 1 + 1 + 1 + 1 := (by rw [hW]; simp [szW3]); have kbW : Below W3.heap.size W3 W := hW ▸ below_alloc _ _; have HB := Lib.hid (below_more (below_more (below_more kbW1 kbW2) kbW3) kbW); have D0 := Lib.hid (blk_keep kbW (blk_keep kbW3 (blk_keep kbW2 (show W1.heap[w.heap.size]? = some (.cells #[.int .i64 L.per, .slice L.A L.ms.length L.cap] 24 (0, 0)) by rw [hW1]; exact heap_alloc_new _ _)))); have D1 := Lib.hid (blk_keep kbW (blk_keep kbW3 (show W2.heap[w.heap.size + 1]? = some (.cells #[.slice (some ⟨b, o, none⟩) N cap] 27 (0, 0)) by rw [hW2, ← szW1]; exact heap_alloc_new _ _))); have D2 := Lib.hid (blk_keep kbW (show W3.heap[w.heap.size + 1 + 1]? = some (.cells #[.int .i64 way, .int .i64 len] 31 (0, 0)) by rw [hW3, ← szW2]; exact heap_alloc_new _ _)); have D3 := Lib.hid (show W.heap[w.heap.size + 1 + 1 + 1]? = some (.cells #[.int .i64 x, .int .i64 y, .int .i64 wd, .int .i64 hg] 174 (0, 0)) by rw [hW, ← szW3]; exact heap_alloc_new _ _); have SZW := Lib.hid szW; clear szW1 kbW1 szW2 kbW2 szW3 kbW3 szW kbW
  have y0 := (HB.out.cell (p := ⟨b, _, none⟩) hb).trans y0
  have y1 := (HB.out.cell (p := ⟨b, _, none⟩) hb).trans y1
  have y2 := (HB.out.cell (p := ⟨b, _, none⟩) hb).trans y2
  have y3 := (HB.out.cell (p := ⟨b, _, none⟩) hb).trans y3
  have y4 := (HB.out.cell (p := ⟨b, _, none⟩) hb).trans y4
  have y5 := (HB.out.cell (p := ⟨b, _, none⟩) hb).trans y5
  have y6 := (HB.out.cell (p := ⟨b, _, none⟩) hb).trans y6
  have y7 := (HB.out.cell (p := ⟨b, _, none⟩) hb).trans y7
  have hbW : b < W.heap.size := by have := HB.out.size; omega
  have q0 := cell_of_blk D1.out 0; have hz_q := (Array.getElem?_eq_some_iff.1 D1.out).1; simp at q0
  go_enter Tryz.func112, Tryz.ntmps112
  go_upto_region 1 with fail
  rw [← hW1, ← hW2, ← hW3, ← hW]; clear hW1 hW2 hW3 hW
  go_upto_region 2 with fail
  obtain ⟨v2, hv2⟩ : ∃ v, v = W.alloc (.cells #[.int .i64 uk, .int .i64 ud, .int .i64 us, .int .i64 ut, .bool um, .int .i64 ust, .int .i64 umn, .int .i64 umx] 87) := ⟨_, rfl⟩
  have hb2 : Below W.heap.size W v2 := hv2 ▸ below_alloc _ _
  have HB2 := Lib.hid (below_more HB.out hb2)
  have DN := Lib.hid (show v2.heap[W.heap.size]? = some (.cells #[.int .i64 uk, .int .i64 ud, .int .i64 us, .int .i64 ut, .bool um, .int .i64 ust, .int .i64 umn, .int .i64 umx] 87 (0, 0)) from hv2 ▸ heap_alloc_new _ _)
  have D3 := Lib.hid (blk_keep hb2 D3.out)
  rw [← hv2]
  clear hv2 hb2 y0 y1 y2 y3 y4 y5 y6 y7 hbW q0 hz_q
  have n0 := cell_of_blk DN.out 0; have n1 := cell_of_blk DN.out 1; have n2 := cell_of_blk DN.out 2; have n3 := cell_of_blk DN.out 3; have n4 := cell_of_blk DN.out 4; have n5 := cell_of_blk DN.out 5; have n6 := cell_of_blk DN.out 6; have n7 := cell_of_blk DN.out 7; have hz_n := (Array.getElem?_eq_some_iff.1 DN.out).1; simp at n0 n1 n2 n3 n4 n5 n6 n7
  go_upto_region 3 with fail
  obtain ⟨V, hV⟩ : ∃ v, v = v2.alloc (.cells #[.int .i64 uk, .int .i64 us, .int .i64 ut, .bool um, .int .i64 ust, .int .i64 umn, .int .i64 umx, .int .i64 0, .int .i64 0, .int .i64 0, .int .i64 0, .int .i64 0, .int .i64 0, .int .i64 0, .int .i64 0] 82) := ⟨_, rfl⟩
  have hb3 : Below v2.heap.size v2 V := hV ▸ below_alloc _ _
  have HBV := Lib.hid (below_more HB2.out hb3)
  have DB := Lib.hid (show V.heap[v2.heap.size]? = some (.cells #[.int .i64 uk, .int .i64 us, .int .i64 ut, .bool um, .int .i64 ust, .int .i64 umn, .int .i64 umx, .int .i64 0, .int .i64 0, .int .i64 0, .int .i64 0, .int .i64 0, .int .i64 0, .int .i64 0, .int .i64 0] 82 (0, 0)) from hV ▸ heap_alloc_new _ _)
  have D3 := Lib.hid (blk_keep hb3 D3.out)
  have DN := Lib.hid (blk_keep hb3 DN.out)
  rw [← hV]
  clear hV hb3 n0 n1 n2 n3 n4 n5 n6 n7 hz_n
  have n0 := cell_of_blk DN.out 0; have hz_n := (Array.getElem?_eq_some_iff.1 DN.out).1; simp at n0
  go_wp2_with fail
  refine (HLE.out _).mono ?_; rintro e wl ⟨rfl, rfl⟩
  go_upto_region 4 with fail
  obtain ⟨S, hS⟩ : ∃ S : World → Prop, S = fun wx => wx.cell? ⟨v2.heap.size, 0, none⟩ = some (.int .i64 uk) ∧ wx.cell? ⟨v2.heap.size, 1, none⟩ = some (.int .i64 us) ∧ wx.cell? ⟨v2.heap.size, 2, none⟩ = some (.int .i64 ut) ∧ wx.cell? ⟨v2.heap.size, 3, none⟩ = some (.bool um) ∧ wx.cell? ⟨v2.heap.size, 4, none⟩ = some (.int .i64 ust) ∧ wx.cell? ⟨v2.heap.size, 5, none⟩ = some (.int .i64 umn) ∧ wx.cell? ⟨v2.heap.size, 6, none⟩ = some (.int .i64 umx) ∧ wx.cell? ⟨v2.heap.size, 7, none⟩ = some (.int .i64 0) ∧ wx.cell? ⟨v2.heap.size, 8, none⟩ = some (.int .i64 0) ∧ wx.cell? ⟨v2.heap.size, 9, none⟩ = some (.int .i64 0) ∧ wx.cell? ⟨v2.heap.size, 10, none⟩ = some (.int .i64 0) ∧ wx.cell? ⟨v2.heap.size, 11, none⟩ = some (.int .i64 0) ∧ wx.cell? ⟨v2.heap.size, 12, none⟩ = some (.int .i64 0) ∧ wx.cell? ⟨v2.heap.size, 13, none⟩ = some (.int .i64 0) ∧ wx.cell? ⟨v2.heap.size, 14, none⟩ = some (.int .i64 0) ∧ wx.cell? ⟨w.heap.size + 1 + 1 + 1, 0, none⟩ = some (.int .i64 x) ∧ wx.cell? ⟨w.heap.size + 1 + 1 + 1, 1, none⟩ = some (.int .i64 y) ∧ wx.cell? ⟨w.heap.size + 1 + 1 + 1, 2, none⟩ = some (.int .i64 wd) ∧ wx.cell? ⟨w.heap.size + 1 + 1 + 1, 3, none⟩ = some (.int .i64 hg) := ⟨_, rfl⟩
  have HSU := Lib.hid (fun wx (h : S wx) => show wx.cell? ⟨v2.heap.size, 0, none⟩ = some (.int .i64 uk) ∧ wx.cell? ⟨v2.heap.size, 1, none⟩ = some (.int .i64 us) ∧ wx.cell? ⟨v2.heap.size, 2, none⟩ = some (.int .i64 ut) ∧ wx.cell? ⟨v2.heap.size, 3, none⟩ = some (.bool um) ∧ wx.cell? ⟨v2.heap.size, 4, none⟩ = some (.int .i64 ust) ∧ wx.cell? ⟨v2.heap.size, 5, none⟩ = some (.int .i64 umn) ∧ wx.cell? ⟨v2.heap.size, 6, none⟩ = some (.int .i64 umx) ∧ wx.cell? ⟨v2.heap.size, 7, none⟩ = some (.int .i64 0) ∧ wx.cell? ⟨v2.heap.size, 8, none⟩ = some (.int .i64 0) ∧ wx.cell? ⟨v2.heap.size, 9, none⟩ = some (.int .i64 0) ∧ wx.cell? ⟨v2.heap.size, 10, none⟩ = some (.int .i64 0) ∧ wx.cell? ⟨v2.heap.size, 11, none⟩ = some (.int .i64 0) ∧ wx.cell? ⟨v2.heap.size, 12, none⟩ = some (.int .i64 0) ∧ wx.cell? ⟨v2.heap.size, 13, none⟩ = some (.int .i64 0) ∧ wx.cell? ⟨v2.heap.size, 14, none⟩ = some (.int .i64 0) ∧ wx.cell? ⟨w.heap.size + 1 + 1 + 1, 0, none⟩ = some (.int .i64 x) ∧ wx.cell? ⟨w.heap.size + 1 + 1 + 1, 1, none⟩ = some (.int .i64 y) ∧ wx.cell? ⟨w.heap.size + 1 + 1 + 1, 2, none⟩ = some (.int .i64 wd) ∧ wx.cell? ⟨w.heap.size + 1 + 1 + 1, 3, none⟩ = some (.int .i64 hg) from by rw [hS] at h; exact h)
  have HK := Lib.hid (fun wx (hb : Below V.heap.size V wx) => show S wx from by
    rw [hS]
    exact ⟨cell_of_blk (blk_keep hb DB.out) 0, cell_of_blk (blk_keep hb DB.out) 1, cell_of_blk (blk_keep hb DB.out) 2, cell_of_blk (blk_keep hb DB.out) 3, cell_of_blk (blk_keep hb DB.out) 4, cell_of_blk (blk_keep hb DB.out) 5, cell_of_blk (blk_keep hb DB.out) 6, cell_of_blk (blk_keep hb DB.out) 7, cell_of_blk (blk_keep hb DB.out) 8, cell_of_blk (blk_keep hb DB.out) 9, cell_of_blk (blk_keep hb DB.out) 10, cell_of_blk (blk_keep hb DB.out) 11, cell_of_blk (blk_keep hb DB.out) 12, cell_of_blk (blk_keep hb DB.out) 13, cell_of_blk (blk_keep hb DB.out) 14, cell_of_blk (blk_keep hb D3.out) 0, cell_of_blk (blk_keep hb D3.out) 1, cell_of_blk (blk_keep hb D3.out) 2, cell_of_blk (blk_keep hb D3.out) 3⟩)
  clear hS
  have HS0 := HK.out _ (Below.refl V.heap.size V).drew
  refine wp_region_held_drew (S := S) (by kernel_rfl) HS0 (fun HS => ?_)
  refine wpAnyH_take (i := 0) (v := ?_) rfl (by kernel_rfl) (by kernel_rfl) (by kernel_rfl) (fun _ _ _ h => h) (Or.inl ⟨by rfl, ?_⟩) HS ?_
  case refine_2 => (intro wx hSw; obtain ⟨s0, s1, s2, s3, s4, s5, s6, s7, s8, s9, s10, s11, s12, s13, s14, -⟩ := HSU.out wx hSw; go_simp; try with_reducible rfl)
  refine wpAnyH_take (i := 2) (v := ?_) rfl (by kernel_rfl) (by kernel_rfl) (by kernel_rfl) (fun _ _ _ h => h) (Or.inl ⟨by rfl, ?_⟩) HS ?_
  case refine_2 => (intro wx hSw; obtain ⟨-, -, -, -, -, -, -, -, -, -, -, -, -, -, -, s15, s16, s17, s18⟩ := HSU.out wx hSw; go_simp; try with_reducible rfl)
  refine wpAnyH_ready (rs := [1, 3]) (by kernel_rfl) (by simp) ?_
  refine AllReadyH.cons rfl (fun K hK => ?_) (AllReadyH.cons rfl (fun K hK => ?_) AllReadyH.nil)
  · go_simp
    have k1 : Below V.heap.size V ((V.alloc (.cells #[.int .i64 uk, .int .i64 us, .int .i64 ut, .bool um, .int .i64 ust, .int .i64 umn, .int .i64 umx, .int .i64 0, .int .i64 0, .int .i64 0, .int .i64 0, .int .i64 0, .int .i64 0, .int .i64 0, .int .i64 0] 82)).drew) := (below_alloc _ _).drew
    refine hK.out _ _ (HK.out _ k1) (fun HS => ?_)
    clear hK K
    refine wpAnyH_take (i := 4) (v := ?_) rfl (by kernel_rfl) (by kernel_rfl) (by kernel_rfl) (fun _ _ _ h => h) (Or.inl ⟨by rfl, ?_⟩) HS ?_
    case refine_2 => (intro wx hSw; go_simp; try with_reducible rfl)
    refine wpAnyH_ready (rs := [3]) (by kernel_rfl) (by simp) ?_
    refine AllReadyH.cons rfl (fun K hK => ?_) AllReadyH.nil
    go_simp
    have k2 : Below V.heap.size V (((V.alloc (.cells #[.int .i64 uk, .int .i64 us, .int .i64 ut, .bool um, .int .i64 ust, .int .i64 umn, .int .i64 umx, .int .i64 0, .int .i64 0, .int .i64 0, .int .i64 0, .int .i64 0, .int .i64 0, .int .i64 0, .int .i64 0] 82)).alloc (.cells #[.int .i64 x, .int .i64 y, .int .i64 wd, .int .i64 hg] 174)).drew) := ((below_alloc _ _).alloc (by simp) _).drew
    refine hK.out _ _ (HK.out _ k2) (fun HS => ?_)
    clear hK K
    refine wpAnyH_take (i := 5) (v := ?_) rfl (by kernel_rfl) (by kernel_rfl) (by kernel_rfl) (fun _ _ _ h => h) (Or.inl ⟨by rfl, ?_⟩) HS ?_
    case refine_2 => (intro wx hSw; go_simp; try with_reducible rfl)
    refine wpAnyH_done (by kernel_rfl) ?_ _
    have g1 := own_lit V [.int .i64 uk, .int .i64 us, .int .i64 ut, .bool um, .int .i64 ust, .int .i64 umn, .int .i64 umx, .int .i64 0, .int .i64 0, .int .i64 0, .int .i64 0, .int .i64 0, .int .i64 0, .int .i64 0, .int .i64 0] 82 15 1 rfl (by unfold maxLen; omega)
    have g2 := own_lit (V.alloc (.cells #[.int .i64 uk, .int .i64 us, .int .i64 ut, .bool um, .int .i64 ust, .int .i64 umn, .int .i64 umx, .int .i64 0, .int .i64 0, .int .i64 0, .int .i64 0, .int .i64 0, .int .i64 0, .int .i64 0, .int .i64 0] 82)) [.int .i64 x, .int .i64 y, .int .i64 wd, .int .i64 hg] 174 4 1 rfl (by unfold maxLen; omega)
    have g1 := ownsRow_of_block (w' := (V.alloc (.cells #[.int .i64 uk, .int .i64 us, .int .i64 ut, .bool um, .int .i64 ust, .int .i64 umn, .int .i64 umx, .int .i64 0, .int .i64 0, .int .i64 0, .int .i64 0, .int .i64 0, .int .i64 0, .int .i64 0, .int .i64 0] 82)).alloc (.cells #[.int .i64 x, .int .i64 y, .int .i64 wd, .int .i64 hg] 174)) g1 (fun g hg => (below_alloc _ _).block g (g1.lt g hg).2)
    have hsv := HBV.out.size
    have HG1 := Lib.hid (own_base g1 hsv)
    have g2 := own_base g2 (show w.heap.size ≤ (V.alloc (.cells #[.int .i64 uk, .int .i64 us, .int .i64 ut, .bool um, .int .i64 ust, .int .i64 umn, .int .i64 umx, .int .i64 0, .int .i64 0, .int .i64 0, .int .i64 0, .int .i64 0, .int .i64 0, .int .i64 0, .int .i64 0] 82)).heap.size from by rw [World.size_alloc]; omega)
    rw [World.size_alloc] at g2
    have HG2 := Lib.hid g2
    have HB9 := Lib.hid (below_more HBV.out k2)
    clear k1 k2 g1 g2
    go_wp2_with fail
    go_ret2
    exact ⟨_, _, _, _, rfl, HG1, HG2, HB9.out⟩
  · go_simp
    have k1 : Below V.heap.size V ((V.alloc (.cells #[.int .i64 x, .int .i64 y, .int .i64 wd, .int .i64 hg] 174)).drew) := (below_alloc _ _).drew
    refine hK.out _ _ (HK.out _ k1) (fun HS => ?_)
    clear hK K
    refine wpAnyH_ready (rs := [1]) (by kernel_rfl) (by simp) ?_
    refine AllReadyH.cons rfl (fun K hK => ?_) AllReadyH.nil
    go_simp
    have k2 : Below V.heap.size V (((V.alloc (.cells #[.int .i64 x, .int .i64 y, .int .i64 wd, .int .i64 hg] 174)).alloc (.cells #[.int .i64 uk, .int .i64 us, .int .i64 ut, .bool um, .int .i64 ust, .int .i64 umn, .int .i64 umx, .int .i64 0, .int .i64 0, .int .i64 0, .int .i64 0, .int .i64 0, .int .i64 0, .int .i64 0, .int .i64 0] 82)).drew) := ((below_alloc _ _).alloc (by simp) _).drew
    refine hK.out _ _ (HK.out _ k2) (fun HS => ?_)
    clear hK K
    refine wpAnyH_take (i := 4) (v := ?_) rfl (by kernel_rfl) (by kernel_rfl) (by kernel_rfl) (fun _ _ _ h => h) (Or.inl ⟨by rfl, ?_⟩) HS ?_
    case refine_2 => (intro wx hSw; go_simp; try with_reducible rfl)
    refine wpAnyH_take (i := 5) (v := ?_) rfl (by kernel_rfl) (by kernel_rfl) (by kernel_rfl) (fun _ _ _ h => h) (Or.inl ⟨by rfl, ?_⟩) HS ?_
    case refine_2 => (intro wx hSw; go_simp; try with_reducible rfl)
    refine wpAnyH_done (by kernel_rfl) ?_ _
    have g1 := own_lit V [.int .i64 x, .int .i64 y, .int .i64 wd, .int .i64 hg] 174 4 1 rfl (by unfold maxLen; omega)
    have g2 := own_lit (V.alloc (.cells #[.int .i64 x, .int .i64 y, .int .i64 wd, .int .i64 hg] 174)) [.int .i64 uk, .int .i64 us, .int .i64 ut, .bool um, .int .i64 ust, .int .i64 umn, .int .i64 umx, .int .i64 0, .int .i64 0, .int .i64 0, .int .i64 0, .int .i64 0, .int .i64 0, .int .i64 0, .int .i64 0] 82 15 1 rfl (by unfold maxLen; omega)
    have g1 := ownsRow_of_block (w' := (V.alloc (.cells #[.int .i64 x, .int .i64 y, .int .i64 wd, .int .i64 hg] 174)).alloc (.cells #[.int .i64 uk, .int .i64 us, .int .i64 ut, .bool um, .int .i64 ust, .int .i64 umn, .int .i64 umx, .int .i64 0, .int .i64 0, .int .i64 0, .int .i64 0, .int .i64 0, .int .i64 0, .int .i64 0, .int .i64 0] 82)) g1 (fun g hg => (below_alloc _ _).block g (g1.lt g hg).2)
    have hsv := HBV.out.size
    have HG1 := Lib.hid (own_base g1 hsv)
    have g2 := own_base g2 (show w.heap.size ≤ (V.alloc (.cells #[.int .i64 x, .int .i64 y, .int .i64 wd, .int .i64 hg] 174)).heap.size from by rw [World.size_alloc]; omega)
    rw [World.size_alloc] at g2
    have HG2 := Lib.hid g2
    have HB9 := Lib.hid (below_more HBV.out k2)
    clear k1 k2 g1 g2
    go_wp2_with fail
    go_ret2
    exact ⟨_, _, _, _, rfl, HG2, HG1, HB9.out⟩
end Go.Proofs.YtmiokllpdmmfhaaGreat
