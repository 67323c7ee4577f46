/-
  The program's Lay, over whatever the boxes of a group are.
-/
import Derived.Test.YtmiokllpdmmfhaaGreatGscl
import Derived.Test.YtmiokllpdmmfhaaGreatLcI
import Derived.Deep.RegionHeld
namespace Go.Proofs.YtmiokllpdmmfhaaGreat
open Go.RowKit
def GotLayE (q : List Bx × Int) (w : World) (e : Ending) (w' : World) : Prop := ∃ A c, e = .returned (.tuple #[.slice A q.1.length c, .int .i64 q.2]) ∧ Hid (w'.ownsRow w.heap.size 82 15 (.slice A q.1.length c) q.1.length (q.1.flatMap Bx.cells)) ∧ Below w.heap.size w w'
set_option maxRecDepth 100000 in
set_option maxHeartbeats 16000000 in
theorem glayE_any (L : Lm) (A : Option Addr) (cap : Nat) (ns : List Nd) (way len : Int) (w : World) (hl : LmOk w L) (hn : NdsAt w A ns) (hc1 : ns.length ≤ cap) (hc : cap ≤ maxLen) (E : Int) (h0 : ¬E = 0) (hE : bothE L.li ns way len = E) :
    Calls Tryz.prog 26 #[.agg #[.int .i64 L.per, .slice L.A L.ms.length L.cap], .agg #[.slice A ns.length cap], .agg #[.int .i64 way, .int .i64 len]] w (GotLayE ([], E) w) := by
  have HAR := Lib.hid (fun wx (hbx : Below w.heap.size w wx) => arrErr_any way E h0 L A cap ns len wx (hl.below hbx) (hn.below hbx) hc1 hc hE)
  have hb : (E != 0) = true := by simpa using h0
  obtain ⟨N, hN⟩ : ∃ N, N = ns.length := ⟨_, rfl⟩
  rw [← hN] at HAR hc1 ⊢
  unfold maxLen at hc
  clear hl hn hE hN h0
  obtain ⟨W1, hW1⟩ : ∃ W', W' = w.alloc (.cells #[.int .i64 L.per, .slice L.A L.ms.length L.cap] 24) := ⟨_, rfl⟩; obtain ⟨W2, hW2⟩ : ∃ W', W' = W1.alloc (.cells #[.slice A N cap] 27) := ⟨_, rfl⟩; obtain ⟨W, hW⟩ : ∃ W', W' = W2.alloc (.cells #[.int .i64 way, .int .i64 len] 31) := ⟨_, rfl⟩; have szW1 : W1.heap.size = w.heap.size + 1 := (by rw [hW1]; simp); have kbW1 : Below w.heap.size w W1 := hW1 ▸ below_alloc _ _; have szW2 : W2.heap.size = w.heap.size + 1 + 1 := (by rw [hW2]; simp [szW1]); have kbW2 : Below W1.heap.size W1 W2 := hW2 ▸ below_alloc _ _; have szW : W.heap.size = w.heap.size + 1 + 1 + 1 := (by rw [hW]; simp [szW2]); have kbW : Below W2.heap.size W2 W := hW ▸ below_alloc _ _; have HB := Lib.hid (below_more (below_more kbW1 kbW2) kbW); have D0 := Lib.hid (blk_keep kbW (blk_keep kbW2 (show W1.heap[w.heap.size]? = some (.cells #[.int .i64 L.per, .slice L.A L.ms.length L.cap] 24 (0, 0)) by rw [hW1]; exact heap_alloc_new _ _))); have D1 := Lib.hid (blk_keep kbW (show W2.heap[w.heap.size + 1]? = some (.cells #[.slice A N cap] 27 (0, 0)) by rw [hW2, ← szW1]; exact heap_alloc_new _ _)); have D2 := Lib.hid (show W.heap[w.heap.size + 1 + 1]? = some (.cells #[.int .i64 way, .int .i64 len] 31 (0, 0)) by rw [hW, ← szW2]; exact heap_alloc_new _ _); have SZW := Lib.hid szW; clear szW1 kbW1 szW2 kbW2 szW kbW
  have x0 := cell_of_blk D0.out 0; have x1 := cell_of_blk D0.out 1; have hz_x := (Array.getElem?_eq_some_iff.1 D0.out).1; simp at x0 x1
  have y0 := cell_of_blk D1.out 0; have hz_y := (Array.getElem?_eq_some_iff.1 D1.out).1; simp at y0
  have p0 := cell_of_blk D2.out 0; have p1 := cell_of_blk D2.out 1; have hz_p := (Array.getElem?_eq_some_iff.1 D2.out).1; simp at p0 p1
  go_enter Tryz.func26, Tryz.ntmps26
  go_wp2_with fail
  rw [← hW1, ← hW2, ← hW]; clear hW1 hW2 hW
  go_wp2_with fail
  refine (HAR.out _ HB.out).mono ?_; rintro e v1 ⟨rfl, hb1⟩
  have HB1 := Lib.hid (below_more HB.out hb1)
  clear hb1 HAR x0 x1 hz_x y0 hz_y p0 p1 hz_p
  go_wp2_with fail
  go_ret2
  exact ⟨none, 0, rfl, Lib.hid (World.ownsRow_nil _ _ _ _), HB1.out⟩
set_option maxRecDepth 100000 in
set_option maxHeartbeats 32000000 in
theorem glayK_any (L : Lm) (A : Option Addr) (cap : Nat) (ns zs : List Nd) (way len : Int) (w : World) (hl : LmOk w L) (hn : NdsAt w A ns) (hc1 : ns.length ≤ cap) (hc : cap ≤ maxLen) (hT : textErr L.li ns = 0) (hQ : regQ plainP L.li ns = (zs, 0)) (hP : pageErr way len = 0) (bxs : Nat → List Bx) (hbx : ∀ k, k < (shpsI L.li (cwN way) zs).length → (bxs k).length ≤ 100000)
    (hbo : ∀ (k : Nat) (s : Shp) (wx : World) (arg : Value) (pw qw : Nat), (shpsI L.li (cwN way) zs)[k]? = some s → ShV wx s (.iface (tyOf s) arg) → Calls Tryz.prog 63 #[.agg (blCells (.iface (tyOf s) arg) (blA (cwN way) len (shpsI L.li (cwN way) zs) k)).toArray, .agg #[.bool (cwN way), .bool (mwN way), .func (.func (axA1 (cwN way))) #[] #[], .func (.func (axA2 (cwN way))) #[] #[], .func (.func 172) #[] #[.pointer (some ⟨pw, 0, none⟩)], .func (.func (axB1 (cwN way))) #[] #[], .func (.func (axB2 (cwN way))) #[] #[], .func (.func 172) #[] #[.pointer (some ⟨qw, 0, none⟩)]]] wx (GotRow wx 82 15 (bxs k).length ((bxs k).flatMap Bx.cells))) :
    Calls Tryz.prog 26 #[.agg #[.int .i64 L.per, .slice L.A L.ms.length L.cap], .agg #[.slice A ns.length cap], .agg #[.int .i64 way, .int .i64 len]] w (GotLayE ((List.range (shpsI L.li (cwN way) zs).length).flatMap bxs, 0) w) := by
  have hp := plain_pln hT hQ
  have hww : 1 ≤ way ∧ way ≤ 4 := by unfold pageErr at hP; split at hP <;> omega
  have HWY := Lib.hid (fun wx => wayN_any way hww wx)
  have HAR := Lib.hid (fun wx (hbx : Below w.heap.size w wx) => arrQ_any way len L A cap ns zs wx (hl.below hbx) (hn.below hbx) hc1 hc hT hQ hP)
  have hz200 := (text_ok hp.ok).2.1
  have hkl : (shpsI L.li (cwN way) zs).length = (topsL zs).length := by unfold shpsI; rw [List.length_map]
  have hM2 : (shpsI L.li (cwN way) zs).length ≤ 200 := by
    have h1 : (topsL zs).length ≤ zs.length := by
      unfold topsL
      refine Nat.le_trans (List.length_filter_le _ _) ?_
      rw [List.length_range]; exact Nat.le_refl _
    omega
  have HBO := Lib.hid hbo
  have HBC := Lib.hid hbx
  clear hbo hbx
  obtain ⟨ks, hks⟩ : ∃ ks, ks = shpsI L.li (cwN way) zs := ⟨_, rfl⟩
  obtain ⟨cw, hcw⟩ : ∃ cw, cw = cwN way := ⟨_, rfl⟩
  obtain ⟨mw, hmw⟩ : ∃ mw, mw = mwN way := ⟨_, rfl⟩
  rw [← hks] at hM2 HBC ⊢
  rw [← hks, ← hcw] at HAR
  rw [← hks, ← hcw, ← hmw] at HBO
  rw [← hcw, ← hmw] at HWY
  unfold GotArr at HAR
  obtain ⟨M, hM⟩ : ∃ M, M = ks.length := ⟨_, rfl⟩
  have HMM := Lib.hid hM
  rw [← hM] at HAR HBC hM2 ⊢
  obtain ⟨N, hN⟩ : ∃ N, N = ns.length := ⟨_, rfl⟩
  rw [← hN] at HAR hc1 ⊢
  unfold maxLen at hc
  clear hl hn hT hQ hP hp hz200 hkl hks hcw hmw hww hM hN
  obtain ⟨W1, hW1⟩ : ∃ W', W' = w.alloc (.cells #[.int .i64 L.per, .slice L.A L.ms.length L.cap] 24) := ⟨_, rfl⟩; obtain ⟨W2, hW2⟩ : ∃ W', W' = W1.alloc (.cells #[.slice A N cap] 27) := ⟨_, rfl⟩; obtain ⟨W, hW⟩ : ∃ W', W' = W2.alloc (.cells #[.int .i64 way, .int .i64 len] 31) := ⟨_, rfl⟩; have szW1 : W1.heap.size = w.heap.size + 1 := (by rw [hW1]; simp); have kbW1 : Below w.heap.size w W1 := hW1 ▸ below_alloc _ _; have szW2 : W2.heap.size = w.heap.size + 1 + 1 := (by rw [hW2]; simp [szW1]); have kbW2 : Below W1.heap.size W1 W2 := hW2 ▸ below_alloc _ _; have szW : W.heap.size = w.heap.size + 1 + 1 + 1 := (by rw [hW]; simp [szW2]); have kbW : Below W2.heap.size W2 W := hW ▸ below_alloc _ _; have HB := Lib.hid (below_more (below_more kbW1 kbW2) kbW); have D0 := Lib.hid (blk_keep kbW (blk_keep kbW2 (show W1.heap[w.heap.size]? = some (.cells #[.int .i64 L.per, .slice L.A L.ms.length L.cap] 24 (0, 0)) by rw [hW1]; exact heap_alloc_new _ _))); have D1 := Lib.hid (blk_keep kbW (show W2.heap[w.heap.size + 1]? = some (.cells #[.slice A N cap] 27 (0, 0)) by rw [hW2, ← szW1]; exact heap_alloc_new _ _)); have D2 := Lib.hid (show W.heap[w.heap.size + 1 + 1]? = some (.cells #[.int .i64 way, .int .i64 len] 31 (0, 0)) by rw [hW, ← szW2]; exact heap_alloc_new _ _); have SZW := Lib.hid szW; clear szW1 kbW1 szW2 kbW2 szW kbW
  have x0 := cell_of_blk D0.out 0; have x1 := cell_of_blk D0.out 1; have hz_x := (Array.getElem?_eq_some_iff.1 D0.out).1; simp at x0 x1
  have y0 := cell_of_blk D1.out 0; have hz_y := (Array.getElem?_eq_some_iff.1 D1.out).1; simp at y0
  have p0 := cell_of_blk D2.out 0; have p1 := cell_of_blk D2.out 1; have hz_p := (Array.getElem?_eq_some_iff.1 D2.out).1; simp at p0 p1
  obtain ⟨iv, hiv, hzv, hsv, hbv⟩ := info_hid infoBx
  go_enter Tryz.func26, Tryz.ntmps26
  go_wp2_with fail
  rw [← hW1, ← hW2, ← hW]; clear hW1 hW2 hW
  go_wp2_with fail
  refine (HAR.out _ HB.out).mono ?_; rintro e v1 ⟨Ab, cb, args, rfl, hown, hsv1, hb1⟩
  have HSV := Lib.hid hsv1.out
  clear hsv1
  have P2 := Lib.hid (blk_keep hb1 D2.out)
  have HB1 := Lib.hid (below_more HB.out hb1)
  obtain ⟨hMc, hcm, -⟩ := own_len hown.out
  unfold maxLen at hcm
  have HCE := Lib.hid (fun (k : Nat) (s : Shp) (hs : ks[k]? = some s) => (show ∃ b, Ab = some ⟨b, 0, none⟩ ∧ b < v1.heap.size ∧ ∀ (c : Nat) (u : Value), (blCells (usV ks args k) (blA cw len ks k))[c]? = some u → v1.cell? ⟨b, k * 9 + c, none⟩ = some u from by
    have hk := (List.getElem?_eq_some_iff.1 hs).1
    have hm := HMM.out
    obtain ⟨b, h1, -, h2, -, -, h3, -⟩ := own_open hown.out (by omega)
    refine ⟨b, h1, h2, fun c u hu => h3 _ _ ?_⟩
    have hc9 := (List.getElem?_eq_some_iff.1 hu).1
    rw [cellsA_at _ _ _ _ k c hc9 M (by omega)]
    exact hu))
  clear hown hb1 HAR x0 x1 hz_x y0 hz_y p0 p1 hz_p D0 D1 D2
  go_wp2_with fail
  go_loopw [10, 25] (fun v i wr => ∃ (k m : Nat), k ≤ M ∧ i = .int .i64 k ∧ m ≤ k * 100000 ∧ Hid (m = ((List.range k).flatMap bxs).length) ∧ Hid (wr.ownsRow v1.heap.size 82 15 v m (((List.range k).flatMap bxs).flatMap Bx.cells)) ∧ Hid (Below v1.heap.size v1 wr)) (fun _ i _ => M - (intOf i).toNat)
  case atStart => exact ⟨0, 0, Nat.zero_le _, rfl, Nat.zero_le _, Lib.hid rfl, Lib.hid (World.ownsRow_nil _ _ _ _), Lib.hid (Below.refl _ _)⟩
  case round =>
    obtain ⟨k, m, hk, rfl, hmk, hm, hown, hbw⟩ := hrel
    have HOE := Lib.hid hown.out
    have HMM2 := Lib.hid hm.out
    have HBR := Lib.hid hbw.out
    clear hm hown hbw
    by_cases hlt : k < M
    · obtain ⟨s, hs⟩ : ∃ s, ks[k]? = some s := ⟨_, List.getElem?_eq_getElem (by have := HMM.out; omega)⟩
      obtain ⟨b, rfl, hbV, hcell⟩ := HCE.out k s hs
      rw [usV_at hs] at hcell
      have hsv := HSV.out k s hs
      obtain ⟨arg, harg⟩ : ∃ a, a = args k := ⟨_, rfl⟩
      rw [← harg] at hcell hsv
      have HBX := Lib.hid (fun wx pw qw (hb : Below v1.heap.size v1 wx) => HBO.out k s wx arg pw qw hs (ShV.below hb s _ hsv))
      obtain ⟨bl, hbl⟩ : ∃ bl, bl = blA cw len ks k := ⟨_, rfl⟩
      rw [← hbl] at hcell HBX
      obtain ⟨bs, ⟨n1, d1⟩, ⟨n2, d2⟩, ⟨n3, d3⟩, bln, bst⟩ := bl
      have hqb := HBC.out k hlt
      have HNX := Lib.hid (show (List.range (k + 1)).flatMap bxs = (List.range k).flatMap bxs ++ bxs k by rw [List.range_succ, List.flatMap_append]; simp)
      obtain ⟨cur, hcur⟩ : ∃ c, c = bxs k := ⟨_, rfl⟩
      rw [← hcur] at HBX hqb HNX
      obtain ⟨q, hq⟩ : ∃ q, q = cur.length := ⟨_, rfl⟩
      have HQ := Lib.hid hq
      rw [← hq] at HBX hqb
      have HBL := Lib.hid (show (cur.flatMap Bx.cells).length = q * 15 by rw [hq]; exact flat_len (f := Bx.cells) (fun _ => rfl) _)
      have HB1x := Lib.hid (show ∀ u ∈ cur.flatMap Bx.cells, u.oneCell' = true from fun u hu => by
        obtain ⟨p, _, h⟩ := List.mem_flatMap.1 hu
        exact bx_one p u h)
      obtain ⟨done, hdn⟩ : ∃ d, d = (List.range k).flatMap bxs := ⟨_, rfl⟩
      rw [← hdn] at HOE HMM2 HNX
      unfold blCells at HBX
      dsimp only at HBX
      obtain ⟨BS, hBS⟩ : ∃ B, B = cur.flatMap Bx.cells := ⟨_, rfl⟩
      rw [← hBS] at HBX HBL HB1x
      have HBS := Lib.hid hBS
      have hki : (0 : Int) ≤ (k : Int) := by omega
      have hkl : (k : Int) < (M : Int) := by omega
      have z0 := (HBR.out.cell (p := ⟨b, k * 9 + 0, none⟩) hbV).trans (hcell 0 _ rfl)
      have z1 := (HBR.out.cell (p := ⟨b, k * 9 + 1, none⟩) hbV).trans (hcell 1 _ rfl)
      have z2 := (HBR.out.cell (p := ⟨b, k * 9 + 2, none⟩) hbV).trans (hcell 2 _ rfl)
      have z3 := (HBR.out.cell (p := ⟨b, k * 9 + 3, none⟩) hbV).trans (hcell 3 _ rfl)
      have z4 := (HBR.out.cell (p := ⟨b, k * 9 + 4, none⟩) hbV).trans (hcell 4 _ rfl)
      have z5 := (HBR.out.cell (p := ⟨b, k * 9 + 5, none⟩) hbV).trans (hcell 5 _ rfl)
      have z6 := (HBR.out.cell (p := ⟨b, k * 9 + 6, none⟩) hbV).trans (hcell 6 _ rfl)
      have z7 := (HBR.out.cell (p := ⟨b, k * 9 + 7, none⟩) hbV).trans (hcell 7 _ rfl)
      have z8 := (HBR.out.cell (p := ⟨b, k * 9 + 8, none⟩) hbV).trans (hcell 8 _ rfl)
      dsimp only at z0 z1 z2 z3 z4 z5 z6 z7 z8
      simp only [Nat.add_zero] at z0
      have hgr : b < wr.heap.size := by have := HBR.out.size; omega
      clear hcell hsv harg hbl hs hcur hq hdn hBS
      go_upto_region 8 with fail
      obtain ⟨Y, hY⟩ : ∃ Y, Y = wr.alloc (.cells #[.iface (tyOf s) arg, .int .i64 n1, .int .i64 d1, .int .i64 n2, .int .i64 d2, .int .i64 n3, .int .i64 d3, .int .i64 bln, .int .i64 bst] 123) := ⟨_, rfl⟩
      have HBY := Lib.hid (show Below wr.heap.size wr Y from hY ▸ below_alloc _ _)
      have T1 := Lib.hid (show Y.heap[wr.heap.size]? = some (.cells #[.iface (tyOf s) arg, .int .i64 n1, .int .i64 d1, .int .i64 n2, .int .i64 d2, .int .i64 n3, .int .i64 d3, .int .i64 bln, .int .i64 bst] 123 (0, 0)) from hY ▸ heap_alloc_new _ _)
      have T2 := Lib.hid (blk_keep HBY.out (blk_keep HBR.out P2.out))
      rw [← hY]
      clear hY z0 z1 z2 z3 z4 z5 z6 z7 z8 hgr
      obtain ⟨S, hS⟩ : ∃ S : World → Prop, S = fun wx => wx.cell? ⟨wr.heap.size, 0, none⟩ = some (.iface (tyOf s) arg) ∧ wx.cell? ⟨wr.heap.size, 1, none⟩ = some (.int .i64 n1) ∧ wx.cell? ⟨wr.heap.size, 2, none⟩ = some (.int .i64 d1) ∧ wx.cell? ⟨wr.heap.size, 3, none⟩ = some (.int .i64 n2) ∧ wx.cell? ⟨wr.heap.size, 4, none⟩ = some (.int .i64 d2) ∧ wx.cell? ⟨wr.heap.size, 5, none⟩ = some (.int .i64 n3) ∧ wx.cell? ⟨wr.heap.size, 6, none⟩ = some (.int .i64 d3) ∧ wx.cell? ⟨wr.heap.size, 7, none⟩ = some (.int .i64 bln) ∧ wx.cell? ⟨wr.heap.size, 8, none⟩ = some (.int .i64 bst) ∧ wx.cell? ⟨w.heap.size + 1 + 1, 0, none⟩ = some (.int .i64 way) := ⟨_, rfl⟩
      have HSU := Lib.hid (fun wx (h : S wx) => show wx.cell? ⟨wr.heap.size, 0, none⟩ = some (.iface (tyOf s) arg) ∧ wx.cell? ⟨wr.heap.size, 1, none⟩ = some (.int .i64 n1) ∧ wx.cell? ⟨wr.heap.size, 2, none⟩ = some (.int .i64 d1) ∧ wx.cell? ⟨wr.heap.size, 3, none⟩ = some (.int .i64 n2) ∧ wx.cell? ⟨wr.heap.size, 4, none⟩ = some (.int .i64 d2) ∧ wx.cell? ⟨wr.heap.size, 5, none⟩ = some (.int .i64 n3) ∧ wx.cell? ⟨wr.heap.size, 6, none⟩ = some (.int .i64 d3) ∧ wx.cell? ⟨wr.heap.size, 7, none⟩ = some (.int .i64 bln) ∧ wx.cell? ⟨wr.heap.size, 8, none⟩ = some (.int .i64 bst) ∧ wx.cell? ⟨w.heap.size + 1 + 1, 0, none⟩ = some (.int .i64 way) from by rw [hS] at h; exact h)
      have HK := Lib.hid (fun wx (h1 : wx.heap[wr.heap.size]? = some (.cells #[.iface (tyOf s) arg, .int .i64 n1, .int .i64 d1, .int .i64 n2, .int .i64 d2, .int .i64 n3, .int .i64 d3, .int .i64 bln, .int .i64 bst] 123 (0, 0))) (h2 : wx.heap[w.heap.size + 1 + 1]? = some (.cells #[.int .i64 way, .int .i64 len] 31 (0, 0))) => show S wx from by
        rw [hS]
        exact ⟨cell_of_blk h1 0, cell_of_blk h1 1, cell_of_blk h1 2, cell_of_blk h1 3, cell_of_blk h1 4, cell_of_blk h1 5, cell_of_blk h1 6, cell_of_blk h1 7, cell_of_blk h1 8, cell_of_blk h2 0⟩)
      clear hS
      have HDR := Lib.hid (show Below Y.heap.size Y Y.drew from (Below.refl _ _).drew)
      obtain ⟨Av, cv, hv7, -, -, -, -⟩ := own_slice HOE.out
      subst hv7
      have hHS := HK.out _ (blk_keep HDR.out T1.out) (blk_keep HDR.out T2.out)
      refine wp_region_held_drew (S := S) (by kernel_rfl) hHS (fun HS => ?_)
      refine wpAnyH_take (i := 0) (v := ?_) rfl (by kernel_rfl) (by kernel_rfl) (by kernel_rfl) (fun _ _ _ h => h) (Or.inl ⟨by rfl, ?_⟩) HS ?_
      case refine_2 => (intro wx hSw; obtain ⟨s0, s1, s2, s3, s4, s5, s6, s7, s8, s9⟩ := HSU.out wx hSw; go_simp; try with_reducible rfl)
      refine wpAnyH_take (i := 1) (v := ?_) rfl (by kernel_rfl) (by kernel_rfl) (by kernel_rfl) (fun _ _ _ h => h) (Or.inl ⟨by rfl, ?_⟩) HS ?_
      case refine_2 => (intro wx hSw; obtain ⟨s0, s1, s2, s3, s4, s5, s6, s7, s8, s9⟩ := HSU.out wx hSw; go_simp; try with_reducible rfl)
      refine wpAnyH_take (i := 2) (v := ?_) rfl (by kernel_rfl) (by kernel_rfl) (by kernel_rfl) (fun _ _ _ h => h) (Or.inl ⟨by rfl, ?_⟩) HS ?_
      case refine_2 => (intro wx hSw; obtain ⟨s0, s1, s2, s3, s4, s5, s6, s7, s8, s9⟩ := HSU.out wx hSw; go_simp; try with_reducible rfl)
      refine wpAnyH_take (i := 3) (v := ?_) rfl (by kernel_rfl) (by kernel_rfl) (by kernel_rfl) (fun _ _ _ h => h) (Or.inl ⟨by rfl, ?_⟩) HS ?_
      case refine_2 => (intro wx hSw; obtain ⟨s0, s1, s2, s3, s4, s5, s6, s7, s8, s9⟩ := HSU.out wx hSw; go_simp; try with_reducible rfl)
      refine wpAnyH_ready (rs := [4]) (by kernel_rfl) (by simp) ?_
      refine AllReadyH.cons rfl (fun K hK => ?_) AllReadyH.nil
      go_simp
      refine (HWY.out _).mono ?_; rintro e x1 ⟨pw, qw, rfl, -, -, hx1⟩
      have kx1 := below_more HDR.out hx1
      go_wp2_with fail
      have hHS := HK.out _ (blk_keep kx1 T1.out) (blk_keep kx1 T2.out)
      refine hK.out _ _ hHS (fun HS => ?_)
      clear hK K
      refine wpAnyH_ready (rs := [5]) (by kernel_rfl) (by simp) ?_
      refine AllReadyH.cons rfl (fun K hK => ?_) AllReadyH.nil
      go_simp
      refine (HBX.out _ pw qw (HBR.out.trans ((below_more HBY.out kx1).mono HBR.out.size))).mono ?_; rintro e x2 ⟨A5, c5, rfl, hown5, hx2⟩
      have kx2 := below_more kx1 hx2
      have kr2 := below_more HBY.out kx2
      go_wp2_with fail
      have hHS := HK.out _ (blk_keep kx2 T1.out) (blk_keep kx2 T2.out)
      refine hK.out _ _ hHS (fun HS => ?_)
      clear hK K
      have hown3 := ownsRow_of_block HOE.out (fun g hg => kr2.block g (HOE.out.lt g hg).2)
      have hbase3 : v1.heap.size ≤ x2.heap.size := Nat.le_trans HBR.out.size kr2.size
      obtain ⟨t1, t2, t3, t4⟩ := own_srcP hown5
      have v1k := blk_keep kx2 T1.out
      have v2k := blk_keep kx2 T2.out
      refine wpAnyH_ready (rs := [6]) (by kernel_rfl) (by simp) ?_
      refine AllReadyH.cons rfl (fun K hK => ?_) AllReadyH.nil
      refine step_append_src2 _ rfl (.tmp 29) (.tmp 34) 51 rfl v1.heap.size 82 iv (.agg #[.int .i64 0, .int .i64 0, .int .i64 0, .bool false, .int .i64 0, .int .i64 0, .int .i64 0, .int .i64 0, .int .i64 0, .int .i64 0, .int .i64 0, .int .i64 0, .int .i64 0, .int .i64 0, .int .i64 0]) 15 120 Tryz.underlying51 hiv.out hzv.out hsv.out hbv.out rfl (by decide) (.slice Av m cv) m (done.flatMap Bx.cells) rfl hown3 A5 q c5 BS rfl HBL.out t2 t3 HB1x.out (by unfold maxLen; omega) (by omega) hbase3 (m + q) rfl ?_
      intro A9 c9 w9 own9 hg9 hn9
      have r1 := (hg9.block wr.heap.size (by have := (Array.getElem?_eq_some_iff.1 v1k).1; omega) (fun h => by have := (HOE.out.lt _ h.symm).2; omega)).trans v1k
      have r2 := (hg9.block (w.heap.size + 1 + 1) (by have := (Array.getElem?_eq_some_iff.1 v2k).1; omega) (fun h => by have h1 := (HOE.out.lt _ h.symm).1; have := (Array.getElem?_eq_some_iff.1 P2.out).1; omega)).trans v2k
      have hB9 := (HBR.out.trans (kr2.mono HBR.out.size)).grown hg9 hbase3 (fun g hg => (HOE.out.lt g hg).1)
      have hHS := HK.out _ r1 r2
      refine hK.out _ _ hHS (fun HS => ?_)
      clear hK K
      refine wpAnyH_take (i := 7) (v := ?_) rfl (by kernel_rfl) (by kernel_rfl) (by kernel_rfl) (fun _ _ _ h => h) (Or.inl ⟨by rfl, ?_⟩) HS ?_
      case refine_2 => (intro wx hSw; obtain ⟨s0, s1, s2, s3, s4, s5, s6, s7, s8, s9⟩ := HSU.out wx hSw; go_simp; try with_reducible rfl)
      refine wpAnyH_done (by kernel_rfl) ?_ _
      have HB9 := Lib.hid hB9
      have HM9 := Lib.hid (show m + q = ((List.range (k + 1)).flatMap bxs).length by rw [HNX.out, List.length_append, ← HMM2.out, ← HQ.out])
      have HO9 := Lib.hid (show w9.ownsRow v1.heap.size 82 15 (.slice A9 (m + q) c9) (m + q) (((List.range (k + 1)).flatMap bxs).flatMap Bx.cells) by
        rw [HNX.out, List.flatMap_append, ← HBS.out]; exact own9)
      clear own9 hg9 hn9 r1 r2 hB9 v1k v2k kx1 kx2 hx1 hx2 hown5 hown3 hbase3 t1 t2 t3 t4 kr2 HK HDR HSU HS hHS
      go_wp2_with fail
      go_roundw
      case rel => exact ⟨k + 1, m + q, by omega, by go_num, by omega, HM9, HO9, HB9⟩
      case measure => simp [intOf]; omega
    · obtain rfl : k = M := by omega
      obtain ⟨Av, cv, hv7, -, -, -, -⟩ := own_slice HOE.out
      subst hv7
      have HBF := Lib.hid (below_more HB1.out HBR.out)
      have HOF := Lib.hid (own_base HOE.out HB1.out.size)
      go_wp2_with fail
      go_ret2
      unfold GotLayE
      dsimp only
      rw [← HMM2.out]
      exact ⟨Av, cv, rfl, HOF, HBF.out⟩
end Go.Proofs.YtmiokllpdmmfhaaGreat
