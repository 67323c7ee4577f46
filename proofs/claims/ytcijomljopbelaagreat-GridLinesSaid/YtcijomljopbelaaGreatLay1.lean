/-
  The boxes of a text with one group that is no ring, in rows from the left (Lay), by the program.
-/
import Derived.Test.YtcijomljopbelaaGreatArr1
namespace Go.Proofs.YtcijomljopbelaaGreat
open Go.RowKit

theorem newBl_bd2 {cw : Bool} {s : Shp} (hB : szB s) : ((0 ≤ (newBl cw s).sc.num ∧ (newBl cw s).sc.num ≤ 48) ∧ 1 ≤ (newBl cw s).sc.den ∧ (newBl cw s).sc.den ≤ 1000000) ∧ (0 ≤ (newBl cw s).ac.num ∧ (newBl cw s).ac.num ≤ 100000000) ∧ 1 ≤ (newBl cw s).ac.den ∧ (newBl cw s).ac.den ≤ 1000000 := by
  unfold szB at hB
  have ha : 0 ≤ acR cw s ∧ acR cw s ≤ 1000000 := by unfold acR; split <;> omega
  have hl : 0 ≤ alR cw s ∧ alR cw s ≤ 1000000 := by unfold alR; split <;> omega
  have hm : 48 ≤ max 48 (if isRng s then acR cw s else max s.size.1 s.size.2) ∧ max 48 (if isRng s then acR cw s else max s.size.1 s.size.2) ≤ 1000000 := by split <;> omega
  have h1 : (0 ≤ (sclR cw s).num ∧ (sclR cw s).num ≤ 48) ∧ 1 ≤ (sclR cw s).den ∧ (sclR cw s).den ≤ 1000000 := by
    unfold sclR
    have := fracR_bd (n := 48) (d := max 48 (if isRng s then acR cw s else max s.size.1 s.size.2)) (by omega) (by omega)
    omega
  have a := Int.mul_nonneg h1.1.1 ha.1
  have b := Int.mul_le_mul h1.1.2 ha.2 ha.1 (by omega)
  have := fracR_bd (n := (sclR cw s).num * acR cw s) (d := (sclR cw s).den) a (by omega)
  show ((0 ≤ (sclR cw s).num ∧ (sclR cw s).num ≤ 48) ∧ 1 ≤ (sclR cw s).den ∧ (sclR cw s).den ≤ 1000000) ∧ (0 ≤ (fracR ((sclR cw s).num * acR cw s) (sclR cw s).den).num ∧ (fracR ((sclR cw s).num * acR cw s) (sclR cw s).den).num ≤ 100000000) ∧ 1 ≤ (fracR ((sclR cw s).num * acR cw s) (sclR cw s).den).den ∧ (fracR ((sclR cw s).num * acR cw s) (sclR cw s).den).den ≤ 1000000
  omega
/-- the boxes of a text with one group, in rows from the left -/
def lay1 (s : Shp) : List Bx := (s.pcs 0 0).map (boxPc (newBl false s).sc ⟨0, 1⟩ (croR (newBl false s).ac.num (newBl false s).ac.den 0))
def GotLay (bs : List Bx) (w : World) (e : Ending) (w' : World) : Prop := ∃ A c, e = .returned (.tuple #[.slice A bs.length c, .int .i64 0]) ∧ Hid (w'.ownsRow w.heap.size 82 15 (.slice A bs.length c) bs.length (bs.flatMap Bx.cells)) ∧ Below w.heap.size w w'

set_option maxRecDepth 100000 in
set_option maxHeartbeats 16000000 in
theorem lay1_any (L : Lm) (A : Option Addr) (cap : Nat) (ns zs : List Nd) (len : Int) (s : Shp) (w : World) (hl : LmOk w L) (hn : NdsAt w A ns) (hc1 : ns.length ≤ cap) (hc : cap ≤ maxLen) (hQ : regQ plainP L.li ns = (zs, 0)) (hlen : 48 ≤ len ∧ len ≤ 4800)
    (hS : ∀ pw qw, ShapesOk L false false 131 132 135 136 pw qw [s]) (hof : ShsOf L false [s] zs) (hrg : isRng s = false) (hO : SzOk s) (hP : PcOk s) (hB : szB s) (hcnt : s.cnt ≤ 100000) (hpc : ∀ p ∈ s.pcs 0 0, smallP p) :
    Calls Tryz.prog 26 #[.agg #[.int .i64 L.per, .slice L.A L.ms.length L.cap], .agg #[.slice A ns.length cap], .agg #[.int .i64 1, .int .i64 len]] w (GotLay (lay1 s) w) := by
  have HAR := Lib.hid (fun wx (hb : Below w.heap.size w wx) => arr1_any L A cap ns zs len s wx (hl.below hb) (hn.below hb) hc1 hc hQ hlen hS hof hrg hO hB)
  have hbd := newBl_bd2 (cw := false) hB
  have HLL := Lib.hid (show lay1 s = (s.pcs 0 0).map (boxPc (newBl false s).sc ⟨0, 1⟩ (croR (newBl false s).ac.num (newBl false s).ac.den 0)) from rfl)
  obtain ⟨b0, hb0⟩ : ∃ b, b = newBl false s := ⟨_, rfl⟩
  have HLN := Lib.hid (show b0.ln = 0 ∧ b0.st = 0 from ⟨by rw [hb0]; rfl, by rw [hb0]; rfl⟩)
  unfold GotArr1 at HAR
  rw [← hb0] at hbd HAR HLL
  clear hb0
  obtain ⟨bs, ⟨n1, d1⟩, ⟨n2, d2⟩, ⟨n3, d3⟩, bln, bst⟩ := b0
  dsimp only at hbd HAR HLN HLL
  obtain ⟨rfl, rfl⟩ := HLN.out
  clear HLN
  unfold blCells at HAR
  dsimp only at HAR
  have HBX := Lib.hid (fun wx arg pw qw (hv : ShV wx s (.iface (tyOf s) arg)) => boxes_any false false rfl 131 132 135 136 pw qw s arg n1 d1 n2 d2 n3 d3 0 0 wx hP hB hcnt hv hpc hbd.1.1 (by omega) hbd.2.1 (by omega) (by omega) (by omega) ⟨0, 1⟩ (croR n3 d3 0) (by simp) (by simp))
  obtain ⟨q, hq⟩ : ∃ q, q = (lay1 s).length := ⟨_, rfl⟩
  have hqe : (s.pcs 0 0).length = q := by rw [hq, HLL.out, List.length_map]
  rw [hqe, ← HLL.out] at HBX
  have hqb : q ≤ 100000 := by rw [← hqe, pcs_cnt]; exact hcnt
  unfold GotLay
  rw [← hq]
  obtain ⟨BS, hBS⟩ : ∃ B, B = (lay1 s).flatMap Bx.cells := ⟨_, rfl⟩
  have HBL := Lib.hid (show BS.length = q * 15 by rw [hBS, hq]; exact flat_len (f := Bx.cells) (fun _ => rfl) _)
  have HB1 := Lib.hid (show ∀ u ∈ BS, u.oneCell' = true from fun u hu => by
    rw [hBS] at hu
    obtain ⟨p, _, h⟩ := List.mem_flatMap.1 hu
    exact bx_one p u h)
  rw [← hBS] at HBX ⊢
  clear hl hn hQ hlen hS hof hrg hO hP hB hcnt hpc hq hqe hBS HLL hbd
  obtain ⟨N, hN⟩ : ∃ N, N = ns.length := ⟨_, rfl⟩
  rw [← hN] at HAR hc1 ⊢
  unfold maxLen at hc
  clear hN
  obtain ⟨W1, hW1⟩ : ∃ W1, W1 = w.alloc (.cells #[.int .i64 L.per, .slice L.A L.ms.length L.cap] 24) := ⟨_, rfl⟩
  obtain ⟨W2, hW2⟩ : ∃ W2, W2 = W1.alloc (.cells #[.slice A N cap] 27) := ⟨_, rfl⟩
  obtain ⟨W, hW⟩ : ∃ W, W = W2.alloc (.cells #[.int .i64 1, .int .i64 len] 31) := ⟨_, rfl⟩
  have s1 : W1.heap.size = w.heap.size + 1 := by rw [hW1]; simp
  have s2 : W2.heap.size = w.heap.size + 1 + 1 := by rw [hW2]; simp [s1]
  have s3 : W.heap.size = w.heap.size + 1 + 1 + 1 := by rw [hW]; simp [s2]
  have k1 : Below w.heap.size w W1 := hW1 ▸ below_alloc _ _
  have k2 : Below W1.heap.size W1 W2 := hW2 ▸ below_alloc _ _
  have k3 : Below W2.heap.size W2 W := hW ▸ below_alloc _ _
  have HB := Lib.hid (below_more (below_more k1 k2) k3)
  have D0 := Lib.hid (blk_keep k3 (blk_keep k2 (show W1.heap[w.heap.size]? = some (.cells #[.int .i64 L.per, .slice L.A L.ms.length L.cap] 24 (0, 0)) by rw [hW1]; exact heap_alloc_new _ _)))
  have D1 := Lib.hid (blk_keep k3 (show W2.heap[w.heap.size + 1]? = some (.cells #[.slice A N cap] 27 (0, 0)) by rw [hW2, ← s1]; exact heap_alloc_new _ _))
  have D2 := Lib.hid (show W.heap[w.heap.size + 1 + 1]? = some (.cells #[.int .i64 1, .int .i64 len] 31 (0, 0)) by rw [hW, ← s2]; exact heap_alloc_new _ _)
  clear s1 s2 s3 k1 k2 k3
  have x0 := cell_of_blk D0.out 0
  have x1 := cell_of_blk D0.out 1
  have y0 := cell_of_blk D1.out 0
  have p0 := cell_of_blk D2.out 0
  have p1 := cell_of_blk D2.out 1
  have hz0 := (Array.getElem?_eq_some_iff.1 D0.out).1
  have hz1 := (Array.getElem?_eq_some_iff.1 D1.out).1
  have hz2 := (Array.getElem?_eq_some_iff.1 D2.out).1
  simp at x0 x1 y0 p0 p1
  obtain ⟨iv, hiv, hzv, hsv, hbv⟩ := info_hid infoBx
  go_enter Tryz.func26, Tryz.ntmps26
  go_wp2_with fail
  rw [← hW1, ← hW2, ← hW]
  clear hW1 hW2 hW
  go_wp2_with fail
  refine (HAR.out _ HB.out).mono ?_; rintro e v2 ⟨A3, c3, arg, rfl, hown, hvs, hb2⟩
  obtain ⟨A4, c4, hv4, -, -, hpl, hnl⟩ := own_slice hown.out
  injection hv4 with e1 e2 e3
  subst e1 e3
  cases A3 with
  | none => have := hnl rfl; omega
  | some ad =>
  obtain ⟨g, rfl, -, hgV, hcell⟩ := hpl ad rfl
  have HB2 := Lib.hid (below_more HB.out hb2)
  have P2 := Lib.hid (blk_keep hb2 D2.out)
  have HVS := Lib.hid hvs.out
  have HCL := Lib.hid hcell
  clear hown hvs hpl hnl hcell hb2 x0 x1 y0 p0 p1 hz0 hz1 hz2
  go_wp2_with fail
  go_loopw [10, 25] (fun v i wr => ∃ (k m : Nat), k ≤ 1 ∧ i = .int .i64 k ∧ Hid (m = if k = 0 then 0 else q) ∧ Hid (wr.ownsRow v2.heap.size 82 15 v m (if k = 0 then [] else BS)) ∧ Hid (Below v2.heap.size v2 wr)) (fun _ i _ => 1 - (intOf i).toNat)
  case atStart => exact ⟨0, 0, Nat.zero_le _, rfl, Lib.hid rfl, Lib.hid (by simpa using World.ownsRow_nil _ _ _ _), Lib.hid (Below.refl _ _)⟩
  case round =>
    obtain ⟨k, m, hk, rfl, hm, hown, hbw⟩ := hrel
    have HOW := Lib.hid hown.out
    have HBR := Lib.hid hbw.out
    have HMM := Lib.hid hm.out
    clear hown hbw hm
    by_cases hlt : k < 1
    · have hk0 : k = 0 := by omega
      have HM0 := Lib.hid (show m = 0 by rw [HMM.out, if_pos hk0])
      have HOE := Lib.hid (show wr.ownsRow v2.heap.size 82 15 u10 m [] by have := HOW.out; rwa [if_pos hk0] at this)
      have hki : (0 : Int) ≤ (k : Int) := by omega
      have hkl : (k : Int) < 1 := by omega
      have hcell := HCL.out
      have z0 := (HBR.out.cell (p := ⟨g, k * 9 + 0, none⟩) hgV).trans (show v2.cell? ⟨g, k * 9 + 0, none⟩ = some (.iface (tyOf s) arg) by rw [hk0]; exact hcell 0 _ rfl)
      have z1 := (HBR.out.cell (p := ⟨g, k * 9 + 1, none⟩) hgV).trans (show v2.cell? ⟨g, k * 9 + 1, none⟩ = some (.int .i64 n1) by rw [hk0]; exact hcell 1 _ rfl)
      have z2 := (HBR.out.cell (p := ⟨g, k * 9 + 2, none⟩) hgV).trans (show v2.cell? ⟨g, k * 9 + 2, none⟩ = some (.int .i64 d1) by rw [hk0]; exact hcell 2 _ rfl)
      have z3 := (HBR.out.cell (p := ⟨g, k * 9 + 3, none⟩) hgV).trans (show v2.cell? ⟨g, k * 9 + 3, none⟩ = some (.int .i64 n2) by rw [hk0]; exact hcell 3 _ rfl)
      have z4 := (HBR.out.cell (p := ⟨g, k * 9 + 4, none⟩) hgV).trans (show v2.cell? ⟨g, k * 9 + 4, none⟩ = some (.int .i64 d2) by rw [hk0]; exact hcell 4 _ rfl)
      have z5 := (HBR.out.cell (p := ⟨g, k * 9 + 5, none⟩) hgV).trans (show v2.cell? ⟨g, k * 9 + 5, none⟩ = some (.int .i64 n3) by rw [hk0]; exact hcell 5 _ rfl)
      have z6 := (HBR.out.cell (p := ⟨g, k * 9 + 6, none⟩) hgV).trans (show v2.cell? ⟨g, k * 9 + 6, none⟩ = some (.int .i64 d3) by rw [hk0]; exact hcell 6 _ rfl)
      have z7 := (HBR.out.cell (p := ⟨g, k * 9 + 7, none⟩) hgV).trans (show v2.cell? ⟨g, k * 9 + 7, none⟩ = some (.int .i64 0) by rw [hk0]; exact hcell 7 _ rfl)
      have z8 := (HBR.out.cell (p := ⟨g, k * 9 + 8, none⟩) hgV).trans (show v2.cell? ⟨g, k * 9 + 8, none⟩ = some (.int .i64 0) by rw [hk0]; exact hcell 8 _ rfl)
      simp only [Nat.add_zero] at z0
      have hgr : g < wr.heap.size := by have := HBR.out.size; omega
      clear HOW HMM hk0 hcell
      go_upto_region 8 with fail
      obtain ⟨Y, hY⟩ : ∃ Y, Y = wr.alloc (.cells #[.iface (tyOf s) arg, .int .i64 n1, .int .i64 d1, .int .i64 n2, .int .i64 d2, .int .i64 n3, .int .i64 d3, .int .i64 0, .int .i64 0] 123) := ⟨_, rfl⟩
      have HBY := Lib.hid (show Below wr.heap.size wr Y from hY ▸ below_alloc _ _)
      have T1 := Lib.hid (show Y.heap[wr.heap.size]? = some (.cells #[.iface (tyOf s) arg, .int .i64 n1, .int .i64 d1, .int .i64 n2, .int .i64 d2, .int .i64 n3, .int .i64 d3, .int .i64 0, .int .i64 0] 123 (0, 0)) from hY ▸ heap_alloc_new _ _)
      have T2 := Lib.hid (blk_keep HBY.out (blk_keep HBR.out P2.out))
      rw [← hY]
      clear hY z0 z1 z2 z3 z4 z5 z6 z7 z8
      have HKS := Lib.hid (fun (wx : World) (h1 : wx.heap[wr.heap.size]? = some (.cells #[.iface (tyOf s) arg, .int .i64 n1, .int .i64 d1, .int .i64 n2, .int .i64 d2, .int .i64 n3, .int .i64 d3, .int .i64 0, .int .i64 0] 123 (0, 0))) (h2 : wx.heap[w.heap.size + 1 + 1]? = some (.cells #[.int .i64 1, .int .i64 len] 31 (0, 0))) => show wx.cell? ⟨wr.heap.size, 0, none⟩ = some (.iface (tyOf s) arg) ∧ wx.cell? ⟨wr.heap.size, 1, none⟩ = some (.int .i64 n1) ∧ wx.cell? ⟨wr.heap.size, 2, none⟩ = some (.int .i64 d1) ∧ wx.cell? ⟨wr.heap.size, 3, none⟩ = some (.int .i64 n2) ∧ wx.cell? ⟨wr.heap.size, 4, none⟩ = some (.int .i64 d2) ∧ wx.cell? ⟨wr.heap.size, 5, none⟩ = some (.int .i64 n3) ∧ wx.cell? ⟨wr.heap.size, 6, none⟩ = some (.int .i64 d3) ∧ wx.cell? ⟨wr.heap.size, 7, none⟩ = some (.int .i64 0) ∧ wx.cell? ⟨wr.heap.size, 8, none⟩ = some (.int .i64 0) ∧ wx.cell? ⟨w.heap.size + 1 + 1, 0, none⟩ = some (.int .i64 1) from ⟨cell_of_blk h1 0, cell_of_blk h1 1, cell_of_blk h1 2, cell_of_blk h1 3, cell_of_blk h1 4, cell_of_blk h1 5, cell_of_blk h1 6, cell_of_blk h1 7, cell_of_blk h1 8, cell_of_blk h2 0⟩)
      have HDR := Lib.hid (show Below Y.heap.size Y Y.drew from (Below.refl _ _).drew)
      have E1 := Lib.hid (blk_keep HDR.out T1.out)
      have E2 := Lib.hid (blk_keep HDR.out T2.out)
      obtain ⟨Av, cv, hv7, -, -, -, -⟩ := own_slice HOE.out
      subst hv7
      have hmb : m + q ≤ 100000 := by have := HM0.out; omega
      have HVY := Lib.hid (fun wx (hb : Below wr.heap.size wr wx) => ShV.below (HBR.out.trans (hb.mono HBR.out.size)) s _ HVS.out)
      go_region_held3 (fun wx => wx.cell? ⟨wr.heap.size, 0, none⟩ = some (.iface (tyOf s) arg) ∧ wx.cell? ⟨wr.heap.size, 1, none⟩ = some (.int .i64 n1) ∧ wx.cell? ⟨wr.heap.size, 2, none⟩ = some (.int .i64 d1) ∧ wx.cell? ⟨wr.heap.size, 3, none⟩ = some (.int .i64 n2) ∧ wx.cell? ⟨wr.heap.size, 4, none⟩ = some (.int .i64 d2) ∧ wx.cell? ⟨wr.heap.size, 5, none⟩ = some (.int .i64 n3) ∧ wx.cell? ⟨wr.heap.size, 6, none⟩ = some (.int .i64 d3) ∧ wx.cell? ⟨wr.heap.size, 7, none⟩ = some (.int .i64 0) ∧ wx.cell? ⟨wr.heap.size, 8, none⟩ = some (.int .i64 0) ∧ wx.cell? ⟨w.heap.size + 1 + 1, 0, none⟩ = some (.int .i64 1))
        ((first | exact HKS.out _ E1.out E2.out | exact HKS.out _ y1 y2 | exact HKS.out _ v1 v2' | exact HKS.out _ t1 t2))
        (first
          | (go_at_call 64; refine (wayRow_any _).mono ?_; rintro e x1 ⟨pw, qw, rfl, hpw, hqw, hx1⟩; have kx1 := below_more HDR.out hx1; have y1 := blk_keep kx1 T1.out; have y2 := blk_keep kx1 T2.out)
          | (go_at_call 63; refine (HBX.out _ arg pw qw (HVY.out _ (below_more HBY.out kx1))).mono ?_; rintro e x2 ⟨A5, c5, rfl, hown5, hx2⟩; have kx2 := below_more kx1 hx2; have v1 := blk_keep kx2 T1.out; have v2' := blk_keep kx2 T2.out; have kr2 := below_more HBY.out kx2
             have hown3 := ownsRow_of_block HOE.out (fun g hg => kr2.block g (HOE.out.lt g hg).2)
             have hbase3 : v2.heap.size ≤ x2.heap.size := Nat.le_trans HBR.out.size kr2.size
             obtain ⟨s1, s2, s3, s4⟩ := own_srcP hown5)
          | (refine step_append_src2 _ rfl (.tmp 29) (.tmp 34) 51 rfl v2.heap.size 82 iv (.agg #[.int .i64 0, .int .i64 0, .int .i64 0, .bool false, .int .i64 0, .int .i64 0, .int .i64 0, .int .i64 0, .int .i64 0, .int .i64 0, .int .i64 0, .int .i64 0, .int .i64 0, .int .i64 0, .int .i64 0]) 15 120 Tryz.underlying51 hiv.out hzv.out hsv.out hbv.out rfl (by decide) (.slice Av m cv) m [] rfl hown3 A5 q c5 BS rfl HBL.out s2 s3 HB1.out (by unfold maxLen; omega) (by omega) hbase3 (m + q) rfl ?_; intro A9 c9 w9 own9 hg9 hn9
             have t1 := (hg9.block wr.heap.size (by have := (Array.getElem?_eq_some_iff.1 v1).1; omega) (fun h => by have := (HOE.out.lt _ h.symm).2; omega)).trans v1
             have t2 := (hg9.block (w.heap.size + 1 + 1) (by have := (Array.getElem?_eq_some_iff.1 v2').1; omega) (fun h => by have h1 := (HOE.out.lt _ h.symm).1; have := (Array.getElem?_eq_some_iff.1 P2.out).1; omega)).trans v2'
             have hB9 := (HBR.out.trans (kr2.mono HBR.out.size)).grown hg9 hbase3 (fun g hg => (HOE.out.lt g hg).1))
          | fail)
      have HB9 := Lib.hid hB9
      have HO9 := Lib.hid (show w9.ownsRow v2.heap.size 82 15 (.slice A9 (m + q) c9) (m + q) (if k + 1 = 0 then [] else BS) by
        rw [if_neg (by omega)]; simpa using own9)
      clear own9 hg9 hn9 t1 t2 hB9 v1 v2' y1 y2 kx1 kx2 hx1 hx2 hown5 hown3 hbase3 s1 s2 s3 s4 kr2 hpw hqw HKS HDR
      go_wp2_with fail
      go_roundw
      case rel => exact ⟨k + 1, m + q, by omega, by go_num, Lib.hid (by rw [if_neg (by omega), HM0.out, Nat.zero_add]), HO9, HB9⟩
      case measure => simp [intOf]; omega
    · obtain rfl : k = 1 := by omega
      have h1 := HOW.out
      have h2 := HMM.out
      rw [if_neg (by omega)] at h1 h2
      subst h2
      obtain ⟨Av, cv, hv7, -, -, -, -⟩ := own_slice h1
      subst hv7
      have HBF := Lib.hid (below_more HB2.out HBR.out)
      have HOF := Lib.hid (own_base h1 HB2.out.size)
      clear h1 HOW HMM
      go_wp2_with fail
      go_ret2
      exact ⟨Av, cv, rfl, HOF, HBF.out⟩

end Go.Proofs.YtcijomljopbelaaGreat
