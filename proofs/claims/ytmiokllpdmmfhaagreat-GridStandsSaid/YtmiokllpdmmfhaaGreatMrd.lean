/-
  A box, mirrored.
-/
import Derived.Test.YtmiokllpdmmfhaaGreatEnd2
import Derived.Test.YtmiokllpdmmfhaaGreatHldZ
namespace Go.Proofs.YtmiokllpdmmfhaaGreat
open Go.RowKit
def negF (f : Fr) : Fr := ⟨-f.num, f.den⟩
def Bx.mir (x : Bx) : Bx := { x with x := negF (plusF x.x x.w) }
set_option maxRecDepth 100000 in
set_option maxHeartbeats 4000000 in
theorem neg_any (n d : Int) (w : World) (h : -4000000000000000000 ≤ n ∧ n ≤ 4000000000000000000) : Calls Tryz.prog 147 #[.agg #[.int .i64 n, .int .i64 d]] w (GotFr w ⟨-n, d⟩) := by
  have e1 : IntKind.i64.wrap (-n) = -n := IntWalk.i64_in _ (by omega)
  go_enter Tryz.func147, Tryz.ntmps147
  go_wp2
  refine bodyPost_ret (v := .agg #[.int .i64 (-n), .int .i64 d]) (by simp [results, Tryz.results147, go_sem]) rfl ⟨rfl, ?_⟩
  exact two_under _ _ _
set_option maxRecDepth 100000 in
set_option maxHeartbeats 16000000 in
theorem mirrored_any (x : Bx) (w : World) (m1 : smallI (x.x.num * x.w.den)) (m2 : smallI (x.w.num * x.x.den)) (m3 : smallI (x.x.num * x.w.den + x.w.num * x.x.den)) (m4 : 0 < x.x.den * x.w.den) (m5 : smallI (x.x.den * x.w.den)) (m6 : -4000000000000000000 ≤ (plusF x.x x.w).num ∧ (plusF x.x x.w).num ≤ 4000000000000000000) :
    Calls Tryz.prog 111 #[x.val] w (fun e w' => e = .returned x.mir.val ∧ Below w.heap.size w w') := by
  have HEN := Lib.hid (fun p wx => endS2_any p x wx m1 m2 m3 m4 m5)
  have HE : x.en false = plusF x.x x.w := rfl
  rw [HE] at HEN
  have HM := Lib.hid (show x.mir = { x with x := ⟨-(plusF x.x x.w).num, (plusF x.x x.w).den⟩ } from rfl)
  rw [HM.out]
  obtain ⟨⟨e1, e2⟩, he⟩ : ∃ e, e = plusF x.x x.w := ⟨_, rfl⟩
  rw [← he] at HEN m6 ⊢
  have HNG := Lib.hid (fun wx => neg_any e1 e2 wx m6)
  clear m1 m2 m3 m4 m5 m6 HM he HE
  obtain ⟨k, sg, t, m, st, mn, mx, ⟨x1, x2⟩, ⟨y1, y2⟩, ⟨w1, w2⟩, ⟨h1, h2⟩⟩ := x
  unfold Bx.val at HEN ⊢
  unfold GotFr at HEN HNG
  dsimp only at HEN HNG ⊢
  obtain ⟨W1, hW1⟩ : ∃ W1, W1 = w.alloc (.cells #[.int .i64 k, .int .i64 sg, .int .i64 t, .bool m, .int .i64 st, .int .i64 mn, .int .i64 mx, .int .i64 x1, .int .i64 x2, .int .i64 y1, .int .i64 y2, .int .i64 w1, .int .i64 w2, .int .i64 h1, .int .i64 h2] 82) := ⟨_, rfl⟩
  obtain ⟨W, hW⟩ : ∃ W, W = W1.alloc (.cells #[.int .i64 0, .int .i64 0, .int .i64 0, .bool false, .int .i64 0, .int .i64 0, .int .i64 0, .int .i64 0, .int .i64 0, .int .i64 0, .int .i64 0, .int .i64 0, .int .i64 0, .int .i64 0, .int .i64 0] 82) := ⟨_, rfl⟩
  have s1 : W1.heap.size = w.heap.size + 1 := by rw [hW1]; simp
  have k1 : Below w.heap.size w W1 := hW1 ▸ below_alloc _ _
  have k2 : Below W1.heap.size W1 W := hW ▸ below_alloc _ _
  have HB := Lib.hid (below_more k1 k2)
  have D0 := Lib.hid (blk_keep k2 (show W1.heap[w.heap.size]? = some (.cells #[.int .i64 k, .int .i64 sg, .int .i64 t, .bool m, .int .i64 st, .int .i64 mn, .int .i64 mx, .int .i64 x1, .int .i64 x2, .int .i64 y1, .int .i64 y2, .int .i64 w1, .int .i64 w2, .int .i64 h1, .int .i64 h2] 82 (0, 0)) by rw [hW1]; exact heap_alloc_new _ _))
  have D1 := Lib.hid (show W.heap[w.heap.size + 1]? = some (.cells #[.int .i64 0, .int .i64 0, .int .i64 0, .bool false, .int .i64 0, .int .i64 0, .int .i64 0, .int .i64 0, .int .i64 0, .int .i64 0, .int .i64 0, .int .i64 0, .int .i64 0, .int .i64 0, .int .i64 0] 82 (0, 0)) by rw [hW, ← s1]; exact heap_alloc_new _ _)
  clear s1 k1 k2
  go_enter Tryz.func111, Tryz.ntmps111
  go_wp2_with fail
  rw [← hW1, ← hW]
  clear hW1 hW
  obtain ⟨S, hS⟩ : ∃ S : World → Prop, S = (fun wx => wx.cell? ⟨w.heap.size, 0, none⟩ = some (.int .i64 k) ∧ wx.cell? ⟨w.heap.size, 1, none⟩ = some (.int .i64 sg) ∧ wx.cell? ⟨w.heap.size, 2, none⟩ = some (.int .i64 t) ∧ wx.cell? ⟨w.heap.size, 3, none⟩ = some (.bool m) ∧ wx.cell? ⟨w.heap.size, 4, none⟩ = some (.int .i64 st) ∧ wx.cell? ⟨w.heap.size, 5, none⟩ = some (.int .i64 mn) ∧ wx.cell? ⟨w.heap.size, 6, none⟩ = some (.int .i64 mx) ∧ wx.cell? ⟨w.heap.size, 7, none⟩ = some (.int .i64 x1) ∧ wx.cell? ⟨w.heap.size, 8, none⟩ = some (.int .i64 x2) ∧ wx.cell? ⟨w.heap.size, 9, none⟩ = some (.int .i64 y1) ∧ wx.cell? ⟨w.heap.size, 10, none⟩ = some (.int .i64 y2) ∧ wx.cell? ⟨w.heap.size, 11, none⟩ = some (.int .i64 w1) ∧ wx.cell? ⟨w.heap.size, 12, none⟩ = some (.int .i64 w2) ∧ wx.cell? ⟨w.heap.size, 13, none⟩ = some (.int .i64 h1) ∧ wx.cell? ⟨w.heap.size, 14, none⟩ = some (.int .i64 h2)) := ⟨_, rfl⟩
  have HSU := Lib.hid (fun wx (h : S wx) => show wx.cell? ⟨w.heap.size, 0, none⟩ = some (.int .i64 k) ∧ wx.cell? ⟨w.heap.size, 1, none⟩ = some (.int .i64 sg) ∧ wx.cell? ⟨w.heap.size, 2, none⟩ = some (.int .i64 t) ∧ wx.cell? ⟨w.heap.size, 3, none⟩ = some (.bool m) ∧ wx.cell? ⟨w.heap.size, 4, none⟩ = some (.int .i64 st) ∧ wx.cell? ⟨w.heap.size, 5, none⟩ = some (.int .i64 mn) ∧ wx.cell? ⟨w.heap.size, 6, none⟩ = some (.int .i64 mx) ∧ wx.cell? ⟨w.heap.size, 7, none⟩ = some (.int .i64 x1) ∧ wx.cell? ⟨w.heap.size, 8, none⟩ = some (.int .i64 x2) ∧ wx.cell? ⟨w.heap.size, 9, none⟩ = some (.int .i64 y1) ∧ wx.cell? ⟨w.heap.size, 10, none⟩ = some (.int .i64 y2) ∧ wx.cell? ⟨w.heap.size, 11, none⟩ = some (.int .i64 w1) ∧ wx.cell? ⟨w.heap.size, 12, none⟩ = some (.int .i64 w2) ∧ wx.cell? ⟨w.heap.size, 13, none⟩ = some (.int .i64 h1) ∧ wx.cell? ⟨w.heap.size, 14, none⟩ = some (.int .i64 h2) from by rw [hS] at h; exact h)
  have HK := Lib.hid (fun wx (hb : Below W.heap.size W wx) => show S wx from by
    rw [hS]
    exact ⟨cell_of_blk (blk_keep hb D0.out) 0, cell_of_blk (blk_keep hb D0.out) 1, cell_of_blk (blk_keep hb D0.out) 2, cell_of_blk (blk_keep hb D0.out) 3, cell_of_blk (blk_keep hb D0.out) 4, cell_of_blk (blk_keep hb D0.out) 5, cell_of_blk (blk_keep hb D0.out) 6, cell_of_blk (blk_keep hb D0.out) 7, cell_of_blk (blk_keep hb D0.out) 8, cell_of_blk (blk_keep hb D0.out) 9, cell_of_blk (blk_keep hb D0.out) 10, cell_of_blk (blk_keep hb D0.out) 11, cell_of_blk (blk_keep hb D0.out) 12, cell_of_blk (blk_keep hb D0.out) 13, cell_of_blk (blk_keep hb D0.out) 14⟩)
  clear hS
  have HDR := Lib.hid (show Below W.heap.size W W.drew from (Below.refl _ _).drew)
  refine wp_region_tillZ S 5 (by kernel_rfl) ?_
  have HS := HK.out _ HDR.out
  refine tillZ_take (i := 1) (v := ?_) rfl (by kernel_rfl) (by kernel_rfl) (by kernel_rfl) (by kernel_rfl) (fun _ _ _ h => h) (Or.inl ⟨by rfl, ?_⟩) HS ?_
  case refine_2 => (intro wx hSw; obtain ⟨s0, s1, s2, s3, s4, s5, s6, s7, s8, s9, s10, s11, s12, s13, s14⟩ := HSU.out wx hSw; go_simp; try with_reducible rfl)
  refine tillZ_step (i := 0) (by kernel_rfl) rfl (fun K hK => ?_)
  go_simp
  refine (sideways_any _).mono ?_; rintro e w1' ⟨p, rfl, -, -, hb1⟩
  have k1 := below_more HDR.out hb1
  go_wp2_with fail
  refine hK.out _ _ (.inr (HK.out _ k1)) ?_
  clear hK K
  refine tillZ_step (i := 2) (by kernel_rfl) rfl (fun K hK => ?_)
  go_simp
  refine (HEN.out p _).mono ?_; rintro e w2' ⟨rfl, hb2⟩
  have k2 := below_more k1 hb2
  go_wp2_with fail
  refine hK.out _ _ (.inr (HK.out _ k2)) ?_
  clear hK K
  refine tillZ_step (i := 3) (by kernel_rfl) rfl (fun K hK => ?_)
  go_simp
  refine (HNG.out _).mono ?_; rintro e w3' ⟨rfl, hb3⟩
  have k3 := below_more k2 hb3
  have HS := HK.out _ k3
  go_wp2_with fail
  refine hK.out _ _ (.inr HS) ?_
  clear hK K
  refine tillZ_take (i := 4) (v := ?_) rfl (by kernel_rfl) (by kernel_rfl) (by kernel_rfl) (by kernel_rfl) (fun _ _ _ h => h) (Or.inl ⟨by rfl, ?_⟩) HS ?_
  case refine_2 => (intro wx hSw; obtain ⟨s0, s1, s2, s3, s4, s5, s6, s7, s8, s9, s10, s11, s12, s13, s14⟩ := HSU.out wx hSw; go_simp; try with_reducible rfl)
  have P0 := Lib.hid (blk_keep k3 D0.out)
  have P1 := Lib.hid (blk_keep k3 D1.out)
  have HBW := Lib.hid (below_more HB.out k3)
  have p7 := cell_of_blk P0.out 7
  have p8 := cell_of_blk P0.out 8
  have f7 := free_of_blk P0.out 7
  have f8 := free_of_blk P0.out 8
  have hz := (Array.getElem?_eq_some_iff.1 P0.out).1
  simp at p7 p8
  refine tillZ_step (i := 5) (by kernel_rfl) rfl (fun K hK => ?_)
  go_simp
  refine hK.out _ _ (.inl rfl) ?_
  clear hK K HS k1 k2 k3 hb1 hb2 hb3
  refine tillZ_done (by kernel_rfl) ?_ _
  obtain ⟨Y, hY⟩ : ∃ Y, Y = (w3'.setCell ⟨w.heap.size, 7, none⟩ (.int .i64 (-e1))).setCell ⟨w.heap.size, 8, none⟩ (.int .i64 e2) := ⟨_, rfl⟩
  have Y0 := Lib.hid (show Y.heap[w.heap.size]? = some (.cells #[.int .i64 k, .int .i64 sg, .int .i64 t, .bool m, .int .i64 st, .int .i64 mn, .int .i64 mx, .int .i64 (-e1), .int .i64 e2, .int .i64 y1, .int .i64 y2, .int .i64 w1, .int .i64 w2, .int .i64 h1, .int .i64 h2] 82 (0, 0)) by
    have h := heap_setCell_same _ w.heap.size 8 (.int .i64 e2) _ _ (heap_setCell_same w3' w.heap.size 7 (.int .i64 (-e1)) _ _ P0.out)
    rw [hY]; simpa using h)
  have Y1 := Lib.hid (show Y.heap[w.heap.size + 1]? = some (.cells #[.int .i64 0, .int .i64 0, .int .i64 0, .bool false, .int .i64 0, .int .i64 0, .int .i64 0, .int .i64 0, .int .i64 0, .int .i64 0, .int .i64 0, .int .i64 0, .int .i64 0, .int .i64 0, .int .i64 0] 82 (0, 0)) by
    rw [hY, heap_setCell_other _ _ _ _ (by dsimp only; omega), heap_setCell_other _ _ _ _ (by dsimp only; omega)]; exact P1.out)
  have HBY := Lib.hid (show Below w.heap.size w Y from hY ▸ (HBW.out.setCell (by dsimp only; omega) _).setCell (by dsimp only; omega) _)
  first
    | rw [← hY]
    | fail
  clear hY P0 P1 HBW p7 p8 f7 f8 hz
  have uu0 := cell_of_blk Y0.out 0
  have uu1 := cell_of_blk Y0.out 1
  have uu2 := cell_of_blk Y0.out 2
  have uu3 := cell_of_blk Y0.out 3
  have uu4 := cell_of_blk Y0.out 4
  have uu5 := cell_of_blk Y0.out 5
  have uu6 := cell_of_blk Y0.out 6
  have uu7 := cell_of_blk Y0.out 7
  have uu8 := cell_of_blk Y0.out 8
  have uu9 := cell_of_blk Y0.out 9
  have uu10 := cell_of_blk Y0.out 10
  have uu11 := cell_of_blk Y0.out 11
  have uu12 := cell_of_blk Y0.out 12
  have uu13 := cell_of_blk Y0.out 13
  have uu14 := cell_of_blk Y0.out 14
  have vv0 := cell_of_blk Y1.out 0
  have g0 := free_of_blk Y1.out 0
  have vv1 := cell_of_blk Y1.out 1
  have g1 := free_of_blk Y1.out 1
  have vv2 := cell_of_blk Y1.out 2
  have g2 := free_of_blk Y1.out 2
  have vv3 := cell_of_blk Y1.out 3
  have g3 := free_of_blk Y1.out 3
  have vv4 := cell_of_blk Y1.out 4
  have g4 := free_of_blk Y1.out 4
  have vv5 := cell_of_blk Y1.out 5
  have g5 := free_of_blk Y1.out 5
  have vv6 := cell_of_blk Y1.out 6
  have g6 := free_of_blk Y1.out 6
  have vv7 := cell_of_blk Y1.out 7
  have g7 := free_of_blk Y1.out 7
  have vv8 := cell_of_blk Y1.out 8
  have g8 := free_of_blk Y1.out 8
  have vv9 := cell_of_blk Y1.out 9
  have g9 := free_of_blk Y1.out 9
  have vv10 := cell_of_blk Y1.out 10
  have g10 := free_of_blk Y1.out 10
  have vv11 := cell_of_blk Y1.out 11
  have g11 := free_of_blk Y1.out 11
  have vv12 := cell_of_blk Y1.out 12
  have g12 := free_of_blk Y1.out 12
  have vv13 := cell_of_blk Y1.out 13
  have g13 := free_of_blk Y1.out 13
  have vv14 := cell_of_blk Y1.out 14
  have g14 := free_of_blk Y1.out 14
  have hz0 := (Array.getElem?_eq_some_iff.1 Y0.out).1
  have hz1 := (Array.getElem?_eq_some_iff.1 Y1.out).1
  simp at uu0 vv0 uu1 vv1 uu2 vv2 uu3 vv3 uu4 vv4 uu5 vv5 uu6 vv6 uu7 vv7 uu8 vv8 uu9 vv9 uu10 vv10 uu11 vv11 uu12 vv12 uu13 vv13 uu14 vv14
  go_wp2_with fail
  refine bodyPost_ret (v := .agg #[.int .i64 k, .int .i64 sg, .int .i64 t, .bool m, .int .i64 st, .int .i64 mn, .int .i64 mx, .int .i64 (-e1), .int .i64 e2, .int .i64 y1, .int .i64 y2, .int .i64 w1, .int .i64 w2, .int .i64 h1, .int .i64 h2]) (by simp [results, Tryz.results111, go_sem, vv0, vv1, vv2, vv3, vv4, vv5, vv6, vv7, vv8, vv9, vv10, vv11, vv12, vv13, vv14]) rfl ⟨rfl, ?_⟩
  have hbf := HBY.out
  repeat (first | with_reducible exact hbf | with_reducible refine Below.drew ?_ | with_reducible refine Below.setCell ?_ (by dsimp only; omega) _)
end Go.Proofs.YtmiokllpdmmfhaaGreat
