/-
  Whether a box has a place in a direction ((axis).isPlaced), by the program. And what builds on it.
-/
import Derived.Test.YtmiokllpdmmfhaaGreatLdG
import Derived.Test.YtmiokllpdmmfhaaGreatLaN
import Derived.Test.YtmiokllpdmmfhaaGreatLaD
namespace Go.Proofs.YtmiokllpdmmfhaaGreat
open Go.RowKit
open Go.RowKit
set_option maxRecDepth 100000 in
set_option maxHeartbeats 4000000 in
theorem radd_any (n d p q : Int) (w : World) (h1 : smallI (n * q)) (h2 : smallI (p * d)) (h3 : smallI (n * q + p * d)) (h4 : 0 < d * q) (h5 : smallI (d * q)) :
    Calls Tryz.prog 83 #[.agg #[.int .i64 n, .int .i64 d], .agg #[.int .i64 p, .int .i64 q]] w (GotFr w (fracR (n * q + p * d) (d * q))) := by
  have HF := Lib.hid (fun wx => rfrac_any (n * q + p * d) (d * q) wx h3 ⟨h4, h5.2⟩)
  have e1 := small_wrap h1
  have e2 := small_wrap h2
  have e3 := small_wrap h3
  have e4 := small_wrap h5
  obtain ⟨x, hx⟩ : ∃ x, x = n * q := ⟨_, rfl⟩
  obtain ⟨y, hy⟩ : ∃ y, y = p * d := ⟨_, rfl⟩
  obtain ⟨z, hz⟩ : ∃ z, z = x + y := ⟨_, rfl⟩
  obtain ⟨u, hu⟩ : ∃ u, u = d * q := ⟨_, rfl⟩
  have f1 : IntKind.i64.wrap (n * q) = x := by rw [hx]; exact e1
  have f2 : IntKind.i64.wrap (p * d) = y := by rw [hy]; exact e2
  have f3 : IntKind.i64.wrap (x + y) = z := by rw [hz, hx, hy]; exact e3
  have f4 : IntKind.i64.wrap (d * q) = u := by rw [hu]; exact e4
  rw [← hx, ← hy, ← hu, ← hz] at HF ⊢
  obtain ⟨F, hF⟩ : ∃ F, F = fracR z u := ⟨_, rfl⟩
  rw [← hF] at HF ⊢
  clear hx hy hz hu e1 e2 e3 e4 h1 h2 h3 h4 h5 hF
  obtain ⟨W, hW⟩ : ∃ W, W = ((w.alloc (.cells #[.int .i64 n, .int .i64 d] 40)).alloc (.cells #[.int .i64 p, .int .i64 q] 40)).alloc (.cells #[.int .i64 0, .int .i64 0] 40) := ⟨_, rfl⟩
  have HB := Lib.hid (show Below w.heap.size w W from hW ▸ (two_under _ _ _).alloc (by simp; omega) _)
  have D2 := Lib.hid (show W.heap[w.heap.size + 1 + 1]? = some (.cells #[.int .i64 0, .int .i64 0] 40 (0, 0)) by rw [hW]; have := heap_alloc_new ((w.alloc (.cells #[.int .i64 n, .int .i64 d] 40)).alloc (.cells #[.int .i64 p, .int .i64 q] 40)) (.cells #[.int .i64 0, .int .i64 0] 40); simpa using this)
  go_enter Tryz.func83, Tryz.ntmps83
  go_wp2_with fail
  rw [← hW]
  clear hW
  refine (HF.out _).mono ?_; rintro e wf ⟨rfl, hb⟩
  have HB1 := Lib.hid (below_more HB.out hb)
  have D2 := Lib.hid (blk_keep hb D2.out)
  have q0 := cell_of_blk D2.out 0
  have q1 := cell_of_blk D2.out 1
  have f0 := free_of_blk D2.out 0
  have f1 := free_of_blk D2.out 1
  have hs := (Array.getElem?_eq_some_iff.1 D2.out).1
  simp at q0 q1
  clear hb
  go_wp2
  exact bodyPost_ret (v := .agg #[.int .i64 F.num, .int .i64 F.den]) (by simp [results, Tryz.results83, go_sem, q0, q1]) rfl ⟨rfl, (HB1.out.setCell (by dsimp only; omega) _).setCell (by dsimp only; omega) _⟩
def placedR (x : Bx) : Bool := ((((((vF x.x && vF x.y) && vF x.w) && vF x.h) && decide (0 < x.w.num)) && decide (0 < x.h.num)) && vF (x.en false)) && vF (x.en true)
theorem placed_both (x : Bx) : (placedB false x && placedB true x) = placedR x := by
  unfold placedB placedR Bx.st Bx.sz
  simp only [if_true, if_false, Bool.false_eq_true]
  generalize vF x.x = a
  generalize vF x.y = b
  generalize vF x.w = c
  generalize vF x.h = d
  generalize decide (0 < x.w.num) = e
  generalize decide (0 < x.h.num) = f
  generalize vF (x.en false) = g
  generalize vF (x.en true) = h
  cases a <;> cases b <;> cases c <;> cases d <;> cases e <;> cases f <;> cases g <;> cases h <;> rfl
set_option maxRecDepth 100000 in
set_option maxHeartbeats 8000000 in
theorem rplaced_any (x : Bx) (w : World) : Calls Tryz.prog 46 #[x.val] w fun e w' => e = .returned (.bool (placedR x)) ∧ Below w.heap.size w w' := by
  have HV1 := Lib.hid (fun wx => rvalid_any x.x.num x.x.den wx)
  have HV2 := Lib.hid (fun wx => rvalid_any x.y.num x.y.den wx)
  have HV3 := Lib.hid (fun wx => rvalid_any x.w.num x.w.den wx)
  have HV4 := Lib.hid (fun wx => rvalid_any x.h.num x.h.den wx)
  have HV7 := Lib.hid (fun wx => rvalid_any (x.en false).num (x.en false).den wx)
  have HV8 := Lib.hid (fun wx => rvalid_any (x.en true).num (x.en true).den wx)
  have HA7 := Lib.hid (fun wx (h1 : vF x.x = true) (h2 : vF x.w = true) => show Calls Tryz.prog 83 #[.agg #[.int .i64 x.x.num, .int .i64 x.x.den], .agg #[.int .i64 x.w.num, .int .i64 x.w.den]] wx (GotFr wx (x.en false)) from by
    unfold vF at h1 h2
    obtain ⟨a1, a2, a3, a4⟩ := valid_in h1
    obtain ⟨b1, b2, b3, b4⟩ := valid_in h2
    exact radd_any _ _ _ _ wx (mul_small ⟨a3, a4⟩ ⟨b1, b2⟩) (mul_small ⟨b3, b4⟩ ⟨a1, a2⟩) (sum_small ⟨a3, a4⟩ ⟨b1, b2⟩ ⟨b3, b4⟩ ⟨a1, a2⟩) (Int.mul_pos (by omega) (by omega)) (mul_small ⟨by omega, by omega⟩ ⟨b1, b2⟩))
  have HA8 := Lib.hid (fun wx (h1 : vF x.y = true) (h2 : vF x.h = true) => show Calls Tryz.prog 83 #[.agg #[.int .i64 x.y.num, .int .i64 x.y.den], .agg #[.int .i64 x.h.num, .int .i64 x.h.den]] wx (GotFr wx (x.en true)) from by
    unfold vF at h1 h2
    obtain ⟨a1, a2, a3, a4⟩ := valid_in h1
    obtain ⟨b1, b2, b3, b4⟩ := valid_in h2
    exact radd_any _ _ _ _ wx (mul_small ⟨a3, a4⟩ ⟨b1, b2⟩) (mul_small ⟨b3, b4⟩ ⟨a1, a2⟩) (sum_small ⟨a3, a4⟩ ⟨b1, b2⟩ ⟨b3, b4⟩ ⟨a1, a2⟩) (Int.mul_pos (by omega) (by omega)) (mul_small ⟨by omega, by omega⟩ ⟨b1, b2⟩))
  unfold placedR
  unfold vF at HA7 HA8 ⊢
  obtain ⟨V1, hV1⟩ : ∃ V, V = validB x.x.num x.x.den := ⟨_, rfl⟩
  obtain ⟨V2, hV2⟩ : ∃ V, V = validB x.y.num x.y.den := ⟨_, rfl⟩
  obtain ⟨V3, hV3⟩ : ∃ V, V = validB x.w.num x.w.den := ⟨_, rfl⟩
  obtain ⟨V4, hV4⟩ : ∃ V, V = validB x.h.num x.h.den := ⟨_, rfl⟩
  obtain ⟨V5, hV5⟩ : ∃ V, V = decide (0 < x.w.num) := ⟨_, rfl⟩
  obtain ⟨V6, hV6⟩ : ∃ V, V = decide (0 < x.h.num) := ⟨_, rfl⟩
  obtain ⟨V7, hV7⟩ : ∃ V, V = validB (x.en false).num (x.en false).den := ⟨_, rfl⟩
  obtain ⟨V8, hV8⟩ : ∃ V, V = validB (x.en true).num (x.en true).den := ⟨_, rfl⟩
  rw [← hV1, ← hV2, ← hV3, ← hV4, ← hV5, ← hV6, ← hV7, ← hV8]
  rw [← hV1] at HV1 HA7
  rw [← hV2] at HV2 HA8
  rw [← hV3] at HV3 HA7
  rw [← hV4] at HV4 HA8
  rw [← hV7] at HV7
  rw [← hV8] at HV8
  have H5 := Lib.hid hV5.symm
  have H6 := Lib.hid hV6.symm
  obtain ⟨⟨E1, E2⟩, hE⟩ : ∃ E, E = x.en false := ⟨_, rfl⟩
  obtain ⟨⟨G1, G2⟩, hG⟩ : ∃ E, E = x.en true := ⟨_, rfl⟩
  rw [← hE] at HV7 HA7
  rw [← hG] at HV8 HA8
  unfold GotFr at HA7 HA8
  dsimp only at HV7 HA7 HV8 HA8
  clear hV1 hV2 hV3 hV4 hV5 hV6 hV7 hV8 hE hG
  obtain ⟨k, sg, t, m, st, mn, mx, ⟨x1, x2⟩, ⟨y1, y2⟩, ⟨w1, w2⟩, ⟨h1, h2⟩⟩ := x
  unfold Bx.val
  dsimp only at HV1 HV2 HV3 HV4 HA7 HA8 H5 H6 ⊢
  obtain ⟨W, hW⟩ : ∃ W, W = w.alloc (.cells #[.int .i64 k, .int .i64 sg, .int .i64 t, .bool m, .int .i64 st, .int .i64 mn, .int .i64 mx, .int .i64 x1, .int .i64 x2, .int .i64 y1, .int .i64 y2, .int .i64 w1, .int .i64 w2, .int .i64 h1, .int .i64 h2] 82) := ⟨_, rfl⟩
  have HB := Lib.hid (show Below w.heap.size w W from hW ▸ below_alloc _ _)
  have D1 := Lib.hid (show W.heap[w.heap.size]? = some (.cells #[.int .i64 k, .int .i64 sg, .int .i64 t, .bool m, .int .i64 st, .int .i64 mn, .int .i64 mx, .int .i64 x1, .int .i64 x2, .int .i64 y1, .int .i64 y2, .int .i64 w1, .int .i64 w2, .int .i64 h1, .int .i64 h2] 82 (0, 0)) from hW ▸ heap_alloc_new _ _)
  have b7 := cell_of_blk D1.out 7
  have b8 := cell_of_blk D1.out 8
  have b9 := cell_of_blk D1.out 9
  have b10 := cell_of_blk D1.out 10
  have b11 := cell_of_blk D1.out 11
  have b12 := cell_of_blk D1.out 12
  have b13 := cell_of_blk D1.out 13
  have b14 := cell_of_blk D1.out 14
  have hz1 := (Array.getElem?_eq_some_iff.1 D1.out).1
  simp at b7 b8 b9 b10 b11 b12 b13 b14
  go_enter Tryz.func46, Tryz.ntmps46
  go_wp2_with fail
  rw [← hW]
  clear hW
  refine (HV1.out _).mono ?_; rintro e w9 ⟨rfl, hb⟩
  have HB := Lib.hid (below_more HB.out hb)
  have D1 := Lib.hid (blk_keep hb D1.out)
  clear hb b7 b8 b9 b10 b11 b12 b13 b14 hz1
  have b7 := cell_of_blk D1.out 7
  have b8 := cell_of_blk D1.out 8
  have b9 := cell_of_blk D1.out 9
  have b10 := cell_of_blk D1.out 10
  have b11 := cell_of_blk D1.out 11
  have b12 := cell_of_blk D1.out 12
  have b13 := cell_of_blk D1.out 13
  have b14 := cell_of_blk D1.out 14
  have hz1 := (Array.getElem?_eq_some_iff.1 D1.out).1
  simp at b7 b8 b9 b10 b11 b12 b13 b14
  cases V1
  case false =>
    go_wp2_with fail
    go_ret
    exact ⟨rfl, HB.out⟩
  go_wp2_with fail
  refine (HV2.out _).mono ?_; rintro e w9 ⟨rfl, hb⟩
  have HB := Lib.hid (below_more HB.out hb)
  have D1 := Lib.hid (blk_keep hb D1.out)
  clear hb b7 b8 b9 b10 b11 b12 b13 b14 hz1
  have b7 := cell_of_blk D1.out 7
  have b8 := cell_of_blk D1.out 8
  have b9 := cell_of_blk D1.out 9
  have b10 := cell_of_blk D1.out 10
  have b11 := cell_of_blk D1.out 11
  have b12 := cell_of_blk D1.out 12
  have b13 := cell_of_blk D1.out 13
  have b14 := cell_of_blk D1.out 14
  have hz1 := (Array.getElem?_eq_some_iff.1 D1.out).1
  simp at b7 b8 b9 b10 b11 b12 b13 b14
  cases V2
  case false =>
    go_wp2_with fail
    go_ret
    exact ⟨rfl, HB.out⟩
  go_wp2_with fail
  refine (HV3.out _).mono ?_; rintro e w9 ⟨rfl, hb⟩
  have HB := Lib.hid (below_more HB.out hb)
  have D1 := Lib.hid (blk_keep hb D1.out)
  clear hb b7 b8 b9 b10 b11 b12 b13 b14 hz1
  have b7 := cell_of_blk D1.out 7
  have b8 := cell_of_blk D1.out 8
  have b9 := cell_of_blk D1.out 9
  have b10 := cell_of_blk D1.out 10
  have b11 := cell_of_blk D1.out 11
  have b12 := cell_of_blk D1.out 12
  have b13 := cell_of_blk D1.out 13
  have b14 := cell_of_blk D1.out 14
  have hz1 := (Array.getElem?_eq_some_iff.1 D1.out).1
  simp at b7 b8 b9 b10 b11 b12 b13 b14
  cases V3
  case false =>
    go_wp2_with fail
    go_ret
    exact ⟨rfl, HB.out⟩
  go_wp2_with fail
  refine (HV4.out _).mono ?_; rintro e w9 ⟨rfl, hb⟩
  have HB := Lib.hid (below_more HB.out hb)
  have D1 := Lib.hid (blk_keep hb D1.out)
  clear hb b7 b8 b9 b10 b11 b12 b13 b14 hz1
  have b7 := cell_of_blk D1.out 7
  have b8 := cell_of_blk D1.out 8
  have b9 := cell_of_blk D1.out 9
  have b10 := cell_of_blk D1.out 10
  have b11 := cell_of_blk D1.out 11
  have b12 := cell_of_blk D1.out 12
  have b13 := cell_of_blk D1.out 13
  have b14 := cell_of_blk D1.out 14
  have hz1 := (Array.getElem?_eq_some_iff.1 D1.out).1
  simp at b7 b8 b9 b10 b11 b12 b13 b14
  cases V4
  case false =>
    go_wp2_with fail
    go_ret
    exact ⟨rfl, HB.out⟩
  have h5 := H5.out
  have h6 := H6.out
  cases V5
  case false =>
    go_wp2_with fail
    go_ret
    exact ⟨rfl, HB.out⟩
  cases V6
  case false =>
    go_wp2_with fail
    go_ret
    exact ⟨rfl, HB.out⟩
  have HN7 := Lib.hid (fun wx => HA7.out wx (by trivial) (by trivial))
  have HN8 := Lib.hid (fun wx => HA8.out wx (by trivial) (by trivial))
  go_wp2_with fail
  refine (HN7.out _).mono ?_; rintro e w9 ⟨rfl, hb⟩
  have HB := Lib.hid (below_more HB.out hb)
  have D1 := Lib.hid (blk_keep hb D1.out)
  clear hb b7 b8 b9 b10 b11 b12 b13 b14 hz1 h5 h6
  have b7 := cell_of_blk D1.out 7
  have b8 := cell_of_blk D1.out 8
  have b9 := cell_of_blk D1.out 9
  have b10 := cell_of_blk D1.out 10
  have b11 := cell_of_blk D1.out 11
  have b12 := cell_of_blk D1.out 12
  have b13 := cell_of_blk D1.out 13
  have b14 := cell_of_blk D1.out 14
  have hz1 := (Array.getElem?_eq_some_iff.1 D1.out).1
  simp at b7 b8 b9 b10 b11 b12 b13 b14
  go_wp2_with fail
  refine (HV7.out _).mono ?_; rintro e w9 ⟨rfl, hb⟩
  have HB := Lib.hid (below_more HB.out hb)
  have D1 := Lib.hid (blk_keep hb D1.out)
  clear hb b7 b8 b9 b10 b11 b12 b13 b14 hz1
  have b7 := cell_of_blk D1.out 7
  have b8 := cell_of_blk D1.out 8
  have b9 := cell_of_blk D1.out 9
  have b10 := cell_of_blk D1.out 10
  have b11 := cell_of_blk D1.out 11
  have b12 := cell_of_blk D1.out 12
  have b13 := cell_of_blk D1.out 13
  have b14 := cell_of_blk D1.out 14
  have hz1 := (Array.getElem?_eq_some_iff.1 D1.out).1
  simp at b7 b8 b9 b10 b11 b12 b13 b14
  cases V7
  case false =>
    go_wp2_with fail
    go_ret
    exact ⟨rfl, HB.out⟩
  go_wp2_with fail
  refine (HN8.out _).mono ?_; rintro e w9 ⟨rfl, hb⟩
  have HB := Lib.hid (below_more HB.out hb)
  have D1 := Lib.hid (blk_keep hb D1.out)
  clear hb b7 b8 b9 b10 b11 b12 b13 b14 hz1
  have b7 := cell_of_blk D1.out 7
  have b8 := cell_of_blk D1.out 8
  have b9 := cell_of_blk D1.out 9
  have b10 := cell_of_blk D1.out 10
  have b11 := cell_of_blk D1.out 11
  have b12 := cell_of_blk D1.out 12
  have b13 := cell_of_blk D1.out 13
  have b14 := cell_of_blk D1.out 14
  have hz1 := (Array.getElem?_eq_some_iff.1 D1.out).1
  simp at b7 b8 b9 b10 b11 b12 b13 b14
  go_wp2_with fail
  refine (HV8.out _).mono ?_; rintro e w9 ⟨rfl, hb⟩
  have HB := Lib.hid (below_more HB.out hb)
  clear hb
  cases V8 <;> (
    go_wp2_with fail
    go_ret
    exact ⟨rfl, HB.out⟩)
open Go.RowKit
def bothB (x : Bx) : Bool := placedB false x && placedB true x
open Go.RowKit
open Go.RowKit
theorem both_valid {x : Bx} (h : bothB x = true) (s : Bool) : vF (x.st s) = true ∧ vF (x.sz s) = true ∧ vF (x.en s) = true := by
  unfold bothB placedB at h
  simp only [Bool.and_eq_true] at h
  cases s
  · exact ⟨h.1.1.1, h.1.1.2, h.1.2.2⟩
  · exact ⟨h.2.1.1, h.2.1.2, h.2.2.2⟩
open Go.RowKit
def crossB (s : Bool) (x y : Bx) : Bool := decide ((x.st s).num * (y.en s).den < (y.en s).num * (x.st s).den) && decide ((y.st s).num * (x.en s).den < (x.en s).num * (y.st s).den)
theorem radd_box (s : Bool) (x : Bx) (hx : bothB x = true) (wx : World) :
    Calls Tryz.prog 83 #[.agg #[.int .i64 (x.st s).num, .int .i64 (x.st s).den], .agg #[.int .i64 (x.sz s).num, .int .i64 (x.sz s).den]] wx (GotFr wx (x.en s)) := by
  have o1 := both_valid hx s
  unfold vF at o1
  have vx := valid_in o1.1
  have vw := valid_in o1.2.1
  exact radd_any _ _ _ _ wx (mul_small ⟨vx.2.2.1, vx.2.2.2⟩ ⟨vw.1, vw.2.1⟩) (mul_small ⟨vw.2.2.1, vw.2.2.2⟩ ⟨vx.1, vx.2.1⟩) (sum_small ⟨vx.2.2.1, vx.2.2.2⟩ ⟨vw.1, vw.2.1⟩ ⟨vw.2.2.1, vw.2.2.2⟩ ⟨vx.1, vx.2.1⟩) (Int.mul_pos (by have := vx.1; omega) (by have := vw.1; omega)) (mul_small ⟨by have := vx.1; omega, by have := vx.2.1; omega⟩ ⟨vw.1, vw.2.1⟩)
theorem rless_box (s : Bool) (x y : Bx) (hx : bothB x = true) (hy : bothB y = true) (wx : World) :
    Calls Tryz.prog 84 #[.agg #[.int .i64 (x.st s).num, .int .i64 (x.st s).den], .agg #[.int .i64 (y.en s).num, .int .i64 (y.en s).den]] wx (fun e w' => e = .returned (.bool (decide ((x.st s).num * (y.en s).den < (y.en s).num * (x.st s).den))) ∧ Below wx.heap.size wx w') := by
  have o1 := both_valid hx s
  have o2 := both_valid hy s
  unfold vF at o1 o2
  have a := valid_in o1.1
  have b := valid_in o2.2.2
  exact rless_any _ _ _ _ wx (mul_small ⟨a.2.2.1, a.2.2.2⟩ ⟨b.1, b.2.1⟩) (mul_small ⟨b.2.2.1, b.2.2.2⟩ ⟨a.1, a.2.1⟩)
open Go.RowKit
set_option maxRecDepth 100000 in
set_option maxHeartbeats 16000000 in
theorem rcross_any (x y : Bx) (w : World) (hx : bothB x = true) (hy : bothB y = true) :
    Calls Tryz.prog 48 #[x.val, y.val] w fun e w' => e = .returned (.bool (crossB false x y && crossB true x y)) ∧ Below w.heap.size w w' := by
  have HAX := Lib.hid (fun wx => radd_box false x hx wx)
  have HAY := Lib.hid (fun wx => radd_box true x hx wx)
  have HBX := Lib.hid (fun wx => radd_box false y hy wx)
  have HBY := Lib.hid (fun wx => radd_box true y hy wx)
  have HL1 := Lib.hid (fun wx => rless_box false x y hx hy wx)
  have HL2 := Lib.hid (fun wx => rless_box false y x hy hx wx)
  have HL3 := Lib.hid (fun wx => rless_box true x y hx hy wx)
  have HL4 := Lib.hid (fun wx => rless_box true y x hy hx wx)
  obtain ⟨V1, hV1⟩ : ∃ V, V = decide ((x.st false).num * (y.en false).den < (y.en false).num * (x.st false).den) := ⟨_, rfl⟩
  obtain ⟨V2, hV2⟩ : ∃ V, V = decide ((y.st false).num * (x.en false).den < (x.en false).num * (y.st false).den) := ⟨_, rfl⟩
  obtain ⟨V3, hV3⟩ : ∃ V, V = decide ((x.st true).num * (y.en true).den < (y.en true).num * (x.st true).den) := ⟨_, rfl⟩
  obtain ⟨V4, hV4⟩ : ∃ V, V = decide ((y.st true).num * (x.en true).den < (x.en true).num * (y.st true).den) := ⟨_, rfl⟩
  have HR := Lib.hid (show (crossB false x y && crossB true x y) = ((V1 && V2) && (V3 && V4)) by
    unfold crossB
    rw [← hV1, ← hV2, ← hV3, ← hV4])
  rw [HR.out]
  rw [← hV1] at HL1
  rw [← hV2] at HL2
  rw [← hV3] at HL3
  rw [← hV4] at HL4
  obtain ⟨⟨A1, A2⟩, hA⟩ : ∃ E, E = x.en false := ⟨_, rfl⟩
  obtain ⟨⟨B1, B2⟩, hB⟩ : ∃ E, E = x.en true := ⟨_, rfl⟩
  obtain ⟨⟨C1, C2⟩, hC⟩ : ∃ E, E = y.en false := ⟨_, rfl⟩
  obtain ⟨⟨D1, D2⟩, hD⟩ : ∃ E, E = y.en true := ⟨_, rfl⟩
  rw [← hA] at HAX HL2
  rw [← hB] at HAY HL4
  rw [← hC] at HBX HL1
  rw [← hD] at HBY HL3
  unfold GotFr at HAX HAY HBX HBY
  unfold Bx.st at HAX HAY HBX HBY HL1 HL2 HL3 HL4
  unfold Bx.sz at HAX HAY HBX HBY
  clear hx hy hV1 hV2 hV3 hV4 hA hB hC hD HR
  obtain ⟨k, sg, t, m, st, mn, mx, ⟨x1, x2⟩, ⟨y1, y2⟩, ⟨w1, w2⟩, ⟨h1, h2⟩⟩ := x
  obtain ⟨k', sg', t', m', st', mn', mx', ⟨x1', x2'⟩, ⟨y1', y2'⟩, ⟨w1', w2'⟩, ⟨h1', h2'⟩⟩ := y
  unfold Bx.val
  simp only [Bool.false_eq_true, ↓reduceIte] at HAX HAY HBX HBY HL1 HL2 HL3 HL4
  dsimp only at HAX HAY HBX HBY HL1 HL2 HL3 HL4 ⊢
  obtain ⟨W2, hW2⟩ : ∃ W2, W2 = w.alloc (.cells #[.int .i64 k, .int .i64 sg, .int .i64 t, .bool m, .int .i64 st, .int .i64 mn, .int .i64 mx, .int .i64 x1, .int .i64 x2, .int .i64 y1, .int .i64 y2, .int .i64 w1, .int .i64 w2, .int .i64 h1, .int .i64 h2] 82) := ⟨_, rfl⟩
  obtain ⟨W, hW⟩ : ∃ W, W = W2.alloc (.cells #[.int .i64 k', .int .i64 sg', .int .i64 t', .bool m', .int .i64 st', .int .i64 mn', .int .i64 mx', .int .i64 x1', .int .i64 x2', .int .i64 y1', .int .i64 y2', .int .i64 w1', .int .i64 w2', .int .i64 h1', .int .i64 h2'] 82) := ⟨_, rfl⟩
  have s2 : W2.heap.size = w.heap.size + 1 := by rw [hW2]; simp
  have s3 : W.heap.size = w.heap.size + 1 + 1 := by rw [hW]; simp [s2]
  have k2 : Below w.heap.size w W2 := hW2 ▸ below_alloc _ _
  have k3 : Below W2.heap.size W2 W := hW ▸ below_alloc _ _
  have HB := Lib.hid (below_more k2 k3)
  have D1 := Lib.hid (blk_keep k3 (show W2.heap[w.heap.size]? = some (.cells #[.int .i64 k, .int .i64 sg, .int .i64 t, .bool m, .int .i64 st, .int .i64 mn, .int .i64 mx, .int .i64 x1, .int .i64 x2, .int .i64 y1, .int .i64 y2, .int .i64 w1, .int .i64 w2, .int .i64 h1, .int .i64 h2] 82 (0, 0)) by rw [hW2]; exact heap_alloc_new _ _))
  have D2 := Lib.hid (show W.heap[w.heap.size + 1]? = some (.cells #[.int .i64 k', .int .i64 sg', .int .i64 t', .bool m', .int .i64 st', .int .i64 mn', .int .i64 mx', .int .i64 x1', .int .i64 x2', .int .i64 y1', .int .i64 y2', .int .i64 w1', .int .i64 w2', .int .i64 h1', .int .i64 h2'] 82 (0, 0)) by rw [hW, ← s2]; exact heap_alloc_new _ _)
  have hz1 : w.heap.size < W.heap.size := by omega
  have hz2 : w.heap.size + 1 < W.heap.size := by omega
  clear s2 s3 k2 k3
  have b7 := cell_of_blk D1.out 7
  have b8 := cell_of_blk D1.out 8
  have b9 := cell_of_blk D1.out 9
  have b10 := cell_of_blk D1.out 10
  have b11 := cell_of_blk D1.out 11
  have b12 := cell_of_blk D1.out 12
  have b13 := cell_of_blk D1.out 13
  have b14 := cell_of_blk D1.out 14
  have a7 := cell_of_blk D2.out 7
  have a8 := cell_of_blk D2.out 8
  have a9 := cell_of_blk D2.out 9
  have a10 := cell_of_blk D2.out 10
  have a11 := cell_of_blk D2.out 11
  have a12 := cell_of_blk D2.out 12
  have a13 := cell_of_blk D2.out 13
  have a14 := cell_of_blk D2.out 14
  simp at b7 b8 b9 b10 b11 b12 b13 b14 a7 a8 a9 a10 a11 a12 a13 a14
  cases V1
  case false =>
    go_enter Tryz.func48, Tryz.ntmps48
    go_wp2_with fail
    rw [← hW2, ← hW]
    clear hW2 hW
    refine wp_region_later (by kernel_rfl) (by kernel_rfl) ?_; (repeat (first | go_big_quiet_step ((first | (go_at_call 83; with_reducible exact Calls.later _ (HBX.out _)) | (go_at_call 84; with_reducible exact Calls.later _ (HL1.out _)))) | quiet_step ((first | (go_at_call 83; with_reducible exact Calls.later _ (HBX.out _)) | (go_at_call 84; with_reducible exact Calls.later _ (HL1.out _)))))); refine wpQuiet_nil ?_; rintro _ ⟨s, rfl⟩
    have HBS := Lib.hid (below_more HB.out s.below)
    go_wp2_with fail
    go_ret
    exact ⟨rfl, HBS.out⟩
  cases V2
  case false =>
    go_enter Tryz.func48, Tryz.ntmps48
    go_wp2_with fail
    rw [← hW2, ← hW]
    clear hW2 hW
    refine wp_region_later (by kernel_rfl) (by kernel_rfl) ?_; (repeat (first | go_big_quiet_step ((first | (go_at_call 83; with_reducible exact Calls.later _ (HBX.out _)) | (go_at_call 84; with_reducible exact Calls.later _ (HL1.out _)) | (go_at_call 83; with_reducible exact Calls.later _ (HAX.out _)) | (go_at_call 84; with_reducible exact Calls.later _ (HL2.out _)))) | quiet_step ((first | (go_at_call 83; with_reducible exact Calls.later _ (HBX.out _)) | (go_at_call 84; with_reducible exact Calls.later _ (HL1.out _)) | (go_at_call 83; with_reducible exact Calls.later _ (HAX.out _)) | (go_at_call 84; with_reducible exact Calls.later _ (HL2.out _)))))); refine wpQuiet_nil ?_; rintro _ ⟨s, rfl⟩
    have HBS := Lib.hid (below_more HB.out s.below)
    go_wp2_with fail
    go_ret
    exact ⟨rfl, HBS.out⟩
  cases V3
  case false =>
    go_enter Tryz.func48, Tryz.ntmps48
    go_wp2_with fail
    rw [← hW2, ← hW]
    clear hW2 hW
    refine wp_region_later (by kernel_rfl) (by kernel_rfl) ?_; (repeat (first | go_big_quiet_step ((first | (go_at_call 83; with_reducible exact Calls.later _ (HBX.out _)) | (go_at_call 84; with_reducible exact Calls.later _ (HL1.out _)) | (go_at_call 83; with_reducible exact Calls.later _ (HAX.out _)) | (go_at_call 84; with_reducible exact Calls.later _ (HL2.out _)) | (go_at_call 83; with_reducible exact Calls.later _ (HBY.out _)) | (go_at_call 84; with_reducible exact Calls.later _ (HL3.out _)))) | quiet_step ((first | (go_at_call 83; with_reducible exact Calls.later _ (HBX.out _)) | (go_at_call 84; with_reducible exact Calls.later _ (HL1.out _)) | (go_at_call 83; with_reducible exact Calls.later _ (HAX.out _)) | (go_at_call 84; with_reducible exact Calls.later _ (HL2.out _)) | (go_at_call 83; with_reducible exact Calls.later _ (HBY.out _)) | (go_at_call 84; with_reducible exact Calls.later _ (HL3.out _)))))); refine wpQuiet_nil ?_; rintro _ ⟨s, rfl⟩
    have HBS := Lib.hid (below_more HB.out s.below)
    go_wp2_with fail
    go_ret
    exact ⟨rfl, HBS.out⟩
  cases V4
  case false =>
    go_enter Tryz.func48, Tryz.ntmps48
    go_wp2_with fail
    rw [← hW2, ← hW]
    clear hW2 hW
    refine wp_region_later (by kernel_rfl) (by kernel_rfl) ?_; (repeat (first | go_big_quiet_step ((first | (go_at_call 83; with_reducible exact Calls.later _ (HBX.out _)) | (go_at_call 84; with_reducible exact Calls.later _ (HL1.out _)) | (go_at_call 83; with_reducible exact Calls.later _ (HAX.out _)) | (go_at_call 84; with_reducible exact Calls.later _ (HL2.out _)) | (go_at_call 83; with_reducible exact Calls.later _ (HBY.out _)) | (go_at_call 84; with_reducible exact Calls.later _ (HL3.out _)) | (go_at_call 83; with_reducible exact Calls.later _ (HAY.out _)) | (go_at_call 84; with_reducible exact Calls.later _ (HL4.out _)))) | quiet_step ((first | (go_at_call 83; with_reducible exact Calls.later _ (HBX.out _)) | (go_at_call 84; with_reducible exact Calls.later _ (HL1.out _)) | (go_at_call 83; with_reducible exact Calls.later _ (HAX.out _)) | (go_at_call 84; with_reducible exact Calls.later _ (HL2.out _)) | (go_at_call 83; with_reducible exact Calls.later _ (HBY.out _)) | (go_at_call 84; with_reducible exact Calls.later _ (HL3.out _)) | (go_at_call 83; with_reducible exact Calls.later _ (HAY.out _)) | (go_at_call 84; with_reducible exact Calls.later _ (HL4.out _)))))); refine wpQuiet_nil ?_; rintro _ ⟨s, rfl⟩
    have HBS := Lib.hid (below_more HB.out s.below)
    go_wp2_with fail
    go_ret
    exact ⟨rfl, HBS.out⟩
  go_enter Tryz.func48, Tryz.ntmps48
  go_wp2_with fail
  rw [← hW2, ← hW]
  clear hW2 hW
  refine wp_region_later (by kernel_rfl) (by kernel_rfl) ?_; (repeat (first | go_big_quiet_step ((first | (go_at_call 83; with_reducible exact Calls.later _ (HBX.out _)) | (go_at_call 84; with_reducible exact Calls.later _ (HL1.out _)) | (go_at_call 83; with_reducible exact Calls.later _ (HAX.out _)) | (go_at_call 84; with_reducible exact Calls.later _ (HL2.out _)) | (go_at_call 83; with_reducible exact Calls.later _ (HBY.out _)) | (go_at_call 84; with_reducible exact Calls.later _ (HL3.out _)) | (go_at_call 83; with_reducible exact Calls.later _ (HAY.out _)) | (go_at_call 84; with_reducible exact Calls.later _ (HL4.out _)))) | quiet_step ((first | (go_at_call 83; with_reducible exact Calls.later _ (HBX.out _)) | (go_at_call 84; with_reducible exact Calls.later _ (HL1.out _)) | (go_at_call 83; with_reducible exact Calls.later _ (HAX.out _)) | (go_at_call 84; with_reducible exact Calls.later _ (HL2.out _)) | (go_at_call 83; with_reducible exact Calls.later _ (HBY.out _)) | (go_at_call 84; with_reducible exact Calls.later _ (HL3.out _)) | (go_at_call 83; with_reducible exact Calls.later _ (HAY.out _)) | (go_at_call 84; with_reducible exact Calls.later _ (HL4.out _)))))); refine wpQuiet_nil ?_; rintro _ ⟨s, rfl⟩
  have HBS := Lib.hid (below_more HB.out s.below)
  go_wp2_with fail
  go_ret
  exact ⟨rfl, HBS.out⟩
end Go.Proofs.YtmiokllpdmmfhaaGreat
