/-
  Sums by the specification; whether a box is placed, by the specification (Placed). And what builds on it.
-/
import Derived.Test.YtcijomljopbelaaGreatPlc

/- Sums by the specification; whether a box is placed, by the specification (Placed). -/
namespace Go.Proofs.YtcijomljopbelaaGreat
open Go.RowKit

set_option maxRecDepth 100000 in
set_option maxHeartbeats 4000000 in
theorem radd_any (n d p q : Int) (w : World) (h1 : smallI (n * q)) (h2 : smallI (p * d)) (h3 : smallI (n * q + p * d)) (h4 : 0 < d * q) (h5 : smallI (d * q)) :
    Calls Tryz.prog 83 #[.agg #[.int .i64 n, .int .i64 d], .agg #[.int .i64 p, .int .i64 q]] w (GotFr w (fracR (n * q + p * d) (d * q))) := by
  have HF := Lib.hid (fun wx => rfrac_any (n * q + p * d) (d * q) wx h3 ⟨h4, h5.2⟩)
  have e1 := small_wrap h1
  have e2 := small_wrap h2
  have e3 := small_wrap h3
  have e4 := small_wrap h5
  obtain ⟨x, hx⟩ : ∃ x, x = n * q := ⟨_, rfl⟩
  obtain ⟨y, hy⟩ : ∃ y, y = p * d := ⟨_, rfl⟩
  obtain ⟨z, hz⟩ : ∃ z, z = x + y := ⟨_, rfl⟩
  obtain ⟨u, hu⟩ : ∃ u, u = d * q := ⟨_, rfl⟩
  have f1 : IntKind.i64.wrap (n * q) = x := by rw [hx]; exact e1
  have f2 : IntKind.i64.wrap (p * d) = y := by rw [hy]; exact e2
  have f3 : IntKind.i64.wrap (x + y) = z := by rw [hz, hx, hy]; exact e3
  have f4 : IntKind.i64.wrap (d * q) = u := by rw [hu]; exact e4
  rw [← hx, ← hy, ← hu, ← hz] at HF ⊢
  obtain ⟨F, hF⟩ : ∃ F, F = fracR z u := ⟨_, rfl⟩
  rw [← hF] at HF ⊢
  clear hx hy hz hu e1 e2 e3 e4 h1 h2 h3 h4 h5 hF
  obtain ⟨W, hW⟩ : ∃ W, W = ((w.alloc (.cells #[.int .i64 n, .int .i64 d] 40)).alloc (.cells #[.int .i64 p, .int .i64 q] 40)).alloc (.cells #[.int .i64 0, .int .i64 0] 40) := ⟨_, rfl⟩
  have HB := Lib.hid (show Below w.heap.size w W from hW ▸ (two_under _ _ _).alloc (by simp; omega) _)
  have D2 := Lib.hid (show W.heap[w.heap.size + 1 + 1]? = some (.cells #[.int .i64 0, .int .i64 0] 40 (0, 0)) by rw [hW]; have := heap_alloc_new ((w.alloc (.cells #[.int .i64 n, .int .i64 d] 40)).alloc (.cells #[.int .i64 p, .int .i64 q] 40)) (.cells #[.int .i64 0, .int .i64 0] 40); simpa using this)
  go_enter Tryz.func83, Tryz.ntmps83
  go_wp2_with fail
  rw [← hW]
  clear hW
  refine (HF.out _).mono ?_; rintro e wf ⟨rfl, hb⟩
  have HB1 := Lib.hid (below_more HB.out hb)
  have D2 := Lib.hid (blk_keep hb D2.out)
  have q0 := cell_of_blk D2.out 0
  have q1 := cell_of_blk D2.out 1
  have f0 := free_of_blk D2.out 0
  have f1 := free_of_blk D2.out 1
  have hs := (Array.getElem?_eq_some_iff.1 D2.out).1
  simp at q0 q1
  clear hb
  go_wp2
  exact bodyPost_ret (v := .agg #[.int .i64 F.num, .int .i64 F.den]) (by simp [results, Tryz.results83, go_sem, q0, q1]) rfl ⟨rfl, (HB1.out.setCell (by dsimp only; omega) _).setCell (by dsimp only; omega) _⟩

def placedR (x : Bx) : Bool := ((((((vF x.x && vF x.y) && vF x.w) && vF x.h) && decide (0 < x.w.num)) && decide (0 < x.h.num)) && vF (x.en false)) && vF (x.en true)
theorem placed_both (x : Bx) : (placedB false x && placedB true x) = placedR x := by
  unfold placedB placedR Bx.st Bx.sz
  simp only [if_true, if_false, Bool.false_eq_true]
  generalize vF x.x = a
  generalize vF x.y = b
  generalize vF x.w = c
  generalize vF x.h = d
  generalize decide (0 < x.w.num) = e
  generalize decide (0 < x.h.num) = f
  generalize vF (x.en false) = g
  generalize vF (x.en true) = h
  cases a <;> cases b <;> cases c <;> cases d <;> cases e <;> cases f <;> cases g <;> cases h <;> rfl

set_option maxRecDepth 100000 in
set_option maxHeartbeats 8000000 in
theorem rplaced_any (x : Bx) (w : World) : Calls Tryz.prog 46 #[x.val] w fun e w' => e = .returned (.bool (placedR x)) ∧ Below w.heap.size w w' := by
  have HV1 := Lib.hid (fun wx => rvalid_any x.x.num x.x.den wx)
  have HV2 := Lib.hid (fun wx => rvalid_any x.y.num x.y.den wx)
  have HV3 := Lib.hid (fun wx => rvalid_any x.w.num x.w.den wx)
  have HV4 := Lib.hid (fun wx => rvalid_any x.h.num x.h.den wx)
  have HV7 := Lib.hid (fun wx => rvalid_any (x.en false).num (x.en false).den wx)
  have HV8 := Lib.hid (fun wx => rvalid_any (x.en true).num (x.en true).den wx)
  have HA7 := Lib.hid (fun wx (h1 : vF x.x = true) (h2 : vF x.w = true) => show Calls Tryz.prog 83 #[.agg #[.int .i64 x.x.num, .int .i64 x.x.den], .agg #[.int .i64 x.w.num, .int .i64 x.w.den]] wx (GotFr wx (x.en false)) from by
    unfold vF at h1 h2
    obtain ⟨a1, a2, a3, a4⟩ := valid_in h1
    obtain ⟨b1, b2, b3, b4⟩ := valid_in h2
    exact radd_any _ _ _ _ wx (mul_small ⟨a3, a4⟩ ⟨b1, b2⟩) (mul_small ⟨b3, b4⟩ ⟨a1, a2⟩) (sum_small ⟨a3, a4⟩ ⟨b1, b2⟩ ⟨b3, b4⟩ ⟨a1, a2⟩) (Int.mul_pos (by omega) (by omega)) (mul_small ⟨by omega, by omega⟩ ⟨b1, b2⟩))
  have HA8 := Lib.hid (fun wx (h1 : vF x.y = true) (h2 : vF x.h = true) => show Calls Tryz.prog 83 #[.agg #[.int .i64 x.y.num, .int .i64 x.y.den], .agg #[.int .i64 x.h.num, .int .i64 x.h.den]] wx (GotFr wx (x.en true)) from by
    unfold vF at h1 h2
    obtain ⟨a1, a2, a3, a4⟩ := valid_in h1
    obtain ⟨b1, b2, b3, b4⟩ := valid_in h2
    exact radd_any _ _ _ _ wx (mul_small ⟨a3, a4⟩ ⟨b1, b2⟩) (mul_small ⟨b3, b4⟩ ⟨a1, a2⟩) (sum_small ⟨a3, a4⟩ ⟨b1, b2⟩ ⟨b3, b4⟩ ⟨a1, a2⟩) (Int.mul_pos (by omega) (by omega)) (mul_small ⟨by omega, by omega⟩ ⟨b1, b2⟩))
  unfold placedR
  unfold vF at HA7 HA8 ⊢
  obtain ⟨V1, hV1⟩ : ∃ V, V = validB x.x.num x.x.den := ⟨_, rfl⟩
  obtain ⟨V2, hV2⟩ : ∃ V, V = validB x.y.num x.y.den := ⟨_, rfl⟩
  obtain ⟨V3, hV3⟩ : ∃ V, V = validB x.w.num x.w.den := ⟨_, rfl⟩
  obtain ⟨V4, hV4⟩ : ∃ V, V = validB x.h.num x.h.den := ⟨_, rfl⟩
  obtain ⟨V5, hV5⟩ : ∃ V, V = decide (0 < x.w.num) := ⟨_, rfl⟩
  obtain ⟨V6, hV6⟩ : ∃ V, V = decide (0 < x.h.num) := ⟨_, rfl⟩
  obtain ⟨V7, hV7⟩ : ∃ V, V = validB (x.en false).num (x.en false).den := ⟨_, rfl⟩
  obtain ⟨V8, hV8⟩ : ∃ V, V = validB (x.en true).num (x.en true).den := ⟨_, rfl⟩
  rw [← hV1, ← hV2, ← hV3, ← hV4, ← hV5, ← hV6, ← hV7, ← hV8]
  rw [← hV1] at HV1 HA7
  rw [← hV2] at HV2 HA8
  rw [← hV3] at HV3 HA7
  rw [← hV4] at HV4 HA8
  rw [← hV7] at HV7
  rw [← hV8] at HV8
  have H5 := Lib.hid hV5.symm
  have H6 := Lib.hid hV6.symm
  obtain ⟨⟨E1, E2⟩, hE⟩ : ∃ E, E = x.en false := ⟨_, rfl⟩
  obtain ⟨⟨G1, G2⟩, hG⟩ : ∃ E, E = x.en true := ⟨_, rfl⟩
  rw [← hE] at HV7 HA7
  rw [← hG] at HV8 HA8
  unfold GotFr at HA7 HA8
  dsimp only at HV7 HA7 HV8 HA8
  clear hV1 hV2 hV3 hV4 hV5 hV6 hV7 hV8 hE hG
  obtain ⟨k, sg, t, m, st, mn, mx, ⟨x1, x2⟩, ⟨y1, y2⟩, ⟨w1, w2⟩, ⟨h1, h2⟩⟩ := x
  unfold Bx.val
  dsimp only at HV1 HV2 HV3 HV4 HA7 HA8 H5 H6 ⊢
  obtain ⟨W, hW⟩ : ∃ W, W = w.alloc (.cells #[.int .i64 k, .int .i64 sg, .int .i64 t, .bool m, .int .i64 st, .int .i64 mn, .int .i64 mx, .int .i64 x1, .int .i64 x2, .int .i64 y1, .int .i64 y2, .int .i64 w1, .int .i64 w2, .int .i64 h1, .int .i64 h2] 82) := ⟨_, rfl⟩
  have HB := Lib.hid (show Below w.heap.size w W from hW ▸ below_alloc _ _)
  have D1 := Lib.hid (show W.heap[w.heap.size]? = some (.cells #[.int .i64 k, .int .i64 sg, .int .i64 t, .bool m, .int .i64 st, .int .i64 mn, .int .i64 mx, .int .i64 x1, .int .i64 x2, .int .i64 y1, .int .i64 y2, .int .i64 w1, .int .i64 w2, .int .i64 h1, .int .i64 h2] 82 (0, 0)) from hW ▸ heap_alloc_new _ _)
  have b7 := cell_of_blk D1.out 7
  have b8 := cell_of_blk D1.out 8
  have b9 := cell_of_blk D1.out 9
  have b10 := cell_of_blk D1.out 10
  have b11 := cell_of_blk D1.out 11
  have b12 := cell_of_blk D1.out 12
  have b13 := cell_of_blk D1.out 13
  have b14 := cell_of_blk D1.out 14
  have hz1 := (Array.getElem?_eq_some_iff.1 D1.out).1
  simp at b7 b8 b9 b10 b11 b12 b13 b14
  go_enter Tryz.func46, Tryz.ntmps46
  go_wp2_with fail
  rw [← hW]
  clear hW
  refine (HV1.out _).mono ?_; rintro e w9 ⟨rfl, hb⟩
  have HB := Lib.hid (below_more HB.out hb)
  have D1 := Lib.hid (blk_keep hb D1.out)
  clear hb b7 b8 b9 b10 b11 b12 b13 b14 hz1
  have b7 := cell_of_blk D1.out 7
  have b8 := cell_of_blk D1.out 8
  have b9 := cell_of_blk D1.out 9
  have b10 := cell_of_blk D1.out 10
  have b11 := cell_of_blk D1.out 11
  have b12 := cell_of_blk D1.out 12
  have b13 := cell_of_blk D1.out 13
  have b14 := cell_of_blk D1.out 14
  have hz1 := (Array.getElem?_eq_some_iff.1 D1.out).1
  simp at b7 b8 b9 b10 b11 b12 b13 b14
  cases V1
  case false =>
    go_wp2_with fail
    go_ret
    exact ⟨rfl, HB.out⟩
  go_wp2_with fail
  refine (HV2.out _).mono ?_; rintro e w9 ⟨rfl, hb⟩
  have HB := Lib.hid (below_more HB.out hb)
  have D1 := Lib.hid (blk_keep hb D1.out)
  clear hb b7 b8 b9 b10 b11 b12 b13 b14 hz1
  have b7 := cell_of_blk D1.out 7
  have b8 := cell_of_blk D1.out 8
  have b9 := cell_of_blk D1.out 9
  have b10 := cell_of_blk D1.out 10
  have b11 := cell_of_blk D1.out 11
  have b12 := cell_of_blk D1.out 12
  have b13 := cell_of_blk D1.out 13
  have b14 := cell_of_blk D1.out 14
  have hz1 := (Array.getElem?_eq_some_iff.1 D1.out).1
  simp at b7 b8 b9 b10 b11 b12 b13 b14
  cases V2
  case false =>
    go_wp2_with fail
    go_ret
    exact ⟨rfl, HB.out⟩
  go_wp2_with fail
  refine (HV3.out _).mono ?_; rintro e w9 ⟨rfl, hb⟩
  have HB := Lib.hid (below_more HB.out hb)
  have D1 := Lib.hid (blk_keep hb D1.out)
  clear hb b7 b8 b9 b10 b11 b12 b13 b14 hz1
  have b7 := cell_of_blk D1.out 7
  have b8 := cell_of_blk D1.out 8
  have b9 := cell_of_blk D1.out 9
  have b10 := cell_of_blk D1.out 10
  have b11 := cell_of_blk D1.out 11
  have b12 := cell_of_blk D1.out 12
  have b13 := cell_of_blk D1.out 13
  have b14 := cell_of_blk D1.out 14
  have hz1 := (Array.getElem?_eq_some_iff.1 D1.out).1
  simp at b7 b8 b9 b10 b11 b12 b13 b14
  cases V3
  case false =>
    go_wp2_with fail
    go_ret
    exact ⟨rfl, HB.out⟩
  go_wp2_with fail
  refine (HV4.out _).mono ?_; rintro e w9 ⟨rfl, hb⟩
  have HB := Lib.hid (below_more HB.out hb)
  have D1 := Lib.hid (blk_keep hb D1.out)
  clear hb b7 b8 b9 b10 b11 b12 b13 b14 hz1
  have b7 := cell_of_blk D1.out 7
  have b8 := cell_of_blk D1.out 8
  have b9 := cell_of_blk D1.out 9
  have b10 := cell_of_blk D1.out 10
  have b11 := cell_of_blk D1.out 11
  have b12 := cell_of_blk D1.out 12
  have b13 := cell_of_blk D1.out 13
  have b14 := cell_of_blk D1.out 14
  have hz1 := (Array.getElem?_eq_some_iff.1 D1.out).1
  simp at b7 b8 b9 b10 b11 b12 b13 b14
  cases V4
  case false =>
    go_wp2_with fail
    go_ret
    exact ⟨rfl, HB.out⟩
  have h5 := H5.out
  have h6 := H6.out
  cases V5
  case false =>
    go_wp2_with fail
    go_ret
    exact ⟨rfl, HB.out⟩
  cases V6
  case false =>
    go_wp2_with fail
    go_ret
    exact ⟨rfl, HB.out⟩
  have HN7 := Lib.hid (fun wx => HA7.out wx (by trivial) (by trivial))
  have HN8 := Lib.hid (fun wx => HA8.out wx (by trivial) (by trivial))
  go_wp2_with fail
  refine (HN7.out _).mono ?_; rintro e w9 ⟨rfl, hb⟩
  have HB := Lib.hid (below_more HB.out hb)
  have D1 := Lib.hid (blk_keep hb D1.out)
  clear hb b7 b8 b9 b10 b11 b12 b13 b14 hz1 h5 h6
  have b7 := cell_of_blk D1.out 7
  have b8 := cell_of_blk D1.out 8
  have b9 := cell_of_blk D1.out 9
  have b10 := cell_of_blk D1.out 10
  have b11 := cell_of_blk D1.out 11
  have b12 := cell_of_blk D1.out 12
  have b13 := cell_of_blk D1.out 13
  have b14 := cell_of_blk D1.out 14
  have hz1 := (Array.getElem?_eq_some_iff.1 D1.out).1
  simp at b7 b8 b9 b10 b11 b12 b13 b14
  go_wp2_with fail
  refine (HV7.out _).mono ?_; rintro e w9 ⟨rfl, hb⟩
  have HB := Lib.hid (below_more HB.out hb)
  have D1 := Lib.hid (blk_keep hb D1.out)
  clear hb b7 b8 b9 b10 b11 b12 b13 b14 hz1
  have b7 := cell_of_blk D1.out 7
  have b8 := cell_of_blk D1.out 8
  have b9 := cell_of_blk D1.out 9
  have b10 := cell_of_blk D1.out 10
  have b11 := cell_of_blk D1.out 11
  have b12 := cell_of_blk D1.out 12
  have b13 := cell_of_blk D1.out 13
  have b14 := cell_of_blk D1.out 14
  have hz1 := (Array.getElem?_eq_some_iff.1 D1.out).1
  simp at b7 b8 b9 b10 b11 b12 b13 b14
  cases V7
  case false =>
    go_wp2_with fail
    go_ret
    exact ⟨rfl, HB.out⟩
  go_wp2_with fail
  refine (HN8.out _).mono ?_; rintro e w9 ⟨rfl, hb⟩
  have HB := Lib.hid (below_more HB.out hb)
  have D1 := Lib.hid (blk_keep hb D1.out)
  clear hb b7 b8 b9 b10 b11 b12 b13 b14 hz1
  have b7 := cell_of_blk D1.out 7
  have b8 := cell_of_blk D1.out 8
  have b9 := cell_of_blk D1.out 9
  have b10 := cell_of_blk D1.out 10
  have b11 := cell_of_blk D1.out 11
  have b12 := cell_of_blk D1.out 12
  have b13 := cell_of_blk D1.out 13
  have b14 := cell_of_blk D1.out 14
  have hz1 := (Array.getElem?_eq_some_iff.1 D1.out).1
  simp at b7 b8 b9 b10 b11 b12 b13 b14
  go_wp2_with fail
  refine (HV8.out _).mono ?_; rintro e w9 ⟨rfl, hb⟩
  have HB := Lib.hid (below_more HB.out hb)
  clear hb
  cases V8 <;> (
    go_wp2_with fail
    go_ret
    exact ⟨rfl, HB.out⟩)

end Go.Proofs.YtcijomljopbelaaGreat

/- The first error of boxes (checkBoxes; allPlaced of the specification), by both sides. -/
namespace Go.Proofs.YtcijomljopbelaaGreat
open Go.RowKit

def bothB (x : Bx) : Bool := placedB false x && placedB true x
def chkB (bs : List Bx) : Int := if 200 < bs.length then 2 else if bs.all bothB then 0 else 41
theorem allB_snoc {bs : List Bx} {k : Nat} {x : Bx} (hx : bs[k]? = some x) : (bs.take (k + 1)).all bothB = ((bs.take k).all bothB && bothB x) := by
  obtain ⟨hk, e⟩ := List.getElem?_eq_some_iff.1 hx
  rw [List.take_succ_eq_append_getElem hk, e, List.all_append]; simp
theorem not_all {bs : List Bx} {k : Nat} {x : Bx} (hx : bs[k]? = some x) (h : bothB x = false) : bs.all bothB = false := by
  rw [List.all_eq_false]
  exact ⟨x, List.mem_of_getElem? hx, by simp [h]⟩

set_option maxRecDepth 100000 in
set_option maxHeartbeats 16000000 in
theorem rallp_any (A : Option Addr) (cap : Nat) (bs : List Bx) (w : World) (hb : BxsAt w A bs) (hc1 : bs.length ≤ cap) (hc : cap ≤ maxLen) :
    Calls Tryz.prog 82 #[.slice A bs.length cap] w fun e w' => e = .returned (.int .i64 (chkB bs)) ∧ Below w.heap.size w w' := by
  obtain ⟨C, hC⟩ : ∃ C, C = chkB bs := ⟨_, rfl⟩
  have HC := Lib.hid (show C = if 200 < bs.length then 2 else if bs.all bothB then 0 else 41 from hC)
  have HBS := Lib.hid hb
  obtain ⟨N, hN⟩ : ∃ N, N = bs.length := ⟨_, rfl⟩
  have HN := Lib.hid hN
  rw [← hC]
  rw [← hN] at hc1 ⊢
  unfold maxLen at hc
  clear hb hC hN
  by_cases h200 : 200 < N
  · have HF := Lib.hid (show C = 2 by rw [HC.out, if_pos (by rw [← HN.out]; exact h200)])
    have hd : decide ((200 : Int) < (N : Int)) = true := decide_eq_true (by omega)
    clear HC
    go_enter Tryz.func82, Tryz.ntmps82
    go_wp2_with fail
    go_ret
    exact ⟨of_int HF.out.symm, Below.refl _ _⟩
  have HF := Lib.hid (show C = if bs.all bothB then 0 else 41 by rw [HC.out, if_neg (by rw [← HN.out]; exact h200)])
  have hd : decide ((200 : Int) < (N : Int)) = false := decide_eq_false (by omega)
  clear HC
  go_enter Tryz.func82, Tryz.ntmps82
  go_wp2_with fail
  go_loopw [3] (fun i wr => ∃ k : Nat, k ≤ N ∧ i = .int .i64 k ∧ Hid ((bs.take k).all bothB = true) ∧ Hid (Below w.heap.size w wr)) (fun i _ => N - (intOf i).toNat)
  case atStart => exact ⟨0, Nat.zero_le _, rfl, Lib.hid (by simp), Lib.hid (Below.refl _ _)⟩
  case round =>
    obtain ⟨k, hk, rfl, hall, hbw⟩ := hrel
    have HA := Lib.hid hall.out
    have HB := Lib.hid hbw.out
    clear hall hbw
    by_cases hlt : k < N
    · obtain ⟨x, hx⟩ : ∃ x, bs[k]? = some x := ⟨_, List.getElem?_eq_getElem (by have := HN.out; omega)⟩
      obtain ⟨b, o, hA, hbl, vb0⟩ := HBS.out k x hx
      subst hA
      have vb := vb0.below HB.out hbl
      have HP := Lib.hid (fun wx => rplaced_any x wx)
      have HPB := Lib.hid (show placedR x = bothB x from (placed_both x).symm)
      obtain ⟨Q, hQ⟩ : ∃ Q, Q = placedR x := ⟨_, rfl⟩
      rw [← hQ] at HP HPB
      have HXX := Lib.hid hx
      have HTK := Lib.hid (allB_snoc hx)
      rw [← HPB.out] at HTK
      have HNA := Lib.hid (fun (h : Q = false) => not_all hx (by rw [← HPB.out]; exact h))
      have z0 := vb.c0
      have z1 := vb.c1
      have z2 := vb.c2
      have z3 := vb.c3
      have z4 := vb.c4
      have z5 := vb.c5
      have z6 := vb.c6
      have z7 := vb.c7
      have z8 := vb.c8
      have z9 := vb.c9
      have z10 := vb.c10
      have z11 := vb.c11
      have z12 := vb.c12
      have z13 := vb.c13
      have z14 := vb.c14
      have hbr : b < wr.heap.size := by have := HB.out.size; omega
      have hki : (0 : Int) ≤ (k : Int) := by omega
      have hkl : (k : Int) < (N : Int) := by omega
      clear hQ hx vb vb0 HPB
      obtain ⟨k', sg, t, m, st, mn, mx, ⟨x1, x2⟩, ⟨y1, y2⟩, ⟨w1, w2⟩, ⟨h1, h2⟩⟩ := x
      unfold Bx.val at HP
      dsimp only at HP z0 z1 z2 z3 z4 z5 z6 z7 z8 z9 z10 z11 z12 z13 z14
      clear HXX
      go_wp2_with fail
      refine (HP.out _).mono ?_; rintro e w5 ⟨rfl, hb5⟩
      have HB5 := Lib.hid (below_more HB.out hb5)
      clear hb5 z0 z1 z2 z3 z4 z5 z6 z7 z8 z9 z10 z11 z12 z13 z14 hbr
      cases Q
      · go_wp2_with fail
        go_ret
        exact ⟨of_int (by rw [HF.out, HNA.out (by trivial)]; rfl), HB5.out⟩
      · go_wp2_with fail
        go_roundw
        case rel => exact ⟨k + 1, by omega, by go_num, Lib.hid (by rw [HTK.out, HA.out]; rfl), HB5⟩
        case measure => simp [intOf]; omega
    · obtain rfl : k = N := by omega
      have HE := Lib.hid (show C = 0 by
        have h := HA.out
        rw [HN.out, List.take_length] at h
        rw [HF.out, h]; rfl)
      go_wp2_with fail
      go_ret
      exact ⟨of_int HE.out.symm, HB.out⟩

set_option maxRecDepth 100000 in
set_option maxHeartbeats 16000000 in
theorem checkb_any (A : Option Addr) (cap : Nat) (bs : List Bx) (w : World) (hb : BxsAt w A bs) (hc1 : bs.length ≤ cap) (hc : cap ≤ maxLen) :
    Calls Tryz.prog 68 #[.slice A bs.length cap] w fun e w' => e = .returned (.int .i64 (chkB bs)) ∧ Below w.heap.size w w' := by
  obtain ⟨C, hC⟩ : ∃ C, C = chkB bs := ⟨_, rfl⟩
  have HC := Lib.hid (show C = if 200 < bs.length then 2 else if bs.all bothB then 0 else 41 from hC)
  have HBS := Lib.hid hb
  obtain ⟨N, hN⟩ : ∃ N, N = bs.length := ⟨_, rfl⟩
  have HN := Lib.hid hN
  rw [← hC]
  rw [← hN] at hc1 ⊢
  unfold maxLen at hc
  clear hb hC hN
  by_cases h200 : 200 < N
  · have HF := Lib.hid (show C = 2 by rw [HC.out, if_pos (by rw [← HN.out]; exact h200)])
    have hd : decide ((200 : Int) < (N : Int)) = true := decide_eq_true (by omega)
    clear HC
    go_enter Tryz.func68, Tryz.ntmps68
    go_wp2_with fail
    go_ret
    exact ⟨of_int HF.out.symm, Below.refl _ _⟩
  have HF := Lib.hid (show C = if bs.all bothB then 0 else 41 by rw [HC.out, if_neg (by rw [← HN.out]; exact h200)])
  have hd : decide ((200 : Int) < (N : Int)) = false := decide_eq_false (by omega)
  clear HC
  go_enter Tryz.func68, Tryz.ntmps68
  go_wp2_with fail
  refine (sideways_any _).mono ?_; rintro e v1 ⟨p, rfl, hp, hpb, hb1⟩
  have HB1 := Lib.hid hb1
  clear hp hpb hb1
  go_wp2_with fail
  refine (downwards_any _).mono ?_; rintro e v2 ⟨q, rfl, hq, hqb, hb2⟩
  have HB2 := Lib.hid (below_more HB1.out hb2)
  clear hq hqb hb2
  go_upto_region 4 with fail
  obtain ⟨V, hV⟩ : ∃ V, V = (v2.alloc (.cells #[.func (.func 131) #[] #[], .func (.func 132) #[] #[], .func (.func 172) #[] #[.pointer (some ⟨p, 0, none⟩)]] 100)).alloc (.cells #[.func (.func 135) #[] #[], .func (.func 136) #[] #[], .func (.func 172) #[] #[.pointer (some ⟨q, 0, none⟩)]] 100) := ⟨_, rfl⟩
  have HBV := Lib.hid (show Below v2.heap.size v2 V from hV ▸ two_under _ _ _)
  have D0 := Lib.hid (show V.heap[v2.heap.size]? = some (.cells #[.func (.func 131) #[] #[], .func (.func 132) #[] #[], .func (.func 172) #[] #[.pointer (some ⟨p, 0, none⟩)]] 100 (0, 0)) by rw [hV, heap_alloc_other _ _ _ (by simp)]; exact heap_alloc_new _ _)
  have D1 := Lib.hid (show V.heap[v2.heap.size + 1]? = some (.cells #[.func (.func 135) #[] #[], .func (.func 136) #[] #[], .func (.func 172) #[] #[.pointer (some ⟨q, 0, none⟩)]] 100 (0, 0)) by rw [hV]; have := heap_alloc_new (v2.alloc (.cells #[.func (.func 131) #[] #[], .func (.func 132) #[] #[], .func (.func 172) #[] #[.pointer (some ⟨p, 0, none⟩)]] 100)) (.cells #[.func (.func 135) #[] #[], .func (.func 136) #[] #[], .func (.func 172) #[] #[.pointer (some ⟨q, 0, none⟩)]] 100); simpa using this)
  have HB3 := Lib.hid (below_more HB2.out HBV.out)
  rw [← hV]
  clear hV
  go_wp2_with fail
  go_loopw [14] (fun i wr => ∃ k : Nat, k ≤ N ∧ i = .int .i64 k ∧ Hid ((bs.take k).all bothB = true) ∧ Hid (Below V.heap.size V wr)) (fun i _ => N - (intOf i).toNat)
  case atStart => exact ⟨0, Nat.zero_le _, rfl, Lib.hid (by simp), Lib.hid (Below.refl _ _)⟩
  case round =>
    obtain ⟨k, hk, rfl, hall, hbw⟩ := hrel
    have HA := Lib.hid hall.out
    have HBR := Lib.hid hbw.out
    have HB := Lib.hid (below_more HB3.out hbw.out)
    clear hall hbw
    by_cases hlt : k < N
    · obtain ⟨x, hx⟩ : ∃ x, bs[k]? = some x := ⟨_, List.getElem?_eq_getElem (by have := HN.out; omega)⟩
      obtain ⟨b, o, hA, hbl, vb0⟩ := HBS.out k x hx
      subst hA
      have vb := vb0.below HB.out hbl
      have HP1 := Lib.hid (fun wx => placedS_any p x wx)
      have HP2 := Lib.hid (fun wx => placedD_any q x wx)
      obtain ⟨Q1, hQ1⟩ : ∃ Q, Q = placedB false x := ⟨_, rfl⟩
      obtain ⟨Q2, hQ2⟩ : ∃ Q, Q = placedB true x := ⟨_, rfl⟩
      have HPB := Lib.hid (show bothB x = (Q1 && Q2) by unfold bothB; rw [hQ1, hQ2])
      rw [← hQ1] at HP1
      rw [← hQ2] at HP2
      have HTK := Lib.hid (allB_snoc hx)
      rw [HPB.out] at HTK
      have HNA := Lib.hid (fun (h : (Q1 && Q2) = false) => not_all hx (by rw [HPB.out]; exact h))
      have z0 := vb.c0
      have z1 := vb.c1
      have z2 := vb.c2
      have z3 := vb.c3
      have z4 := vb.c4
      have z5 := vb.c5
      have z6 := vb.c6
      have z7 := vb.c7
      have z8 := vb.c8
      have z9 := vb.c9
      have z10 := vb.c10
      have z11 := vb.c11
      have z12 := vb.c12
      have z13 := vb.c13
      have z14 := vb.c14
      have hbr : b < wr.heap.size := by have := HB.out.size; omega
      have hki : (0 : Int) ≤ (k : Int) := by omega
      have hkl : (k : Int) < (N : Int) := by omega
      clear hQ1 hQ2 hx vb vb0 HPB
      obtain ⟨k', sg, t, m, st, mn, mx, ⟨x1, x2⟩, ⟨y1, y2⟩, ⟨w1, w2⟩, ⟨h1, h2⟩⟩ := x
      unfold Bx.val at HP1 HP2
      dsimp only at HP1 HP2 z0 z1 z2 z3 z4 z5 z6 z7 z8 z9 z10 z11 z12 z13 z14
      go_upto_region 7 with fail
      obtain ⟨Y, hY⟩ : ∃ Y, Y = wr.alloc (.cells #[.int .i64 k', .int .i64 sg, .int .i64 t, .bool m, .int .i64 st, .int .i64 mn, .int .i64 mx, .int .i64 x1, .int .i64 x2, .int .i64 y1, .int .i64 y2, .int .i64 w1, .int .i64 w2, .int .i64 h1, .int .i64 h2] 82) := ⟨_, rfl⟩
      have HBY := Lib.hid (show Below wr.heap.size wr Y from hY ▸ below_alloc _ _)
      have B6 := Lib.hid (show Y.heap[wr.heap.size]? = some (.cells #[.int .i64 k', .int .i64 sg, .int .i64 t, .bool m, .int .i64 st, .int .i64 mn, .int .i64 mx, .int .i64 x1, .int .i64 x2, .int .i64 y1, .int .i64 y2, .int .i64 w1, .int .i64 w2, .int .i64 h1, .int .i64 h2] 82 (0, 0)) from hY ▸ heap_alloc_new _ _)
      have E0 := Lib.hid (blk_keep HBY.out (blk_keep HBR.out D0.out))
      have E1 := Lib.hid (blk_keep HBY.out (blk_keep HBR.out D1.out))
      rw [← hY]
      clear hY z0 z1 z2 z3 z4 z5 z6 z7 z8 z9 z10 z11 z12 z13 z14 hbr
      have c0 := cell_of_blk E0.out 0
      have c1 := cell_of_blk E0.out 1
      have c2 := cell_of_blk E0.out 2
      have b0 := cell_of_blk B6.out 0
      have b1 := cell_of_blk B6.out 1
      have b2 := cell_of_blk B6.out 2
      have b3 := cell_of_blk B6.out 3
      have b4 := cell_of_blk B6.out 4
      have b5 := cell_of_blk B6.out 5
      have b6 := cell_of_blk B6.out 6
      have b7 := cell_of_blk B6.out 7
      have b8 := cell_of_blk B6.out 8
      have b9 := cell_of_blk B6.out 9
      have b10 := cell_of_blk B6.out 10
      have b11 := cell_of_blk B6.out 11
      have b12 := cell_of_blk B6.out 12
      have b13 := cell_of_blk B6.out 13
      have b14 := cell_of_blk B6.out 14
      have hz0 := (Array.getElem?_eq_some_iff.1 E0.out).1
      have hz6 := (Array.getElem?_eq_some_iff.1 B6.out).1
      simp at c0 c1 c2 b0 b1 b2 b3 b4 b5 b6 b7 b8 b9 b10 b11 b12 b13 b14
      go_wp2_with fail
      refine (HP1.out _).mono ?_; rintro e w5 ⟨rfl, hb5⟩
      have HB5 := Lib.hid (below_more HBY.out hb5)
      have F1 := Lib.hid (blk_keep hb5 E1.out)
      have B7 := Lib.hid (blk_keep hb5 B6.out)
      clear hb5 c0 c1 c2 b0 b1 b2 b3 b4 b5 b6 b7 b8 b9 b10 b11 b12 b13 b14 hz0 hz6
      cases Q1
      · have HB9 := Lib.hid (below_more HB.out HB5.out)
        go_wp2_with fail
        go_ret
        exact ⟨of_int (by rw [HF.out, HNA.out (by trivial)]; rfl), HB9.out⟩
      have c0 := cell_of_blk F1.out 0
      have c1 := cell_of_blk F1.out 1
      have c2 := cell_of_blk F1.out 2
      have b0 := cell_of_blk B7.out 0
      have b1 := cell_of_blk B7.out 1
      have b2 := cell_of_blk B7.out 2
      have b3 := cell_of_blk B7.out 3
      have b4 := cell_of_blk B7.out 4
      have b5 := cell_of_blk B7.out 5
      have b6 := cell_of_blk B7.out 6
      have b7 := cell_of_blk B7.out 7
      have b8 := cell_of_blk B7.out 8
      have b9 := cell_of_blk B7.out 9
      have b10 := cell_of_blk B7.out 10
      have b11 := cell_of_blk B7.out 11
      have b12 := cell_of_blk B7.out 12
      have b13 := cell_of_blk B7.out 13
      have b14 := cell_of_blk B7.out 14
      have hz0 := (Array.getElem?_eq_some_iff.1 F1.out).1
      have hz6 := (Array.getElem?_eq_some_iff.1 B7.out).1
      simp at c0 c1 c2 b0 b1 b2 b3 b4 b5 b6 b7 b8 b9 b10 b11 b12 b13 b14
      go_wp2_with fail
      refine (HP2.out _).mono ?_; rintro e w6 ⟨rfl, hb6⟩
      have HB6 := Lib.hid (below_more HB5.out hb6)
      have HB9 := Lib.hid (below_more HB.out HB6.out)
      have HBR6 := Lib.hid (below_more HBR.out HB6.out)
      clear hb6 c0 c1 c2 b0 b1 b2 b3 b4 b5 b6 b7 b8 b9 b10 b11 b12 b13 b14 hz0 hz6
      cases Q2
      · go_wp2_with fail
        go_ret
        exact ⟨of_int (by rw [HF.out, HNA.out (by trivial)]; rfl), HB9.out⟩
      · go_wp2_with fail
        go_roundw
        case rel => exact ⟨k + 1, by omega, by go_num, Lib.hid (by rw [HTK.out, HA.out]; rfl), HBR6⟩
        case measure => simp [intOf]; omega
    · obtain rfl : k = N := by omega
      have HE := Lib.hid (show C = 0 by
        have h := HA.out
        rw [HN.out, List.take_length] at h
        rw [HF.out, h]; rfl)
      go_wp2_with fail
      go_ret
      exact ⟨of_int HE.out.symm, HB.out⟩

end Go.Proofs.YtcijomljopbelaaGreat
