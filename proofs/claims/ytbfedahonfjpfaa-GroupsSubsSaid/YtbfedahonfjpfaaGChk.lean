/-
  The check of a node by itself (checkNode).
-/
import Derived.Test.YtbfedahonfjpfaaGLin
namespace Go.Proofs.Ytbfedahonfjpfaa
open Go.RowKit

def plainErr (n : Nd) : Int := if n.sign = 0 ∧ n.turn = 0 ∧ n.mirror = false ∧ n.state = 0 ∧ n.min = 0 ∧ n.max = 0 then 0 else 20
def nodeErr (l : Li) (before : List Nd) (n : Nd) : Int :=
  if n.kind < 1 ∨ 7 < n.kind then 20
  else if n.depth < 0 ∨ deepR before < n.depth then 21
  else if n.kind = 1 then glyphErr l n
  else if n.kind = 6 then gapErr n
  else plainErr n

set_option maxRecDepth 100000 in
set_option maxHeartbeats 8000000 in
theorem checkNode_any (L : Lm) (A : Option Addr) (cap i : Nat) (ns : List Nd) (u : Nd) (w : World) (hl : LmOk w L) (hn : NdsAt w A ns) (hc1 : ns.length ≤ cap) (hc : cap ≤ maxLen) (hi : ns[i]? = some u) (hd : ∀ x ∈ ns.take i, 0 ≤ x.depth ∧ x.depth ≤ 4) :
    Calls Try.prog 58 #[L.val, .slice A ns.length cap, .int .i64 i] w fun e w' => e = .returned (.int .i64 (nodeErr L.li (ns.take i) u)) ∧ Below w.heap.size w w' := by
  have hin : i < ns.length := (List.getElem?_eq_some_iff.1 hi).1
  have HDP := Lib.hid (fun wx (hb : Below w.heap.size w wx) => show Calls Try.prog 89 #[.slice A i cap] wx (fun e w' => e = .returned (.int .i64 (deepR (ns.take i))) ∧ Below wx.heap.size wx w') by
    have h1 : (ns.take i).length = i := by rw [List.length_take]; omega
    have := deepest_any (ns.take i) A cap wx ((hn.below hb).take i) (by omega) hc hd
    rw [h1] at this; exact this)
  have HGL := Lib.hid (fun wx (hb : Below w.heap.size w wx) => show Calls Try.prog 90 #[.agg #[.int .i64 L.per, .slice L.A L.ms.length L.cap], u.val] wx (fun e w' => e = .returned (.int .i64 (glyphErr L.li u)) ∧ Below wx.heap.size wx w') from checkGlyph_any L u wx (hl.below hb))
  have HGP := Lib.hid (fun wx (h : u.kind = 6) => checkGap_any u wx h)
  obtain ⟨b, o, hA, hblt, hva⟩ := hn i u hi
  subst hA
  obtain ⟨y0, y1, y2, y3, y4, y5, y6, y7⟩ := hva
  obtain ⟨N, hN⟩ : ∃ N, N = ns.length := ⟨_, rfl⟩
  obtain ⟨D, hD⟩ : ∃ D, D = deepR (ns.take i) := ⟨_, rfl⟩
  obtain ⟨l, hli⟩ : ∃ l, l = L.li := ⟨_, rfl⟩
  have HE := Lib.hid (show nodeErr L.li (ns.take i) u = if u.kind < 1 ∨ 7 < u.kind then 20 else if u.depth < 0 ∨ D < u.depth then 21 else if u.kind = 1 then glyphErr l u else if u.kind = 6 then gapErr u else plainErr u by rw [hD, hli]; rfl)
  rw [← hN] at hc1 hin ⊢
  rw [← hD] at HDP
  rw [← hli] at HGL
  generalize nodeErr L.li (ns.take i) u = R at HE ⊢
  unfold maxLen at hc
  clear hn hd hl hi hN hD hli
  unfold Lm.val
  obtain ⟨kind, depth, sign, turn, mirror, state, mn, mx⟩ := u
  dsimp only at y0 y1 y2 y3 y4 y5 y6 y7 HE HGP
  unfold Nd.val at HGL HGP
  dsimp only at HGL HGP
  obtain ⟨W, hW⟩ : ∃ W, W = (w.alloc (.cells #[.int .i64 L.per, .slice L.A L.ms.length L.cap] 24)).alloc (.cells #[.int .i64 kind, .int .i64 depth, .int .i64 sign, .int .i64 turn, .bool mirror, .int .i64 state, .int .i64 mn, .int .i64 mx] 78) := ⟨_, rfl⟩
  have HB := Lib.hid (show Below w.heap.size w W from hW ▸ two_under _ _ _)
  have HX0 := Lib.hid (show W.heap[w.heap.size]? = some (.cells #[.int .i64 L.per, .slice L.A L.ms.length L.cap] 24 (0, 0)) by rw [hW, heap_alloc_other _ _ _ (by simp)]; exact heap_alloc_new _ _)
  have HX1 := Lib.hid (show W.heap[w.heap.size + 1]? = some (.cells #[.int .i64 kind, .int .i64 depth, .int .i64 sign, .int .i64 turn, .bool mirror, .int .i64 state, .int .i64 mn, .int .i64 mx] 78 (0, 0)) by
    rw [hW]; have := heap_alloc_new (w.alloc (.cells #[.int .i64 L.per, .slice L.A L.ms.length L.cap] 24)) (.cells #[.int .i64 kind, .int .i64 depth, .int .i64 sign, .int .i64 turn, .bool mirror, .int .i64 state, .int .i64 mn, .int .i64 mx] 78); simpa using this)
  by_cases h1 : kind < 1
  · have HF := Lib.hid (show R = 20 by rw [HE.out, if_pos (.inl h1)])
    clear HE hW
    go_enter Try.func58, Try.ntmps58
    go_wp2
    go_ret
    exact ⟨of_int HF.out.symm, two_under _ _ _⟩
  by_cases h2 : 7 < kind
  · have HF := Lib.hid (show R = 20 by rw [HE.out, if_pos (.inr h2)])
    clear HE hW
    go_enter Try.func58, Try.ntmps58
    go_wp2
    go_ret
    exact ⟨of_int HF.out.symm, two_under _ _ _⟩
  have HE2 := Lib.hid (show R = if depth < 0 ∨ D < depth then 21 else if kind = 1 then glyphErr l ⟨kind, depth, sign, turn, mirror, state, mn, mx⟩ else if kind = 6 then gapErr ⟨kind, depth, sign, turn, mirror, state, mn, mx⟩ else plainErr ⟨kind, depth, sign, turn, mirror, state, mn, mx⟩ by rw [HE.out, if_neg (by omega)])
  clear HE
  have hWs : w.heap.size + 1 < W.heap.size := (Array.getElem?_eq_some_iff.1 HX1.out).1
  have hW0 : w.heap.size < W.heap.size := by omega
  have hd1 : decide (kind < 1) = false := decide_eq_false h1
  have hd2 : decide (7 < kind) = false := decide_eq_false h2
  go_enter Try.func58, Try.ntmps58
  go_upto_region 4 with fail
  rw [← hW]
  clear hW y0 y1 y2 y3 y4 y5 y6 y7
  have x1 := cell_of_blk HX1.out 1
  simp at x1
  by_cases h3 : depth < 0
  · have HF := Lib.hid (show R = 21 by rw [HE2.out, if_pos (.inl h3)])
    have hd3 : decide (depth < 0) = true := decide_eq_true h3
    refine wp_region_later (by kernel_rfl) (by kernel_rfl) ?_; (repeat (first | go_big_quiet_step (fail) | quiet_step (fail))); refine wpQuiet_nil ?_; rintro _ ⟨s, rfl⟩
    have HB5 := Lib.hid (below_more HB.out s.below)
    generalize s.w = W5 at HB5 ⊢
    go_wp2
    go_ret
    exact ⟨of_int HF.out.symm, HB5.out⟩
  have hd3 : decide (depth < 0) = false := decide_eq_false h3
  by_cases h4 : D < depth
  · have HF := Lib.hid (show R = 21 by rw [HE2.out, if_pos (.inr h4)])
    have hd4 : decide (D < depth) = true := decide_eq_true h4
    refine wp_region_later (by kernel_rfl) (by kernel_rfl) ?_; (repeat (first | go_big_quiet_step (((go_at_call 89; exact Calls.later _ (HDP.out _ (below_more HB.out (Later.below _)))))) | quiet_step (((go_at_call 89; exact Calls.later _ (HDP.out _ (below_more HB.out (Later.below _)))))))); refine wpQuiet_nil ?_; rintro _ ⟨s, rfl⟩
    have HB5 := Lib.hid (below_more HB.out s.below)
    generalize s.w = W5 at HB5 ⊢
    go_wp2
    go_ret
    exact ⟨of_int HF.out.symm, HB5.out⟩
  have hd4 : decide (D < depth) = false := decide_eq_false h4
  have HE3 := Lib.hid (show R = if kind = 1 then glyphErr l ⟨kind, depth, sign, turn, mirror, state, mn, mx⟩ else if kind = 6 then gapErr ⟨kind, depth, sign, turn, mirror, state, mn, mx⟩ else plainErr ⟨kind, depth, sign, turn, mirror, state, mn, mx⟩ by rw [HE2.out, if_neg (by omega)])
  clear HE2
  refine wp_region_later (by kernel_rfl) (by kernel_rfl) ?_; (repeat (first | go_big_quiet_step (((go_at_call 89; exact Calls.later _ (HDP.out _ (below_more HB.out (Later.below _)))))) | quiet_step (((go_at_call 89; exact Calls.later _ (HDP.out _ (below_more HB.out (Later.below _)))))))); refine wpQuiet_nil ?_; rintro _ ⟨s, rfl⟩
  have HB5 := Lib.hid (below_more HB.out s.below)
  have HY0 := Lib.hid (blk_keep s.below HX0.out)
  have HY1 := Lib.hid (blk_keep s.below HX1.out)
  generalize s.w = W5 at HB5 HY0 HY1 ⊢
  clear x1 HX0 HX1 hWs hW0 HDP hd3 hd4 hd1 hd2
  have x0 := cell_of_blk HY1.out 0
  have x1 := cell_of_blk HY1.out 1
  have x2 := cell_of_blk HY1.out 2
  have x3 := cell_of_blk HY1.out 3
  have x4 := cell_of_blk HY1.out 4
  have x5 := cell_of_blk HY1.out 5
  have x6 := cell_of_blk HY1.out 6
  have x7 := cell_of_blk HY1.out 7
  simp at x0 x1 x2 x3 x4 x5 x6 x7
  by_cases h5 : kind = 1
  · have HF := Lib.hid (show R = glyphErr l ⟨kind, depth, sign, turn, mirror, state, mn, mx⟩ by rw [HE3.out, if_pos h5])
    have hb5 : (kind == 1) = true := by simpa using h5
    have z0 := cell_of_blk HY0.out 0
    have z1 := cell_of_blk HY0.out 1
    simp at z0 z1
    clear h5 HE3
    go_wp2_with fail
    refine (HGL.out W5 HB5.out).mono ?_; rintro e w6 ⟨rfl, hb6⟩
    go_wp2
    go_ret
    exact ⟨of_int HF.out.symm, below_more HB5.out hb6⟩
  have hb5 : (kind == 1) = false := by simpa using h5
  by_cases h6 : kind = 6
  · have HF := Lib.hid (show R = gapErr ⟨kind, depth, sign, turn, mirror, state, mn, mx⟩ by rw [HE3.out, if_neg h5, if_pos h6])
    have hb6 : (kind == 6) = true := by simpa using h6
    have HG := Lib.hid (HGP.out W5 h6)
    clear h5 h6 HE3
    go_wp2_with fail
    refine HG.out.mono ?_; rintro e w6 ⟨rfl, hb7⟩
    go_wp2
    go_ret
    exact ⟨of_int HF.out.symm, below_more HB5.out hb7⟩
  have hb6 : (kind == 6) = false := by simpa using h6
  have HF := Lib.hid (show ∀ (a b : Int) (c : Bool) (d e f : Int), plainErr ⟨kind, depth, a, b, c, d, e, f⟩ = if a = 0 ∧ b = 0 ∧ c = false ∧ d = 0 ∧ e = 0 ∧ f = 0 then 0 else 20 from fun _ _ _ _ _ _ => rfl)
  have HF2 := Lib.hid (show R = plainErr ⟨kind, depth, sign, turn, mirror, state, mn, mx⟩ by rw [HE3.out, if_neg h5, if_neg h6])
  clear h5 h6 HE3
  go_wp2
  all_goals go_ret
  all_goals exact ⟨of_int (by rw [HF2.out, HF.out]; simp [*]), HB5.out⟩

end Go.Proofs.Ytbfedahonfjpfaa
