/-
  The shape of a row or a column (shape), by the program, if it makes the shapes of its kids.
-/
import Derived.Test.YtcijomljopbelaaGreatGaJ
import Derived.Test.YtcijomljopbelaaGreatTail
namespace Go.Proofs.YtcijomljopbelaaGreat
open Go.RowKit

theorem ret_v {a b : Value} (h : a = b) : Ending.returned a = .returned b := by rw [h]

set_option maxRecDepth 100000 in
set_option maxHeartbeats 8000000 in
theorem shapeRow_any (L : Lm) (cw mw : Bool) (a1 a2 b1 b2 pw qw : Nat) (sp : Int) (ks : List Shp) (hS : ShapesOk L cw mw a1 a2 b1 b2 pw qw ks) : ShapeOk L cw mw a1 a2 b1 b2 pw qw (.row sp ks) := by
  intro u bl w A c hof hl hn hc1 hc
  obtain ⟨hk, hd, hsp, hks⟩ := hof
  have HS := Lib.hid (fun wx (hb : Below w.heap.size w wx) => hS bl wx A c hks (hl.below hb) (hn.below hb) hc1 hc)
  obtain ⟨uk, ud, us, ut, um, ust, umn, umx⟩ := u
  dsimp only at hk hd hsp
  subst hk
  have HD := Lib.hid (fun wx => spaceOf_any ud wx hd)
  rw [← hsp] at HD
  unfold Nd.val
  dsimp only
  obtain ⟨m, hm⟩ : ∃ m, m = bl.length := ⟨_, rfl⟩
  rw [← hm] at HS ⊢
  clear hS hl hn hc1 hc hks hd hsp hm
  obtain ⟨W1, hW1⟩ : ∃ W1, W1 = w.alloc (.cells #[.int .i64 L.per, .slice L.A L.ms.length L.cap, .bool cw, .bool mw, .func (.func a1) #[] #[], .func (.func a2) #[] #[], .func (.func 172) #[] #[.pointer (some ⟨pw, 0, none⟩)], .func (.func b1) #[] #[], .func (.func b2) #[] #[], .func (.func 172) #[] #[.pointer (some ⟨qw, 0, none⟩)]] 104) := ⟨_, rfl⟩
  obtain ⟨W, hW⟩ : ∃ W, W = W1.alloc (.cells #[.int .i64 2, .int .i64 ud, .int .i64 us, .int .i64 ut, .bool um, .int .i64 ust, .int .i64 umn, .int .i64 umx] 87) := ⟨_, rfl⟩
  have s1 : W1.heap.size = w.heap.size + 1 := by rw [hW1]; simp
  have hb1 : Below w.heap.size w W1 := hW1 ▸ below_alloc _ _
  have hb2 : Below W1.heap.size W1 W := hW ▸ below_alloc _ _
  have HB := Lib.hid (below_more hb1 hb2)
  have D0 := Lib.hid (blk_keep hb2 (show W1.heap[w.heap.size]? = some (.cells #[.int .i64 L.per, .slice L.A L.ms.length L.cap, .bool cw, .bool mw, .func (.func a1) #[] #[], .func (.func a2) #[] #[], .func (.func 172) #[] #[.pointer (some ⟨pw, 0, none⟩)], .func (.func b1) #[] #[], .func (.func b2) #[] #[], .func (.func 172) #[] #[.pointer (some ⟨qw, 0, none⟩)]] 104 (0, 0)) by rw [hW1]; exact heap_alloc_new _ _))
  have D1 := Lib.hid (show W.heap[w.heap.size + 1]? = some (.cells #[.int .i64 2, .int .i64 ud, .int .i64 us, .int .i64 ut, .bool um, .int .i64 ust, .int .i64 umn, .int .i64 umx] 87 (0, 0)) by rw [hW, ← s1]; exact heap_alloc_new _ _)
  have q0 := cell_of_blk D0.out 0
  have q1 := cell_of_blk D0.out 1
  have q2 := cell_of_blk D0.out 2
  have q3 := cell_of_blk D0.out 3
  have q4 := cell_of_blk D0.out 4
  have q5 := cell_of_blk D0.out 5
  have q6 := cell_of_blk D0.out 6
  have q7 := cell_of_blk D0.out 7
  have q8 := cell_of_blk D0.out 8
  have q9 := cell_of_blk D0.out 9
  have y0 := cell_of_blk D1.out 0
  have y1 := cell_of_blk D1.out 1
  have hq := (Array.getElem?_eq_some_iff.1 D0.out).1
  have hy := (Array.getElem?_eq_some_iff.1 D1.out).1
  simp at q0 q1 q2 q3 q4 q5 q6 q7 q8 q9 y0 y1
  clear s1 hb1 hb2
  go_enter Tryz.func94, Tryz.ntmps94
  go_wp2_with fail
  rw [← hW1, ← hW]
  clear hW1 hW
  refine wp_region_later_tail 5 (by kernel_rfl) (by kernel_rfl) ?_; simp only [List.take_succ_cons, List.take_zero, List.drop_succ_cons, List.drop_zero]; (repeat (first | go_big_quiet_step ((first | ((go_at_call 141; exact Calls.later_same _ (HD.out _))))) | quiet_step ((first | ((go_at_call 141; exact Calls.later_same _ (HD.out _))))))); refine wpQuiet_nil ?_; rintro _ ⟨s, rfl⟩
  have HBS := Lib.hid (below_more HB.out s.below)
  clear q0 q1 q2 q3 q4 q5 q6 q7 q8 q9 y0 y1 hq hy
  go_wp2_with fail
  refine (HS.out _ HBS.out).mono ?_; rintro e w3 ⟨A3, c3, rfl, h1, h2, h3, hb3⟩
  have HB3 := Lib.hid (below_more HBS.out hb3)
  have H3 := Lib.hid (ShPs.keep (Q := FreshB w w3) (w' := w3) (fun _ _ _ => rfl) (fun b hp => ⟨Nat.le_trans HBS.out.size hp.1, hp.2⟩) A3 0 ks h3)
  clear hb3 h3
  go_wp2_with fail
  go_ret
  exact ⟨_, rfl, ⟨A3, c3, rfl, h1, h2, H3.out⟩, HB3.out⟩

end Go.Proofs.YtcijomljopbelaaGreat
