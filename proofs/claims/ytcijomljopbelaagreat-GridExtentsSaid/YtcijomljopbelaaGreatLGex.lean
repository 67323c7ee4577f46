/-
  Contract of the law of Extent: it returns true.
-/
import Derived.Test.YtcijomljopbelaaGreatWk4
import Derived.Test.YtcijomljopbelaaGreatGaN
import Derived.Test.YtcijomljopbelaaGreatExt
import Derived.Test.YtcijomljopbelaaGreatRxt
namespace Go.Proofs.YtcijomljopbelaaGreat
open Go.RowKit

theorem eqFr_self (n d : Int) (w : World) : (binOp .eql 40 (.agg #[.int .i64 n, .int .i64 d]) (.agg #[.int .i64 n, .int .i64 d])).run Tryz.prog w = .ok (.bool true) w := by
  rw [eqFr]; simp

set_option maxRecDepth 100000 in
set_option maxHeartbeats 32000000 in
theorem law_gextents (A : Option Addr) (cap : Nat) (bs : List Bx) (w : World) (hb : BxsAt w A bs) (hc1 : bs.length ≤ cap) (hc : cap ≤ maxLen) :
    Calls Tryz.prog 8 #[.slice A bs.length cap] w fun e w' => e = .returned (.bool true) ∧ Below w.heap.size w w' := by
  have HWK := Lib.hid works4_any
  by_cases h210 : 210 < bs.length
  · obtain ⟨N, hN⟩ : ∃ N, N = bs.length := ⟨_, rfl⟩
    rw [← hN] at hc1 h210 ⊢
    have hd : decide ((210 : Int) < (N : Int)) = true := decide_eq_true (by omega)
    unfold maxLen at hc
    clear hb hN
    go_enter Tryz.func8, Tryz.ntmps8
    go_wp2_with fail
    refine (HWK.out _).mono ?_; rintro e w4 ⟨rfl, hb4⟩
    go_wp2_with fail
    go_ret
    exact ⟨rfl, hb4⟩
  have hsm : bs.length ≤ 1000000 := by omega
  have HCP := Lib.hid (fun wx (hbx : Below w.heap.size w wx) => copied_any A cap bs wx (hb.below hbx) hc1 hc hsm)
  obtain ⟨⟨⟨⟨a1, a2⟩, ⟨b1, b2⟩, ⟨c1, c2⟩, ⟨d1, d2⟩⟩, E⟩, hR⟩ : ∃ r, r = extR bs := ⟨_, rfl⟩
  have HE := Lib.hid (fun (Ac : Option Addr) (cc : Nat) wx (hbx : BxsAt wx Ac bs) (h1 : bs.length ≤ cc) (h2 : cc ≤ maxLen) => show Calls Tryz.prog 37 #[.slice Ac bs.length cc] wx (fun e w' => e = .returned (.tuple #[.agg #[.int .i64 a1, .int .i64 a2], .agg #[.int .i64 b1, .int .i64 b2], .agg #[.int .i64 c1, .int .i64 c2], .agg #[.int .i64 d1, .int .i64 d2], .int .i64 E]) ∧ Below wx.heap.size wx w') by
    have := ext_any Ac cc bs wx hbx h1 h2; rw [← hR] at this; exact this)
  have HRE := Lib.hid (fun wx (hbx : Below w.heap.size w wx) => show Calls Tryz.prog 38 #[.slice A bs.length cap] wx (fun e w' => e = .returned (.tuple #[.agg #[.int .i64 a1, .int .i64 a2, .int .i64 b1, .int .i64 b2, .int .i64 c1, .int .i64 c2, .int .i64 d1, .int .i64 d2], .int .i64 E]) ∧ Below wx.heap.size wx w') by
    have := rext_any A cap bs wx (hb.below hbx) hc1 hc; rw [← hR] at this; exact this)
  obtain ⟨N, hN⟩ : ∃ N, N = bs.length := ⟨_, rfl⟩
  rw [← hN] at HCP HE HRE hc1 hsm h210 ⊢
  have HOB := Lib.hid (fun (wx : World) (base : Nat) (Ac : Option Addr) (cc : Nat) (h : wx.ownsRow base 82 15 (.slice Ac N cc) N (bs.flatMap Bx.cells)) => show BxsAt wx Ac bs ∧ N ≤ cc ∧ cc ≤ maxLen from by
    obtain ⟨A2, c2, hv, h3, h4, -, -⟩ := own_slice h
    injection hv with e1 e2 e3
    subst e1 e3
    exact ⟨own_boxes h, h3, h4⟩)
  have hd : decide ((210 : Int) < (N : Int)) = false := decide_eq_false (by omega)
  have hee : (E == E) = true := by simp
  have he1 := fun wx => eqFr_self a1 a2 wx
  have he2 := fun wx => eqFr_self b1 b2 wx
  have he3 := fun wx => eqFr_self c1 c2 wx
  have he4 := fun wx => eqFr_self d1 d2 wx
  unfold maxLen at hc
  clear hb hR hN h210 hsm
  go_enter Tryz.func8, Tryz.ntmps8
  go_wp2_with fail
  refine (HCP.out _ (Below.refl _ _)).mono ?_; rintro e w1 ⟨Ac, cc, rfl, own, hb1⟩
  have HC1 := Lib.hid (HOB.out _ _ _ _ own)
  have HB := Lib.hid hb1
  clear own hb1
  go_wp2_with fail
  refine (HE.out _ _ _ HC1.out.1 HC1.out.2.1 HC1.out.2.2).mono ?_; rintro e w2 ⟨rfl, hb2⟩
  have HB := Lib.hid (below_more HB.out hb2)
  clear hb2 HC1
  obtain ⟨X1, hX1⟩ : ∃ W', W' = w2.alloc (.cells #[.int .i64 a1, .int .i64 a2] 40) := ⟨_, rfl⟩; obtain ⟨X2, hX2⟩ : ∃ W', W' = X1.alloc (.cells #[.int .i64 b1, .int .i64 b2] 40) := ⟨_, rfl⟩; obtain ⟨X3, hX3⟩ : ∃ W', W' = X2.alloc (.cells #[.int .i64 c1, .int .i64 c2] 40) := ⟨_, rfl⟩; obtain ⟨X, hX⟩ : ∃ W', W' = X3.alloc (.cells #[.int .i64 d1, .int .i64 d2] 40) := ⟨_, rfl⟩; have szX1 : X1.heap.size = w2.heap.size + 1 := (by rw [hX1]; simp); have kbX1 : Below w2.heap.size w2 X1 := hX1 ▸ below_alloc _ _; have szX2 : X2.heap.size = w2.heap.size + 1 + 1 := (by rw [hX2]; simp [szX1]); have kbX2 : Below X1.heap.size X1 X2 := hX2 ▸ below_alloc _ _; have szX3 : X3.heap.size = w2.heap.size + 1 + 1 + 1 := (by rw [hX3]; simp [szX2]); have kbX3 : Below X2.heap.size X2 X3 := hX3 ▸ below_alloc _ _; have szX : X.heap.size = w2.heap.size + 1 + 1 + 1 + 1 := (by rw [hX]; simp [szX3]); have kbX : Below X3.heap.size X3 X := hX ▸ below_alloc _ _; have HX := Lib.hid (below_more (below_more (below_more kbX1 kbX2) kbX3) kbX); have D0 := Lib.hid (blk_keep kbX (blk_keep kbX3 (blk_keep kbX2 (show X1.heap[w2.heap.size]? = some (.cells #[.int .i64 a1, .int .i64 a2] 40 (0, 0)) by rw [hX1]; exact heap_alloc_new _ _)))); have D1 := Lib.hid (blk_keep kbX (blk_keep kbX3 (show X2.heap[w2.heap.size + 1]? = some (.cells #[.int .i64 b1, .int .i64 b2] 40 (0, 0)) by rw [hX2, ← szX1]; exact heap_alloc_new _ _))); have D2 := Lib.hid (blk_keep kbX (show X3.heap[w2.heap.size + 1 + 1]? = some (.cells #[.int .i64 c1, .int .i64 c2] 40 (0, 0)) by rw [hX3, ← szX2]; exact heap_alloc_new _ _)); have D3 := Lib.hid (show X.heap[w2.heap.size + 1 + 1 + 1]? = some (.cells #[.int .i64 d1, .int .i64 d2] 40 (0, 0)) by rw [hX, ← szX3]; exact heap_alloc_new _ _); have SZX := Lib.hid szX; clear szX1 kbX1 szX2 kbX2 szX3 kbX3 szX kbX
  go_wp2_with fail
  rw [← hX1, ← hX2, ← hX3, ← hX]; clear hX1 hX2 hX3 hX
  have HB := Lib.hid (below_more HB.out HX.out)
  refine (HRE.out _ HB.out).mono ?_; rintro e w3 ⟨rfl, hb3⟩
  have HB := Lib.hid (below_more HB.out hb3)
  have D0 := Lib.hid (blk_keep hb3 D0.out)
  have D1 := Lib.hid (blk_keep hb3 D1.out)
  have D2 := Lib.hid (blk_keep hb3 D2.out)
  have D3 := Lib.hid (blk_keep hb3 D3.out)
  clear hb3 HX SZX
  have p0 := cell_of_blk D0.out 0; have p1 := cell_of_blk D0.out 1; have hz_p := (Array.getElem?_eq_some_iff.1 D0.out).1; simp at p0 p1
  have q0 := cell_of_blk D1.out 0; have q1 := cell_of_blk D1.out 1; have hz_q := (Array.getElem?_eq_some_iff.1 D1.out).1; simp at q0 q1
  have r0 := cell_of_blk D2.out 0; have r1 := cell_of_blk D2.out 1; have hz_r := (Array.getElem?_eq_some_iff.1 D2.out).1; simp at r0 r1
  have s0 := cell_of_blk D3.out 0; have s1 := cell_of_blk D3.out 1; have hz_s := (Array.getElem?_eq_some_iff.1 D3.out).1; simp at s0 s1
  go_wp2_with fail
  refine (HWK.out _).mono ?_; rintro e w9 ⟨rfl, hb9⟩
  have HBF := Lib.hid (below_more HB.out (below_of hb9))
  clear hb9
  go_wp2_with fail
  go_ret
  exact ⟨rfl, HBF.out⟩

end Go.Proofs.YtcijomljopbelaaGreat
