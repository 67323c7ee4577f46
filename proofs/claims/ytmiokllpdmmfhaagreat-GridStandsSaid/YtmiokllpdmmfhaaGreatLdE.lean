/-
  The laws' look at an example (layer 4), out of the program's Lay: it returns true.
-/
import Derived.Test.YtmiokllpdmmfhaaGreatLcJ
import Derived.Test.YtmiokllpdmmfhaaGreatLdA
namespace Go.Proofs.YtmiokllpdmmfhaaGreat
open Go.RowKit
theorem ey_lay : layQ eyLi 1 4800 eyNs = (lay1 eyS, 0) := by kernel_rfl
set_option maxRecDepth 100000 in
set_option maxHeartbeats 8000000 in
theorem works4b_any (w : World) : Calls Tryz.prog 14 #[] w fun e w' => e = .returned (.bool true) ∧ Below w.heap.size w w' := by
  obtain ⟨W1, hW1⟩ : ∃ W, W = w.alloc (.cells #[.string ⟨#[65, 49]⟩, .int .i64 12, .int .i64 12, .bool false, .slice none 0 0, .string ⟨#[66, 50]⟩, .int .i64 6, .int .i64 3, .bool false, .slice none 0 0] 95) := ⟨_, rfl⟩
  obtain ⟨W2, hW2⟩ : ∃ W, W = W1.alloc (.cells #[.int .i64 1, .slice (some ⟨w.heap.size, 0, none⟩) 2 2] 24) := ⟨_, rfl⟩
  obtain ⟨W3, hW3⟩ : ∃ W, W = W2.alloc (.cells #[.int .i64 2, .int .i64 0, .int .i64 0, .int .i64 0, .bool false, .int .i64 0, .int .i64 0, .int .i64 0, .int .i64 1, .int .i64 1, .int .i64 0, .int .i64 0, .bool false, .int .i64 0, .int .i64 0, .int .i64 0, .int .i64 1, .int .i64 1, .int .i64 1, .int .i64 0, .bool false, .int .i64 0, .int .i64 0, .int .i64 0] 87) := ⟨_, rfl⟩
  obtain ⟨W4, hW4⟩ : ∃ W, W = W3.alloc (.cells #[.slice (some ⟨w.heap.size + 1 + 1, 0, none⟩) 3 3] 27) := ⟨_, rfl⟩
  have s1 : W1.heap.size = w.heap.size + 1 := by rw [hW1]; simp
  have s2 : W2.heap.size = w.heap.size + 1 + 1 := by rw [hW2]; simp [s1]
  have s3 : W3.heap.size = w.heap.size + 1 + 1 + 1 := by rw [hW3]; simp [s2]
  have hb1 : Below w.heap.size w W1 := by rw [hW1]; exact below_alloc _ _
  have hb2 : Below W1.heap.size W1 W2 := by rw [hW2]; exact below_alloc _ _
  have hb3 : Below W2.heap.size W2 W3 := by rw [hW3]; exact below_alloc _ _
  have hb4 : Below W3.heap.size W3 W4 := by rw [hW4]; exact below_alloc _ _
  have HB := Lib.hid (show Below w.heap.size w W4 from below_more (below_more (below_more hb1 hb2) hb3) hb4)
  have x1 : W4.heap[w.heap.size]? = some (.cells #[.string ⟨#[65, 49]⟩, .int .i64 12, .int .i64 12, .bool false, .slice none 0 0, .string ⟨#[66, 50]⟩, .int .i64 6, .int .i64 3, .bool false, .slice none 0 0] 95 (0, 0)) := by
    refine blk_keep (below_more (below_more hb2 hb3) hb4) ?_
    rw [hW1]; exact heap_alloc_new _ _
  have D1 := Lib.hid (show W4.heap[w.heap.size + 1]? = some (.cells #[.int .i64 1, .slice (some ⟨w.heap.size, 0, none⟩) 2 2] 24 (0, 0)) by
    refine blk_keep (below_more hb3 hb4) ?_
    rw [hW2, ← s1]; exact heap_alloc_new _ _)
  have x3 : W4.heap[w.heap.size + 1 + 1]? = some (.cells #[.int .i64 2, .int .i64 0, .int .i64 0, .int .i64 0, .bool false, .int .i64 0, .int .i64 0, .int .i64 0, .int .i64 1, .int .i64 1, .int .i64 0, .int .i64 0, .bool false, .int .i64 0, .int .i64 0, .int .i64 0, .int .i64 1, .int .i64 1, .int .i64 1, .int .i64 0, .bool false, .int .i64 0, .int .i64 0, .int .i64 0] 87 (0, 0)) := by
    refine blk_keep hb4 ?_
    rw [hW3, ← s2]; exact heap_alloc_new _ _
  have D3 := Lib.hid (show W4.heap[w.heap.size + 1 + 1 + 1]? = some (.cells #[.slice (some ⟨w.heap.size + 1 + 1, 0, none⟩) 3 3] 27 (0, 0)) by rw [hW4, ← s3]; exact heap_alloc_new _ _)
  have l1 := (Array.getElem?_eq_some_iff.1 x1).1
  have l3 := (Array.getElem?_eq_some_iff.1 x3).1
  have hcell1 : ∀ q, W4.cell? ⟨w.heap.size, q, none⟩ = _ := fun q => cell_of_blk x1 q
  have hcell3 : ∀ q, W4.cell? ⟨w.heap.size + 1 + 1, q, none⟩ = _ := fun q => cell_of_blk x3 q
  have HL := Lib.hid (show LmOk W4 ⟨1, [⟨⟨ey1, 12, 12, false, []⟩, none, 0⟩, ⟨⟨ey2, 6, 3, false, []⟩, none, 0⟩], some ⟨w.heap.size, 0, none⟩, 2⟩ from
    ⟨fun k m hk => by
      match k, hk with
      | 0, hk => injection hk with hk; subst hk; exact ⟨w.heap.size, 0, rfl, l1, ⟨hcell1 _, hcell1 _, hcell1 _, hcell1 _, hcell1 _⟩, ⟨ValsAt.nil _, Nat.le_refl _, Nat.zero_le _, by unfold maxLen; decide⟩⟩
      | 1, hk => injection hk with hk; subst hk; exact ⟨w.heap.size, 0, rfl, l1, ⟨hcell1 _, hcell1 _, hcell1 _, hcell1 _, hcell1 _⟩, ⟨ValsAt.nil _, Nat.le_refl _, Nat.zero_le _, by unfold maxLen; decide⟩⟩
      | k + 2, hk => simp at hk, Nat.le_refl _, show 2 ≤ maxLen by unfold maxLen; decide⟩)
  have HN := Lib.hid (show NdsAt W4 (some ⟨w.heap.size + 1 + 1, 0, none⟩) eyNs from fun k n hk => by
      match k, hk with
      | 0, hk => injection hk with hk; subst hk; exact ⟨_, 0, rfl, l3, ⟨hcell3 _, hcell3 _, hcell3 _, hcell3 _, hcell3 _, hcell3 _, hcell3 _, hcell3 _⟩⟩
      | 1, hk => injection hk with hk; subst hk; exact ⟨_, 0, rfl, l3, ⟨hcell3 _, hcell3 _, hcell3 _, hcell3 _, hcell3 _, hcell3 _, hcell3 _, hcell3 _⟩⟩
      | 2, hk => injection hk with hk; subst hk; exact ⟨_, 0, rfl, l3, ⟨hcell3 _, hcell3 _, hcell3 _, hcell3 _, hcell3 _, hcell3 _, hcell3 _, hcell3 _⟩⟩
      | k + 3, hk => simp [eyNs] at hk)
  have HLA := Lib.hid (fun wx (hb : Below W4.heap.size W4 wx) => show Calls Tryz.prog 26 #[.agg #[.int .i64 1, .slice (some ⟨w.heap.size, 0, none⟩) 2 2], .agg #[.slice (some ⟨w.heap.size + 1 + 1, 0, none⟩) 3 3], .agg #[.int .i64 1, .int .i64 4800]] wx (GotLay (lay1 eyS) wx) from
    by
      have := glay_any ⟨1, [⟨⟨ey1, 12, 12, false, []⟩, none, 0⟩, ⟨⟨ey2, 6, 3, false, []⟩, none, 0⟩], some ⟨w.heap.size, 0, none⟩, 2⟩ (some ⟨w.heap.size + 1 + 1, 0, none⟩) 3 eyNs 1 4800 wx (HL.out.below hb) (HN.out.below hb) (by decide) (by unfold maxLen; decide)
      rw [show layQ (Lm.li ⟨1, [⟨⟨ey1, 12, 12, false, []⟩, none, 0⟩, ⟨⟨ey2, 6, 3, false, []⟩, none, 0⟩], some ⟨w.heap.size, 0, none⟩, 2⟩) 1 4800 eyNs = (lay1 eyS, 0) from ey_lay] at this
      exact this)
  have HPG := Lib.hid page_any
  have HLEN := Lib.hid (show (lay1 eyS).length = 2 by kernel_rfl)
  have HC0 := Lib.hid (show ((lay1 eyS).flatMap Bx.cells)[22]? = some (.int .i64 816) ∧ ((lay1 eyS).flatMap Bx.cells)[23]? = some (.int .i64 23) ∧ ((lay1 eyS).flatMap Bx.cells)[24]? = some (.int .i64 480) ∧ ((lay1 eyS).flatMap Bx.cells)[25]? = some (.int .i64 23) from ⟨by kernel_rfl, by kernel_rfl, by kernel_rfl, by kernel_rfl⟩)
  clear x1 x3 l1 l3 s1 s2 s3 hb1 hb2 hb3 hb4 hcell1 hcell3
  have HKS := Lib.hid (fun wx (hb : Below W4.heap.size W4 wx) => show wx.cell? ⟨w.heap.size + 1, 0, none⟩ = some (.int .i64 1) ∧ wx.cell? ⟨w.heap.size + 1, 1, none⟩ = some (.slice (some ⟨w.heap.size, 0, none⟩) 2 2) ∧ wx.cell? ⟨w.heap.size + 1 + 1 + 1, 0, none⟩ = some (.slice (some ⟨w.heap.size + 1 + 1, 0, none⟩) 3 3) from
    ⟨cell_of_blk (blk_keep hb D1.out) 0, cell_of_blk (blk_keep hb D1.out) 1, cell_of_blk (blk_keep hb D3.out) 0⟩)
  have HDR := Lib.hid (show Below W4.heap.size W4 W4.drew from (Below.refl _ _).drew)
  have e1 := fun wx => eqFr 816 23 816 23 wx
  have e2 := fun wx => eqFr 480 23 480 23 wx
  go_enter Tryz.func14, Tryz.ntmps14
  go_wp2_with fail
  rw [← hW1, ← hW2, ← hW3, ← hW4]
  clear hW1 hW2 hW3 hW4
  go_region_held3 (fun wx => wx.cell? ⟨w.heap.size + 1, 0, none⟩ = some (.int .i64 1) ∧ wx.cell? ⟨w.heap.size + 1, 1, none⟩ = some (.slice (some ⟨w.heap.size, 0, none⟩) 2 2) ∧ wx.cell? ⟨w.heap.size + 1 + 1 + 1, 0, none⟩ = some (.slice (some ⟨w.heap.size + 1 + 1, 0, none⟩) 3 3))
    ((refine HKS.out _ ?_; first | exact HDR.out | assumption))
    (first
      | (go_at_call 50; refine (HPG.out _).mono ?_; rintro e y1 ⟨rfl, hy1⟩; have ky1 := below_more HDR.out hy1)
      | (go_at_call 26; refine (HLA.out _ ky1).mono ?_; rintro e y2 ⟨A, c, rfl, hown, hy2⟩; have ky2 := below_more ky1 hy2)
      | fail)
  have HB5 := Lib.hid (below_more HB.out ky2)
  have hown2 := hown.out
  obtain ⟨A2, c2, hv, -, -, h3, h4⟩ := own_slice hown2
  injection hv with e1' e2' e3'
  subst e1' e3'
  rw [HLEN.out] at h4 ⊢
  cases A with
  | none => have := h4 rfl; simp at this
  | some ad =>
    obtain ⟨g, rfl, -, hg, hc⟩ := h3 ad rfl
    have z0 := hc 22 _ HC0.out.1
    have z1 := hc 23 _ HC0.out.2.1
    have z2 := hc 24 _ HC0.out.2.2.1
    have z3 := hc 25 _ HC0.out.2.2.2
    clear hown hown2 hy1 hy2 ky1 ky2 h3 h4 hc HKS HDR HLA
    go_wp2_with fail
    go_ret
    exact ⟨rfl, HB5.out⟩
end Go.Proofs.YtmiokllpdmmfhaaGreat
