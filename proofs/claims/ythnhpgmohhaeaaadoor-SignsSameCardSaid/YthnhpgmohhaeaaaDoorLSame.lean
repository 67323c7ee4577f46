/-
  Contract of the law of Same: it returns true.
-/
import Derived.Test.YthnhpgmohhaeaaaDoorSameR
import Derived.Test.YthnhpgmohhaeaaaDoorLBear
namespace Go.Proofs.YthnhpgmohhaeaaaDoor
open Go.RowKit

theorem big_bds {L M : Lm} (h : bigB L.signs = false) (hli : M.li = L.li) : M.ms.length ≤ 1000000 ∧ ∀ m ∈ M.ms, m.s.vals.length ≤ 1000000 := by
  have h2 : bigB M.signs = false := by rw [show M.signs = L.signs from congrArg (fun l : Li => l.signs) hli]; exact h
  have := not_big h2
  exact ⟨by omega, fun m hm => by have := (this.2 m hm).1; omega⟩

set_option maxHeartbeats 3200000 in
set_option maxRecDepth 100000 in
theorem law_same (L M : Lm) (w : World) (hE : Env w) (hl : LmOk w L) (hm : LmOk w M) :
    Calls Tryd.prog 10 #[L.val, M.val] w fun e w' => e = .returned (.bool true) ∧ Below w.heap.size w w' := by
  obtain ⟨W, hW⟩ : ∃ W, W = ((w.alloc (.cells #[.int .i64 L.per, .slice L.A L.ms.length L.cap] 24)).alloc (.cells #[.int .i64 M.per, .slice M.A M.ms.length M.cap] 24)) := ⟨_, rfl⟩
  have HB := Lib.hid (show Below w.heap.size w W from hW ▸ ((Below.refl _ _).alloc (Nat.le_refl _) _).alloc (by simp) _)
  have C1 := Lib.hid (show W.heap[w.heap.size]? = some (.cells #[.int .i64 L.per, .slice L.A L.ms.length L.cap] 24 (0, 0)) by
    rw [hW, heap_alloc_other _ _ _ (by simp)]; exact heap_alloc_new _ _)
  have C2 := Lib.hid (show W.heap[w.heap.size + 1]? = some (.cells #[.int .i64 M.per, .slice M.A M.ms.length M.cap] 24 (0, 0)) by
    rw [hW]; have := heap_alloc_new (w.alloc (.cells #[.int .i64 L.per, .slice L.A L.ms.length L.cap] 24)) (.cells #[.int .i64 M.per, .slice M.A M.ms.length M.cap] 24); simpa using this)
  have HL := Lib.hid (hl.below HB.out)
  have HM := Lib.hid (hm.below HB.out)
  have HE := Lib.hid (hE.below HB.out)
  clear hl hm hE
  obtain ⟨B, hB⟩ : ∃ B, bigB L.signs = B := ⟨_, rfl⟩
  obtain ⟨B', hB'⟩ : ∃ B, bigB M.signs = B := ⟨_, rfl⟩
  have HBB := Lib.hid hB
  have HBB' := Lib.hid hB'
  clear hB hB'
  show Calls _ _ #[.agg #[.int .i64 L.per, .slice L.A L.ms.length L.cap], .agg #[.int .i64 M.per, .slice M.A M.ms.length M.cap]] w _
  have HBG := Lib.hid (fun r (h : bigB L.signs = r) => show Calls Tryd.prog 12 #[.agg #[.int .i64 L.per, .slice L.A L.ms.length L.cap]] W _ from big_is L W HL.out r h)
  have HBM := Lib.hid (fun w1 r (hb : Below W.heap.size W w1) (h : bigB M.signs = r) => show Calls Tryd.prog 12 #[.agg #[.int .i64 M.per, .slice M.A M.ms.length M.cap]] w1 _ from big_is M w1 (HM.out.below hb) r h)
  have HWK := Lib.hid (fun w1 (hb : Below W.heap.size W w1) => works_any w1 (HE.out.below hb))
  go_enter Tryd.func10, Tryd.ntmps10
  go_wp2_with fail
  rw [← hW]
  refine (HBG.out _ HBB.out).mono ?_; rintro e w1 ⟨rfl, hb1⟩
  have b1 := Lib.hid hb1
  have x0 := cell_of_blk (blk_keep hb1 C2.out) 0
  have x1 := cell_of_blk (blk_keep hb1 C2.out) 1
  simp at x0 x1
  clear hb1 HBG hW
  cases B with
  | true =>
    go_wp2_with fail
    refine (HWK.out _ b1.out).mono ?_; rintro e w2 ⟨rfl, hb2⟩
    go_wp2
    go_ret
    exact ⟨rfl, (HB.out.trans (b1.out.mono HB.out.size)).trans (hb2.mono (by have := HB.out.size; have := b1.out.size; omega))⟩
  | false =>
  go_wp2_with fail
  refine (HBM.out _ _ b1.out HBB'.out).mono ?_; rintro e w2 ⟨rfl, hb2⟩
  have b2 := Lib.hid (below_more b1.out hb2)
  clear hb2 HBM x0 x1
  cases B' with
  | true =>
    go_wp2_with fail
    refine (HWK.out _ b2.out).mono ?_; rintro e w3 ⟨rfl, hb3⟩
    go_wp2
    go_ret
    exact ⟨rfl, (HB.out.trans (b2.out.mono HB.out.size)).trans (hb3.mono (by have := HB.out.size; have := b2.out.size; omega))⟩
  | false =>
  have D1 := Lib.hid (blk_keep b2.out C1.out)
  have D2 := Lib.hid (blk_keep b2.out C2.out)
  have L1 := Lib.hid (HL.out.below b2.out)
  have M1 := Lib.hid (HM.out.below b2.out)
  have BL := Lib.hid (big_bds (L := L) (M := L) HBB.out rfl)
  have BM := Lib.hid (big_bds (L := M) (M := M) HBB'.out rfl)
  have BLN := Lib.hid (fun (N : Lm) (h : N.li = L.li) => big_bds (L := L) (M := N) HBB.out h)
  have BMN := Lib.hid (fun (N : Lm) (h : N.li = M.li) => big_bds (L := M) (M := N) HBB'.out h)
  have HK := Lib.hid (fun w' (hb : Below w2.heap.size w2 w') => show w'.cell? ⟨w.heap.size, 0, none⟩ = some (.int .i64 L.per) ∧ w'.cell? ⟨w.heap.size, 1, none⟩ = some (.slice L.A L.ms.length L.cap) ∧ w'.cell? ⟨w.heap.size + 1, 0, none⟩ = some (.int .i64 M.per) ∧ w'.cell? ⟨w.heap.size + 1, 1, none⟩ = some (.slice M.A M.ms.length M.cap) ∧ Below w2.heap.size w2 w' from
    ⟨cell_of_blk (blk_keep hb D1.out) 0, cell_of_blk (blk_keep hb D1.out) 1, cell_of_blk (blk_keep hb D2.out) 0, cell_of_blk (blk_keep hb D2.out) 1, hb⟩)
  have HDR := Lib.hid (show Below w2.heap.size w2 w2.drew from (Below.refl _ _).drew)
  have HSB := Lib.hid (fun wx (h : wx.cell? ⟨w.heap.size, 0, none⟩ = some (.int .i64 L.per) ∧ wx.cell? ⟨w.heap.size, 1, none⟩ = some (.slice L.A L.ms.length L.cap) ∧ wx.cell? ⟨w.heap.size + 1, 0, none⟩ = some (.int .i64 M.per) ∧ wx.cell? ⟨w.heap.size + 1, 1, none⟩ = some (.slice M.A M.ms.length M.cap) ∧ Below w2.heap.size w2 wx) => h.2.2.2.2)
  have HCL := Lib.hid (fun wx (hb : Below w2.heap.size w2 wx) => show Calls Tryd.prog 14 #[.agg #[.int .i64 L.per, .slice L.A L.ms.length L.cap]] wx (GotList wx L.li) from copy_any L wx (L1.out.below hb) BL.out.1 BL.out.2)
  have HCM := Lib.hid (fun wx (hb : Below w2.heap.size w2 wx) => show Calls Tryd.prog 14 #[.agg #[.int .i64 M.per, .slice M.A M.ms.length M.cap]] wx (GotList wx M.li) from copy_any M wx (M1.out.below hb) BM.out.1 BM.out.2)
  have HS1 := Lib.hid (fun wx (P Q : Lm) (X Y : Li) (h : LmOk wx P) (h2 : LmOk wx Q) (e1 : P.li = X) (e2 : Q.li = Y) (o1 : X = L.li ∨ X = M.li) (o2 : Y = L.li ∨ Y = M.li) => show Calls Tryd.prog 36 #[P.val, Q.val] wx (fun e w' => e = .returned (.bool (liEq X Y)) ∧ Below wx.heap.size wx w') by
    have p1 : P.ms.length ≤ 1000000 ∧ ∀ m ∈ P.ms, m.s.vals.length ≤ 1000000 := by
      rcases o1 with h | h
      · exact BLN.out P (e1.trans h)
      · exact BMN.out P (e1.trans h)
    have p2 : Q.ms.length ≤ 1000000 ∧ ∀ m ∈ Q.ms, m.s.vals.length ≤ 1000000 := by
      rcases o2 with h | h
      · exact BLN.out Q (e2.trans h)
      · exact BMN.out Q (e2.trans h)
    rw [← e1, ← e2]; exact same_any P Q wx h h2 p1.1 p2.1 p1.2 p2.2)
  have HRS := Lib.hid (fun wx (hb : Below w2.heap.size w2 wx) => show Calls Tryd.prog 19 #[.agg #[.int .i64 L.per, .slice L.A L.ms.length L.cap], .agg #[.int .i64 M.per, .slice M.A M.ms.length M.cap]] wx (fun e w' => e = .returned (.bool (liEq L.li M.li)) ∧ Below wx.heap.size wx w') from
    rsame_any L M wx (L1.out.below hb) (M1.out.below hb) BM.out.2 BL.out.2 BM.out.1 BL.out.1)
  have HW2 := Lib.hid (fun wx (hb : Below w2.heap.size w2 wx) => HWK.out wx (below_more b2.out hb))
  have hLL := liEq_refl L.li
  clear HWK BL BM BLN BMN
  go_wp2_with fail
  go_region_held3 (fun w' => w'.cell? ⟨w.heap.size, 0, none⟩ = some (.int .i64 L.per) ∧ w'.cell? ⟨w.heap.size, 1, none⟩ = some (.slice L.A L.ms.length L.cap) ∧ w'.cell? ⟨w.heap.size + 1, 0, none⟩ = some (.int .i64 M.per) ∧ w'.cell? ⟨w.heap.size + 1, 1, none⟩ = some (.slice M.A M.ms.length M.cap) ∧ Below w2.heap.size w2 w')
    (first | (refine HK.out _ ?_; first | assumption | exact HDR.out))
    (first
      | (go_at_call 14; ((with_reducible refine (HCL.out _ (HSB.out _ (by assumption))).mono ?_)); rintro e wa ⟨N1, rfl, hok1, hli1, hb1⟩; have hbw1 := below_more (HSB.out _ (by assumption)) hb1)
      | (go_at_call 14; ((with_reducible refine (HCM.out _ (HSB.out _ (by assumption))).mono ?_)); rintro e wb ⟨N2, rfl, hok2, hli2, hb2⟩; have hbw2 := below_more (HSB.out _ (by assumption)) hb2)
      | (go_at_call 36; refine (HS1.out _ _ _ _ _ (LmOk.below (by assumption) (by assumption)) (by assumption) (by assumption) (by assumption) (by first | exact .inl rfl | exact .inr rfl) (by first | exact .inl rfl | exact .inr rfl)).mono ?_; rintro e wc ⟨rfl, hb3⟩; have hbw3 := below_more (HSB.out _ (by assumption)) hb3)
      | (go_at_call 19; refine (HRS.out _ (HSB.out _ (by assumption))).mono ?_; rintro e wd ⟨rfl, hb4⟩; have hbw4 := below_more (HSB.out _ (by assumption)) hb4)
      | (go_at_call 13; refine (HW2.out _ (HSB.out _ (by assumption))).mono ?_; rintro e we ⟨rfl, hb5⟩; have hbw5 := below_more (HSB.out _ (by assumption)) hb5))
  have B5 := Lib.hid hbw5
  clear hbw1 hbw2 hbw3 hbw4 hbw5 hb1 hb2 hb3 hb4 hb5
  go_wp2
  go_ret
  exact ⟨rfl, HB.out.trans ((b2.out.trans (B5.out.mono b2.out.size)).mono HB.out.size)⟩

end Go.Proofs.YthnhpgmohhaeaaaDoor
