/-
  Contract of the law of Tidy and Restrict: it returns true.
-/
import Derived.Test.YtleihhkacmgofaaGreatDoorRRes
import Derived.Test.YtleihhkacmgofaaGreatDoorBigA
import Derived.Test.YtleihhkacmgofaaGreatDoorWorks
namespace Go.Proofs.YtleihhkacmgofaaGreatDoor
open Go.RowKit

def smallL (X : Li) : Prop := X.signs.length ≤ 1000000 ∧ ∀ s ∈ X.signs, s.vals.length ≤ 1000000
theorem small_ms {M : Lm} {X : Li} (h : M.li = X) (hs : smallL X) : M.ms.length ≤ 1000000 ∧ ∀ m ∈ M.ms, m.s.vals.length ≤ 1000000 := by
  subst h
  exact ⟨by have := hs.1; rwa [show M.li.signs = M.signs from rfl, Lm.length_signs] at this, fun m hm => hs.2 m.s (List.mem_map.2 ⟨m, hm, rfl⟩)⟩
theorem rsame_true (P Q : Lm) (X : Li) (w : World) (h1 : LmOk w P) (h2 : LmOk w Q) (e1 : P.li = X) (e2 : Q.li = X) (hs : smallL X) : Calls Tryz.prog 13 #[P.val, Q.val] w fun e w' => e = .returned (.bool true) ∧ Below w.heap.size w w' := by
  have a1 := small_ms e1 hs
  have a2 := small_ms e2 hs
  have := rsame_any P Q w h1 h2 a2.2 a1.2 a2.1 a1.1
  rw [e1, e2, liEq_refl] at this
  exact this
theorem runStep_len (out : List Va) (v : Va) : (runStep out v).length ≤ out.length + 1 := by
  rcases snoc_cases out with rfl | ⟨i, l, rfl⟩
  · exact Nat.le_refl _
  · by_cases hj : (meq l v && (l.to + 1 == v.fr)) = true
    · rw [runStep_join _ _ _ hj]; simp
    · rw [runStep_add _ _ _ (by simpa using hj)]; simp
theorem runsR_len (l : List Va) : (runsR l).length ≤ l.length := by
  suffices H : ∀ (l out : List Va), (l.foldl runStep out).length ≤ out.length + l.length by have := H l []; simpa [runsR] using this
  intro l
  induction l with
  | nil => intro out; simp
  | cons v l ih => intro out; have h1 := ih (runStep out v); have h2 := runStep_len out v; simp only [List.foldl_cons, List.length_cons]; omega
theorem tidiedR_len (ss : List (List Va)) (h : ∀ vs ∈ ss, vs.length ≤ 20 ∧ ∀ v ∈ vs, okV v) : (tidiedR ss).length ≤ 180 * ss.length := by
  have h1 := (foldSS_ok ss [] h (fun x h => by cases h)).2
  have h2 := runsR_len (pointsR ss)
  unfold tidiedR
  unfold pointsR at *
  simp at h1
  omega
theorem small_tidy (l : Li) : smallL (tidyL l).1 := by
  unfold tidyL
  split
  · exact ⟨by simp, fun s h => by cases h⟩
  · rename_i h
    have h0 := check_okV l (by simpa using h)
    refine ⟨by simp; omega, fun s hs => ?_⟩
    obtain ⟨s', hs', rfl⟩ := List.mem_map.1 hs
    have h1 := h0.2.2.2 s' hs'
    have h2 := tidiedR_len [s'.vals] (fun vs hvs => by simp at hvs; subst hvs; exact ⟨by omega, h1.2⟩)
    show (tidiedR [s'.vals]).length ≤ _
    simp at h2
    omega
theorem small_restr (l : Li) (p : Int) : smallL (restrL l p).1 := by
  unfold restrL
  split
  · exact ⟨by simp, fun s h => by cases h⟩
  · rename_i h
    split
    · exact ⟨by simp, fun s h => by cases h⟩
    · have h0 := check_okV l (by simpa using h)
      refine ⟨by simp; omega, fun s hs => ?_⟩
      obtain ⟨s', hs', rfl⟩ := List.mem_map.1 hs
      have h1 := (h0.2.2.2 s' hs').1
      have h2 : (usedV s'.vals p).length ≤ s'.vals.length := List.length_filter_le _ _
      show ((usedV s'.vals p).map oneP).length ≤ _
      rw [List.length_map]
      omega

set_option maxHeartbeats 3200000 in
set_option maxRecDepth 100000 in
theorem law_tidies (L : Lm) (p : Int) (w : World) (hE : Env w) (hl : LmOk w L) :
    Calls Tryz.prog 3 #[L.val, .int .i64 p] w fun e w' => e = .returned (.bool true) ∧ Below w.heap.size w w' := by
  obtain ⟨W, hW⟩ : ∃ W, W = (w.alloc (.cells #[.int .i64 L.per, .slice L.A L.ms.length L.cap] 24)) := ⟨_, rfl⟩
  have HB := Lib.hid (show Below w.heap.size w W from hW ▸ below_alloc _ _)
  have C1 := Lib.hid (show W.heap[w.heap.size]? = some (.cells #[.int .i64 L.per, .slice L.A L.ms.length L.cap] 24 (0, 0)) by
    rw [hW]; exact heap_alloc_new _ _)
  have HL := Lib.hid (hl.below HB.out)
  have HE := Lib.hid (hE.below HB.out)
  clear hl hE
  obtain ⟨B, hB⟩ : ∃ B, bigB L.signs = B := ⟨_, rfl⟩
  have HBB := Lib.hid hB
  clear hB
  show Calls _ _ #[.agg #[.int .i64 L.per, .slice L.A L.ms.length L.cap], .int .i64 p] w _
  have HBG := Lib.hid (fun r (h : bigB L.signs = r) => show Calls Tryz.prog 6 #[.agg #[.int .i64 L.per, .slice L.A L.ms.length L.cap]] W _ from big_is L W HL.out r h)
  have HWK := Lib.hid (fun w1 (hb : Below W.heap.size W w1) => works_any w1 (HE.out.below hb))
  go_enter Tryz.func3, Tryz.ntmps3
  go_wp2_with fail
  rw [← hW]
  refine (HBG.out _ HBB.out).mono ?_; rintro e w1 ⟨rfl, hb1⟩
  have B1 := Lib.hid hb1
  have x0 := cell_of_blk (blk_keep hb1 C1.out) 0
  have x1 := cell_of_blk (blk_keep hb1 C1.out) 1
  simp at x0 x1
  clear hb1 HBG hW
  cases B with
  | true =>
    go_wp2_with fail
    refine (HWK.out _ B1.out).mono ?_; rintro e w2 ⟨rfl, hb2⟩
    go_wp2
    go_ret
    exact ⟨rfl, HB.out.trans ((below_more B1.out hb2).mono HB.out.size)⟩
  | false =>
  have HNB := Lib.hid (not_big HBB.out)
  have HCP := Lib.hid (fun wx (hb : Below W.heap.size W wx) => show Calls Tryz.prog 9 #[.agg #[.int .i64 L.per, .slice L.A L.ms.length L.cap]] wx (GotList wx L.li) from
    copy_any L wx (HL.out.below hb) (by have := HNB.out.1; omega) (fun m hm => by have := (HNB.out.2 m hm).1; omega))
  have HT := Lib.hid (fun wx (M : Lm) (h : LmOk wx M) (hli : M.li = L.li) => show Calls Tryz.prog 8 #[M.val] wx (GotListE wx (tidyL L.li)) by
    rw [← hli]; exact ptidy_any M wx h)
  have HRT := Lib.hid (fun wx (hb : Below W.heap.size W wx) => show Calls Tryz.prog 10 #[.agg #[.int .i64 L.per, .slice L.A L.ms.length L.cap]] wx (GotListE wx (tidyL L.li)) from rtidy_any L wx (HL.out.below hb))
  have HR := Lib.hid (fun wx (M : Lm) (h : LmOk wx M) (hli : M.li = L.li) => show Calls Tryz.prog 11 #[M.val, .int .i64 p] wx (GotListE wx (restrL L.li p)) by
    rw [← hli]; exact prestrict_any M p wx h)
  have HRR := Lib.hid (fun wx (hb : Below W.heap.size W wx) => show Calls Tryz.prog 12 #[.agg #[.int .i64 L.per, .slice L.A L.ms.length L.cap], .int .i64 p] wx (GotListE wx (restrL L.li p)) from rrestrict_any L p wx (HL.out.below hb))
  have S1 := Lib.hid (small_tidy L.li)
  have S2 := Lib.hid (small_restr L.li p)
  obtain ⟨⟨X, ex⟩, hq⟩ : ∃ q, q = tidyL L.li := ⟨_, rfl⟩
  obtain ⟨⟨Y, ey⟩, hq2⟩ : ∃ q, q = restrL L.li p := ⟨_, rfl⟩
  rw [← hq] at HT HRT S1
  rw [← hq2] at HR HRR S2
  clear hq hq2 HNB
  go_wp2_with fail
  refine (HCP.out _ B1.out).mono ?_; rintro e w2 ⟨M2, rfl, hok, hli, hb⟩
  have G2 := Lib.hid hb
  have Bw2 := Lib.hid (below_more B1.out hb)
  have MO2 := Lib.hid hok
  have MI2 := Lib.hid hli
  clear hb hok hli x0 x1
  go_wp2_with fail
  refine (HT.out _ M2 MO2.out MI2.out).mono ?_; rintro e w3 ⟨⟨p3, m3, A3, c3⟩, rfl, hok, hli, hb⟩
  have G3 := Lib.hid hb
  have D3 := Lib.hid (below_more Bw2.out hb)
  have T3 := Lib.hid hok
  have E3 := Lib.hid hli
  have X3 := Lib.hid (heap_alloc_new w3 (.cells #[.int .i64 p3, .slice A3 m3.length c3] 24))
  have BX3 := Lib.hid (below_alloc w3 (.cells #[.int .i64 p3, .slice A3 m3.length c3] 24))
  have F3 := Lib.hid (below_more D3.out BX3.out)
  try clear x0 x1
  have x0 := cell_of_blk (blk_keep F3.out C1.out) 0
  have x1 := cell_of_blk (blk_keep F3.out C1.out) 1
  simp at x0 x1
  clear hb hok hli
  unfold Lm.val
  dsimp only
  go_wp2_with fail
  refine (HRT.out _ F3.out).mono ?_; rintro e w4 ⟨⟨p4, m4, A4, c4⟩, rfl, hok, hli, hb⟩
  have G4 := Lib.hid hb
  have D4 := Lib.hid (below_more F3.out hb)
  have T4 := Lib.hid hok
  have E4 := Lib.hid hli
  have X4 := Lib.hid (heap_alloc_new w4 (.cells #[.int .i64 p4, .slice A4 m4.length c4] 24))
  have BX4 := Lib.hid (below_alloc w4 (.cells #[.int .i64 p4, .slice A4 m4.length c4] 24))
  have F4 := Lib.hid (below_more D4.out BX4.out)
  try clear x0 x1
  have x0 := cell_of_blk (blk_keep F4.out C1.out) 0
  have x1 := cell_of_blk (blk_keep F4.out C1.out) 1
  simp at x0 x1
  clear hb hok hli
  unfold Lm.val
  dsimp only
  go_wp2_with fail
  refine (HCP.out _ F4.out).mono ?_; rintro e w5 ⟨M5, rfl, hok, hli, hb⟩
  have G5 := Lib.hid hb
  have Bw5 := Lib.hid (below_more F4.out hb)
  have MO5 := Lib.hid hok
  have MI5 := Lib.hid hli
  clear hb hok hli x0 x1
  go_wp2_with fail
  refine (HR.out _ M5 MO5.out MI5.out).mono ?_; rintro e w6 ⟨⟨p6, m6, A6, c6⟩, rfl, hok, hli, hb⟩
  have G6 := Lib.hid hb
  have D6 := Lib.hid (below_more Bw5.out hb)
  have T6 := Lib.hid hok
  have E6 := Lib.hid hli
  have X6 := Lib.hid (heap_alloc_new w6 (.cells #[.int .i64 p6, .slice A6 m6.length c6] 24))
  have BX6 := Lib.hid (below_alloc w6 (.cells #[.int .i64 p6, .slice A6 m6.length c6] 24))
  have F6 := Lib.hid (below_more D6.out BX6.out)
  try clear x0 x1
  have x0 := cell_of_blk (blk_keep F6.out C1.out) 0
  have x1 := cell_of_blk (blk_keep F6.out C1.out) 1
  simp at x0 x1
  clear hb hok hli
  unfold Lm.val
  dsimp only
  go_wp2_with fail
  refine (HRR.out _ F6.out).mono ?_; rintro e w7 ⟨⟨p7, m7, A7, c7⟩, rfl, hok, hli, hb⟩
  have G7 := Lib.hid hb
  have D7 := Lib.hid (below_more F6.out hb)
  have T7 := Lib.hid hok
  have E7 := Lib.hid hli
  have X7 := Lib.hid (heap_alloc_new w7 (.cells #[.int .i64 p7, .slice A7 m7.length c7] 24))
  have BX7 := Lib.hid (below_alloc w7 (.cells #[.int .i64 p7, .slice A7 m7.length c7] 24))
  have F7 := Lib.hid (below_more D7.out BX7.out)
  try clear x0 x1
  have x0 := cell_of_blk (blk_keep F7.out C1.out) 0
  have x1 := cell_of_blk (blk_keep F7.out C1.out) 1
  simp at x0 x1
  clear hb hok hli
  unfold Lm.val
  dsimp only
  have R67 := Lib.hid (below_more G7.out BX7.out)
  have R47 := Lib.hid (below_more (below_more (below_more G5.out G6.out) BX6.out) R67.out)
  have R37 := Lib.hid (below_more (below_more G4.out BX4.out) R47.out)
  have K3 := Lib.hid (blk_keep R37.out X3.out)
  have K4 := Lib.hid (blk_keep R47.out X4.out)
  have K6 := Lib.hid (blk_keep R67.out X6.out)
  have hs3 : w3.heap.size < w7.heap.size + 1 := by have := (Array.getElem?_eq_some_iff.1 K3.out).1; simpa using this
  have hs4 : w4.heap.size < w7.heap.size + 1 := by have := (Array.getElem?_eq_some_iff.1 K4.out).1; simpa using this
  have hs6 : w6.heap.size < w7.heap.size + 1 := by have := (Array.getElem?_eq_some_iff.1 K6.out).1; simpa using this
  have a0 := cell_of_blk K3.out 0
  have a1 := cell_of_blk K3.out 1
  have b0 := cell_of_blk K4.out 0
  have b1 := cell_of_blk K4.out 1
  simp at a0 a1 b0 b1
  have T37 := Lib.hid ((T3.out.below BX3.out).below R37.out)
  have T47 := Lib.hid ((T4.out.below BX4.out).below R47.out)
  have T67 := Lib.hid ((T6.out.below BX6.out).below R67.out)
  have T77 := Lib.hid (T7.out.below BX7.out)
  clear x0 x1
  have HS1 := Lib.hid (rsame_true ⟨p3, m3, A3, c3⟩ ⟨p4, m4, A4, c4⟩ X _ T37.out T47.out E3.out E4.out S1.out)
  unfold Lm.val at HS1
  dsimp only at HS1
  go_wp2_with fail
  refine HS1.out.mono ?_; rintro e w8 ⟨rfl, hb8⟩
  have B8 := Lib.hid hb8
  have c60 := cell_of_blk (blk_keep hb8 K6.out) 0
  have c61 := cell_of_blk (blk_keep hb8 K6.out) 1
  have c70 := cell_of_blk (blk_keep hb8 X7.out) 0
  have c71 := cell_of_blk (blk_keep hb8 X7.out) 1
  simp at c60 c61 c70 c71
  have HS2 := Lib.hid (rsame_true ⟨p6, m6, A6, c6⟩ ⟨p7, m7, A7, c7⟩ Y w8 (T67.out.below hb8) (T77.out.below hb8) E6.out E7.out S2.out)
  unfold Lm.val at HS2
  dsimp only at HS2
  clear hb8 a0 a1 b0 b1
  go_wp2_with fail
  refine HS2.out.mono ?_; rintro e w9 ⟨rfl, hb9⟩
  have B9 := Lib.hid (below_more (below_more F7.out B8.out) hb9)
  clear hb9 c60 c61 c70 c71
  go_wp2_with fail
  refine (HWK.out _ B9.out).mono ?_; rintro e wz ⟨rfl, hbz⟩
  go_wp2
  go_ret
  exact ⟨rfl, HB.out.trans ((below_more B9.out hbz).mono HB.out.size)⟩

end Go.Proofs.YtleihhkacmgofaaGreatDoor
