/-
  Contract of the law of Tidy and Restrict: it returns true. And what builds on it.
-/
import Derived.Test.YtleihhkacmgofaaGreatDoorPq7
import Derived.Test.YtleihhkacmgofaaGreatDoorCards
import Derived.Test.YtleihhkacmgofaaGreatDoorTie
import Derived.ProofKit
import Derived.OpenShut
import Derived.Deep.DeepHandedRow
import Derived.Deep.DeepLaidRun
import Derived.Deep.Slices
import Derived.Lib.LaidTab
import Derived.Lib.SmallJoins
import Derived.MakeChecks

/- Contract of the law of Tidy and Restrict: it returns true. -/
namespace Go.Proofs.YtleihhkacmgofaaGreatDoor
open Go.RowKit

def smallL (X : Li) : Prop := X.signs.length ≤ 1000000 ∧ ∀ s ∈ X.signs, s.vals.length ≤ 1000000
theorem small_ms {M : Lm} {X : Li} (h : M.li = X) (hs : smallL X) : M.ms.length ≤ 1000000 ∧ ∀ m ∈ M.ms, m.s.vals.length ≤ 1000000 := by
  subst h
  exact ⟨by have := hs.1; rwa [show M.li.signs = M.signs from rfl, Lm.length_signs] at this, fun m hm => hs.2 m.s (List.mem_map.2 ⟨m, hm, rfl⟩)⟩
theorem rsame_true (P Q : Lm) (X : Li) (w : World) (h1 : LmOk w P) (h2 : LmOk w Q) (e1 : P.li = X) (e2 : Q.li = X) (hs : smallL X) : Calls Tryz.prog 13 #[P.val, Q.val] w fun e w' => e = .returned (.bool true) ∧ Below w.heap.size w w' := by
  have a1 := small_ms e1 hs
  have a2 := small_ms e2 hs
  have := rsame_any P Q w h1 h2 a2.2 a1.2 a2.1 a1.1
  rw [e1, e2, liEq_refl] at this
  exact this
theorem runStep_len (out : List Va) (v : Va) : (runStep out v).length ≤ out.length + 1 := by
  rcases snoc_cases out with rfl | ⟨i, l, rfl⟩
  · exact Nat.le_refl _
  · by_cases hj : (meq l v && (l.to + 1 == v.fr)) = true
    · rw [runStep_join _ _ _ hj]; simp
    · rw [runStep_add _ _ _ (by simpa using hj)]; simp
theorem runsR_len (l : List Va) : (runsR l).length ≤ l.length := by
  suffices H : ∀ (l out : List Va), (l.foldl runStep out).length ≤ out.length + l.length by have := H l []; simpa [runsR] using this
  intro l
  induction l with
  | nil => intro out; simp
  | cons v l ih => intro out; have h1 := ih (runStep out v); have h2 := runStep_len out v; simp only [List.foldl_cons, List.length_cons]; omega
theorem tidiedR_len (ss : List (List Va)) (h : ∀ vs ∈ ss, vs.length ≤ 20 ∧ ∀ v ∈ vs, okV v) : (tidiedR ss).length ≤ 180 * ss.length := by
  have h1 := (foldSS_ok ss [] h (fun x h => by cases h)).2
  have h2 := runsR_len (pointsR ss)
  unfold tidiedR
  unfold pointsR at *
  simp at h1
  omega
theorem small_tidy (l : Li) : smallL (tidyL l).1 := by
  unfold tidyL
  split
  · exact ⟨by simp, fun s h => by cases h⟩
  · rename_i h
    have h0 := check_okV l (by simpa using h)
    refine ⟨by simp; omega, fun s hs => ?_⟩
    obtain ⟨s', hs', rfl⟩ := List.mem_map.1 hs
    have h1 := h0.2.2.2 s' hs'
    have h2 := tidiedR_len [s'.vals] (fun vs hvs => by simp at hvs; subst hvs; exact ⟨by omega, h1.2⟩)
    show (tidiedR [s'.vals]).length ≤ _
    simp at h2
    omega
theorem small_restr (l : Li) (p : Int) : smallL (restrL l p).1 := by
  unfold restrL
  split
  · exact ⟨by simp, fun s h => by cases h⟩
  · rename_i h
    split
    · exact ⟨by simp, fun s h => by cases h⟩
    · have h0 := check_okV l (by simpa using h)
      refine ⟨by simp; omega, fun s hs => ?_⟩
      obtain ⟨s', hs', rfl⟩ := List.mem_map.1 hs
      have h1 := (h0.2.2.2 s' hs').1
      have h2 : (usedV s'.vals p).length ≤ s'.vals.length := List.length_filter_le _ _
      show ((usedV s'.vals p).map oneP).length ≤ _
      rw [List.length_map]
      omega

set_option maxHeartbeats 3200000 in
set_option maxRecDepth 100000 in
theorem law_tidies (L : Lm) (p : Int) (w : World) (hE : Env w) (hl : LmOk w L) :
    Calls Tryz.prog 3 #[L.val, .int .i64 p] w fun e w' => e = .returned (.bool true) ∧ Below w.heap.size w w' := by
  obtain ⟨W, hW⟩ : ∃ W, W = (w.alloc (.cells #[.int .i64 L.per, .slice L.A L.ms.length L.cap] 24)) := ⟨_, rfl⟩
  have HB := Lib.hid (show Below w.heap.size w W from hW ▸ below_alloc _ _)
  have C1 := Lib.hid (show W.heap[w.heap.size]? = some (.cells #[.int .i64 L.per, .slice L.A L.ms.length L.cap] 24 (0, 0)) by
    rw [hW]; exact heap_alloc_new _ _)
  have HL := Lib.hid (hl.below HB.out)
  have HE := Lib.hid (hE.below HB.out)
  clear hl hE
  obtain ⟨B, hB⟩ : ∃ B, bigB L.signs = B := ⟨_, rfl⟩
  have HBB := Lib.hid hB
  clear hB
  show Calls _ _ #[.agg #[.int .i64 L.per, .slice L.A L.ms.length L.cap], .int .i64 p] w _
  have HBG := Lib.hid (fun r (h : bigB L.signs = r) => show Calls Tryz.prog 6 #[.agg #[.int .i64 L.per, .slice L.A L.ms.length L.cap]] W _ from big_is L W HL.out r h)
  have HWK := Lib.hid (fun w1 (hb : Below W.heap.size W w1) => works_any w1 (HE.out.below hb))
  go_enter Tryz.func3, Tryz.ntmps3
  go_wp2_with fail
  rw [← hW]
  refine (HBG.out _ HBB.out).mono ?_; rintro e w1 ⟨rfl, hb1⟩
  have B1 := Lib.hid hb1
  have x0 := cell_of_blk (blk_keep hb1 C1.out) 0
  have x1 := cell_of_blk (blk_keep hb1 C1.out) 1
  simp at x0 x1
  clear hb1 HBG hW
  cases B with
  | true =>
    go_wp2_with fail
    refine (HWK.out _ B1.out).mono ?_; rintro e w2 ⟨rfl, hb2⟩
    go_wp2
    go_ret
    exact ⟨rfl, HB.out.trans ((below_more B1.out hb2).mono HB.out.size)⟩
  | false =>
  have HNB := Lib.hid (not_big HBB.out)
  have HCP := Lib.hid (fun wx (hb : Below W.heap.size W wx) => show Calls Tryz.prog 9 #[.agg #[.int .i64 L.per, .slice L.A L.ms.length L.cap]] wx (GotList wx L.li) from
    copy_any L wx (HL.out.below hb) (by have := HNB.out.1; omega) (fun m hm => by have := (HNB.out.2 m hm).1; omega))
  have HT := Lib.hid (fun wx (M : Lm) (h : LmOk wx M) (hli : M.li = L.li) => show Calls Tryz.prog 8 #[M.val] wx (GotListE wx (tidyL L.li)) by
    rw [← hli]; exact ptidy_any M wx h)
  have HRT := Lib.hid (fun wx (hb : Below W.heap.size W wx) => show Calls Tryz.prog 10 #[.agg #[.int .i64 L.per, .slice L.A L.ms.length L.cap]] wx (GotListE wx (tidyL L.li)) from rtidy_any L wx (HL.out.below hb))
  have HR := Lib.hid (fun wx (M : Lm) (h : LmOk wx M) (hli : M.li = L.li) => show Calls Tryz.prog 11 #[M.val, .int .i64 p] wx (GotListE wx (restrL L.li p)) by
    rw [← hli]; exact prestrict_any M p wx h)
  have HRR := Lib.hid (fun wx (hb : Below W.heap.size W wx) => show Calls Tryz.prog 12 #[.agg #[.int .i64 L.per, .slice L.A L.ms.length L.cap], .int .i64 p] wx (GotListE wx (restrL L.li p)) from rrestrict_any L p wx (HL.out.below hb))
  have S1 := Lib.hid (small_tidy L.li)
  have S2 := Lib.hid (small_restr L.li p)
  obtain ⟨⟨X, ex⟩, hq⟩ : ∃ q, q = tidyL L.li := ⟨_, rfl⟩
  obtain ⟨⟨Y, ey⟩, hq2⟩ : ∃ q, q = restrL L.li p := ⟨_, rfl⟩
  rw [← hq] at HT HRT S1
  rw [← hq2] at HR HRR S2
  clear hq hq2 HNB
  go_wp2_with fail
  refine (HCP.out _ B1.out).mono ?_; rintro e w2 ⟨M2, rfl, hok, hli, hb⟩
  have G2 := Lib.hid hb
  have Bw2 := Lib.hid (below_more B1.out hb)
  have MO2 := Lib.hid hok
  have MI2 := Lib.hid hli
  clear hb hok hli x0 x1
  go_wp2_with fail
  refine (HT.out _ M2 MO2.out MI2.out).mono ?_; rintro e w3 ⟨⟨p3, m3, A3, c3⟩, rfl, hok, hli, hb⟩
  have G3 := Lib.hid hb
  have D3 := Lib.hid (below_more Bw2.out hb)
  have T3 := Lib.hid hok
  have E3 := Lib.hid hli
  have X3 := Lib.hid (heap_alloc_new w3 (.cells #[.int .i64 p3, .slice A3 m3.length c3] 24))
  have BX3 := Lib.hid (below_alloc w3 (.cells #[.int .i64 p3, .slice A3 m3.length c3] 24))
  have F3 := Lib.hid (below_more D3.out BX3.out)
  try clear x0 x1
  have x0 := cell_of_blk (blk_keep F3.out C1.out) 0
  have x1 := cell_of_blk (blk_keep F3.out C1.out) 1
  simp at x0 x1
  clear hb hok hli
  unfold Lm.val
  dsimp only
  go_wp2_with fail
  refine (HRT.out _ F3.out).mono ?_; rintro e w4 ⟨⟨p4, m4, A4, c4⟩, rfl, hok, hli, hb⟩
  have G4 := Lib.hid hb
  have D4 := Lib.hid (below_more F3.out hb)
  have T4 := Lib.hid hok
  have E4 := Lib.hid hli
  have X4 := Lib.hid (heap_alloc_new w4 (.cells #[.int .i64 p4, .slice A4 m4.length c4] 24))
  have BX4 := Lib.hid (below_alloc w4 (.cells #[.int .i64 p4, .slice A4 m4.length c4] 24))
  have F4 := Lib.hid (below_more D4.out BX4.out)
  try clear x0 x1
  have x0 := cell_of_blk (blk_keep F4.out C1.out) 0
  have x1 := cell_of_blk (blk_keep F4.out C1.out) 1
  simp at x0 x1
  clear hb hok hli
  unfold Lm.val
  dsimp only
  go_wp2_with fail
  refine (HCP.out _ F4.out).mono ?_; rintro e w5 ⟨M5, rfl, hok, hli, hb⟩
  have G5 := Lib.hid hb
  have Bw5 := Lib.hid (below_more F4.out hb)
  have MO5 := Lib.hid hok
  have MI5 := Lib.hid hli
  clear hb hok hli x0 x1
  go_wp2_with fail
  refine (HR.out _ M5 MO5.out MI5.out).mono ?_; rintro e w6 ⟨⟨p6, m6, A6, c6⟩, rfl, hok, hli, hb⟩
  have G6 := Lib.hid hb
  have D6 := Lib.hid (below_more Bw5.out hb)
  have T6 := Lib.hid hok
  have E6 := Lib.hid hli
  have X6 := Lib.hid (heap_alloc_new w6 (.cells #[.int .i64 p6, .slice A6 m6.length c6] 24))
  have BX6 := Lib.hid (below_alloc w6 (.cells #[.int .i64 p6, .slice A6 m6.length c6] 24))
  have F6 := Lib.hid (below_more D6.out BX6.out)
  try clear x0 x1
  have x0 := cell_of_blk (blk_keep F6.out C1.out) 0
  have x1 := cell_of_blk (blk_keep F6.out C1.out) 1
  simp at x0 x1
  clear hb hok hli
  unfold Lm.val
  dsimp only
  go_wp2_with fail
  refine (HRR.out _ F6.out).mono ?_; rintro e w7 ⟨⟨p7, m7, A7, c7⟩, rfl, hok, hli, hb⟩
  have G7 := Lib.hid hb
  have D7 := Lib.hid (below_more F6.out hb)
  have T7 := Lib.hid hok
  have E7 := Lib.hid hli
  have X7 := Lib.hid (heap_alloc_new w7 (.cells #[.int .i64 p7, .slice A7 m7.length c7] 24))
  have BX7 := Lib.hid (below_alloc w7 (.cells #[.int .i64 p7, .slice A7 m7.length c7] 24))
  have F7 := Lib.hid (below_more D7.out BX7.out)
  try clear x0 x1
  have x0 := cell_of_blk (blk_keep F7.out C1.out) 0
  have x1 := cell_of_blk (blk_keep F7.out C1.out) 1
  simp at x0 x1
  clear hb hok hli
  unfold Lm.val
  dsimp only
  have R67 := Lib.hid (below_more G7.out BX7.out)
  have R47 := Lib.hid (below_more (below_more (below_more G5.out G6.out) BX6.out) R67.out)
  have R37 := Lib.hid (below_more (below_more G4.out BX4.out) R47.out)
  have K3 := Lib.hid (blk_keep R37.out X3.out)
  have K4 := Lib.hid (blk_keep R47.out X4.out)
  have K6 := Lib.hid (blk_keep R67.out X6.out)
  have hs3 : w3.heap.size < w7.heap.size + 1 := by have := (Array.getElem?_eq_some_iff.1 K3.out).1; simpa using this
  have hs4 : w4.heap.size < w7.heap.size + 1 := by have := (Array.getElem?_eq_some_iff.1 K4.out).1; simpa using this
  have hs6 : w6.heap.size < w7.heap.size + 1 := by have := (Array.getElem?_eq_some_iff.1 K6.out).1; simpa using this
  have a0 := cell_of_blk K3.out 0
  have a1 := cell_of_blk K3.out 1
  have b0 := cell_of_blk K4.out 0
  have b1 := cell_of_blk K4.out 1
  simp at a0 a1 b0 b1
  have T37 := Lib.hid ((T3.out.below BX3.out).below R37.out)
  have T47 := Lib.hid ((T4.out.below BX4.out).below R47.out)
  have T67 := Lib.hid ((T6.out.below BX6.out).below R67.out)
  have T77 := Lib.hid (T7.out.below BX7.out)
  clear x0 x1
  have HS1 := Lib.hid (rsame_true ⟨p3, m3, A3, c3⟩ ⟨p4, m4, A4, c4⟩ X _ T37.out T47.out E3.out E4.out S1.out)
  unfold Lm.val at HS1
  dsimp only at HS1
  go_wp2_with fail
  refine HS1.out.mono ?_; rintro e w8 ⟨rfl, hb8⟩
  have B8 := Lib.hid hb8
  have c60 := cell_of_blk (blk_keep hb8 K6.out) 0
  have c61 := cell_of_blk (blk_keep hb8 K6.out) 1
  have c70 := cell_of_blk (blk_keep hb8 X7.out) 0
  have c71 := cell_of_blk (blk_keep hb8 X7.out) 1
  simp at c60 c61 c70 c71
  have HS2 := Lib.hid (rsame_true ⟨p6, m6, A6, c6⟩ ⟨p7, m7, A7, c7⟩ Y w8 (T67.out.below hb8) (T77.out.below hb8) E6.out E7.out S2.out)
  unfold Lm.val at HS2
  dsimp only at HS2
  clear hb8 a0 a1 b0 b1
  go_wp2_with fail
  refine HS2.out.mono ?_; rintro e w9 ⟨rfl, hb9⟩
  have B9 := Lib.hid (below_more (below_more F7.out B8.out) hb9)
  clear hb9 c60 c61 c70 c71
  go_wp2_with fail
  refine (HWK.out _ B9.out).mono ?_; rintro e wz ⟨rfl, hbz⟩
  go_wp2
  go_ret
  exact ⟨rfl, HB.out.trans ((below_more B9.out hbz).mono HB.out.size)⟩

end Go.Proofs.YtleihhkacmgofaaGreatDoor

/- Merge, plain: two lists united; the one error that the union of valid lists can have. -/
namespace Go.Proofs.YtleihhkacmgofaaGreatDoor

/-- the values that a code has in signs -/
def extraV (ks : List Sg) (c : ByteArray) : List Va := ks.flatMap fun t => if strEq t.code c then t.vals else []
def joinS (ks : List Sg) (s : Sg) : Sg := sgWith (· ++ extraV ks s.code) s
def hasC (l : List Sg) (c : ByteArray) : Bool := l.any fun s => strEq s.code c
def newS (ls ks : List Sg) : List Sg := ks.filter fun t => !hasC ls t.code
def unionS (ls ks : List Sg) : List Sg := ls.map (joinS ks) ++ newS ls ks
/-- a code has two shapes -/
def clash (ls ks : List Sg) : Bool := ks.any fun t => ls.any fun s => strEq s.code t.code && !shapeEq s t
def unionL (a b : Li) : Li := ⟨max a.per b.per, (unionS a.signs b.signs).map (sgWith tidyV)⟩
def mergeL (a b : Li) : Li × Int :=
  if checkErr a ≠ 0 then (⟨0, []⟩, checkErr a) else if checkErr b ≠ 0 then (⟨0, []⟩, checkErr b)
  else if clash a.signs b.signs = true then (⟨0, []⟩, 11) else if checkErr (unionL a b) ≠ 0 then (⟨0, []⟩, checkErr (unionL a b)) else (unionL a b, 0)

theorem strEq_is (a b : ByteArray) : strEq a b = true ↔ a = b := by
  have := strEq_txt ⟨0, a, 0, 0⟩ ⟨0, b, 0, 0⟩
  exact this
theorem strEq_no (a b : ByteArray) : strEq a b = false ↔ a ≠ b := by
  rw [← Bool.not_eq_true, strEq_is]
/-- no two signs have one code -/
def apartC (l : List Sg) : Prop := l.Pairwise fun s t => strEq s.code t.code = false

/-- what a valid list keeps -/
theorem vals_all (p : Int) : ∀ (vs done : List Va), valsErr p done vs = 0 → ∀ v ∈ vs, kindB v.kind = true ∧ textB v.kind v.text = true ∧ 1 ≤ v.fr ∧ v.fr ≤ v.to ∧ v.to ≤ p
  | [], _, _, v, hv => by cases hv
  | x :: r, done, h, v, hv => by
    rw [valsErr] at h
    split at h
    · rename_i h0
      rcases List.mem_cons.1 hv with rfl | hv
      · unfold valErr at h0
        split at h0
        · cases h0
        · rename_i h1
          split at h0
          · cases h0
          · rename_i h2
            have h3 : kindB v.kind = true ∧ textB v.kind v.text = true := by
              cases hk : kindB v.kind <;> cases ht : textB v.kind v.text <;> simp_all
            exact ⟨h3.1, h3.2, by omega, by omega, by omega⟩
      · exact vals_all p r _ h v hv
    · rename_i h0; exact absurd h h0
theorem vals_zero (p : Int) : ∀ (vs done : List Va), (∀ v ∈ vs, kindB v.kind = true ∧ textB v.kind v.text = true ∧ 1 ≤ v.fr ∧ v.fr ≤ v.to ∧ v.to ≤ p) → (∀ v ∈ vs, ∀ d ∈ done, collideB d v = false) → vs.Pairwise (fun a b => collideB a b = false) → valsErr p done vs = 0
  | [], _, _, _, _ => rfl
  | x :: r, done, h, hd, hp => by
    have hx := h x (by simp)
    have hany : done.any (fun b => collideB b x) = false := by
      rw [List.any_eq_false]
      intro d hd1
      rw [hd x (by simp) d hd1]; simp
    have h0 : valErr x done p = 0 := by
      unfold valErr
      rw [hx.1, hx.2.1, if_neg (by simp), if_neg (by omega), hany]
      rfl
    rw [valsErr, if_pos h0]
    refine vals_zero p r _ (fun v hv => h v (by simp [hv])) (fun v hv d hd1 => ?_) (List.pairwise_cons.1 hp).2
    rcases List.mem_append.1 hd1 with hd1 | hd1
    · exact hd v (by simp [hv]) d hd1
    · simp at hd1; subst hd1; exact (List.pairwise_cons.1 hp).1 v hv

/-- what is asked of a sign by itself -/
def fineS (p : Int) (s : Sg) : Prop := codeB s.code = true ∧ withinB s.wide 12 = true ∧ withinB s.high 12 = true ∧ s.vals.length ≤ 12 ∧ valsErr p [] s.vals = 0
theorem signs_all (p : Int) : ∀ (r done : List Sg), signsErr p done r = 0 → (∀ s ∈ r, fineS p s ∧ ∀ d ∈ done, strEq d.code s.code = false) ∧ apartC r
  | [], _, _ => ⟨fun s h => (by cases h), List.Pairwise.nil⟩
  | x :: r, done, h => by
    rw [signsErr] at h
    split at h
    · cases h
    · rename_i hc
      split at h
      · rename_i h0
        have ih := signs_all p r _ h
        have hx : fineS p x ∧ ∀ d ∈ done, strEq d.code x.code = false := by
          have hc2 : codeB x.code = true ∧ (done.any fun d => strEq d.code x.code) = false := by
            cases h1 : codeB x.code <;> cases h2 : (done.any fun d => strEq d.code x.code) <;> simp_all
          unfold signErr at h0
          split at h0
          · cases h0
          · rename_i hw
            split at h0
            · cases h0
            · have hw2 : withinB x.wide 12 = true ∧ withinB x.high 12 = true := by
                cases h1 : withinB x.wide 12 <;> cases h2 : withinB x.high 12 <;> simp_all
              refine ⟨⟨hc2.1, hw2.1, hw2.2, by omega, h0⟩, fun d hd => ?_⟩
              have := (List.any_eq_false.1 hc2.2) d hd
              simpa using this
        refine ⟨fun s hs => ?_, List.pairwise_cons.2 ⟨fun s hs => ?_, ih.2⟩⟩
        · rcases List.mem_cons.1 hs with rfl | hs
          · exact hx
          · exact ⟨(ih.1 s hs).1, fun d hd => (ih.1 s hs).2 d (by simp [hd])⟩
        · exact (ih.1 s hs).2 x (by simp)
      · rename_i h0; exact absurd h h0
/-- signs that are fine but for the number of their values have no other error -/
theorem signs_two (p : Int) : ∀ (r done : List Sg), (∀ s ∈ r, codeB s.code = true ∧ withinB s.wide 12 = true ∧ withinB s.high 12 = true ∧ valsErr p [] s.vals = 0) → (∀ s ∈ r, ∀ d ∈ done, strEq d.code s.code = false) → apartC r → signsErr p done r = 0 ∨ signsErr p done r = 2
  | [], _, _, _, _ => .inl rfl
  | x :: r, done, h, hd, hp => by
    have hx := h x (by simp)
    have hany : (done.any fun d => strEq d.code x.code) = false := by
      rw [List.any_eq_false]
      intro d hd1
      rw [hd x (by simp) d hd1]; simp
    rw [signsErr, if_neg (by rw [hx.1, hany]; simp)]
    split
    · refine signs_two p r _ (fun s hs => h s (by simp [hs])) (fun s hs d hd1 => ?_) (List.pairwise_cons.1 hp).2
      rcases List.mem_append.1 hd1 with hd1 | hd1
      · exact hd s (by simp [hs]) d hd1
      · simp at hd1; subst hd1; exact (List.pairwise_cons.1 hp).1 s hs
    · rename_i h0
      refine .inr ?_
      unfold signErr at h0 ⊢
      rw [hx.2.1, hx.2.2.1, if_neg (by simp)] at h0 ⊢
      by_cases h12 : 12 < x.vals.length
      · rw [if_pos h12]
      · rw [if_neg h12] at h0
        exact absurd hx.2.2.2 h0
theorem check_all (l : Li) (h : checkErr l = 0) : l.signs.length ≤ 200 ∧ 1 ≤ l.per ∧ l.per ≤ 9 ∧ (∀ s ∈ l.signs, fineS l.per s) ∧ apartC l.signs := by
  obtain ⟨h1, h2, h3, _⟩ := check_okV l h
  unfold checkErr at h
  split at h
  · cases h
  · split at h
    · cases h
    · have := signs_all _ _ _ h
      exact ⟨h1, h2, h3, fun s hs => (this.1 s hs).1, this.2⟩

/-- Tidy gives longest stretches that cover the same -/
theorem tidiedR_canon (ss : List (List Va)) : canon (tidiedR ss) ∧ ∀ m p, cov (tidiedR ss) m p ↔ cov ss.flatten m p := by
  obtain ⟨hp, hc⟩ := pointsR_ok ss
  unfold tidiedR runsR
  rw [run_fold _ _ (fun x h => by cases h) hp]
  have := mergeR_canon (pointsR ss) (points_sorted hp) (fun v h => by have := hp.2 v h; omega)
  exact ⟨this.1, fun m p => (this.2 m p).trans (hc m p)⟩
theorem gap_free {a b : Va} (h : gap a b) : collideB a b = false := by
  unfold collideB
  rcases h with h | ⟨_, h⟩
  · have := mlt_not_meq h
    unfold meq at this
    rw [this]; rfl
  · have h1 : decide (b.fr ≤ a.to) = false := by simp; omega
    rw [h1]; simp
/-- values in bounds, made tidy, are without error -/
theorem tidyV_fine (p : Int) (vs : List Va) (h : ∀ v ∈ vs, kindB v.kind = true ∧ textB v.kind v.text = true ∧ 1 ≤ v.fr ∧ v.fr ≤ v.to ∧ v.to ≤ p) : valsErr p [] (tidyV vs) = 0 := by
  obtain ⟨hcan, hcov⟩ := tidiedR_canon [vs]
  refine vals_zero p _ _ (fun v hv => ?_) (fun v _ d hd => by cases hd) (hcan.1.imp fun hab => gap_free hab)
  have hle := hcan.2 v hv
  have hc : ∀ q, v.fr ≤ q → q ≤ v.to → ∃ x ∈ vs, meq x v = true ∧ x.fr ≤ q ∧ q ≤ x.to := fun q h1 h2 => by
    have h3 : cov (tidiedR [vs]) v q := ⟨v, hv, meq_refl v, h1, h2⟩
    rw [hcov] at h3
    obtain ⟨x, hx, h4, h5, h6⟩ := h3
    exact ⟨x, by simpa using hx, h4, h5, h6⟩
  obtain ⟨x, hx, hm, h1, h2⟩ := hc v.fr (Int.le_refl _) hle
  obtain ⟨y, hy, _, h4, h5⟩ := hc v.to hle (Int.le_refl _)
  have hxx := h x hx
  have hyy := h y hy
  rw [meq_iff] at hm
  rw [← hm.1, ← hm.2]
  exact ⟨hxx.1, hxx.2.1, by omega, hle, by omega⟩

theorem extra_mem {ks : List Sg} {c : ByteArray} {v : Va} (h : v ∈ extraV ks c) : ∃ t ∈ ks, v ∈ t.vals := by
  unfold extraV at h
  obtain ⟨t, ht, hv⟩ := List.mem_flatMap.1 h
  split at hv
  · exact ⟨t, ht, hv⟩
  · cases hv
theorem code_with (f : List Va → List Va) (l : List Sg) : apartC (l.map (sgWith f)) ↔ apartC l := by
  unfold apartC
  rw [List.pairwise_map]
  rfl
theorem union_apart {ls ks : List Sg} (ha : apartC ls) (hb : apartC ks) : apartC (unionS ls ks) := by
  unfold unionS apartC newS
  refine List.pairwise_append.2 ⟨?_, hb.filter _, fun s hs t ht => ?_⟩
  · rw [List.pairwise_map]; exact ha
  · obtain ⟨x, hx, rfl⟩ := List.mem_map.1 hs
    obtain ⟨_, h2⟩ := List.mem_filter.1 ht
    have h3 : hasC ls t.code = false := by simpa using h2
    unfold hasC at h3
    have := (List.any_eq_false.1 h3) x hx
    simpa [joinS, sgWith] using this
/-- The union of valid lists has no error but its size. -/
theorem union_two (a b : Li) (ha : checkErr a = 0) (hb : checkErr b = 0) : checkErr (unionL a b) = 0 ∨ checkErr (unionL a b) = 2 := by
  obtain ⟨_, a2, a3, a4, a5⟩ := check_all a ha
  obtain ⟨_, b2, b3, b4, b5⟩ := check_all b hb
  unfold checkErr
  split
  · exact .inr rfl
  · have hw : withinB (unionL a b).per 9 = true := by
      unfold withinB unionL; dsimp only; simp; omega
    rw [hw, if_neg (by simp)]
    refine signs_two _ _ _ (fun s hs => ?_) (fun s _ d hd => by cases hd) ?_
    · unfold unionL at hs ⊢
      dsimp only at hs ⊢
      obtain ⟨u, hu, rfl⟩ := List.mem_map.1 hs
      have hin : codeB u.code = true ∧ withinB u.wide 12 = true ∧ withinB u.high 12 = true ∧ ∀ v ∈ u.vals, kindB v.kind = true ∧ textB v.kind v.text = true ∧ 1 ≤ v.fr ∧ v.fr ≤ v.to ∧ v.to ≤ max a.per b.per := by
        have hva : ∀ x ∈ a.signs, ∀ v ∈ x.vals, kindB v.kind = true ∧ textB v.kind v.text = true ∧ 1 ≤ v.fr ∧ v.fr ≤ v.to ∧ v.to ≤ max a.per b.per := fun x hx v hv => by
          have := vals_all _ _ _ (a4 x hx).2.2.2.2 v hv
          exact ⟨this.1, this.2.1, this.2.2.1, this.2.2.2.1, by have := this.2.2.2.2; omega⟩
        have hvb : ∀ x ∈ b.signs, ∀ v ∈ x.vals, kindB v.kind = true ∧ textB v.kind v.text = true ∧ 1 ≤ v.fr ∧ v.fr ≤ v.to ∧ v.to ≤ max a.per b.per := fun x hx v hv => by
          have := vals_all _ _ _ (b4 x hx).2.2.2.2 v hv
          exact ⟨this.1, this.2.1, this.2.2.1, this.2.2.2.1, by have := this.2.2.2.2; omega⟩
        rcases List.mem_append.1 hu with hu | hu
        · obtain ⟨x, hx, rfl⟩ := List.mem_map.1 hu
          obtain ⟨h1, h2, h3, _⟩ := a4 x hx
          refine ⟨h1, h2, h3, fun v hv => ?_⟩
          rcases List.mem_append.1 (show v ∈ x.vals ++ extraV b.signs x.code from hv) with hv | hv
          · exact hva x hx v hv
          · obtain ⟨t, ht, hv⟩ := extra_mem hv
            exact hvb t ht v hv
        · have hx := (List.mem_filter.1 hu).1
          obtain ⟨h1, h2, h3, _⟩ := b4 u hx
          exact ⟨h1, h2, h3, fun v hv => hvb u hx v hv⟩
      exact ⟨hin.1, hin.2.1, hin.2.2.1, tidyV_fine _ _ hin.2.2.2⟩
    · unfold unionL
      dsimp only
      rw [code_with]
      exact union_apart a5 b5

/-- one sign more of the other list -/
theorem extra_snoc (ks : List Sg) (t : Sg) (c : ByteArray) : extraV (ks ++ [t]) c = extraV ks c ++ (if strEq t.code c then t.vals else []) := by
  unfold extraV; rw [List.flatMap_append]; simp
theorem union_new (ls ks : List Sg) (t : Sg) (h : hasC ls t.code = false) : unionS ls (ks ++ [t]) = unionS ls ks ++ [t] := by
  unfold unionS newS
  rw [List.filter_append, ← List.append_assoc]
  congr 1
  · congr 1
    refine List.map_congr_left fun s hs => ?_
    unfold joinS
    rw [extra_snoc]
    have := (List.any_eq_false.1 h) s hs
    have hne : strEq t.code s.code = false := by
      rw [strEq_no]
      intro e
      apply this
      rw [strEq_is, e]
    rw [hne]; simp
  · simp [h]
theorem union_old (ls ks : List Sg) (t : Sg) (ha : apartC ls) (i : Nat) (s : Sg) (hi : ls[i]? = some s) (hs : strEq s.code t.code = true) :
    unionS ls (ks ++ [t]) = (unionS ls ks).set i (sgWith (· ++ t.vals) (joinS ks s)) ∧ (unionS ls ks)[i]? = some (joinS ks s) := by
  obtain ⟨hlt, hie⟩ := List.getElem?_eq_some_iff.1 hi
  have hn : hasC ls t.code = true := List.any_eq_true.2 ⟨s, List.mem_of_getElem? hi, hs⟩
  have hnew : newS ls (ks ++ [t]) = newS ls ks := by unfold newS; rw [List.filter_append]; simp [hn]
  refine ⟨?_, ?_⟩
  · unfold unionS
    rw [hnew, List.set_append_left _ _ (by simpa using hlt)]
    congr 1
    apply List.ext_getElem?
    intro j
    by_cases hj : j = i
    · subst hj
      rw [List.getElem?_set_self (by simpa using hlt), List.getElem?_map, hi]
      simp only [Option.map_some, joinS, extra_snoc]
      have hts : strEq t.code s.code = true := by rw [strEq_is] at hs ⊢; exact hs.symm
      rw [hts]
      simp [sgWith]
    · rw [List.getElem?_set_ne (fun e => hj e.symm), List.getElem?_map, List.getElem?_map]
      cases hg : ls[j]? with
      | none => rfl
      | some x =>
        simp only [Option.map_some, joinS, extra_snoc]
        have hne : strEq t.code x.code = false := by
          rw [strEq_no]
          intro e
          rw [strEq_is] at hs
          have hjl := (List.getElem?_eq_some_iff.1 hg)
          have hp : ∀ (p q : Nat) (hp : p < ls.length) (hq : q < ls.length), p < q → strEq ls[p].code ls[q].code = false := fun p q hp hq hpq => List.pairwise_iff_getElem.1 ha p q hp hq hpq
          obtain ⟨hj1, hj2⟩ := hjl
          rcases Nat.lt_or_gt_of_ne hj with hlt2 | hlt2
          · have := hp j i hj1 hlt hlt2
            rw [hj2, hie, strEq_no] at this
            exact this (by rw [hs, e])
          · have := hp i j hlt hj1 hlt2
            rw [hj2, hie, strEq_no] at this
            exact this (by rw [hs, e])
        rw [hne]; simp
  · unfold unionS
    rw [List.getElem?_append_left (by simpa using hlt), List.getElem?_map, hi]
    rfl
theorem union_nil (ls : List Sg) : unionS ls [] = ls := by
  unfold unionS newS joinS sgWith extraV
  simp
theorem union_len (ls ks : List Sg) : (unionS ls ks).length ≤ ls.length + ks.length := by
  unfold unionS newS
  have := List.length_filter_le (fun t => !hasC ls t.code) ks
  simp
  omega

end Go.Proofs.YtleihhkacmgofaaGreatDoor

/- Contracts of the laws' alike and Large; values of one period are as many however they are joined. -/
namespace Go.Proofs.YtleihhkacmgofaaGreatDoor
open Go.RowKit

/-- two lists have the same meanings -/
def alikeB (a b : List Va) : Bool := (a.length == b.length) && a.all fun x => b.any fun y => meq x y

/-- meanings that differ -/
def apartM (l : List Va) : Prop := l.Pairwise fun a b => meq a b = false
theorem meq_comm (a b : Va) : meq a b = meq b a := by
  cases h : meq b a
  · cases h2 : meq a b
    · rfl
    · rw [meq_symm h2] at h; cases h
  · exact meq_symm h
theorem sub_len : ∀ (a b : List Va), apartM a → (∀ x ∈ a, ∃ y ∈ b, meq x y = true) → a.length ≤ b.length
  | [], _, _, _ => Nat.zero_le _
  | x :: r, b, ha, h => by
    obtain ⟨y, hy, hxy⟩ := h x (by simp)
    have hlen : (b.eraseP (meq x)).length = b.length - 1 := List.length_eraseP_of_mem hy hxy
    have hpos : 0 < b.length := List.length_pos_of_mem hy
    have ih := sub_len r (b.eraseP (meq x)) (List.pairwise_cons.1 ha).2 (fun z hz => by
      obtain ⟨u, hu, hzu⟩ := h z (by simp [hz])
      have hxz := (List.pairwise_cons.1 ha).1 z hz
      have hxu : ¬ meq x u = true := fun e => by
        have := meq_trans e (meq_symm hzu)
        rw [this] at hxz; cases hxz
      exact ⟨u, (List.mem_eraseP_of_neg hxu).2 hu, hzu⟩)
    simp only [List.length_cons]
    omega
theorem alike_of {a b : List Va} (ha : apartM a) (hb : apartM b) (h1 : ∀ x ∈ a, ∃ y ∈ b, meq x y = true) (h2 : ∀ y ∈ b, ∃ x ∈ a, meq y x = true) : alikeB a b = true := by
  have l1 := sub_len a b ha h1
  have l2 := sub_len b a hb h2
  unfold alikeB
  rw [Bool.and_eq_true, beq_iff_eq, List.all_eq_true]
  refine ⟨by omega, fun x hx => ?_⟩
  obtain ⟨y, hy, e⟩ := h1 x hx
  exact List.any_eq_true.2 ⟨y, hy, e⟩
/-- what is in use in a period -/
theorem used_mem (vs : List Va) (p : Int) (v : Va) : v ∈ usedV vs p ↔ v ∈ vs ∧ v.fr ≤ p ∧ p ≤ v.to := by
  unfold usedV
  rw [List.mem_filter]
  unfold useB
  simp
/-- valid values do not collide -/
theorem vals_apart (p : Int) : ∀ (vs done : List Va), valsErr p done vs = 0 → (∀ v ∈ vs, ∀ d ∈ done, collideB d v = false) ∧ vs.Pairwise (fun a b => collideB a b = false)
  | [], _, _ => ⟨(fun v h => by cases h), List.Pairwise.nil⟩
  | x :: r, done, h => by
    rw [valsErr] at h
    split at h
    · rename_i h0
      have ih := vals_apart p r _ h
      have hx : ∀ d ∈ done, collideB d x = false := by
        unfold valErr at h0
        split at h0
        · cases h0
        · split at h0
          · cases h0
          · split at h0
            · cases h0
            · rename_i h3
              intro d hd
              have h3 : (done.any fun b => collideB b x) = false := by simpa using h3
              have := (List.any_eq_false.1 h3) d hd
              simpa using this
      refine ⟨fun v hv d hd => ?_, List.pairwise_cons.2 ⟨fun v hv => ih.1 v hv x (by simp), ih.2⟩⟩
      rcases List.mem_cons.1 hv with rfl | hv
      · exact hx d hd
      · exact ih.1 v hv d (by simp [hd])
    · rename_i h0; exact absurd h h0
theorem used_apart {vs : List Va} (h : vs.Pairwise fun a b => collideB a b = false) (p : Int) : apartM (usedV vs p) := by
  unfold apartM
  rw [List.pairwise_iff_forall_sublist]
  intro a b hs
  have hs2 : List.Sublist [a, b] vs := hs.trans List.filter_sublist
  have h1 := (List.pairwise_iff_forall_sublist.1 h) hs2
  have ha := (used_mem vs p a).1 (hs.subset (by simp))
  have hb := (used_mem vs p b).1 (hs.subset (by simp))
  cases hm : meq a b
  · rfl
  · exfalso
    unfold collideB at h1
    have hm' : (a.kind == b.kind && strEq a.text b.text) = true := hm
    rw [hm'] at h1
    simp at h1
    omega
theorem canon_apart {vs : List Va} (h : canon vs) : vs.Pairwise fun a b => collideB a b = false := h.1.imp fun hab => gap_free hab
/-- a period's meanings, by what is covered -/
theorem used_cov {a b : List Va} (p : Int) (h : ∀ m, cov a m p → cov b m p) : ∀ x ∈ usedV a p, ∃ y ∈ usedV b p, meq x y = true := by
  intro x hx
  rw [used_mem] at hx
  obtain ⟨y, hy, hm, h1, h2⟩ := h x ⟨x, hx.1, meq_refl x, hx.2.1, hx.2.2⟩
  exact ⟨y, (used_mem _ _ _).2 ⟨hy, h1, h2⟩, meq_symm hm⟩
/-- Tidy keeps the meanings of a period -/
theorem alike_tidy (per : Int) (vs : List Va) (h : valsErr per [] vs = 0) (p : Int) : alikeB (usedV vs p) (usedV (tidyV vs) p) = true := by
  obtain ⟨hcan, hcov⟩ := tidiedR_canon [vs]
  have hc : ∀ m, cov (tidyV vs) m p ↔ cov vs m p := fun m => by have := hcov m p; simpa [tidyV] using this
  exact alike_of (used_apart (vals_apart per vs [] h).2 p) (used_apart (canon_apart hcan) p) (used_cov p fun m => (hc m).2) (used_cov p fun m => (hc m).1)
/-- Restrict keeps the meanings of its period -/
theorem alike_restr (vs : List Va) (p : Int) : alikeB (usedV vs p) (usedV (restrV p vs) 1) = true := by
  have h1 : usedV (restrV p vs) 1 = restrV p vs := by
    unfold restrV
    rw [show usedV ((usedV vs p).map oneP) 1 = ((usedV vs p).map oneP).filter _ from rfl, List.filter_eq_self]
    intro x hx
    obtain ⟨y, _, rfl⟩ := List.mem_map.1 hx
    rfl
  rw [h1]
  unfold alikeB restrV
  rw [List.length_map, beq_self_eq_true, Bool.true_and, List.all_eq_true]
  intro x hx
  exact List.any_eq_true.2 ⟨oneP x, List.mem_map.2 ⟨x, hx, rfl⟩, (meq_iff _ _).2 ⟨rfl, rfl⟩⟩

set_option maxHeartbeats 3200000 in
set_option maxRecDepth 100000 in
theorem alike_is (A1 A2 : Option Addr) (c1 c2 : Nat) (a b : List Va) (w : World) (ha : ValsAt w A1 a) (hb : ValsAt w A2 b) (la : a.length ≤ 1000000) (lb : b.length ≤ 1000000) (ca : a.length ≤ c1) (cb : b.length ≤ c2) (_ma : c1 ≤ maxLen) (_mb : c2 ≤ maxLen) (r : Bool) (h : alikeB a b = r) :
    Calls Tryz.prog 19 #[.slice A1 a.length c1, .slice A2 b.length c2] w fun e w' => e = .returned (.bool r) ∧ Below w.heap.size w w' := by
  have HA := Lib.hid ha
  have HB := Lib.hid hb
  have HR := Lib.hid h
  unfold maxLen at _ma _mb
  obtain ⟨n, hn⟩ : ∃ n, n = a.length := ⟨_, rfl⟩
  obtain ⟨m, hm⟩ : ∃ m, m = b.length := ⟨_, rfl⟩
  have HN := Lib.hid hn
  have HM := Lib.hid hm
  rw [← hn] at la ca ⊢
  rw [← hm] at lb cb ⊢
  by_cases hl : (n : Int) = m
  case neg =>
    have hl1 : ((n : Int) != m) = true := by simpa using hl
    have HF := Lib.hid (show r = false by
      rw [← h]
      unfold alikeB
      rw [show (a.length == b.length) = false by rw [beq_eq_false_iff_ne]; omega]; rfl)
    clear ha hb hn hm h
    go_enter Tryz.func19, Tryz.ntmps19
    go_wp2_with fail
    go_ret
    exact ⟨by rw [HF.out]; rfl, Below.refl _ _⟩
  have hl2 : n = m := by omega
  subst hl2
  clear hl
  have HF := Lib.hid (show r = a.all fun x => b.any fun y => meq x y by
    rw [← h]
    unfold alikeB
    rw [show (a.length == b.length) = true by rw [beq_iff_eq]; omega]; rfl)
  clear ha hb hn hm h
  go_enter Tryz.func19, Tryz.ntmps19
  go_wp2_with fail
  go_loopw [5] (fun i wr => ∃ k : Nat, k ≤ n ∧ i = .int .i64 k ∧ Hid (Below w.heap.size w wr ∧ ((a.take k).all fun x => b.any fun y => meq x y) = true)) (fun i _ => n - (intOf i).toNat)
  case atStart => exact ⟨0, Nat.zero_le _, rfl, Lib.hid ⟨Below.refl _ _, by simp⟩⟩
  case round =>
    obtain ⟨k, hk, rfl, hrl⟩ := hrel
    by_cases hlt : k < n
    · have hget : a[k]? = some (a[k]'(by have := HN.out; omega)) := List.getElem?_eq_getElem _
      obtain ⟨x, hx⟩ : ∃ x, x = a[k]'(by have := HN.out; omega) := ⟨_, rfl⟩
      rw [← hx] at hget
      obtain ⟨ab, ao, hA, hab, hva⟩ := HA.out k x hget
      subst hA
      have HVA := Lib.hid (And.intro hab hva)
      have HSN := Lib.hid (show a.take (k + 1) = a.take k ++ [x] from take_step _ _ _ hget)
      have HXM := Lib.hid (show x ∈ a from List.mem_of_getElem? hget)
      have HRL := Lib.hid hrl.out
      clear hx hget hva hab hrl
      go_wp2_with fail
      obtain ⟨wo, rfl⟩ : ∃ wo : World, wo = wr := ⟨_, rfl⟩
      go_loopw [6, 7] (fun f j wr => ∃ q : Nat, q ≤ n ∧ j = .int .i64 q ∧ f = .bool ((b.take q).any fun y => meq x y) ∧ Hid (Below w.heap.size w wr)) (fun _ j _ => n - (intOf j).toNat)
      case atStart => exact ⟨0, Nat.zero_le _, rfl, by simp, Lib.hid HRL.out.1⟩
      case round =>
        obtain ⟨j, hj, rfl, rfl, hbw⟩ := hrel
        obtain ⟨y0, y1, -, -, -⟩ := HVA.out.2.below hbw.out HVA.out.1
        have hsa : ab < wr.heap.size := by have := hbw.out.size; have := HVA.out.1; omega
        by_cases hlj : j < n
        · have hgj : b[j]? = some (b[j]'(by have := HM.out; omega)) := List.getElem?_eq_getElem _
          obtain ⟨y, hy⟩ : ∃ y, y = b[j]'(by have := HM.out; omega) := ⟨_, rfl⟩
          rw [← hy] at hgj
          obtain ⟨bb, bo, hB, hbb, hvb⟩ := HB.out j y hgj
          subst hB
          obtain ⟨z0, z1, -, -, -⟩ := hvb.below hbw.out hbb
          have hsb : bb < wr.heap.size := by have := hbw.out.size; omega
          have HSJ := Lib.hid (show (b.take (j + 1)).any (fun y => meq x y) = ((b.take j).any (fun y => meq x y) || meq x y) by
            rw [take_step _ _ _ hgj, List.any_append]; simp)
          clear hy hgj hvb hbb
          obtain ⟨F, hF⟩ : ∃ F, (b.take j).any (fun y => meq x y) = F := ⟨_, rfl⟩
          rw [hF] at HSJ ⊢
          clear hF
          cases F with
          | true =>
            go_wp2_with fail
            refine wp_region_later (by kernel_rfl) (by kernel_rfl) ?_; (repeat (first | go_big_quiet_step (fail) | quiet_step (fail))); refine wpQuiet_nil ?_; rintro _ ⟨s, rfl⟩
            have HB5 := Lib.hid (below_more hbw.out s.below)
            generalize s.w = W5 at HB5 ⊢
            go_wp2_with fail
            go_roundw
            case rel => exact ⟨j + 1, by omega, by go_num, by rw [HSJ.out]; rfl, HB5⟩
            case measure => simp [intOf]; omega
          | false =>
            by_cases hk1 : (x.kind == y.kind) = true
            case neg =>
              have hk1 : (x.kind == y.kind) = false := by simpa using hk1
              go_wp2_with fail
              refine wp_region_later (by kernel_rfl) (by kernel_rfl) ?_; (repeat (first | go_big_quiet_step (fail) | quiet_step (fail))); refine wpQuiet_nil ?_; rintro _ ⟨s, rfl⟩
              have HB5 := Lib.hid (below_more hbw.out s.below)
              generalize s.w = W5 at HB5 ⊢
              go_wp2_with fail
              go_roundw
              case rel => exact ⟨j + 1, by omega, by go_num, by rw [HSJ.out]; unfold meq; rw [hk1]; rfl, HB5⟩
              case measure => simp [intOf]; omega
            by_cases hk2 : (x.text.toList == y.text.toList) = true
            case neg =>
              have hk2 : (x.text.toList == y.text.toList) = false := by simpa using hk2
              go_wp2_with fail
              refine wp_region_later (by kernel_rfl) (by kernel_rfl) ?_; (repeat (first | go_big_quiet_step (fail) | quiet_step (fail))); refine wpQuiet_nil ?_; rintro _ ⟨s, rfl⟩
              have HB5 := Lib.hid (below_more hbw.out s.below)
              generalize s.w = W5 at HB5 ⊢
              go_wp2_with fail
              go_roundw
              case rel => exact ⟨j + 1, by omega, by go_num, by rw [HSJ.out]; unfold meq strEq; rw [hk1, hk2]; rfl, HB5⟩
              case measure => simp [intOf]; omega
            go_wp2_with fail
            refine wp_region_later (by kernel_rfl) (by kernel_rfl) ?_; (repeat (first | go_big_quiet_step (fail) | quiet_step (fail))); refine wpQuiet_nil ?_; rintro _ ⟨s, rfl⟩
            have HB5 := Lib.hid (below_more hbw.out s.below)
            generalize s.w = W5 at HB5 ⊢
            go_wp2_with fail
            go_roundw
            case rel => exact ⟨j + 1, by omega, by go_num, by rw [HSJ.out]; unfold meq strEq; rw [hk1, hk2]; rfl, HB5⟩
            case measure => simp [intOf]; omega
        · obtain rfl : j = n := by omega
          have HT := Lib.hid (show b.take j = b by rw [HM.out, List.take_length])
          obtain ⟨F, hF⟩ : ∃ F, (b.take j).any (fun y => meq x y) = F := ⟨_, rfl⟩
          rw [hF]
          have HFF := Lib.hid (show (b.any fun y => meq x y) = F by rw [← HT.out]; exact hF)
          clear hF
          cases F with
          | true =>
            go_wp2_with fail
            go_roundw
            case rel => exact ⟨k + 1, by omega, by go_num, Lib.hid ⟨hbw.out, by rw [HSN.out, List.all_append, HRL.out.2]; simp [HFF.out]⟩⟩
            case measure => simp [intOf]; omega
          | false =>
            have HRF := Lib.hid (show r = false by
              rw [HF.out, List.all_eq_false]
              exact ⟨x, HXM.out, by rw [HFF.out]; simp⟩)
            go_wp2_with fail
            go_ret
            exact ⟨by rw [HRF.out]; rfl, hbw.out⟩
    · obtain rfl : k = n := by omega
      have HRT := Lib.hid (show r = true by
        rw [HF.out]
        have h := hrl.out.2
        rw [HN.out, List.take_length] at h
        exact h)
      go_wp2_with fail
      go_ret
      exact ⟨by rw [HRT.out]; rfl, hrl.out.1⟩

end Go.Proofs.YtleihhkacmgofaaGreatDoor

/- Contract of the law of what Tidy and Restrict keep: it returns true. -/
namespace Go.Proofs.YtleihhkacmgofaaGreatDoor
open Go.RowKit

def largeB (l : Li) : Bool := bigB l.signs || decide (30 < l.signs.length)
theorem large_is (l : Lm) (w : World) (hl : LmOk w l) (r : Bool) (h : largeB l.li = r) :
    Calls Tryz.prog 16 #[l.val] w fun e w' => e = .returned (.bool r) ∧ Below w.heap.size w w' := by
  obtain ⟨W, hW⟩ : ∃ W, W = (w.alloc (.cells #[.int .i64 l.per, .slice l.A l.ms.length l.cap] 24)) := ⟨_, rfl⟩
  have HB := Lib.hid (show Below w.heap.size w W from hW ▸ below_alloc _ _)
  have C1 := Lib.hid (show W.heap[w.heap.size]? = some (.cells #[.int .i64 l.per, .slice l.A l.ms.length l.cap] 24 (0, 0)) by
    rw [hW]; exact heap_alloc_new _ _)
  have HL := Lib.hid (hl.below HB.out)
  have HBG := Lib.hid (fun r (h : bigB l.signs = r) => show Calls Tryz.prog 6 #[.agg #[.int .i64 l.per, .slice l.A l.ms.length l.cap]] W _ from big_is l W HL.out r h)
  have hlen := hl.len
  have hcap := hl.cap
  unfold maxLen at hcap
  clear hl
  show Calls _ _ #[.agg #[.int .i64 l.per, .slice l.A l.ms.length l.cap]] w _
  have hr : r = (bigB l.signs || decide (30 < l.ms.length)) := by
    rw [← h]; unfold largeB
    rw [show l.li.signs = l.signs from rfl, Lm.length_signs]
  obtain ⟨B, hB⟩ : ∃ B, bigB l.signs = B := ⟨_, rfl⟩
  rw [hB] at hr
  have HR := Lib.hid hr
  have HBB := Lib.hid hB
  clear hB hr h
  go_enter Tryz.func16, Tryz.ntmps16
  go_wp2_with fail
  rw [← hW]
  refine (HBG.out B HBB.out).mono ?_; rintro e w1 ⟨rfl, hb1⟩
  have x1 := cell_of_blk (blk_keep hb1 C1.out) 1
  simp at x1
  have HB1 := Lib.hid (HB.out.trans (hb1.mono HB.out.size))
  clear hb1
  cases B with
  | true =>
    have HRT := Lib.hid (show r = true by rw [HR.out]; rfl)
    go_wp2_with fail
    go_ret
    exact ⟨by rw [HRT.out]; rfl, HB1.out⟩
  | false =>
    obtain ⟨n, hn⟩ : ∃ n, n = l.ms.length := ⟨_, rfl⟩
    rw [← hn] at x1 HR hlen ⊢
    clear hn
    have HR2 := Lib.hid (show r = decide ((30 : Int) < (n : Int)) by rw [HR.out, Bool.false_or]; exact decide_eq_decide.2 (by omega))
    go_wp2_with fail
    go_ret
    exact ⟨by rw [HR2.out]; rfl, HB1.out⟩

end Go.Proofs.YtleihhkacmgofaaGreatDoor

/- Contract of the law of what Tidy and Restrict keep: it returns true. -/
namespace Go.Proofs.YtleihhkacmgofaaGreatDoor
open Go.RowKit

theorem tidyV_len (vs : List Va) (h : ∀ v ∈ vs, okV v) : (tidyV vs).length ≤ 9 * vs.length := by
  have h1 := (foldV_ok vs [] h (fun x h => by cases h)).2
  have h2 := runsR_len (pointsR [vs])
  unfold tidyV tidiedR
  have e : pointsR [vs] = vs.foldl putV [] := rfl
  rw [e] at h2 ⊢
  simp at h1
  omega

set_option maxHeartbeats 3200000 in
set_option maxRecDepth 100000 in
theorem law_kept (L : Lm) (p : Int) (w : World) (hE : Env w) (hl : LmOk w L) :
    Calls Tryz.prog 5 #[L.val, .int .i64 p] w fun e w' => e = .returned (.bool true) ∧ Below w.heap.size w w' := by
  obtain ⟨W, hW⟩ : ∃ W, W = (w.alloc (.cells #[.int .i64 L.per, .slice L.A L.ms.length L.cap] 24)) := ⟨_, rfl⟩
  have HB := Lib.hid (show Below w.heap.size w W from hW ▸ below_alloc _ _)
  have C1 := Lib.hid (show W.heap[w.heap.size]? = some (.cells #[.int .i64 L.per, .slice L.A L.ms.length L.cap] 24 (0, 0)) by
    rw [hW]; exact heap_alloc_new _ _)
  have HL := Lib.hid (hl.below HB.out)
  have HE := Lib.hid (hE.below HB.out)
  clear hl hE
  obtain ⟨B, hB⟩ : ∃ B, largeB L.li = B := ⟨_, rfl⟩
  have HBB := Lib.hid hB
  clear hB
  obtain ⟨E, hE⟩ : ∃ E, checkErr L.li = E := ⟨_, rfl⟩
  have HCE := Lib.hid hE
  clear hE
  show Calls _ _ #[.agg #[.int .i64 L.per, .slice L.A L.ms.length L.cap], .int .i64 p] w _
  have HBG := Lib.hid (fun r (h : largeB L.li = r) => show Calls Tryz.prog 16 #[.agg #[.int .i64 L.per, .slice L.A L.ms.length L.cap]] W _ from large_is L W HL.out r h)
  have HCK := Lib.hid (fun wx (hb : Below W.heap.size W wx) => show Calls Tryz.prog 17 #[.agg #[.int .i64 L.per, .slice L.A L.ms.length L.cap]] wx (fun e w' => e = .returned (.int .i64 E) ∧ Below wx.heap.size wx w') from rcheck_is L wx (HL.out.below hb) E HCE.out)
  have HWK := Lib.hid (fun w1 (hb : Below W.heap.size W w1) => works_any w1 (HE.out.below hb))
  go_enter Tryz.func5, Tryz.ntmps5
  go_wp2_with fail
  rw [← hW]
  refine (HBG.out _ HBB.out).mono ?_; rintro e w1 ⟨rfl, hb1⟩
  have B1 := Lib.hid hb1
  have x0 := cell_of_blk (blk_keep hb1 C1.out) 0
  have x1 := cell_of_blk (blk_keep hb1 C1.out) 1
  simp at x0 x1
  clear hb1 HBG hW
  cases B with
  | true =>
    go_wp2_with fail
    refine (HWK.out _ B1.out).mono ?_; rintro e w2 ⟨rfl, hb2⟩
    go_wp2
    go_ret
    exact ⟨rfl, HB.out.trans ((below_more B1.out hb2).mono HB.out.size)⟩
  | false =>
  go_wp2_with fail
  refine (HCK.out w1 B1.out).mono ?_; rintro e w2 ⟨rfl, hb2⟩
  have B2 := Lib.hid (below_more B1.out hb2)
  have y0 := cell_of_blk (blk_keep B2.out C1.out) 0
  have y1 := cell_of_blk (blk_keep B2.out C1.out) 1
  simp at y0 y1
  clear hb2 x0 x1
  by_cases h0 : E = 0
  case neg =>
    have hb : (E != 0) = true := by simpa using h0
    clear h0
    go_wp2_with fail
    refine (HWK.out _ B2.out).mono ?_; rintro e w3 ⟨rfl, hb3⟩
    go_wp2
    go_ret
    exact ⟨rfl, HB.out.trans ((below_more B2.out hb3).mono HB.out.size)⟩
  subst h0
  by_cases hp1 : p < 1
  · go_wp2_with fail
    refine (HWK.out _ B2.out).mono ?_; rintro e w3 ⟨rfl, hb3⟩
    go_wp2
    go_ret
    exact ⟨rfl, HB.out.trans ((below_more B2.out hb3).mono HB.out.size)⟩
  by_cases hp2 : L.per < p
  · go_wp2_with fail
    refine (HWK.out _ B2.out).mono ?_; rintro e w3 ⟨rfl, hb3⟩
    go_wp2
    go_ret
    exact ⟨rfl, HB.out.trans ((below_more B2.out hb3).mono HB.out.size)⟩
  have HCA := Lib.hid (check_all L.li HCE.out)
  have HOK := Lib.hid (check_okV L.li HCE.out)
  have HNL := Lib.hid (show L.ms.length ≤ 200 by have := HOK.out.1; rw [show L.li.signs = L.signs from rfl, Lm.length_signs] at this; exact this)
  have HTL := Lib.hid (show tidyL L.li = (⟨L.per, L.signs.map (sgWith tidyV)⟩, 0) by unfold tidyL; rw [HCE.out, if_neg (by simp)]; rfl)
  have HRL := Lib.hid (show restrL L.li p = (⟨1, L.signs.map (sgWith (restrV p))⟩, 0) by
    unfold restrL
    rw [HCE.out, if_neg (by simp), if_neg]
    · rfl
    · rw [show withinB p L.li.per = true by unfold withinB; rw [show L.li.per = L.per from rfl]; simp; omega]; simp)
  have HCP := Lib.hid (fun wx (hb : Below W.heap.size W wx) => show Calls Tryz.prog 9 #[.agg #[.int .i64 L.per, .slice L.A L.ms.length L.cap]] wx (GotList wx L.li) from
    copy_any L wx (HL.out.below hb) (by have := HNL.out; omega) (fun m hm => by have := (HOK.out.2.2.2 m.s (List.mem_map.2 ⟨m, hm, rfl⟩)).1; omega))
  have HT := Lib.hid (fun wx (M : Lm) (h : LmOk wx M) (hli : M.li = L.li) => show Calls Tryz.prog 8 #[M.val] wx (GotListE wx (⟨L.per, L.signs.map (sgWith tidyV)⟩, 0)) by
    rw [← HTL.out, ← hli]; exact ptidy_any M wx h)
  have HR := Lib.hid (fun wx (M : Lm) (h : LmOk wx M) (hli : M.li = L.li) => show Calls Tryz.prog 11 #[M.val, .int .i64 p] wx (GotListE wx (⟨1, L.signs.map (sgWith (restrV p))⟩, 0)) by
    rw [← HRL.out, ← hli]; exact prestrict_any M p wx h)
  go_wp2_with fail
  refine (HCP.out _ B2.out).mono ?_; rintro e w3 ⟨M3, rfl, hok, hli, hb⟩
  have Bw3 := Lib.hid (below_more B2.out hb)
  have MO3 := Lib.hid hok
  have MI3 := Lib.hid hli
  clear hb hok hli
  go_wp2_with fail
  refine (HT.out _ M3 MO3.out MI3.out).mono ?_; rintro e w4 ⟨⟨p4, m4, A4, c4⟩, rfl, hok, hli, hb⟩
  have D4 := Lib.hid (below_more Bw3.out hb)
  have hl4 : m4.length = L.ms.length := by
    have h1 := congrArg (fun l : Li => l.signs.length) hli
    simp only [Lm.li, Lm.length_signs, List.length_map] at h1
    exact h1
  have E4 := Lib.hid (show m4.map (·.s) = L.signs.map (sgWith tidyV) from congrArg (fun l : Li => l.signs) hli)
  have T4 := Lib.hid hok
  clear hli hb hok
  unfold Lm.val
  dsimp only
  rw [hl4]
  have HL4 := Lib.hid hl4
  obtain ⟨n, hn⟩ : ∃ n, n = L.ms.length := ⟨_, rfl⟩
  have HN := Lib.hid hn
  have hnl := HNL.out
  rw [← hn] at y1 C1 hnl HCP ⊢
  clear hl4 hn y0 y1
  have X4 := Lib.hid (heap_alloc_new w4 (.cells #[.int .i64 p4, .slice A4 n c4] 24))
  have BX4 := Lib.hid (below_alloc w4 (.cells #[.int .i64 p4, .slice A4 n c4] 24))
  have F4 := Lib.hid (below_more D4.out BX4.out)
  have x0 := cell_of_blk (blk_keep F4.out C1.out) 0
  have x1 := cell_of_blk (blk_keep F4.out C1.out) 1
  simp at x0 x1
  go_wp2_with fail
  refine (HCP.out _ F4.out).mono ?_; rintro e w5 ⟨M5, rfl, hok, hli, hb⟩
  have G5 := Lib.hid hb
  have Bw5 := Lib.hid (below_more F4.out hb)
  have MO5 := Lib.hid hok
  have MI5 := Lib.hid hli
  clear hb hok hli x0 x1
  go_wp2_with fail
  refine (HR.out _ M5 MO5.out MI5.out).mono ?_; rintro e w6 ⟨⟨p6, m6, A6, c6⟩, rfl, hok, hli, hb⟩
  have D6 := Lib.hid (below_more Bw5.out hb)
  have hl6 : m6.length = n := by
    have h1 := congrArg (fun l : Li => l.signs.length) hli
    simp only [Lm.li, Lm.length_signs, List.length_map] at h1
    rw [HN.out]; exact h1
  have E6 := Lib.hid (show m6.map (·.s) = L.signs.map (sgWith (restrV p)) from congrArg (fun l : Li => l.signs) hli)
  have hp6 : p6 = 1 := congrArg (fun l : Li => l.per) hli
  have T6 := Lib.hid hok
  subst hp6
  have G6 := Lib.hid hb
  clear hli hb hok
  unfold Lm.val
  dsimp only
  rw [hl6]
  have HL6 := Lib.hid hl6
  clear hl6
  have X6 := Lib.hid (heap_alloc_new w6 (.cells #[.int .i64 1, .slice A6 n c6] 24))
  have BX6 := Lib.hid (below_alloc w6 (.cells #[.int .i64 1, .slice A6 n c6] 24))
  have F6 := Lib.hid (below_more D6.out BX6.out)
  have R46 := Lib.hid (below_more (below_more G5.out G6.out) BX6.out)
  have K4 := Lib.hid (blk_keep R46.out X4.out)
  have K1 := Lib.hid (blk_keep F6.out C1.out)
  have hs4 : w4.heap.size < w6.heap.size + 1 := by have := (Array.getElem?_eq_some_iff.1 K4.out).1; simpa using this
  have a1 := cell_of_blk K4.out 1
  have x1 := cell_of_blk K1.out 1
  have hs1 : w.heap.size < w6.heap.size + 1 := by have := (Array.getElem?_eq_some_iff.1 K1.out).1; simpa using this
  simp at a1 x1
  have T46 := Lib.hid ((T4.out.below BX4.out).below R46.out)
  have T66 := Lib.hid (T6.out.below BX6.out)
  go_upto_region 7 with fail
  clear a1 x1
  generalize w6.alloc (.cells #[.int .i64 1, .slice A6 n c6] 24) = W6 at X6 F6 K4 K1 T46 T66 ⊢
  have a1 := cell_of_blk K4.out 1
  have x1 := cell_of_blk K1.out 1
  simp at a1 x1
  have hcap := HL.out.cap
  have hlen := HL.out.len
  unfold maxLen at hcap
  rw [← HN.out] at hlen
  have hc4 := T46.out.cap
  have hl4 := T46.out.len
  have hc6 := T66.out.cap
  have hl6 := T66.out.len
  unfold maxLen at hc4 hc6
  dsimp only at hc4 hl4 hc6 hl6
  rw [HL4.out, ← HN.out] at hl4
  rw [HL6.out] at hl6
  have a6 := cell_of_blk X6.out 1
  simp at a6
  have hw6 : w6.heap.size < W6.heap.size := (Array.getElem?_eq_some_iff.1 X6.out).1
  have hw4 : w4.heap.size < W6.heap.size := (Array.getElem?_eq_some_iff.1 K4.out).1
  have hw1 : w.heap.size < W6.heap.size := (Array.getElem?_eq_some_iff.1 K1.out).1
  go_wp2_with fail
  clear a1 x1 a6
  go_loopw [9] (fun i wr => ∃ k : Nat, k ≤ n ∧ i = .int .i64 k ∧ Hid (Below W6.heap.size W6 wr)) (fun i _ => n - (intOf i).toNat)
  case atStart => exact ⟨0, Nat.zero_le _, rfl, Lib.hid (Below.refl _ _)⟩
  case round =>
    obtain ⟨k, hk, rfl, hrl⟩ := hrel
    have HW := Lib.hid hrl.out
    have FX := Lib.hid (below_more F6.out HW.out)
    have x1 := cell_of_blk (blk_keep HW.out K1.out) 1
    have a1 := cell_of_blk (blk_keep HW.out K4.out) 1
    simp at x1 a1
    clear hrl
    by_cases hlt : k < n
    · have hget : L.ms[k]? = some (L.ms[k]'(by have := HN.out; omega)) := List.getElem?_eq_getElem _
      obtain ⟨u, hu⟩ : ∃ u, u = L.ms[k]'(by have := HN.out; omega) := ⟨_, rfl⟩
      rw [← hu] at hget
      obtain ⟨b, o, hA, hb1, hva, huo⟩ := HL.out.signs k u hget
      have hsb : b < wr.heap.size := by have := FX.out.size; omega
      obtain ⟨y0, y1, y2, y3, y4⟩ := hva.below FX.out hb1
      have HUO := Lib.hid (huo.below FX.out)
      have hus : L.signs[k]? = some u.s := Lm.getElem_signs hget
      have HUV := Lib.hid (HOK.out.2.2.2 u.s (List.mem_of_getElem? hus))
      have HUF := Lib.hid (HCA.out.2.2.2.1 u.s (List.mem_of_getElem? hus))
      -- the tidy sign
      have hg4 : m4[k]? = some (m4[k]'(by have := HL4.out; have := HN.out; omega)) := List.getElem?_eq_getElem _
      obtain ⟨v, hv⟩ : ∃ v, v = m4[k]'(by have := HL4.out; have := HN.out; omega) := ⟨_, rfl⟩
      rw [← hv] at hg4
      have HVS := Lib.hid (show v.s = sgWith tidyV u.s by
        have h1 : (m4.map (·.s))[k]? = some v.s := by rw [List.getElem?_map, hg4]; rfl
        rw [E4.out, List.getElem?_map, hus] at h1
        injection h1 with h1; exact h1.symm)
      obtain ⟨b4, o4, hA4, hb4, hva4, hvo4⟩ := T46.out.signs k v hg4
      dsimp only at hA4
      have hs4b : b4 < wr.heap.size := by have := HW.out.size; omega
      have HV4 := Lib.hid (And.intro hb4 hva4)
      have HVO := Lib.hid hvo4
      -- the restricted sign
      have hg6 : m6[k]? = some (m6[k]'(by have := HL6.out; omega)) := List.getElem?_eq_getElem _
      obtain ⟨x, hx⟩ : ∃ x, x = m6[k]'(by have := HL6.out; omega) := ⟨_, rfl⟩
      rw [← hx] at hg6
      have HXS := Lib.hid (show x.s = sgWith (restrV p) u.s by
        have h1 : (m6.map (·.s))[k]? = some x.s := by rw [List.getElem?_map, hg6]; rfl
        rw [E6.out, List.getElem?_map, hus] at h1
        injection h1 with h1; exact h1.symm)
      obtain ⟨b6, o6, hA6, hb6, hva6, hvo6⟩ := T66.out.signs k x hg6
      dsimp only at hA6
      have hs6b : b6 < wr.heap.size := by have := HW.out.size; omega
      have HX6 := Lib.hid (And.intro hb6 hva6)
      have HXO := Lib.hid hvo6
      subst hA4
      subst hA6
      rw [hA] at x1
      have hul := HUV.out.1
      have hvl : v.s.vals.length ≤ 1000000 := by
        rw [HVS.out]
        have h := tidyV_len u.s.vals HUV.out.2
        show (tidyV u.s.vals).length ≤ _
        omega
      have hxl : x.s.vals.length ≤ 1000000 := by
        rw [HXS.out]
        show ((usedV u.s.vals p).map oneP).length ≤ _
        rw [List.length_map]
        have := used_len u.s.vals p
        omega
      have HIU := Lib.hid (show Calls Tryz.prog 18 #[.agg #[.string u.s.code, .int .i64 u.s.wide, .int .i64 u.s.high, .bool u.s.even, .slice u.A u.s.vals.length u.cap], .int .i64 p] wr (GotValsF wr (usedV u.s.vals p)) from ruseF_any u p wr HUO.out (by omega))
      have HIV := Lib.hid (fun wx (h : Below W6.heap.size W6 wx) => show Calls Tryz.prog 18 #[.agg #[.string v.s.code, .int .i64 v.s.wide, .int .i64 v.s.high, .bool v.s.even, .slice v.A v.s.vals.length v.cap], .int .i64 p] wx (GotValsF wx (usedV v.s.vals p)) from ruseF_any v p wx (HVO.out.below h) hvl)
      have HIX := Lib.hid (fun wx (h : Below W6.heap.size W6 wx) => show Calls Tryz.prog 18 #[.agg #[.string x.s.code, .int .i64 x.s.wide, .int .i64 x.s.high, .bool x.s.even, .slice x.A x.s.vals.length x.cap], .int .i64 1] wx (GotValsF wx (usedV x.s.vals 1)) from ruseF_any x 1 wx (HXO.out.below h) hxl)
      have HA1 := Lib.hid (show alikeB (usedV u.s.vals p) (usedV v.s.vals p) = true by rw [HVS.out]; exact alike_tidy _ _ HUF.out.2.2.2.2 p)
      have HA2 := Lib.hid (show alikeB (usedV u.s.vals p) (usedV x.s.vals 1) = true by rw [HXS.out]; exact alike_restr _ p)
      have HN1 := Lib.hid (show (usedV u.s.vals p).length ≤ 1000000 by have := used_len u.s.vals p; omega)
      have HN2 := Lib.hid (show (usedV v.s.vals p).length ≤ 1000000 by have := used_len v.s.vals p; omega)
      have HN3 := Lib.hid (show (usedV x.s.vals 1).length ≤ 1000000 by have := used_len x.s.vals 1; omega)
      clear hu hget hA hva huo hb1 hus hv hg4 hva4 hvo4 hb4 hx hg6 hva6 hvo6 hb6 hul hvl hxl a1
      obtain ⟨U, hU⟩ : ∃ U, U = usedV u.s.vals p := ⟨_, rfl⟩
      rw [← hU] at HIU HA1 HA2 HN1
      clear hU
      go_wp2_with fail
      refine HIU.out.mono ?_; rintro e w7 ⟨A7, c7, rfl, hv7, hl7, hm7, hb7, -⟩
      have HV7 := Lib.hid (And.intro hv7 (And.intro hl7 hm7))
      have F7 := Lib.hid (below_more HW.out hb7)
      have a1 := cell_of_blk (blk_keep F7.out K4.out) 1
      simp at a1
      obtain ⟨z0, z1, z2, z3, z4⟩ := HV4.out.2.below F7.out HV4.out.1
      have hs74 : b4 < w7.heap.size := by have := hb7.size; omega
      clear hv7 hl7 hm7 hb7 x1 y0 y1 y2 y3 y4
      go_wp2_with fail
      refine (HIV.out w7 F7.out).mono ?_; rintro e w8 ⟨A8, c8, rfl, hv8, hl8, hm8, hb8, -⟩
      have HV8 := Lib.hid (And.intro hv8 (And.intro hl8 hm8))
      have F8 := Lib.hid (below_more F7.out hb8)
      have HV78 := Lib.hid (HV7.out.1.below hb8)
      have HAL := Lib.hid (alike_is A7 A8 c7 c8 _ _ w8 HV78.out hv8 HN1.out HN2.out HV7.out.2.1 hl8 HV7.out.2.2 hm8 true HA1.out)
      clear hv8 hl8 hm8 hb8 a1 z0 z1 z2 z3 z4
      go_wp2_with fail
      refine HAL.out.mono ?_; rintro e w9 ⟨rfl, hb9⟩
      have F9 := Lib.hid (below_more F8.out hb9)
      have HV79 := Lib.hid (HV78.out.below hb9)
      have a6 := cell_of_blk (blk_keep F9.out X6.out) 1
      simp at a6
      obtain ⟨z0, z1, z2, z3, z4⟩ := HX6.out.2.below F9.out HX6.out.1
      have hs96 : b6 < w9.heap.size := by have := F9.out.size; have := HX6.out.1; omega
      clear hb9
      go_wp2_with fail
      refine (HIX.out w9 F9.out).mono ?_; rintro e w10 ⟨A10, c10, rfl, hv10, hl10, hm10, hb10, -⟩
      have F10 := Lib.hid (below_more F9.out hb10)
      have HAL2 := Lib.hid (alike_is A7 A10 c7 c10 _ _ w10 (HV79.out.below hb10) hv10 HN1.out HN3.out HV7.out.2.1 hl10 HV7.out.2.2 hm10 true HA2.out)
      clear hv10 hl10 hm10 hb10 a6 z0 z1 z2 z3 z4
      go_wp2_with fail
      refine HAL2.out.mono ?_; rintro e w11 ⟨rfl, hb11⟩
      have F11 := Lib.hid (below_more F10.out hb11)
      clear hb11
      go_wp2_with fail
      go_roundw
      case rel => exact ⟨k + 1, by omega, by go_num, F11⟩
      case measure => simp [intOf]; omega
    · obtain rfl : k = n := by omega
      go_wp2_with fail
      refine (HWK.out _ FX.out).mono ?_; rintro e wz ⟨rfl, hbz⟩
      go_wp2
      go_ret
      exact ⟨rfl, HB.out.trans ((below_more FX.out hbz).mono HB.out.size)⟩

end Go.Proofs.YtleihhkacmgofaaGreatDoor

/- What is common to the laws' main proofs: a list opened, the tables that a row lists, and what is said behind the call. -/
namespace Go.Proofs.YtleihhkacmgofaaGreatDoor
open Go.ChangeShapes Go.WideShapes Go.ChangeAt Go.RowKit Go.Deep

theorem own : ownKnob Tryz.prog.godebug = none := by kernel_rfl
theorem laidOut : laidOutB Tryz.prog = true := by kernel_rfl
theorem cellsStr : Tryz.prog.cellsOf 9 = 1 := by kernel_rfl
theorem cellsVal : Tryz.prog.cellsOf 42 = 4 := by kernel_rfl
theorem cellsSgn : Tryz.prog.cellsOf 39 = 5 := by kernel_rfl
theorem cellsInt : Tryz.prog.cellsOf 3 = 1 := by kernel_rfl
theorem cellsBool : Tryz.prog.cellsOf 4 = 1 := by kernel_rfl
theorem cellsVals : Tryz.prog.cellsOf 36 = 1 := by kernel_rfl
theorem cellsLst : Tryz.prog.cellsOf 24 = 2 := by kernel_rfl
theorem cellsSgns : Tryz.prog.cellsOf 22 = 1 := by kernel_rfl

section
variable {H : Type} {enc : TypeId × Value → H} {W : World} {base : Nat} {spare : Nat → Bool} {held : Bool}

theorem spot_of {a : Addr} {c : Nat} {cs : List Value} (h : W.cells? base (a.add (0 * c)) c = some cs) (hc : 0 < c) : ∃ b o, a = ⟨b, o, none⟩ := by
  obtain ⟨_, hl, hat⟩ := World.cells?_some h
  obtain ⟨b, o, sp⟩ := a
  have h0 := hat 0 hc
  rw [List.getElem?_eq_getElem (by omega)] at h0
  have hsp : sp = none := by simpa [Addr.add] using World.cell?_spot h0
  exact ⟨b, o, by rw [hsp]⟩
/-- the cells of an element of a row -/
theorem elem_cells {b o i c : Nat} {cs : List Value} (h : W.cells? base ((⟨b, o, none⟩ : Addr).add (i * c)) c = some cs) (hc : 0 < c) :
    b < W.heap.size ∧ cs.length = c ∧ ∀ j, j < c → W.cell? ⟨b, o + i * c + j, none⟩ = cs[j]? := by
  obtain ⟨_, hl, hat⟩ := World.cells?_some h
  have hat' : ∀ j, j < c → W.cell? ⟨b, o + i * c + j, none⟩ = cs[j]? := fun j hj => by
    have := hat j hj
    rwa [addr_add, addr_add] at this
  refine ⟨?_, hl, hat'⟩
  have h0 := hat' 0 hc
  rw [List.getElem?_eq_getElem (by omega)] at h0
  exact cell_lt h0

theorem take1 {cs : List Value} {o : Nat} {v : Value} (h : (cs.drop o).take 1 = [v]) : cs[o]? = some v := by
  have := congrArg (·[0]?) h
  simpa [List.getElem?_take, List.getElem?_drop] using this

theorem open_va {n : Nat} {cs : List Value} {x : DataW H × List MemPlace} (h : DataW.trod enc Tryz.prog W base spare held n 42 cs = some x) :
    ∃ v : Va, cs[0]? = some (.int .i64 v.kind) ∧ cs[1]? = some (.string v.text) ∧ cs[2]? = some (.int .i64 v.fr) ∧ cs[3]? = some (.int .i64 v.to) ∧ v.text.size ≤ maxLen := by
  obtain ⟨xs, m, _, _, _, hl, hf⟩ := DataW.trod_struct Tryz.underlying42 h
  have hl : xs.length = 4 := hl
  have g := fun i (hi : i < 4) => List.getElem?_eq_getElem (l := xs) (i := i) (by omega)
  have h0 : DataW.trod enc Tryz.prog W base spare held m 3 ((cs.drop 0).take (Tryz.prog.cellsOf 3)) = some (xs[0]'(by omega)) := (hf 0 _ rfl).trans (g 0 (by omega))
  have h1 : DataW.trod enc Tryz.prog W base spare held m 9 ((cs.drop 1).take (Tryz.prog.cellsOf 9)) = some (xs[1]'(by omega)) := (hf 1 _ rfl).trans (g 1 (by omega))
  have h2 : DataW.trod enc Tryz.prog W base spare held m 3 ((cs.drop 2).take (Tryz.prog.cellsOf 3)) = some (xs[2]'(by omega)) := (hf 2 _ rfl).trans (g 2 (by omega))
  have h3 : DataW.trod enc Tryz.prog W base spare held m 3 ((cs.drop 3).take (Tryz.prog.cellsOf 3)) = some (xs[3]'(by omega)) := (hf 3 _ rfl).trans (g 3 (by omega))
  rw [cellsInt] at h0 h2 h3
  rw [cellsStr] at h1
  obtain ⟨k, e0, _, _⟩ := DataW.trod_int Tryz.underlying3 h0
  obtain ⟨t, e1, _, ht⟩ := DataW.trod_string Tryz.underlying9 h1
  obtain ⟨f, e2, _, _⟩ := DataW.trod_int Tryz.underlying3 h2
  obtain ⟨u, e3, _, _⟩ := DataW.trod_int Tryz.underlying3 h3
  exact ⟨⟨k, t, f, u⟩, take1 e0, take1 e1, take1 e2, take1 e3, ht⟩

theorem list_of {α : Type} (n : Nat) (Q : Nat → α → Prop) (h : ∀ i, i < n → ∃ x, Q i x) : ∃ l : List α, l.length = n ∧ ∀ i x, l[i]? = some x → Q i x := by
  induction n with
  | zero => exact ⟨[], rfl, fun i x h => by simp at h⟩
  | succ n ih =>
    obtain ⟨l, hl, hq⟩ := ih (fun i hi => h i (by omega))
    obtain ⟨x, hx⟩ := h n (by omega)
    refine ⟨l ++ [x], by simp [hl], fun i y hy => ?_⟩
    by_cases hi : i < n
    · rw [List.getElem?_append_left (by omega)] at hy
      exact hq i y hy
    · rw [List.getElem?_append_right (by omega), hl] at hy
      have hin : i = n := by
        by_cases e : i = n
        · exact e
        · rw [show i - n = (i - n - 1) + 1 by omega] at hy; simp at hy
      subst hin
      simp at hy
      subst hy
      exact hx

theorem open_vals {n : Nat} {cs : List Value} {x : DataW H × List MemPlace} (h : DataW.trod enc Tryz.prog W base spare held n 36 cs = some x) :
    ∃ (A : Option Addr) (vs : List Va) (cap : Nat), cs = [.slice A vs.length cap] ∧ ValsAt W A vs ∧ vs.length ≤ cap ∧ cap ≤ maxLen := by
  rcases open_slice Tryz.underlying36 h with ⟨rfl, _⟩ | ⟨a, len, cap, m, k, D, Pl, rfl, _, hl, hm, hmm, _, hi⟩
  · exact ⟨none, [], 0, rfl, ValsAt.nil _, Nat.le_refl _, Nat.zero_le _⟩
  · rw [cellsVal] at hi
    have hlm : len ≤ m := by rw [hmm]; split <;> omega
    obtain ⟨vs, hvl, hvs⟩ := list_of len (fun i (v : Va) => ∃ b o, a = ⟨b, o, none⟩ ∧ b < W.heap.size ∧ VaAt W b (o + i * 4) v) (fun i hil => by
      obtain ⟨cs0, hc0, _⟩ := hi 0 (by omega)
      obtain ⟨b, o, rfl⟩ := spot_of hc0 (by omega)
      obtain ⟨cs', hc, ht⟩ := hi i (by omega)
      obtain ⟨hb, hcl, hat⟩ := elem_cells hc (by omega)
      obtain ⟨v, e0, e1, e2, e3, es⟩ := open_va ht
      exact ⟨v, b, o, rfl, hb, ⟨(hat 0 (by omega)).trans e0, (hat 1 (by omega)).trans e1, (hat 2 (by omega)).trans e2, (hat 3 (by omega)).trans e3, es⟩⟩)
    refine ⟨some a, vs, cap, by rw [hvl], fun i v hv => ?_, by omega, hm⟩
    obtain ⟨b, o, e, hb, hva⟩ := hvs i v hv
    exact ⟨b, o, by rw [e], hb, hva⟩

theorem open_sg {n : Nat} {cs : List Value} {x : DataW H × List MemPlace} (h : DataW.trod enc Tryz.prog W base spare held n 39 cs = some x) :
    ∃ m : Sm, cs[0]? = some (.string m.s.code) ∧ cs[1]? = some (.int .i64 m.s.wide) ∧ cs[2]? = some (.int .i64 m.s.high) ∧ cs[3]? = some (.bool m.s.even) ∧ cs[4]? = some (.slice m.A m.s.vals.length m.cap) ∧ SmOk W m := by
  obtain ⟨xs, m, _, _, _, hl, hf⟩ := DataW.trod_struct Tryz.underlying39 h
  have hl : xs.length = 5 := hl
  have g := fun i (hi : i < 5) => List.getElem?_eq_getElem (l := xs) (i := i) (by omega)
  have h0 : DataW.trod enc Tryz.prog W base spare held m 9 ((cs.drop 0).take (Tryz.prog.cellsOf 9)) = some (xs[0]'(by omega)) := (hf 0 _ rfl).trans (g 0 (by omega))
  have h1 : DataW.trod enc Tryz.prog W base spare held m 3 ((cs.drop 1).take (Tryz.prog.cellsOf 3)) = some (xs[1]'(by omega)) := (hf 1 _ rfl).trans (g 1 (by omega))
  have h2 : DataW.trod enc Tryz.prog W base spare held m 3 ((cs.drop 2).take (Tryz.prog.cellsOf 3)) = some (xs[2]'(by omega)) := (hf 2 _ rfl).trans (g 2 (by omega))
  have h3 : DataW.trod enc Tryz.prog W base spare held m 4 ((cs.drop 3).take (Tryz.prog.cellsOf 4)) = some (xs[3]'(by omega)) := (hf 3 _ rfl).trans (g 3 (by omega))
  have h4 : DataW.trod enc Tryz.prog W base spare held m 36 ((cs.drop 4).take (Tryz.prog.cellsOf 36)) = some (xs[4]'(by omega)) := (hf 4 _ rfl).trans (g 4 (by omega))
  rw [cellsInt] at h1 h2
  rw [cellsStr] at h0
  rw [cellsBool] at h3
  rw [cellsVals] at h4
  obtain ⟨c, e0, _, hc⟩ := DataW.trod_string Tryz.underlying9 h0
  obtain ⟨wd, e1, _, _⟩ := DataW.trod_int Tryz.underlying3 h1
  obtain ⟨hg, e2, _, _⟩ := DataW.trod_int Tryz.underlying3 h2
  obtain ⟨ev, e3, _⟩ := DataW.trod_bool Tryz.underlying4 h3
  obtain ⟨A, vs, cap, e4, hvs, hle, hca⟩ := open_vals h4
  exact ⟨⟨⟨c, wd, hg, ev, vs⟩, A, cap⟩, take1 e0, take1 e1, take1 e2, take1 e3, take1 e4, ⟨hvs, hle, hca, hc⟩⟩

theorem open_signs {n : Nat} {cs : List Value} {x : DataW H × List MemPlace} (h : DataW.trod enc Tryz.prog W base spare held n 22 cs = some x) :
    ∃ (A : Option Addr) (ms : List Sm) (cap : Nat), cs = [.slice A ms.length cap] ∧ SignsAt W A ms ∧ ms.length ≤ cap ∧ cap ≤ maxLen := by
  rcases open_slice Tryz.underlying22 h with ⟨rfl, _⟩ | ⟨a, len, cap, m, k, D, Pl, rfl, _, hl, hm, hmm, _, hi⟩
  · exact ⟨none, [], 0, rfl, fun i v hv => by simp at hv, Nat.le_refl _, Nat.zero_le _⟩
  · rw [cellsSgn] at hi
    have hlm : len ≤ m := by rw [hmm]; split <;> omega
    obtain ⟨ms, hvl, hvs⟩ := list_of len (fun i (v : Sm) => ∃ b o, a = ⟨b, o, none⟩ ∧ b < W.heap.size ∧ SmAt W b (o + i * 5) v ∧ SmOk W v) (fun i hil => by
      obtain ⟨cs0, hc0, _⟩ := hi 0 (by omega)
      obtain ⟨b, o, rfl⟩ := spot_of hc0 (by omega)
      obtain ⟨cs', hc, ht⟩ := hi i (by omega)
      obtain ⟨hb, hcl, hat⟩ := elem_cells hc (by omega)
      obtain ⟨v, e0, e1, e2, e3, e4, eo⟩ := open_sg ht
      exact ⟨v, b, o, rfl, hb, ⟨(hat 0 (by omega)).trans e0, (hat 1 (by omega)).trans e1, (hat 2 (by omega)).trans e2, (hat 3 (by omega)).trans e3, (hat 4 (by omega)).trans e4⟩, eo⟩)
    refine ⟨some a, ms, cap, by rw [hvl], fun i v hv => ?_, by omega, hm⟩
    obtain ⟨b, o, e, hb, hva⟩ := hvs i v hv
    exact ⟨b, o, by rw [e], hb, hva⟩

set_option maxRecDepth 100000 in
theorem open_list {r : Reach} {b0 : Nat} {v : Value} {d : DataW H} {p : List MemPlace} (hv : Value.okWide Tryz.prog W r b0 24 v) (h : DataW.Trod enc Tryz.prog W base spare held 24 v d p) :
    ∃ L : Lm, v = L.val ∧ LmOk W L := by
  obtain ⟨v0, v1, y0, y1, n, rfl, _, _, t0, t1⟩ := Joins.open_agg2 Tryz.underlying24 (by kernel_rfl) cellsLst hv h
  obtain ⟨per, e0, _, _⟩ := DataW.trod_int Tryz.underlying3 t0
  obtain ⟨A, ms, cap, e1, hs, hl, hc⟩ := open_signs t1
  injection e0 with e0
  injection e1 with e1
  subst e0 e1
  exact ⟨⟨per, ms, A, cap⟩, rfl, hs, hl, hc⟩

/-- arguments that read behind the call as they read before -/
theorem args_stay {P : Program} (hl : laidOutB P = true) {W' : World} {sp : Nat → Bool} (hb : Below W.heap.size W W') : ∀ {ts : List TypeId} {vs : List Value} {ds : List (DataW H)} {ps : List MemPlace}, (∀ t ∈ ts, P.readableRec t = true ∧ t < P.types.size) →
    DataW.TrodAll enc P W 0 (fun _ => true) true ts vs ds ps → (∀ x ∈ ps, x.block < W.heap.size) → (∀ x ∈ ps, sp x.block = true) → DataW.TrodAll enc P W' 0 sp true ts vs ds ps
  | [], [], [], _, _, h, _, _ => h
  | _ :: _, _ :: _, _ :: _, _, hr, ⟨p, q, h1, h2, e⟩, hlt, hs =>
    have hr0 := hr _ (List.mem_cons.2 (Or.inl rfl))
    ⟨p, q, WideElems.Trod_stays hl hr0.1 hr0.2 h1 (fun x hx => hb.same (hlt x (by rw [e]; exact List.mem_append_left _ hx))) (fun x hx => hs x (by rw [e]; exact List.mem_append_left _ hx)),
      args_stay hl hb (fun t ht => hr t (List.mem_cons.2 (Or.inr ht))) h2 (fun x hx => hlt x (by rw [e]; exact List.mem_append_right _ hx)) (fun x hx => hs x (by rw [e]; exact List.mem_append_right _ hx)), e⟩

set_option maxRecDepth 100000 in
/-- what is said behind a call that returns true and turns nothing of what was there -/
theorem post_true {f : Func} {s : ChangeSpec} {W' : World} {args : Array Value} {ds gs : List (DataW H)} {before : List MemPlace} (hW : DataW.Whole enc Tryz.prog f.params.toList s.vars false W args.toList ds gs before)
    (hv : s.vars = []) (hr : (f.params.toList.all fun t => Tryz.prog.readableRec t && decide (t < Tryz.prog.types.size)) = true) (hres : f.resultTypes = #[4])
    (h1 : (s.fn H (ds ++ gs)).results = [.lit (.bool true)]) (h2 : (s.fn H (ds ++ gs)).args = ds) (h3 : (s.fn H (ds ++ gs)).vars = []) (hb : Below W.heap.size W W') :
    s.post enc Tryz.prog f false true false false W args (.bool true) W' := by
  obtain ⟨p, q, hA, hV, hpq, hfz, hnd⟩ := id hW
  rw [hv] at hV
  obtain ⟨hgs, hq⟩ := trodVars_none hV
  have hlt : ∀ x ∈ p, x.block < W.heap.size := DataW.TrodAll.lt hA
  refine ⟨ds, gs, before, [], p, [], hW, ?_, ?_, ?_, hb.frame _, fun h => by cases h⟩
  · rw [h1, hres]
    exact trodAll_cons_mk (shut_bool Tryz.underlying4 _) trodAll_mk0
  · rw [h2]
    exact args_stay laidOut hb (fun t ht => by have := List.all_eq_true.1 hr t ht; simpa only [Bool.and_eq_true, decide_eq_true_eq] using this) hA hlt (fun x hx => decide_eq_true (hlt x hx))
  · rw [h3, hv]; rfl
end
end Go.Proofs.YtleihhkacmgofaaGreatDoor

/- From the tables that the rows list to what the walks read of them; and a world that holds them. -/
namespace Go.Proofs.YtleihhkacmgofaaGreatDoor
open Go.ChangeShapes Go.WideShapes Go.ChangeAt Go.RowKit Go.Deep

theorem gKind : Tryz.prog.globalNamed "ostracon/signs.kindLetters" = some 1 := by kernel_rfl
theorem tPow : (Tryz.prog.globals[2]?).map (·.type) = some 132 := by kernel_rfl
theorem tKind : (Tryz.prog.globals[1]?).map (·.type) = some 130 := by kernel_rfl
theorem cellsPow : Tryz.prog.cellsOf 132 = 20 := by kernel_rfl
theorem cellsKind : Tryz.prog.cellsOf 130 = 4 := by kernel_rfl
theorem cellsU64 : Tryz.prog.cellsOf 113 = 1 := by kernel_rfl

/-- the tables that the rows list -/
def tables : List (String × DataW Unit) := Rows.signsTidiesRow.laid

theorem str_of {W : World} {n : Nat} {c : Value} {bs : List UInt8} {p : List MemPlace} (h : DataW.trod (fun _ => ()) Tryz.prog W 0 (fun _ => true) false n 9 [c] = some (.lit (.string bs), p)) : c = .string ⟨bs.toArray⟩ := by
  obtain ⟨s, e, hx, _⟩ := DataW.trod_string Tryz.underlying9 h
  injection e with e _
  injection hx with h1 _
  injection h1 with h1
  injection h1 with h1
  rw [e, h1]

theorem env_of {W : World} (h : laidMetH Tryz.prog tables W) (hs : W.ShapedOpen Tryz.prog) : Env W := by
  rw [MakeChecks.laidMetH_plain _ _ _ (by kernel_rfl)] at h
  obtain ⟨_, ⟨_, _, _, _, _, _, _, _, _, _, ⟨_, _, _, _, _, _, _, _, _, _, ⟨g3, t3, c3, f3, p3, q3, hg3, ht3, hv3, hd3, ⟨_, _, _, _, _, _, _, _, _, _, ⟨g5, t5, c5, f5, p5, q5, hg5, ht5, hv5, hd5, _, _⟩, _⟩, _⟩, _⟩, _⟩, _⟩ := h
  have hgp := gPow
  obtain rfl := Option.some.inj (hgp.symm.trans hg3)
  obtain rfl := Option.some.inj (tPow.symm.trans ht3)
  obtain rfl := Option.some.inj (gKind.symm.trans hg5)
  obtain rfl := Option.some.inj (tKind.symm.trans ht5)
  have hpow : c3.toList = Lib.pow10Tab.map fun z => Value.int .u64 z := Lib.cells_of_tab Tryz.underlying132 Tryz.underlying113 cellsU64 cellsPow hd3
  obtain ⟨xs, m, _, hx, hl, hxl, hf⟩ := DataW.trod_array Tryz.underlying130 hd5
  rw [cellsStr] at hf
  rw [cellsKind] at hl
  have key : ∀ (i : Nat) (bs : List UInt8), i < 4 → (xs.map (·.1))[i]? = some (.lit (.string bs)) → W.cell? ⟨1, i, none⟩ = some (.string ⟨bs.toArray⟩) := fun i bs hi hb => by
    have h1 := hf i hi
    rw [Nat.mul_one] at h1
    rw [List.getElem?_map, Option.map_eq_some_iff] at hb
    obtain ⟨⟨y, py⟩, hy, hyb⟩ := hb
    rw [hy] at h1
    dsimp only at hyb
    subst hyb
    have hc : c5[i]? = some (.string ⟨bs.toArray⟩) := by
      have hi' : i < c5.toList.length := by omega
      have hd : (c5.toList.drop i).take 1 = [c5.toList[i]] := by rw [List.drop_eq_getElem_cons hi']; rfl
      rw [hd] at h1
      have := str_of h1
      rw [← this, ← Array.getElem?_toList, List.getElem?_eq_getElem hi']
    exact (World.var?_cell gKind hv5 i).trans hc
  have hxl : xs.map (·.1) = [.lit (.string []), .lit (.string [115]), .lit (.string [119]), .lit (.string [99])] := by
    have := congrArg Prod.fst hx
    injection this with this
    exact this.symm
  refine ⟨hs, ?_, ?_, ?_, ?_⟩
  · exact key 1 _ (by omega) (by rw [hxl]; rfl)
  · exact key 2 _ (by omega) (by rw [hxl]; rfl)
  · exact key 3 _ (by omega) (by rw [hxl]; rfl)
  · unfold Lib.TabIs
    rw [hv3, ← hpow]

/-- the cells of a table of numbers or strings, of such tables -/
def flat1 : DataW Unit → List Value
  | .lit (.int k n) => [.int k n]
  | .lit (.string bs) => [.string ⟨bs.toArray⟩]
  | _ => []
def flat2 : DataW Unit → List Value
  | .agg xs => xs.flatMap fun
    | .agg ys => ys.flatMap flat1
    | d => flat1 d
  | _ => []
/-- a block's cells for the table -/
def put (d : DataW Unit) : Obj → Obj
  | .cells _ t frozen => .cells (flat2 d).toArray t frozen
  | o => o

/-- A world for the witnesses: the settled one, each table holding what the rows list. -/
noncomputable def laidWorld (os : Os) : World :=
  { World.holding Tryz.prog os ⟨#[], #[], []⟩ with heap := ((((((World.holding Tryz.prog os ⟨#[], #[], []⟩).heap.modify 3 (put Rows.laid_math_bits_deBruijn32tab)).modify 4 (put Rows.laid_math_bits_deBruijn64tab)).modify 2 (put Rows.laid_internal_strconv_uint64pow10)).modify 6 (put Rows.laid_unicode_utf8_acceptRanges)).modify 1 (put Rows.laid_ostracon_signs_kindLetters)).modify 5 (put Rows.laid_unicode_utf8_first) }
end Go.Proofs.YtleihhkacmgofaaGreatDoor
