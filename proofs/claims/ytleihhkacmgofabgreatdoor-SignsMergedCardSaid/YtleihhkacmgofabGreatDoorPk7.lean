/-
  Contract of the law of Tidy and Restrict: it returns true. And what builds on it.
-/
import Derived.Test.YtleihhkacmgofabGreatDoorPk6
import Derived.Test.YtleihhkacmgofabGreatDoorShelfb
import Derived.Shelf.Spec.SlicesGrow
import Derived.Deep.RegionWith
import Derived.Deep.RegionHeld3

/- Contract of the law of Tidy and Restrict: it returns true. -/
namespace Go.Proofs.YtleihhkacmgofabGreatDoor
open Go.RowKit

def smallL (X : Li) : Prop := X.signs.length ≤ 1000000 ∧ ∀ s ∈ X.signs, s.vals.length ≤ 1000000
theorem small_ms {M : Lm} {X : Li} (h : M.li = X) (hs : smallL X) : M.ms.length ≤ 1000000 ∧ ∀ m ∈ M.ms, m.s.vals.length ≤ 1000000 := by
  subst h
  exact ⟨by have := hs.1; rwa [show M.li.signs = M.signs from rfl, Lm.length_signs] at this, fun m hm => hs.2 m.s (List.mem_map.2 ⟨m, hm, rfl⟩)⟩
theorem rsame_true (P Q : Lm) (X : Li) (w : World) (h1 : LmOk w P) (h2 : LmOk w Q) (e1 : P.li = X) (e2 : Q.li = X) (hs : smallL X) : Calls Tryz.prog 10 #[P.val, Q.val] w fun e w' => e = .returned (.bool true) ∧ Below w.heap.size w w' := by
  have a1 := small_ms e1 hs
  have a2 := small_ms e2 hs
  have := rsame_any P Q w h1 h2 a2.2 a1.2 a2.1 a1.1
  rw [e1, e2, liEq_refl] at this
  exact this
theorem runStep_len (out : List Va) (v : Va) : (runStep out v).length ≤ out.length + 1 := by
  rcases snoc_cases out with rfl | ⟨i, l, rfl⟩
  · exact Nat.le_refl _
  · by_cases hj : (meq l v && (l.to + 1 == v.fr)) = true
    · rw [runStep_join _ _ _ hj]; simp
    · rw [runStep_add _ _ _ (by simpa using hj)]; simp
theorem runsR_len (l : List Va) : (runsR l).length ≤ l.length := by
  suffices H : ∀ (l out : List Va), (l.foldl runStep out).length ≤ out.length + l.length by have := H l []; simpa [runsR] using this
  intro l
  induction l with
  | nil => intro out; simp
  | cons v l ih => intro out; have h1 := ih (runStep out v); have h2 := runStep_len out v; simp only [List.foldl_cons, List.length_cons]; omega
theorem tidiedR_len (ss : List (List Va)) (h : ∀ vs ∈ ss, vs.length ≤ 20 ∧ ∀ v ∈ vs, okV v) : (tidiedR ss).length ≤ 180 * ss.length := by
  have h1 := (foldSS_ok ss [] h (fun x h => by cases h)).2
  have h2 := runsR_len (pointsR ss)
  unfold tidiedR
  unfold pointsR at *
  simp at h1
  omega
theorem small_tidy (l : Li) : smallL (tidyL l).1 := by
  unfold tidyL
  split
  · exact ⟨by simp, fun s h => by cases h⟩
  · rename_i h
    have h0 := check_okV l (by simpa using h)
    refine ⟨by simp; omega, fun s hs => ?_⟩
    obtain ⟨s', hs', rfl⟩ := List.mem_map.1 hs
    have h1 := h0.2.2.2 s' hs'
    have h2 := tidiedR_len [s'.vals] (fun vs hvs => by simp at hvs; subst hvs; exact ⟨by omega, h1.2⟩)
    show (tidiedR [s'.vals]).length ≤ _
    simp at h2
    omega
theorem small_restr (l : Li) (p : Int) : smallL (restrL l p).1 := by
  unfold restrL
  split
  · exact ⟨by simp, fun s h => by cases h⟩
  · rename_i h
    split
    · exact ⟨by simp, fun s h => by cases h⟩
    · have h0 := check_okV l (by simpa using h)
      refine ⟨by simp; omega, fun s hs => ?_⟩
      obtain ⟨s', hs', rfl⟩ := List.mem_map.1 hs
      have h1 := (h0.2.2.2 s' hs').1
      have h2 : (usedV s'.vals p).length ≤ s'.vals.length := List.length_filter_le _ _
      show ((usedV s'.vals p).map oneP).length ≤ _
      rw [List.length_map]
      omega

end Go.Proofs.YtleihhkacmgofabGreatDoor

/- Merge, plain: two lists united; the one error that the union of valid lists can have. -/
namespace Go.Proofs.YtleihhkacmgofabGreatDoor

/-- the values that a code has in signs -/
def extraV (ks : List Sg) (c : ByteArray) : List Va := ks.flatMap fun t => if strEq t.code c then t.vals else []
def joinS (ks : List Sg) (s : Sg) : Sg := sgWith (· ++ extraV ks s.code) s
def hasC (l : List Sg) (c : ByteArray) : Bool := l.any fun s => strEq s.code c
def newS (ls ks : List Sg) : List Sg := ks.filter fun t => !hasC ls t.code
def unionS (ls ks : List Sg) : List Sg := ls.map (joinS ks) ++ newS ls ks
/-- a code has two shapes -/
def clash (ls ks : List Sg) : Bool := ks.any fun t => ls.any fun s => strEq s.code t.code && !shapeEq s t
def unionL (a b : Li) : Li := ⟨max a.per b.per, (unionS a.signs b.signs).map (sgWith tidyV)⟩
def mergeL (a b : Li) : Li × Int :=
  if checkErr a ≠ 0 then (⟨0, []⟩, checkErr a) else if checkErr b ≠ 0 then (⟨0, []⟩, checkErr b)
  else if clash a.signs b.signs = true then (⟨0, []⟩, 11) else if checkErr (unionL a b) ≠ 0 then (⟨0, []⟩, checkErr (unionL a b)) else (unionL a b, 0)

theorem strEq_is (a b : ByteArray) : strEq a b = true ↔ a = b := by
  have := strEq_txt ⟨0, a, 0, 0⟩ ⟨0, b, 0, 0⟩
  exact this
theorem strEq_no (a b : ByteArray) : strEq a b = false ↔ a ≠ b := by
  rw [← Bool.not_eq_true, strEq_is]
/-- no two signs have one code -/
def apartC (l : List Sg) : Prop := l.Pairwise fun s t => strEq s.code t.code = false

/-- what a valid list keeps -/
theorem vals_all (p : Int) : ∀ (vs done : List Va), valsErr p done vs = 0 → ∀ v ∈ vs, kindB v.kind = true ∧ textB v.kind v.text = true ∧ 1 ≤ v.fr ∧ v.fr ≤ v.to ∧ v.to ≤ p
  | [], _, _, v, hv => by cases hv
  | x :: r, done, h, v, hv => by
    rw [valsErr] at h
    split at h
    · rename_i h0
      rcases List.mem_cons.1 hv with rfl | hv
      · unfold valErr at h0
        split at h0
        · cases h0
        · rename_i h1
          split at h0
          · cases h0
          · rename_i h2
            have h3 : kindB v.kind = true ∧ textB v.kind v.text = true := by
              cases hk : kindB v.kind <;> cases ht : textB v.kind v.text <;> simp_all
            exact ⟨h3.1, h3.2, by omega, by omega, by omega⟩
      · exact vals_all p r _ h v hv
    · rename_i h0; exact absurd h h0
theorem vals_zero (p : Int) : ∀ (vs done : List Va), (∀ v ∈ vs, kindB v.kind = true ∧ textB v.kind v.text = true ∧ 1 ≤ v.fr ∧ v.fr ≤ v.to ∧ v.to ≤ p) → (∀ v ∈ vs, ∀ d ∈ done, collideB d v = false) → vs.Pairwise (fun a b => collideB a b = false) → valsErr p done vs = 0
  | [], _, _, _, _ => rfl
  | x :: r, done, h, hd, hp => by
    have hx := h x (by simp)
    have hany : done.any (fun b => collideB b x) = false := by
      rw [List.any_eq_false]
      intro d hd1
      rw [hd x (by simp) d hd1]; simp
    have h0 : valErr x done p = 0 := by
      unfold valErr
      rw [hx.1, hx.2.1, if_neg (by simp), if_neg (by omega), hany]
      rfl
    rw [valsErr, if_pos h0]
    refine vals_zero p r _ (fun v hv => h v (by simp [hv])) (fun v hv d hd1 => ?_) (List.pairwise_cons.1 hp).2
    rcases List.mem_append.1 hd1 with hd1 | hd1
    · exact hd v (by simp [hv]) d hd1
    · simp at hd1; subst hd1; exact (List.pairwise_cons.1 hp).1 v hv

/-- what is asked of a sign by itself -/
def fineS (p : Int) (s : Sg) : Prop := codeB s.code = true ∧ withinB s.wide 12 = true ∧ withinB s.high 12 = true ∧ s.vals.length ≤ 12 ∧ valsErr p [] s.vals = 0
theorem signs_all (p : Int) : ∀ (r done : List Sg), signsErr p done r = 0 → (∀ s ∈ r, fineS p s ∧ ∀ d ∈ done, strEq d.code s.code = false) ∧ apartC r
  | [], _, _ => ⟨fun s h => (by cases h), List.Pairwise.nil⟩
  | x :: r, done, h => by
    rw [signsErr] at h
    split at h
    · cases h
    · rename_i hc
      split at h
      · rename_i h0
        have ih := signs_all p r _ h
        have hx : fineS p x ∧ ∀ d ∈ done, strEq d.code x.code = false := by
          have hc2 : codeB x.code = true ∧ (done.any fun d => strEq d.code x.code) = false := by
            cases h1 : codeB x.code <;> cases h2 : (done.any fun d => strEq d.code x.code) <;> simp_all
          unfold signErr at h0
          split at h0
          · cases h0
          · rename_i hw
            split at h0
            · cases h0
            · have hw2 : withinB x.wide 12 = true ∧ withinB x.high 12 = true := by
                cases h1 : withinB x.wide 12 <;> cases h2 : withinB x.high 12 <;> simp_all
              refine ⟨⟨hc2.1, hw2.1, hw2.2, by omega, h0⟩, fun d hd => ?_⟩
              have := (List.any_eq_false.1 hc2.2) d hd
              simpa using this
        refine ⟨fun s hs => ?_, List.pairwise_cons.2 ⟨fun s hs => ?_, ih.2⟩⟩
        · rcases List.mem_cons.1 hs with rfl | hs
          · exact hx
          · exact ⟨(ih.1 s hs).1, fun d hd => (ih.1 s hs).2 d (by simp [hd])⟩
        · exact (ih.1 s hs).2 x (by simp)
      · rename_i h0; exact absurd h h0
/-- signs that are fine but for the number of their values have no other error -/
theorem signs_two (p : Int) : ∀ (r done : List Sg), (∀ s ∈ r, codeB s.code = true ∧ withinB s.wide 12 = true ∧ withinB s.high 12 = true ∧ valsErr p [] s.vals = 0) → (∀ s ∈ r, ∀ d ∈ done, strEq d.code s.code = false) → apartC r → signsErr p done r = 0 ∨ signsErr p done r = 2
  | [], _, _, _, _ => .inl rfl
  | x :: r, done, h, hd, hp => by
    have hx := h x (by simp)
    have hany : (done.any fun d => strEq d.code x.code) = false := by
      rw [List.any_eq_false]
      intro d hd1
      rw [hd x (by simp) d hd1]; simp
    rw [signsErr, if_neg (by rw [hx.1, hany]; simp)]
    split
    · refine signs_two p r _ (fun s hs => h s (by simp [hs])) (fun s hs d hd1 => ?_) (List.pairwise_cons.1 hp).2
      rcases List.mem_append.1 hd1 with hd1 | hd1
      · exact hd s (by simp [hs]) d hd1
      · simp at hd1; subst hd1; exact (List.pairwise_cons.1 hp).1 s hs
    · rename_i h0
      refine .inr ?_
      unfold signErr at h0 ⊢
      rw [hx.2.1, hx.2.2.1, if_neg (by simp)] at h0 ⊢
      by_cases h12 : 12 < x.vals.length
      · rw [if_pos h12]
      · rw [if_neg h12] at h0
        exact absurd hx.2.2.2 h0
theorem check_all (l : Li) (h : checkErr l = 0) : l.signs.length ≤ 200 ∧ 1 ≤ l.per ∧ l.per ≤ 9 ∧ (∀ s ∈ l.signs, fineS l.per s) ∧ apartC l.signs := by
  obtain ⟨h1, h2, h3, _⟩ := check_okV l h
  unfold checkErr at h
  split at h
  · cases h
  · split at h
    · cases h
    · have := signs_all _ _ _ h
      exact ⟨h1, h2, h3, fun s hs => (this.1 s hs).1, this.2⟩

/-- Tidy gives longest stretches that cover the same -/
theorem tidiedR_canon (ss : List (List Va)) : canon (tidiedR ss) ∧ ∀ m p, cov (tidiedR ss) m p ↔ cov ss.flatten m p := by
  obtain ⟨hp, hc⟩ := pointsR_ok ss
  unfold tidiedR runsR
  rw [run_fold _ _ (fun x h => by cases h) hp]
  have := mergeR_canon (pointsR ss) (points_sorted hp) (fun v h => by have := hp.2 v h; omega)
  exact ⟨this.1, fun m p => (this.2 m p).trans (hc m p)⟩
theorem gap_free {a b : Va} (h : gap a b) : collideB a b = false := by
  unfold collideB
  rcases h with h | ⟨_, h⟩
  · have := mlt_not_meq h
    unfold meq at this
    rw [this]; rfl
  · have h1 : decide (b.fr ≤ a.to) = false := by simp; omega
    rw [h1]; simp
/-- values in bounds, made tidy, are without error -/
theorem tidyV_fine (p : Int) (vs : List Va) (h : ∀ v ∈ vs, kindB v.kind = true ∧ textB v.kind v.text = true ∧ 1 ≤ v.fr ∧ v.fr ≤ v.to ∧ v.to ≤ p) : valsErr p [] (tidyV vs) = 0 := by
  obtain ⟨hcan, hcov⟩ := tidiedR_canon [vs]
  refine vals_zero p _ _ (fun v hv => ?_) (fun v _ d hd => by cases hd) (hcan.1.imp fun hab => gap_free hab)
  have hle := hcan.2 v hv
  have hc : ∀ q, v.fr ≤ q → q ≤ v.to → ∃ x ∈ vs, meq x v = true ∧ x.fr ≤ q ∧ q ≤ x.to := fun q h1 h2 => by
    have h3 : cov (tidiedR [vs]) v q := ⟨v, hv, meq_refl v, h1, h2⟩
    rw [hcov] at h3
    obtain ⟨x, hx, h4, h5, h6⟩ := h3
    exact ⟨x, by simpa using hx, h4, h5, h6⟩
  obtain ⟨x, hx, hm, h1, h2⟩ := hc v.fr (Int.le_refl _) hle
  obtain ⟨y, hy, _, h4, h5⟩ := hc v.to hle (Int.le_refl _)
  have hxx := h x hx
  have hyy := h y hy
  rw [meq_iff] at hm
  rw [← hm.1, ← hm.2]
  exact ⟨hxx.1, hxx.2.1, by omega, hle, by omega⟩

theorem extra_mem {ks : List Sg} {c : ByteArray} {v : Va} (h : v ∈ extraV ks c) : ∃ t ∈ ks, v ∈ t.vals := by
  unfold extraV at h
  obtain ⟨t, ht, hv⟩ := List.mem_flatMap.1 h
  split at hv
  · exact ⟨t, ht, hv⟩
  · cases hv
theorem code_with (f : List Va → List Va) (l : List Sg) : apartC (l.map (sgWith f)) ↔ apartC l := by
  unfold apartC
  rw [List.pairwise_map]
  rfl
theorem union_apart {ls ks : List Sg} (ha : apartC ls) (hb : apartC ks) : apartC (unionS ls ks) := by
  unfold unionS apartC newS
  refine List.pairwise_append.2 ⟨?_, hb.filter _, fun s hs t ht => ?_⟩
  · rw [List.pairwise_map]; exact ha
  · obtain ⟨x, hx, rfl⟩ := List.mem_map.1 hs
    obtain ⟨_, h2⟩ := List.mem_filter.1 ht
    have h3 : hasC ls t.code = false := by simpa using h2
    unfold hasC at h3
    have := (List.any_eq_false.1 h3) x hx
    simpa [joinS, sgWith] using this
/-- The union of valid lists has no error but its size. -/
theorem union_two (a b : Li) (ha : checkErr a = 0) (hb : checkErr b = 0) : checkErr (unionL a b) = 0 ∨ checkErr (unionL a b) = 2 := by
  obtain ⟨_, a2, a3, a4, a5⟩ := check_all a ha
  obtain ⟨_, b2, b3, b4, b5⟩ := check_all b hb
  unfold checkErr
  split
  · exact .inr rfl
  · have hw : withinB (unionL a b).per 9 = true := by
      unfold withinB unionL; dsimp only; simp; omega
    rw [hw, if_neg (by simp)]
    refine signs_two _ _ _ (fun s hs => ?_) (fun s _ d hd => by cases hd) ?_
    · unfold unionL at hs ⊢
      dsimp only at hs ⊢
      obtain ⟨u, hu, rfl⟩ := List.mem_map.1 hs
      have hin : codeB u.code = true ∧ withinB u.wide 12 = true ∧ withinB u.high 12 = true ∧ ∀ v ∈ u.vals, kindB v.kind = true ∧ textB v.kind v.text = true ∧ 1 ≤ v.fr ∧ v.fr ≤ v.to ∧ v.to ≤ max a.per b.per := by
        have hva : ∀ x ∈ a.signs, ∀ v ∈ x.vals, kindB v.kind = true ∧ textB v.kind v.text = true ∧ 1 ≤ v.fr ∧ v.fr ≤ v.to ∧ v.to ≤ max a.per b.per := fun x hx v hv => by
          have := vals_all _ _ _ (a4 x hx).2.2.2.2 v hv
          exact ⟨this.1, this.2.1, this.2.2.1, this.2.2.2.1, by have := this.2.2.2.2; omega⟩
        have hvb : ∀ x ∈ b.signs, ∀ v ∈ x.vals, kindB v.kind = true ∧ textB v.kind v.text = true ∧ 1 ≤ v.fr ∧ v.fr ≤ v.to ∧ v.to ≤ max a.per b.per := fun x hx v hv => by
          have := vals_all _ _ _ (b4 x hx).2.2.2.2 v hv
          exact ⟨this.1, this.2.1, this.2.2.1, this.2.2.2.1, by have := this.2.2.2.2; omega⟩
        rcases List.mem_append.1 hu with hu | hu
        · obtain ⟨x, hx, rfl⟩ := List.mem_map.1 hu
          obtain ⟨h1, h2, h3, _⟩ := a4 x hx
          refine ⟨h1, h2, h3, fun v hv => ?_⟩
          rcases List.mem_append.1 (show v ∈ x.vals ++ extraV b.signs x.code from hv) with hv | hv
          · exact hva x hx v hv
          · obtain ⟨t, ht, hv⟩ := extra_mem hv
            exact hvb t ht v hv
        · have hx := (List.mem_filter.1 hu).1
          obtain ⟨h1, h2, h3, _⟩ := b4 u hx
          exact ⟨h1, h2, h3, fun v hv => hvb u hx v hv⟩
      exact ⟨hin.1, hin.2.1, hin.2.2.1, tidyV_fine _ _ hin.2.2.2⟩
    · unfold unionL
      dsimp only
      rw [code_with]
      exact union_apart a5 b5

/-- one sign more of the other list -/
theorem extra_snoc (ks : List Sg) (t : Sg) (c : ByteArray) : extraV (ks ++ [t]) c = extraV ks c ++ (if strEq t.code c then t.vals else []) := by
  unfold extraV; rw [List.flatMap_append]; simp
theorem union_new (ls ks : List Sg) (t : Sg) (h : hasC ls t.code = false) : unionS ls (ks ++ [t]) = unionS ls ks ++ [t] := by
  unfold unionS newS
  rw [List.filter_append, ← List.append_assoc]
  congr 1
  · congr 1
    refine List.map_congr_left fun s hs => ?_
    unfold joinS
    rw [extra_snoc]
    have := (List.any_eq_false.1 h) s hs
    have hne : strEq t.code s.code = false := by
      rw [strEq_no]
      intro e
      apply this
      rw [strEq_is, e]
    rw [hne]; simp
  · simp [h]
theorem union_old (ls ks : List Sg) (t : Sg) (ha : apartC ls) (i : Nat) (s : Sg) (hi : ls[i]? = some s) (hs : strEq s.code t.code = true) :
    unionS ls (ks ++ [t]) = (unionS ls ks).set i (sgWith (· ++ t.vals) (joinS ks s)) ∧ (unionS ls ks)[i]? = some (joinS ks s) := by
  obtain ⟨hlt, hie⟩ := List.getElem?_eq_some_iff.1 hi
  have hn : hasC ls t.code = true := List.any_eq_true.2 ⟨s, List.mem_of_getElem? hi, hs⟩
  have hnew : newS ls (ks ++ [t]) = newS ls ks := by unfold newS; rw [List.filter_append]; simp [hn]
  refine ⟨?_, ?_⟩
  · unfold unionS
    rw [hnew, List.set_append_left _ _ (by simpa using hlt)]
    congr 1
    apply List.ext_getElem?
    intro j
    by_cases hj : j = i
    · subst hj
      rw [List.getElem?_set_self (by simpa using hlt), List.getElem?_map, hi]
      simp only [Option.map_some, joinS, extra_snoc]
      have hts : strEq t.code s.code = true := by rw [strEq_is] at hs ⊢; exact hs.symm
      rw [hts]
      simp [sgWith]
    · rw [List.getElem?_set_ne (fun e => hj e.symm), List.getElem?_map, List.getElem?_map]
      cases hg : ls[j]? with
      | none => rfl
      | some x =>
        simp only [Option.map_some, joinS, extra_snoc]
        have hne : strEq t.code x.code = false := by
          rw [strEq_no]
          intro e
          rw [strEq_is] at hs
          have hjl := (List.getElem?_eq_some_iff.1 hg)
          have hp : ∀ (p q : Nat) (hp : p < ls.length) (hq : q < ls.length), p < q → strEq ls[p].code ls[q].code = false := fun p q hp hq hpq => List.pairwise_iff_getElem.1 ha p q hp hq hpq
          obtain ⟨hj1, hj2⟩ := hjl
          rcases Nat.lt_or_gt_of_ne hj with hlt2 | hlt2
          · have := hp j i hj1 hlt hlt2
            rw [hj2, hie, strEq_no] at this
            exact this (by rw [hs, e])
          · have := hp i j hlt hj1 hlt2
            rw [hj2, hie, strEq_no] at this
            exact this (by rw [hs, e])
        rw [hne]; simp
  · unfold unionS
    rw [List.getElem?_append_left (by simpa using hlt), List.getElem?_map, hi]
    rfl
theorem union_nil (ls : List Sg) : unionS ls [] = ls := by
  unfold unionS newS joinS sgWith extraV
  simp
theorem union_len (ls ks : List Sg) : (unionS ls ks).length ≤ ls.length + ks.length := by
  unfold unionS newS
  have := List.length_filter_le (fun t => !hasC ls t.code) ks
  simp
  omega

end Go.Proofs.YtleihhkacmgofabGreatDoor

/- Contracts of the laws' alike and Large; values of one period are as many however they are joined. -/
namespace Go.Proofs.YtleihhkacmgofabGreatDoor
open Go.RowKit

/-- two lists have the same meanings -/
def alikeB (a b : List Va) : Bool := (a.length == b.length) && a.all fun x => b.any fun y => meq x y

/-- meanings that differ -/
def apartM (l : List Va) : Prop := l.Pairwise fun a b => meq a b = false
theorem meq_comm (a b : Va) : meq a b = meq b a := by
  cases h : meq b a
  · cases h2 : meq a b
    · rfl
    · rw [meq_symm h2] at h; cases h
  · exact meq_symm h
theorem sub_len : ∀ (a b : List Va), apartM a → (∀ x ∈ a, ∃ y ∈ b, meq x y = true) → a.length ≤ b.length
  | [], _, _, _ => Nat.zero_le _
  | x :: r, b, ha, h => by
    obtain ⟨y, hy, hxy⟩ := h x (by simp)
    have hlen : (b.eraseP (meq x)).length = b.length - 1 := List.length_eraseP_of_mem hy hxy
    have hpos : 0 < b.length := List.length_pos_of_mem hy
    have ih := sub_len r (b.eraseP (meq x)) (List.pairwise_cons.1 ha).2 (fun z hz => by
      obtain ⟨u, hu, hzu⟩ := h z (by simp [hz])
      have hxz := (List.pairwise_cons.1 ha).1 z hz
      have hxu : ¬ meq x u = true := fun e => by
        have := meq_trans e (meq_symm hzu)
        rw [this] at hxz; cases hxz
      exact ⟨u, (List.mem_eraseP_of_neg hxu).2 hu, hzu⟩)
    simp only [List.length_cons]
    omega
theorem alike_of {a b : List Va} (ha : apartM a) (hb : apartM b) (h1 : ∀ x ∈ a, ∃ y ∈ b, meq x y = true) (h2 : ∀ y ∈ b, ∃ x ∈ a, meq y x = true) : alikeB a b = true := by
  have l1 := sub_len a b ha h1
  have l2 := sub_len b a hb h2
  unfold alikeB
  rw [Bool.and_eq_true, beq_iff_eq, List.all_eq_true]
  refine ⟨by omega, fun x hx => ?_⟩
  obtain ⟨y, hy, e⟩ := h1 x hx
  exact List.any_eq_true.2 ⟨y, hy, e⟩
/-- what is in use in a period -/
theorem used_mem (vs : List Va) (p : Int) (v : Va) : v ∈ usedV vs p ↔ v ∈ vs ∧ v.fr ≤ p ∧ p ≤ v.to := by
  unfold usedV
  rw [List.mem_filter]
  unfold useB
  simp
/-- valid values do not collide -/
theorem vals_apart (p : Int) : ∀ (vs done : List Va), valsErr p done vs = 0 → (∀ v ∈ vs, ∀ d ∈ done, collideB d v = false) ∧ vs.Pairwise (fun a b => collideB a b = false)
  | [], _, _ => ⟨(fun v h => by cases h), List.Pairwise.nil⟩
  | x :: r, done, h => by
    rw [valsErr] at h
    split at h
    · rename_i h0
      have ih := vals_apart p r _ h
      have hx : ∀ d ∈ done, collideB d x = false := by
        unfold valErr at h0
        split at h0
        · cases h0
        · split at h0
          · cases h0
          · split at h0
            · cases h0
            · rename_i h3
              intro d hd
              have h3 : (done.any fun b => collideB b x) = false := by simpa using h3
              have := (List.any_eq_false.1 h3) d hd
              simpa using this
      refine ⟨fun v hv d hd => ?_, List.pairwise_cons.2 ⟨fun v hv => ih.1 v hv x (by simp), ih.2⟩⟩
      rcases List.mem_cons.1 hv with rfl | hv
      · exact hx d hd
      · exact ih.1 v hv d (by simp [hd])
    · rename_i h0; exact absurd h h0
theorem used_apart {vs : List Va} (h : vs.Pairwise fun a b => collideB a b = false) (p : Int) : apartM (usedV vs p) := by
  unfold apartM
  rw [List.pairwise_iff_forall_sublist]
  intro a b hs
  have hs2 : List.Sublist [a, b] vs := hs.trans List.filter_sublist
  have h1 := (List.pairwise_iff_forall_sublist.1 h) hs2
  have ha := (used_mem vs p a).1 (hs.subset (by simp))
  have hb := (used_mem vs p b).1 (hs.subset (by simp))
  cases hm : meq a b
  · rfl
  · exfalso
    unfold collideB at h1
    have hm' : (a.kind == b.kind && strEq a.text b.text) = true := hm
    rw [hm'] at h1
    simp at h1
    omega
theorem canon_apart {vs : List Va} (h : canon vs) : vs.Pairwise fun a b => collideB a b = false := h.1.imp fun hab => gap_free hab
/-- a period's meanings, by what is covered -/
theorem used_cov {a b : List Va} (p : Int) (h : ∀ m, cov a m p → cov b m p) : ∀ x ∈ usedV a p, ∃ y ∈ usedV b p, meq x y = true := by
  intro x hx
  rw [used_mem] at hx
  obtain ⟨y, hy, hm, h1, h2⟩ := h x ⟨x, hx.1, meq_refl x, hx.2.1, hx.2.2⟩
  exact ⟨y, (used_mem _ _ _).2 ⟨hy, h1, h2⟩, meq_symm hm⟩
/-- Tidy keeps the meanings of a period -/
theorem alike_tidy (per : Int) (vs : List Va) (h : valsErr per [] vs = 0) (p : Int) : alikeB (usedV vs p) (usedV (tidyV vs) p) = true := by
  obtain ⟨hcan, hcov⟩ := tidiedR_canon [vs]
  have hc : ∀ m, cov (tidyV vs) m p ↔ cov vs m p := fun m => by have := hcov m p; simpa [tidyV] using this
  exact alike_of (used_apart (vals_apart per vs [] h).2 p) (used_apart (canon_apart hcan) p) (used_cov p fun m => (hc m).2) (used_cov p fun m => (hc m).1)
/-- Restrict keeps the meanings of its period -/
theorem alike_restr (vs : List Va) (p : Int) : alikeB (usedV vs p) (usedV (restrV p vs) 1) = true := by
  have h1 : usedV (restrV p vs) 1 = restrV p vs := by
    unfold restrV
    rw [show usedV ((usedV vs p).map oneP) 1 = ((usedV vs p).map oneP).filter _ from rfl, List.filter_eq_self]
    intro x hx
    obtain ⟨y, _, rfl⟩ := List.mem_map.1 hx
    rfl
  rw [h1]
  unfold alikeB restrV
  rw [List.length_map, beq_self_eq_true, Bool.true_and, List.all_eq_true]
  intro x hx
  exact List.any_eq_true.2 ⟨oneP x, List.mem_map.2 ⟨x, hx, rfl⟩, (meq_iff _ _).2 ⟨rfl, rfl⟩⟩

set_option maxHeartbeats 3200000 in
set_option maxRecDepth 100000 in
theorem alike_is (A1 A2 : Option Addr) (c1 c2 : Nat) (a b : List Va) (w : World) (ha : ValsAt w A1 a) (hb : ValsAt w A2 b) (la : a.length ≤ 1000000) (lb : b.length ≤ 1000000) (ca : a.length ≤ c1) (cb : b.length ≤ c2) (_ma : c1 ≤ maxLen) (_mb : c2 ≤ maxLen) (r : Bool) (h : alikeB a b = r) :
    Calls Tryz.prog 13 #[.slice A1 a.length c1, .slice A2 b.length c2] w fun e w' => e = .returned (.bool r) ∧ Below w.heap.size w w' := by
  have HA := Lib.hid ha
  have HB := Lib.hid hb
  have HR := Lib.hid h
  unfold maxLen at _ma _mb
  obtain ⟨n, hn⟩ : ∃ n, n = a.length := ⟨_, rfl⟩
  obtain ⟨m, hm⟩ : ∃ m, m = b.length := ⟨_, rfl⟩
  have HN := Lib.hid hn
  have HM := Lib.hid hm
  rw [← hn] at la ca ⊢
  rw [← hm] at lb cb ⊢
  by_cases hl : (n : Int) = m
  case neg =>
    have hl1 : ((n : Int) != m) = true := by simpa using hl
    have HF := Lib.hid (show r = false by
      rw [← h]
      unfold alikeB
      rw [show (a.length == b.length) = false by rw [beq_eq_false_iff_ne]; omega]; rfl)
    clear ha hb hn hm h
    go_enter Tryz.func13, Tryz.ntmps13
    go_wp2_with fail
    go_ret
    exact ⟨by rw [HF.out]; rfl, Below.refl _ _⟩
  have hl2 : n = m := by omega
  subst hl2
  clear hl
  have HF := Lib.hid (show r = a.all fun x => b.any fun y => meq x y by
    rw [← h]
    unfold alikeB
    rw [show (a.length == b.length) = true by rw [beq_iff_eq]; omega]; rfl)
  clear ha hb hn hm h
  go_enter Tryz.func13, Tryz.ntmps13
  go_wp2_with fail
  go_loopw [5] (fun i wr => ∃ k : Nat, k ≤ n ∧ i = .int .i64 k ∧ Hid (Below w.heap.size w wr ∧ ((a.take k).all fun x => b.any fun y => meq x y) = true)) (fun i _ => n - (intOf i).toNat)
  case atStart => exact ⟨0, Nat.zero_le _, rfl, Lib.hid ⟨Below.refl _ _, by simp⟩⟩
  case round =>
    obtain ⟨k, hk, rfl, hrl⟩ := hrel
    by_cases hlt : k < n
    · have hget : a[k]? = some (a[k]'(by have := HN.out; omega)) := List.getElem?_eq_getElem _
      obtain ⟨x, hx⟩ : ∃ x, x = a[k]'(by have := HN.out; omega) := ⟨_, rfl⟩
      rw [← hx] at hget
      obtain ⟨ab, ao, hA, hab, hva⟩ := HA.out k x hget
      subst hA
      have HVA := Lib.hid (And.intro hab hva)
      have HSN := Lib.hid (show a.take (k + 1) = a.take k ++ [x] from take_step _ _ _ hget)
      have HXM := Lib.hid (show x ∈ a from List.mem_of_getElem? hget)
      have HRL := Lib.hid hrl.out
      clear hx hget hva hab hrl
      go_wp2_with fail
      obtain ⟨wo, rfl⟩ : ∃ wo : World, wo = wr := ⟨_, rfl⟩
      go_loopw [6, 7] (fun f j wr => ∃ q : Nat, q ≤ n ∧ j = .int .i64 q ∧ f = .bool ((b.take q).any fun y => meq x y) ∧ Hid (Below w.heap.size w wr)) (fun _ j _ => n - (intOf j).toNat)
      case atStart => exact ⟨0, Nat.zero_le _, rfl, by simp, Lib.hid HRL.out.1⟩
      case round =>
        obtain ⟨j, hj, rfl, rfl, hbw⟩ := hrel
        obtain ⟨y0, y1, -, -, -⟩ := HVA.out.2.below hbw.out HVA.out.1
        have hsa : ab < wr.heap.size := by have := hbw.out.size; have := HVA.out.1; omega
        by_cases hlj : j < n
        · have hgj : b[j]? = some (b[j]'(by have := HM.out; omega)) := List.getElem?_eq_getElem _
          obtain ⟨y, hy⟩ : ∃ y, y = b[j]'(by have := HM.out; omega) := ⟨_, rfl⟩
          rw [← hy] at hgj
          obtain ⟨bb, bo, hB, hbb, hvb⟩ := HB.out j y hgj
          subst hB
          obtain ⟨z0, z1, -, -, -⟩ := hvb.below hbw.out hbb
          have hsb : bb < wr.heap.size := by have := hbw.out.size; omega
          have HSJ := Lib.hid (show (b.take (j + 1)).any (fun y => meq x y) = ((b.take j).any (fun y => meq x y) || meq x y) by
            rw [take_step _ _ _ hgj, List.any_append]; simp)
          clear hy hgj hvb hbb
          obtain ⟨F, hF⟩ : ∃ F, (b.take j).any (fun y => meq x y) = F := ⟨_, rfl⟩
          rw [hF] at HSJ ⊢
          clear hF
          cases F with
          | true =>
            go_wp2_with fail
            refine wp_region_later (by kernel_rfl) (by kernel_rfl) ?_; (repeat (first | go_big_quiet_step (fail) | quiet_step (fail))); refine wpQuiet_nil ?_; rintro _ ⟨s, rfl⟩
            have HB5 := Lib.hid (below_more hbw.out s.below)
            generalize s.w = W5 at HB5 ⊢
            go_wp2_with fail
            go_roundw
            case rel => exact ⟨j + 1, by omega, by go_num, by rw [HSJ.out]; rfl, HB5⟩
            case measure => simp [intOf]; omega
          | false =>
            by_cases hk1 : (x.kind == y.kind) = true
            case neg =>
              have hk1 : (x.kind == y.kind) = false := by simpa using hk1
              go_wp2_with fail
              refine wp_region_later (by kernel_rfl) (by kernel_rfl) ?_; (repeat (first | go_big_quiet_step (fail) | quiet_step (fail))); refine wpQuiet_nil ?_; rintro _ ⟨s, rfl⟩
              have HB5 := Lib.hid (below_more hbw.out s.below)
              generalize s.w = W5 at HB5 ⊢
              go_wp2_with fail
              go_roundw
              case rel => exact ⟨j + 1, by omega, by go_num, by rw [HSJ.out]; unfold meq; rw [hk1]; rfl, HB5⟩
              case measure => simp [intOf]; omega
            by_cases hk2 : (x.text.toList == y.text.toList) = true
            case neg =>
              have hk2 : (x.text.toList == y.text.toList) = false := by simpa using hk2
              go_wp2_with fail
              refine wp_region_later (by kernel_rfl) (by kernel_rfl) ?_; (repeat (first | go_big_quiet_step (fail) | quiet_step (fail))); refine wpQuiet_nil ?_; rintro _ ⟨s, rfl⟩
              have HB5 := Lib.hid (below_more hbw.out s.below)
              generalize s.w = W5 at HB5 ⊢
              go_wp2_with fail
              go_roundw
              case rel => exact ⟨j + 1, by omega, by go_num, by rw [HSJ.out]; unfold meq strEq; rw [hk1, hk2]; rfl, HB5⟩
              case measure => simp [intOf]; omega
            go_wp2_with fail
            refine wp_region_later (by kernel_rfl) (by kernel_rfl) ?_; (repeat (first | go_big_quiet_step (fail) | quiet_step (fail))); refine wpQuiet_nil ?_; rintro _ ⟨s, rfl⟩
            have HB5 := Lib.hid (below_more hbw.out s.below)
            generalize s.w = W5 at HB5 ⊢
            go_wp2_with fail
            go_roundw
            case rel => exact ⟨j + 1, by omega, by go_num, by rw [HSJ.out]; unfold meq strEq; rw [hk1, hk2]; rfl, HB5⟩
            case measure => simp [intOf]; omega
        · obtain rfl : j = n := by omega
          have HT := Lib.hid (show b.take j = b by rw [HM.out, List.take_length])
          obtain ⟨F, hF⟩ : ∃ F, (b.take j).any (fun y => meq x y) = F := ⟨_, rfl⟩
          rw [hF]
          have HFF := Lib.hid (show (b.any fun y => meq x y) = F by rw [← HT.out]; exact hF)
          clear hF
          cases F with
          | true =>
            go_wp2_with fail
            go_roundw
            case rel => exact ⟨k + 1, by omega, by go_num, Lib.hid ⟨hbw.out, by rw [HSN.out, List.all_append, HRL.out.2]; simp [HFF.out]⟩⟩
            case measure => simp [intOf]; omega
          | false =>
            have HRF := Lib.hid (show r = false by
              rw [HF.out, List.all_eq_false]
              exact ⟨x, HXM.out, by rw [HFF.out]; simp⟩)
            go_wp2_with fail
            go_ret
            exact ⟨by rw [HRF.out]; rfl, hbw.out⟩
    · obtain rfl : k = n := by omega
      have HRT := Lib.hid (show r = true by
        rw [HF.out]
        have h := hrl.out.2
        rw [HN.out, List.take_length] at h
        exact h)
      go_wp2_with fail
      go_ret
      exact ⟨by rw [HRT.out]; rfl, hrl.out.1⟩

end Go.Proofs.YtleihhkacmgofabGreatDoor

/- Contracts of slices.Grow (onto nothing) and slices.Concat of two slices, at values. -/
namespace Go.Proofs.YtleihhkacmgofabGreatDoor
open Go.RowKit

theorem zero_cells_size (z : Array Value) (n : Nat) : (Builtin.zeroCells z n).size = n * z.size := size_zeroCells z n

theorem grow_any (n : Nat) (w : World) (hn : n ≤ 2000000) :
    Calls Tryz.prog 56 #[.slice none 0 0, .int .i64 n] w (GotRow w 43 4 0 []) := by
  by_cases h0 : n = 0
  · subst h0
    have h := Any8.slices_Grow_room Tryz.growVa none 0 0 0 w (Nat.le_refl _) (by omega) (by omega) (by omega)
    refine Calls.mono h ?_
    rintro e w' ⟨rfl, rfl⟩
    exact ⟨none, 0, rfl, World.ownsRow_nil _ _ _ _, Below.refl _ _⟩
  · obtain ⟨iv, hi, hz, hs, hb⟩ := info_parts infoVa
    have h := Any8.slices_Grow_grow Tryz.growVa iv _ hi hz (by rw [hs]; omega) none 0 0 n [] w (Nat.le_refl _) (by omega) (by rw [hb]; omega) (by omega) (by simp) (fun _ => rfl) (fun a h => by cases h)
    refine Calls.mono h ?_
    rintro e w' ⟨rfl, rfl⟩
    refine ⟨_, _, rfl, ?_, ?_⟩
    · have hc : n ≤ grownCap w (0 + n) 0 43 := by have := grownCap_ge w (0 + n) 0 43; omega
      have hm := grownCap_le_maxLen w (0 + n) 0 43 (by unfold maxLen; omega)
      have := World.ownsRow_made (base := w.heap.size) (e := 43) (size := 4) w.drew (#[] ++ Builtin.zeroCells (Value.agg #[.int .i64 0, .string ⟨#[]⟩, .int .i64 0, .int .i64 0]).cells (0 + n - 0) ++ Builtin.zeroCells (Value.agg #[.int .i64 0, .string ⟨#[]⟩, .int .i64 0, .int .i64 0]).cells (grownCap w (0 + n) 0 43 - (0 + n))) (grownCap w (0 + n) 0 43) (Nat.le_refl _) hm (by
        rw [Array.size_append, Array.size_append, zero_cells_size, zero_cells_size]
        have : (Value.agg #[.int .i64 0, .string ⟨#[]⟩, .int .i64 0, .int .i64 0]).cells.size = 4 := rfl
        rw [this]
        rw [Nat.zero_add] at hc ⊢
        simp
        omega)
      exact this
    · exact ((Below.refl _ _).drew).alloc (Nat.le_refl _) _

/-- what two slices hold together, the first k of them -/
def part2 (a b : List Va) (k : Nat) : List Va := if k = 0 then [] else if k = 1 then a else a ++ b
theorem part2_len (a b : List Va) (k : Nat) : (part2 a b k).length ≤ a.length + b.length := by
  unfold part2
  split
  · simp
  · split <;> simp

def sum2 (n1 n2 k : Nat) : Int := if k = 0 then 0 else if k = 1 then n1 else n1 + n2

set_option maxHeartbeats 3200000 in
set_option maxRecDepth 100000 in
theorem concat_any (g c : Nat) (A1 A2 : Option Addr) (c1 c2 : Nat) (a b : List Va) (w : World) (hg : g < w.heap.size) (h1 : w.cell? ⟨g, 0, none⟩ = some (.slice A1 a.length c1)) (h2 : w.cell? ⟨g, 1, none⟩ = some (.slice A2 b.length c2))
    (hv1 : ValsAt w A1 a) (hv2 : ValsAt w A2 b) (hz1 : a.length ≤ 1000000) (hz2 : b.length ≤ 1000000) :
    Calls Tryz.prog 39 #[.slice (some ⟨g, 0, none⟩) 2 c] w (GotRow w 43 4 (a ++ b).length ((a ++ b).flatMap Va.cells)) := by
  obtain ⟨iv, hiv, hzv, hsv, hbv⟩ := info_hid infoVa
  have HV1 := Lib.hid hv1
  have HV2 := Lib.hid hv2
  have HL := Lib.hid (show (a ++ b).length = a.length + b.length from List.length_append)
  obtain ⟨n1, hn1⟩ : ∃ n, n = a.length := ⟨_, rfl⟩
  obtain ⟨n2, hn2⟩ : ∃ n, n = b.length := ⟨_, rfl⟩
  have HN1 := Lib.hid hn1
  have HN2 := Lib.hid hn2
  rw [← hn1] at h1 hz1
  rw [← hn2] at h2 hz2
  have H1 := Lib.hid h1
  have H2 := Lib.hid h2
  clear hv1 hv2 hn1 hn2
  go_enter Tryz.func39, Tryz.ntmps39
  go_wp2_with fail
  go_loop [3, 5, 11] (fun s _ i => ∃ k : Nat, k ≤ 2 ∧ i = .int .i64 k ∧ s = .int .i64 (sum2 n1 n2 k)) (fun _ _ i => 2 - (intOf i).toNat)
  case atStart => exact ⟨0, by omega, rfl, rfl⟩
  case round =>
    obtain ⟨k, hk, rfl, rfl⟩ := hrel
    have h3 : k = 0 ∨ k = 1 ∨ k = 2 := by omega
    rcases h3 with rfl | rfl | rfl
    · rw [show sum2 n1 n2 0 = 0 from rfl]
      go_wp2_with fail
      go_round
      case rel => exact ⟨1, by omega, by go_num, by unfold sum2; simp⟩
      case measure => simp [intOf]
    · rw [show sum2 n1 n2 1 = n1 from rfl]
      go_wp2_with fail
      go_round
      case rel => exact ⟨2, by omega, by go_num, by unfold sum2; simp⟩
      case measure => simp [intOf]
    · rw [show sum2 n1 n2 2 = (n1 + n2 : Nat) by unfold sum2; simp]
      go_wp2_with fail
      refine (grow_any (n1 + n2) w (by omega)).mono ?_; rintro e w1 ⟨A, cc, rfl, own1, hb1⟩
      have OWN := Lib.hid own1
      have HB := Lib.hid hb1
      have y1 := (hb1.cell (p := ⟨g, 0, none⟩) hg).trans h1
      have y2 := (hb1.cell (p := ⟨g, 1, none⟩) hg).trans h2
      have hg1 : g < w1.heap.size := Nat.lt_of_lt_of_le hg hb1.size
      have V1 := Lib.hid (HV1.out.below hb1)
      have V2 := Lib.hid (HV2.out.below hb1)
      clear own1 hb1 h1 h2
      go_wp2_with fail
      have hws := HB.out.size
      go_loopw [6, 8, 27] (fun v _ i wr => ∃ k d : Nat, k ≤ 2 ∧ i = .int .i64 k ∧ d = (part2 a b k).length ∧ Hid (wr.ownsRow w.heap.size 43 4 v d ((part2 a b k).flatMap Va.cells)) ∧ Hid (Below w.heap.size w wr)) (fun _ _ i _ => 2 - (intOf i).toNat)
      case atStart => exact ⟨0, 0, by omega, rfl, rfl, OWN, HB⟩
      case round =>
        obtain ⟨k, d, hk, rfl, hd, hown, hbw⟩ := hrel
        obtain ⟨B, d2, hv, -, -, -, -⟩ := own_slice hown.out
        subst hv
        have z1 := (hbw.out.cell (p := ⟨g, 0, none⟩) hg).trans H1.out
        have z2 := (hbw.out.cell (p := ⟨g, 1, none⟩) hg).trans H2.out
        have hgw : g < wr.heap.size := Nat.lt_of_lt_of_le hg hbw.out.size
        have hdl := part2_len a b k
        have HD := Lib.hid hd
        have hd9 : d ≤ n1 + n2 := by have := HN1.out; have := HN2.out; omega
        clear hd hdl y1 y2
        have h3 : k = 0 ∨ k = 1 ∨ k = 2 := by omega
        rcases h3 with rfl | rfl | rfl
        · go_wp2_with (first
            | (at_builtin; refine wpList_append_src _ rfl (.tmp 31) (.tmp 32) 34 rfl w.heap.size 43 iv (.agg #[.int .i64 0, .string ⟨#[]⟩, .int .i64 0, .int .i64 0]) 4 40 Tryz.underlying34 hiv.out hzv.out hsv.out hbv.out rfl (by decide) (.slice B d d2) d ((part2 a b 0).flatMap Va.cells) rfl ?own0 A1 n1 c1 (a.flatMap Va.cells) rfl ?l0 ?n0 ?c0 va_one ?m0 ?b0 ?s0 (d + n1) rfl ?_))
          case own0 => exact hown.out
          case l0 => rw [HN1.out]; exact flat_len (f := Va.cells) (fun _ => rfl) _
          case n0 => intro h; rw [HN1.out]; exact vals_none HV1.out h
          case c0 => exact vals_cells (HV1.out.below hbw.out)
          case m0 => unfold maxLen; omega
          case b0 => omega
          case s0 => exact hbw.out.size
          · intro B2 d3 w3 own3 hg3 _
            have BB := Lib.hid (hbw.out.grown hg3 hbw.out.size (fun g hg => (hown.out.lt g hg).1))
            have OWN3 := Lib.hid (show w3.ownsRow w.heap.size 43 4 (.slice B2 (d + n1) d3) (d + n1) ((part2 a b 1).flatMap Va.cells) by
              rw [← List.flatMap_append] at own3; exact own3)
            clear own3 hg3
            go_wp2_with fail
            go_roundw
            case rel => exact ⟨1, d + n1, by omega, by go_num, by rw [HD.out, HN1.out]; exact (List.length_append).symm, OWN3, BB⟩
            case measure => simp [intOf]
        · go_wp2_with (first
            | (at_builtin; refine wpList_append_src _ rfl (.tmp 31) (.tmp 32) 34 rfl w.heap.size 43 iv (.agg #[.int .i64 0, .string ⟨#[]⟩, .int .i64 0, .int .i64 0]) 4 40 Tryz.underlying34 hiv.out hzv.out hsv.out hbv.out rfl (by decide) (.slice B d d2) d ((part2 a b 1).flatMap Va.cells) rfl ?own1 A2 n2 c2 (b.flatMap Va.cells) rfl ?l1 ?n1 ?c1 va_one ?m1 ?b1 ?s1 (d + n2) rfl ?_))
          case own1 => exact hown.out
          case l1 => rw [HN2.out]; exact flat_len (f := Va.cells) (fun _ => rfl) _
          case n1 => intro h; rw [HN2.out]; exact vals_none HV2.out h
          case c1 => exact vals_cells (HV2.out.below hbw.out)
          case m1 => unfold maxLen; omega
          case b1 => omega
          case s1 => exact hbw.out.size
          · intro B2 d3 w3 own3 hg3 _
            have BB := Lib.hid (hbw.out.grown hg3 hbw.out.size (fun g hg => (hown.out.lt g hg).1))
            have OWN3 := Lib.hid (show w3.ownsRow w.heap.size 43 4 (.slice B2 (d + n2) d3) (d + n2) ((part2 a b 2).flatMap Va.cells) by
              rw [← List.flatMap_append] at own3; exact own3)
            clear own3 hg3
            go_wp2_with fail
            go_roundw
            case rel => exact ⟨2, d + n2, by omega, by go_num, by rw [HD.out, HN2.out]; exact (List.length_append).symm, OWN3, BB⟩
            case measure => simp [intOf]
        · have HX := Lib.hid (show GotRow w 43 4 (a ++ b).length ((a ++ b).flatMap Va.cells) (.returned (.slice B d d2)) wr from
            ⟨B, d2, by rw [HD.out]; rfl, by have := hown.out; rw [HD.out] at this; exact this, hbw.out⟩)
          go_wp2_with fail
          go_ret
          exact HX.out

end Go.Proofs.YtleihhkacmgofabGreatDoor

/- Contract of union, in the program. -/
namespace Go.Proofs.YtleihhkacmgofabGreatDoor
open Go.RowKit Go.Maps Go.WideMaps

theorem NumAt.below {w w' : World} {b k : Nat} {ss : List Sg} (h : NumAt w b k ss) (hb : Below w.heap.size w w') : NumAt w' b k ss := by
  obtain ⟨D, h1, h2⟩ := h
  have hlt := h1.lt
  obtain ⟨es, clock, h3, h4⟩ := h1
  exact ⟨D, ⟨es, clock, (hb.block b hlt).trans h3, h4⟩, h2⟩
theorem NumAt.at {w w' : World} {b k : Nat} {ss : List Sg} (h : NumAt w b k ss) (hb : w'.heap[b]? = w.heap[b]?) : NumAt w' b k ss := by
  obtain ⟨D, ⟨es, clock, h3, h4⟩, h2⟩ := h
  exact ⟨D, ⟨es, clock, hb.trans h3, h4⟩, h2⟩
theorem NumAt.lt {w : World} {b k : Nat} {ss : List Sg} (h : NumAt w b k ss) : b < w.heap.size := by
  obtain ⟨D, h1, h2⟩ := h
  exact h1.lt

theorem extra_len (ks : List Sg) (c : ByteArray) (h : ∀ t ∈ ks, t.vals.length ≤ 12) : (extraV ks c).length ≤ 12 * ks.length := by
  induction ks with
  | nil => simp [extraV]
  | cons t r ih =>
    have := ih (fun x hx => h x (by simp [hx]))
    have h2 := h t (by simp)
    unfold extraV at *
    rw [List.flatMap_cons, List.length_append, List.length_cons]
    split
    · omega
    · rw [List.length_nil]; omega
theorem union_okV (ls ks : List Sg) (hl : ∀ s ∈ ls, s.vals.length ≤ 12 ∧ ∀ v ∈ s.vals, okV v) (hk : ∀ s ∈ ks, s.vals.length ≤ 12 ∧ ∀ v ∈ s.vals, okV v) (hn : ks.length ≤ 200) : ∀ s ∈ unionS ls ks, s.vals.length ≤ 2500 ∧ ∀ v ∈ s.vals, okV v := by
  intro s hs
  rcases List.mem_append.1 hs with hs | hs
  · obtain ⟨x, hx, rfl⟩ := List.mem_map.1 hs
    have h1 := hl x hx
    have h2 := extra_len ks x.code (fun t ht => (hk t ht).1)
    have e : (joinS ks x).vals = x.vals ++ extraV ks x.code := rfl
    rw [e]
    refine ⟨by rw [List.length_append]; omega, fun v hv => ?_⟩
    rcases List.mem_append.1 hv with hv | hv
    · exact h1.2 v hv
    · obtain ⟨t, ht, hv⟩ := extra_mem hv
      exact (hk t ht).2 v hv
  · have hx := (List.mem_filter.1 hs).1
    have := hk s hx
    exact ⟨by omega, this.2⟩

/-- signs in memory of the call's own -/
def GotSigns (w : World) (l : List Sg) (e : Ending) (w' : World) : Prop := ∃ A c cs, e = .returned (.slice A cs.length c) ∧ OwnSigns w' w.heap.size A c cs ∧ cs.map (·.s) = l ∧ Below w.heap.size w w'

/-- the place of a code in a valid list -/
theorem lastF_at (l : Li) (h : checkErr l = 0) (c : ByteArray) (hc : hasC l.signs c = true) : ∃ (i : Nat) (s : Sg), lastF c 0 0 l.signs = (i : Int) ∧ l.signs[i]? = some s ∧ strEq s.code c = true := by
  obtain ⟨k, hk, h1, h2⟩ := last_first l.per c l.signs [] (signs_ok h) 0 0 hc
  rw [List.findIdx?_eq_some_iff_getElem] at h2
  obtain ⟨h3, h4, _⟩ := h2
  exact ⟨k, l.signs[k], by rw [h1]; simp, List.getElem?_eq_getElem h3, h4⟩

set_option maxHeartbeats 3200000 in
set_option maxRecDepth 100000 in
theorem punion_any (a b : Lm) (w : World) (ha : LmOk w a) (hb : LmOk w b) (ca : checkErr a.li = 0) (cb : checkErr b.li = 0) :
    Calls Tryz.prog 24 #[.slice a.A a.ms.length a.cap, .slice b.A b.ms.length b.cap] w (GotSigns w ((unionS a.signs b.signs).map (sgWith tidyV))) := by
  have CA := Lib.hid (check_all a.li ca)
  have CB := Lib.hid (check_all b.li cb)
  have OA := Lib.hid (check_okV a.li ca)
  have OB := Lib.hid (check_okV b.li cb)
  have HNA := Lib.hid (show a.ms.length ≤ 200 by have := CA.out.1; rw [show a.li.signs = a.signs from rfl, Lm.length_signs] at this; exact this)
  have HNB := Lib.hid (show b.ms.length ≤ 200 by have := CB.out.1; rw [show b.li.signs = b.signs from rfl, Lm.length_signs] at this; exact this)
  have HLA := Lib.hid (fun c h => lastF_at a.li ca c h)
  have HA := Lib.hid ha
  have HB := Lib.hid hb
  have hlen := hb.len
  have hcap := hb.cap
  unfold maxLen at hcap
  obtain ⟨BA, hBA⟩ : ∃ X, X = b.A := ⟨_, rfl⟩
  have HBA := Lib.hid hBA
  obtain ⟨is, his, hzs, hss, hbs⟩ := info_hid infoSg
  rw [← hBA]
  clear ha hb ca cb hBA
  go_enter Tryz.func24, Tryz.ntmps24
  go_wp2_with fail
  refine (numbers_any a w HA.out (by have := HNA.out; omega)).mono ?_; rintro e w1 ⟨mb, rfl, num1, hb1⟩
  have NUM := Lib.hid num1
  have HB1 := Lib.hid hb1
  have hmb := num1.lt
  clear num1 hb1
  go_wp2_with fail
  refine (cloneG_any a.A a.cap a.ms w1 (HA.out.signs.below HB1.out) (by have := HNA.out; omega)).mono ?_; rintro e w2 ⟨A1, c1, rfl, own1, hb2⟩
  have OWN := Lib.hid (OwnSigns.cloned own1 (signs_oks HA.out.signs) (HB1.out.trans (hb2.mono HB1.out.size)) HB1.out.size)
  have B2 := Lib.hid hb2
  have NUM2 := Lib.hid (NUM.out.below hb2)
  clear own1 hb2
  have hnb := HNB.out
  obtain ⟨n, hn⟩ : ∃ n, n = b.ms.length := ⟨_, rfl⟩
  have HN := Lib.hid hn
  rw [← hn] at hlen hnb ⊢
  clear hn
  go_wp2_with fail
  go_loopw [6, 18] (fun o i wr => ∃ k : Nat, k ≤ n ∧ i = .int .i64 k ∧ Hid (∃ A c cs, o = .slice A cs.length c ∧ Below w1.heap.size w1 wr ∧ OwnSigns wr w1.heap.size A c cs ∧ cs.map (·.s) = unionS a.signs (b.signs.take k))) (fun _ i _ => n - (intOf i).toNat)
  case atStart => exact ⟨0, Nat.zero_le _, rfl, Lib.hid ⟨A1, c1, a.ms, rfl, B2.out, OWN.out, by rw [List.take_zero, union_nil]; rfl⟩⟩
  case round =>
    obtain ⟨k, hk, rfl, hrl⟩ := hrel
    obtain ⟨A, c, cs, rfl, hb3, ho3, hm3⟩ := hrl.out
    have hw1s := hb3.size
    have hws := HB1.out.size
    by_cases hlt : k < n
    · have hget : b.ms[k]? = some (b.ms[k]'(by have := HN.out; omega)) := List.getElem?_eq_getElem _
      obtain ⟨t, ht⟩ : ∃ t, t = b.ms[k]'(by have := HN.out; omega) := ⟨_, rfl⟩
      rw [← ht] at hget
      obtain ⟨bb, bo, hbA, hbb, hva, hto⟩ := HB.out.signs k t hget
      have HWR := Lib.hid (HB1.out.trans (hb3.mono HB1.out.size))
      obtain ⟨y0, y1, y2, y3, y4⟩ := hva.below HWR.out hbb
      have hsb : bb < wr.heap.size := by omega
      have HTO := Lib.hid (hto.below HWR.out)
      have HT0 := Lib.hid hto
      have HTV := Lib.hid (OB.out.2.2.2 t.s (List.mem_of_getElem? (show b.signs[k]? = some t.s by unfold Lm.signs; rw [List.getElem?_map, hget]; rfl)))
      have HSN := Lib.hid (show b.signs.take (k + 1) = b.signs.take k ++ [t.s] from take_step _ _ _ (by unfold Lm.signs; rw [List.getElem?_map, hget]; rfl))
      have HCL := Lib.hid (show cs.length ≤ 400 by
        have h1 : (cs.map (·.s)).length = _ := congrArg List.length hm3
        rw [List.length_map] at h1
        have h2 := union_len a.signs (b.signs.take k)
        have h3 : (b.signs.take k).length ≤ k := List.length_take_le _ _
        have h4 := HNA.out
        rw [Lm.length_signs] at h2
        omega)
      have HCS := Lib.hid (And.intro hb3 (And.intro ho3 hm3))
      obtain ⟨box, hbox⟩ : ∃ box, box = Obj.cells #[.string t.s.code, .int .i64 t.s.wide, .int .i64 t.s.high, .bool t.s.even, .slice t.A t.s.vals.length t.cap] 38 := ⟨_, rfl⟩
      have HBX := Lib.hid (heap_alloc_new wr box)
      have HBW := Lib.hid (below_alloc wr box)
      have HSZ := Lib.hid (show (wr.alloc box).heap.size = wr.heap.size + 1 by simp)
      have HLK := Lib.hid (((NUM.out.below hb3).alloc box).look (c := t.s.code) (HTO.out.code))
      have hlk := HLK.out
      rw [hbox] at HBX hlk
      clear ht hget hva hto hbb hb3 ho3 hm3 hrl
      rw [← HBA.out] at hbA
      subst hbA
      have hcsz := HCL.out
      by_cases hin : (a.signs.any fun s => strEq s.code t.s.code) = true
      · obtain ⟨i, s, hi, hsi, hse⟩ := HLA.out t.s.code hin
        rw [show a.li.signs = a.signs from rfl] at hi hsi
        rw [hin, hi] at hlk
        subst hbox
        clear hi
        have HU := Lib.hid (union_old a.signs (b.signs.take k) t.s CA.out.2.2.2.2 i s hsi hse)
        have hil : i < cs.length := by
          have h1 := (List.getElem?_eq_some_iff.1 (show (cs.map (·.s))[i]? = some _ by rw [HCS.out.2.2]; exact HU.out.2)).1
          simpa using h1
        have hgu : cs[i]? = some (cs[i]'hil) := List.getElem?_eq_getElem _
        obtain ⟨u, hu⟩ : ∃ u, u = cs[i]'hil := ⟨_, rfl⟩
        rw [← hu] at hgu
        have HUS := Lib.hid (show u.s = joinS (b.signs.take k) s by
          have h1 : (cs.map (·.s))[i]? = some u.s := by rw [List.getElem?_map, hgu]; rfl
          rw [HCS.out.2.2, HU.out.2] at h1
          injection h1 with h1; exact h1.symm)
        obtain ⟨A', c', e', hc1, hc1m, hA1, hA1n⟩ := own_slice HCS.out.2.1.own
        injection e' with e1 e2 e3
        subst e1 e3
        cases hA : A with
        | none => have := hA1n hA; omega
        | some ad =>
        obtain ⟨g, rfl, hg0, hg1, hcell⟩ := hA1 ad hA
        subst hA
        have hsm := sm_cells_at hcell hgu
        have x4 := hsm.c4
        rw [Nat.zero_add] at x4
        have HGU := Lib.hid hgu
        have HUO := Lib.hid (HCS.out.2.1.ok u (List.mem_of_getElem? hgu))
        have HUV := Lib.hid (union_okV a.signs (b.signs.take k) OA.out.2.2.2 (fun s hs => OB.out.2.2.2 s (List.mem_of_mem_take hs)) (by have := List.length_take_le k b.signs; omega) u.s (by
          rw [HUS.out]; exact List.mem_of_getElem? HU.out.2))
        clear hu hgu hsm hcell hA1 hA1n hsi hse
        go_wp2_with fail
        have X0 := Lib.hid (show (wr.alloc (.cells #[.string t.s.code, .int .i64 t.s.wide, .int .i64 t.s.high, .bool t.s.even, .slice t.A t.s.vals.length t.cap] 38)).cell? ⟨g, i * 5 + 4, none⟩ = some (.slice u.A u.s.vals.length u.cap) from (HBW.out.cell (p := ⟨g, _, none⟩) hg1).trans x4)
        generalize wr.alloc (.cells #[.string t.s.code, .int .i64 t.s.wide, .int .i64 t.s.high, .bool t.s.even, .slice t.A t.s.vals.length t.cap] 38) = W2 at HBX HBW HSZ HLK X0 ⊢
        have z4 := cell_of_blk HBX.out 4
        simp at z4
        have x4 := X0.out
        have hg3 : g < W2.heap.size := by have := HSZ.out; omega
        have f4 : W2.frozen? ⟨g, i * 5 + 4, none⟩ = false := by
          have h1 := (HCS.out.2.1.below HBW.out).own.frozenAt (i * 5 + 4)
          exact h1
        have hm : ((i : Int).toNat) = i := by omega
        have hi1 : (0 : Int) ≤ i := by omega
        have hi2 : (i : Int) < cs.length := by omega
        obtain ⟨W3, hW3⟩ : ∃ W3, W3 = (W2.alloc (.cells #[.slice u.A u.s.vals.length u.cap, .slice t.A t.s.vals.length t.cap] 34)).drew := ⟨_, rfl⟩
        have BX3 : W3.heap[W2.heap.size]? = some (.cells #[.slice u.A u.s.vals.length u.cap, .slice t.A t.s.vals.length t.cap] 34 (0, 0)) := hW3 ▸ heap_alloc_new W2 _
        have HB3 := Lib.hid (show Below W2.heap.size W2 W3 from hW3 ▸ (below_alloc W2 _).drew)
        have HB4 := Lib.hid (HBW.out.trans (HB3.out.mono HBW.out.size))
        have q0 := cell_of_blk BX3 0
        have q1 := cell_of_blk BX3 1
        simp at q0 q1
        have HCC := Lib.hid (concat_any W2.heap.size 2 u.A t.A u.cap t.cap u.s.vals t.s.vals W3 (Array.getElem?_eq_some_iff.1 BX3).1 q0 q1 (HUO.out.vals.below HB4.out) (HTO.out.vals.below HB4.out) (by have := HUV.out.1; omega) (by have := HTV.out.1; omega))
        have HY := Lib.hid (fun w' (hb : Below W3.heap.size W3 w') => show w'.cell? ⟨g, i * 5 + 4, none⟩ = some (.slice u.A u.s.vals.length u.cap) ∧ w'.frozen? ⟨g, i * 5 + 4, none⟩ = false ∧ Below wr.heap.size wr w' from
          have h3 := HB3.out.trans (hb.mono HB3.out.size)
          ⟨(h3.cell (p := ⟨g, _, none⟩) hg3).trans x4, (h3.frozen (p := ⟨g, _, none⟩) hg3).trans f4, HBW.out.trans (h3.mono HBW.out.size)⟩)
        clear BX3 q0 q1
        go_region_with (go_at_call 39; rw [← hW3]; refine HCC.out.mono ?_; rintro e w4 ⟨A2, c2, rfl, own4, hb4⟩; obtain ⟨y4, y5, hb5⟩ := HY.out w4 hb4)
        all_goals (
          obtain ⟨hv2, hl2, hc2, hfr⟩ := own_vals own4 (fun v hv => by
            rcases List.mem_append.1 hv with hv | hv
            · exact (HUV.out.2 v hv).2.2.2
            · exact (HTV.out.2 v hv).2.2.2)
          have B4 := Lib.hid (HCS.out.1.trans (hb5.mono hw1s))
          have ST := Lib.hid ((HCS.out.2.1.below hb5).set HGU.out hv2 hl2 hc2 (fun _ b' o e e2 => by have h1 := hfr b' o e; have h2 := HB4.out.size; omega))
          have HM4 := Lib.hid (show (cs.set i (u.with (u.s.vals ++ t.s.vals) A2 c2)).map (·.s) = unionS a.signs (b.signs.take (k + 1)) by
            rw [List.map_set, HCS.out.2.2, HSN.out, HU.out.1, ← HUS.out]; rfl)
          clear hv2 hl2 hc2 hfr own4 hb4 hb5 y4 y5
          go_wp2_with fail
          go_roundw
          case rel => exact ⟨k + 1, by omega, by go_num, Lib.hid ⟨_, c, _, by rw [List.length_set], B4.out.setCell (p := ⟨g, i * 5 + 4, none⟩) hg0 _, by have h := ST.out; rw [List.length_append] at h; exact h, HM4.out⟩⟩
          case measure => simp [intOf]; omega)
      · have hin : (a.signs.any fun s => strEq s.code t.s.code) = false := by simpa using hin
        rw [hin] at hlk
        subst hbox
        have HUN := Lib.hid (union_new a.signs (b.signs.take k) t.s hin)
        go_upto_region 9 with fail
        generalize wr.alloc (.cells #[.string t.s.code, .int .i64 t.s.wide, .int .i64 t.s.high, .bool t.s.even, .slice t.A t.s.vals.length t.cap] 38) = W2 at HBX HBW HSZ HLK ⊢
        have HOS := Lib.hid (HCS.out.2.1.below HBW.out)
        have HM2 := Lib.hid (HTO.out.below HBW.out)
        have z0 := cell_of_blk HBX.out 0
        have z1 := cell_of_blk HBX.out 1
        have z2 := cell_of_blk HBX.out 2
        have z3 := cell_of_blk HBX.out 3
        have z4 := cell_of_blk HBX.out 4
        simp at z0 z1 z2 z3 z4
        go_wp2_with (first
          | (at_builtin; refine wpList_append_src _ rfl (.tmp 43) (.tmp 45) 22 rfl w1.heap.size 38 is (.agg #[.string ⟨#[]⟩, .int .i64 0, .int .i64 0, .bool false, .slice none 0 0]) 5 64 Tryz.underlying22 his.out hzs.out hss.out hbs.out rfl (by decide) (.slice A cs.length c) cs.length (cs.flatMap Sm.cells) rfl ?own2 (some ⟨W2.heap.size, 0, none⟩) 1 1 (Sm.cells t) rfl ?l2 ?n2 ?c2 sm_one ?m2 ?b2 ?s2 (cs.length + 1) rfl ?_))
        case own2 => exact HOS.out.own.alloc _
        case l2 => rfl
        case n2 => intro h; cases h
        case c2 =>
          intro ad had i u' hi
          injection had with had
          subst had
          have := new_cells W2 (Sm.cells t) 38 i u' hi
          simpa [Sm.cells] using this
        case m2 => unfold maxLen; omega
        case b2 => omega
        case s2 => have := HSZ.out; simp; omega
        · intro A4 c4 w5 own5 hg5 hat
          have OS5 := Lib.hid (OwnSigns.append (m := t) HOS.out HM2.out (fun h0 b' o e e2 => by
            have h1 := vals_lt HT0.out.vals h0 b' o e
            have h2 := (HOS.out.own.lt b' e2).1
            omega) own5 hg5 (by simpa using hat))
          have B7 := Lib.hid (((HCS.out.1.trans (HBW.out.mono hw1s)).alloc (by have := HSZ.out; omega) (.cells #[.string t.s.code, .int .i64 t.s.wide, .int .i64 t.s.high, .bool t.s.even, .slice t.A t.s.vals.length t.cap] 38)).grown hg5 (by have := HSZ.out; simp; omega) (fun g hg => (HOS.out.own.lt g hg).1))
          clear own5 hg5 hat
          go_wp2_with fail
          go_roundw
          case rel => exact ⟨k + 1, by omega, by go_num, Lib.hid ⟨A4, c4, cs ++ [t], by simp, B7.out, OS5.out, by rw [List.map_append, HCS.out.2.2, HSN.out, HUN.out]; rfl⟩⟩
          case measure => simp [intOf]; omega
    · obtain rfl : k = n := by omega
      have HCN := Lib.hid (show cs.map (·.s) = unionS a.signs b.signs by
        rw [hm3, HN.out, ← Lm.length_signs, List.take_length])
      have HUV := Lib.hid (union_okV a.signs b.signs OA.out.2.2.2 OB.out.2.2.2 OB.out.1)
      have HB3 := Lib.hid hb3
      have HO3 := Lib.hid ho3
      have hcl : cs.length ≤ 400 := by
        have h1 : (cs.map (·.s)).length = _ := congrArg List.length HCN.out
        rw [List.length_map] at h1
        have h2 := union_len a.signs b.signs
        have h3 := OB.out.1
        have h4 := OA.out.1
        have h5 : a.li.signs = a.signs := rfl
        have h6 : b.li.signs = b.signs := rfl
        rw [h6] at h3
        rw [h5] at h4
        omega
      obtain ⟨q, hq⟩ : ∃ q, q = cs.length := ⟨_, rfl⟩
      have HQ := Lib.hid hq
      rw [← hq] at hcl ⊢
      clear hb3 ho3 hm3 hrl hq
      obtain ⟨wo, rfl⟩ : ∃ wo : World, wo = wr := ⟨_, rfl⟩
      go_wp2_with fail
      go_loopw [50] (fun i wr => ∃ j : Nat, j ≤ q ∧ i = .int .i64 j ∧ Hid (∃ ds, ds.length = q ∧ Below w1.heap.size w1 wr ∧ OwnSigns wr w1.heap.size A c ds ∧ ds.map (·.s) = firstW tidyV j (unionS a.signs b.signs))) (fun i _ => q - (intOf i).toNat)
      case atStart => exact ⟨0, Nat.zero_le _, rfl, Lib.hid ⟨cs, HQ.out.symm, HB3.out, HO3.out, by rw [firstW_zero]; exact HCN.out⟩⟩
      case round =>
        obtain ⟨j, hj, rfl, hr2⟩ := hrel
        obtain ⟨ds, hdl, hb4, ho4, hm4⟩ := hr2.out
        by_cases hlj : j < q
        · have hget : ds[j]? = some (ds[j]'(by omega)) := List.getElem?_eq_getElem _
          obtain ⟨u, hu⟩ : ∃ u, u = ds[j]'(by omega) := ⟨_, rfl⟩
          rw [← hu] at hget
          have hul : j < (unionS a.signs b.signs).length := by rw [← HCN.out, List.length_map, ← HQ.out]; exact hlj
          have hus : (unionS a.signs b.signs)[j]? = some u.s := by
            have h1 : (ds.map (·.s))[j]? = some u.s := by rw [List.getElem?_map, hget]; rfl
            rw [hm4] at h1
            have h2 := firstW_at tidyV j (unionS a.signs b.signs) _ (List.getElem?_eq_getElem hul)
            rw [h2] at h1
            rw [List.getElem?_eq_getElem hul]
            exact h1
          have HUW := Lib.hid (HUV.out u.s (List.mem_of_getElem? hus))
          obtain ⟨A', c', e', hc1, hc1m, hA1, hA1n⟩ := own_slice ho4.own
          injection e' with e1 e2 e3
          subst e1 e3
          cases hA : A with
          | none => have := hA1n hA; omega
          | some ad =>
          obtain ⟨g, rfl, hg0, hg1, hcell⟩ := hA1 ad hA
          subst hA
          have hsm := sm_cells_at hcell hget
          have x4 := hsm.c4
          rw [Nat.zero_add] at x4
          have HUO := Lib.hid (ho4.ok u (List.mem_of_getElem? hget))
          have HGET := Lib.hid hget
          have HUS := Lib.hid hus
          have HCS := Lib.hid (And.intro hdl (And.intro hb4 (And.intro ho4 hm4)))
          clear hu hget hus hsm hcell hA1 hA1n hdl hb4 ho4 hm4 hr2
          go_wp2_with fail
          refine (tidy_any u.A u.cap u.s.vals wr HUO.out.vals (by have := HUW.out.1; omega) HUW.out.2).mono ?_; rintro e w3 ⟨A2, c2, rfl, hv2, hl2, hc2, hb5, hfr⟩
          have X4 := Lib.hid ((hb5.cell (p := ⟨g, j * 5 + 4, none⟩) hg1).trans x4)
          have OW4 := Lib.hid (HCS.out.2.2.1.below hb5)
          have z4 := OW4.out.own.frozenAt (j * 5 + 4)
          have y4 := X4.out
          have hg3 : g < w3.heap.size := Nat.lt_of_lt_of_le hg1 hb5.size
          have B4 := Lib.hid (HCS.out.2.1.trans (hb5.mono HCS.out.2.1.size))
          have ST := Lib.hid (OW4.out.set HGET.out hv2 hl2 hc2 (fun _ b o e e2 => by have := hfr b o e; omega))
          clear hv2 hl2 hc2 hb5 hfr x4
          go_wp2_with fail
          go_roundw
          case rel => exact ⟨j + 1, by omega, by go_num, Lib.hid ⟨_, by rw [List.length_set]; exact HCS.out.1, B4.out.setCell (p := ⟨g, _, none⟩) hg0 _, ST.out, set_map HCS.out.2.2.2 HGET.out HUS.out _ rfl _ _⟩⟩
          case measure => simp [intOf]; omega
        · obtain rfl : j = q := by omega
          have HM := Lib.hid (show ds.map (·.s) = (unionS a.signs b.signs).map (sgWith tidyV) by
            rw [hm4, HQ.out, ← List.length_map (f := fun x : Sm => x.s), HCN.out, firstW_all])
          have HDL := Lib.hid hdl
          have HX := Lib.hid (And.intro (HB1.out.trans (hb4.mono HB1.out.size)) ho4)
          clear hdl hb4 ho4 hm4 hr2
          go_wp2_with fail
          go_ret
          exact ⟨A, c, ds, by rw [HDL.out]; rfl, ⟨own_base HX.out.2.own (HB1.out.size), HX.out.2.ok, HX.out.2.apart⟩, HM.out, HX.out.1⟩

end Go.Proofs.YtleihhkacmgofabGreatDoor

/- Contract of Merge, in the program. -/
namespace Go.Proofs.YtleihhkacmgofabGreatDoor
open Go.RowKit Go.Maps Go.WideMaps

theorem one_code {ls : List Sg} (h : apartC ls) {i : Nat} {s x : Sg} {c : ByteArray} (hi : ls[i]? = some s) (hs : strEq s.code c = true) (hx : x ∈ ls) (hc : strEq x.code c = true) : x = s := by
  obtain ⟨j, hj⟩ := List.getElem?_of_mem hx
  obtain ⟨h1, h2⟩ := List.getElem?_eq_some_iff.1 hi
  obtain ⟨h3, h4⟩ := List.getElem?_eq_some_iff.1 hj
  rw [strEq_is] at hs hc
  rcases Nat.lt_trichotomy i j with hlt | rfl | hlt
  · have := List.pairwise_iff_getElem.1 h i j h1 h3 hlt
    rw [h2, h4, strEq_no] at this
    exact absurd (hs.trans hc.symm) this
  · rw [← h2, ← h4]
  · have := List.pairwise_iff_getElem.1 h j i h3 h1 hlt
    rw [h2, h4, strEq_no] at this
    exact absurd (hc.trans hs.symm) this
/-- one sign of the other list clashes -/
def clash1 (ls : List Sg) (t : Sg) : Bool := ls.any fun s => strEq s.code t.code && !shapeEq s t
theorem clash_any (ls ks : List Sg) : clash ls ks = ks.any (clash1 ls) := rfl
theorem clash1_no {ls : List Sg} {t : Sg} (h : hasC ls t.code = false) : clash1 ls t = false := by
  unfold clash1
  rw [List.any_eq_false]
  intro x hx
  have := (List.any_eq_false.1 h) x hx
  simp at this
  simp [this]
theorem clash1_at {ls : List Sg} (ha : apartC ls) {i : Nat} {s t : Sg} (hi : ls[i]? = some s) (hs : strEq s.code t.code = true) : clash1 ls t = !shapeEq s t := by
  unfold clash1
  cases hq : shapeEq s t
  · rw [List.any_eq_true.2 ⟨s, List.mem_of_getElem? hi, by rw [hs, hq]; rfl⟩]; rfl
  · rw [Bool.not_true, List.any_eq_false]
    intro x hx
    cases hc : strEq x.code t.code
    · simp
    · rw [one_code ha hi hs hx hc, hq]; simp

/-- a sign's values lie in no block that holds a list -/
theorem apart_list {w : World} {m : Sm} (h : SmOk w m) {b0 : Nat} {n : Int} {A : Option Addr} {k c : Nat} {t : TypeId} (hb : w.heap[b0]? = some (.cells #[.int .i64 n, .slice A k c] t (0, 0))) : ApartG b0 m.A m.s.vals := fun h0 b o e e2 => by
  obtain ⟨b', o', e', _, hv⟩ := h.vals 0 m.s.vals[0] (List.getElem?_eq_getElem h0)
  rw [e] at e'
  injection e' with e'; injection e' with e1 e3
  subst e1 e3 e2
  have c1 := hv.c1
  have h1 := cell_of_blk hb (o + 0 * 4 + 1)
  rw [h1, Nat.zero_mul, Nat.add_zero] at c1
  cases o with
  | zero => simp at c1
  | succ o => simp at c1

set_option maxHeartbeats 3200000 in
set_option maxRecDepth 100000 in
theorem pmerge_any (a b : Lm) (w : World) (ha : LmOk w a) (hb : LmOk w b) :
    Calls Tryz.prog 7 #[a.val, b.val] w (GotListE w (mergeL a.li b.li)) := by
  obtain ⟨W, hW⟩ : ∃ W, W = (((w.alloc (.cells #[.int .i64 a.per, .slice a.A a.ms.length a.cap] 24)).alloc (.cells #[.int .i64 b.per, .slice b.A b.ms.length b.cap] 24)).alloc (.cells #[.int .i64 0, .slice none 0 0] 24)) := ⟨_, rfl⟩
  have HB := Lib.hid (show Below w.heap.size w W from hW ▸ (((Below.refl _ _).alloc (Nat.le_refl _) _).alloc (by simp) _).alloc (by simp; omega) _)
  have C1 := Lib.hid (show W.heap[w.heap.size]? = some (.cells #[.int .i64 a.per, .slice a.A a.ms.length a.cap] 24 (0, 0)) by
    rw [hW, heap_alloc_other _ _ _ (by simp; omega), heap_alloc_other _ _ _ (by simp)]; exact heap_alloc_new _ _)
  have C2 := Lib.hid (show W.heap[w.heap.size + 1]? = some (.cells #[.int .i64 b.per, .slice b.A b.ms.length b.cap] 24 (0, 0)) by
    rw [hW, heap_alloc_other _ _ _ (by simp)]; have := heap_alloc_new (w.alloc (.cells #[.int .i64 a.per, .slice a.A a.ms.length a.cap] 24)) (.cells #[.int .i64 b.per, .slice b.A b.ms.length b.cap] 24); simpa using this)
  have C3 := Lib.hid (show W.heap[w.heap.size + 1 + 1]? = some (.cells #[.int .i64 0, .slice none 0 0] 24 (0, 0)) by
    rw [hW]; have := heap_alloc_new ((w.alloc (.cells #[.int .i64 a.per, .slice a.A a.ms.length a.cap] 24)).alloc (.cells #[.int .i64 b.per, .slice b.A b.ms.length b.cap] 24)) (.cells #[.int .i64 0, .slice none 0 0] 24); simpa using this)
  have HS := Lib.hid (show W.heap.size = w.heap.size + 1 + 1 + 1 by rw [hW]; simp)
  have HA0 := Lib.hid ha
  have HB0 := Lib.hid hb
  have hlen := hb.len
  have hcap := hb.cap
  unfold maxLen at hcap
  obtain ⟨E, hE⟩ : ∃ E, E = checkErr a.li := ⟨_, rfl⟩
  have HE := Lib.hid hE.symm
  have HCK := Lib.hid (fun wx (hx : Below w.heap.size w wx) r (h : checkErr a.li = r) => show Calls Tryz.prog 21 #[.agg #[.int .i64 a.per, .slice a.A a.ms.length a.cap]] wx _ from pcheck_is a wx (ha.below hx) r h)
  have HCB := Lib.hid (fun wx (hx : Below w.heap.size w wx) r (h : checkErr b.li = r) => show Calls Tryz.prog 21 #[.agg #[.int .i64 b.per, .slice b.A b.ms.length b.cap]] wx _ from pcheck_is b wx (hb.below hx) r h)
  clear ha hb
  show Calls _ _ #[.agg #[.int .i64 a.per, .slice a.A a.ms.length a.cap], .agg #[.int .i64 b.per, .slice b.A b.ms.length b.cap]] w _
  by_cases h0 : E = 0
  case neg =>
    have hb : (E != 0) = true := by simpa using h0
    have HF := Lib.hid (show mergeL a.li b.li = (⟨0, []⟩, E) by unfold mergeL; rw [HE.out, if_pos h0])
    clear hE h0
    go_enter Tryz.func7, Tryz.ntmps7
    go_wp2_with fail
    rw [← hW]
    refine (HCK.out W HB.out E HE.out).mono ?_; rintro e w1 ⟨rfl, hb1⟩
    have k2 := blk_keep hb1 C3.out
    have r0 := cell_of_blk k2 0
    have r1 := cell_of_blk k2 1
    have f0 := free_of_blk k2 0
    have f1 := free_of_blk k2 1
    simp at r0 r1
    have B1 := Lib.hid (HB.out.trans (hb1.mono HB.out.size))
    clear hb1 k2
    go_wp2_with fail
    rw [HF.out]
    refine bodyPost_ret (v := .tuple #[.agg #[.int .i64 0, .slice none 0 0], .int .i64 E]) (by simp [results, Tryz.results7, go_sem, r0, r1]) rfl ⟨⟨0, [], none, 0⟩, rfl, lm_none _, rfl, ?_⟩
    exact (B1.out.setCell (by dsimp only; omega) _).setCell (by dsimp only; omega) _
  subst h0
  clear hE
  obtain ⟨E, hE⟩ : ∃ E, E = checkErr b.li := ⟨_, rfl⟩
  have HE2 := Lib.hid hE.symm
  by_cases h0 : E = 0
  case neg =>
    have hb : (E != 0) = true := by simpa using h0
    have HF := Lib.hid (show mergeL a.li b.li = (⟨0, []⟩, E) by unfold mergeL; rw [HE.out, HE2.out, if_neg (by simp), if_pos h0])
    clear hE h0
    go_enter Tryz.func7, Tryz.ntmps7
    go_wp2_with fail
    rw [← hW]
    refine (HCK.out W HB.out 0 HE.out).mono ?_; rintro e w1 ⟨rfl, hb1⟩
    have K2 := Lib.hid (blk_keep hb1 C2.out)
    have K3 := Lib.hid (blk_keep hb1 C3.out)
    have HX := Lib.hid (HB.out.trans (hb1.mono HB.out.size))
    have x0 := cell_of_blk K2.out 0
    have x1 := cell_of_blk K2.out 1
    simp at x0 x1
    clear hb1
    go_wp2_with fail
    refine (HCB.out w1 HX.out E HE2.out).mono ?_; rintro e w2 ⟨rfl, hb2⟩
    have k2 := blk_keep hb2 K3.out
    have r0 := cell_of_blk k2 0
    have r1 := cell_of_blk k2 1
    have f0 := free_of_blk k2 0
    have f1 := free_of_blk k2 1
    simp at r0 r1
    have B1 := Lib.hid (HX.out.trans (hb2.mono HX.out.size))
    clear hb2 k2 x0 x1
    go_wp2_with fail
    rw [HF.out]
    refine bodyPost_ret (v := .tuple #[.agg #[.int .i64 0, .slice none 0 0], .int .i64 E]) (by simp [results, Tryz.results7, go_sem, r0, r1]) rfl ⟨⟨0, [], none, 0⟩, rfl, lm_none _, rfl, ?_⟩
    exact (B1.out.setCell (by dsimp only; omega) _).setCell (by dsimp only; omega) _
  subst h0
  clear hE
  have CA := Lib.hid (check_all a.li HE.out)
  have CB := Lib.hid (check_all b.li HE2.out)
  have HNA := Lib.hid (show a.ms.length ≤ 200 by have := CA.out.1; rw [show a.li.signs = a.signs from rfl, Lm.length_signs] at this; exact this)
  have HNB := Lib.hid (show b.ms.length ≤ 200 by have := CB.out.1; rw [show b.li.signs = b.signs from rfl, Lm.length_signs] at this; exact this)
  have HLA := Lib.hid (fun c h => lastF_at a.li HE.out c h)
  obtain ⟨BA, hBA⟩ : ∃ X, X = b.A := ⟨_, rfl⟩
  have HBA := Lib.hid hBA
  obtain ⟨AA, hAA⟩ : ∃ X, X = a.A := ⟨_, rfl⟩
  have HAA := Lib.hid hAA
  rw [← hBA] at C2 ⊢ hW
  rw [← hAA] at C1 ⊢ hW
  clear hBA hAA
  obtain ⟨m, hm⟩ : ∃ m, m = a.ms.length := ⟨_, rfl⟩
  have HM := Lib.hid hm
  have hna := HNA.out
  have hal := HA0.out.len
  have hac := HA0.out.cap
  unfold maxLen at hac
  rw [← hm] at C1 hW hna hal ⊢
  clear hm
  obtain ⟨n, hn⟩ : ∃ n, n = b.ms.length := ⟨_, rfl⟩
  have HN := Lib.hid hn
  have hnb := HNB.out
  rw [← hn] at C2 hW hnb hlen ⊢
  clear hn
  have HNU := Lib.hid (fun wx (hx : Below w.heap.size w wx) => show Calls Tryz.prog 22 #[.slice AA m a.cap] wx fun e w' => ∃ b, e = .returned (.map (some b)) ∧ NumAt w' b m a.signs ∧ Below wx.heap.size wx w' by
    rw [HAA.out, HM.out]; exact numbers_any a wx (HA0.out.below hx) (by have := HNA.out; omega))
  have HUN := Lib.hid (fun wx (hx : Below w.heap.size w wx) => show Calls Tryz.prog 24 #[.slice AA m a.cap, .slice BA n b.cap] wx (GotSigns wx ((unionS a.signs b.signs).map (sgWith tidyV))) by
    rw [HAA.out, HM.out, HBA.out, HN.out]; exact punion_any a b wx (HA0.out.below hx) (HB0.out.below hx) HE.out HE2.out)
  rw [← HAA.out, ← HM.out] at HCK
  rw [← HBA.out, ← HN.out] at HCB
  go_enter Tryz.func7, Tryz.ntmps7
  go_wp2_with fail
  rw [← hW]
  refine (HCK.out W HB.out 0 HE.out).mono ?_; rintro e w1 ⟨rfl, hb1⟩
  have K1 := Lib.hid (blk_keep hb1 C1.out)
  have K2 := Lib.hid (blk_keep hb1 C2.out)
  have K3 := Lib.hid (blk_keep hb1 C3.out)
  have HX1 := Lib.hid (HB.out.trans (hb1.mono HB.out.size))
  have x0 := cell_of_blk K2.out 0
  have x1 := cell_of_blk K2.out 1
  simp at x0 x1
  clear hb1
  go_wp2_with fail
  refine (HCB.out w1 HX1.out 0 HE2.out).mono ?_; rintro e w2 ⟨rfl, hb2⟩
  have L1 := Lib.hid (blk_keep hb2 K1.out)
  have L2 := Lib.hid (blk_keep hb2 K2.out)
  have L3 := Lib.hid (blk_keep hb2 K3.out)
  have HX2 := Lib.hid (HX1.out.trans (hb2.mono HX1.out.size))
  have y1 := cell_of_blk L1.out 1
  simp at y1
  clear hb2 x0 x1
  go_wp2_with fail
  refine (HNU.out w2 HX2.out).mono ?_; rintro e w3 ⟨mb, rfl, num3, hb3⟩
  have NUM := Lib.hid num3
  have M1 := Lib.hid (blk_keep hb3 L1.out)
  have M2 := Lib.hid (blk_keep hb3 L2.out)
  have M3 := Lib.hid (blk_keep hb3 L3.out)
  have HX3 := Lib.hid (HX2.out.trans (hb3.mono HX2.out.size))
  have z1 := cell_of_blk M2.out 1
  simp at z1
  have hs3 : w.heap.size + 1 + 1 < w3.heap.size := (Array.getElem?_eq_some_iff.1 M3.out).1
  clear num3 hb3 y1
  go_wp2_with fail
  go_loopw [33] (fun i wr => ∃ k : Nat, k ≤ n ∧ i = .int .i64 k ∧ Hid (Below w3.heap.size w3 wr ∧ clash a.signs (b.signs.take k) = false)) (fun i _ => n - (intOf i).toNat)
  case atStart => exact ⟨0, Nat.zero_le _, rfl, Lib.hid ⟨Below.refl _ _, by rw [List.take_zero]; rfl⟩⟩
  case round =>
    obtain ⟨k, hk, rfl, hrl⟩ := hrel
    by_cases hlt : k < n
    · have hget : b.ms[k]? = some (b.ms[k]'(by have := HN.out; omega)) := List.getElem?_eq_getElem _
      obtain ⟨t, ht⟩ : ∃ t, t = b.ms[k]'(by have := HN.out; omega) := ⟨_, rfl⟩
      rw [← ht] at hget
      obtain ⟨bb, bo, hbA, hbb, hva, hto⟩ := HB0.out.signs k t hget
      have HWR := Lib.hid (HX3.out.trans (hrl.out.1.mono HX3.out.size))
      obtain ⟨y0, y1, y2, y3, y4⟩ := hva.below HWR.out hbb
      have hsb : bb < wr.heap.size := by have := HWR.out.size; omega
      have HTO := Lib.hid (hto.below HWR.out)
      have HSN := Lib.hid (show b.signs.take (k + 1) = b.signs.take k ++ [t.s] from take_step _ _ _ (by unfold Lm.signs; rw [List.getElem?_map, hget]; rfl))
      have HCB1 := Lib.hid (show clash a.signs (b.signs.take (k + 1)) = clash1 a.signs t.s by
        rw [HSN.out, clash_any, List.any_append, ← clash_any, hrl.out.2]; simp)
      have HTM := Lib.hid (show t.s ∈ b.signs from List.mem_of_getElem? (show b.signs[k]? = some t.s by unfold Lm.signs; rw [List.getElem?_map, hget]; rfl))
      have HR := Lib.hid hrl.out.1
      have HLK := Lib.hid (((NUM.out.below HR.out).alloc (Obj.cells #[.string t.s.code, .int .i64 t.s.wide, .int .i64 t.s.high, .bool t.s.even, .slice t.A t.s.vals.length t.cap] 38)).look (c := t.s.code) (HTO.out.code))
      have hlk := HLK.out
      rw [← HBA.out] at hbA
      subst hbA
      have hw3 := HR.out.size
      clear ht hget hva hto hbb hrl
      by_cases hin : (a.signs.any fun s => strEq s.code t.s.code) = true
      · obtain ⟨i, s, hi, hsi, hse⟩ := HLA.out t.s.code hin
        rw [show a.li.signs = a.signs from rfl] at hi hsi
        rw [hin, hi] at hlk
        have HC1 := Lib.hid (show clash1 a.signs t.s = !shapeEq s t.s from clash1_at CA.out.2.2.2.2 hsi hse)
        have hwa : w.heap.size < wr.heap.size := by omega
        have him : i < m := by
          have h1 := (List.getElem?_eq_some_iff.1 hsi).1
          rw [Lm.length_signs] at h1
          rw [HM.out]; exact h1
        have hgu : a.ms[i]? = some (a.ms[i]'(by have := HM.out; omega)) := List.getElem?_eq_getElem _
        obtain ⟨u, hu⟩ : ∃ u, u = a.ms[i]'(by have := HM.out; omega) := ⟨_, rfl⟩
        rw [← hu] at hgu
        have HUS := Lib.hid (show u.s = s by
          unfold Lm.signs at hsi
          rw [List.getElem?_map, hgu] at hsi
          injection hsi with h)
        obtain ⟨ab, ao, haA, hab, hva, -⟩ := HA0.out.signs i u hgu
        obtain ⟨v0, v1, v2, v3, v4⟩ := hva.below HWR.out hab
        have hsa : ab < wr.heap.size := by have := HWR.out.size; omega
        rw [← HAA.out] at haA
        subst haA
        have hd1 := cell_of_blk (blk_keep HR.out M1.out) 1
        simp at hd1
        have hi0 : (0 : Int) ≤ (i : Int) := by omega
        have hi1 : (i : Int) < (m : Int) := by omega
        have hi2 : ((i : Int)).toNat = i := by omega
        clear hi hu hgu hva hab hsi hse
        cases hq : shapeEq u.s t.s
        · have HSH := Lib.hid (fun wx => shape_is u t wx false hq)
          have HF := Lib.hid (show mergeL a.li b.li = (⟨0, []⟩, 11) by
            unfold mergeL
            rw [HE.out, HE2.out, if_neg (by simp), if_neg (by simp), if_pos]
            refine any_true _ b.signs k t.s ?_ ?_
            · obtain ⟨j, hj⟩ := List.getElem?_of_mem HTM.out
              have := HSN.out
              have hkl : k < b.signs.length := by rw [Lm.length_signs, ← HN.out]; exact hlt
              rw [List.take_succ_eq_append_getElem hkl] at this
              have h2 := List.append_cancel_left this
              rw [List.getElem?_eq_getElem hkl]
              injection h2 with h2
              rw [h2]
            · show clash1 a.signs t.s = true
              rw [HC1.out, ← HUS.out, hq]; rfl)
          go_wp2_with fail
          refine wp_region_later (by kernel_rfl) (by kernel_rfl) ?_; (repeat (first | go_big_quiet_step (((go_at_call 23; exact Calls.later _ (HSH.out _)))) | quiet_step (((go_at_call 23; exact Calls.later _ (HSH.out _)))))); refine wpQuiet_nil ?_; rintro _ ⟨s, rfl⟩
          have k3 := blk_keep s.below (show (wr.alloc (Obj.cells #[.string t.s.code, .int .i64 t.s.wide, .int .i64 t.s.high, .bool t.s.even, .slice t.A t.s.vals.length t.cap] 38)).heap[w.heap.size + 1 + 1]? = _ from (heap_alloc_other _ _ _ (by omega)).trans (blk_keep HR.out M3.out))
          have B9 := Lib.hid ((HWR.out.alloc HWR.out.size (Obj.cells #[.string t.s.code, .int .i64 t.s.wide, .int .i64 t.s.high, .bool t.s.even, .slice t.A t.s.vals.length t.cap] 38)).trans (s.below.mono (by simp; omega)))
          have r0 := cell_of_blk k3 0
          have r1 := cell_of_blk k3 1
          have f0 := free_of_blk k3 0
          have f1 := free_of_blk k3 1
          simp at r0 r1
          clear k3
          go_wp2_with fail
          rw [HF.out]
          refine bodyPost_ret (v := .tuple #[.agg #[.int .i64 0, .slice none 0 0], .int .i64 11]) (by simp [results, Tryz.results7, go_sem, r0, r1]) rfl ⟨⟨0, [], none, 0⟩, rfl, lm_none _, rfl, ?_⟩
          exact (B9.out.setCell (by dsimp only; omega) _).setCell (by dsimp only; omega) _
        · have HSH := Lib.hid (fun wx => shape_is u t wx true hq)
          have HCL := Lib.hid (show clash a.signs (b.signs.take (k + 1)) = false by rw [HCB1.out, HC1.out, ← HUS.out, hq]; rfl)
          go_wp2_with fail
          refine wp_region_later (by kernel_rfl) (by kernel_rfl) ?_; (repeat (first | go_big_quiet_step (((go_at_call 23; exact Calls.later _ (HSH.out _)))) | quiet_step (((go_at_call 23; exact Calls.later _ (HSH.out _)))))); refine wpQuiet_nil ?_; rintro _ ⟨s, rfl⟩
          have B9 := Lib.hid ((HR.out.alloc hw3 (Obj.cells #[.string t.s.code, .int .i64 t.s.wide, .int .i64 t.s.high, .bool t.s.even, .slice t.A t.s.vals.length t.cap] 38)).trans (s.below.mono (by simp; omega)))
          go_wp2_with fail
          go_roundw
          case rel => exact ⟨k + 1, by omega, by go_num, Lib.hid ⟨B9.out, HCL.out⟩⟩
          case measure => simp [intOf]; omega
      · have hin : (a.signs.any fun s => strEq s.code t.s.code) = false := by simpa using hin
        rw [hin] at hlk
        have HCL := Lib.hid (show clash a.signs (b.signs.take (k + 1)) = false by rw [HCB1.out]; exact clash1_no hin)
        go_wp2_with fail
        refine wp_region_later (by kernel_rfl) (by kernel_rfl) ?_; (repeat (first | go_big_quiet_step (fail) | quiet_step (fail))); refine wpQuiet_nil ?_; rintro _ ⟨s, rfl⟩
        have B9 := Lib.hid ((HR.out.alloc hw3 (Obj.cells #[.string t.s.code, .int .i64 t.s.wide, .int .i64 t.s.high, .bool t.s.even, .slice t.A t.s.vals.length t.cap] 38)).trans (s.below.mono (by simp; omega)))
        go_wp2_with fail
        go_roundw
        case rel => exact ⟨k + 1, by omega, by go_num, Lib.hid ⟨B9.out, HCL.out⟩⟩
        case measure => simp [intOf]; omega
    · obtain rfl : k = n := by omega
      have HCN := Lib.hid (show clash a.signs b.signs = false by
        have h := hrl.out.2
        rw [HN.out, ← Lm.length_signs, List.take_length] at h; exact h)
      have HR := Lib.hid hrl.out.1
      have N1 := Lib.hid (blk_keep HR.out M1.out)
      have N2 := Lib.hid (blk_keep HR.out M2.out)
      have N3 := Lib.hid (blk_keep HR.out M3.out)
      have HX4 := Lib.hid (HX3.out.trans (HR.out.mono HX3.out.size))
      have p0 := cell_of_blk N1.out 0
      have p1 := cell_of_blk N1.out 1
      have q0 := cell_of_blk N2.out 0
      have q1 := cell_of_blk N2.out 1
      simp at p0 p1 q0 q1
      have hwr := HR.out.size
      clear hrl
      go_wp2_with fail
      have HDR := Lib.hid (show Below wr.heap.size wr wr.drew from (Below.refl _ _).drew)
      have HK := Lib.hid (fun w' (hb : Below wr.heap.size wr w') => show w'.cell? ⟨w.heap.size, 0, none⟩ = some (.int .i64 a.per) ∧ w'.cell? ⟨w.heap.size, 1, none⟩ = some (.slice AA m a.cap) ∧ w'.cell? ⟨w.heap.size + 1, 0, none⟩ = some (.int .i64 b.per) ∧ w'.cell? ⟨w.heap.size + 1, 1, none⟩ = some (.slice BA k b.cap) from
        ⟨(hb.cell (p := ⟨w.heap.size, 0, none⟩) (by dsimp only; omega)).trans p0, (hb.cell (p := ⟨w.heap.size, 1, none⟩) (by dsimp only; omega)).trans p1, (hb.cell (p := ⟨w.heap.size + 1, 0, none⟩) (by dsimp only; omega)).trans q0, (hb.cell (p := ⟨w.heap.size + 1, 1, none⟩) (by dsimp only; omega)).trans q1⟩)
      have HDA := Lib.hid (show Below wr.heap.size wr (wr.alloc (.cells #[.int .i64 0, .slice none 0 0] 24)).drew from ((Below.refl _ _).alloc (Nat.le_refl _) _).drew)
      have BXA := Lib.hid (show (wr.alloc (.cells #[.int .i64 0, .slice none 0 0] 24)).drew.heap[wr.heap.size]? = some (.cells #[.int .i64 0, .slice none 0 0] 24 (0, 0)) from heap_alloc_new wr _)
      have HX5 := Lib.hid (HX4.out.trans (HDR.out.mono HX4.out.size))
      have HX6 := Lib.hid (HX4.out.trans (HDA.out.mono HX4.out.size))
      clear p0 p1 q0 q1
      go_region_held3 (fun w' => w'.cell? ⟨w.heap.size, 0, none⟩ = some (.int .i64 a.per) ∧ w'.cell? ⟨w.heap.size, 1, none⟩ = some (.slice AA m a.cap) ∧ w'.cell? ⟨w.heap.size + 1, 0, none⟩ = some (.int .i64 b.per) ∧ w'.cell? ⟨w.heap.size + 1, 1, none⟩ = some (.slice BA k b.cap))
        (first | (refine HK.out _ ?_; first | assumption | exact HDR.out | exact HDA.out | (refine Below.alloc ?_ ?_ _; assumption; assumption) | (refine Below.setCell (Below.setCell ?_ ?_ _) ?_ _; assumption; exact Nat.le_refl _; exact Nat.le_refl _)))
        (first
          | (go_at_call 24; refine (HUN.out _ HX5.out).mono ?_; rintro e w4 ⟨A2, c2, cs, rfl, own4, hm4, hb4⟩; have hb5 := below_more HDR.out hb4; have hb6 := hb5.size)
          | (go_at_call 24; refine (HUN.out _ HX6.out).mono ?_; rintro e w4 ⟨A2, c2, cs, rfl, own4, hm4, hb4⟩; have hb5 := below_more HDA.out hb4; have hb6 := hb5.size; have hk9 := blk_keep hb4 BXA.out; have t0 := cell_of_blk hk9 0; have t1 := cell_of_blk hk9 1; have t2 := free_of_blk hk9 0; have t3 := free_of_blk hk9 1; simp at t0 t1))
      all_goals (
        have HLI := Lib.hid (show (Lm.mk (max a.per b.per) cs A2 c2).li = unionL a.li b.li by unfold Lm.li Lm.signs unionL; dsimp only; rw [hm4]; rfl)
        have HKS := Lib.hid (blk_keep hb5 N3.out)
        first
          | (have HC9 := Lib.hid (show ((w4.setCell ⟨wr.heap.size, 0, none⟩ (.int .i64 (max a.per b.per))).setCell ⟨wr.heap.size, 1, none⟩ (.slice A2 cs.length c2)).heap[wr.heap.size]? = some (.cells #[.int .i64 (max a.per b.per), .slice A2 cs.length c2] 24 (0, 0)) by
              rw [heap_setCell_same _ _ _ _ _ _ (heap_setCell_same _ _ _ _ _ _ hk9)]; rfl)
             have hne : (Value.slice A2 cs.length c2).ownBlock ≠ some wr.heap.size := fun e => by have h1 := (own4.own.lt _ e).1; simp at h1; omega
             have hap : ∀ m ∈ cs, ApartG wr.heap.size m.A m.s.vals := fun m hm => apart_list (own4.ok m hm) hk9
             have HO9 := Lib.hid ((own4.other hne hap 0 (.int .i64 (max a.per b.per))).other hne hap 1 (.slice A2 cs.length c2))
             have HB9 := Lib.hid ((hb5.setCell (p := ⟨wr.heap.size, 0, none⟩) (Nat.le_refl _) (.int .i64 (max a.per b.per))).setCell (p := ⟨wr.heap.size, 1, none⟩) (Nat.le_refl _) (.slice A2 cs.length c2))
             generalize (w4.setCell ⟨wr.heap.size, 0, none⟩ (.int .i64 (max a.per b.per))).setCell ⟨wr.heap.size, 1, none⟩ (.slice A2 cs.length c2) = W9 at HC9 HO9 HB9 ⊢
             clear hne hap hk9 t0 t1 t2 t3)
          | (have HC9 := Lib.hid (heap_alloc_new w4 (.cells #[.int .i64 (max a.per b.per), .slice A2 cs.length c2] 24))
             have HO9 := Lib.hid (own4.below (below_alloc w4 (.cells #[.int .i64 (max a.per b.per), .slice A2 cs.length c2] 24)))
             have HB9 := Lib.hid (hb5.alloc hb6 (.cells #[.int .i64 (max a.per b.per), .slice A2 cs.length c2] 24))
             generalize w4.alloc (.cells #[.int .i64 (max a.per b.per), .slice A2 cs.length c2] 24) = W9 at HC9 HO9 HB9 ⊢)
        have z0 := cell_of_blk HC9.out 0
        have z1 := cell_of_blk HC9.out 1
        simp at z0 z1
        have HK9 := Lib.hid (blk_keep HB9.out N3.out)
        have HX9 := Lib.hid (HX4.out.trans (HB9.out.mono HX4.out.size))
        have HCK3 := Lib.hid (fun r (h : checkErr (unionL a.li b.li) = r) => show Calls Tryz.prog 21 #[.agg #[.int .i64 (max a.per b.per), .slice A2 cs.length c2]] W9 _ from pcheck_is ⟨max a.per b.per, cs, A2, c2⟩ W9 (HO9.out.lm _) r (by rw [HLI.out]; exact h))
        clear own4 hb4 hb5 hm4
        obtain ⟨E, hE⟩ : ∃ E, E = checkErr (unionL a.li b.li) := ⟨_, rfl⟩
        have HE3 := Lib.hid hE.symm
        by_cases h0 : E = 0
        · subst h0
          have HF := Lib.hid (show mergeL a.li b.li = (unionL a.li b.li, 0) by
            unfold mergeL
            rw [HE.out, HE2.out, HE3.out, if_neg (by simp), if_neg (by simp), if_neg (by rw [show a.li.signs = a.signs from rfl, show b.li.signs = b.signs from rfl, HCN.out]; simp), if_neg (by simp)])
          clear hE
          go_wp2_with fail
          refine (HCK3.out 0 HE3.out).mono ?_; rintro e w10 ⟨rfl, hb10⟩
          have y0 := cell_of_blk (blk_keep hb10 HC9.out) 0
          have y1 := cell_of_blk (blk_keep hb10 HC9.out) 1
          have HK10 := Lib.hid (blk_keep hb10 HK9.out)
          have r0 := cell_of_blk HK10.out 0
          have r1 := cell_of_blk HK10.out 1
          have f0 := free_of_blk HK10.out 0
          have f1 := free_of_blk HK10.out 1
          simp at r0 r1 y0 y1
          have HO10 := Lib.hid (HO9.out.below hb10)
          have HX10 := Lib.hid (HX9.out.trans (hb10.mono HX9.out.size))
          have hne : (Value.slice A2 cs.length c2).ownBlock ≠ some (w.heap.size + 1 + 1) := fun e => by have h1 := (HO10.out.own.lt _ e).1; simp at h1; omega
          have hap : ∀ m ∈ cs, ApartG (w.heap.size + 1 + 1) m.A m.s.vals := fun m hm => apart_list (HO10.out.ok m hm) HK10.out
          have HO := Lib.hid ((HO10.out.other hne hap 0 (.int .i64 (max a.per b.per))).other hne hap 1 (.slice A2 cs.length c2))
          clear hb10 z0 z1 hne hap
          go_wp2_with fail
          rw [HF.out]
          refine bodyPost_ret (v := .tuple #[.agg #[.int .i64 (max a.per b.per), .slice A2 cs.length c2], .int .i64 0]) (by simp [results, Tryz.results7, go_sem, r0, r1]) rfl ⟨⟨max a.per b.per, cs, A2, c2⟩, rfl, HO.out.lm _, HLI.out, ?_⟩
          exact (HX10.out.setCell (by dsimp only; omega) _).setCell (by dsimp only; omega) _
        · have hbe : (E != 0) = true := by simpa using h0
          have HF := Lib.hid (show mergeL a.li b.li = (⟨0, []⟩, E) by
            unfold mergeL
            rw [HE.out, HE2.out, HE3.out, if_neg (by simp), if_neg (by simp), if_neg (by rw [show a.li.signs = a.signs from rfl, show b.li.signs = b.signs from rfl, HCN.out]; simp), if_pos h0])
          clear hE h0
          go_wp2_with fail
          refine (HCK3.out E HE3.out).mono ?_; rintro e w10 ⟨rfl, hb10⟩
          have HK10 := Lib.hid (blk_keep hb10 HK9.out)
          have r0 := cell_of_blk HK10.out 0
          have r1 := cell_of_blk HK10.out 1
          have f0 := free_of_blk HK10.out 0
          have f1 := free_of_blk HK10.out 1
          simp at r0 r1
          have HX10 := Lib.hid (HX9.out.trans (hb10.mono HX9.out.size))
          clear hb10 z0 z1
          go_wp2_with fail
          rw [HF.out]
          refine bodyPost_ret (v := .tuple #[.agg #[.int .i64 0, .slice none 0 0], .int .i64 E]) (by simp [results, Tryz.results7, go_sem, r0, r1]) rfl ⟨⟨0, [], none, 0⟩, rfl, lm_none _, rfl, ?_⟩
          exact (HX10.out.setCell (by dsimp only; omega) _).setCell (by dsimp only; omega) _)

end Go.Proofs.YtleihhkacmgofabGreatDoor
