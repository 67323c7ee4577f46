/-
  What the pairs of an alignment cost, and that none costs less (layer 9): no program is imported here.
-/
import Derived.Test.YthnhfdeddehfcaaZAln
namespace Go.Proofs.Ythnhfdeddehfcaa

/-- what pairs cost from two places on, and whether they are an alignment -/
def costF (a b : List Int) : Nat → Nat → Int → List (Int × Int) → Int × Bool
  | i, k, c, [] => (c, decide (i = a.length ∧ k = b.length))
  | i, k, c, p :: r =>
    if (p.1 = -1 ∧ p.2 = -1) ∨ (p.1 ≠ -1 ∧ p.1 ≠ i) ∨ (p.2 ≠ -1 ∧ p.2 ≠ k) then (0, false)
    else if p.1 = -1 then (if b.length < k + 1 then (0, false) else costF a b i (k + 1) (c + 2) r)
    else if p.2 = -1 then (if a.length < i + 1 then (0, false) else costF a b (i + 1) k (c + 2) r)
    else if a.length ≤ i ∨ b.length ≤ k then (0, false)
    else costF a b (i + 1) (k + 1) (if a.getD i 0 = b.getD k 0 then c else c + 3) r
theorem costF_bad {a b : List Int} {i k : Nat} {c : Int} {p : Int × Int} {r : List (Int × Int)} (h : (p.1 = -1 ∧ p.2 = -1) ∨ (p.1 ≠ -1 ∧ p.1 ≠ i) ∨ (p.2 ≠ -1 ∧ p.2 ≠ k)) : costF a b i k c (p :: r) = (0, false) := by
  rw [costF, if_pos h]
theorem costF_right {a b : List Int} {i k : Nat} {c : Int} {r : List (Int × Int)} : costF a b i k c ((-1, (k : Int)) :: r) = if b.length < k + 1 then (0, false) else costF a b i (k + 1) (c + 2) r := by
  rw [costF, if_neg (by simp), if_pos rfl]
theorem costF_left {a b : List Int} {i k : Nat} {c : Int} {r : List (Int × Int)} : costF a b i k c (((i : Int), -1) :: r) = if a.length < i + 1 then (0, false) else costF a b (i + 1) k (c + 2) r := by
  rw [costF, if_neg (by simp), if_neg (by simp), if_pos rfl]
theorem costF_both {a b : List Int} {i k : Nat} {c : Int} {r : List (Int × Int)} : costF a b i k c (((i : Int), (k : Int)) :: r) = if a.length ≤ i ∨ b.length ≤ k then (0, false) else costF a b (i + 1) (k + 1) (if a.getD i 0 = b.getD k 0 then c else c + 3) r := by
  rw [costF, if_neg (by simp), if_neg (by simp), if_neg (by simp)]
theorem bth_if (x y c d : Int) : (if x = y then c else c + 3) + d = c + bth x y d := by
  unfold bth; split <;> omega
theorem getD_at {l : List Int} {i : Nat} (h : i < l.length) : l.getD i 0 = l[i] := by
  rw [List.getD_eq_getElem?_getD, List.getElem?_eq_getElem h]; rfl
theorem cst_s1 (a b : List Int) (i j : Nat) (h : j < b.length) : cst (a.drop i) (b.drop j) ≤ cst (a.drop i) (b.drop (j + 1)) + 2 := by
  rw [drop_lt h]
  cases ha : a.drop i with
  | nil => rw [cst_nil, cst_nil, List.length_cons]; omega
  | cons x xs => rw [cst_cons]; omega
theorem cst_s2 (a b : List Int) (i j : Nat) (h : i < a.length) : cst (a.drop i) (b.drop j) ≤ cst (a.drop (i + 1)) (b.drop j) + 2 := by
  rw [drop_lt h]
  cases hb : b.drop j with
  | nil => rw [cst_right, cst_right, List.length_cons]; omega
  | cons y ys => rw [cst_cons]; omega
theorem cst_s3 (a b : List Int) (i j : Nat) (h : i < a.length) (h2 : j < b.length) : cst (a.drop i) (b.drop j) ≤ bth a[i] b[j] (cst (a.drop (i + 1)) (b.drop (j + 1))) := by
  rw [drop_lt h, drop_lt h2, cst_cons]; omega
theorem cst_end (a b : List Int) (i j : Nat) (h : a.length ≤ i) (h2 : b.length ≤ j) : cst (a.drop i) (b.drop j) = 0 := by
  rw [List.drop_eq_nil_of_le h, List.drop_eq_nil_of_le h2]; rfl
theorem costF_prs (a b : List Int) : ∀ (n i j : Nat) (c : Int), i ≤ a.length → j ≤ b.length → (a.length - i) + (b.length - j) ≤ n → costF a b i j c (prs a b n i j) = (c + cst (a.drop i) (b.drop j), true) := by
  intro n
  induction n with
  | zero =>
    intro i j c hi hj hn
    rw [cst_end a b i j (by omega) (by omega), prs, costF]
    simp; omega
  | succ n ih =>
    intro i j c hi hj hn
    by_cases h : a.length ≤ i ∧ b.length ≤ j
    · rw [cst_end a b i j h.1 h.2, prs_end a b _ i j h.1 h.2, costF]
      simp; omega
    · rw [prs_step a b n i j h]
      by_cases h1 : i < a.length
      · by_cases h0 : ∃ h2 : j < b.length, bth a[i] b[j] (cst (a.drop (i + 1)) (b.drop (j + 1))) = cst (a.drop i) (b.drop j)
        · obtain ⟨h2, h0⟩ := h0
          rw [nxt_both a b i j h1 h2 h0, costF_both, if_neg (by omega)]
          rw [show adv (i : Int) i = i + 1 from by unfold adv; rw [if_neg (by omega)], show adv (j : Int) j = j + 1 from by unfold adv; rw [if_neg (by omega)]]
          rw [ih _ _ _ (by omega) (by omega) (by omega), getD_at h1, getD_at h2, bth_if, h0]
        · have h0 : ∀ h2 : j < b.length, ¬ bth a[i] b[j] (cst (a.drop (i + 1)) (b.drop (j + 1))) = cst (a.drop i) (b.drop j) := fun h2 e => h0 ⟨h2, e⟩
          by_cases h3 : cst (a.drop (i + 1)) (b.drop j) + 2 = cst (a.drop i) (b.drop j)
          · rw [nxt_left a b i j h1 h0 h3, costF_left, if_neg (by omega)]
            rw [show adv (i : Int) i = i + 1 from by unfold adv; rw [if_neg (by omega)], show adv (-1 : Int) j = j from rfl]
            rw [ih _ _ _ (by omega) (by omega) (by omega), ← h3]
            congr 1; omega
          · obtain ⟨e, h2⟩ := nxt_right a b i j h1 h0 h3
            have h4 := h0 h2
            have h5 : cst (a.drop i) (b.drop (j + 1)) + 2 = cst (a.drop i) (b.drop j) := by
              rw [drop_lt h1, drop_lt h2] at h3 h4 ⊢
              rw [cst_cons] at h3 h4 ⊢
              omega
            rw [e, costF_right, if_neg (by omega)]
            rw [show adv (j : Int) j = j + 1 from by unfold adv; rw [if_neg (by omega)], show adv (-1 : Int) i = i from rfl]
            rw [ih _ _ _ (by omega) (by omega) (by omega), ← h5]
            congr 1; omega
      · have h2 : j < b.length := by omega
        rw [nxt_none a b i j (by omega), costF_right, if_neg (by omega)]
        rw [show adv (j : Int) j = j + 1 from by unfold adv; rw [if_neg (by omega)], show adv (-1 : Int) i = i from rfl]
        rw [ih _ _ _ (by omega) (by omega) (by omega), List.drop_eq_nil_of_le (show a.length ≤ i by omega), cst_nil, cst_nil, List.length_drop, List.length_drop]
        congr 1; omega
theorem costF_pairs (a b : List Int) : costF a b 0 0 0 (pairsQ a b) = (cst a b, true) := by
  unfold pairsQ
  rw [costF_prs a b _ 0 0 0 (by omega) (by omega) (by omega)]
  simp
theorem costF_least (a b : List Int) : ∀ (ps : List (Int × Int)) (i j : Nat) (c v : Int), costF a b i j c ps = (v, true) → c + cst (a.drop i) (b.drop j) ≤ v := by
  intro ps
  induction ps with
  | nil =>
    intro i j c v h
    rw [costF] at h
    simp at h
    obtain ⟨h1, h2, h3⟩ := h
    rw [cst_end a b i j (by omega) (by omega)]; omega
  | cons p r ih =>
    intro i j c v h
    rw [costF] at h
    split at h
    · simp at h
    split at h
    · split at h
      · simp at h
      · have := ih _ _ _ _ h
        have := cst_s1 a b i j (by omega)
        omega
    split at h
    · split at h
      · simp at h
      · have := ih _ _ _ _ h
        have := cst_s2 a b i j (by omega)
        omega
    split at h
    · simp at h
    · have h1 : i < a.length := by omega
      have h2 : j < b.length := by omega
      have h3 := ih _ _ _ _ h
      rw [getD_at h1, getD_at h2, bth_if] at h3
      have := cst_s3 a b i j h1 h2
      omega
theorem bth_comm (x y c : Int) : bth x y c = bth y x c := by
  unfold bth
  by_cases h : x = y
  · rw [if_pos h, if_pos h.symm]
  · rw [if_neg h, if_neg (fun e => h e.symm)]
theorem cst_comm : ∀ a b : List Int, cst a b = cst b a
  | [], b => by rw [cst_nil, cst_right]
  | x :: xs, [] => by rw [cst_nil, cst_right]
  | x :: xs, y :: ys => by
    rw [cst_cons, cst_cons, cst_comm xs ys, cst_comm xs (y :: ys), cst_comm (x :: xs) ys, bth_comm]
    omega
theorem cst_zero : ∀ a b : List Int, (cst a b = 0 ↔ a = b)
  | [], [] => by simp [cst_nil]
  | [], y :: ys => by rw [cst_nil]; simp; omega
  | x :: xs, [] => by rw [cst_right]; simp; omega
  | x :: xs, y :: ys => by
    have h1 := (cst_bd xs ys).1
    have h2 := (cst_bd xs (y :: ys)).1
    have h3 := (cst_bd (x :: xs) ys).1
    have h4 := cst_zero xs ys
    rw [cst_cons]
    unfold bth
    by_cases e : x = y
    · subst e
      rw [if_pos rfl]
      constructor
      · intro h
        rw [h4.1 (by omega)]
      · intro h
        injection h with _ h
        have := h4.2 h
        omega
    · rw [if_neg e]
      constructor
      · intro h; omega
      · intro h; injection h with h _; exact absurd h e
/-- pairs that are no alignment answer 0, and what is no alignment is said -/
theorem costF_bd (a b : List Int) : ∀ (ps : List (Int × Int)) (i j : Nat) (c : Int), 0 ≤ c → 0 ≤ (costF a b i j c ps).1 := by
  intro ps
  induction ps with
  | nil => intro i j c h; rw [costF]; exact h
  | cons p r ih =>
    intro i j c h
    rw [costF]
    split
    · simp
    split
    · split
      · simp
      · exact ih _ _ _ (by omega)
    split
    · split
      · simp
      · exact ih _ _ _ (by omega)
    split
    · simp
    · exact ih _ _ _ (by split <;> omega)
end Go.Proofs.Ythnhfdeddehfcaa
