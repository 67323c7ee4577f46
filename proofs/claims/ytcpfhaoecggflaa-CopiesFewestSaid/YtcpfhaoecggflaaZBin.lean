/-
  The ways to choose k of n things, and sums of weights (layer 9): no program is imported here.
-/
namespace Go.Proofs.Ytcpfhaoecggflaa
/-- the ways to choose k of n things -/
def bin : Nat → Nat → Nat
  | _, 0 => 1
  | 0, _ + 1 => 0
  | n + 1, k + 1 => bin n k + bin n (k + 1)
theorem bin_zero (n : Nat) : bin n 0 = 1 := by cases n <;> rfl
theorem bin_over : ∀ n k, n < k → bin n k = 0
  | 0, 0, h => by omega
  | 0, _ + 1, _ => rfl
  | n + 1, 0, h => by omega
  | n + 1, k + 1, h => by rw [bin, bin_over n k (by omega), bin_over n (k + 1) (by omega)]
theorem bin_self : ∀ n, bin n n = 1
  | 0 => rfl
  | n + 1 => by rw [bin, bin_self n, bin_over n (n + 1) (by omega)]
theorem bin_pos : ∀ n k, k ≤ n → 1 ≤ bin n k
  | n, 0, _ => by rw [bin_zero]; omega
  | 0, k + 1, h => by omega
  | n + 1, k + 1, h => by rw [bin]; have := bin_pos n k (by omega); omega
/-- the sum of the first of f -/
def upto (f : Nat → Nat) : Nat → Nat
  | 0 => 0
  | k + 1 => upto f k + f k
theorem upto_le {f g : Nat → Nat} (c : Nat) (h : ∀ x, f x ≤ g x * c) : ∀ k, upto f k ≤ upto g k * c
  | 0 => by simp [upto]
  | k + 1 => by have := upto_le c h k; have := h k; rw [upto, upto, Nat.add_mul]; omega
theorem upto_mono {f g : Nat → Nat} (h : ∀ x, f x ≤ g x) : ∀ k, upto f k ≤ upto g k
  | 0 => by simp [upto]
  | k + 1 => by have := upto_mono h k; have := h k; rw [upto, upto]; omega
theorem upto_grow (f : Nat → Nat) {j k : Nat} (h : j ≤ k) : upto f j ≤ upto f k := by
  induction k with
  | zero => obtain rfl : j = 0 := by omega
            exact Nat.le_refl _
  | succ k ih =>
    by_cases e : j = k + 1
    · subst e; exact Nat.le_refl _
    · rw [upto]; have := ih (by omega); omega
theorem upto_one (f : Nat → Nat) {j k : Nat} (h : j < k) : f j ≤ upto f k := by
  have := upto_grow f (show j + 1 ≤ k from h)
  rw [upto] at this; omega
theorem upto_bin : ∀ n k, upto (bin n) k ≤ 2 ^ n
  | n, 0 => Nat.zero_le _
  | 0, k + 1 => by
    have h : ∀ j, upto (bin 0) (j + 1) = 1 := by
      intro j; induction j with
      | zero => rfl
      | succ j ih => rw [upto, ih]; rfl
    rw [h]; exact Nat.le_refl _
  | n + 1, k + 1 => by
    have h : ∀ j, upto (bin (n + 1)) (j + 1) = upto (bin n) j + upto (bin n) (j + 1) := by
      intro j; induction j with
      | zero => simp [upto, bin_zero]
      | succ j ih => rw [upto, ih, bin, upto, upto]; simp [upto]; omega
    rw [h]
    have h1 := upto_bin n k
    have h2 := upto_bin n (k + 1)
    rw [Nat.pow_succ]; omega
theorem bin_le (n k : Nat) : bin n k ≤ 2 ^ n := Nat.le_trans (upto_one (bin n) (Nat.lt_succ_self k)) (upto_bin n (k + 1))
theorem pow_60 {m n : Nat} (h : m + n ≤ 60) : 2 ^ m * 2 ^ n ≤ 2 ^ 60 := by
  rw [← Nat.pow_add]; exact Nat.pow_le_pow_right (by omega) h
theorem bin_60 {n : Nat} (k : Nat) (h : n ≤ 60) : bin n k ≤ 1152921504606846976 :=
  Nat.le_trans (bin_le n k) (Nat.pow_le_pow_right (n := 2) (by omega) h)
/-- the weight of a table -/
def wt (m n r x : Nat) : Nat := bin m x * bin n (r - x)
theorem wt_le (m n r x : Nat) : wt m n r x ≤ bin m x * 2 ^ n := Nat.mul_le_mul_left _ (bin_le n _)
theorem wts_le {m n : Nat} (r k : Nat) (h : m + n ≤ 60) : upto (wt m n r) k ≤ 1152921504606846976 :=
  Nat.le_trans (upto_le _ (wt_le m n r) k) (Nat.le_trans (Nat.mul_le_mul_right _ (upto_bin m k)) (pow_60 h))
theorem wt_60 {m n : Nat} (r x : Nat) (h : m + n ≤ 60) : wt m n r x ≤ 1152921504606846976 :=
  Nat.le_trans (upto_one (wt m n r) (Nat.lt_succ_self x)) (wts_le r (x + 1) h)
/-- the weights from lo on, those that are at most own -/
def someW (m n r own lo : Nat) : Nat → Nat
  | 0 => 0
  | k + 1 => someW m n r own lo k + if wt m n r (lo + k) ≤ own then wt m n r (lo + k) else 0
def allW (m n r lo : Nat) : Nat → Nat
  | 0 => 0
  | k + 1 => allW m n r lo k + wt m n r (lo + k)
theorem allW_le (m n r lo k : Nat) : allW m n r lo k + upto (wt m n r) lo = upto (wt m n r) (lo + k) := by
  induction k with
  | zero => simp [allW]
  | succ k ih => rw [allW, show lo + (k + 1) = (lo + k) + 1 from rfl, upto]; omega
theorem allW_60 {m n : Nat} (r lo k : Nat) (h : m + n ≤ 60) : allW m n r lo k ≤ 1152921504606846976 := by
  have := allW_le m n r lo k; have := wts_le r (lo + k) h; omega
theorem someW_le (m n r own lo k : Nat) : someW m n r own lo k ≤ allW m n r lo k := by
  induction k with
  | zero => exact Nat.le_refl _
  | succ k ih => rw [someW, allW]; split <;> omega
theorem someW_pos {m n r own lo j : Nat} (hj : wt m n r (lo + j) ≤ own) (h1 : 1 ≤ wt m n r (lo + j)) : ∀ k, j < k → 1 ≤ someW m n r own lo k
  | 0, h => by omega
  | k + 1, h => by
    rw [someW]
    by_cases e : j = k
    · subst e; rw [if_pos hj]; omega
    · have := someW_pos hj h1 k (by omega); omega
end Go.Proofs.Ytcpfhaoecggflaa
