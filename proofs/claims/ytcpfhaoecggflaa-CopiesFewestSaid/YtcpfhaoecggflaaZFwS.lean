/-
  Apart asks both copies alike; what Hands gives where it gives a list (layer 9): no walk.
-/
import Derived.Test.YtcpfhaoecggflaaZFwP
namespace Go.Proofs.Ytcpfhaoecggflaa
open Go.RowKit

theorem tally_sym (a b c d : Int) : tallyB a b c d = tallyB c d a b := by
  rw [good_is, good_is, Bool.eq_iff_iff]; simp only [decide_eq_true_eq]; omega
theorem fish_sym (a b c d : Int) : fishQ a b c d = fishQ c d a b := by
  by_cases h : tallyB a b c d = true
  · rw [good_is, decide_eq_true_eq] at h
    obtain ⟨x, y, hx⟩ := fish_ok a.toNat b.toNat c.toNat d.toNat (by omega)
    have e1 := hx.one
    have e2 := hx.two
    rw [Int.toNat_of_nonneg (by omega), Int.toNat_of_nonneg (by omega), Int.toNat_of_nonneg (by omega), Int.toNat_of_nonneg (by omega)] at e1 e2
    rw [e1, e2]
  · have h : tallyB a b c d = false := by simpa using h
    rw [fish_bad h, fish_bad (by rw [tally_sym]; exact h)]
theorem goodAt_sym (a b : List (Int × Int)) (k : Nat) : goodAt a b k = goodAt b a k := by
  unfold goodAt
  cases a[k]? <;> cases b[k]? <;> simp [tally_sym]
theorem amAt_sym (a b : List (Int × Int)) (n d : Int) (k : Nat) : amAt a b n d k = amAt b a n d k := by
  unfold amAt
  cases ha : a[k]? <;> cases hb : b[k]? <;> simp
  rename_i u v
  rw [fish_sym]
theorem lenB_sym (a b : List (Int × Int)) : lenB a b = lenB b a := by
  unfold lenB
  rw [Bool.eq_iff_iff]; simp; omega
theorem apE_sym (a b : List (Int × Int)) (n d : Int) : apE a b n d = apE b a n d := by
  unfold apE
  rw [lenB_sym]
  by_cases h : lenB b a = false
  · rw [if_pos h, if_pos h]
  · rw [if_neg h, if_neg h]
    have hl : a.length = b.length := by
      have h : lenB b a = true := by simpa using h
      unfold lenB at h; simp at h; omega
    have e : (List.range a.length).all (goodAt a b) = (List.range b.length).all (goodAt b a) := by
      rw [hl]; congr 1; funext k; exact goodAt_sym a b k
    rw [e]
theorem apV_sym (a b : List (Int × Int)) (n d : Int) : apV a b n d = apV b a n d := by
  unfold apV
  rw [apE_sym]
  by_cases h : apE b a n d = 0
  · rw [if_pos h, if_pos h]
    have hl : a.length = b.length := by
      unfold apE at h
      split at h
      · cases h
      · rename_i h2
        have h2 : lenB b a = true := by simpa using h2
        unfold lenB at h2; simp at h2; omega
    rw [hl]; congr 1; funext k; exact amAt_sym a b n d k
  · rw [if_neg h, if_neg h]
theorem apAt_sym (L : List Tr) (n d : Int) (i k : Nat) : apAt L n d i k = apAt L n d k i := by
  unfold apAt
  cases L[i]? <;> cases L[k]? <;> simp [apV_sym]
theorem erAt_sym (L : List Tr) (n d : Int) (i k : Nat) : erAt L n d i k = erAt L n d k i := by
  unfold erAt
  cases L[i]? <;> cases L[k]? <;> simp [apE_sym]
/-- where there is no error -/
theorem IsHn.none {L : List Tr} {n d : Int} {l : List Nat} (h : IsHn L n d 0 l) : L.length ≤ 8 ∧ (∀ i k, i < L.length → k < L.length → k ≠ i → erAt L n d i k = 0) ∧ HandsOk (apAt L n d) L.length l := by
  rcases h with ⟨_, h, _⟩ | ⟨_, _, h, _⟩ | ⟨_, _, ⟨_, _, _, _, _, h, _⟩, _⟩ | ⟨a1, _, a3, _, a5⟩
  · cases h
  · exact absurd rfl h
  · exact absurd rfl h
  · refine ⟨a1, fun i k hi hk hne => ?_, hands_ok a5 ?_⟩
    · by_cases e : i < k
      · exact a3 i k e hk
      · rw [erAt_sym]; exact a3 k i (by omega) hi
    · obtain ⟨m, h1, _⟩ := a5
      exact giveF_len _ _ _ _ _ _ h1
/-- a number among so many -/
theorem modN_is (n : Int) (m : Nat) (hm : 0 < m) : (-(m : Int) < Int.tmod n m ∧ Int.tmod n m < m) ∧ ∃ Y : Nat, Int.tmod n m % m = (Y : Int) ∧ Y < m := by
  have h1 : Int.tmod n m < m := Int.tmod_lt_of_pos n (by omega)
  have h2 : -(m : Int) < Int.tmod n m := by
    have h3 := Int.tmod_lt_of_pos (-n) (b := (m : Int)) (by omega)
    rw [Int.neg_tmod] at h3
    omega
  have h4 : 0 ≤ Int.tmod n m % m := Int.emod_nonneg _ (by omega)
  have h5 : Int.tmod n m % m < m := Int.emod_lt_of_pos _ (by omega)
  exact ⟨⟨h2, h1⟩, (Int.tmod n m % m).toNat, by omega, by omega⟩

end Go.Proofs.Ytcpfhaoecggflaa
