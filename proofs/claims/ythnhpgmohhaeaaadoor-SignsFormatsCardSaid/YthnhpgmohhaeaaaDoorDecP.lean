/-
  A number's digits and the place that they cite.
-/
import Derived.Test.YthnhpgmohhaeaaaDoorPname
import Derived.Test.YthnhpgmohhaeaaaDoorDec
namespace Go.Proofs.YthnhpgmohhaeaaaDoor
open Go.RowKit

theorem snoc_cases {α : Type} (l : List α) : l = [] ∨ ∃ r c, l = r ++ [c] := by
  cases h : l.reverse with
  | nil => left; simpa using h
  | cons c r => right; exact ⟨r.reverse, c, by have := congrArg List.reverse h; simpa using this⟩
theorem snoc_ind {α : Type} {P : List α → Prop} (h0 : P []) (hs : ∀ r c, P r → P (r ++ [c])) : ∀ l, P l := by
  have : ∀ n l, l.length = n → P l := by
    intro n
    induction n with
    | zero => intro l h; rw [List.eq_nil_of_length_eq_zero h]; exact h0
    | succ n ih =>
      intro l h
      rcases snoc_cases l with rfl | ⟨r, c, rfl⟩
      · simp at h
      · exact hs r c (ih r (by simp at h; exact h))
  exact fun l => this _ l rfl
theorem head_app {α : Type} {r : List α} {c : α} (h : r ≠ []) : (r ++ [c]).head? = r.head? := by
  cases r with
  | nil => exact absurd rfl h
  | cons => rfl
theorem dig_bd {c : UInt8} (h : digB c = true) : 48 ≤ c.toNat ∧ c.toNat ≤ 57 := by simp [digB] at h; omega
theorem numV_pos (l : List UInt8) : l.all digB = true → 0 ≤ numV l := by
  induction l using snoc_ind with
  | h0 => intro _; simp [numV]
  | hs r c ih =>
    intro h
    rw [List.all_append] at h
    simp at h
    have := ih (by simpa using h.1)
    have := dig_bd h.2
    rw [numV_snoc]; omega
theorem placeF_num (l : List UInt8) : l.all digB = true → placeF l = min (numV l) 201 := by
  induction l using snoc_ind with
  | h0 => intro _; rfl
  | hs r c ih =>
    intro h
    rw [List.all_append] at h
    simp at h
    have hr := ih (by simpa using h.1)
    have h0 := numV_pos r (by simpa using h.1)
    have hc := dig_bd h.2
    rw [placeF_snoc, numV_snoc, hr]
    unfold placeStep
    omega
theorem dec_num (v : Nat) : numV (Lib.decDigits v) = v := by
  induction v using Nat.strongRecOn with
  | ind v ih =>
    by_cases h : v < 10
    · rw [dec_small v h, show [UInt8.ofNat (48 + v)] = [] ++ [UInt8.ofNat (48 + v)] from rfl, numV_snoc]
      have : (UInt8.ofNat (48 + v)).toNat = 48 + v := by simp [UInt8.toNat_ofNat]; omega
      rw [this]; simp [numV]; omega
    · rw [dec_big v h, numV_snoc, ih (v / 10) (by omega)]
      have : (UInt8.ofNat (48 + v % 10)).toNat = 48 + v % 10 := by simp [UInt8.toNat_ofNat]; omega
      rw [this]; omega
theorem num_one (l : List UInt8) : l.all digB = true → l ≠ [] → l.head? ≠ some 48 → 1 ≤ numV l := by
  induction l using snoc_ind with
  | h0 => intro _ h; exact absurd rfl h
  | hs r c ih =>
    intro h _ hh
    rw [List.all_append] at h
    simp at h
    have hc := dig_bd h.2
    rw [numV_snoc]
    by_cases hr : r = []
    · subst hr
      simp at hh
      have : c.toNat ≠ 48 := fun e => hh (UInt8.toNat_inj.1 e)
      simp [numV]; omega
    · have h1 := ih (by simpa using h.1) hr (by rwa [head_app hr] at hh)
      omega
theorem num_dec (l : List UInt8) : l.all digB = true → l ≠ [] → l.head? ≠ some 48 → Lib.decDigits (numV l).toNat = l := by
  induction l using snoc_ind with
  | h0 => intro _ h; exact absurd rfl h
  | hs r c ih =>
    intro h _ hh
    rw [List.all_append] at h
    simp at h
    have hc := dig_bd h.2
    have hce : UInt8.ofNat c.toNat = c := by simp
    rw [numV_snoc]
    by_cases hr : r = []
    · subst hr
      have e : (numV [] * 10 + ((c.toNat : Int) - 48)).toNat = c.toNat - 48 := by simp [numV]; omega
      rw [e, dec_small _ (by omega), show 48 + (c.toNat - 48) = c.toNat by omega, hce]; rfl
    · have hh' : r.head? ≠ some 48 := by rwa [head_app hr] at hh
      have h1 := num_one r (by simpa using h.1) hr hh'
      have h2 := ih (by simpa using h.1) hr hh'
      have e : (numV r * 10 + ((c.toNat : Int) - 48)).toNat / 10 = (numV r).toNat := by omega
      have e2 : (numV r * 10 + ((c.toNat : Int) - 48)).toNat % 10 = c.toNat - 48 := by omega
      rw [dec_big _ (by omega), e, e2, h2, show 48 + (c.toNat - 48) = c.toNat by omega, hce]
/-- the digits of a place, and the place of digits -/
theorem dec_place (l : List UInt8) (hd : l.all digB = true) (hne : l ≠ []) (hh : l.head? ≠ some 48) (v : Nat) (hv : v ≤ 200) : Lib.decDigits v = l ↔ placeF l = v := by
  rw [placeF_num l hd]
  constructor
  · intro h
    have := dec_num v
    rw [h] at this
    omega
  · intro h
    have h1 : numV l = v := by omega
    have := num_dec l hd hne hh
    rw [h1] at this
    simpa using this

end Go.Proofs.YthnhpgmohhaeaaaDoor
