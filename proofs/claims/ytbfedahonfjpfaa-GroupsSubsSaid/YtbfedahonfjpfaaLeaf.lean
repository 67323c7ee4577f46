/-
  Contracts of the small functions of layer 1 and of its specification: tests of bytes, numbers, codes and texts.
-/
import Derived.Test.YtbfedahonfjpfaaProg
import Derived.Test.YtbfedahonfjpfaaPure
import Derived.WalkKit
import Derived.Deep.QuietTactic
import Derived.BigQuiet
import Derived.WalkLawsBesides
import Derived.WalkSpells
import Derived.Outline
import Derived.Lib.Hide
namespace Go.Proofs.Ytbfedahonfjpfaa
open Go.RowKit

theorem within_any (n m : Int) (w : World) : Calls Try.prog 86 #[.int .i64 n, .int .i64 m] w fun e w' => e = .returned (.bool (withinB n m)) ∧ w = w' := by
  go_enter Try.func86, Try.ntmps86
  go_wp2
  all_goals go_ret
  all_goals (simp [withinB, *]; try omega)

theorem cap_any (c : UInt8) (w : World) : Calls Try.prog 104 #[.int .u8 c.toNat] w fun e w' => e = .returned (.bool (capB c)) ∧ w = w' := by
  go_enter Try.func104, Try.ntmps104
  go_wp2
  all_goals go_ret
  all_goals (simp [capB, *]; try omega)

theorem dig_any (c : UInt8) (w : World) : Calls Try.prog 106 #[.int .u8 c.toNat] w fun e w' => e = .returned (.bool (digB c)) ∧ w = w' := by
  go_enter Try.func106, Try.ntmps106
  go_wp2
  all_goals go_ret
  all_goals (simp [digB, *]; try omega)

theorem let_any (c : UInt8) (w : World) : Calls Try.prog 105 #[.int .u8 c.toNat] w fun e w' => e = .returned (.bool (letB c)) ∧ w = w' := by
  go_enter Try.func105, Try.ntmps105
  go_wp2_with (go_at_call 104; refine (cap_any _ _).mono ?_; rintro e w' ⟨rfl, rfl⟩)
  all_goals go_ret
  all_goals (simp [letB, smallB, *]; try omega)

theorem kind_any (n : Int) (w : World) : Calls Try.prog 115 #[.int .i64 n] w fun e w' => e = .returned (.bool (kindB n)) ∧ w = w' := by
  go_enter Try.func115, Try.ntmps115
  go_wp2
  all_goals go_ret
  all_goals (simp [kindB, *]; try omega)

theorem between_any (c lo hi : Int) (w : World) : Calls Try.prog 109 #[.int .u8 c, .int .u8 lo, .int .u8 hi] w fun e w' => e = .returned (.bool (decide (lo ≤ c) && decide (c ≤ hi))) ∧ w = w' := by
  go_enter Try.func109, Try.ntmps109
  go_wp2
  all_goals go_ret
  all_goals (simp [*]; try omega)


theorem of_bool {a b : Bool} (h : a = b) : Ending.returned (.bool a) = .returned (.bool b) := by rw [h]

set_option maxHeartbeats 400000 in
theorem code_any (s : ByteArray) (w : World) (hs : s.size ≤ maxLen) : Calls Try.prog 87 #[.string s] w fun e w' => e = .returned (.bool (codeB s)) ∧ w = w' := by
  unfold maxLen at hs
  by_cases h1 : withinB s.size 8 = true
  case neg =>
    have h1 : withinB s.size 8 = false := by simpa using h1
    have hf := Lib.hid (show codeB s = false by simp [codeB, h1])
    go_enter Try.func87, Try.ntmps87
    go_wp2_with (first | (go_at_call 86; refine (within_any _ _ _).mono ?_; rintro e w' ⟨rfl, rfl⟩))
    go_ret
    exact ⟨of_bool (by rw [hf.out]), rfl⟩
  have h0 : 0 < s.size := by simp [withinB] at h1; omega
  by_cases h2 : capB s[0] = true
  case neg =>
    have h2 : capB s[0] = false := by simpa using h2
    have hf := Lib.hid (show codeB s = false by
      have : (bytes s).head? = some s[0] := by rw [List.head?_eq_getElem?]; exact bytes_at s 0 h0
      simp [codeB, this, h2])
    go_enter Try.func87, Try.ntmps87
    go_wp2_with (first | (go_at_call 86; refine (within_any _ _ _).mono ?_; rintro e w' ⟨rfl, rfl⟩) | (go_at_call 104; refine (cap_any _ _).mono ?_; rintro e w' ⟨rfl, rfl⟩))
    go_ret
    exact ⟨of_bool (by rw [hf.out]), rfl⟩
  have hf := Lib.hid (show codeB s = (bytes s).all letdigB by
      have : (bytes s).head? = some s[0] := by rw [List.head?_eq_getElem?]; exact bytes_at s 0 h0
      simp [codeB, this, h1, h2])
  go_enter Try.func87, Try.ntmps87
  go_wp2_with (first | (go_at_call 86; refine (within_any _ _ _).mono ?_; rintro e w' ⟨rfl, rfl⟩) | (go_at_call 104; refine (cap_any _ _).mono ?_; rintro e w' ⟨rfl, rfl⟩))
  go_loop [16] (fun i => ∃ k : Nat, k ≤ s.size ∧ i = .int .i64 k ∧ Hid (((bytes s).take k).all letdigB = true)) (fun i => s.size - (intOf i).toNat)
  case atStart => exact ⟨0, Nat.zero_le _, rfl, Lib.hid (by simp)⟩
  case round =>
    obtain ⟨k, hk, rfl, hall⟩ := hrel
    by_cases hlt : k < s.size
    · have hsn := Lib.hid (take_snoc s k hlt)
      have hat := Lib.hid (bytes_at s k hlt)
      by_cases hl : letB s[k] = true
      · have hp := Lib.hid (show letdigB s[k] = true by simp [letdigB, hl])
        go_wp2_with (first | (go_at_call 105; refine (let_any _ _).mono ?_; rintro e w' ⟨rfl, rfl⟩))
        go_round
        case rel => exact ⟨k + 1, by omega, by go_num, Lib.hid (by rw [hsn.out, all_snoc, hall.out, hp.out]; rfl)⟩
        case measure => simp [intOf]; omega
      · have hl : letB s[k] = false := by simpa using hl
        by_cases hd : digB s[k] = true
        · have hp := Lib.hid (show letdigB s[k] = true by simp [letdigB, hd])
          go_wp2_with (first | (go_at_call 105; refine (let_any _ _).mono ?_; rintro e w' ⟨rfl, rfl⟩) | (go_at_call 106; refine (dig_any _ _).mono ?_; rintro e w' ⟨rfl, rfl⟩))
          go_round
          case rel => exact ⟨k + 1, by omega, by go_num, Lib.hid (by rw [hsn.out, all_snoc, hall.out, hp.out]; rfl)⟩
          case measure => simp [intOf]; omega
        · have hd : digB s[k] = false := by simpa using hd
          have hp := Lib.hid (show letdigB s[k] = false by simp [letdigB, hl, hd])
          go_wp2_with (first | (go_at_call 105; refine (let_any _ _).mono ?_; rintro e w' ⟨rfl, rfl⟩) | (go_at_call 106; refine (dig_any _ _).mono ?_; rintro e w' ⟨rfl, rfl⟩))
          go_ret
          exact ⟨of_bool (by rw [hf.out, all_false_of _ _ _ _ hat.out hp.out]), rfl⟩
    · obtain rfl : k = s.size := by omega
      go_wp2
      go_ret
      exact ⟨of_bool (by rw [hf.out]; have := hall.out; rw [take_full] at this; exact this.symm), rfl⟩

end Go.Proofs.Ytbfedahonfjpfaa
