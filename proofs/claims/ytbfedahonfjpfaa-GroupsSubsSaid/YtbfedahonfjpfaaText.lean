/-
  Contracts of the tests of a value's text and of a code, in the program (isText) and in the specification (Small, Sounds, Code, Right).
-/
import Derived.Test.YtbfedahonfjpfaaLeaf
namespace Go.Proofs.Ytbfedahonfjpfaa
open Go.RowKit

theorem small_all (s : ByteArray) (k : Nat) (h : k < s.size) (hall : ((bytes s).take k).all smallB = true) (hp : smallB s[k] = true) : ((bytes s).take (k + 1)).all smallB = true := by
  rw [take_snoc s k h, all_snoc, hall, hp]; rfl

set_option maxHeartbeats 400000 in
theorem small_any (s : ByteArray) (w : World) (hs : s.size ≤ maxLen) : Calls Try.prog 118 #[.string s] w fun e w' => e = .returned (.bool ((bytes s).all smallB)) ∧ w = w' := by
  unfold maxLen at hs
  go_enter Try.func118, Try.ntmps118
  go_wp2
  go_loop [3] (fun i => ∃ k : Nat, k ≤ s.size ∧ i = .int .i64 k ∧ Hid (((bytes s).take k).all smallB = true)) (fun i => s.size - (intOf i).toNat)
  case atStart => exact ⟨0, Nat.zero_le _, rfl, Lib.hid (by simp)⟩
  case round =>
    obtain ⟨k, hk, rfl, hall⟩ := hrel
    by_cases hlt : k < s.size
    · have hat := Lib.hid (bytes_at s k hlt)
      by_cases hl : smallB s[k] = true
      · have hp := Lib.hid hl
        have hl' : (decide ((97 : Int) ≤ s[k].toNat) && decide ((s[k].toNat : Int) ≤ 122)) = true := hl
        clear hl
        go_wp2_with (first | (go_at_call 109; refine (between_any _ _ _ _).mono ?_; rintro e w' ⟨rfl, rfl⟩))
        go_round
        case rel => exact ⟨k + 1, by omega, by go_num, Lib.hid (small_all s k hlt hall.out hp.out)⟩
        case measure => simp [intOf]; omega
      · have hl : smallB s[k] = false := by simpa using hl
        have hp := Lib.hid hl
        have hl' : (decide ((97 : Int) ≤ s[k].toNat) && decide ((s[k].toNat : Int) ≤ 122)) = false := hl
        clear hl
        go_wp2_with (first | (go_at_call 109; refine (between_any _ _ _ _).mono ?_; rintro e w' ⟨rfl, rfl⟩))
        go_ret
        exact ⟨of_bool (by rw [all_false_of _ _ _ _ hat.out hp.out]), rfl⟩
    · obtain rfl : k = s.size := by omega
      go_wp2
      go_ret
      exact ⟨of_bool (by have := hall.out; rw [take_full] at this; exact this.symm), rfl⟩

/-- the tests of one byte, as the specification's 'between' spells them -/
theorem small_is (c : UInt8) : (decide ((97 : Int) ≤ c.toNat) && decide ((c.toNat : Int) ≤ 122)) = smallB c := rfl
theorem cap_is (c : UInt8) : (decide ((65 : Int) ≤ c.toNat) && decide ((c.toNat : Int) ≤ 90)) = capB c := rfl
theorem dig_is (c : UInt8) : (decide ((48 : Int) ≤ c.toNat) && decide ((c.toNat : Int) ≤ 57)) = digB c := rfl
theorem bsmall (c : UInt8) (w : World) : Calls Try.prog 109 #[.int .u8 c.toNat, .int .u8 97, .int .u8 122] w fun e w' => e = .returned (.bool (smallB c)) ∧ w = w' := between_any _ _ _ _
theorem bcap (c : UInt8) (w : World) : Calls Try.prog 109 #[.int .u8 c.toNat, .int .u8 65, .int .u8 90] w fun e w' => e = .returned (.bool (capB c)) ∧ w = w' := between_any _ _ _ _
theorem bdig (c : UInt8) (w : World) : Calls Try.prog 109 #[.int .u8 c.toNat, .int .u8 48, .int .u8 57] w fun e w' => e = .returned (.bool (digB c)) ∧ w = w' := between_any _ _ _ _

theorem all_step {p : UInt8 → Bool} (s : ByteArray) (k : Nat) (h : k < s.size) (hall : ((bytes s).take k).all p = true) (hp : p s[k] = true) : ((bytes s).take (k + 1)).all p = true := by
  rw [take_snoc s k h, all_snoc, hall, hp]; rfl

set_option maxHeartbeats 400000 in
theorem sounds_any (s : ByteArray) (w : World) (hs : s.size ≤ maxLen) : Calls Try.prog 119 #[.string s] w fun e w' => e = .returned (.bool ((bytes s).all letB)) ∧ w = w' := by
  unfold maxLen at hs
  go_enter Try.func119, Try.ntmps119
  go_wp2
  go_loop [3] (fun i => ∃ k : Nat, k ≤ s.size ∧ i = .int .i64 k ∧ Hid (((bytes s).take k).all letB = true)) (fun i => s.size - (intOf i).toNat)
  case atStart => exact ⟨0, Nat.zero_le _, rfl, Lib.hid (by simp)⟩
  case round =>
    obtain ⟨k, hk, rfl, hall⟩ := hrel
    by_cases hlt : k < s.size
    · have hat := Lib.hid (bytes_at s k hlt)
      by_cases hl : smallB s[k] = true
      · have hp := Lib.hid (show letB s[k] = true by simp [letB, hl])
        go_wp2_with (go_at_call 109; with_reducible (refine (bsmall _ _).mono ?_); rintro e w' ⟨rfl, rfl⟩)
        go_round
        case rel => exact ⟨k + 1, by omega, by go_num, Lib.hid (all_step s k hlt hall.out hp.out)⟩
        case measure => simp [intOf]; omega
      · have hl : smallB s[k] = false := by simpa using hl
        by_cases hd : capB s[k] = true
        · have hp := Lib.hid (show letB s[k] = true by simp [letB, hd])
          go_wp2_with (first | (go_at_call 109; ((with_reducible refine (bsmall _ _).mono ?_)); rintro e w' ⟨rfl, rfl⟩) | (go_at_call 109; ((with_reducible refine (bcap _ _).mono ?_)); rintro e w' ⟨rfl, rfl⟩))
          go_round
          case rel => exact ⟨k + 1, by omega, by go_num, Lib.hid (all_step s k hlt hall.out hp.out)⟩
          case measure => simp [intOf]; omega
        · have hd : capB s[k] = false := by simpa using hd
          have hp := Lib.hid (show letB s[k] = false by simp [letB, hl, hd])
          go_wp2_with (first | (go_at_call 109; ((with_reducible refine (bsmall _ _).mono ?_)); rintro e w' ⟨rfl, rfl⟩) | (go_at_call 109; ((with_reducible refine (bcap _ _).mono ?_)); rintro e w' ⟨rfl, rfl⟩))
          go_ret
          exact ⟨of_bool (by rw [all_false_of _ _ _ _ hat.out hp.out]), rfl⟩
    · obtain rfl : k = s.size := by omega
      go_wp2
      go_ret
      exact ⟨of_bool (by have := hall.out; rw [take_full] at this; exact this.symm), rfl⟩

set_option maxHeartbeats 400000 in
theorem rcode_any (s : ByteArray) (w : World) (hs : s.size ≤ maxLen) : Calls Try.prog 94 #[.string s] w fun e w' => e = .returned (.bool (codeB s)) ∧ w = w' := by
  unfold maxLen at hs
  by_cases h1 : 1 ≤ s.size
  case neg =>
    have hf := Lib.hid (show codeB s = false by simp [codeB, withinB]; omega)
    have h1 : s.size = 0 := by omega
    go_enter Try.func94, Try.ntmps94
    go_wp2
    go_ret
    exact ⟨of_bool (by rw [hf.out]), rfl⟩
  by_cases h8 : s.size ≤ 8
  case neg =>
    have hf := Lib.hid (show codeB s = false by simp [codeB, withinB]; omega)
    go_enter Try.func94, Try.ntmps94
    go_wp2
    go_ret
    exact ⟨of_bool (by rw [hf.out]), rfl⟩
  have hw := Lib.hid (show withinB s.size 8 = true by simp [withinB]; omega)
  by_cases h2 : capB s[0] = true
  case neg =>
    have h2 : capB s[0] = false := by simpa using h2
    have hf := Lib.hid (show codeB s = false by
      have : (bytes s).head? = some s[0] := by rw [List.head?_eq_getElem?]; exact bytes_at s 0 h1
      simp [codeB, this, h2])
    go_enter Try.func94, Try.ntmps94
    go_wp2_with (first | (go_at_call 109; ((with_reducible refine (bcap _ _).mono ?_)); rintro e w' ⟨rfl, rfl⟩))
    go_ret
    exact ⟨of_bool (by rw [hf.out]), rfl⟩
  have hf := Lib.hid (show codeB s = (bytes s).all letdigB by
      have : (bytes s).head? = some s[0] := by rw [List.head?_eq_getElem?]; exact bytes_at s 0 h1
      simp [codeB, this, hw.out, h2])
  go_enter Try.func94, Try.ntmps94
  go_wp2_with (first | (go_at_call 109; ((with_reducible refine (bcap _ _).mono ?_)); rintro e w' ⟨rfl, rfl⟩))
  go_loop [3] (fun i => ∃ k : Nat, k ≤ s.size ∧ i = .int .i64 k ∧ Hid (((bytes s).take k).all letdigB = true)) (fun i => s.size - (intOf i).toNat)
  case atStart => exact ⟨0, Nat.zero_le _, rfl, Lib.hid (by simp)⟩
  case round =>
    obtain ⟨k, hk, rfl, hall⟩ := hrel
    by_cases hlt : k < s.size
    · have hat := Lib.hid (bytes_at s k hlt)
      by_cases hl : smallB s[k] = true
      · have hp := Lib.hid (show letdigB s[k] = true by simp [letdigB, letB, hl])
        go_wp2_with (go_at_call 109; ((with_reducible refine (bsmall _ _).mono ?_)); rintro e w' ⟨rfl, rfl⟩)
        go_round
        case rel => exact ⟨k + 1, by omega, by go_num, Lib.hid (all_step s k hlt hall.out hp.out)⟩
        case measure => simp [intOf]; omega
      · have hl : smallB s[k] = false := by simpa using hl
        by_cases hd : capB s[k] = true
        · have hp := Lib.hid (show letdigB s[k] = true by simp [letdigB, letB, hd])
          go_wp2_with (first | (go_at_call 109; ((with_reducible refine (bsmall _ _).mono ?_)); rintro e w' ⟨rfl, rfl⟩) | (go_at_call 109; ((with_reducible refine (bcap _ _).mono ?_)); rintro e w' ⟨rfl, rfl⟩))
          go_round
          case rel => exact ⟨k + 1, by omega, by go_num, Lib.hid (all_step s k hlt hall.out hp.out)⟩
          case measure => simp [intOf]; omega
        · have hd : capB s[k] = false := by simpa using hd
          by_cases hg : digB s[k] = true
          · have hp := Lib.hid (show letdigB s[k] = true by simp [letdigB, letB, hg])
            go_wp2_with (first | (go_at_call 109; ((with_reducible refine (bsmall _ _).mono ?_)); rintro e w' ⟨rfl, rfl⟩) | (go_at_call 109; ((with_reducible refine (bcap _ _).mono ?_)); rintro e w' ⟨rfl, rfl⟩) | (go_at_call 109; ((with_reducible refine (bdig _ _).mono ?_)); rintro e w' ⟨rfl, rfl⟩))
            go_round
            case rel => exact ⟨k + 1, by omega, by go_num, Lib.hid (all_step s k hlt hall.out hp.out)⟩
            case measure => simp [intOf]; omega
          · have hg : digB s[k] = false := by simpa using hg
            have hp := Lib.hid (show letdigB s[k] = false by simp [letdigB, letB, hl, hd, hg])
            go_wp2_with (first | (go_at_call 109; ((with_reducible refine (bsmall _ _).mono ?_)); rintro e w' ⟨rfl, rfl⟩) | (go_at_call 109; ((with_reducible refine (bcap _ _).mono ?_)); rintro e w' ⟨rfl, rfl⟩) | (go_at_call 109; ((with_reducible refine (bdig _ _).mono ?_)); rintro e w' ⟨rfl, rfl⟩))
            go_ret
            exact ⟨of_bool (by rw [hf.out, all_false_of _ _ _ _ hat.out hp.out]), rfl⟩
    · obtain rfl : k = s.size := by omega
      go_wp2
      go_ret
      exact ⟨of_bool (by rw [hf.out]; have := hall.out; rw [take_full] at this; exact this.symm), rfl⟩

theorem text_class (s : ByteArray) (h : withinB s.size 8 = true) : textB 3 s = (bytes s).all smallB := by
  unfold textB
  rw [h, Bool.true_and]
  congr 1
  funext c
  cases hc : capB c <;> cases hs : smallB c <;> simp [letB, hc, hs]
  simp [capB, smallB] at hc hs; omega
theorem text_other (k : Int) (s : ByteArray) (h : withinB s.size 8 = true) (hk : k ≠ 3) : textB k s = (bytes s).all letB := by
  have : (k == 3) = false := by simpa using hk
  unfold textB
  rw [h, Bool.true_and]
  congr 1
  funext c
  simp [this]

set_option maxHeartbeats 400000 in
theorem right_any (k : Int) (s : ByteArray) (w : World) (hs : s.size ≤ maxLen) : Calls Try.prog 110 #[.int .i64 k, .string s] w fun e w' => e = .returned (.bool (textB k s)) ∧ w = w' := by
  have hs' := hs
  unfold maxLen at hs'
  by_cases h1 : 1 ≤ s.size
  case neg =>
    have hf := Lib.hid (show textB k s = false by simp [textB, withinB]; omega)
    have h1 : s.size = 0 := by omega
    go_enter Try.func110, Try.ntmps110
    go_wp2
    go_ret
    exact ⟨of_bool (by rw [hf.out]), rfl⟩
  by_cases h8 : s.size ≤ 8
  case neg =>
    have hf := Lib.hid (show textB k s = false by simp [textB, withinB]; omega)
    go_enter Try.func110, Try.ntmps110
    go_wp2
    go_ret
    exact ⟨of_bool (by rw [hf.out]), rfl⟩
  have hw := Lib.hid (show withinB s.size 8 = true by simp [withinB]; omega)
  by_cases hk : k = 3
  · subst hk
    have hf := Lib.hid (text_class s hw.out)
    go_enter Try.func110, Try.ntmps110
    go_wp2_with (first | (go_at_call 118; refine (small_any _ _ hs).mono ?_; rintro e w' ⟨rfl, rfl⟩) | (go_at_call 119; refine (sounds_any _ _ hs).mono ?_; rintro e w' ⟨rfl, rfl⟩))
    go_ret
    exact ⟨of_bool (by rw [hf.out]), rfl⟩
  · have hf := Lib.hid (text_other k s hw.out hk)
    have hk' : (k == 3) = false := by simpa using hk
    go_enter Try.func110, Try.ntmps110
    go_wp2_with (first | (go_at_call 118; refine (small_any _ _ hs).mono ?_; rintro e w' ⟨rfl, rfl⟩) | (go_at_call 119; refine (sounds_any _ _ hs).mono ?_; rintro e w' ⟨rfl, rfl⟩))
    go_ret
    exact ⟨of_bool (by rw [hf.out]), rfl⟩

set_option maxHeartbeats 800000 in
theorem text_any (kd : Int) (s : ByteArray) (w : World) (hs : s.size ≤ maxLen) : Calls Try.prog 116 #[.int .i64 kd, .string s] w fun e w' => e = .returned (.bool (textB kd s)) ∧ w = w' := by
  unfold maxLen at hs
  by_cases h1 : withinB s.size 8 = true
  case neg =>
    have h1 : withinB s.size 8 = false := by simpa using h1
    have hf := Lib.hid (show textB kd s = false by simp [textB, h1])
    go_enter Try.func116, Try.ntmps116
    go_wp2_with (first | (go_at_call 86; refine (within_any _ _ _).mono ?_; rintro e w' ⟨rfl, rfl⟩))
    go_ret
    exact ⟨of_bool (by rw [hf.out]), rfl⟩
  have hf := Lib.hid (show textB kd s = (bytes s).all (fun c => letB c && !(kd == 3 && capB c)) by simp only [textB, h1, Bool.true_and])
  go_enter Try.func116, Try.ntmps116
  go_wp2_with (first | (go_at_call 86; refine (within_any _ _ _).mono ?_; rintro e w' ⟨rfl, rfl⟩))
  go_loop [12] (fun i => ∃ k : Nat, k ≤ s.size ∧ i = .int .i64 k ∧ Hid (((bytes s).take k).all (fun c => letB c && !(kd == 3 && capB c)) = true)) (fun i => s.size - (intOf i).toNat)
  case atStart => exact ⟨0, Nat.zero_le _, rfl, Lib.hid (by simp)⟩
  case round =>
    obtain ⟨k, hk, rfl, hall⟩ := hrel
    by_cases hlt : k < s.size
    · have hat := Lib.hid (bytes_at s k hlt)
      by_cases hl : letB s[k] = true
      case neg =>
        have hl : letB s[k] = false := by simpa using hl
        have hp := Lib.hid (show (letB s[k] && !(kd == 3 && capB s[k])) = false by simp [hl])
        go_wp2_with (first | (go_at_call 105; refine (let_any _ _).mono ?_; rintro e w' ⟨rfl, rfl⟩))
        go_ret
        exact ⟨of_bool (by rw [hf.out]; symm; exact all_false_of (fun c => letB c && !(kd == 3 && capB c)) _ _ _ hat.out hp.out), rfl⟩
      by_cases hk3 : (kd == 3) = true
      case neg =>
        have hk3 : (kd == 3) = false := by simpa using hk3
        have hp := Lib.hid (show (letB s[k] && !(kd == 3 && capB s[k])) = true by simp [hl, hk3])
        go_wp2_with (first | (go_at_call 105; refine (let_any _ _).mono ?_; rintro e w' ⟨rfl, rfl⟩))
        go_round
        case rel => exact ⟨k + 1, by omega, by go_num, Lib.hid (all_step s k hlt hall.out hp.out)⟩
        case measure => simp [intOf]; omega
      by_cases hc : capB s[k] = true
      · have hp := Lib.hid (show (letB s[k] && !(kd == 3 && capB s[k])) = false by simp [hl, hk3, hc])
        go_wp2_with (first | (go_at_call 105; refine (let_any _ _).mono ?_; rintro e w' ⟨rfl, rfl⟩) | (go_at_call 104; refine (cap_any _ _).mono ?_; rintro e w' ⟨rfl, rfl⟩))
        go_ret
        exact ⟨of_bool (by rw [hf.out]; symm; exact all_false_of (fun c => letB c && !(kd == 3 && capB c)) _ _ _ hat.out hp.out), rfl⟩
      · have hc : capB s[k] = false := by simpa using hc
        have hp := Lib.hid (show (letB s[k] && !(kd == 3 && capB s[k])) = true by simp [hl, hc])
        go_wp2_with (first | (go_at_call 105; refine (let_any _ _).mono ?_; rintro e w' ⟨rfl, rfl⟩) | (go_at_call 104; refine (cap_any _ _).mono ?_; rintro e w' ⟨rfl, rfl⟩))
        go_round
        case rel => exact ⟨k + 1, by omega, by go_num, Lib.hid (all_step s k hlt hall.out hp.out)⟩
        case measure => simp [intOf]; omega
    · obtain rfl : k = s.size := by omega
      go_wp2
      go_ret
      exact ⟨of_bool (by rw [hf.out]; have := hall.out; rw [take_full] at this; exact this.symm), rfl⟩

end Go.Proofs.Ytbfedahonfjpfaa
