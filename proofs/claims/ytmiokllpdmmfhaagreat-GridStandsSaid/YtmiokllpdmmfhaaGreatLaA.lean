/-
  The plain functions by which the contracts of layer 1 (signs) are stated: no program is imported here. And what builds on it.
-/
import Derived.Test.YtmiokllpdmmfhaaGreatProg
import Derived.WalkKit
import Derived.Deep.QuietTactic
import Derived.BigQuiet
import Derived.WalkLawsBesides
import Derived.WalkSpells
import Derived.Outline
import Derived.Lib.Hide
import Derived.Laws.StructEq
namespace Go.Proofs.YtmiokllpdmmfhaaGreat
structure Va where
  kind : Int
  text : ByteArray
  fr : Int
  to : Int
structure Sg where
  code : ByteArray
  wide : Int
  high : Int
  even : Bool
  vals : List Va
structure Li where
  per : Int
  signs : List Sg
def withinB (n m : Int) : Bool := decide (1 ≤ n) && decide (n ≤ m)
def capB (c : UInt8) : Bool := decide ((65 : Int) ≤ c.toNat) && decide ((c.toNat : Int) ≤ 90)
def smallB (c : UInt8) : Bool := decide ((97 : Int) ≤ c.toNat) && decide ((c.toNat : Int) ≤ 122)
def letB (c : UInt8) : Bool := capB c || smallB c
def digB (c : UInt8) : Bool := decide ((48 : Int) ≤ c.toNat) && decide ((c.toNat : Int) ≤ 57)
def letdigB (c : UInt8) : Bool := letB c || digB c
def bytes (s : ByteArray) : List UInt8 := s.data.toList
theorem bytes_length (s : ByteArray) : (bytes s).length = s.size := by
  show s.data.toList.length = s.data.size
  exact Array.length_toList
def kindB (k : Int) : Bool := decide (1 ≤ k) && decide (k ≤ 3)
def codeB (s : ByteArray) : Bool := withinB s.size 8 && ((bytes s).head?.any capB && (bytes s).all letdigB)
def textB (k : Int) (s : ByteArray) : Bool := withinB s.size 8 && (bytes s).all fun c => letB c && !(k == 3 && capB c)
def strEq (a b : ByteArray) : Bool := a.toList == b.toList
def collideB (a b : Va) : Bool := ((a.kind == b.kind) && strEq a.text b.text) && decide (a.fr ≤ b.to) && decide (b.fr ≤ a.to)
def valErr (v : Va) (before : List Va) (p : Int) : Int :=
  if (kindB v.kind && textB v.kind v.text) = false then 12
  else if v.fr < 1 ∨ v.to < v.fr ∨ p < v.to then 13
  else if before.any (fun b => collideB b v) then 12 else 0
def valsErr (p : Int) : List Va → List Va → Int
  | _, [] => 0
  | done, v :: r => if valErr v done p = 0 then valsErr p (done ++ [v]) r else valErr v done p
def signErr (s : Sg) (p : Int) : Int :=
  if (withinB s.wide 12 && withinB s.high 12) = false then 11
  else if 12 < s.vals.length then 2
  else valsErr p [] s.vals
def signsErr (p : Int) : List Sg → List Sg → Int
  | _, [] => 0
  | done, s :: r => if (codeB s.code && !done.any fun d => strEq d.code s.code) = false then 10 else if signErr s p = 0 then signsErr p (done ++ [s]) r else signErr s p
def checkErr (l : Li) : Int :=
  if 200 < l.signs.length then 2
  else if withinB l.per 9 = false then 13
  else signsErr l.per [] l.signs
theorem valsErr_step (p : Int) (vs : List Va) (k : Nat) (v : Va) (h : vs[k]? = some v) (h0 : valErr v (vs.take k) p = 0) : valsErr p (vs.take k) (vs.drop k) = valsErr p (vs.take (k + 1)) (vs.drop (k + 1)) := by
  obtain ⟨hk, rfl⟩ := List.getElem?_eq_some_iff.1 h
  rw [List.drop_eq_getElem_cons hk, valsErr, if_pos h0, List.take_succ_eq_append_getElem hk]
theorem valsErr_stop (p : Int) (vs : List Va) (k : Nat) (v : Va) (h : vs[k]? = some v) (h0 : valErr v (vs.take k) p ≠ 0) : valsErr p (vs.take k) (vs.drop k) = valErr v (vs.take k) p := by
  obtain ⟨hk, rfl⟩ := List.getElem?_eq_some_iff.1 h
  rw [List.drop_eq_getElem_cons hk, valsErr, if_neg h0]
theorem valsErr_end (p : Int) (vs : List Va) : valsErr p (vs.take vs.length) (vs.drop vs.length) = 0 := by simp [valsErr]
theorem signsErr_step (p : Int) (vs : List Sg) (k : Nat) (v : Sg) (h : vs[k]? = some v) (hc : (codeB v.code && !(vs.take k).any fun d => strEq d.code v.code) = true) (h0 : signErr v p = 0) :
    signsErr p (vs.take k) (vs.drop k) = signsErr p (vs.take (k + 1)) (vs.drop (k + 1)) := by
  obtain ⟨hk, rfl⟩ := List.getElem?_eq_some_iff.1 h
  rw [List.drop_eq_getElem_cons hk, signsErr, if_neg (by rw [hc]; simp), if_pos h0, List.take_succ_eq_append_getElem hk]
theorem signsErr_stop (p : Int) (vs : List Sg) (k : Nat) (v : Sg) (h : vs[k]? = some v) (hc : (codeB v.code && !(vs.take k).any fun d => strEq d.code v.code) = true) (h0 : signErr v p ≠ 0) :
    signsErr p (vs.take k) (vs.drop k) = signErr v p := by
  obtain ⟨hk, rfl⟩ := List.getElem?_eq_some_iff.1 h
  rw [List.drop_eq_getElem_cons hk, signsErr, if_neg (by rw [hc]; simp), if_neg h0]
theorem signsErr_code (p : Int) (vs : List Sg) (k : Nat) (v : Sg) (h : vs[k]? = some v) (hc : (codeB v.code && !(vs.take k).any fun d => strEq d.code v.code) = false) :
    signsErr p (vs.take k) (vs.drop k) = 10 := by
  obtain ⟨hk, rfl⟩ := List.getElem?_eq_some_iff.1 h
  rw [List.drop_eq_getElem_cons hk, signsErr, if_pos hc]
theorem signsErr_end (p : Int) (vs : List Sg) : signsErr p (vs.take vs.length) (vs.drop vs.length) = 0 := by simp [signsErr]
theorem any_step {α : Type} (q : α → Bool) (vs : List α) (k : Nat) (v : α) (h : vs[k]? = some v) (h0 : (vs.take k).any q = false) (h1 : q v = false) : (vs.take (k + 1)).any q = false := by
  obtain ⟨hk, rfl⟩ := List.getElem?_eq_some_iff.1 h
  rw [List.take_succ_eq_append_getElem hk, List.any_append, h0, Bool.false_or]; simp [h1]
theorem any_true {α : Type} (q : α → Bool) (vs : List α) (k : Nat) (v : α) (h : vs[k]? = some v) (h1 : q v = true) : vs.any q = true := by
  rw [List.any_eq_true]; exact ⟨v, List.mem_of_getElem? h, h1⟩
theorem take_snoc (s : ByteArray) (k : Nat) (h : k < s.size) : (bytes s).take (k + 1) = (bytes s).take k ++ [s[k]] := by
  unfold bytes
  rw [List.take_succ_eq_append_getElem (by simpa using h)]; rfl
theorem all_snoc {α : Type} (p : α → Bool) (l : List α) (c : α) : (l ++ [c]).all p = (l.all p && p c) := by simp
theorem take_full (s : ByteArray) : (bytes s).take s.size = bytes s := by
  rw [← bytes_length]; exact List.take_length
theorem all_false_of {α : Type} (p : α → Bool) (l : List α) (k : Nat) (c : α) (h : l[k]? = some c) (hc : p c = false) : l.all p = false := by
  rw [List.all_eq_false]
  exact ⟨c, List.mem_of_getElem? h, by simp [hc]⟩
theorem bytes_at (s : ByteArray) (k : Nat) (h : k < s.size) : (bytes s)[k]? = some s[k] := by
  unfold bytes
  rw [List.getElem?_eq_getElem (by simpa using h)]; rfl
open Go.RowKit
theorem within_any (n m : Int) (w : World) : Calls Tryz.prog 113 #[.int .i64 n, .int .i64 m] w fun e w' => e = .returned (.bool (withinB n m)) ∧ w = w' := by
  go_enter Tryz.func113, Tryz.ntmps113
  go_wp2
  all_goals go_ret
  all_goals (simp [withinB, *]; try omega)
theorem cap_any (c : UInt8) (w : World) : Calls Tryz.prog 148 #[.int .u8 c.toNat] w fun e w' => e = .returned (.bool (capB c)) ∧ w = w' := by
  go_enter Tryz.func148, Tryz.ntmps148
  go_wp2
  all_goals go_ret
  all_goals (simp [capB, *]; try omega)
theorem dig_any (c : UInt8) (w : World) : Calls Tryz.prog 150 #[.int .u8 c.toNat] w fun e w' => e = .returned (.bool (digB c)) ∧ w = w' := by
  go_enter Tryz.func150, Tryz.ntmps150
  go_wp2
  all_goals go_ret
  all_goals (simp [digB, *]; try omega)
theorem let_any (c : UInt8) (w : World) : Calls Tryz.prog 149 #[.int .u8 c.toNat] w fun e w' => e = .returned (.bool (letB c)) ∧ w = w' := by
  go_enter Tryz.func149, Tryz.ntmps149
  go_wp2_with (go_at_call 148; refine (cap_any _ _).mono ?_; rintro e w' ⟨rfl, rfl⟩)
  all_goals go_ret
  all_goals (simp [letB, smallB, *]; try omega)
theorem kind_any (n : Int) (w : World) : Calls Tryz.prog 180 #[.int .i64 n] w fun e w' => e = .returned (.bool (kindB n)) ∧ w = w' := by
  go_enter Tryz.func180, Tryz.ntmps180
  go_wp2
  all_goals go_ret
  all_goals (simp [kindB, *]; try omega)
theorem between_any (c lo hi : Int) (w : World) : Calls Tryz.prog 163 #[.int .u8 c, .int .u8 lo, .int .u8 hi] w fun e w' => e = .returned (.bool (decide (lo ≤ c) && decide (c ≤ hi))) ∧ w = w' := by
  go_enter Tryz.func163, Tryz.ntmps163
  go_wp2
  all_goals go_ret
  all_goals (simp [*]; try omega)
theorem of_bool {a b : Bool} (h : a = b) : Ending.returned (.bool a) = .returned (.bool b) := by rw [h]
set_option maxHeartbeats 400000 in
theorem code_any (s : ByteArray) (w : World) (hs : s.size ≤ maxLen) : Calls Tryz.prog 114 #[.string s] w fun e w' => e = .returned (.bool (codeB s)) ∧ w = w' := by
  unfold maxLen at hs
  by_cases h1 : withinB s.size 8 = true
  case neg =>
    have h1 : withinB s.size 8 = false := by simpa using h1
    have hf := Lib.hid (show codeB s = false by simp [codeB, h1])
    go_enter Tryz.func114, Tryz.ntmps114
    go_wp2_with (first | (go_at_call 113; refine (within_any _ _ _).mono ?_; rintro e w' ⟨rfl, rfl⟩))
    go_ret
    exact ⟨of_bool (by rw [hf.out]), rfl⟩
  have h0 : 0 < s.size := by simp [withinB] at h1; omega
  by_cases h2 : capB s[0] = true
  case neg =>
    have h2 : capB s[0] = false := by simpa using h2
    have hf := Lib.hid (show codeB s = false by
      have : (bytes s).head? = some s[0] := by rw [List.head?_eq_getElem?]; exact bytes_at s 0 h0
      simp [codeB, this, h2])
    go_enter Tryz.func114, Tryz.ntmps114
    go_wp2_with (first | (go_at_call 113; refine (within_any _ _ _).mono ?_; rintro e w' ⟨rfl, rfl⟩) | (go_at_call 148; refine (cap_any _ _).mono ?_; rintro e w' ⟨rfl, rfl⟩))
    go_ret
    exact ⟨of_bool (by rw [hf.out]), rfl⟩
  have hf := Lib.hid (show codeB s = (bytes s).all letdigB by
      have : (bytes s).head? = some s[0] := by rw [List.head?_eq_getElem?]; exact bytes_at s 0 h0
      simp [codeB, this, h1, h2])
  go_enter Tryz.func114, Tryz.ntmps114
  go_wp2_with (first | (go_at_call 113; refine (within_any _ _ _).mono ?_; rintro e w' ⟨rfl, rfl⟩) | (go_at_call 148; refine (cap_any _ _).mono ?_; rintro e w' ⟨rfl, rfl⟩))
  go_loop [16] (fun i => ∃ k : Nat, k ≤ s.size ∧ i = .int .i64 k ∧ Hid (((bytes s).take k).all letdigB = true)) (fun i => s.size - (intOf i).toNat)
  case atStart => exact ⟨0, Nat.zero_le _, rfl, Lib.hid (by simp)⟩
  case round =>
    obtain ⟨k, hk, rfl, hall⟩ := hrel
    by_cases hlt : k < s.size
    · have hsn := Lib.hid (take_snoc s k hlt)
      have hat := Lib.hid (bytes_at s k hlt)
      by_cases hl : letB s[k] = true
      · have hp := Lib.hid (show letdigB s[k] = true by simp [letdigB, hl])
        go_wp2_with (first | (go_at_call 149; refine (let_any _ _).mono ?_; rintro e w' ⟨rfl, rfl⟩))
        go_round
        case rel => exact ⟨k + 1, by omega, by go_num, Lib.hid (by rw [hsn.out, all_snoc, hall.out, hp.out]; rfl)⟩
        case measure => simp [intOf]; omega
      · have hl : letB s[k] = false := by simpa using hl
        by_cases hd : digB s[k] = true
        · have hp := Lib.hid (show letdigB s[k] = true by simp [letdigB, hd])
          go_wp2_with (first | (go_at_call 149; refine (let_any _ _).mono ?_; rintro e w' ⟨rfl, rfl⟩) | (go_at_call 150; refine (dig_any _ _).mono ?_; rintro e w' ⟨rfl, rfl⟩))
          go_round
          case rel => exact ⟨k + 1, by omega, by go_num, Lib.hid (by rw [hsn.out, all_snoc, hall.out, hp.out]; rfl)⟩
          case measure => simp [intOf]; omega
        · have hd : digB s[k] = false := by simpa using hd
          have hp := Lib.hid (show letdigB s[k] = false by simp [letdigB, hl, hd])
          go_wp2_with (first | (go_at_call 149; refine (let_any _ _).mono ?_; rintro e w' ⟨rfl, rfl⟩) | (go_at_call 150; refine (dig_any _ _).mono ?_; rintro e w' ⟨rfl, rfl⟩))
          go_ret
          exact ⟨of_bool (by rw [hf.out, all_false_of _ _ _ _ hat.out hp.out]), rfl⟩
    · obtain rfl : k = s.size := by omega
      go_wp2
      go_ret
      exact ⟨of_bool (by rw [hf.out]; have := hall.out; rw [take_full] at this; exact this.symm), rfl⟩
open Go.RowKit
theorem small_all (s : ByteArray) (k : Nat) (h : k < s.size) (hall : ((bytes s).take k).all smallB = true) (hp : smallB s[k] = true) : ((bytes s).take (k + 1)).all smallB = true := by
  rw [take_snoc s k h, all_snoc, hall, hp]; rfl
set_option maxHeartbeats 400000 in
theorem small_any (s : ByteArray) (w : World) (hs : s.size ≤ maxLen) : Calls Tryz.prog 189 #[.string s] w fun e w' => e = .returned (.bool ((bytes s).all smallB)) ∧ w = w' := by
  unfold maxLen at hs
  go_enter Tryz.func189, Tryz.ntmps189
  go_wp2
  go_loop [3] (fun i => ∃ k : Nat, k ≤ s.size ∧ i = .int .i64 k ∧ Hid (((bytes s).take k).all smallB = true)) (fun i => s.size - (intOf i).toNat)
  case atStart => exact ⟨0, Nat.zero_le _, rfl, Lib.hid (by simp)⟩
  case round =>
    obtain ⟨k, hk, rfl, hall⟩ := hrel
    by_cases hlt : k < s.size
    · have hat := Lib.hid (bytes_at s k hlt)
      by_cases hl : smallB s[k] = true
      · have hp := Lib.hid hl
        have hl' : (decide ((97 : Int) ≤ s[k].toNat) && decide ((s[k].toNat : Int) ≤ 122)) = true := hl
        clear hl
        go_wp2_with (first | (go_at_call 163; refine (between_any _ _ _ _).mono ?_; rintro e w' ⟨rfl, rfl⟩))
        go_round
        case rel => exact ⟨k + 1, by omega, by go_num, Lib.hid (small_all s k hlt hall.out hp.out)⟩
        case measure => simp [intOf]; omega
      · have hl : smallB s[k] = false := by simpa using hl
        have hp := Lib.hid hl
        have hl' : (decide ((97 : Int) ≤ s[k].toNat) && decide ((s[k].toNat : Int) ≤ 122)) = false := hl
        clear hl
        go_wp2_with (first | (go_at_call 163; refine (between_any _ _ _ _).mono ?_; rintro e w' ⟨rfl, rfl⟩))
        go_ret
        exact ⟨of_bool (by rw [all_false_of _ _ _ _ hat.out hp.out]), rfl⟩
    · obtain rfl : k = s.size := by omega
      go_wp2
      go_ret
      exact ⟨of_bool (by have := hall.out; rw [take_full] at this; exact this.symm), rfl⟩
theorem bsmall (c : UInt8) (w : World) : Calls Tryz.prog 163 #[.int .u8 c.toNat, .int .u8 97, .int .u8 122] w fun e w' => e = .returned (.bool (smallB c)) ∧ w = w' := between_any _ _ _ _
theorem bcap (c : UInt8) (w : World) : Calls Tryz.prog 163 #[.int .u8 c.toNat, .int .u8 65, .int .u8 90] w fun e w' => e = .returned (.bool (capB c)) ∧ w = w' := between_any _ _ _ _
theorem bdig (c : UInt8) (w : World) : Calls Tryz.prog 163 #[.int .u8 c.toNat, .int .u8 48, .int .u8 57] w fun e w' => e = .returned (.bool (digB c)) ∧ w = w' := between_any _ _ _ _
theorem all_step {p : UInt8 → Bool} (s : ByteArray) (k : Nat) (h : k < s.size) (hall : ((bytes s).take k).all p = true) (hp : p s[k] = true) : ((bytes s).take (k + 1)).all p = true := by
  rw [take_snoc s k h, all_snoc, hall, hp]; rfl
set_option maxHeartbeats 400000 in
theorem sounds_any (s : ByteArray) (w : World) (hs : s.size ≤ maxLen) : Calls Tryz.prog 190 #[.string s] w fun e w' => e = .returned (.bool ((bytes s).all letB)) ∧ w = w' := by
  unfold maxLen at hs
  go_enter Tryz.func190, Tryz.ntmps190
  go_wp2
  go_loop [3] (fun i => ∃ k : Nat, k ≤ s.size ∧ i = .int .i64 k ∧ Hid (((bytes s).take k).all letB = true)) (fun i => s.size - (intOf i).toNat)
  case atStart => exact ⟨0, Nat.zero_le _, rfl, Lib.hid (by simp)⟩
  case round =>
    obtain ⟨k, hk, rfl, hall⟩ := hrel
    by_cases hlt : k < s.size
    · have hat := Lib.hid (bytes_at s k hlt)
      by_cases hl : smallB s[k] = true
      · have hp := Lib.hid (show letB s[k] = true by simp [letB, hl])
        go_wp2_with (go_at_call 163; with_reducible (refine (bsmall _ _).mono ?_); rintro e w' ⟨rfl, rfl⟩)
        go_round
        case rel => exact ⟨k + 1, by omega, by go_num, Lib.hid (all_step s k hlt hall.out hp.out)⟩
        case measure => simp [intOf]; omega
      · have hl : smallB s[k] = false := by simpa using hl
        by_cases hd : capB s[k] = true
        · have hp := Lib.hid (show letB s[k] = true by simp [letB, hd])
          go_wp2_with (first | (go_at_call 163; ((with_reducible refine (bsmall _ _).mono ?_)); rintro e w' ⟨rfl, rfl⟩) | (go_at_call 163; ((with_reducible refine (bcap _ _).mono ?_)); rintro e w' ⟨rfl, rfl⟩))
          go_round
          case rel => exact ⟨k + 1, by omega, by go_num, Lib.hid (all_step s k hlt hall.out hp.out)⟩
          case measure => simp [intOf]; omega
        · have hd : capB s[k] = false := by simpa using hd
          have hp := Lib.hid (show letB s[k] = false by simp [letB, hl, hd])
          go_wp2_with (first | (go_at_call 163; ((with_reducible refine (bsmall _ _).mono ?_)); rintro e w' ⟨rfl, rfl⟩) | (go_at_call 163; ((with_reducible refine (bcap _ _).mono ?_)); rintro e w' ⟨rfl, rfl⟩))
          go_ret
          exact ⟨of_bool (by rw [all_false_of _ _ _ _ hat.out hp.out]), rfl⟩
    · obtain rfl : k = s.size := by omega
      go_wp2
      go_ret
      exact ⟨of_bool (by have := hall.out; rw [take_full] at this; exact this.symm), rfl⟩
set_option maxHeartbeats 400000 in
theorem rcode_any (s : ByteArray) (w : World) (hs : s.size ≤ maxLen) : Calls Tryz.prog 125 #[.string s] w fun e w' => e = .returned (.bool (codeB s)) ∧ w = w' := by
  unfold maxLen at hs
  by_cases h1 : 1 ≤ s.size
  case neg =>
    have hf := Lib.hid (show codeB s = false by simp [codeB, withinB]; omega)
    have h1 : s.size = 0 := by omega
    go_enter Tryz.func125, Tryz.ntmps125
    go_wp2
    go_ret
    exact ⟨of_bool (by rw [hf.out]), rfl⟩
  by_cases h8 : s.size ≤ 8
  case neg =>
    have hf := Lib.hid (show codeB s = false by simp [codeB, withinB]; omega)
    go_enter Tryz.func125, Tryz.ntmps125
    go_wp2
    go_ret
    exact ⟨of_bool (by rw [hf.out]), rfl⟩
  have hw := Lib.hid (show withinB s.size 8 = true by simp [withinB]; omega)
  by_cases h2 : capB s[0] = true
  case neg =>
    have h2 : capB s[0] = false := by simpa using h2
    have hf := Lib.hid (show codeB s = false by
      have : (bytes s).head? = some s[0] := by rw [List.head?_eq_getElem?]; exact bytes_at s 0 h1
      simp [codeB, this, h2])
    go_enter Tryz.func125, Tryz.ntmps125
    go_wp2_with (first | (go_at_call 163; ((with_reducible refine (bcap _ _).mono ?_)); rintro e w' ⟨rfl, rfl⟩))
    go_ret
    exact ⟨of_bool (by rw [hf.out]), rfl⟩
  have hf := Lib.hid (show codeB s = (bytes s).all letdigB by
      have : (bytes s).head? = some s[0] := by rw [List.head?_eq_getElem?]; exact bytes_at s 0 h1
      simp [codeB, this, hw.out, h2])
  go_enter Tryz.func125, Tryz.ntmps125
  go_wp2_with (first | (go_at_call 163; ((with_reducible refine (bcap _ _).mono ?_)); rintro e w' ⟨rfl, rfl⟩))
  go_loop [3] (fun i => ∃ k : Nat, k ≤ s.size ∧ i = .int .i64 k ∧ Hid (((bytes s).take k).all letdigB = true)) (fun i => s.size - (intOf i).toNat)
  case atStart => exact ⟨0, Nat.zero_le _, rfl, Lib.hid (by simp)⟩
  case round =>
    obtain ⟨k, hk, rfl, hall⟩ := hrel
    by_cases hlt : k < s.size
    · have hat := Lib.hid (bytes_at s k hlt)
      by_cases hl : smallB s[k] = true
      · have hp := Lib.hid (show letdigB s[k] = true by simp [letdigB, letB, hl])
        go_wp2_with (go_at_call 163; ((with_reducible refine (bsmall _ _).mono ?_)); rintro e w' ⟨rfl, rfl⟩)
        go_round
        case rel => exact ⟨k + 1, by omega, by go_num, Lib.hid (all_step s k hlt hall.out hp.out)⟩
        case measure => simp [intOf]; omega
      · have hl : smallB s[k] = false := by simpa using hl
        by_cases hd : capB s[k] = true
        · have hp := Lib.hid (show letdigB s[k] = true by simp [letdigB, letB, hd])
          go_wp2_with (first | (go_at_call 163; ((with_reducible refine (bsmall _ _).mono ?_)); rintro e w' ⟨rfl, rfl⟩) | (go_at_call 163; ((with_reducible refine (bcap _ _).mono ?_)); rintro e w' ⟨rfl, rfl⟩))
          go_round
          case rel => exact ⟨k + 1, by omega, by go_num, Lib.hid (all_step s k hlt hall.out hp.out)⟩
          case measure => simp [intOf]; omega
        · have hd : capB s[k] = false := by simpa using hd
          by_cases hg : digB s[k] = true
          · have hp := Lib.hid (show letdigB s[k] = true by simp [letdigB, letB, hg])
            go_wp2_with (first | (go_at_call 163; ((with_reducible refine (bsmall _ _).mono ?_)); rintro e w' ⟨rfl, rfl⟩) | (go_at_call 163; ((with_reducible refine (bcap _ _).mono ?_)); rintro e w' ⟨rfl, rfl⟩) | (go_at_call 163; ((with_reducible refine (bdig _ _).mono ?_)); rintro e w' ⟨rfl, rfl⟩))
            go_round
            case rel => exact ⟨k + 1, by omega, by go_num, Lib.hid (all_step s k hlt hall.out hp.out)⟩
            case measure => simp [intOf]; omega
          · have hg : digB s[k] = false := by simpa using hg
            have hp := Lib.hid (show letdigB s[k] = false by simp [letdigB, letB, hl, hd, hg])
            go_wp2_with (first | (go_at_call 163; ((with_reducible refine (bsmall _ _).mono ?_)); rintro e w' ⟨rfl, rfl⟩) | (go_at_call 163; ((with_reducible refine (bcap _ _).mono ?_)); rintro e w' ⟨rfl, rfl⟩) | (go_at_call 163; ((with_reducible refine (bdig _ _).mono ?_)); rintro e w' ⟨rfl, rfl⟩))
            go_ret
            exact ⟨of_bool (by rw [hf.out, all_false_of _ _ _ _ hat.out hp.out]), rfl⟩
    · obtain rfl : k = s.size := by omega
      go_wp2
      go_ret
      exact ⟨of_bool (by rw [hf.out]; have := hall.out; rw [take_full] at this; exact this.symm), rfl⟩
theorem text_class (s : ByteArray) (h : withinB s.size 8 = true) : textB 3 s = (bytes s).all smallB := by
  unfold textB
  rw [h, Bool.true_and]
  congr 1
  funext c
  cases hc : capB c <;> cases hs : smallB c <;> simp [letB, hc, hs]
  simp [capB, smallB] at hc hs; omega
theorem text_other (k : Int) (s : ByteArray) (h : withinB s.size 8 = true) (hk : k ≠ 3) : textB k s = (bytes s).all letB := by
  have : (k == 3) = false := by simpa using hk
  unfold textB
  rw [h, Bool.true_and]
  congr 1
  funext c
  simp [this]
set_option maxHeartbeats 400000 in
theorem right_any (k : Int) (s : ByteArray) (w : World) (hs : s.size ≤ maxLen) : Calls Tryz.prog 164 #[.int .i64 k, .string s] w fun e w' => e = .returned (.bool (textB k s)) ∧ w = w' := by
  have hs' := hs
  unfold maxLen at hs'
  by_cases h1 : 1 ≤ s.size
  case neg =>
    have hf := Lib.hid (show textB k s = false by simp [textB, withinB]; omega)
    have h1 : s.size = 0 := by omega
    go_enter Tryz.func164, Tryz.ntmps164
    go_wp2
    go_ret
    exact ⟨of_bool (by rw [hf.out]), rfl⟩
  by_cases h8 : s.size ≤ 8
  case neg =>
    have hf := Lib.hid (show textB k s = false by simp [textB, withinB]; omega)
    go_enter Tryz.func164, Tryz.ntmps164
    go_wp2
    go_ret
    exact ⟨of_bool (by rw [hf.out]), rfl⟩
  have hw := Lib.hid (show withinB s.size 8 = true by simp [withinB]; omega)
  by_cases hk : k = 3
  · subst hk
    have hf := Lib.hid (text_class s hw.out)
    go_enter Tryz.func164, Tryz.ntmps164
    go_wp2_with (first | (go_at_call 189; refine (small_any _ _ hs).mono ?_; rintro e w' ⟨rfl, rfl⟩) | (go_at_call 190; refine (sounds_any _ _ hs).mono ?_; rintro e w' ⟨rfl, rfl⟩))
    go_ret
    exact ⟨of_bool (by rw [hf.out]), rfl⟩
  · have hf := Lib.hid (text_other k s hw.out hk)
    have hk' : (k == 3) = false := by simpa using hk
    go_enter Tryz.func164, Tryz.ntmps164
    go_wp2_with (first | (go_at_call 189; refine (small_any _ _ hs).mono ?_; rintro e w' ⟨rfl, rfl⟩) | (go_at_call 190; refine (sounds_any _ _ hs).mono ?_; rintro e w' ⟨rfl, rfl⟩))
    go_ret
    exact ⟨of_bool (by rw [hf.out]), rfl⟩
set_option maxHeartbeats 800000 in
theorem text_any (kd : Int) (s : ByteArray) (w : World) (hs : s.size ≤ maxLen) : Calls Tryz.prog 181 #[.int .i64 kd, .string s] w fun e w' => e = .returned (.bool (textB kd s)) ∧ w = w' := by
  unfold maxLen at hs
  by_cases h1 : withinB s.size 8 = true
  case neg =>
    have h1 : withinB s.size 8 = false := by simpa using h1
    have hf := Lib.hid (show textB kd s = false by simp [textB, h1])
    go_enter Tryz.func181, Tryz.ntmps181
    go_wp2_with (first | (go_at_call 113; refine (within_any _ _ _).mono ?_; rintro e w' ⟨rfl, rfl⟩))
    go_ret
    exact ⟨of_bool (by rw [hf.out]), rfl⟩
  have hf := Lib.hid (show textB kd s = (bytes s).all (fun c => letB c && !(kd == 3 && capB c)) by simp only [textB, h1, Bool.true_and])
  go_enter Tryz.func181, Tryz.ntmps181
  go_wp2_with (first | (go_at_call 113; refine (within_any _ _ _).mono ?_; rintro e w' ⟨rfl, rfl⟩))
  go_loop [12] (fun i => ∃ k : Nat, k ≤ s.size ∧ i = .int .i64 k ∧ Hid (((bytes s).take k).all (fun c => letB c && !(kd == 3 && capB c)) = true)) (fun i => s.size - (intOf i).toNat)
  case atStart => exact ⟨0, Nat.zero_le _, rfl, Lib.hid (by simp)⟩
  case round =>
    obtain ⟨k, hk, rfl, hall⟩ := hrel
    by_cases hlt : k < s.size
    · have hat := Lib.hid (bytes_at s k hlt)
      by_cases hl : letB s[k] = true
      case neg =>
        have hl : letB s[k] = false := by simpa using hl
        have hp := Lib.hid (show (letB s[k] && !(kd == 3 && capB s[k])) = false by simp [hl])
        go_wp2_with (first | (go_at_call 149; refine (let_any _ _).mono ?_; rintro e w' ⟨rfl, rfl⟩))
        go_ret
        exact ⟨of_bool (by rw [hf.out]; symm; exact all_false_of (fun c => letB c && !(kd == 3 && capB c)) _ _ _ hat.out hp.out), rfl⟩
      by_cases hk3 : (kd == 3) = true
      case neg =>
        have hk3 : (kd == 3) = false := by simpa using hk3
        have hp := Lib.hid (show (letB s[k] && !(kd == 3 && capB s[k])) = true by simp [hl, hk3])
        go_wp2_with (first | (go_at_call 149; refine (let_any _ _).mono ?_; rintro e w' ⟨rfl, rfl⟩))
        go_round
        case rel => exact ⟨k + 1, by omega, by go_num, Lib.hid (all_step s k hlt hall.out hp.out)⟩
        case measure => simp [intOf]; omega
      by_cases hc : capB s[k] = true
      · have hp := Lib.hid (show (letB s[k] && !(kd == 3 && capB s[k])) = false by simp [hl, hk3, hc])
        go_wp2_with (first | (go_at_call 149; refine (let_any _ _).mono ?_; rintro e w' ⟨rfl, rfl⟩) | (go_at_call 148; refine (cap_any _ _).mono ?_; rintro e w' ⟨rfl, rfl⟩))
        go_ret
        exact ⟨of_bool (by rw [hf.out]; symm; exact all_false_of (fun c => letB c && !(kd == 3 && capB c)) _ _ _ hat.out hp.out), rfl⟩
      · have hc : capB s[k] = false := by simpa using hc
        have hp := Lib.hid (show (letB s[k] && !(kd == 3 && capB s[k])) = true by simp [hl, hc])
        go_wp2_with (first | (go_at_call 149; refine (let_any _ _).mono ?_; rintro e w' ⟨rfl, rfl⟩) | (go_at_call 148; refine (cap_any _ _).mono ?_; rintro e w' ⟨rfl, rfl⟩))
        go_round
        case rel => exact ⟨k + 1, by omega, by go_num, Lib.hid (all_step s k hlt hall.out hp.out)⟩
        case measure => simp [intOf]; omega
    · obtain rfl : k = s.size := by omega
      go_wp2
      go_ret
      exact ⟨of_bool (by rw [hf.out]; have := hall.out; rw [take_full] at this; exact this.symm), rfl⟩
open Go.RowKit
structure Later (W : World) where
  w : World
  below : Below W.heap.size W w
theorem Later.cell_ {W : World} (s : Later W) {b o : Nat} (h : b < W.heap.size) : s.w.cell? ⟨b, o, none⟩ = W.cell? ⟨b, o, none⟩ := s.below.cell (p := ⟨b, o, none⟩) h
theorem Later.frozen_ {W : World} (s : Later W) {b o : Nat} (h : b < W.heap.size) : s.w.frozen? ⟨b, o, none⟩ = W.frozen? ⟨b, o, none⟩ := s.below.frozen (p := ⟨b, o, none⟩) h
attribute [go_sem] Later.cell_ Later.frozen_
instance {W : World} : Nonempty (Later W) := ⟨⟨W, Below.refl _ _⟩⟩
theorem wp_region_later {P : Program} {id : Nat} {Q : Exit → Act → World → Prop} {a : Act} {W : World} {l : List Oper} (hm : P.follows .mixedOrders = true) (hB : Region.lexB .any l.toArray = true)
    (h : wpQuiet P l.toArray (fun w' => ∃ s : Later W, w' = s.w) (fun a' => ∀ w', (∃ s : Later W, w' = s.w) → Q .normal a' w') l a) : (Code.region id l.toArray true).wp P Q a W :=
  wp_region_quiet (C := fun w' => ∃ s : Later W, w' = s.w) hm hB ⟨⟨_, (Below.refl _ _).drew⟩, rfl⟩ (by simpa using h)
theorem Calls.later {P : Program} {f : FuncId} {args : Array Value} {W : World} (s : Later W) {v : Value} (h : Calls P f args s.w fun e w' => e = .returned v ∧ Below s.w.heap.size s.w w') :
    Calls P f args s.w fun e w' => e = .returned v ∧ ∃ s' : Later W, w' = s'.w :=
  h.mono fun _ w' ⟨he, hb⟩ => ⟨he, ⟨w', s.below.trans (hb.mono s.below.size)⟩, rfl⟩
theorem Calls.later_same {P : Program} {f : FuncId} {args : Array Value} {W : World} (s : Later W) {v : Value} (h : Calls P f args s.w fun e w' => e = .returned v ∧ s.w = w') :
    Calls P f args s.w fun e w' => e = .returned v ∧ ∃ s' : Later W, w' = s'.w :=
  h.mono fun _ _ ⟨he, hb⟩ => ⟨he, s, hb.symm⟩
def Va.val (v : Va) : Value := .agg #[.int .i64 v.kind, .string v.text, .int .i64 v.fr, .int .i64 v.to]
theorem meaning_any (k : Int) (t : ByteArray) (f to : Int) (w : World) :
    Calls Tryz.prog 194 #[.agg #[.int .i64 k, .string t, .int .i64 f, .int .i64 to]] w fun e w' => e = .returned (.agg #[.int .i64 k, .string t]) ∧ Below w.heap.size w w' := by
  go_enter Tryz.func194, Tryz.ntmps194
  go_wp2
  exact bodyPost_ret (v := .agg #[.int .i64 k, .string t]) (by simp [results, Tryz.results194, go_sem]) rfl ⟨rfl, (((Below.refl _ _).alloc (Nat.le_refl _) _).alloc (by simp) _)⟩
open Go.RowKit
theorem eqMeaning (k k2 : Int) (t t2 : ByteArray) (w : World) : (binOp .eql 254 (.agg #[.int .i64 k, .string t]) (.agg #[.int .i64 k2, .string t2])).run Tryz.prog w = .ok (.bool (k == k2 && strEq t t2)) w := by
  rw [run_eql_struct]
  simp [go_sem]
  by_cases h1 : k = k2 <;> by_cases h2 : t.toList = t2.toList <;> simp [h1, h2, strEq]
theorem below1 {w : World} {o : Obj} (s : Later (w.alloc o)) : Below w.heap.size w s.w := ((Below.refl _ _).alloc (Nat.le_refl _) _).trans (s.below.mono (by simp))
theorem below2 {w : World} {o o' : Obj} (s : Later ((w.alloc o).alloc o')) : Below w.heap.size w s.w := (((Below.refl _ _).alloc (Nat.le_refl _) _).alloc (by simp) _).trans (s.below.mono (by simp; omega))
set_option maxHeartbeats 800000 in
theorem col_any (a b : Va) (w : World) : Calls Tryz.prog 182 #[a.val, b.val] w fun e w' => e = .returned (.bool (collideB a b)) ∧ Below w.heap.size w w' := by
  obtain ⟨k, t, f, to⟩ := a
  obtain ⟨k2, t2, f2, to2⟩ := b
  unfold Va.val
  dsimp only
  have he := fun w => eqMeaning k k2 t t2 w
  by_cases h1 : (k == k2 && strEq t t2) = true
  case neg =>
    have h1 : (k == k2 && strEq t t2) = false := by simpa using h1
    have hf := Lib.hid (show collideB ⟨k, t, f, to⟩ ⟨k2, t2, f2, to2⟩ = false by simp [collideB, h1])
    rw [h1] at he
    clear h1
    go_enter Tryz.func182, Tryz.ntmps182
    go_wp2
    refine wp_region_later (by kernel_rfl) (by kernel_rfl) ?_; (repeat (first | go_big_quiet_step (((go_at_call 194; exact Calls.later _ (meaning_any _ _ _ _ _)))) | quiet_step (((go_at_call 194; exact Calls.later _ (meaning_any _ _ _ _ _)))))); refine wpQuiet_nil ?_; rintro _ ⟨s, rfl⟩
    go_wp2
    go_ret
    exact ⟨of_bool (by rw [hf.out]), below2 s⟩
  rw [h1] at he
  by_cases h2 : decide (f ≤ to2) = true
  case neg =>
    have h2 : decide (f ≤ to2) = false := by simpa using h2
    have hf := Lib.hid (show collideB ⟨k, t, f, to⟩ ⟨k2, t2, f2, to2⟩ = false by simp [collideB, h1, h2])
    clear h1
    go_enter Tryz.func182, Tryz.ntmps182
    go_wp2
    refine wp_region_later (by kernel_rfl) (by kernel_rfl) ?_; (repeat (first | go_big_quiet_step (((go_at_call 194; exact Calls.later _ (meaning_any _ _ _ _ _)))) | quiet_step (((go_at_call 194; exact Calls.later _ (meaning_any _ _ _ _ _)))))); refine wpQuiet_nil ?_; rintro _ ⟨s, rfl⟩
    go_wp2
    go_ret
    exact ⟨of_bool (by rw [hf.out]), below2 s⟩
  have hf := Lib.hid (show collideB ⟨k, t, f, to⟩ ⟨k2, t2, f2, to2⟩ = decide (f2 ≤ to) by simp [collideB, h1, h2])
  clear h1
  go_enter Tryz.func182, Tryz.ntmps182
  go_wp2
  refine wp_region_later (by kernel_rfl) (by kernel_rfl) ?_; (repeat (first | go_big_quiet_step (((go_at_call 194; exact Calls.later _ (meaning_any _ _ _ _ _)))) | quiet_step (((go_at_call 194; exact Calls.later _ (meaning_any _ _ _ _ _)))))); refine wpQuiet_nil ?_; rintro _ ⟨s, rfl⟩
  go_wp2
  go_ret
  exact ⟨of_bool (by rw [hf.out]), below2 s⟩
set_option maxHeartbeats 800000 in
theorem rcol_any (a b : Va) (w : World) : Calls Tryz.prog 165 #[a.val, b.val] w fun e w' => e = .returned (.bool (collideB a b)) ∧ Below w.heap.size w w' := by
  obtain ⟨k, t, f, to⟩ := a
  obtain ⟨k2, t2, f2, to2⟩ := b
  unfold Va.val
  dsimp only
  by_cases h1 : (k == k2) = true
  case neg =>
    have h1 : (k == k2) = false := by simpa using h1
    have hf := Lib.hid (show collideB ⟨k, t, f, to⟩ ⟨k2, t2, f2, to2⟩ = false by simp [collideB, h1])
    go_enter Tryz.func165, Tryz.ntmps165
    go_wp2
    go_ret
    exact ⟨of_bool (by rw [hf.out]), (((Below.refl _ _).alloc (Nat.le_refl _) _).alloc (by simp) _)⟩
  by_cases h2 : (t.toList == t2.toList) = true
  case neg =>
    have h2 : (t.toList == t2.toList) = false := by simpa using h2
    have hf := Lib.hid (show collideB ⟨k, t, f, to⟩ ⟨k2, t2, f2, to2⟩ = false by simp [collideB, strEq, h2])
    go_enter Tryz.func165, Tryz.ntmps165
    go_wp2
    go_ret
    exact ⟨of_bool (by rw [hf.out]), (((Below.refl _ _).alloc (Nat.le_refl _) _).alloc (by simp) _)⟩
  by_cases h3 : f ≤ to2
  case neg =>
    have hf := Lib.hid (show collideB ⟨k, t, f, to⟩ ⟨k2, t2, f2, to2⟩ = false by simp [collideB]; omega)
    have h3 : to2 < f := by omega
    go_enter Tryz.func165, Tryz.ntmps165
    go_wp2
    go_ret
    exact ⟨of_bool (by rw [hf.out]), (((Below.refl _ _).alloc (Nat.le_refl _) _).alloc (by simp) _)⟩
  have hf := Lib.hid (show collideB ⟨k, t, f, to⟩ ⟨k2, t2, f2, to2⟩ = decide (f2 ≤ to) by simp [collideB, strEq, h1, h2, h3])
  go_enter Tryz.func165, Tryz.ntmps165
  go_wp2
  go_ret
  exact ⟨of_bool (by rw [hf.out]), (((Below.refl _ _).alloc (Nat.le_refl _) _).alloc (by simp) _)⟩
open Go.RowKit
structure VaAt (w : World) (b p : Nat) (v : Va) : Prop where
  c0 : w.cell? ⟨b, p, none⟩ = some (.int .i64 v.kind)
  c1 : w.cell? ⟨b, p + 1, none⟩ = some (.string v.text)
  c2 : w.cell? ⟨b, p + 2, none⟩ = some (.int .i64 v.fr)
  c3 : w.cell? ⟨b, p + 3, none⟩ = some (.int .i64 v.to)
  sz : v.text.size ≤ maxLen
def ValsAt (w : World) (A : Option Addr) (vs : List Va) : Prop := ∀ k v, vs[k]? = some v → ∃ b o, A = some ⟨b, o, none⟩ ∧ b < w.heap.size ∧ VaAt w b (o + k * 4) v
structure Sm where
  s : Sg
  A : Option Addr
  cap : Nat
def Sm.val (m : Sm) : Value := .agg #[.string m.s.code, .int .i64 m.s.wide, .int .i64 m.s.high, .bool m.s.even, .slice m.A m.s.vals.length m.cap]
structure SmOk (w : World) (m : Sm) : Prop where
  vals : ValsAt w m.A m.s.vals
  len : m.s.vals.length ≤ m.cap
  cap : m.cap ≤ maxLen
  code : m.s.code.size ≤ maxLen
structure SmAt (w : World) (b p : Nat) (m : Sm) : Prop where
  c0 : w.cell? ⟨b, p, none⟩ = some (.string m.s.code)
  c1 : w.cell? ⟨b, p + 1, none⟩ = some (.int .i64 m.s.wide)
  c2 : w.cell? ⟨b, p + 2, none⟩ = some (.int .i64 m.s.high)
  c3 : w.cell? ⟨b, p + 3, none⟩ = some (.bool m.s.even)
  c4 : w.cell? ⟨b, p + 4, none⟩ = some (.slice m.A m.s.vals.length m.cap)
def SignsAt (w : World) (A : Option Addr) (ms : List Sm) : Prop := ∀ k m, ms[k]? = some m → ∃ b o, A = some ⟨b, o, none⟩ ∧ b < w.heap.size ∧ SmAt w b (o + k * 5) m ∧ SmOk w m
structure Lm where
  per : Int
  ms : List Sm
  A : Option Addr
  cap : Nat
def Lm.val (l : Lm) : Value := .agg #[.int .i64 l.per, .slice l.A l.ms.length l.cap]
def Lm.signs (l : Lm) : List Sg := l.ms.map (·.s)
def Lm.li (l : Lm) : Li := ⟨l.per, l.signs⟩
structure LmOk (w : World) (l : Lm) : Prop where
  signs : SignsAt w l.A l.ms
  len : l.ms.length ≤ l.cap
  cap : l.cap ≤ maxLen
section
variable {w w' : World} {B : Nat}
theorem VaAt.below {b p : Nat} {v : Va} (h : VaAt w b p v) (hb : Below w.heap.size w w') (hlt : b < w.heap.size) : VaAt w' b p v :=
  ⟨(hb.cell (p := ⟨b, _, none⟩) hlt).trans h.c0, (hb.cell (p := ⟨b, _, none⟩) hlt).trans h.c1, (hb.cell (p := ⟨b, _, none⟩) hlt).trans h.c2, (hb.cell (p := ⟨b, _, none⟩) hlt).trans h.c3, h.sz⟩
theorem SmAt.below {b p : Nat} {m : Sm} (h : SmAt w b p m) (hb : Below w.heap.size w w') (hlt : b < w.heap.size) : SmAt w' b p m :=
  ⟨(hb.cell (p := ⟨b, _, none⟩) hlt).trans h.c0, (hb.cell (p := ⟨b, _, none⟩) hlt).trans h.c1, (hb.cell (p := ⟨b, _, none⟩) hlt).trans h.c2, (hb.cell (p := ⟨b, _, none⟩) hlt).trans h.c3, (hb.cell (p := ⟨b, _, none⟩) hlt).trans h.c4⟩
theorem ValsAt.below {A : Option Addr} {vs : List Va} (h : ValsAt w A vs) (hb : Below w.heap.size w w') : ValsAt w' A vs := fun k v hk => by
  obtain ⟨b, o, e, hlt, hv⟩ := h k v hk
  exact ⟨b, o, e, Nat.lt_of_lt_of_le hlt hb.size, hv.below hb hlt⟩
theorem ValsAt.take {A : Option Addr} {vs : List Va} (h : ValsAt w A vs) (n : Nat) : ValsAt w A (vs.take n) := fun k v hk => h k v (by rw [List.getElem?_take] at hk; split at hk <;> simp_all)
theorem ValsAt.nil (A : Option Addr) : ValsAt w A [] := fun k v hk => by simp at hk
theorem SmOk.below {m : Sm} (h : SmOk w m) (hb : Below w.heap.size w w') : SmOk w' m := ⟨h.vals.below hb, h.len, h.cap, h.code⟩
theorem SignsAt.below {A : Option Addr} {ms : List Sm} (h : SignsAt w A ms) (hb : Below w.heap.size w w') : SignsAt w' A ms := fun k m hk => by
  obtain ⟨b, o, e, hlt, hv, ho⟩ := h k m hk
  exact ⟨b, o, e, Nat.lt_of_lt_of_le hlt hb.size, hv.below hb hlt, ho.below hb⟩
theorem LmOk.below {l : Lm} (h : LmOk w l) (hb : Below w.heap.size w w') : LmOk w' l := ⟨h.signs.below hb, h.len, h.cap⟩
end
theorem Lm.getElem_signs {l : Lm} {k : Nat} {m : Sm} (h : l.ms[k]? = some m) : l.signs[k]? = some m.s := by unfold Lm.signs; rw [List.getElem?_map, h]; rfl
theorem Lm.length_signs (l : Lm) : l.signs.length = l.ms.length := by simp [Lm.signs]
theorem of_int {a b : Int} (h : a = b) : Ending.returned (.int .i64 a) = .returned (.int .i64 b) := by rw [h]
theorem below_alloc (w : World) (o : Obj) : Below w.heap.size w (w.alloc o) := (Below.refl _ _).alloc (Nat.le_refl _) _
theorem below_more {w w1 w2 : World} (h : Below w.heap.size w w1) (h2 : Below w1.heap.size w1 w2) : Below w.heap.size w w2 := h.trans (h2.mono h.size)
theorem below_of {w w1 : World} {o : Obj} (h : Below (w.alloc o).heap.size (w.alloc o) w1) : Below w.heap.size w w1 := below_more (below_alloc w o) h
theorem VaAt.at0 {w : World} {b : Nat} {v : Va} (h : VaAt w b 0 v) : w.cell? ⟨b, 0, none⟩ = some (.int .i64 v.kind) ∧ w.cell? ⟨b, 1, none⟩ = some (.string v.text) ∧ w.cell? ⟨b, 2, none⟩ = some (.int .i64 v.fr) ∧ w.cell? ⟨b, 3, none⟩ = some (.int .i64 v.to) := ⟨h.c0, h.c1, h.c2, h.c3⟩
theorem SmAt.at0 {w : World} {b : Nat} {m : Sm} (h : SmAt w b 0 m) : w.cell? ⟨b, 0, none⟩ = some (.string m.s.code) ∧ w.cell? ⟨b, 1, none⟩ = some (.int .i64 m.s.wide) ∧ w.cell? ⟨b, 2, none⟩ = some (.int .i64 m.s.high) ∧ w.cell? ⟨b, 3, none⟩ = some (.bool m.s.even) ∧ w.cell? ⟨b, 4, none⟩ = some (.slice m.A m.s.vals.length m.cap) := ⟨h.c0, h.c1, h.c2, h.c3, h.c4⟩
theorem VaAt.box (w : World) (v : Va) (hs : v.text.size ≤ maxLen) (T : TypeId) : VaAt (w.alloc (.cells #[.int .i64 v.kind, .string v.text, .int .i64 v.fr, .int .i64 v.to] T)) w.heap.size 0 v :=
  ⟨by simp [go_sem], by simp [go_sem], by simp [go_sem], by simp [go_sem], hs⟩
theorem SmAt.box (w : World) (m : Sm) (T : TypeId) : SmAt (w.alloc (.cells #[.string m.s.code, .int .i64 m.s.wide, .int .i64 m.s.high, .bool m.s.even, .slice m.A m.s.vals.length m.cap] T)) w.heap.size 0 m :=
  ⟨by simp [go_sem], by simp [go_sem], by simp [go_sem], by simp [go_sem], by simp [go_sem]⟩
open Go.RowKit
set_option maxHeartbeats 1600000 in
theorem checkValue_any (v : Va) (A : Option Addr) (vs : List Va) (n cap : Nat) (p : Int) (w : World) (hv : v.text.size ≤ maxLen) (hvs : ValsAt w A vs) (hn : n = vs.length) (hl : n ≤ maxLen) :
    Calls Tryz.prog 151 #[v.val, .slice A n cap, .int .i64 p] w fun e w' => e = .returned (.int .i64 (valErr v vs p)) ∧ Below w.heap.size w w' := by
  have hl' := hl
  unfold maxLen at hl'
  have HN := Lib.hid hn
  clear hn hl
  unfold Va.val
  by_cases h1 : kindB v.kind = true
  case neg =>
    have h1 : kindB v.kind = false := by simpa using h1
    have hf := Lib.hid (show valErr v vs p = 12 by simp [valErr, h1])
    go_enter Tryz.func151, Tryz.ntmps151
    go_wp2_with (first | (go_at_call 180; refine (kind_any _ _).mono ?_; rintro e w' ⟨rfl, rfl⟩) | (go_at_call 181; refine (text_any _ _ _ hv).mono ?_; rintro e w' ⟨rfl, rfl⟩))
    go_ret
    exact ⟨of_int (by rw [hf.out]), below_alloc _ _⟩
  by_cases h2 : textB v.kind v.text = true
  case neg =>
    have h2 : textB v.kind v.text = false := by simpa using h2
    have hf := Lib.hid (show valErr v vs p = 12 by simp [valErr, h2])
    go_enter Tryz.func151, Tryz.ntmps151
    go_wp2_with (first | (go_at_call 180; refine (kind_any _ _).mono ?_; rintro e w' ⟨rfl, rfl⟩) | (go_at_call 181; refine (text_any _ _ _ hv).mono ?_; rintro e w' ⟨rfl, rfl⟩))
    go_ret
    exact ⟨of_int (by rw [hf.out]), below_alloc _ _⟩
  by_cases h3 : 1 ≤ v.fr ∧ v.fr ≤ v.to ∧ v.to ≤ p
  case neg =>
    have hf := Lib.hid (show valErr v vs p = 13 by
      unfold valErr
      rw [if_neg (by rw [h1, h2]; simp), if_pos (by omega)])
    by_cases h4 : 1 ≤ v.fr
    · by_cases h5 : v.fr ≤ v.to
      · have h6 : p < v.to := by omega
        clear h3
        go_enter Tryz.func151, Tryz.ntmps151
        go_wp2_with (first | (go_at_call 180; refine (kind_any _ _).mono ?_; rintro e w' ⟨rfl, rfl⟩) | (go_at_call 181; refine (text_any _ _ _ hv).mono ?_; rintro e w' ⟨rfl, rfl⟩))
        go_ret
        exact ⟨of_int (by rw [hf.out]), below_alloc _ _⟩
      · clear h3
        go_enter Tryz.func151, Tryz.ntmps151
        go_wp2_with (first | (go_at_call 180; refine (kind_any _ _).mono ?_; rintro e w' ⟨rfl, rfl⟩) | (go_at_call 181; refine (text_any _ _ _ hv).mono ?_; rintro e w' ⟨rfl, rfl⟩))
        go_ret
        exact ⟨of_int (by rw [hf.out]), below_alloc _ _⟩
    · clear h3
      go_enter Tryz.func151, Tryz.ntmps151
      go_wp2_with (first | (go_at_call 180; refine (kind_any _ _).mono ?_; rintro e w' ⟨rfl, rfl⟩) | (go_at_call 181; refine (text_any _ _ _ hv).mono ?_; rintro e w' ⟨rfl, rfl⟩))
      go_ret
      exact ⟨of_int (by rw [hf.out]), below_alloc _ _⟩
  have hf := Lib.hid (show valErr v vs p = if vs.any (fun b => collideB b v) then 12 else 0 by
      unfold valErr
      rw [if_neg (by rw [h1, h2]; simp), if_neg (by omega)])
  obtain ⟨h4, h5, h6⟩ := h3
  have hbox := VaAt.box w v hv 176
  go_enter Tryz.func151, Tryz.ntmps151
  go_wp2_with (first | (go_at_call 180; refine (kind_any _ _).mono ?_; rintro e w' ⟨rfl, rfl⟩) | (go_at_call 181; refine (text_any _ _ _ hv).mono ?_; rintro e w' ⟨rfl, rfl⟩))
  clear h1 h2 h4 h5 h6
  obtain ⟨W, hW⟩ : ∃ W, W = w.alloc (.cells #[.int .i64 v.kind, .string v.text, .int .i64 v.fr, .int .i64 v.to] 176) := ⟨_, rfl⟩
  have hWs : W.heap.size = w.heap.size + 1 := by rw [hW]; simp
  have hWb : Below w.heap.size w W := by rw [hW]; exact below_alloc _ _
  rw [← hW] at hbox
  rw [← hW]
  have HW := Lib.hid hW
  have HWs := Lib.hid hWs
  have HWb := Lib.hid hWb
  have HB := Lib.hid hbox
  clear hW hWs hWb hbox
  go_loopw [39] (fun i wr => ∃ k : Nat, k ≤ n ∧ i = .int .i64 k ∧ Hid (Below W.heap.size W wr) ∧ Hid ((vs.take k).any (fun b => collideB b v) = false)) (fun i _ => n - (intOf i).toNat)
  case atStart => exact ⟨0, Nat.zero_le _, rfl, Lib.hid (Below.refl _ _), Lib.hid (by simp)⟩
  case round =>
    obtain ⟨k, hk, rfl, hb, hno⟩ := hrel
    have bx := HB.out.below hb.out (by have := HWs.out; omega)
    obtain ⟨x0, x1, x2, x3⟩ := bx.at0
    by_cases hlt : k < n
    · have hget : vs[k]? = some (vs[k]'(by have := HN.out; omega)) := List.getElem?_eq_getElem _
      obtain ⟨u, hu⟩ : ∃ u, u = vs[k]'(by have := HN.out; omega) := ⟨_, rfl⟩
      rw [← hu] at hget
      obtain ⟨b, o, rfl, hb1, hva⟩ := hvs k u hget
      have hw1 := below_more HWb.out hb.out
      obtain ⟨y0, y1, y2, y3, ysz⟩ := hva.below hw1 hb1
      have GET := Lib.hid hget
      clear hu hget hva
      have hsz : w.heap.size < wr.heap.size := by have := hb.out.size; have := HWs.out; omega
      have hsb : b < wr.heap.size := by omega
      clear bx hb1
      by_cases hc : collideB u v = true
      · have hfin := Lib.hid (any_true (fun b => collideB b v) vs k u GET.out hc)
        go_wp2_with (go_at_call 182; refine (col_any u v _).mono ?_; rintro e w' ⟨rfl, hb2⟩)
        go_ret
        exact ⟨of_int (by rw [hf.out, hfin.out]; rfl), (below_more hw1 ((below_alloc _ _).trans (hb2.mono (by simp))))⟩
      · have hc : collideB u v = false := by simpa using hc
        have hstep := Lib.hid (any_step (fun b => collideB b v) vs k u GET.out hno.out hc)
        go_wp2_with (go_at_call 182; refine (col_any u v _).mono ?_; rintro e w' ⟨rfl, hb2⟩)
        go_roundw
        case rel => exact ⟨k + 1, by omega, by go_num, Lib.hid (hb.out.trans (((below_alloc _ _).trans (hb2.mono (by simp))).mono hb.out.size)), hstep⟩
        case measure => simp [intOf]; omega
    · obtain rfl : k = n := by omega
      have hsz := hb.out.size
      go_wp2
      go_ret
      refine ⟨of_int ?_, below_more HWb.out hb.out⟩
      rw [hf.out]
      have := hno.out
      rw [HN.out, List.take_length] at this
      rw [this]; rfl
open Go.RowKit
set_option maxHeartbeats 1600000 in
theorem checkSign_any (m : Sm) (p : Int) (w : World) (hm : SmOk w m) :
    Calls Tryz.prog 115 #[m.val, .int .i64 p] w fun e w' => e = .returned (.int .i64 (signErr m.s p)) ∧ Below w.heap.size w w' := by
  obtain ⟨⟨code, wide, high, even, vs⟩, A, cap⟩ := m
  obtain ⟨hvs, hl, hcap, hcode⟩ := hm
  dsimp only at hvs hl hcap hcode
  have hbox := SmAt.box w ⟨⟨code, wide, high, even, vs⟩, A, cap⟩ 95
  dsimp only at hbox
  unfold Sm.val
  dsimp only
  obtain ⟨n, hn⟩ : ∃ n, n = vs.length := ⟨_, rfl⟩
  rw [← hn] at hl hbox ⊢
  have hl' := hl
  have hcap' := hcap
  unfold maxLen at hcap'
  have HN := Lib.hid hn
  clear hn
  by_cases h1 : withinB wide 12 = true
  case neg =>
    have h1 : withinB wide 12 = false := by simpa using h1
    have hf := Lib.hid (show signErr ⟨code, wide, high, even, vs⟩ p = 11 by simp [signErr, h1])
    clear hbox
    go_enter Tryz.func115, Tryz.ntmps115
    go_wp2_with (first | (go_at_call 113; refine (within_any _ _ _).mono ?_; rintro e w' ⟨rfl, rfl⟩))
    go_ret
    exact ⟨of_int (by rw [hf.out]), below_alloc _ _⟩
  by_cases h2 : withinB high 12 = true
  case neg =>
    have h2 : withinB high 12 = false := by simpa using h2
    have hf := Lib.hid (show signErr ⟨code, wide, high, even, vs⟩ p = 11 by simp [signErr, h2])
    clear hbox
    go_enter Tryz.func115, Tryz.ntmps115
    go_wp2_with (first | (go_at_call 113; refine (within_any _ _ _).mono ?_; rintro e w' ⟨rfl, rfl⟩))
    go_ret
    exact ⟨of_int (by rw [hf.out]), below_alloc _ _⟩
  by_cases h3 : n ≤ 12
  case neg =>
    have hf := Lib.hid (show signErr ⟨code, wide, high, even, vs⟩ p = 2 by
      unfold signErr
      rw [if_neg (by rw [h1, h2]; simp), if_pos (by dsimp only; rw [← HN.out]; omega)])
    clear hbox
    go_enter Tryz.func115, Tryz.ntmps115
    go_wp2_with (first | (go_at_call 113; refine (within_any _ _ _).mono ?_; rintro e w' ⟨rfl, rfl⟩))
    go_ret
    exact ⟨of_int (by rw [hf.out]), below_alloc _ _⟩
  have hf := Lib.hid (show signErr ⟨code, wide, high, even, vs⟩ p = valsErr p [] vs by
      unfold signErr
      rw [if_neg (by rw [h1, h2]; simp), if_neg (by dsimp only; rw [← HN.out]; omega)])
  have HB := Lib.hid hbox
  clear hbox
  go_enter Tryz.func115, Tryz.ntmps115
  go_wp2_with (first | (go_at_call 113; refine (within_any _ _ _).mono ?_; rintro e w' ⟨rfl, rfl⟩))
  clear h1 h2
  obtain ⟨W, hW⟩ : ∃ W, W = w.alloc (.cells #[.string code, .int .i64 wide, .int .i64 high, .bool even, .slice A n cap] 95) := ⟨_, rfl⟩
  have HWs := Lib.hid (show W.heap.size = w.heap.size + 1 by rw [hW]; simp)
  have HWb := Lib.hid (show Below w.heap.size w W by rw [hW]; exact below_alloc _ _)
  rw [← hW] at HB
  rw [← hW]
  clear hW
  go_loopw [25] (fun i wr => ∃ k : Nat, k ≤ n ∧ i = .int .i64 k ∧ Hid (Below W.heap.size W wr) ∧ Hid (valsErr p (vs.take k) (vs.drop k) = valsErr p [] vs)) (fun i _ => n - (intOf i).toNat)
  case atStart => exact ⟨0, Nat.zero_le _, rfl, Lib.hid (Below.refl _ _), Lib.hid (by simp)⟩
  case round =>
    obtain ⟨k, hk, rfl, hb, hno⟩ := hrel
    have bx := HB.out.below hb.out (by have := HWs.out; omega)
    have hsz : w.heap.size < wr.heap.size := by have := hb.out.size; have := HWs.out; omega
    have hsz1 : w.heap.size < wr.heap.size + 1 := by omega
    have hw1 := Lib.hid (below_more HWb.out hb.out)
    obtain ⟨x0, x1, x2, x3, x4⟩ := bx.at0
    rw [show (⟨⟨code, wide, high, even, vs⟩, A, cap⟩ : Sm).s.vals.length = n from HN.out.symm] at x4
    dsimp only at x0 x1 x2 x3 x4
    clear bx
    by_cases hlt : k < n
    · have hget : vs[k]? = some (vs[k]'(by have := HN.out; omega)) := List.getElem?_eq_getElem _
      obtain ⟨u, hu⟩ : ∃ u, u = vs[k]'(by have := HN.out; omega) := ⟨_, rfl⟩
      rw [← hu] at hget
      obtain ⟨b, o, hA, hb1, hva⟩ := hvs k u hget
      have hvr := Lib.hid ((hvs.below hw1.out).take k)
      subst hA
      obtain ⟨y0, y1, y2, y3, ysz⟩ := hva.below hw1.out hb1
      have GET := Lib.hid hget
      have hkc : k ≤ cap := by omega
      have hsb : b < wr.heap.size := by omega
      clear hu hget hva hb1 hvs
      have hkl := Lib.hid (show k = (vs.take k).length by rw [List.length_take]; have := HN.out; omega)
      have hkm := Lib.hid (show k ≤ maxLen by unfold maxLen; omega)
      by_cases hc : valErr u (vs.take k) p = 0
      · have hfin := Lib.hid (valsErr_step p vs k u GET.out hc)
        have hc' : (valErr u (vs.take k) p != 0) = false := by simpa using hc
        clear hc
        go_wp2
        refine wp_region_later (by kernel_rfl) (by kernel_rfl) ?_; (repeat (first | go_big_quiet_step (((go_at_call 151; exact Calls.later _ (checkValue_any u _ (vs.take k) k _ _ _ ysz (hvr.out.below (below1 _)) hkl.out hkm.out)))) | quiet_step (((go_at_call 151; exact Calls.later _ (checkValue_any u _ (vs.take k) k _ _ _ ysz (hvr.out.below (below1 _)) hkl.out hkm.out)))))); refine wpQuiet_nil ?_; rintro _ ⟨s, rfl⟩
        go_wp2
        go_roundw
        case rel => exact ⟨k + 1, by omega, by go_num, Lib.hid (hb.out.trans ((below1 s).mono hb.out.size)), Lib.hid (by rw [← hfin.out]; exact hno.out)⟩
        case measure => simp [intOf]; omega
      · have hfin := Lib.hid (valsErr_stop p vs k u GET.out hc)
        have hc' : (valErr u (vs.take k) p != 0) = true := by simpa using hc
        clear hc
        go_wp2
        refine wp_region_later (by kernel_rfl) (by kernel_rfl) ?_; (repeat (first | go_big_quiet_step (((go_at_call 151; exact Calls.later _ (checkValue_any u _ (vs.take k) k _ _ _ ysz (hvr.out.below (below1 _)) hkl.out hkm.out)))) | quiet_step (((go_at_call 151; exact Calls.later _ (checkValue_any u _ (vs.take k) k _ _ _ ysz (hvr.out.below (below1 _)) hkl.out hkm.out)))))); refine wpQuiet_nil ?_; rintro _ ⟨s, rfl⟩
        go_wp2
        go_ret
        exact ⟨of_int (by rw [hf.out, ← hno.out, hfin.out]), below_more hw1.out (below1 s)⟩
    · obtain rfl : k = n := by omega
      go_wp2
      go_ret
      refine ⟨of_int ?_, hw1.out⟩
      have := hno.out
      rw [hf.out, ← this, HN.out, valsErr_end]
open Go.RowKit
theorem kindB_of {k : Int} (h1 : 1 ≤ k) (h2 : k ≤ 3) : kindB k = true := by simp [kindB, h1, h2]
theorem rcol_is (a b : Va) (w : World) (r : Bool) (h : collideB a b = r) : Calls Tryz.prog 165 #[a.val, b.val] w fun e w' => e = .returned (.bool r) ∧ Below w.heap.size w w' := by
  rw [← h]; exact rcol_any a b w
set_option maxHeartbeats 3200000 in
theorem rsign_any (m : Sm) (p : Int) (w : World) (hm : SmOk w m) :
    Calls Tryz.prog 127 #[m.val, .int .i64 p] w fun e w' => e = .returned (.int .i64 (signErr m.s p)) ∧ Below w.heap.size w w' := by
  obtain ⟨⟨code, wide, high, even, vs⟩, A, cap⟩ := m
  obtain ⟨hvs, hl, hcap, hcode⟩ := hm
  dsimp only at hvs hl hcap hcode
  have hbox := SmAt.box w ⟨⟨code, wide, high, even, vs⟩, A, cap⟩ 95
  dsimp only at hbox
  unfold Sm.val
  dsimp only
  obtain ⟨n, hn⟩ : ∃ n, n = vs.length := ⟨_, rfl⟩
  rw [← hn] at hl hbox ⊢
  have hcap' := hcap
  unfold maxLen at hcap'
  have HN := Lib.hid hn
  clear hn
  have h1 : (withinB wide 12 && withinB high 12) = (decide (1 ≤ wide) && decide (wide ≤ 12) && (decide (1 ≤ high) && decide (high ≤ 12))) := rfl
  by_cases a1 : 1 ≤ wide
  case neg =>
    have hf := Lib.hid (show signErr ⟨code, wide, high, even, vs⟩ p = 11 by simp [signErr, h1, a1])
    clear hbox h1
    go_enter Tryz.func127, Tryz.ntmps127
    go_wp2
    go_ret
    exact ⟨of_int (by rw [hf.out]), below_alloc _ _⟩
  by_cases a2 : wide ≤ 12
  case neg =>
    have hf := Lib.hid (show signErr ⟨code, wide, high, even, vs⟩ p = 11 by simp [signErr, h1, a2])
    clear hbox h1
    go_enter Tryz.func127, Tryz.ntmps127
    go_wp2
    go_ret
    exact ⟨of_int (by rw [hf.out]), below_alloc _ _⟩
  by_cases a3 : 1 ≤ high
  case neg =>
    have hf := Lib.hid (show signErr ⟨code, wide, high, even, vs⟩ p = 11 by simp [signErr, h1, a3])
    clear hbox h1
    go_enter Tryz.func127, Tryz.ntmps127
    go_wp2
    go_ret
    exact ⟨of_int (by rw [hf.out]), below_alloc _ _⟩
  by_cases a4 : high ≤ 12
  case neg =>
    have hf := Lib.hid (show signErr ⟨code, wide, high, even, vs⟩ p = 11 by simp [signErr, h1, a4])
    clear hbox h1
    go_enter Tryz.func127, Tryz.ntmps127
    go_wp2
    go_ret
    exact ⟨of_int (by rw [hf.out]), below_alloc _ _⟩
  by_cases h3 : n ≤ 12
  case neg =>
    have hf := Lib.hid (show signErr ⟨code, wide, high, even, vs⟩ p = 2 by
      unfold signErr
      rw [if_neg (by rw [h1]; simp [a1, a2, a3, a4]), if_pos (by dsimp only; rw [← HN.out]; omega)])
    clear hbox h1
    go_enter Tryz.func127, Tryz.ntmps127
    go_wp2
    go_ret
    exact ⟨of_int (by rw [hf.out]), below_alloc _ _⟩
  have hf := Lib.hid (show signErr ⟨code, wide, high, even, vs⟩ p = valsErr p [] vs by
      unfold signErr
      rw [if_neg (by rw [h1]; simp [a1, a2, a3, a4]), if_neg (by dsimp only; rw [← HN.out]; omega)])
  have HB := Lib.hid hbox
  clear hbox h1
  go_enter Tryz.func127, Tryz.ntmps127
  go_wp2
  clear a1 a2 a3 a4
  obtain ⟨W, hW⟩ : ∃ W, W = w.alloc (.cells #[.string code, .int .i64 wide, .int .i64 high, .bool even, .slice A n cap] 95) := ⟨_, rfl⟩
  have HWs := Lib.hid (show W.heap.size = w.heap.size + 1 by rw [hW]; simp)
  have HWb := Lib.hid (show Below w.heap.size w W by rw [hW]; exact below_alloc _ _)
  rw [← hW] at HB
  rw [← hW]
  clear hW
  go_loopw [5] (fun i wr => ∃ k : Nat, k ≤ n ∧ i = .int .i64 k ∧ Hid (Below W.heap.size W wr) ∧ Hid (valsErr p (vs.take k) (vs.drop k) = valsErr p [] vs)) (fun i _ => n - (intOf i).toNat)
  case atStart => exact ⟨0, Nat.zero_le _, rfl, Lib.hid (Below.refl _ _), Lib.hid (by simp)⟩
  case round =>
    obtain ⟨k, hk, rfl, hb, hno⟩ := hrel
    obtain ⟨wo, rfl⟩ : ∃ wo : World, wo = wr := ⟨_, rfl⟩
    have bx := HB.out.below hb.out (by have := HWs.out; omega)
    have hsz : w.heap.size < wo.heap.size := by have := hb.out.size; have := HWs.out; omega
    have hsz1 : w.heap.size < wo.heap.size + 1 := by omega
    have hw1 := Lib.hid (below_more HWb.out hb.out)
    obtain ⟨x0, x1, x2, x3, x4⟩ := bx.at0
    rw [show (⟨⟨code, wide, high, even, vs⟩, A, cap⟩ : Sm).s.vals.length = n from HN.out.symm] at x4
    dsimp only at x0 x1 x2 x3 x4
    have bx := Lib.hid bx
    by_cases hlt : k < n
    · have hget : vs[k]? = some (vs[k]'(by have := HN.out; omega)) := List.getElem?_eq_getElem _
      obtain ⟨u, hu⟩ : ∃ u, u = vs[k]'(by have := HN.out; omega) := ⟨_, rfl⟩
      rw [← hu] at hget
      obtain ⟨b, o, hA, hb1, hva⟩ := hvs k u hget
      have hvr := Lib.hid (hvs.below hw1.out)
      subst hA
      obtain ⟨y0, y1, y2, y3, ysz⟩ := hva.below hw1.out hb1
      have GET := Lib.hid hget
      have hkc : k ≤ cap := by omega
      have hsb : b < wo.heap.size := by omega
      have hsb1 : b < wo.heap.size + 1 := by omega
      clear hu hget hva hvs
      by_cases k1 : 1 ≤ u.kind
      case neg =>
        have hv0 : valErr u (vs.take k) p = 12 := by simp [valErr, kindB, k1]
        have hfin := Lib.hid (valsErr_stop p vs k u GET.out (by rw [hv0]; decide))
        have HV := Lib.hid hv0
        clear hv0
        go_wp2_with (first | (go_at_call 164; refine (right_any _ _ _ ysz).mono ?_; rintro e w' ⟨rfl, rfl⟩))
        go_ret
        exact ⟨of_int (by rw [hf.out, ← hno.out, hfin.out, HV.out]), below_more hw1.out (below_alloc _ _)⟩
      by_cases k2 : u.kind ≤ 3
      case neg =>
        have hv0 : valErr u (vs.take k) p = 12 := by simp [valErr, kindB, k2]
        have hfin := Lib.hid (valsErr_stop p vs k u GET.out (by rw [hv0]; decide))
        have HV := Lib.hid hv0
        clear hv0
        go_wp2_with (first | (go_at_call 164; refine (right_any _ _ _ ysz).mono ?_; rintro e w' ⟨rfl, rfl⟩))
        go_ret
        exact ⟨of_int (by rw [hf.out, ← hno.out, hfin.out, HV.out]), below_more hw1.out (below_alloc _ _)⟩
      by_cases k3 : textB u.kind u.text = true
      case neg =>
        have k3 : textB u.kind u.text = false := by simpa using k3
        have hv0 : valErr u (vs.take k) p = 12 := by simp [valErr, k3]
        have hfin := Lib.hid (valsErr_stop p vs k u GET.out (by rw [hv0]; decide))
        have HV := Lib.hid hv0
        clear hv0
        go_wp2_with (first | (go_at_call 164; refine (right_any _ _ _ ysz).mono ?_; rintro e w' ⟨rfl, rfl⟩))
        go_ret
        exact ⟨of_int (by rw [hf.out, ← hno.out, hfin.out, HV.out]), below_more hw1.out (below_alloc _ _)⟩
      have hkt := Lib.hid (show ¬ (kindB u.kind && textB u.kind u.text) = false by rw [kindB_of k1 k2, k3]; simp)
      by_cases h4 : 1 ≤ u.fr
      case neg =>
        have hv0 : valErr u (vs.take k) p = 13 := by unfold valErr; rw [if_neg hkt.out, if_pos (by omega)]
        have hfin := Lib.hid (valsErr_stop p vs k u GET.out (by rw [hv0]; decide))
        have HV := Lib.hid hv0
        clear hv0
        go_wp2_with (first | (go_at_call 164; refine (right_any _ _ _ ysz).mono ?_; rintro e w' ⟨rfl, rfl⟩))
        go_ret
        exact ⟨of_int (by rw [hf.out, ← hno.out, hfin.out, HV.out]), below_more hw1.out (below_alloc _ _)⟩
      by_cases h5 : u.fr ≤ u.to
      case neg =>
        have hv0 : valErr u (vs.take k) p = 13 := by unfold valErr; rw [if_neg hkt.out, if_pos (by omega)]
        have hfin := Lib.hid (valsErr_stop p vs k u GET.out (by rw [hv0]; decide))
        have HV := Lib.hid hv0
        clear hv0
        go_wp2_with (first | (go_at_call 164; refine (right_any _ _ _ ysz).mono ?_; rintro e w' ⟨rfl, rfl⟩))
        go_ret
        exact ⟨of_int (by rw [hf.out, ← hno.out, hfin.out, HV.out]), below_more hw1.out (below_alloc _ _)⟩
      by_cases h6 : u.to ≤ p
      case neg =>
        have hv0 : valErr u (vs.take k) p = 13 := by unfold valErr; rw [if_neg hkt.out, if_pos (by omega)]
        have hfin := Lib.hid (valsErr_stop p vs k u GET.out (by rw [hv0]; decide))
        have HV := Lib.hid hv0
        clear hv0
        go_wp2_with (first | (go_at_call 164; refine (right_any _ _ _ ysz).mono ?_; rintro e w' ⟨rfl, rfl⟩))
        go_ret
        exact ⟨of_int (by rw [hf.out, ← hno.out, hfin.out, HV.out]), below_more hw1.out (below_alloc _ _)⟩
      have hval := Lib.hid (show valErr u (vs.take k) p = if (vs.take k).any (fun b => collideB b u) then 12 else 0 by
        unfold valErr
        rw [if_neg hkt.out, if_neg (by omega)])
      have HU := Lib.hid (VaAt.box wo u ysz 176)
      go_wp2_with (first | (go_at_call 164; refine (right_any _ _ _ ysz).mono ?_; rintro e w' ⟨rfl, rfl⟩))
      clear k1 k2 k3 h4 h5 h6
      obtain ⟨V, hV⟩ : ∃ V, V = wo.alloc (.cells #[.int .i64 u.kind, .string u.text, .int .i64 u.fr, .int .i64 u.to] 176) := ⟨_, rfl⟩
      have HVs := Lib.hid (show V.heap.size = wo.heap.size + 1 by rw [hV]; simp)
      have HVb := Lib.hid (show Below wo.heap.size wo V by rw [hV]; exact below_alloc _ _)
      rw [← hV] at HU
      rw [← hV]
      clear hV y0 y1 y2 y3 x0 x1 x2 x3 x4
      go_loopw [7] (fun j wr => ∃ c : Nat, c ≤ k ∧ j = .int .i64 c ∧ Hid (Below V.heap.size V wr) ∧ Hid ((vs.take c).any (fun b => collideB b u) = false)) (fun j _ => k - (intOf j).toNat)
      case atStart => exact ⟨0, Nat.zero_le _, rfl, Lib.hid (Below.refl _ _), Lib.hid (by simp)⟩
      case round =>
        obtain ⟨c, hc, rfl, hq, hnc⟩ := hrel
        have hwq := Lib.hid (below_more HVb.out hq.out)
        have hqs := hq.out.size
        have hvs1 := HVs.out
        obtain ⟨x0, x1, x2, x3, x4⟩ := (bx.out.below hwq.out (by omega)).at0
        rw [show (⟨⟨code, wide, high, even, vs⟩, some ⟨b, o, none⟩, cap⟩ : Sm).s.vals.length = n from HN.out.symm] at x4
        dsimp only at x0 x1 x2 x3 x4
        obtain ⟨z0, z1, z2, z3⟩ := (HU.out.below hq.out (by omega)).at0
        have e1 : w.heap.size < wr.heap.size := by omega
        have e2 : wo.heap.size < wr.heap.size := by omega
        have e3 : b < wr.heap.size := by omega
        clear hqs hvs1
        by_cases hck : c < k
        · have hget : vs[c]? = some (vs[c]'(by have := HN.out; omega)) := List.getElem?_eq_getElem _
          obtain ⟨q, hu⟩ : ∃ q, q = vs[c]'(by have := HN.out; omega) := ⟨_, rfl⟩
          rw [← hu] at hget
          obtain ⟨b', o', hA', hb1', hva'⟩ := hvr.out c q hget
          injection hA' with hA'
          injection hA' with e5 e6
          subst e5 e6
          obtain ⟨y0, y1, y2, y3, ysz'⟩ := hva'.below hwq.out hb1'
          have GETq := Lib.hid hget
          have hcn : c < n := by omega
          have hcc : c ≤ cap := by omega
          clear hu hget hva' hb1'
          by_cases hcol : collideB q u = true
          · have hv0 : valErr u (vs.take k) p = 12 := by rw [hval.out, if_pos (any_true _ _ c q (by rw [List.getElem?_take, if_pos hck]; exact GETq.out) hcol)]
            have hfin := Lib.hid (valsErr_stop p vs k u GET.out (by rw [hv0]; decide))
            have HV := Lib.hid hv0
            clear hv0
            go_wp2
            refine wp_region_later (by kernel_rfl) (by kernel_rfl) ?_; (repeat (first | go_big_quiet_step (((go_at_call 165; exact Calls.later _ (rcol_is q u _ true hcol)))) | quiet_step (((go_at_call 165; exact Calls.later _ (rcol_is q u _ true hcol)))))); refine wpQuiet_nil ?_; rintro _ ⟨s, rfl⟩
            go_wp2
            go_ret
            exact ⟨of_int (by rw [hf.out, ← hno.out, hfin.out, HV.out]), below_more hw1.out (below_more hwq.out s.below)⟩
          · have hcol : collideB q u = false := by simpa using hcol
            have hstep := Lib.hid (any_step (fun b => collideB b u) vs c q GETq.out hnc.out hcol)
            go_wp2
            refine wp_region_later (by kernel_rfl) (by kernel_rfl) ?_; (repeat (first | go_big_quiet_step (((go_at_call 165; exact Calls.later _ (rcol_is q u _ false hcol)))) | quiet_step (((go_at_call 165; exact Calls.later _ (rcol_is q u _ false hcol)))))); refine wpQuiet_nil ?_; rintro _ ⟨s, rfl⟩
            go_wp2
            go_roundw
            case rel => exact ⟨c + 1, by omega, by go_num, Lib.hid (hq.out.trans (s.below.mono hq.out.size)), hstep⟩
            case measure => simp [intOf]; omega
        · obtain rfl : c = k := by omega
          have hv0 := Lib.hid (show valErr u (vs.take c) p = 0 by rw [hval.out, if_neg (by rw [hnc.out]; simp)])
          have hfin := Lib.hid (valsErr_step p vs c u GET.out hv0.out)
          go_wp2
          go_roundw
          case rel => exact ⟨c + 1, by omega, by go_num, Lib.hid (hb.out.trans (hwq.out.mono hb.out.size)), Lib.hid (by rw [← hfin.out]; exact hno.out)⟩
          case measure => simp [intOf]; omega
    · obtain rfl : k = n := by omega
      go_wp2
      go_ret
      refine ⟨of_int ?_, hw1.out⟩
      have := hno.out
      rw [hf.out, ← this, HN.out, valsErr_end]
open Go.RowKit
def indexI (l : List Sg) (code : ByteArray) : Int := match l.findIdx? (fun s => strEq s.code code) with
  | some i => (i : Int)
  | none => -1
theorem indexI_at (l : List Sg) (code : ByteArray) (k : Nat) (s : Sg) (h : l[k]? = some s) (hs : strEq s.code code = true) (hno : (l.take k).any (fun s => strEq s.code code) = false) : indexI l code = k := by
  have : l.findIdx? (fun s => strEq s.code code) = some k := by
    rw [List.findIdx?_eq_some_iff_getElem]
    obtain ⟨hk, rfl⟩ := List.getElem?_eq_some_iff.1 h
    refine ⟨hk, hs, fun j hj => ?_⟩
    have := List.any_eq_false.1 hno (l[j]'(by omega)) (List.mem_take_iff_getElem.2 ⟨j, by omega, rfl⟩)
    simpa using this
  simp [indexI, this]
theorem indexI_none (l : List Sg) (code : ByteArray) (hno : l.any (fun s => strEq s.code code) = false) : indexI l code = -1 := by
  have : l.findIdx? (fun s => strEq s.code code) = none := by
    rw [List.findIdx?_eq_none_iff]
    intro x hx
    simpa using List.any_eq_false.1 hno x hx
  simp [indexI, this]
set_option maxHeartbeats 1600000 in
theorem index_any (l : Lm) (code : ByteArray) (w : World) (hl : LmOk w l) :
    Calls Tryz.prog 126 #[l.val, .string code] w fun e w' => e = .returned (.int .i64 (indexI l.signs code)) ∧ Below w.heap.size w w' := by
  have hs := hl.signs
  obtain ⟨per, ms, A, cap⟩ := l
  obtain ⟨-, hlen, hcap⟩ := hl
  dsimp only at hs hlen hcap
  unfold Lm.val Lm.signs
  dsimp only
  obtain ⟨n, hn⟩ : ∃ n, n = ms.length := ⟨_, rfl⟩
  rw [← hn] at hlen ⊢
  have hcap' := hcap
  unfold maxLen at hcap'
  have HN := Lib.hid hn
  clear hn
  go_enter Tryz.func126, Tryz.ntmps126
  go_wp2
  have HWb := Lib.hid (below_alloc w (.cells #[.int .i64 per, .slice A n cap] 24))
  go_loop [5] (fun i => ∃ k : Nat, k ≤ n ∧ i = .int .i64 k ∧ Hid (((ms.map (·.s)).take k).any (fun s => strEq s.code code) = false)) (fun i => n - (intOf i).toNat)
  case atStart => exact ⟨0, Nat.zero_le _, rfl, Lib.hid (by simp)⟩
  case round =>
    obtain ⟨k, hk, rfl, hno⟩ := hrel
    by_cases hlt : k < n
    · have hget : ms[k]? = some (ms[k]'(by have := HN.out; omega)) := List.getElem?_eq_getElem _
      obtain ⟨u, hu⟩ : ∃ u, u = ms[k]'(by have := HN.out; omega) := ⟨_, rfl⟩
      rw [← hu] at hget
      obtain ⟨b, o, hA, hb1, hva, -⟩ := hs k u hget
      subst hA
      obtain ⟨y0, -, -, -, -⟩ := hva
      have GET := Lib.hid (show (ms.map (·.s))[k]? = some u.s by rw [List.getElem?_map, hget]; rfl)
      clear hu hget hs
      by_cases hc : (u.s.code.toList == code.toList) = true
      · have hfin := Lib.hid (indexI_at _ code k u.s GET.out hc hno.out)
        go_wp2
        go_ret
        exact ⟨of_int hfin.out.symm, HWb.out⟩
      · have hc : (u.s.code.toList == code.toList) = false := by simpa using hc
        have hstep := Lib.hid (any_step (fun s : Sg => strEq s.code code) _ k u.s GET.out hno.out hc)
        go_wp2
        go_round
        case rel => exact ⟨k + 1, by omega, by go_num, hstep⟩
        case measure => simp [intOf]; omega
    · obtain rfl : k = n := by omega
      have hfin := Lib.hid (show indexI (ms.map (·.s)) code = -1 from indexI_none _ _ (by have := hno.out; rw [HN.out, ← List.length_map (f := (·.s)), List.take_length] at this; exact this))
      go_wp2
      go_ret
      exact ⟨of_int hfin.out.symm, HWb.out⟩
open Go.RowKit
theorem strEq_refl (a : ByteArray) : strEq a a = true := by simp [strEq]
theorem indexI_lt (l : List Sg) (k : Nat) (s : Sg) (h : l[k]? = some s) : decide (indexI l s.code < (k : Int)) = (l.take k).any (fun d => strEq d.code s.code) := by
  obtain ⟨hk, rfl⟩ := List.getElem?_eq_some_iff.1 h
  cases hf : l.findIdx? (fun d => strEq d.code l[k].code) with
  | none =>
    rw [List.findIdx?_eq_none_iff] at hf
    have := hf l[k] (List.getElem_mem hk)
    rw [strEq_refl] at this; cases this
  | some i =>
    rw [List.findIdx?_eq_some_iff_getElem] at hf
    obtain ⟨hi, hp, hlt⟩ := hf
    have hI : indexI l l[k].code = i := indexI_at l _ i l[i] (List.getElem?_eq_getElem hi) hp (by
      rw [List.any_eq_false]
      intro x hx
      obtain ⟨j, hj, rfl⟩ := List.mem_take_iff_getElem.1 hx
      simpa using hlt j (by omega))
    have hik : i ≤ k := by
      rcases Nat.lt_or_ge k i with h1 | h1
      · have := hlt k h1; rw [strEq_refl] at this; simp at this
      · exact h1
    rw [hI]
    rcases Nat.lt_or_ge i k with h1 | h1
    · rw [decide_eq_true (by omega)]
      symm
      rw [List.any_eq_true]
      exact ⟨l[i], List.mem_take_iff_getElem.2 ⟨i, by omega, rfl⟩, hp⟩
    · rw [decide_eq_false (by omega)]
      symm
      rw [List.any_eq_false]
      intro x hx
      obtain ⟨j, hj, rfl⟩ := List.mem_take_iff_getElem.1 hx
      simpa using hlt j (by omega)
theorem index_is (l : Lm) (code : ByteArray) (w : World) (hl : LmOk w l) (i : Int) (h : indexI l.signs code = i) :
    Calls Tryz.prog 126 #[l.val, .string code] w fun e w' => e = .returned (.int .i64 i) ∧ Below w.heap.size w w' := by
  rw [← h]; exact index_any l code w hl
theorem rcode_is (s : ByteArray) (w : World) (hs : s.size ≤ maxLen) (r : Bool) (h : codeB s = r) : Calls Tryz.prog 125 #[.string s] w fun e w' => e = .returned (.bool r) ∧ w = w' := by
  rw [← h]; exact rcode_any s w hs
theorem rsign_is (m : Sm) (p : Int) (w : World) (hm : SmOk w m) (i : Int) (h : signErr m.s p = i) :
    Calls Tryz.prog 127 #[m.val, .int .i64 p] w fun e w' => e = .returned (.int .i64 i) ∧ Below w.heap.size w w' := by
  rw [← h]; exact rsign_any m p w hm
set_option maxHeartbeats 1600000 in
theorem rcheck_any (l : Lm) (w : World) (hl : LmOk w l) :
    Calls Tryz.prog 73 #[l.val] w fun e w' => e = .returned (.int .i64 (checkErr l.li)) ∧ Below w.heap.size w w' := by
  have hs := hl.signs
  have hl0 := Lib.hid hl
  obtain ⟨L, hL⟩ : ∃ L, L = l := ⟨_, rfl⟩
  rw [← hL] at hl0
  have HL := Lib.hid hL
  clear hL
  obtain ⟨per, ms, A, cap⟩ := l
  obtain ⟨-, hlen, hcap⟩ := hl
  dsimp only at hs hlen hcap
  unfold Lm.val Lm.li Lm.signs
  dsimp only
  obtain ⟨n, hn⟩ : ∃ n, n = ms.length := ⟨_, rfl⟩
  rw [← hn] at hlen ⊢
  have hcap' := hcap
  unfold maxLen at hcap'
  have HN := Lib.hid hn
  have HNL := Lib.hid (show (ms.map (·.s)).length = n by rw [List.length_map]; exact hn.symm)
  clear hn
  by_cases h1 : n ≤ 200
  case neg =>
    have hf := Lib.hid (show checkErr ⟨per, ms.map (·.s)⟩ = 2 by unfold checkErr; rw [if_pos (by dsimp only; rw [HNL.out]; omega)])
    go_enter Tryz.func73, Tryz.ntmps73
    go_wp2
    go_ret
    exact ⟨of_int hf.out.symm, below_alloc _ _⟩
  have hg := Lib.hid (show ¬ 200 < (ms.map (·.s)).length by rw [HNL.out]; omega)
  have hp := Lib.hid (show withinB per 9 = (decide (1 ≤ per) && decide (per ≤ 9)) from rfl)
  by_cases h2 : 1 ≤ per
  case neg =>
    have hf := Lib.hid (show checkErr ⟨per, ms.map (·.s)⟩ = 13 by unfold checkErr; rw [if_neg hg.out, if_pos (by rw [hp.out]; simp [h2])])
    go_enter Tryz.func73, Tryz.ntmps73
    go_wp2
    go_ret
    exact ⟨of_int hf.out.symm, below_alloc _ _⟩
  by_cases h3 : per ≤ 9
  case neg =>
    have hf := Lib.hid (show checkErr ⟨per, ms.map (·.s)⟩ = 13 by unfold checkErr; rw [if_neg hg.out, if_pos (by rw [hp.out]; simp [h3])])
    go_enter Tryz.func73, Tryz.ntmps73
    go_wp2
    go_ret
    exact ⟨of_int hf.out.symm, below_alloc _ _⟩
  have hf := Lib.hid (show checkErr ⟨per, ms.map (·.s)⟩ = signsErr per [] (ms.map (·.s)) by unfold checkErr; rw [if_neg hg.out, if_neg (by rw [hp.out]; simp [h2, h3])])
  have c0 := Lib.hid (show (w.alloc (.cells #[.int .i64 per, .slice A n cap] 24)).cell? ⟨w.heap.size, 0, none⟩ = some (.int .i64 per) by simp [go_sem])
  have c1 := Lib.hid (show (w.alloc (.cells #[.int .i64 per, .slice A n cap] 24)).cell? ⟨w.heap.size, 1, none⟩ = some (.slice A n cap) by simp [go_sem])
  go_enter Tryz.func73, Tryz.ntmps73
  go_wp2
  clear h2 h3
  obtain ⟨W, hW⟩ : ∃ W, W = w.alloc (.cells #[.int .i64 per, .slice A n cap] 24) := ⟨_, rfl⟩
  have HWs := Lib.hid (show W.heap.size = w.heap.size + 1 by rw [hW]; simp)
  have HWb := Lib.hid (show Below w.heap.size w W by rw [hW]; exact below_alloc _ _)
  rw [← hW] at c0 c1
  rw [← hW]
  clear hW
  go_loopw [3] (fun i wr => ∃ k : Nat, k ≤ n ∧ i = .int .i64 k ∧ Hid (Below W.heap.size W wr) ∧ Hid (signsErr per ((ms.map (·.s)).take k) ((ms.map (·.s)).drop k) = signsErr per [] (ms.map (·.s)))) (fun i _ => n - (intOf i).toNat)
  case atStart => exact ⟨0, Nat.zero_le _, rfl, Lib.hid (Below.refl _ _), Lib.hid (by simp)⟩
  case round =>
    obtain ⟨k, hk, rfl, hb, hno⟩ := hrel
    have hsz : w.heap.size < wr.heap.size := by have := hb.out.size; have := HWs.out; omega
    have hw1 := Lib.hid (below_more HWb.out hb.out)
    have x0 := (hb.out.cell (p := ⟨w.heap.size, 0, none⟩) (by have := HWs.out; dsimp only; omega)).trans c0.out
    have x1 := (hb.out.cell (p := ⟨w.heap.size, 1, none⟩) (by have := HWs.out; dsimp only; omega)).trans c1.out
    by_cases hlt : k < n
    · have hget : ms[k]? = some (ms[k]'(by have := HN.out; omega)) := List.getElem?_eq_getElem _
      obtain ⟨u, hu⟩ : ∃ u, u = ms[k]'(by have := HN.out; omega) := ⟨_, rfl⟩
      rw [← hu] at hget
      obtain ⟨b, o, hA, hb1, hva, hok⟩ := hs k u hget
      have hLr := Lib.hid (hl0.out.below hw1.out)
      have hokr := Lib.hid (hok.below hw1.out)
      subst hA
      obtain ⟨y0, y1, y2, y3, y4⟩ := hva.below hw1.out hb1
      have hcsz := Lib.hid hok.code
      have GET := Lib.hid (show (ms.map (·.s))[k]? = some u.s by rw [List.getElem?_map, hget]; rfl)
      have hsb : b < wr.heap.size := by omega
      clear hu hget hva hs hok hb1
      have hI := Lib.hid (indexI_lt _ k u.s GET.out)
      have HLv := Lib.hid (show L.val = .agg #[.int .i64 per, .slice (some ⟨b, o, none⟩) n cap] by rw [HL.out]; unfold Lm.val; dsimp only; rw [HN.out])
      have HLs := Lib.hid (show L.signs = ms.map (·.s) by rw [HL.out]; rfl)
      have hix (W' : World) (h : LmOk W' L) (i : Int) (he : indexI (ms.map (·.s)) u.s.code = i) : Calls Tryz.prog 126 #[.agg #[.int .i64 per, .slice (some ⟨b, o, none⟩) n cap], .string u.s.code] W' fun e w' => e = .returned (.int .i64 i) ∧ Below W'.heap.size W' w' := by
        rw [← HLv.out]; exact index_is L _ W' h i (by rw [HLs.out]; exact he)
      have HIX := Lib.hid hix
      clear hix
      by_cases hcode : codeB u.s.code = true
      case neg =>
        have hcode : codeB u.s.code = false := by simpa using hcode
        have hfin := Lib.hid (signsErr_code per _ k u.s GET.out (by rw [hcode]; rfl))
        go_wp2
        refine wp_region_later (by kernel_rfl) (by kernel_rfl) ?_; (repeat (first | go_big_quiet_step ((first | ((go_at_call 125; exact Calls.later_same _ (rcode_is _ _ hcsz.out false hcode))) | ((go_at_call 126; exact Calls.later _ (HIX.out _ (hLr.out.below s.below) _ rfl))))) | quiet_step ((first | ((go_at_call 125; exact Calls.later_same _ (rcode_is _ _ hcsz.out false hcode))) | ((go_at_call 126; exact Calls.later _ (HIX.out _ (hLr.out.below s.below) _ rfl))))))); refine wpQuiet_nil ?_; rintro _ ⟨s, rfl⟩
        go_wp2
        go_ret
        exact ⟨of_int (by rw [hf.out, ← hno.out, hfin.out]), below_more hw1.out s.below⟩
      obtain ⟨I, hIe⟩ : ∃ I, I = indexI (ms.map (·.s)) u.s.code := ⟨_, rfl⟩
      have HIe := Lib.hid hIe.symm
      rw [← hIe] at hI
      clear hIe
      by_cases hdup : I < (k : Int)
      · have hfin := Lib.hid (signsErr_code per _ k u.s GET.out (by rw [← hI.out]; simp [hdup]))
        go_wp2
        refine wp_region_later (by kernel_rfl) (by kernel_rfl) ?_; (repeat (first | go_big_quiet_step ((first | ((go_at_call 125; exact Calls.later_same _ (rcode_is _ _ hcsz.out true hcode))) | ((go_at_call 126; exact Calls.later _ (HIX.out _ (hLr.out.below (Later.below _)) I HIe.out))))) | quiet_step ((first | ((go_at_call 125; exact Calls.later_same _ (rcode_is _ _ hcsz.out true hcode))) | ((go_at_call 126; exact Calls.later _ (HIX.out _ (hLr.out.below (Later.below _)) I HIe.out))))))); refine wpQuiet_nil ?_; rintro _ ⟨s, rfl⟩
        go_wp2
        go_ret
        exact ⟨of_int (by rw [hf.out, ← hno.out, hfin.out]), below_more hw1.out s.below⟩
      · have hok2 := Lib.hid (show (codeB u.s.code && !((ms.map (·.s)).take k).any fun d => strEq d.code u.s.code) = true by rw [← hI.out, hcode]; simp [hdup])
        by_cases hse : signErr u.s per = 0
        · have hfin := Lib.hid (signsErr_step per _ k u.s GET.out hok2.out hse)
          go_wp2
          refine wp_region_later (by kernel_rfl) (by kernel_rfl) ?_; (repeat (first | go_big_quiet_step ((first | ((go_at_call 125; exact Calls.later_same _ (rcode_is _ _ hcsz.out true hcode))) | ((go_at_call 126; exact Calls.later _ (HIX.out _ (hLr.out.below (Later.below _)) I HIe.out))))) | quiet_step ((first | ((go_at_call 125; exact Calls.later_same _ (rcode_is _ _ hcsz.out true hcode))) | ((go_at_call 126; exact Calls.later _ (HIX.out _ (hLr.out.below (Later.below _)) I HIe.out))))))); refine wpQuiet_nil ?_; rintro _ ⟨s, rfl⟩
          go_wp2
          obtain ⟨s1, rfl⟩ : ∃ s1, s1 = s := ⟨_, rfl⟩
          have hs2 := s1.below.size
          have e1 : b < s1.w.heap.size := by omega
          have e2 : w.heap.size < s1.w.heap.size := by omega
          refine wp_region_later (by kernel_rfl) (by kernel_rfl) ?_; (repeat (first | go_big_quiet_step (((go_at_call 127; exact Calls.later _ (rsign_is u per _ ((hokr.out.below s1.below).below (Later.below _)) 0 hse)))) | quiet_step (((go_at_call 127; exact Calls.later _ (rsign_is u per _ ((hokr.out.below s1.below).below (Later.below _)) 0 hse)))))); refine wpQuiet_nil ?_; rintro _ ⟨s, rfl⟩
          go_wp2
          go_roundw
          case rel => exact ⟨k + 1, by omega, by go_num, Lib.hid (hb.out.trans ((below_more s1.below s.below).mono hb.out.size)), Lib.hid (by rw [← hfin.out]; exact hno.out)⟩
          case measure => simp [intOf]; omega
        · have hfin := Lib.hid (signsErr_stop per _ k u.s GET.out hok2.out hse)
          obtain ⟨E, hE⟩ : ∃ E, E = signErr u.s per := ⟨_, rfl⟩
          have HE := Lib.hid hE.symm
          have hse' : (E != 0) = true := by rw [hE]; simpa using hse
          clear hE hse
          go_wp2
          refine wp_region_later (by kernel_rfl) (by kernel_rfl) ?_; (repeat (first | go_big_quiet_step ((first | ((go_at_call 125; exact Calls.later_same _ (rcode_is _ _ hcsz.out true hcode))) | ((go_at_call 126; exact Calls.later _ (HIX.out _ (hLr.out.below (Later.below _)) I HIe.out))))) | quiet_step ((first | ((go_at_call 125; exact Calls.later_same _ (rcode_is _ _ hcsz.out true hcode))) | ((go_at_call 126; exact Calls.later _ (HIX.out _ (hLr.out.below (Later.below _)) I HIe.out))))))); refine wpQuiet_nil ?_; rintro _ ⟨s, rfl⟩
          go_wp2
          obtain ⟨s1, rfl⟩ : ∃ s1, s1 = s := ⟨_, rfl⟩
          have hs2 := s1.below.size
          have e1 : b < s1.w.heap.size := by omega
          have e2 : w.heap.size < s1.w.heap.size := by omega
          refine wp_region_later (by kernel_rfl) (by kernel_rfl) ?_; (repeat (first | go_big_quiet_step (((go_at_call 127; exact Calls.later _ (rsign_is u per _ ((hokr.out.below s1.below).below (Later.below _)) E HE.out)))) | quiet_step (((go_at_call 127; exact Calls.later _ (rsign_is u per _ ((hokr.out.below s1.below).below (Later.below _)) E HE.out)))))); refine wpQuiet_nil ?_; rintro _ ⟨s, rfl⟩
          go_wp2
          go_ret
          exact ⟨of_int (by rw [hf.out, ← hno.out, hfin.out, HE.out]), below_more hw1.out (below_more s1.below s.below)⟩
    · obtain rfl : k = n := by omega
      go_wp2
      go_ret
      refine ⟨of_int ?_, hw1.out⟩
      have := hno.out
      rw [hf.out, ← this, ← HNL.out, signsErr_end]
end Go.Proofs.YtmiokllpdmmfhaaGreat
