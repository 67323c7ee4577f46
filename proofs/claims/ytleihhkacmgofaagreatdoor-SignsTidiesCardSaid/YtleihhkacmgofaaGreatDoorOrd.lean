/-
  Contracts of the order of values (order), in the program, and of what it calls.
-/
import Derived.Test.YtleihhkacmgofaaGreatDoorCopy
import Derived.Test.YtleihhkacmgofaaGreatDoorTidQ
import Derived.Sort.Statements
namespace Go.Proofs.YtleihhkacmgofaaGreatDoor
open Go.RowKit

/-- three ways to compare two numbers, two strings -/
def cmpI (a b : Int) : Int := if a < b then -1 else if b < a then 1 else 0
def cmpB (a b : ByteArray) : Int := if bl a.toList b.toList then -1 else if a.toList = b.toList then 0 else 1

theorem nanI_any (n : Int) (w : World) : Calls Tryz.prog 91 #[.int .i64 n] w fun e w' => e = .returned (.bool false) ∧ w = w' := by
  go_enter Tryz.func91, Tryz.ntmps91
  go_wp2
  go_ret
  exact ⟨of_bool (by simp), rfl⟩
theorem nanS_any (s : ByteArray) (w : World) : Calls Tryz.prog 92 #[.string s] w fun e w' => e = .returned (.bool false) ∧ w = w' := by
  go_enter Tryz.func92, Tryz.ntmps92
  go_wp2
  go_ret
  exact ⟨of_bool (by simp), rfl⟩

theorem cmpI_any (a b : Int) (w : World) : Calls Tryz.prog 64 #[.int .i64 a, .int .i64 b] w fun e w' => e = .returned (.int .i64 (cmpI a b)) ∧ w = w' := by
  rcases Int.lt_trichotomy a b with h | h | h
  · have HF := Lib.hid (show cmpI a b = -1 by unfold cmpI; rw [if_pos h])
    go_enter Tryz.func64, Tryz.ntmps64
    go_wp2_with (first | (go_at_call 91; refine (nanI_any _ _).mono ?_; rintro e w' ⟨rfl, rfl⟩))
    go_ret
    exact ⟨of_int HF.out.symm, rfl⟩
  · subst h
    have HF := Lib.hid (show cmpI a a = 0 by unfold cmpI; simp)
    go_enter Tryz.func64, Tryz.ntmps64
    go_wp2_with (first | (go_at_call 91; refine (nanI_any _ _).mono ?_; rintro e w' ⟨rfl, rfl⟩))
    go_ret
    exact ⟨of_int HF.out.symm, rfl⟩
  · have HF := Lib.hid (show cmpI a b = 1 by unfold cmpI; rw [if_neg (by omega), if_pos h])
    go_enter Tryz.func64, Tryz.ntmps64
    go_wp2_with (first | (go_at_call 91; refine (nanI_any _ _).mono ?_; rintro e w' ⟨rfl, rfl⟩))
    go_ret
    exact ⟨of_int HF.out.symm, rfl⟩

theorem cmpB_any (a b : ByteArray) (w : World) : Calls Tryz.prog 65 #[.string a, .string b] w fun e w' => e = .returned (.int .i64 (cmpB a b)) ∧ w = w' := by
  by_cases h1 : Op.bytesLess a.toList b.toList = true
  · have HF := Lib.hid (show cmpB a b = -1 by unfold cmpB bl; rw [if_pos h1])
    go_enter Tryz.func65, Tryz.ntmps65
    go_wp2_with (first | (go_at_call 92; refine (nanS_any _ _).mono ?_; rintro e w' ⟨rfl, rfl⟩))
    go_ret
    exact ⟨of_int HF.out.symm, rfl⟩
  · have h1 : Op.bytesLess a.toList b.toList = false := by simpa using h1
    by_cases h2 : (a.toList == b.toList) = true
    · have HF := Lib.hid (show cmpB a b = 0 by unfold cmpB bl; rw [if_neg (by rw [h1]; simp), if_pos (by simpa using h2)])
      go_enter Tryz.func65, Tryz.ntmps65
      go_wp2_with (first | (go_at_call 92; refine (nanS_any _ _).mono ?_; rintro e w' ⟨rfl, rfl⟩))
      go_ret
      exact ⟨of_int HF.out.symm, rfl⟩
    · have h2 : (a.toList == b.toList) = false := by simpa using h2
      have HF := Lib.hid (show cmpB a b = 1 by unfold cmpB bl; rw [if_neg (by rw [h1]; simp), if_neg (by simpa using h2)])
      go_enter Tryz.func65, Tryz.ntmps65
      go_wp2_with (first | (go_at_call 92; refine (nanS_any _ _).mono ?_; rintro e w' ⟨rfl, rfl⟩))
      go_ret
      exact ⟨of_int HF.out.symm, rfl⟩

def orderV (a b : Va) : Int := if a.kind = b.kind then (if txt a = txt b then cmpI a.fr b.fr else cmpB a.text b.text) else cmpI a.kind b.kind
theorem orderV_lt (a b : Va) : decide (orderV a b < 0) = vlt a b := by
  unfold orderV vlt cmpI cmpB
  by_cases hk : a.kind = b.kind
  · by_cases ht : txt a = txt b
    · simp only [hk, ht, if_true]
      by_cases h1 : a.fr < b.fr
      · simp [h1]
      · by_cases h2 : b.fr < a.fr <;> simp [h1, h2]
    · have ht' : ¬ a.text.toList = b.text.toList := ht
      simp only [hk, ht, ht', if_true, if_false]
      unfold txt
      cases bl a.text.toList b.text.toList <;> simp
  · simp only [hk, if_false]
    by_cases h1 : a.kind < b.kind
    · simp [h1]
    · by_cases h2 : b.kind < a.kind <;> simp [h1, h2]

set_option maxHeartbeats 800000 in
theorem order_any (a b : Va) (w : World) : Calls Tryz.prog 44 #[a.val, b.val] w fun e w' => e = .returned (.int .i64 (orderV a b)) ∧ w' = (w.alloc (.cells #[.int .i64 a.kind, .string a.text, .int .i64 a.fr, .int .i64 a.to] 42)).alloc (.cells #[.int .i64 b.kind, .string b.text, .int .i64 b.fr, .int .i64 b.to] 42) := by
  obtain ⟨k, t, f, to⟩ := a
  obtain ⟨k2, t2, f2, to2⟩ := b
  unfold Va.val
  dsimp only
  by_cases hk : k = k2
  · subst hk
    have hk' : (k != k) = false := by simp
    by_cases ht : (t.toList == t2.toList) = true
    · have HF := Lib.hid (show orderV ⟨k, t, f, to⟩ ⟨k, t2, f2, to2⟩ = cmpI f f2 by unfold orderV txt; rw [if_pos rfl, if_pos (by simpa using ht)])
      go_enter Tryz.func44, Tryz.ntmps44
      go_wp2_with (first | (go_at_call 64; refine (cmpI_any _ _ _).mono ?_; rintro e w' ⟨rfl, rfl⟩))
      go_ret
      exact ⟨of_int HF.out.symm, rfl⟩
    · have ht : (t.toList == t2.toList) = false := by simpa using ht
      have HF := Lib.hid (show orderV ⟨k, t, f, to⟩ ⟨k, t2, f2, to2⟩ = cmpB t t2 by unfold orderV txt; rw [if_pos rfl, if_neg (by simpa using ht)])
      go_enter Tryz.func44, Tryz.ntmps44
      go_wp2_with (first | (go_at_call 65; refine (cmpB_any _ _ _).mono ?_; rintro e w' ⟨rfl, rfl⟩))
      go_ret
      exact ⟨of_int HF.out.symm, rfl⟩
  · have HF := Lib.hid (show orderV ⟨k, t, f, to⟩ ⟨k2, t2, f2, to2⟩ = cmpI k k2 by unfold orderV; rw [if_neg (show ¬ k = k2 from hk)])
    have hk' : (k != k2) = true := by simpa using hk
    clear hk
    go_enter Tryz.func44, Tryz.ntmps44
    go_wp2_with (first | (go_at_call 64; refine (cmpI_any _ _ _).mono ?_; rintro e w' ⟨rfl, rfl⟩))
    go_ret
    exact ⟨of_int HF.out.symm, rfl⟩

/-- one value is not behind another one -/
def nbh (a b : Va) : Prop := mlt a b = true ∨ (meq a b = true ∧ a.fr ≤ b.fr)
theorem nbh_trans {a b c : Va} (h1 : nbh a b) (h2 : nbh b c) : nbh a c := by
  rcases h1 with h1 | ⟨e1, h1⟩ <;> rcases h2 with h2 | ⟨e2, h2⟩
  · exact .inl (mlt_trans h1 h2)
  · exact .inl ((mlt_meq e2).2.symm.trans h1)
  · exact .inl ((mlt_meq e1).1.trans h2)
  · exact .inr ⟨meq_trans e1 e2, by omega⟩
theorem nbh_not {a b : Va} (h : nbh a b) : vlt b a = false := by
  cases hv : vlt b a
  · rfl
  · exfalso
    rw [vlt_iff] at hv
    rcases h with h | ⟨e, h⟩ <;> rcases hv with hv | ⟨e2, hv⟩
    · rw [mlt_asym h] at hv; cases hv
    · rw [← (mlt_meq e2).1, mlt_irr] at h; cases h
    · rw [← (mlt_meq e).1, mlt_irr] at hv; cases hv
    · omega

theorem order_swo : Go.Sort.SWO (fun x y => decide (orderV x y < 0)) where
  irrefl x := by rw [orderV_lt]; exact vlt_irr x
  trans x y z h1 h2 := by rw [orderV_lt] at *; exact vlt_trans h1 h2
  ntrans x y z h1 h2 := by
    rw [orderV_lt] at *
    exact nbh_not (nbh_trans (not_vlt h2) (not_vlt h1))

end Go.Proofs.YtleihhkacmgofaaGreatDoor
