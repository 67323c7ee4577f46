/-
  Contracts of collide, in the program and in the specification.
-/
import Derived.Test.YtbfedahonfjpfaaKit
import Derived.Laws.StructEq
namespace Go.Proofs.Ytbfedahonfjpfaa
open Go.RowKit

theorem eqMeaning (k k2 : Int) (t t2 : ByteArray) (w : World) : (binOp .eql 133 (.agg #[.int .i64 k, .string t]) (.agg #[.int .i64 k2, .string t2])).run Try.prog w = .ok (.bool (k == k2 && strEq t t2)) w := by
  rw [run_eql_struct]
  simp [go_sem]
  by_cases h1 : k = k2 <;> by_cases h2 : t.toList = t2.toList <;> simp [h1, h2, strEq]

theorem below1 {w : World} {o : Obj} (s : Later (w.alloc o)) : Below w.heap.size w s.w := ((Below.refl _ _).alloc (Nat.le_refl _) _).trans (s.below.mono (by simp))
theorem below2 {w : World} {o o' : Obj} (s : Later ((w.alloc o).alloc o')) : Below w.heap.size w s.w := (((Below.refl _ _).alloc (Nat.le_refl _) _).alloc (by simp) _).trans (s.below.mono (by simp; omega))

set_option maxHeartbeats 800000 in
theorem col_any (a b : Va) (w : World) : Calls Try.prog 117 #[a.val, b.val] w fun e w' => e = .returned (.bool (collideB a b)) ∧ Below w.heap.size w w' := by
  obtain ⟨k, t, f, to⟩ := a
  obtain ⟨k2, t2, f2, to2⟩ := b
  unfold Va.val
  dsimp only
  have he := fun w => eqMeaning k k2 t t2 w
  by_cases h1 : (k == k2 && strEq t t2) = true
  case neg =>
    have h1 : (k == k2 && strEq t t2) = false := by simpa using h1
    have hf := Lib.hid (show collideB ⟨k, t, f, to⟩ ⟨k2, t2, f2, to2⟩ = false by simp [collideB, h1])
    rw [h1] at he
    clear h1
    go_enter Try.func117, Try.ntmps117
    go_wp2
    refine wp_region_later (by kernel_rfl) (by kernel_rfl) ?_; (repeat (first | go_big_quiet_step (((go_at_call 121; exact Calls.later _ (meaning_any _ _ _ _ _)))) | quiet_step (((go_at_call 121; exact Calls.later _ (meaning_any _ _ _ _ _)))))); refine wpQuiet_nil ?_; rintro _ ⟨s, rfl⟩
    go_wp2
    go_ret
    exact ⟨of_bool (by rw [hf.out]), below2 s⟩
  rw [h1] at he
  by_cases h2 : decide (f ≤ to2) = true
  case neg =>
    have h2 : decide (f ≤ to2) = false := by simpa using h2
    have hf := Lib.hid (show collideB ⟨k, t, f, to⟩ ⟨k2, t2, f2, to2⟩ = false by simp [collideB, h1, h2])
    clear h1
    go_enter Try.func117, Try.ntmps117
    go_wp2
    refine wp_region_later (by kernel_rfl) (by kernel_rfl) ?_; (repeat (first | go_big_quiet_step (((go_at_call 121; exact Calls.later _ (meaning_any _ _ _ _ _)))) | quiet_step (((go_at_call 121; exact Calls.later _ (meaning_any _ _ _ _ _)))))); refine wpQuiet_nil ?_; rintro _ ⟨s, rfl⟩
    go_wp2
    go_ret
    exact ⟨of_bool (by rw [hf.out]), below2 s⟩
  have hf := Lib.hid (show collideB ⟨k, t, f, to⟩ ⟨k2, t2, f2, to2⟩ = decide (f2 ≤ to) by simp [collideB, h1, h2])
  clear h1
  go_enter Try.func117, Try.ntmps117
  go_wp2
  refine wp_region_later (by kernel_rfl) (by kernel_rfl) ?_; (repeat (first | go_big_quiet_step (((go_at_call 121; exact Calls.later _ (meaning_any _ _ _ _ _)))) | quiet_step (((go_at_call 121; exact Calls.later _ (meaning_any _ _ _ _ _)))))); refine wpQuiet_nil ?_; rintro _ ⟨s, rfl⟩
  go_wp2
  go_ret
  exact ⟨of_bool (by rw [hf.out]), below2 s⟩

set_option maxHeartbeats 800000 in
theorem rcol_any (a b : Va) (w : World) : Calls Try.prog 111 #[a.val, b.val] w fun e w' => e = .returned (.bool (collideB a b)) ∧ Below w.heap.size w w' := by
  obtain ⟨k, t, f, to⟩ := a
  obtain ⟨k2, t2, f2, to2⟩ := b
  unfold Va.val
  dsimp only
  by_cases h1 : (k == k2) = true
  case neg =>
    have h1 : (k == k2) = false := by simpa using h1
    have hf := Lib.hid (show collideB ⟨k, t, f, to⟩ ⟨k2, t2, f2, to2⟩ = false by simp [collideB, h1])
    go_enter Try.func111, Try.ntmps111
    go_wp2
    go_ret
    exact ⟨of_bool (by rw [hf.out]), (((Below.refl _ _).alloc (Nat.le_refl _) _).alloc (by simp) _)⟩
  by_cases h2 : (t.toList == t2.toList) = true
  case neg =>
    have h2 : (t.toList == t2.toList) = false := by simpa using h2
    have hf := Lib.hid (show collideB ⟨k, t, f, to⟩ ⟨k2, t2, f2, to2⟩ = false by simp [collideB, strEq, h2])
    go_enter Try.func111, Try.ntmps111
    go_wp2
    go_ret
    exact ⟨of_bool (by rw [hf.out]), (((Below.refl _ _).alloc (Nat.le_refl _) _).alloc (by simp) _)⟩
  by_cases h3 : f ≤ to2
  case neg =>
    have hf := Lib.hid (show collideB ⟨k, t, f, to⟩ ⟨k2, t2, f2, to2⟩ = false by simp [collideB]; omega)
    have h3 : to2 < f := by omega
    go_enter Try.func111, Try.ntmps111
    go_wp2
    go_ret
    exact ⟨of_bool (by rw [hf.out]), (((Below.refl _ _).alloc (Nat.le_refl _) _).alloc (by simp) _)⟩
  have hf := Lib.hid (show collideB ⟨k, t, f, to⟩ ⟨k2, t2, f2, to2⟩ = decide (f2 ≤ to) by simp [collideB, strEq, h1, h2, h3])
  go_enter Try.func111, Try.ntmps111
  go_wp2
  go_ret
  exact ⟨of_bool (by rw [hf.out]), (((Below.refl _ _).alloc (Nat.le_refl _) _).alloc (by simp) _)⟩
end Go.Proofs.Ytbfedahonfjpfaa
