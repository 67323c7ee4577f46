/-
  A fraction at most a limit, and valid limits, in the specification (layer 9).
-/
import Derived.Test.YtcpfhaoecggflaaZAm
namespace Go.Proofs.Ytcpfhaoecggflaa
open Go.RowKit

def limB (n d : Int) : Bool := decide (1 ≤ d) && decide (d ≤ 10000) && decide (0 ≤ n) && decide (n ≤ d)
set_option maxHeartbeats 800000 in
theorem limited_any (n d : Int) (w : World) : Calls Try.prog 71 #[.agg #[.int .i64 n, .int .i64 d]] w fun e w' => e = .returned (.bool (limB n d)) ∧ Below w.heap.size w w' := by
  by_cases h1 : 1 ≤ d
  case neg =>
    have hf := Lib.hid (show limB n d = false by simp [limB]; omega)
    go_enter Try.func71, Try.ntmps71
    go_wp2
    go_ret
    exact ⟨of_bool (by rw [hf.out]), below_alloc _ _⟩
  by_cases h2 : d ≤ 10000
  case neg =>
    have hf := Lib.hid (show limB n d = false by simp [limB]; omega)
    go_enter Try.func71, Try.ntmps71
    go_wp2
    go_ret
    exact ⟨of_bool (by rw [hf.out]), below_alloc _ _⟩
  by_cases h3 : 0 ≤ n
  case neg =>
    have hf := Lib.hid (show limB n d = false by simp [limB]; omega)
    go_enter Try.func71, Try.ntmps71
    go_wp2
    go_ret
    exact ⟨of_bool (by rw [hf.out]), below_alloc _ _⟩
  by_cases h4 : n ≤ d
  case neg =>
    have hf := Lib.hid (show limB n d = false by simp [limB]; omega)
    go_enter Try.func71, Try.ntmps71
    go_wp2
    go_ret
    exact ⟨of_bool (by rw [hf.out]), below_alloc _ _⟩
  have hf := Lib.hid (show limB n d = true by simp [limB]; omega)
  go_enter Try.func71, Try.ntmps71
  go_wp2
  go_ret
  exact ⟨of_bool (by rw [hf.out]), below_alloc _ _⟩

theorem am_bd (p s : Nat) (hp : p < 4611686018427387904) (hs : s ≤ 10000) : (0 ≤ (p : Int) / 1073741824 * s ∧ (p : Int) / 1073741824 * s ≤ 42949672960000) ∧ (0 ≤ (p : Int) % 1073741824 * s ∧ (p : Int) % 1073741824 * s ≤ 10737418240000) := by
  have h1 : (p : Int) / 1073741824 * s ≤ 4294967296 * 10000 := Int.mul_le_mul (by omega) (by omega) (by omega) (by omega)
  have h2 : (p : Int) % 1073741824 * s ≤ 1073741824 * 10000 := Int.mul_le_mul (by omega) (by omega) (by omega) (by omega)
  exact ⟨⟨Int.mul_nonneg (by omega) (by omega), by omega⟩, ⟨Int.mul_nonneg (by omega) (by omega), by omega⟩⟩

set_option maxRecDepth 100000 in
set_option maxHeartbeats 6400000 in
theorem ratMost_any (p q r s : Nat) (w : World) (hp : p < 4611686018427387904) (hq : q < 4611686018427387904) (hr : r ≤ 10000) (hs : s ≤ 10000) :
    Calls Try.prog 72 #[.agg #[.int .i64 p, .int .i64 q], .agg #[.int .i64 r, .int .i64 s]] w fun e w' => e = .returned (.bool (decide (p * s ≤ r * q))) ∧ Below w.heap.size w w' := by
  have b1 := am_bd p s hp hs
  have b2 := am_bd q r hq hr
  obtain ⟨P1, hP1⟩ : ∃ x, x = (p : Int) / 1073741824 * s := ⟨_, rfl⟩
  obtain ⟨R1, hR1⟩ : ∃ x, x = (p : Int) % 1073741824 * s := ⟨_, rfl⟩
  obtain ⟨P2, hP2⟩ : ∃ x, x = (q : Int) / 1073741824 * r := ⟨_, rfl⟩
  obtain ⟨R2, hR2⟩ : ∃ x, x = (q : Int) % 1073741824 * r := ⟨_, rfl⟩
  have HM1 := Lib.hid (show (P1 + R1 / 1073741824) * 1073741824 + R1 % 1073741824 = p * s by rw [hP1, hR1]; exact am_parts _ _)
  have HM2 := Lib.hid (show (P2 + R2 / 1073741824) * 1073741824 + R2 % 1073741824 = q * r by rw [hP2, hR2]; exact am_parts _ _)
  have HA := Lib.hid (am_lt HM1.out HM2.out (by omega) (by omega))
  obtain ⟨V, hV⟩ : ∃ V, V = decide (p * s ≤ r * q) := ⟨_, rfl⟩
  have HV : decide ((p : Int) * s ≤ q * r) = V := by
    rw [hV, Bool.eq_iff_iff]; simp only [decide_eq_true_eq]
    rw [← Int.natCast_mul, ← Int.natCast_mul, Nat.mul_comm r q]
    omega
  rw [HV] at HA
  rw [← hV]
  rw [← hP1, ← hR1] at b1
  rw [← hP2, ← hR2] at b2
  obtain ⟨⟨b10, b11⟩, b12, b13⟩ := b1
  obtain ⟨⟨b20, b21⟩, b22, b23⟩ := b2
  obtain ⟨x0, hx0⟩ : ∃ x, x = P1 + R1 / 1073741824 := ⟨_, rfl⟩
  obtain ⟨x1, hx1⟩ : ∃ x, x = R1 % 1073741824 := ⟨_, rfl⟩
  obtain ⟨y0, hy0⟩ : ∃ x, x = P2 + R2 / 1073741824 := ⟨_, rfl⟩
  obtain ⟨y1, hy1⟩ : ∃ x, x = R2 % 1073741824 := ⟨_, rfl⟩
  rw [← hx0, ← hx1, ← hy0, ← hy1] at HA
  have e1 := hP1.symm
  have e2 := hR1.symm
  have e3 := hP2.symm
  have e4 := hR2.symm
  have e5 := hx0.symm
  have e6 := hx1.symm
  have e7 := hy0.symm
  have e8 := hy1.symm
  have s1 := IntWalk.i64_in P1 (by omega)
  have s2 := IntWalk.i64_in R1 (by omega)
  have s3 := IntWalk.i64_in P2 (by omega)
  have s4 := IntWalk.i64_in R2 (by omega)
  have s5 := IntWalk.i64_in x0 (by omega)
  have s6 := IntWalk.i64_in y0 (by omega)
  clear hP1 hR1 hP2 hR2 hx0 hx1 hy0 hy1 HV hV
  go_enter Try.func72, Try.ntmps72
  go_wp2
  go_region
  go_wp2
  go_region
  go_wp2
  clear e1 e2 e3 e4 e5 e6 e7 e8 s1 s2 s3 s4 s5 s6
  by_cases h1 : x0 < y0
  · have f1 : decide (x0 < y0) = true := decide_eq_true h1
    have HV := Lib.hid (HA.out.1 h1)
    clear h1
    go_region
    go_wp2
    go_ret
    exact ⟨of_bool (by rw [HV.out]), (by repeat (first | exact Below.refl _ _ | refine Below.drew ?_ | refine Below.alloc ?_ (by simp <;> omega) _))⟩
  · have f1 : decide (x0 < y0) = false := decide_eq_false h1
    by_cases h2 : x0 = y0
    · have HV := Lib.hid (HA.out.2.2 h2)
      subst h2
      have f2 : (x0 == x0) = true := by simp
      by_cases h3 : x1 ≤ y1
      · have f3 : decide (x1 ≤ y1) = true := decide_eq_true h3
        have HV2 := Lib.hid (HV.out.trans f3)
        clear h1 h3
        go_region
        go_wp2
        go_ret
        exact ⟨of_bool (by rw [HV2.out]), (by repeat (first | exact Below.refl _ _ | refine Below.drew ?_ | refine Below.alloc ?_ (by simp <;> omega) _))⟩
      · have f3 : decide (x1 ≤ y1) = false := decide_eq_false h3
        have HV2 := Lib.hid (HV.out.trans f3)
        clear h1 h3
        go_region
        go_wp2
        go_ret
        exact ⟨of_bool (by rw [HV2.out]), (by repeat (first | exact Below.refl _ _ | refine Below.drew ?_ | refine Below.alloc ?_ (by simp <;> omega) _))⟩
    · have f2 : (x0 == y0) = false := beq_eq_false_iff_ne.2 h2
      have HV := Lib.hid (HA.out.2.1 (by omega) h2)
      clear h1 h2
      go_region
      go_wp2
      go_ret
      exact ⟨of_bool (by rw [HV.out]), (by repeat (first | exact Below.refl _ _ | refine Below.drew ?_ | refine Below.alloc ?_ (by simp <;> omega) _))⟩

end Go.Proofs.Ytcpfhaoecggflaa
