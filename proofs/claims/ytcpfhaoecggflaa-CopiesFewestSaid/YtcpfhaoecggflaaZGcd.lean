/-
  The greatest common divisor of two numbers, on both sides (layer 9).
-/
import Derived.Test.YtcpfhaoecggflaaZKit
import Derived.RegionTactic
import Derived.ChangeAlike
import Derived.IntWalk
namespace Go.Proofs.Ytcpfhaoecggflaa
open Go.RowKit

set_option maxHeartbeats 1600000 in
theorem divisor_any (a b : Nat) (w : World) (ha : a ≤ 2000000000000000000) (hb : b ≤ 2000000000000000000) : Calls Try.prog 66 #[.int .i64 a, .int .i64 b] w fun e w' => e = .returned (.int .i64 (Nat.gcd a b : Nat)) ∧ Below w.heap.size w w' := by
  go_enter Try.func66, Try.ntmps66
  go_wp2
  go_loopw [0, 1] (fun x y wr => ∃ p q : Nat, x = .int .i64 p ∧ y = .int .i64 q ∧ p ≤ 2000000000000000000 ∧ q ≤ 2000000000000000000 ∧ Hid (Nat.gcd p q = Nat.gcd a b) ∧ Hid (Below w.heap.size w wr)) (fun _ y _ => (intOf y).toNat)
  case atStart => exact ⟨a, b, rfl, rfl, ha, hb, Lib.hid rfl, Lib.hid (Below.refl _ _)⟩
  case round =>
    obtain ⟨p, q, rfl, rfl, hp, hq, hg, hbw⟩ := hrel
    by_cases h : q = 0
    · subst h
      have hn : (((0 : Nat) : Int) != 0) = false := by decide
      go_wp2
      go_ret
      exact ⟨of_int (by rw [← hg.out, Nat.gcd_zero_right]), hbw.out⟩
    · have hn : ((q : Int) != 0) = true := by simp; omega
      have hn2 : ((q : Int) == 0) = false := by simp; omega
      have hn3 : ¬ (q : Int) = 0 := by omega
      have hlt : p % q < q := Nat.mod_lt _ (by omega)
      have hg2 := Lib.hid (show Nat.gcd q (p % q) = Nat.gcd a b by rw [← hg.out, Nat.gcd_comm p q, Nat.gcd_rec q p, Nat.gcd_comm])
      have ht : (p : Int).tmod q = ((p % q : Nat) : Int) := by rw [Int.tmod_eq_emod_of_nonneg (by omega)]; exact (Int.natCast_emod p q).symm
      go_wp2
      go_region
      go_wp2
      go_roundw
      case rel => exact ⟨q, p % q, rfl, by first | rw [ht] | simp, by omega, by omega, hg2, Lib.hid (below_more hbw.out (below_drew _))⟩
      case measure => simp [intOf]; omega

set_option maxHeartbeats 1600000 in
theorem rgcd_any (a b : Nat) (w : World) (ha : a ≤ 2000000000000000000) (hb : b ≤ 2000000000000000000) : Calls Try.prog 69 #[.int .i64 a, .int .i64 b] w fun e w' => e = .returned (.int .i64 (Nat.gcd a b : Nat)) ∧ Below w.heap.size w w' := by
  go_enter Try.func69, Try.ntmps69
  go_wp2
  go_loopw [0, 1] (fun x y wr => ∃ p q : Nat, x = .int .i64 p ∧ y = .int .i64 q ∧ p ≤ 2000000000000000000 ∧ q ≤ 2000000000000000000 ∧ Hid (Nat.gcd p q = Nat.gcd a b) ∧ Hid (Below w.heap.size w wr)) (fun x _ _ => (intOf x).toNat)
  case atStart => exact ⟨a, b, rfl, rfl, ha, hb, Lib.hid rfl, Lib.hid (Below.refl _ _)⟩
  case round =>
    obtain ⟨p, q, rfl, rfl, hp, hq, hg, hbw⟩ := hrel
    by_cases h : p = 0
    · subst h
      have hn : decide ((0 : Int) < ((0 : Nat) : Int)) = false := by decide
      go_wp2
      go_ret
      exact ⟨of_int (by rw [← hg.out, Nat.gcd_zero_left]), hbw.out⟩
    · have hn : 0 < p := by omega
      have hn2 : ((p : Int) == 0) = false := by simp; omega
      have hn3 : ¬ (p : Int) = 0 := by omega
      have hlt : q % p < p := Nat.mod_lt _ (by omega)
      have hg2 := Lib.hid (show Nat.gcd (q % p) p = Nat.gcd a b by rw [← hg.out, Nat.gcd_rec p q])
      have ht : (q : Int).tmod p = ((q % p : Nat) : Int) := by rw [Int.tmod_eq_emod_of_nonneg (by omega)]; exact (Int.natCast_emod q p).symm
      go_wp2
      go_roundw
      case rel => exact ⟨q % p, p, by first | rw [ht] | simp, rfl, by omega, by omega, hg2, Lib.hid hbw.out⟩
      case measure => simp [intOf]; omega

end Go.Proofs.Ytcpfhaoecggflaa
