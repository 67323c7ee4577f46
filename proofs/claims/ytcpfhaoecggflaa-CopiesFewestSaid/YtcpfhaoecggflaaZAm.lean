/-
  A fraction at most a limit, in the program (by products of 128 bits) and in the specification (by parts); valid limits (layer 9).
-/
import Derived.Test.YtcpfhaoecggflaaZKit
import Derived.RegionTactic
import Derived.IntWalk
import Derived.Shelf.Bits.Mul64
import Derived.Laws.Bits64b
namespace Go.Proofs.Ytcpfhaoecggflaa
open Go.RowKit

/-- the two parts of a product, by a number's two parts -/
theorem am_parts (n D : Int) : (n / 1073741824 * D + (n % 1073741824 * D) / 1073741824) * 1073741824 + (n % 1073741824 * D) % 1073741824 = n * D := by
  have e : n * D = (n / 1073741824 * 1073741824 + n % 1073741824) * D := by rw [show n / 1073741824 * 1073741824 + n % 1073741824 = n by omega]
  have e2 : n / 1073741824 * 1073741824 * D = (n / 1073741824 * D) * 1073741824 := by rw [Int.mul_assoc, Int.mul_comm 1073741824 D, ← Int.mul_assoc]
  rw [e, Int.add_mul (n / 1073741824 * 1073741824) _ D, e2]
  generalize n / 1073741824 * D = P
  generalize n % 1073741824 * D = R
  omega
theorem am_lt {X Y x0 x1 y0 y1 : Int} (hx : x0 * 1073741824 + x1 = X) (hy : y0 * 1073741824 + y1 = Y) (h1 : 0 ≤ x1 ∧ x1 < 1073741824) (h2 : 0 ≤ y1 ∧ y1 < 1073741824) :
    (x0 < y0 → decide (X ≤ Y) = true) ∧ (¬ x0 < y0 → x0 ≠ y0 → decide (X ≤ Y) = false) ∧ (x0 = y0 → decide (X ≤ Y) = decide (x1 ≤ y1)) := by
  refine ⟨fun h => ?_, fun h g => ?_, fun h => ?_⟩
  · simp; omega
  · simp; omega
  · rw [Bool.eq_iff_iff]; simp; omega
theorem am_ltN (x y : Nat) :
    (x / 18446744073709551616 < y / 18446744073709551616 → decide (x ≤ y) = true) ∧ (¬ x / 18446744073709551616 < y / 18446744073709551616 → x / 18446744073709551616 ≠ y / 18446744073709551616 → decide (x ≤ y) = false) ∧ (x / 18446744073709551616 = y / 18446744073709551616 → decide (x ≤ y) = decide (x % 18446744073709551616 ≤ y % 18446744073709551616)) := by
  refine ⟨fun h => ?_, fun h g => ?_, fun h => ?_⟩
  · simp; omega
  · simp; omega
  · rw [Bool.eq_iff_iff]; simp; omega

set_option maxHeartbeats 1000000 in
theorem mul64_any (x y : Nat) (hx : x < 18446744073709551616) (hy : y < 18446744073709551616) (w : World) :
    Calls Try.prog 98 #[.int .u64 x, .int .u64 y] w fun e w' => e = .returned (.tuple #[.int .u64 ((x * y / 18446744073709551616 : Nat) : Int), .int .u64 ((x * y % 18446744073709551616 : Nat) : Int)]) ∧ w = w' := by
  obtain ⟨bd, bt, bw, hhi⟩ := Lib.mul64_hi x y hx hy
  have ba := Lib.half_mul_le (a := x / 4294967296) (b := y / 4294967296) (by omega) (by omega)
  have bb := Lib.half_mul_le (a := x / 4294967296) (b := y % 4294967296) (by omega) (by omega)
  have bc := Lib.half_mul_le (a := x % 4294967296) (b := y / 4294967296) (by omega) (by omega)
  have ba' : x / 4294967296 * (y / 4294967296) < 18446744073709551616 := by omega
  have bb' : x / 4294967296 * (y % 4294967296) < 18446744073709551616 := by omega
  have bc' : x % 4294967296 * (y / 4294967296) < 18446744073709551616 := by omega
  have bh1 : x / 4294967296 * (y / 4294967296) + (x / 4294967296 * (y % 4294967296) + x % 4294967296 * (y % 4294967296) / 4294967296) / 4294967296 < 18446744073709551616 := by omega
  have bh : x / 4294967296 * (y / 4294967296) + (x / 4294967296 * (y % 4294967296) + x % 4294967296 * (y % 4294967296) / 4294967296) / 4294967296 + ((x / 4294967296 * (y % 4294967296) + x % 4294967296 * (y % 4294967296) / 4294967296) % 4294967296 + x % 4294967296 * (y / 4294967296)) / 4294967296 < 18446744073709551616 := by omega
  go_enter Try.func98, Try.ntmps98
  go_wp2
  simp only [Mul64.maskN x hx, Mul64.maskN y hy, Mul64.divN, Mul64.mulN, Mul64.addN, Mul64.wrapN _ bd, Mul64.wrapN _ bb', Mul64.wrapN _ bt, Mul64.maskN _ bt, Mul64.wrapN _ bc', Mul64.wrapN _ bw, Mul64.wrapN _ ba', Mul64.wrapN _ bh1, Mul64.wrapN _ bh, Mul64.wrapM (x * y)]
  rw [hhi]
  go_ret2
  exact ⟨rfl, rfl⟩

set_option maxHeartbeats 1600000 in
theorem atMost_any (p q r s : Nat) (w : World) (hp : p < 4611686018427387904) (hq : q < 4611686018427387904) (hr : r < 4611686018427387904) (hs : s < 4611686018427387904) :
    Calls Try.prog 70 #[.agg #[.int .i64 p, .int .i64 q], .agg #[.int .i64 r, .int .i64 s]] w fun e w' => e = .returned (.bool (decide (p * s ≤ r * q))) ∧ Below w.heap.size w w' := by
  obtain ⟨W1, hW1⟩ : ∃ W', W' = w.alloc (.cells #[.int .i64 p, .int .i64 q] 53) := ⟨_, rfl⟩; obtain ⟨W, hW⟩ : ∃ W', W' = W1.alloc (.cells #[.int .i64 r, .int .i64 s] 53) := ⟨_, rfl⟩; have szW1 : W1.heap.size = w.heap.size + 1 := (by rw [hW1]; simp); have kbW1 : Below w.heap.size w W1 := hW1 ▸ below_alloc _ _; have szW : W.heap.size = w.heap.size + 1 + 1 := (by rw [hW]; simp [szW1]); have kbW : Below W1.heap.size W1 W := hW ▸ below_alloc _ _; have HB := Lib.hid (below_more kbW1 kbW); have D0 := Lib.hid (blk_keep kbW (show W1.heap[w.heap.size]? = some (.cells #[.int .i64 p, .int .i64 q] 53 (0, 0)) by rw [hW1]; exact heap_alloc_new _ _)); have D1 := Lib.hid (show W.heap[w.heap.size + 1]? = some (.cells #[.int .i64 r, .int .i64 s] 53 (0, 0)) by rw [hW, ← szW1]; exact heap_alloc_new _ _); have SZW := Lib.hid szW; clear szW1 kbW1 szW kbW
  have M1 := Lib.hid (mul64_any p s (by omega) (by omega))
  have M2 := Lib.hid (mul64_any r q (by omega) (by omega))
  have HA := Lib.hid (am_ltN (p * s) (r * q))
  obtain ⟨a, ha⟩ : ∃ a, a = p * s / 18446744073709551616 := ⟨_, rfl⟩
  obtain ⟨b, hb⟩ : ∃ b, b = p * s % 18446744073709551616 := ⟨_, rfl⟩
  obtain ⟨c, hc⟩ : ∃ c, c = r * q / 18446744073709551616 := ⟨_, rfl⟩
  obtain ⟨d, hd⟩ : ∃ d, d = r * q % 18446744073709551616 := ⟨_, rfl⟩
  obtain ⟨V, hV⟩ : ∃ V, V = decide (p * s ≤ r * q) := ⟨_, rfl⟩
  rw [← ha, ← hb] at M1
  rw [← hc, ← hd] at M2
  rw [← ha, ← hb, ← hc, ← hd, ← hV] at HA
  rw [← hV]
  clear ha hb hc hd hV
  have w1 : IntKind.u64.wrap (p : Int) = p := Mul64.wrapN p (by omega)
  have w2 : IntKind.u64.wrap (q : Int) = q := Mul64.wrapN q (by omega)
  have w3 : IntKind.u64.wrap (r : Int) = r := Mul64.wrapN r (by omega)
  have w4 : IntKind.u64.wrap (s : Int) = s := Mul64.wrapN s (by omega)
  go_enter Try.func70, Try.ntmps70
  go_wp2_with fail
  rw [← hW1, ← hW]; clear hW1 hW
  refine (M1.out _).mono ?_; rintro e w' ⟨rfl, rfl⟩
  clear M1
  have x0 := cell_of_blk D0.out 0; have x1 := cell_of_blk D0.out 1; have hz_x := (Array.getElem?_eq_some_iff.1 D0.out).1; simp at x0 x1
  have y0 := cell_of_blk D1.out 0; have y1 := cell_of_blk D1.out 1; have hz_y := (Array.getElem?_eq_some_iff.1 D1.out).1; simp at y0 y1
  go_wp2_with fail
  refine (M2.out _).mono ?_; rintro e w' ⟨rfl, rfl⟩
  clear M2
  clear x0 x1 hz_x y0 y1 hz_y w1 w2 w3 w4
  by_cases h1 : a < c
  · have f1 : decide (a < c) = true := decide_eq_true h1
    have HV := Lib.hid (HA.out.1 h1)
    clear h1
    go_wp2
    go_ret
    exact ⟨of_bool (by rw [HV.out]), HB.out⟩
  · have f1 : decide (a < c) = false := decide_eq_false h1
    by_cases h2 : a = c
    · have HV := Lib.hid (HA.out.2.2 h2)
      subst h2
      have f2 : ((a : Int) == (a : Int)) = true := by simp
      by_cases h3 : b ≤ d
      · have f3 : decide (b ≤ d) = true := decide_eq_true h3
        have HV2 := Lib.hid (HV.out.trans (decide_eq_true h3))
        clear h1 h3
        go_wp2
        go_ret
        exact ⟨of_bool (by rw [HV2.out]), HB.out⟩
      · have f3 : decide (b ≤ d) = false := decide_eq_false h3
        have HV2 := Lib.hid (HV.out.trans (decide_eq_false h3))
        clear h1 h3
        go_wp2
        go_ret
        exact ⟨of_bool (by rw [HV2.out]), HB.out⟩
    · have f2 : (a == c) = false := by simpa using h2
      have f3 : ((a : Int) == (c : Int)) = false := beq_eq_false_iff_ne.2 (fun e => h2 (by omega))
      have HV := Lib.hid (HA.out.2.1 h1 h2)
      clear h1 h2
      go_wp2
      go_ret
      exact ⟨of_bool (by rw [HV.out]), HB.out⟩

end Go.Proofs.Ytcpfhaoecggflaa
