/-
  The laws' test of two lists of numbers (layer 9).
-/
import Derived.Test.YtcpfhaoecggflaaZKit
namespace Go.Proofs.Ytcpfhaoecggflaa
open Go.RowKit

set_option maxHeartbeats 1600000 in
theorem sameI_any (A B : Option Addr) (c d : Nat) (xs ys : List Int) (w : World) (hA : IntsIn w A xs) (hB : IntsIn w B ys) (hx : xs.length ≤ maxLen) (hy : ys.length ≤ maxLen) :
    Calls Try.prog 22 #[.slice A xs.length c, .slice B ys.length d] w fun e w' => e = .returned (.bool (decide (xs = ys))) ∧ Below w.heap.size w w' := by
  obtain ⟨n, hn⟩ : ∃ n, n = xs.length := ⟨_, rfl⟩
  obtain ⟨m, hm⟩ : ∃ m, m = ys.length := ⟨_, rfl⟩
  have HN := Lib.hid hn
  have HM := Lib.hid hm
  rw [← hn] at hx ⊢
  rw [← hm] at hy ⊢
  clear hn hm
  unfold maxLen at hx hy
  by_cases hnm : n = m
  case neg =>
    have hd : ((n : Int) != (m : Int)) = true := by simp; omega
    have hr := Lib.hid (show decide (xs = ys) = false by simp; intro e; apply hnm; rw [HN.out, HM.out, e])
    go_enter Try.func22, Try.ntmps22
    go_wp2
    go_ret
    exact ⟨of_bool hr.out.symm, Below.refl _ _⟩
  case pos =>
    subst hnm
    have hd : ((n : Int) != (n : Int)) = false := by simp
    go_enter Try.func22, Try.ntmps22
    go_wp2
    go_loopw [5] (fun i wr => ∃ k : Nat, k ≤ n ∧ i = .int .i64 k ∧ Hid (xs.take k = ys.take k) ∧ Hid (Below w.heap.size w wr)) (fun i _ => n - (intOf i).toNat)
    case atStart => exact ⟨0, Nat.zero_le _, rfl, Lib.hid rfl, Lib.hid (Below.refl _ _)⟩
    case round =>
      obtain ⟨k, hk, rfl, he, hb⟩ := hrel
      by_cases hlt : k < n
      · have hkx : k < xs.length := by have := HN.out; omega
        have hky : k < ys.length := by have := HM.out; omega
        obtain ⟨g, o, e1, hg, x⟩ := (hA.below hb.out) k _ (List.getElem?_eq_getElem hkx)
        obtain ⟨g', o', e2, hg', y⟩ := (hB.below hb.out) k _ (List.getElem?_eq_getElem hky)
        have HX := Lib.hid (List.take_succ_eq_append_getElem hkx)
        have HY := Lib.hid (List.take_succ_eq_append_getElem hky)
        have HNE := Lib.hid (show xs[k] ≠ ys[k] → xs ≠ ys from fun h e => h (by subst e; rfl))
        obtain ⟨p, hp⟩ : ∃ p, p = xs[k] := ⟨_, rfl⟩
        obtain ⟨q, hq⟩ : ∃ q, q = ys[k] := ⟨_, rfl⟩
        rw [← hp] at x HX HNE
        rw [← hq] at y HY HNE
        subst e1 e2
        clear hA hB hp hq hkx hky
        by_cases hpq : p = q
        · subst hpq
          have hd : (p != p) = false := by simp
          go_wp2
          refine wp_region_later (by kernel_rfl) (by kernel_rfl) ?_; (repeat (first | go_big_quiet_step (fail) | quiet_step (fail))); refine wpQuiet_nil ?_; rintro _ ⟨s, rfl⟩
          go_wp2
          go_roundw
          case rel => exact ⟨k + 1, by omega, by go_num, Lib.hid (by rw [HX.out, HY.out, he.out]), Lib.hid (hb.out.trans (s.below.mono hb.out.size))⟩
          case measure => simp [intOf]; omega
        · have hd : (p != q) = true := by simpa using hpq
          have hr := Lib.hid (show decide (xs = ys) = false by simpa using HNE.out hpq)
          clear hpq
          go_wp2
          refine wp_region_later (by kernel_rfl) (by kernel_rfl) ?_; (repeat (first | go_big_quiet_step (fail) | quiet_step (fail))); refine wpQuiet_nil ?_; rintro _ ⟨s, rfl⟩
          go_wp2
          go_ret
          exact ⟨of_bool hr.out.symm, below_more hb.out s.below⟩
      · obtain rfl : k = n := by omega
        have hr := Lib.hid (show decide (xs = ys) = true by
          have := he.out
          rw [List.take_of_length_le (by have := HN.out; omega), List.take_of_length_le (by have := HM.out; omega)] at this
          simpa using this)
        go_wp2
        go_ret
        exact ⟨of_bool hr.out.symm, hb.out⟩

end Go.Proofs.Ytcpfhaoecggflaa
