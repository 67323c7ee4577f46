/-
  Contracts of parsePair, parseKind, parseHead, parseValue.
-/
import Derived.Test.YtleihhkacmgofaaGreatDoorPnum
namespace Go.Proofs.YtleihhkacmgofaaGreatDoor
open Go.RowKit

theorem le_max {n : Nat} (h : n ≤ 100000) : n ≤ maxLen := by unfold maxLen; omega
theorem ret_iib {a b : Int} {c : Bool} {p : Int × Int × Bool} (h : (a, b, c) = p) : Ending.returned (.tuple #[.int .i64 a, .int .i64 b, .bool c]) = .returned (.tuple #[.int .i64 p.1, .int .i64 p.2.1, .bool p.2.2]) := by
  rw [← h]

set_option maxHeartbeats 800000 in
theorem pair_any (s sep : ByteArray) (w : World) (hE : Env w) (hs : s.size ≤ 100000) :
    Calls Tryz.prog 75 #[.string s, .string sep] w fun e w' => e = .returned (.tuple #[.int .i64 (pairP s sep).1, .int .i64 (pairP s sep).2.1, .bool (pairP s sep).2.2]) ∧ Below w.heap.size w w' := by
  obtain ⟨c, hc⟩ : ∃ c, c = cutB s sep := ⟨_, rfl⟩
  have hcs := cutB_size s sep
  rw [← hc] at hcs
  obtain ⟨hc1, hc2⟩ := hcs
  obtain ⟨c0, c1, c2⟩ := c
  dsimp only at hc1 hc2
  have h1 := le_max (Nat.le_trans hc1 hs)
  have h2 := le_max (Nat.le_trans hc2 hs)
  have HC := Lib.hid hc.symm
  have hcut (w : World) (hE : Env w) : Calls Tryz.prog 52 #[.string s, .string sep] w fun e w' => e = .returned (.tuple #[.string c0, .string c1, .bool c2]) ∧ Below w.heap.size w w' := by
    have := cut_any s sep w hE hs
    rw [← hc] at this; exact this
  have HCUT := Lib.hid hcut
  clear hc hcut hc1 hc2
  obtain ⟨⟨a, ab⟩, ha⟩ : ∃ a, a = numP c0 := ⟨_, rfl⟩
  obtain ⟨⟨b, bb⟩, hb⟩ : ∃ b, b = numP c1 := ⟨_, rfl⟩
  have HA := Lib.hid ha.symm
  have HB := Lib.hid hb.symm
  have hp := Lib.hid (show pairP s sep = if ab && bb then (a, b, true) else (0, 0, false) by unfold pairP; rw [HC.out]; dsimp only; rw [HA.out, HB.out])
  clear ha hb
  cases ab with
  | false =>
    go_enter Tryz.func75, Tryz.ntmps75
    go_wp2_with (first | (go_at_call 52; refine (HCUT.out _ hE).mono ?_; rintro e w1 ⟨rfl, hb1⟩) | (go_at_call 72; refine (num_is c0 _ h1 (a, false) HA.out).mono ?_; rintro e w' ⟨rfl, rfl⟩))
    go_ret3
    exact ⟨ret_iib (by rw [hp.out]; rfl), hb1⟩
  | true =>
    cases bb with
    | false =>
      go_enter Tryz.func75, Tryz.ntmps75
      go_wp2_with fail
      refine (HCUT.out _ hE).mono ?_; rintro e w1 ⟨rfl, hb1⟩
      go_wp2_with fail
      refine (num_is c0 _ h1 (a, true) HA.out).mono ?_; rintro e w' ⟨rfl, rfl⟩
      go_wp2_with fail
      refine (num_is c1 _ h2 (b, false) HB.out).mono ?_; rintro e w' ⟨rfl, rfl⟩
      go_wp2_with fail
      go_ret3
      exact ⟨ret_iib (by rw [hp.out]; rfl), hb1⟩
    | true =>
      go_enter Tryz.func75, Tryz.ntmps75
      go_wp2_with fail
      refine (HCUT.out _ hE).mono ?_; rintro e w1 ⟨rfl, hb1⟩
      go_wp2_with fail
      refine (num_is c0 _ h1 (a, true) HA.out).mono ?_; rintro e w' ⟨rfl, rfl⟩
      go_wp2_with fail
      refine (num_is c1 _ h2 (b, true) HB.out).mono ?_; rintro e w' ⟨rfl, rfl⟩
      go_wp2_with fail
      go_ret3
      exact ⟨ret_iib (by rw [hp.out]; rfl), hb1⟩

set_option maxHeartbeats 800000 in
theorem kindP_any (s : ByteArray) (w : World) (hE : Env w) :
    Calls Tryz.prog 96 #[.string s] w fun e w' => e = .returned (.tuple #[.int .i64 (kindP s).1, .bool (kindP s).2]) ∧ w = w' := by
  have k1 := hE.k1
  have k2 := hE.k2
  have k3 := hE.k3
  by_cases h1 : (([115] : List UInt8) == s.toList) = true
  · have hf := Lib.hid (show kindP s = (1, true) by unfold kindP; rw [if_pos (by simpa [strEq, ByteArray.toList_eq] using h1)])
    go_enter Tryz.func96, Tryz.ntmps96
    go_wp2
    refine wp_loop_rounds 1 ?_
    rw [rounds_succ]
    go_wp2
    go_ret2
    exact ⟨ret_ib hf.out.symm, rfl⟩
  have h1 : (([115] : List UInt8) == s.toList) = false := by simpa using h1
  have g1 := Lib.hid (show ¬ strEq ⟨#[115]⟩ s = true by simpa [strEq, ByteArray.toList_eq] using h1)
  by_cases h2 : (([119] : List UInt8) == s.toList) = true
  · have hf := Lib.hid (show kindP s = (2, true) by unfold kindP; rw [if_neg g1.out, if_pos (by simpa [strEq, ByteArray.toList_eq] using h2)])
    go_enter Tryz.func96, Tryz.ntmps96
    go_wp2
    refine wp_loop_rounds 2 ?_
    iterate 2 (rw [rounds_succ]; go_wp2)
    go_ret2
    exact ⟨ret_ib hf.out.symm, rfl⟩
  have h2 : (([119] : List UInt8) == s.toList) = false := by simpa using h2
  have g2 := Lib.hid (show ¬ strEq ⟨#[119]⟩ s = true by simpa [strEq, ByteArray.toList_eq] using h2)
  by_cases h3 : (([99] : List UInt8) == s.toList) = true
  · have hf := Lib.hid (show kindP s = (3, true) by unfold kindP; rw [if_neg g1.out, if_neg g2.out, if_pos (by simpa [strEq, ByteArray.toList_eq] using h3)])
    go_enter Tryz.func96, Tryz.ntmps96
    go_wp2
    refine wp_loop_rounds 3 ?_
    iterate 3 (rw [rounds_succ]; go_wp2)
    go_ret2
    exact ⟨ret_ib hf.out.symm, rfl⟩
  have h3 : (([99] : List UInt8) == s.toList) = false := by simpa using h3
  have g3 := Lib.hid (show ¬ strEq ⟨#[99]⟩ s = true by simpa [strEq, ByteArray.toList_eq] using h3)
  have hf := Lib.hid (show kindP s = (0, false) by unfold kindP; rw [if_neg g1.out, if_neg g2.out, if_neg g3.out])
  go_enter Tryz.func96, Tryz.ntmps96
  go_wp2
  refine wp_loop_rounds 4 ?_
  iterate 4 (rw [rounds_succ]; go_wp2)
  go_ret2
  exact ⟨ret_ib hf.out.symm, rfl⟩

end Go.Proofs.YtleihhkacmgofaaGreatDoor
