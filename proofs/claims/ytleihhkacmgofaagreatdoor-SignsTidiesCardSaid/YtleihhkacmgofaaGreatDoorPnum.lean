/-
  Contracts of parseNumber, isName, parseKind, parsePair.
-/
import Derived.Test.YtleihhkacmgofaaGreatDoorPp
import Derived.Lib.SmallJoins
namespace Go.Proofs.YtleihhkacmgofaaGreatDoor
open Go.RowKit

/-- what a call finds in the world beside its arguments: the program's own table, and the library's variable -/
structure Env (w : World) : Prop where
  shaped : w.ShapedOpen Tryz.prog
  k1 : w.cell? ⟨1, 1, none⟩ = some (.string ⟨#[115]⟩)
  k2 : w.cell? ⟨1, 2, none⟩ = some (.string ⟨#[119]⟩)
  k3 : w.cell? ⟨1, 3, none⟩ = some (.string ⟨#[99]⟩)
  pow : Lib.TabIs Tryz.prog w "internal/strconv.uint64pow10" .u64 Lib.pow10Tab
theorem cell_lt {w : World} {b o : Nat} {v : Value} (h : w.cell? ⟨b, o, none⟩ = some v) : b < w.heap.size := by
  rcases Nat.lt_or_ge b w.heap.size with h1 | h1
  · exact h1
  · simp [World.cell?, Array.getElem?_eq_none h1] at h
theorem gPow : Tryz.prog.globalNamed "internal/strconv.uint64pow10" = some 2 := by kernel_rfl
theorem Env.below {w w' : World} (h : Env w) (hb : Below w.heap.size w w') : Env w' :=
  ⟨h.shaped.keptBut (hb.frame (fun _ => False)) (fun _ h => h.elim), (hb.cell (p := ⟨_, _, none⟩) (cell_lt h.k1)).trans h.k1, (hb.cell (p := ⟨_, _, none⟩) (cell_lt h.k2)).trans h.k2, (hb.cell (p := ⟨_, _, none⟩) (cell_lt h.k3)).trans h.k3, Go.Joins.tab_stays gPow h.pow hb (Nat.le_refl _)⟩

theorem below_drewN (w : World) (n : Nat) : Below w.heap.size w (w.drewN n) := ⟨rfl, rfl, rfl, Nat.le_refl _, fun _ _ => rfl⟩

theorem cut_any (s sep : ByteArray) (w : World) (hE : Env w) (hs : s.size ≤ 100000) :
    Calls Tryz.prog 52 #[.string s, .string sep] w fun e w' => e = .returned (.tuple #[.string (cutB s sep).1, .string (cutB s sep).2.1, .bool (cutB s sep).2.2]) ∧ Below w.heap.size w w' := by
  refine (Tryz.strings_Cut_shaped s sep w hE.shaped (by omega)).mono ?_
  rintro e w' ⟨rfl, n, rfl⟩
  exact ⟨rfl, below_drewN w n⟩

theorem numV_snoc (l : List UInt8) (c : UInt8) : numV (l ++ [c]) = numV l * 10 + ((c.toNat : Int) - 48) := by simp [numV]
theorem numV_bd (l : List UInt8) (h : l.all digB = true) (hl : l.length ≤ 3) : 0 ≤ numV l ∧ numV l ≤ 999 := by
  match l, h, hl with
  | [], _, _ => simp [numV]
  | [a], h, _ => simp [numV, digB] at *; omega
  | [a, b], h, _ => simp [numV, digB] at *; omega
  | [a, b, c], h, _ => simp [numV, digB] at *; omega
  | a :: b :: c :: d :: r, _, hl => simp at hl

theorem of_two {a a' : Int} {b b' : Bool} (h : (a, b) = (a', b')) : Ending.returned (.tuple #[.int .i64 a, .bool b]) = .returned (.tuple #[.int .i64 a', .bool b']) := by
  injection h with h1 h2; rw [h1, h2]

theorem num_no (s : ByteArray) (h : (withinB s.size 3 && !((bytes s).head? == some 48 && !strEq s ⟨#[48]⟩) && (bytes s).all digB) = false) : numP s = (0, false) := by
  unfold numP; rw [if_neg (by rw [h]; simp)]

theorem ret_ib {a : Int} {b : Bool} {p : Int × Bool} (h : (a, b) = p) : Ending.returned (.tuple #[.int .i64 a, .bool b]) = .returned (.tuple #[.int .i64 p.1, .bool p.2]) := by
  rw [← h]

set_option maxHeartbeats 1600000 in
theorem num_any (s : ByteArray) (w : World) (hs : s.size ≤ maxLen) :
    Calls Tryz.prog 72 #[.string s] w fun e w' => e = .returned (.tuple #[.int .i64 (numP s).1, .bool (numP s).2]) ∧ w = w' := by
  unfold maxLen at hs
  by_cases h1 : withinB s.size 3 = true
  case neg =>
    have h1 : withinB s.size 3 = false := by simpa using h1
    have hf := Lib.hid (num_no s (by rw [h1]; rfl))
    go_enter Tryz.func72, Tryz.ntmps72
    go_wp2_with (first | (go_at_call 26; refine (within_is _ _ _ false h1).mono ?_; rintro e w' ⟨rfl, rfl⟩))
    go_ret2
    exact ⟨ret_ib hf.out.symm, rfl⟩
  have hw : 1 ≤ s.size ∧ s.size ≤ 3 := by simp [withinB] at h1; omega
  obtain ⟨hw0, hw3⟩ := hw
  have hat0 := Lib.hid (show (bytes s).head? = some s[0] by rw [List.head?_eq_getElem?]; exact bytes_at s 0 hw0)
  by_cases h2 : ((s[0].toNat : Int) == 48) = true
  case pos =>
    have h2' := Lib.hid (show s[0] = 48 by
      have h2i : (s[0].toNat : Int) = 48 := by simpa using h2
      have : s[0].toNat = (48 : UInt8).toNat := by show s[0].toNat = 48; omega
      exact UInt8.toNat_inj.1 this)
    by_cases h3 : (s.toList == [48]) = true
    case neg =>
      have h3 : (s.toList == [48]) = false := by simpa using h3
      have hf := Lib.hid (num_no s (by rw [hat0.out, h2'.out]; simp [strEq, ByteArray.toList_eq] at h3 ⊢; simp [h3]))
      go_enter Tryz.func72, Tryz.ntmps72
      go_wp2_with (first | (go_at_call 26; refine (within_is _ _ _ true h1).mono ?_; rintro e w' ⟨rfl, rfl⟩))
      go_ret2
      exact ⟨ret_ib hf.out.symm, rfl⟩
    have hgo := Lib.hid (show (withinB s.size 3 && !((bytes s).head? == some 48 && !strEq s ⟨#[48]⟩)) = true by rw [h1]; simp [strEq, ByteArray.toList_eq] at h3 ⊢; simp [h3])
    go_enter Tryz.func72, Tryz.ntmps72
    go_wp2_with (first | (go_at_call 26; refine (within_is _ _ _ true h1).mono ?_; rintro e w' ⟨rfl, rfl⟩))
    go_loop [2, 20] (fun n i => ∃ k : Nat, k ≤ s.size ∧ i = .int .i64 k ∧ n = .int .i64 (numV ((bytes s).take k)) ∧ Hid (((bytes s).take k).all digB = true)) (fun _ i => s.size - (intOf i).toNat)
    case atStart => exact ⟨0, Nat.zero_le _, rfl, by simp [numV], Lib.hid (by simp)⟩
    case round =>
      obtain ⟨k, hk, rfl, rfl, hall⟩ := hrel
      by_cases hlt : k < s.size
      · have hat := Lib.hid (bytes_at s k hlt)
        by_cases hd : digB s[k] = true
        · have hbd := numV_bd ((bytes s).take k) hall.out (by rw [List.length_take]; omega)
          have hdb : (48 : Int) ≤ (s[k].toNat : Int) ∧ (s[k].toNat : Int) ≤ 57 := by simp [digB] at hd; omega
          obtain ⟨hd1, hd2⟩ := hdb
          obtain ⟨hb1, hb2⟩ := hbd
          have hst := Lib.hid (show numV ((bytes s).take (k + 1)) = numV ((bytes s).take k) * 10 + ((s[k].toNat : Int) - 48) by rw [take_snoc s k hlt, numV_snoc])
          have hal := Lib.hid (all_step s k hlt hall.out hd)
          go_wp2_with (first | (go_at_call 60; refine (dig_any _ _).mono ?_; rintro e w' ⟨rfl, rfl⟩))
          go_round
          case rel => exact ⟨k + 1, by omega, by go_num, by rw [hst.out], hal⟩
          case measure => simp [intOf]; omega
        · have hd : digB s[k] = false := by simpa using hd
          have hf := Lib.hid (num_no s (by rw [all_false_of digB _ _ _ hat.out hd, Bool.and_false]))
          go_wp2_with (first | (go_at_call 60; refine (dig_any _ _).mono ?_; rintro e w' ⟨rfl, rfl⟩))
          go_ret2
          exact ⟨ret_ib hf.out.symm, rfl⟩
      · obtain rfl : k = s.size := by omega
        have hf := Lib.hid (show numP s = (numV ((bytes s).take s.size), true) by
          rw [take_full]
          have := hall.out; rw [take_full] at this
          unfold numP; rw [if_pos (by rw [hgo.out, this]; rfl)])
        go_wp2
        go_ret2
        exact ⟨ret_ib hf.out.symm, rfl⟩
  have h2 : ((s[0].toNat : Int) == 48) = false := by simpa using h2
  have hgo := Lib.hid (show (withinB s.size 3 && !((bytes s).head? == some 48 && !strEq s ⟨#[48]⟩)) = true by
    have : (s[0] == 48) = false := by
      rw [beq_eq_false_iff_ne]; intro e
      rw [e] at h2; simp at h2
    rw [h1, hat0.out]; simp [this])
  go_enter Tryz.func72, Tryz.ntmps72
  go_wp2_with (first | (go_at_call 26; refine (within_is _ _ _ true h1).mono ?_; rintro e w' ⟨rfl, rfl⟩))
  go_loop [2, 20] (fun n i => ∃ k : Nat, k ≤ s.size ∧ i = .int .i64 k ∧ n = .int .i64 (numV ((bytes s).take k)) ∧ Hid (((bytes s).take k).all digB = true)) (fun _ i => s.size - (intOf i).toNat)
  case atStart => exact ⟨0, Nat.zero_le _, rfl, by simp [numV], Lib.hid (by simp)⟩
  case round =>
    obtain ⟨k, hk, rfl, rfl, hall⟩ := hrel
    by_cases hlt : k < s.size
    · have hat := Lib.hid (bytes_at s k hlt)
      by_cases hd : digB s[k] = true
      · have hbd := numV_bd ((bytes s).take k) hall.out (by rw [List.length_take]; omega)
        have hdb : (48 : Int) ≤ (s[k].toNat : Int) ∧ (s[k].toNat : Int) ≤ 57 := by simp [digB] at hd; omega
        obtain ⟨hd1, hd2⟩ := hdb
        obtain ⟨hb1, hb2⟩ := hbd
        have hst := Lib.hid (show numV ((bytes s).take (k + 1)) = numV ((bytes s).take k) * 10 + ((s[k].toNat : Int) - 48) by rw [take_snoc s k hlt, numV_snoc])
        have hal := Lib.hid (all_step s k hlt hall.out hd)
        go_wp2_with (first | (go_at_call 60; refine (dig_any _ _).mono ?_; rintro e w' ⟨rfl, rfl⟩))
        go_round
        case rel => exact ⟨k + 1, by omega, by go_num, by rw [hst.out], hal⟩
        case measure => simp [intOf]; omega
      · have hd : digB s[k] = false := by simpa using hd
        have hf := Lib.hid (num_no s (by rw [all_false_of digB _ _ _ hat.out hd, Bool.and_false]))
        go_wp2_with (first | (go_at_call 60; refine (dig_any _ _).mono ?_; rintro e w' ⟨rfl, rfl⟩))
        go_ret2
        exact ⟨ret_ib hf.out.symm, rfl⟩
    · obtain rfl : k = s.size := by omega
      have hf := Lib.hid (show numP s = (numV ((bytes s).take s.size), true) by
        rw [take_full]
        have := hall.out; rw [take_full] at this
        unfold numP; rw [if_pos (by rw [hgo.out, this]; rfl)])
      go_wp2
      go_ret2
      exact ⟨ret_ib hf.out.symm, rfl⟩

set_option maxHeartbeats 800000 in
theorem name_any (s : ByteArray) (w : World) (hs : s.size ≤ maxLen) :
    Calls Tryz.prog 74 #[.string s] w fun e w' => e = .returned (.bool (nameP s)) ∧ w = w' := by
  unfold maxLen at hs
  go_enter Tryz.func74, Tryz.ntmps74
  go_wp2
  go_loop [6] (fun i => ∃ k : Nat, k ≤ s.size ∧ i = .int .i64 k ∧ Hid (((bytes s).take k).all looseB = true)) (fun i => s.size - (intOf i).toNat)
  case atStart => exact ⟨0, Nat.zero_le _, rfl, Lib.hid (by simp)⟩
  case round =>
    obtain ⟨k, hk, rfl, hall⟩ := hrel
    by_cases hlt : k < s.size
    · have hat := Lib.hid (bytes_at s k hlt)
      by_cases a1 : ((s[k].toNat : Int) == 32) = true
      · have hf := Lib.hid (show nameP s = false by unfold nameP; rw [all_false_of looseB _ _ _ hat.out (by simp [looseB, a1])]; rfl)
        go_wp2
        go_ret
        exact ⟨of_bool hf.out.symm, rfl⟩
      have a1 : ((s[k].toNat : Int) == 32) = false := by simpa using a1
      by_cases a2 : ((s[k].toNat : Int) == 64) = true
      · have hf := Lib.hid (show nameP s = false by unfold nameP; rw [all_false_of looseB _ _ _ hat.out (by simp [looseB, a2])]; rfl)
        go_wp2
        go_ret
        exact ⟨of_bool hf.out.symm, rfl⟩
      have a2 : ((s[k].toNat : Int) == 64) = false := by simpa using a2
      by_cases a3 : ((s[k].toNat : Int) == 58) = true
      · have hf := Lib.hid (show nameP s = false by unfold nameP; rw [all_false_of looseB _ _ _ hat.out (by simp [looseB, a3])]; rfl)
        go_wp2
        go_ret
        exact ⟨of_bool hf.out.symm, rfl⟩
      have a3 : ((s[k].toNat : Int) == 58) = false := by simpa using a3
      by_cases a4 : ((s[k].toNat : Int) == 10) = true
      · have hf := Lib.hid (show nameP s = false by unfold nameP; rw [all_false_of looseB _ _ _ hat.out (by simp [looseB, a4])]; rfl)
        go_wp2
        go_ret
        exact ⟨of_bool hf.out.symm, rfl⟩
      have a4 : ((s[k].toNat : Int) == 10) = false := by simpa using a4
      have hal := Lib.hid (all_step s k hlt hall.out (show looseB s[k] = true by simp [looseB, a1, a2, a3, a4]))
      go_wp2
      go_round
      case rel => exact ⟨k + 1, by omega, by go_num, hal⟩
      case measure => simp [intOf]; omega
    · obtain rfl : k = s.size := by omega
      have hf := Lib.hid (show nameP s = !s.toList.isEmpty by
        have := hall.out; rw [take_full] at this
        unfold nameP; rw [this, ByteArray.toList_eq]; rfl)
      go_wp2
      go_ret
      exact ⟨of_bool hf.out.symm, rfl⟩

theorem num_is (s : ByteArray) (w : World) (hs : s.size ≤ maxLen) (r : Int × Bool) (h : numP s = r) :
    Calls Tryz.prog 72 #[.string s] w fun e w' => e = .returned (.tuple #[.int .i64 r.1, .bool r.2]) ∧ w = w' := by
  rw [← h]; exact num_any s w hs
theorem name_is (s : ByteArray) (w : World) (hs : s.size ≤ maxLen) (r : Bool) (h : nameP s = r) : Calls Tryz.prog 74 #[.string s] w fun e w' => e = .returned (.bool r) ∧ w = w' := by
  rw [← h]; exact name_any s w hs

end Go.Proofs.YtleihhkacmgofaaGreatDoor
