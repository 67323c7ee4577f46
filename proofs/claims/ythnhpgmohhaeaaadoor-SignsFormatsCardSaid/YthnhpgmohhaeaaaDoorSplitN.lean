/-
  Contract of parsePlace.
-/
import Derived.Test.YthnhpgmohhaeaaaDoorLBear
namespace Go.Proofs.YthnhpgmohhaeaaaDoor
open Go.RowKit

/-- one digit more, 201 at most -/
def placeStep (a : Int) (c : UInt8) : Int := min (a * 10 + ((c.toNat : Int) - 48)) 201
def placeF (l : List UInt8) : Int := l.foldl placeStep 0
theorem placeF_snoc (l : List UInt8) (c : UInt8) : placeF (l ++ [c]) = placeStep (placeF l) c := by simp [placeF]
theorem placeF_bd (l : List UInt8) (h : l.all digB = true) : 0 ≤ placeF l ∧ placeF l ≤ 201 := by
  have : ∀ (l : List UInt8) (a : Int), l.all digB = true → 0 ≤ a → a ≤ 201 → 0 ≤ l.foldl placeStep a ∧ l.foldl placeStep a ≤ 201 := by
    intro l
    induction l with
    | nil => intro a _ h0 h1; exact ⟨h0, h1⟩
    | cons c r ih =>
      intro a hd h0 h1
      simp only [List.all_cons, Bool.and_eq_true] at hd
      have hc : (48 : Int) ≤ c.toNat ∧ (c.toNat : Int) ≤ 57 := by have := hd.1; simp [digB] at this; omega
      exact ih _ hd.2 (by unfold placeStep; omega) (by unfold placeStep; omega)
  exact this l 0 h (by omega) (by omega)
def placeP (s : ByteArray) : Int × Bool := if (bytes s).head? = some 48 ∨ (bytes s).all digB = false then (0, false) else (placeF (bytes s), decide (2 ≤ placeF (bytes s)))

set_option maxHeartbeats 800000 in
theorem place_any (s : ByteArray) (w : World) (h0 : 0 < s.size) (hs : s.size ≤ 1000000) (h48 : (s[0].toNat : Int) ≠ 48) (hall : (bytes s).all digB = true) :
    Calls Tryd.prog 77 #[.string s] w fun e w' => e = .returned (.tuple #[.int .i64 (placeF (bytes s)), .bool (decide (2 ≤ placeF (bytes s)))]) ∧ Below w.heap.size w w' := by
  have h48' : ((s[0].toNat : Int) == 48) = false := by simpa using h48
  go_enter Tryd.func77, Tryd.ntmps77
  go_wp2
  go_loop [2, 10] (fun p i => ∃ k : Nat, k ≤ s.size ∧ i = .int .i64 k ∧ p = .int .i64 (placeF ((bytes s).take k))) (fun _ i => s.size - (intOf i).toNat)
  case atStart => exact ⟨0, Nat.zero_le _, rfl, by simp [placeF]⟩
  case round =>
    obtain ⟨k, hk, rfl, rfl⟩ := hrel
    by_cases hlt : k < s.size
    · have hat := bytes_at s k hlt
      have hd : digB s[k] = true := List.all_eq_true.1 hall _ (List.mem_of_getElem? hat)
      have hsn := Lib.hid (show placeF ((bytes s).take (k + 1)) = placeStep (placeF ((bytes s).take k)) s[k] by rw [take_snoc s k hlt, placeF_snoc])
      have hbd := placeF_bd ((bytes s).take k) (List.all_eq_true.2 fun c hc => List.all_eq_true.1 hall c (List.mem_of_mem_take hc))
      have hc : (48 : Int) ≤ s[k].toNat ∧ (s[k].toNat : Int) ≤ 57 := by simp [digB] at hd; omega
      obtain ⟨P, hP⟩ : ∃ P, P = placeF ((bytes s).take k) := ⟨_, rfl⟩
      rw [← hP] at hbd hsn ⊢
      obtain ⟨hb0, hb1⟩ := hbd
      obtain ⟨hc0, hc1⟩ := hc
      clear hat hP
      go_wp2_with (first | (go_at_call 70; refine (dig_any _ _).mono ?_; rintro e w' ⟨rfl, rfl⟩))
      go_round
      case rel => exact ⟨k + 1, by omega, by go_num, by rw [hsn.out]; rfl⟩
      case measure => simp [intOf]; omega
    · obtain rfl : k = s.size := by omega
      have HT := Lib.hid (show (bytes s).take s.size = bytes s from take_full s)
      go_wp2
      go_ret2
      rw [HT.out]
      exact ⟨rfl, Below.refl _ _⟩

set_option maxHeartbeats 800000 in
theorem place_zero (s : ByteArray) (w : World) (h0 : 0 < s.size) (h48 : (s[0].toNat : Int) = 48) :
    Calls Tryd.prog 77 #[.string s] w fun e w' => e = .returned (.tuple #[.int .i64 0, .bool false]) ∧ Below w.heap.size w w' := by
  have h48' : ((s[0].toNat : Int) == 48) = true := by simpa using h48
  go_enter Tryd.func77, Tryd.ntmps77
  go_wp2
  go_ret2
  exact ⟨rfl, Below.refl _ _⟩

set_option maxHeartbeats 800000 in
theorem place_bad (s : ByteArray) (w : World) (h0 : 0 < s.size) (hs : s.size ≤ 1000000) (h48 : (s[0].toNat : Int) ≠ 48) (n : Nat) (hn : n < s.size) (hno : digB s[n] = false) (hall : ((bytes s).take n).all digB = true) :
    Calls Tryd.prog 77 #[.string s] w fun e w' => e = .returned (.tuple #[.int .i64 0, .bool false]) ∧ Below w.heap.size w w' := by
  have h48' : ((s[0].toNat : Int) == 48) = false := by simpa using h48
  go_enter Tryd.func77, Tryd.ntmps77
  go_wp2
  go_loop [2, 10] (fun p i => ∃ k : Nat, k ≤ n ∧ i = .int .i64 k ∧ p = .int .i64 (placeF ((bytes s).take k))) (fun _ i => s.size - (intOf i).toNat)
  case atStart => exact ⟨0, Nat.zero_le _, rfl, by simp [placeF]⟩
  case round =>
    obtain ⟨k, hk, rfl, rfl⟩ := hrel
    by_cases hlt : k < n
    · have hks : k < s.size := by omega
      have hat := bytes_at s k hks
      have hd : digB s[k] = true := List.all_eq_true.1 hall _ (List.mem_of_getElem? (by rw [List.getElem?_take, if_pos hlt]; exact hat))
      have hsn := Lib.hid (show placeF ((bytes s).take (k + 1)) = placeStep (placeF ((bytes s).take k)) s[k] by rw [take_snoc s k hks, placeF_snoc])
      have hbd := placeF_bd ((bytes s).take k) (List.all_eq_true.2 fun c hc => List.all_eq_true.1 hall c (by
        have : (bytes s).take k = ((bytes s).take n).take k := by rw [List.take_take, Nat.min_eq_left (by omega)]
        rw [this] at hc; exact List.mem_of_mem_take hc))
      have hc : (48 : Int) ≤ s[k].toNat ∧ (s[k].toNat : Int) ≤ 57 := by simp [digB] at hd; omega
      obtain ⟨P, hP⟩ : ∃ P, P = placeF ((bytes s).take k) := ⟨_, rfl⟩
      rw [← hP] at hbd hsn ⊢
      obtain ⟨hb0, hb1⟩ := hbd
      obtain ⟨hc0, hc1⟩ := hc
      clear hat hP
      go_wp2_with (first | (go_at_call 70; refine (dig_any _ _).mono ?_; rintro e w' ⟨rfl, rfl⟩))
      go_round
      case rel => exact ⟨k + 1, by omega, by go_num, by rw [hsn.out]; rfl⟩
      case measure => simp [intOf]; omega
    · obtain rfl : k = n := by omega
      generalize placeF ((bytes s).take k) = P
      go_wp2_with (first | (go_at_call 70; refine (dig_any _ _).mono ?_; rintro e w' ⟨rfl, rfl⟩))
      go_ret2
      exact ⟨rfl, Below.refl _ _⟩

theorem first_bad {α : Type} (f : α → Bool) : ∀ l : List α, l.all f = false → ∃ n c, l[n]? = some c ∧ f c = false ∧ (l.take n).all f = true
  | [], h => by simp at h
  | x :: r, h => by
    cases hx : f x with
    | false => exact ⟨0, x, rfl, hx, rfl⟩
    | true =>
      rw [List.all_cons, hx, Bool.true_and] at h
      obtain ⟨n, c, h1, h2, h3⟩ := first_bad f r h
      exact ⟨n + 1, c, h1, h2, by rw [List.take_succ_cons, List.all_cons, hx, h3]; rfl⟩

/-- parsePlace, whatever the digits -/
theorem parsePlace_any (s : ByteArray) (w : World) (h0 : 0 < s.size) (hs : s.size ≤ 1000000) :
    Calls Tryd.prog 77 #[.string s] w fun e w' => e = .returned (.tuple #[.int .i64 (placeP s).1, .bool (placeP s).2]) ∧ Below w.heap.size w w' := by
  have hh : (bytes s).head? = some s[0] := by rw [List.head?_eq_getElem?]; exact bytes_at s 0 h0
  by_cases h48 : (s[0].toNat : Int) = 48
  · have : s[0] = 48 := by apply UInt8.toNat_inj.1; show s[0].toNat = 48; omega
    have hp : placeP s = (0, false) := by unfold placeP; rw [if_pos]; left; rw [hh, this]
    rw [hp]
    exact place_zero s w h0 h48
  have hne : (bytes s).head? ≠ some 48 := by
    rw [hh]; intro e; injection e with e; rw [e] at h48; exact h48 rfl
  cases hall : (bytes s).all digB with
  | true =>
    have hp : placeP s = (placeF (bytes s), decide (2 ≤ placeF (bytes s))) := by
      unfold placeP
      rw [if_neg]
      rintro (h | h)
      · exact hne h
      · rw [hall] at h; cases h
    rw [hp]
    exact place_any s w h0 hs h48 hall
  | false =>
    have hp : placeP s = (0, false) := by unfold placeP; rw [if_pos (.inr hall)]
    rw [hp]
    obtain ⟨n, c, hn, hd, ht⟩ := first_bad digB (bytes s) hall
    have hl : n < s.size := by have := (List.getElem?_eq_some_iff.1 hn).1; simpa [bytes] using this
    rw [bytes_at s n hl] at hn
    injection hn with hn
    exact place_bad s w h0 hs h48 n hl (by rw [hn]; exact hd) ht

/-- splitName: n letters open the name -/
def splitP (s : ByteArray) (n : Nat) : ByteArray × Int × Bool :=
  if textB 1 (s.extract 0 n) = false then (⟨#[]⟩, 0, false) else if n = s.size then (s.extract 0 n, 1, true) else (s.extract 0 n, (placeP (s.extract n s.size)).1, (placeP (s.extract n s.size)).2)
theorem text_is (kd : Int) (s : ByteArray) (w : World) (hs : s.size ≤ maxLen) (r : Bool) (h : textB kd s = r) : Calls Tryd.prog 76 #[.int .i64 kd, .string s] w fun e w' => e = .returned (.bool r) ∧ w = w' := by
  rw [← h]; exact text_any kd s w hs
theorem let_is (c : UInt8) (w : World) (r : Bool) (h : letB c = r) : Calls Tryd.prog 69 #[.int .u8 c.toNat] w fun e w' => e = .returned (.bool r) ∧ w = w' := by
  rw [← h]; exact let_any c w

set_option maxHeartbeats 1600000 in
theorem splitName_any (s : ByteArray) (n : Nat) (w : World) (hs : s.size ≤ 1000000) (hn : n ≤ s.size) (hall : ((bytes s).take n).all letB = true) (hend : ∀ h : n < s.size, letB s[n] = false) :
    Calls Tryd.prog 55 #[.string s] w fun e w' => e = .returned (.tuple #[.string (splitP s n).1, .int .i64 (splitP s n).2.1, .bool (splitP s n).2.2]) ∧ Below w.heap.size w w' := by
  have hts : (s.extract 0 n).size ≤ maxLen := by unfold maxLen; have := extract_size s 0 n; omega
  obtain ⟨T, hT⟩ : ∃ T, textB 1 (s.extract 0 n) = T := ⟨_, rfl⟩
  have HT := Lib.hid hT
  have HTS := Lib.hid hts
  have HPP := Lib.hid (fun w (h : n < s.size) => parsePlace_any (s.extract n s.size) w (by simp; omega) (Nat.le_trans (extract_size s n s.size) hs))
  have HF := Lib.hid (show splitP s n = if T = false then (⟨#[]⟩, 0, false) else if n = s.size then (s.extract 0 n, 1, true) else (s.extract 0 n, (placeP (s.extract n s.size)).1, (placeP (s.extract n s.size)).2) by unfold splitP; rw [hT])
  have HA := Lib.hid hall
  have HEND := Lib.hid hend
  clear hT hts hall hend
  go_enter Tryd.func55, Tryd.ntmps55
  go_wp2
  go_loop [5] (fun i => ∃ k : Nat, k ≤ n ∧ i = .int .i64 k) (fun i => n - (intOf i).toNat)
  case atStart => exact ⟨0, Nat.zero_le _, rfl⟩
  case round =>
    obtain ⟨k, hk, rfl⟩ := hrel
    by_cases hlt : k < n
    · have hks : k < s.size := by omega
      have hd : letB s[k] = true := List.all_eq_true.1 HA.out _ (List.mem_of_getElem? (by rw [List.getElem?_take, if_pos hlt]; exact bytes_at s k hks))
      go_wp2_with (first | (go_at_call 69; refine (let_is _ _ true hd).mono ?_; rintro e w' ⟨rfl, rfl⟩))
      go_round
      case rel => exact ⟨k + 1, by omega, by go_num⟩
      case measure => simp [intOf]; omega
    · obtain rfl : k = n := by omega
      by_cases hsz : k < s.size
      · have hd : letB s[k] = false := HEND.out hsz
        cases T with
        | false =>
          go_wp2_with (first | (go_at_call 69; refine (let_is _ _ false hd).mono ?_; rintro e w' ⟨rfl, rfl⟩) | (go_at_call 76; refine (text_is _ _ _ HTS.out false HT.out).mono ?_; rintro e w' ⟨rfl, rfl⟩))
          refine bodyPost_ret (v := .tuple #[.string ⟨#[]⟩, .int .i64 0, .bool false]) (by simp [results, Tryd.results55, go_sem]) rfl ?_
          rw [HF.out]
          exact ⟨rfl, Below.refl _ _⟩
        | true =>
          have hne : ((k : Int) == (s.size : Int)) = false := by rw [beq_eq_false_iff_ne]; omega
          obtain ⟨pl, hpl⟩ : ∃ pl, pl = placeP (s.extract k s.size) := ⟨_, rfl⟩
          have HP2 := Lib.hid (fun w => HPP.out w hsz)
          rw [← hpl] at HP2
          have HF2 := Lib.hid (show splitP s k = (s.extract 0 k, pl.1, pl.2) by rw [HF.out, if_neg (by decide), if_neg (by omega), hpl])
          obtain ⟨pa, pb⟩ := pl
          clear hpl
          go_wp2_with (first | (go_at_call 69; refine (let_is _ _ false hd).mono ?_; rintro e w' ⟨rfl, rfl⟩) | (go_at_call 76; refine (text_is _ _ _ HTS.out true HT.out).mono ?_; rintro e w' ⟨rfl, rfl⟩))
          refine (HP2.out _).mono ?_; rintro e w1 ⟨rfl, hb1⟩
          go_wp2
          refine bodyPost_ret (v := .tuple #[.string (s.extract 0 k), .int .i64 pa, .bool pb]) (by simp [results, Tryd.results55, go_sem]) rfl ?_
          rw [HF2.out]
          exact ⟨rfl, hb1⟩
      · have hks : k = s.size := by omega
        have es : s.extract 0 k = s := by rw [hks]; simp
        rw [es] at HT HTS
        have HF3 := Lib.hid (show splitP s k = if T = false then (⟨#[]⟩, 0, false) else (s, 1, true) by rw [HF.out, if_pos hks, es])
        subst hks
        clear HF HPP HA HEND es
        cases T with
        | false =>
          go_wp2_with (first | (go_at_call 76; refine (text_is _ _ _ HTS.out false HT.out).mono ?_; rintro e w' ⟨rfl, rfl⟩))
          refine bodyPost_ret (v := .tuple #[.string ⟨#[]⟩, .int .i64 0, .bool false]) (by simp [results, Tryd.results55, go_sem]) rfl ?_
          rw [HF3.out]
          exact ⟨rfl, Below.refl _ _⟩
        | true =>
          go_wp2_with (first | (go_at_call 76; refine (text_is _ _ _ HTS.out true HT.out).mono ?_; rintro e w' ⟨rfl, rfl⟩))
          refine bodyPost_ret (v := .tuple #[.string s, .int .i64 1, .bool true]) (by simp [results, Tryd.results55, go_sem]) rfl ?_
          rw [HF3.out]
          exact ⟨rfl, Below.refl _ _⟩

end Go.Proofs.YthnhpgmohhaeaaaDoor
