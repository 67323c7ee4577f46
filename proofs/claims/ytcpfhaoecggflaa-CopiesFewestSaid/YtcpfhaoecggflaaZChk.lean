/-
  The program's test of lines (layer 9).
-/
import Derived.Test.YtcpfhaoecggflaaZKit
namespace Go.Proofs.Ytcpfhaoecggflaa
open Go.RowKit

def negB (zs : List Int) : Bool := zs.any fun z => decide (z < 0)
/-- the error of a line -/
def lnErr (zs : List Int) : Int := if 60 < zs.length then 2 else if negB zs = true then 23 else 0
/-- a row of a slice of slices -/
structure Rw where
  A : Option Addr
  c : Nat
  zs : List Int
def lnsErr : List Rw → Int
  | [] => 0
  | r :: l => if lnErr r.zs ≠ 0 then lnErr r.zs else lnsErr l
def RowsIn (w : World) (S : Option Addr) (rs : List Rw) : Prop := ∀ k r, rs[k]? = some r → ∃ b o, S = some ⟨b, o, none⟩ ∧ b < w.heap.size ∧ w.cell? ⟨b, o + k, none⟩ = some (.slice r.A r.zs.length r.c) ∧ IntsIn w r.A r.zs ∧ r.zs.length ≤ maxLen
theorem RowsIn.below {w w' : World} {S : Option Addr} {rs : List Rw} (h : RowsIn w S rs) (hb : Below w.heap.size w w') : RowsIn w' S rs := fun k r hk => by
  obtain ⟨b, o, e, hlt, hc, hi, hl⟩ := h k r hk
  exact ⟨b, o, e, Nat.lt_of_lt_of_le hlt hb.size, ((bcell hb).1 _ _ hlt).trans hc, hi.below hb, hl⟩

theorem negf_any (x : Int) (w : World) : Calls Try.prog 106 #[.int .i64 x] w fun e w' => e = .returned (.bool (decide (x < 0))) ∧ w = w' := by
  go_enter Try.func106, Try.ntmps106
  go_wp2
  go_ret
  exact ⟨rfl, rfl⟩
theorem negB_snoc (zs : List Int) (x : Int) : negB (zs ++ [x]) = (negB zs || decide (x < 0)) := by unfold negB; simp
theorem negB_take (zs : List Int) (j : Nat) (h : negB (zs.take j) = true) : negB zs = true := by
  unfold negB at *
  rw [List.any_eq_true] at *
  obtain ⟨x, hx, h⟩ := h
  exact ⟨x, List.mem_of_mem_take hx, h⟩
/-- the place of the first negative number, or -1 -/
def GotIdx (w : World) (zs : List Int) (e : Ending) (w' : World) : Prop := ∃ z : Int, e = .returned (.int .i64 z) ∧ Hid (negB zs = decide (0 ≤ z)) ∧ w = w'

set_option maxHeartbeats 1600000 in
theorem idxf_any (A : Option Addr) (cap : Nat) (zs : List Int) (w : World) (hz : IntsIn w A zs) (hl : zs.length ≤ maxLen) : Calls Try.prog 120 #[.slice A zs.length cap, .func (.func 106) #[] #[]] w (GotIdx w zs) := by
  obtain ⟨n, hn⟩ : ∃ n, n = zs.length := ⟨_, rfl⟩
  rw [← hn] at hl ⊢
  unfold maxLen at hl
  have HN := Lib.hid hn
  clear hn
  go_enter Try.func120, Try.ntmps120
  go_wp2
  go_loop [8] (fun i => ∃ (j : Nat), j ≤ n ∧ i = .int .i64 j ∧ Hid (negB (zs.take j) = false)) (fun i => n - (intOf i).toNat)
  case atStart => exact ⟨0, Nat.zero_le _, rfl, Lib.hid rfl⟩
  case round =>
    obtain ⟨j, hj, rfl, hf⟩ := hrel
    by_cases hlt : j < n
    · have hk : j < zs.length := by have := HN.out; omega
      obtain ⟨b, o, rfl, hb, hc⟩ := hz j _ (List.getElem?_eq_getElem hk)
      have HS := Lib.hid (show negB (zs.take (j + 1)) = decide (zs[j] < 0) by rw [List.take_succ_eq_append_getElem hk, negB_snoc, hf.out]; rfl)
      obtain ⟨x, hx⟩ : ∃ x, x = zs[j] := ⟨_, rfl⟩
      rw [← hx] at hc HS
      clear hx hk
      by_cases h1 : x < 0
      · have hd : decide (x < 0) = true := by simpa using h1
        go_wp2_with (first | (go_at_call 106; refine (negf_any _ _).mono ?_; rintro e w' ⟨rfl, rfl⟩))
        go_ret
        exact ⟨j, rfl, Lib.hid (by rw [negB_take zs (j + 1) (by rw [HS.out]; exact hd)]; simp), rfl⟩
      · have hd : decide (x < 0) = false := by simpa using h1
        go_wp2_with (first | (go_at_call 106; refine (negf_any _ _).mono ?_; rintro e w' ⟨rfl, rfl⟩))
        go_round
        case rel => exact ⟨j + 1, by omega, by go_num, Lib.hid (by rw [HS.out]; exact hd)⟩
        case measure => simp [intOf]; omega
    · obtain rfl : j = n := by omega
      go_wp2
      go_ret
      refine ⟨-1, rfl, Lib.hid ?_, rfl⟩
      have := hf.out
      rw [HN.out, List.take_length] at this
      rw [this]; rfl

set_option maxHeartbeats 1600000 in
theorem contf_any (A : Option Addr) (cap : Nat) (zs : List Int) (w : World) (hz : IntsIn w A zs) (hl : zs.length ≤ maxLen) : Calls Try.prog 100 #[.slice A zs.length cap, .func (.func 106) #[] #[]] w fun e w' => e = .returned (.bool (negB zs)) ∧ w = w' := by
  have HI := Lib.hid (idxf_any A cap zs w hz hl)
  go_enter Try.func100, Try.ntmps100
  go_wp2_with (first | (go_at_call 120; refine HI.out.mono ?_; rintro e w' ⟨z, rfl, hzz, rfl⟩))
  go_ret
  exact ⟨of_bool hzz.out.symm, rfl⟩
set_option maxHeartbeats 1600000 in
theorem allS_any (A : Option Addr) (cap : Nat) (zs : List Int) (w : World) (hz : IntsIn w A zs) (hl : zs.length ≤ maxLen) : Calls Try.prog 84 #[.slice A zs.length cap] w fun e w' => e = .returned (.bool (!negB zs)) ∧ w = w' := by
  go_enter Try.func84, Try.ntmps84
  go_wp2_with (first | (go_at_call 100; refine (contf_any A cap zs _ hz hl).mono ?_; rintro e w' ⟨rfl, rfl⟩))
  go_ret
  exact ⟨rfl, rfl⟩

theorem lns_drop {rs : List Rw} {j : Nat} {r : Rw} (h : rs[j]? = some r) : lnsErr (rs.drop j) = if lnErr r.zs ≠ 0 then lnErr r.zs else lnsErr (rs.drop (j + 1)) := by
  obtain ⟨hk, e⟩ := List.getElem?_eq_some_iff.1 h
  rw [List.drop_eq_getElem_cons hk, e]; rfl

set_option maxHeartbeats 1600000 in
theorem checkL_any (S : Option Addr) (cap : Nat) (rs : List Rw) (w : World) (hr : RowsIn w S rs) (hl : rs.length ≤ maxLen) : Calls Try.prog 47 #[.slice S rs.length cap] w fun e w' => e = .returned (.int .i64 (lnsErr rs)) ∧ w = w' := by
  obtain ⟨n, hn⟩ : ∃ n, n = rs.length := ⟨_, rfl⟩
  rw [← hn] at hl ⊢
  unfold maxLen at hl
  have HN := Lib.hid hn
  clear hn
  go_enter Try.func47, Try.ntmps47
  go_wp2
  go_loop [7] (fun i => ∃ (j : Nat), j ≤ n ∧ i = .int .i64 j ∧ Hid (lnsErr rs = lnsErr (rs.drop j))) (fun i => n - (intOf i).toNat)
  case atStart => exact ⟨0, Nat.zero_le _, rfl, Lib.hid rfl⟩
  case round =>
    obtain ⟨j, hj, rfl, hf⟩ := hrel
    by_cases hlt : j < n
    · have hk : j < rs.length := by have := HN.out; omega
      have hget := List.getElem?_eq_getElem hk
      obtain ⟨r, hrr⟩ : ∃ r, r = rs[j] := ⟨_, rfl⟩
      rw [← hrr] at hget
      obtain ⟨b, o, rfl, hb, hc, hi, hml⟩ := hr j r hget
      have HF := Lib.hid (show lnsErr rs = if lnErr r.zs ≠ 0 then lnErr r.zs else lnsErr (rs.drop (j + 1)) by rw [hf.out, lns_drop hget])
      have HA := Lib.hid (fun wx (e : w = wx) => allS_any r.A r.c r.zs wx (e ▸ hi) hml)
      clear hrr hget hk hf hr
      obtain ⟨V, hV⟩ : ∃ V, V = negB r.zs := ⟨_, rfl⟩
      have HE := Lib.hid (show lnErr r.zs = if 60 < r.zs.length then 2 else if V = true then 23 else 0 by rw [hV]; rfl)
      rw [← hV] at HA
      clear hV hi
      obtain ⟨m, hm⟩ : ∃ m, m = r.zs.length := ⟨_, rfl⟩
      rw [← hm] at hc HA HE hml
      clear hm
      unfold maxLen at hml
      by_cases h1 : 60 < m
      · have hR := Lib.hid (show lnsErr rs = 2 by rw [HF.out, HE.out, if_pos h1]; rfl)
        go_wp2
        go_ret
        exact ⟨of_int hR.out.symm, rfl⟩
      · cases V with
        | true =>
          have hR := Lib.hid (show lnsErr rs = 23 by rw [HF.out, HE.out, if_neg h1]; rfl)
          go_wp2_with (first | (go_at_call 84; refine (HA.out _ rfl).mono ?_; rintro e w' ⟨rfl, rfl⟩))
          go_ret
          exact ⟨of_int hR.out.symm, rfl⟩
        | false =>
          have hR := Lib.hid (show lnsErr rs = lnsErr (rs.drop (j + 1)) by rw [HF.out, HE.out, if_neg h1]; rfl)
          go_wp2_with (first | (go_at_call 84; refine (HA.out _ rfl).mono ?_; rintro e w' ⟨rfl, rfl⟩))
          go_round
          case rel => exact ⟨j + 1, by omega, by go_num, hR⟩
          case measure => simp [intOf]; omega
    · obtain rfl : j = n := by omega
      have hR := Lib.hid (show lnsErr rs = 0 by rw [hf.out, List.drop_eq_nil_of_le (by have := HN.out; omega)]; rfl)
      go_wp2
      go_ret
      exact ⟨of_int hR.out.symm, rfl⟩

end Go.Proofs.Ytcpfhaoecggflaa
