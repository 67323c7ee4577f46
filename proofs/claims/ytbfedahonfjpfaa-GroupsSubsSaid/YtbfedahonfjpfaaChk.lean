/-
  Contracts of the check of one value (checkValue).
-/
import Derived.Test.YtbfedahonfjpfaaMem
namespace Go.Proofs.Ytbfedahonfjpfaa
open Go.RowKit

set_option maxHeartbeats 1600000 in
theorem checkValue_any (v : Va) (A : Option Addr) (vs : List Va) (n cap : Nat) (p : Int) (w : World) (hv : v.text.size ≤ maxLen) (hvs : ValsAt w A vs) (hn : n = vs.length) (hl : n ≤ maxLen) :
    Calls Try.prog 107 #[v.val, .slice A n cap, .int .i64 p] w fun e w' => e = .returned (.int .i64 (valErr v vs p)) ∧ Below w.heap.size w w' := by
  have hl' := hl
  unfold maxLen at hl'
  have HN := Lib.hid hn
  clear hn hl
  unfold Va.val
  by_cases h1 : kindB v.kind = true
  case neg =>
    have h1 : kindB v.kind = false := by simpa using h1
    have hf := Lib.hid (show valErr v vs p = 12 by simp [valErr, h1])
    go_enter Try.func107, Try.ntmps107
    go_wp2_with (first | (go_at_call 115; refine (kind_any _ _).mono ?_; rintro e w' ⟨rfl, rfl⟩) | (go_at_call 116; refine (text_any _ _ _ hv).mono ?_; rintro e w' ⟨rfl, rfl⟩))
    go_ret
    exact ⟨of_int (by rw [hf.out]), below_alloc _ _⟩
  by_cases h2 : textB v.kind v.text = true
  case neg =>
    have h2 : textB v.kind v.text = false := by simpa using h2
    have hf := Lib.hid (show valErr v vs p = 12 by simp [valErr, h2])
    go_enter Try.func107, Try.ntmps107
    go_wp2_with (first | (go_at_call 115; refine (kind_any _ _).mono ?_; rintro e w' ⟨rfl, rfl⟩) | (go_at_call 116; refine (text_any _ _ _ hv).mono ?_; rintro e w' ⟨rfl, rfl⟩))
    go_ret
    exact ⟨of_int (by rw [hf.out]), below_alloc _ _⟩
  by_cases h3 : 1 ≤ v.fr ∧ v.fr ≤ v.to ∧ v.to ≤ p
  case neg =>
    have hf := Lib.hid (show valErr v vs p = 13 by
      unfold valErr
      rw [if_neg (by rw [h1, h2]; simp), if_pos (by omega)])
    by_cases h4 : 1 ≤ v.fr
    · by_cases h5 : v.fr ≤ v.to
      · have h6 : p < v.to := by omega
        clear h3
        go_enter Try.func107, Try.ntmps107
        go_wp2_with (first | (go_at_call 115; refine (kind_any _ _).mono ?_; rintro e w' ⟨rfl, rfl⟩) | (go_at_call 116; refine (text_any _ _ _ hv).mono ?_; rintro e w' ⟨rfl, rfl⟩))
        go_ret
        exact ⟨of_int (by rw [hf.out]), below_alloc _ _⟩
      · clear h3
        go_enter Try.func107, Try.ntmps107
        go_wp2_with (first | (go_at_call 115; refine (kind_any _ _).mono ?_; rintro e w' ⟨rfl, rfl⟩) | (go_at_call 116; refine (text_any _ _ _ hv).mono ?_; rintro e w' ⟨rfl, rfl⟩))
        go_ret
        exact ⟨of_int (by rw [hf.out]), below_alloc _ _⟩
    · clear h3
      go_enter Try.func107, Try.ntmps107
      go_wp2_with (first | (go_at_call 115; refine (kind_any _ _).mono ?_; rintro e w' ⟨rfl, rfl⟩) | (go_at_call 116; refine (text_any _ _ _ hv).mono ?_; rintro e w' ⟨rfl, rfl⟩))
      go_ret
      exact ⟨of_int (by rw [hf.out]), below_alloc _ _⟩
  have hf := Lib.hid (show valErr v vs p = if vs.any (fun b => collideB b v) then 12 else 0 by
      unfold valErr
      rw [if_neg (by rw [h1, h2]; simp), if_neg (by omega)])
  obtain ⟨h4, h5, h6⟩ := h3
  have hbox := VaAt.box w v hv 116
  go_enter Try.func107, Try.ntmps107
  go_wp2_with (first | (go_at_call 115; refine (kind_any _ _).mono ?_; rintro e w' ⟨rfl, rfl⟩) | (go_at_call 116; refine (text_any _ _ _ hv).mono ?_; rintro e w' ⟨rfl, rfl⟩))
  clear h1 h2 h4 h5 h6
  obtain ⟨W, hW⟩ : ∃ W, W = w.alloc (.cells #[.int .i64 v.kind, .string v.text, .int .i64 v.fr, .int .i64 v.to] 116) := ⟨_, rfl⟩
  have hWs : W.heap.size = w.heap.size + 1 := by rw [hW]; simp
  have hWb : Below w.heap.size w W := by rw [hW]; exact below_alloc _ _
  rw [← hW] at hbox
  rw [← hW]
  have HW := Lib.hid hW
  have HWs := Lib.hid hWs
  have HWb := Lib.hid hWb
  have HB := Lib.hid hbox
  clear hW hWs hWb hbox
  go_loopw [39] (fun i wr => ∃ k : Nat, k ≤ n ∧ i = .int .i64 k ∧ Hid (Below W.heap.size W wr) ∧ Hid ((vs.take k).any (fun b => collideB b v) = false)) (fun i _ => n - (intOf i).toNat)
  case atStart => exact ⟨0, Nat.zero_le _, rfl, Lib.hid (Below.refl _ _), Lib.hid (by simp)⟩
  case round =>
    obtain ⟨k, hk, rfl, hb, hno⟩ := hrel
    have bx := HB.out.below hb.out (by have := HWs.out; omega)
    obtain ⟨x0, x1, x2, x3⟩ := bx.at0
    by_cases hlt : k < n
    · have hget : vs[k]? = some (vs[k]'(by have := HN.out; omega)) := List.getElem?_eq_getElem _
      obtain ⟨u, hu⟩ : ∃ u, u = vs[k]'(by have := HN.out; omega) := ⟨_, rfl⟩
      rw [← hu] at hget
      obtain ⟨b, o, rfl, hb1, hva⟩ := hvs k u hget
      have hw1 := below_more HWb.out hb.out
      obtain ⟨y0, y1, y2, y3, ysz⟩ := hva.below hw1 hb1
      have GET := Lib.hid hget
      clear hu hget hva
      have hsz : w.heap.size < wr.heap.size := by have := hb.out.size; have := HWs.out; omega
      have hsb : b < wr.heap.size := by omega
      clear bx hb1
      by_cases hc : collideB u v = true
      · have hfin := Lib.hid (any_true (fun b => collideB b v) vs k u GET.out hc)
        go_wp2_with (go_at_call 117; refine (col_any u v _).mono ?_; rintro e w' ⟨rfl, hb2⟩)
        go_ret
        exact ⟨of_int (by rw [hf.out, hfin.out]; rfl), (below_more hw1 ((below_alloc _ _).trans (hb2.mono (by simp))))⟩
      · have hc : collideB u v = false := by simpa using hc
        have hstep := Lib.hid (any_step (fun b => collideB b v) vs k u GET.out hno.out hc)
        go_wp2_with (go_at_call 117; refine (col_any u v _).mono ?_; rintro e w' ⟨rfl, hb2⟩)
        go_roundw
        case rel => exact ⟨k + 1, by omega, by go_num, Lib.hid (hb.out.trans (((below_alloc _ _).trans (hb2.mono (by simp))).mono hb.out.size)), hstep⟩
        case measure => simp [intOf]; omega
    · obtain rfl : k = n := by omega
      have hsz := hb.out.size
      go_wp2
      go_ret
      refine ⟨of_int ?_, below_more HWb.out hb.out⟩
      rw [hf.out]
      have := hno.out
      rw [HN.out, List.take_length] at this
      rw [this]; rfl

end Go.Proofs.Ytbfedahonfjpfaa
