/-
  Contracts of the check of one sign (checkSign).
-/
import Derived.Test.YtbfedahonfjpfaaChk
namespace Go.Proofs.Ytbfedahonfjpfaa
open Go.RowKit

set_option maxHeartbeats 1600000 in
theorem checkSign_any (m : Sm) (p : Int) (w : World) (hm : SmOk w m) :
    Calls Try.prog 88 #[m.val, .int .i64 p] w fun e w' => e = .returned (.int .i64 (signErr m.s p)) ∧ Below w.heap.size w w' := by
  obtain ⟨⟨code, wide, high, even, vs⟩, A, cap⟩ := m
  obtain ⟨hvs, hl, hcap, hcode⟩ := hm
  dsimp only at hvs hl hcap hcode
  have hbox := SmAt.box w ⟨⟨code, wide, high, even, vs⟩, A, cap⟩ 76
  dsimp only at hbox
  unfold Sm.val
  dsimp only
  obtain ⟨n, hn⟩ : ∃ n, n = vs.length := ⟨_, rfl⟩
  rw [← hn] at hl hbox ⊢
  have hl' := hl
  have hcap' := hcap
  unfold maxLen at hcap'
  have HN := Lib.hid hn
  clear hn
  by_cases h1 : withinB wide 12 = true
  case neg =>
    have h1 : withinB wide 12 = false := by simpa using h1
    have hf := Lib.hid (show signErr ⟨code, wide, high, even, vs⟩ p = 11 by simp [signErr, h1])
    clear hbox
    go_enter Try.func88, Try.ntmps88
    go_wp2_with (first | (go_at_call 86; refine (within_any _ _ _).mono ?_; rintro e w' ⟨rfl, rfl⟩))
    go_ret
    exact ⟨of_int (by rw [hf.out]), below_alloc _ _⟩
  by_cases h2 : withinB high 12 = true
  case neg =>
    have h2 : withinB high 12 = false := by simpa using h2
    have hf := Lib.hid (show signErr ⟨code, wide, high, even, vs⟩ p = 11 by simp [signErr, h2])
    clear hbox
    go_enter Try.func88, Try.ntmps88
    go_wp2_with (first | (go_at_call 86; refine (within_any _ _ _).mono ?_; rintro e w' ⟨rfl, rfl⟩))
    go_ret
    exact ⟨of_int (by rw [hf.out]), below_alloc _ _⟩
  by_cases h3 : n ≤ 12
  case neg =>
    have hf := Lib.hid (show signErr ⟨code, wide, high, even, vs⟩ p = 2 by
      unfold signErr
      rw [if_neg (by rw [h1, h2]; simp), if_pos (by dsimp only; rw [← HN.out]; omega)])
    clear hbox
    go_enter Try.func88, Try.ntmps88
    go_wp2_with (first | (go_at_call 86; refine (within_any _ _ _).mono ?_; rintro e w' ⟨rfl, rfl⟩))
    go_ret
    exact ⟨of_int (by rw [hf.out]), below_alloc _ _⟩
  have hf := Lib.hid (show signErr ⟨code, wide, high, even, vs⟩ p = valsErr p [] vs by
      unfold signErr
      rw [if_neg (by rw [h1, h2]; simp), if_neg (by dsimp only; rw [← HN.out]; omega)])
  have HB := Lib.hid hbox
  clear hbox
  go_enter Try.func88, Try.ntmps88
  go_wp2_with (first | (go_at_call 86; refine (within_any _ _ _).mono ?_; rintro e w' ⟨rfl, rfl⟩))
  clear h1 h2
  obtain ⟨W, hW⟩ : ∃ W, W = w.alloc (.cells #[.string code, .int .i64 wide, .int .i64 high, .bool even, .slice A n cap] 76) := ⟨_, rfl⟩
  have HWs := Lib.hid (show W.heap.size = w.heap.size + 1 by rw [hW]; simp)
  have HWb := Lib.hid (show Below w.heap.size w W by rw [hW]; exact below_alloc _ _)
  rw [← hW] at HB
  rw [← hW]
  clear hW
  go_loopw [25] (fun i wr => ∃ k : Nat, k ≤ n ∧ i = .int .i64 k ∧ Hid (Below W.heap.size W wr) ∧ Hid (valsErr p (vs.take k) (vs.drop k) = valsErr p [] vs)) (fun i _ => n - (intOf i).toNat)
  case atStart => exact ⟨0, Nat.zero_le _, rfl, Lib.hid (Below.refl _ _), Lib.hid (by simp)⟩
  case round =>
    obtain ⟨k, hk, rfl, hb, hno⟩ := hrel
    have bx := HB.out.below hb.out (by have := HWs.out; omega)
    have hsz : w.heap.size < wr.heap.size := by have := hb.out.size; have := HWs.out; omega
    have hsz1 : w.heap.size < wr.heap.size + 1 := by omega
    have hw1 := Lib.hid (below_more HWb.out hb.out)
    obtain ⟨x0, x1, x2, x3, x4⟩ := bx.at0
    rw [show (⟨⟨code, wide, high, even, vs⟩, A, cap⟩ : Sm).s.vals.length = n from HN.out.symm] at x4
    dsimp only at x0 x1 x2 x3 x4
    clear bx
    by_cases hlt : k < n
    · have hget : vs[k]? = some (vs[k]'(by have := HN.out; omega)) := List.getElem?_eq_getElem _
      obtain ⟨u, hu⟩ : ∃ u, u = vs[k]'(by have := HN.out; omega) := ⟨_, rfl⟩
      rw [← hu] at hget
      obtain ⟨b, o, hA, hb1, hva⟩ := hvs k u hget
      have hvr := Lib.hid ((hvs.below hw1.out).take k)
      subst hA
      obtain ⟨y0, y1, y2, y3, ysz⟩ := hva.below hw1.out hb1
      have GET := Lib.hid hget
      have hkc : k ≤ cap := by omega
      have hsb : b < wr.heap.size := by omega
      clear hu hget hva hb1 hvs
      have hkl := Lib.hid (show k = (vs.take k).length by rw [List.length_take]; have := HN.out; omega)
      have hkm := Lib.hid (show k ≤ maxLen by unfold maxLen; omega)
      by_cases hc : valErr u (vs.take k) p = 0
      · have hfin := Lib.hid (valsErr_step p vs k u GET.out hc)
        have hc' : (valErr u (vs.take k) p != 0) = false := by simpa using hc
        clear hc
        go_wp2
        refine wp_region_later (by kernel_rfl) (by kernel_rfl) ?_; (repeat (first | go_big_quiet_step (((go_at_call 107; exact Calls.later _ (checkValue_any u _ (vs.take k) k _ _ _ ysz (hvr.out.below (below1 _)) hkl.out hkm.out)))) | quiet_step (((go_at_call 107; exact Calls.later _ (checkValue_any u _ (vs.take k) k _ _ _ ysz (hvr.out.below (below1 _)) hkl.out hkm.out)))))); refine wpQuiet_nil ?_; rintro _ ⟨s, rfl⟩
        go_wp2
        go_roundw
        case rel => exact ⟨k + 1, by omega, by go_num, Lib.hid (hb.out.trans ((below1 s).mono hb.out.size)), Lib.hid (by rw [← hfin.out]; exact hno.out)⟩
        case measure => simp [intOf]; omega
      · have hfin := Lib.hid (valsErr_stop p vs k u GET.out hc)
        have hc' : (valErr u (vs.take k) p != 0) = true := by simpa using hc
        clear hc
        go_wp2
        refine wp_region_later (by kernel_rfl) (by kernel_rfl) ?_; (repeat (first | go_big_quiet_step (((go_at_call 107; exact Calls.later _ (checkValue_any u _ (vs.take k) k _ _ _ ysz (hvr.out.below (below1 _)) hkl.out hkm.out)))) | quiet_step (((go_at_call 107; exact Calls.later _ (checkValue_any u _ (vs.take k) k _ _ _ ysz (hvr.out.below (below1 _)) hkl.out hkm.out)))))); refine wpQuiet_nil ?_; rintro _ ⟨s, rfl⟩
        go_wp2
        go_ret
        exact ⟨of_int (by rw [hf.out, ← hno.out, hfin.out]), below_more hw1.out (below1 s)⟩
    · obtain rfl : k = n := by omega
      go_wp2
      go_ret
      refine ⟨of_int ?_, hw1.out⟩
      have := hno.out
      rw [hf.out, ← this, HN.out, valsErr_end]

end Go.Proofs.Ytbfedahonfjpfaa
