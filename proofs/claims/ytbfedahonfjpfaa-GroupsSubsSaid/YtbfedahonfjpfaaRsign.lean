/-
  Contracts of the specification's check of one sign (sign).
-/
import Derived.Test.YtbfedahonfjpfaaSign
namespace Go.Proofs.Ytbfedahonfjpfaa
open Go.RowKit

theorem kindB_of {k : Int} (h1 : 1 ≤ k) (h2 : k ≤ 3) : kindB k = true := by simp [kindB, h1, h2]

theorem rcol_is (a b : Va) (w : World) (r : Bool) (h : collideB a b = r) : Calls Try.prog 111 #[a.val, b.val] w fun e w' => e = .returned (.bool r) ∧ Below w.heap.size w w' := by
  rw [← h]; exact rcol_any a b w

set_option maxHeartbeats 3200000 in
theorem rsign_any (m : Sm) (p : Int) (w : World) (hm : SmOk w m) :
    Calls Try.prog 96 #[m.val, .int .i64 p] w fun e w' => e = .returned (.int .i64 (signErr m.s p)) ∧ Below w.heap.size w w' := by
  obtain ⟨⟨code, wide, high, even, vs⟩, A, cap⟩ := m
  obtain ⟨hvs, hl, hcap, hcode⟩ := hm
  dsimp only at hvs hl hcap hcode
  have hbox := SmAt.box w ⟨⟨code, wide, high, even, vs⟩, A, cap⟩ 76
  dsimp only at hbox
  unfold Sm.val
  dsimp only
  obtain ⟨n, hn⟩ : ∃ n, n = vs.length := ⟨_, rfl⟩
  rw [← hn] at hl hbox ⊢
  have hcap' := hcap
  unfold maxLen at hcap'
  have HN := Lib.hid hn
  clear hn
  have h1 : (withinB wide 12 && withinB high 12) = (decide (1 ≤ wide) && decide (wide ≤ 12) && (decide (1 ≤ high) && decide (high ≤ 12))) := rfl
  by_cases a1 : 1 ≤ wide
  case neg =>
    have hf := Lib.hid (show signErr ⟨code, wide, high, even, vs⟩ p = 11 by simp [signErr, h1, a1])
    clear hbox h1
    go_enter Try.func96, Try.ntmps96
    go_wp2
    go_ret
    exact ⟨of_int (by rw [hf.out]), below_alloc _ _⟩
  by_cases a2 : wide ≤ 12
  case neg =>
    have hf := Lib.hid (show signErr ⟨code, wide, high, even, vs⟩ p = 11 by simp [signErr, h1, a2])
    clear hbox h1
    go_enter Try.func96, Try.ntmps96
    go_wp2
    go_ret
    exact ⟨of_int (by rw [hf.out]), below_alloc _ _⟩
  by_cases a3 : 1 ≤ high
  case neg =>
    have hf := Lib.hid (show signErr ⟨code, wide, high, even, vs⟩ p = 11 by simp [signErr, h1, a3])
    clear hbox h1
    go_enter Try.func96, Try.ntmps96
    go_wp2
    go_ret
    exact ⟨of_int (by rw [hf.out]), below_alloc _ _⟩
  by_cases a4 : high ≤ 12
  case neg =>
    have hf := Lib.hid (show signErr ⟨code, wide, high, even, vs⟩ p = 11 by simp [signErr, h1, a4])
    clear hbox h1
    go_enter Try.func96, Try.ntmps96
    go_wp2
    go_ret
    exact ⟨of_int (by rw [hf.out]), below_alloc _ _⟩
  by_cases h3 : n ≤ 12
  case neg =>
    have hf := Lib.hid (show signErr ⟨code, wide, high, even, vs⟩ p = 2 by
      unfold signErr
      rw [if_neg (by rw [h1]; simp [a1, a2, a3, a4]), if_pos (by dsimp only; rw [← HN.out]; omega)])
    clear hbox h1
    go_enter Try.func96, Try.ntmps96
    go_wp2
    go_ret
    exact ⟨of_int (by rw [hf.out]), below_alloc _ _⟩
  have hf := Lib.hid (show signErr ⟨code, wide, high, even, vs⟩ p = valsErr p [] vs by
      unfold signErr
      rw [if_neg (by rw [h1]; simp [a1, a2, a3, a4]), if_neg (by dsimp only; rw [← HN.out]; omega)])
  have HB := Lib.hid hbox
  clear hbox h1
  go_enter Try.func96, Try.ntmps96
  go_wp2
  clear a1 a2 a3 a4
  obtain ⟨W, hW⟩ : ∃ W, W = w.alloc (.cells #[.string code, .int .i64 wide, .int .i64 high, .bool even, .slice A n cap] 76) := ⟨_, rfl⟩
  have HWs := Lib.hid (show W.heap.size = w.heap.size + 1 by rw [hW]; simp)
  have HWb := Lib.hid (show Below w.heap.size w W by rw [hW]; exact below_alloc _ _)
  rw [← hW] at HB
  rw [← hW]
  clear hW
  go_loopw [5] (fun i wr => ∃ k : Nat, k ≤ n ∧ i = .int .i64 k ∧ Hid (Below W.heap.size W wr) ∧ Hid (valsErr p (vs.take k) (vs.drop k) = valsErr p [] vs)) (fun i _ => n - (intOf i).toNat)
  case atStart => exact ⟨0, Nat.zero_le _, rfl, Lib.hid (Below.refl _ _), Lib.hid (by simp)⟩
  case round =>
    obtain ⟨k, hk, rfl, hb, hno⟩ := hrel
    obtain ⟨wo, rfl⟩ : ∃ wo : World, wo = wr := ⟨_, rfl⟩
    have bx := HB.out.below hb.out (by have := HWs.out; omega)
    have hsz : w.heap.size < wo.heap.size := by have := hb.out.size; have := HWs.out; omega
    have hsz1 : w.heap.size < wo.heap.size + 1 := by omega
    have hw1 := Lib.hid (below_more HWb.out hb.out)
    obtain ⟨x0, x1, x2, x3, x4⟩ := bx.at0
    rw [show (⟨⟨code, wide, high, even, vs⟩, A, cap⟩ : Sm).s.vals.length = n from HN.out.symm] at x4
    dsimp only at x0 x1 x2 x3 x4
    have bx := Lib.hid bx
    by_cases hlt : k < n
    · have hget : vs[k]? = some (vs[k]'(by have := HN.out; omega)) := List.getElem?_eq_getElem _
      obtain ⟨u, hu⟩ : ∃ u, u = vs[k]'(by have := HN.out; omega) := ⟨_, rfl⟩
      rw [← hu] at hget
      obtain ⟨b, o, hA, hb1, hva⟩ := hvs k u hget
      have hvr := Lib.hid (hvs.below hw1.out)
      subst hA
      obtain ⟨y0, y1, y2, y3, ysz⟩ := hva.below hw1.out hb1
      have GET := Lib.hid hget
      have hkc : k ≤ cap := by omega
      have hsb : b < wo.heap.size := by omega
      have hsb1 : b < wo.heap.size + 1 := by omega
      clear hu hget hva hvs
      by_cases k1 : 1 ≤ u.kind
      case neg =>
        have hv0 : valErr u (vs.take k) p = 12 := by simp [valErr, kindB, k1]
        have hfin := Lib.hid (valsErr_stop p vs k u GET.out (by rw [hv0]; decide))
        have HV := Lib.hid hv0
        clear hv0
        go_wp2_with (first | (go_at_call 110; refine (right_any _ _ _ ysz).mono ?_; rintro e w' ⟨rfl, rfl⟩))
        go_ret
        exact ⟨of_int (by rw [hf.out, ← hno.out, hfin.out, HV.out]), below_more hw1.out (below_alloc _ _)⟩
      by_cases k2 : u.kind ≤ 3
      case neg =>
        have hv0 : valErr u (vs.take k) p = 12 := by simp [valErr, kindB, k2]
        have hfin := Lib.hid (valsErr_stop p vs k u GET.out (by rw [hv0]; decide))
        have HV := Lib.hid hv0
        clear hv0
        go_wp2_with (first | (go_at_call 110; refine (right_any _ _ _ ysz).mono ?_; rintro e w' ⟨rfl, rfl⟩))
        go_ret
        exact ⟨of_int (by rw [hf.out, ← hno.out, hfin.out, HV.out]), below_more hw1.out (below_alloc _ _)⟩
      by_cases k3 : textB u.kind u.text = true
      case neg =>
        have k3 : textB u.kind u.text = false := by simpa using k3
        have hv0 : valErr u (vs.take k) p = 12 := by simp [valErr, k3]
        have hfin := Lib.hid (valsErr_stop p vs k u GET.out (by rw [hv0]; decide))
        have HV := Lib.hid hv0
        clear hv0
        go_wp2_with (first | (go_at_call 110; refine (right_any _ _ _ ysz).mono ?_; rintro e w' ⟨rfl, rfl⟩))
        go_ret
        exact ⟨of_int (by rw [hf.out, ← hno.out, hfin.out, HV.out]), below_more hw1.out (below_alloc _ _)⟩
      have hkt := Lib.hid (show ¬ (kindB u.kind && textB u.kind u.text) = false by rw [kindB_of k1 k2, k3]; simp)
      by_cases h4 : 1 ≤ u.fr
      case neg =>
        have hv0 : valErr u (vs.take k) p = 13 := by unfold valErr; rw [if_neg hkt.out, if_pos (by omega)]
        have hfin := Lib.hid (valsErr_stop p vs k u GET.out (by rw [hv0]; decide))
        have HV := Lib.hid hv0
        clear hv0
        go_wp2_with (first | (go_at_call 110; refine (right_any _ _ _ ysz).mono ?_; rintro e w' ⟨rfl, rfl⟩))
        go_ret
        exact ⟨of_int (by rw [hf.out, ← hno.out, hfin.out, HV.out]), below_more hw1.out (below_alloc _ _)⟩
      by_cases h5 : u.fr ≤ u.to
      case neg =>
        have hv0 : valErr u (vs.take k) p = 13 := by unfold valErr; rw [if_neg hkt.out, if_pos (by omega)]
        have hfin := Lib.hid (valsErr_stop p vs k u GET.out (by rw [hv0]; decide))
        have HV := Lib.hid hv0
        clear hv0
        go_wp2_with (first | (go_at_call 110; refine (right_any _ _ _ ysz).mono ?_; rintro e w' ⟨rfl, rfl⟩))
        go_ret
        exact ⟨of_int (by rw [hf.out, ← hno.out, hfin.out, HV.out]), below_more hw1.out (below_alloc _ _)⟩
      by_cases h6 : u.to ≤ p
      case neg =>
        have hv0 : valErr u (vs.take k) p = 13 := by unfold valErr; rw [if_neg hkt.out, if_pos (by omega)]
        have hfin := Lib.hid (valsErr_stop p vs k u GET.out (by rw [hv0]; decide))
        have HV := Lib.hid hv0
        clear hv0
        go_wp2_with (first | (go_at_call 110; refine (right_any _ _ _ ysz).mono ?_; rintro e w' ⟨rfl, rfl⟩))
        go_ret
        exact ⟨of_int (by rw [hf.out, ← hno.out, hfin.out, HV.out]), below_more hw1.out (below_alloc _ _)⟩
      have hval := Lib.hid (show valErr u (vs.take k) p = if (vs.take k).any (fun b => collideB b u) then 12 else 0 by
        unfold valErr
        rw [if_neg hkt.out, if_neg (by omega)])
      have HU := Lib.hid (VaAt.box wo u ysz 116)
      go_wp2_with (first | (go_at_call 110; refine (right_any _ _ _ ysz).mono ?_; rintro e w' ⟨rfl, rfl⟩))
      clear k1 k2 k3 h4 h5 h6
      obtain ⟨V, hV⟩ : ∃ V, V = wo.alloc (.cells #[.int .i64 u.kind, .string u.text, .int .i64 u.fr, .int .i64 u.to] 116) := ⟨_, rfl⟩
      have HVs := Lib.hid (show V.heap.size = wo.heap.size + 1 by rw [hV]; simp)
      have HVb := Lib.hid (show Below wo.heap.size wo V by rw [hV]; exact below_alloc _ _)
      rw [← hV] at HU
      rw [← hV]
      clear hV y0 y1 y2 y3 x0 x1 x2 x3 x4
      go_loopw [7] (fun j wr => ∃ c : Nat, c ≤ k ∧ j = .int .i64 c ∧ Hid (Below V.heap.size V wr) ∧ Hid ((vs.take c).any (fun b => collideB b u) = false)) (fun j _ => k - (intOf j).toNat)
      case atStart => exact ⟨0, Nat.zero_le _, rfl, Lib.hid (Below.refl _ _), Lib.hid (by simp)⟩
      case round =>
        obtain ⟨c, hc, rfl, hq, hnc⟩ := hrel
        have hwq := Lib.hid (below_more HVb.out hq.out)
        have hqs := hq.out.size
        have hvs1 := HVs.out
        obtain ⟨x0, x1, x2, x3, x4⟩ := (bx.out.below hwq.out (by omega)).at0
        rw [show (⟨⟨code, wide, high, even, vs⟩, some ⟨b, o, none⟩, cap⟩ : Sm).s.vals.length = n from HN.out.symm] at x4
        dsimp only at x0 x1 x2 x3 x4
        obtain ⟨z0, z1, z2, z3⟩ := (HU.out.below hq.out (by omega)).at0
        have e1 : w.heap.size < wr.heap.size := by omega
        have e2 : wo.heap.size < wr.heap.size := by omega
        have e3 : b < wr.heap.size := by omega
        clear hqs hvs1
        by_cases hck : c < k
        · have hget : vs[c]? = some (vs[c]'(by have := HN.out; omega)) := List.getElem?_eq_getElem _
          obtain ⟨q, hu⟩ : ∃ q, q = vs[c]'(by have := HN.out; omega) := ⟨_, rfl⟩
          rw [← hu] at hget
          obtain ⟨b', o', hA', hb1', hva'⟩ := hvr.out c q hget
          injection hA' with hA'
          injection hA' with e5 e6
          subst e5 e6
          obtain ⟨y0, y1, y2, y3, ysz'⟩ := hva'.below hwq.out hb1'
          have GETq := Lib.hid hget
          have hcn : c < n := by omega
          have hcc : c ≤ cap := by omega
          clear hu hget hva' hb1'
          by_cases hcol : collideB q u = true
          · have hv0 : valErr u (vs.take k) p = 12 := by rw [hval.out, if_pos (any_true _ _ c q (by rw [List.getElem?_take, if_pos hck]; exact GETq.out) hcol)]
            have hfin := Lib.hid (valsErr_stop p vs k u GET.out (by rw [hv0]; decide))
            have HV := Lib.hid hv0
            clear hv0
            go_wp2
            refine wp_region_later (by kernel_rfl) (by kernel_rfl) ?_; (repeat (first | go_big_quiet_step (((go_at_call 111; exact Calls.later _ (rcol_is q u _ true hcol)))) | quiet_step (((go_at_call 111; exact Calls.later _ (rcol_is q u _ true hcol)))))); refine wpQuiet_nil ?_; rintro _ ⟨s, rfl⟩
            go_wp2
            go_ret
            exact ⟨of_int (by rw [hf.out, ← hno.out, hfin.out, HV.out]), below_more hw1.out (below_more hwq.out s.below)⟩
          · have hcol : collideB q u = false := by simpa using hcol
            have hstep := Lib.hid (any_step (fun b => collideB b u) vs c q GETq.out hnc.out hcol)
            go_wp2
            refine wp_region_later (by kernel_rfl) (by kernel_rfl) ?_; (repeat (first | go_big_quiet_step (((go_at_call 111; exact Calls.later _ (rcol_is q u _ false hcol)))) | quiet_step (((go_at_call 111; exact Calls.later _ (rcol_is q u _ false hcol)))))); refine wpQuiet_nil ?_; rintro _ ⟨s, rfl⟩
            go_wp2
            go_roundw
            case rel => exact ⟨c + 1, by omega, by go_num, Lib.hid (hq.out.trans (s.below.mono hq.out.size)), hstep⟩
            case measure => simp [intOf]; omega
        · obtain rfl : c = k := by omega
          have hv0 := Lib.hid (show valErr u (vs.take c) p = 0 by rw [hval.out, if_neg (by rw [hnc.out]; simp)])
          have hfin := Lib.hid (valsErr_step p vs c u GET.out hv0.out)
          go_wp2
          go_roundw
          case rel => exact ⟨c + 1, by omega, by go_num, Lib.hid (hb.out.trans (hwq.out.mono hb.out.size)), Lib.hid (by rw [← hfin.out]; exact hno.out)⟩
          case measure => simp [intOf]; omega
    · obtain rfl : k = n := by omega
      go_wp2
      go_ret
      refine ⟨of_int ?_, hw1.out⟩
      have := hno.out
      rw [hf.out, ← this, HN.out, valsErr_end]

end Go.Proofs.Ytbfedahonfjpfaa
