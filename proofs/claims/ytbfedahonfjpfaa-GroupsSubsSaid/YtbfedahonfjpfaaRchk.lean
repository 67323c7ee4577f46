/-
  Contract of the specification's Check.
-/
import Derived.Test.YtbfedahonfjpfaaIdx
namespace Go.Proofs.Ytbfedahonfjpfaa
open Go.RowKit

theorem strEq_refl (a : ByteArray) : strEq a a = true := by simp [strEq]
/-- the first place of a sign's own code lies before the sign exactly if a sign before has it -/
theorem indexI_lt (l : List Sg) (k : Nat) (s : Sg) (h : l[k]? = some s) : decide (indexI l s.code < (k : Int)) = (l.take k).any (fun d => strEq d.code s.code) := by
  obtain ⟨hk, rfl⟩ := List.getElem?_eq_some_iff.1 h
  cases hf : l.findIdx? (fun d => strEq d.code l[k].code) with
  | none =>
    rw [List.findIdx?_eq_none_iff] at hf
    have := hf l[k] (List.getElem_mem hk)
    rw [strEq_refl] at this; cases this
  | some i =>
    rw [List.findIdx?_eq_some_iff_getElem] at hf
    obtain ⟨hi, hp, hlt⟩ := hf
    have hI : indexI l l[k].code = i := indexI_at l _ i l[i] (List.getElem?_eq_getElem hi) hp (by
      rw [List.any_eq_false]
      intro x hx
      obtain ⟨j, hj, rfl⟩ := List.mem_take_iff_getElem.1 hx
      simpa using hlt j (by omega))
    have hik : i ≤ k := by
      rcases Nat.lt_or_ge k i with h1 | h1
      · have := hlt k h1; rw [strEq_refl] at this; simp at this
      · exact h1
    rw [hI]
    rcases Nat.lt_or_ge i k with h1 | h1
    · rw [decide_eq_true (by omega)]
      symm
      rw [List.any_eq_true]
      exact ⟨l[i], List.mem_take_iff_getElem.2 ⟨i, by omega, rfl⟩, hp⟩
    · rw [decide_eq_false (by omega)]
      symm
      rw [List.any_eq_false]
      intro x hx
      obtain ⟨j, hj, rfl⟩ := List.mem_take_iff_getElem.1 hx
      simpa using hlt j (by omega)

theorem index_is (l : Lm) (code : ByteArray) (w : World) (hl : LmOk w l) (i : Int) (h : indexI l.signs code = i) :
    Calls Try.prog 95 #[l.val, .string code] w fun e w' => e = .returned (.int .i64 i) ∧ Below w.heap.size w w' := by
  rw [← h]; exact index_any l code w hl
theorem rcode_is (s : ByteArray) (w : World) (hs : s.size ≤ maxLen) (r : Bool) (h : codeB s = r) : Calls Try.prog 94 #[.string s] w fun e w' => e = .returned (.bool r) ∧ w = w' := by
  rw [← h]; exact rcode_any s w hs
theorem rsign_is (m : Sm) (p : Int) (w : World) (hm : SmOk w m) (i : Int) (h : signErr m.s p = i) :
    Calls Try.prog 96 #[m.val, .int .i64 p] w fun e w' => e = .returned (.int .i64 i) ∧ Below w.heap.size w w' := by
  rw [← h]; exact rsign_any m p w hm

set_option maxHeartbeats 1600000 in
theorem rcheck_any (l : Lm) (w : World) (hl : LmOk w l) :
    Calls Try.prog 60 #[l.val] w fun e w' => e = .returned (.int .i64 (checkErr l.li)) ∧ Below w.heap.size w w' := by
  have hs := hl.signs
  have hl0 := Lib.hid hl
  obtain ⟨L, hL⟩ : ∃ L, L = l := ⟨_, rfl⟩
  rw [← hL] at hl0
  have HL := Lib.hid hL
  clear hL
  obtain ⟨per, ms, A, cap⟩ := l
  obtain ⟨-, hlen, hcap⟩ := hl
  dsimp only at hs hlen hcap
  unfold Lm.val Lm.li Lm.signs
  dsimp only
  obtain ⟨n, hn⟩ : ∃ n, n = ms.length := ⟨_, rfl⟩
  rw [← hn] at hlen ⊢
  have hcap' := hcap
  unfold maxLen at hcap'
  have HN := Lib.hid hn
  have HNL := Lib.hid (show (ms.map (·.s)).length = n by rw [List.length_map]; exact hn.symm)
  clear hn
  by_cases h1 : n ≤ 200
  case neg =>
    have hf := Lib.hid (show checkErr ⟨per, ms.map (·.s)⟩ = 2 by unfold checkErr; rw [if_pos (by dsimp only; rw [HNL.out]; omega)])
    go_enter Try.func60, Try.ntmps60
    go_wp2
    go_ret
    exact ⟨of_int hf.out.symm, below_alloc _ _⟩
  have hg := Lib.hid (show ¬ 200 < (ms.map (·.s)).length by rw [HNL.out]; omega)
  have hp := Lib.hid (show withinB per 9 = (decide (1 ≤ per) && decide (per ≤ 9)) from rfl)
  by_cases h2 : 1 ≤ per
  case neg =>
    have hf := Lib.hid (show checkErr ⟨per, ms.map (·.s)⟩ = 13 by unfold checkErr; rw [if_neg hg.out, if_pos (by rw [hp.out]; simp [h2])])
    go_enter Try.func60, Try.ntmps60
    go_wp2
    go_ret
    exact ⟨of_int hf.out.symm, below_alloc _ _⟩
  by_cases h3 : per ≤ 9
  case neg =>
    have hf := Lib.hid (show checkErr ⟨per, ms.map (·.s)⟩ = 13 by unfold checkErr; rw [if_neg hg.out, if_pos (by rw [hp.out]; simp [h3])])
    go_enter Try.func60, Try.ntmps60
    go_wp2
    go_ret
    exact ⟨of_int hf.out.symm, below_alloc _ _⟩
  have hf := Lib.hid (show checkErr ⟨per, ms.map (·.s)⟩ = signsErr per [] (ms.map (·.s)) by unfold checkErr; rw [if_neg hg.out, if_neg (by rw [hp.out]; simp [h2, h3])])
  have c0 := Lib.hid (show (w.alloc (.cells #[.int .i64 per, .slice A n cap] 24)).cell? ⟨w.heap.size, 0, none⟩ = some (.int .i64 per) by simp [go_sem])
  have c1 := Lib.hid (show (w.alloc (.cells #[.int .i64 per, .slice A n cap] 24)).cell? ⟨w.heap.size, 1, none⟩ = some (.slice A n cap) by simp [go_sem])
  go_enter Try.func60, Try.ntmps60
  go_wp2
  clear h2 h3
  obtain ⟨W, hW⟩ : ∃ W, W = w.alloc (.cells #[.int .i64 per, .slice A n cap] 24) := ⟨_, rfl⟩
  have HWs := Lib.hid (show W.heap.size = w.heap.size + 1 by rw [hW]; simp)
  have HWb := Lib.hid (show Below w.heap.size w W by rw [hW]; exact below_alloc _ _)
  rw [← hW] at c0 c1
  rw [← hW]
  clear hW
  go_loopw [3] (fun i wr => ∃ k : Nat, k ≤ n ∧ i = .int .i64 k ∧ Hid (Below W.heap.size W wr) ∧ Hid (signsErr per ((ms.map (·.s)).take k) ((ms.map (·.s)).drop k) = signsErr per [] (ms.map (·.s)))) (fun i _ => n - (intOf i).toNat)
  case atStart => exact ⟨0, Nat.zero_le _, rfl, Lib.hid (Below.refl _ _), Lib.hid (by simp)⟩
  case round =>
    obtain ⟨k, hk, rfl, hb, hno⟩ := hrel
    have hsz : w.heap.size < wr.heap.size := by have := hb.out.size; have := HWs.out; omega
    have hw1 := Lib.hid (below_more HWb.out hb.out)
    have x0 := (hb.out.cell (p := ⟨w.heap.size, 0, none⟩) (by have := HWs.out; dsimp only; omega)).trans c0.out
    have x1 := (hb.out.cell (p := ⟨w.heap.size, 1, none⟩) (by have := HWs.out; dsimp only; omega)).trans c1.out
    by_cases hlt : k < n
    · have hget : ms[k]? = some (ms[k]'(by have := HN.out; omega)) := List.getElem?_eq_getElem _
      obtain ⟨u, hu⟩ : ∃ u, u = ms[k]'(by have := HN.out; omega) := ⟨_, rfl⟩
      rw [← hu] at hget
      obtain ⟨b, o, hA, hb1, hva, hok⟩ := hs k u hget
      have hLr := Lib.hid (hl0.out.below hw1.out)
      have hokr := Lib.hid (hok.below hw1.out)
      subst hA
      obtain ⟨y0, y1, y2, y3, y4⟩ := hva.below hw1.out hb1
      have hcsz := Lib.hid hok.code
      have GET := Lib.hid (show (ms.map (·.s))[k]? = some u.s by rw [List.getElem?_map, hget]; rfl)
      have hsb : b < wr.heap.size := by omega
      clear hu hget hva hs hok hb1
      have hI := Lib.hid (indexI_lt _ k u.s GET.out)
      have HLv := Lib.hid (show L.val = .agg #[.int .i64 per, .slice (some ⟨b, o, none⟩) n cap] by rw [HL.out]; unfold Lm.val; dsimp only; rw [HN.out])
      have HLs := Lib.hid (show L.signs = ms.map (·.s) by rw [HL.out]; rfl)
      have hix (W' : World) (h : LmOk W' L) (i : Int) (he : indexI (ms.map (·.s)) u.s.code = i) : Calls Try.prog 95 #[.agg #[.int .i64 per, .slice (some ⟨b, o, none⟩) n cap], .string u.s.code] W' fun e w' => e = .returned (.int .i64 i) ∧ Below W'.heap.size W' w' := by
        rw [← HLv.out]; exact index_is L _ W' h i (by rw [HLs.out]; exact he)
      have HIX := Lib.hid hix
      clear hix
      by_cases hcode : codeB u.s.code = true
      case neg =>
        have hcode : codeB u.s.code = false := by simpa using hcode
        have hfin := Lib.hid (signsErr_code per _ k u.s GET.out (by rw [hcode]; rfl))
        go_wp2
        refine wp_region_later (by kernel_rfl) (by kernel_rfl) ?_; (repeat (first | go_big_quiet_step ((first | ((go_at_call 94; exact Calls.later_same _ (rcode_is _ _ hcsz.out false hcode))) | ((go_at_call 95; exact Calls.later _ (HIX.out _ (hLr.out.below s.below) _ rfl))))) | quiet_step ((first | ((go_at_call 94; exact Calls.later_same _ (rcode_is _ _ hcsz.out false hcode))) | ((go_at_call 95; exact Calls.later _ (HIX.out _ (hLr.out.below s.below) _ rfl))))))); refine wpQuiet_nil ?_; rintro _ ⟨s, rfl⟩
        go_wp2
        go_ret
        exact ⟨of_int (by rw [hf.out, ← hno.out, hfin.out]), below_more hw1.out s.below⟩
      obtain ⟨I, hIe⟩ : ∃ I, I = indexI (ms.map (·.s)) u.s.code := ⟨_, rfl⟩
      have HIe := Lib.hid hIe.symm
      rw [← hIe] at hI
      clear hIe
      by_cases hdup : I < (k : Int)
      · have hfin := Lib.hid (signsErr_code per _ k u.s GET.out (by rw [← hI.out]; simp [hdup]))
        go_wp2
        refine wp_region_later (by kernel_rfl) (by kernel_rfl) ?_; (repeat (first | go_big_quiet_step ((first | ((go_at_call 94; exact Calls.later_same _ (rcode_is _ _ hcsz.out true hcode))) | ((go_at_call 95; exact Calls.later _ (HIX.out _ (hLr.out.below (Later.below _)) I HIe.out))))) | quiet_step ((first | ((go_at_call 94; exact Calls.later_same _ (rcode_is _ _ hcsz.out true hcode))) | ((go_at_call 95; exact Calls.later _ (HIX.out _ (hLr.out.below (Later.below _)) I HIe.out))))))); refine wpQuiet_nil ?_; rintro _ ⟨s, rfl⟩
        go_wp2
        go_ret
        exact ⟨of_int (by rw [hf.out, ← hno.out, hfin.out]), below_more hw1.out s.below⟩
      · have hok2 := Lib.hid (show (codeB u.s.code && !((ms.map (·.s)).take k).any fun d => strEq d.code u.s.code) = true by rw [← hI.out, hcode]; simp [hdup])
        by_cases hse : signErr u.s per = 0
        · have hfin := Lib.hid (signsErr_step per _ k u.s GET.out hok2.out hse)
          go_wp2
          refine wp_region_later (by kernel_rfl) (by kernel_rfl) ?_; (repeat (first | go_big_quiet_step ((first | ((go_at_call 94; exact Calls.later_same _ (rcode_is _ _ hcsz.out true hcode))) | ((go_at_call 95; exact Calls.later _ (HIX.out _ (hLr.out.below (Later.below _)) I HIe.out))))) | quiet_step ((first | ((go_at_call 94; exact Calls.later_same _ (rcode_is _ _ hcsz.out true hcode))) | ((go_at_call 95; exact Calls.later _ (HIX.out _ (hLr.out.below (Later.below _)) I HIe.out))))))); refine wpQuiet_nil ?_; rintro _ ⟨s, rfl⟩
          go_wp2
          obtain ⟨s1, rfl⟩ : ∃ s1, s1 = s := ⟨_, rfl⟩
          have hs2 := s1.below.size
          have e1 : b < s1.w.heap.size := by omega
          have e2 : w.heap.size < s1.w.heap.size := by omega
          refine wp_region_later (by kernel_rfl) (by kernel_rfl) ?_; (repeat (first | go_big_quiet_step (((go_at_call 96; exact Calls.later _ (rsign_is u per _ ((hokr.out.below s1.below).below (Later.below _)) 0 hse)))) | quiet_step (((go_at_call 96; exact Calls.later _ (rsign_is u per _ ((hokr.out.below s1.below).below (Later.below _)) 0 hse)))))); refine wpQuiet_nil ?_; rintro _ ⟨s, rfl⟩
          go_wp2
          go_roundw
          case rel => exact ⟨k + 1, by omega, by go_num, Lib.hid (hb.out.trans ((below_more s1.below s.below).mono hb.out.size)), Lib.hid (by rw [← hfin.out]; exact hno.out)⟩
          case measure => simp [intOf]; omega
        · have hfin := Lib.hid (signsErr_stop per _ k u.s GET.out hok2.out hse)
          obtain ⟨E, hE⟩ : ∃ E, E = signErr u.s per := ⟨_, rfl⟩
          have HE := Lib.hid hE.symm
          have hse' : (E != 0) = true := by rw [hE]; simpa using hse
          clear hE hse
          go_wp2
          refine wp_region_later (by kernel_rfl) (by kernel_rfl) ?_; (repeat (first | go_big_quiet_step ((first | ((go_at_call 94; exact Calls.later_same _ (rcode_is _ _ hcsz.out true hcode))) | ((go_at_call 95; exact Calls.later _ (HIX.out _ (hLr.out.below (Later.below _)) I HIe.out))))) | quiet_step ((first | ((go_at_call 94; exact Calls.later_same _ (rcode_is _ _ hcsz.out true hcode))) | ((go_at_call 95; exact Calls.later _ (HIX.out _ (hLr.out.below (Later.below _)) I HIe.out))))))); refine wpQuiet_nil ?_; rintro _ ⟨s, rfl⟩
          go_wp2
          obtain ⟨s1, rfl⟩ : ∃ s1, s1 = s := ⟨_, rfl⟩
          have hs2 := s1.below.size
          have e1 : b < s1.w.heap.size := by omega
          have e2 : w.heap.size < s1.w.heap.size := by omega
          refine wp_region_later (by kernel_rfl) (by kernel_rfl) ?_; (repeat (first | go_big_quiet_step (((go_at_call 96; exact Calls.later _ (rsign_is u per _ ((hokr.out.below s1.below).below (Later.below _)) E HE.out)))) | quiet_step (((go_at_call 96; exact Calls.later _ (rsign_is u per _ ((hokr.out.below s1.below).below (Later.below _)) E HE.out)))))); refine wpQuiet_nil ?_; rintro _ ⟨s, rfl⟩
          go_wp2
          go_ret
          exact ⟨of_int (by rw [hf.out, ← hno.out, hfin.out, HE.out]), below_more hw1.out (below_more s1.below s.below)⟩
    · obtain rfl : k = n := by omega
      go_wp2
      go_ret
      refine ⟨of_int ?_, hw1.out⟩
      have := hno.out
      rw [hf.out, ← this, ← HNL.out, signsErr_end]

end Go.Proofs.Ytbfedahonfjpfaa
