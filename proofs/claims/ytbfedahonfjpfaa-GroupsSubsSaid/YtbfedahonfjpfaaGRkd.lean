/-
  The specification's kids of a node, and its groups (Kids).
-/
import Derived.Test.YtbfedahonfjpfaaGWrk
namespace Go.Proofs.Ytbfedahonfjpfaa
open Go.RowKit

/-- how many nodes from a place on have a depth at least -/
def runN (ns : List Nd) (d : Int) (j : Nat) : Nat := ((ns.drop j).takeWhile (fun n => decide (d ≤ n.depth))).length
def atD (ns : List Nd) (d : Int) (j : Nat) : Bool := ns[j]?.any (fun u => u.depth == d)
def kidsG (ns : List Nd) (d : Int) (j : Nat) : List Nat := (List.range' j (runN ns d j)).filter (atD ns d)
theorem runN_at {ns : List Nd} {d : Int} {j k : Nat} (h : k < runN ns d j) : ∃ u, ns[j + k]? = some u ∧ d ≤ u.depth := by
  obtain ⟨x, h1, h2⟩ := takeWhile_at _ _ _ h
  rw [List.getElem?_drop] at h1
  exact ⟨x, h1, by simpa using h2⟩
theorem runN_end (ns : List Nd) (d : Int) (j : Nat) (hj : j ≤ ns.length) : j + runN ns d j = ns.length ∨ ∃ u, ns[j + runN ns d j]? = some u ∧ u.depth < d := by
  rcases takeWhile_end (fun n : Nd => decide (d ≤ n.depth)) (ns.drop j) with h | ⟨x, h1, h2⟩
  · left; unfold runN; rw [h, List.length_drop]; omega
  · right; rw [List.getElem?_drop] at h1; exact ⟨x, h1, by simpa using h2⟩
theorem runN_le (ns : List Nd) (d : Int) (j : Nat) (hj : j ≤ ns.length) : j + runN ns d j ≤ ns.length := by
  have h := (List.takeWhile_sublist (fun n : Nd => decide (d ≤ n.depth)) (l := ns.drop j)).length_le
  unfold runN; rw [List.length_drop] at h; omega
theorem runN_span (ns : List Nd) (d : Int) (i : Nat) : runN ns (d + 1) (i + 1) = spanN ns d i := by
  unfold runN spanN
  congr 2
/-- both sides' kids are the same -/
theorem kidsG_is {ns : List Nd} {i : Nat} {u : Nd} (h : ns[i]? = some u) : kidsG ns (u.depth + 1) (i + 1) = kidsL ns i := by
  unfold kidsG kidsL
  rw [h, runN_span]
  rfl

set_option maxRecDepth 100000 in
set_option maxHeartbeats 8000000 in
theorem rkids_any (A : Option Addr) (cap : Nat) (ns : List Nd) (node d : Int) (j0 : Nat) (w : World) (hn : NdsAt w A ns) (_hc1 : ns.length ≤ cap) (_hc : cap ≤ maxLen) (hsm : ns.length ≤ 1000000)
    (hnode : (∃ (i : Nat) (u : Nd), node = (i : Int) ∧ ns[i]? = some u ∧ d = u.depth + 1 ∧ j0 = i + 1 ∧ -1000000 ≤ u.depth ∧ u.depth ≤ 1000000) ∨ (node = -1 ∧ d = 0 ∧ j0 = 0)) :
    Calls Try.prog 67 #[.agg #[.slice A ns.length cap], .int .i64 node] w (GotRow w 3 1 (kidsG ns d j0).length (intsV (kidsG ns d j0))) := by
  obtain ⟨iv, hiv, hzv, hsv, hbv⟩ := info_hid infoInt
  have HNS := Lib.hid hn
  have hj0 : j0 ≤ ns.length := by
    rcases hnode with ⟨i, u, _, hi, _, rfl, _⟩ | ⟨_, _, rfl⟩
    · have := (List.getElem?_eq_some_iff.1 hi).1; omega
    · omega
  have HRA := Lib.hid (fun k (h : k < runN ns d j0) => runN_at h)
  have HRE := Lib.hid (runN_end ns d j0 hj0)
  have hrl := runN_le ns d j0 hj0
  obtain ⟨N, hN⟩ : ∃ N, N = ns.length := ⟨_, rfl⟩
  have HN := Lib.hid hN
  rw [← hN] at _hc1 hsm hj0 HRE hrl ⊢
  obtain ⟨m, hm⟩ : ∃ m, m = runN ns d j0 := ⟨_, rfl⟩
  rw [← hm] at HRA HRE hrl
  have HKG := Lib.hid (show kidsG ns d j0 = (List.range' j0 m).filter (atD ns d) by rw [hm]; rfl)
  unfold maxLen at _hc
  have HWb := Lib.hid (below_alloc w (.cells #[.slice A N cap] 27))
  have HX := Lib.hid (heap_alloc_new w (.cells #[.slice A N cap] 27))
  clear hn hN hm
  rcases hnode with ⟨i, u, rfl, hi, hd, hj, hd1, hd2⟩ | ⟨rfl, rfl, hj⟩
  · obtain ⟨b, o, hA, hb, hva⟩ := HNS.out i u hi
    subst hA
    have y1 := hva.c1
    obtain ⟨du, hdu⟩ : ∃ du, du = u.depth := ⟨_, rfl⟩
    rw [← hdu] at y1 hd hd1 hd2
    have hiN : i < N := by rw [HN.out]; exact (List.getElem?_eq_some_iff.1 hi).1
    have hi0 : decide ((0 : Int) ≤ (i : Int)) = true := decide_eq_true (by omega)
    have HJ0 := Lib.hid hj
    have HDD := Lib.hid hd
    clear hva hdu hi hj hd
    go_enter Try.func67, Try.ntmps67
    go_wp2_with fail
    rw [← HDD.out]
    generalize hWW : w.alloc (.cells #[.slice (some ⟨b, o, none⟩) N cap] 27) = W at HWb HX ⊢
    clear hWW y1
    rw [show ((i : Int) + 1) = (j0 : Int) by rw [HJ0.out]; rfl]
    go_loopw [5, 7] (fun v c wr => ∃ (k n : Nat), k ≤ m ∧ n ≤ k ∧ c = .int .i64 ((j0 + k : Nat) : Int) ∧ Hid (n = ((List.range' j0 k).filter (atD ns d)).length) ∧ Hid (wr.ownsRow W.heap.size 3 1 v n (intsV ((List.range' j0 k).filter (atD ns d)))) ∧ Hid (Below W.heap.size W wr)) (fun _ c _ => N + 1 - (intOf c).toNat)
    case atStart => exact ⟨0, 0, Nat.zero_le _, Nat.le_refl _, (by first | rfl | (rw [HJ0.out]; rfl)), Lib.hid rfl, Lib.hid (World.ownsRow_nil _ _ _ _), Lib.hid (Below.refl _ _)⟩
    case round =>
      obtain ⟨k, n, hk, hnk, rfl, hnl, hown, hbw⟩ := hrel
      have HBW := Lib.hid hbw.out
      have HNL := Lib.hid hnl.out
      have HOW := Lib.hid hown.out
      clear hnl hown hbw
      have x0 := cell_of_blk (blk_keep HBW.out HX.out) 0
      simp at x0
      obtain ⟨j, hj⟩ : ∃ j, j = j0 + k := ⟨_, rfl⟩
      have HJ := Lib.hid hj
      rw [← hj]
      by_cases hlt : k < m
      · obtain ⟨x, hx, hdx⟩ := HRA.out k hlt
        rw [← hj] at hx
        obtain ⟨b', o', e, hb', hvx⟩ := HNS.out j x hx
        (first | subst e | (injection e with e; injection e with e1 e2; subst e1 e2))
        have z1 := (hvx.below (below_more HWb.out HBW.out) hb').c1
        have hjN : j < N := by omega
        obtain ⟨dx, hdx'⟩ : ∃ dx, dx = x.depth := ⟨_, rfl⟩
        rw [← hdx'] at z1 hdx
        have HAD := Lib.hid (show atD ns d j = (dx == d) by unfold atD; rw [hx, hdx']; rfl)
        have HRG := Lib.hid (show List.range' j0 (k + 1) = List.range' j0 k ++ [j] by rw [List.range'_1_concat, HJ.out])
        have hg1 : decide (j < N) = true := decide_eq_true hjN
        have hg2 : decide (d ≤ dx) = true := decide_eq_true hdx
        clear hx hvx hdx' hj hdx
        cases hk1 : (dx == d) with
        | false =>
          have HF := Lib.hid (show (List.range' j0 (k + 1)).filter (atD ns d) = (List.range' j0 k).filter (atD ns d) by rw [HRG.out, List.filter_append]; simp [HAD.out, hk1])
          go_wp2_with fail
          go_roundw
          case rel => exact ⟨k + 1, n, by omega, by omega, by rw [show j0 + (k + 1) = j + 1 by have := HJ.out; omega]; go_num, Lib.hid (by rw [HF.out]; exact HNL.out), Lib.hid (by rw [HF.out]; exact HOW.out), HBW⟩
          case measure => simp [intOf]; omega
        | true =>
          have HF := Lib.hid (show (List.range' j0 (k + 1)).filter (atD ns d) = (List.range' j0 k).filter (atD ns d) ++ [j] by rw [HRG.out, List.filter_append]; simp [HAD.out, hk1])
          obtain ⟨fl, hfl⟩ : ∃ fl, fl = (List.range' j0 k).filter (atD ns d) := ⟨_, rfl⟩
          rw [← hfl] at HF HOW HNL
          obtain ⟨xs, hxs⟩ : ∃ xs, xs = intsV fl := ⟨_, rfl⟩
          have HXS := Lib.hid hxs
          rw [← hxs] at HOW
          obtain ⟨Av, cv, hv, -, -, -, -⟩ := own_slice HOW.out
          subst hv
          clear hfl hxs
          have hsw := HBW.out.size
          go_wp2_with (first
            | (at_builtin; refine wpList_append_src _ rfl (.tmp 44) (.tmp 46) 38 rfl W.heap.size 3 iv (.int .i64 0) 1 8 Try.underlying38 hiv.out hzv.out hsv.out hbv.out rfl (by decide) (.slice Av n cv) n xs rfl ?own2 (some ⟨wr.heap.size, 0, none⟩) 1 1 [.int .i64 (j : Nat)] rfl ?l2 ?n2 ?c2 ?o2 ?m2 ?b2 ?s2 (n + 1) rfl ?_))
          case own2 => exact HOW.out.alloc _
          all_goals first
            | (intro A3 c3 w3 own3 hg3 _
               have HB3 := Lib.hid (((HBW.out.alloc hsw _)).grown hg3 (by rw [World.size_alloc]; omega) (fun g hg => (HOW.out.lt g hg).1))
               have HO3 := Lib.hid own3
               clear own3 hg3
               go_wp2_with fail
               go_roundw
               case rel => exact ⟨k + 1, n + 1, by omega, by omega, by rw [show j0 + (k + 1) = j + 1 by have := HJ.out; omega]; go_num, Lib.hid (by rw [HF.out, List.length_append, ← HNL.out]; rfl), Lib.hid (by rw [HF.out]; unfold intsV; rw [List.map_append, show fl.map (fun j => Value.int .i64 (j : Nat)) = xs from HXS.out.symm]; exact HO3.out), HB3⟩
               case measure => simp [intOf]; omega)
            | rfl
            | (intro h; cases h; done)
            | (unfold maxLen; omega)
            | omega
            | (rw [World.size_alloc]; omega)
            | (intro u hu; simp at hu; subst hu; rfl)
            | (intro ad had i u' hj; injection had with had; subst had; exact World.news_of_block (cs := #[.int .i64 (j : Nat)]) (heap_alloc_new wr _) i u' hj)
      · obtain rfl : k = m := by omega
        have HX2 := Lib.hid (show GotRow w 3 1 (kidsG ns d j0).length (intsV (kidsG ns d j0)) (.returned u5) wr from by
          have h1 := HOW.out
          rw [HNL.out, ← HKG.out] at h1
          obtain ⟨A2, c2, hv, -, -, -, -⟩ := own_slice h1
          exact ⟨A2, c2, by rw [hv], own_base (by rw [← hv]; exact h1) HWb.out.size, below_more HWb.out HBW.out⟩)
        rcases HRE.out with hE | ⟨x, hx, hdx⟩
        · have hg1 : decide (j < N) = false := decide_eq_false (by omega)
          clear hj
          go_wp2_with fail
          go_ret
          exact HX2.out
        · rw [← hj] at hx
          obtain ⟨b', o', e, hb', hvx⟩ := HNS.out j x hx
          (first | subst e | (injection e with e; injection e with e1 e2; subst e1 e2))
          have z1 := (hvx.below (below_more HWb.out HBW.out) hb').c1
          have hjN : j < N := by rw [HN.out]; exact (List.getElem?_eq_some_iff.1 hx).1
          obtain ⟨dx, hdx'⟩ : ∃ dx, dx = x.depth := ⟨_, rfl⟩
          rw [← hdx'] at z1 hdx
          have hg1 : decide (j < N) = true := decide_eq_true hjN
          have hg2 : decide (d ≤ dx) = false := decide_eq_false (by omega)
          clear hx hvx hdx' hj hdx
          go_wp2_with fail
          go_ret
          exact HX2.out
  · have HJ0 := Lib.hid hj
    clear hj
    go_enter Try.func67, Try.ntmps67
    go_wp2_with fail
    generalize hWW : w.alloc (.cells #[.slice A N cap] 27) = W at HWb HX ⊢
    clear hWW
    go_loopw [5, 7] (fun v c wr => ∃ (k n : Nat), k ≤ m ∧ n ≤ k ∧ c = .int .i64 ((j0 + k : Nat) : Int) ∧ Hid (n = ((List.range' j0 k).filter (atD ns 0)).length) ∧ Hid (wr.ownsRow W.heap.size 3 1 v n (intsV ((List.range' j0 k).filter (atD ns 0)))) ∧ Hid (Below W.heap.size W wr)) (fun _ c _ => N + 1 - (intOf c).toNat)
    case atStart => exact ⟨0, 0, Nat.zero_le _, Nat.le_refl _, (by first | rfl | (rw [HJ0.out]; rfl)), Lib.hid rfl, Lib.hid (World.ownsRow_nil _ _ _ _), Lib.hid (Below.refl _ _)⟩
    case round =>
      obtain ⟨k, n, hk, hnk, rfl, hnl, hown, hbw⟩ := hrel
      have HBW := Lib.hid hbw.out
      have HNL := Lib.hid hnl.out
      have HOW := Lib.hid hown.out
      clear hnl hown hbw
      have x0 := cell_of_blk (blk_keep HBW.out HX.out) 0
      simp at x0
      obtain ⟨j, hj⟩ : ∃ j, j = j0 + k := ⟨_, rfl⟩
      have HJ := Lib.hid hj
      rw [← hj]
      by_cases hlt : k < m
      · obtain ⟨x, hx, hdx⟩ := HRA.out k hlt
        rw [← hj] at hx
        obtain ⟨b', o', e, hb', hvx⟩ := HNS.out j x hx
        (first | subst e | (injection e with e; injection e with e1 e2; subst e1 e2))
        have z1 := (hvx.below (below_more HWb.out HBW.out) hb').c1
        have hjN : j < N := by omega
        obtain ⟨dx, hdx'⟩ : ∃ dx, dx = x.depth := ⟨_, rfl⟩
        rw [← hdx'] at z1 hdx
        have HAD := Lib.hid (show atD ns 0 j = (dx == 0) by unfold atD; rw [hx, hdx']; rfl)
        have HRG := Lib.hid (show List.range' j0 (k + 1) = List.range' j0 k ++ [j] by rw [List.range'_1_concat, HJ.out])
        have hg1 : decide (j < N) = true := decide_eq_true hjN
        have hg2 : decide ((0 : Int) ≤ dx) = true := decide_eq_true hdx
        clear hx hvx hdx' hj hdx
        cases hk1 : (dx == 0) with
        | false =>
          have HF := Lib.hid (show (List.range' j0 (k + 1)).filter (atD ns 0) = (List.range' j0 k).filter (atD ns 0) by rw [HRG.out, List.filter_append]; simp [HAD.out, hk1])
          go_wp2_with fail
          go_roundw
          case rel => exact ⟨k + 1, n, by omega, by omega, by rw [show j0 + (k + 1) = j + 1 by have := HJ.out; omega]; go_num, Lib.hid (by rw [HF.out]; exact HNL.out), Lib.hid (by rw [HF.out]; exact HOW.out), HBW⟩
          case measure => simp [intOf]; omega
        | true =>
          have HF := Lib.hid (show (List.range' j0 (k + 1)).filter (atD ns 0) = (List.range' j0 k).filter (atD ns 0) ++ [j] by rw [HRG.out, List.filter_append]; simp [HAD.out, hk1])
          obtain ⟨fl, hfl⟩ : ∃ fl, fl = (List.range' j0 k).filter (atD ns 0) := ⟨_, rfl⟩
          rw [← hfl] at HF HOW HNL
          obtain ⟨xs, hxs⟩ : ∃ xs, xs = intsV fl := ⟨_, rfl⟩
          have HXS := Lib.hid hxs
          rw [← hxs] at HOW
          obtain ⟨Av, cv, hv, -, -, -, -⟩ := own_slice HOW.out
          subst hv
          clear hfl hxs
          have hsw := HBW.out.size
          go_wp2_with (first
            | (at_builtin; refine wpList_append_src _ rfl (.tmp 44) (.tmp 46) 38 rfl W.heap.size 3 iv (.int .i64 0) 1 8 Try.underlying38 hiv.out hzv.out hsv.out hbv.out rfl (by decide) (.slice Av n cv) n xs rfl ?own7 (some ⟨wr.heap.size, 0, none⟩) 1 1 [.int .i64 (j : Nat)] rfl ?l7 ?n7 ?c7 ?o7 ?m7 ?b7 ?s7 (n + 1) rfl ?_))
          case own7 => exact HOW.out.alloc _
          all_goals first
            | (intro A3 c3 w3 own3 hg3 _
               have HB3 := Lib.hid (((HBW.out.alloc hsw _)).grown hg3 (by rw [World.size_alloc]; omega) (fun g hg => (HOW.out.lt g hg).1))
               have HO3 := Lib.hid own3
               clear own3 hg3
               go_wp2_with fail
               go_roundw
               case rel => exact ⟨k + 1, n + 1, by omega, by omega, by rw [show j0 + (k + 1) = j + 1 by have := HJ.out; omega]; go_num, Lib.hid (by rw [HF.out, List.length_append, ← HNL.out]; rfl), Lib.hid (by rw [HF.out]; unfold intsV; rw [List.map_append, show fl.map (fun j => Value.int .i64 (j : Nat)) = xs from HXS.out.symm]; exact HO3.out), HB3⟩
               case measure => simp [intOf]; omega)
            | rfl
            | (intro h; cases h; done)
            | (unfold maxLen; omega)
            | omega
            | (rw [World.size_alloc]; omega)
            | (intro u hu; simp at hu; subst hu; rfl)
            | (intro ad had i u' hj; injection had with had; subst had; exact World.news_of_block (cs := #[.int .i64 (j : Nat)]) (heap_alloc_new wr _) i u' hj)
      · obtain rfl : k = m := by omega
        have HX2 := Lib.hid (show GotRow w 3 1 (kidsG ns 0 j0).length (intsV (kidsG ns 0 j0)) (.returned u5) wr from by
          have h1 := HOW.out
          rw [HNL.out, ← HKG.out] at h1
          obtain ⟨A2, c2, hv, -, -, -, -⟩ := own_slice h1
          exact ⟨A2, c2, by rw [hv], own_base (by rw [← hv]; exact h1) HWb.out.size, below_more HWb.out HBW.out⟩)
        rcases HRE.out with hE | ⟨x, hx, hdx⟩
        · have hg1 : decide (j < N) = false := decide_eq_false (by omega)
          clear hj
          go_wp2_with fail
          go_ret
          exact HX2.out
        · rw [← hj] at hx
          obtain ⟨b', o', e, hb', hvx⟩ := HNS.out j x hx
          (first | subst e | (injection e with e; injection e with e1 e2; subst e1 e2))
          have z1 := (hvx.below (below_more HWb.out HBW.out) hb').c1
          have hjN : j < N := by rw [HN.out]; exact (List.getElem?_eq_some_iff.1 hx).1
          obtain ⟨dx, hdx'⟩ : ∃ dx, dx = x.depth := ⟨_, rfl⟩
          rw [← hdx'] at z1 hdx
          have hg1 : decide (j < N) = true := decide_eq_true hjN
          have hg2 : decide ((0 : Int) ≤ dx) = false := decide_eq_false (by omega)
          clear hx hvx hdx' hj hdx
          go_wp2_with fail
          go_ret
          exact HX2.out

end Go.Proofs.Ytbfedahonfjpfaa
