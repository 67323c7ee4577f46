/-
  The specification's kids of a node, and its groups (Kids). And what builds on it.
-/
import Derived.Test.YtmiokllpdmmfhaaGreatLaF
import Derived.Deep.DeepCutAuto
namespace Go.Proofs.YtmiokllpdmmfhaaGreat
open Go.RowKit
def runN (ns : List Nd) (d : Int) (j : Nat) : Nat := ((ns.drop j).takeWhile (fun n => decide (d ≤ n.depth))).length
def atD (ns : List Nd) (d : Int) (j : Nat) : Bool := ns[j]?.any (fun u => u.depth == d)
def kidsG (ns : List Nd) (d : Int) (j : Nat) : List Nat := (List.range' j (runN ns d j)).filter (atD ns d)
theorem runN_at {ns : List Nd} {d : Int} {j k : Nat} (h : k < runN ns d j) : ∃ u, ns[j + k]? = some u ∧ d ≤ u.depth := by
  obtain ⟨x, h1, h2⟩ := takeWhile_at _ _ _ h
  rw [List.getElem?_drop] at h1
  exact ⟨x, h1, by simpa using h2⟩
theorem runN_end (ns : List Nd) (d : Int) (j : Nat) (hj : j ≤ ns.length) : j + runN ns d j = ns.length ∨ ∃ u, ns[j + runN ns d j]? = some u ∧ u.depth < d := by
  rcases takeWhile_end (fun n : Nd => decide (d ≤ n.depth)) (ns.drop j) with h | ⟨x, h1, h2⟩
  · left; unfold runN; rw [h, List.length_drop]; omega
  · right; rw [List.getElem?_drop] at h1; exact ⟨x, h1, by simpa using h2⟩
theorem runN_le (ns : List Nd) (d : Int) (j : Nat) (hj : j ≤ ns.length) : j + runN ns d j ≤ ns.length := by
  have h := (List.takeWhile_sublist (fun n : Nd => decide (d ≤ n.depth)) (l := ns.drop j)).length_le
  unfold runN; rw [List.length_drop] at h; omega
theorem runN_span (ns : List Nd) (d : Int) (i : Nat) : runN ns (d + 1) (i + 1) = spanN ns d i := by
  unfold runN spanN
  congr 2
theorem kidsG_is {ns : List Nd} {i : Nat} {u : Nd} (h : ns[i]? = some u) : kidsG ns (u.depth + 1) (i + 1) = kidsL ns i := by
  unfold kidsG kidsL
  rw [h, runN_span]
  rfl
set_option maxRecDepth 100000 in
set_option maxHeartbeats 8000000 in
theorem rkids_any (A : Option Addr) (cap : Nat) (ns : List Nd) (node d : Int) (j0 : Nat) (w : World) (hn : NdsAt w A ns) (_hc1 : ns.length ≤ cap) (_hc : cap ≤ maxLen) (hsm : ns.length ≤ 1000000)
    (hnode : (∃ (i : Nat) (u : Nd), node = (i : Int) ∧ ns[i]? = some u ∧ d = u.depth + 1 ∧ j0 = i + 1 ∧ -1000000 ≤ u.depth ∧ u.depth ≤ 1000000) ∨ (node = -1 ∧ d = 0 ∧ j0 = 0)) :
    Calls Tryz.prog 60 #[.agg #[.slice A ns.length cap], .int .i64 node] w (GotRow w 3 1 (kidsG ns d j0).length (intsV (kidsG ns d j0))) := by
  obtain ⟨iv, hiv, hzv, hsv, hbv⟩ := info_hid infoInt
  have HNS := Lib.hid hn
  have hj0 : j0 ≤ ns.length := by
    rcases hnode with ⟨i, u, _, hi, _, rfl, _⟩ | ⟨_, _, rfl⟩
    · have := (List.getElem?_eq_some_iff.1 hi).1; omega
    · omega
  have HRA := Lib.hid (fun k (h : k < runN ns d j0) => runN_at h)
  have HRE := Lib.hid (runN_end ns d j0 hj0)
  have hrl := runN_le ns d j0 hj0
  obtain ⟨N, hN⟩ : ∃ N, N = ns.length := ⟨_, rfl⟩
  have HN := Lib.hid hN
  rw [← hN] at _hc1 hsm hj0 HRE hrl ⊢
  obtain ⟨m, hm⟩ : ∃ m, m = runN ns d j0 := ⟨_, rfl⟩
  rw [← hm] at HRA HRE hrl
  have HKG := Lib.hid (show kidsG ns d j0 = (List.range' j0 m).filter (atD ns d) by rw [hm]; rfl)
  unfold maxLen at _hc
  have HWb := Lib.hid (below_alloc w (.cells #[.slice A N cap] 27))
  have HX := Lib.hid (heap_alloc_new w (.cells #[.slice A N cap] 27))
  clear hn hN hm
  rcases hnode with ⟨i, u, rfl, hi, hd, hj, hd1, hd2⟩ | ⟨rfl, rfl, hj⟩
  · obtain ⟨b, o, hA, hb, hva⟩ := HNS.out i u hi
    subst hA
    have y1 := hva.c1
    obtain ⟨du, hdu⟩ : ∃ du, du = u.depth := ⟨_, rfl⟩
    rw [← hdu] at y1 hd hd1 hd2
    have hiN : i < N := by rw [HN.out]; exact (List.getElem?_eq_some_iff.1 hi).1
    have hi0 : decide ((0 : Int) ≤ (i : Int)) = true := decide_eq_true (by omega)
    have HJ0 := Lib.hid hj
    have HDD := Lib.hid hd
    clear hva hdu hi hj hd
    go_enter Tryz.func60, Tryz.ntmps60
    go_wp2_with fail
    rw [← HDD.out]
    generalize hWW : w.alloc (.cells #[.slice (some ⟨b, o, none⟩) N cap] 27) = W at HWb HX ⊢
    clear hWW y1
    rw [show ((i : Int) + 1) = (j0 : Int) by rw [HJ0.out]; rfl]
    go_loopw [5, 7] (fun v c wr => ∃ (k n : Nat), k ≤ m ∧ n ≤ k ∧ c = .int .i64 ((j0 + k : Nat) : Int) ∧ Hid (n = ((List.range' j0 k).filter (atD ns d)).length) ∧ Hid (wr.ownsRow W.heap.size 3 1 v n (intsV ((List.range' j0 k).filter (atD ns d)))) ∧ Hid (Below W.heap.size W wr)) (fun _ c _ => N + 1 - (intOf c).toNat)
    case atStart => exact ⟨0, 0, Nat.zero_le _, Nat.le_refl _, (by first | rfl | (rw [HJ0.out]; rfl)), Lib.hid rfl, Lib.hid (World.ownsRow_nil _ _ _ _), Lib.hid (Below.refl _ _)⟩
    case round =>
      obtain ⟨k, n, hk, hnk, rfl, hnl, hown, hbw⟩ := hrel
      have HBW := Lib.hid hbw.out
      have HNL := Lib.hid hnl.out
      have HOW := Lib.hid hown.out
      clear hnl hown hbw
      have x0 := cell_of_blk (blk_keep HBW.out HX.out) 0
      simp at x0
      obtain ⟨j, hj⟩ : ∃ j, j = j0 + k := ⟨_, rfl⟩
      have HJ := Lib.hid hj
      rw [← hj]
      by_cases hlt : k < m
      · obtain ⟨x, hx, hdx⟩ := HRA.out k hlt
        rw [← hj] at hx
        obtain ⟨b', o', e, hb', hvx⟩ := HNS.out j x hx
        (first | subst e | (injection e with e; injection e with e1 e2; subst e1 e2))
        have z1 := (hvx.below (below_more HWb.out HBW.out) hb').c1
        have hjN : j < N := by omega
        obtain ⟨dx, hdx'⟩ : ∃ dx, dx = x.depth := ⟨_, rfl⟩
        rw [← hdx'] at z1 hdx
        have HAD := Lib.hid (show atD ns d j = (dx == d) by unfold atD; rw [hx, hdx']; rfl)
        have HRG := Lib.hid (show List.range' j0 (k + 1) = List.range' j0 k ++ [j] by rw [List.range'_1_concat, HJ.out])
        have hg1 : decide (j < N) = true := decide_eq_true hjN
        have hg2 : decide (d ≤ dx) = true := decide_eq_true hdx
        clear hx hvx hdx' hj hdx
        cases hk1 : (dx == d) with
        | false =>
          have HF := Lib.hid (show (List.range' j0 (k + 1)).filter (atD ns d) = (List.range' j0 k).filter (atD ns d) by rw [HRG.out, List.filter_append]; simp [HAD.out, hk1])
          go_wp2_with fail
          go_roundw
          case rel => exact ⟨k + 1, n, by omega, by omega, by rw [show j0 + (k + 1) = j + 1 by have := HJ.out; omega]; go_num, Lib.hid (by rw [HF.out]; exact HNL.out), Lib.hid (by rw [HF.out]; exact HOW.out), HBW⟩
          case measure => simp [intOf]; omega
        | true =>
          have HF := Lib.hid (show (List.range' j0 (k + 1)).filter (atD ns d) = (List.range' j0 k).filter (atD ns d) ++ [j] by rw [HRG.out, List.filter_append]; simp [HAD.out, hk1])
          obtain ⟨fl, hfl⟩ : ∃ fl, fl = (List.range' j0 k).filter (atD ns d) := ⟨_, rfl⟩
          rw [← hfl] at HF HOW HNL
          obtain ⟨xs, hxs⟩ : ∃ xs, xs = intsV fl := ⟨_, rfl⟩
          have HXS := Lib.hid hxs
          rw [← hxs] at HOW
          obtain ⟨Av, cv, hv, -, -, -, -⟩ := own_slice HOW.out
          subst hv
          clear hfl hxs
          have hsw := HBW.out.size
          go_wp2_with (first
            | (at_builtin; refine wpList_append_src _ rfl (.tmp 44) (.tmp 46) 49 rfl W.heap.size 3 iv (.int .i64 0) 1 8 Tryz.underlying49 hiv.out hzv.out hsv.out hbv.out rfl (by decide) (.slice Av n cv) n xs rfl ?own2 (some ⟨wr.heap.size, 0, none⟩) 1 1 [.int .i64 (j : Nat)] rfl ?l2 ?n2 ?c2 ?o2 ?m2 ?b2 ?s2 (n + 1) rfl ?_))
          case own2 => exact HOW.out.alloc _
          all_goals first
            | (intro A3 c3 w3 own3 hg3 _
               have HB3 := Lib.hid (((HBW.out.alloc hsw _)).grown hg3 (by rw [World.size_alloc]; omega) (fun g hg => (HOW.out.lt g hg).1))
               have HO3 := Lib.hid own3
               clear own3 hg3
               go_wp2_with fail
               go_roundw
               case rel => exact ⟨k + 1, n + 1, by omega, by omega, by rw [show j0 + (k + 1) = j + 1 by have := HJ.out; omega]; go_num, Lib.hid (by rw [HF.out, List.length_append, ← HNL.out]; rfl), Lib.hid (by rw [HF.out]; unfold intsV; rw [List.map_append, show fl.map (fun j => Value.int .i64 (j : Nat)) = xs from HXS.out.symm]; exact HO3.out), HB3⟩
               case measure => simp [intOf]; omega)
            | rfl
            | (intro h; cases h; done)
            | (unfold maxLen; omega)
            | omega
            | (rw [World.size_alloc]; omega)
            | (intro u hu; simp at hu; subst hu; rfl)
            | (intro ad had i u' hj; injection had with had; subst had; exact World.news_of_block (cs := #[.int .i64 (j : Nat)]) (heap_alloc_new wr _) i u' hj)
      · obtain rfl : k = m := by omega
        have HX2 := Lib.hid (show GotRow w 3 1 (kidsG ns d j0).length (intsV (kidsG ns d j0)) (.returned u5) wr from by
          have h1 := HOW.out
          rw [HNL.out, ← HKG.out] at h1
          obtain ⟨A2, c2, hv, -, -, -, -⟩ := own_slice h1
          exact ⟨A2, c2, by rw [hv], own_base (by rw [← hv]; exact h1) HWb.out.size, below_more HWb.out HBW.out⟩)
        rcases HRE.out with hE | ⟨x, hx, hdx⟩
        · have hg1 : decide (j < N) = false := decide_eq_false (by omega)
          clear hj
          go_wp2_with fail
          go_ret
          exact HX2.out
        · rw [← hj] at hx
          obtain ⟨b', o', e, hb', hvx⟩ := HNS.out j x hx
          (first | subst e | (injection e with e; injection e with e1 e2; subst e1 e2))
          have z1 := (hvx.below (below_more HWb.out HBW.out) hb').c1
          have hjN : j < N := by rw [HN.out]; exact (List.getElem?_eq_some_iff.1 hx).1
          obtain ⟨dx, hdx'⟩ : ∃ dx, dx = x.depth := ⟨_, rfl⟩
          rw [← hdx'] at z1 hdx
          have hg1 : decide (j < N) = true := decide_eq_true hjN
          have hg2 : decide (d ≤ dx) = false := decide_eq_false (by omega)
          clear hx hvx hdx' hj hdx
          go_wp2_with fail
          go_ret
          exact HX2.out
  · have HJ0 := Lib.hid hj
    clear hj
    go_enter Tryz.func60, Tryz.ntmps60
    go_wp2_with fail
    generalize hWW : w.alloc (.cells #[.slice A N cap] 27) = W at HWb HX ⊢
    clear hWW
    go_loopw [5, 7] (fun v c wr => ∃ (k n : Nat), k ≤ m ∧ n ≤ k ∧ c = .int .i64 ((j0 + k : Nat) : Int) ∧ Hid (n = ((List.range' j0 k).filter (atD ns 0)).length) ∧ Hid (wr.ownsRow W.heap.size 3 1 v n (intsV ((List.range' j0 k).filter (atD ns 0)))) ∧ Hid (Below W.heap.size W wr)) (fun _ c _ => N + 1 - (intOf c).toNat)
    case atStart => exact ⟨0, 0, Nat.zero_le _, Nat.le_refl _, (by first | rfl | (rw [HJ0.out]; rfl)), Lib.hid rfl, Lib.hid (World.ownsRow_nil _ _ _ _), Lib.hid (Below.refl _ _)⟩
    case round =>
      obtain ⟨k, n, hk, hnk, rfl, hnl, hown, hbw⟩ := hrel
      have HBW := Lib.hid hbw.out
      have HNL := Lib.hid hnl.out
      have HOW := Lib.hid hown.out
      clear hnl hown hbw
      have x0 := cell_of_blk (blk_keep HBW.out HX.out) 0
      simp at x0
      obtain ⟨j, hj⟩ : ∃ j, j = j0 + k := ⟨_, rfl⟩
      have HJ := Lib.hid hj
      rw [← hj]
      by_cases hlt : k < m
      · obtain ⟨x, hx, hdx⟩ := HRA.out k hlt
        rw [← hj] at hx
        obtain ⟨b', o', e, hb', hvx⟩ := HNS.out j x hx
        (first | subst e | (injection e with e; injection e with e1 e2; subst e1 e2))
        have z1 := (hvx.below (below_more HWb.out HBW.out) hb').c1
        have hjN : j < N := by omega
        obtain ⟨dx, hdx'⟩ : ∃ dx, dx = x.depth := ⟨_, rfl⟩
        rw [← hdx'] at z1 hdx
        have HAD := Lib.hid (show atD ns 0 j = (dx == 0) by unfold atD; rw [hx, hdx']; rfl)
        have HRG := Lib.hid (show List.range' j0 (k + 1) = List.range' j0 k ++ [j] by rw [List.range'_1_concat, HJ.out])
        have hg1 : decide (j < N) = true := decide_eq_true hjN
        have hg2 : decide ((0 : Int) ≤ dx) = true := decide_eq_true hdx
        clear hx hvx hdx' hj hdx
        cases hk1 : (dx == 0) with
        | false =>
          have HF := Lib.hid (show (List.range' j0 (k + 1)).filter (atD ns 0) = (List.range' j0 k).filter (atD ns 0) by rw [HRG.out, List.filter_append]; simp [HAD.out, hk1])
          go_wp2_with fail
          go_roundw
          case rel => exact ⟨k + 1, n, by omega, by omega, by rw [show j0 + (k + 1) = j + 1 by have := HJ.out; omega]; go_num, Lib.hid (by rw [HF.out]; exact HNL.out), Lib.hid (by rw [HF.out]; exact HOW.out), HBW⟩
          case measure => simp [intOf]; omega
        | true =>
          have HF := Lib.hid (show (List.range' j0 (k + 1)).filter (atD ns 0) = (List.range' j0 k).filter (atD ns 0) ++ [j] by rw [HRG.out, List.filter_append]; simp [HAD.out, hk1])
          obtain ⟨fl, hfl⟩ : ∃ fl, fl = (List.range' j0 k).filter (atD ns 0) := ⟨_, rfl⟩
          rw [← hfl] at HF HOW HNL
          obtain ⟨xs, hxs⟩ : ∃ xs, xs = intsV fl := ⟨_, rfl⟩
          have HXS := Lib.hid hxs
          rw [← hxs] at HOW
          obtain ⟨Av, cv, hv, -, -, -, -⟩ := own_slice HOW.out
          subst hv
          clear hfl hxs
          have hsw := HBW.out.size
          go_wp2_with (first
            | (at_builtin; refine wpList_append_src _ rfl (.tmp 44) (.tmp 46) 49 rfl W.heap.size 3 iv (.int .i64 0) 1 8 Tryz.underlying49 hiv.out hzv.out hsv.out hbv.out rfl (by decide) (.slice Av n cv) n xs rfl ?own7 (some ⟨wr.heap.size, 0, none⟩) 1 1 [.int .i64 (j : Nat)] rfl ?l7 ?n7 ?c7 ?o7 ?m7 ?b7 ?s7 (n + 1) rfl ?_))
          case own7 => exact HOW.out.alloc _
          all_goals first
            | (intro A3 c3 w3 own3 hg3 _
               have HB3 := Lib.hid (((HBW.out.alloc hsw _)).grown hg3 (by rw [World.size_alloc]; omega) (fun g hg => (HOW.out.lt g hg).1))
               have HO3 := Lib.hid own3
               clear own3 hg3
               go_wp2_with fail
               go_roundw
               case rel => exact ⟨k + 1, n + 1, by omega, by omega, by rw [show j0 + (k + 1) = j + 1 by have := HJ.out; omega]; go_num, Lib.hid (by rw [HF.out, List.length_append, ← HNL.out]; rfl), Lib.hid (by rw [HF.out]; unfold intsV; rw [List.map_append, show fl.map (fun j => Value.int .i64 (j : Nat)) = xs from HXS.out.symm]; exact HO3.out), HB3⟩
               case measure => simp [intOf]; omega)
            | rfl
            | (intro h; cases h; done)
            | (unfold maxLen; omega)
            | omega
            | (rw [World.size_alloc]; omega)
            | (intro u hu; simp at hu; subst hu; rfl)
            | (intro ad had i u' hj; injection had with had; subst had; exact World.news_of_block (cs := #[.int .i64 (j : Nat)]) (heap_alloc_new wr _) i u' hj)
      · obtain rfl : k = m := by omega
        have HX2 := Lib.hid (show GotRow w 3 1 (kidsG ns 0 j0).length (intsV (kidsG ns 0 j0)) (.returned u5) wr from by
          have h1 := HOW.out
          rw [HNL.out, ← HKG.out] at h1
          obtain ⟨A2, c2, hv, -, -, -, -⟩ := own_slice h1
          exact ⟨A2, c2, by rw [hv], own_base (by rw [← hv]; exact h1) HWb.out.size, below_more HWb.out HBW.out⟩)
        rcases HRE.out with hE | ⟨x, hx, hdx⟩
        · have hg1 : decide (j < N) = false := decide_eq_false (by omega)
          clear hj
          go_wp2_with fail
          go_ret
          exact HX2.out
        · rw [← hj] at hx
          obtain ⟨b', o', e, hb', hvx⟩ := HNS.out j x hx
          (first | subst e | (injection e with e; injection e with e1 e2; subst e1 e2))
          have z1 := (hvx.below (below_more HWb.out HBW.out) hb').c1
          have hjN : j < N := by rw [HN.out]; exact (List.getElem?_eq_some_iff.1 hx).1
          obtain ⟨dx, hdx'⟩ : ∃ dx, dx = x.depth := ⟨_, rfl⟩
          rw [← hdx'] at z1 hdx
          have hg1 : decide (j < N) = true := decide_eq_true hjN
          have hg2 : decide ((0 : Int) ≤ dx) = false := decide_eq_false (by omega)
          clear hx hvx hdx' hj hdx
          go_wp2_with fail
          go_ret
          exact HX2.out
open Go.RowKit
def depthAt (ns : List Nd) (k : Nat) : Int := (getN ns k).depth
def parentF (ns : List Nd) (d : Int) : Nat → Int
  | 0 => -1
  | k + 1 => if depthAt ns k < d then (k : Int) else parentF ns d k
def parentR (ns : List Nd) (i : Nat) : Int := parentF ns (depthAt ns i) i
set_option maxRecDepth 100000 in
set_option maxHeartbeats 4000000 in
theorem rparent_any (A : Option Addr) (cap i : Nat) (ns : List Nd) (u : Nd) (w : World) (hn : NdsAt w A ns) (hsm : ns.length ≤ 1000000) (hi : ns[i]? = some u) :
    Calls Tryz.prog 91 #[.agg #[.slice A ns.length cap], .int .i64 i] w fun e w' => e = .returned (.int .i64 (parentR ns i)) ∧ Below w.heap.size w w' := by
  have HNS := Lib.hid hn
  obtain ⟨b, o, hA, hb, hva⟩ := hn i u hi
  subst hA
  have hiN : i < ns.length := (List.getElem?_eq_some_iff.1 hi).1
  obtain ⟨d, hd⟩ : ∃ d, d = u.depth := ⟨_, rfl⟩
  have HPR := Lib.hid (show parentR ns i = parentF ns d i by unfold parentR depthAt; rw [getN_at hi, hd])
  have HVD := Lib.hid (show w.cell? ⟨b, o + i * 8 + 1, none⟩ = some (.int .i64 d) by rw [hd]; exact hva.c1)
  obtain ⟨N, hN⟩ : ∃ N, N = ns.length := ⟨_, rfl⟩
  have HN := Lib.hid hN
  rw [← hN] at hsm hiN ⊢
  clear hn hva hd hi hN
  have HWb := Lib.hid (below_alloc w (.cells #[.slice (some ⟨b, o, none⟩) N cap] 27))
  have HX := Lib.hid (heap_alloc_new w (.cells #[.slice (some ⟨b, o, none⟩) N cap] 27))
  go_enter Tryz.func91, Tryz.ntmps91
  go_wp2_with fail
  generalize hWW : w.alloc (.cells #[.slice (some ⟨b, o, none⟩) N cap] 27) = W at HWb HX ⊢
  clear hWW
  go_loopw [5] (fun c wr => ∃ k : Nat, k ≤ i ∧ c = .int .i64 ((k : Int) - 1) ∧ Hid (parentF ns d i = parentF ns d k) ∧ Hid (Below W.heap.size W wr)) (fun c _ => (intOf c + 1).toNat)
  case atStart => exact ⟨i, Nat.le_refl _, rfl, Lib.hid rfl, Lib.hid (Below.refl _ _)⟩
  case round =>
    obtain ⟨k, hk, rfl, hp, hbw⟩ := hrel
    have HBW := Lib.hid hbw.out
    have HPF := Lib.hid hp.out
    clear hbw hp
    have x0 := cell_of_blk (blk_keep HBW.out HX.out) 0
    simp at x0
    have HBB := Lib.hid (below_more HWb.out HBW.out)
    by_cases h0 : k = 0
    · subst h0
      have HF := Lib.hid (show parentR ns i = -1 by rw [HPR.out, HPF.out]; rfl)
      go_wp2_with fail
      go_ret
      exact ⟨of_int HF.out.symm, HBB.out⟩
    · obtain ⟨q, rfl⟩ : ∃ q, k = q + 1 := ⟨k - 1, by omega⟩
      rw [show ((q + 1 : Nat) : Int) - 1 = (q : Int) by omega]
      obtain ⟨x, hx⟩ : ∃ x, ns[q]? = some x := ⟨_, List.getElem?_eq_getElem (by have := HN.out; omega)⟩
      obtain ⟨b', o', e, hb', hvx⟩ := HNS.out q x hx
      injection e with e; injection e with e1 e2
      subst e1 e2
      have z1 := (hvx.below HBB.out hb').c1
      have z2 := (HBB.out.cell (p := ⟨b, o + i * 8 + 1, none⟩) hb').trans HVD.out
      have hqN : q < N := by omega
      have hs0 : b < wr.heap.size := by have := HBB.out.size; omega
      have hs1 : w.heap.size < wr.heap.size := (Array.getElem?_eq_some_iff.1 (blk_keep HBW.out HX.out)).1
      obtain ⟨dx, hdx⟩ : ∃ dx, dx = x.depth := ⟨_, rfl⟩
      rw [← hdx] at z1
      have HDA := Lib.hid (show parentF ns d (q + 1) = if dx < d then (q : Int) else parentF ns d q by rw [parentF]; unfold depthAt; rw [getN_at hx, hdx])
      clear hx hvx hdx
      by_cases hlt : dx < d
      · have HF := Lib.hid (show parentR ns i = q by rw [HPR.out, HPF.out, HDA.out, if_pos hlt])
        go_wp2_with fail
        refine wp_region_later (by kernel_rfl) (by kernel_rfl) ?_; (repeat (first | go_big_quiet_step (fail) | quiet_step (fail))); refine wpQuiet_nil ?_; rintro _ ⟨s, rfl⟩
        have HB5 := Lib.hid (below_more HBB.out s.below)
        generalize s.w = W5 at HB5 ⊢
        go_wp2_with fail
        go_ret
        exact ⟨of_int HF.out.symm, HB5.out⟩
      · have HF := Lib.hid (show parentF ns d i = parentF ns d q by rw [HPF.out, HDA.out, if_neg hlt])
        go_wp2_with fail
        refine wp_region_later (by kernel_rfl) (by kernel_rfl) ?_; (repeat (first | go_big_quiet_step (fail) | quiet_step (fail))); refine wpQuiet_nil ?_; rintro _ ⟨s, rfl⟩
        have HB5 := Lib.hid (below_more HBW.out s.below)
        generalize s.w = W5 at HB5 ⊢
        go_wp2_with fail
        go_roundw
        case rel => exact ⟨q, by omega, rfl, HF, HB5⟩
        case measure => simp [intOf] <;> omega
open Go.RowKit
def badD (ns : List Nd) (i : Nat) (d : Int) : Prop := 0 < i ∧ ((getN ns (i - 1)).depth + 1 < d ∨ (leafB (getN ns (i - 1)).kind = true ∧ (getN ns (i - 1)).depth < d))
instance (ns : List Nd) (i : Nat) (d : Int) : Decidable (badD ns i d) := by unfold badD; infer_instance
def kindErr (l : Li) (u : Nd) : Int := if u.kind = 1 then glyphErr l u else if u.kind = 6 then gapErr u else plainErr u
def ownErr (l : Li) (ns : List Nd) (i : Nat) (u : Nd) : Int :=
  if u.kind < 1 ∨ 7 < u.kind then 20
  else if u.depth < 0 ∨ 4 < u.depth ∨ (i = 0 ∧ 0 < u.depth) then 21
  else if badD ns i u.depth then 21
  else kindErr l u
theorem leaf_is (k : Int) (w : World) (r : Bool) (h : leafB k = r) : Calls Tryz.prog 45 #[.int .i64 k] w fun e w' => e = .returned (.bool r) ∧ w = w' := by
  rw [← h]; exact leaf_any k w
set_option maxRecDepth 100000 in
set_option maxHeartbeats 8000000 in
theorem rown_any (L : Lm) (A : Option Addr) (cap i : Nat) (ns : List Nd) (u : Nd) (w : World) (hl : LmOk w L) (hn : NdsAt w A ns) (hsm : ns.length ≤ 1000000) (hi : ns[i]? = some u) (hpd : ∀ x ∈ ns.take i, 0 ≤ x.depth ∧ x.depth ≤ 4) :
    Calls Tryz.prog 89 #[L.val, .agg #[.slice A ns.length cap], .int .i64 i] w fun e w' => e = .returned (.int .i64 (ownErr L.li ns i u)) ∧ Below w.heap.size w w' := by
  have hin : i < ns.length := (List.getElem?_eq_some_iff.1 hi).1
  have HL := Lib.hid hl
  have HNS := Lib.hid hn
  obtain ⟨b, o, hA, hblt, hva⟩ := hn i u hi
  subst hA
  obtain ⟨y0, y1, y2, y3, y4, y5, y6, y7⟩ := hva
  obtain ⟨N, hN⟩ : ∃ N, N = ns.length := ⟨_, rfl⟩
  have HN := Lib.hid hN
  obtain ⟨R, hR⟩ : ∃ R, R = ownErr L.li ns i u := ⟨_, rfl⟩
  have HE := Lib.hid (show R = if u.kind < 1 ∨ 7 < u.kind then 20 else if u.depth < 0 ∨ 4 < u.depth ∨ (i = 0 ∧ 0 < u.depth) then 21 else if badD ns i u.depth then 21 else kindErr L.li u from hR)
  have HPD := Lib.hid hpd
  rw [← hR]
  rw [← hN] at hin hsm ⊢
  unfold Lm.val
  clear hn hl hi hN hR hpd
  obtain ⟨kind, depth, sign, turn, mirror, state, mn, mx⟩ := u
  dsimp only at y0 y1 y2 y3 y4 y5 y6 y7 HE
  obtain ⟨W, hW⟩ : ∃ W, W = ((w.alloc (.cells #[.int .i64 L.per, .slice L.A L.ms.length L.cap] 24)).alloc (.cells #[.slice (some ⟨b, o, none⟩) N cap] 27)).alloc (.cells #[.int .i64 kind, .int .i64 depth, .int .i64 sign, .int .i64 turn, .bool mirror, .int .i64 state, .int .i64 mn, .int .i64 mx] 87) := ⟨_, rfl⟩
  have HB := Lib.hid (show Below w.heap.size w W from hW ▸ (two_under _ _ _).alloc (by simp; omega) _)
  have hkp := Lib.hid (below_alloc ((w.alloc (.cells #[.int .i64 L.per, .slice L.A L.ms.length L.cap] 24)).alloc (.cells #[.slice (some ⟨b, o, none⟩) N cap] 27)) (.cells #[.int .i64 kind, .int .i64 depth, .int .i64 sign, .int .i64 turn, .bool mirror, .int .i64 state, .int .i64 mn, .int .i64 mx] 87))
  have HX0 := Lib.hid (show W.heap[w.heap.size]? = some (.cells #[.int .i64 L.per, .slice L.A L.ms.length L.cap] 24 (0, 0)) by rw [hW]; refine blk_keep hkp.out ?_; rw [heap_alloc_other _ _ _ (by simp)]; exact heap_alloc_new _ _)
  have HX1 := Lib.hid (show W.heap[w.heap.size + 1]? = some (.cells #[.slice (some ⟨b, o, none⟩) N cap] 27 (0, 0)) by
    rw [hW]; refine blk_keep hkp.out ?_
    have := heap_alloc_new (w.alloc (.cells #[.int .i64 L.per, .slice L.A L.ms.length L.cap] 24)) (.cells #[.slice (some ⟨b, o, none⟩) N cap] 27); simpa using this)
  have HX2 := Lib.hid (show W.heap[w.heap.size + 1 + 1]? = some (.cells #[.int .i64 kind, .int .i64 depth, .int .i64 sign, .int .i64 turn, .bool mirror, .int .i64 state, .int .i64 mn, .int .i64 mx] 87 (0, 0)) by
    rw [hW]
    have := heap_alloc_new ((w.alloc (.cells #[.int .i64 L.per, .slice L.A L.ms.length L.cap] 24)).alloc (.cells #[.slice (some ⟨b, o, none⟩) N cap] 27)) (.cells #[.int .i64 kind, .int .i64 depth, .int .i64 sign, .int .i64 turn, .bool mirror, .int .i64 state, .int .i64 mn, .int .i64 mx] 87); simpa using this)
  clear hkp
  by_cases h1 : kind < 1
  · have HF := Lib.hid (show R = 20 by rw [HE.out, if_pos (.inl h1)])
    clear HE
    go_enter Tryz.func89, Tryz.ntmps89
    go_wp2
    go_ret
    exact ⟨of_int HF.out.symm, hW ▸ HB.out⟩
  by_cases h2 : 7 < kind
  · have HF := Lib.hid (show R = 20 by rw [HE.out, if_pos (.inr h2)])
    clear HE
    go_enter Tryz.func89, Tryz.ntmps89
    go_wp2
    go_ret
    exact ⟨of_int HF.out.symm, hW ▸ HB.out⟩
  by_cases h3 : depth < 0
  · have HF := Lib.hid (show R = 21 by rw [HE.out, if_neg (by omega), if_pos (.inl h3)])
    clear HE
    go_enter Tryz.func89, Tryz.ntmps89
    go_wp2
    go_ret
    exact ⟨of_int HF.out.symm, hW ▸ HB.out⟩
  by_cases h4 : 4 < depth
  · have HF := Lib.hid (show R = 21 by rw [HE.out, if_neg (by omega), if_pos (.inr (.inl h4))])
    clear HE
    go_enter Tryz.func89, Tryz.ntmps89
    go_wp2
    go_ret
    exact ⟨of_int HF.out.symm, hW ▸ HB.out⟩
  by_cases h5 : i = 0 ∧ 0 < depth
  · have HF := Lib.hid (show R = 21 by rw [HE.out, if_neg (by omega), if_pos (.inr (.inr h5))])
    have hi0 : ((i : Int) == 0) = true := by simp [h5.1]
    have hd0 : decide (0 < depth) = true := decide_eq_true h5.2
    clear HE h5
    go_enter Tryz.func89, Tryz.ntmps89
    go_wp2
    go_ret
    exact ⟨of_int HF.out.symm, hW ▸ HB.out⟩
  have HE2 := Lib.hid (show R = if badD ns i depth then 21 else kindErr L.li ⟨kind, depth, sign, turn, mirror, state, mn, mx⟩ by rw [HE.out, if_neg (by omega), if_neg (by omega)])
  clear HE
  have hd1 : decide (kind < 1) = false := decide_eq_false h1
  have hd2 : decide (7 < kind) = false := decide_eq_false h2
  have hd3 : decide (depth < 0) = false := decide_eq_false h3
  have hd4 : decide (4 < depth) = false := decide_eq_false h4
  go_enter Tryz.func89, Tryz.ntmps89
  go_upto_region 4 with fail
  rw [← hW]
  have x0 := cell_of_blk HX2.out 0
  have x1 := cell_of_blk HX2.out 1
  have t0 := cell_of_blk HX1.out 0
  simp at x0 x1 t0
  clear hW
  go_cut [39] (fun s wx => s = .bool false ∧ wx = W)
  case first =>
    by_cases hi : i = 0
    · have hi0 : ((i : Int) == 0) = true := by simp [hi]
      have hd0 : decide (0 < depth) = false := decide_eq_false (by omega)
      clear hi
      go_wp2_with fail
      go_meet
      exact ⟨rfl, rfl⟩
    · have hi0 : ((i : Int) == 0) = false := by simp [hi]
      clear hi
      go_wp2_with fail
      go_meet
      exact ⟨rfl, rfl⟩
  case rest =>
  obtain ⟨rfl, rfl⟩ := hcut
  obtain ⟨W, rfl⟩ : ∃ W, W = wc := ⟨_, rfl⟩
  have hws2 : w.heap.size + 1 + 1 < W.heap.size := (Array.getElem?_eq_some_iff.1 HX2.out).1
  have hws1 : w.heap.size + 1 < W.heap.size := by omega
  have hws0 : w.heap.size < W.heap.size := by omega
  have HPV := Lib.hid (fun (h : 0 < i) => show ∃ x : Nd, getN ns (i - 1) = x ∧ (0 ≤ x.depth ∧ x.depth ≤ 4) ∧ NdAt W b (o + (i - 1) * 8) x by
    obtain ⟨x, hx⟩ : ∃ x, ns[i - 1]? = some x := ⟨_, List.getElem?_eq_getElem (by have := HN.out; omega)⟩
    obtain ⟨b', o', e, hb', hv⟩ := HNS.out (i - 1) x hx
    injection e with e; injection e with e1 e2
    subst e1 e2
    exact ⟨x, getN_at hx, HPD.out x (List.mem_of_getElem? (i := i - 1) (by rw [List.getElem?_take, if_pos (by omega)]; exact hx)), hv.below HB.out hb'⟩)
  by_cases hbad : badD ns i depth
  · have HF := Lib.hid (show R = 21 by rw [HE2.out, if_pos hbad])
    obtain ⟨hi0, hbad⟩ := hbad
    obtain ⟨x, hx, hxd, hva⟩ := HPV.out hi0
    rw [hx] at hbad
    obtain ⟨q, hq⟩ : ∃ q, i = q + 1 := ⟨i - 1, by omega⟩
    have hiq : ((i : Int) - 1) = (q : Int) := by omega
    rw [show i - 1 = q by omega] at hva
    obtain ⟨p0, p1, p2, p3, p4, p5, p6, p7⟩ := hva
    have hqN : q < N := by omega
    have hdi : decide ((0 : Int) < (i : Int)) = true := decide_eq_true (by omega)
    have hdi2 : decide (0 < i) = true := decide_eq_true (by omega)
    obtain ⟨pk, pd, ps, pt, pm, pst, pmn, pmx⟩ := x
    dsimp only at hbad hxd p0 p1 p2 p3 p4 p5 p6 p7
    clear HE2 HPV hx hq hi0
    have hwp : IntKind.i64.wrap (pd + 1) = pd + 1 := IntWalk.i64_in _ (by omega)
    by_cases ha : pd + 1 < depth
    · have hda : decide (pd + 1 < depth) = true := decide_eq_true ha
      clear hbad
      go_wp2_with fail
      go_ret
      exact ⟨of_int HF.out.symm, below_more HB.out (below_alloc _ _)⟩
    · have hda : decide (pd + 1 < depth) = false := decide_eq_false ha
      have hbb : leafB pk = true ∧ pd < depth := by rcases hbad with h | h; exact absurd h ha; exact h
      have hdb : decide (pd < depth) = true := decide_eq_true hbb.2
      have HLF := Lib.hid (fun wx => leaf_is pk wx true hbb.1)
      clear hbad ha hbb
      go_wp2_with fail
      refine (HLF.out _).mono ?_; rintro e w' ⟨rfl, rfl⟩
      go_wp2_with fail
      go_ret
      exact ⟨of_int HF.out.symm, below_more HB.out (below_alloc _ _)⟩
  have HE3 := Lib.hid (show R = kindErr L.li ⟨kind, depth, sign, turn, mirror, state, mn, mx⟩ by rw [HE2.out, if_neg hbad])
  have HBD := Lib.hid (fun (x : Nd) (hi0 : 0 < i) (hx : getN ns (i - 1) = x) => show ¬ (x.depth + 1 < depth) ∧ (leafB x.kind = true → ¬ x.depth < depth) by
    have h : ¬ badD ns i depth := hbad
    unfold badD at h
    rw [hx] at h
    exact ⟨fun e => h ⟨hi0, .inl e⟩, fun e e2 => h ⟨hi0, .inr ⟨e, e2⟩⟩⟩)
  clear HE2 hbad
  obtain ⟨B, hdi2⟩ : ∃ B, decide (0 < i) = B := ⟨_, rfl⟩
  have HBI := Lib.hid hdi2
  go_upto_if 41 with fail
  clear hdi2
  go_cut [8] (fun _ wx => Hid (Below W.heap.size W wx))
  case first =>
    cases B with
    | false =>
      go_wp2_with fail
      go_meet
      exact Lib.hid (Below.refl _ _)
    | true =>
      have hi : ¬ i = 0 := by have := of_decide_eq_true HBI.out; omega
      obtain ⟨x, hx, hxd, hva⟩ := HPV.out (by omega)
      obtain ⟨hn1, hn2⟩ := HBD.out x (by omega) hx
      obtain ⟨q, hq⟩ : ∃ q, i = q + 1 := ⟨i - 1, by omega⟩
      have hiq : ((i : Int) - 1) = (q : Int) := by omega
      rw [show i - 1 = q by omega] at hva
      obtain ⟨p0, p1, p2, p3, p4, p5, p6, p7⟩ := hva
      have hqN : q < N := by omega
      obtain ⟨pk, pd, ps, pt, pm, pst, pmn, pmx⟩ := x
      dsimp only at hn1 hn2 hxd p0 p1 p2 p3 p4 p5 p6 p7
      have hwp : IntKind.i64.wrap (pd + 1) = pd + 1 := IntWalk.i64_in _ (by omega)
      have hda : decide (pd + 1 < depth) = false := decide_eq_false hn1
      clear HPV HBD hx hq hi
      obtain ⟨lf, hlf⟩ : ∃ lf, leafB pk = lf := ⟨_, rfl⟩
      have HLF := Lib.hid (fun wx => leaf_is pk wx lf hlf)
      cases lf with
      | true =>
        have hdb : decide (pd < depth) = false := decide_eq_false (hn2 hlf)
        clear hn2 hlf
        go_wp2_with fail
        refine (HLF.out _).mono ?_; rintro e w' ⟨rfl, rfl⟩
        go_wp2_with fail
        go_meet
        exact Lib.hid (below_alloc _ _)
      | false =>
        clear hn2 hlf
        go_wp2_with fail
        refine (HLF.out _).mono ?_; rintro e w' ⟨rfl, rfl⟩
        go_wp2_with fail
        go_meet
        exact Lib.hid (below_alloc _ _)
  case rest =>
  obtain ⟨wr, rfl⟩ : ∃ wr, wr = wc := ⟨_, rfl⟩
  have HBR := Lib.hid (below_more HB.out hcut.out)
  have HY0 := Lib.hid (blk_keep hcut.out HX0.out)
  have HY2 := Lib.hid (blk_keep hcut.out HX2.out)
  clear hcut x0 x1 t0 HX0 HX1 HX2 HPV HBD hd1 hd2 hd3 hd4 hws0 hws1 hws2 h5
  have hw0 : w.heap.size < wr.heap.size := (Array.getElem?_eq_some_iff.1 HY0.out).1
  have hw2 : w.heap.size + 1 + 1 < wr.heap.size := (Array.getElem?_eq_some_iff.1 HY2.out).1
  have l0 := cell_of_blk HY0.out 0
  have l1 := cell_of_blk HY0.out 1
  have x0 := cell_of_blk HY2.out 0
  have x1 := cell_of_blk HY2.out 1
  have x2 := cell_of_blk HY2.out 2
  have x3 := cell_of_blk HY2.out 3
  have x4 := cell_of_blk HY2.out 4
  have x5 := cell_of_blk HY2.out 5
  have x6 := cell_of_blk HY2.out 6
  have x7 := cell_of_blk HY2.out 7
  simp at l0 l1 x0 x1 x2 x3 x4 x5 x6 x7
  have HZ := Lib.hid (fun (a b : Obj) => show Below w.heap.size w (wr.alloc a) from below_more HBR.out (below_alloc _ _))
  by_cases hk1 : kind = 1
  · have hkb : (kind == 1) = true := by simpa using hk1
    have HEG := Lib.hid (show R = glyphErr L.li ⟨kind, depth, sign, turn, mirror, state, mn, mx⟩ by rw [HE3.out]; unfold kindErr; rw [if_pos hk1])
    clear HE3 hk1
    have hlen : L.ms.length = L.li.signs.length := by rw [show L.li.signs = L.signs from rfl, Lm.length_signs]
    have HGS := Lib.hid (fun k (m : Sm) (hk : L.ms[k]? = some m) => show L.li.signs[k]? = some m.s from Lm.getElem_signs hk)
    have hlc := HL.out.len
    have hcap := HL.out.cap
    unfold maxLen at hcap
    obtain ⟨l, hli⟩ : ∃ l, l = L.li := ⟨_, rfl⟩
    rw [← hli] at hlen HGS HEG
    obtain ⟨M, hM⟩ : ∃ M, M = L.ms.length := ⟨_, rfl⟩
    have HM := Lib.hid hM
    rw [← hM] at hlc hlen l1
    clear hli hM
    have HG1 := Lib.hid (show sign < 0 ∨ (M : Int) ≤ sign → R = 23 from fun h => by rw [HEG.out]; unfold glyphErr; rw [if_pos (by dsimp only; omega)])
    have HG2 := Lib.hid (show ¬ (sign < 0 ∨ (M : Int) ≤ sign) → turn < 0 ∨ 3 < turn ∨ state < 0 ∨ 3 < state → R = 20 from fun h h' => by
      rw [HEG.out]; unfold glyphErr; rw [if_neg (by dsimp only; omega), if_pos (by dsimp only; omega)])
    have HG3 := Lib.hid (show ¬ (sign < 0 ∨ (M : Int) ≤ sign) → ¬ (turn < 0 ∨ 3 < turn ∨ state < 0 ∨ 3 < state) → R = if mirror && (l.signs[sign.toNat]?.any (·.even)) then 20 else if mn = 0 ∧ mx = 0 then 0 else 20 from fun h h' => by
      rw [HEG.out]; unfold glyphErr; rw [if_neg (by dsimp only; omega), if_neg (by dsimp only; omega)])
    clear HEG hlen
    by_cases g1 : sign < 0
    · have HF := Lib.hid (show R = 23 from HG1.out (by omega))
      clear HG1 HG2 HG3
      go_wp2_with fail
      go_ret
      exact ⟨of_int HF.out.symm, below_more HBR.out (below_alloc _ _)⟩
    by_cases g2 : (M : Int) ≤ sign
    · have HF := Lib.hid (show R = 23 from HG1.out (by omega))
      clear HG1 HG2 HG3
      go_wp2_with fail
      go_ret
      exact ⟨of_int HF.out.symm, below_more HBR.out (below_alloc _ _)⟩
    by_cases g3 : turn < 0
    · have HF := Lib.hid (show R = 20 from HG2.out (by omega) (by omega))
      clear HG1 HG2 HG3
      go_wp2_with fail
      go_ret
      exact ⟨of_int HF.out.symm, below_more HBR.out (below_alloc _ _)⟩
    by_cases g4 : 3 < turn
    · have HF := Lib.hid (show R = 20 from HG2.out (by omega) (by omega))
      clear HG1 HG2 HG3
      go_wp2_with fail
      go_ret
      exact ⟨of_int HF.out.symm, below_more HBR.out (below_alloc _ _)⟩
    by_cases g5 : state < 0
    · have HF := Lib.hid (show R = 20 from HG2.out (by omega) (by omega))
      clear HG1 HG2 HG3
      go_wp2_with fail
      go_ret
      exact ⟨of_int HF.out.symm, below_more HBR.out (below_alloc _ _)⟩
    by_cases g6 : 3 < state
    · have HF := Lib.hid (show R = 20 from HG2.out (by omega) (by omega))
      clear HG1 HG2 HG3
      go_wp2_with fail
      go_ret
      exact ⟨of_int HF.out.symm, below_more HBR.out (below_alloc _ _)⟩
    obtain ⟨k, rfl⟩ : ∃ k : Nat, sign = k := ⟨sign.toNat, by omega⟩
    have hk : k < M := by omega
    have HG := Lib.hid (HG3.out (by omega) (by omega))
    clear HG1 HG2 HG3
    obtain ⟨u, hu⟩ : ∃ u, L.ms[k]? = some u := ⟨_, List.getElem?_eq_getElem (by have := HM.out; omega)⟩
    obtain ⟨sb, so, hAs, hsb, hvs, -⟩ := HL.out.signs k u hu
    have hev : l.signs[(k : Int).toNat]?.any (·.even) = u.s.even := by rw [Int.toNat_natCast, HGS.out k u hu]; rfl
    rw [hev] at HG
    have z3 := (HBR.out.cell (p := ⟨sb, so + k * 5 + 3, none⟩) hsb).trans hvs.c3
    rw [hAs] at l1
    have hsw : sb < wr.heap.size := by have := HBR.out.size; omega
    obtain ⟨ev, hE⟩ : ∃ ev, ev = u.s.even := ⟨_, rfl⟩
    rw [← hE] at HG z3
    clear hu hvs hE HGS hev hAs
    cases mirror with
    | false =>
      go_wp2
      all_goals go_ret
      all_goals exact ⟨of_int (by rw [HG.out]; simp [*]), below_more HBR.out (below_alloc _ _)⟩
    | true =>
      cases ev with
      | false =>
        go_wp2
        all_goals go_ret
        all_goals exact ⟨of_int (by rw [HG.out]; simp [*]), below_more HBR.out (below_alloc _ _)⟩
      | true =>
        have HF := Lib.hid (show R = 20 by rw [HG.out]; rfl)
        clear HG
        go_wp2_with fail
        go_ret
        exact ⟨of_int HF.out.symm, below_more HBR.out (below_alloc _ _)⟩
  have hkb : (kind == 1) = false := by simpa using hk1
  by_cases hk6 : kind = 6
  · have hkc : (kind == 6) = true := by simpa using hk6
    have HEG := Lib.hid (show R = gapErr ⟨kind, depth, sign, turn, mirror, state, mn, mx⟩ by rw [HE3.out]; unfold kindErr; rw [if_neg hk1, if_pos hk6])
    clear HE3 hk1 hk6
    by_cases g1 : mn < 0
    · have HF := Lib.hid (show R = 22 by rw [HEG.out]; unfold gapErr; rw [if_pos (.inl g1)])
      clear HEG
      go_wp2_with fail
      go_ret
      exact ⟨of_int HF.out.symm, below_more HBR.out (below_alloc _ _)⟩
    by_cases g2 : mx < mn
    · have HF := Lib.hid (show R = 22 by rw [HEG.out]; unfold gapErr; rw [if_pos (.inr (.inl g2))])
      clear HEG
      go_wp2_with fail
      go_ret
      exact ⟨of_int HF.out.symm, below_more HBR.out (below_alloc _ _)⟩
    by_cases g3 : 9 < mx
    · have HF := Lib.hid (show R = 22 by rw [HEG.out]; unfold gapErr; rw [if_pos (.inr (.inr (.inl g3)))])
      clear HEG
      go_wp2_with fail
      go_ret
      exact ⟨of_int HF.out.symm, below_more HBR.out (below_alloc _ _)⟩
    by_cases g4 : mx < 1
    · have HF := Lib.hid (show R = 22 by rw [HEG.out]; unfold gapErr; rw [if_pos (.inr (.inr (.inr g4)))])
      clear HEG
      go_wp2_with fail
      go_ret
      exact ⟨of_int HF.out.symm, below_more HBR.out (below_alloc _ _)⟩
    have HG2 := Lib.hid (show ∀ (a b : Int) (c : Bool) (d : Int), gapErr ⟨kind, depth, a, b, c, d, mn, mx⟩ = if a = 0 ∧ b = 0 ∧ c = false ∧ d = 0 then 0 else 20 from fun a b c d => by
      unfold gapErr; rw [if_neg (by dsimp only; omega)])
    go_wp2
    all_goals go_ret
    all_goals exact ⟨of_int (by rw [HEG.out, HG2.out]; simp [*]), below_more HBR.out (below_alloc _ _)⟩
  have hkc : (kind == 6) = false := by simpa using hk6
  have HEG := Lib.hid (show ∀ (a b : Int) (c : Bool) (d e f : Int), plainErr ⟨kind, depth, a, b, c, d, e, f⟩ = if a = 0 ∧ b = 0 ∧ c = false ∧ d = 0 ∧ e = 0 ∧ f = 0 then 0 else 20 from fun _ _ _ _ _ _ => rfl)
  have HF2 := Lib.hid (show R = plainErr ⟨kind, depth, sign, turn, mirror, state, mn, mx⟩ by rw [HE3.out]; unfold kindErr; rw [if_neg hk1, if_neg hk6])
  clear HE3 hk1 hk6
  go_wp2
  all_goals go_ret
  all_goals exact ⟨of_int (by rw [HF2.out, HEG.out]; simp [*]), below_more HBR.out (below_alloc _ _)⟩
def famBad (n kid : Int) : Bool := ((n == 4) && (kid != 1)) || (((n == 2) || (n == 5) || (n == 7)) && (kid == 2)) || ((n == 3) && (kid == 3)) || ((n == 7) && (kid == 7))
def famB (ns : List Nd) (i : Nat) (p : Int) : Bool :=
  !decide (((kidsL ns i).length : Int) < (kidsR (kindAt ns i)).1) && !decide ((kidsR (kindAt ns i)).2 < ((kidsL ns i).length : Int)) &&
  !((kindAt ns i == 5) && decide (0 < depthAt ns i)) &&
  !((kindAt ns i == 7) && decide (0 < depthAt ns i) && ((kindAt ns p.toNat != 5) || ((kidsL ns p.toNat).length != 1))) &&
  (kidsL ns i).all fun j => !famBad (kindAt ns i) (kindAt ns j)
def famsB (ns : List Nd) : Bool := (List.range ns.length).all fun i => famB ns i (parentR ns i)
def Rises (ns : List Nd) : Prop := ∀ (k : Nat) (u v : Nd), ns[k]? = some u → ns[k + 1]? = some v → v.depth ≤ u.depth + 1
theorem own_node (l : Li) (ns : List Nd) (i : Nat) (u : Nd) (hi : ns[i]? = some u) (hd : ∀ x ∈ ns.take i, 0 ≤ x.depth ∧ x.depth ≤ 4) : ownErr l ns i u = nodeErr l (ns.take i) u := by
  have hin : i < ns.length := (List.getElem?_eq_some_iff.1 hi).1
  have hlen : (ns.take i).length = i := by rw [List.length_take]; omega
  unfold ownErr nodeErr kindErr
  by_cases h1 : u.kind < 1 ∨ 7 < u.kind
  · rw [if_pos h1, if_pos h1]
  rw [if_neg h1, if_neg h1]
  have key : ((u.depth < 0 ∨ 4 < u.depth ∨ (i = 0 ∧ 0 < u.depth)) ∨ badD ns i u.depth) ↔ (u.depth < 0 ∨ deepR (ns.take i) < u.depth) := by
    rcases Nat.eq_zero_or_pos i with h0 | h0
    · subst h0
      have e : deepR (ns.take 0) = 0 := rfl
      rw [e]
      unfold badD
      omega
    · obtain ⟨x, hx⟩ : ∃ x, ns[i - 1]? = some x := ⟨_, List.getElem?_eq_getElem (by omega)⟩
      have hxt : (ns.take i)[(ns.take i).length - 1]? = some x := by rw [hlen, List.getElem?_take, if_pos (by omega)]; exact hx
      have hxd := hd x (List.mem_of_getElem? hxt)
      have e : deepR (ns.take i) = if leafB x.kind then x.depth else if x.depth + 1 ≤ 4 then x.depth + 1 else 4 := by unfold deepR; rw [hxt]
      rw [e]
      unfold badD
      rw [getN_at hx]
      cases hl : leafB x.kind
      · simp only [Bool.false_eq_true, if_false]
        split <;> simp <;> omega
      · simp only [if_true]
        simp
        omega
  by_cases h2 : u.depth < 0 ∨ 4 < u.depth ∨ (i = 0 ∧ 0 < u.depth)
  · rw [if_pos h2, if_pos (key.1 (.inl h2))]
  · rw [if_neg h2]
    by_cases h3 : badD ns i u.depth
    · rw [if_pos h3, if_pos (key.1 (.inr h3))]
    · have hk : ¬ (u.depth < 0 ∨ deepR (ns.take i) < u.depth) := fun h => by rcases key.2 h with h | h; exact h2 h; exact h3 h
      rw [if_neg h3, if_neg hk]
theorem depthAt_is {ns : List Nd} {k : Nat} {u : Nd} (h : ns[k]? = some u) : depthAt ns k = u.depth := by unfold depthAt; rw [getN_at h]
theorem parentF_spec (ns : List Nd) (d : Int) : ∀ j : Nat, (parentF ns d j = -1 ∧ ∀ k, k < j → ¬ depthAt ns k < d) ∨ (∃ k, k < j ∧ parentF ns d j = (k : Int) ∧ depthAt ns k < d ∧ ∀ q, k < q → q < j → ¬ depthAt ns q < d)
  | 0 => .inl ⟨rfl, fun k hk => by omega⟩
  | j + 1 => by
    rw [parentF]
    by_cases h : depthAt ns j < d
    · rw [if_pos h]; exact .inr ⟨j, by omega, rfl, h, fun q h1 h2 => by omega⟩
    · rw [if_neg h]
      rcases parentF_spec ns d j with ⟨h1, h2⟩ | ⟨k, h1, h2, h3, h4⟩
      · exact .inl ⟨h1, fun k hk => by
          rcases Nat.lt_or_ge k j with hlt | hge
          · exact h2 k hlt
          · rw [show k = j by omega]; exact h⟩
      · exact .inr ⟨k, by omega, h2, h3, fun q hq1 hq2 => by
          rcases Nat.lt_or_ge q j with hlt | hge
          · exact h4 q hq1 hlt
          · rw [show q = j by omega]; exact h⟩
theorem kids_iff {ns : List Nd} {i j : Nat} {u : Nd} (hi : ns[i]? = some u) : j ∈ kidsL ns i ↔ i < j ∧ j < ns.length ∧ depthAt ns j = u.depth + 1 ∧ ∀ q, i < q → q ≤ j → u.depth < depthAt ns q := by
  have hin : i < ns.length := (List.getElem?_eq_some_iff.1 hi).1
  unfold kidsL
  rw [hi]
  show j ∈ (List.range' (i + 1) (spanN ns u.depth i)).filter (kidB ns u.depth) ↔ _
  rw [List.mem_filter, List.mem_range'_1]
  constructor
  · rintro ⟨⟨h1, h2⟩, h3⟩
    have hle := spanN_le ns u.depth i hin
    obtain ⟨x, hx⟩ : ∃ x, ns[j]? = some x := ⟨_, List.getElem?_eq_getElem (by omega)⟩
    refine ⟨by omega, by omega, ?_, fun q hq1 hq2 => ?_⟩
    · unfold kidB at h3; rw [hx] at h3
      rw [depthAt_is hx]; simpa using h3
    · obtain ⟨y, hy1, hy2⟩ := spanN_at (ns := ns) (d := u.depth) (i := i) (k := q - (i + 1)) (by omega)
      rw [show i + 1 + (q - (i + 1)) = q by omega] at hy1
      rw [depthAt_is hy1]; exact hy2
  · rintro ⟨h1, h2, h3, h4⟩
    obtain ⟨x, hx⟩ : ∃ x, ns[j]? = some x := ⟨_, List.getElem?_eq_getElem h2⟩
    rw [depthAt_is hx] at h3
    refine ⟨⟨by omega, ?_⟩, by unfold kidB; rw [hx]; simpa using h3⟩
    rcases Nat.lt_or_ge j (i + 1 + spanN ns u.depth i) with hlt | hge
    · exact hlt
    · exfalso
      rcases spanN_end ns u.depth i hin with he | ⟨y, hy1, hy2⟩
      · omega
      · have := h4 (i + 1 + spanN ns u.depth i) (by omega) hge
        rw [depthAt_is hy1] at this
        omega
theorem parent_kid {ns : List Nd} {i j : Nat} (hi : i < ns.length) (hj : j ∈ kidsL ns i) : parentR ns j = (i : Int) := by
  obtain ⟨u, hu⟩ : ∃ u, ns[i]? = some u := ⟨_, List.getElem?_eq_getElem hi⟩
  obtain ⟨h1, h2, h3, h4⟩ := (kids_iff hu).1 hj
  have hdi := depthAt_is hu
  unfold parentR
  rcases parentF_spec ns (depthAt ns j) j with ⟨_, e2⟩ | ⟨k, e1, e2, e3, e4⟩
  · exact absurd (by omega) (e2 i h1)
  · rcases Nat.lt_trichotomy k i with hlt | heq | hgt
    · exact absurd (by omega) (e4 i hlt h1)
    · rw [e2, heq]
    · have := h4 k hgt (by omega); omega
theorem kid_parent {ns : List Nd} (hr : Rises ns) (h0 : ∀ u, ns[0]? = some u → u.depth ≤ 0) {j : Nat} (hj : j < ns.length) (hd : 0 < depthAt ns j) : ∃ i, i < j ∧ parentR ns j = (i : Int) ∧ j ∈ kidsL ns i := by
  have hrise : ∀ k, k + 1 < ns.length → depthAt ns (k + 1) ≤ depthAt ns k + 1 := fun k hk => by
    obtain ⟨u, hu⟩ : ∃ u, ns[k]? = some u := ⟨_, List.getElem?_eq_getElem (by omega)⟩
    obtain ⟨v, hv⟩ : ∃ v, ns[k + 1]? = some v := ⟨_, List.getElem?_eq_getElem hk⟩
    rw [depthAt_is hu, depthAt_is hv]; exact hr k u v hu hv
  have hz : depthAt ns 0 ≤ 0 := by
    obtain ⟨u, hu⟩ : ∃ u, ns[0]? = some u := ⟨_, List.getElem?_eq_getElem (by omega)⟩
    rw [depthAt_is hu]; exact h0 u hu
  rcases parentF_spec ns (depthAt ns j) j with ⟨_, e2⟩ | ⟨k, e1, e2, e3, e4⟩
  · have hj0 : j ≠ 0 := fun e => by subst e; omega
    exact absurd (by omega) (e2 0 (by omega))
  · obtain ⟨u, hu⟩ : ∃ u, ns[k]? = some u := ⟨_, List.getElem?_eq_getElem (by omega)⟩
    have hdk := depthAt_is hu
    have hge : ∀ q, k < q → q ≤ j → depthAt ns j ≤ depthAt ns q := fun q h1 h2 => by
      rcases Nat.lt_or_ge q j with hlt | hge
      · have := e4 q h1 hlt; omega
      · rw [show q = j by omega]; omega
    have h1 := hge (k + 1) (by omega) (by omega)
    have h2 := hrise k (by omega)
    refine ⟨k, e1, e2, (kids_iff hu).2 ⟨e1, hj, by omega, fun q h3 h4 => by have := hge q h3 h4; omega⟩⟩
theorem all_range {n : Nat} {p : Nat → Bool} : (List.range n).all p = true ↔ ∀ i, i < n → p i = true := by
  rw [List.all_eq_true]; exact ⟨fun h i hi => h i (List.mem_range.2 hi), fun h i hi => h i (List.mem_range.1 hi)⟩
theorem holds_bad {a b n : Int} (h : holdsB a b n = true) : famBad a b = false := by
  unfold holdsB at h
  unfold famBad
  by_cases h5 : b = 5
  · subst h5; simp at h
  by_cases h7 : b = 7
  · subst h7
    simp at h
    simp [h.1]
  simp [h5, h7] at h ⊢
  by_cases h4 : a = 4
  · subst h4; simp at h ⊢; exact h
  by_cases h3 : a = 3
  · subst h3; simp at h ⊢; exact h
  simp [h4, h3] at h ⊢
  intro _; exact h
theorem fits_fams {ns : List Nd} (hr : Rises ns) (h0 : ∀ u, ns[0]? = some u → u.depth ≤ 0) (hk : ∀ i, i < ns.length → 1 ≤ kindAt ns i ∧ kindAt ns i ≤ 7) (hd : ∀ i, i < ns.length → 0 ≤ depthAt ns i) : fitsB ns = famsB ns := by
  rw [Bool.eq_iff_iff]
  unfold fitsB famsB
  rw [all_range, all_range]
  constructor
  · intro h i hi
    have hf := h i hi
    unfold kidsFitB at hf
    simp only [Bool.and_eq_true, List.all_eq_true] at hf
    unfold famB
    have hpar : 0 < depthAt ns i → kindAt ns i ≠ 5 ∧ (kindAt ns i = 7 → kindAt ns (parentR ns i).toNat = 5 ∧ (kidsL ns (parentR ns i).toNat).length = 1) := fun hdi => by
      obtain ⟨p, hp1, hp2, hp3⟩ := kid_parent hr h0 hi hdi
      have hfp := h p (by omega)
      unfold kidsFitB at hfp
      simp only [Bool.and_eq_true, List.all_eq_true] at hfp
      have hh := hfp.2 i hp3
      rw [hp2, Int.toNat_natCast]
      unfold holdsB at hh
      refine ⟨fun e => by rw [e] at hh; simp at hh, fun e => ?_⟩
      rw [e] at hh
      simp at hh
      exact ⟨hh.1, by omega⟩
    simp only [Bool.and_eq_true, List.all_eq_true]
    refine ⟨⟨⟨⟨hf.1.1, hf.1.2⟩, ?_⟩, ?_⟩, fun j hj => by rw [holds_bad (hf.2 j hj)]; rfl⟩
    · by_cases hdi : 0 < depthAt ns i
      · simp [(hpar hdi).1]
      · simp [hdi]
    · by_cases hdi : 0 < depthAt ns i
      · by_cases h7 : kindAt ns i = 7
        · obtain ⟨a, b⟩ := (hpar hdi).2 h7
          simp [a, b]
        · simp [h7]
      · simp [hdi]
  · intro h i hi
    have hf := h i hi
    unfold famB at hf
    simp only [Bool.and_eq_true, List.all_eq_true] at hf
    obtain ⟨⟨⟨⟨f1, f2⟩, -⟩, -⟩, f5⟩ := hf
    unfold kidsFitB
    simp only [Bool.and_eq_true, List.all_eq_true]
    refine ⟨⟨f1, f2⟩, fun j hj => ?_⟩
    obtain ⟨u, hu⟩ : ∃ u, ns[i]? = some u := ⟨_, List.getElem?_eq_getElem hi⟩
    obtain ⟨k1, k2, k3, -⟩ := (kids_iff hu).1 hj
    have hdu := hd i hi
    rw [depthAt_is hu] at hdu
    have hpj := parent_kid hi hj
    have hfj := h j k2
    unfold famB at hfj
    simp only [Bool.and_eq_true, List.all_eq_true] at hfj
    obtain ⟨⟨⟨-, g3⟩, g4⟩, -⟩ := hfj
    rw [hpj, Int.toNat_natCast] at g4
    have hdj : 0 < depthAt ns j := by omega
    have hb := f5 j hj
    have hb : famBad (kindAt ns i) (kindAt ns j) = false := by simpa using hb
    have n5 : kindAt ns j ≠ 5 := fun e => by rw [e] at g3; simp [hdj] at g3
    unfold holdsB
    by_cases h7 : kindAt ns j = 7
    · rw [h7] at g4
      simp [hdj] at g4
      rw [h7]
      simp [g4.1, g4.2]
    unfold famBad at hb
    simp [n5, h7] at hb ⊢
    obtain ⟨hb1, hb2⟩ := hb
    by_cases h4 : kindAt ns i = 4
    · simp [h4] at hb1 ⊢; exact hb1
    by_cases h3 : kindAt ns i = 3
    · simp [h3] at hb2 ⊢; exact hb2
    simp [h4, h3] at hb1 ⊢
    intro e2
    have hki := hk i hi
    have hleaf : leafB (kindAt ns i) = true := by
      unfold leafB
      have : kindAt ns i = 1 ∨ kindAt ns i = 6 := by
        have := hb1 
        by_cases a2 : kindAt ns i = 2
        · exact absurd e2 (hb1 (.inl (.inl a2)))
        by_cases a5 : kindAt ns i = 5
        · exact absurd e2 (hb1 (.inl (.inr a5)))
        by_cases a7 : kindAt ns i = 7
        · exact absurd e2 (hb1 (.inr a7))
        omega
      rcases this with e | e <;> rw [e] <;> rfl
    have hkr : (kidsR (kindAt ns i)).2 = 0 := by unfold kidsR; rw [if_pos hleaf]
    rw [hkr] at f2
    have hlen : 0 < (kidsL ns i).length := List.length_pos_of_mem hj
    rw [Bool.not_eq_true', decide_eq_false_iff_not] at f2
    omega
open Go.RowKit
set_option maxRecDepth 100000 in
set_option maxHeartbeats 16000000 in
theorem rfamily_any (A : Option Addr) (cap i : Nat) (p : Int) (ns : List Nd) (u : Nd) (w : World) (hn : NdsAt w A ns) (hc1 : ns.length ≤ cap) (hc : cap ≤ maxLen) (hsm : ns.length ≤ 1000000) (hi : ns[i]? = some u) (hd : ∀ x ∈ ns, 0 ≤ x.depth ∧ x.depth ≤ 4)
    (hp : u.kind = 7 → 0 < u.depth → ∃ q : Nat, p = (q : Int) ∧ q < ns.length) :
    Calls Tryz.prog 90 #[.agg #[.slice A ns.length cap], .int .i64 i, .int .i64 p] w fun e w' => e = .returned (.bool (famB ns i p)) ∧ Below w.heap.size w w' := by
  have hin : i < ns.length := (List.getElem?_eq_some_iff.1 hi).1
  have HNS := Lib.hid hn
  have HKD := Lib.hid (fun (q : Nat) (x : Nd) (hq : ns[q]? = some x) wx (hb : Below w.heap.size w wx) => show Calls Tryz.prog 60 #[.agg #[.slice A ns.length cap], .int .i64 q] wx (GotRow wx 3 1 (kidsL ns q).length (intsV (kidsL ns q))) by
    have hx := hd x (List.mem_of_getElem? hq)
    have := rkids_any A cap ns q (x.depth + 1) (q + 1) wx (hn.below hb) hc1 hc hsm (.inl ⟨q, x, rfl, hq, rfl, rfl, by omega, by omega⟩)
    rw [kidsG_is hq] at this; exact this)
  have HKA := Lib.hid (fun j (hj : j ∈ kidsL ns i) => kids_at hi hj)
  obtain ⟨b, o, hA, hblt, hva⟩ := hn i u hi
  subst hA
  obtain ⟨y0, y1, y2, y3, y4, y5, y6, y7⟩ := hva
  have hka : kindAt ns i = u.kind := by unfold kindAt; rw [getN_at hi]
  have hda : depthAt ns i = u.depth := depthAt_is hi
  obtain ⟨R, hR⟩ : ∃ R, R = famB ns i p := ⟨_, rfl⟩
  obtain ⟨ks, hks⟩ : ∃ ks, ks = kidsL ns i := ⟨_, rfl⟩
  have HE := Lib.hid (show R = (!decide ((ks.length : Int) < (kidsR u.kind).1) && !decide ((kidsR u.kind).2 < (ks.length : Int)) && !((u.kind == 5) && decide (0 < u.depth)) && !((u.kind == 7) && decide (0 < u.depth) && ((kindAt ns p.toNat != 5) || ((kidsL ns p.toNat).length != 1))) && ks.all fun j => !famBad u.kind (kindAt ns j)) by
    rw [hR, hks, ← hka, ← hda]; rfl)
  have HKI := Lib.hid (fun wx (hb : Below w.heap.size w wx) => HKD.out i u hi wx hb)
  obtain ⟨N, hN⟩ : ∃ N, N = ns.length := ⟨_, rfl⟩
  have HN := Lib.hid hN
  have HP := Lib.hid hp
  rw [← hR]
  rw [← hN] at hc1 hsm hin HKD HKI ⊢
  rw [← hks] at HKI HKA
  unfold maxLen at hc
  clear hn hi hR hks hka hda hN hp
  obtain ⟨kind, depth, sign, turn, mirror, state, mn, mx⟩ := u
  dsimp only at y0 y1 y2 y3 y4 y5 y6 y7 HE HP
  obtain ⟨n, hnn⟩ : ∃ n, n = ks.length := ⟨_, rfl⟩
  have HNK := Lib.hid hnn
  rw [← hnn] at HE HKI
  clear hnn
  obtain ⟨W, hW⟩ : ∃ W, W = (w.alloc (.cells #[.slice (some ⟨b, o, none⟩) N cap] 27)).alloc (.cells #[.int .i64 kind, .int .i64 depth, .int .i64 sign, .int .i64 turn, .bool mirror, .int .i64 state, .int .i64 mn, .int .i64 mx] 87) := ⟨_, rfl⟩
  have HB := Lib.hid (show Below w.heap.size w W from hW ▸ two_under _ _ _)
  have HX0 := Lib.hid (show W.heap[w.heap.size]? = some (.cells #[.slice (some ⟨b, o, none⟩) N cap] 27 (0, 0)) by rw [hW, heap_alloc_other _ _ _ (by simp)]; exact heap_alloc_new _ _)
  have HX1 := Lib.hid (show W.heap[w.heap.size + 1]? = some (.cells #[.int .i64 kind, .int .i64 depth, .int .i64 sign, .int .i64 turn, .bool mirror, .int .i64 state, .int .i64 mn, .int .i64 mx] 87 (0, 0)) by
    rw [hW]; have := heap_alloc_new (w.alloc (.cells #[.slice (some ⟨b, o, none⟩) N cap] 27)) (.cells #[.int .i64 kind, .int .i64 depth, .int .i64 sign, .int .i64 turn, .bool mirror, .int .i64 state, .int .i64 mn, .int .i64 mx] 87); simpa using this)
  go_enter Tryz.func90, Tryz.ntmps90
  go_wp2_with fail
  rw [← hW]
  clear hW y0 y1 y2 y3 y4 y5 y6 y7
  refine (HKI.out W HB.out).mono ?_; rintro e w1 ⟨Ak, ck, rfl, hown, hb⟩
  have HB1 := Lib.hid (below_more HB.out hb)
  have HY0 := Lib.hid (blk_keep hb HX0.out)
  have HY1 := Lib.hid (blk_keep hb HX1.out)
  have HNA := Lib.hid (row_ints hown)
  have hol := own_len hown
  have hck := hol.1
  have hcm := hol.2.1
  unfold maxLen at hcm
  clear hown hb hol HX0 HX1 HKI HB
  have x0 := cell_of_blk HY1.out 0
  have x1 := cell_of_blk HY1.out 1
  have t0 := cell_of_blk HY0.out 0
  simp at x0 x1 t0
  obtain ⟨lf, hlf⟩ : ∃ lf, leafB kind = lf := ⟨_, rfl⟩
  have HLF := Lib.hid (fun wx => leaf_is kind wx lf hlf)
  have HLL := Lib.hid hlf
  clear hlf
  have HLO := Lib.hid (show (kidsR kind).1 = if (kind == 5) = true then 1 else if lf = true then 0 else 2 by
    unfold kidsR
    by_cases k5 : kind = 5
    · subst k5; rfl
    · rw [HLL.out, if_neg (show ¬ (kind == 5) = true by simpa using k5)]
      cases lf <;> simp [k5] <;> split <;> rfl)
  have HHI := Lib.hid (show (kidsR kind).2 = if (kind == 4) = true then 2 else if lf = true then 0 else 6 by
    unfold kidsR
    by_cases k4 : kind = 4
    · subst k4; rfl
    · rw [HLL.out, if_neg (show ¬ (kind == 4) = true by simpa using k4)]
      cases lf <;> simp [k4] <;> split <;> rfl)
  go_wp2_with fail
  refine (HLF.out _).mono ?_; rintro e w1' ⟨rfl, rfl⟩
  obtain ⟨K5, hK5⟩ : ∃ K5, (kind == 5) = K5 := ⟨_, rfl⟩
  obtain ⟨K4, hK4⟩ : ∃ K4, (kind == 4) = K4 := ⟨_, rfl⟩
  rw [hK5] at HLO
  rw [hK4] at HHI
  go_upto_if 24 with fail
  go_cut [9, 10] (fun a c wx => a = .int .i64 (if lf = true then 0 else 2) ∧ c = .int .i64 (if lf = true then 0 else 6) ∧ wx = w1)
  case first =>
    cases lf with
    | true => go_wp2_with fail; go_meet; exact ⟨rfl, rfl, rfl⟩
    | false => go_wp2_with fail; go_meet; exact ⟨rfl, rfl, rfl⟩
  case rest =>
  obtain ⟨rfl, rfl, rfl⟩ := hcut
  obtain ⟨w1, rfl⟩ : ∃ w1, w1 = wc := ⟨_, rfl⟩
  obtain ⟨la, hla⟩ : ∃ la : Int, la = if lf = true then 0 else 2 := ⟨_, rfl⟩
  obtain ⟨lb, hlb⟩ : ∃ lb : Int, lb = if lf = true then 0 else 6 := ⟨_, rfl⟩
  rw [← hla] at HLO ⊢
  rw [← hlb] at HHI ⊢
  clear hla hlb
  go_upto_if 27 with fail
  go_cut [9] (fun a wx => a = .int .i64 (kidsR kind).1 ∧ wx = w1)
  case first =>
    cases K5 with
    | true => go_wp2_with fail; go_meet; exact ⟨by rw [HLO.out]; rfl, rfl⟩
    | false => go_wp2_with fail; go_meet; exact ⟨by rw [HLO.out]; rfl, rfl⟩
  case rest =>
  obtain ⟨rfl, rfl⟩ := hcut
  obtain ⟨w1, rfl⟩ : ∃ w1, w1 = wc := ⟨_, rfl⟩
  go_upto_if 30 with fail
  go_cut [10] (fun c wx => c = .int .i64 (kidsR kind).2 ∧ wx = w1)
  case first =>
    cases K4 with
    | true => go_wp2_with fail; go_meet; exact ⟨by rw [HHI.out]; rfl, rfl⟩
    | false => go_wp2_with fail; go_meet; exact ⟨by rw [HHI.out]; rfl, rfl⟩
  case rest =>
  obtain ⟨rfl, rfl⟩ := hcut
  obtain ⟨w1, rfl⟩ : ∃ w1, w1 = wc := ⟨_, rfl⟩
  clear HLO HHI HLF HLL lf la lb
  obtain ⟨lo, hlo⟩ : ∃ lo, lo = (kidsR kind).1 := ⟨_, rfl⟩
  obtain ⟨hi2, hhi⟩ : ∃ h, h = (kidsR kind).2 := ⟨_, rfl⟩
  rw [← hlo, ← hhi] at HE ⊢
  clear hlo hhi
  obtain ⟨D0, hD0⟩ : ∃ D, decide (0 < depth) = D := ⟨_, rfl⟩
  obtain ⟨K7, hK7⟩ : ∃ K, (kind == 7) = K := ⟨_, rfl⟩
  have HK7 := Lib.hid hK7
  have HD0 := Lib.hid hD0
  rw [hK5, hD0, hK7] at HE
  obtain ⟨T1, hT1⟩ : ∃ T, decide ((n : Int) < lo) = T := ⟨_, rfl⟩
  obtain ⟨T2, hT2⟩ : ∃ T, decide (hi2 < (n : Int)) = T := ⟨_, rfl⟩
  rw [hT1, hT2] at HE
  obtain ⟨P4, hP4⟩ : ∃ P, P = (K7 && D0 && ((kindAt ns p.toNat != 5) || ((kidsL ns p.toNat).length != 1))) := ⟨_, rfl⟩
  rw [← hP4] at HE
  have HP4 := Lib.hid hP4
  clear hP4
  go_upto_region 11 with fail
  go_cut [50] (fun s wx => s = .bool (T1 || T2 || (K5 && D0)) ∧ wx = w1)
  case first =>
    cases T1 with
    | true => go_wp2_with fail; go_meet; exact ⟨rfl, rfl⟩
    | false =>
      cases T2 with
      | true => go_wp2_with fail; go_meet; exact ⟨rfl, rfl⟩
      | false =>
        cases K5 with
        | false => go_wp2_with fail; go_meet; exact ⟨rfl, rfl⟩
        | true => cases D0 with
          | true => go_wp2_with fail; go_meet; exact ⟨rfl, rfl⟩
          | false => go_wp2_with fail; go_meet; exact ⟨rfl, rfl⟩
  case rest =>
  obtain ⟨rfl, rfl⟩ := hcut
  obtain ⟨w1, rfl⟩ : ∃ w1, w1 = wc := ⟨_, rfl⟩
  cases hv : (T1 || T2 || (K5 && D0)) with
  | true =>
    have HRF := Lib.hid (show R = false by
      rw [HE.out]; revert hv; cases T1 <;> cases T2 <;> cases K5 <;> cases D0 <;> simp)
    clear HE
    go_wp2_with fail
    go_ret
    exact ⟨of_bool HRF.out.symm, HB1.out⟩
  | false =>
  have HR2 := Lib.hid (show R = (!P4 && ks.all fun j => !famBad kind (kindAt ns j)) by
    rw [HE.out]; revert hv; cases T1 <;> cases T2 <;> cases K5 <;> cases D0 <;> simp)
  clear HE hv hT1 hT2
  go_upto_region 13 with fail
  go_cut [74] (fun s wx => s = .bool P4 ∧ Below w1.heap.size w1 wx)
  case first =>
    cases K7 with
    | false => go_wp2_with fail; go_meet; exact ⟨by rw [HP4.out]; rfl, Below.refl _ _⟩
    | true => cases D0 with
      | false => go_wp2_with fail; go_meet; exact ⟨by rw [HP4.out]; rfl, Below.refl _ _⟩
      | true =>
        obtain ⟨q, hpq, hqN⟩ := HP.out (by simpa using hK7) (of_decide_eq_true hD0)
        subst hpq
        obtain ⟨x, hx⟩ : ∃ x, ns[q]? = some x := ⟨_, List.getElem?_eq_getElem hqN⟩
        rw [← HN.out] at hqN
        obtain ⟨b', o', e, hb', hvx⟩ := HNS.out q x hx
        injection e with e; injection e with e1 e2
        subst e1 e2
        have z0 := (hvx.below HB1.out hb').c0
        have HKC := Lib.hid (fun wx (hb : Below w.heap.size w wx) => HKD.out q x hx wx hb)
        have HKQ := Lib.hid (show kindAt ns q = x.kind by unfold kindAt; rw [getN_at hx])
        obtain ⟨kq, hkq⟩ : ∃ kq, kq = x.kind := ⟨_, rfl⟩
        rw [← hkq] at z0 HKQ
        obtain ⟨m, hm⟩ : ∃ m, m = (kidsL ns q).length := ⟨_, rfl⟩
        have HP5 := Lib.hid (show P4 = ((kq != 5) || (m != 1)) by
          rw [HP4.out, Int.toNat_natCast, HKQ.out, hm]; rfl)
        rw [← hm] at HKC
        clear hm hx hvx hkq
        cases hq5 : (kq != 5) with
        | true => go_wp2_with fail; go_meet; exact ⟨by rw [HP5.out, hq5]; rfl, Below.refl _ _⟩
        | false =>
          have HP6 := Lib.hid (show P4 = ((m : Int) != 1) by
            rw [HP5.out, hq5, Bool.false_or, Bool.eq_iff_iff]; simp; omega)
          go_wp2_with fail
          refine (HKC.out _ HB1.out).mono ?_; rintro e w2 ⟨Aq, cq, rfl, hown2, hb2⟩
          have HB2 := Lib.hid hb2
          clear hown2 hb2
          go_wp2_with fail
          go_meet
          exact ⟨by rw [HP6.out], HB2.out⟩
  case rest =>
  obtain ⟨rfl, hbc⟩ := hcut
  have HBC := Lib.hid hbc
  clear hbc x0 x1 t0 HP HP4 HKD
  cases P4 with
  | true =>
    have HRF := Lib.hid (show R = false by rw [HR2.out]; rfl)
    clear HR2
    go_wp2_with fail
    go_ret
    exact ⟨of_bool HRF.out.symm, below_more HB1.out HBC.out⟩
  | false =>
  have HF := Lib.hid (show R = ks.all fun j => !famBad kind (kindAt ns j) by rw [HR2.out]; simp)
  clear HR2 hK4 hK5 hD0 hK7 HK7 HD0
  go_wp2_with fail
  go_loopw [11, 12, 13] (fun c _ _ wr => ∃ k : Nat, k ≤ n ∧ c = .int .i64 k ∧ Hid (((ks.take k).all fun j => !famBad kind (kindAt ns j)) = true) ∧ Hid (Below w1.heap.size w1 wr)) (fun c _ _ _ => n - (intOf c).toNat)
  case atStart => exact ⟨0, Nat.zero_le _, rfl, Lib.hid (by simp), HBC⟩
  case round =>
    obtain ⟨k, hk, rfl, hall, hbw⟩ := hrel
    have HBW := Lib.hid hbw.out
    have HAL := Lib.hid hall.out
    clear hbw hall
    by_cases hlt : k < n
    · obtain ⟨j, hj⟩ : ∃ j, ks[k]? = some j := ⟨_, List.getElem?_eq_getElem (by have := HNK.out; omega)⟩
      obtain ⟨ux, hux, -⟩ := HKA.out j (List.mem_of_getElem? hj)
      obtain ⟨kb, ko, hAk, hkb, hkc⟩ := HNA.out k j hj
      subst hAk
      obtain ⟨b', o', e, hb', hvx⟩ := HNS.out j ux hux
      injection e with e; injection e with e1 e2
      subst e1 e2
      have hjn : j < N := by rw [HN.out]; exact (List.getElem?_eq_some_iff.1 hux).1
      have y0 := (hvx.below (below_more HB1.out HBW.out) hb').c0
      have z0 := (HBW.out.cell (p := ⟨kb, ko + k, none⟩) hkb).trans hkc
      have x0 := cell_of_blk (blk_keep HBW.out HY1.out) 0
      have t0 := cell_of_blk (blk_keep HBW.out HY0.out) 0
      simp at x0 t0
      have hs0 : w.heap.size < wr.heap.size := (Array.getElem?_eq_some_iff.1 (blk_keep HBW.out HY0.out)).1
      have hs2 : w.heap.size + 1 < wr.heap.size := (Array.getElem?_eq_some_iff.1 (blk_keep HBW.out HY1.out)).1
      have hs1 : b < wr.heap.size := by have := HBW.out.size; have := HB1.out.size; omega
      have hs3 : kb < wr.heap.size := by have := HBW.out.size; omega
      have HKJ := Lib.hid (show kindAt ns j = ux.kind by unfold kindAt; rw [getN_at hux])
      obtain ⟨kx, hkx⟩ : ∃ kx, kx = ux.kind := ⟨_, rfl⟩
      rw [← hkx] at y0 HKJ
      have HTK := Lib.hid (show (ks.take (k + 1)).all (fun j => !famBad kind (kindAt ns j)) = ((ks.take k).all (fun j => !famBad kind (kindAt ns j)) && !famBad kind kx) by
        obtain ⟨hk', e⟩ := List.getElem?_eq_some_iff.1 hj
        rw [List.take_succ_eq_append_getElem hk', e, List.all_append]; simp [HKJ.out])
      have HJM := Lib.hid (List.mem_of_getElem? hj)
      clear hux hvx hkx hj hkc
      go_wp2_with fail
      refine wp_region_later (by kernel_rfl) (by kernel_rfl) ?_; (repeat (first | go_big_quiet_step (fail) | quiet_step (fail))); refine wpQuiet_nil ?_; rintro _ ⟨s, rfl⟩
      have HB5 := Lib.hid (below_more HBW.out s.below)
      generalize s.w = W5 at HB5 ⊢
      have x0 := cell_of_blk (blk_keep HB5.out HY1.out) 0
      simp at x0
      obtain ⟨K2, hK2⟩ : ∃ K, (kind == 2) = K := ⟨_, rfl⟩
      obtain ⟨K3, hK3⟩ : ∃ K, (kind == 3) = K := ⟨_, rfl⟩
      obtain ⟨K4, hK4⟩ : ∃ K, (kind == 4) = K := ⟨_, rfl⟩
      obtain ⟨K5, hK5⟩ : ∃ K, (kind == 5) = K := ⟨_, rfl⟩
      obtain ⟨K7, hK7⟩ : ∃ K, (kind == 7) = K := ⟨_, rfl⟩
      obtain ⟨J1, hJ1⟩ : ∃ K, (kx != 1) = K := ⟨_, rfl⟩
      obtain ⟨J2, hJ2⟩ : ∃ K, (kx == 2) = K := ⟨_, rfl⟩
      obtain ⟨J3, hJ3⟩ : ∃ K, (kx == 3) = K := ⟨_, rfl⟩
      obtain ⟨J7, hJ7⟩ : ∃ K, (kx == 7) = K := ⟨_, rfl⟩
      have HBD := Lib.hid (show famBad kind kx = ((K4 && J1) || ((K2 || K5 || K7) && J2) || (K3 && J3) || (K7 && J7)) by
        unfold famBad; rw [hK2, hK3, hK4, hK5, hK7, hJ1, hJ2, hJ3, hJ7])
      go_upto_region 19 with fail
      go_cut [13] (fun s wx => s = .bool (K2 || K5 || K7) ∧ wx = W5)
      case first =>
        cases K2 with
        | true => go_wp2_with fail; go_meet; exact ⟨rfl, rfl⟩
        | false => cases K5 with
          | true => go_wp2_with fail; go_meet; exact ⟨rfl, rfl⟩
          | false => cases K7 with
            | true => go_wp2_with fail; go_meet; exact ⟨rfl, rfl⟩
            | false => go_wp2_with fail; go_meet; exact ⟨rfl, rfl⟩
      case rest =>
      obtain ⟨rfl, rfl⟩ := hcut
      obtain ⟨W5, rfl⟩ : ∃ w, w = wc := ⟨_, rfl⟩
      obtain ⟨KX, hKX⟩ : ∃ K, (K2 || K5 || K7) = K := ⟨_, rfl⟩
      rw [hKX] at HBD ⊢
      clear hKX hK2 hK5
      go_upto_region 20 with fail
      go_cut [134] (fun s wx => s = .bool ((K4 && J1) || (KX && J2) || (K3 && J3) || (K7 && J7)) ∧ wx = W5)
      case first =>
        cases K4 with
        | true =>
          cases J1 with
          | true =>
            go_wp2_with fail; go_meet; exact ⟨rfl, rfl⟩
          | false =>
            cases KX with
            | true =>
              cases J2 with
              | true =>
                go_wp2_with fail; go_meet; exact ⟨rfl, rfl⟩
              | false =>
                cases K3 with
                | true =>
                  cases J3 with
                  | true =>
                    go_wp2_with fail; go_meet; exact ⟨rfl, rfl⟩
                  | false =>
                    cases K7 with
                    | true =>
                      cases J7 with
                      | true =>
                        go_wp2_with fail; go_meet; exact ⟨rfl, rfl⟩
                      | false =>
                        go_wp2_with fail; go_meet; exact ⟨rfl, rfl⟩
                    | false =>
                      go_wp2_with fail; go_meet; exact ⟨rfl, rfl⟩
                | false =>
                  cases K7 with
                  | true =>
                    cases J7 with
                    | true =>
                      go_wp2_with fail; go_meet; exact ⟨rfl, rfl⟩
                    | false =>
                      go_wp2_with fail; go_meet; exact ⟨rfl, rfl⟩
                  | false =>
                    go_wp2_with fail; go_meet; exact ⟨rfl, rfl⟩
            | false =>
              cases K3 with
              | true =>
                cases J3 with
                | true =>
                  go_wp2_with fail; go_meet; exact ⟨rfl, rfl⟩
                | false =>
                  cases K7 with
                  | true =>
                    cases J7 with
                    | true =>
                      go_wp2_with fail; go_meet; exact ⟨rfl, rfl⟩
                    | false =>
                      go_wp2_with fail; go_meet; exact ⟨rfl, rfl⟩
                  | false =>
                    go_wp2_with fail; go_meet; exact ⟨rfl, rfl⟩
              | false =>
                cases K7 with
                | true =>
                  cases J7 with
                  | true =>
                    go_wp2_with fail; go_meet; exact ⟨rfl, rfl⟩
                  | false =>
                    go_wp2_with fail; go_meet; exact ⟨rfl, rfl⟩
                | false =>
                  go_wp2_with fail; go_meet; exact ⟨rfl, rfl⟩
        | false =>
          cases KX with
          | true =>
            cases J2 with
            | true =>
              go_wp2_with fail; go_meet; exact ⟨rfl, rfl⟩
            | false =>
              cases K3 with
              | true =>
                cases J3 with
                | true =>
                  go_wp2_with fail; go_meet; exact ⟨rfl, rfl⟩
                | false =>
                  cases K7 with
                  | true =>
                    cases J7 with
                    | true =>
                      go_wp2_with fail; go_meet; exact ⟨rfl, rfl⟩
                    | false =>
                      go_wp2_with fail; go_meet; exact ⟨rfl, rfl⟩
                  | false =>
                    go_wp2_with fail; go_meet; exact ⟨rfl, rfl⟩
              | false =>
                cases K7 with
                | true =>
                  cases J7 with
                  | true =>
                    go_wp2_with fail; go_meet; exact ⟨rfl, rfl⟩
                  | false =>
                    go_wp2_with fail; go_meet; exact ⟨rfl, rfl⟩
                | false =>
                  go_wp2_with fail; go_meet; exact ⟨rfl, rfl⟩
          | false =>
            cases K3 with
            | true =>
              cases J3 with
              | true =>
                go_wp2_with fail; go_meet; exact ⟨rfl, rfl⟩
              | false =>
                cases K7 with
                | true =>
                  cases J7 with
                  | true =>
                    go_wp2_with fail; go_meet; exact ⟨rfl, rfl⟩
                  | false =>
                    go_wp2_with fail; go_meet; exact ⟨rfl, rfl⟩
                | false =>
                  go_wp2_with fail; go_meet; exact ⟨rfl, rfl⟩
            | false =>
              cases K7 with
              | true =>
                cases J7 with
                | true =>
                  go_wp2_with fail; go_meet; exact ⟨rfl, rfl⟩
                | false =>
                  go_wp2_with fail; go_meet; exact ⟨rfl, rfl⟩
              | false =>
                go_wp2_with fail; go_meet; exact ⟨rfl, rfl⟩
      case rest =>
      obtain ⟨rfl, rfl⟩ := hcut
      obtain ⟨W5, rfl⟩ : ∃ w, w = wc := ⟨_, rfl⟩
      rw [← HBD.out]
      clear HBD hK3 hK4 hK7 hJ1 hJ2 hJ3 hJ7
      cases hbd : famBad kind kx with
      | true =>
        have HRF := Lib.hid (show R = false by
          rw [HF.out, List.all_eq_false]
          exact ⟨j, HJM.out, by rw [HKJ.out, hbd]; simp⟩)
        clear hbd
        go_wp2_with fail
        go_ret
        exact ⟨of_bool HRF.out.symm, below_more HB1.out HB5.out⟩
      | false =>
        have HT2 := Lib.hid (show (ks.take (k + 1)).all (fun j => !famBad kind (kindAt ns j)) = true by rw [HTK.out, HAL.out, hbd]; rfl)
        clear hbd
        go_wp2_with fail
        go_roundw
        case rel => exact ⟨k + 1, by omega, by go_num, HT2, HB5⟩
        case measure => simp [intOf]; omega
    · obtain rfl : k = n := by omega
      have HRT := Lib.hid (show R = true by
        rw [HF.out]
        have h := HAL.out
        rw [HNK.out, List.take_length] at h
        exact h)
      go_wp2_with fail
      go_ret
      exact ⟨of_bool HRT.out.symm, below_more HB1.out HBW.out⟩
open Go.RowKit
theorem nodes_at (l : Li) : ∀ (r done : List Nd), nodesErr l done r = 0 → ∀ (k : Nat) (u : Nd), r[k]? = some u → nodeErr l (done ++ r.take k) u = 0
  | [], _, _ => fun k u hk => by simp at hk
  | n :: r, done, h => by
    rw [nodesErr] at h
    split at h
    · rename_i h1; exact absurd h h1
    · rename_i h1
      have h1 : nodeErr l done n = 0 := by simpa using h1
      intro k u hk
      cases k with
      | zero => simp at hk; subst hk; simpa using h1
      | succ k =>
        have := nodes_at l r (done ++ [n]) h k u (by simpa using hk)
        simpa using this
theorem deepR_step {ns : List Nd} {k : Nat} {u : Nd} (h : ns[k]? = some u) : deepR (ns.take (k + 1)) ≤ u.depth + 1 := by
  have hk := (List.getElem?_eq_some_iff.1 h).1
  unfold deepR
  rw [List.length_take, show min (k + 1) ns.length - 1 = k by omega, List.getElem?_take, if_pos (by omega), h]
  dsimp only
  split
  · omega
  · split <;> omega
theorem nodeErr_kind {l : Li} {done : List Nd} {u : Nd} (h : nodeErr l done u = 0) : (1 ≤ u.kind ∧ u.kind ≤ 7) ∧ u.depth ≤ deepR done := by
  unfold nodeErr at h
  split at h
  · omega
  · split at h <;> omega
theorem nodes_shape {l : Li} {ns : List Nd} (h : nodesErr l [] ns = 0) : Rises ns ∧ (∀ u, ns[0]? = some u → u.depth ≤ 0) ∧ (∀ i, i < ns.length → 1 ≤ kindAt ns i ∧ kindAt ns i ≤ 7) ∧ (∀ i, i < ns.length → 0 ≤ depthAt ns i) := by
  have hat : ∀ (k : Nat) (u : Nd), ns[k]? = some u → nodeErr l (ns.take k) u = 0 := fun k u hk => by have := nodes_at l ns [] h k u hk; simpa using this
  have hdep := nodes_depth l ns [] h (fun x hx => by cases hx)
  refine ⟨fun k u v hu hv => ?_, fun u hu => ?_, fun i hi => ?_, fun i hi => ?_⟩
  · have h1 := (nodeErr_kind (hat (k + 1) v hv)).2
    have h2 := deepR_step hu
    omega
  · have h1 := (nodeErr_kind (hat 0 u hu)).2
    simpa [deepR] using h1
  · obtain ⟨u, hu⟩ : ∃ u, ns[i]? = some u := ⟨_, List.getElem?_eq_getElem hi⟩
    unfold kindAt; rw [getN_at hu]; exact (nodeErr_kind (hat i u hu)).1
  · obtain ⟨u, hu⟩ : ∃ u, ns[i]? = some u := ⟨_, List.getElem?_eq_getElem hi⟩
    rw [depthAt_is hu]; exact (hdep u (List.mem_of_getElem? hu)).1
theorem rown_is (L : Lm) (A : Option Addr) (cap i : Nat) (ns : List Nd) (u : Nd) (w : World) (hl : LmOk w L) (hn : NdsAt w A ns) (hsm : ns.length ≤ 1000000) (hi : ns[i]? = some u) (hd : ∀ x ∈ ns.take i, 0 ≤ x.depth ∧ x.depth ≤ 4) (r : Int) (h : nodeErr L.li (ns.take i) u = r) :
    Calls Tryz.prog 89 #[.agg #[.int .i64 L.per, .slice L.A L.ms.length L.cap], .agg #[.slice A ns.length cap], .int .i64 i] w fun e w' => e = .returned (.int .i64 r) ∧ Below w.heap.size w w' := by
  rw [← h, ← own_node L.li ns i u hi hd]; exact rown_any L A cap i ns u w hl hn hsm hi hd
set_option maxRecDepth 100000 in
set_option maxHeartbeats 8000000 in
theorem rgcheck_any (L : Lm) (A : Option Addr) (cap : Nat) (ns : List Nd) (w : World) (hl : LmOk w L) (hn : NdsAt w A ns) (hc1 : ns.length ≤ cap) (hc : cap ≤ maxLen) :
    Calls Tryz.prog 43 #[L.val, .agg #[.slice A ns.length cap]] w fun e w' => e = .returned (.int .i64 (textErr L.li ns)) ∧ Below w.heap.size w w' := by
  obtain ⟨E, hE⟩ : ∃ E, E = checkErr L.li := ⟨_, rfl⟩
  have HCK := Lib.hid (fun wx (hb : Below w.heap.size w wx) => show Calls Tryz.prog 73 #[.agg #[.int .i64 L.per, .slice L.A L.ms.length L.cap]] wx (fun e w' => e = .returned (.int .i64 E) ∧ Below wx.heap.size wx w') by rw [hE]; exact rcheck_any L wx (hl.below hb))
  have HNS := Lib.hid hn
  have HL := Lib.hid hl
  have HSH := Lib.hid (fun (h : nodesErr L.li [] ns = 0) => nodes_shape h)
  obtain ⟨R, hR⟩ : ∃ R, R = textErr L.li ns := ⟨_, rfl⟩
  have HE := Lib.hid (show R = if E ≠ 0 then E else if 200 < ns.length then 2 else if nodesErr L.li [] ns ≠ 0 then nodesErr L.li [] ns else if fitsB ns then 0 else 20 by rw [hR, hE]; rfl)
  rw [← hR]
  obtain ⟨N, hN⟩ : ∃ N, N = ns.length := ⟨_, rfl⟩
  have HN := Lib.hid hN
  rw [← hN] at hc1 HE ⊢
  have hc' := hc
  unfold maxLen at hc'
  have HCN := Lib.hid (fun wx (hb : Below w.heap.size w wx) (i : Nat) (u : Nd) (hi : ns[i]? = some u) (hd : ∀ x ∈ ns.take i, 0 ≤ x.depth ∧ x.depth ≤ 4) (hs : N ≤ 1000000) (r : Int) (h : nodeErr L.li (ns.take i) u = r) =>
    show Calls Tryz.prog 89 #[.agg #[.int .i64 L.per, .slice L.A L.ms.length L.cap], .agg #[.slice A N cap], .int .i64 i] wx (fun e w' => e = .returned (.int .i64 r) ∧ Below wx.heap.size wx w') by
    have := rown_is L A cap i ns u wx (HL.out.below hb) (HNS.out.below hb) (by rw [← HN.out]; exact hs) hi hd r h
    rw [← HN.out] at this; exact this)
  clear hl hn hE hR hN
  show Calls _ _ #[.agg #[.int .i64 L.per, .slice L.A L.ms.length L.cap], _] w _
  obtain ⟨W, hW⟩ : ∃ W, W = (w.alloc (.cells #[.int .i64 L.per, .slice L.A L.ms.length L.cap] 24)).alloc (.cells #[.slice A N cap] 27) := ⟨_, rfl⟩
  have HB := Lib.hid (show Below w.heap.size w W from hW ▸ two_under _ _ _)
  have HX0 := Lib.hid (show W.heap[w.heap.size]? = some (.cells #[.int .i64 L.per, .slice L.A L.ms.length L.cap] 24 (0, 0)) by rw [hW, heap_alloc_other _ _ _ (by simp)]; exact heap_alloc_new _ _)
  have HX1 := Lib.hid (show W.heap[w.heap.size + 1]? = some (.cells #[.slice A N cap] 27 (0, 0)) by
    rw [hW]; have := heap_alloc_new (w.alloc (.cells #[.int .i64 L.per, .slice L.A L.ms.length L.cap] 24)) (.cells #[.slice A N cap] 27); simpa using this)
  have HC := Lib.hid (fun w' (hb : Below W.heap.size W w') => show w'.cell? ⟨w.heap.size, 0, none⟩ = some (.int .i64 L.per) ∧ w'.cell? ⟨w.heap.size, 1, none⟩ = some (.slice L.A L.ms.length L.cap) ∧ w'.cell? ⟨w.heap.size + 1, 0, none⟩ = some (.slice A N cap) from
    ⟨cell_of_blk (blk_keep hb HX0.out) 0, cell_of_blk (blk_keep hb HX0.out) 1, cell_of_blk (blk_keep hb HX1.out) 0⟩)
  have HSZ := Lib.hid (fun w' (hb : Below W.heap.size W w') => show w.heap.size + 1 < w'.heap.size from (Array.getElem?_eq_some_iff.1 (blk_keep hb HX1.out)).1)
  go_enter Tryz.func43, Tryz.ntmps43
  go_wp2_with fail
  rw [← hW]
  refine (HCK.out W HB.out).mono ?_; rintro e w1 ⟨rfl, hb⟩
  have HB1 := Lib.hid hb
  obtain ⟨x0, x1, x2⟩ := HC.out w1 hb
  clear hb hW HX0 HX1
  by_cases h0 : E = 0
  case neg =>
    have hbE : (E != 0) = true := by simpa using h0
    have HF := Lib.hid (show R = E by rw [HE.out, if_pos h0])
    clear h0 HE
    go_wp2_with fail
    go_ret
    exact ⟨of_int HF.out.symm, below_more HB.out HB1.out⟩
  subst h0
  by_cases h1 : 200 < N
  · have HF := Lib.hid (show R = 2 by rw [HE.out, if_neg (by simp), if_pos h1])
    clear HE
    go_wp2_with fail
    go_ret
    exact ⟨of_int HF.out.symm, below_more HB.out HB1.out⟩
  have HE2 := Lib.hid (show R = if nodesErr L.li [] ns ≠ 0 then nodesErr L.li [] ns else if fitsB ns then 0 else 20 by rw [HE.out, if_neg (by simp), if_neg h1])
  clear HE HCK
  have hd200 : decide (200 < N) = false := decide_eq_false h1
  go_wp2_with fail
  clear x0 x1 x2
  go_loopw [6, 7] (fun c _ wr => ∃ k : Nat, k ≤ N ∧ c = .int .i64 k ∧ Hid (nodesErr L.li [] ns = nodesErr L.li (ns.take k) (ns.drop k)) ∧ Hid (∀ x ∈ ns.take k, 0 ≤ x.depth ∧ x.depth ≤ 4) ∧ Hid (Below W.heap.size W wr)) (fun c _ _ => N - (intOf c).toNat)
  case atStart => exact ⟨0, Nat.zero_le _, rfl, Lib.hid (by simp), Lib.hid (fun x hx => by simp at hx), HB1⟩
  case round =>
    obtain ⟨k, hk, rfl, hne, hdp, hbw⟩ := hrel
    have HBW := Lib.hid hbw.out
    have HNE := Lib.hid hne.out
    have HDP := Lib.hid hdp.out
    clear hbw hne hdp
    obtain ⟨x0, x1, x2⟩ := HC.out wr HBW.out
    by_cases hlt : k < N
    · obtain ⟨u, hu⟩ : ∃ u, ns[k]? = some u := ⟨_, List.getElem?_eq_getElem (by have := HN.out; omega)⟩
      obtain ⟨e0, he0⟩ : ∃ e0, nodeErr L.li (ns.take k) u = e0 := ⟨_, rfl⟩
      have HCC := Lib.hid (HCN.out wr (below_more HB.out HBW.out) k u hu HDP.out (by omega) e0 he0)
      have HST := Lib.hid (nodesErr_at L.li ns k u hu)
      rw [he0] at HST
      have HD2 := Lib.hid (fun (h : e0 = 0) => depth_take hu HDP.out (nodeErr_depth (by rw [he0]; exact h) HDP.out))
      clear hu he0
      by_cases h2 : e0 = 0
      case neg =>
        have hbE : (e0 != 0) = true := by simpa using h2
        have HF := Lib.hid (show R = e0 by
          have h3 : nodesErr L.li [] ns = e0 := by rw [HNE.out, HST.out, if_pos h2]
          rw [HE2.out, h3, if_pos h2])
        clear h2 HST HE2 HD2
        go_wp2_with fail
        refine HCC.out.mono ?_; rintro e w3 ⟨rfl, hb3⟩
        go_wp2_with fail
        go_ret
        exact ⟨of_int HF.out.symm, below_more (below_more HB.out HBW.out) hb3⟩
      subst h2
      have HN3 := Lib.hid (show nodesErr L.li [] ns = nodesErr L.li (ns.take (k + 1)) (ns.drop (k + 1)) by rw [HNE.out, HST.out, if_neg (by simp)])
      have HD3 := Lib.hid (HD2.out rfl)
      clear HST HD2
      go_wp2_with fail
      refine HCC.out.mono ?_; rintro e w3 ⟨rfl, hb3⟩
      have HB3 := Lib.hid (below_more HBW.out hb3)
      clear hb3 x0 x1 x2
      go_wp2_with fail
      go_roundw
      case rel => exact ⟨k + 1, by omega, by go_num, HN3, HD3, HB3⟩
      case measure => simp [intOf]; omega
    · obtain rfl : k = N := by omega
      have HZ := Lib.hid (show nodesErr L.li [] ns = 0 by rw [HNE.out, HN.out, List.drop_length]; rfl)
      have HDA := Lib.hid (show ∀ x ∈ ns, 0 ≤ x.depth ∧ x.depth ≤ 4 by have := HDP.out; rw [HN.out, List.take_length] at this; exact this)
      have HSP := Lib.hid (HSH.out HZ.out)
      have HE3 := Lib.hid (show R = if famsB ns then 0 else 20 by
        rw [HE2.out, HZ.out, if_neg (by simp)]
        have := HSP.out
        rw [fits_fams this.1 this.2.1 this.2.2.1 this.2.2.2])
      have HPR := Lib.hid (fun wx (hb : Below w.heap.size w wx) (j : Nat) (hj : j < k) => show Calls Tryz.prog 91 #[.agg #[.slice A k cap], .int .i64 j] wx (fun e w' => e = .returned (.int .i64 (parentR ns j)) ∧ Below wx.heap.size wx w') by
        obtain ⟨u, hu⟩ : ∃ u, ns[j]? = some u := ⟨_, List.getElem?_eq_getElem (by have := HN.out; omega)⟩
        have := rparent_any A cap j ns u wx (HNS.out.below hb) (by have := HN.out; omega) hu
        rw [← HN.out] at this; exact this)
      have HFM := Lib.hid (fun wx (hb : Below w.heap.size w wx) (j : Nat) (hj : j < k) (r : Bool) (hr : famB ns j (parentR ns j) = r) => show Calls Tryz.prog 90 #[.agg #[.slice A k cap], .int .i64 j, .int .i64 (parentR ns j)] wx (fun e w' => e = .returned (.bool r) ∧ Below wx.heap.size wx w') by
        obtain ⟨u, hu⟩ : ∃ u, ns[j]? = some u := ⟨_, List.getElem?_eq_getElem (by have := HN.out; omega)⟩
        have := rfamily_any A cap j (parentR ns j) ns u wx (HNS.out.below hb) (by rw [← HN.out]; exact hc1) hc (by have := HN.out; omega) hu HDA.out (fun _ hd => by
          have hsp := HSP.out
          obtain ⟨p, hp1, hp2, _⟩ := kid_parent hsp.1 hsp.2.1 (j := j) (by have := HN.out; omega) (by rw [depthAt_is hu]; exact hd)
          exact ⟨p, hp2, by have := HN.out; omega⟩)
        rw [← HN.out, hr] at this; exact this)
      clear HE2 HZ HNE HDP HCN HSH HSP HDA
      go_wp2_with fail
      clear x0 x1 x2
      obtain ⟨wo, rfl⟩ : ∃ wo : World, wo = wr := ⟨_, rfl⟩
      go_loopw [8] (fun c wr => ∃ j : Nat, j ≤ k ∧ c = .int .i64 j ∧ Hid ((List.range j).all (fun i => famB ns i (parentR ns i)) = true) ∧ Hid (Below W.heap.size W wr)) (fun c _ => k - (intOf c).toNat)
      case atStart => exact ⟨0, Nat.zero_le _, rfl, Lib.hid (by simp), HBW⟩
      case round =>
        obtain ⟨j, hj, rfl, hall, hbw⟩ := hrel
        have HBJ := Lib.hid hbw.out
        have HAL := Lib.hid hall.out
        clear hbw hall
        obtain ⟨x0, x1, x2⟩ := HC.out wr HBJ.out
        by_cases hlj : j < k
        · have HSS := Lib.hid (show (List.range (j + 1)).all (fun i => famB ns i (parentR ns i)) = ((List.range j).all (fun i => famB ns i (parentR ns i)) && famB ns j (parentR ns j)) by rw [List.range_succ, List.all_append]; simp)
          obtain ⟨r, hr⟩ : ∃ r, famB ns j (parentR ns j) = r := ⟨_, rfl⟩
          have HPJ := Lib.hid (fun (s : Later wr) => HPR.out s.w (below_more HB.out (below_more HBJ.out s.below)) j hlj)
          have HFJ := Lib.hid (fun (s : Later wr) => HFM.out s.w (below_more HB.out (below_more HBJ.out s.below)) j hlj r hr)
          obtain ⟨q, hq⟩ : ∃ q, q = parentR ns j := ⟨_, rfl⟩
          rw [hr] at HSS
          rw [← hq] at HPJ HFJ
          have HRR := Lib.hid hr
          have hsz := HSZ.out wr HBJ.out
          have hsz0 : w.heap.size < wr.heap.size := by omega
          clear hr hq
          cases r with
          | true =>
            go_wp2_with fail
            refine wp_region_later (by kernel_rfl) (by kernel_rfl) ?_; (repeat (first | go_big_quiet_step ((first | ((go_at_call 91; exact Calls.later _ (HPJ.out _))) | ((go_at_call 90; exact Calls.later _ (HFJ.out _))))) | quiet_step ((first | ((go_at_call 91; exact Calls.later _ (HPJ.out _))) | ((go_at_call 90; exact Calls.later _ (HFJ.out _))))))); refine wpQuiet_nil ?_; rintro _ ⟨s, rfl⟩
            have HB3 := Lib.hid (below_more HBJ.out s.below)
            clear x0 x1 x2
            go_wp2_with fail
            go_roundw
            case rel => exact ⟨j + 1, by omega, by go_num, Lib.hid (by rw [HSS.out, HAL.out]; rfl), HB3⟩
            case measure => simp [intOf]; omega
          | false =>
            have HF := Lib.hid (show R = 20 by
              rw [HE3.out, if_neg]
              unfold famsB
              rw [Bool.not_eq_true, List.all_eq_false]
              exact ⟨j, List.mem_range.2 (by rw [← HN.out]; exact hlj), by rw [HRR.out]; simp⟩)
            go_wp2_with fail
            refine wp_region_later (by kernel_rfl) (by kernel_rfl) ?_; (repeat (first | go_big_quiet_step ((first | ((go_at_call 91; exact Calls.later _ (HPJ.out _))) | ((go_at_call 90; exact Calls.later _ (HFJ.out _))))) | quiet_step ((first | ((go_at_call 91; exact Calls.later _ (HPJ.out _))) | ((go_at_call 90; exact Calls.later _ (HFJ.out _))))))); refine wpQuiet_nil ?_; rintro _ ⟨s, rfl⟩
            go_wp2_with fail
            go_ret
            exact ⟨of_int HF.out.symm, below_more (below_more HB.out HBJ.out) s.below⟩
        · obtain rfl : j = k := by omega
          have HF := Lib.hid (show R = 0 by
            rw [HE3.out, if_pos]
            unfold famsB
            rw [← HN.out]; exact HAL.out)
          go_wp2_with fail
          go_ret
          exact ⟨of_int HF.out.symm, below_more HB.out HBJ.out⟩
end Go.Proofs.YtmiokllpdmmfhaaGreat
