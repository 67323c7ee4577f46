/-
  The law's own count of a text (counted): the list that countR says. And what builds on it.
-/
import Derived.Test.YtilagndfohnjnaaPkQ
import Derived.Test.YtilagndfohnjnaaPkL
import Derived.IntWalk
import Derived.Deep.QuietTactic
import Derived.BigQuiet

/- The law's own count of a text (counted): the list that countR says. -/
namespace Go.Proofs.Ytilagndfohnjnaa
open Go.RowKit

theorem cnt_inv {α : Type} {f : List Int → α → List Int} (hf : ∀ c x, f c x = c ∨ ∃ i, f c x = addAt c i) : ∀ (ns : List α) (c : List Int) (b : Int), (∀ v ∈ c, 0 ≤ v ∧ v ≤ b) → (ns.foldl f c).length = c.length ∧ ∀ v ∈ ns.foldl f c, 0 ≤ v ∧ v ≤ b + ns.length
  | [], c, b, h => by simp; exact h
  | n :: r, c, b, h => by
    rw [List.foldl_cons]
    have h1 : ∀ v ∈ f c n, 0 ≤ v ∧ v ≤ b + 1 := by
      rcases hf c n with e | ⟨i, e⟩ <;> rw [e]
      · intro v hv; have := h v hv; omega
      · exact addAt_le h
    have h2 : (f c n).length = c.length := by
      rcases hf c n with e | ⟨i, e⟩ <;> rw [e]
      exact addAt_len _ _
    obtain ⟨h3, h4⟩ := cnt_inv hf r _ _ h1
    refine ⟨h3.trans h2, fun v hv => ?_⟩
    have := h4 v hv
    rw [List.length_cons]; push_cast; omega
theorem cntN_or (k : Nat) (c : List Int) (u : Nd) : cntN k c u = c ∨ ∃ i, cntN k c u = addAt c i := by
  unfold cntN
  split
  · exact .inr ⟨_, rfl⟩
  · split
    · exact .inr ⟨_, rfl⟩
    · exact .inl rfl
theorem count_ok (k : Nat) (ns : List Nd) : (countR k ns).length = k + 1 ∧ ∀ v ∈ countR k ns, 0 ≤ v ∧ v ≤ ns.length := by
  have := cnt_inv (cntN_or k) ns (List.replicate (k + 1) 0) 0 (fun v hv => by have := (List.mem_replicate.1 hv).2; omega)
  simpa [countR] using this
theorem countM_ok (k : Nat) (ms : List Mk) : (countM k ms).length = k + 1 ∧ ∀ v ∈ countM k ms, 0 ≤ v ∧ v ≤ ms.length := by
  have := cnt_inv (f := cntM) (fun c m => .inr ⟨_, rfl⟩) ms (List.replicate (k + 1) 0) 0 (fun v hv => by have := (List.mem_replicate.1 hv).2; omega)
  simpa [countM] using this
theorem count_step {k : Nat} {ns : List Nd} {j : Nat} {x : Nd} (h : ns[j]? = some x) : countR k (ns.take (j + 1)) = cntN k (countR k (ns.take j)) x := by
  obtain ⟨hk', e⟩ := List.getElem?_eq_some_iff.1 h
  unfold countR
  rw [List.take_succ_eq_append_getElem hk', e, List.foldl_append]; rfl
theorem countM_step {k : Nat} {ms : List Mk} {j : Nat} {x : Mk} (h : ms[j]? = some x) : countM k (ms.take (j + 1)) = cntM (countM k (ms.take j)) x := by
  obtain ⟨hk', e⟩ := List.getElem?_eq_some_iff.1 h
  unfold countM
  rw [List.take_succ_eq_append_getElem hk', e, List.foldl_append]; rfl

set_option maxRecDepth 100000 in
set_option maxHeartbeats 8000000 in
theorem counted_any (A : Option Addr) (cap : Nat) (ns : List Nd) (K : Nat) (w : World) (hn : NdsAt w A ns) (hc1 : ns.length ≤ cap) (hc : cap ≤ maxLen) (hsm : ns.length ≤ 1000) (hK : K ≤ 1000) :
    Calls Try.prog 54 #[.agg #[.slice A ns.length cap], .int .i64 K] w (fun e w' => ∃ Ac cc, e = .returned (.slice Ac (K + 1) cc) ∧ Hid (IntsIn w' Ac (countR K ns)) ∧ Below w.heap.size w w') := by
  have HNS := Lib.hid hn
  obtain ⟨N, hN⟩ : ∃ N, N = ns.length := ⟨_, rfl⟩
  have HN := Lib.hid hN
  rw [← hN] at hc1 hsm ⊢
  unfold maxLen at hc
  obtain ⟨W, hW⟩ : ∃ W, W = w.alloc (.cells #[.slice A N cap] 27) := ⟨_, rfl⟩
  have HB := Lib.hid (show Below w.heap.size w W from hW ▸ below_alloc _ _)
  have D1 := Lib.hid (show W.heap[w.heap.size]? = some (.cells #[.slice A N cap] 27 (0, 0)) by rw [hW]; exact heap_alloc_new _ _)
  have HSZ := Lib.hid (show W.heap.size = w.heap.size + 1 by rw [hW]; simp)
  obtain ⟨iv, hiv, hzv, hsv, hbv⟩ := info_hid infoInt
  have hs1 := (Array.getElem?_eq_some_iff.1 D1.out).1
  have hs0 := HB.out.size
  have hwK : IntKind.i64.wrap ((K : Int) + 1) = ((K + 1 : Nat) : Int) := by rw [IntWalk.i64_in _ (by omega)]; rfl
  clear hn hN
  go_enter Try.func54, Try.ntmps54
  go_wp2_with (first
    | (at_make; refine wpList_make_full _ rfl (.tmp 8) (.tmp 8) 38 rfl (w.heap.size + 1) 3 iv (.int .i64 0) 1 Try.underlying38 hiv.out hzv.out hsv.out .i64 .i64 (K + 1 : Nat) (K + 1 : Nat) (K + 1) rfl rfl rfl rfl ?b2 ?b3 ?b4 ?_))
  case b2 => rw [hbv.out]; omega
  case b3 => unfold maxLen; omega
  case b4 => simp
  intro w2 hown hg
  rw [← hW] at hg
  have HB2 := Lib.hid (show Below W.heap.size W w2 from (Below.refl _ _).grown hg (Nat.le_refl _) (fun g hg => by cases hg))
  have HO2 := Lib.hid (show w2.ownsRow (w.heap.size + 1) 3 1 (.slice (some ⟨w.heap.size + 1, 0, none⟩) (K + 1) (K + 1)) (K + 1) (intsZ (countR K (ns.take 0))) by
    have h : intsZ (countR K (ns.take 0)) = (madeCells (#[.int .i64 0] : Array Value) (K + 1)).toList := by
      rw [toList_madeCells_one]; simp [countR, intsZ]
    rw [h]; exact hown)
  have HBW := Lib.hid (below_more HB.out HB2.out)
  have DW := Lib.hid D1.out
  have hs2 := HB2.out.size
  clear hown hg hW D1 hwK
  have D1 := Lib.hid (blk_keep HB2.out DW.out)
  have x0 := cell_of_blk D1.out 0
  simp at x0
  go_wp2_with fail
  go_loopw [6] (fun i wr => ∃ (j : Nat), j ≤ N ∧ i = .int .i64 j ∧ Hid (wr.ownsRow (w.heap.size + 1) 3 1 (.slice (some ⟨w.heap.size + 1, 0, none⟩) (K + 1) (K + 1)) (K + 1) (intsZ (countR K (ns.take j)))) ∧ Hid (Below W.heap.size W wr)) (fun i _ => N - (intOf i).toNat)
  case atStart => exact ⟨0, Nat.zero_le _, rfl, HO2, HB2⟩
  case round =>
    obtain ⟨j, hj, rfl, hown, hbw⟩ := hrel
    have HBW := Lib.hid hbw.out
    have HOW := Lib.hid hown.out
    clear hbw hown x0 D1
    have D1 := Lib.hid (blk_keep HBW.out DW.out)
    have x0 := cell_of_blk D1.out 0
    have hs3 := HBW.out.size
    simp at x0
    by_cases hlt : j < N
    · obtain ⟨x, hx⟩ : ∃ x, ns[j]? = some x := ⟨_, List.getElem?_eq_getElem (by have := HN.out; omega)⟩
      obtain ⟨b, o, rfl, hblt, hva0⟩ := HNS.out j x hx
      have hva := hva0.below (below_more HB.out HBW.out) hblt
      have hne : b ≠ w.heap.size + 1 := by omega
      have hne2 : w.heap.size + 1 ≠ b := by omega
      clear hva0
      obtain ⟨y0, y1, y2, y3, y4, y5, y6, y7⟩ := hva
      have HST := Lib.hid (count_step (k := K) hx)
      obtain ⟨hcl, hcv⟩ := count_ok K (ns.take j)
      have htl : (ns.take j).length = j := by rw [List.length_take]; have := HN.out; omega
      rw [htl] at hcv
      obtain ⟨cs, hcs⟩ : ∃ cs, cs = countR K (ns.take j) := ⟨_, rfl⟩
      rw [← hcs] at HST HOW hcl hcv
      have HCL := Lib.hid hcl
      have HCV := Lib.hid hcv
      obtain ⟨xk, xd, xs, xt, xm, xst, xmn, xmx⟩ := x
      dsimp only at y0 y1 y2 y3 y4 y5 y6 y7
      clear hx hcl hcv htl hcs y1 y3 y4 y5 y6 y7
      obtain ⟨g, e1, hbg, hg, -, -, hcell, hfr⟩ := own_open HOW.out (by omega)
      injection e1 with e1; injection e1 with e1 _
      have HCE := Lib.hid (fun (q : Nat) (v : Int) (hv : cs[q]? = some v) => show wr.cell? ⟨w.heap.size + 1, q, none⟩ = some (.int .i64 v) by rw [e1]; exact hcell _ _ (intsZ_at hv))
      have HCF := Lib.hid (fun (q : Nat) => show wr.frozen? ⟨w.heap.size + 1, q, none⟩ = false by rw [e1]; exact hfr _)
      have hz2 : w.heap.size + 1 < wr.heap.size := by omega
      have HNEW := Lib.hid (fun (q : Nat) (v : Int) (hv : cs[q]? = some v) (hs : countR K (ns.take (j + 1)) = addAt cs q) => show (wr.setCell ⟨w.heap.size + 1, q, none⟩ (.int .i64 (v + 1))).ownsRow (w.heap.size + 1) 3 1 (.slice (some ⟨w.heap.size + 1, 0, none⟩) (K + 1) (K + 1)) (K + 1) (intsZ (countR K (ns.take (j + 1)))) by
        have h1 := own_set (HOW.out) (g := w.heap.size + 1) rfl q (.int .i64 (v + 1))
        rw [intsZ_set, ← addAt_at hv, ← hs] at h1
        exact h1)
      clear hcell hfr e1 hbg hg
      have hj0 : (0 : Int) ≤ (j : Int) := by omega
      have hjN : (j : Int) < (N : Int) := by omega
      by_cases hk6 : xk = 6
      · subst hk6
        have HS2 := Lib.hid (show countR K (ns.take (j + 1)) = addAt cs 0 by rw [HST.out]; unfold cntN; dsimp only; rw [if_pos rfl])
        obtain ⟨v, hv⟩ : ∃ v, cs[0]? = some v := ⟨_, List.getElem?_eq_getElem (by rw [HCL.out]; omega)⟩
        obtain ⟨hv0, hv1⟩ := HCV.out v (List.mem_of_getElem? hv)
        have zc := HCE.out 0 v hv
        have zf := HCF.out 0
        have HN2 := Lib.hid (HNEW.out 0 v hv HS2.out)
        have hwr : IntKind.i64.wrap (v + 1) = v + 1 := IntWalk.i64_in _ (by omega)
        clear hv HST HCV HCE HCF HNEW
        go_wp2_with fail
        go_roundw
        case rel => exact ⟨j + 1, by omega, by go_num, HN2, Lib.hid (HBW.out.setCell (by rw [HSZ.out]; exact Nat.le_refl _) _)⟩
        case measure => simp [intOf]; omega
      · have hb6 : (xk == 6) = false := by simpa using hk6
        by_cases hk1 : xk = 1
        · subst hk1
          by_cases hs0 : xs < 0
          · have hd0 : decide ((0 : Int) ≤ xs) = false := decide_eq_false (by omega)
            have HS2 := Lib.hid (show countR K (ns.take (j + 1)) = cs by rw [HST.out]; unfold cntN; dsimp only; rw [if_neg (by omega), if_neg (by omega)])
            clear HST HCV HCE HCF HNEW
            go_wp2_with fail
            go_roundw
            case rel => exact ⟨j + 1, by omega, by go_num, Lib.hid (by rw [HS2.out]; exact HOW.out), HBW⟩
            case measure => simp [intOf]; omega
          · have hd0 : decide ((0 : Int) ≤ xs) = true := decide_eq_true (by omega)
            by_cases hsK : xs < (K : Int)
            · obtain ⟨sn, rfl⟩ : ∃ sn : Nat, xs = sn := ⟨xs.toNat, by omega⟩
              have hsn : sn < K := by omega
              have hd1 : decide (sn < K) = true := decide_eq_true hsn
              have HS2 := Lib.hid (show countR K (ns.take (j + 1)) = addAt cs (sn + 1) by
                rw [HST.out]; unfold cntN; dsimp only; rw [if_neg (by omega), if_pos ⟨rfl, by omega, hsK⟩]; congr 1)
              obtain ⟨v, hv⟩ : ∃ v, cs[sn + 1]? = some v := ⟨_, List.getElem?_eq_getElem (by rw [HCL.out]; omega)⟩
              obtain ⟨hv0, hv1⟩ := HCV.out v (List.mem_of_getElem? hv)
              have zc := HCE.out (sn + 1) v hv
              have zf := HCF.out (sn + 1)
              have HN2 := Lib.hid (HNEW.out (sn + 1) v hv HS2.out)
              have hsn0 : (0 : Int) ≤ (sn : Int) := by omega
              have hsn1 : (sn : Int) + 1 < (K : Int) + 1 := by omega
              have hsn2 : ((sn : Int) + 1).toNat = sn + 1 := by omega
              have hsn3 : (0 : Int) ≤ (sn : Int) + 1 := by omega
              have hwr : IntKind.i64.wrap (v + 1) = v + 1 := IntWalk.i64_in _ (by omega)
              have hws : IntKind.i64.wrap ((sn : Int) + 1) = (sn : Int) + 1 := IntWalk.i64_in _ (by omega)
              clear hv HST HCV HCE HCF HNEW hs0 hsK
              go_wp2_with fail
              go_roundw
              case rel => exact ⟨j + 1, by omega, by go_num, HN2, Lib.hid (HBW.out.setCell (by rw [HSZ.out]; exact Nat.le_refl _) _)⟩
              case measure => simp [intOf]; omega
            · have hd1 : decide (xs < (K : Int)) = false := decide_eq_false hsK
              have HS2 := Lib.hid (show countR K (ns.take (j + 1)) = cs by rw [HST.out]; unfold cntN; dsimp only; rw [if_neg (by omega), if_neg (by omega)])
              clear HST HCV HCE HCF HNEW
              go_wp2_with fail
              go_roundw
              case rel => exact ⟨j + 1, by omega, by go_num, Lib.hid (by rw [HS2.out]; exact HOW.out), HBW⟩
              case measure => simp [intOf]; omega
        · have hb1 : (xk == 1) = false := by simpa using hk1
          have HS2 := Lib.hid (show countR K (ns.take (j + 1)) = cs by rw [HST.out]; unfold cntN; dsimp only; rw [if_neg hk6, if_neg (fun h => hk1 h.1)])
          clear HST HCV HCE HCF HNEW hk1
          go_wp2_with fail
          go_roundw
          case rel => exact ⟨j + 1, by omega, by go_num, Lib.hid (by rw [HS2.out]; exact HOW.out), HBW⟩
          case measure => simp [intOf]; omega
    · obtain rfl : j = N := by omega
      have HT := Lib.hid (show ns.take j = ns by rw [HN.out, List.take_length])
      have h1 := HOW.out
      rw [HT.out] at h1
      have HI := Lib.hid (own_ints h1)
      clear h1
      go_wp2_with fail
      go_ret
      exact ⟨_, K + 1, rfl, HI, below_more HB.out HBW.out⟩

end Go.Proofs.Ytilagndfohnjnaa
