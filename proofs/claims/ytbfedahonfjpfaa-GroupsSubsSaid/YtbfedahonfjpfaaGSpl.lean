/-
  A text taken apart into its groups (split).
-/
import Derived.Test.YtbfedahonfjpfaaGKid
namespace Go.Proofs.Ytbfedahonfjpfaa
open Go.RowKit

/-- the groups, each with its place -/
def partsW (o : Nat) (l : List Nd) : List (Nat × List Nd) :=
  match l with
  | [] => []
  | u :: r => (o, (u :: r).take (1 + spanN (u :: r) u.depth 0)) :: partsW (o + (1 + spanN (u :: r) u.depth 0)) ((u :: r).drop (1 + spanN (u :: r) u.depth 0))
termination_by l.length
decreasing_by simp; omega
theorem partsW_nil (o : Nat) : partsW o [] = [] := by rw [partsW]
theorem partsW_cons (o : Nat) (u : Nd) (r : List Nd) : partsW o (u :: r) = (o, (u :: r).take (1 + spanN (u :: r) u.depth 0)) :: partsW (o + (1 + spanN (u :: r) u.depth 0)) ((u :: r).drop (1 + spanN (u :: r) u.depth 0)) := by rw [partsW]
theorem partsW_at {l : List Nd} {u : Nd} (h : l[0]? = some u) (o : Nat) : partsW o l = (o, l.take (1 + spanN l u.depth 0)) :: partsW (o + (1 + spanN l u.depth 0)) (l.drop (1 + spanN l u.depth 0)) := by
  cases l with
  | nil => cases h
  | cons x r => injection h with h; subst h; exact partsW_cons o x r
def partV (A : Option Addr) (p : Nat × List Nd) : Value := .slice (A.map fun a => ⟨a.block, a.off + p.1 * 8, none⟩) p.2.length p.2.length
def partsV (A : Option Addr) (l : List (Nat × List Nd)) : List Value := l.map (partV A)
theorem NdsAt.drop {w : World} {b o : Nat} {ns : List Nd} (h : NdsAt w (some ⟨b, o, none⟩) ns) (m : Nat) : NdsAt w (some ⟨b, o + m * 8, none⟩) (ns.drop m) := fun k x hk => by
  rw [List.getElem?_drop] at hk
  obtain ⟨b', o', e, hlt, hv⟩ := h (m + k) x hk
  injection e with e
  injection e with e1 e2
  subst e1 e2
  refine ⟨b, _, rfl, hlt, ?_⟩
  rw [show o + m * 8 + k * 8 = o + (m + k) * 8 by omega]; exact hv
theorem NdsAt.nil (w : World) (A : Option Addr) : NdsAt w A [] := fun k x hk => by simp at hk
theorem infoNds : (Try.prog.info? 25).map (fun i => (i.zero, i.size, i.bytes)) = some (some (.slice none 0 0), 1, 24) := by kernel_rfl
theorem one_slice (a : Option Addr) (n c : Nat) : ∀ u ∈ [Value.slice a n c], u.oneCell' = true := fun u hu => by simp at hu; subst hu; rfl
theorem new_one (w : World) (v : Value) (t : TypeId) : ∀ (j : Nat) (u : Value), [v][j]? = some u → (w.alloc (.cells #[v] t)).cell? ⟨w.heap.size, j, none⟩ = some u := fun j u hj => by
  have h0 : j = 0 := by have := (List.getElem?_eq_some_iff.1 hj).1; simpa using this
  subst h0
  simp at hj; subst hj
  rw [cell_of_blk (heap_alloc_new w _) 0]; rfl

set_option maxRecDepth 100000 in
set_option maxHeartbeats 4000000 in
theorem split_any (A : Option Addr) (cap : Nat) (ns : List Nd) (w : World) (h : NdsAt w A ns) (hl : ns.length ≤ cap) (hc : cap ≤ maxLen) (hsm : ns.length ≤ 1000000) :
    Calls Try.prog 81 #[.slice A ns.length cap] w (GotRow w 25 1 (partsW 0 ns).length (partsV A (partsW 0 ns))) := by
  obtain ⟨iv, hiv, hzv, hsv, hbv⟩ := info_hid infoNds
  have HNS := Lib.hid h
  unfold maxLen at hc
  obtain ⟨N, hN⟩ : ∃ N, N = ns.length := ⟨_, rfl⟩
  rw [← hN] at hl hsm ⊢
  have HN := Lib.hid hN
  clear h hN
  go_enter Try.func81, Try.ntmps81
  go_wp2
  go_loopw [0, 3] (fun s v wr => ∃ (k n' c' : Nat) (A' : Option Addr) (ps : List (Nat × List Nd)), s = .slice A' n' c' ∧ n' ≤ c' ∧ c' ≤ cap ∧ k + n' = N ∧ ps.length ≤ k ∧ Hid (Below w.heap.size w wr) ∧ Hid (n' = (ns.drop k).length) ∧ Hid (NdsAt wr A' (ns.drop k)) ∧ Hid (0 < n' → A' = A.map fun a => ⟨a.block, a.off + k * 8, none⟩) ∧
      Hid (wr.ownsRow w.heap.size 25 1 v ps.length (partsV A ps)) ∧ Hid (partsW 0 ns = ps ++ partsW k (ns.drop k))) (fun s _ _ => match s with | .slice _ n _ => n | _ => 0)
  case atStart => exact ⟨0, N, cap, A, [], rfl, hl, Nat.le_refl _, by omega, Nat.le_refl _, Lib.hid (Below.refl _ _), Lib.hid (by simpa using HN.out), Lib.hid (by simpa using HNS.out), Lib.hid (fun h0 => by
    have hlt : 0 < ns.length := by have := HN.out; omega
    obtain ⟨b, o, e, _⟩ := HNS.out 0 _ (List.getElem?_eq_getElem hlt)
    subst e; simp), Lib.hid (World.ownsRow_nil _ _ _ _), Lib.hid (by simp)⟩
  case round =>
    obtain ⟨k, n', c', A', ps, rfl, hn', hc', hkn, hps, hb, hnl, hna, hA', hown, hpw⟩ := hrel
    by_cases h0 : 0 < n'
    · obtain ⟨u, hu⟩ : ∃ u, (ns.drop k)[0]? = some u := ⟨_, List.getElem?_eq_getElem (by have := hnl.out; omega)⟩
      obtain ⟨b, o, hAe, hblt, hva⟩ := hna.out 0 u hu
      have HAA := Lib.hid (hA'.out h0)
      subst hAe
      obtain ⟨m, hm⟩ : ∃ m, m = 1 + spanN (ns.drop k) u.depth 0 := ⟨_, rfl⟩
      have hmn : m ≤ n' := by
        have := spanN_le (ns.drop k) u.depth 0 (by have := hnl.out; omega)
        have := hnl.out; omega
      have hm0 : 0 < m := by omega
      have HPW := Lib.hid (show partsW k (ns.drop k) = (k, (ns.drop k).take m) :: partsW (k + m) (ns.drop (k + m)) by
        rw [partsW_at hu, ← hm, List.drop_drop])
      have HP := Lib.hid (show Calls Try.prog 79 #[.slice (some ⟨b, o, none⟩) n' c', .int .i64 0] wr (fun e w' => e = .returned (.slice (some ⟨b, o, none⟩) m m) ∧ Below wr.heap.size wr w') by
        have := part_any b o c' 0 (ns.drop k) u hu (by rw [← hnl.out]; exact hn') (by unfold maxLen; omega) wr hna.out
        rw [← hnl.out, ← hm] at this
        simpa using this)
      have HNA := Lib.hid hna.out
      have HOW := Lib.hid hown.out
      have HPP := Lib.hid hpw.out
      have HBB := Lib.hid hb.out
      have HNL := Lib.hid hnl.out
      clear hva hu hm hna hA' hown hpw hb hnl
      have h00 : decide ((0 : Int) < n') = true := decide_eq_true (by omega)
      go_wp2_with fail
      refine HP.out.mono ?_; rintro e w1 ⟨rfl, hb1⟩
      have HB1 := Lib.hid (below_more HBB.out hb1)
      have HO1 := Lib.hid (ownsRow_of_block HOW.out (fun g hg => hb1.block g (HOW.out.lt g hg).2))
      have HN1 := Lib.hid (HNA.out.below hb1)
      clear hb1 HP HOW HNA
      have hss : w.heap.size ≤ w1.heap.size := HB1.out.size
      have HREL := Lib.hid (fun (v2 : Value) (w2 : World) (A2 : Option Addr) (ho : w2.ownsRow w.heap.size 25 1 v2 (ps.length + 1) (partsV A ps ++ [.slice (some ⟨b, o, none⟩) m m])) (hg : (w1.alloc (.cells #[.slice (some ⟨b, o, none⟩) m m] 25)).grownBy w2 u3.ownBlock) (ha : 0 < n' - m → A2 = some ⟨b, o + m * 8, none⟩) =>
        show ∃ ps2 : List (Nat × List Nd), ps2.length ≤ k + m ∧ Below w.heap.size w w2 ∧ n' - m = (ns.drop (k + m)).length ∧ NdsAt w2 A2 (ns.drop (k + m)) ∧ (0 < n' - m → A2 = A.map fun a => ⟨a.block, a.off + (k + m) * 8, none⟩) ∧ w2.ownsRow w.heap.size 25 1 v2 ps2.length (partsV A ps2) ∧ partsW 0 ns = ps2 ++ partsW (k + m) (ns.drop (k + m)) from by
        have hb2 : Below w.heap.size w1 w2 := ((Below.refl w.heap.size w1).alloc hss _).grown hg (by rw [World.size_alloc]; omega) (fun g hg => (HO1.out.lt g hg).1)
        have hlen : n' - m = (ns.drop (k + m)).length := by have := HNL.out; rw [List.length_drop] at this ⊢; omega
        refine ⟨ps ++ [(k, (ns.drop k).take m)], by simp; omega, HB1.out.trans hb2, hlen, ?_, ?_, ?_, ?_⟩
        · by_cases h1 : 0 < n' - m
          · rw [ha h1]
            have := HN1.out.drop m
            rw [List.drop_drop] at this
            intro j x hj
            obtain ⟨b', o', e, hlt, hv⟩ := this j x hj
            injection e with e
            injection e with e1 e2
            subst e1 e2
            obtain ⟨b'', o'', e', hlt', hv'⟩ := HNS.out ((k + m) + j) x (by rw [← List.getElem?_drop]; exact hj)
            have hbb : b < w.heap.size := by
              obtain ⟨c1, c2, c3, c4, _⟩ := HNS.out 0 _ (List.getElem?_eq_getElem (by have := HNL.out; rw [List.length_drop] at this; omega))
              have h2 := HAA.out
              rw [c3] at h2
              injection h2 with h2
              injection h2 with h2 _
              rw [h2]; exact c4
            refine ⟨b, _, rfl, by have := hb2.size; omega, ?_⟩
            exact ⟨(hb2.cell (p := ⟨b, _, none⟩) hbb).trans hv.c0, (hb2.cell (p := ⟨b, _, none⟩) hbb).trans hv.c1, (hb2.cell (p := ⟨b, _, none⟩) hbb).trans hv.c2, (hb2.cell (p := ⟨b, _, none⟩) hbb).trans hv.c3, (hb2.cell (p := ⟨b, _, none⟩) hbb).trans hv.c4, (hb2.cell (p := ⟨b, _, none⟩) hbb).trans hv.c5, (hb2.cell (p := ⟨b, _, none⟩) hbb).trans hv.c6, (hb2.cell (p := ⟨b, _, none⟩) hbb).trans hv.c7⟩
          · rw [List.eq_nil_of_length_eq_zero (l := ns.drop (k + m)) (by omega)]; exact NdsAt.nil _ _
        · intro h1
          rw [ha h1]
          have h2 := HAA.out
          cases A with
          | none => cases h2
          | some a => injection h2 with h2; injection h2 with h2 h3; simp [h2, h3] <;> omega
        · have e1 : partV A (k, (ns.drop k).take m) = .slice (some ⟨b, o, none⟩) m m := by
            unfold partV
            have h3 : ((ns.drop k).take m).length = m := by rw [List.length_take]; have := HNL.out; omega
            rw [HAA.out, h3]
          unfold partsV at ho ⊢
          rw [List.map_append, List.map_singleton, e1, List.length_append]
          exact ho
        · rw [HPP.out, HPW.out, List.append_assoc]; rfl)
      clear HPW HPP HN1 HAA HBB
      by_cases hcm : c' = m
      · subst hcm
        go_wp2_with (first
          | (at_builtin; refine wpList_append_src _ rfl (.tmp 10) (.tmp 12) 99 rfl w.heap.size 25 iv (.slice none 0 0) 1 24 Try.underlying99 hiv.out hzv.out hsv.out hbv.out rfl (by decide) u3 ps.length (partsV A ps) rfl ?own2 (some ⟨w1.heap.size, 0, none⟩) 1 1 [.slice (some ⟨b, o, none⟩) c' c'] rfl ?l2 ?n2 ?c2 ?o2 ?m2 ?b2 ?s2 (ps.length + 1) rfl ?_))
        case own2 => exact HO1.out.alloc _
        case l2 => rfl
        case n2 => intro h; cases h
        case o2 => exact one_slice _ _ _
        case c2 => intro ad had i u' hj; injection had with had; subst had; have := new_one w1 (.slice (some ⟨b, o, none⟩) c' c') 25 i u' hj; rw [show (⟨w1.heap.size, 0, none⟩ : Addr).add i = ⟨w1.heap.size, i, none⟩ by simp [Addr.add] <;> omega]; exact this
        case m2 => unfold maxLen; omega
        case b2 => omega
        case s2 => rw [World.size_alloc]; omega
        intro A3 c3 w3 own3 hg3 _
        obtain ⟨ps2, r1, r2, r3, r4, r5, r6, r7⟩ := HREL.out _ w3 (some ⟨b, o, none⟩) own3 hg3 (fun h => by omega)
        have R := Lib.hid (And.intro r2 (And.intro r3 (And.intro r4 (And.intro r5 (And.intro r6 r7)))))
        clear r2 r3 r4 r5 r6 r7 own3 hg3
        have hdm : decide (n' < c') = false := decide_eq_false (by omega)
        go_wp2_with fail
        go_roundw
        case rel => exact ⟨k + c', n' - c', c' - c', _, ps2, by simp <;> omega, by omega, by omega, by omega, r1, Lib.hid R.out.1, Lib.hid R.out.2.1, Lib.hid R.out.2.2.1, Lib.hid R.out.2.2.2.1, Lib.hid R.out.2.2.2.2.1, Lib.hid R.out.2.2.2.2.2⟩
        case measure => simp; omega
      · have hcm2 : (c' = m) = False := eq_false hcm
        go_wp2_with (first
          | (at_builtin; refine wpList_append_src _ rfl (.tmp 10) (.tmp 12) 99 rfl w.heap.size 25 iv (.slice none 0 0) 1 24 Try.underlying99 hiv.out hzv.out hsv.out hbv.out rfl (by decide) u3 ps.length (partsV A ps) rfl ?own2 (some ⟨w1.heap.size, 0, none⟩) 1 1 [.slice (some ⟨b, o, none⟩) m m] rfl ?l2 ?n2 ?c2 ?o2 ?m2 ?b2 ?s2 (ps.length + 1) rfl ?_))
        case own2 => exact HO1.out.alloc _
        case l2 => rfl
        case n2 => intro h; cases h
        case o2 => exact one_slice _ _ _
        case c2 => intro ad had i u' hj; injection had with had; subst had; have := new_one w1 (.slice (some ⟨b, o, none⟩) m m) 25 i u' hj; rw [show (⟨w1.heap.size, 0, none⟩ : Addr).add i = ⟨w1.heap.size, i, none⟩ by simp [Addr.add] <;> omega]; exact this
        case m2 => unfold maxLen; omega
        case b2 => omega
        case s2 => rw [World.size_alloc]; omega
        intro A3 c3 w3 own3 hg3 _
        obtain ⟨ps2, r1, r2, r3, r4, r5, r6, r7⟩ := HREL.out _ w3 (some ⟨b, o + m * 8, none⟩) own3 hg3 (fun _ => rfl)
        have R := Lib.hid (And.intro r2 (And.intro r3 (And.intro r4 (And.intro r5 (And.intro r6 r7)))))
        clear r2 r3 r4 r5 r6 r7 own3 hg3
        have hdm : decide (n' < m) = false := decide_eq_false (by omega)
        go_wp2_with fail
        go_roundw
        case rel => exact ⟨k + m, n' - m, c' - m, _, ps2, by simp <;> omega, by omega, by omega, by omega, r1, Lib.hid R.out.1, Lib.hid R.out.2.1, Lib.hid R.out.2.2.1, Lib.hid R.out.2.2.2.1, Lib.hid R.out.2.2.2.2.1, Lib.hid R.out.2.2.2.2.2⟩
        case measure => simp; omega
    · obtain rfl : n' = 0 := by omega
      obtain ⟨A2, c2, hv, -, -, -, -⟩ := own_slice hown.out
      subst hv
      have HE := Lib.hid (show partsW 0 ns = ps by
        have h1 := hpw.out
        have h2 : ns.drop k = [] := List.eq_nil_of_length_eq_zero hnl.out.symm
        rw [h2, partsW_nil, List.append_nil] at h1; exact h1)
      go_wp2_with fail
      go_ret
      rw [HE.out]
      exact ⟨A2, c2, rfl, hown.out, hb.out⟩

end Go.Proofs.Ytbfedahonfjpfaa
