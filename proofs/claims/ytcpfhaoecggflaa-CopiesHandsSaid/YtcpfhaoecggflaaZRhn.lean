/-
  The specification's Hands (layer 9).
-/
import Derived.Test.YtcpfhaoecggflaaZCol
import Derived.Test.YtcpfhaoecggflaaZRap
namespace Go.Proofs.Ytcpfhaoecggflaa
open Go.RowKit

def prC (p : Nat × Nat) : List Value := [.int .i64 (p.1 : Nat), .int .i64 (p.2 : Nat)]
theorem infoP2 : (Try.prog.info? 125).map (fun i => (i.zero, i.size, i.bytes)) = some (some (.agg #[.int .i64 0, .int .i64 0]), 2, 16) := by kernel_rfl
/-- the pairs so far -/
structure PsB (ap : Nat → Nat → Bool) (m i j : Nat) (ps : List (Nat × Nat)) : Prop where
  ok : ∀ p ∈ ps, p.1 < p.2 ∧ p.2 < m ∧ ap p.1 p.2 = true
  all : ∀ i' k', i' < k' → k' < m → bef i j i' k' → ap i' k' = true → (i', k') ∈ ps
  len : ps.length ≤ i * 8 + j
theorem PsB.yes {ap : Nat → Nat → Bool} {m i j : Nat} {ps : List (Nat × Nat)} (h : PsB ap m i j ps) (hij : i < j) (hj : j < m) (hV : ap i j = true) : PsB ap m i (j + 1) (ps ++ [(i, j)]) :=
  ⟨fun p hp => by
    rcases List.mem_append.1 hp with hp | hp
    · exact h.ok p hp
    · rw [List.mem_singleton.1 hp]; exact ⟨hij, hj, hV⟩, fun i' k' a b c d => by
    by_cases e : i' = i ∧ k' = j
    · rw [e.1, e.2]; exact List.mem_append_right _ (List.mem_singleton.2 rfl)
    · exact List.mem_append_left _ (h.all i' k' a b (by unfold bef at *; omega) d), by have := h.len; simp; omega⟩
theorem PsB.no {ap : Nat → Nat → Bool} {m i j : Nat} {ps : List (Nat × Nat)} (h : PsB ap m i j ps) (hV : ap i j = false) : PsB ap m i (j + 1) ps :=
  ⟨h.ok, fun i' k' a b c d => by
    by_cases e : i' = i ∧ k' = j
    · rw [e.1, e.2, hV] at d; cases d
    · exact h.all i' k' a b (by unfold bef at *; omega) d, by have := h.len; omega⟩
theorem PsB.row {ap : Nat → Nat → Bool} {m i : Nat} {ps : List (Nat × Nat)} (h : PsB ap m i m ps) (hm : m ≤ 8) : PsB ap m (i + 1) (i + 1 + 1) ps :=
  ⟨h.ok, fun i' k' a b c d => h.all i' k' a b (by unfold bef at *; omega) d, by have := h.len; omega⟩
theorem own_prs {w : World} {base : Nat} {A : Option Addr} {k c : Nat} {ps : List (Nat × Nat)} (h : w.ownsRow base 125 2 (.slice A k c) k (ps.flatMap prC)) : PsIn w A ps := fun j p hj => by
  obtain ⟨A2, c2, hv, -, -, h3, h4⟩ := own_slice h
  injection hv with e1 e2 e3
  subst e1 e3
  have f0 := flat_at (f := prC) (c := 2) (fun _ => rfl) ps j p hj 0 (by omega)
  have f1 := flat_at (f := prC) (c := 2) (fun _ => rfl) ps j p hj 1 (by omega)
  cases A with
  | none =>
    have h0 := h4 rfl
    have := h.1
    rw [h0] at this
    have hl := (List.getElem?_eq_some_iff.1 hj).1
    rw [flat_len (c := 2) (fun _ => rfl)] at this
    omega
  | some ad =>
    obtain ⟨g, rfl, -, hg, hc⟩ := h3 ad rfl
    exact ⟨g, 0, rfl, hg, by rw [Nat.zero_add]; exact hc _ _ f0, by rw [Nat.zero_add]; exact hc _ _ f1⟩

set_option maxRecDepth 100000 in
set_option maxHeartbeats 12800000 in
theorem rhands_any (S : Option Addr) (cs : Nat) (L : List Tr) (n d : Int) (w : World) (hS : TrsIn w S L) (hl : L.length ≤ maxLen) :
    Calls Try.prog 32 #[.slice S L.length cs, .agg #[.int .i64 n, .int .i64 d]] w (GotHn w L n d) := by
  obtain ⟨W, hW⟩ : ∃ W, W = w.alloc (.cells #[.int .i64 n, .int .i64 d] 56) := ⟨_, rfl⟩
  have HBW := Lib.hid (show Below w.heap.size w W from hW ▸ below_alloc _ _)
  have HWN := Lib.hid (show W.heap[w.heap.size]? = some (.cells #[.int .i64 n, .int .i64 d] 56 (0, 0)) from hW ▸ heap_alloc_new _ _)
  have HSW := Lib.hid (hS.below HBW.out)
  have HAP := Lib.hid (fun (i k : Nat) (a b : Tr) (ha : L[i]? = some a) (hb : L[k]? = some b) (wx : World) (hx : Below W.heap.size W wx) =>
    show Calls Try.prog 30 #[.slice a.A a.ts.length a.c, .slice b.A b.ts.length b.c, .agg #[.int .i64 n, .int .i64 d]] wx (fun e w' => e = .returned (.tuple #[.bool (apAt L n d i k), .int .i64 (erAt L n d i k)]) ∧ Below wx.heap.size wx w') by
    obtain ⟨_, _, _, _, _, h1, h2⟩ := (HSW.out.below hx) i a ha
    obtain ⟨_, _, _, _, _, h3, h4⟩ := (HSW.out.below hx) k b hb
    have h := rapart_any a.A b.A a.c b.c a.ts b.ts n d wx h1 h3 h2 h4
    unfold GotAp at h
    rw [apAt_is ha hb, erAt_is ha hb]; exact h)
  obtain ⟨m, hm⟩ : ∃ m, m = L.length := ⟨_, rfl⟩
  have HM := Lib.hid hm
  rw [← hm] at hl ⊢
  unfold maxLen at hl
  clear hm hS
  by_cases h8 : m ≤ 8
  case neg =>
    have HG := Lib.hid (hn_err (w := w) (w' := W) (L := L) (n := n) (d := d) (E := 2) (.inl ⟨by have := HM.out; omega, rfl, rfl⟩) HBW.out)
    go_enter Try.func32, Try.ntmps32
    go_wp2
    rw [← hW]
    go_ret2
    exact HG.out
  have x0 := cell_of_blk HWN.out 0
  have x1 := cell_of_blk HWN.out 1
  have x2 := (Array.getElem?_eq_some_iff.1 HWN.out).1
  simp at x0 x1
  obtain ⟨ip, hip, hzp, hsp, hbp⟩ := info_hid infoP2
  go_enter Try.func32, Try.ntmps32
  go_upto_if 20 with fail
  rw [← hW]
  clear hW
  go_cut [] (fun wx => Hid (m = 1 → erAt L n d 0 0 = 0) ∧ Hid (Below W.heap.size W wx))
  case first =>
    by_cases h1 : m = 1
    · subst h1
      have hl0 : 0 < L.length := by have := HM.out; omega
      have hget := List.getElem?_eq_getElem hl0
      obtain ⟨r, hr⟩ : ∃ r, r = L[0] := ⟨_, rfl⟩
      rw [← hr] at hget
      obtain ⟨b, o, rfl, hb, hc, -, -⟩ := HSW.out 0 r hget
      rw [Nat.add_zero] at hc
      have HA1 := Lib.hid (fun wx hx => HAP.out 0 0 r r hget hget wx hx)
      obtain ⟨E, hE⟩ : ∃ E, E = erAt L n d 0 0 := ⟨_, rfl⟩
      obtain ⟨V, hV⟩ : ∃ V, V = apAt L n d 0 0 := ⟨_, rfl⟩
      have HE := Lib.hid hE
      rw [← hE, ← hV] at HA1
      clear hl0 hr hget hE hV
      go_wp2
      refine wp_region_later (by kernel_rfl) (by kernel_rfl) ?_; (repeat (first | go_big_quiet_step ((((go_at_call 30; exact Calls.later _ (HA1.out _ (Later.below _)))))) | quiet_step ((((go_at_call 30; exact Calls.later _ (HA1.out _ (Later.below _)))))))); refine wpQuiet_nil ?_; rintro _ ⟨s, rfl⟩
      by_cases h0 : E = 0
      · have f2 : (E != 0) = false := by simpa using h0
        have HE0 := Lib.hid (show erAt L n d 0 0 = 0 by rw [← HE.out]; exact h0)
        clear h0
        go_wp2
        go_meet
        exact ⟨Lib.hid (fun _ => HE0.out), Lib.hid s.below⟩
      · have f2 : (E != 0) = true := by simpa using h0
        have HG := Lib.hid (hn_err (w := w) (w' := s.w) (L := L) (n := n) (d := d) (E := E) (.inr (.inl ⟨HM.out.symm, HE.out, h0, rfl⟩)) (below_more HBW.out s.below))
        clear h0
        go_wp2
        go_ret2
        exact HG.out
    · have f1 : ((m : Int) == 1) = false := beq_eq_false_iff_ne.2 (by omega)
      go_wp2
      go_meet
      exact ⟨Lib.hid (fun h => absurd h h1), Lib.hid (Below.refl _ _)⟩
  case rest =>
  obtain ⟨h1, hb1⟩ := hcut
  obtain ⟨W1, hW1⟩ : ∃ W1, W1 = wc := ⟨_, rfl⟩
  rw [← hW1] at hb1 ⊢
  clear hW1 x0 x1 x2
  have HNW := Lib.hid (blk_keep hb1.out HWN.out)
  have HSW := Lib.hid (HSW.out.below hb1.out)
  have HB1 := Lib.hid (below_more HBW.out hb1.out)
  have HAP := Lib.hid (fun (i k : Nat) (a b : Tr) (ha : L[i]? = some a) (hb : L[k]? = some b) (wx : World) (hx : Below W1.heap.size W1 wx) => HAP.out i k a b ha hb wx (below_more hb1.out hx))
  go_wp2_with fail
  go_loopw [8, 9] (fun v u wr => ∃ (i : Nat) (ps : List (Nat × Nat)), i ≤ m ∧ u = .int .i64 i ∧ Hid (PsB (apAt L n d) m i (i + 1) ps) ∧ Hid (wr.ownsRow W1.heap.size 125 2 v ps.length (ps.flatMap prC)) ∧ Hid (∀ i' k', i' < k' → k' < m → i' < i → erAt L n d i' k' = 0) ∧ Hid (Below W1.heap.size W1 wr)) (fun _ u _ => m - (intOf u).toNat)
  case atStart => exact ⟨0, [], Nat.zero_le _, rfl, Lib.hid ⟨(fun p hp => by cases hp), (fun i' k' a b c => by unfold bef at c; omega), by simp⟩, Lib.hid (World.ownsRow_nil _ _ _ _), Lib.hid (fun i' k' a b c => absurd c (Nat.not_lt_zero i')), Lib.hid (Below.refl _ _)⟩
  case round =>
    obtain ⟨i, ps0, hi, rfl, ht, hown, her, hb⟩ := hrel
    by_cases hlt : i < m
    · go_wp2
      go_loopw [8, 10] (fun v u wq => ∃ (j : Nat) (ps : List (Nat × Nat)), i + 1 ≤ j ∧ j ≤ m ∧ u = .int .i64 j ∧ Hid (PsB (apAt L n d) m i j ps) ∧ Hid (wq.ownsRow W1.heap.size 125 2 v ps.length (ps.flatMap prC)) ∧ Hid (∀ i' k', i' < k' → k' < m → bef i j i' k' → erAt L n d i' k' = 0) ∧ Hid (Below W1.heap.size W1 wq)) (fun _ u _ => m - (intOf u).toNat)
      case atStart => exact ⟨i + 1, ps0, Nat.le_refl _, hlt, by go_num, ht, hown, Lib.hid (fun i' k' a b c => her.out i' k' a b (by unfold bef at c; omega)), hb⟩
      case round =>
        obtain ⟨j, ps, hj1, hj, rfl, ht2, hown2, her2, hb2⟩ := hrel
        clear ht hb hown
        by_cases hlj : j < m
        · have hki : i < L.length := by have := HM.out; omega
          have hkj : j < L.length := by have := HM.out; omega
          have hgi := List.getElem?_eq_getElem hki
          have hgj := List.getElem?_eq_getElem hkj
          obtain ⟨a, ha⟩ : ∃ r, r = L[i] := ⟨_, rfl⟩
          obtain ⟨b, hb'⟩ : ∃ r, r = L[j] := ⟨_, rfl⟩
          rw [← ha] at hgi
          rw [← hb'] at hgj
          obtain ⟨x, o, rfl, hxl, y0, -, -⟩ := (HSW.out.below hb2.out) i a hgi
          obtain ⟨x', o', hxe, -, y1, -, -⟩ := (HSW.out.below hb2.out) j b hgj
          injection hxe with hxe; injection hxe with e1 e2
          subst e1 e2
          have HA1 := Lib.hid (fun wx hx => HAP.out i j a b hgi hgj wx (below_more hb2.out hx))
          obtain ⟨E, hE⟩ : ∃ E, E = erAt L n d i j := ⟨_, rfl⟩
          obtain ⟨V, hV⟩ : ∃ V, V = apAt L n d i j := ⟨_, rfl⟩
          have HE := Lib.hid hE
          have HV := Lib.hid hV.symm
          rw [← hE, ← hV] at HA1
          have HNB := Lib.hid (blk_keep hb2.out HNW.out)
          have z0 := cell_of_blk HNB.out 0
          have z1 := cell_of_blk HNB.out 1
          have z2 := (Array.getElem?_eq_some_iff.1 HNB.out).1
          simp at z0 z1
          have hij : (i : Int) < (m : Int) := by omega
          have hjj : (j : Int) < (m : Int) := by omega
          clear hki hkj hgi hgj ha hb' hE hV
          go_wp2
          refine wp_region_later (by kernel_rfl) (by kernel_rfl) ?_; (repeat (first | go_big_quiet_step ((((go_at_call 30; exact Calls.later _ (HA1.out _ (Later.below _)))))) | quiet_step ((((go_at_call 30; exact Calls.later _ (HA1.out _ (Later.below _)))))))); refine wpQuiet_nil ?_; rintro _ ⟨s, rfl⟩
          by_cases h0 : E = 0
          · have f2 : (E != 0) = false := by simpa using h0
            have HE0 := Lib.hid (show erAt L n d i j = 0 by rw [← HE.out]; exact h0)
            have HB3 := Lib.hid (below_more hb2.out s.below)
            have HO3 := Lib.hid ((own_below hown2.out s.below).alloc (.cells #[.int .i64 (i : Nat), .int .i64 (j : Nat)] 125))
            obtain ⟨ws, hws⟩ : ∃ ws, ws = s.w := ⟨_, rfl⟩
            rw [← hws] at HB3 HO3 ⊢
            have hw3 := Lib.hid HB3.out.size
            have HER := Lib.hid (show ∀ i' k', i' < k' → k' < m → bef i (j + 1) i' k' → erAt L n d i' k' = 0 from fun i' k' a b c => by
              by_cases e : i' = i ∧ k' = j
              · rw [e.1, e.2]; exact HE0.out
              · exact her2.out i' k' a b (by unfold bef at *; omega))
            have HSA := Lib.hid (own_below hown2.out s.below)
            rw [← hws] at HSA
            have hpl : ps.length ≤ 100 := by have := ht2.out.len; omega
            clear h0 hws y0 y1 z0 z1 z2
            cases V with
            | true =>
              go_wp2_with (first
                | (at_builtin; refine wpList_append_src _ rfl (.tmp 66) (.tmp 70) 124 rfl W1.heap.size 125 ip (.agg #[.int .i64 0, .int .i64 0]) 2 16 Try.underlying124 hip.out hzp.out hsp.out hbp.out rfl (by decide) u8 ps.length (ps.flatMap prC) rfl HO3.out (some ⟨ws.heap.size, 0, none⟩) 1 1 [.int .i64 (i : Nat), .int .i64 (j : Nat)] rfl rfl pair_some (one_new ws _ _) (pair_one _ _) (by unfold maxLen; omega) (by omega) (by have := hw3.out; simp; omega) (ps.length + 1) rfl ?_))
              intro A3 c3 w3 own3 hg3 hn3
              have HB4 := Lib.hid ((HB3.out.alloc hw3.out (.cells #[.int .i64 (i : Nat), .int .i64 (j : Nat)] 125)).grown hg3 (by have := hw3.out; simp; omega) (fun g hg => (HO3.out.lt g hg).1))
              have HO4 := Lib.hid own3
              clear own3 hg3 hn3
              go_wp2
              go_roundw
              case rel => exact ⟨j + 1, ps ++ [(i, j)], by omega, by omega, by go_num, Lib.hid (ht2.out.yes (by omega) hlj HV.out), Lib.hid (by rw [List.length_append, List.flatMap_append]; exact HO4.out), HER, HB4⟩
              case measure => simp [intOf]; omega
            | false =>
              go_wp2
              go_roundw
              case rel => exact ⟨j + 1, ps, by omega, by omega, by go_num, Lib.hid (ht2.out.no HV.out), HSA, HER, HB3⟩
              case measure => simp [intOf]; omega
          · have f2 : (E != 0) = true := by simpa using h0
            have HG := Lib.hid (hn_err (w := w) (w' := s.w) (L := L) (n := n) (d := d) (E := E) (.inr (.inr (.inl ⟨by have := HM.out; omega, by rw [← HM.out]; exact h1.out, ⟨i, j, by omega, by have := HM.out; omega, HE.out, h0, fun i' k' a b c => her2.out i' k' a (by have := HM.out; omega) c⟩, rfl⟩))) (below_more HB1.out (below_more hb2.out s.below)))
            clear h0
            go_wp2
            go_ret2
            exact HG.out
        · obtain rfl : j = m := by omega
          go_wp2
          go_roundw
          case rel => exact ⟨i + 1, ps, by omega, by go_num, Lib.hid (ht2.out.row h8), hown2, Lib.hid (fun i' k' a b c => her2.out i' k' a b (by unfold bef; omega)), hb2⟩
          case measure => simp [intOf]; omega
    · obtain rfl : i = m := by omega
      obtain ⟨P, cp, hv, -, -, -, -⟩ := own_slice hown.out
      subst hv
      have HPS := Lib.hid (own_prs hown.out)
      have HPK := Lib.hid (show PsOk (apAt L n d) i ps0 from ⟨ht.out.ok, fun i' k' a b c => ht.out.all i' k' a b (by unfold bef; omega) c⟩)
      have hpl : ps0.length ≤ 1000 := by have := ht.out.len; omega
      have HERR := Lib.hid (show ∀ i' k', i' < k' → k' < L.length → erAt L n d i' k' = 0 from fun i' k' a b => her.out i' k' a (by have := HM.out; omega) (by have := HM.out; omega))
      clear ht hown her hlt
      obtain ⟨wo, rfl⟩ : ∃ wo, wo = wr := ⟨_, rfl⟩
      go_wp2
      go_loopw [13] (fun u wq => ∃ q : Nat, q ≤ i ∧ u = .int .i64 q ∧ Hid (∀ j, j < q → giveF (apAt L n d) i j i [] = none) ∧ Hid (Below wo.heap.size wo wq)) (fun u _ => i + 1 - (intOf u).toNat)
      case atStart => exact ⟨0, Nat.zero_le _, rfl, Lib.hid (fun j h => absurd h (Nat.not_lt_zero j)), Lib.hid (Below.refl _ _)⟩
      case round =>
        obtain ⟨q, hq, rfl, hnone, hbq⟩ := hrel
        have HCA := Lib.hid (color_any (apAt L n d) i q ps0 P cp HPK.out h8 (by omega) hpl i [] none 0 wr (by simp) (by simp [usedOf]) (ints_nil _) (HPS.out.below hbq.out))
        obtain ⟨r, hr⟩ : ∃ r, r = giveF (apAt L n d) i q i [] := ⟨_, rfl⟩
        have HR := Lib.hid hr
        rw [← hr] at HCA
        clear hr
        go_wp2_with fail
        refine HCA.out.mono ?_; rintro e w5 ⟨A, c, l, rfl, hll, hil, hb5⟩
        have HB5 := Lib.hid (below_more hbq.out hb5)
        clear hb5
        cases r with
        | some l2 =>
          have h2 : l = l2 := hll.out
          subst h2
          have hln : l.length = i := giveF_len _ _ _ _ _ _ HR.out.symm
          have HG := Lib.hid (show GotHn w L n d (.returned (.tuple #[.slice A l.length c, .int .i64 0])) w5 from
            ⟨A, c, 0, l, rfl, Lib.hid (.inr (.inr (.inr ⟨by have := HM.out; omega, by rw [← HM.out]; exact h1.out, HERR.out, rfl, by rw [← HM.out]; exact ⟨q, HR.out.symm, hnone.out⟩⟩))), hil, below_more HB1.out (below_more hb.out HB5.out)⟩)
          rw [hln] at HG ⊢
          have g1 : ((i : Int) == (i : Int)) = true := by simp
          clear hll hil hln
          go_wp2
          go_ret2
          exact HG.out
        | none =>
          have h2 : l = [] := hll.out
          subst h2
          have hqi : q < i := by
            by_cases e : q = i
            · subst e
              obtain ⟨l3, h3⟩ := giveF_all (apAt L n d) q q [] (by simp) (by simp) small_nil (by simp [usedOf])
              rw [← HR.out] at h3
              cases h3
            · omega
          have g1 : ((0 : Int) == (i : Int)) = false := beq_eq_false_iff_ne.2 (by omega)
          have g2 : (((([] : List Nat).length : Nat) : Int) == (i : Int)) = false := g1
          clear hll hil
          go_wp2
          go_roundw
          case rel => exact ⟨q + 1, by omega, by go_num, Lib.hid (fun j hj => by
            by_cases e : j = q
            · rw [e]; exact HR.out.symm
            · exact hnone.out j (by omega)), HB5⟩
          case measure => simp [intOf]; omega

end Go.Proofs.Ytcpfhaoecggflaa
