/-
  The program's Hands (layer 9).
-/
import Derived.Test.YtcpfhaoecggflaaZHnM
namespace Go.Proofs.Ytcpfhaoecggflaa
open Go.RowKit

set_option maxRecDepth 100000 in
set_option maxHeartbeats 12800000 in
theorem hands_any (S : Option Addr) (cs : Nat) (L : List Tr) (n d : Int) (w : World) (hS : TrsIn w S L) (hl : L.length ≤ maxLen) :
    Calls Try.prog 31 #[.slice S L.length cs, .agg #[.int .i64 n, .int .i64 d]] w (GotHn w L n d) := by
  obtain ⟨W, hW⟩ : ∃ W, W = w.alloc (.cells #[.int .i64 n, .int .i64 d] 53) := ⟨_, rfl⟩
  have HBW := Lib.hid (show Below w.heap.size w W from hW ▸ below_alloc _ _)
  have HWN := Lib.hid (show W.heap[w.heap.size]? = some (.cells #[.int .i64 n, .int .i64 d] 53 (0, 0)) from hW ▸ heap_alloc_new _ _)
  have HSW := Lib.hid (hS.below HBW.out)
  have HAP := Lib.hid (fun (i k : Nat) (a b : Tr) (ha : L[i]? = some a) (hb : L[k]? = some b) (wx : World) (hx : Below W.heap.size W wx) =>
    show Calls Try.prog 29 #[.slice a.A a.ts.length a.c, .slice b.A b.ts.length b.c, .agg #[.int .i64 n, .int .i64 d]] wx (fun e w' => e = .returned (.tuple #[.bool (apAt L n d i k), .int .i64 (erAt L n d i k)]) ∧ Below wx.heap.size wx w') by
    obtain ⟨_, _, _, _, _, h1, h2⟩ := (HSW.out.below hx) i a ha
    obtain ⟨_, _, _, _, _, h3, h4⟩ := (HSW.out.below hx) k b hb
    have h := apart_any a.A b.A a.c b.c a.ts b.ts n d wx h1 h3 h2 h4
    unfold GotAp at h
    rw [apAt_is ha hb, erAt_is ha hb]; exact h)
  obtain ⟨m, hm⟩ : ∃ m, m = L.length := ⟨_, rfl⟩
  have HM := Lib.hid hm
  rw [← hm] at hl ⊢
  unfold maxLen at hl
  clear hm hS
  by_cases h8 : m ≤ 8
  case neg =>
    have HG := Lib.hid (hn_err (w := w) (w' := W) (L := L) (n := n) (d := d) (E := 2) (.inl ⟨by have := HM.out; omega, rfl, rfl⟩) HBW.out)
    go_enter Try.func31, Try.ntmps31
    go_wp2
    rw [← hW]
    go_ret2
    exact HG.out
  have x0 := cell_of_blk HWN.out 0
  have x1 := cell_of_blk HWN.out 1
  have x2 := (Array.getElem?_eq_some_iff.1 HWN.out).1
  simp at x0 x1
  go_enter Try.func31, Try.ntmps31
  go_upto_if 18 with fail
  rw [← hW]
  clear hW
  go_cut [] (fun wx => Hid (m = 1 → erAt L n d 0 0 = 0) ∧ Hid (Below W.heap.size W wx))
  case first =>
    by_cases h1 : m = 1
    · subst h1
      have hl0 : 0 < L.length := by have := HM.out; omega
      have hget := List.getElem?_eq_getElem hl0
      obtain ⟨r, hr⟩ : ∃ r, r = L[0] := ⟨_, rfl⟩
      rw [← hr] at hget
      obtain ⟨b, o, rfl, hb, hc, -, -⟩ := HSW.out 0 r hget
      rw [Nat.add_zero] at hc
      have HA1 := Lib.hid (fun wx hx => HAP.out 0 0 r r hget hget wx hx)
      obtain ⟨E, hE⟩ : ∃ E, E = erAt L n d 0 0 := ⟨_, rfl⟩
      obtain ⟨V, hV⟩ : ∃ V, V = apAt L n d 0 0 := ⟨_, rfl⟩
      have HE := Lib.hid hE
      rw [← hE, ← hV] at HA1
      clear hl0 hr hget hE hV
      go_wp2
      refine wp_region_later (by kernel_rfl) (by kernel_rfl) ?_; (repeat (first | go_big_quiet_step ((((go_at_call 29; exact Calls.later _ (HA1.out _ (Later.below _)))))) | quiet_step ((((go_at_call 29; exact Calls.later _ (HA1.out _ (Later.below _)))))))); refine wpQuiet_nil ?_; rintro _ ⟨s, rfl⟩
      by_cases h0 : E = 0
      · have f2 : (E != 0) = false := by simpa using h0
        have HE0 := Lib.hid (show erAt L n d 0 0 = 0 by rw [← HE.out]; exact h0)
        clear h0
        go_wp2
        go_meet
        exact ⟨Lib.hid (fun _ => HE0.out), Lib.hid s.below⟩
      · have f2 : (E != 0) = true := by simpa using h0
        have HG := Lib.hid (hn_err (w := w) (w' := s.w) (L := L) (n := n) (d := d) (E := E) (.inr (.inl ⟨HM.out.symm, HE.out, h0, rfl⟩)) (below_more HBW.out s.below))
        clear h0
        go_wp2
        go_ret2
        exact HG.out
    · have f1 : ((m : Int) == 1) = false := beq_eq_false_iff_ne.2 (by omega)
      go_wp2
      go_meet
      exact ⟨Lib.hid (fun h => absurd h h1), Lib.hid (Below.refl _ _)⟩
  case rest =>
  obtain ⟨h1, hb1⟩ := hcut
  obtain ⟨W1, hW1⟩ : ∃ W1, W1 = wc := ⟨_, rfl⟩
  rw [← hW1] at hb1 ⊢
  clear hW1 x0 x1 x2
  have HNW := Lib.hid (blk_keep hb1.out HWN.out)
  have HSW := Lib.hid (HSW.out.below hb1.out)
  have HB1 := Lib.hid (below_more HBW.out hb1.out)
  have HAP := Lib.hid (fun (i k : Nat) (a b : Tr) (ha : L[i]? = some a) (hb : L[k]? = some b) (wx : World) (hx : Below W1.heap.size W1 wx) => HAP.out i k a b ha hb wx (below_more hb1.out hx))
  go_wp2_with fail
  obtain ⟨W2, hW2⟩ : ∃ W2, W2 = W1.alloc (.cells #[.bool false, .bool false, .bool false, .bool false, .bool false, .bool false, .bool false, .bool false, .bool false, .bool false, .bool false, .bool false, .bool false, .bool false, .bool false, .bool false, .bool false, .bool false, .bool false, .bool false, .bool false, .bool false, .bool false, .bool false, .bool false, .bool false, .bool false, .bool false, .bool false, .bool false, .bool false, .bool false, .bool false, .bool false, .bool false, .bool false, .bool false, .bool false, .bool false, .bool false, .bool false, .bool false, .bool false, .bool false, .bool false, .bool false, .bool false, .bool false, .bool false, .bool false, .bool false, .bool false, .bool false, .bool false, .bool false, .bool false, .bool false, .bool false, .bool false, .bool false, .bool false, .bool false, .bool false, .bool false] 122) := ⟨_, rfl⟩
  rw [← hW2]
  have HB2 := Lib.hid (show Below W1.heap.size W1 W2 from hW2 ▸ below_alloc _ _)
  have HT2 := Lib.hid (show TbAt W2 W1.heap.size (apAt L n d) m 0 1 from ⟨⟨_, hW2 ▸ heap_alloc_new _ _, rfl, fun i' k' a b c => by unfold bef at c; omega⟩⟩)
  clear hW2
  obtain ⟨g, hg⟩ : ∃ g, g = W1.heap.size := ⟨_, rfl⟩
  have HGE := Lib.hid (Nat.le_of_eq hg.symm)
  rw [← hg] at HT2 ⊢
  clear hg
  go_loopw [35] (fun u wr => ∃ i : Nat, i ≤ m ∧ u = .int .i64 i ∧ Hid (TbAt wr g (apAt L n d) m i (i + 1)) ∧ Hid (∀ i' k', i' < k' → k' < m → i' < i → erAt L n d i' k' = 0) ∧ Hid (Below W1.heap.size W1 wr)) (fun u _ => m - (intOf u).toNat)
  case atStart => exact ⟨0, Nat.zero_le _, rfl, HT2, Lib.hid (fun i' k' a b c => absurd c (Nat.not_lt_zero i')), HB2⟩
  case round =>
    obtain ⟨i, hi, rfl, ht, her, hb⟩ := hrel
    by_cases hlt : i < m
    · go_wp2
      go_loopw [10] (fun u wq => ∃ j : Nat, i + 1 ≤ j ∧ j ≤ m ∧ u = .int .i64 j ∧ Hid (TbAt wq g (apAt L n d) m i j) ∧ Hid (∀ i' k', i' < k' → k' < m → bef i j i' k' → erAt L n d i' k' = 0) ∧ Hid (Below W1.heap.size W1 wq)) (fun u _ => m - (intOf u).toNat)
      case atStart => exact ⟨i + 1, Nat.le_refl _, hlt, by go_num, ht, Lib.hid (fun i' k' a b c => her.out i' k' a b (by unfold bef at c; omega)), hb⟩
      case round =>
        obtain ⟨j, hj1, hj, rfl, ht2, her2, hb2⟩ := hrel
        clear ht hb
        by_cases hlj : j < m
        · have hki : i < L.length := by have := HM.out; omega
          have hkj : j < L.length := by have := HM.out; omega
          have hgi := List.getElem?_eq_getElem hki
          have hgj := List.getElem?_eq_getElem hkj
          obtain ⟨a, ha⟩ : ∃ r, r = L[i] := ⟨_, rfl⟩
          obtain ⟨b, hb'⟩ : ∃ r, r = L[j] := ⟨_, rfl⟩
          rw [← ha] at hgi
          rw [← hb'] at hgj
          obtain ⟨x, o, rfl, hxl, y0, -, -⟩ := (HSW.out.below hb2.out) i a hgi
          obtain ⟨x', o', hxe, -, y1, -, -⟩ := (HSW.out.below hb2.out) j b hgj
          injection hxe with hxe; injection hxe with e1 e2
          subst e1 e2
          have HA1 := Lib.hid (fun wx hx => HAP.out i j a b hgi hgj wx (below_more hb2.out hx))
          obtain ⟨E, hE⟩ : ∃ E, E = erAt L n d i j := ⟨_, rfl⟩
          obtain ⟨V, hV⟩ : ∃ V, V = apAt L n d i j := ⟨_, rfl⟩
          have HE := Lib.hid hE
          have HV := Lib.hid hV
          rw [← hE, ← hV] at HA1
          have HNB := Lib.hid (blk_keep hb2.out HNW.out)
          have z0 := cell_of_blk HNB.out 0
          have z1 := cell_of_blk HNB.out 1
          have z2 := (Array.getElem?_eq_some_iff.1 HNB.out).1
          simp at z0 z1
          have hij : (i : Int) < (m : Int) := by omega
          have hjj : (j : Int) < (m : Int) := by omega
          clear hki hkj hgi hgj ha hb' hE hV
          go_wp2
          refine wp_region_later (by kernel_rfl) (by kernel_rfl) ?_; (repeat (first | go_big_quiet_step ((((go_at_call 29; exact Calls.later _ (HA1.out _ (Later.below _)))))) | quiet_step ((((go_at_call 29; exact Calls.later _ (HA1.out _ (Later.below _)))))))); refine wpQuiet_nil ?_; rintro _ ⟨s, rfl⟩
          by_cases h0 : E = 0
          · have f2 : (E != 0) = false := by simpa using h0
            have HE0 := Lib.hid (show erAt L n d i j = 0 by rw [← HE.out]; exact h0)
            have HT3 := Lib.hid (ht2.out.below s.below)
            have HB3 := Lib.hid (below_more hb2.out s.below)
            obtain ⟨ws, hws⟩ : ∃ ws, ws = s.w := ⟨_, rfl⟩
            rw [← hws] at HT3 HB3 ⊢
            obtain ⟨⟨u1, hu1⟩, hf1⟩ := HT3.out.cell (x := i * 8 + j) (by omega)
            obtain ⟨⟨u2, hu2⟩, hf2⟩ := HT3.out.cell (x := j * 8 + i) (by omega)
            have hgl := HT3.out.lt
            have i8 : (i : Int) < 8 := by omega
            have j8 : (j : Int) < 8 := by omega
            clear h0 hws y0 y1 z0 z1 z2
            go_wp2
            go_region
            have HER := Lib.hid (show ∀ i' k', i' < k' → k' < m → bef i (j + 1) i' k' → erAt L n d i' k' = 0 from fun i' k' a b c => by
              by_cases e : i' = i ∧ k' = j
              · rw [e.1, e.2]; exact HE0.out
              · exact her2.out i' k' a b (by unfold bef at *; omega))
            go_wp2
            go_roundw
            case rel =>
              refine ⟨j + 1, by omega, by omega, by go_num, Lib.hid ?_, HER, Lib.hid ?_⟩
              · first
                | exact ((HT3.out.set (by omega) hlj h8 HV.out.symm).below (below_drew _))
                | exact ((HT3.out.below (below_drew _)).set (by omega) hlj h8 HV.out.symm)
              · first
                | exact ((HB3.out.setCell HGE.out _).setCell HGE.out _).drew
                | exact (HB3.out.drew.setCell HGE.out _).setCell HGE.out _
            case measure => simp [intOf]; omega
          · have f2 : (E != 0) = true := by simpa using h0
            have HG := Lib.hid (hn_err (w := w) (w' := s.w) (L := L) (n := n) (d := d) (E := E) (.inr (.inr (.inl ⟨by have := HM.out; omega, by rw [← HM.out]; exact h1.out, ⟨i, j, by omega, by have := HM.out; omega, HE.out, h0, fun i' k' a b c => her2.out i' k' a (by have := HM.out; omega) c⟩, rfl⟩))) (below_more HB1.out (below_more hb2.out s.below)))
            clear h0
            go_wp2
            go_ret2
            exact HG.out
        · obtain rfl : j = m := by omega
          go_wp2
          go_roundw
          case rel => exact ⟨i + 1, by omega, by go_num, Lib.hid ht2.out.row, Lib.hid (fun i' k' a b c => her2.out i' k' a b (by unfold bef; omega)), hb2⟩
          case measure => simp [intOf]; omega
    · obtain rfl : i = m := by omega
      obtain ⟨c0, hb0, hl0, hc0⟩ := ht.out.blk
      have HRA := Lib.hid (show wr.rangeAt g 0 c0 from fun j v hv => by
        rw [Nat.zero_add, cell_of_blk hb0, List.getElem?_toArray]; exact hv)
      have HCA := Lib.hid (fewest_any (apAt L n d) i c0 hl0 (fun i' k' a b => hc0 i' k' a b (by unfold bef; omega)) h8 wr)
      have HLC := Lib.hid hl0
      clear hb0 hl0 hc0 ht
      go_wp2_with (refine wpList_load_mid rfl 122 (.tmp 8) rfl g 0 rfl c0 _ HRA.out Try.underlying122 rfl (by rw [HLC.out]; kernel_rfl) ?_)
      refine HCA.out.mono ?_; rintro e w5 ⟨A, c, l, rfl, his, hown, hb5⟩
      have HG := Lib.hid (show GotHn w L n d (.returned (.tuple #[.slice A l.length c, .int .i64 0])) w5 from
        ⟨A, c, 0, l, rfl, Lib.hid (.inr (.inr (.inr ⟨by have := HM.out; omega, by rw [← HM.out]; exact h1.out, fun i' k' a b => her.out i' k' a (by have := HM.out; omega) (by have := HM.out; omega), rfl, by rw [← HM.out]; exact his.out⟩))), Lib.hid (nats_ints hown.out), below_more HB1.out (below_more hb.out hb5)⟩)
      clear his hown hb5
      go_wp2
      go_ret2
      exact HG.out

end Go.Proofs.Ytcpfhaoecggflaa
