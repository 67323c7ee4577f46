/-
  A region that draws its order, whose first operations are quiet in a class of worlds, walked once: first those, then the rest in their order.
-/
import Derived.StillTail
import Derived.Deep.QuietTactic
import Derived.BigQuiet
import Derived.Test.YtcpfhaoecggflaaZKit
namespace Go.Proofs.Ytcpfhaoecggflaa
open Go.RowKit Go.Region

section
variable {P : Program} {ops : Array Oper} {md : Region.Mode} {C : World → Prop}

/-- f more operations of the head come up, in any order, each quiet in the class; then E. -/
def HeadQ (P : Program) (md : Region.Mode) (ops : Array Oper) (C : World → Prop) (n : Nat) (E : Array Bool → Act → Prop) : Nat → Array Bool → Act → Prop
  | 0, d, a => E d a
  | f + 1, d, a => Region.ready md ops d ≠ [] ∧ ∀ i, i ∈ Region.ready md ops d → i < n ∧ qOp P ops C i (HeadQ P md ops C n E f (d.setIfInBounds i true)) a

theorem headQ_run {n g : Nat} {E : Array Bool → Act → Prop} {Q' : Exit → Act → World → Prop} (hE : ∀ d a w, C w → E d a → wpAny P md ops Q' g d a w) (f : Nat) :
    ∀ (d : Array Bool) (a : Act) (w : World), C w → HeadQ P md ops C n E f d a → wpAny P md ops Q' (f + g) d a w := by
  induction f with
  | zero => intro d a w hw h; simpa using hE d a w hw h
  | succ f ih =>
    intro d a w hw h
    rw [Nat.add_right_comm]
    exact ⟨fun e => absurd e h.1, fun i hi => wpOp_of_qOp hw (fun a' w' hw' h' => ih _ a' w' hw' h') (h.2 i hi).2⟩

/-- the operation that comes first in the text may be taken first -/
theorem headQ_swap {n i : Nat} {oi : Oper} {v : Value} {E : Array Bool → Act → Prop} (hi : ops[i]? = some oi) (hsel : ∀ (j : Nat) (o : Oper) cs b, ops[j]? = some o → o.op ≠ .select cs b)
    (hs : Region.sinkB md ops n = true) (hc : Region.chainB md ops n = true) (hn : n < ops.size) (hin : i < n) (hE : ∀ d a, E d a → ∀ j ∈ Region.ready md ops d, n ≤ j) (f : Nat) :
    ∀ (d : Array Bool) (a : Act), HeadInv md ops n d → (∀ j oj, ops[j]? = some oj → j ≠ i → d.getD j true = false → (∀ e ∈ oj.after, Region.binds md e = true → e.on ≠ i) → oi.apart ops oj = true) →
      i ∈ Region.ready md ops d → YieldsIn P ops C oi v a → HeadQ P md ops C n E f (d.setIfInBounds i true) (a.put oi.dst v) → HeadQ P md ops C n E (f + 1) d a := by
  induction f with
  | zero =>
    intro d a inv _ hr hy H
    have hlow : ∀ j ∈ Region.ready md ops d, j < n := fun j hj =>
      (Nat.lt_or_ge j n).resolve_right fun hge => tail_waits hs hc hn inv _ i rfl hin (mem_ready.1 hr).1 j hge hj
    refine ⟨List.ne_nil_of_mem hr, fun j hj => ⟨hlow j hj, ?_⟩⟩
    rcases Decidable.em (j = i) with rfl | hji
    · exact hy.qOp hi H
    · have h1 := hE _ _ H j (ready_mono hj hji)
      have h2 := hlow j hj
      omega
  | succ f ih =>
    intro d a inv hfree hr hy H
    have hun := (mem_ready.1 hr).1
    have hlow : ∀ j ∈ Region.ready md ops d, j < n := fun j hj =>
      (Nat.lt_or_ge j n).resolve_right fun hge => tail_waits hs hc hn inv _ i rfl hin hun j hge hj
    refine ⟨List.ne_nil_of_mem hr, fun j hj => ⟨hlow j hj, ?_⟩⟩
    rcases Decidable.em (j = i) with rfl | hji
    · exact hy.qOp hi H
    obtain ⟨hjun, oj, hoj, hall⟩ := mem_ready.1 hj
    have hap : oi.apart ops oj = true := hfree j oj hoj hji hjun fun e he hb heq => by
      have := hall e he hb
      rw [heq, getD_both hun] at this
      exact Bool.noConfusion this
    refine qOp_mono (fun a' ha => ih _ a' (inv.set hj (hlow j hj)) (fun k ok hk hki hkun hno => ?_) (ready_mono hr (fun e => hji e.symm)) ha.1 (by rw [Array.setIfInBounds_comm _ _ hji]; exact ha.2))
      (qOp_put hoj hap (fun cs b => hsel i oi cs b hi) (fun cs b => hsel j oj cs b hoj) hy (H.2 j (ready_mono hj hji)).2)
    refine hfree k ok hk hki ?_ hno
    rcases Decidable.em (j = k) with rfl | hjk
    · exact hjun
    · rwa [getD_set_ne true hjk] at hkun

theorem headQ_text {n g : Nat} {Lq : Act → Prop} (hsel : Region.noSelect ops = true) (hs : Region.sinkB md ops n = true) (hc : Region.chainB md ops n = true) (hn : n < ops.size) :
    ∀ (l : List Oper) (k : Nat) (d : Array Bool) (a : Act), (∀ j, j < l.length → l[j]? = ops[k + j]?) → k + l.length = n → HeadInv md ops n d →
    Region.lexHead md ops g l.length k d = true → wpQuiet P ops C Lq l a →
    HeadQ P md ops C n (fun d' a' => Region.seqB md ops g n d' = true ∧ Lq a') l.length d a
  | [], k, d, a, _, hk, _, hB, h => by
    obtain rfl : k = n := hk
    exact ⟨hB, h⟩
  | o :: l, k, d, a, hl, hk, inv, hB, h => by
    rw [List.length_cons] at hk
    have h0 : ops[k]? = some o := (hl 0 (Nat.succ_pos _)).symm
    have hB2 := hB
    simp only [List.length_cons, Region.lexHead, Bool.and_eq_true] at hB2
    have hr : k ∈ Region.ready md ops d := List.contains_iff_mem.1 hB2.1.1
    have hq : qOp P ops C k (wpQuiet P ops C Lq l) a := by simp only [qOp, h0]; exact h
    obtain ⟨v, hy, hK⟩ := yieldsIn_of_qOp h0 hq
    have hkn : k < n := by omega
    refine headQ_swap h0 (Region.noSelect_spec hsel) hs hc hn hkn (fun d' a' hL => seqB_ready hL.1) l.length d a inv (Region.free_spec h0 hB2.1.2) hr hy ?_
    refine headQ_text hsel hs hc hn l (k + 1) _ _ (fun j hj => ?_) (by omega) (inv.set hr hkn) hB2.2 hK
    have := hl (j + 1) (by rw [List.length_cons]; omega)
    rw [Nat.add_right_comm, Nat.add_assoc]
    simpa using this

/-- A region that draws its order: n operations that are quiet in a class of worlds, in any order; behind them the others, one after the other. -/
theorem wp_region_quiet_tail {id : Nat} {Q : Exit → Act → World → Prop} {a : Act} {w : World} {l : List Oper} (n : Nat) (hm : P.follows .mixedOrders = true) (hB : Region.lexTailB .any l.toArray n = true)
    (hC : C { w with drawn := w.drawn + 1 }) (h : wpQuiet P l.toArray C (fun a' => ∀ w', C w' → wpList P l.toArray Q (l.drop n) a' w') (l.take n) a) : (Code.region id l.toArray true).wp P Q a w := by
  simp only [Region.lexTailB, Bool.and_eq_true, decide_eq_true_eq] at hB
  obtain ⟨⟨⟨⟨hsel, hn⟩, hs⟩, hc⟩, hlex⟩ := hB
  have hn' : n < l.length := by simpa using hn
  have htl : (l.take n).length = n := by rw [List.length_take]; omega
  have hsz : l.toArray.size = l.length := List.size_toArray ..
  have hdl : (l.drop n).length = l.toArray.size - n := by rw [List.length_drop, hsz]
  have inv0 : HeadInv .any l.toArray n (Array.replicate l.toArray.size false) :=
    ⟨by rw [Array.size_replicate], fun j oj _ hl => (by rw [getD_replicate_false] at hl; cases hl), fun t _ ht => getD_in (by rw [Array.size_replicate]; exact ht) (getD_replicate_false _ _)⟩
  have H := headQ_text (md := .any) (g := l.toArray.size - n) hsel hs hc hn (l.take n) 0 _ a (fun j hj => by
    rw [htl] at hj
    rw [List.getElem?_take_of_lt hj, Nat.zero_add]; simp) (by rw [htl, Nat.zero_add]) inv0 (by rw [htl]; exact hlex) h
  have R := headQ_run (Q' := Q) (g := l.toArray.size - n) (fun d a' w' hw hL => by
    have := wpAny_of_seq (md := .any) (Q' := Q) (l.drop n) n d a' w' (fun j => by rw [List.getElem?_drop]; simp) (by rw [hdl]; exact hL.1) (hL.2 w' hw)
    rwa [hdl] at this) _ _ _ _ hC H
  refine wp_region_any hm ?_
  rw [htl, Nat.add_sub_cancel' (Nat.le_of_lt hn)] at R
  exact R

/-- the same over all later worlds -/
theorem wp_region_later_tail {id : Nat} {Q : Exit → Act → World → Prop} {a : Act} {W : World} {l : List Oper} (n : Nat) (hm : P.follows .mixedOrders = true) (hB : Region.lexTailB .any l.toArray n = true)
    (h : wpQuiet P l.toArray (fun w' => ∃ s : Later W, w' = s.w) (fun a' => ∀ w', (∃ s : Later W, w' = s.w) → wpList P l.toArray Q (l.drop n) a' w') (l.take n) a) : (Code.region id l.toArray true).wp P Q a W :=
  wp_region_quiet_tail (C := fun w' => ∃ s : Later W, w' = s.w) n hm hB ⟨⟨_, (Below.refl _ _).drew⟩, rfl⟩ h
end

end Go.Proofs.Ytcpfhaoecggflaa
