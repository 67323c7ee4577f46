/-
  A region that draws its order, with a head whose operations are quiet in a class of worlds, a chain behind it, and quiet operations behind that.
-/
import Derived.Test.YtmiokllpdmmfhaaGreatTail
namespace Go.Proofs.YtmiokllpdmmfhaaGreat
open Go.RowKit Go.Region
section
variable {P : Program} {ops : Array Oper} {md : Region.Mode} {C : World → Prop}
def seqLexB (md : Region.Mode) (ops : Array Oper) (g : Nat) : Nat → Nat → Array Bool → Bool
  | 0, k, listed => Region.lexFrom md ops g k listed
  | m + 1, k, listed => decide (Region.ready md ops listed = [k]) && seqLexB md ops g m (k + 1) (listed.setIfInBounds k true)
theorem seqLexB_ready {g m k : Nat} {listed : Array Bool} (h : seqLexB md ops g (m + 1) k listed = true) : ∀ j ∈ Region.ready md ops listed, k ≤ j := by
  intro j hj
  simp only [seqLexB, Bool.and_eq_true, decide_eq_true_eq] at h
  rw [h.1] at hj
  have : j = k := by simpa using hj
  omega
def lexHeadM (md : Region.Mode) (ops : Array Oper) (m g : Nat) : Nat → Nat → Array Bool → Bool
  | 0, k, listed => seqLexB md ops g m k listed
  | f + 1, k, listed => (Region.ready md ops listed).contains k && Region.free md ops listed k && lexHeadM md ops m g f (k + 1) (listed.setIfInBounds k true)
def treeB (md : Region.Mode) (ops : Array Oper) (n : Nat) : Bool :=
  (List.range ops.size).all fun t => decide (t ≤ n) || (List.range t).any fun j => decide (n ≤ j) && Region.waitsFor md ops t j
def chainOne (md : Region.Mode) (ops : Array Oper) (n : Nat) : Bool := Region.sinkB md ops n && treeB md ops n
theorem tree_waits {n : Nat} (hs : chainOne md ops n = true) (hn : n < ops.size) : ∀ listed, HeadInv md ops n listed → ∀ i, i < n → listed.getD i true = false → ∀ t, n ≤ t → t ∉ Region.ready md ops listed := by
  unfold chainOne at hs
  rw [Bool.and_eq_true] at hs
  obtain ⟨hs, ht⟩ := hs
  intro listed inv i hi hun t htn hr
  obtain ⟨_, ot, hot, hall⟩ := mem_ready.1 hr
  have htlt : t < ops.size := (Array.getElem?_eq_some_iff.1 hot).1
  rcases Nat.eq_or_lt_of_le htn with e | hlt
  · subst e
    -- the n-th itself: some operation of the head that is left is one for which it waits
    have key : ∀ (d i : Nat), n - i = d → i < n → listed.getD i true = false → False := by
      intro d
      induction d using Nat.strongRecOn with
      | _ d ih =>
        intro i hd hi hun
        have h1 := List.all_eq_true.1 hs i (List.mem_range.2 hi)
        obtain ⟨j, hj, hj2⟩ := List.any_eq_true.1 h1
        simp only [Bool.and_eq_true, decide_eq_true_eq] at hj2
        obtain ⟨oj, hoj, e, he, hb, hon⟩ := Region.waitsFor_spec hj2.2
        have hjle : j ≤ n := by have := List.mem_range.1 hj; omega
        by_cases hjt : j = n
        · subst hjt
          have : oj = ot := Option.some.inj (hoj.symm.trans hot)
          subst this
          have h2 := hall e he hb
          rw [hon, getD_both hun] at h2
          cases h2
        · cases hl : listed.getD j false with
          | true =>
            have h2 := inv.closed j oj hoj hl e he hb
            rw [hon, getD_both hun] at h2
            cases h2
          | false =>
            have hjs : j < listed.size := by rw [inv.size]; exact (Array.getElem?_eq_some_iff.1 hoj).1
            exact ih (n - j) (by omega) j rfl (by omega) (getD_in hjs hl)
    exact key _ i rfl hi hun
  · have h1 := List.all_eq_true.1 ht t (List.mem_range.2 htlt)
    rw [Bool.or_eq_true] at h1
    rcases h1 with h1 | h1
    · have := of_decide_eq_true h1; omega
    · obtain ⟨j, hj, hj2⟩ := List.any_eq_true.1 h1
      simp only [Bool.and_eq_true, decide_eq_true_eq] at hj2
      obtain ⟨oj, hoj, e, he, hb, hon⟩ := Region.waitsFor_spec hj2.2
      have : oj = ot := Option.some.inj (hoj.symm.trans hot)
      subst this
      have h2 := hall e he hb
      have hjt : j < t := List.mem_range.1 hj
      rw [hon, getD_both (inv.tail j hj2.1 (by omega))] at h2
      cases h2
theorem headM_swap {n i : Nat} {oi : Oper} {v : Value} {E : Array Bool → Act → Prop} (hi : ops[i]? = some oi) (hsel : ∀ (j : Nat) (o : Oper) cs b, ops[j]? = some o → o.op ≠ .select cs b)
    (HW : ∀ listed, HeadInv md ops n listed → ∀ i, i < n → listed.getD i true = false → ∀ t, n ≤ t → t ∉ Region.ready md ops listed) (hin : i < n) (hE : ∀ d a, E d a → ∀ j ∈ Region.ready md ops d, n ≤ j) (f : Nat) :
    ∀ (d : Array Bool) (a : Act), HeadInv md ops n d → (∀ j oj, ops[j]? = some oj → j ≠ i → d.getD j true = false → (∀ e ∈ oj.after, Region.binds md e = true → e.on ≠ i) → oi.apart ops oj = true) →
      i ∈ Region.ready md ops d → YieldsIn P ops C oi v a → HeadQ P md ops C n E f (d.setIfInBounds i true) (a.put oi.dst v) → HeadQ P md ops C n E (f + 1) d a := by
  induction f with
  | zero =>
    intro d a inv _ hr hy H
    have hlow : ∀ j ∈ Region.ready md ops d, j < n := fun j hj =>
      (Nat.lt_or_ge j n).resolve_right fun hge => HW d inv i hin (mem_ready.1 hr).1 j hge hj
    refine ⟨List.ne_nil_of_mem hr, fun j hj => ⟨hlow j hj, ?_⟩⟩
    rcases Decidable.em (j = i) with rfl | hji
    · exact hy.qOp hi H
    · have h1 := hE _ _ H j (ready_mono hj hji)
      have h2 := hlow j hj
      omega
  | succ f ih =>
    intro d a inv hfree hr hy H
    have hun := (mem_ready.1 hr).1
    have hlow : ∀ j ∈ Region.ready md ops d, j < n := fun j hj =>
      (Nat.lt_or_ge j n).resolve_right fun hge => HW d inv i hin hun j hge hj
    refine ⟨List.ne_nil_of_mem hr, fun j hj => ⟨hlow j hj, ?_⟩⟩
    rcases Decidable.em (j = i) with rfl | hji
    · exact hy.qOp hi H
    obtain ⟨hjun, oj, hoj, hall⟩ := mem_ready.1 hj
    have hap : oi.apart ops oj = true := hfree j oj hoj hji hjun fun e he hb heq => by
      have := hall e he hb
      rw [heq, getD_both hun] at this
      exact Bool.noConfusion this
    refine qOp_mono (fun a' ha => ih _ a' (inv.set hj (hlow j hj)) (fun k ok hk hki hkun hno => ?_) (ready_mono hr (fun e => hji e.symm)) ha.1 (by rw [Array.setIfInBounds_comm _ _ hji]; exact ha.2))
      (qOp_put hoj hap (fun cs b => hsel i oi cs b hi) (fun cs b => hsel j oj cs b hoj) hy (H.2 j (ready_mono hj hji)).2)
    refine hfree k ok hk hki ?_ hno
    rcases Decidable.em (j = k) with rfl | hjk
    · exact hjun
    · rwa [getD_set_ne true hjk] at hkun
theorem headM_text {n m g : Nat} {Lq : Act → Prop} (hsel : Region.noSelect ops = true) (HW : ∀ listed, HeadInv md ops n listed → ∀ i, i < n → listed.getD i true = false → ∀ t, n ≤ t → t ∉ Region.ready md ops listed) :
    ∀ (l : List Oper) (k : Nat) (d : Array Bool) (a : Act), (∀ j, j < l.length → l[j]? = ops[k + j]?) → k + l.length = n → HeadInv md ops n d →
    lexHeadM md ops (m + 1) g l.length k d = true → wpQuiet P ops C Lq l a →
    HeadQ P md ops C n (fun d' a' => seqLexB md ops g (m + 1) n d' = true ∧ Lq a') l.length d a
  | [], k, d, a, _, hk, _, hB, h => by
    obtain rfl : k = n := hk
    exact ⟨hB, h⟩
  | o :: l, k, d, a, hl, hk, inv, hB, h => by
    rw [List.length_cons] at hk
    have h0 : ops[k]? = some o := (hl 0 (Nat.succ_pos _)).symm
    have hB2 := hB
    simp only [List.length_cons, lexHeadM, Bool.and_eq_true] at hB2
    have hr : k ∈ Region.ready md ops d := List.contains_iff_mem.1 hB2.1.1
    have hq : qOp P ops C k (wpQuiet P ops C Lq l) a := by simp only [qOp, h0]; exact h
    obtain ⟨v, hy, hK⟩ := yieldsIn_of_qOp h0 hq
    have hkn : k < n := by omega
    refine headM_swap h0 (Region.noSelect_spec hsel) HW hkn (fun d' a' hL => seqLexB_ready hL.1) l.length d a inv (Region.free_spec h0 hB2.1.2) hr hy ?_
    refine headM_text hsel HW l (k + 1) _ _ (fun j hj => ?_) (by omega) (inv.set hr hkn) hB2.2 hK
    have := hl (j + 1) (by rw [List.length_cons]; omega)
    rw [Nat.add_right_comm, Nat.add_assoc]
    simpa using this
def MidQ (K : Act → World → Prop) (Q : Exit → Act → World → Prop) : Exit → Act → World → Prop
  | .normal, a, w => K a w
  | e, a, w => Q e a w
theorem letsOut_mid {K : Act → World → Prop} {Q : Exit → Act → World → Prop} (h : LetsOut (MidQ K Q)) : LetsOut Q := by
  obtain ⟨a, w, h⟩ := h; exact ⟨a, w, h⟩
theorem wp_mid {o : Oper} {a : Act} {w : World} {K K' : Act → World → Prop} {Q : Exit → Act → World → Prop} (hh : o.wp P a w K (MidQ K' Q)) : o.wp P a w K Q := by
  unfold Oper.wp at *
  generalize (execOp a.eval o).run P w = r at *
  cases r with
  | ok n w' =>
    cases n <;> simp only [Oper.upon] at hh ⊢ <;>
      first
        | exact hh
        | exact Calls.mono hh (fun e w'' he => by cases e <;> first | exact he | exact letsOut_mid he)
  | halt x w' => cases x <;> simp only [Oper.upon] at hh ⊢ <;> exact hh
theorem wpAny_mid {Q : Exit → Act → World → Prop} {K : Act → World → Prop} {g : Nat} (hK : ∀ k d a w, Region.lexFrom md ops g k d = true → k + g = ops.size → K a w → wpAny P md ops Q g d a w) :
    ∀ (l : List Oper) (k : Nat) (d : Array Bool) (a : Act) (w : World), (∀ j, j < l.length → l[j]? = ops[k + j]?) → k + l.length + g = ops.size → seqLexB md ops g l.length k d = true → wpList P ops (MidQ K Q) l a w → wpAny P md ops Q (l.length + g) d a w
  | [], k, d, a, w, _, hk, hB, h => by
    rw [List.length_nil, Nat.zero_add]
    exact hK k d a w hB (by simpa using hk) h
  | o :: l, k, d, a, w, hl, hk, hB, h => by
    have h0 : ops[k]? = some o := (hl 0 (Nat.succ_pos _)).symm
    simp only [List.length_cons, seqLexB, Bool.and_eq_true, decide_eq_true_eq] at hB
    rw [List.length_cons, Nat.add_right_comm]
    refine ⟨fun h1 => (by rw [hB.1] at h1; cases h1), fun i hi => ?_⟩
    rw [hB.1] at hi
    have hik : i = k := by simpa using hi
    subst hik
    have ih := fun a' w' h' => wpAny_mid hK l (i + 1) (d.setIfInBounds i true) a' w' (fun j hj => by
      have := hl (j + 1) (by rw [List.length_cons]; omega)
      rw [Nat.add_right_comm, Nat.add_assoc]
      simpa using this) (by rw [List.length_cons] at hk; omega) hB.2 h'
    unfold wpOp
    simp only [h0]
    unfold wpList at h
    split at h
    · rename_i hw
      rw [if_pos hw]
      rcases h with h | h
      · exact .inl (Oper.wp_mono ih (wp_mid h))
      · exact .inr ⟨h.1, letsOut_mid h.2⟩
    · rename_i hw
      rw [if_neg hw]
      exact ih _ _ h
def midTailB (md : Region.Mode) (ops : Array Oper) (n m : Nat) : Bool :=
  Region.noSelect ops && decide (n + (m + 1) ≤ ops.size) && chainOne md ops n && lexHeadM md ops (m + 1) (ops.size - (n + (m + 1))) n 0 (Array.replicate ops.size false)
theorem wp_region_later_mid {id : Nat} {Q : Exit → Act → World → Prop} {a : Act} {W : World} {l : List Oper} (n m : Nat) (hm : P.follows .mixedOrders = true) (hB : midTailB .any l.toArray n m = true)
    (h : wpQuiet P l.toArray (fun w' => ∃ s : Later W, w' = s.w) (fun a' => ∀ w', (∃ s : Later W, w' = s.w) → wpList P l.toArray (MidQ (fun a2 w2 => wpQuiet P l.toArray (fun x => ∃ s : Later w2, x = s.w) (fun a3 => ∀ x, (∃ s : Later w2, x = s.w) → Q .normal a3 x) (l.drop (n + (m + 1))) a2) Q) ((l.drop n).take (m + 1)) a' w') (l.take n) a) : (Code.region id l.toArray true).wp P Q a W := by
  simp only [midTailB, Bool.and_eq_true, decide_eq_true_eq] at hB
  obtain ⟨⟨⟨hsel, hn⟩, hch⟩, hlex⟩ := hB
  have hsz : l.toArray.size = l.length := List.size_toArray ..
  have hn' : n < l.length := by omega
  have htl : (l.take n).length = n := by rw [List.length_take]; omega
  have hml : ((l.drop n).take (m + 1)).length = m + 1 := by rw [List.length_take, List.length_drop]; omega
  have hdl : (l.drop (n + (m + 1))).length = l.toArray.size - (n + (m + 1)) := by rw [List.length_drop, hsz]
  have HW := tree_waits (md := .any) hch (by omega)
  have inv0 : HeadInv .any l.toArray n (Array.replicate l.toArray.size false) :=
    ⟨by rw [Array.size_replicate], fun j oj _ hl => (by rw [getD_replicate_false] at hl; cases hl), fun t _ ht => getD_in (by rw [Array.size_replicate]; exact ht) (getD_replicate_false _ _)⟩
  have H := headM_text (md := .any) (m := m) (g := l.toArray.size - (n + (m + 1))) hsel HW (l.take n) 0 _ a (fun j hj => by
    rw [htl] at hj
    rw [List.getElem?_take_of_lt hj, Nat.zero_add]; simp) (by rw [htl, Nat.zero_add]) inv0 (by rw [htl]; exact hlex) h
  have R := headQ_run (Q' := Q) (g := (m + 1) + (l.toArray.size - (n + (m + 1)))) (fun d a' w' hw hL => by
    have := wpAny_mid (md := .any) (Q := Q) (g := l.toArray.size - (n + (m + 1))) (K := fun a2 w2 => wpQuiet P l.toArray (fun x => ∃ s : Later w2, x = s.w) (fun a3 => ∀ x, (∃ s : Later w2, x = s.w) → Q .normal a3 x) (l.drop (n + (m + 1))) a2) (fun k d' a2 w2 hlx hk hq => by
      have hk' : k = n + (m + 1) := by omega
      subst hk'
      have := wpAnyQ_lex (C := fun x => ∃ s : Later w2, x = s.w) (md := .any) hsel (l.drop (n + (m + 1))) (n + (m + 1)) d' a2 (fun j => by rw [List.getElem?_drop]; simp) (by rw [hdl]; exact hlx) hq
      rw [hdl] at this
      exact wpAny_of_quiet (Q := fun a3 => ∀ x, (∃ s : Later w2, x = s.w) → Q .normal a3 x) (fun _ w' hw' h' => h' w' hw') _ _ _ _ ⟨⟨w2, Below.refl _ _⟩, rfl⟩ this)
      ((l.drop n).take (m + 1)) n d a' w' (fun j hj => by
        rw [hml] at hj
        rw [List.getElem?_take_of_lt hj, List.getElem?_drop]; simp) (by rw [hml]; omega) (by rw [hml]; exact hL.1) (hL.2 w' hw)
    rwa [hml] at this) _ _ _ _ ⟨⟨_, (Below.refl _ _).drew⟩, rfl⟩ H
  refine wp_region_any hm ?_
  rw [htl, show n + ((m + 1) + (l.toArray.size - (n + (m + 1)))) = l.toArray.size by omega] at R
  exact R
theorem midQ_normal {K : Act → World → Prop} {Q : Exit → Act → World → Prop} {a : Act} {w : World} (h : K a w) : MidQ K Q .normal a w := h
end
end Go.Proofs.YtmiokllpdmmfhaaGreat
