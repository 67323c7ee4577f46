/-
  Tidy, plain: values merged to longest stretches of periods; two ways to do so, which give the same list. No program is imported here.
-/
import Derived.Test.YtleihhkacmgofaaGreatDoorPure
import Derived.Laws.Strings
namespace Go.Proofs.YtleihhkacmgofaaGreatDoor

/-- bytes in lexical order -/
def bl (a b : List UInt8) : Bool := Op.bytesLess a b
theorem bl_irr : ∀ a, bl a a = false
  | [] => rfl
  | x :: a => by
    have := bl_irr a
    unfold bl at this ⊢
    simp [Op.bytesLess, this]
theorem bl_trans : ∀ a b c, bl a b = true → bl b c = true → bl a c = true
  | _, [], _, h, _ => by unfold bl at h; cases ‹List UInt8› <;> simp [Op.bytesLess] at h
  | _, _ :: _, [], _, h => by unfold bl at h; simp [Op.bytesLess] at h
  | [], _ :: _, _ :: _, _, _ => by unfold bl; rfl
  | x :: a, y :: b, z :: c, h1, h2 => by
    have ih := bl_trans a b c
    unfold bl at *
    simp only [Op.bytesLess, Bool.or_eq_true, decide_eq_true_eq, Bool.and_eq_true, beq_iff_eq] at *
    rcases h1 with h1 | ⟨rfl, h1⟩
    · rcases h2 with h2 | ⟨rfl, h2⟩
      · exact .inl (UInt8.lt_trans h1 h2)
      · exact .inl h1
    · rcases h2 with h2 | ⟨rfl, h2⟩
      · exact .inl h2
      · exact .inr ⟨rfl, ih h1 h2⟩
theorem bl_total : ∀ a b, bl a b = false → bl b a = false → a = b
  | [], [], _, _ => rfl
  | [], _ :: _, h, _ => by unfold bl at h; simp [Op.bytesLess] at h
  | _ :: _, [], _, h => by unfold bl at h; simp [Op.bytesLess] at h
  | x :: a, y :: b, h1, h2 => by
    have ih := bl_total a b
    unfold bl at *
    simp only [Op.bytesLess, Bool.or_eq_false_iff, decide_eq_false_iff_not, Bool.and_eq_false_iff, beq_eq_false_iff_ne] at *
    have hxy : x = y := by
      have h3 := h1.1
      have h4 := h2.1
      rw [UInt8.lt_iff_toNat_lt] at h3 h4
      exact UInt8.toNat_inj.1 (by omega)
    subst hxy
    rw [ih (h1.2.resolve_left (by simp)) (h2.2.resolve_left (by simp))]

/-- the bytes of a text, as the walk spells them -/
def txt (v : Va) : List UInt8 := v.text.toList
theorem txt_inj {a b : Va} (h : txt a = txt b) : a.text = b.text := by
  unfold txt at h
  rw [ByteArray.toList_eq, ByteArray.toList_eq] at h
  have : a.text.data = b.text.data := Array.toList_inj.1 h
  cases ha : a.text; cases hb : b.text; rw [ha, hb] at this; dsimp only at this; rw [this]
theorem strEq_txt (a b : Va) : strEq a.text b.text = true ↔ a.text = b.text := by
  unfold strEq
  rw [beq_iff_eq]
  exact ⟨fun h => txt_inj h, fun h => by rw [h]⟩

/-- two values have one meaning -/
def meq (a b : Va) : Bool := a.kind == b.kind && strEq a.text b.text
theorem meq_iff (a b : Va) : meq a b = true ↔ a.kind = b.kind ∧ a.text = b.text := by
  unfold meq; rw [Bool.and_eq_true, beq_iff_eq, strEq_txt]
/-- the meaning of a value comes before that of another one -/
def mlt (a b : Va) : Bool := decide (a.kind < b.kind) || (a.kind == b.kind && bl (txt a) (txt b))
/-- a value comes before another one: by kind, text and first period -/
def vlt (a b : Va) : Bool := if a.kind = b.kind then (if txt a = txt b then decide (a.fr < b.fr) else bl (txt a) (txt b)) else decide (a.kind < b.kind)

theorem mlt_trans {a b c : Va} (h1 : mlt a b = true) (h2 : mlt b c = true) : mlt a c = true := by
  unfold mlt at *
  simp only [Bool.or_eq_true, decide_eq_true_eq, Bool.and_eq_true, beq_iff_eq] at *
  rcases h1 with h1 | ⟨e1, h1⟩ <;> rcases h2 with h2 | ⟨e2, h2⟩
  · exact .inl (by omega)
  · exact .inl (by omega)
  · exact .inl (by omega)
  · exact .inr ⟨by omega, bl_trans _ _ _ h1 h2⟩
theorem mlt_irr (a : Va) : mlt a a = false := by unfold mlt; simp [bl_irr]
theorem mlt_meq {a b c : Va} (h : meq a b = true) : mlt a c = mlt b c ∧ mlt c a = mlt c b := by
  rw [meq_iff] at h
  unfold mlt txt
  rw [h.1, h.2]
  exact ⟨rfl, rfl⟩
theorem meq_symm {a b : Va} (h : meq a b = true) : meq b a = true := by rw [meq_iff] at *; exact ⟨h.1.symm, h.2.symm⟩
theorem meq_refl (a : Va) : meq a a = true := by rw [meq_iff]; exact ⟨rfl, rfl⟩
theorem meq_trans {a b c : Va} (h : meq a b = true) (h' : meq b c = true) : meq a c = true := by rw [meq_iff] at *; exact ⟨h.1.trans h'.1, h.2.trans h'.2⟩
/-- of two meanings one comes before the other, or they are one -/
theorem m_three (a b : Va) : mlt a b = true ∨ meq a b = true ∨ mlt b a = true := by
  by_cases hk : a.kind = b.kind
  · by_cases h1 : bl (txt a) (txt b) = true
    · exact .inl (by unfold mlt; simp [hk, h1])
    · by_cases h2 : bl (txt b) (txt a) = true
      · exact .inr (.inr (by unfold mlt; simp [hk, h2]))
      · exact .inr (.inl ((meq_iff a b).2 ⟨hk, txt_inj (bl_total _ _ (by simpa using h1) (by simpa using h2))⟩))
  · rcases Int.lt_or_lt_of_ne hk with h | h
    · exact .inl (by unfold mlt; simp [h])
    · exact .inr (.inr (by unfold mlt; simp [h]))
theorem mlt_not_meq {a b : Va} (h : mlt a b = true) : meq a b = false := by
  cases h2 : meq a b
  · rfl
  · rw [(mlt_meq h2).1, mlt_irr] at h; cases h
theorem mlt_asym {a b : Va} (h : mlt a b = true) : mlt b a = false := by
  cases h2 : mlt b a
  · rfl
  · have := mlt_trans h h2; rw [mlt_irr] at this; cases this
theorem vlt_iff (a b : Va) : vlt a b = true ↔ mlt a b = true ∨ (meq a b = true ∧ a.fr < b.fr) := by
  unfold vlt mlt
  rw [meq_iff]
  by_cases hk : a.kind = b.kind
  · by_cases ht : txt a = txt b
    · rw [if_pos hk, if_pos ht]
      simp [hk, ht, bl_irr, txt_inj ht]
    · rw [if_pos hk, if_neg ht]
      have : a.text ≠ b.text := fun e => ht (by unfold txt; rw [e])
      simp [hk, this]
  · rw [if_neg hk]
    simp [hk]
theorem vlt_irr (a : Va) : vlt a a = false := by
  cases h : vlt a a
  · rfl
  · rw [vlt_iff] at h
    rcases h with h | h
    · rw [mlt_irr] at h; cases h
    · omega
theorem vlt_trans {a b c : Va} (h1 : vlt a b = true) (h2 : vlt b c = true) : vlt a c = true := by
  rw [vlt_iff] at *
  rcases h1 with h1 | ⟨e1, h1⟩ <;> rcases h2 with h2 | ⟨e2, h2⟩
  · exact .inl (mlt_trans h1 h2)
  · exact .inl ((mlt_meq e2).2.symm.trans h1)
  · exact .inl ((mlt_meq e1).1.trans h2)
  · exact .inr ⟨meq_trans e1 e2, by omega⟩
/-- neither comes before the other: one meaning, one first period -/
theorem vlt_tie {a b : Va} (h1 : vlt a b = false) (h2 : vlt b a = false) : meq a b = true ∧ a.fr = b.fr := by
  have n1 : ¬ vlt a b = true := by rw [h1]; simp
  have n2 : ¬ vlt b a = true := by rw [h2]; simp
  rw [vlt_iff] at n1 n2
  rcases m_three a b with h | h | h
  · exact absurd (.inl h) n1
  · exact ⟨h, by
      have a1 : ¬ a.fr < b.fr := fun e => n1 (.inr ⟨h, e⟩)
      have a2 : ¬ b.fr < a.fr := fun e => n2 (.inr ⟨meq_symm h, e⟩)
      omega⟩
  · exact absurd (.inl h) n2
/-- what is not before: the other meaning is not later, and within one meaning not later -/
theorem not_vlt {a b : Va} (h : vlt b a = false) : mlt a b = true ∨ (meq a b = true ∧ a.fr ≤ b.fr) := by
  have n : ¬ vlt b a = true := by rw [h]; simp
  rw [vlt_iff] at n
  rcases m_three a b with h | h | h
  · exact .inl h
  · exact .inr ⟨h, by
      have : ¬ b.fr < a.fr := fun e => n (.inr ⟨meq_symm h, e⟩)
      omega⟩
  · exact absurd (.inl h) n

/-- one value covers a period of a meaning; a list does -/
def covV (v : Va) (m : Va) (p : Int) : Prop := meq v m = true ∧ v.fr ≤ p ∧ p ≤ v.to
def cov (l : List Va) (m : Va) (p : Int) : Prop := ∃ v ∈ l, covV v m p
theorem cov_nil (m : Va) (p : Int) : ¬ cov [] m p := fun ⟨_, h, _⟩ => by cases h
theorem cov_append (a b : List Va) (m : Va) (p : Int) : cov (a ++ b) m p ↔ cov a m p ∨ cov b m p := by
  constructor
  · rintro ⟨v, h, hc⟩
    rcases List.mem_append.1 h with h | h
    · exact .inl ⟨v, h, hc⟩
    · exact .inr ⟨v, h, hc⟩
  · rintro (⟨v, h, hc⟩ | ⟨v, h, hc⟩)
    · exact ⟨v, List.mem_append_left _ h, hc⟩
    · exact ⟨v, List.mem_append_right _ h, hc⟩
theorem cov_cons (v : Va) (b : List Va) (m : Va) (p : Int) : cov (v :: b) m p ↔ covV v m p ∨ cov b m p := by
  rw [show v :: b = [v] ++ b from rfl, cov_append]
  constructor
  · rintro (⟨x, h, hc⟩ | h)
    · simp at h; subst h; exact .inl hc
    · exact .inr h
  · rintro (h | h)
    · exact .inl ⟨v, by simp, h⟩
    · exact .inr h

/-- a value lies before another one, with a gap if both have one meaning -/
def gap (a b : Va) : Prop := mlt a b = true ∨ (meq a b = true ∧ a.to + 1 < b.fr)
/-- longest stretches in order -/
def canon (l : List Va) : Prop := l.Pairwise gap ∧ ∀ v ∈ l, v.fr ≤ v.to

theorem canon_cons {a : Va} {l : List Va} (h : canon (a :: l)) : canon l ∧ (∀ b ∈ l, gap a b) ∧ a.fr ≤ a.to :=
  ⟨⟨(List.pairwise_cons.1 h.1).2, fun v hv => h.2 v (List.mem_cons_of_mem _ hv)⟩, (List.pairwise_cons.1 h.1).1, h.2 a (by simp)⟩

/-- what the rest covers lies behind the first one -/
theorem canon_rest {a : Va} {l : List Va} (h : canon (a :: l)) {m : Va} {p : Int} (hc : cov l m p) : mlt a m = true ∨ (meq a m = true ∧ a.to + 1 < p) := by
  obtain ⟨v, hv, h1, h2, h3⟩ := hc
  rcases (canon_cons h).2.1 v hv with hg | ⟨hg, hg2⟩
  · exact .inl ((mlt_meq h1).2.symm.trans hg)
  · exact .inr ⟨meq_trans hg h1, by omega⟩

theorem Va.ext' {a b : Va} (h1 : meq a b = true) (h2 : a.fr = b.fr) (h3 : a.to = b.to) : a = b := by
  rw [meq_iff] at h1
  obtain ⟨k, t, f, u⟩ := a
  obtain ⟨k2, t2, f2, u2⟩ := b
  obtain ⟨h4, h5⟩ := h1
  dsimp only at *
  subst h2 h3 h4 h5
  rfl

/-- Two lists of longest stretches that cover the same are equal. -/
theorem canon_eq : ∀ (a b : List Va), canon a → canon b → (∀ m p, cov a m p ↔ cov b m p) → a = b
  | [], [], _, _, _ => rfl
  | [], y :: b, _, hb, h => absurd ((h y y.fr).2 ((cov_cons _ _ _ _).2 (.inl ⟨meq_refl y, by omega, (canon_cons hb).2.2⟩))) (cov_nil _ _)
  | x :: a, [], ha, _, h => absurd ((h x x.fr).1 ((cov_cons _ _ _ _).2 (.inl ⟨meq_refl x, by omega, (canon_cons ha).2.2⟩))) (cov_nil _ _)
  | x :: a, y :: b, ha, hb, h => by
    have hx := (canon_cons ha).2.2
    have hy := (canon_cons hb).2.2
    have c1 := (h x x.fr).1 ((cov_cons _ _ _ _).2 (.inl ⟨meq_refl x, by omega, hx⟩))
    have c2 := (h y y.fr).2 ((cov_cons _ _ _ _).2 (.inl ⟨meq_refl y, by omega, hy⟩))
    have hm : meq x y = true ∧ x.fr = y.fr := by
      rw [cov_cons] at c1 c2
      rcases c1 with ⟨e1, l1, _⟩ | c1
      · rcases c2 with ⟨e2, l2, _⟩ | c2
        · exact ⟨e2, by omega⟩
        · rcases canon_rest ha c2 with h1 | ⟨_, h1⟩
          · rw [(mlt_meq (meq_symm e1)).1, mlt_irr] at h1; cases h1
          · omega
      · rcases canon_rest hb c1 with h1 | ⟨h1, h1'⟩
        · rcases c2 with ⟨e2, _, _⟩ | c2
          · rw [(mlt_meq e2).2, mlt_irr] at h1; cases h1
          · rcases canon_rest ha c2 with h2 | ⟨h2, _⟩
            · rw [mlt_asym h1] at h2; cases h2
            · rw [(mlt_meq h2).2, mlt_irr] at h1; cases h1
        · rcases c2 with ⟨_, l2, _⟩ | c2
          · omega
          · rcases canon_rest ha c2 with h2 | ⟨_, h2⟩
            · rw [(mlt_meq h1).2, mlt_irr] at h2; cases h2
            · omega
    obtain ⟨hm, hf⟩ := hm
    have hto : x.to = y.to := by
      rcases Int.lt_trichotomy x.to y.to with hlt | he | hlt
      · exfalso
        have c3 := (h x (x.to + 1)).2 ((cov_cons _ _ _ _).2 (.inl ⟨meq_symm hm, by omega, by omega⟩))
        rw [cov_cons] at c3
        rcases c3 with ⟨_, _, h3⟩ | c3
        · omega
        · rcases canon_rest ha c3 with h3 | ⟨_, h3⟩
          · rw [mlt_irr] at h3; cases h3
          · omega
      · exact he
      · exfalso
        have c3 := (h y (y.to + 1)).1 ((cov_cons _ _ _ _).2 (.inl ⟨hm, by omega, by omega⟩))
        rw [cov_cons] at c3
        rcases c3 with ⟨_, _, h3⟩ | c3
        · omega
        · rcases canon_rest hb c3 with h3 | ⟨_, h3⟩
          · rw [mlt_irr] at h3; cases h3
          · omega
    have hxy := Va.ext' hm hf hto
    subst hxy
    congr 1
    refine canon_eq a b (canon_cons ha).1 (canon_cons hb).1 fun m p => ⟨fun hc => ?_, fun hc => ?_⟩
    · have := (h m p).1 ((cov_cons _ _ _ _).2 (.inr hc))
      rw [cov_cons] at this
      rcases this with ⟨e, _, h3⟩ | h3
      · rcases canon_rest ha hc with h4 | ⟨_, h4⟩
        · rw [← (mlt_meq e).2, mlt_irr] at h4; cases h4
        · omega
      · exact h3
    · have := (h m p).2 ((cov_cons _ _ _ _).2 (.inr hc))
      rw [cov_cons] at this
      rcases this with ⟨e, _, h3⟩ | h3
      · rcases canon_rest hb hc with h4 | ⟨_, h4⟩
        · rw [← (mlt_meq e).2, mlt_irr] at h4; cases h4
        · omega
      · exact h3

/-- one value more, joined to the last one where it meets or follows it -/
def mergeStep (out : List Va) (v : Va) : List Va :=
  match out.getLast? with
  | none => [v]
  | some l => if (meq l v && decide (v.fr ≤ l.to + 1)) = true then out.dropLast ++ [{ l with to := max l.to v.to }] else out ++ [v]
def mergeR (l : List Va) : List Va := l.foldl mergeStep []
/-- sorted: none comes before an earlier one -/
def sortedV (l : List Va) : Prop := l.Pairwise fun a b => vlt b a = false

/-- what holds between two rounds of merging -/
structure MInv (out rest done : List Va) : Prop where
  can : canon out
  covs : ∀ m p, cov out m p ↔ cov done m p
  ahead : ∀ x ∈ out, ∀ v ∈ rest, vlt v x = false

theorem snoc_cases (l : List Va) : l = [] ∨ ∃ i x, l = i ++ [x] := by
  rcases List.eq_nil_or_concat l with h | ⟨i, x, h⟩
  · exact .inl h
  · exact .inr ⟨i, x, by rw [h, List.concat_eq_append]⟩
theorem mergeStep_nil (v : Va) : mergeStep [] v = [v] := rfl
theorem mergeStep_join (i : List Va) (l v : Va) (h : (meq l v && decide (v.fr ≤ l.to + 1)) = true) : mergeStep (i ++ [l]) v = i ++ [{ l with to := max l.to v.to }] := by
  simp only [mergeStep, List.getLast?_append, List.getLast?_singleton, Option.some_or, h, if_true, List.dropLast_concat]
theorem mergeStep_add (i : List Va) (l v : Va) (h : (meq l v && decide (v.fr ≤ l.to + 1)) = false) : mergeStep (i ++ [l]) v = i ++ [l] ++ [v] := by
  simp only [mergeStep, List.getLast?_append, List.getLast?_singleton, Option.some_or, h, Bool.false_eq_true, if_false]

theorem gap_vlt {a b c : Va} (h : gap a b) (_hb : b.fr ≤ b.to) (h2 : mlt b c = true ∨ (meq b c = true ∧ b.fr ≤ c.fr)) : gap a c := by
  rcases h with h | ⟨h, h'⟩
  · rcases h2 with h2 | ⟨h2, _⟩
    · exact .inl (mlt_trans h h2)
    · exact .inl ((mlt_meq h2).2.symm.trans h)
  · rcases h2 with h2 | ⟨h2, h3⟩
    · exact .inl ((mlt_meq h).1.trans h2)
    · exact .inr ⟨meq_trans h h2, by omega⟩

theorem MInv.step {out rest done : List Va} {v : Va} (h : MInv out (v :: rest) done) (hv : v.fr ≤ v.to) (hs : ∀ x ∈ rest, vlt x v = false) : MInv (mergeStep out v) rest (done ++ [v]) := by
  have hcv : ∀ m p, (cov out m p ∨ covV v m p) ↔ cov (done ++ [v]) m p := fun m p => by
    rw [cov_append, h.covs m p]
    constructor
    · rintro (h1 | h1)
      · exact .inl h1
      · exact .inr ⟨v, by simp, h1⟩
    · rintro (h1 | ⟨x, h1, h2⟩)
      · exact .inl h1
      · simp at h1; subst h1; exact .inr h2
  rcases snoc_cases out with rfl | ⟨i, l, rfl⟩
  · rw [mergeStep_nil]
    refine ⟨⟨by simp, fun x hx => by simp at hx; subst hx; exact hv⟩, fun m p => ?_, fun x hx y hy => by simp at hx; subst hx; exact hs y hy⟩
    rw [← hcv, cov_cons]
    exact or_comm
  · have hl : l.fr ≤ l.to := h.can.2 l (by simp)
    have hlv := h.ahead l (by simp) v (by simp)
    have hp := List.pairwise_append.1 h.can.1
    have hil : ∀ x ∈ i, gap x l := fun x hx => hp.2.2 x hx l (by simp)
    by_cases hj : (meq l v && decide (v.fr ≤ l.to + 1)) = true
    · rw [mergeStep_join _ _ _ hj]
      rw [Bool.and_eq_true, decide_eq_true_eq] at hj
      have hlf : l.fr ≤ v.fr := by
        rcases not_vlt hlv with h1 | ⟨_, h1⟩
        · rw [mlt_not_meq h1] at hj; cases hj.1
        · exact h1
      refine ⟨⟨List.pairwise_append.2 ⟨hp.1, by simp, fun x hx y hy => ?_⟩, fun x hx => ?_⟩, fun m p => ?_, fun x hx y hy => ?_⟩
      · simp at hy; subst hy
        rcases hil x hx with h1 | ⟨h1, h2⟩
        · exact .inl h1
        · exact .inr ⟨h1, h2⟩
      · rcases List.mem_append.1 hx with hx | hx
        · exact h.can.2 x (by simp [hx])
        · simp at hx; subst hx; dsimp only; omega
      · rw [← hcv, cov_append, cov_append]
        have hone : ∀ y : Va, cov [y] m p ↔ covV y m p := fun y => by rw [cov_cons]; exact ⟨fun h => h.resolve_right (cov_nil _ _), .inl⟩
        rw [hone, hone, or_assoc]
        refine or_congr_right ?_
        constructor
        · rintro ⟨e, h1, h2⟩
          have e' : meq l m = true := e
          dsimp only at h1 h2
          by_cases h3 : p ≤ l.to
          · exact .inl ⟨e', h1, h3⟩
          · exact .inr ⟨meq_trans (meq_symm hj.1) e', by omega, by omega⟩
        · rintro (⟨e, h1, h2⟩ | ⟨e, h1, h2⟩)
          · exact ⟨e, h1, by dsimp only; omega⟩
          · exact ⟨meq_trans hj.1 e, by dsimp only; omega, by dsimp only; omega⟩
      · rcases List.mem_append.1 hx with hx | hx
        · exact h.ahead x (by simp [hx]) y (by simp [hy])
        · simp at hx; subst hx
          exact h.ahead l (by simp) y (by simp [hy])
    · have hj' : (meq l v && decide (v.fr ≤ l.to + 1)) = false := by simpa using hj
      rw [mergeStep_add _ _ _ hj']
      have hlgv : gap l v := by
        rcases not_vlt hlv with h1 | ⟨h1, h2⟩
        · exact .inl h1
        · refine .inr ⟨h1, ?_⟩
          rw [h1] at hj'
          simpa using hj'
      refine ⟨⟨List.pairwise_append.2 ⟨h.can.1, by simp, fun x hx y hy => ?_⟩, fun x hx => ?_⟩, fun m p => ?_, fun x hx y hy => ?_⟩
      · simp at hy; subst hy
        rcases List.mem_append.1 hx with hx | hx
        · exact gap_vlt (hil x hx) hl (not_vlt hlv)
        · simp at hx; subst hx; exact hlgv
      · rcases List.mem_append.1 hx with hx | hx
        · exact h.can.2 x hx
        · simp at hx; subst hx; exact hv
      · rw [← hcv, cov_append]
        exact or_congr_right ⟨fun ⟨x, h1, h2⟩ => by simp at h1; subst h1; exact h2, fun h1 => ⟨_, by simp, h1⟩⟩
      · rcases List.mem_append.1 hx with hx | hx
        · exact h.ahead x hx y (by simp [hy])
        · simp at hx; subst hx; exact hs y hy

theorem merge_fold : ∀ (rest out done : List Va), MInv out rest done → sortedV rest → (∀ v ∈ rest, v.fr ≤ v.to) → MInv (rest.foldl mergeStep out) [] (done ++ rest)
  | [], out, done, h, _, _ => by simpa using h
  | v :: rest, out, done, h, hs, hv => by
    have := merge_fold rest (mergeStep out v) (done ++ [v]) (h.step (hv v (by simp)) (List.pairwise_cons.1 hs).1) (List.pairwise_cons.1 hs).2 (fun x hx => hv x (List.mem_cons_of_mem _ hx))
    simpa using this
/-- Sorted values, merged: longest stretches in order that cover the same. -/
theorem mergeR_canon (l : List Va) (hs : sortedV l) (hv : ∀ v ∈ l, v.fr ≤ v.to) : canon (mergeR l) ∧ ∀ m p, cov (mergeR l) m p ↔ cov l m p := by
  have := merge_fold l [] [] ⟨⟨List.Pairwise.nil, fun v h => by cases h⟩, fun _ _ => Iff.rfl, fun x h => by cases h⟩ hs hv
  exact ⟨this.can, fun m p => by have h := this.covs m p; rwa [List.nil_append] at h⟩

/-- two sorted lists that cover the same are merged to one list -/
theorem mergeR_eq (l m : List Va) (hl : sortedV l) (hm : sortedV m) (hlv : ∀ v ∈ l, v.fr ≤ v.to) (hmv : ∀ v ∈ m, v.fr ≤ v.to) (h : ∀ x p, cov l x p ↔ cov m x p) : mergeR l = mergeR m :=
  canon_eq _ _ (mergeR_canon l hl hlv).1 (mergeR_canon m hm hmv).1 fun x p => ((mergeR_canon l hl hlv).2 x p).trans ((h x p).trans ((mergeR_canon m hm hmv).2 x p).symm)

end Go.Proofs.YtleihhkacmgofaaGreatDoor
