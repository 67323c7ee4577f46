/-
  What the law of fewest scribes asks of the list that is found (layer 9): plain lists.
-/
import Derived.Test.YtcpfhaoecggflaaZCol
namespace Go.Proofs.Ytcpfhaoecggflaa

theorem firstS_inv {ap : Nat → Nat → Bool} {hs : List Nat} {F : List Nat → Option (List Nat)} : ∀ cs l, firstS ap hs F cs = some l → ∃ c ∈ cs, clash ap hs c hs.length = false ∧ F (hs ++ [c]) = some l
  | [], l, h => by cases h
  | c :: r, l, h => by
    rw [firstS] at h
    split at h
    · obtain ⟨d, hd, h2⟩ := firstS_inv r l h
      exact ⟨d, List.mem_cons_of_mem _ hd, h2⟩
    · rename_i hc
      split at h
      · rename_i l' e
        injection h with h; subst h
        exact ⟨c, List.mem_cons_self, by simpa using hc, e⟩
      · obtain ⟨d, hd, h2⟩ := firstS_inv r l h
        exact ⟨d, List.mem_cons_of_mem _ hd, h2⟩
/-- numbered as they occur, and apart where they must be -/
structure Fine (ap : Nat → Nat → Bool) (hs : List Nat) : Prop where
  canon : ∀ (i c : Nat), hs[i]? = some c → c ≤ usedOf (hs.take i)
  proper : ∀ (i k a b : Nat), i < k → hs[i]? = some a → hs[k]? = some b → ap i k = true → a ≠ b
  small : Small hs
theorem fine_nil (ap : Nat → Nat → Bool) : Fine ap [] := ⟨(fun i c h => by simp at h), (fun i k a b _ h => by simp at h), small_nil⟩
theorem snoc_at {hs : List Nat} {c i x : Nat} (h : (hs ++ [c])[i]? = some x) : (i < hs.length ∧ hs[i]? = some x) ∨ (i = hs.length ∧ x = c) := by
  by_cases e : i < hs.length
  · rw [List.getElem?_append_left e] at h; exact .inl ⟨e, h⟩
  · have e2 : i = hs.length := by
      have := (List.getElem?_eq_some_iff.1 h).1
      simp at this; omega
    subst e2
    simp at h
    exact .inr ⟨rfl, h.symm⟩
theorem Fine.snoc {ap : Nat → Nat → Bool} {hs : List Nat} {c : Nat} (h : Fine ap hs) (hc : c ≤ usedOf hs) (hcl : clash ap hs c hs.length = false) : Fine ap (hs ++ [c]) := by
  refine ⟨fun i x hx => ?_, fun i k a b hik ha hb hap => ?_, small_snoc h.small c⟩
  · rcases snoc_at hx with ⟨e, hx⟩ | ⟨rfl, rfl⟩
    · rw [List.take_append_of_le_length (by omega)]; exact h.canon i x hx
    · rw [List.take_append_of_le_length (Nat.le_refl _), List.take_length]; exact hc
  · rcases snoc_at hb with ⟨e, hb⟩ | ⟨rfl, rfl⟩
    · rcases snoc_at ha with ⟨_, ha⟩ | ⟨rfl, _⟩
      · exact h.proper i k a b hik ha hb hap
      · omega
    · rcases snoc_at ha with ⟨e2, ha2⟩ | ⟨rfl, _⟩
      · rintro rfl
        unfold clash at hcl
        rw [List.any_eq_false] at hcl
        exact hcl i (List.mem_range.2 e2) (by rw [ha2, hap]; simp)
      · omega
/-- what is found is fine, begins so, and has no more scribes -/
theorem giveF_fine (ap : Nat → Nat → Bool) (n most : Nat) : ∀ f hs l, Fine ap hs → usedOf hs ≤ most → giveF ap n most f hs = some l → Fine ap l ∧ usedOf l ≤ most ∧ hs <+: l
  | 0, hs, l, h, hu, hg => by
    rw [giveF] at hg
    split at hg
    · injection hg with hg; subst hg; exact ⟨h, hu, List.prefix_refl _⟩
    · cases hg
  | f + 1, hs, l, h, hu, hg => by
    rw [giveF] at hg
    split at hg
    · injection hg with hg; subst hg; exact ⟨h, hu, List.prefix_refl _⟩
    · obtain ⟨c, hc, hcl, hF⟩ := firstS_inv _ _ hg
      have hc := List.mem_range.1 hc
      obtain ⟨h1, h2, h3⟩ := giveF_fine ap n most f (hs ++ [c]) l (h.snoc (by omega) hcl) (by rw [usedOf_snoc]; omega) hF
      exact ⟨h1, h2, (List.prefix_append hs [c]).trans h3⟩
def Proper (ap : Nat → Nat → Bool) (n : Nat) (g : Nat → Nat) : Prop := ∀ i k, i < k → k < n → ap i k = true → g i ≠ g k
/-- whatever keeps copies apart is found -/
theorem giveF_complete (ap : Nat → Nat → Bool) (n most : Nat) : ∀ f hs (g : Nat → Nat), n = hs.length + f → Small hs → Proper ap n g → (∀ i, i < n → g i < most) → (∀ (i c : Nat), hs[i]? = some c → g i = c) → ∃ l, giveF ap n most f hs = some l
  | 0, hs, g, hn, _, _, _, _ => ⟨hs, giveF_done ap n most 0 hs (by omega)⟩
  | f + 1, hs, g, hn, hs1, hp, hm, ha => by
    rw [giveF_go ap n most f hs (by omega)]
    have key : ∀ (g : Nat → Nat), Proper ap n g → (∀ i, i < n → g i < most) → (∀ (i c : Nat), hs[i]? = some c → g i = c) → g hs.length ≤ usedOf hs → ∃ l, firstS ap hs (giveF ap n most f) (List.range (min (usedOf hs + 1) most)) = some l := by
      intro g hp hm ha hle
      have hc : clash ap hs (g hs.length) hs.length = false := by
        unfold clash
        rw [List.any_eq_false]
        intro x hx
        have hx := List.mem_range.1 hx
        have hgx := ha x hs[x] (List.getElem?_eq_getElem hx)
        by_cases hap : ap x hs.length = true
        · have := hp x hs.length hx (by omega) hap
          rw [List.getElem?_eq_getElem hx, ← hgx]
          simp [this]
        · simp [hap]
      refine firstS_some hc (giveF_complete ap n most f (hs ++ [g hs.length]) g (by simp; omega) (small_snoc hs1 _) hp hm (fun i c h => ?_)) _ (List.mem_range.2 (by have := hm hs.length (by omega); omega))
      rcases snoc_at h with ⟨_, h⟩ | ⟨rfl, rfl⟩
      · exact ha i c h
      · rfl
    by_cases hle : g hs.length ≤ usedOf hs
    · exact key g hp hm ha hle
    · refine key (fun i => if g i = g hs.length then usedOf hs else if g i = usedOf hs then g hs.length else g i) (fun i k hik hk hap e => ?_) (fun i hi => ?_) (fun i c h => ?_) (by simp)
      · have h1 := hp i k hik hk hap
        dsimp only at e
        split at e <;> split at e <;> (try split at e) <;> (try split at e) <;> omega
      · have h1 := hm i hi
        have h2 := hm hs.length (by omega)
        split
        · omega
        · split <;> omega
      · have h1 := ha i c h
        have h2 := hs1 c (List.mem_of_getElem? h)
        rw [if_neg (by omega), if_neg (by omega)]; exact h1
/-- the way to what is found -/
theorem giveF_way (ap : Nat → Nat → Bool) (n most : Nat) {l : List Nat} (h : giveF ap n most n [] = some l) (hl : l.length = n) : ∀ i, i ≤ n → giveF ap n most (n - i) (l.take i) = some l ∧ Fine ap (l.take i) ∧ usedOf (l.take i) ≤ most := by
  intro i
  induction i with
  | zero => intro _; rw [List.take_zero]; exact ⟨h, fine_nil ap, Nat.zero_le _⟩
  | succ i ih =>
    intro hi
    obtain ⟨h1, h2, h3⟩ := ih (by omega)
    have hti : (l.take i).length = i := by rw [List.length_take]; omega
    have e : n - i = (n - (i + 1)) + 1 := by omega
    rw [e, giveF_go ap n most _ _ (by omega)] at h1
    obtain ⟨c, hc, hcl, hF⟩ := firstS_inv _ _ h1
    have hc := List.mem_range.1 hc
    have hfn := h2.snoc (c := c) (by omega) hcl
    have hus : usedOf (l.take i ++ [c]) ≤ most := by rw [usedOf_snoc]; omega
    obtain ⟨_, _, hpre⟩ := giveF_fine ap n most _ _ l hfn hus hF
    have e2 : l.take (i + 1) = l.take i ++ [c] := by
      have := List.prefix_iff_eq_take.1 hpre
      rw [this]; simp [hti]
    rw [e2]
    exact ⟨hF, hfn, hus⟩
/-- what the law asks of the list of scribes -/
structure HandsOk (ap : Nat → Nat → Bool) (n : Nat) (l : List Nat) : Prop where
  len : l.length = n
  fine : Fine ap l
  alone : ∀ i, i < n → (∀ k, k < n → k ≠ i → ap i k = false ∧ ap k i = false) → l[i]? = some 0
  few : ∀ (g : Nat → Nat) (m : Nat), Proper ap n g → (∀ i, i < n → g i < m) → usedOf l ≤ m
theorem hands_ok {ap : Nat → Nat → Bool} {n : Nat} {l : List Nat} (h : IsHands ap n l) (hlen : l.length = n) : HandsOk ap n l := by
  obtain ⟨m, h1, h2⟩ := h
  obtain ⟨f1, f2, _⟩ := giveF_fine ap n m n [] l (fine_nil ap) (Nat.zero_le _) h1
  refine ⟨hlen, f1, fun i hi hal => ?_, fun g m' hp hm => ?_⟩
  · obtain ⟨w1, w2, w3⟩ := giveF_way ap n m h1 hlen i (by omega)
    have hti : (l.take i).length = i := by rw [List.length_take]; omega
    have e : n - i = (n - (i + 1)) + 1 := by omega
    rw [e, giveF_go ap n m _ _ (by omega)] at w1
    obtain ⟨c, hc, _, _⟩ := firstS_inv _ _ w1
    have hc := List.mem_range.1 hc
    have hcl : clash ap (l.take i) 0 (l.take i).length = false := by
      unfold clash
      rw [List.any_eq_false]
      intro x hx
      have hx := List.mem_range.1 hx
      rw [hti] at hx ⊢
      rw [(hal x (by omega) (by omega)).2]; simp
    have hcol : ∀ (k : Nat) (hk : k < n), l[k]'(by omega) < m := fun k hk => by
      have := f1.small l[k] (List.getElem_mem _); omega
    obtain ⟨l', hl'⟩ := giveF_complete ap n m (n - (i + 1)) (l.take i ++ [0]) (fun k => if k = i then 0 else l[k]?.getD 0) (by simp [hti]; omega) (small_snoc w2.small 0) (fun a b hab hb hap => by
        show (if a = i then 0 else l[a]?.getD 0) ≠ (if b = i then 0 else l[b]?.getD 0)
        by_cases ea : a = i
        · subst ea; rw [(hal b hb (by omega)).1] at hap; cases hap
        · by_cases eb : b = i
          · subst eb; rw [(hal a (by omega) (by omega)).2] at hap; cases hap
          · rw [if_neg ea, if_neg eb, List.getElem?_eq_getElem (by omega), List.getElem?_eq_getElem (by omega)]
            exact f1.proper a b _ _ hab (List.getElem?_eq_getElem (by omega)) (List.getElem?_eq_getElem (by omega)) hap) (fun k hk => by
        split
        · omega
        · rw [List.getElem?_eq_getElem (by omega)]; exact hcol k hk) (fun k x hx => by
        rcases snoc_at hx with ⟨hk, hx⟩ | ⟨hk, rfl⟩
        · rw [hti] at hk
          rw [if_neg (by omega)]
          rw [List.getElem?_take_of_lt hk] at hx
          rw [hx]; rfl
        · rw [hti] at hk; rw [if_pos hk])
    have hr : min (usedOf (l.take i) + 1) m = (min (usedOf (l.take i) + 1) m - 1) + 1 := by omega
    rw [hr, List.range_succ_eq_map, firstS, if_neg (by rw [hcl]; simp), hl'] at w1
    injection w1 with w1
    subst w1
    have hfn := w2.snoc (c := 0) (Nat.zero_le _) hcl
    obtain ⟨_, _, hpre⟩ := giveF_fine ap n m _ _ _ hfn (by rw [usedOf_snoc]; omega) hl'
    obtain ⟨t, ht⟩ := hpre
    rw [← ht]
    rw [List.getElem?_append_left (by simp [hti]), List.getElem?_append_right (by omega), hti]
    simp
  · have : m ≤ m' := by
      by_cases e : m ≤ m'
      · exact e
      · obtain ⟨l', hl'⟩ := giveF_complete ap n m' n [] g (by simp) small_nil hp hm (fun i c h => by simp at h)
        rw [h2 m' (by omega)] at hl'; cases hl'
    omega
/-- how many colours below a number are used -/
def usedB (own : List Nat) (s : Nat) : Bool := own.any (· == s)
def rk (own : List Nat) (s : Nat) : Nat := ((List.range s).filter (usedB own)).length
theorem rk_succ (own : List Nat) (s : Nat) : rk own (s + 1) = rk own s + if usedB own s then 1 else 0 := by
  unfold rk
  rw [List.range_succ, List.filter_append, List.length_append]
  by_cases h : usedB own s <;> simp [h]
theorem rk_mono (own : List Nat) {s t : Nat} (h : s ≤ t) : rk own s ≤ rk own t := by
  induction t with
  | zero => obtain rfl : s = 0 := by omega
            exact Nat.le_refl _
  | succ t ih =>
    by_cases e : s = t + 1
    · rw [e]; exact Nat.le_refl _
    · have := ih (by omega); rw [rk_succ]; omega
theorem rk_lt (own : List Nat) {s t : Nat} (h : s < t) (hs : usedB own s = true) : rk own s < rk own t := by
  have h1 := rk_mono own (show s + 1 ≤ t from h)
  rw [rk_succ, if_pos hs] at h1
  omega
/-- no list with fewer scribes keeps copies apart -/
theorem HandsOk.fewer {ap : Nat → Nat → Bool} {n : Nat} {l own : List Nat} (h : HandsOk ap n l) (ho : own.length = n) (hn : ∀ c ∈ own, c < n) (hp : ∀ (i k a b : Nat), i < k → own[i]? = some a → own[k]? = some b → ap i k = true → a ≠ b) : usedOf l ≤ rk own n := by
  have hu : ∀ (i : Nat) (hi : i < n), usedB own (own[i]'(by omega)) = true := fun i hi => by
    unfold usedB; rw [List.any_eq_true]; exact ⟨own[i]'(by omega), List.getElem_mem _, by simp⟩
  refine h.few (fun i => rk own (own[i]?.getD 0)) _ (fun i k hik hk hap e => ?_) (fun i hi => ?_)
  · dsimp only at e
    rw [List.getElem?_eq_getElem (by omega), List.getElem?_eq_getElem (by omega)] at e
    simp only [Option.getD_some] at e
    have hne := hp i k _ _ hik (List.getElem?_eq_getElem (by omega)) (List.getElem?_eq_getElem (by omega)) hap
    rcases Nat.lt_trichotomy (own[i]'(by omega)) (own[k]'(by omega)) with h1 | h1 | h1
    · have := rk_lt own h1 (hu i (by omega)); omega
    · exact hne h1
    · have := rk_lt own h1 (hu k hk); omega
  · rw [List.getElem?_eq_getElem (by omega)]
    exact rk_lt own (hn _ (List.getElem_mem _)) (hu i hi)

end Go.Proofs.Ytcpfhaoecggflaa
