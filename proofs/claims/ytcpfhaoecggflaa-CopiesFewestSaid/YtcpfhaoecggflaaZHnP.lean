/-
  The first list of as few scribes as possible (layer 9): plain lists.
-/
import Derived.Test.YtcpfhaoecggflaaZKit
namespace Go.Proofs.Ytcpfhaoecggflaa
/-- whether a scribe of an earlier copy is apart from the next one -/
def clash (ap : Nat → Nat → Bool) (hs : List Nat) (c k : Nat) : Bool := (List.range k).any fun e => (hs[e]? == some c) && ap e hs.length
def usedOf (hs : List Nat) : Nat := hs.foldl (fun m c => max m (c + 1)) 0
theorem usedOf_snoc (hs : List Nat) (c : Nat) : usedOf (hs ++ [c]) = max (usedOf hs) (c + 1) := by unfold usedOf; rw [List.foldl_append]; rfl
def firstS (ap : Nat → Nat → Bool) (hs : List Nat) (F : List Nat → Option (List Nat)) : List Nat → Option (List Nat)
  | [] => none
  | c :: r => if clash ap hs c hs.length then firstS ap hs F r else match F (hs ++ [c]) with
    | some l => some l
    | none => firstS ap hs F r
/-- the first list of scribes that begins so -/
def giveF (ap : Nat → Nat → Bool) (n most : Nat) : Nat → List Nat → Option (List Nat)
  | 0, hs => if hs.length = n then some hs else none
  | f + 1, hs => if hs.length = n then some hs else firstS ap hs (giveF ap n most f) (List.range (min (usedOf hs + 1) most))
theorem giveF_done (ap : Nat → Nat → Bool) (n most f : Nat) (hs : List Nat) (h : hs.length = n) : giveF ap n most f hs = some hs := by
  cases f <;> (rw [giveF, if_pos h])
theorem giveF_go (ap : Nat → Nat → Bool) (n most f : Nat) (hs : List Nat) (h : hs.length ≠ n) : giveF ap n most (f + 1) hs = firstS ap hs (giveF ap n most f) (List.range (min (usedOf hs + 1) most)) := by
  rw [giveF, if_neg h]
theorem firstS_len {ap : Nat → Nat → Bool} {hs : List Nat} {F : List Nat → Option (List Nat)} {n : Nat} (hF : ∀ x l, F x = some l → l.length = n) : ∀ cs l, firstS ap hs F cs = some l → l.length = n
  | [], l, h => by cases h
  | c :: r, l, h => by
    rw [firstS] at h
    split at h
    · exact firstS_len hF r l h
    · split at h
      · rename_i l' e; injection h with h; subst h; exact hF _ _ e
      · exact firstS_len hF r l h
theorem giveF_len (ap : Nat → Nat → Bool) (n most : Nat) : ∀ f hs l, giveF ap n most f hs = some l → l.length = n
  | 0, hs, l, h => by rw [giveF] at h; split at h; (rename_i e; injection h with h; rw [← h]; exact e); cases h
  | f + 1, hs, l, h => by
    rw [giveF] at h
    split at h
    · rename_i e; injection h with h; rw [← h]; exact e
    · exact firstS_len (giveF_len ap n most f) _ l h
/-- the candidates from a place on -/
def from_ (k m : Nat) : List Nat := (List.range m).drop k
theorem from_zero (m : Nat) : from_ 0 m = List.range m := rfl
theorem from_end (m : Nat) : from_ m m = [] := by unfold from_; simp
theorem from_cons {k m : Nat} (h : k < m) : from_ k m = k :: from_ (k + 1) m := by
  unfold from_
  rw [List.drop_eq_getElem_cons (by simpa using h)]
  simp
theorem firstS_clash {ap : Nat → Nat → Bool} {hs : List Nat} {F : List Nat → Option (List Nat)} {k m : Nat} (h : k < m) (hc : clash ap hs k hs.length = true) : firstS ap hs F (from_ k m) = firstS ap hs F (from_ (k + 1) m) := by
  rw [from_cons h, firstS, if_pos hc]
theorem firstS_no {ap : Nat → Nat → Bool} {hs : List Nat} {F : List Nat → Option (List Nat)} {k m : Nat} (h : k < m) (hc : clash ap hs k hs.length = false) (hF : F (hs ++ [k]) = none) : firstS ap hs F (from_ k m) = firstS ap hs F (from_ (k + 1) m) := by
  rw [from_cons h, firstS, if_neg (by rw [hc]; simp), hF]
theorem firstS_yes {ap : Nat → Nat → Bool} {hs : List Nat} {F : List Nat → Option (List Nat)} {k m : Nat} {l : List Nat} (h : k < m) (hc : clash ap hs k hs.length = false) (hF : F (hs ++ [k]) = some l) : firstS ap hs F (from_ k m) = some l := by
  rw [from_cons h, firstS, if_neg (by rw [hc]; simp), hF]
theorem firstS_some {ap : Nat → Nat → Bool} {hs : List Nat} {F : List Nat → Option (List Nat)} {c : Nat} (hc : clash ap hs c hs.length = false) (hF : ∃ l, F (hs ++ [c]) = some l) : ∀ cs, c ∈ cs → ∃ l, firstS ap hs F cs = some l
  | [], h => by cases h
  | d :: r, h => by
    rw [firstS]
    by_cases hd : d = c
    · subst hd
      rw [if_neg (by rw [hc]; simp)]
      obtain ⟨l, hl⟩ := hF
      exact ⟨l, by rw [hl]⟩
    · have hr : c ∈ r := by
        rcases List.mem_cons.1 h with h | h
        · exact absurd h.symm hd
        · exact h
      obtain ⟨l, hl⟩ := firstS_some hc hF r hr
      split
      · exact ⟨l, hl⟩
      · split
        · rename_i l' _; exact ⟨l', rfl⟩
        · exact ⟨l, hl⟩
def Small (hs : List Nat) : Prop := ∀ c ∈ hs, c < usedOf hs
theorem small_nil : Small [] := fun c h => by cases h
theorem small_snoc {hs : List Nat} (h : Small hs) (c : Nat) : Small (hs ++ [c]) := fun x hx => by
  rw [usedOf_snoc]
  rcases List.mem_append.1 hx with hx | hx
  · have := h x hx; omega
  · rw [List.mem_singleton.1 hx]; omega
/-- as many scribes as copies always do -/
theorem giveF_all (ap : Nat → Nat → Bool) (n : Nat) : ∀ f hs, n - hs.length ≤ f → hs.length ≤ n → Small hs → usedOf hs ≤ hs.length → ∃ l, giveF ap n n f hs = some l
  | f, hs, hf, hl, hs1, hs2 => by
    by_cases e : hs.length = n
    · exact ⟨hs, giveF_done ap n n f hs e⟩
    · cases f with
      | zero => omega
      | succ f =>
        rw [giveF_go ap n n f hs e]
        have hc : clash ap hs (usedOf hs) hs.length = false := by
          unfold clash
          rw [List.any_eq_false]
          intro x hx
          cases hg : hs[x]? with
          | none => simp
          | some c =>
            have := hs1 c (List.mem_of_getElem? hg)
            have : (some c == some (usedOf hs)) = false := by simp; omega
            simp [this]
        refine firstS_some hc (giveF_all ap n f (hs ++ [usedOf hs]) (by simp; omega) (by simp; omega) (small_snoc hs1 _) (by rw [usedOf_snoc]; simp; omega)) _ (List.mem_range.2 (by omega))
def IsHands (ap : Nat → Nat → Bool) (n : Nat) (l : List Nat) : Prop := ∃ m, giveF ap n m n [] = some l ∧ ∀ j, j < m → giveF ap n j n [] = none
theorem IsHands.uniq {ap : Nat → Nat → Bool} {n : Nat} {l l' : List Nat} (h : IsHands ap n l) (h' : IsHands ap n l') : l = l' := by
  obtain ⟨m, h1, h2⟩ := h
  obtain ⟨m', h3, h4⟩ := h'
  rcases Nat.lt_trichotomy m m' with e | e | e
  · rw [h4 m e] at h1; cases h1
  · subst e; rw [h1] at h3; injection h3
  · rw [h2 m' e] at h3; cases h3
theorem clash_congr {ap ap' : Nat → Nat → Bool} {hs : List Nat} {c k : Nat} (h : ∀ e, e < k → ap e hs.length = ap' e hs.length) : clash ap hs c k = clash ap' hs c k := by
  unfold clash
  rw [Bool.eq_iff_iff, List.any_eq_true, List.any_eq_true]
  constructor
  · rintro ⟨x, hx, h1⟩; exact ⟨x, hx, by rw [h x (List.mem_range.1 hx)] at h1; exact h1⟩
  · rintro ⟨x, hx, h1⟩; exact ⟨x, hx, by rw [h x (List.mem_range.1 hx)]; exact h1⟩
theorem clash_more {ap : Nat → Nat → Bool} {hs : List Nat} {c k o : Nat} (h : clash ap hs c k = false) (ho : hs[k]? = some o) : clash ap hs c (k + 1) = ((o == c) && ap k hs.length) := by
  unfold clash at h ⊢
  rw [List.range_succ, List.any_append, h]
  simp [ho]
theorem clash_yes {ap : Nat → Nat → Bool} {hs : List Nat} {c k : Nat} (hk : k < hs.length) (h : ((hs[k]? == some c) && ap k hs.length) = true) : clash ap hs c hs.length = true := by
  unfold clash
  rw [List.any_eq_true]
  exact ⟨k, List.mem_range.2 hk, h⟩

end Go.Proofs.Ytcpfhaoecggflaa
