/-
  Values in use: what it is to be handed values in new memory; contracts of valuesIn and of the specification's InUse.
-/
import Derived.Test.YtbfedahonfjpfaaBear
namespace Go.Proofs.Ytbfedahonfjpfaa
open Go.RowKit

/-- values that were made -/
def GotVals (w : World) (vs : List Va) (e : Ending) (w' : World) : Prop :=
  ∃ A c, e = .returned (.slice A vs.length c) ∧ ValsAt w' A vs ∧ vs.length ≤ c ∧ c ≤ maxLen ∧ Below w.heap.size w w'
/-- .. in memory of the call's own -/
def GotValsF (w : World) (vs : List Va) (e : Ending) (w' : World) : Prop :=
  ∃ A c, e = .returned (.slice A vs.length c) ∧ ValsAt w' A vs ∧ vs.length ≤ c ∧ c ≤ maxLen ∧ Below w.heap.size w w' ∧ ∀ b o, A = some ⟨b, o, none⟩ → w.heap.size ≤ b
theorem GotValsF.got {w : World} {vs : List Va} {e : Ending} {w' : World} (h : GotValsF w vs e w') : GotVals w vs e w' := by
  obtain ⟨A, c, h1, h2, h3, h4, h5, _⟩ := h
  exact ⟨A, c, h1, h2, h3, h4, h5⟩
def usedV (vs : List Va) (p : Int) : List Va := vs.filter (fun v => useB v p)

/-- a row that the call made itself -/
def GotRow (w : World) (e : TypeId) (size n : Nat) (xs : List Value) (en : Ending) (w' : World) : Prop :=
  ∃ A c, en = .returned (.slice A n c) ∧ w'.ownsRow w.heap.size e size (.slice A n c) n xs ∧ Below w.heap.size w w'
theorem own_base {w : World} {b0 b1 : Nat} {e : TypeId} {size : Nat} {v : Value} {n : Nat} {xs : List Value} (h : w.ownsRow b1 e size v n xs) (hb : b0 ≤ b1) : w.ownsRow b0 e size v n xs := by
  refine ⟨h.1, ?_⟩
  rcases h.2 with h2 | ⟨g, cap, cur, rfl, h3, h4⟩
  · exact .inl h2
  · exact .inr ⟨g, cap, cur, rfl, Nat.le_trans hb h3, h4⟩

theorem vals_of_cells {w : World} {base : Nat} {A : Option Addr} {vs : List Va} (h : ∀ ad, A = some ad → ∃ g, ad = ⟨g, 0, none⟩ ∧ base ≤ g ∧ g < w.heap.size ∧ ∀ j u, (vs.flatMap Va.cells)[j]? = some u → w.cell? ⟨g, j, none⟩ = some u)
    (h0 : A = none → vs.length = 0) (hsz : ∀ v ∈ vs, v.text.size ≤ maxLen) : ValsAt w A vs := by
  intro j x hj
  have hj' : j < vs.length := (List.getElem?_eq_some_iff.1 hj).1
  cases hA : A with
  | none => have := h0 hA; omega
  | some ad =>
    obtain ⟨g, rfl, _, hg, hcell⟩ := h ad hA
    have ha : ∀ i, i < 4 → w.cell? ⟨g, j * 4 + i, none⟩ = (Va.cells x)[i]? := fun i hi => by
      have hi' : i < (Va.cells x).length := hi
      rw [hcell (j * 4 + i) ((Va.cells x)[i]) (by rw [flat_at (c := 4) (fun _ => rfl) _ _ _ hj i hi]; exact List.getElem?_eq_getElem hi'), List.getElem?_eq_getElem hi']
    refine ⟨g, 0, rfl, hg, ⟨?_, ?_, ?_, ?_, hsz x (List.mem_of_getElem? hj)⟩⟩
    · rw [Nat.zero_add]; exact ha 0 (by omega)
    · rw [Nat.zero_add]; exact ha 1 (by omega)
    · rw [Nat.zero_add]; exact ha 2 (by omega)
    · rw [Nat.zero_add]; exact ha 3 (by omega)

theorem own_vals {w : World} {base : Nat} {A : Option Addr} {c : Nat} {vs : List Va} (h : w.ownsRow base 116 4 (.slice A vs.length c) vs.length (vs.flatMap Va.cells)) (hsz : ∀ v ∈ vs, v.text.size ≤ maxLen) : ValsAt w A vs ∧ vs.length ≤ c ∧ c ≤ maxLen ∧ ∀ b o, A = some ⟨b, o, none⟩ → base ≤ b := by
  obtain ⟨A2, c2, hv, h1, h2, h3, h4⟩ := own_slice h
  injection hv with e1 e2 e3
  subst e1 e3
  refine ⟨vals_of_cells h3 h4 hsz, h1, h2, fun b o e => ?_⟩
  obtain ⟨g, e2, hg, _⟩ := h3 _ e
  injection e2 with e2; rw [e2]; exact hg
theorem GotRow.vals {w : World} {vs : List Va} {e : Ending} {w' : World} (h : GotRow w 116 4 vs.length (vs.flatMap Va.cells) e w') (hsz : ∀ v ∈ vs, v.text.size ≤ maxLen) : GotValsF w vs e w' := by
  obtain ⟨A, c, rfl, hown, hb⟩ := h
  obtain ⟨h1, h2, h3, h4⟩ := own_vals hown hsz
  exact ⟨A, c, rfl, h1, h2, h3, hb, h4⟩
theorem vals_sizes {w : World} {A : Option Addr} {vs : List Va} (h : ValsAt w A vs) : ∀ v ∈ vs, v.text.size ≤ maxLen := by
  intro v hv
  obtain ⟨i, hi⟩ := List.getElem?_of_mem hv
  obtain ⟨_, _, _, _, hx⟩ := h i v hi
  exact hx.sz
theorem used_sizes {w : World} {A : Option Addr} {vs : List Va} (h : ValsAt w A vs) (p : Int) : ∀ v ∈ usedV vs p, v.text.size ≤ maxLen := fun v hv => vals_sizes h v (List.mem_filter.1 hv).1

theorem used_any (vs : List Va) (k : Int) (t : ByteArray) (p : Int) : (usedV vs p).any (fun v => v.kind == k && strEq v.text t) = vs.any (bearV k t p) := by
  unfold usedV
  induction vs with
  | nil => rfl
  | cons x r ih =>
    rw [List.filter_cons, List.any_cons]
    by_cases h : useB x p = true
    · rw [if_pos h, List.any_cons, ih]; simp [bearV, h]
    · rw [if_neg h, ih]
      have h : useB x p = false := by simpa using h
      simp [bearV, h]
theorem used_len (vs : List Va) (p : Int) : (usedV vs p).length ≤ vs.length := List.length_filter_le _ _

end Go.Proofs.Ytbfedahonfjpfaa
