/-
  The names that were met: each is the name of a sound of a sign before, and none comes twice.
-/
import Derived.Test.YthnhpgmohhaeaaaDoorNmd
namespace Go.Proofs.YthnhpgmohhaeaaaDoor
open Go.RowKit

/-- x is the name of the sound t that sign i bears -/
def NmAt (l : Li) (p : Int) (i : Nat) (t x : ByteArray) : Prop := ∃ s, l.signs[i]? = some s ∧ textB 1 t = true ∧ bearB s 1 t p = true ∧ nameR l i t p = (x, 0)
/-- sound t of sign i' comes before value j of sign i -/
def Before (l : Li) (p : Int) (i j i' : Nat) (t : ByteArray) : Prop := i' < i ∨ (i' = i ∧ ∃ s k v, l.signs[i]? = some s ∧ k < j ∧ (usedV s.vals p)[k]? = some v ∧ v.kind = 1 ∧ v.text = t)
def NamesOk (l : Li) (p : Int) (i j : Nat) (names : List ByteArray) : Prop := ∀ x ∈ names, ∃ i' t, NmAt l p i' t x ∧ Before l p i j i' t

theorem NamesOk.nil (l : Li) (p : Int) (i j : Nat) : NamesOk l p i j [] := fun x h => by cases h
theorem Before.more {l : Li} {p : Int} {i j i' : Nat} {t : ByteArray} (h : Before l p i j i' t) : Before l p i (j + 1) i' t := by
  rcases h with h | ⟨e, s, k, v, h1, h2, h3⟩
  · exact .inl h
  · exact .inr ⟨e, s, k, v, h1, by omega, h3⟩
theorem NamesOk.step {l : Li} {p : Int} {i j : Nat} {names : List ByteArray} (h : NamesOk l p i j names) : NamesOk l p i (j + 1) names := fun x hx => by
  obtain ⟨i', t, h1, h2⟩ := h x hx
  exact ⟨i', t, h1, h2.more⟩
theorem NamesOk.next {l : Li} {p : Int} {i j : Nat} {names : List ByteArray} (h : NamesOk l p i j names) : NamesOk l p (i + 1) 0 names := fun x hx => by
  obtain ⟨i', t, h1, h2⟩ := h x hx
  refine ⟨i', t, h1, .inl ?_⟩
  rcases h2 with h2 | ⟨h2, _⟩ <;> omega
theorem NamesOk.add {l : Li} {p : Int} {i j : Nat} {names : List ByteArray} {s : Sg} {v : Va} {x : ByteArray} (h : NamesOk l p i j names) (hs : l.signs[i]? = some s) (hv : (usedV s.vals p)[j]? = some v) (hk : v.kind = 1)
    (hn : NmAt l p i v.text x) : NamesOk l p i (j + 1) (names ++ [x]) := fun y hy => by
  rcases List.mem_append.1 hy with hy | hy
  · exact h.step y hy
  · have : y = x := by simpa using hy
    subst this
    exact ⟨i, v.text, hn, .inr ⟨rfl, s, j, v, hs, by omega, hv, hk, rfl⟩⟩
theorem opens_uniq {x : ByteArray} {n m : Nat} (hn : n ≤ x.size) (hm : m ≤ x.size) (h1 : ((bytes x).take n).all letB = true) (h2 : ∀ h : n < x.size, letB x[n] = false)
    (g1 : ((bytes x).take m).all letB = true) (g2 : ∀ h : m < x.size, letB x[m] = false) : n = m := by
  rcases Nat.lt_trichotomy n m with h | h | h
  · have hs : n < x.size := Nat.lt_of_lt_of_le h hm
    have := take_at g1 h hs
    rw [h2 hs] at this; cases this
  · exact h
  · have hs : m < x.size := Nat.lt_of_lt_of_le h hn
    have := take_at h1 h hs
    rw [g2 hs] at this; cases this
theorem nm_uniq {l : Li} {p : Int} {i i' : Nat} {t t' x : ByteArray} (h : checkErr l = 0) (hp : withinB p l.per = true) (h1 : NmAt l p i t x) (h2 : NmAt l p i' t' x) : i = i' ∧ t = t' := by
  obtain ⟨s, a1, a2, a3, a4⟩ := h1
  obtain ⟨s', b1, b2, b3, b4⟩ := h2
  obtain ⟨y, c1, c2, c3, c4, c5, c6⟩ := name_read h hp a1 a2 a3
  obtain ⟨y', d1, d2, d3, d4, d5, d6⟩ := name_read h hp b1 b2 b3
  rw [a4] at c1; rw [b4] at d1
  have e1 : y = x := by have := congrArg Prod.fst c1; exact this.symm
  have e2 : y' = x := by have := congrArg Prod.fst d1; exact this.symm
  subst e1
  subst e2
  have := opens_uniq c3 d3 c4 c5 d4 d5
  rw [this, d6] at c6
  have q1 : ((i' : Nat) : Int) = i := congrArg (fun q : Int × ByteArray × Int => q.1) c6
  have q2 : t' = t := congrArg (fun q : Int × ByteArray × Int => q.2.1) c6
  exact ⟨by omega, q2.symm⟩
theorem NamesOk.fresh {l : Li} {p : Int} {i j : Nat} {names : List ByteArray} {s : Sg} {v : Va} {x : ByteArray} (h : checkErr l = 0) (hp : withinB p l.per = true) (hn : NamesOk l p i j names)
    (hs : l.signs[i]? = some s) (hv : (usedV s.vals p)[j]? = some v) (hk : v.kind = 1) (hx : NmAt l p i v.text x) : ∀ y ∈ names, strEq y x = false := fun y hy => by
  cases hc : strEq y x with
  | false => rfl
  | true =>
    have : y = x := by
      apply bytes_inj
      rw [strEq_iff] at hc
      simpa [bytes] using hc
    subst this
    obtain ⟨i', t', h1, h2⟩ := hn y hy
    obtain ⟨e1, e2⟩ := nm_uniq h hp hx h1
    rcases h2 with h2 | ⟨_, s', k, v', g1, g2, g3, g4, g5⟩
    · omega
    · rw [hs] at g1
      injection g1 with g1
      subst g1
      exact absurd (used_apart l.per p s.vals (fun k v hv => vals_ok h hs hv) k j v' v g2 g3 hv (by rw [g4, hk]) (by rw [g5, e2]; exact strEq_refl _)) id
theorem nm_of {l : Li} {p : Int} {i j : Nat} {s : Sg} {v : Va} (h : checkErr l = 0) (hp : withinB p l.per = true) (hs : l.signs[i]? = some s) (hv : (usedV s.vals p)[j]? = some v) (hk : v.kind = 1) :
    ∃ x, NmAt l p i v.text x ∧ nameR l i v.text p = (x, 0) ∧ x.size ≤ 1000 ∧ v.text.size ≤ 8 ∧ v.text.size ≤ x.size ∧ ((bytes x).take v.text.size).all letB = true ∧ (∀ h : v.text.size < x.size, letB x[v.text.size] = false) ∧ pnameR l x v.text.size p = ((i : Int), v.text, 0) := by
  have hu := used_ok h hs (List.mem_of_getElem? hv)
  have hb := bear_used (List.mem_of_getElem? hv)
  rw [hk] at hu hb
  obtain ⟨x, c1, c2, c3, c4, c5, c6⟩ := name_read h hp hs hu.2 hb
  have h8 : v.text.size ≤ 8 := by have := hu.2; simp [textB, withinB] at this; omega
  exact ⟨x, ⟨s, hs, hu.2, hb, c1⟩, c1, c2, h8, c3, c4, c5, c6⟩

end Go.Proofs.YthnhpgmohhaeaaaDoor
