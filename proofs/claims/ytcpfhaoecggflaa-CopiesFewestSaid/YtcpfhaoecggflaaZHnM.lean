/-
  What Hands answers, and its table in memory (layer 9).
-/
import Derived.Test.YtcpfhaoecggflaaZHfw
import Derived.Test.YtcpfhaoecggflaaZApa
namespace Go.Proofs.Ytcpfhaoecggflaa
open Go.RowKit

/-- a copy's tallies, and where they lie -/
structure Tr where
  A : Option Addr
  c : Nat
  ts : List (Int × Int)
def TrsIn (w : World) (S : Option Addr) (L : List Tr) : Prop := ∀ (k : Nat) (r : Tr), L[k]? = some r → ∃ b o, S = some ⟨b, o, none⟩ ∧ b < w.heap.size ∧ w.cell? ⟨b, o + k, none⟩ = some (.slice r.A r.ts.length r.c) ∧ TlsIn w r.A r.ts ∧ r.ts.length ≤ maxLen
theorem TrsIn.below {w w' : World} {S : Option Addr} {L : List Tr} (h : TrsIn w S L) (hb : Below w.heap.size w w') : TrsIn w' S L := fun k r hk => by
  obtain ⟨b, o, e, hlt, hc, hi, hl⟩ := h k r hk
  exact ⟨b, o, e, Nat.lt_of_lt_of_le hlt hb.size, ((bcell hb).1 _ _ hlt).trans hc, hi.below hb, hl⟩
def apAt (L : List Tr) (n d : Int) (i k : Nat) : Bool := match L[i]?, L[k]? with
  | some a, some b => apV a.ts b.ts n d
  | _, _ => false
def erAt (L : List Tr) (n d : Int) (i k : Nat) : Int := match L[i]?, L[k]? with
  | some a, some b => apE a.ts b.ts n d
  | _, _ => 0
theorem apAt_is {L : List Tr} {n d : Int} {i k : Nat} {a b : Tr} (ha : L[i]? = some a) (hb : L[k]? = some b) : apAt L n d i k = apV a.ts b.ts n d := by unfold apAt; rw [ha, hb]
theorem erAt_is {L : List Tr} {n d : Int} {i k : Nat} {a b : Tr} (ha : L[i]? = some a) (hb : L[k]? = some b) : erAt L n d i k = apE a.ts b.ts n d := by unfold erAt; rw [ha, hb]
/-- the pairs before one -/
def bef (i k i' k' : Nat) : Prop := i' < i ∨ (i' = i ∧ k' < k)
/-- the error of Hands, and its list -/
def IsHn (L : List Tr) (n d : Int) (E : Int) (l : List Nat) : Prop :=
  (8 < L.length ∧ E = 2 ∧ l = []) ∨ (L.length = 1 ∧ E = erAt L n d 0 0 ∧ E ≠ 0 ∧ l = []) ∨
  (L.length ≤ 8 ∧ (L.length = 1 → erAt L n d 0 0 = 0) ∧ (∃ i k, i < k ∧ k < L.length ∧ E = erAt L n d i k ∧ E ≠ 0 ∧ ∀ i' k', i' < k' → k' < L.length → bef i k i' k' → erAt L n d i' k' = 0) ∧ l = []) ∨
  (L.length ≤ 8 ∧ (L.length = 1 → erAt L n d 0 0 = 0) ∧ (∀ i k, i < k → k < L.length → erAt L n d i k = 0) ∧ E = 0 ∧ IsHands (apAt L n d) L.length l)
theorem IsHn.uniq {L : List Tr} {n d E E' : Int} {l l' : List Nat} (h : IsHn L n d E l) (h' : IsHn L n d E' l') : E = E' ∧ l = l' := by
  rcases h with ⟨a1, a2, a3⟩ | ⟨a1, a2, a3, a4⟩ | ⟨a1, a2, ⟨i, k, a3, a4, a5, a6, a7⟩, a8⟩ | ⟨a1, a2, a3, a4, a5⟩ <;>
  rcases h' with ⟨b1, b2, b3⟩ | ⟨b1, b2, b3, b4⟩ | ⟨b1, b2, ⟨p, q, b3, b4, b5, b6, b7⟩, b8⟩ | ⟨b1, b2, b3, b4, b5⟩
  · exact ⟨a2.trans b2.symm, a3.trans b3.symm⟩
  · omega
  · omega
  · omega
  · omega
  · exact ⟨a2.trans b2.symm, a4.trans b4.symm⟩
  · omega
  · exact absurd (a2.trans (b2 a1)) a3
  · omega
  · omega
  · refine ⟨?_, a8.trans b8.symm⟩
    by_cases e : i = p ∧ k = q
    · obtain ⟨rfl, rfl⟩ := e; exact a5.trans b5.symm
    · by_cases e2 : bef i k p q
      · have := a7 p q b3 b4 e2; rw [← b5] at this; exact absurd this b6
      · have := b7 i k a3 a4 (by unfold bef at *; omega)
        rw [← a5] at this; exact absurd this a6
  · have := b3 i k a3 a4; rw [← a5] at this; exact absurd this a6
  · omega
  · exact absurd (b2.trans (a2 b1)) b3
  · have := a3 p q b3 b4; rw [← b5] at this; exact absurd this b6
  · exact ⟨a4.trans b4.symm, a5.uniq b5⟩
def toZ (l : List Nat) : List Int := l.map fun (c : Nat) => Int.ofNat c
def GotHn (w : World) (L : List Tr) (n d : Int) (e : Ending) (w' : World) : Prop :=
  ∃ A c E l, e = .returned (.tuple #[.slice A l.length c, .int .i64 E]) ∧ Hid (IsHn L n d E l) ∧ Hid (IntsIn w' A (toZ l)) ∧ Below w.heap.size w w'
theorem hn_err {w w' : World} {L : List Tr} {n d E : Int} (h : IsHn L n d E []) (hb : Below w.heap.size w w') : GotHn w L n d (.returned (.tuple #[.slice none 0 0, .int .i64 E])) w' :=
  ⟨none, 0, E, [], rfl, Lib.hid h, Lib.hid (ints_nil _), hb⟩
theorem nats_ints {w : World} {base : Nat} {A : Option Addr} {n c : Nat} {l : List Nat} (h : w.ownsRow base 3 1 (.slice A n c) n (natsV l)) : IntsIn w A (toZ l) := by
  refine own_ints (base := base) (n := n) (c := c) ?_
  have e : intsZ (toZ l) = natsV l := by unfold intsZ natsV toZ; rw [List.map_map]; rfl
  rw [e]; exact h
/-- the table, as far as it is filled -/
structure TbAt (w : World) (g : Nat) (ap : Nat → Nat → Bool) (m i j : Nat) : Prop where
  blk : ∃ cs : List Value, w.heap[g]? = some (.cells cs.toArray 122 (0, 0)) ∧ cs.length = 64 ∧ ∀ i' k', i' < k' → k' < m → bef i j i' k' → cs[i' * 8 + k']? = some (.bool (ap i' k'))
theorem TbAt.below {w w' : World} {g : Nat} {ap : Nat → Nat → Bool} {m i j : Nat} (h : TbAt w g ap m i j) (hb : Below w.heap.size w w') : TbAt w' g ap m i j := by
  obtain ⟨cs, h1, h2⟩ := h.blk
  exact ⟨cs, blk_keep hb h1, h2⟩
theorem TbAt.lt {w : World} {g : Nat} {ap : Nat → Nat → Bool} {m i j : Nat} (h : TbAt w g ap m i j) : g < w.heap.size := by
  obtain ⟨cs, h1, _⟩ := h.blk
  exact (Array.getElem?_eq_some_iff.1 h1).1
theorem TbAt.cell {w : World} {g : Nat} {ap : Nat → Nat → Bool} {m i j : Nat} (h : TbAt w g ap m i j) {x : Nat} (hx : x < 64) : (∃ u, w.cell? ⟨g, x, none⟩ = some u) ∧ w.frozen? ⟨g, x, none⟩ = false := by
  obtain ⟨cs, h1, h2, _⟩ := h.blk
  exact ⟨⟨cs[x], by rw [cell_of_blk h1, List.getElem?_toArray]; exact List.getElem?_eq_getElem (by omega)⟩, free_of_blk h1 _⟩
theorem TbAt.row {w : World} {g : Nat} {ap : Nat → Nat → Bool} {m i : Nat} (h : TbAt w g ap m i m) : TbAt w g ap m (i + 1) (i + 1 + 1) := by
  obtain ⟨cs, h1, h2, h3⟩ := h.blk
  exact ⟨cs, h1, h2, fun i' k' a b c => h3 i' k' a b (by unfold bef at *; omega)⟩
/-- two numbers more -/
theorem TbAt.set {w : World} {g : Nat} {ap : Nat → Nat → Bool} {m i j : Nat} {V : Bool} (h : TbAt w g ap m i j) (hij : i < j) (hj : j < m) (hm : m ≤ 8) (hV : ap i j = V) :
    TbAt ((w.setCell ⟨g, i * 8 + j, none⟩ (.bool V)).setCell ⟨g, j * 8 + i, none⟩ (.bool V)) g ap m i (j + 1) := by
  obtain ⟨cs, h1, h2, h3⟩ := h.blk
  have e1 := heap_setCell_same w g (i * 8 + j) (.bool V) _ _ h1
  have e2 := heap_setCell_same _ g (j * 8 + i) (.bool V) _ _ e1
  refine ⟨(cs.set (i * 8 + j) (.bool V)).set (j * 8 + i) (.bool V), by rw [e2]; simp, by simp [h2], fun i' k' a b c => ?_⟩
  rw [List.getElem?_set_ne (by omega)]
  by_cases e : i' = i ∧ k' = j
  · obtain ⟨rfl, rfl⟩ := e
    rw [List.getElem?_set_self (by omega), hV]
  · rw [List.getElem?_set_ne (by unfold bef at c; omega)]
    exact h3 i' k' a b (by unfold bef at *; omega)

end Go.Proofs.Ytcpfhaoecggflaa
