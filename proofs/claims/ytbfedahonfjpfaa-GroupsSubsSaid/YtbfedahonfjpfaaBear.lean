/-
  Contracts of inUse, bears, bearers, hasSign, checkSignInPeriod.
-/
import Derived.Test.YtbfedahonfjpfaaCopy
namespace Go.Proofs.Ytbfedahonfjpfaa
open Go.RowKit

def useB (v : Va) (p : Int) : Bool := decide (v.fr ≤ p) && decide (p ≤ v.to)
theorem blk_keep {W w' : World} (hb : Below W.heap.size W w') {g : Nat} {cs : Array Value} {t : TypeId} (h : W.heap[g]? = some (.cells cs t (0, 0))) : w'.heap[g]? = some (.cells cs t (0, 0)) :=
  (hb.block g (Array.getElem?_eq_some_iff.1 h).1).trans h

/-- a sign has a value in a period -/
def bearV (k : Int) (t : ByteArray) (p : Int) (v : Va) : Bool := (v.kind == k && strEq v.text t) && useB v p
def bearB (s : Sg) (k : Int) (t : ByteArray) (p : Int) : Bool := s.vals.any (bearV k t p)

def bearFrom (k : Int) (t : ByteArray) (p : Int) : Nat → List Sg → List Int
  | _, [] => []
  | i, s :: r => if bearB s k t p then (i : Int) :: bearFrom k t p (i + 1) r else bearFrom k t p (i + 1) r
theorem bearFrom_snoc (k : Int) (t : ByteArray) (p : Int) : ∀ (l : List Sg) (i : Nat) (s : Sg), bearFrom k t p i (l ++ [s]) = bearFrom k t p i l ++ (if bearB s k t p then [((i + l.length : Nat) : Int)] else [])
  | [], i, s => by simp [bearFrom]
  | x :: l, i, s => by
    simp only [List.cons_append, bearFrom]
    have ih := bearFrom_snoc k t p l (i + 1) s
    rw [show i + 1 + l.length = i + (x :: l).length by simp; omega] at ih
    split <;> simp [ih]
theorem bearFrom_len (k : Int) (t : ByteArray) (p : Int) : ∀ (l : List Sg) (i : Nat), (bearFrom k t p i l).length ≤ l.length
  | [], _ => by simp [bearFrom]
  | x :: l, i => by
    have := bearFrom_len k t p l (i + 1)
    simp only [bearFrom]; split <;> simp <;> omega
theorem infoInt : (Try.prog.info? 3).map (fun i => (i.zero, i.size, i.bytes)) = some (some (.int .i64 0), 1, 8) := by kernel_rfl
/-- a slice of numbers -/
def IntsAt (w : World) (A : Option Addr) (zs : List Int) : Prop := ∀ ad, A = some ad → ∃ g, ad = ⟨g, 0, none⟩ ∧ g < w.heap.size ∧ ∀ j, j < zs.length → w.cell? ⟨g, j, none⟩ = some (.int .i64 (zs.getD j 0))
def GotInts (w : World) (zs : List Int) (e : Ending) (w' : World) : Prop :=
  ∃ A c, e = .returned (.slice A zs.length c) ∧ IntsAt w' A zs ∧ (A = none → zs = []) ∧ Below w.heap.size w w'
theorem is_ints {w : World} {base : Nat} {v : Value} {n : Nat} {zs : List Int} {e : TypeId} (h : w.ownsRow base e 1 v n (zs.map (Value.int .i64))) : ∃ A c, v = .slice A zs.length c ∧ IntsAt w A zs ∧ (A = none → zs = []) := by
  have hn : n = zs.length := by have := h.1; simp at this; exact this.symm
  subst hn
  obtain ⟨A, c, rfl, h1, h2, hA, hn⟩ := own_slice h
  refine ⟨A, c, rfl, fun ad e => ?_, fun e => List.eq_nil_of_length_eq_zero (hn e)⟩
  obtain ⟨g, rfl, _, hg, hc⟩ := hA ad e
  exact ⟨g, rfl, hg, fun j hj => hc j _ (by rw [List.getElem?_map, List.getElem?_eq_getElem hj]; simp [hj])⟩
end Go.Proofs.Ytbfedahonfjpfaa
