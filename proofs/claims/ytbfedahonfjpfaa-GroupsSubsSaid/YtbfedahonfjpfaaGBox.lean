/-
  A text that a law puts into a box of its own.
-/
import Derived.Test.YtbfedahonfjpfaaGCmp
import Derived.Test.YtbfedahonfjpfaaGSub
namespace Go.Proofs.Ytbfedahonfjpfaa
open Go.RowKit

/-- a box that holds a text that was made -/
def TBox (w1 wx : World) (x : Nat) (zs : List Nd) : Prop :=
  ∃ A k c, Below w1.heap.size w1 wx ∧ wx.heap[x]? = some (.cells #[.slice A k c] 27 (0, 0)) ∧ k = zs.length ∧ NdsAt wx A zs
theorem tbox_at {P2 wp P3 wx : World} {w1 : World} {zs : List Nd} {x : Nat} {A : Option Addr} {k c : Nat}
    (hwx : wx = P3.setCell ⟨x, 0, none⟩ (.slice A k c)) (hw : Below w1.heap.size w1 P2) (hp : Below P2.heap.size P2 wp) (h3 : Below wp.heap.size wp P3)
    (hk : k = zs.length) (own : wp.ownsRow P2.heap.size 78 8 (.slice A k c) k (zs.flatMap Nd.cells)) (hx1 : w1.heap.size ≤ x)
    (hx : (P2.heap[x]? = some (Obj.cells #[.slice none 0 0] 27 (0, 0))) ∨ (P3.heap[x]? = some (Obj.cells #[.slice none 0 0] 27 (0, 0)) ∧ wp.heap.size ≤ x)) : TBox w1 wx x zs := by
  subst hwx
  have s1 := hw.size
  have s2 := hp.size
  have s3 := h3.size
  have hx2 : P3.heap[x]? = some (Obj.cells #[.slice none 0 0] 27 (0, 0)) ∧ (x < P2.heap.size ∨ wp.heap.size ≤ x) := by
    rcases hx with h | ⟨h, hq⟩
    · have := (Array.getElem?_eq_some_iff.1 h).1
      exact ⟨((below_more hp h3).block x this).trans h, .inl this⟩
    · exact ⟨h, .inr hq⟩
  obtain ⟨bx, hx3⟩ := hx2
  refine ⟨A, k, c, (below_more hw (below_more hp h3)).setCell hx1 _, ?_, hk, own_nodes (ownsRow_of_block own (fun g hg => ?_))⟩
  · rw [heap_setCell_same _ _ _ _ _ _ bx]; rfl
  · have := own.lt g hg
    rw [heap_setCell_other _ _ _ _ (by dsimp only; omega)]; exact h3.block g this.2
theorem tbox_of {w1 P0 wl P1 wt P2 wp wx : World} (P3 : World) {zs : List Nd} {x : Nat} {A : Option Addr} {k c : Nat}
    (hwx : wx = P3.setCell ⟨x, 0, none⟩ (.slice A k c)) (hl : Hid (Below P0.heap.size P0 wl)) (ht : Hid (Below P1.heap.size P1 wt)) (hp : Hid (Below P2.heap.size P2 wp))
    (hk : Hid (k = zs.length)) (own : Hid (wp.ownsRow P2.heap.size 78 8 (.slice A k c) k (zs.flatMap Nd.cells)))
    (h0 : Below w1.heap.size w1 P0) (h1 : Below wl.heap.size wl P1) (h2 : Below wt.heap.size wt P2) (h3 : Below wp.heap.size wp P3)
    (hx : (P0.heap[x]? = some (Obj.cells #[.slice none 0 0] 27 (0, 0)) ∧ w1.heap.size ≤ x) ∨ (P1.heap[x]? = some (Obj.cells #[.slice none 0 0] 27 (0, 0)) ∧ wl.heap.size ≤ x) ∨
      (P2.heap[x]? = some (Obj.cells #[.slice none 0 0] 27 (0, 0)) ∧ wt.heap.size ≤ x) ∨ (P3.heap[x]? = some (Obj.cells #[.slice none 0 0] 27 (0, 0)) ∧ wp.heap.size ≤ x)) : TBox w1 wx x zs := by
  have hl := hl.out
  have ht := ht.out
  have hp := hp.out
  have s0 := h0.size
  have s1 := hl.size
  have s2 := h1.size
  have s3 := ht.size
  have s4 := h2.size
  have s5 := hp.size
  refine tbox_at hwx (below_more (below_more h0 hl) (below_more h1 (below_more ht h2))) hp h3 hk.out own.out ?_ ?_
  · rcases hx with ⟨_, h⟩ | ⟨_, h⟩ | ⟨_, h⟩ | ⟨_, h⟩ <;> omega
  · rcases hx with ⟨h, _⟩ | ⟨h, _⟩ | ⟨h, _⟩ | h
    · exact .inl (((below_more hl (below_more h1 (below_more ht h2))).block x (Array.getElem?_eq_some_iff.1 h).1).trans h)
    · exact .inl (((below_more ht h2).block x (Array.getElem?_eq_some_iff.1 h).1).trans h)
    · exact .inl h
    · exact .inr h
theorem tbox_of2 {w1 P0 wl P1 wt P1' wt2 P2 wp wx : World} (P3 : World) {zs : List Nd} {x : Nat} {A : Option Addr} {k c : Nat}
    (hwx : wx = P3.setCell ⟨x, 0, none⟩ (.slice A k c)) (hl : Hid (Below P0.heap.size P0 wl)) (ht : Hid (Below P1.heap.size P1 wt)) (ht2 : Hid (Below P1'.heap.size P1' wt2)) (hp : Hid (Below P2.heap.size P2 wp))
    (hk : Hid (k = zs.length)) (own : Hid (wp.ownsRow P2.heap.size 78 8 (.slice A k c) k (zs.flatMap Nd.cells)))
    (h0 : Below w1.heap.size w1 P0) (h1 : Below wl.heap.size wl P1) (h1' : Below wt.heap.size wt P1') (h2 : Below wt2.heap.size wt2 P2) (h3 : Below wp.heap.size wp P3)
    (hx : (P0.heap[x]? = some (Obj.cells #[.slice none 0 0] 27 (0, 0)) ∧ w1.heap.size ≤ x) ∨ (P1.heap[x]? = some (Obj.cells #[.slice none 0 0] 27 (0, 0)) ∧ wl.heap.size ≤ x) ∨
      (P1'.heap[x]? = some (Obj.cells #[.slice none 0 0] 27 (0, 0)) ∧ wt.heap.size ≤ x) ∨ (P2.heap[x]? = some (Obj.cells #[.slice none 0 0] 27 (0, 0)) ∧ wt2.heap.size ≤ x) ∨ (P3.heap[x]? = some (Obj.cells #[.slice none 0 0] 27 (0, 0)) ∧ wp.heap.size ≤ x)) : TBox w1 wx x zs := by
  have hl := hl.out
  have ht := ht.out
  have ht2 := ht2.out
  have hp := hp.out
  have s0 := h0.size
  have s1 := hl.size
  have s2 := h1.size
  have s3 := ht.size
  have s3' := h1'.size
  have s3'' := ht2.size
  have s4 := h2.size
  have s5 := hp.size
  have hm : Below P1'.heap.size P1' P2 := below_more ht2 h2
  have hm2 : Below P1.heap.size P1 P2 := below_more ht (below_more h1' hm)
  refine tbox_at hwx (below_more (below_more h0 hl) (below_more h1 hm2)) hp h3 hk.out own.out ?_ ?_
  · rcases hx with ⟨_, h⟩ | ⟨_, h⟩ | ⟨_, h⟩ | ⟨_, h⟩ | ⟨_, h⟩ <;> omega
  · rcases hx with ⟨h, _⟩ | ⟨h, _⟩ | ⟨h, _⟩ | ⟨h, _⟩ | h
    · exact .inl (((below_more hl (below_more h1 hm2)).block x (Array.getElem?_eq_some_iff.1 h).1).trans h)
    · exact .inl ((hm2.block x (Array.getElem?_eq_some_iff.1 h).1).trans h)
    · exact .inl ((hm.block x (Array.getElem?_eq_some_iff.1 h).1).trans h)
    · exact .inl h
    · exact .inr h

end Go.Proofs.Ytbfedahonfjpfaa
