/-
  The specification's variants in a row of the call's own (layer 9). Written by gen/genrvm.py.
-/
import Derived.Test.YtcpfhaoecggflaaZRex
import Derived.Test.YtcpfhaoecggflaaZVpu
namespace Go.Proofs.Ytcpfhaoecggflaa
open Go.RowKit

structure OwnRv (w : World) (base : Nat) (v : Value) (vs : List Vn) : Prop where
  own : w.ownsRow base 40 3 v vs.length (vs.flatMap Vn.cells)
  ok : ∀ x ∈ vs, IntsIn w x.A x.sg ∧ ∀ g o, x.A = some ⟨g, o, none⟩ → 0 < x.sg.length → v.ownBlock ≠ some g
theorem OwnRv.nil (w : World) (base : Nat) : OwnRv w base (.slice none 0 0) [] := ⟨by simpa using World.ownsRow_nil _ _ _ _, fun r h => by cases h⟩
theorem OwnRv.below {w w' : World} {base : Nat} {v : Value} {vs : List Vn} (h : OwnRv w base v vs) (hb : Below w.heap.size w w') : OwnRv w' base v vs :=
  ⟨own_below h.own hb, fun x hx => ⟨(h.ok x hx).1.below hb, (h.ok x hx).2⟩⟩
theorem OwnRv.snoc {w w' : World} {base n : Nat} {v v' : Value} {vs : List Vn} {x : Vn} (h : OwnRv w base v vs) (hn : n = vs.length + 1) (hg : w.grownBy w' v.ownBlock) (hv : v'.ownBlock = v.ownBlock ∨ v'.ownBlock = some w.heap.size)
    (hx : IntsIn w x.A x.sg) (hxa : ∀ g o, x.A = some ⟨g, o, none⟩ → 0 < x.sg.length → v.ownBlock ≠ some g)
    (hown : w'.ownsRow base 40 3 v' n (vs.flatMap Vn.cells ++ x.cells)) : OwnRv w' base v' (vs ++ [x]) := by
  subst hn
  refine ⟨by rw [List.length_append, List.flatMap_append]; simpa using hown, fun y hy => ?_⟩
  have key : IntsIn w y.A y.sg ∧ ∀ g o, y.A = some ⟨g, o, none⟩ → 0 < y.sg.length → v.ownBlock ≠ some g := by
    rcases List.mem_append.1 hy with hy | hy
    · exact h.ok y hy
    · simp at hy; subst hy; exact ⟨hx, hxa⟩
  obtain ⟨k1, k2⟩ := key
  refine ⟨k1.blocks hg.size fun g o e h0 hlt => hg.block g hlt fun e2 => k2 g o e h0 e2.symm, fun g o e h0 e2 => ?_⟩
  rcases hv with hv | hv
  · rw [hv] at e2; exact k2 g o e h0 e2
  · rw [hv] at e2; injection e2 with e2
    have := IntsIn.lt (e ▸ k1) h0; omega
/-- stretches that lie apart from a row -/
def RsAp (v sv : Value) (rs : List Sr) : Prop := ∀ k, v.ownBlock = some k → sv.ownBlock ≠ some k ∧ ∀ r ∈ rs, r.val.ownBlock ≠ some k
theorem OwnRs.keep {w w' : World} {base : Nat} {sv : Value} {rs : List Sr} (h : OwnRs w base sv rs) (hb : ∀ k, k < w.heap.size → (sv.ownBlock = some k ∨ ∃ r ∈ rs, r.val.ownBlock = some k) → w'.heap[k]? = w.heap[k]?) : OwnRs w' base sv rs :=
  ⟨ownsRow_of_block h.own fun k hk => hb k (h.own.lt k hk).2 (.inl hk), fun r hr => ⟨ownsRow_of_block (h.ok r hr).1 fun k hk => hb k ((h.ok r hr).1.lt k hk).2 (.inr ⟨r, hr, hk⟩), (h.ok r hr).2⟩, h.apart⟩
theorem OwnRs.grown {w w' : World} {base : Nat} {v v' sv : Value} {rs : List Sr} (h : OwnRs w base sv rs) (ha : RsAp v sv rs) (hg : w.grownBy w' v.ownBlock) (hv : v'.ownBlock = v.ownBlock ∨ v'.ownBlock = some w.heap.size) : OwnRs w' base sv rs ∧ RsAp v' sv rs := by
  refine ⟨h.keep fun k hk hor => hg.block k hk fun e => ?_, fun k hk => ?_⟩
  · rcases hor with h1 | ⟨r, hr, h1⟩
    · exact (ha k e.symm).1 h1
    · exact (ha k e.symm).2 r hr h1
  · rcases hv with hv | hv
    · rw [hv] at hk; exact ha k hk
    · rw [hv] at hk; injection hk with hk
      exact ⟨fun e => by have := (h.own.lt k e).2; omega, fun r hr e => by have := ((h.ok r hr).1.lt k e).2; omega⟩

end Go.Proofs.Ytcpfhaoecggflaa
