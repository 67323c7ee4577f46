/-
  Worlds in which all that lay in a world is as it was but for one block; boxes of a fraction.
-/
import Derived.Test.YtcijomljopbelaaGreatGaO
namespace Go.Proofs.YtcijomljopbelaaGreat
open Go.RowKit

/-- all that lay in W is as it was, but for the block x, which lies behind B -/
structure Kp (B : Nat) (W : World) (x : Nat) (w : World) : Prop where
  bel : Below B W w
  blk : ∀ b, b < W.heap.size → b ≠ x → w.heap[b]? = W.heap[b]?
theorem Kp.size {B : Nat} {W w : World} {x : Nat} (h : Kp B W x w) : W.heap.size ≤ w.heap.size := h.bel.size
theorem Kp.refl (B : Nat) (W : World) (x : Nat) : Kp B W x W := ⟨Below.refl _ _, fun _ _ _ => rfl⟩
theorem Kp.below {B : Nat} {W w w' : World} {x : Nat} (h : Kp B W x w) (hB : B ≤ W.heap.size) (hb : Below w.heap.size w w') : Kp B W x w' :=
  ⟨h.bel.trans (hb.mono (Nat.le_trans hB h.size)), fun b h1 h2 => (hb.block b (Nat.lt_of_lt_of_le h1 h.size)).trans (h.blk b h1 h2)⟩
theorem Kp.drew {B : Nat} {W w : World} {x : Nat} (h : Kp B W x w) : Kp B W x w.drew := ⟨h.bel.drew, h.blk⟩
theorem Kp.alloc {B : Nat} {W w : World} {x : Nat} (h : Kp B W x w) (hB : B ≤ W.heap.size) (o : Obj) : Kp B W x (w.alloc o) := h.below hB (below_alloc w o)
theorem setCell_size (w : World) (a : Addr) (u : Value) : (w.setCell a u).heap.size = w.heap.size := by simp [World.setCell]
theorem Kp.set {B : Nat} {W w : World} {x : Nat} (h : Kp B W x w) (g o : Nat) (u : Value) (hB : B ≤ g) (hg : g = x ∨ W.heap.size ≤ g) : Kp B W x (w.setCell ⟨g, o, none⟩ u) :=
  ⟨h.bel.setCell hB u, fun b h1 h2 => (heap_setCell_other _ _ _ _ (by dsimp only; rcases hg with rfl | hg; exact h2; omega)).trans (h.blk b h1 h2)⟩
theorem Kp.keep {B : Nat} {W w : World} {x g : Nat} (h : Kp B W x w) (hg : g ≠ x) {cs : Array Value} {t : TypeId} (hb : W.heap[g]? = some (.cells cs t (0, 0))) : w.heap[g]? = some (.cells cs t (0, 0)) :=
  (h.blk g (Array.getElem?_eq_some_iff.1 hb).1 hg).trans hb

/-- a box that holds a fraction -/
def Has (g : Nat) (n d : Int) (w : World) : Prop := w.heap[g]? = some (.cells #[.int .i64 n, .int .i64 d] 40 (0, 0))
theorem Has.set2 {g : Nat} {x y : Int} (a b : Int) {w : World} (h : Has g x y w) : Has g a b ((w.setCell ⟨g, 0, none⟩ (.int .i64 a)).setCell ⟨g, 1, none⟩ (.int .i64 b)) := by
  have k1 := heap_setCell_same w g 0 (.int .i64 a) _ _ h
  have k2 := heap_setCell_same _ g 1 (.int .i64 b) _ _ k1
  unfold Has
  simpa using k2
theorem Has.other {g h : Nat} {n d : Int} {u v : Value} {w : World} (hne : g ≠ h) (k : Has g n d w) : Has g n d ((w.setCell ⟨h, 0, none⟩ u).setCell ⟨h, 1, none⟩ v) :=
  (heap_setCell_other _ _ _ _ hne).trans ((heap_setCell_other _ _ _ _ hne).trans k)
theorem Has.drew {g : Nat} {n d : Int} {w : World} (k : Has g n d w) : Has g n d w.drew := k
theorem Has.alloc {g : Nat} {n d : Int} {w : World} (k : Has g n d w) (o : Obj) : Has g n d (w.alloc o) := blk_keep (below_alloc w o) k
theorem Has.below {g : Nat} {n d : Int} {w w' : World} (k : Has g n d w) (hb : Below w.heap.size w w') : Has g n d w' := blk_keep hb k
theorem Has.new (w : World) (n d : Int) : Has w.heap.size n d (w.alloc (.cells #[.int .i64 n, .int .i64 d] 40)) := heap_alloc_new _ _
theorem Has.lt {g : Nat} {n d : Int} {w : World} (k : Has g n d w) : g < w.heap.size := (Array.getElem?_eq_some_iff.1 k).1
theorem Has.c0 {g : Nat} {n d : Int} {w : World} (k : Has g n d w) : w.cell? ⟨g, 0, none⟩ = some (.int .i64 n) := by have := cell_of_blk k 0; simpa using this
theorem Has.c1 {g : Nat} {n d : Int} {w : World} (k : Has g n d w) : w.cell? ⟨g, 1, none⟩ = some (.int .i64 d) := by have := cell_of_blk k 1; simpa using this
theorem Has.f0 {g : Nat} {n d : Int} {w : World} (k : Has g n d w) : w.frozen? ⟨g, 0, none⟩ = false := free_of_blk k 0
theorem Has.f1 {g : Nat} {n d : Int} {w : World} (k : Has g n d w) : w.frozen? ⟨g, 1, none⟩ = false := free_of_blk k 1

end Go.Proofs.YtcijomljopbelaaGreat
