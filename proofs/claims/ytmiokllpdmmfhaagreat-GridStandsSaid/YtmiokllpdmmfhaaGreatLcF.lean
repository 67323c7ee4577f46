/-
  Boxes of a fraction. And what builds on it.
-/
import Derived.Test.YtmiokllpdmmfhaaGreatBox
namespace Go.Proofs.YtmiokllpdmmfhaaGreat
open Go.RowKit
def Has (g : Nat) (n d : Int) (w : World) : Prop := w.heap[g]? = some (.cells #[.int .i64 n, .int .i64 d] 40 (0, 0))
theorem Has.set2 {g : Nat} {x y : Int} (a b : Int) {w : World} (h : Has g x y w) : Has g a b ((w.setCell ⟨g, 0, none⟩ (.int .i64 a)).setCell ⟨g, 1, none⟩ (.int .i64 b)) := by
  have k1 := heap_setCell_same w g 0 (.int .i64 a) _ _ h
  have k2 := heap_setCell_same _ g 1 (.int .i64 b) _ _ k1
  unfold Has
  simpa using k2
theorem Has.other {g h : Nat} {n d : Int} {u v : Value} {w : World} (hne : g ≠ h) (k : Has g n d w) : Has g n d ((w.setCell ⟨h, 0, none⟩ u).setCell ⟨h, 1, none⟩ v) :=
  (heap_setCell_other _ _ _ _ hne).trans ((heap_setCell_other _ _ _ _ hne).trans k)
theorem Has.drew {g : Nat} {n d : Int} {w : World} (k : Has g n d w) : Has g n d w.drew := k
theorem Has.alloc {g : Nat} {n d : Int} {w : World} (k : Has g n d w) (o : Obj) : Has g n d (w.alloc o) := blk_keep (below_alloc w o) k
theorem Has.below {g : Nat} {n d : Int} {w w' : World} (k : Has g n d w) (hb : Below w.heap.size w w') : Has g n d w' := blk_keep hb k
theorem Has.new (w : World) (n d : Int) : Has w.heap.size n d (w.alloc (.cells #[.int .i64 n, .int .i64 d] 40)) := heap_alloc_new _ _
theorem Has.lt {g : Nat} {n d : Int} {w : World} (k : Has g n d w) : g < w.heap.size := (Array.getElem?_eq_some_iff.1 k).1
theorem Has.c0 {g : Nat} {n d : Int} {w : World} (k : Has g n d w) : w.cell? ⟨g, 0, none⟩ = some (.int .i64 n) := by have := cell_of_blk k 0; simpa using this
theorem Has.c1 {g : Nat} {n d : Int} {w : World} (k : Has g n d w) : w.cell? ⟨g, 1, none⟩ = some (.int .i64 d) := by have := cell_of_blk k 1; simpa using this
theorem Has.f0 {g : Nat} {n d : Int} {w : World} (k : Has g n d w) : w.frozen? ⟨g, 0, none⟩ = false := free_of_blk k 0
theorem Has.f1 {g : Nat} {n d : Int} {w : World} (k : Has g n d w) : w.frozen? ⟨g, 1, none⟩ = false := free_of_blk k 1
open Go.RowKit
structure New2 (V : World) (g h : Nat) (a b : Fr) (w : World) : Prop where
  bel : Below V.heap.size V w
  h1 : Has g a.num a.den w
  h2 : Has h b.num b.den w
  l1 : V.heap.size ≤ g
  l2 : V.heap.size ≤ h
  ne : g ≠ h
variable {V wb : World} {g h : Nat} {a b : Fr}
theorem New2.both (kb : Below V.heap.size V wb) (h8 : Has g 0 0 wb) (h9 : Has h 0 0 wb) (l1 : V.heap.size ≤ g) (l2 : V.heap.size ≤ h) (ne : g ≠ h) :
    New2 V g h a b ((((wb.setCell ⟨g, 0, none⟩ (.int .i64 a.num)).setCell ⟨g, 1, none⟩ (.int .i64 a.den)).setCell ⟨h, 0, none⟩ (.int .i64 b.num)).setCell ⟨h, 1, none⟩ (.int .i64 b.den)) :=
  ⟨(((kb.setCell l1 _).setCell l1 _).setCell l2 _).setCell l2 _, (h8.set2 _ _).other ne, (h9.other ne.symm).set2 _ _, l1, l2, ne⟩
theorem size_two (wb : World) (g : Nat) (u v : Value) : ((wb.setCell ⟨g, 0, none⟩ u).setCell ⟨g, 1, none⟩ v).heap.size = wb.heap.size := by simp [World.setCell]
theorem New2.fst (kb : Below V.heap.size V wb) (h8 : Has g 0 0 wb) (l1 : V.heap.size ≤ g) :
    New2 V g wb.heap.size a b (((wb.setCell ⟨g, 0, none⟩ (.int .i64 a.num)).setCell ⟨g, 1, none⟩ (.int .i64 a.den)).alloc (.cells #[.int .i64 b.num, .int .i64 b.den] 40)) := by
  have n := Has.new ((wb.setCell ⟨g, 0, none⟩ (.int .i64 a.num)).setCell ⟨g, 1, none⟩ (.int .i64 a.den)) b.num b.den
  rw [size_two] at n
  have k : Below V.heap.size V ((wb.setCell ⟨g, 0, none⟩ (.int .i64 a.num)).setCell ⟨g, 1, none⟩ (.int .i64 a.den)) := (kb.setCell l1 _).setCell l1 _
  exact ⟨k.alloc k.size _, (h8.set2 _ _).alloc _, n, l1, kb.size, by have := h8.lt; omega⟩
theorem New2.snd (kb : Below V.heap.size V wb) (h9 : Has h 0 0 wb) (l2 : V.heap.size ≤ h) :
    New2 V wb.heap.size h a b (((wb.setCell ⟨h, 0, none⟩ (.int .i64 b.num)).setCell ⟨h, 1, none⟩ (.int .i64 b.den)).alloc (.cells #[.int .i64 a.num, .int .i64 a.den] 40)) := by
  have k := New2.fst (a := b) (b := a) kb h9 l2
  exact ⟨k.bel, k.h2, k.h1, k.l2, k.l1, k.ne.symm⟩
theorem New2.none_ (kb : Below V.heap.size V wb) :
    New2 V wb.heap.size (wb.heap.size + 1) a b ((wb.alloc (.cells #[.int .i64 a.num, .int .i64 a.den] 40)).alloc (.cells #[.int .i64 b.num, .int .i64 b.den] 40)) := by
  have n := Has.new (wb.alloc (.cells #[.int .i64 a.num, .int .i64 a.den] 40)) b.num b.den
  rw [World.size_alloc] at n
  have k := kb.alloc kb.size (.cells #[.int .i64 a.num, .int .i64 a.den] 40)
  exact ⟨k.alloc k.size _, (Has.new wb _ _).alloc _, n, kb.size, by have := kb.size; omega, by omega⟩
theorem New2.rev (kb : Below V.heap.size V wb) :
    New2 V (wb.heap.size + 1) wb.heap.size a b ((wb.alloc (.cells #[.int .i64 b.num, .int .i64 b.den] 40)).alloc (.cells #[.int .i64 a.num, .int .i64 a.den] 40)) := by
  have k := New2.none_ (a := b) (b := a) kb
  exact ⟨k.bel, k.h2, k.h1, k.l2, k.l1, k.ne.symm⟩
end Go.Proofs.YtmiokllpdmmfhaaGreat
