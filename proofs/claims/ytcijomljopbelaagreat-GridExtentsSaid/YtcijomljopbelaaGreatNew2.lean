/-
  Two fractions in memory that is new, in whichever order it was made.
-/
import Derived.Test.YtcijomljopbelaaGreatEx4
namespace Go.Proofs.YtcijomljopbelaaGreat
open Go.RowKit

/-- two fractions behind V -/
structure New2 (V : World) (g h : Nat) (a b : Fr) (w : World) : Prop where
  bel : Below V.heap.size V w
  h1 : Has g a.num a.den w
  h2 : Has h b.num b.den w
  l1 : V.heap.size ≤ g
  l2 : V.heap.size ≤ h
  ne : g ≠ h
variable {V wb : World} {g h : Nat} {a b : Fr}
theorem New2.drew (k : New2 V g h a b wb) : New2 V g h a b wb.drew := { k with bel := k.bel.drew, h1 := k.h1.drew, h2 := k.h2.drew }
theorem New2.both (kb : Below V.heap.size V wb) (h8 : Has g 0 0 wb) (h9 : Has h 0 0 wb) (l1 : V.heap.size ≤ g) (l2 : V.heap.size ≤ h) (ne : g ≠ h) :
    New2 V g h a b ((((wb.setCell ⟨g, 0, none⟩ (.int .i64 a.num)).setCell ⟨g, 1, none⟩ (.int .i64 a.den)).setCell ⟨h, 0, none⟩ (.int .i64 b.num)).setCell ⟨h, 1, none⟩ (.int .i64 b.den)) :=
  ⟨(((kb.setCell l1 _).setCell l1 _).setCell l2 _).setCell l2 _, (h8.set2 _ _).other ne, (h9.other ne.symm).set2 _ _, l1, l2, ne⟩
theorem size_two (wb : World) (g : Nat) (u v : Value) : ((wb.setCell ⟨g, 0, none⟩ u).setCell ⟨g, 1, none⟩ v).heap.size = wb.heap.size := by simp [World.setCell]
theorem New2.fst (kb : Below V.heap.size V wb) (h8 : Has g 0 0 wb) (l1 : V.heap.size ≤ g) :
    New2 V g wb.heap.size a b (((wb.setCell ⟨g, 0, none⟩ (.int .i64 a.num)).setCell ⟨g, 1, none⟩ (.int .i64 a.den)).alloc (.cells #[.int .i64 b.num, .int .i64 b.den] 40)) := by
  have n := Has.new ((wb.setCell ⟨g, 0, none⟩ (.int .i64 a.num)).setCell ⟨g, 1, none⟩ (.int .i64 a.den)) b.num b.den
  rw [size_two] at n
  have k : Below V.heap.size V ((wb.setCell ⟨g, 0, none⟩ (.int .i64 a.num)).setCell ⟨g, 1, none⟩ (.int .i64 a.den)) := (kb.setCell l1 _).setCell l1 _
  exact ⟨k.alloc k.size _, (h8.set2 _ _).alloc _, n, l1, kb.size, by have := h8.lt; omega⟩
theorem New2.snd (kb : Below V.heap.size V wb) (h9 : Has h 0 0 wb) (l2 : V.heap.size ≤ h) :
    New2 V wb.heap.size h a b (((wb.setCell ⟨h, 0, none⟩ (.int .i64 b.num)).setCell ⟨h, 1, none⟩ (.int .i64 b.den)).alloc (.cells #[.int .i64 a.num, .int .i64 a.den] 40)) := by
  have k := New2.fst (a := b) (b := a) kb h9 l2
  exact ⟨k.bel, k.h2, k.h1, k.l2, k.l1, k.ne.symm⟩
theorem New2.none_ (kb : Below V.heap.size V wb) :
    New2 V wb.heap.size (wb.heap.size + 1) a b ((wb.alloc (.cells #[.int .i64 a.num, .int .i64 a.den] 40)).alloc (.cells #[.int .i64 b.num, .int .i64 b.den] 40)) := by
  have n := Has.new (wb.alloc (.cells #[.int .i64 a.num, .int .i64 a.den] 40)) b.num b.den
  rw [World.size_alloc] at n
  have k := kb.alloc kb.size (.cells #[.int .i64 a.num, .int .i64 a.den] 40)
  exact ⟨k.alloc k.size _, (Has.new wb _ _).alloc _, n, kb.size, by have := kb.size; omega, by omega⟩
theorem New2.rev (kb : Below V.heap.size V wb) :
    New2 V (wb.heap.size + 1) wb.heap.size a b ((wb.alloc (.cells #[.int .i64 b.num, .int .i64 b.den] 40)).alloc (.cells #[.int .i64 a.num, .int .i64 a.den] 40)) := by
  have k := New2.none_ (a := b) (b := a) kb
  exact ⟨k.bel, k.h2, k.h1, k.l2, k.l1, k.ne.symm⟩

end Go.Proofs.YtcijomljopbelaaGreat
