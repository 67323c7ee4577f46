/-
  Four fractions in memory that is new; what Extent answers.
-/
import Derived.Test.YtcijomljopbelaaGreatExM
import Derived.Test.YtcijomljopbelaaGreatKp
namespace Go.Proofs.YtcijomljopbelaaGreat
open Go.RowKit

/-- what both sides answer: four fractions and an error -/
def GotExt (w : World) (q : (Fr × Fr × Fr × Fr) × Int) (e : Ending) (w' : World) : Prop :=
  e = .returned (.tuple #[.agg #[.int .i64 q.1.1.num, .int .i64 q.1.1.den, .int .i64 q.1.2.1.num, .int .i64 q.1.2.1.den, .int .i64 q.1.2.2.1.num, .int .i64 q.1.2.2.1.den, .int .i64 q.1.2.2.2.num, .int .i64 q.1.2.2.2.den], .int .i64 q.2]) ∧ Below w.heap.size w w'
def GotExtP (w : World) (q : (Fr × Fr × Fr × Fr) × Int) (e : Ending) (w' : World) : Prop :=
  e = .returned (.tuple #[.agg #[.int .i64 q.1.1.num, .int .i64 q.1.1.den], .agg #[.int .i64 q.1.2.1.num, .int .i64 q.1.2.1.den], .agg #[.int .i64 q.1.2.2.1.num, .int .i64 q.1.2.2.1.den], .agg #[.int .i64 q.1.2.2.2.num, .int .i64 q.1.2.2.2.den], .int .i64 q.2]) ∧ Below w.heap.size w w'
/-- four fractions in memory that is new -/
structure Ex4 (W : World) (x6 x7 x8 x9 : Nat) (a b c d : Fr) (w : World) : Prop where
  bel : Below W.heap.size W w
  h6 : Has x6 a.num a.den w
  h7 : Has x7 b.num b.den w
  h8 : Has x8 c.num c.den w
  h9 : Has x9 d.num d.den w
  l6 : W.heap.size ≤ x6
  l7 : W.heap.size ≤ x7
  l8 : W.heap.size ≤ x8
  l9 : W.heap.size ≤ x9
  n67 : x6 ≠ x7
  n68 : x6 ≠ x8
  n69 : x6 ≠ x9
  n78 : x7 ≠ x8
  n79 : x7 ≠ x9
  n89 : x8 ≠ x9
variable {W w w' : World} {x6 x7 x8 x9 : Nat} {a b c d : Fr}
theorem Ex4.below (h : Ex4 W x6 x7 x8 x9 a b c d w) (hb : Below w.heap.size w w') : Ex4 W x6 x7 x8 x9 a b c d w' :=
  { h with bel := below_more h.bel hb, h6 := h.h6.below hb, h7 := h.h7.below hb, h8 := h.h8.below hb, h9 := h.h9.below hb }
theorem Ex4.drew (h : Ex4 W x6 x7 x8 x9 a b c d w) : Ex4 W x6 x7 x8 x9 a b c d w.drew := { h with bel := h.bel.drew, h6 := h.h6.drew, h7 := h.h7.drew, h8 := h.h8.drew, h9 := h.h9.drew }
theorem Ex4.set6 (h : Ex4 W x6 x7 x8 x9 a b c d w) (n m : Int) : Ex4 W x6 x7 x8 x9 ⟨n, m⟩ b c d ((w.setCell ⟨x6, 0, none⟩ (.int .i64 n)).setCell ⟨x6, 1, none⟩ (.int .i64 m)) :=
  { h with bel := (h.bel.setCell h.l6 _).setCell h.l6 _, h6 := h.h6.set2 n m, h7 := h.h7.other h.n67.symm, h8 := h.h8.other h.n68.symm, h9 := h.h9.other h.n69.symm }
theorem Ex4.set7 (h : Ex4 W x6 x7 x8 x9 a b c d w) (n m : Int) : Ex4 W x6 x7 x8 x9 a ⟨n, m⟩ c d ((w.setCell ⟨x7, 0, none⟩ (.int .i64 n)).setCell ⟨x7, 1, none⟩ (.int .i64 m)) :=
  { h with bel := (h.bel.setCell h.l7 _).setCell h.l7 _, h6 := h.h6.other h.n67, h7 := h.h7.set2 n m, h8 := h.h8.other h.n78.symm, h9 := h.h9.other h.n79.symm }
theorem Ex4.set8 (h : Ex4 W x6 x7 x8 x9 a b c d w) (n m : Int) : Ex4 W x6 x7 x8 x9 a b ⟨n, m⟩ d ((w.setCell ⟨x8, 0, none⟩ (.int .i64 n)).setCell ⟨x8, 1, none⟩ (.int .i64 m)) :=
  { h with bel := (h.bel.setCell h.l8 _).setCell h.l8 _, h6 := h.h6.other h.n68, h7 := h.h7.other h.n78, h8 := h.h8.set2 n m, h9 := h.h9.other h.n89.symm }
theorem Ex4.set9 (h : Ex4 W x6 x7 x8 x9 a b c d w) (n m : Int) : Ex4 W x6 x7 x8 x9 a b c ⟨n, m⟩ ((w.setCell ⟨x9, 0, none⟩ (.int .i64 n)).setCell ⟨x9, 1, none⟩ (.int .i64 m)) :=
  { h with bel := (h.bel.setCell h.l9 _).setCell h.l9 _, h6 := h.h6.other h.n69, h7 := h.h7.other h.n79, h8 := h.h8.other h.n89, h9 := h.h9.set2 n m }
/-- whether the extents are valid -/
def extV (bs : List Bx) (s : Bool) : Bool := vF (extZ s bs)

end Go.Proofs.YtcijomljopbelaaGreat
