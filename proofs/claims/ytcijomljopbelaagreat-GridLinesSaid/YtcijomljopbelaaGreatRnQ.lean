/-
  The answers of Natural and Scale.
-/
import Derived.Test.YtcijomljopbelaaGreatGbD
import Derived.Test.YtcijomljopbelaaGreatGbC
import Derived.Test.YtcijomljopbelaaGreatGaK
namespace Go.Proofs.YtcijomljopbelaaGreat
open Go.RowKit

def bothE (l : Li) (ns : List Nd) (way len : Int) : Int := if textErr l ns ≠ 0 then textErr l ns else pageErr way len
theorem both_ok {l : Li} {ns : List Nd} {way len : Int} (h : bothE l ns way len = 0) : textErr l ns = 0 ∧ pageErr way len = 0 := by
  unfold bothE at h
  split at h
  · omega
  · exact ⟨by omega, h⟩
/-- the answer of Natural -/
def natQ (l : Li) (way len : Int) (ns : List Nd) (node : Int) : Int × Int × Int :=
  if bothE l ns way len ≠ 0 then (0, 0, bothE l ns way len) else if outB ns.length node then (0, 0, 1)
  else ((natR l (cwN way) ns (regQ plainP l ns).1 node.toNat).1, (natR l (cwN way) ns (regQ plainP l ns).1 node.toNat).2, 0)
def GotIII (q : Int × Int × Int) (w : World) (e : Ending) (w' : World) : Prop := e = .returned (.tuple #[.int .i64 q.1, .int .i64 q.2.1, .int .i64 q.2.2]) ∧ Below w.heap.size w w'
theorem gotIII {a b c : Int} {q : Int × Int × Int} {w w' : World} (h : q = (a, b, c)) (hb : Below w.heap.size w w') : GotIII q w (.returned (.tuple #[.int .i64 a, .int .i64 b, .int .i64 c])) w' := by rw [h]; exact ⟨rfl, hb⟩
/-- the answer of Scale -/
def sclQ (l : Li) (way len : Int) (ns : List Nd) (grp : Int) : Fr × Int :=
  if bothE l ns way len ≠ 0 then (⟨0, 0⟩, bothE l ns way len) else if outB (topsL (regQ plainP l ns).1).length grp then (⟨0, 0⟩, 1)
  else (sclR (cwN way) (shpI l (cwN way) (regQ plainP l ns).1 5 ((topsL (regQ plainP l ns).1).getD grp.toNat 0)), 0)
def GotFE (q : Fr × Int) (w : World) (e : Ending) (w' : World) : Prop := e = .returned (.tuple #[.agg #[.int .i64 q.1.num, .int .i64 q.1.den], .int .i64 q.2]) ∧ Below w.heap.size w w'
theorem gotFE {a b c : Int} {q : Fr × Int} {w w' : World} (h : q = (⟨a, b⟩, c)) (hb : Below w.heap.size w w') : GotFE q w (.returned (.tuple #[.agg #[.int .i64 a, .int .i64 b], .int .i64 c])) w' := by rw [h]; exact ⟨rfl, hb⟩

end Go.Proofs.YtcijomljopbelaaGreat
