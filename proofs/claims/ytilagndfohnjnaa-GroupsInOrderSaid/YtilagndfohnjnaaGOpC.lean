/-
  The main proof's opening of a cut (from, to, a text).
-/
import Derived.Test.YtilagndfohnjnaaGOpn
namespace Go.Proofs.Ytilagndfohnjnaa
open Go.ChangeShapes Go.WideShapes Go.ChangeAt Go.RowKit Go.Deep

theorem cellsCut : Try.prog.cellsOf 64 = 3 := by kernel_rfl
section
variable {H : Type} {enc : TypeId × Value → H} {W : World} {base : Nat} {spare : Nat → Bool} {held : Bool}
set_option maxRecDepth 100000 in
theorem open_cut {r : Reach} {b0 : Nat} {v : Value} {d : DataW H} {p : List MemPlace} (hv : Value.okWide Try.prog W r b0 64 v) (h : DataW.Trod enc Try.prog W base spare held 64 v d p) :
    ∃ (f t : Int) (A : Option Addr) (cap : Nat) (ns : List Nd), v = .agg #[.int .i64 f, .int .i64 t, .slice A ns.length cap] ∧ NdsAt W A ns ∧ ns.length ≤ cap ∧ cap ≤ maxLen := by
  obtain ⟨cs, rfl, hsz⟩ := okWide_struct Try.underlying64 hv
  obtain ⟨c0, c1, c2, rfl⟩ := Joins.array3 (hsz.trans cellsCut)
  obtain ⟨fuel, hf⟩ := h
  obtain ⟨xs, m, _, _, _, hl, hf⟩ := DataW.trod_struct Try.underlying64 hf
  have hl : xs.length = 3 := hl
  have h0 : DataW.trod enc Try.prog W base spare held m 3 ([c0, c1, c2].take (Try.prog.cellsOf 3)) = some (xs[0]'(by omega)) := by
    have := (hf 0 _ rfl).trans (List.getElem?_eq_getElem (by omega)); simpa [Value.cells] using this
  have h1 : DataW.trod enc Try.prog W base spare held m 3 (([c0, c1, c2].drop 1).take (Try.prog.cellsOf 3)) = some (xs[1]'(by omega)) := by
    have := (hf 1 _ rfl).trans (List.getElem?_eq_getElem (by omega)); simpa [Value.cells] using this
  have h2 : DataW.trod enc Try.prog W base spare held m 27 (([c0, c1, c2].drop 2).take (Try.prog.cellsOf 27)) = some (xs[2]'(by omega)) := by
    have := (hf 2 _ rfl).trans (List.getElem?_eq_getElem (by omega)); simpa [Value.cells] using this
  rw [cellsInt] at h0 h1
  rw [cellsTxt] at h2
  obtain ⟨f, e0, _, _⟩ := DataW.trod_int Try.underlying3 h0
  obtain ⟨t, e1, _, _⟩ := DataW.trod_int Try.underlying3 h1
  obtain ⟨A, cap, ns, e2, h3, h4, h5⟩ := one_text h2
  have e0 : c0 = .int .i64 f := by simpa using e0
  have e1 : c1 = .int .i64 t := by simpa using e1
  have e2 : c2 = .slice A ns.length cap := by simpa using e2
  exact ⟨f, t, A, cap, ns, by rw [e0, e1, e2], h3, h4, h5⟩
end
end Go.Proofs.Ytilagndfohnjnaa
