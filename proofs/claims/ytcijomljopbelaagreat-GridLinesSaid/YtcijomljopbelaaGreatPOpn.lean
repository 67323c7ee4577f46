/-
  The main proof's opening of a page.
-/
import Derived.Test.YtcijomljopbelaaGreatGOpn
namespace Go.Proofs.YtcijomljopbelaaGreat
open Go.ChangeShapes Go.WideShapes Go.ChangeAt Go.RowKit Go.Deep

theorem cellsPage : Tryz.prog.cellsOf 31 = 2 := by kernel_rfl
section
variable {H : Type} {enc : TypeId × Value → H} {W : World} {base : Nat} {spare : Nat → Bool} {held : Bool}
set_option maxRecDepth 100000 in
theorem open_page {r : Reach} {b0 : Nat} {v : Value} {d : DataW H} {p : List MemPlace} (hv : Value.okWide Tryz.prog W r b0 31 v) (h : DataW.Trod enc Tryz.prog W base spare held 31 v d p) :
    ∃ (n m : Int), v = .agg #[.int .i64 n, .int .i64 m] := by
  obtain ⟨cs, rfl, hsz⟩ := okWide_struct Tryz.underlying31 hv
  obtain ⟨c0, c1, rfl⟩ := Joins.array2 (hsz.trans cellsPage)
  obtain ⟨fuel, hf⟩ := h
  obtain ⟨xs, m, _, _, _, hl, hf⟩ := DataW.trod_struct Tryz.underlying31 hf
  have hl : xs.length = 2 := hl
  have h0 : DataW.trod enc Tryz.prog W base spare held m 3 ([c0, c1].take (Tryz.prog.cellsOf 3)) = some (xs[0]'(by omega)) := by
    have := (hf 0 _ rfl).trans (List.getElem?_eq_getElem (by omega)); simpa [Value.cells] using this
  have h1 : DataW.trod enc Tryz.prog W base spare held m 3 (([c0, c1].drop 1).take (Tryz.prog.cellsOf 3)) = some (xs[1]'(by omega)) := by
    have := (hf 1 _ rfl).trans (List.getElem?_eq_getElem (by omega)); simpa [Value.cells] using this
  rw [cellsInt] at h0 h1
  obtain ⟨f, e0, _, _⟩ := DataW.trod_int Tryz.underlying3 h0
  obtain ⟨t, e1, _, _⟩ := DataW.trod_int Tryz.underlying3 h1
  have e0 : c0 = .int .i64 f := by simpa using e0
  have e1 : c1 = .int .i64 t := by simpa using e1
  exact ⟨f, t, by rw [e0, e1]⟩
end
end Go.Proofs.YtcijomljopbelaaGreat
