/-
  A slice of slices of tallies opened (layer 9).
-/
import Derived.Test.YtcpfhaoecggflaaZOpT
import Derived.Test.YtcpfhaoecggflaaZHnM
namespace Go.Proofs.Ytcpfhaoecggflaa
open Go.ChangeShapes Go.WideShapes Go.ChangeAt Go.RowKit Go.Deep

theorem cellsTls : Try.prog.cellsOf 60 = 1 := by kernel_rfl
section
variable {H : Type} {enc : TypeId × Value → H} {W : World} {base : Nat} {spare : Nat → Bool} {held : Bool}
set_option maxRecDepth 100000 in
theorem open_trs {r : Reach} {b0 : Nat} {v : Value} {d : DataW H} {p : List MemPlace} (hv : Value.okWide Try.prog W r b0 65 v) (h : DataW.Trod enc Try.prog W base spare held 65 v d p) :
    ∃ (A : Option Addr) (cap : Nat) (rs : List Tr), v = .slice A rs.length cap ∧ TrsIn W A rs ∧ rs.length ≤ cap ∧ cap ≤ maxLen := by
  obtain ⟨a0, l0, c0, rfl⟩ := okWide_slice Try.underlying65 hv
  obtain ⟨fuel, hf⟩ := h
  rcases open_slice Try.underlying65 hf with ⟨e, _⟩ | ⟨a, len, cap, m, k, D, Pl, e, _, hl, hm, hmm, _, hi⟩
  · exact ⟨none, 0, [], by simpa [Value.cells] using e, fun i v hv => by simp at hv, Nat.le_refl _, Nat.zero_le _⟩
  · rw [cellsTls] at hi
    have hlm : len ≤ m := by rw [hmm]; split <;> omega
    obtain ⟨ps, hvl, hvs⟩ := list_ofT len (fun i (v : Tr) => ∃ g o, a = ⟨g, o, none⟩ ∧ g < W.heap.size ∧ W.cell? ⟨g, o + i, none⟩ = some (.slice v.A v.ts.length v.c) ∧ TlsIn W v.A v.ts ∧ v.ts.length ≤ maxLen) (fun i hil => by
      obtain ⟨cs0, hc0, _⟩ := hi 0 (by omega)
      obtain ⟨b, o, rfl⟩ := spot_ofT hc0 (by omega)
      obtain ⟨cs', hc, ht⟩ := hi i (by omega)
      obtain ⟨hb, hcl, hat⟩ := elem_cellsT hc (by omega)
      obtain ⟨A, zs, c, rfl, h1, h2, h3⟩ := open_tls ht
      have h0 := hat 0 (by omega)
      rw [Nat.mul_one] at h0
      exact ⟨⟨A, c, zs⟩, b, o, rfl, hb, h0, h1, Nat.le_trans h2 h3⟩)
    refine ⟨some a, cap, ps, ?_, fun i v hv => ?_, by omega, hm⟩
    · rw [hvl]; simpa [Value.cells] using e
    · obtain ⟨b, o, e, hb, hva⟩ := hvs i v hv
      exact ⟨b, o, by rw [e], hb, hva⟩
end
end Go.Proofs.Ytcpfhaoecggflaa
