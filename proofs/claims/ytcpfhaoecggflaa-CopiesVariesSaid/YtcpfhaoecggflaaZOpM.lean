/-
  A slice of slices of integers opened (layer 9).
-/
import Derived.Test.YtcpfhaoecggflaaZOpT
import Derived.Test.YtcpfhaoecggflaaZChk
namespace Go.Proofs.Ytcpfhaoecggflaa
open Go.ChangeShapes Go.WideShapes Go.ChangeAt Go.RowKit Go.Deep

theorem cellsLn : Try.prog.cellsOf 22 = 1 := by kernel_rfl
section
variable {H : Type} {enc : TypeId × Value → H} {W : World} {base : Nat} {spare : Nat → Bool} {held : Bool}
set_option maxRecDepth 100000 in
theorem open_lineC {n : Nat} {cs : List Value} {x : DataW H × List MemPlace} (h : DataW.trod enc Try.prog W base spare held n 22 cs = some x) :
    ∃ (A : Option Addr) (zs : List Int) (cap : Nat), cs = [.slice A zs.length cap] ∧ IntsIn W A zs ∧ zs.length ≤ cap ∧ cap ≤ maxLen := by
  rcases open_ints Try.underlying22 Try.underlying3 cellsInt h with ⟨e, _⟩ | ⟨a, len, cap, zs, e, _, hl, hm, hz, _, hc, _⟩
  · exact ⟨none, [], 0, e, fun i v hv => by simp at hv, Nat.le_refl _, Nat.zero_le _⟩
  · have hzl : len ≤ zs.length := by rw [hz]; split <;> omega
    refine ⟨some a, zs.take len, cap, ?_, fun i z hi => ?_, by simp; omega, hm⟩
    · simpa [Nat.min_eq_left hzl] using e
    · obtain ⟨hil, hiz⟩ := List.getElem?_eq_some_iff.1 hi
      have hil2 : i < len := by simp at hil; omega
      have hc0 := hc 0 (by omega)
      have hci := hc i (by omega)
      obtain ⟨b, o, sp⟩ := a
      have hs : sp = none := by simpa [Addr.add] using (spot_none hc0).2
      subst hs
      refine ⟨b, o, rfl, ?_, ?_⟩
      · simpa [Addr.add] using (spot_none hc0).1
      · rw [addr_add] at hci
        rw [hci]
        congr 2
        rw [List.getElem_take] at hiz
        rw [← hiz, List.getD_eq_getElem?_getD, List.getElem?_eq_getElem (by omega)]
        rfl
set_option maxRecDepth 100000 in
theorem open_rows {r : Reach} {b0 : Nat} {v : Value} {d : DataW H} {p : List MemPlace} (hv : Value.okWide Try.prog W r b0 31 v) (h : DataW.Trod enc Try.prog W base spare held 31 v d p) :
    ∃ (A : Option Addr) (cap : Nat) (rs : List Rw), v = .slice A rs.length cap ∧ RowsIn W A rs ∧ rs.length ≤ cap ∧ cap ≤ maxLen := by
  obtain ⟨a0, l0, c0, rfl⟩ := okWide_slice Try.underlying31 hv
  obtain ⟨fuel, hf⟩ := h
  rcases open_slice Try.underlying31 hf with ⟨e, _⟩ | ⟨a, len, cap, m, k, D, Pl, e, _, hl, hm, hmm, _, hi⟩
  · exact ⟨none, 0, [], by simpa [Value.cells] using e, fun i v hv => by simp at hv, Nat.le_refl _, Nat.zero_le _⟩
  · rw [cellsLn] at hi
    have hlm : len ≤ m := by rw [hmm]; split <;> omega
    obtain ⟨ps, hvl, hvs⟩ := list_ofT len (fun i (v : Rw) => ∃ g o, a = ⟨g, o, none⟩ ∧ g < W.heap.size ∧ W.cell? ⟨g, o + i, none⟩ = some (.slice v.A v.zs.length v.c) ∧ IntsIn W v.A v.zs ∧ v.zs.length ≤ maxLen) (fun i hil => by
      obtain ⟨cs0, hc0, _⟩ := hi 0 (by omega)
      obtain ⟨b, o, rfl⟩ := spot_ofT hc0 (by omega)
      obtain ⟨cs', hc, ht⟩ := hi i (by omega)
      obtain ⟨hb, hcl, hat⟩ := elem_cellsT hc (by omega)
      obtain ⟨A, zs, c, rfl, h1, h2, h3⟩ := open_lineC ht
      have h0 := hat 0 (by omega)
      rw [Nat.mul_one] at h0
      exact ⟨⟨A, c, zs⟩, b, o, rfl, hb, h0, h1, Nat.le_trans h2 h3⟩)
    refine ⟨some a, cap, ps, ?_, fun i v hv => ?_, by omega, hm⟩
    · rw [hvl]; simpa [Value.cells] using e
    · obtain ⟨b, o, e, hb, hva⟩ := hvs i v hv
      exact ⟨b, o, by rw [e], hb, hva⟩
end
end Go.Proofs.Ytcpfhaoecggflaa
