/-
  A slice of integers opened (layer 9).
-/
import Derived.Test.YtcpfhaoecggflaaZOpn
namespace Go.Proofs.Ytcpfhaoecggflaa
open Go.ChangeShapes Go.WideShapes Go.ChangeAt Go.RowKit Go.Deep

section
variable {H : Type} {enc : TypeId × Value → H} {W : World} {base : Nat} {spare : Nat → Bool} {held : Bool}
theorem cell_lt2 {w : World} {b o : Nat} {v : Value} (h : w.cell? ⟨b, o, none⟩ = some v) : b < w.heap.size := by
  rcases Nat.lt_or_ge b w.heap.size with hlt | hge
  · exact hlt
  · have : w.heap[b]? = none := Array.getElem?_eq_none hge
    simp [World.cell?, this] at h
theorem spot_none {a : Addr} {v : Value} (h : W.cell? a = some v) : a.block < W.heap.size ∧ a.spot = none := by
  obtain ⟨b, o, sp⟩ := a
  have hsp : sp = none := World.cell?_spot h
  subst hsp
  exact ⟨cell_lt2 h, rfl⟩
set_option maxRecDepth 100000 in
theorem open_line {r : Reach} {b0 : Nat} {v : Value} {d : DataW H} {p : List MemPlace} (hv : Value.okWide Try.prog W r b0 22 v) (h : DataW.Trod enc Try.prog W base spare held 22 v d p) :
    ∃ (A : Option Addr) (cap : Nat) (zs : List Int), v = .slice A zs.length cap ∧ IntsIn W A zs ∧ zs.length ≤ cap ∧ cap ≤ maxLen := by
  obtain ⟨a0, l0, c0, rfl⟩ := okWide_slice Try.underlying22 hv
  obtain ⟨fuel, hf⟩ := h
  rcases open_ints Try.underlying22 Try.underlying3 cellsInt hf with ⟨e, _⟩ | ⟨a, len, cap, zs, e, _, hl, hm, hz, _, hc, _⟩
  · refine ⟨none, 0, [], by simpa [Value.cells] using e, fun i v hv => by simp at hv, Nat.le_refl _, Nat.zero_le _⟩
  · have hzl : len ≤ zs.length := by rw [hz]; split <;> omega
    refine ⟨some a, cap, zs.take len, ?_, fun i z hi => ?_, by simp; omega, hm⟩
    · simpa [Value.cells, Nat.min_eq_left hzl] using e
    · obtain ⟨hil, hiz⟩ := List.getElem?_eq_some_iff.1 hi
      have hil2 : i < len := by simp at hil; omega
      have hc0 := hc 0 (by omega)
      have hci := hc i (by omega)
      obtain ⟨b, o, sp⟩ := a
      have hs : sp = none := by simpa [Addr.add] using (spot_none hc0).2
      subst hs
      refine ⟨b, o, rfl, ?_, ?_⟩
      · simpa [Addr.add] using (spot_none hc0).1
      · rw [addr_add] at hci
        rw [hci]
        congr 2
        rw [List.getElem_take] at hiz
        rw [← hiz, List.getD_eq_getElem?_getD, List.getElem?_eq_getElem (by omega)]
        rfl
end
end Go.Proofs.Ytcpfhaoecggflaa
