/-
  A slice of tallies and a limit opened (layer 9).
-/
import Derived.Test.YtcpfhaoecggflaaZOp2
import Derived.Test.YtcpfhaoecggflaaZApP
namespace Go.Proofs.Ytcpfhaoecggflaa
open Go.ChangeShapes Go.WideShapes Go.ChangeAt Go.RowKit Go.Deep

theorem cellsCh : Try.prog.cellsOf 53 = 2 := by kernel_rfl
theorem list_ofT {α : Type} (n : Nat) (Q : Nat → α → Prop) (h : ∀ i, i < n → ∃ x, Q i x) : ∃ l : List α, l.length = n ∧ ∀ i x, l[i]? = some x → Q i x := by
  induction n with
  | zero => exact ⟨[], rfl, fun i x h => by simp at h⟩
  | succ n ih =>
    obtain ⟨l, hl, hq⟩ := ih (fun i hi => h i (by omega))
    obtain ⟨x, hx⟩ := h n (by omega)
    refine ⟨l ++ [x], by simp [hl], fun i y hy => ?_⟩
    by_cases hi : i < n
    · rw [List.getElem?_append_left (by omega)] at hy
      exact hq i y hy
    · rw [List.getElem?_append_right (by omega), hl] at hy
      have hin : i = n := by
        by_cases e : i = n
        · exact e
        · have : (i - n) ≠ 0 := by omega
          obtain ⟨k, hk⟩ := Nat.exists_eq_succ_of_ne_zero this
          rw [hk] at hy; simp at hy
      subst hin
      rw [Nat.sub_self] at hy
      have : x = y := by simpa using hy
      exact this ▸ hx
section
variable {H : Type} {enc : TypeId × Value → H} {W : World} {base : Nat} {spare : Nat → Bool} {held : Bool}
theorem elem_cellsT {b o i c : Nat} {cs : List Value} (h : W.cells? base ((⟨b, o, none⟩ : Addr).add (i * c)) c = some cs) (hc : 0 < c) :
    b < W.heap.size ∧ cs.length = c ∧ ∀ j, j < c → W.cell? ⟨b, o + i * c + j, none⟩ = cs[j]? := by
  obtain ⟨_, hl, hat⟩ := World.cells?_some h
  have hat' : ∀ j, j < c → W.cell? ⟨b, o + i * c + j, none⟩ = cs[j]? := fun j hj => by
    have := hat j hj
    rwa [addr_add, addr_add] at this
  refine ⟨?_, hl, hat'⟩
  have h0 := hat' 0 hc
  rw [List.getElem?_eq_getElem (by omega)] at h0
  exact cell_lt2 h0
theorem spot_ofT {a : Addr} {c : Nat} {cs : List Value} (h : W.cells? base (a.add (0 * c)) c = some cs) (hc : 0 < c) : ∃ b o, a = ⟨b, o, none⟩ := by
  obtain ⟨_, hl, hat⟩ := World.cells?_some h
  obtain ⟨b, o, sp⟩ := a
  have h0 := hat 0 hc
  rw [List.getElem?_eq_getElem (by omega)] at h0
  have hsp : sp = none := by simpa [Addr.add] using World.cell?_spot h0
  exact ⟨b, o, by rw [hsp]⟩
set_option maxRecDepth 100000 in
theorem open_tl {n : Nat} {cs : List Value} {x : DataW H × List MemPlace} (hcs : cs.length = 2) (h : DataW.trod enc Try.prog W base spare held n 51 cs = some x) :
    ∃ p : Int × Int, cs = [.int .i64 p.1, .int .i64 p.2] := by
  obtain ⟨xs, m, _, _, _, hl, hf⟩ := DataW.trod_struct Try.underlying51 h
  have hl : xs.length = 2 := hl
  obtain ⟨c0, c1, rfl⟩ : ∃ a b, cs = [a, b] := by
    match cs, hcs with
    | [a, b], _ => exact ⟨a, b, rfl⟩
  have h0 : DataW.trod enc Try.prog W base spare held m 3 ([c0, c1].take (Try.prog.cellsOf 3)) = some (xs[0]'(by omega)) := by
    have := (hf 0 _ rfl).trans (List.getElem?_eq_getElem (by omega)); simpa using this
  have h1 : DataW.trod enc Try.prog W base spare held m 3 (([c0, c1].drop 1).take (Try.prog.cellsOf 3)) = some (xs[1]'(by omega)) := by
    have := (hf 1 _ rfl).trans (List.getElem?_eq_getElem (by omega)); simpa using this
  rw [cellsInt] at h0 h1
  obtain ⟨f, e0, _, _⟩ := DataW.trod_int Try.underlying3 h0
  obtain ⟨t, e1, _, _⟩ := DataW.trod_int Try.underlying3 h1
  have e0 : c0 = .int .i64 f := by simpa using e0
  have e1 : c1 = .int .i64 t := by simpa using e1
  exact ⟨(f, t), by rw [e0, e1]⟩
set_option maxRecDepth 100000 in
theorem open_tls {n : Nat} {cs : List Value} {x : DataW H × List MemPlace} (h : DataW.trod enc Try.prog W base spare held n 60 cs = some x) :
    ∃ (A : Option Addr) (l : List (Int × Int)) (cap : Nat), cs = [.slice A l.length cap] ∧ TlsIn W A l ∧ l.length ≤ cap ∧ cap ≤ maxLen := by
  rcases open_slice Try.underlying60 h with ⟨rfl, _⟩ | ⟨a, len, cap, m, k, D, Pl, rfl, _, hl, hm, hmm, _, hi⟩
  · exact ⟨none, [], 0, rfl, fun i v hv => by simp at hv, Nat.le_refl _, Nat.zero_le _⟩
  · rw [cellsTal] at hi
    have hlm : len ≤ m := by rw [hmm]; split <;> omega
    obtain ⟨ps, hvl, hvs⟩ := list_ofT len (fun i (v : Int × Int) => ∃ g o, a = ⟨g, o, none⟩ ∧ g < W.heap.size ∧ W.cell? ⟨g, o + i * 2, none⟩ = some (.int .i64 v.1) ∧ W.cell? ⟨g, o + i * 2 + 1, none⟩ = some (.int .i64 v.2)) (fun i hil => by
      obtain ⟨cs0, hc0, _⟩ := hi 0 (by omega)
      obtain ⟨b, o, rfl⟩ := spot_ofT hc0 (by omega)
      obtain ⟨cs', hc, ht⟩ := hi i (by omega)
      obtain ⟨hb, hcl, hat⟩ := elem_cellsT hc (by omega)
      obtain ⟨v, rfl⟩ := open_tl hcl ht
      exact ⟨v, b, o, rfl, hb, hat 0 (by omega), hat 1 (by omega)⟩)
    refine ⟨some a, ps, cap, by rw [hvl], fun i v hv => ?_, by omega, hm⟩
    obtain ⟨b, o, e, hb, hva⟩ := hvs i v hv
    exact ⟨b, o, by rw [e], hb, hva⟩
set_option maxRecDepth 100000 in
theorem open_tals {r : Reach} {b0 : Nat} {v : Value} {d : DataW H} {p : List MemPlace} (hv : Value.okWide Try.prog W r b0 60 v) (h : DataW.Trod enc Try.prog W base spare held 60 v d p) :
    ∃ (A : Option Addr) (cap : Nat) (ps : List (Int × Int)), v = .slice A ps.length cap ∧ TlsIn W A ps ∧ ps.length ≤ cap ∧ cap ≤ maxLen := by
  obtain ⟨a0, l0, c0, rfl⟩ := okWide_slice Try.underlying60 hv
  obtain ⟨fuel, hf⟩ := h
  obtain ⟨A, l, cap, e, h1, h2, h3⟩ := open_tls hf
  exact ⟨A, cap, l, by simpa [Value.cells] using e, h1, h2, h3⟩
set_option maxRecDepth 100000 in
theorem open_ch {r : Reach} {b0 : Nat} {v : Value} {d : DataW H} {p : List MemPlace} (hv : Value.okWide Try.prog W r b0 53 v) (h : DataW.Trod enc Try.prog W base spare held 53 v d p) :
    ∃ (n m : Int), v = .agg #[.int .i64 n, .int .i64 m] := by
  obtain ⟨v0, v1, y0, y1, n, rfl, _, _, t0, t1⟩ := Joins.open_agg2 Try.underlying53 (by kernel_rfl) cellsCh hv h
  obtain ⟨f, e0, _, _⟩ := DataW.trod_int Try.underlying3 t0
  obtain ⟨t, e1, _, _⟩ := DataW.trod_int Try.underlying3 t1
  injection e0 with e0
  injection e1 with e1
  subst e0 e1
  exact ⟨f, t, rfl⟩
end
end Go.Proofs.Ytcpfhaoecggflaa
