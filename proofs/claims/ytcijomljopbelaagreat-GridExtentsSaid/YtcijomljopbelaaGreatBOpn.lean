/-
  The main proof's opening of boxes.
-/
import Derived.Test.YtcijomljopbelaaGreatFOpn
import Derived.Test.YtcijomljopbelaaGreatGaN
namespace Go.Proofs.YtcijomljopbelaaGreat
open Go.ChangeShapes Go.WideShapes Go.ChangeAt Go.RowKit Go.Deep

theorem cellsBox : Tryz.prog.cellsOf 82 = 15 := by kernel_rfl
section
variable {H : Type} {enc : TypeId × Value → H} {W : World} {base : Nat} {spare : Nat → Bool} {held : Bool}
theorem take2 {cs : List Value} {o : Nat} {v u : Value} (h : (cs.drop o).take 2 = [v, u]) : cs[o]? = some v ∧ cs[o + 1]? = some u := by
  constructor
  · have := congrArg (·[0]?) h
    simpa [List.getElem?_take, List.getElem?_drop] using this
  · have := congrArg (·[1]?) h
    simpa [List.getElem?_take, List.getElem?_drop] using this
set_option maxRecDepth 100000 in
theorem open_fr {n : Nat} {cs : List Value} {x : DataW H × List MemPlace} (hcs : cs.length = 2) (h : DataW.trod enc Tryz.prog W base spare held n 40 cs = some x) :
    ∃ f : Fr, cs = [.int .i64 f.num, .int .i64 f.den] := by
  obtain ⟨xs, m, _, _, _, hl, hf⟩ := DataW.trod_struct Tryz.underlying40 h
  have hl : xs.length = 2 := hl
  obtain ⟨c0, c1, rfl⟩ : ∃ a b, cs = [a, b] := by
    match cs, hcs with
    | [a, b], _ => exact ⟨a, b, rfl⟩
  have h0 : DataW.trod enc Tryz.prog W base spare held m 3 ([c0, c1].take (Tryz.prog.cellsOf 3)) = some (xs[0]'(by omega)) := by
    have := (hf 0 _ rfl).trans (List.getElem?_eq_getElem (by omega)); simpa using this
  have h1 : DataW.trod enc Tryz.prog W base spare held m 3 (([c0, c1].drop 1).take (Tryz.prog.cellsOf 3)) = some (xs[1]'(by omega)) := by
    have := (hf 1 _ rfl).trans (List.getElem?_eq_getElem (by omega)); simpa using this
  rw [cellsInt] at h0 h1
  obtain ⟨f, e0, _, _⟩ := DataW.trod_int Tryz.underlying3 h0
  obtain ⟨t, e1, _, _⟩ := DataW.trod_int Tryz.underlying3 h1
  have e0 : c0 = .int .i64 f := by simpa using e0
  have e1 : c1 = .int .i64 t := by simpa using e1
  exact ⟨⟨f, t⟩, by rw [e0, e1]⟩
set_option maxRecDepth 100000 in
theorem open_bx {n : Nat} {cs : List Value} {x : DataW H × List MemPlace} (hcs : cs.length = 15) (h : DataW.trod enc Tryz.prog W base spare held n 82 cs = some x) :
    ∃ b : Bx, cs = b.cells := by
  obtain ⟨xs, m, _, _, _, hl, hf⟩ := DataW.trod_struct Tryz.underlying82 h
  have hl : xs.length = 11 := hl
  have g := fun i (hi : i < 11) => List.getElem?_eq_getElem (l := xs) (i := i) (by omega)
  have h0 : DataW.trod enc Tryz.prog W base spare held m 3 ((cs.drop 0).take (Tryz.prog.cellsOf 3)) = some (xs[0]'(by omega)) := (hf 0 _ rfl).trans (g 0 (by omega))
  have h1 : DataW.trod enc Tryz.prog W base spare held m 3 ((cs.drop 1).take (Tryz.prog.cellsOf 3)) = some (xs[1]'(by omega)) := (hf 1 _ rfl).trans (g 1 (by omega))
  have h2 : DataW.trod enc Tryz.prog W base spare held m 3 ((cs.drop 2).take (Tryz.prog.cellsOf 3)) = some (xs[2]'(by omega)) := (hf 2 _ rfl).trans (g 2 (by omega))
  have h3 : DataW.trod enc Tryz.prog W base spare held m 4 ((cs.drop 3).take (Tryz.prog.cellsOf 4)) = some (xs[3]'(by omega)) := (hf 3 _ rfl).trans (g 3 (by omega))
  have h4 : DataW.trod enc Tryz.prog W base spare held m 3 ((cs.drop 4).take (Tryz.prog.cellsOf 3)) = some (xs[4]'(by omega)) := (hf 4 _ rfl).trans (g 4 (by omega))
  have h5 : DataW.trod enc Tryz.prog W base spare held m 3 ((cs.drop 5).take (Tryz.prog.cellsOf 3)) = some (xs[5]'(by omega)) := (hf 5 _ rfl).trans (g 5 (by omega))
  have h6 : DataW.trod enc Tryz.prog W base spare held m 3 ((cs.drop 6).take (Tryz.prog.cellsOf 3)) = some (xs[6]'(by omega)) := (hf 6 _ rfl).trans (g 6 (by omega))
  have h7 : DataW.trod enc Tryz.prog W base spare held m 40 ((cs.drop 7).take (Tryz.prog.cellsOf 40)) = some (xs[7]'(by omega)) := (hf 7 _ rfl).trans (g 7 (by omega))
  have h8 : DataW.trod enc Tryz.prog W base spare held m 40 ((cs.drop 9).take (Tryz.prog.cellsOf 40)) = some (xs[8]'(by omega)) := (hf 8 _ rfl).trans (g 8 (by omega))
  have h9 : DataW.trod enc Tryz.prog W base spare held m 40 ((cs.drop 11).take (Tryz.prog.cellsOf 40)) = some (xs[9]'(by omega)) := (hf 9 _ rfl).trans (g 9 (by omega))
  have h10 : DataW.trod enc Tryz.prog W base spare held m 40 ((cs.drop 13).take (Tryz.prog.cellsOf 40)) = some (xs[10]'(by omega)) := (hf 10 _ rfl).trans (g 10 (by omega))
  rw [cellsInt] at h0 h1 h2 h4 h5 h6
  rw [cellsBool] at h3
  rw [cellsFrac] at h7 h8 h9 h10
  obtain ⟨v0, e0, _, _⟩ := DataW.trod_int Tryz.underlying3 h0
  have q0 := take1 e0
  obtain ⟨v1, e1, _, _⟩ := DataW.trod_int Tryz.underlying3 h1
  have q1 := take1 e1
  obtain ⟨v2, e2, _, _⟩ := DataW.trod_int Tryz.underlying3 h2
  have q2 := take1 e2
  obtain ⟨v3, e3, _⟩ := DataW.trod_bool Tryz.underlying4 h3
  have q3 := take1 e3
  obtain ⟨v4, e4, _, _⟩ := DataW.trod_int Tryz.underlying3 h4
  have q4 := take1 e4
  obtain ⟨v5, e5, _, _⟩ := DataW.trod_int Tryz.underlying3 h5
  have q5 := take1 e5
  obtain ⟨v6, e6, _, _⟩ := DataW.trod_int Tryz.underlying3 h6
  have q6 := take1 e6
  obtain ⟨v7, e7⟩ := open_fr (by simp [hcs]) h7
  obtain ⟨q7, q8⟩ := take2 e7
  obtain ⟨v8, e8⟩ := open_fr (by simp [hcs]) h8
  obtain ⟨q9, q10⟩ := take2 e8
  obtain ⟨v9, e9⟩ := open_fr (by simp [hcs]) h9
  obtain ⟨q11, q12⟩ := take2 e9
  obtain ⟨v10, e10⟩ := open_fr (by simp [hcs]) h10
  obtain ⟨q13, q14⟩ := take2 e10
  refine ⟨⟨v0, v1, v2, v3, v4, v5, v6, v7, v8, v9, v10⟩, List.ext_getElem? fun i => ?_⟩
  by_cases hi : i < 15
  · match i, hi with
    | 0, _ => exact q0
    | 1, _ => exact q1
    | 2, _ => exact q2
    | 3, _ => exact q3
    | 4, _ => exact q4
    | 5, _ => exact q5
    | 6, _ => exact q6
    | 7, _ => exact q7
    | 8, _ => exact q8
    | 9, _ => exact q9
    | 10, _ => exact q10
    | 11, _ => exact q11
    | 12, _ => exact q12
    | 13, _ => exact q13
    | 14, _ => exact q14
  · rw [List.getElem?_eq_none (by omega), List.getElem?_eq_none (show (_ : List Value).length ≤ i from by show 15 ≤ i; omega)]

set_option maxRecDepth 100000 in
theorem open_boxes {n : Nat} {cs : List Value} {x : DataW H × List MemPlace} (h : DataW.trod enc Tryz.prog W base spare held n 51 cs = some x) :
    ∃ (A : Option Addr) (bs : List Bx) (cap : Nat), cs = [.slice A bs.length cap] ∧ BxsAt W A bs ∧ bs.length ≤ cap ∧ cap ≤ maxLen := by
  rcases open_slice Tryz.underlying51 h with ⟨rfl, _⟩ | ⟨a, len, cap, m, k, D, Pl, rfl, _, hl, hm, hmm, _, hi⟩
  · exact ⟨none, [], 0, rfl, fun i v hv => by simp at hv, Nat.le_refl _, Nat.zero_le _⟩
  · rw [cellsBox] at hi
    have hlm : len ≤ m := by rw [hmm]; split <;> omega
    obtain ⟨bs, hvl, hvs⟩ := list_of len (fun i (v : Bx) => ∃ b o, a = ⟨b, o, none⟩ ∧ b < W.heap.size ∧ BxAt W b (o + i * 15) v) (fun i hil => by
      obtain ⟨cs0, hc0, _⟩ := hi 0 (by omega)
      obtain ⟨b, o, rfl⟩ := spot_of hc0 (by omega)
      obtain ⟨cs', hc, ht⟩ := hi i (by omega)
      obtain ⟨hb, hcl, hat⟩ := elem_cells hc (by omega)
      obtain ⟨v, rfl⟩ := open_bx hcl ht
      exact ⟨v, b, o, rfl, hb, ⟨hat 0 (by omega), hat 1 (by omega), hat 2 (by omega), hat 3 (by omega), hat 4 (by omega), hat 5 (by omega), hat 6 (by omega), hat 7 (by omega), hat 8 (by omega), hat 9 (by omega), hat 10 (by omega), hat 11 (by omega), hat 12 (by omega), hat 13 (by omega), hat 14 (by omega)⟩⟩)
    refine ⟨some a, bs, cap, by rw [hvl], fun i v hv => ?_, by omega, hm⟩
    obtain ⟨b, o, e, hb, hva⟩ := hvs i v hv
    exact ⟨b, o, by rw [e], hb, hva⟩
set_option maxRecDepth 100000 in
theorem open_bxs {r : Reach} {b0 : Nat} {v : Value} {d : DataW H} {p : List MemPlace} (hv : Value.okWide Tryz.prog W r b0 51 v) (h : DataW.Trod enc Tryz.prog W base spare held 51 v d p) :
    ∃ (A : Option Addr) (bs : List Bx) (cap : Nat), v = .slice A bs.length cap ∧ BxsAt W A bs ∧ bs.length ≤ cap ∧ cap ≤ maxLen := by
  obtain ⟨a, l, c, rfl⟩ := okWide_slice Tryz.underlying51 hv
  obtain ⟨fuel, hf⟩ := h
  obtain ⟨A, bs, cap, e, h⟩ := open_boxes hf
  refine ⟨A, bs, cap, ?_, h⟩
  simpa [Value.cells] using e
end
end Go.Proofs.YtcijomljopbelaaGreat
