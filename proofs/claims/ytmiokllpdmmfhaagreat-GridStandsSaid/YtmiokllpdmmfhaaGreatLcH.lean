/-
  What is common to the main proofs of the laws on papers, whose rows list no tables: a list, a text and a paper opened; what is said behind the call. And what builds on it.
-/
import Derived.Test.YtmiokllpdmmfhaaGreatRows
import Derived.Test.YtmiokllpdmmfhaaGreatLaD
import Derived.Test.YtmiokllpdmmfhaaGreatLaB
import Derived.ProofKit
import Derived.OpenShut
import Derived.Deep.DeepHandedRow
import Derived.Deep.DeepLaidRun
import Derived.Deep.Slices
import Derived.Lib.LaidTab
import Derived.Lib.SmallJoins
import Derived.MakeChecks
namespace Go.Proofs.YtmiokllpdmmfhaaGreat
open Go.ChangeShapes Go.WideShapes Go.ChangeAt Go.RowKit Go.Deep
theorem own : ownKnob Tryz.prog.godebug = none := by kernel_rfl
theorem laidOut : laidOutB Tryz.prog = true := by kernel_rfl
theorem cellsStr : Tryz.prog.cellsOf 9 = 1 := by kernel_rfl
theorem cellsVal : Tryz.prog.cellsOf 176 = 4 := by kernel_rfl
theorem cellsSgn : Tryz.prog.cellsOf 95 = 5 := by kernel_rfl
theorem cellsInt : Tryz.prog.cellsOf 3 = 1 := by kernel_rfl
theorem cellsBool : Tryz.prog.cellsOf 4 = 1 := by kernel_rfl
theorem cellsVals : Tryz.prog.cellsOf 93 = 1 := by kernel_rfl
theorem cellsLst : Tryz.prog.cellsOf 24 = 2 := by kernel_rfl
theorem cellsSgns : Tryz.prog.cellsOf 22 = 1 := by kernel_rfl
section
variable {H : Type} {enc : TypeId × Value → H} {W : World} {base : Nat} {spare : Nat → Bool} {held : Bool}
theorem cell_lt2 {w : World} {b o : Nat} {v : Value} (h : w.cell? ⟨b, o, none⟩ = some v) : b < w.heap.size := by
  rcases Nat.lt_or_ge b w.heap.size with hlt | hge
  · exact hlt
  · have : w.heap[b]? = none := Array.getElem?_eq_none hge
    simp [World.cell?, this] at h
theorem spot_of {a : Addr} {c : Nat} {cs : List Value} (h : W.cells? base (a.add (0 * c)) c = some cs) (hc : 0 < c) : ∃ b o, a = ⟨b, o, none⟩ := by
  obtain ⟨_, hl, hat⟩ := World.cells?_some h
  obtain ⟨b, o, sp⟩ := a
  have h0 := hat 0 hc
  rw [List.getElem?_eq_getElem (by omega)] at h0
  have hsp : sp = none := by simpa [Addr.add] using World.cell?_spot h0
  exact ⟨b, o, by rw [hsp]⟩
theorem elem_cells {b o i c : Nat} {cs : List Value} (h : W.cells? base ((⟨b, o, none⟩ : Addr).add (i * c)) c = some cs) (hc : 0 < c) :
    b < W.heap.size ∧ cs.length = c ∧ ∀ j, j < c → W.cell? ⟨b, o + i * c + j, none⟩ = cs[j]? := by
  obtain ⟨_, hl, hat⟩ := World.cells?_some h
  have hat' : ∀ j, j < c → W.cell? ⟨b, o + i * c + j, none⟩ = cs[j]? := fun j hj => by
    have := hat j hj
    rwa [addr_add, addr_add] at this
  refine ⟨?_, hl, hat'⟩
  have h0 := hat' 0 hc
  rw [List.getElem?_eq_getElem (by omega)] at h0
  exact cell_lt2 h0
theorem take1 {cs : List Value} {o : Nat} {v : Value} (h : (cs.drop o).take 1 = [v]) : cs[o]? = some v := by
  have := congrArg (·[0]?) h
  simpa [List.getElem?_take, List.getElem?_drop] using this
theorem open_va {n : Nat} {cs : List Value} {x : DataW H × List MemPlace} (h : DataW.trod enc Tryz.prog W base spare held n 176 cs = some x) :
    ∃ v : Va, cs[0]? = some (.int .i64 v.kind) ∧ cs[1]? = some (.string v.text) ∧ cs[2]? = some (.int .i64 v.fr) ∧ cs[3]? = some (.int .i64 v.to) ∧ v.text.size ≤ maxLen := by
  obtain ⟨xs, m, _, _, _, hl, hf⟩ := DataW.trod_struct Tryz.underlying176 h
  have hl : xs.length = 4 := hl
  have g := fun i (hi : i < 4) => List.getElem?_eq_getElem (l := xs) (i := i) (by omega)
  have h0 : DataW.trod enc Tryz.prog W base spare held m 3 ((cs.drop 0).take (Tryz.prog.cellsOf 3)) = some (xs[0]'(by omega)) := (hf 0 _ rfl).trans (g 0 (by omega))
  have h1 : DataW.trod enc Tryz.prog W base spare held m 9 ((cs.drop 1).take (Tryz.prog.cellsOf 9)) = some (xs[1]'(by omega)) := (hf 1 _ rfl).trans (g 1 (by omega))
  have h2 : DataW.trod enc Tryz.prog W base spare held m 3 ((cs.drop 2).take (Tryz.prog.cellsOf 3)) = some (xs[2]'(by omega)) := (hf 2 _ rfl).trans (g 2 (by omega))
  have h3 : DataW.trod enc Tryz.prog W base spare held m 3 ((cs.drop 3).take (Tryz.prog.cellsOf 3)) = some (xs[3]'(by omega)) := (hf 3 _ rfl).trans (g 3 (by omega))
  rw [cellsInt] at h0 h2 h3
  rw [cellsStr] at h1
  obtain ⟨k, e0, _, _⟩ := DataW.trod_int Tryz.underlying3 h0
  obtain ⟨t, e1, _, ht⟩ := DataW.trod_string Tryz.underlying9 h1
  obtain ⟨f, e2, _, _⟩ := DataW.trod_int Tryz.underlying3 h2
  obtain ⟨u, e3, _, _⟩ := DataW.trod_int Tryz.underlying3 h3
  exact ⟨⟨k, t, f, u⟩, take1 e0, take1 e1, take1 e2, take1 e3, ht⟩
theorem list_of {α : Type} (n : Nat) (Q : Nat → α → Prop) (h : ∀ i, i < n → ∃ x, Q i x) : ∃ l : List α, l.length = n ∧ ∀ i x, l[i]? = some x → Q i x := by
  induction n with
  | zero => exact ⟨[], rfl, fun i x h => by simp at h⟩
  | succ n ih =>
    obtain ⟨l, hl, hq⟩ := ih (fun i hi => h i (by omega))
    obtain ⟨x, hx⟩ := h n (by omega)
    refine ⟨l ++ [x], by simp [hl], fun i y hy => ?_⟩
    by_cases hi : i < n
    · rw [List.getElem?_append_left (by omega)] at hy
      exact hq i y hy
    · rw [List.getElem?_append_right (by omega), hl] at hy
      have hin : i = n := by
        by_cases e : i = n
        · exact e
        · rw [show i - n = (i - n - 1) + 1 by omega] at hy; simp at hy
      subst hin
      simp at hy
      subst hy
      exact hx
theorem open_vals {n : Nat} {cs : List Value} {x : DataW H × List MemPlace} (h : DataW.trod enc Tryz.prog W base spare held n 93 cs = some x) :
    ∃ (A : Option Addr) (vs : List Va) (cap : Nat), cs = [.slice A vs.length cap] ∧ ValsAt W A vs ∧ vs.length ≤ cap ∧ cap ≤ maxLen := by
  rcases open_slice Tryz.underlying93 h with ⟨rfl, _⟩ | ⟨a, len, cap, m, k, D, Pl, rfl, _, hl, hm, hmm, _, hi⟩
  · exact ⟨none, [], 0, rfl, ValsAt.nil _, Nat.le_refl _, Nat.zero_le _⟩
  · rw [cellsVal] at hi
    have hlm : len ≤ m := by rw [hmm]; split <;> omega
    obtain ⟨vs, hvl, hvs⟩ := list_of len (fun i (v : Va) => ∃ b o, a = ⟨b, o, none⟩ ∧ b < W.heap.size ∧ VaAt W b (o + i * 4) v) (fun i hil => by
      obtain ⟨cs0, hc0, _⟩ := hi 0 (by omega)
      obtain ⟨b, o, rfl⟩ := spot_of hc0 (by omega)
      obtain ⟨cs', hc, ht⟩ := hi i (by omega)
      obtain ⟨hb, hcl, hat⟩ := elem_cells hc (by omega)
      obtain ⟨v, e0, e1, e2, e3, es⟩ := open_va ht
      exact ⟨v, b, o, rfl, hb, ⟨(hat 0 (by omega)).trans e0, (hat 1 (by omega)).trans e1, (hat 2 (by omega)).trans e2, (hat 3 (by omega)).trans e3, es⟩⟩)
    refine ⟨some a, vs, cap, by rw [hvl], fun i v hv => ?_, by omega, hm⟩
    obtain ⟨b, o, e, hb, hva⟩ := hvs i v hv
    exact ⟨b, o, by rw [e], hb, hva⟩
theorem open_sg {n : Nat} {cs : List Value} {x : DataW H × List MemPlace} (h : DataW.trod enc Tryz.prog W base spare held n 95 cs = some x) :
    ∃ m : Sm, cs[0]? = some (.string m.s.code) ∧ cs[1]? = some (.int .i64 m.s.wide) ∧ cs[2]? = some (.int .i64 m.s.high) ∧ cs[3]? = some (.bool m.s.even) ∧ cs[4]? = some (.slice m.A m.s.vals.length m.cap) ∧ SmOk W m := by
  obtain ⟨xs, m, _, _, _, hl, hf⟩ := DataW.trod_struct Tryz.underlying95 h
  have hl : xs.length = 5 := hl
  have g := fun i (hi : i < 5) => List.getElem?_eq_getElem (l := xs) (i := i) (by omega)
  have h0 : DataW.trod enc Tryz.prog W base spare held m 9 ((cs.drop 0).take (Tryz.prog.cellsOf 9)) = some (xs[0]'(by omega)) := (hf 0 _ rfl).trans (g 0 (by omega))
  have h1 : DataW.trod enc Tryz.prog W base spare held m 3 ((cs.drop 1).take (Tryz.prog.cellsOf 3)) = some (xs[1]'(by omega)) := (hf 1 _ rfl).trans (g 1 (by omega))
  have h2 : DataW.trod enc Tryz.prog W base spare held m 3 ((cs.drop 2).take (Tryz.prog.cellsOf 3)) = some (xs[2]'(by omega)) := (hf 2 _ rfl).trans (g 2 (by omega))
  have h3 : DataW.trod enc Tryz.prog W base spare held m 4 ((cs.drop 3).take (Tryz.prog.cellsOf 4)) = some (xs[3]'(by omega)) := (hf 3 _ rfl).trans (g 3 (by omega))
  have h4 : DataW.trod enc Tryz.prog W base spare held m 93 ((cs.drop 4).take (Tryz.prog.cellsOf 93)) = some (xs[4]'(by omega)) := (hf 4 _ rfl).trans (g 4 (by omega))
  rw [cellsInt] at h1 h2
  rw [cellsStr] at h0
  rw [cellsBool] at h3
  rw [cellsVals] at h4
  obtain ⟨c, e0, _, hc⟩ := DataW.trod_string Tryz.underlying9 h0
  obtain ⟨wd, e1, _, _⟩ := DataW.trod_int Tryz.underlying3 h1
  obtain ⟨hg, e2, _, _⟩ := DataW.trod_int Tryz.underlying3 h2
  obtain ⟨ev, e3, _⟩ := DataW.trod_bool Tryz.underlying4 h3
  obtain ⟨A, vs, cap, e4, hvs, hle, hca⟩ := open_vals h4
  exact ⟨⟨⟨c, wd, hg, ev, vs⟩, A, cap⟩, take1 e0, take1 e1, take1 e2, take1 e3, take1 e4, ⟨hvs, hle, hca, hc⟩⟩
theorem open_signs {n : Nat} {cs : List Value} {x : DataW H × List MemPlace} (h : DataW.trod enc Tryz.prog W base spare held n 22 cs = some x) :
    ∃ (A : Option Addr) (ms : List Sm) (cap : Nat), cs = [.slice A ms.length cap] ∧ SignsAt W A ms ∧ ms.length ≤ cap ∧ cap ≤ maxLen := by
  rcases open_slice Tryz.underlying22 h with ⟨rfl, _⟩ | ⟨a, len, cap, m, k, D, Pl, rfl, _, hl, hm, hmm, _, hi⟩
  · exact ⟨none, [], 0, rfl, fun i v hv => by simp at hv, Nat.le_refl _, Nat.zero_le _⟩
  · rw [cellsSgn] at hi
    have hlm : len ≤ m := by rw [hmm]; split <;> omega
    obtain ⟨ms, hvl, hvs⟩ := list_of len (fun i (v : Sm) => ∃ b o, a = ⟨b, o, none⟩ ∧ b < W.heap.size ∧ SmAt W b (o + i * 5) v ∧ SmOk W v) (fun i hil => by
      obtain ⟨cs0, hc0, _⟩ := hi 0 (by omega)
      obtain ⟨b, o, rfl⟩ := spot_of hc0 (by omega)
      obtain ⟨cs', hc, ht⟩ := hi i (by omega)
      obtain ⟨hb, hcl, hat⟩ := elem_cells hc (by omega)
      obtain ⟨v, e0, e1, e2, e3, e4, eo⟩ := open_sg ht
      exact ⟨v, b, o, rfl, hb, ⟨(hat 0 (by omega)).trans e0, (hat 1 (by omega)).trans e1, (hat 2 (by omega)).trans e2, (hat 3 (by omega)).trans e3, (hat 4 (by omega)).trans e4⟩, eo⟩)
    refine ⟨some a, ms, cap, by rw [hvl], fun i v hv => ?_, by omega, hm⟩
    obtain ⟨b, o, e, hb, hva⟩ := hvs i v hv
    exact ⟨b, o, by rw [e], hb, hva⟩
theorem cellsNd : Tryz.prog.cellsOf 87 = 8 := by kernel_rfl
theorem cellsNds : Tryz.prog.cellsOf 25 = 1 := by kernel_rfl
theorem cellsTxt : Tryz.prog.cellsOf 27 = 1 := by kernel_rfl
theorem cellsPap : Tryz.prog.cellsOf 29 = 3 := by kernel_rfl
theorem open_nd {n : Nat} {cs : List Value} {x : DataW H × List MemPlace} (h : DataW.trod enc Tryz.prog W base spare held n 87 cs = some x) :
    ∃ v : Nd, cs[0]? = some (.int .i64 v.kind) ∧ cs[1]? = some (.int .i64 v.depth) ∧ cs[2]? = some (.int .i64 v.sign) ∧ cs[3]? = some (.int .i64 v.turn) ∧ cs[4]? = some (.bool v.mirror) ∧ cs[5]? = some (.int .i64 v.state) ∧ cs[6]? = some (.int .i64 v.min) ∧ cs[7]? = some (.int .i64 v.max) := by
  obtain ⟨xs, m, _, _, _, hl, hf⟩ := DataW.trod_struct Tryz.underlying87 h
  have hl : xs.length = 8 := hl
  have g := fun i (hi : i < 8) => List.getElem?_eq_getElem (l := xs) (i := i) (by omega)
  have h0 : DataW.trod enc Tryz.prog W base spare held m 3 ((cs.drop 0).take (Tryz.prog.cellsOf 3)) = some (xs[0]'(by omega)) := (hf 0 _ rfl).trans (g 0 (by omega))
  have h1 : DataW.trod enc Tryz.prog W base spare held m 3 ((cs.drop 1).take (Tryz.prog.cellsOf 3)) = some (xs[1]'(by omega)) := (hf 1 _ rfl).trans (g 1 (by omega))
  have h2 : DataW.trod enc Tryz.prog W base spare held m 3 ((cs.drop 2).take (Tryz.prog.cellsOf 3)) = some (xs[2]'(by omega)) := (hf 2 _ rfl).trans (g 2 (by omega))
  have h3 : DataW.trod enc Tryz.prog W base spare held m 3 ((cs.drop 3).take (Tryz.prog.cellsOf 3)) = some (xs[3]'(by omega)) := (hf 3 _ rfl).trans (g 3 (by omega))
  have h4 : DataW.trod enc Tryz.prog W base spare held m 4 ((cs.drop 4).take (Tryz.prog.cellsOf 4)) = some (xs[4]'(by omega)) := (hf 4 _ rfl).trans (g 4 (by omega))
  have h5 : DataW.trod enc Tryz.prog W base spare held m 3 ((cs.drop 5).take (Tryz.prog.cellsOf 3)) = some (xs[5]'(by omega)) := (hf 5 _ rfl).trans (g 5 (by omega))
  have h6 : DataW.trod enc Tryz.prog W base spare held m 3 ((cs.drop 6).take (Tryz.prog.cellsOf 3)) = some (xs[6]'(by omega)) := (hf 6 _ rfl).trans (g 6 (by omega))
  have h7 : DataW.trod enc Tryz.prog W base spare held m 3 ((cs.drop 7).take (Tryz.prog.cellsOf 3)) = some (xs[7]'(by omega)) := (hf 7 _ rfl).trans (g 7 (by omega))
  rw [cellsInt] at h0 h1 h2 h3 h5 h6 h7
  rw [cellsBool] at h4
  obtain ⟨a0, e0, _, _⟩ := DataW.trod_int Tryz.underlying3 h0
  obtain ⟨a1, e1, _, _⟩ := DataW.trod_int Tryz.underlying3 h1
  obtain ⟨a2, e2, _, _⟩ := DataW.trod_int Tryz.underlying3 h2
  obtain ⟨a3, e3, _, _⟩ := DataW.trod_int Tryz.underlying3 h3
  obtain ⟨a4, e4, _⟩ := DataW.trod_bool Tryz.underlying4 h4
  obtain ⟨a5, e5, _, _⟩ := DataW.trod_int Tryz.underlying3 h5
  obtain ⟨a6, e6, _, _⟩ := DataW.trod_int Tryz.underlying3 h6
  obtain ⟨a7, e7, _, _⟩ := DataW.trod_int Tryz.underlying3 h7
  exact ⟨⟨a0, a1, a2, a3, a4, a5, a6, a7⟩, take1 e0, take1 e1, take1 e2, take1 e3, take1 e4, take1 e5, take1 e6, take1 e7⟩
theorem open_nds {n : Nat} {cs : List Value} {x : DataW H × List MemPlace} (h : DataW.trod enc Tryz.prog W base spare held n 25 cs = some x) :
    ∃ (A : Option Addr) (ns : List Nd) (cap : Nat), cs = [.slice A ns.length cap] ∧ NdsAt W A ns ∧ ns.length ≤ cap ∧ cap ≤ maxLen := by
  rcases open_slice Tryz.underlying25 h with ⟨rfl, _⟩ | ⟨a, len, cap, m, k, D, Pl, rfl, _, hl, hm, hmm, _, hi⟩
  · exact ⟨none, [], 0, rfl, fun i v hv => by simp at hv, Nat.le_refl _, Nat.zero_le _⟩
  · rw [cellsNd] at hi
    have hlm : len ≤ m := by rw [hmm]; split <;> omega
    obtain ⟨ns, hvl, hvs⟩ := list_of len (fun i (v : Nd) => ∃ b o, a = ⟨b, o, none⟩ ∧ b < W.heap.size ∧ NdAt W b (o + i * 8) v) (fun i hil => by
      obtain ⟨cs0, hc0, _⟩ := hi 0 (by omega)
      obtain ⟨b, o, rfl⟩ := spot_of hc0 (by omega)
      obtain ⟨cs', hc, ht⟩ := hi i (by omega)
      obtain ⟨hb, hcl, hat⟩ := elem_cells hc (by omega)
      obtain ⟨v, e0, e1, e2, e3, e4, e5, e6, e7⟩ := open_nd ht
      exact ⟨v, b, o, rfl, hb, ⟨(hat 0 (by omega)).trans e0, (hat 1 (by omega)).trans e1, (hat 2 (by omega)).trans e2, (hat 3 (by omega)).trans e3, (hat 4 (by omega)).trans e4, (hat 5 (by omega)).trans e5, (hat 6 (by omega)).trans e6, (hat 7 (by omega)).trans e7⟩⟩)
    refine ⟨some a, ns, cap, by rw [hvl], fun i v hv => ?_, by omega, hm⟩
    obtain ⟨b, o, e, hb, hva⟩ := hvs i v hv
    exact ⟨b, o, by rw [e], hb, hva⟩
theorem one_text {n : Nat} {cs : List Value} {x : DataW H × List MemPlace} (h : DataW.trod enc Tryz.prog W base spare held n 27 cs = some x) :
    ∃ (A : Option Addr) (cap : Nat) (ns : List Nd), cs[0]? = some (.slice A ns.length cap) ∧ NdsAt W A ns ∧ ns.length ≤ cap ∧ cap ≤ maxLen := by
  obtain ⟨xs, m, _, _, _, hl, hf⟩ := DataW.trod_struct Tryz.underlying27 h
  have hl : xs.length = 1 := hl
  have h0 : DataW.trod enc Tryz.prog W base spare held m 25 ((cs.drop 0).take (Tryz.prog.cellsOf 25)) = some (xs[0]'(by omega)) := (hf 0 _ rfl).trans (List.getElem?_eq_getElem (by omega))
  rw [cellsNds] at h0
  obtain ⟨A, ns, cap, e, h1, h2, h3⟩ := open_nds h0
  exact ⟨A, cap, ns, take1 e, h1, h2, h3⟩
theorem one_list {n : Nat} {cs : List Value} {x : DataW H × List MemPlace} (h : DataW.trod enc Tryz.prog W base spare held n 24 cs = some x) :
    ∃ (L : Lm), cs[0]? = some (.int .i64 L.per) ∧ cs[1]? = some (.slice L.A L.ms.length L.cap) ∧ LmOk W L := by
  obtain ⟨xs, m, _, _, _, hl, hf⟩ := DataW.trod_struct Tryz.underlying24 h
  have hl : xs.length = 2 := hl
  have h0 : DataW.trod enc Tryz.prog W base spare held m 3 ((cs.drop 0).take (Tryz.prog.cellsOf 3)) = some (xs[0]'(by omega)) := (hf 0 _ rfl).trans (List.getElem?_eq_getElem (by omega))
  have h1 : DataW.trod enc Tryz.prog W base spare held m 22 ((cs.drop 1).take (Tryz.prog.cellsOf 22)) = some (xs[1]'(by omega)) := (hf 1 _ rfl).trans (List.getElem?_eq_getElem (by omega))
  rw [cellsInt] at h0
  rw [cellsSgns] at h1
  obtain ⟨per, e0, _, _⟩ := DataW.trod_int Tryz.underlying3 h0
  obtain ⟨A, ms, cap, e1, hs, hl, hc⟩ := open_signs h1
  exact ⟨⟨per, ms, A, cap⟩, take1 e0, take1 e1, hs, hl, hc⟩
set_option maxRecDepth 100000 in
theorem open_paper {r : Reach} {b0 : Nat} {v : Value} {d : DataW H} {p : List MemPlace} (hv : Value.okWide Tryz.prog W r b0 29 v) (h : DataW.Trod enc Tryz.prog W base spare held 29 v d p) :
    ∃ (L : Lm) (A : Option Addr) (cap : Nat) (ns : List Nd), v = .agg #[.int .i64 L.per, .slice L.A L.ms.length L.cap, .slice A ns.length cap] ∧ LmOk W L ∧ NdsAt W A ns ∧ ns.length ≤ cap ∧ cap ≤ maxLen := by
  obtain ⟨cs, rfl, hsz⟩ := okWide_struct Tryz.underlying29 hv
  obtain ⟨c0, c1, c2, rfl⟩ := Joins.array3 (hsz.trans cellsPap)
  obtain ⟨fuel, hf⟩ := h
  obtain ⟨xs, m, _, _, _, hl, hf⟩ := DataW.trod_struct Tryz.underlying29 hf
  have hl : xs.length = 2 := hl
  have h0 : DataW.trod enc Tryz.prog W base spare held m 24 ([c0, c1, c2].take (Tryz.prog.cellsOf 24)) = some (xs[0]'(by omega)) := by
    have := (hf 0 _ rfl).trans (List.getElem?_eq_getElem (by omega)); simpa [Value.cells] using this
  have h1 : DataW.trod enc Tryz.prog W base spare held m 27 (([c0, c1, c2].drop 2).take (Tryz.prog.cellsOf 27)) = some (xs[1]'(by omega)) := by
    have := (hf 1 _ rfl).trans (List.getElem?_eq_getElem (by omega)); simpa [Value.cells] using this
  rw [cellsLst] at h0
  rw [cellsTxt] at h1
  obtain ⟨L, e0, e1, hok⟩ := one_list h0
  obtain ⟨A, cap, ns, e2, h2, h3, h4⟩ := one_text h1
  have e0 : c0 = .int .i64 L.per := by simpa using e0
  have e1 : c1 = .slice L.A L.ms.length L.cap := by simpa using e1
  have e2 : c2 = .slice A ns.length cap := by simpa using e2
  exact ⟨L, A, cap, ns, by rw [e0, e1, e2], hok, h2, h3, h4⟩
theorem args_stay {P : Program} (hl : laidOutB P = true) {W' : World} {sp : Nat → Bool} (hb : Below W.heap.size W W') : ∀ {ts : List TypeId} {vs : List Value} {ds : List (DataW H)} {ps : List MemPlace}, (∀ t ∈ ts, P.readableRec t = true ∧ t < P.types.size) →
    DataW.TrodAll enc P W 0 (fun _ => true) true ts vs ds ps → (∀ x ∈ ps, x.block < W.heap.size) → (∀ x ∈ ps, sp x.block = true) → DataW.TrodAll enc P W' 0 sp true ts vs ds ps
  | [], [], [], _, _, h, _, _ => h
  | _ :: _, _ :: _, _ :: _, _, hr, ⟨p, q, h1, h2, e⟩, hlt, hs =>
    have hr0 := hr _ (List.mem_cons.2 (Or.inl rfl))
    ⟨p, q, WideElems.Trod_stays hl hr0.1 hr0.2 h1 (fun x hx => hb.same (hlt x (by rw [e]; exact List.mem_append_left _ hx))) (fun x hx => hs x (by rw [e]; exact List.mem_append_left _ hx)),
      args_stay hl hb (fun t ht => hr t (List.mem_cons.2 (Or.inr ht))) h2 (fun x hx => hlt x (by rw [e]; exact List.mem_append_right _ hx)) (fun x hx => hs x (by rw [e]; exact List.mem_append_right _ hx)), e⟩
set_option maxRecDepth 100000 in
theorem post_true {f : Func} {s : ChangeSpec} {W' : World} {args : Array Value} {ds gs : List (DataW H)} {before : List MemPlace} (hW : DataW.Whole enc Tryz.prog f.params.toList s.vars false W args.toList ds gs before)
    (hv : s.vars = []) (hr : (f.params.toList.all fun t => Tryz.prog.readableRec t && decide (t < Tryz.prog.types.size)) = true) (hres : f.resultTypes = #[4])
    (h1 : (s.fn H (ds ++ gs)).results = [.lit (.bool true)]) (h2 : (s.fn H (ds ++ gs)).args = ds) (h3 : (s.fn H (ds ++ gs)).vars = []) (hb : Below W.heap.size W W') :
    s.post enc Tryz.prog f false true false false W args (.bool true) W' := by
  obtain ⟨p, q, hA, hV, hpq, hfz, hnd⟩ := id hW
  rw [hv] at hV
  obtain ⟨hgs, hq⟩ := trodVars_none hV
  have hlt : ∀ x ∈ p, x.block < W.heap.size := DataW.TrodAll.lt hA
  refine ⟨ds, gs, before, [], p, [], hW, ?_, ?_, ?_, hb.frame _, fun h => by cases h⟩
  · rw [h1, hres]
    exact trodAll_cons_mk (shut_bool Tryz.underlying4 _) trodAll_mk0
  · rw [h2]
    exact args_stay laidOut hb (fun t ht => by have := List.all_eq_true.1 hr t ht; simpa only [Bool.and_eq_true, decide_eq_true_eq] using this) hA hlt (fun x hx => decide_eq_true (hlt x hx))
  · rw [h3, hv]; rfl
end
open Go.ChangeShapes Go.WideShapes Go.ChangeAt Go.RowKit Go.Deep
theorem cellsPage : Tryz.prog.cellsOf 31 = 2 := by kernel_rfl
section
variable {H : Type} {enc : TypeId × Value → H} {W : World} {base : Nat} {spare : Nat → Bool} {held : Bool}
set_option maxRecDepth 100000 in
theorem open_page {r : Reach} {b0 : Nat} {v : Value} {d : DataW H} {p : List MemPlace} (hv : Value.okWide Tryz.prog W r b0 31 v) (h : DataW.Trod enc Tryz.prog W base spare held 31 v d p) :
    ∃ (n m : Int), v = .agg #[.int .i64 n, .int .i64 m] := by
  obtain ⟨cs, rfl, hsz⟩ := okWide_struct Tryz.underlying31 hv
  obtain ⟨c0, c1, rfl⟩ := Joins.array2 (hsz.trans cellsPage)
  obtain ⟨fuel, hf⟩ := h
  obtain ⟨xs, m, _, _, _, hl, hf⟩ := DataW.trod_struct Tryz.underlying31 hf
  have hl : xs.length = 2 := hl
  have h0 : DataW.trod enc Tryz.prog W base spare held m 3 ([c0, c1].take (Tryz.prog.cellsOf 3)) = some (xs[0]'(by omega)) := by
    have := (hf 0 _ rfl).trans (List.getElem?_eq_getElem (by omega)); simpa [Value.cells] using this
  have h1 : DataW.trod enc Tryz.prog W base spare held m 3 (([c0, c1].drop 1).take (Tryz.prog.cellsOf 3)) = some (xs[1]'(by omega)) := by
    have := (hf 1 _ rfl).trans (List.getElem?_eq_getElem (by omega)); simpa [Value.cells] using this
  rw [cellsInt] at h0 h1
  obtain ⟨f, e0, _, _⟩ := DataW.trod_int Tryz.underlying3 h0
  obtain ⟨t, e1, _, _⟩ := DataW.trod_int Tryz.underlying3 h1
  have e0 : c0 = .int .i64 f := by simpa using e0
  have e1 : c1 = .int .i64 t := by simpa using e1
  exact ⟨f, t, by rw [e0, e1]⟩
end
end Go.Proofs.YtmiokllpdmmfhaaGreat
