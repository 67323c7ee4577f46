/-
  What is common to the laws' main proofs: a list opened, the tables that a row lists, and what is said behind the call. And what builds on it.
-/
import Derived.Test.YtleihhkacmgofabGreatDoorPk8
import Derived.Test.YtleihhkacmgofabGreatDoorCards
import Derived.Test.YtleihhkacmgofabGreatDoorTie
import Derived.ProofKit
import Derived.OpenShut
import Derived.Deep.DeepHandedRow
import Derived.Deep.DeepLaidRun
import Derived.Deep.Slices
import Derived.Lib.LaidTab
import Derived.Lib.SmallJoins
import Derived.MakeChecks

/- What is common to the laws' main proofs: a list opened, the tables that a row lists, and what is said behind the call. -/
namespace Go.Proofs.YtleihhkacmgofabGreatDoor
open Go.ChangeShapes Go.WideShapes Go.ChangeAt Go.RowKit Go.Deep

theorem own : ownKnob Tryz.prog.godebug = none := by kernel_rfl
theorem laidOut : laidOutB Tryz.prog = true := by kernel_rfl
theorem cellsStr : Tryz.prog.cellsOf 9 = 1 := by kernel_rfl
theorem cellsVal : Tryz.prog.cellsOf 43 = 4 := by kernel_rfl
theorem cellsSgn : Tryz.prog.cellsOf 38 = 5 := by kernel_rfl
theorem cellsInt : Tryz.prog.cellsOf 3 = 1 := by kernel_rfl
theorem cellsBool : Tryz.prog.cellsOf 4 = 1 := by kernel_rfl
theorem cellsVals : Tryz.prog.cellsOf 34 = 1 := by kernel_rfl
theorem cellsLst : Tryz.prog.cellsOf 24 = 2 := by kernel_rfl
theorem cellsSgns : Tryz.prog.cellsOf 22 = 1 := by kernel_rfl

section
variable {H : Type} {enc : TypeId × Value → H} {W : World} {base : Nat} {spare : Nat → Bool} {held : Bool}

theorem spot_of {a : Addr} {c : Nat} {cs : List Value} (h : W.cells? base (a.add (0 * c)) c = some cs) (hc : 0 < c) : ∃ b o, a = ⟨b, o, none⟩ := by
  obtain ⟨_, hl, hat⟩ := World.cells?_some h
  obtain ⟨b, o, sp⟩ := a
  have h0 := hat 0 hc
  rw [List.getElem?_eq_getElem (by omega)] at h0
  have hsp : sp = none := by simpa [Addr.add] using World.cell?_spot h0
  exact ⟨b, o, by rw [hsp]⟩
/-- the cells of an element of a row -/
theorem elem_cells {b o i c : Nat} {cs : List Value} (h : W.cells? base ((⟨b, o, none⟩ : Addr).add (i * c)) c = some cs) (hc : 0 < c) :
    b < W.heap.size ∧ cs.length = c ∧ ∀ j, j < c → W.cell? ⟨b, o + i * c + j, none⟩ = cs[j]? := by
  obtain ⟨_, hl, hat⟩ := World.cells?_some h
  have hat' : ∀ j, j < c → W.cell? ⟨b, o + i * c + j, none⟩ = cs[j]? := fun j hj => by
    have := hat j hj
    rwa [addr_add, addr_add] at this
  refine ⟨?_, hl, hat'⟩
  have h0 := hat' 0 hc
  rw [List.getElem?_eq_getElem (by omega)] at h0
  exact cell_lt h0

theorem take1 {cs : List Value} {o : Nat} {v : Value} (h : (cs.drop o).take 1 = [v]) : cs[o]? = some v := by
  have := congrArg (·[0]?) h
  simpa [List.getElem?_take, List.getElem?_drop] using this

theorem open_va {n : Nat} {cs : List Value} {x : DataW H × List MemPlace} (h : DataW.trod enc Tryz.prog W base spare held n 43 cs = some x) :
    ∃ v : Va, cs[0]? = some (.int .i64 v.kind) ∧ cs[1]? = some (.string v.text) ∧ cs[2]? = some (.int .i64 v.fr) ∧ cs[3]? = some (.int .i64 v.to) ∧ v.text.size ≤ maxLen := by
  obtain ⟨xs, m, _, _, _, hl, hf⟩ := DataW.trod_struct Tryz.underlying43 h
  have hl : xs.length = 4 := hl
  have g := fun i (hi : i < 4) => List.getElem?_eq_getElem (l := xs) (i := i) (by omega)
  have h0 : DataW.trod enc Tryz.prog W base spare held m 3 ((cs.drop 0).take (Tryz.prog.cellsOf 3)) = some (xs[0]'(by omega)) := (hf 0 _ rfl).trans (g 0 (by omega))
  have h1 : DataW.trod enc Tryz.prog W base spare held m 9 ((cs.drop 1).take (Tryz.prog.cellsOf 9)) = some (xs[1]'(by omega)) := (hf 1 _ rfl).trans (g 1 (by omega))
  have h2 : DataW.trod enc Tryz.prog W base spare held m 3 ((cs.drop 2).take (Tryz.prog.cellsOf 3)) = some (xs[2]'(by omega)) := (hf 2 _ rfl).trans (g 2 (by omega))
  have h3 : DataW.trod enc Tryz.prog W base spare held m 3 ((cs.drop 3).take (Tryz.prog.cellsOf 3)) = some (xs[3]'(by omega)) := (hf 3 _ rfl).trans (g 3 (by omega))
  rw [cellsInt] at h0 h2 h3
  rw [cellsStr] at h1
  obtain ⟨k, e0, _, _⟩ := DataW.trod_int Tryz.underlying3 h0
  obtain ⟨t, e1, _, ht⟩ := DataW.trod_string Tryz.underlying9 h1
  obtain ⟨f, e2, _, _⟩ := DataW.trod_int Tryz.underlying3 h2
  obtain ⟨u, e3, _, _⟩ := DataW.trod_int Tryz.underlying3 h3
  exact ⟨⟨k, t, f, u⟩, take1 e0, take1 e1, take1 e2, take1 e3, ht⟩

theorem list_of {α : Type} (n : Nat) (Q : Nat → α → Prop) (h : ∀ i, i < n → ∃ x, Q i x) : ∃ l : List α, l.length = n ∧ ∀ i x, l[i]? = some x → Q i x := by
  induction n with
  | zero => exact ⟨[], rfl, fun i x h => by simp at h⟩
  | succ n ih =>
    obtain ⟨l, hl, hq⟩ := ih (fun i hi => h i (by omega))
    obtain ⟨x, hx⟩ := h n (by omega)
    refine ⟨l ++ [x], by simp [hl], fun i y hy => ?_⟩
    by_cases hi : i < n
    · rw [List.getElem?_append_left (by omega)] at hy
      exact hq i y hy
    · rw [List.getElem?_append_right (by omega), hl] at hy
      have hin : i = n := by
        by_cases e : i = n
        · exact e
        · rw [show i - n = (i - n - 1) + 1 by omega] at hy; simp at hy
      subst hin
      simp at hy
      subst hy
      exact hx

theorem open_vals {n : Nat} {cs : List Value} {x : DataW H × List MemPlace} (h : DataW.trod enc Tryz.prog W base spare held n 34 cs = some x) :
    ∃ (A : Option Addr) (vs : List Va) (cap : Nat), cs = [.slice A vs.length cap] ∧ ValsAt W A vs ∧ vs.length ≤ cap ∧ cap ≤ maxLen := by
  rcases open_slice Tryz.underlying34 h with ⟨rfl, _⟩ | ⟨a, len, cap, m, k, D, Pl, rfl, _, hl, hm, hmm, _, hi⟩
  · exact ⟨none, [], 0, rfl, ValsAt.nil _, Nat.le_refl _, Nat.zero_le _⟩
  · rw [cellsVal] at hi
    have hlm : len ≤ m := by rw [hmm]; split <;> omega
    obtain ⟨vs, hvl, hvs⟩ := list_of len (fun i (v : Va) => ∃ b o, a = ⟨b, o, none⟩ ∧ b < W.heap.size ∧ VaAt W b (o + i * 4) v) (fun i hil => by
      obtain ⟨cs0, hc0, _⟩ := hi 0 (by omega)
      obtain ⟨b, o, rfl⟩ := spot_of hc0 (by omega)
      obtain ⟨cs', hc, ht⟩ := hi i (by omega)
      obtain ⟨hb, hcl, hat⟩ := elem_cells hc (by omega)
      obtain ⟨v, e0, e1, e2, e3, es⟩ := open_va ht
      exact ⟨v, b, o, rfl, hb, ⟨(hat 0 (by omega)).trans e0, (hat 1 (by omega)).trans e1, (hat 2 (by omega)).trans e2, (hat 3 (by omega)).trans e3, es⟩⟩)
    refine ⟨some a, vs, cap, by rw [hvl], fun i v hv => ?_, by omega, hm⟩
    obtain ⟨b, o, e, hb, hva⟩ := hvs i v hv
    exact ⟨b, o, by rw [e], hb, hva⟩

theorem open_sg {n : Nat} {cs : List Value} {x : DataW H × List MemPlace} (h : DataW.trod enc Tryz.prog W base spare held n 38 cs = some x) :
    ∃ m : Sm, cs[0]? = some (.string m.s.code) ∧ cs[1]? = some (.int .i64 m.s.wide) ∧ cs[2]? = some (.int .i64 m.s.high) ∧ cs[3]? = some (.bool m.s.even) ∧ cs[4]? = some (.slice m.A m.s.vals.length m.cap) ∧ SmOk W m := by
  obtain ⟨xs, m, _, _, _, hl, hf⟩ := DataW.trod_struct Tryz.underlying38 h
  have hl : xs.length = 5 := hl
  have g := fun i (hi : i < 5) => List.getElem?_eq_getElem (l := xs) (i := i) (by omega)
  have h0 : DataW.trod enc Tryz.prog W base spare held m 9 ((cs.drop 0).take (Tryz.prog.cellsOf 9)) = some (xs[0]'(by omega)) := (hf 0 _ rfl).trans (g 0 (by omega))
  have h1 : DataW.trod enc Tryz.prog W base spare held m 3 ((cs.drop 1).take (Tryz.prog.cellsOf 3)) = some (xs[1]'(by omega)) := (hf 1 _ rfl).trans (g 1 (by omega))
  have h2 : DataW.trod enc Tryz.prog W base spare held m 3 ((cs.drop 2).take (Tryz.prog.cellsOf 3)) = some (xs[2]'(by omega)) := (hf 2 _ rfl).trans (g 2 (by omega))
  have h3 : DataW.trod enc Tryz.prog W base spare held m 4 ((cs.drop 3).take (Tryz.prog.cellsOf 4)) = some (xs[3]'(by omega)) := (hf 3 _ rfl).trans (g 3 (by omega))
  have h4 : DataW.trod enc Tryz.prog W base spare held m 34 ((cs.drop 4).take (Tryz.prog.cellsOf 34)) = some (xs[4]'(by omega)) := (hf 4 _ rfl).trans (g 4 (by omega))
  rw [cellsInt] at h1 h2
  rw [cellsStr] at h0
  rw [cellsBool] at h3
  rw [cellsVals] at h4
  obtain ⟨c, e0, _, hc⟩ := DataW.trod_string Tryz.underlying9 h0
  obtain ⟨wd, e1, _, _⟩ := DataW.trod_int Tryz.underlying3 h1
  obtain ⟨hg, e2, _, _⟩ := DataW.trod_int Tryz.underlying3 h2
  obtain ⟨ev, e3, _⟩ := DataW.trod_bool Tryz.underlying4 h3
  obtain ⟨A, vs, cap, e4, hvs, hle, hca⟩ := open_vals h4
  exact ⟨⟨⟨c, wd, hg, ev, vs⟩, A, cap⟩, take1 e0, take1 e1, take1 e2, take1 e3, take1 e4, ⟨hvs, hle, hca, hc⟩⟩

theorem open_signs {n : Nat} {cs : List Value} {x : DataW H × List MemPlace} (h : DataW.trod enc Tryz.prog W base spare held n 22 cs = some x) :
    ∃ (A : Option Addr) (ms : List Sm) (cap : Nat), cs = [.slice A ms.length cap] ∧ SignsAt W A ms ∧ ms.length ≤ cap ∧ cap ≤ maxLen := by
  rcases open_slice Tryz.underlying22 h with ⟨rfl, _⟩ | ⟨a, len, cap, m, k, D, Pl, rfl, _, hl, hm, hmm, _, hi⟩
  · exact ⟨none, [], 0, rfl, fun i v hv => by simp at hv, Nat.le_refl _, Nat.zero_le _⟩
  · rw [cellsSgn] at hi
    have hlm : len ≤ m := by rw [hmm]; split <;> omega
    obtain ⟨ms, hvl, hvs⟩ := list_of len (fun i (v : Sm) => ∃ b o, a = ⟨b, o, none⟩ ∧ b < W.heap.size ∧ SmAt W b (o + i * 5) v ∧ SmOk W v) (fun i hil => by
      obtain ⟨cs0, hc0, _⟩ := hi 0 (by omega)
      obtain ⟨b, o, rfl⟩ := spot_of hc0 (by omega)
      obtain ⟨cs', hc, ht⟩ := hi i (by omega)
      obtain ⟨hb, hcl, hat⟩ := elem_cells hc (by omega)
      obtain ⟨v, e0, e1, e2, e3, e4, eo⟩ := open_sg ht
      exact ⟨v, b, o, rfl, hb, ⟨(hat 0 (by omega)).trans e0, (hat 1 (by omega)).trans e1, (hat 2 (by omega)).trans e2, (hat 3 (by omega)).trans e3, (hat 4 (by omega)).trans e4⟩, eo⟩)
    refine ⟨some a, ms, cap, by rw [hvl], fun i v hv => ?_, by omega, hm⟩
    obtain ⟨b, o, e, hb, hva⟩ := hvs i v hv
    exact ⟨b, o, by rw [e], hb, hva⟩

set_option maxRecDepth 100000 in
theorem open_list {r : Reach} {b0 : Nat} {v : Value} {d : DataW H} {p : List MemPlace} (hv : Value.okWide Tryz.prog W r b0 24 v) (h : DataW.Trod enc Tryz.prog W base spare held 24 v d p) :
    ∃ L : Lm, v = L.val ∧ LmOk W L := by
  obtain ⟨v0, v1, y0, y1, n, rfl, _, _, t0, t1⟩ := Joins.open_agg2 Tryz.underlying24 (by kernel_rfl) cellsLst hv h
  obtain ⟨per, e0, _, _⟩ := DataW.trod_int Tryz.underlying3 t0
  obtain ⟨A, ms, cap, e1, hs, hl, hc⟩ := open_signs t1
  injection e0 with e0
  injection e1 with e1
  subst e0 e1
  exact ⟨⟨per, ms, A, cap⟩, rfl, hs, hl, hc⟩

/-- arguments that read behind the call as they read before -/
theorem args_stay {P : Program} (hl : laidOutB P = true) {W' : World} {sp : Nat → Bool} (hb : Below W.heap.size W W') : ∀ {ts : List TypeId} {vs : List Value} {ds : List (DataW H)} {ps : List MemPlace}, (∀ t ∈ ts, P.readableRec t = true ∧ t < P.types.size) →
    DataW.TrodAll enc P W 0 (fun _ => true) true ts vs ds ps → (∀ x ∈ ps, x.block < W.heap.size) → (∀ x ∈ ps, sp x.block = true) → DataW.TrodAll enc P W' 0 sp true ts vs ds ps
  | [], [], [], _, _, h, _, _ => h
  | _ :: _, _ :: _, _ :: _, _, hr, ⟨p, q, h1, h2, e⟩, hlt, hs =>
    have hr0 := hr _ (List.mem_cons.2 (Or.inl rfl))
    ⟨p, q, WideElems.Trod_stays hl hr0.1 hr0.2 h1 (fun x hx => hb.same (hlt x (by rw [e]; exact List.mem_append_left _ hx))) (fun x hx => hs x (by rw [e]; exact List.mem_append_left _ hx)),
      args_stay hl hb (fun t ht => hr t (List.mem_cons.2 (Or.inr ht))) h2 (fun x hx => hlt x (by rw [e]; exact List.mem_append_right _ hx)) (fun x hx => hs x (by rw [e]; exact List.mem_append_right _ hx)), e⟩

set_option maxRecDepth 100000 in
/-- what is said behind a call that returns true and turns nothing of what was there -/
theorem post_true {f : Func} {s : ChangeSpec} {W' : World} {args : Array Value} {ds gs : List (DataW H)} {before : List MemPlace} (hW : DataW.Whole enc Tryz.prog f.params.toList s.vars false W args.toList ds gs before)
    (hv : s.vars = []) (hr : (f.params.toList.all fun t => Tryz.prog.readableRec t && decide (t < Tryz.prog.types.size)) = true) (hres : f.resultTypes = #[4])
    (h1 : (s.fn H (ds ++ gs)).results = [.lit (.bool true)]) (h2 : (s.fn H (ds ++ gs)).args = ds) (h3 : (s.fn H (ds ++ gs)).vars = []) (hb : Below W.heap.size W W') :
    s.post enc Tryz.prog f false true false false W args (.bool true) W' := by
  obtain ⟨p, q, hA, hV, hpq, hfz, hnd⟩ := id hW
  rw [hv] at hV
  obtain ⟨hgs, hq⟩ := trodVars_none hV
  have hlt : ∀ x ∈ p, x.block < W.heap.size := DataW.TrodAll.lt hA
  refine ⟨ds, gs, before, [], p, [], hW, ?_, ?_, ?_, hb.frame _, fun h => by cases h⟩
  · rw [h1, hres]
    exact trodAll_cons_mk (shut_bool Tryz.underlying4 _) trodAll_mk0
  · rw [h2]
    exact args_stay laidOut hb (fun t ht => by have := List.all_eq_true.1 hr t ht; simpa only [Bool.and_eq_true, decide_eq_true_eq] using this) hA hlt (fun x hx => decide_eq_true (hlt x hx))
  · rw [h3, hv]; rfl
end
end Go.Proofs.YtleihhkacmgofabGreatDoor

/- From the tables that the rows list to what the walks read of them; and a world that holds them. -/
namespace Go.Proofs.YtleihhkacmgofabGreatDoor
open Go.ChangeShapes Go.WideShapes Go.ChangeAt Go.RowKit Go.Deep

theorem gKind : Tryz.prog.globalNamed "ostracon/signs.kindLetters" = some 1 := by kernel_rfl
theorem tPow : (Tryz.prog.globals[2]?).map (·.type) = some 132 := by kernel_rfl
theorem tKind : (Tryz.prog.globals[1]?).map (·.type) = some 130 := by kernel_rfl
theorem cellsPow : Tryz.prog.cellsOf 132 = 20 := by kernel_rfl
theorem cellsKind : Tryz.prog.cellsOf 130 = 4 := by kernel_rfl
theorem cellsU64 : Tryz.prog.cellsOf 113 = 1 := by kernel_rfl

/-- the tables that the rows list -/
def tables : List (String × DataW Unit) := Rows.signsMergedRow.laid

theorem str_of {W : World} {n : Nat} {c : Value} {bs : List UInt8} {p : List MemPlace} (h : DataW.trod (fun _ => ()) Tryz.prog W 0 (fun _ => true) false n 9 [c] = some (.lit (.string bs), p)) : c = .string ⟨bs.toArray⟩ := by
  obtain ⟨s, e, hx, _⟩ := DataW.trod_string Tryz.underlying9 h
  injection e with e _
  injection hx with h1 _
  injection h1 with h1
  injection h1 with h1
  rw [e, h1]

theorem env_of {W : World} (h : laidMetH Tryz.prog tables W) (hs : W.ShapedOpen Tryz.prog) : Env W := by
  rw [MakeChecks.laidMetH_plain _ _ _ (by kernel_rfl)] at h
  obtain ⟨_, ⟨_, _, _, _, _, _, _, _, _, _, ⟨_, _, _, _, _, _, _, _, _, _, ⟨g3, t3, c3, f3, p3, q3, hg3, ht3, hv3, hd3, ⟨_, _, _, _, _, _, _, _, _, _, ⟨g5, t5, c5, f5, p5, q5, hg5, ht5, hv5, hd5, _, _⟩, _⟩, _⟩, _⟩, _⟩, _⟩ := h
  have hgp := gPow
  obtain rfl := Option.some.inj (hgp.symm.trans hg3)
  obtain rfl := Option.some.inj (tPow.symm.trans ht3)
  obtain rfl := Option.some.inj (gKind.symm.trans hg5)
  obtain rfl := Option.some.inj (tKind.symm.trans ht5)
  have hpow : c3.toList = Lib.pow10Tab.map fun z => Value.int .u64 z := Lib.cells_of_tab Tryz.underlying132 Tryz.underlying113 cellsU64 cellsPow hd3
  obtain ⟨xs, m, _, hx, hl, hxl, hf⟩ := DataW.trod_array Tryz.underlying130 hd5
  rw [cellsStr] at hf
  rw [cellsKind] at hl
  have key : ∀ (i : Nat) (bs : List UInt8), i < 4 → (xs.map (·.1))[i]? = some (.lit (.string bs)) → W.cell? ⟨1, i, none⟩ = some (.string ⟨bs.toArray⟩) := fun i bs hi hb => by
    have h1 := hf i hi
    rw [Nat.mul_one] at h1
    rw [List.getElem?_map, Option.map_eq_some_iff] at hb
    obtain ⟨⟨y, py⟩, hy, hyb⟩ := hb
    rw [hy] at h1
    dsimp only at hyb
    subst hyb
    have hc : c5[i]? = some (.string ⟨bs.toArray⟩) := by
      have hi' : i < c5.toList.length := by omega
      have hd : (c5.toList.drop i).take 1 = [c5.toList[i]] := by rw [List.drop_eq_getElem_cons hi']; rfl
      rw [hd] at h1
      have := str_of h1
      rw [← this, ← Array.getElem?_toList, List.getElem?_eq_getElem hi']
    exact (World.var?_cell gKind hv5 i).trans hc
  have hxl : xs.map (·.1) = [.lit (.string []), .lit (.string [115]), .lit (.string [119]), .lit (.string [99])] := by
    have := congrArg Prod.fst hx
    injection this with this
    exact this.symm
  refine ⟨hs, ?_, ?_, ?_, ?_⟩
  · exact key 1 _ (by omega) (by rw [hxl]; rfl)
  · exact key 2 _ (by omega) (by rw [hxl]; rfl)
  · exact key 3 _ (by omega) (by rw [hxl]; rfl)
  · unfold Lib.TabIs
    rw [hv3, ← hpow]

/-- the cells of a table of numbers or strings, of such tables -/
def flat1 : DataW Unit → List Value
  | .lit (.int k n) => [.int k n]
  | .lit (.string bs) => [.string ⟨bs.toArray⟩]
  | _ => []
def flat2 : DataW Unit → List Value
  | .agg xs => xs.flatMap fun
    | .agg ys => ys.flatMap flat1
    | d => flat1 d
  | _ => []
/-- a block's cells for the table -/
def put (d : DataW Unit) : Obj → Obj
  | .cells _ t frozen => .cells (flat2 d).toArray t frozen
  | o => o

/-- A world for the witnesses: the settled one, each table holding what the rows list. -/
noncomputable def laidWorld (os : Os) : World :=
  { World.holding Tryz.prog os ⟨#[], #[], []⟩ with heap := ((((((World.holding Tryz.prog os ⟨#[], #[], []⟩).heap.modify 3 (put Rows.laid_math_bits_deBruijn32tab)).modify 4 (put Rows.laid_math_bits_deBruijn64tab)).modify 2 (put Rows.laid_internal_strconv_uint64pow10)).modify 6 (put Rows.laid_unicode_utf8_acceptRanges)).modify 1 (put Rows.laid_ostracon_signs_kindLetters)).modify 5 (put Rows.laid_unicode_utf8_first) }
end Go.Proofs.YtleihhkacmgofabGreatDoor
