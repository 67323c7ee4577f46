/-
  From the tables that the rows list to what the walks read of them; and a world that holds them.
-/
import Derived.Test.YtleihhkacmgofaaGreatDoorOpen
namespace Go.Proofs.YtleihhkacmgofaaGreatDoor
open Go.ChangeShapes Go.WideShapes Go.ChangeAt Go.RowKit Go.Deep

theorem gKind : Tryz.prog.globalNamed "ostracon/signs.kindLetters" = some 1 := by kernel_rfl
theorem tPow : (Tryz.prog.globals[2]?).map (·.type) = some 132 := by kernel_rfl
theorem tKind : (Tryz.prog.globals[1]?).map (·.type) = some 130 := by kernel_rfl
theorem cellsPow : Tryz.prog.cellsOf 132 = 20 := by kernel_rfl
theorem cellsKind : Tryz.prog.cellsOf 130 = 4 := by kernel_rfl
theorem cellsU64 : Tryz.prog.cellsOf 113 = 1 := by kernel_rfl

/-- the tables that the rows list -/
def tables : List (String × DataW Unit) := Rows.signsTidiesRow.laid

theorem str_of {W : World} {n : Nat} {c : Value} {bs : List UInt8} {p : List MemPlace} (h : DataW.trod (fun _ => ()) Tryz.prog W 0 (fun _ => true) false n 9 [c] = some (.lit (.string bs), p)) : c = .string ⟨bs.toArray⟩ := by
  obtain ⟨s, e, hx, _⟩ := DataW.trod_string Tryz.underlying9 h
  injection e with e _
  injection hx with h1 _
  injection h1 with h1
  injection h1 with h1
  rw [e, h1]

theorem env_of {W : World} (h : laidMetH Tryz.prog tables W) (hs : W.ShapedOpen Tryz.prog) : Env W := by
  rw [MakeChecks.laidMetH_plain _ _ _ (by kernel_rfl)] at h
  obtain ⟨_, ⟨_, _, _, _, _, _, _, _, _, _, ⟨_, _, _, _, _, _, _, _, _, _, ⟨g3, t3, c3, f3, p3, q3, hg3, ht3, hv3, hd3, ⟨_, _, _, _, _, _, _, _, _, _, ⟨g5, t5, c5, f5, p5, q5, hg5, ht5, hv5, hd5, _, _⟩, _⟩, _⟩, _⟩, _⟩, _⟩ := h
  have hgp := gPow
  obtain rfl := Option.some.inj (hgp.symm.trans hg3)
  obtain rfl := Option.some.inj (tPow.symm.trans ht3)
  obtain rfl := Option.some.inj (gKind.symm.trans hg5)
  obtain rfl := Option.some.inj (tKind.symm.trans ht5)
  have hpow : c3.toList = Lib.pow10Tab.map fun z => Value.int .u64 z := Lib.cells_of_tab Tryz.underlying132 Tryz.underlying113 cellsU64 cellsPow hd3
  obtain ⟨xs, m, _, hx, hl, hxl, hf⟩ := DataW.trod_array Tryz.underlying130 hd5
  rw [cellsStr] at hf
  rw [cellsKind] at hl
  have key : ∀ (i : Nat) (bs : List UInt8), i < 4 → (xs.map (·.1))[i]? = some (.lit (.string bs)) → W.cell? ⟨1, i, none⟩ = some (.string ⟨bs.toArray⟩) := fun i bs hi hb => by
    have h1 := hf i hi
    rw [Nat.mul_one] at h1
    rw [List.getElem?_map, Option.map_eq_some_iff] at hb
    obtain ⟨⟨y, py⟩, hy, hyb⟩ := hb
    rw [hy] at h1
    dsimp only at hyb
    subst hyb
    have hc : c5[i]? = some (.string ⟨bs.toArray⟩) := by
      have hi' : i < c5.toList.length := by omega
      have hd : (c5.toList.drop i).take 1 = [c5.toList[i]] := by rw [List.drop_eq_getElem_cons hi']; rfl
      rw [hd] at h1
      have := str_of h1
      rw [← this, ← Array.getElem?_toList, List.getElem?_eq_getElem hi']
    exact (World.var?_cell gKind hv5 i).trans hc
  have hxl : xs.map (·.1) = [.lit (.string []), .lit (.string [115]), .lit (.string [119]), .lit (.string [99])] := by
    have := congrArg Prod.fst hx
    injection this with this
    exact this.symm
  refine ⟨hs, ?_, ?_, ?_, ?_⟩
  · exact key 1 _ (by omega) (by rw [hxl]; rfl)
  · exact key 2 _ (by omega) (by rw [hxl]; rfl)
  · exact key 3 _ (by omega) (by rw [hxl]; rfl)
  · unfold Lib.TabIs
    rw [hv3, ← hpow]

/-- the cells of a table of numbers or strings, of such tables -/
def flat1 : DataW Unit → List Value
  | .lit (.int k n) => [.int k n]
  | .lit (.string bs) => [.string ⟨bs.toArray⟩]
  | _ => []
def flat2 : DataW Unit → List Value
  | .agg xs => xs.flatMap fun
    | .agg ys => ys.flatMap flat1
    | d => flat1 d
  | _ => []
/-- a block's cells for the table -/
def put (d : DataW Unit) : Obj → Obj
  | .cells _ t frozen => .cells (flat2 d).toArray t frozen
  | o => o

/-- A world for the witnesses: the settled one, each table holding what the rows list. -/
noncomputable def laidWorld (os : Os) : World :=
  { World.holding Tryz.prog os ⟨#[], #[], []⟩ with heap := ((((((World.holding Tryz.prog os ⟨#[], #[], []⟩).heap.modify 3 (put Rows.laid_math_bits_deBruijn32tab)).modify 4 (put Rows.laid_math_bits_deBruijn64tab)).modify 2 (put Rows.laid_internal_strconv_uint64pow10)).modify 6 (put Rows.laid_unicode_utf8_acceptRanges)).modify 1 (put Rows.laid_ostracon_signs_kindLetters)).modify 5 (put Rows.laid_unicode_utf8_first) }
end Go.Proofs.YtleihhkacmgofaaGreatDoor
