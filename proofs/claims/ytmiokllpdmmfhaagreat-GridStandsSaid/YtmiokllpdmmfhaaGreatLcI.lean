/-
  The groups of a text where they stand (arrange), by the program, if there is one group that is no ring, in rows from the left. And what builds on it.
-/
import Derived.Test.YtmiokllpdmmfhaaGreatLaK
import Derived.Test.YtmiokllpdmmfhaaGreatLaH
import Derived.Test.YtmiokllpdmmfhaaGreatLaL
import Derived.Test.YtmiokllpdmmfhaaGreatBox
namespace Go.Proofs.YtmiokllpdmmfhaaGreat
open Go.RowKit
theorem infoBl : (Tryz.prog.info? 123).map (fun i => (i.zero, i.size, i.bytes)) = some (some (.agg #[.nilIface, .int .i64 0, .int .i64 0, .int .i64 0, .int .i64 0, .int .i64 0, .int .i64 0, .int .i64 0, .int .i64 0]), 9, 80) := by kernel_rfl
def blCells (u : Value) (b : Bl) : List Value := [u, .int .i64 b.sc.num, .int .i64 b.sc.den, .int .i64 b.al.num, .int .i64 b.al.den, .int .i64 b.ac.num, .int .i64 b.ac.den, .int .i64 b.ln, .int .i64 b.st]
theorem newBl_bd {cw : Bool} {s : Shp} (hB : szB s) : (0 ≤ (newBl cw s).al.num ∧ (newBl cw s).al.num ≤ 100000000) ∧ 1 ≤ (newBl cw s).al.den ∧ (newBl cw s).al.den ≤ 1000000 := by
  unfold szB at hB
  have ha : 0 ≤ acR cw s ∧ acR cw s ≤ 1000000 := by unfold acR; split <;> omega
  have hl : 0 ≤ alR cw s ∧ alR cw s ≤ 1000000 := by unfold alR; split <;> omega
  have hm : 48 ≤ max 48 (if isRng s then acR cw s else max s.size.1 s.size.2) ∧ max 48 (if isRng s then acR cw s else max s.size.1 s.size.2) ≤ 1000000 := by split <;> omega
  have h1 : (0 ≤ (sclR cw s).num ∧ (sclR cw s).num ≤ 48) ∧ 1 ≤ (sclR cw s).den ∧ (sclR cw s).den ≤ 1000000 := by
    unfold sclR
    have := fracR_bd (n := 48) (d := max 48 (if isRng s then acR cw s else max s.size.1 s.size.2)) (by omega) (by omega)
    omega
  have a := Int.mul_nonneg h1.1.1 hl.1
  have b := Int.mul_le_mul h1.1.2 hl.2 hl.1 (by omega)
  have := fracR_bd (n := (sclR cw s).num * alR cw s) (d := (sclR cw s).den) a (by omega)
  show (0 ≤ (fracR ((sclR cw s).num * alR cw s) (sclR cw s).den).num ∧ (fracR ((sclR cw s).num * alR cw s) (sclR cw s).den).num ≤ 100000000) ∧ 1 ≤ (fracR ((sclR cw s).num * alR cw s) (sclR cw s).den).den ∧ (fracR ((sclR cw s).num * alR cw s) (sclR cw s).den).den ≤ 1000000
  omega
open Go.RowKit
theorem newBl_bd2 {cw : Bool} {s : Shp} (hB : szB s) : ((0 ≤ (newBl cw s).sc.num ∧ (newBl cw s).sc.num ≤ 48) ∧ 1 ≤ (newBl cw s).sc.den ∧ (newBl cw s).sc.den ≤ 1000000) ∧ (0 ≤ (newBl cw s).ac.num ∧ (newBl cw s).ac.num ≤ 100000000) ∧ 1 ≤ (newBl cw s).ac.den ∧ (newBl cw s).ac.den ≤ 1000000 := by
  unfold szB at hB
  have ha : 0 ≤ acR cw s ∧ acR cw s ≤ 1000000 := by unfold acR; split <;> omega
  have hl : 0 ≤ alR cw s ∧ alR cw s ≤ 1000000 := by unfold alR; split <;> omega
  have hm : 48 ≤ max 48 (if isRng s then acR cw s else max s.size.1 s.size.2) ∧ max 48 (if isRng s then acR cw s else max s.size.1 s.size.2) ≤ 1000000 := by split <;> omega
  have h1 : (0 ≤ (sclR cw s).num ∧ (sclR cw s).num ≤ 48) ∧ 1 ≤ (sclR cw s).den ∧ (sclR cw s).den ≤ 1000000 := by
    unfold sclR
    have := fracR_bd (n := 48) (d := max 48 (if isRng s then acR cw s else max s.size.1 s.size.2)) (by omega) (by omega)
    omega
  have a := Int.mul_nonneg h1.1.1 ha.1
  have b := Int.mul_le_mul h1.1.2 ha.2 ha.1 (by omega)
  have := fracR_bd (n := (sclR cw s).num * acR cw s) (d := (sclR cw s).den) a (by omega)
  show ((0 ≤ (sclR cw s).num ∧ (sclR cw s).num ≤ 48) ∧ 1 ≤ (sclR cw s).den ∧ (sclR cw s).den ≤ 1000000) ∧ (0 ≤ (fracR ((sclR cw s).num * acR cw s) (sclR cw s).den).num ∧ (fracR ((sclR cw s).num * acR cw s) (sclR cw s).den).num ≤ 100000000) ∧ 1 ≤ (fracR ((sclR cw s).num * acR cw s) (sclR cw s).den).den ∧ (fracR ((sclR cw s).num * acR cw s) (sclR cw s).den).den ≤ 1000000
  omega
def lay1 (s : Shp) : List Bx := (s.pcs 0 0).map (boxPc (newBl false s).sc ⟨0, 1⟩ (croR (newBl false s).ac.num (newBl false s).ac.den 0))
def GotLay (bs : List Bx) (w : World) (e : Ending) (w' : World) : Prop := ∃ A c, e = .returned (.tuple #[.slice A bs.length c, .int .i64 0]) ∧ Hid (w'.ownsRow w.heap.size 82 15 (.slice A bs.length c) bs.length (bs.flatMap Bx.cells)) ∧ Below w.heap.size w w'
end Go.Proofs.YtmiokllpdmmfhaaGreat
