/-
  No cell of these rows narrows 'for every input' (looked for: loops, veiled, ifaces, maps, wideKeys, modest, calm, conditions, laid).
  DERIVED. THE GIVEN ROWS OF THIS SEAT. 10 by the template 'for every input the law returns true; each argument reads behind the call as it read before'; 0 by the template 'total and deterministic' (their statements: YtmiokllpdmmfhaaGreatTotals.lean).
  GIVEN WITH THE SEED: the statements are not yours to turn. If you find one false, say at which input.
  Laid BY PROGRAM, IN A SANDBOX (cutbox-rows.mjs): the forced cells as the released guide's own fill.sh prints them over the translation 2bad983981df077b… (all of the seat's roots in one cut). By AI agents, Wed Nov 11 2026. No macro, syntax, notation, axiom, sorry.
-/
import Derived.Test.YtmiokllpdmmfhaaGreatChecked
import GoSem.Claim
import GoSem.ClaimJoined
import GoSem.ClaimMapViews
import Derived.JoinedTies
import Derived.KernelRfl
namespace Go.Proofs.YtmiokllpdmmfhaaGreat
/- THE CELL 'sum', in the pinned program and in every row, IS THE sha256 OF THE DUMP (.gsa) THAT YtmiokllpdmmfhaaGreatProg.lean LOADS. Nothing in Lean hashes anything: it is a label: what it is worth is what the hold of that sum in a sandbox is worth. -/
noncomputable def Tryz.pinned : Pinned := { name := "ytmiokllpdmmfhaagreat", sum := "2bad983981df077b8334abc29ae4b8478a2f97f4050358f1cb2d8327ecbc9009", checked := Tryz.checked }
namespace Rows
def none {H : Type} : Left H := { results := [], args := [] }

/-- 'ostraconlaw04.GridSizes': WHATEVER THE INPUT: true; the input reads as it did. -/
def gridSizesSpec : ChangeSpec := { name := "gridSizes", fn := fun _ => fun
  | [d1, d2, d3] => { results := [.lit (.bool true)], args := [d1, d2, d3] }
  | _ => none }
def gridSizesRow : OpenClaim := { program := "ytmiokllpdmmfhaagreat", sum := "2bad983981df077b8334abc29ae4b8478a2f97f4050358f1cb2d8327ecbc9009", func := "ostracon/ostraconlaw04.GridSizes", spec := "gridSizes", unfollowed := true, recurses := true, plainKeys := false, apart := false }
def GridSizesSaid : Prop := gridSizesRow.holds Tryz.pinned (OpenSpec.ofChange gridSizesSpec)

/-- ITS FALSE NEIGHBOUR: 'it returns false'. Refute it at one input. -/
def gridSizesWrong : ChangeSpec := { name := "gridSizes", fn := fun _ => fun
  | [d1, d2, d3] => { results := [.lit (.bool false)], args := [d1, d2, d3] }
  | _ => none }
def GridSizesWrongFalsely : Prop := gridSizesRow.holds Tryz.pinned (OpenSpec.ofChange gridSizesWrong)

/-- 'ostraconlaw04.GridLines': WHATEVER THE INPUT: true; the input reads as it did. -/
def gridLinesSpec : ChangeSpec := { name := "gridLines", fn := fun _ => fun
  | [d1, d2] => { results := [.lit (.bool true)], args := [d1, d2] }
  | _ => none }
def gridLinesRow : OpenClaim := { program := "ytmiokllpdmmfhaagreat", sum := "2bad983981df077b8334abc29ae4b8478a2f97f4050358f1cb2d8327ecbc9009", func := "ostracon/ostraconlaw04.GridLines", spec := "gridLines", unfollowed := true, recurses := true, plainKeys := false, apart := false }
def GridLinesSaid : Prop := gridLinesRow.holds Tryz.pinned (OpenSpec.ofChange gridLinesSpec)

/-- ITS FALSE NEIGHBOUR: 'it returns false'. Refute it at one input. -/
def gridLinesWrong : ChangeSpec := { name := "gridLines", fn := fun _ => fun
  | [d1, d2] => { results := [.lit (.bool false)], args := [d1, d2] }
  | _ => none }
def GridLinesWrongFalsely : Prop := gridLinesRow.holds Tryz.pinned (OpenSpec.ofChange gridLinesWrong)

/-- 'ostraconlaw04.GridLays': WHATEVER THE INPUT: true; the input reads as it did. -/
def gridLaysSpec : ChangeSpec := { name := "gridLays", fn := fun _ => fun
  | [d1, d2] => { results := [.lit (.bool true)], args := [d1, d2] }
  | _ => none }
def gridLaysRow : OpenClaim := { program := "ytmiokllpdmmfhaagreat", sum := "2bad983981df077b8334abc29ae4b8478a2f97f4050358f1cb2d8327ecbc9009", func := "ostracon/ostraconlaw04.GridLays", spec := "gridLays", unfollowed := true, recurses := true, plainKeys := false, apart := false }
def GridLaysSaid : Prop := gridLaysRow.holds Tryz.pinned (OpenSpec.ofChange gridLaysSpec)

/-- ITS FALSE NEIGHBOUR: 'it returns false'. Refute it at one input. -/
def gridLaysWrong : ChangeSpec := { name := "gridLays", fn := fun _ => fun
  | [d1, d2] => { results := [.lit (.bool false)], args := [d1, d2] }
  | _ => none }
def GridLaysWrongFalsely : Prop := gridLaysRow.holds Tryz.pinned (OpenSpec.ofChange gridLaysWrong)

/-- 'ostraconlaw04.GridReads': WHATEVER THE INPUT: true; the input reads as it did. -/
def gridReadsSpec : ChangeSpec := { name := "gridReads", fn := fun _ => fun
  | [d1, d2, d3] => { results := [.lit (.bool true)], args := [d1, d2, d3] }
  | _ => none }
def gridReadsRow : OpenClaim := { program := "ytmiokllpdmmfhaagreat", sum := "2bad983981df077b8334abc29ae4b8478a2f97f4050358f1cb2d8327ecbc9009", func := "ostracon/ostraconlaw04.GridReads", spec := "gridReads", unfollowed := true, recurses := true, plainKeys := false, apart := false }
def GridReadsSaid : Prop := gridReadsRow.holds Tryz.pinned (OpenSpec.ofChange gridReadsSpec)

/-- ITS FALSE NEIGHBOUR: 'it returns false'. Refute it at one input. -/
def gridReadsWrong : ChangeSpec := { name := "gridReads", fn := fun _ => fun
  | [d1, d2, d3] => { results := [.lit (.bool false)], args := [d1, d2, d3] }
  | _ => none }
def GridReadsWrongFalsely : Prop := gridReadsRow.holds Tryz.pinned (OpenSpec.ofChange gridReadsWrong)

/-- 'ostraconlaw04.GridRelays': WHATEVER THE INPUT: true; the input reads as it did. -/
def gridRelaysSpec : ChangeSpec := { name := "gridRelays", fn := fun _ => fun
  | [d] => { results := [.lit (.bool true)], args := [d] }
  | _ => none }
def gridRelaysRow : OpenClaim := { program := "ytmiokllpdmmfhaagreat", sum := "2bad983981df077b8334abc29ae4b8478a2f97f4050358f1cb2d8327ecbc9009", func := "ostracon/ostraconlaw04.GridRelays", spec := "gridRelays", unfollowed := true, recurses := true, plainKeys := false, apart := false }
def GridRelaysSaid : Prop := gridRelaysRow.holds Tryz.pinned (OpenSpec.ofChange gridRelaysSpec)

/-- ITS FALSE NEIGHBOUR: 'it returns false'. Refute it at one input. -/
def gridRelaysWrong : ChangeSpec := { name := "gridRelays", fn := fun _ => fun
  | [d] => { results := [.lit (.bool false)], args := [d] }
  | _ => none }
def GridRelaysWrongFalsely : Prop := gridRelaysRow.holds Tryz.pinned (OpenSpec.ofChange gridRelaysWrong)

/-- 'ostraconlaw04.GridExtents': WHATEVER THE INPUT: true; the input reads as it did. -/
def gridExtentsSpec : ChangeSpec := { name := "gridExtents", fn := fun _ => fun
  | [d] => { results := [.lit (.bool true)], args := [d] }
  | _ => none }
def gridExtentsRow : OpenClaim := { program := "ytmiokllpdmmfhaagreat", sum := "2bad983981df077b8334abc29ae4b8478a2f97f4050358f1cb2d8327ecbc9009", func := "ostracon/ostraconlaw04.GridExtents", spec := "gridExtents", unfollowed := true, recurses := true, plainKeys := false, apart := false }
def GridExtentsSaid : Prop := gridExtentsRow.holds Tryz.pinned (OpenSpec.ofChange gridExtentsSpec)

/-- ITS FALSE NEIGHBOUR: 'it returns false'. Refute it at one input. -/
def gridExtentsWrong : ChangeSpec := { name := "gridExtents", fn := fun _ => fun
  | [d] => { results := [.lit (.bool false)], args := [d] }
  | _ => none }
def GridExtentsWrongFalsely : Prop := gridExtentsRow.holds Tryz.pinned (OpenSpec.ofChange gridExtentsWrong)

/-- 'ostraconlaw04.GridHits': WHATEVER THE INPUT: true; the input reads as it did. -/
def gridHitsSpec : ChangeSpec := { name := "gridHits", fn := fun _ => fun
  | [d1, d2, d3] => { results := [.lit (.bool true)], args := [d1, d2, d3] }
  | _ => none }
def gridHitsRow : OpenClaim := { program := "ytmiokllpdmmfhaagreat", sum := "2bad983981df077b8334abc29ae4b8478a2f97f4050358f1cb2d8327ecbc9009", func := "ostracon/ostraconlaw04.GridHits", spec := "gridHits", unfollowed := true, recurses := true, plainKeys := false, apart := false }
def GridHitsSaid : Prop := gridHitsRow.holds Tryz.pinned (OpenSpec.ofChange gridHitsSpec)

/-- ITS FALSE NEIGHBOUR: 'it returns false'. Refute it at one input. -/
def gridHitsWrong : ChangeSpec := { name := "gridHits", fn := fun _ => fun
  | [d1, d2, d3] => { results := [.lit (.bool false)], args := [d1, d2, d3] }
  | _ => none }
def GridHitsWrongFalsely : Prop := gridHitsRow.holds Tryz.pinned (OpenSpec.ofChange gridHitsWrong)

/-- 'ostraconlaw04.GridBack': WHATEVER THE INPUT: true; the input reads as it did. -/
def gridBackSpec : ChangeSpec := { name := "gridBack", fn := fun _ => fun
  | [d1, d2, d3] => { results := [.lit (.bool true)], args := [d1, d2, d3] }
  | _ => none }
def gridBackRow : OpenClaim := { program := "ytmiokllpdmmfhaagreat", sum := "2bad983981df077b8334abc29ae4b8478a2f97f4050358f1cb2d8327ecbc9009", func := "ostracon/ostraconlaw04.GridBack", spec := "gridBack", unfollowed := true, recurses := true, plainKeys := false, apart := false }
def GridBackSaid : Prop := gridBackRow.holds Tryz.pinned (OpenSpec.ofChange gridBackSpec)

/-- ITS FALSE NEIGHBOUR: 'it returns false'. Refute it at one input. -/
def gridBackWrong : ChangeSpec := { name := "gridBack", fn := fun _ => fun
  | [d1, d2, d3] => { results := [.lit (.bool false)], args := [d1, d2, d3] }
  | _ => none }
def GridBackWrongFalsely : Prop := gridBackRow.holds Tryz.pinned (OpenSpec.ofChange gridBackWrong)

/-- 'ostraconlaw04.GridStands': WHATEVER THE INPUT: true; the input reads as it did. -/
def gridStandsSpec : ChangeSpec := { name := "gridStands", fn := fun _ => fun
  | [d1, d2] => { results := [.lit (.bool true)], args := [d1, d2] }
  | _ => none }
def gridStandsRow : OpenClaim := { program := "ytmiokllpdmmfhaagreat", sum := "2bad983981df077b8334abc29ae4b8478a2f97f4050358f1cb2d8327ecbc9009", func := "ostracon/ostraconlaw04.GridStands", spec := "gridStands", unfollowed := true, recurses := true, plainKeys := false, apart := false }
def GridStandsSaid : Prop := gridStandsRow.holds Tryz.pinned (OpenSpec.ofChange gridStandsSpec)

/-- ITS FALSE NEIGHBOUR: 'it returns false'. Refute it at one input. -/
def gridStandsWrong : ChangeSpec := { name := "gridStands", fn := fun _ => fun
  | [d1, d2] => { results := [.lit (.bool false)], args := [d1, d2] }
  | _ => none }
def GridStandsWrongFalsely : Prop := gridStandsRow.holds Tryz.pinned (OpenSpec.ofChange gridStandsWrong)

/-- 'ostraconlaw04.GridMirrors': WHATEVER THE INPUT: true; the input reads as it did. -/
def gridMirrorsSpec : ChangeSpec := { name := "gridMirrors", fn := fun _ => fun
  | [d1, d2, d3] => { results := [.lit (.bool true)], args := [d1, d2, d3] }
  | _ => none }
def gridMirrorsRow : OpenClaim := { program := "ytmiokllpdmmfhaagreat", sum := "2bad983981df077b8334abc29ae4b8478a2f97f4050358f1cb2d8327ecbc9009", func := "ostracon/ostraconlaw04.GridMirrors", spec := "gridMirrors", unfollowed := true, recurses := true, plainKeys := false, apart := false }
def GridMirrorsSaid : Prop := gridMirrorsRow.holds Tryz.pinned (OpenSpec.ofChange gridMirrorsSpec)

/-- ITS FALSE NEIGHBOUR: 'it returns false'. Refute it at one input. -/
def gridMirrorsWrong : ChangeSpec := { name := "gridMirrors", fn := fun _ => fun
  | [d1, d2, d3] => { results := [.lit (.bool false)], args := [d1, d2, d3] }
  | _ => none }
def GridMirrorsWrongFalsely : Prop := gridMirrorsRow.holds Tryz.pinned (OpenSpec.ofChange gridMirrorsWrong)

/- THE SECOND FORM. 'bulk': how many values and letters a reading holds, each counted each time it is reached (what is shared counts as often as it is met; a slice's spare places count too). A statement '..UptoSaid' is the law's where the arguments, and the package variables that the reading takes, are together of bulk at most 1048576: NARROWER than '..Said'. Prove '..Said' where nothing that the law and all that it calls make is longer than what came in: it says more and counts as full. Else prove '..UptoSaid'. A law counts once. -/
mutual
def uptoBulk {H : Type} : DataW H → Nat
  | .lit (.string bytes) => bytes.length + 1
  | .lit _ => 1
  | .nil => 1
  | .ptr d => uptoBulk d + 1
  | .slice elems spare => uptoBulkAll elems + uptoBulkAll spare + 1
  | .agg parts => uptoBulkAll parts + 1
  | .iface _ d => uptoBulk d + 1
  | .map entries => uptoBulkEntries entries + 1
  | .held _ => 1
def uptoBulkAll {H : Type} : List (DataW H) → Nat
  | [] => 0
  | d :: r => uptoBulk d + uptoBulkAll r
def uptoBulkEntries {H : Type} : List (Lit × DataW H) → Nat
  | [] => 0
  | x :: r => uptoBulkEntry x + uptoBulkEntries r
def uptoBulkEntry {H : Type} : Lit × DataW H → Nat
  | (.string bytes, d) => bytes.length + uptoBulk d + 1
  | (_, d) => uptoBulk d + 1
 end
def uptoSmall : (H : Type) → List (DataW H) → Bool := fun _ ds => decide (uptoBulkAll ds ≤ 1048576)
def OpenSpec.upto (s : _root_.Go.ChangeSpec) : _root_.Go.OpenSpec := { _root_.Go.OpenSpec.ofChange s with cond := some uptoSmall }

/-- 'ostraconlaw04.GridSizes', WHERE WHAT IT READS IS OF BULK AT MOST 1048576: true; the input reads as it did. -/
def gridSizesUptoRow : OpenClaim := { program := "ytmiokllpdmmfhaagreat", sum := "2bad983981df077b8334abc29ae4b8478a2f97f4050358f1cb2d8327ecbc9009", func := "ostracon/ostraconlaw04.GridSizes", spec := "gridSizes", unfollowed := true, recurses := true, plainKeys := false, apart := false, narrowed := true }
def GridSizesUptoSaid : Prop := gridSizesUptoRow.holds Tryz.pinned (OpenSpec.upto gridSizesSpec)

/-- 'ostraconlaw04.GridLines', WHERE WHAT IT READS IS OF BULK AT MOST 1048576: true; the input reads as it did. -/
def gridLinesUptoRow : OpenClaim := { program := "ytmiokllpdmmfhaagreat", sum := "2bad983981df077b8334abc29ae4b8478a2f97f4050358f1cb2d8327ecbc9009", func := "ostracon/ostraconlaw04.GridLines", spec := "gridLines", unfollowed := true, recurses := true, plainKeys := false, apart := false, narrowed := true }
def GridLinesUptoSaid : Prop := gridLinesUptoRow.holds Tryz.pinned (OpenSpec.upto gridLinesSpec)

/-- 'ostraconlaw04.GridLays', WHERE WHAT IT READS IS OF BULK AT MOST 1048576: true; the input reads as it did. -/
def gridLaysUptoRow : OpenClaim := { program := "ytmiokllpdmmfhaagreat", sum := "2bad983981df077b8334abc29ae4b8478a2f97f4050358f1cb2d8327ecbc9009", func := "ostracon/ostraconlaw04.GridLays", spec := "gridLays", unfollowed := true, recurses := true, plainKeys := false, apart := false, narrowed := true }
def GridLaysUptoSaid : Prop := gridLaysUptoRow.holds Tryz.pinned (OpenSpec.upto gridLaysSpec)

/-- 'ostraconlaw04.GridReads', WHERE WHAT IT READS IS OF BULK AT MOST 1048576: true; the input reads as it did. -/
def gridReadsUptoRow : OpenClaim := { program := "ytmiokllpdmmfhaagreat", sum := "2bad983981df077b8334abc29ae4b8478a2f97f4050358f1cb2d8327ecbc9009", func := "ostracon/ostraconlaw04.GridReads", spec := "gridReads", unfollowed := true, recurses := true, plainKeys := false, apart := false, narrowed := true }
def GridReadsUptoSaid : Prop := gridReadsUptoRow.holds Tryz.pinned (OpenSpec.upto gridReadsSpec)

/-- 'ostraconlaw04.GridRelays', WHERE WHAT IT READS IS OF BULK AT MOST 1048576: true; the input reads as it did. -/
def gridRelaysUptoRow : OpenClaim := { program := "ytmiokllpdmmfhaagreat", sum := "2bad983981df077b8334abc29ae4b8478a2f97f4050358f1cb2d8327ecbc9009", func := "ostracon/ostraconlaw04.GridRelays", spec := "gridRelays", unfollowed := true, recurses := true, plainKeys := false, apart := false, narrowed := true }
def GridRelaysUptoSaid : Prop := gridRelaysUptoRow.holds Tryz.pinned (OpenSpec.upto gridRelaysSpec)

/-- 'ostraconlaw04.GridExtents', WHERE WHAT IT READS IS OF BULK AT MOST 1048576: true; the input reads as it did. -/
def gridExtentsUptoRow : OpenClaim := { program := "ytmiokllpdmmfhaagreat", sum := "2bad983981df077b8334abc29ae4b8478a2f97f4050358f1cb2d8327ecbc9009", func := "ostracon/ostraconlaw04.GridExtents", spec := "gridExtents", unfollowed := true, recurses := true, plainKeys := false, apart := false, narrowed := true }
def GridExtentsUptoSaid : Prop := gridExtentsUptoRow.holds Tryz.pinned (OpenSpec.upto gridExtentsSpec)

/-- 'ostraconlaw04.GridHits', WHERE WHAT IT READS IS OF BULK AT MOST 1048576: true; the input reads as it did. -/
def gridHitsUptoRow : OpenClaim := { program := "ytmiokllpdmmfhaagreat", sum := "2bad983981df077b8334abc29ae4b8478a2f97f4050358f1cb2d8327ecbc9009", func := "ostracon/ostraconlaw04.GridHits", spec := "gridHits", unfollowed := true, recurses := true, plainKeys := false, apart := false, narrowed := true }
def GridHitsUptoSaid : Prop := gridHitsUptoRow.holds Tryz.pinned (OpenSpec.upto gridHitsSpec)

/-- 'ostraconlaw04.GridBack', WHERE WHAT IT READS IS OF BULK AT MOST 1048576: true; the input reads as it did. -/
def gridBackUptoRow : OpenClaim := { program := "ytmiokllpdmmfhaagreat", sum := "2bad983981df077b8334abc29ae4b8478a2f97f4050358f1cb2d8327ecbc9009", func := "ostracon/ostraconlaw04.GridBack", spec := "gridBack", unfollowed := true, recurses := true, plainKeys := false, apart := false, narrowed := true }
def GridBackUptoSaid : Prop := gridBackUptoRow.holds Tryz.pinned (OpenSpec.upto gridBackSpec)

/-- 'ostraconlaw04.GridStands', WHERE WHAT IT READS IS OF BULK AT MOST 1048576: true; the input reads as it did. -/
def gridStandsUptoRow : OpenClaim := { program := "ytmiokllpdmmfhaagreat", sum := "2bad983981df077b8334abc29ae4b8478a2f97f4050358f1cb2d8327ecbc9009", func := "ostracon/ostraconlaw04.GridStands", spec := "gridStands", unfollowed := true, recurses := true, plainKeys := false, apart := false, narrowed := true }
def GridStandsUptoSaid : Prop := gridStandsUptoRow.holds Tryz.pinned (OpenSpec.upto gridStandsSpec)

/-- 'ostraconlaw04.GridMirrors', WHERE WHAT IT READS IS OF BULK AT MOST 1048576: true; the input reads as it did. -/
def gridMirrorsUptoRow : OpenClaim := { program := "ytmiokllpdmmfhaagreat", sum := "2bad983981df077b8334abc29ae4b8478a2f97f4050358f1cb2d8327ecbc9009", func := "ostracon/ostraconlaw04.GridMirrors", spec := "gridMirrors", unfollowed := true, recurses := true, plainKeys := false, apart := false, narrowed := true }
def GridMirrorsUptoSaid : Prop := gridMirrorsUptoRow.holds Tryz.pinned (OpenSpec.upto gridMirrorsSpec)

end Rows
end Go.Proofs.YtmiokllpdmmfhaaGreat
