/-
  DERIVED. GIVEN WITH THE SEED: THE CARDS: each row of YtleihhkacmgofabGreatDoorRows.lean that lists a variable, with what it lists TIED to the program's text (the seventh form; the later family's looks); each row that meets fmt, with fmt's text TOLD by the authors' own Lean function (tested against real Go, not proved from fmt's source: count such statements apart). THE CARD IS WHAT COUNTS. Prove the row's statement (the work); the ties are given (YtleihhkacmgofabGreatDoorTie.lean); close each card by the builder's one call (the guide's Derived/Test/ToyasCard.lean, 'card_holds'). Laid BY PROGRAM, IN A SANDBOX (cutbox-door.mjs). By AI agents, Wed Nov 11 2026. No macro, syntax, notation, axiom, sorry.
-/
import Derived.Test.YtleihhkacmgofabGreatDoorRows
import GoSem.ClaimSeven
namespace Go.Proofs.YtleihhkacmgofabGreatDoor
namespace Rows

/-- THE TIED CARD OF 'ostraconlaw01.SignsMerged'. -/
def signsMergedCard : Claim7 := { stood := { row := signsMergedRow, standIns := [], harness := (true, "c670e1a8a466dac2de0be4e7243b0ccc90fe24ec1bd61464095be2983215dcd1"), looks := false }, kinds := [], alts := [], laidByText := true, laidKinds := [.data, .data, .data, .data, .data, .pinned], laidTests := true, laidLooks := .later }
def SignsMergedCardSaid : Prop := Claim7.holds Tryz.pinned (.plain (OpenSpec.ofChange signsMergedSpec)) signsMergedCard

/-- THE SECOND FORM's CARD OF 'ostraconlaw01.SignsMerged'. -/
def signsMergedUptoCard : Claim7 := { stood := { row := signsMergedUptoRow, standIns := [], harness := (true, "c670e1a8a466dac2de0be4e7243b0ccc90fe24ec1bd61464095be2983215dcd1"), looks := false }, kinds := [], alts := [], laidByText := true, laidKinds := [.data, .data, .data, .data, .data, .pinned], laidTests := true, laidLooks := .later }
def SignsMergedUptoCardSaid : Prop := Claim7.holds Tryz.pinned (.plain (OpenSpec.upto signsMergedSpec)) signsMergedUptoCard
end Rows
end Go.Proofs.YtleihhkacmgofabGreatDoor
