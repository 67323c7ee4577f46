/-
  DERIVED. GIVEN WITH THE SEED: THE CARDS: each row of YtleihhkacmgofaaGreatDoorRows.lean that lists a variable, with what it lists TIED to the program's text (the seventh form; the later family's looks); each row that meets fmt, with fmt's text TOLD by the authors' own Lean function (tested against real Go, not proved from fmt's source: count such statements apart). THE CARD IS WHAT COUNTS. Prove the row's statement (the work); the ties are given (YtleihhkacmgofaaGreatDoorTie.lean); close each card by the builder's one call (the guide's Derived/Test/ToyasCard.lean, 'card_holds'). Laid BY PROGRAM, IN A SANDBOX (cutbox-door.mjs). By AI agents, Wed Nov 11 2026. No macro, syntax, notation, axiom, sorry.
-/
import Derived.Test.YtleihhkacmgofaaGreatDoorRows
import GoSem.ClaimSeven
namespace Go.Proofs.YtleihhkacmgofaaGreatDoor
namespace Rows

/-- THE TIED CARD OF 'ostraconlaw01.SignsTidies'. -/
def signsTidiesCard : Claim7 := { stood := { row := signsTidiesRow, standIns := [], harness := (true, "c88e2f1aec05208e7c0715b737c6b9868494432488674737a2c6c3fd3cf34ba8"), looks := false }, kinds := [], alts := [], laidByText := true, laidKinds := [.data, .data, .data, .data, .data, .pinned], laidTests := true, laidLooks := .later }
def SignsTidiesCardSaid : Prop := Claim7.holds Tryz.pinned (.plain (OpenSpec.ofChange signsTidiesSpec)) signsTidiesCard

/-- THE TIED CARD OF 'ostraconlaw01.SignsMerges'. -/
def signsMergesCard : Claim7 := { stood := { row := signsMergesRow, standIns := [], harness := (true, "c88e2f1aec05208e7c0715b737c6b9868494432488674737a2c6c3fd3cf34ba8"), looks := false }, kinds := [], alts := [], laidByText := true, laidKinds := [.data, .data, .data, .data, .data, .pinned], laidTests := true, laidLooks := .later }
def SignsMergesCardSaid : Prop := Claim7.holds Tryz.pinned (.plain (OpenSpec.ofChange signsMergesSpec)) signsMergesCard

/-- THE TIED CARD OF 'ostraconlaw01.SignsKept'. -/
def signsKeptCard : Claim7 := { stood := { row := signsKeptRow, standIns := [], harness := (true, "c88e2f1aec05208e7c0715b737c6b9868494432488674737a2c6c3fd3cf34ba8"), looks := false }, kinds := [], alts := [], laidByText := true, laidKinds := [.data, .data, .data, .data, .data, .pinned], laidTests := true, laidLooks := .later }
def SignsKeptCardSaid : Prop := Claim7.holds Tryz.pinned (.plain (OpenSpec.ofChange signsKeptSpec)) signsKeptCard

/-- THE SECOND FORM's CARD OF 'ostraconlaw01.SignsTidies'. -/
def signsTidiesUptoCard : Claim7 := { stood := { row := signsTidiesUptoRow, standIns := [], harness := (true, "c88e2f1aec05208e7c0715b737c6b9868494432488674737a2c6c3fd3cf34ba8"), looks := false }, kinds := [], alts := [], laidByText := true, laidKinds := [.data, .data, .data, .data, .data, .pinned], laidTests := true, laidLooks := .later }
def SignsTidiesUptoCardSaid : Prop := Claim7.holds Tryz.pinned (.plain (OpenSpec.upto signsTidiesSpec)) signsTidiesUptoCard

/-- THE SECOND FORM's CARD OF 'ostraconlaw01.SignsMerges'. -/
def signsMergesUptoCard : Claim7 := { stood := { row := signsMergesUptoRow, standIns := [], harness := (true, "c88e2f1aec05208e7c0715b737c6b9868494432488674737a2c6c3fd3cf34ba8"), looks := false }, kinds := [], alts := [], laidByText := true, laidKinds := [.data, .data, .data, .data, .data, .pinned], laidTests := true, laidLooks := .later }
def SignsMergesUptoCardSaid : Prop := Claim7.holds Tryz.pinned (.plain (OpenSpec.upto signsMergesSpec)) signsMergesUptoCard

/-- THE SECOND FORM's CARD OF 'ostraconlaw01.SignsKept'. -/
def signsKeptUptoCard : Claim7 := { stood := { row := signsKeptUptoRow, standIns := [], harness := (true, "c88e2f1aec05208e7c0715b737c6b9868494432488674737a2c6c3fd3cf34ba8"), looks := false }, kinds := [], alts := [], laidByText := true, laidKinds := [.data, .data, .data, .data, .data, .pinned], laidTests := true, laidLooks := .later }
def SignsKeptUptoCardSaid : Prop := Claim7.holds Tryz.pinned (.plain (OpenSpec.upto signsKeptSpec)) signsKeptUptoCard
end Rows
end Go.Proofs.YtleihhkacmgofaaGreatDoor
