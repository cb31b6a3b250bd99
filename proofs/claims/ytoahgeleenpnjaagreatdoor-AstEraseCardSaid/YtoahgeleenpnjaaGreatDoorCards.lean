/-
  DERIVED. GIVEN WITH THE SEED: THE CARDS: each row of YtoahgeleenpnjaaGreatDoorRows.lean that lists a variable, with what it lists TIED to the program's text (the seventh form; the later family's looks); each row that meets fmt, with fmt's text TOLD by the authors' own Lean function (tested against real Go, not proved from fmt's source: count such statements apart). THE CARD IS WHAT COUNTS. Prove the row's statement (the work); the ties are given (YtoahgeleenpnjaaGreatDoorTie.lean); close each card by the builder's one call (the guide's Derived/Test/ToyasCard.lean, 'card_holds'). Laid BY PROGRAM, IN A SANDBOX (cutbox-door.mjs). By AI agents, Wed Nov 11 2026. No macro, syntax, notation, axiom, sorry.
-/
import Derived.Test.YtoahgeleenpnjaaGreatDoorRows
import GoSem.ClaimSeven
namespace Go.Proofs.YtoahgeleenpnjaaGreatDoor
namespace Rows

/-- THE TIED CARD OF 'touchstonelaw08.AstPrograms'. -/
def astProgramsCard : Claim7 := { stood := { row := astProgramsRow, standIns := [], harness := (true, "c951602fd0dbe10bbe606cb23cf4269859262db2e6058c3399276a75fbc5d97b"), looks := false }, kinds := [], alts := [], laidByText := true, laidKinds := [.data, .data, .data, .data, .data, .data, .data, .pinned], laidTests := true, laidLooks := .later }
def AstProgramsCardSaid : Prop := Claim7.holds Tryz.pinned (.plain (OpenSpec.ofChange astProgramsSpec)) astProgramsCard

/-- THE TIED CARD OF 'touchstonelaw08.AstErase'. -/
def astEraseCard : Claim7 := { stood := { row := astEraseRow, standIns := [], harness := (true, "c951602fd0dbe10bbe606cb23cf4269859262db2e6058c3399276a75fbc5d97b"), looks := false }, kinds := [], alts := [], laidByText := true, laidKinds := [.data, .data, .data, .data, .data, .data, .data, .pinned], laidTests := true, laidLooks := .later }
def AstEraseCardSaid : Prop := Claim7.holds Tryz.pinned (.plain (OpenSpec.ofChange astEraseSpec)) astEraseCard

/-- THE SECOND FORM's CARD OF 'touchstonelaw08.AstPrograms'. -/
def astProgramsUptoCard : Claim7 := { stood := { row := astProgramsUptoRow, standIns := [], harness := (true, "c951602fd0dbe10bbe606cb23cf4269859262db2e6058c3399276a75fbc5d97b"), looks := false }, kinds := [], alts := [], laidByText := true, laidKinds := [.data, .data, .data, .data, .data, .data, .data, .pinned], laidTests := true, laidLooks := .later }
def AstProgramsUptoCardSaid : Prop := Claim7.holds Tryz.pinned (.plain (OpenSpec.upto astProgramsSpec)) astProgramsUptoCard

/-- THE SECOND FORM's CARD OF 'touchstonelaw08.AstErase'. -/
def astEraseUptoCard : Claim7 := { stood := { row := astEraseUptoRow, standIns := [], harness := (true, "c951602fd0dbe10bbe606cb23cf4269859262db2e6058c3399276a75fbc5d97b"), looks := false }, kinds := [], alts := [], laidByText := true, laidKinds := [.data, .data, .data, .data, .data, .data, .data, .pinned], laidTests := true, laidLooks := .later }
def AstEraseUptoCardSaid : Prop := Claim7.holds Tryz.pinned (.plain (OpenSpec.upto astEraseSpec)) astEraseUptoCard
end Rows
end Go.Proofs.YtoahgeleenpnjaaGreatDoor
