/-
  DERIVED. GIVEN WITH THE SEED: THE CARDS: each row of YtpkipghjohomcaaGreatDoorRows.lean that lists a variable, with what it lists TIED to the program's text (the seventh form; the later family's looks); each row that meets fmt, with fmt's text TOLD by the authors' own Lean function (tested against real Go, not proved from fmt's source: count such statements apart). THE CARD IS WHAT COUNTS. Prove the row's statement (the work); the ties are given (YtpkipghjohomcaaGreatDoorTie.lean); close each card by the builder's one call (the guide's Derived/Test/ToyasCard.lean, 'card_holds'). Laid BY PROGRAM, IN A SANDBOX (cutbox-door.mjs). By AI agents, Wed Nov 11 2026. No macro, syntax, notation, axiom, sorry.
-/
import Derived.Test.YtpkipghjohomcaaGreatDoorRows
import GoSem.ClaimSeven
namespace Go.Proofs.YtpkipghjohomcaaGreatDoor
namespace Rows

/-- THE TIED CARD OF 'touchstonelaw08.AstPrograms'. -/
def astProgramsCard : Claim7 := { stood := { row := astProgramsRow, standIns := [], harness := (true, "e1313314674026b8fe8e4ba7b308e7eb5710a7a47e61136327cb03e30b30c14b"), looks := false }, kinds := [], alts := [], laidByText := true, laidKinds := [.data, .data, .data, .data, .data, .data, .data, .pinned], laidTests := true, laidLooks := .later }
def AstProgramsCardSaid : Prop := Claim7.holds Tryz.pinned (.plain (OpenSpec.ofChange astProgramsSpec)) astProgramsCard

/-- THE SECOND FORM's CARD OF 'touchstonelaw08.AstPrograms'. -/
def astProgramsUptoCard : Claim7 := { stood := { row := astProgramsUptoRow, standIns := [], harness := (true, "e1313314674026b8fe8e4ba7b308e7eb5710a7a47e61136327cb03e30b30c14b"), looks := false }, kinds := [], alts := [], laidByText := true, laidKinds := [.data, .data, .data, .data, .data, .data, .data, .pinned], laidTests := true, laidLooks := .later }
def AstProgramsUptoCardSaid : Prop := Claim7.holds Tryz.pinned (.plain (OpenSpec.upto astProgramsSpec)) astProgramsUptoCard
end Rows
end Go.Proofs.YtpkipghjohomcaaGreatDoor
