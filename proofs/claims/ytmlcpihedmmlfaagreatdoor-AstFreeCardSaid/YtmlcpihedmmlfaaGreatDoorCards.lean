/-
  DERIVED. GIVEN WITH THE SEED: THE CARDS: each row of YtmlcpihedmmlfaaGreatDoorRows.lean that lists a variable, with what it lists TIED to the program's text (the seventh form; the later family's looks); each row that meets fmt, with fmt's text TOLD by the authors' own Lean function (tested against real Go, not proved from fmt's source: count such statements apart). THE CARD IS WHAT COUNTS. Prove the row's statement (the work); the ties are given (YtmlcpihedmmlfaaGreatDoorTie.lean); close each card by the builder's one call (the guide's Derived/Test/ToyasCard.lean, 'card_holds'). Laid BY PROGRAM, IN A SANDBOX (cutbox-door.mjs). By AI agents, Wed Nov 11 2026. No macro, syntax, notation, axiom, sorry.
-/
import Derived.Test.YtmlcpihedmmlfaaGreatDoorRows
import GoSem.ClaimSeven
namespace Go.Proofs.YtmlcpihedmmlfaaGreatDoor
namespace Rows

/-- THE TIED CARD OF 'touchstonelaw08.AstPrograms'. -/
def astProgramsCard : Claim7 := { stood := { row := astProgramsRow, standIns := [], harness := (true, "4b91623c37700821684894ee388af2ca96145ef5bf3ad624e78a6cd594d56451"), looks := false }, kinds := [], alts := [], laidByText := true, laidKinds := [.data, .data, .data, .data, .data, .data, .data, .pinned], laidTests := true, laidLooks := .later }
def AstProgramsCardSaid : Prop := Claim7.holds Tryz.pinned (.plain (OpenSpec.ofChange astProgramsSpec)) astProgramsCard

/-- THE TIED CARD OF 'touchstonelaw08.AstTrees'. -/
def astTreesCard : Claim7 := { stood := { row := astTreesRow, standIns := [], harness := (true, "4b91623c37700821684894ee388af2ca96145ef5bf3ad624e78a6cd594d56451"), looks := false }, kinds := [], alts := [], laidByText := true, laidKinds := [.data, .data, .data, .data, .data, .data, .data, .pinned], laidTests := true, laidLooks := .later }
def AstTreesCardSaid : Prop := Claim7.holds Tryz.pinned (.plain (OpenSpec.ofChange astTreesSpec)) astTreesCard

/-- THE TIED CARD OF 'touchstonelaw08.AstFree'. -/
def astFreeCard : Claim7 := { stood := { row := astFreeRow, standIns := [], harness := (true, "4b91623c37700821684894ee388af2ca96145ef5bf3ad624e78a6cd594d56451"), looks := false }, kinds := [], alts := [], laidByText := true, laidKinds := [.data, .data, .data, .data, .data, .data, .data, .pinned], laidTests := true, laidLooks := .later }
def AstFreeCardSaid : Prop := Claim7.holds Tryz.pinned (.plain (OpenSpec.ofChange astFreeSpec)) astFreeCard

/-- THE TIED CARD OF 'touchstonelaw08.AstErase'. -/
def astEraseCard : Claim7 := { stood := { row := astEraseRow, standIns := [], harness := (true, "4b91623c37700821684894ee388af2ca96145ef5bf3ad624e78a6cd594d56451"), looks := false }, kinds := [], alts := [], laidByText := true, laidKinds := [.data, .data, .data, .data, .data, .data, .data, .pinned], laidTests := true, laidLooks := .later }
def AstEraseCardSaid : Prop := Claim7.holds Tryz.pinned (.plain (OpenSpec.ofChange astEraseSpec)) astEraseCard

/-- THE SECOND FORM's CARD OF 'touchstonelaw08.AstPrograms'. -/
def astProgramsUptoCard : Claim7 := { stood := { row := astProgramsUptoRow, standIns := [], harness := (true, "4b91623c37700821684894ee388af2ca96145ef5bf3ad624e78a6cd594d56451"), looks := false }, kinds := [], alts := [], laidByText := true, laidKinds := [.data, .data, .data, .data, .data, .data, .data, .pinned], laidTests := true, laidLooks := .later }
def AstProgramsUptoCardSaid : Prop := Claim7.holds Tryz.pinned (.plain (OpenSpec.upto astProgramsSpec)) astProgramsUptoCard

/-- THE SECOND FORM's CARD OF 'touchstonelaw08.AstTrees'. -/
def astTreesUptoCard : Claim7 := { stood := { row := astTreesUptoRow, standIns := [], harness := (true, "4b91623c37700821684894ee388af2ca96145ef5bf3ad624e78a6cd594d56451"), looks := false }, kinds := [], alts := [], laidByText := true, laidKinds := [.data, .data, .data, .data, .data, .data, .data, .pinned], laidTests := true, laidLooks := .later }
def AstTreesUptoCardSaid : Prop := Claim7.holds Tryz.pinned (.plain (OpenSpec.upto astTreesSpec)) astTreesUptoCard

/-- THE SECOND FORM's CARD OF 'touchstonelaw08.AstFree'. -/
def astFreeUptoCard : Claim7 := { stood := { row := astFreeUptoRow, standIns := [], harness := (true, "4b91623c37700821684894ee388af2ca96145ef5bf3ad624e78a6cd594d56451"), looks := false }, kinds := [], alts := [], laidByText := true, laidKinds := [.data, .data, .data, .data, .data, .data, .data, .pinned], laidTests := true, laidLooks := .later }
def AstFreeUptoCardSaid : Prop := Claim7.holds Tryz.pinned (.plain (OpenSpec.upto astFreeSpec)) astFreeUptoCard

/-- THE SECOND FORM's CARD OF 'touchstonelaw08.AstErase'. -/
def astEraseUptoCard : Claim7 := { stood := { row := astEraseUptoRow, standIns := [], harness := (true, "4b91623c37700821684894ee388af2ca96145ef5bf3ad624e78a6cd594d56451"), looks := false }, kinds := [], alts := [], laidByText := true, laidKinds := [.data, .data, .data, .data, .data, .data, .data, .pinned], laidTests := true, laidLooks := .later }
def AstEraseUptoCardSaid : Prop := Claim7.holds Tryz.pinned (.plain (OpenSpec.upto astEraseSpec)) astEraseUptoCard
end Rows
end Go.Proofs.YtmlcpihedmmlfaaGreatDoor
