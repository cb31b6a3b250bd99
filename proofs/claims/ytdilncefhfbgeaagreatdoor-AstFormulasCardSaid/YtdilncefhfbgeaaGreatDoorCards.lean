/-
  DERIVED. GIVEN WITH THE SEED: THE CARDS: each row of YtdilncefhfbgeaaGreatDoorRows.lean that lists a variable, with what it lists TIED to the program's text (the seventh form; the later family's looks); each row that meets fmt, with fmt's text TOLD by the authors' own Lean function (tested against real Go, not proved from fmt's source: count such statements apart). THE CARD IS WHAT COUNTS. Prove the row's statement (the work); the ties are given (YtdilncefhfbgeaaGreatDoorTie.lean); close each card by the builder's one call (the guide's Derived/Test/ToyasCard.lean, 'card_holds'). Laid BY PROGRAM, IN A SANDBOX (cutbox-door.mjs). By AI agents, Wed Nov 11 2026. No macro, syntax, notation, axiom, sorry.
-/
import Derived.Test.YtdilncefhfbgeaaGreatDoorRows
import GoSem.ClaimSeven
namespace Go.Proofs.YtdilncefhfbgeaaGreatDoor
namespace Rows

/-- THE TIED CARD OF 'touchstonelaw08.AstPrograms'. -/
def astProgramsCard : Claim7 := { stood := { row := astProgramsRow, standIns := [], harness := (true, "9a8614341c921ac76bf266b3e681a2b0e87a8fc312925f6664e729838e5e2530"), looks := false }, kinds := [], alts := [], laidByText := true, laidKinds := [.data, .data, .data, .data, .data, .data, .data, .pinned], laidTests := true, laidLooks := .later }
def AstProgramsCardSaid : Prop := Claim7.holds Tryz.pinned (.plain (OpenSpec.ofChange astProgramsSpec)) astProgramsCard

/-- THE TIED CARD OF 'touchstonelaw08.AstFormulas'. -/
def astFormulasCard : Claim7 := { stood := { row := astFormulasRow, standIns := [], harness := (true, "9a8614341c921ac76bf266b3e681a2b0e87a8fc312925f6664e729838e5e2530"), looks := false }, kinds := [], alts := [], laidByText := true, laidKinds := [.data, .data, .data, .data, .data, .data, .data, .pinned], laidTests := true, laidLooks := .later }
def AstFormulasCardSaid : Prop := Claim7.holds Tryz.pinned (.plain (OpenSpec.ofChange astFormulasSpec)) astFormulasCard

/-- THE TIED CARD OF 'touchstonelaw08.AstTrees'. -/
def astTreesCard : Claim7 := { stood := { row := astTreesRow, standIns := [], harness := (true, "9a8614341c921ac76bf266b3e681a2b0e87a8fc312925f6664e729838e5e2530"), looks := false }, kinds := [], alts := [], laidByText := true, laidKinds := [.data, .data, .data, .data, .data, .data, .data, .pinned], laidTests := true, laidLooks := .later }
def AstTreesCardSaid : Prop := Claim7.holds Tryz.pinned (.plain (OpenSpec.ofChange astTreesSpec)) astTreesCard

/-- THE TIED CARD OF 'touchstonelaw08.AstFree'. -/
def astFreeCard : Claim7 := { stood := { row := astFreeRow, standIns := [], harness := (true, "9a8614341c921ac76bf266b3e681a2b0e87a8fc312925f6664e729838e5e2530"), looks := false }, kinds := [], alts := [], laidByText := true, laidKinds := [.data, .data, .data, .data, .data, .data, .data, .pinned], laidTests := true, laidLooks := .later }
def AstFreeCardSaid : Prop := Claim7.holds Tryz.pinned (.plain (OpenSpec.ofChange astFreeSpec)) astFreeCard

/-- THE TIED CARD OF 'touchstonelaw08.AstErase'. -/
def astEraseCard : Claim7 := { stood := { row := astEraseRow, standIns := [], harness := (true, "9a8614341c921ac76bf266b3e681a2b0e87a8fc312925f6664e729838e5e2530"), looks := false }, kinds := [], alts := [], laidByText := true, laidKinds := [.data, .data, .data, .data, .data, .data, .data, .pinned], laidTests := true, laidLooks := .later }
def AstEraseCardSaid : Prop := Claim7.holds Tryz.pinned (.plain (OpenSpec.ofChange astEraseSpec)) astEraseCard

/-- THE TIED CARD OF 'touchstonelaw09.ShowExprs'. -/
def showExprsCard : Claim7 := { stood := { row := showExprsRow, standIns := [], harness := (true, "9a8614341c921ac76bf266b3e681a2b0e87a8fc312925f6664e729838e5e2530"), looks := false }, kinds := [], alts := [], laidByText := true, laidKinds := [.data, .data, .data, .data, .data, .pinned], laidTests := true, laidLooks := .later }
def ShowExprsCardSaid : Prop := Claim7.holds Tryz.pinned (.plain (OpenSpec.ofChange showExprsSpec)) showExprsCard

/-- THE TIED CARD OF 'touchstonelaw09.ShowReads'. -/
def showReadsCard : Claim7 := { stood := { row := showReadsRow, standIns := [], harness := (true, "9a8614341c921ac76bf266b3e681a2b0e87a8fc312925f6664e729838e5e2530"), looks := false }, kinds := [], alts := [], laidByText := true, laidKinds := [.data, .data, .data, .data, .data, .data, .data, .data, .pinned], laidTests := true, laidLooks := .later }
def ShowReadsCardSaid : Prop := Claim7.holds Tryz.pinned (.plain (OpenSpec.ofChange showReadsSpec)) showReadsCard

/-- THE TIED CARD OF 'touchstonelaw09.ShowBodies'. -/
def showBodiesCard : Claim7 := { stood := { row := showBodiesRow, standIns := [], harness := (true, "9a8614341c921ac76bf266b3e681a2b0e87a8fc312925f6664e729838e5e2530"), looks := false }, kinds := [], alts := [], laidByText := true, laidKinds := [.data, .data, .data, .data, .data, .data, .data, .data, .pinned], laidTests := true, laidLooks := .later }
def ShowBodiesCardSaid : Prop := Claim7.holds Tryz.pinned (.plain (OpenSpec.ofChange showBodiesSpec)) showBodiesCard

/-- THE TIED CARD OF 'touchstonelaw09.ShowPrograms'. -/
def showProgramsCard : Claim7 := { stood := { row := showProgramsRow, standIns := [], harness := (true, "9a8614341c921ac76bf266b3e681a2b0e87a8fc312925f6664e729838e5e2530"), looks := false }, kinds := [], alts := [], laidByText := true, laidKinds := [.data, .data, .data, .data, .data, .data, .data, .data, .pinned], laidTests := true, laidLooks := .later }
def ShowProgramsCardSaid : Prop := Claim7.holds Tryz.pinned (.plain (OpenSpec.ofChange showProgramsSpec)) showProgramsCard

/-- THE TIED CARD OF 'touchstonelaw09.ShowTyped'. -/
def showTypedCard : Claim7 := { stood := { row := showTypedRow, standIns := [], harness := (true, "9a8614341c921ac76bf266b3e681a2b0e87a8fc312925f6664e729838e5e2530"), looks := false }, kinds := [], alts := [], laidByText := true, laidKinds := [.data, .data, .data, .data, .data, .pinned], laidTests := true, laidLooks := .later }
def ShowTypedCardSaid : Prop := Claim7.holds Tryz.pinned (.plain (OpenSpec.ofChange showTypedSpec)) showTypedCard

/-- THE SECOND FORM's CARD OF 'touchstonelaw08.AstPrograms'. -/
def astProgramsUptoCard : Claim7 := { stood := { row := astProgramsUptoRow, standIns := [], harness := (true, "9a8614341c921ac76bf266b3e681a2b0e87a8fc312925f6664e729838e5e2530"), looks := false }, kinds := [], alts := [], laidByText := true, laidKinds := [.data, .data, .data, .data, .data, .data, .data, .pinned], laidTests := true, laidLooks := .later }
def AstProgramsUptoCardSaid : Prop := Claim7.holds Tryz.pinned (.plain (OpenSpec.upto astProgramsSpec)) astProgramsUptoCard

/-- THE SECOND FORM's CARD OF 'touchstonelaw08.AstFormulas'. -/
def astFormulasUptoCard : Claim7 := { stood := { row := astFormulasUptoRow, standIns := [], harness := (true, "9a8614341c921ac76bf266b3e681a2b0e87a8fc312925f6664e729838e5e2530"), looks := false }, kinds := [], alts := [], laidByText := true, laidKinds := [.data, .data, .data, .data, .data, .data, .data, .pinned], laidTests := true, laidLooks := .later }
def AstFormulasUptoCardSaid : Prop := Claim7.holds Tryz.pinned (.plain (OpenSpec.upto astFormulasSpec)) astFormulasUptoCard

/-- THE SECOND FORM's CARD OF 'touchstonelaw08.AstTrees'. -/
def astTreesUptoCard : Claim7 := { stood := { row := astTreesUptoRow, standIns := [], harness := (true, "9a8614341c921ac76bf266b3e681a2b0e87a8fc312925f6664e729838e5e2530"), looks := false }, kinds := [], alts := [], laidByText := true, laidKinds := [.data, .data, .data, .data, .data, .data, .data, .pinned], laidTests := true, laidLooks := .later }
def AstTreesUptoCardSaid : Prop := Claim7.holds Tryz.pinned (.plain (OpenSpec.upto astTreesSpec)) astTreesUptoCard

/-- THE SECOND FORM's CARD OF 'touchstonelaw08.AstFree'. -/
def astFreeUptoCard : Claim7 := { stood := { row := astFreeUptoRow, standIns := [], harness := (true, "9a8614341c921ac76bf266b3e681a2b0e87a8fc312925f6664e729838e5e2530"), looks := false }, kinds := [], alts := [], laidByText := true, laidKinds := [.data, .data, .data, .data, .data, .data, .data, .pinned], laidTests := true, laidLooks := .later }
def AstFreeUptoCardSaid : Prop := Claim7.holds Tryz.pinned (.plain (OpenSpec.upto astFreeSpec)) astFreeUptoCard

/-- THE SECOND FORM's CARD OF 'touchstonelaw08.AstErase'. -/
def astEraseUptoCard : Claim7 := { stood := { row := astEraseUptoRow, standIns := [], harness := (true, "9a8614341c921ac76bf266b3e681a2b0e87a8fc312925f6664e729838e5e2530"), looks := false }, kinds := [], alts := [], laidByText := true, laidKinds := [.data, .data, .data, .data, .data, .data, .data, .pinned], laidTests := true, laidLooks := .later }
def AstEraseUptoCardSaid : Prop := Claim7.holds Tryz.pinned (.plain (OpenSpec.upto astEraseSpec)) astEraseUptoCard

/-- THE SECOND FORM's CARD OF 'touchstonelaw09.ShowExprs'. -/
def showExprsUptoCard : Claim7 := { stood := { row := showExprsUptoRow, standIns := [], harness := (true, "9a8614341c921ac76bf266b3e681a2b0e87a8fc312925f6664e729838e5e2530"), looks := false }, kinds := [], alts := [], laidByText := true, laidKinds := [.data, .data, .data, .data, .data, .pinned], laidTests := true, laidLooks := .later }
def ShowExprsUptoCardSaid : Prop := Claim7.holds Tryz.pinned (.plain (OpenSpec.upto showExprsSpec)) showExprsUptoCard

/-- THE SECOND FORM's CARD OF 'touchstonelaw09.ShowReads'. -/
def showReadsUptoCard : Claim7 := { stood := { row := showReadsUptoRow, standIns := [], harness := (true, "9a8614341c921ac76bf266b3e681a2b0e87a8fc312925f6664e729838e5e2530"), looks := false }, kinds := [], alts := [], laidByText := true, laidKinds := [.data, .data, .data, .data, .data, .data, .data, .data, .pinned], laidTests := true, laidLooks := .later }
def ShowReadsUptoCardSaid : Prop := Claim7.holds Tryz.pinned (.plain (OpenSpec.upto showReadsSpec)) showReadsUptoCard

/-- THE SECOND FORM's CARD OF 'touchstonelaw09.ShowBodies'. -/
def showBodiesUptoCard : Claim7 := { stood := { row := showBodiesUptoRow, standIns := [], harness := (true, "9a8614341c921ac76bf266b3e681a2b0e87a8fc312925f6664e729838e5e2530"), looks := false }, kinds := [], alts := [], laidByText := true, laidKinds := [.data, .data, .data, .data, .data, .data, .data, .data, .pinned], laidTests := true, laidLooks := .later }
def ShowBodiesUptoCardSaid : Prop := Claim7.holds Tryz.pinned (.plain (OpenSpec.upto showBodiesSpec)) showBodiesUptoCard

/-- THE SECOND FORM's CARD OF 'touchstonelaw09.ShowPrograms'. -/
def showProgramsUptoCard : Claim7 := { stood := { row := showProgramsUptoRow, standIns := [], harness := (true, "9a8614341c921ac76bf266b3e681a2b0e87a8fc312925f6664e729838e5e2530"), looks := false }, kinds := [], alts := [], laidByText := true, laidKinds := [.data, .data, .data, .data, .data, .data, .data, .data, .pinned], laidTests := true, laidLooks := .later }
def ShowProgramsUptoCardSaid : Prop := Claim7.holds Tryz.pinned (.plain (OpenSpec.upto showProgramsSpec)) showProgramsUptoCard

/-- THE SECOND FORM's CARD OF 'touchstonelaw09.ShowTyped'. -/
def showTypedUptoCard : Claim7 := { stood := { row := showTypedUptoRow, standIns := [], harness := (true, "9a8614341c921ac76bf266b3e681a2b0e87a8fc312925f6664e729838e5e2530"), looks := false }, kinds := [], alts := [], laidByText := true, laidKinds := [.data, .data, .data, .data, .data, .pinned], laidTests := true, laidLooks := .later }
def ShowTypedUptoCardSaid : Prop := Claim7.holds Tryz.pinned (.plain (OpenSpec.upto showTypedSpec)) showTypedUptoCard
end Rows
end Go.Proofs.YtdilncefhfbgeaaGreatDoor
