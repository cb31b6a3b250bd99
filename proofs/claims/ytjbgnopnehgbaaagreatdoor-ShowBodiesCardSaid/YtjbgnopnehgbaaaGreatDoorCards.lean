/-
  DERIVED. GIVEN WITH THE SEED: THE CARDS: each row of YtjbgnopnehgbaaaGreatDoorRows.lean that lists a variable, with what it lists TIED to the program's text (the seventh form; the later family's looks); each row that meets fmt, with fmt's text TOLD by the authors' own Lean function (tested against real Go, not proved from fmt's source: count such statements apart). THE CARD IS WHAT COUNTS. Prove the row's statement (the work); the ties are given (YtjbgnopnehgbaaaGreatDoorTie.lean); close each card by the builder's one call (the guide's Derived/Test/ToyasCard.lean, 'card_holds'). Laid BY PROGRAM, IN A SANDBOX (cutbox-door.mjs). By AI agents, Wed Nov 11 2026. No macro, syntax, notation, axiom, sorry.
-/
import Derived.Test.YtjbgnopnehgbaaaGreatDoorRows
import GoSem.ClaimSeven
namespace Go.Proofs.YtjbgnopnehgbaaaGreatDoor
namespace Rows

/-- THE TIED CARD OF 'touchstonelaw09.ShowBodies'. -/
def showBodiesCard : Claim7 := { stood := { row := showBodiesRow, standIns := [], harness := (true, "8776581437aaeefbd2d78726cd450f58de7df7f834aba9546054e3efb6c2d4db"), looks := false }, kinds := [], alts := [], laidByText := true, laidKinds := [.data, .data, .data, .data, .data, .data, .data, .data, .pinned], laidTests := true, laidLooks := .later }
def ShowBodiesCardSaid : Prop := Claim7.holds Tryz.pinned (.plain (OpenSpec.ofChange showBodiesSpec)) showBodiesCard

/-- THE SECOND FORM's CARD OF 'touchstonelaw09.ShowBodies'. -/
def showBodiesUptoCard : Claim7 := { stood := { row := showBodiesUptoRow, standIns := [], harness := (true, "8776581437aaeefbd2d78726cd450f58de7df7f834aba9546054e3efb6c2d4db"), looks := false }, kinds := [], alts := [], laidByText := true, laidKinds := [.data, .data, .data, .data, .data, .data, .data, .data, .pinned], laidTests := true, laidLooks := .later }
def ShowBodiesUptoCardSaid : Prop := Claim7.holds Tryz.pinned (.plain (OpenSpec.upto showBodiesSpec)) showBodiesUptoCard
end Rows
end Go.Proofs.YtjbgnopnehgbaaaGreatDoor
