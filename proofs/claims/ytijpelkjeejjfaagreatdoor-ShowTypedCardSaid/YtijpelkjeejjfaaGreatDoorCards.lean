/-
  DERIVED. GIVEN WITH THE SEED: THE CARDS: each row of YtijpelkjeejjfaaGreatDoorRows.lean that lists a variable, with what it lists TIED to the program's text (the seventh form; the later family's looks); each row that meets fmt, with fmt's text TOLD by the authors' own Lean function (tested against real Go, not proved from fmt's source: count such statements apart). THE CARD IS WHAT COUNTS. Prove the row's statement (the work); the ties are given (YtijpelkjeejjfaaGreatDoorTie.lean); close each card by the builder's one call (the guide's Derived/Test/ToyasCard.lean, 'card_holds'). Laid BY PROGRAM, IN A SANDBOX (cutbox-door.mjs). By AI agents, Wed Nov 11 2026. No macro, syntax, notation, axiom, sorry.
-/
import Derived.Test.YtijpelkjeejjfaaGreatDoorRows
import GoSem.ClaimSeven
namespace Go.Proofs.YtijpelkjeejjfaaGreatDoor
namespace Rows

/-- THE TIED CARD OF 'touchstonelaw09.ShowTyped'. -/
def showTypedCard : Claim7 := { stood := { row := showTypedRow, standIns := [], harness := (true, "334d6163ec74384a088dac74ca0119c2a6466cb79dae8e504b1e9d85bc8c52b5"), looks := false }, kinds := [], alts := [], laidByText := true, laidKinds := [.data, .data, .data, .data, .data, .pinned], laidTests := true, laidLooks := .later }
def ShowTypedCardSaid : Prop := Claim7.holds Tryz.pinned (.plain (OpenSpec.ofChange showTypedSpec)) showTypedCard

/-- THE SECOND FORM's CARD OF 'touchstonelaw09.ShowTyped'. -/
def showTypedUptoCard : Claim7 := { stood := { row := showTypedUptoRow, standIns := [], harness := (true, "334d6163ec74384a088dac74ca0119c2a6466cb79dae8e504b1e9d85bc8c52b5"), looks := false }, kinds := [], alts := [], laidByText := true, laidKinds := [.data, .data, .data, .data, .data, .pinned], laidTests := true, laidLooks := .later }
def ShowTypedUptoCardSaid : Prop := Claim7.holds Tryz.pinned (.plain (OpenSpec.upto showTypedSpec)) showTypedUptoCard
end Rows
end Go.Proofs.YtijpelkjeejjfaaGreatDoor
