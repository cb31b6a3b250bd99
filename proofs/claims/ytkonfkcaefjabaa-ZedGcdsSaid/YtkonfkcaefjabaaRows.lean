/-
  No cell of these rows narrows 'for every input' (looked for: loops, veiled, ifaces, maps, wideKeys, modest, calm, conditions, laid).
  DERIVED. THE GIVEN ROWS OF THIS SEAT. 8 by the template 'for every input the law returns true; each argument reads behind the call as it read before'; 0 by the template 'total and deterministic' (their statements: YtkonfkcaefjabaaTotals.lean).
  GIVEN WITH THE SEED: the statements are not yours to turn. If you find one false, say at which input.
  Laid BY PROGRAM, IN A SANDBOX (cutbox-rows.mjs): the forced cells as the released guide's own fill.sh prints them over the translation beb2b06fcc3625f0… (all of the seat's roots in one cut). By AI agents, Wed Nov 11 2026. No macro, syntax, notation, axiom, sorry.
-/
import Derived.Test.YtkonfkcaefjabaaChecked
import GoSem.Claim
import GoSem.ClaimJoined
import GoSem.ClaimMapViews
import Derived.JoinedTies
import Derived.KernelRfl
namespace Go.Proofs.Ytkonfkcaefjabaa
/- THE CELL 'sum', in the pinned program and in every row, IS THE sha256 OF THE DUMP (.gsa) THAT YtkonfkcaefjabaaProg.lean LOADS. Nothing in Lean hashes anything: it is a label: what it is worth is what the hold of that sum in a sandbox is worth. -/
noncomputable def Try.pinned : Pinned := { name := "ytkonfkcaefjabaa", sum := "beb2b06fcc3625f05225be89f786615629f99db2fb2ce70bea60559c0d4c9636", checked := Try.checked }
namespace Rows
def none {H : Type} : Left H := { results := [], args := [] }

/-- 'touchstonelaw01.ZedParses': WHATEVER THE INPUT: true; the input reads as it did. -/
def zedParsesSpec : ChangeSpec := { name := "zedParses", fn := fun _ => fun
  | [d] => { results := [.lit (.bool true)], args := [d] }
  | _ => none }
def zedParsesRow : OpenClaim := { program := "ytkonfkcaefjabaa", sum := "beb2b06fcc3625f05225be89f786615629f99db2fb2ce70bea60559c0d4c9636", func := "touchstone/touchstonelaw01.ZedParses", spec := "zedParses", inPlace := ["math/bits.Add64", "math/bits.Sub64"], named := ["math/bits.divideError", "math/bits.overflowError"], apart := false }
def ZedParsesSaid : Prop := zedParsesRow.holds Try.pinned (OpenSpec.ofChange zedParsesSpec)

/-- ITS FALSE NEIGHBOUR: 'it returns false'. Refute it at one input. -/
def zedParsesWrong : ChangeSpec := { name := "zedParses", fn := fun _ => fun
  | [d] => { results := [.lit (.bool false)], args := [d] }
  | _ => none }
def ZedParsesWrongFalsely : Prop := zedParsesRow.holds Try.pinned (OpenSpec.ofChange zedParsesWrong)

/-- 'touchstonelaw01.ZedSmalls': WHATEVER THE INPUT: true; the input reads as it did. -/
def zedSmallsSpec : ChangeSpec := { name := "zedSmalls", fn := fun _ => fun
  | [d1, d2] => { results := [.lit (.bool true)], args := [d1, d2] }
  | _ => none }
def zedSmallsRow : OpenClaim := { program := "ytkonfkcaefjabaa", sum := "beb2b06fcc3625f05225be89f786615629f99db2fb2ce70bea60559c0d4c9636", func := "touchstone/touchstonelaw01.ZedSmalls", spec := "zedSmalls", inPlace := ["math/bits.Add64", "math/bits.Sub64"], named := ["math/bits.divideError", "math/bits.overflowError"], apart := false }
def ZedSmallsSaid : Prop := zedSmallsRow.holds Try.pinned (OpenSpec.ofChange zedSmallsSpec)

/-- ITS FALSE NEIGHBOUR: 'it returns false'. Refute it at one input. -/
def zedSmallsWrong : ChangeSpec := { name := "zedSmalls", fn := fun _ => fun
  | [d1, d2] => { results := [.lit (.bool false)], args := [d1, d2] }
  | _ => none }
def ZedSmallsWrongFalsely : Prop := zedSmallsRow.holds Try.pinned (OpenSpec.ofChange zedSmallsWrong)

/-- 'touchstonelaw01.ZedSums': WHATEVER THE INPUT: true; the input reads as it did. -/
def zedSumsSpec : ChangeSpec := { name := "zedSums", fn := fun _ => fun
  | [d1, d2] => { results := [.lit (.bool true)], args := [d1, d2] }
  | _ => none }
def zedSumsRow : OpenClaim := { program := "ytkonfkcaefjabaa", sum := "beb2b06fcc3625f05225be89f786615629f99db2fb2ce70bea60559c0d4c9636", func := "touchstone/touchstonelaw01.ZedSums", spec := "zedSums", inPlace := ["math/bits.Add64", "math/bits.Sub64"], named := ["math/bits.divideError", "math/bits.overflowError"], apart := false }
def ZedSumsSaid : Prop := zedSumsRow.holds Try.pinned (OpenSpec.ofChange zedSumsSpec)

/-- ITS FALSE NEIGHBOUR: 'it returns false'. Refute it at one input. -/
def zedSumsWrong : ChangeSpec := { name := "zedSums", fn := fun _ => fun
  | [d1, d2] => { results := [.lit (.bool false)], args := [d1, d2] }
  | _ => none }
def ZedSumsWrongFalsely : Prop := zedSumsRow.holds Try.pinned (OpenSpec.ofChange zedSumsWrong)

/-- 'touchstonelaw01.ZedProducts': WHATEVER THE INPUT: true; the input reads as it did. -/
def zedProductsSpec : ChangeSpec := { name := "zedProducts", fn := fun _ => fun
  | [d1, d2] => { results := [.lit (.bool true)], args := [d1, d2] }
  | _ => none }
def zedProductsRow : OpenClaim := { program := "ytkonfkcaefjabaa", sum := "beb2b06fcc3625f05225be89f786615629f99db2fb2ce70bea60559c0d4c9636", func := "touchstone/touchstonelaw01.ZedProducts", spec := "zedProducts", inPlace := ["math/bits.Add64", "math/bits.Sub64"], named := ["math/bits.divideError", "math/bits.overflowError"], apart := false }
def ZedProductsSaid : Prop := zedProductsRow.holds Try.pinned (OpenSpec.ofChange zedProductsSpec)

/-- ITS FALSE NEIGHBOUR: 'it returns false'. Refute it at one input. -/
def zedProductsWrong : ChangeSpec := { name := "zedProducts", fn := fun _ => fun
  | [d1, d2] => { results := [.lit (.bool false)], args := [d1, d2] }
  | _ => none }
def ZedProductsWrongFalsely : Prop := zedProductsRow.holds Try.pinned (OpenSpec.ofChange zedProductsWrong)

/-- 'touchstonelaw01.ZedDivides': WHATEVER THE INPUT: true; the input reads as it did. -/
def zedDividesSpec : ChangeSpec := { name := "zedDivides", fn := fun _ => fun
  | [d1, d2] => { results := [.lit (.bool true)], args := [d1, d2] }
  | _ => none }
def zedDividesRow : OpenClaim := { program := "ytkonfkcaefjabaa", sum := "beb2b06fcc3625f05225be89f786615629f99db2fb2ce70bea60559c0d4c9636", func := "touchstone/touchstonelaw01.ZedDivides", spec := "zedDivides", inPlace := ["math/bits.Add64", "math/bits.Sub64"], named := ["math/bits.divideError", "math/bits.overflowError"], apart := false }
def ZedDividesSaid : Prop := zedDividesRow.holds Try.pinned (OpenSpec.ofChange zedDividesSpec)

/-- ITS FALSE NEIGHBOUR: 'it returns false'. Refute it at one input. -/
def zedDividesWrong : ChangeSpec := { name := "zedDivides", fn := fun _ => fun
  | [d1, d2] => { results := [.lit (.bool false)], args := [d1, d2] }
  | _ => none }
def ZedDividesWrongFalsely : Prop := zedDividesRow.holds Try.pinned (OpenSpec.ofChange zedDividesWrong)

/-- 'touchstonelaw01.ZedLaws': WHATEVER THE INPUT: true; the input reads as it did. -/
def zedLawsSpec : ChangeSpec := { name := "zedLaws", fn := fun _ => fun
  | [d1, d2, d3] => { results := [.lit (.bool true)], args := [d1, d2, d3] }
  | _ => none }
def zedLawsRow : OpenClaim := { program := "ytkonfkcaefjabaa", sum := "beb2b06fcc3625f05225be89f786615629f99db2fb2ce70bea60559c0d4c9636", func := "touchstone/touchstonelaw01.ZedLaws", spec := "zedLaws", inPlace := ["math/bits.Add64", "math/bits.Sub64"], named := ["math/bits.divideError", "math/bits.overflowError"], apart := false }
def ZedLawsSaid : Prop := zedLawsRow.holds Try.pinned (OpenSpec.ofChange zedLawsSpec)

/-- ITS FALSE NEIGHBOUR: 'it returns false'. Refute it at one input. -/
def zedLawsWrong : ChangeSpec := { name := "zedLaws", fn := fun _ => fun
  | [d1, d2, d3] => { results := [.lit (.bool false)], args := [d1, d2, d3] }
  | _ => none }
def ZedLawsWrongFalsely : Prop := zedLawsRow.holds Try.pinned (OpenSpec.ofChange zedLawsWrong)

/-- 'touchstonelaw01.ZedGcds': WHATEVER THE INPUT: true; the input reads as it did. -/
def zedGcdsSpec : ChangeSpec := { name := "zedGcds", fn := fun _ => fun
  | [d] => { results := [.lit (.bool true)], args := [d] }
  | _ => none }
def zedGcdsRow : OpenClaim := { program := "ytkonfkcaefjabaa", sum := "beb2b06fcc3625f05225be89f786615629f99db2fb2ce70bea60559c0d4c9636", func := "touchstone/touchstonelaw01.ZedGcds", spec := "zedGcds", inPlace := ["math/bits.Add64", "math/bits.Sub64"], named := ["math/bits.divideError", "math/bits.overflowError"], apart := false }
def ZedGcdsSaid : Prop := zedGcdsRow.holds Try.pinned (OpenSpec.ofChange zedGcdsSpec)

/-- ITS FALSE NEIGHBOUR: 'it returns false'. Refute it at one input. -/
def zedGcdsWrong : ChangeSpec := { name := "zedGcds", fn := fun _ => fun
  | [d] => { results := [.lit (.bool false)], args := [d] }
  | _ => none }
def ZedGcdsWrongFalsely : Prop := zedGcdsRow.holds Try.pinned (OpenSpec.ofChange zedGcdsWrong)

/-- 'touchstonelaw01.ZedPowers': WHATEVER THE INPUT: true; the input reads as it did. -/
def zedPowersSpec : ChangeSpec := { name := "zedPowers", fn := fun _ => fun
  | [d1, d2, d3] => { results := [.lit (.bool true)], args := [d1, d2, d3] }
  | _ => none }
def zedPowersRow : OpenClaim := { program := "ytkonfkcaefjabaa", sum := "beb2b06fcc3625f05225be89f786615629f99db2fb2ce70bea60559c0d4c9636", func := "touchstone/touchstonelaw01.ZedPowers", spec := "zedPowers", inPlace := ["math/bits.Add64", "math/bits.Sub64"], named := ["math/bits.divideError", "math/bits.overflowError"], apart := false }
def ZedPowersSaid : Prop := zedPowersRow.holds Try.pinned (OpenSpec.ofChange zedPowersSpec)

/-- ITS FALSE NEIGHBOUR: 'it returns false'. Refute it at one input. -/
def zedPowersWrong : ChangeSpec := { name := "zedPowers", fn := fun _ => fun
  | [d1, d2, d3] => { results := [.lit (.bool false)], args := [d1, d2, d3] }
  | _ => none }
def ZedPowersWrongFalsely : Prop := zedPowersRow.holds Try.pinned (OpenSpec.ofChange zedPowersWrong)

/- THE SECOND FORM. 'bulk': how many values and letters a reading holds, each counted each time it is reached (what is shared counts as often as it is met; a slice's spare places count too). A statement '..UptoSaid' is the law's where the arguments, and the package variables that the reading takes, are together of bulk at most 1048576: NARROWER than '..Said'. Prove '..Said' where nothing that the law and all that it calls make is longer than what came in: it says more and counts as full. Else prove '..UptoSaid'. A law counts once. -/
mutual
def uptoBulk {H : Type} : DataW H → Nat
  | .lit (.string bytes) => bytes.length + 1
  | .lit _ => 1
  | .nil => 1
  | .ptr d => uptoBulk d + 1
  | .slice elems spare => uptoBulkAll elems + uptoBulkAll spare + 1
  | .agg parts => uptoBulkAll parts + 1
  | .iface _ d => uptoBulk d + 1
  | .map entries => uptoBulkEntries entries + 1
  | .held _ => 1
def uptoBulkAll {H : Type} : List (DataW H) → Nat
  | [] => 0
  | d :: r => uptoBulk d + uptoBulkAll r
def uptoBulkEntries {H : Type} : List (Lit × DataW H) → Nat
  | [] => 0
  | x :: r => uptoBulkEntry x + uptoBulkEntries r
def uptoBulkEntry {H : Type} : Lit × DataW H → Nat
  | (.string bytes, d) => bytes.length + uptoBulk d + 1
  | (_, d) => uptoBulk d + 1
 end
def uptoSmall : (H : Type) → List (DataW H) → Bool := fun _ ds => decide (uptoBulkAll ds ≤ 1048576)
def OpenSpec.upto (s : _root_.Go.ChangeSpec) : _root_.Go.OpenSpec := { _root_.Go.OpenSpec.ofChange s with cond := some uptoSmall }

/-- 'touchstonelaw01.ZedParses', WHERE WHAT IT READS IS OF BULK AT MOST 1048576: true; the input reads as it did. -/
def zedParsesUptoRow : OpenClaim := { program := "ytkonfkcaefjabaa", sum := "beb2b06fcc3625f05225be89f786615629f99db2fb2ce70bea60559c0d4c9636", func := "touchstone/touchstonelaw01.ZedParses", spec := "zedParses", inPlace := ["math/bits.Add64", "math/bits.Sub64"], named := ["math/bits.divideError", "math/bits.overflowError"], apart := false, narrowed := true }
def ZedParsesUptoSaid : Prop := zedParsesUptoRow.holds Try.pinned (OpenSpec.upto zedParsesSpec)

/-- 'touchstonelaw01.ZedSmalls', WHERE WHAT IT READS IS OF BULK AT MOST 1048576: true; the input reads as it did. -/
def zedSmallsUptoRow : OpenClaim := { program := "ytkonfkcaefjabaa", sum := "beb2b06fcc3625f05225be89f786615629f99db2fb2ce70bea60559c0d4c9636", func := "touchstone/touchstonelaw01.ZedSmalls", spec := "zedSmalls", inPlace := ["math/bits.Add64", "math/bits.Sub64"], named := ["math/bits.divideError", "math/bits.overflowError"], apart := false, narrowed := true }
def ZedSmallsUptoSaid : Prop := zedSmallsUptoRow.holds Try.pinned (OpenSpec.upto zedSmallsSpec)

/-- 'touchstonelaw01.ZedSums', WHERE WHAT IT READS IS OF BULK AT MOST 1048576: true; the input reads as it did. -/
def zedSumsUptoRow : OpenClaim := { program := "ytkonfkcaefjabaa", sum := "beb2b06fcc3625f05225be89f786615629f99db2fb2ce70bea60559c0d4c9636", func := "touchstone/touchstonelaw01.ZedSums", spec := "zedSums", inPlace := ["math/bits.Add64", "math/bits.Sub64"], named := ["math/bits.divideError", "math/bits.overflowError"], apart := false, narrowed := true }
def ZedSumsUptoSaid : Prop := zedSumsUptoRow.holds Try.pinned (OpenSpec.upto zedSumsSpec)

/-- 'touchstonelaw01.ZedProducts', WHERE WHAT IT READS IS OF BULK AT MOST 1048576: true; the input reads as it did. -/
def zedProductsUptoRow : OpenClaim := { program := "ytkonfkcaefjabaa", sum := "beb2b06fcc3625f05225be89f786615629f99db2fb2ce70bea60559c0d4c9636", func := "touchstone/touchstonelaw01.ZedProducts", spec := "zedProducts", inPlace := ["math/bits.Add64", "math/bits.Sub64"], named := ["math/bits.divideError", "math/bits.overflowError"], apart := false, narrowed := true }
def ZedProductsUptoSaid : Prop := zedProductsUptoRow.holds Try.pinned (OpenSpec.upto zedProductsSpec)

/-- 'touchstonelaw01.ZedDivides', WHERE WHAT IT READS IS OF BULK AT MOST 1048576: true; the input reads as it did. -/
def zedDividesUptoRow : OpenClaim := { program := "ytkonfkcaefjabaa", sum := "beb2b06fcc3625f05225be89f786615629f99db2fb2ce70bea60559c0d4c9636", func := "touchstone/touchstonelaw01.ZedDivides", spec := "zedDivides", inPlace := ["math/bits.Add64", "math/bits.Sub64"], named := ["math/bits.divideError", "math/bits.overflowError"], apart := false, narrowed := true }
def ZedDividesUptoSaid : Prop := zedDividesUptoRow.holds Try.pinned (OpenSpec.upto zedDividesSpec)

/-- 'touchstonelaw01.ZedLaws', WHERE WHAT IT READS IS OF BULK AT MOST 1048576: true; the input reads as it did. -/
def zedLawsUptoRow : OpenClaim := { program := "ytkonfkcaefjabaa", sum := "beb2b06fcc3625f05225be89f786615629f99db2fb2ce70bea60559c0d4c9636", func := "touchstone/touchstonelaw01.ZedLaws", spec := "zedLaws", inPlace := ["math/bits.Add64", "math/bits.Sub64"], named := ["math/bits.divideError", "math/bits.overflowError"], apart := false, narrowed := true }
def ZedLawsUptoSaid : Prop := zedLawsUptoRow.holds Try.pinned (OpenSpec.upto zedLawsSpec)

/-- 'touchstonelaw01.ZedGcds', WHERE WHAT IT READS IS OF BULK AT MOST 1048576: true; the input reads as it did. -/
def zedGcdsUptoRow : OpenClaim := { program := "ytkonfkcaefjabaa", sum := "beb2b06fcc3625f05225be89f786615629f99db2fb2ce70bea60559c0d4c9636", func := "touchstone/touchstonelaw01.ZedGcds", spec := "zedGcds", inPlace := ["math/bits.Add64", "math/bits.Sub64"], named := ["math/bits.divideError", "math/bits.overflowError"], apart := false, narrowed := true }
def ZedGcdsUptoSaid : Prop := zedGcdsUptoRow.holds Try.pinned (OpenSpec.upto zedGcdsSpec)

/-- 'touchstonelaw01.ZedPowers', WHERE WHAT IT READS IS OF BULK AT MOST 1048576: true; the input reads as it did. -/
def zedPowersUptoRow : OpenClaim := { program := "ytkonfkcaefjabaa", sum := "beb2b06fcc3625f05225be89f786615629f99db2fb2ce70bea60559c0d4c9636", func := "touchstone/touchstonelaw01.ZedPowers", spec := "zedPowers", inPlace := ["math/bits.Add64", "math/bits.Sub64"], named := ["math/bits.divideError", "math/bits.overflowError"], apart := false, narrowed := true }
def ZedPowersUptoSaid : Prop := zedPowersUptoRow.holds Try.pinned (OpenSpec.upto zedPowersSpec)

end Rows
end Go.Proofs.Ytkonfkcaefjabaa
