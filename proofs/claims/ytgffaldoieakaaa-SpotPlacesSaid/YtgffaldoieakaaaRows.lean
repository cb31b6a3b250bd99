/-
  No cell of these rows narrows 'for every input' (looked for: loops, veiled, ifaces, maps, wideKeys, modest, calm, conditions, laid).
  DERIVED. THE GIVEN ROWS OF THIS SEAT. 5 by the template 'for every input the law returns true; each argument reads behind the call as it read before'; 0 by the template 'total and deterministic' (their statements: YtgffaldoieakaaaTotals.lean).
  GIVEN WITH THE SEED: the statements are not yours to turn. If you find one false, say at which input.
  Laid BY PROGRAM, IN A SANDBOX (cutbox-rows.mjs): the forced cells as the released guide's own fill.sh prints them over the translation 203176f2e4ccf681… (all of the seat's roots in one cut). By AI agents, Wed Nov 11 2026. No macro, syntax, notation, axiom, sorry.
-/
import Derived.Test.YtgffaldoieakaaaChecked
import GoSem.Claim
import GoSem.ClaimJoined
import GoSem.ClaimMapViews
import Derived.JoinedTies
import Derived.KernelRfl
namespace Go.Proofs.Ytgffaldoieakaaa
/- THE CELL 'sum', in the pinned program and in every row, IS THE sha256 OF THE DUMP (.gsa) THAT YtgffaldoieakaaaProg.lean LOADS. Nothing in Lean hashes anything: it is a label: what it is worth is what the hold of that sum in a sandbox is worth. -/
noncomputable def Try.pinned : Pinned := { name := "ytgffaldoieakaaa", sum := "203176f2e4ccf681bf2cdbf9b0344b4edcaf75e5de41b3f10d0324a02ab84269", checked := Try.checked }
namespace Rows
def none {H : Type} : Left H := { results := [], args := [] }

/-- 'touchstonelaw04.SpotPlaces': WHATEVER THE INPUT: true; the input reads as it did. -/
def spotPlacesSpec : ChangeSpec := { name := "spotPlaces", fn := fun _ => fun
  | [d1, d2, d3] => { results := [.lit (.bool true)], args := [d1, d2, d3] }
  | _ => none }
def spotPlacesRow : OpenClaim := { program := "ytgffaldoieakaaa", sum := "203176f2e4ccf681bf2cdbf9b0344b4edcaf75e5de41b3f10d0324a02ab84269", func := "touchstone/touchstonelaw04.SpotPlaces", spec := "spotPlaces", inPlace := ["internal/abi.NoEscape", "internal/bytealg.CountString", "internal/bytealg.IndexByteString", "internal/bytealg.IndexString"], named := ["internal/bytealg.MaxLen"], apart := false }
def SpotPlacesSaid : Prop := spotPlacesRow.holds Try.pinned (OpenSpec.ofChange spotPlacesSpec)

/-- ITS FALSE NEIGHBOUR: 'it returns false'. Refute it at one input. -/
def spotPlacesWrong : ChangeSpec := { name := "spotPlaces", fn := fun _ => fun
  | [d1, d2, d3] => { results := [.lit (.bool false)], args := [d1, d2, d3] }
  | _ => none }
def SpotPlacesWrongFalsely : Prop := spotPlacesRow.holds Try.pinned (OpenSpec.ofChange spotPlacesWrong)

/-- 'touchstonelaw04.SpotLines': WHATEVER THE INPUT: true; the input reads as it did. -/
def spotLinesSpec : ChangeSpec := { name := "spotLines", fn := fun _ => fun
  | [d1, d2] => { results := [.lit (.bool true)], args := [d1, d2] }
  | _ => none }
def spotLinesRow : OpenClaim := { program := "ytgffaldoieakaaa", sum := "203176f2e4ccf681bf2cdbf9b0344b4edcaf75e5de41b3f10d0324a02ab84269", func := "touchstone/touchstonelaw04.SpotLines", spec := "spotLines", inPlace := ["internal/abi.NoEscape", "internal/bytealg.IndexByteString", "internal/bytealg.IndexString"], named := ["internal/bytealg.MaxLen"], apart := false }
def SpotLinesSaid : Prop := spotLinesRow.holds Try.pinned (OpenSpec.ofChange spotLinesSpec)

/-- ITS FALSE NEIGHBOUR: 'it returns false'. Refute it at one input. -/
def spotLinesWrong : ChangeSpec := { name := "spotLines", fn := fun _ => fun
  | [d1, d2] => { results := [.lit (.bool false)], args := [d1, d2] }
  | _ => none }
def SpotLinesWrongFalsely : Prop := spotLinesRow.holds Try.pinned (OpenSpec.ofChange spotLinesWrong)

/-- 'touchstonelaw04.SpotPuts': WHATEVER THE INPUT: true; the input reads as it did. -/
def spotPutsSpec : ChangeSpec := { name := "spotPuts", fn := fun _ => fun
  | [d1, d2] => { results := [.lit (.bool true)], args := [d1, d2] }
  | _ => none }
def spotPutsRow : OpenClaim := { program := "ytgffaldoieakaaa", sum := "203176f2e4ccf681bf2cdbf9b0344b4edcaf75e5de41b3f10d0324a02ab84269", func := "touchstone/touchstonelaw04.SpotPuts", spec := "spotPuts", inPlace := ["internal/abi.NoEscape"], apart := false }
def SpotPutsSaid : Prop := spotPutsRow.holds Try.pinned (OpenSpec.ofChange spotPutsSpec)

/-- ITS FALSE NEIGHBOUR: 'it returns false'. Refute it at one input. -/
def spotPutsWrong : ChangeSpec := { name := "spotPuts", fn := fun _ => fun
  | [d1, d2] => { results := [.lit (.bool false)], args := [d1, d2] }
  | _ => none }
def SpotPutsWrongFalsely : Prop := spotPutsRow.holds Try.pinned (OpenSpec.ofChange spotPutsWrong)

/-- 'touchstonelaw04.SpotCuts': WHATEVER THE INPUT: true; the input reads as it did. -/
def spotCutsSpec : ChangeSpec := { name := "spotCuts", fn := fun _ => fun
  | [d1, d2] => { results := [.lit (.bool true)], args := [d1, d2] }
  | _ => none }
def spotCutsRow : OpenClaim := { program := "ytgffaldoieakaaa", sum := "203176f2e4ccf681bf2cdbf9b0344b4edcaf75e5de41b3f10d0324a02ab84269", func := "touchstone/touchstonelaw04.SpotCuts", spec := "spotCuts", inPlace := ["internal/abi.NoEscape"], apart := false }
def SpotCutsSaid : Prop := spotCutsRow.holds Try.pinned (OpenSpec.ofChange spotCutsSpec)

/-- ITS FALSE NEIGHBOUR: 'it returns false'. Refute it at one input. -/
def spotCutsWrong : ChangeSpec := { name := "spotCuts", fn := fun _ => fun
  | [d1, d2] => { results := [.lit (.bool false)], args := [d1, d2] }
  | _ => none }
def SpotCutsWrongFalsely : Prop := spotCutsRow.holds Try.pinned (OpenSpec.ofChange spotCutsWrong)

/-- 'touchstonelaw04.SpotLimit': WHATEVER THE INPUT: true; the input reads as it did. -/
def spotLimitSpec : ChangeSpec := { name := "spotLimit", fn := fun _ => fun
  | [d1, d2] => { results := [.lit (.bool true)], args := [d1, d2] }
  | _ => none }
def spotLimitRow : OpenClaim := { program := "ytgffaldoieakaaa", sum := "203176f2e4ccf681bf2cdbf9b0344b4edcaf75e5de41b3f10d0324a02ab84269", func := "touchstone/touchstonelaw04.SpotLimit", spec := "spotLimit", inPlace := ["internal/abi.NoEscape"], apart := false }
def SpotLimitSaid : Prop := spotLimitRow.holds Try.pinned (OpenSpec.ofChange spotLimitSpec)

/-- ITS FALSE NEIGHBOUR: 'it returns false'. Refute it at one input. -/
def spotLimitWrong : ChangeSpec := { name := "spotLimit", fn := fun _ => fun
  | [d1, d2] => { results := [.lit (.bool false)], args := [d1, d2] }
  | _ => none }
def SpotLimitWrongFalsely : Prop := spotLimitRow.holds Try.pinned (OpenSpec.ofChange spotLimitWrong)

/- THE SECOND FORM. 'bulk': how many values and letters a reading holds, each counted each time it is reached (what is shared counts as often as it is met; a slice's spare places count too). A statement '..UptoSaid' is the law's where the arguments, and the package variables that the reading takes, are together of bulk at most 1048576: NARROWER than '..Said'. Prove '..Said' where nothing that the law and all that it calls make is longer than what came in: it says more and counts as full. Else prove '..UptoSaid'. A law counts once. -/
mutual
def uptoBulk {H : Type} : DataW H → Nat
  | .lit (.string bytes) => bytes.length + 1
  | .lit _ => 1
  | .nil => 1
  | .ptr d => uptoBulk d + 1
  | .slice elems spare => uptoBulkAll elems + uptoBulkAll spare + 1
  | .agg parts => uptoBulkAll parts + 1
  | .iface _ d => uptoBulk d + 1
  | .map entries => uptoBulkEntries entries + 1
  | .held _ => 1
def uptoBulkAll {H : Type} : List (DataW H) → Nat
  | [] => 0
  | d :: r => uptoBulk d + uptoBulkAll r
def uptoBulkEntries {H : Type} : List (Lit × DataW H) → Nat
  | [] => 0
  | x :: r => uptoBulkEntry x + uptoBulkEntries r
def uptoBulkEntry {H : Type} : Lit × DataW H → Nat
  | (.string bytes, d) => bytes.length + uptoBulk d + 1
  | (_, d) => uptoBulk d + 1
 end
def uptoSmall : (H : Type) → List (DataW H) → Bool := fun _ ds => decide (uptoBulkAll ds ≤ 1048576)
def OpenSpec.upto (s : _root_.Go.ChangeSpec) : _root_.Go.OpenSpec := { _root_.Go.OpenSpec.ofChange s with cond := some uptoSmall }

/-- 'touchstonelaw04.SpotPlaces', WHERE WHAT IT READS IS OF BULK AT MOST 1048576: true; the input reads as it did. -/
def spotPlacesUptoRow : OpenClaim := { program := "ytgffaldoieakaaa", sum := "203176f2e4ccf681bf2cdbf9b0344b4edcaf75e5de41b3f10d0324a02ab84269", func := "touchstone/touchstonelaw04.SpotPlaces", spec := "spotPlaces", inPlace := ["internal/abi.NoEscape", "internal/bytealg.CountString", "internal/bytealg.IndexByteString", "internal/bytealg.IndexString"], named := ["internal/bytealg.MaxLen"], apart := false, narrowed := true }
def SpotPlacesUptoSaid : Prop := spotPlacesUptoRow.holds Try.pinned (OpenSpec.upto spotPlacesSpec)

/-- 'touchstonelaw04.SpotLines', WHERE WHAT IT READS IS OF BULK AT MOST 1048576: true; the input reads as it did. -/
def spotLinesUptoRow : OpenClaim := { program := "ytgffaldoieakaaa", sum := "203176f2e4ccf681bf2cdbf9b0344b4edcaf75e5de41b3f10d0324a02ab84269", func := "touchstone/touchstonelaw04.SpotLines", spec := "spotLines", inPlace := ["internal/abi.NoEscape", "internal/bytealg.IndexByteString", "internal/bytealg.IndexString"], named := ["internal/bytealg.MaxLen"], apart := false, narrowed := true }
def SpotLinesUptoSaid : Prop := spotLinesUptoRow.holds Try.pinned (OpenSpec.upto spotLinesSpec)

/-- 'touchstonelaw04.SpotPuts', WHERE WHAT IT READS IS OF BULK AT MOST 1048576: true; the input reads as it did. -/
def spotPutsUptoRow : OpenClaim := { program := "ytgffaldoieakaaa", sum := "203176f2e4ccf681bf2cdbf9b0344b4edcaf75e5de41b3f10d0324a02ab84269", func := "touchstone/touchstonelaw04.SpotPuts", spec := "spotPuts", inPlace := ["internal/abi.NoEscape"], apart := false, narrowed := true }
def SpotPutsUptoSaid : Prop := spotPutsUptoRow.holds Try.pinned (OpenSpec.upto spotPutsSpec)

/-- 'touchstonelaw04.SpotCuts', WHERE WHAT IT READS IS OF BULK AT MOST 1048576: true; the input reads as it did. -/
def spotCutsUptoRow : OpenClaim := { program := "ytgffaldoieakaaa", sum := "203176f2e4ccf681bf2cdbf9b0344b4edcaf75e5de41b3f10d0324a02ab84269", func := "touchstone/touchstonelaw04.SpotCuts", spec := "spotCuts", inPlace := ["internal/abi.NoEscape"], apart := false, narrowed := true }
def SpotCutsUptoSaid : Prop := spotCutsUptoRow.holds Try.pinned (OpenSpec.upto spotCutsSpec)

/-- 'touchstonelaw04.SpotLimit', WHERE WHAT IT READS IS OF BULK AT MOST 1048576: true; the input reads as it did. -/
def spotLimitUptoRow : OpenClaim := { program := "ytgffaldoieakaaa", sum := "203176f2e4ccf681bf2cdbf9b0344b4edcaf75e5de41b3f10d0324a02ab84269", func := "touchstone/touchstonelaw04.SpotLimit", spec := "spotLimit", inPlace := ["internal/abi.NoEscape"], apart := false, narrowed := true }
def SpotLimitUptoSaid : Prop := spotLimitUptoRow.holds Try.pinned (OpenSpec.upto spotLimitSpec)

end Rows
end Go.Proofs.Ytgffaldoieakaaa
