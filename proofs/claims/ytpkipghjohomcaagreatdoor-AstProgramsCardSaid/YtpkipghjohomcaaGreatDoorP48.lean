/- Lemmas. -/
import Derived.Test.YtpkipghjohomcaaGreatDoorP35
import Derived.Test.YtpkipghjohomcaaGreatDoorP44
import Derived.Test.YtpkipghjohomcaaGreatDoorP47
set_option linter.unusedVariables false
set_option linter.unusedSimpArgs false
namespace Go.Proofs.YtpkipghjohomcaaGreatDoor
open Go.RowKit
theorem Gn {F:Nat->Prop} {w:World} {P:Px} {q:List Value} (h:gq F w P q):∃(G:Option Addr) (L E:Nat) (m:Option Addr) (B:Nat) (A:List (List Value)),q = [.slice G L E,.slice m P.defs.length B]/\GAt 15 w m A/\dG F w P.defs A/\(P.defs≠[]->∃a,m=some a/\F a.block):=by
 obtain⟨G,E,m,B,A,rfl,-,H,I,-,J⟩:=h
 exact⟨G,_,E,m,B,A,rfl,H,I,J⟩
end Go.Proofs.YtpkipghjohomcaaGreatDoor
