/- Lemmas. -/
import Derived.Test.YtpkipghjohomcaaGreatDoorP45
set_option linter.unusedVariables false
set_option linter.unusedSimpArgs false
namespace Go.Proofs.YtpkipghjohomcaaGreatDoor
open Go.RowKit List
theorem kL.good {T:List fN} {N:List Nd} {l:List UInt8} {x:Ex} {w:World} {e:Ending} {A:World} (h:kL T N l w e A) (H:gK T N l true) (m:oU l 200=x):D7 x w e A:=by
 unfold kL at h
 rw [m] at h
 clear m
 obtain⟨I,G⟩:=h
 rcases G with ⟨-,L,B,J⟩ | ⟨E,-⟩
 ·exact⟨I,L,B,J⟩
 ·exact absurd H E
theorem C9 (s:ByteArray) (D:Int) (L:s.size<=25000) (A:(eE s.data.toList D true).2.1=0) (pt pn:Option Addr) (ct cn:Nat) (K:Kf) (w:World) (E:fJ w) (B:gF w) (O:TAt w pt (ai s.data.toList).1) (J:al w pn (aw s.data.toList D true) K) (Z:(aw s.data.toList D true).length<=2*(ai s.data.toList).1.length):
  Calls Tryz.prog 18 #[.agg #[.slice pt (ai s.data.toList).1.length ct,.slice pn (aw s.data.toList D true).length cn]] w (D7 (oU s.data.toList D) w):=by
 have R:s.data.toList.length=s.size:=aQ s
 have m:=pZ (l:=s.data.toList) (by omega) A
 have U:=jG m.lex
 have I:gK ((ai s.data.toList).1.map toI) (aw s.data.toList D true) s.data.toList true:=⟨m.ans,rfl,m.nodes.symm⟩
 have H:oU s.data.toList 200=oU s.data.toList D:=by
  unfold oU
  rw [show(200:Int).toNat=200 from rfl,m.same]
 have h:=xV ((ai s.data.toList).1.map toI) (aw s.data.toList D true) K s L (by rw [vp,jP m.lex]) (by rw [length_map];omega) (by omega) (m8 (by omega)) pt pn ct cn w E B (qD O) J
 rw [length_map] at h
 exact h.mono fun Y w' G=>kL.good G I H
theorem MG {l:List UInt8} {D:Int} (B:l.length<=25000) {f:Bool} (A:(eE l D f).2.1=0):gK ((ai l).1.map toI) (aw l D f) l f:=by
 have m:=pZ (l:=l) (by omega) A
 exact⟨m.ans,rfl,m.nodes.symm⟩
end Go.Proofs.YtpkipghjohomcaaGreatDoor
