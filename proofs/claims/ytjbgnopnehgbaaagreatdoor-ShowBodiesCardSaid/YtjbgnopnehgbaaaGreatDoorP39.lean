/- Lemmas. -/
import Derived.Test.YtjbgnopnehgbaaaGreatDoorP38
set_option linter.unusedVariables false
set_option linter.unusedSimpArgs false
namespace Go.Proofs.YtjbgnopnehgbaaaGreatDoor
open Go.RowKit
theorem jM.good {T:List iN} {N:List Nd} {l:List UInt8} {x:Ex} {w:World} {e:Ending} {w':World} (h:jM T N l w e w') (hg:fU T N l true) (hf:nz l 200=x):Cr x w e w':=by
 unfold jM at h
 rw [hf] at h
 clear hf
 obtain⟨hg',he⟩:=h
 rcases he with ⟨-,q,Jx,hq⟩ | ⟨hb,-⟩
 ·exact⟨hg',q,Jx,hq⟩
 ·exact absurd hg hb
theorem Bk (s:ByteArray) (D:Int) (hs:s.size≤25000) (dp:(dH s.data.toList D true).2.1=0) (pt pn:Option Addr) (ct cn:Nat) (K:Kf) (w:World) (cg:cM w) (i7:fy w) (ht:TAt w pt (ag s.data.toList).1) (hn:aE w pn (aD s.data.toList D true) K) (hN:(aD s.data.toList D true).length≤2*(ag s.data.toList).1.length):
  Calls Tryz.prog 27 #[.agg #[.slice pt (ag s.data.toList).1.length ct,.slice pn (aD s.data.toList D true).length cn]] w (Cr (nz s.data.toList D) w):=by
 have xw:s.data.toList.length=s.size:=aM s
 have hR:=oa (l:=s.data.toList) (by omega) dp
 have bB:=lg hR.lex
 have hg:fU ((ag s.data.toList).1.map toI) (aD s.data.toList D true) s.data.toList true:=⟨hR.ans,rfl,hR.nodes.symm⟩
 have hf:nz s.data.toList 200=nz s.data.toList D:=by
  unfold nz
  rw [show(200:Int).toNat=200 from rfl,hR.same]
 have h:=vz ((ag s.data.toList).1.map toI) (aD s.data.toList D true) K s hs (by rw [tt,ku hR.lex]) (by rw [List.length_map];omega) (by omega) (lZ (by omega)) pt pn ct cn w cg i7 (oD ht) hn
 rw [List.length_map] at h
 exact h.mono fun e w' he=>jM.good he hg hf
theorem La {l:List UInt8} {D:Int} (hl:l.length≤25000) {f:Bool} (dp:(dH l D f).2.1=0):fU ((ag l).1.map toI) (aD l D f) l f:=by
 have hR:=oa (l:=l) (by omega) dp
 exact⟨hR.ans,rfl,hR.nodes.symm⟩
end Go.Proofs.YtjbgnopnehgbaaaGreatDoor
