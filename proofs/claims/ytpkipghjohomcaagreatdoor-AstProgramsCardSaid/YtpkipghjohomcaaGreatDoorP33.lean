/- Lemmas. -/
import Derived.Test.YtpkipghjohomcaaGreatDoorP32
set_option linter.unusedVariables false
set_option linter.unusedSimpArgs false
namespace Go.Proofs.YtpkipghjohomcaaGreatDoor
open Go.RowKit
def vZ (F:Nat->Prop) (A B:Nat) (w:World) (X:Nat->Prop):Nat->Prop:=fun m=>(F m/\m<A)\/(B<=m/\m<w.heap.size/\¬X m)
theorem Og {F X G:Nat->Prop} {A B:Nat} {w E:World} {l:List Dx} {r:List (List Value)} (I:Fr2 X w E) (J:∀k,X k->A<=k) (L:∀k,k<w.heap.size->¬X k->¬G k) (h:dG (vZ F A B w X) w l r):dG (vZ F A B E G) E l r:=
 lU (fun k m=>by
  rcases m with m | m
  ·exact .inl m
  ·exact .inr ⟨m.1,zn m.2.1 I.size,L k m.2.1 m.2.2⟩) (qM I (fun k m H=>by
  rcases m with m | m
  ·have O:=J k H;have R:=m.2;omega
  ·exact m.2.2 H) h)
theorem I9 {F:Nat->Prop} {wr w7 wa U:World} {O B b j base I H nd G R n9 ao:Nat} {L J:Option Addr} {au ak:List (List Value)} {q:List Value} {ks:List Dx} {x:Dx} {u:Value} (cS:O<=b) (av:O<=B) (hB:B<=wr.heap.size) (hb:b<base) (ax:b<wr.heap.size)
  (aq:ag 2 98 wr base (.slice L I H) au) (ap:ag 15 62 wr base (.slice J nd G) ak)
  (kZ:dG (vZ F O B wr (Wr3 b (.slice L I H) (.slice J nd G))) wr ks ak) (dV:wr.grownBy w7 none) (hq:DAt (fun A=>(F A/\A<O)\/wr.heap.size<=A) w7 x q) (dz:w7.grownBy wa none) (ay:wa.heap.size=w7.heap.size+1)
  (bH:wa.grownBy U (Value.slice J nd G).ownBlock) (el:(Value.slice J nd G).ownBlock=some R\/R=w7.heap.size+1):
  dG (vZ F O B (U.setCell ⟨b,j,none⟩ u) (Wr3 b (.slice L I H) (.slice (some ⟨R,0,none⟩) n9 ao))) (U.setCell ⟨b,j,none⟩ u) (ks++[x]) (ak++[q]):=by
 have Zj:=ag.at aq
 have YY:=ag.at ap
 have s7:=dV.size
 have s9:=bH.size
 have Z:Fr2 (Wr3 b (.slice L I H) (.slice J nd G)) w7 (U.setCell ⟨b,j,none⟩ u):=
  (Fr2.none dz).trans ((Fr2.of bH (fun A m=>.inr (.inr m))).trans (Fr2.setCell (Fr2.refl _ _) (.inl rfl) u))
 have hX:∀A,Wr3 b (.slice L I H) (.slice J nd G) A->O<=A:=fun A m=>by
  rcases m with m | m | m
  ·omega
  ·have:=(Zj _ m).1;omega
  ·have:=(YY _ m).1;omega
 have sH:∀A,A<w7.heap.size->¬Wr3 b (.slice L I H) (.slice J nd G) A->¬Wr3 b (.slice L I H) (.slice (some ⟨R,0,none⟩) n9 ao) A:=fun A E h m=>by
  rcases m with m | m | m
  ·exact h (.inl m)
  ·exact h (.inr (.inl m))
  ·have m:R=A:=Option.some.inj (show some R=some A from m)
   rcases el with h9 | h9
   ·exact h (.inr (.inr (by rw [h9,m])))
   ·omega
 have oF:∀A,wr.heap.size<=A->¬Wr3 b (.slice L I H) (.slice J nd G) A:=fun A E m=>by
  rcases m with m | m | m
  ·omega
  ·have:=Zj _ m;omega
  ·have:=YY _ m;omega
 refine AL ?_ ?_
 ·refine DAt.mono (fun A E=>?_) (DAt.same Z (fun A E m=>?_) hq.bound)
  ·rcases E with ⟨E | E,Y⟩
   ·exact .inl E
   ·exact .inr ⟨Nat.le_trans hB E,zn Y Z.size,sH A Y (oF A E)⟩
  ·rcases E with ⟨E | E,Y⟩
   ·have h1:=hX A m;have h2:=E.2;omega
   ·exact oF A E m
 ·exact Og (X:=Wr3 b (.slice L I H) (.slice J nd G)) ((Fr2.none dV).trans Z) hX (fun A E=>sH A (zn E s7)) kZ
end Go.Proofs.YtpkipghjohomcaaGreatDoor
