/- Lemmas. -/
import Derived.Test.YtpkipghjohomcaaGreatDoorP26
set_option linter.unusedVariables false
set_option linter.unusedSimpArgs false
set_option maxHeartbeats 16000000
set_option maxRecDepth 100000
namespace Go.Proofs.YtpkipghjohomcaaGreatDoor
open Go.RowKit List Nat
theorem DF {T:List Tok} {sub:St->RT} (m:∀s,s.inn=false->(sub s).2.inn=false):∀j (r:RT),r.2.inn=false->(iz T sub j r).2.inn=false
 | 0,r,h=>(eS T 15 r.2 r.1).inn.trans h
 | j+1,r,h=>by
   unfold iz
   split
   ·rename_i A
    exact DF m j _ ((aA T (ah A).2).inn.trans (m _ h))
   ·exact m _ h
theorem yR {T:List Tok} {sub:St->RT} (m:∀s,s.inn=false->(sub s).2.inn=false) (s:St) (h:s.inn=false):(fi T sub s).2.inn=false:=by
 unfold fi
 split
 ·exact h
 ·exact DF m 8 _ h
section
variable (T:List Tok) (D:Nat)
def pj (a:RT):RT:=(a.1++(fi T (fD T (NT T D 0).expr) a.2).1,(fi T (fD T (NT T D 0).expr) a.2).2)
def rF (a:RT):RT:=(a.1++(an T [41] a.2).1,(an T [41] a.2).2)
def rI (a:RT):RT:=(a.1++(cj T (NT T D 0).expr a.2).1,(cj T (NT T D 0).expr a.2).2)
def lE (a:RT):RT:=(a.1++((an T [61] a.2).1++((NT T D 0).expr (an T [61] a.2).2).1++(an T [59] ((NT T D 0).expr (an T [61] a.2).2).2).1),(an T [59] ((NT T D 0).expr (an T [61] a.2).2).2).2)
def ZG (s:St):RT:=([.nd 3 (lE T D (rI T D (rF T (pj T D (dJ T (cV T s)))))).1],(lE T D (rI T D (rF T (pj T D (dJ T (cV T s)))))).2)
theorem GF (a:RT):lE T D (rI T D (rF T a))=gv T (NT T D 0).expr a:=by
 unfold lE rI rF gv
 simp only [append_assoc]
theorem Kv (a:RT) (h:a.2.e≠0):(lE T D (rI T D (rF T a))).2.e≠0:=by
 have m:=(aB T [41] a.2).dead h
 have A:(cj T (NT T D 0).expr (an T [41] a.2).2).2=a.2:=by rw [m];exact wt _ h
 show(an T [59] ((NT T D 0).expr (an T [61] (cj T (NT T D 0).expr (an T [41] a.2).2).2).2).2).2.e≠0
 rw [A]
 have B:=(aB T [61] a.2).dead h
 rw [B]
 have E:=((gl T D (D - 0)).expr a.2).dead h
 show(an T [59] ((nxT T D (D - 0)).expr a.2).2).2.e≠0
 rw [E,(aB T [59] a.2).dead h]
 exact h
theorem Oo (a:RT) (E:a.2.i<=T.length):Eqv (pj T D a) (eH T (NT T D 0).expr a):=by
 have h:=vI T (ne T (ey T D (D - 0)).expr) (fun G h=>qA (D:=D) G h) a.2 E
 unfold pj eH
 by_cases A:a.2.e=0
 ·by_cases B:isQ T [41] a.2=true
  ·rw [if_pos B] at h
   rw [if_neg (by rw [B];simp)]
   exact⟨h.1,fun m=>by
    have:=h.2 m
    show a.1++(fi T (fD T (NT T D 0).expr) a.2).1=a.1
    rw [show(fi T (fD T (NT T D 0).expr) a.2).1 = [] from this,append_nil]⟩
  ·rw [if_neg B] at h
   rw [if_pos ⟨A,by simpa using B⟩]
   exact⟨h.1,fun m=>by
    have:=h.2 m
    show a.1++(fi T (fD T (NT T D 0).expr) a.2).1=a.1++_
    rw [show(fi T (fD T (NT T D 0).expr) a.2).1=_ from this];rfl⟩
 ·rw [if_neg (fun m=>A m.1)]
  have B:isQ T [41] a.2=false:=mi A
  rw [if_neg (by rw [B];decide),qA (D:=D) _ A |> fun m=>kM (T:=T) (sub:=fD T (nxT T D (D - 0)).expr) (by rw [show(fD T (nxT T D (D - 0)).expr a.2).2=a.2 from m];exact mi A) _] at h
  exact⟨h.1.trans (qA (D:=D) _ A),fun m=>absurd m A⟩
theorem DS (s:St) (H:(dJ T (cV T s)).2.i<=T.length):Eqv (ZG T D s) (jg T (NT T D 0).expr s):=by
 have h:=Oo T D _ H
 unfold ZG jg
 rw [GF]
 have B:(gv T (NT T D 0).expr (pj T D (dJ T (cV T s)))).2=(gv T (NT T D 0).expr (eH T (NT T D 0).expr (dJ T (cV T s)))).2:=by
  unfold gv;rw [h.1]
 refine⟨B,fun A=>?_⟩
 have G:(eH T (NT T D 0).expr (dJ T (cV T s))).2.e=0:=by
  rcases eq_zero_or_pos (eH T (NT T D 0).expr (dJ T (cV T s))).2.e with m | m
  ·exact m
  ·have:=Kv T D (eH T (NT T D 0).expr (dJ T (cV T s))) (by omega)
   rw [GF] at this
   exact absurd A this
 have E:pj T D (dJ T (cV T s))=eH T (NT T D 0).expr (dJ T (cV T s)):=Prod.ext (h.2 G) h.1
 rw [E]
end
section
variable (b bb:Nat) (T:List Tok) (D:Nat)
theorem Ar (G:dC T) (U:cO b bb T D 0 (fun s=>s.inn=false/\isQ T [123] s=true) 117 (gM T (NT T D 0).expr)) {m:Nat->Prop} {A:Value} {B w:World} {s:St} {N:List Nd} {vn:Value} {L:List (Value×Th)} (Z:KX b bb T D 0 m A B w s s.i N vn L) (Y:s.inn=false):
  Calls Tryz.prog 80 #[.pointer (some ⟨b,0,none⟩)] w (lV b bb T D 0 0 m A B s (fi T (fD T (NT T D 0).expr) s) N L):=by
 obtain⟨ak,H⟩:=zx w.heap.size
 have E:Hid (KX b bb T D 0 m A B (w.alloc (.cells #[.pointer (some ⟨b,0,none⟩)] 80)) s s.i N vn ((nG ak,pL b)::L)):=zh (by rw [<-H];exact Z.boxed _ _)
 have R:=zh (CS b bb T D 0 G _ (Lk b bb T D G U) (fun s h=>qB (T:=T) (D:=D) s h) E (Yu ..) Y)
 have c0:=E.boxc (Yu ..)
 clear G U Z Y E
 go_enter Tryz.func80,Tryz.ntmps80
 go_wp2_with fail
 try rw [H]
 refine R.mono ?_
 rintro ao w7 ⟨lv,ls,N7,QH,rfl,I,O,J,uA⟩
 have HQ:Hid (lV b bb T D 0 0 m A B s (fi T (fD T (NT T D 0).expr) s) N L (.returned lv) w7):=zh ⟨lv,ls,N7,QH,rfl,I.few (List.Sublist.cons_cons _ (vi _ _)),O,J,uA⟩
 clear I O J uA R c0 H
 go_wp2_with fail
 go_ret
 exact HQ
theorem Ag (hC:dC T) (hD:D<=200) (hX:cO b bb T D 0 (fun B=>B.inn=false/\isQ T [123] B=true) 117 (gM T (NT T D 0).expr)) (hE:0<D->cO b bb T D 1 (fun B=>B.inn=false) 82 (gJ T D 1 (NT T D 1))):cO b bb T D 0 (fun B=>B.inn=false) 49 (jg T (NT T D 0).expr):=by
 intro B Y vn A w hP h
 have aJ:=zh hC
 have JU:=zh (fun (w1:World) (B:St) (N1:List Nd) (xM:Value) (a0:List (Value×Th)) (H:KX b bb T D 0 A vn w w1 B B.i N1 xM a0) (hi:B.inn=false)=>GS b bb T D hC hX H hi)
 have TR:=zh (fun (w1:World) (B:St) (N1:List Nd) (xM:Value) (a0:List (Value×Th)) (H:KX b bb T D 0 A vn w w1 B B.i N1 xM a0) (hi:B.inn=false)=>Ar b bb T D hC hX H hi)
 have Bc:=zh (fun (B:St) (Y:List Nd) (vn:Value) (A:Nat->Prop) (w:World) (hi:B.inn=false) h=>(iB b bb T D 0 hD (zero_le _) (fun B=>B.inn=false) _ hE B Y vn A w hi h).mono (fun U w' hp=>hp.eqv (sG T (zero_le _) B hi)))
 have dQ:=zh h.few
 have uF:=zh hP
 have m:=zh (KX.start h).nilS
 have mf:Hid (∀O:RT,O.2.e≠0->(dJ T O).2.e≠0):=zh (fun O h=>by
  show(an T [40] (aM T 1 (an T [102,117,110] O.2).2).2).2.e≠0
  rw [(aB T [102,117,110] O.2).dead h,(bY T 1 O.2).dead h,(aB T [40] O.2).dead h];exact h)
 clear h hC hX hE hP hD
 go_enter Tryz.func49,Tryz.ntmps49
 go_wp2_with fail
 refine(KX.at (ws:=[[112,117,98]]) (m.strs1 _ _) (Yu ..) (by decide)).mono ?_
 rintro U w0 ⟨rfl,H⟩
 have m:=zh (H.few (vi _ _))
 obtain⟨b0,hb⟩:=zx (isQ T [112,117,98] B)
 rw [at_one aJ.out (by decide),hb]
 have xA:=zh hb
 clear H hb
 cases b0
 ·obtain⟨O,vs,Qg,m,L,lF,I,G⟩:∃(O:RT) (vs:List Int),Hid (cV T B=O)/\Hid (KX b bb T D 0 A vn w w0 O.2 O.2.i Y vn [(.slice none 0 0,.ints vs)])/\Hid (cD 0 Y B O Y vs)/\Hid (vs.length<=3)/\Hid (B.e≠0->O.2.e≠0)/\Hid (O.2.inn=false):=
   ⟨([],B),[],zh (by unfold cV;rw [if_neg (by rw [xA.out];decide)]),m,zh (cD.nil Y B),zh (by simp),zh (fun h=>h),uF⟩
  have mf:=zh (mf O)
  go_wp2_with fail
  refine(KX.one1 [102,117,110] (m.strs1 _ _) aJ (by decide) ⟨_,by simp,Yu ..⟩).mono ?_
  rintro U w1 ⟨v1,N1,xM,rfl,H,J,E⟩
  have m:=zh (H.few (vi _ _));have R:=zh J.out;have I:=zh (fun h=>E (I h));have G:=zh ((aB T [102,117,110] _).inn.trans G)
  clear H J E
  go_wp2_with fail
  refine(m.word aJ).mono ?_
  rintro U w2 ⟨v2,N2,bF,rfl,H,J,E⟩
  have m:=zh H;have R:=zh (R.app J.out E);have I:=zh (fun h=>E (I h));have G:=zh ((bY T 1 _).inn.trans G)
  clear H J E
  go_wp2_with fail
  refine(KX.one1 [40] (m.strs1 _ _) aJ (by decide) ⟨_,by simp,Yu ..⟩).mono ?_
  rintro U w3 ⟨v3,N3,a9,rfl,H,J,E⟩
  have m:=zh (H.few (vi _ _));have R:=zh (R.app J.out E);have I:=zh (fun h=>E (I h));have G:=zh ((aB T [40] _).inn.trans G)
  obtain⟨l3,SR⟩:=zx (vs++[v1,v2,v3])
  have ZA:=zh SR;have KL:Hid (l3.length<=10):=zh (by rw [<-SR,Q2];have:=lF.out;simp;omega)
  have L:Hid (cD 1 Y B (dJ T O) N3 l3):=zh (by rw [<-SR];exact(cD.app L R mf).weak (by decide))
  clear H J E SR R
  go_wp2_with (at_builtin;go_loud (refine bD rfl _ _ rfl (m.ints3 v1 v2 v3) (vi _ _) rfl rfl (l2:=[v1,v2,v3]) rfl (Qz _ _ _ _) (by have:=lF.out;omega) (by simp) ?_))
  intro a6 w4 ap
  rw [ZA.out] at ap
  obtain⟨a1,JW⟩:=zx (dJ T O)
  have Wz:=zh JW
  have m:Hid (KX b bb T D 0 A vn w w4 a1.2 a1.2.i N3 a9 [(a6,.ints l3)]):=zh (by rw [<-JW];exact ap)
  have I:Hid (B.e≠0->a1.2.e≠0):=zh (by rw [<-JW];exact I)
  have G:Hid (a1.2.inn=false):=zh (by rw [<-JW];exact G)
  rw [JW] at L
  have XQ:=zh m.ok
  clear ap JW ZA
  go_wp2_with fail
  refine(TR _ _ _ _ _ m G).mono ?_
  rintro U w5 ⟨lv,ls,N5,XY,rfl,BH,GM,BR,uA⟩
  obtain⟨q5,c5,rfl,xI,-,-⟩:=BH.list (Yu ..)
  have m:=zh BH;have zQ:=zh xI;have EW:=zh uA;have I:=zh (fun h=>BR (I h));have G:=zh (yR (T:=T) (sub:=fD T (NT T D 0).expr) (fun B h=>qB (T:=T) (D:=D) B h) _ G)
  obtain⟨l5,A8⟩:=zx (l3++ls)
  have Ef:=zh A8;have Mc:Hid (l5.length<=320):=zh (by rw [<-A8,Q2];have:=KL.out;omega)
  have L:Hid (cD 1 Y B (pj T D a1) N5 l5):=zh (by rw [<-A8];exact(L.app GM BR).weak (by decide))
  obtain⟨m5,UZ⟩:=zx ls.length
  have av:=zh UZ
  rw [UZ] at m ⊢
  clear BH GM BR uA xI A8 UZ
  go_wp2_with (at_builtin;go_loud (refine bD rfl _ _ rfl m (vi _ _) rfl rfl (l2:=ls) av zQ (by have:=KL.out;omega) (by have:=EW.out;omega) ?_))
  intro a7 w6 my
  rw [Ef.out] at my
  obtain⟨a2,Eb⟩:=zx (pj T D a1)
  have Ly:=zh Eb
  have m:Hid (KX b bb T D 0 A vn w w6 a2.2 a2.2.i N5 XY [(a7,.ints l5)]):=zh (by rw [<-Eb];exact my)
  have I:Hid (B.e≠0->a2.2.e≠0):=zh (by rw [<-Eb];exact I)
  have G:Hid (a2.2.inn=false):=zh (by rw [<-Eb];exact G)
  rw [Eb] at L
  clear my Eb Ef zQ av
  go_wp2_with fail
  refine(KX.one1 [41] (m.strs1 _ _) aJ (by decide) ⟨_,by simp,Yu ..⟩).mono ?_
  rintro U w7 ⟨v7,N7,QH,rfl,H,J,E⟩
  have m:=zh (H.few (vi _ _));have I:=zh (fun h=>E (I h));have G:=zh ((aB T [41] _).inn.trans G)
  obtain⟨l7,uA⟩:=zx (l5++[v7])
  have pJ:=zh uA;have BX:Hid (l7.length<=321):=zh (by rw [<-uA,Q2];have:=Mc.out;simp;omega)
  have L:Hid (cD 1 Y B (rF T a2) N7 l7):=zh (by rw [<-uA];exact(L.app J.out E).weak (by decide))
  clear H J E uA
  go_wp2_with (at_builtin;go_loud (refine bD rfl _ _ rfl (m.ints1 v7) (vi _ _) rfl rfl (l2:=[v7]) rfl (qh _ _) (by have:=Mc.out;omega) (by simp) ?_))
  intro a8 w8 yC
  rw [pJ.out] at yC
  obtain⟨a3,IO⟩:=zx (rF T a2)
  have Sd:=zh IO
  have m:Hid (KX b bb T D 0 A vn w w8 a3.2 a3.2.i N7 QH [(a8,.ints l7)]):=zh (by rw [<-IO];exact yC)
  have I:Hid (B.e≠0->a3.2.e≠0):=zh (by rw [<-IO];exact I)
  have G:Hid (a3.2.inn=false):=zh (by rw [<-IO];exact G)
  rw [IO] at L
  clear yC IO pJ
  go_wp2_with fail
  refine(JU _ _ _ _ _ m G).mono ?_
  rintro U w9 ⟨lv,lt,N9,dj,rfl,aq,au,aL,el⟩
  obtain⟨q9,c9,rfl,xP,-,-⟩:=aq.list (Yu ..)
  have m:=zh aq;have zQ:=zh xP;have oC:=zh el;have I:=zh (fun h=>aL (I h));have G:=zh (oE (T:=T) (D:=D) _ G)
  obtain⟨l9,BA⟩:=zx (l7++lt)
  have S2:=zh BA;have LW:Hid (l9.length<=630):=zh (by rw [<-BA,Q2];have:=BX.out;omega)
  have L:Hid (cD 1 Y B (rI T D a3) N9 l9):=zh (by rw [<-BA];exact(L.app au.out aL).weak (by decide))
  obtain⟨m9,Vk⟩:=zx lt.length
  have ax:=zh Vk
  rw [Vk] at m ⊢
  clear aq au aL el xP BA Vk
  go_wp2_with (at_builtin;go_loud (refine bD rfl _ _ rfl m (vi _ _) rfl rfl (l2:=lt) ax zQ (by have:=BX.out;omega) (by have:=oC.out;omega) ?_))
  intro a4 bc ak
  rw [S2.out] at ak
  obtain⟨Z,Js⟩:=zx (rI T D a3)
  have aX:=zh Js
  have m:Hid (KX b bb T D 0 A vn w bc Z.2 Z.2.i N9 dj [(a4,.ints l9)]):=zh (by rw [<-Js];exact ak)
  have I:Hid (B.e≠0->Z.2.e≠0):=zh (by rw [<-Js];exact I)
  have G:Hid (Z.2.inn=false):=zh (by rw [<-Js];exact G)
  rw [Js] at L
  clear ak Js S2 zQ ax
  go_wp2_with fail
  refine(KX.one1 [61] (m.strs1 _ _) aJ (by decide) ⟨_,by simp,Yu ..⟩).mono ?_
  rintro U bH ⟨xO,bi,bu,rfl,H,J,E⟩
  have m:=zh (H.few (vi _ _));have R:=zh J.out;have rO:=zh E;have G:=zh ((aB T [61] _).inn.trans G)
  clear H J E
  go_wp2_with fail
  refine(m.call (fun A h=>Bc _ _ _ A _ G h)).mono ?_
  rintro U bL ⟨Aq,bm,bs,rfl,H,J,E⟩
  have m:=zh H;have R:=zh (R.app J.out E);have rO:=zh (fun h=>E (rO h))
  clear H J E
  go_wp2_with fail
  refine(KX.one1 [59] (m.strs1 _ _) aJ (by decide) ⟨_,by simp,Yu ..⟩).mono ?_
  rintro U bM ⟨DH,aO,WI,rfl,H,J,E⟩
  have m:=zh (H.few (vi _ _));have ay:=zh (aZ.app R J E);have rO:=zh (fun h=>E (rO h))
  obtain⟨Wu,Ao⟩:=zx (l9++[xO,Aq,DH])
  have Nk:=zh Ao;have Wn:Hid (Wu.length<=640):=zh (by rw [<-Ao,Q2];have:=LW.out;simp;omega)
  have L:Hid (aZ (0+1) Y B (lE T D Z) aO Wu):=zh (by rw [<-Ao];exact(aZ.app L ay rO).weak (by decide))
  have I:Hid (B.e≠0->(lE T D Z).2.e≠0):=zh (fun h=>rO (I h))
  clear H J E Ao R ay
  go_wp2_with (at_builtin;go_loud (refine bD rfl _ _ rfl (m.ints3 xO Aq DH) (vi _ _) rfl rfl (l2:=[xO,Aq,DH]) rfl (Qz _ _ _ _) (by have:=LW.out;omega) (by simp) ?_))
  intro a5 bd ao
  rw [Nk.out] at ao
  have m:Hid (KX b bb T D 0 A vn w bd (lE T D Z).2 (lE T D Z).2.i aO WI [(a5,.ints Wu)]):=zh ao
  have d0:=m.cell
  clear ao Nk
  go_wp2_with fail
  refine(KX.node (k:=0) (kind:=3) m (Yu ..) aJ.len L rfl dQ (by have:=Wn.out;omega)).mono ?_
  rintro U bN ⟨bB,bn,bq,rfl,NM,NI⟩
  have HQ:=zh (KX.fin NI NM I (r':=jg T (NT T D 0).expr B) (by rw [<-aX.out,<-Sd.out,<-Ly.out,<-Wz.out,<-Qg.out];exact DS T D B (Nat.le_of_lt (by rw [Qg.out,Wz.out];exact XQ))))
  clear NM NI d0
  go_wp2_with fail
  go_ret
  exact HQ
 ·have TO:=zh (ah xA)
  go_wp2_with fail
  refine(m.take aJ TO.1 TO.2).mono ?_
  rintro U w1 ⟨v0,N0,bt,rfl,H,J,E⟩
  have m:=zh H;have HO:=zh J.out
  clear H J E
  go_wp2_with (at_builtin;go_loud (refine bD rfl _ _ rfl (m.ints1 v0) (vi _ _) rfl rfl (l2:=[v0]) rfl (qh _ _) (by simp) (by simp) ?_))
  intro bw w2 IU
  obtain⟨O,vs,Qg,m,L,lF,I,G⟩:∃(O:RT) (vs:List Int),Hid (cV T B=O)/\Hid (KX b bb T D 0 A vn w w2 O.2 O.2.i N0 bt [(bw,.ints vs)])/\Hid (cD 0 Y B O N0 vs)/\Hid (vs.length<=3)/\Hid (B.e≠0->O.2.e≠0)/\Hid (O.2.inn=false):=
   ⟨ae T B,[v0],zh (by unfold cV;rw [if_pos xA.out]),zh IU,zh (HO.weak (by decide)),zh (by simp),zh (fun h=>absurd TO.2 h),zh ((aA T TO.2).inn.trans uF)⟩
  have mf:=zh (mf O)
  clear IU HO
  go_wp2_with fail
  refine(KX.one1 [102,117,110] (m.strs1 _ _) aJ (by decide) ⟨_,by simp,Yu ..⟩).mono ?_
  rintro U w1 ⟨v1,N1,xM,rfl,H,J,E⟩
  have m:=zh (H.few (vi _ _));have R:=zh J.out;have I:=zh (fun h=>E (I h));have G:=zh ((aB T [102,117,110] _).inn.trans G)
  clear H J E
  go_wp2_with fail
  refine(m.word aJ).mono ?_
  rintro U w2 ⟨v2,N2,bF,rfl,H,J,E⟩
  have m:=zh H;have R:=zh (R.app J.out E);have I:=zh (fun h=>E (I h));have G:=zh ((bY T 1 _).inn.trans G)
  clear H J E
  go_wp2_with fail
  refine(KX.one1 [40] (m.strs1 _ _) aJ (by decide) ⟨_,by simp,Yu ..⟩).mono ?_
  rintro U w3 ⟨v3,N3,a9,rfl,H,J,E⟩
  have m:=zh (H.few (vi _ _));have R:=zh (R.app J.out E);have I:=zh (fun h=>E (I h));have G:=zh ((aB T [40] _).inn.trans G)
  obtain⟨l3,SR⟩:=zx (vs++[v1,v2,v3])
  have ZA:=zh SR;have KL:Hid (l3.length<=10):=zh (by rw [<-SR,Q2];have:=lF.out;simp;omega)
  have L:Hid (cD 1 Y B (dJ T O) N3 l3):=zh (by rw [<-SR];exact(cD.app L R mf).weak (by decide))
  clear H J E SR R
  go_wp2_with (at_builtin;go_loud (refine bD rfl _ _ rfl (m.ints3 v1 v2 v3) (vi _ _) rfl rfl (l2:=[v1,v2,v3]) rfl (Qz _ _ _ _) (by have:=lF.out;omega) (by simp) ?_))
  intro a6 w4 ap
  rw [ZA.out] at ap
  obtain⟨a1,JW⟩:=zx (dJ T O)
  have Wz:=zh JW
  have m:Hid (KX b bb T D 0 A vn w w4 a1.2 a1.2.i N3 a9 [(a6,.ints l3)]):=zh (by rw [<-JW];exact ap)
  have I:Hid (B.e≠0->a1.2.e≠0):=zh (by rw [<-JW];exact I)
  have G:Hid (a1.2.inn=false):=zh (by rw [<-JW];exact G)
  rw [JW] at L
  have XQ:=zh m.ok
  clear ap JW ZA
  go_wp2_with fail
  refine(TR _ _ _ _ _ m G).mono ?_
  rintro U w5 ⟨lv,ls,N5,XY,rfl,BH,GM,BR,uA⟩
  obtain⟨q5,c5,rfl,xI,-,-⟩:=BH.list (Yu ..)
  have m:=zh BH;have zQ:=zh xI;have EW:=zh uA;have I:=zh (fun h=>BR (I h));have G:=zh (yR (T:=T) (sub:=fD T (NT T D 0).expr) (fun B h=>qB (T:=T) (D:=D) B h) _ G)
  obtain⟨l5,A8⟩:=zx (l3++ls)
  have Ef:=zh A8;have Mc:Hid (l5.length<=320):=zh (by rw [<-A8,Q2];have:=KL.out;omega)
  have L:Hid (cD 1 Y B (pj T D a1) N5 l5):=zh (by rw [<-A8];exact(L.app GM BR).weak (by decide))
  obtain⟨m5,UZ⟩:=zx ls.length
  have av:=zh UZ
  rw [UZ] at m ⊢
  clear BH GM BR uA xI A8 UZ
  go_wp2_with (at_builtin;go_loud (refine bD rfl _ _ rfl m (vi _ _) rfl rfl (l2:=ls) av zQ (by have:=KL.out;omega) (by have:=EW.out;omega) ?_))
  intro a7 w6 my
  rw [Ef.out] at my
  obtain⟨a2,Eb⟩:=zx (pj T D a1)
  have Ly:=zh Eb
  have m:Hid (KX b bb T D 0 A vn w w6 a2.2 a2.2.i N5 XY [(a7,.ints l5)]):=zh (by rw [<-Eb];exact my)
  have I:Hid (B.e≠0->a2.2.e≠0):=zh (by rw [<-Eb];exact I)
  have G:Hid (a2.2.inn=false):=zh (by rw [<-Eb];exact G)
  rw [Eb] at L
  clear my Eb Ef zQ av
  go_wp2_with fail
  refine(KX.one1 [41] (m.strs1 _ _) aJ (by decide) ⟨_,by simp,Yu ..⟩).mono ?_
  rintro U w7 ⟨v7,N7,QH,rfl,H,J,E⟩
  have m:=zh (H.few (vi _ _));have I:=zh (fun h=>E (I h));have G:=zh ((aB T [41] _).inn.trans G)
  obtain⟨l7,uA⟩:=zx (l5++[v7])
  have pJ:=zh uA;have BX:Hid (l7.length<=321):=zh (by rw [<-uA,Q2];have:=Mc.out;simp;omega)
  have L:Hid (cD 1 Y B (rF T a2) N7 l7):=zh (by rw [<-uA];exact(L.app J.out E).weak (by decide))
  clear H J E uA
  go_wp2_with (at_builtin;go_loud (refine bD rfl _ _ rfl (m.ints1 v7) (vi _ _) rfl rfl (l2:=[v7]) rfl (qh _ _) (by have:=Mc.out;omega) (by simp) ?_))
  intro a8 w8 yC
  rw [pJ.out] at yC
  obtain⟨a3,IO⟩:=zx (rF T a2)
  have Sd:=zh IO
  have m:Hid (KX b bb T D 0 A vn w w8 a3.2 a3.2.i N7 QH [(a8,.ints l7)]):=zh (by rw [<-IO];exact yC)
  have I:Hid (B.e≠0->a3.2.e≠0):=zh (by rw [<-IO];exact I)
  have G:Hid (a3.2.inn=false):=zh (by rw [<-IO];exact G)
  rw [IO] at L
  clear yC IO pJ
  go_wp2_with fail
  refine(JU _ _ _ _ _ m G).mono ?_
  rintro U w9 ⟨lv,lt,N9,dj,rfl,aq,au,aL,el⟩
  obtain⟨q9,c9,rfl,xP,-,-⟩:=aq.list (Yu ..)
  have m:=zh aq;have zQ:=zh xP;have oC:=zh el;have I:=zh (fun h=>aL (I h));have G:=zh (oE (T:=T) (D:=D) _ G)
  obtain⟨l9,BA⟩:=zx (l7++lt)
  have S2:=zh BA;have LW:Hid (l9.length<=630):=zh (by rw [<-BA,Q2];have:=BX.out;omega)
  have L:Hid (cD 1 Y B (rI T D a3) N9 l9):=zh (by rw [<-BA];exact(L.app au.out aL).weak (by decide))
  obtain⟨m9,Vk⟩:=zx lt.length
  have ax:=zh Vk
  rw [Vk] at m ⊢
  clear aq au aL el xP BA Vk
  go_wp2_with (at_builtin;go_loud (refine bD rfl _ _ rfl m (vi _ _) rfl rfl (l2:=lt) ax zQ (by have:=BX.out;omega) (by have:=oC.out;omega) ?_))
  intro a4 bc ak
  rw [S2.out] at ak
  obtain⟨Z,Js⟩:=zx (rI T D a3)
  have aX:=zh Js
  have m:Hid (KX b bb T D 0 A vn w bc Z.2 Z.2.i N9 dj [(a4,.ints l9)]):=zh (by rw [<-Js];exact ak)
  have I:Hid (B.e≠0->Z.2.e≠0):=zh (by rw [<-Js];exact I)
  have G:Hid (Z.2.inn=false):=zh (by rw [<-Js];exact G)
  rw [Js] at L
  clear ak Js S2 zQ ax
  go_wp2_with fail
  refine(KX.one1 [61] (m.strs1 _ _) aJ (by decide) ⟨_,by simp,Yu ..⟩).mono ?_
  rintro U bH ⟨xO,bi,bu,rfl,H,J,E⟩
  have m:=zh (H.few (vi _ _));have R:=zh J.out;have rO:=zh E;have G:=zh ((aB T [61] _).inn.trans G)
  clear H J E
  go_wp2_with fail
  refine(m.call (fun A h=>Bc _ _ _ A _ G h)).mono ?_
  rintro U bL ⟨Aq,bm,bs,rfl,H,J,E⟩
  have m:=zh H;have R:=zh (R.app J.out E);have rO:=zh (fun h=>E (rO h))
  clear H J E
  go_wp2_with fail
  refine(KX.one1 [59] (m.strs1 _ _) aJ (by decide) ⟨_,by simp,Yu ..⟩).mono ?_
  rintro U bM ⟨DH,aO,WI,rfl,H,J,E⟩
  have m:=zh (H.few (vi _ _));have ay:=zh (aZ.app R J E);have rO:=zh (fun h=>E (rO h))
  obtain⟨Wu,Ao⟩:=zx (l9++[xO,Aq,DH])
  have Nk:=zh Ao;have Wn:Hid (Wu.length<=640):=zh (by rw [<-Ao,Q2];have:=LW.out;simp;omega)
  have L:Hid (aZ (0+1) Y B (lE T D Z) aO Wu):=zh (by rw [<-Ao];exact(aZ.app L ay rO).weak (by decide))
  have I:Hid (B.e≠0->(lE T D Z).2.e≠0):=zh (fun h=>rO (I h))
  clear H J E Ao R ay
  go_wp2_with (at_builtin;go_loud (refine bD rfl _ _ rfl (m.ints3 xO Aq DH) (vi _ _) rfl rfl (l2:=[xO,Aq,DH]) rfl (Qz _ _ _ _) (by have:=LW.out;omega) (by simp) ?_))
  intro a5 bd ao
  rw [Nk.out] at ao
  have m:Hid (KX b bb T D 0 A vn w bd (lE T D Z).2 (lE T D Z).2.i aO WI [(a5,.ints Wu)]):=zh ao
  have d0:=m.cell
  clear ao Nk
  go_wp2_with fail
  refine(KX.node (k:=0) (kind:=3) m (Yu ..) aJ.len L rfl dQ (by have:=Wn.out;omega)).mono ?_
  rintro U bN ⟨bB,bn,bq,rfl,NM,NI⟩
  have HQ:=zh (KX.fin NI NM I (r':=jg T (NT T D 0).expr B) (by rw [<-aX.out,<-Sd.out,<-Ly.out,<-Wz.out,<-Qg.out];exact DS T D B (Nat.le_of_lt (by rw [Qg.out,Wz.out];exact XQ))))
  clear NM NI d0
  go_wp2_with fail
  go_ret
  exact HQ
end
end Go.Proofs.YtpkipghjohomcaaGreatDoor
set_option maxHeartbeats 8000000
namespace Go.Proofs.YtpkipghjohomcaaGreatDoor
open Go.RowKit List Nat
def imT (T:List Tok) (s:St):RT:=([.nd 2 ((an T [105,109,112,111,114,116] s).1++(aM T 1 (an T [105,109,112,111,114,116] s).2).1++(an T [59] (aM T 1 (an T [105,109,112,111,114,116] s).2).2).1)],(an T [59] (aM T 1 (an T [105,109,112,111,114,116] s).2).2).2)
theorem NZ {T:List Tok} {r:RT} (h:isQ T [105,109,112,111,114,116] r.2=true):fB T r=(r.1++(imT T r.2).1,(imT T r.2).2):=by
 have m:an T [105,109,112,111,114,116] r.2=ae T r.2:=by unfold an;rw [if_pos h]
 unfold fB imT
 rw [m]
theorem Lm {T:List Tok} {s:St} (h:isQ T [105,109,112,111,114,116] s=true):s.i<(imT T s).2.i:=by
 have m:an T [105,109,112,111,114,116] s=ae T s:=by unfold an;rw [if_pos h]
 have A:=sZ (T:=T) (ah h).1
 have B:=(dT T 1 (ae T s).2).mono
 have E:=(aW T [59] (aM T 1 (ae T s).2).2).mono
 show s.i<(an T [59] (aM T 1 (an T [105,109,112,111,114,116] s).2).2).2.i
 rw [m];omega
theorem JO {T:List Tok} {D:Nat} {s:St} (h:ki T s=true):s.i<(jg T (NT T D 0).expr s).2.i:=by
 have E:=(ey T D (D - 0)).expr
 have J:∀m:RT,Good T m.2 (gv T (NT T D 0).expr (eH T (NT T D 0).expr m)):=fun m=>oB T E (sV T E (Good.self T m))
 have O:s.i<(dJ T (cV T s)).2.i:=by
  unfold cV
  by_cases A:isQ T [112,117,98] s=true
  ·rw [if_pos A]
   have H:=sZ (T:=T) (ah A).1
   have I:=(sT T (Good.self T (ae T s))).mono
   omega
  ·rw [if_neg A]
   have B:isQ T [102,117,110] s=true:=by
    unfold ki at h
    rcases Bool.or_eq_true_iff.1 h with h | h
    ·exact absurd h A
    ·exact h
   have G:an T [102,117,110] s=ae T s:=by unfold an;rw [if_pos B]
   have H:=sZ (T:=T) (ah B).1
   show s.i<(an T [40] (aM T 1 (an T [102,117,110] s).2).2).2.i
   rw [G]
   have I:=(dT T 1 (ae T s).2).mono
   have L:=(aW T [40] (aM T 1 (ae T s).2).2).mono
   omega
 have:=(J (dJ T (cV T s))).mono
 show s.i<(gv T (NT T D 0).expr (eH T (NT T D 0).expr (dJ T (cV T s)))).2.i
 omega
def rowP (T:List Tok) (c:St->Bool) (sub:St->RT) (most:Nat):Nat->Nat->RT->RT
 | 0,_,r=>r
 | f+1,k,r=>if c r.2=true then (if k=most then (r.1,aH T 15 r.2) else rowP T c sub most f (k+1) (r.1++(sub r.2).1,(sub r.2).2)) else r
theorem sx {T:List Tok} {c:St->Bool} {sub:St->RT} {step:RT->RT} {most:Nat} (m:∀r,c r.2=true->step r=(r.1++(sub r.2).1,(sub r.2).2)):∀f k r,Eqv (rowP T c sub most f k r) (eW T c step most f k r).2
 | 0,k,r=>Eqv.refl _
 | f+1,k,r=>by
   unfold rowP eW
   split
   ·rename_i B
    split
    ·exact⟨rfl,fun A=>absurd A (df T (by decide) _)⟩
    ·rw [m r B];exact sx m f _ _
   ·exact Eqv.refl _
theorem zr {T:List Tok} {c:St->Bool} {sub:St->RT} {most k:Nat} {r:RT} (m:c r.2=false):∀f,rowP T c sub most f k r=r
 | 0=>rfl
 | f+1=>by unfold rowP;rw [m];rfl
def nf (T:List Tok) (c:St->Bool) (sub:St->RT) (most:Nat) (R:RT) (k:Nat) (r:RT):Prop:=∃m,T.length - r.2.i+1<=m/\rowP T c sub most m k r=R
theorem nf.stop {T:List Tok} {c:St->Bool} {sub:St->RT} {most k:Nat} {R r:RT} (h:nf T c sub most R k r) (m:c r.2=false):R=r:=by
 obtain⟨B,-,A⟩:=h;rw [<-A,zr m]
theorem nf.full {T:List Tok} {c:St->Bool} {sub:St->RT} {most:Nat} {R r:RT} (h:nf T c sub most R most r) (E:c r.2=true):R=(r.1,aH T 15 r.2):=by
 obtain⟨A,G,m⟩:=h
 obtain⟨B,rfl⟩:∃B,A=B+1:=⟨A - 1,by omega⟩
 unfold rowP at m
 rw [if_pos E,if_pos rfl] at m
 exact m.symm
theorem nf.next {T:List Tok} {c:St->Bool} {sub:St->RT} {most k:Nat} {R r:RT} (h:nf T c sub most R k r) (E:c r.2=true) (G:k≠most) (I:r.2.i<T.length) (J:r.2.i<(sub r.2).2.i):nf T c sub most R (k+1) (r.1++(sub r.2).1,(sub r.2).2):=by
 obtain⟨B,H,A⟩:=h
 obtain⟨m,rfl⟩:∃m,B=m+1:=⟨B - 1,by omega⟩
 refine⟨m,by show T.length - (sub r.2).2.i+1<=m;omega,?_⟩
 unfold rowP at A
 rw [if_pos E,if_neg G] at A
 exact A
section
variable (b bb:Nat) (T:List Tok) (D n:Nat)
theorem FS (hC:dC T):cO b bb T D n (fun R=>isQ T [105,109,112,111,114,116] R=true) 48 (imT T):=by
 intro R ak vn ao w hP h
 have A:=zh hC
 have aX:=zh (ah hP)
 have L:Hid ([105,109,112,111,114,116]∈KS):=zh (by decide)
 have O:Hid ([59]∈KS):=zh (by decide)
 have dQ:=zh h.few
 have m:=zh (KX.start h)
 have I:=zh (cD.nil ak R)
 clear h hC hP
 go_enter Tryz.func48,Tryz.ntmps48
 go_wp2_with fail
 have H:=m
 have m:=zh m.drew
 go_region_held3 (fun w'=>w'.cell? ⟨b,0,none⟩=some (.pointer (some ⟨bb,0,none⟩))) (with_reducible first | exact m.out.cell | exact(m.out.alloc _).cell | exact(H.out.alloc _).drew.cell | exact((m.out.alloc _).alloc _).cell | exact((H.out.alloc _).alloc _).drew.cell | exact(((m.out.alloc _).alloc _).alloc _).cell)
  (first
   | (go_at_call 50;have lR:=zh (J.weak (j:=0+1) (by decide));refine(KX.node (k:=0) (kind:=2) (m.ints3 _ _ _ ) ?_ A.len lR.out ?_ dQ.out ?_).mono ?_;exact Yu ..;rfl;simp;rintro Z w9 ⟨v9,U,Y,rfl,B,E⟩;have m:=zh B;have HZ:=zh E;clear B E)
   | (go_at_call 51;(with_reducible first | refine(m.out.word A.out).mono ?_ | refine((m.out.strs1 _ _).word A.out).mono ?_ | refine((H.out.strs1 _ _).drew.word A.out).mono ?_ | refine(((m.out.strs1 _ _).strs1 _ _).word A.out).mono ?_ | refine(((H.out.strs1 _ _).strs1 _ _).drew.word A.out).mono ?_);rintro Z w9 ⟨v9,U,Y,rfl,B,E,G⟩;have m:=zh B;have J:=zh (aZ.app I.out E G);have I:=zh J.out.out;clear B E G)
   | (go_at_call 78;(with_reducible first | refine(KX.one1 [105,109,112,111,114,116] m.out A.out L.out ?_).mono ?_ | refine(KX.one1 [105,109,112,111,114,116] (m.out.strs1 _ _) A.out L.out ?_).mono ?_ | refine(KX.one1 [105,109,112,111,114,116] (H.out.strs1 _ _).drew A.out L.out ?_).mono ?_ | refine(KX.one1 [105,109,112,111,114,116] ((m.out.strs1 _ _).strs1 _ _) A.out L.out ?_).mono ?_ | refine(KX.one1 [105,109,112,111,114,116] ((H.out.strs1 _ _).strs1 _ _).drew A.out L.out ?_).mono ?_);(first | (refine⟨_,?_,Yu ..⟩;focus (simp;done)) | (refine⟨_,?_,Q1 _ (Yu ..)⟩;focus (simp;done)) | (refine⟨_,?_,Q1 _ (Q1 _ (Yu ..))⟩;focus (simp;done)));rintro Z w9 ⟨v9,U,Y,rfl,B,E,G⟩;have m:=zh B;have J:=zh (aZ.app I.out E G);have I:=zh J.out.out;clear B E G)
   | (go_at_call 78;(with_reducible first | refine(KX.one1 [59] m.out A.out O.out ?_).mono ?_ | refine(KX.one1 [59] (m.out.strs1 _ _) A.out O.out ?_).mono ?_ | refine(KX.one1 [59] (H.out.strs1 _ _).drew A.out O.out ?_).mono ?_ | refine(KX.one1 [59] ((m.out.strs1 _ _).strs1 _ _) A.out O.out ?_).mono ?_ | refine(KX.one1 [59] ((H.out.strs1 _ _).strs1 _ _).drew A.out O.out ?_).mono ?_);(first | (refine⟨_,?_,Yu ..⟩;focus (simp;done)) | (refine⟨_,?_,Q1 _ (Yu ..)⟩;focus (simp;done)) | (refine⟨_,?_,Q1 _ (Q1 _ (Yu ..))⟩;focus (simp;done)));rintro Z w9 ⟨v9,U,Y,rfl,B,E,G⟩;have m:=zh B;have J:=zh (aZ.app I.out E G);have I:=zh J.out.out;clear B E G))
 all_goals
  have HQ:=zh (KX.fin HZ m (fun he=>absurd aX.2 he) (r':=imT T R) (Eqv.refl _))
  go_wp2_with fail
  go_ret
  exact HQ
theorem BE (hC:dC T) (P:St->Prop) (sub:St->RT) (most:Nat) (ax:most<=100) (hS:cO b bb T D n P 48 sub) (hI:∀s,s.inn=false->(sub s).2.inn=false) (ws:List (List UInt8)) (hn:ws.length<=100) (hP:∀s,s.inn=false->atQ T ws s=true->P s) (hl:∀s,atQ T ws s=true->s.i<(sub s).2.i) {A0:Nat->Prop} {bt:Value} {w0 w:World} {s:St} {N:List Nd} {vn v:Value} {L:List (Value×Th)} (hk:KX b bb T D n A0 bt w0 w s s.i N vn L) (hm:(v,Th.strs ws)∈L) (hi:s.inn=false):
  Calls Tryz.prog 47 #[.pointer (some ⟨b,0,none⟩),.int .i64 (most:Int),.func (.func 48) #[] #[],v] w fun Y w'=>lV b bb T D n 0 A0 bt w0 s (rowP T (atQ T ws) sub most (bG T s) 0 ([],s)) N L Y w'/\(rowP T (atQ T ws) sub most (bG T s) 0 ([],s)).2.inn=false:=by
 have aJ:=zh hC;have HS:=zh hS;have HI:=zh hI;have HM:=zh hm;have M8:=zh hn;have uF:=zh hP;have fc:=zh hl;have Vl:=zh ax
 have A:=zh hk
 have E:=zh hi
 obtain⟨ap,hR⟩:=zx (rowP T (atQ T ws) sub most (bG T s) 0 ([],s))
 have ku:Hid (nf T (atQ T ws) sub most ap 0 ([],s)):=zh ⟨_,Nat.le_refl _,hR⟩
 rw [hR]
 clear hC hS hI hm hn hP hl hk hi hR
 go_enter Tryz.func47,Tryz.ntmps47
 go_wp2_with fail
 go_loopw [9] (fun kv wr=>∃(B:Nat) (m:RT) (Z:List Nd) (cC:Value) (H:List Int) (ao:Option Addr) (ak:Nat),kv=.slice ao B ak/\Hid (H.length=B)/\Hid (B<=most)/\Hid (KX b bb T D n A0 bt w0 wr m.2 m.2.i Z cC ((.slice ao B ak,.ints H)::L))/\Hid (cD 0 N s m Z H)/\Hid (nf T (atQ T ws) sub most ap B m)/\Hid (s.e≠0->m.2.e≠0)/\Hid (m.2.inn=false)) (fun _ wr=>T.length - uOf wr bb)
 case atStart=>exact⟨0,([],s),N,vn,[],none,0,rfl,zh rfl,zh (zero_le _),zh A.nilS,zh (cD.nil N s),ku,zh (fun h=>h),E⟩
 case round=>
  clear A ku E
  obtain⟨B,m,Z,cC,H,ao,ak,rfl,lF,RO,A,G,HL,O,E⟩:=hrel
  have Dk:Hid (KX b bb T D n A0 bt w0 wr m.2 m.2.i Z cC ((.slice ao B ak,.ints H)::L)):=A
  go_wp2_with fail
  refine(KX.at A (Q1 _ HM) M8).mono ?_
  rintro Y w2 ⟨rfl,hk⟩
  have A:=zh hk
  obtain⟨av,ha⟩:=zx (atQ T ws m.2)
  rw [ha]
  have U:=zh ha
  clear hk ha
  cases av
  ·have HE:=zh (HL.stop U)
   go_wp2_with fail
   go_ret
   rw [HE.out]
   exact⟨⟨_,H,Z,cC,rfl,A,G,O,by have:=lF.out;have:=RO.out;have:=Vl.out;omega⟩,E⟩
  ·by_cases I:B=most
   ·have d1:((B:Int) == (most:Int))=true:=by rw [I];simp
    have ml:(B == most)=true:=by rw [I];simp
    have HE:Hid (ap=(m.1,aH T 15 m.2)):=zh (by have h9:=HL.out;rw [I] at h9;exact h9.full U)
    clear I
    go_wp2_with fail
    refine(A.fail 15 (by decide)).mono ?_
    rintro Y w3 ⟨v9,N9,dj,rfl,aq,au,J⟩
    have A:=zh aq;have G:=zh (G.app au.out J);have O:=zh (fun h=>J (O h))
    clear aq au J
    go_wp2_with fail
    go_ret
    rw [HE.out]
    exact⟨⟨_,H,N9,dj,rfl,A,⟨fun Y=>absurd Y (df T (by decide) _),G.2⟩,O,by have:=lF.out;have:=RO.out;have:=Vl.out;omega⟩,(eS T 15 m.2 m.1).inn.trans E⟩
   ·have d1:=yi (B:Int) (most:Int)
    have ml:(B == most)=false:=xz.2 I
    have cu:=zh (HL.next U I A.ok (fc _ U))
    have TN:Hid (B+1<=most):=zh (by have:=RO.out;omega)
    clear I
    go_wp2_with fail
    refine(A.sub HS (uF _ E U)).mono ?_
    rintro Y w3 ⟨v9,N9,dj,rfl,aq,au,J⟩
    have A:=zh aq;have G:=zh (G.app au.out J);have O:=zh (fun h=>J (O h));have E:=zh (HI _ E)
    obtain⟨l9,el⟩:=zx (H++[v9])
    have S2:=zh el
    have Bf:Hid (l9.length=B+1):=zh (by rw [<-el,Q2,lF.out];rfl)
    rw [el] at G
    clear aq au J el
    go_wp2_with (at_builtin;go_loud (refine bD rfl _ _ rfl (A.ints1 v9) (vi _ _) rfl rfl (l2:=[v9]) rfl (qh _ _) (by have:=lF.out;have:=RO.out;have:=Vl.out;omega) (by simp) ?_))
    intro ay w4 R
    rw [S2.out] at R
    obtain⟨p2,c2,rfl,-,-,-⟩:=R.list (Yu ..)
    rw [Bf.out] at R ⊢
    have A:=zh R
    have M0:Hid (T.length - uOf w4 bb<T.length - uOf wr bb):=zh (by rw [R.used,Dk.used];have h5:=fc _ U.out;have h6:=Dk.ok;have h7:=R.ok;omega)
    clear R
    go_wp2_with fail
    go_roundw
    case rel=>exact⟨B+1,(m.1++(sub m.2).1,(sub m.2).2),N9,dj,l9,p2,c2,rfl,Bf,TN,A,zh G.out,cu,O,E⟩
    case measure=>exact M0
theorem wd (hC:dC T) (P:St->Prop) (sub:St->RT) (most:Nat) (ax:most<=100) (hS:cO b bb T D n P 49 sub) (hI:∀s,s.inn=false->(sub s).2.inn=false) (ws:List (List UInt8)) (hn:ws.length<=100) (hP:∀s,s.inn=false->atQ T ws s=true->P s) (hl:∀s,atQ T ws s=true->s.i<(sub s).2.i) {A0:Nat->Prop} {bt:Value} {w0 w:World} {s:St} {N:List Nd} {vn v:Value} {L:List (Value×Th)} (hk:KX b bb T D n A0 bt w0 w s s.i N vn L) (hm:(v,Th.strs ws)∈L) (hi:s.inn=false):
  Calls Tryz.prog 47 #[.pointer (some ⟨b,0,none⟩),.int .i64 (most:Int),.func (.func 49) #[] #[],v] w fun Y w'=>lV b bb T D n 0 A0 bt w0 s (rowP T (atQ T ws) sub most (bG T s) 0 ([],s)) N L Y w'/\(rowP T (atQ T ws) sub most (bG T s) 0 ([],s)).2.inn=false:=by
 have aJ:=zh hC;have HS:=zh hS;have HI:=zh hI;have HM:=zh hm;have M8:=zh hn;have uF:=zh hP;have fc:=zh hl;have Vl:=zh ax
 have A:=zh hk
 have E:=zh hi
 obtain⟨ap,hR⟩:=zx (rowP T (atQ T ws) sub most (bG T s) 0 ([],s))
 have ku:Hid (nf T (atQ T ws) sub most ap 0 ([],s)):=zh ⟨_,Nat.le_refl _,hR⟩
 rw [hR]
 clear hC hS hI hm hn hP hl hk hi hR
 go_enter Tryz.func47,Tryz.ntmps47
 go_wp2_with fail
 go_loopw [9] (fun kv wr=>∃(B:Nat) (m:RT) (Z:List Nd) (cC:Value) (H:List Int) (ao:Option Addr) (ak:Nat),kv=.slice ao B ak/\Hid (H.length=B)/\Hid (B<=most)/\Hid (KX b bb T D n A0 bt w0 wr m.2 m.2.i Z cC ((.slice ao B ak,.ints H)::L))/\Hid (cD 0 N s m Z H)/\Hid (nf T (atQ T ws) sub most ap B m)/\Hid (s.e≠0->m.2.e≠0)/\Hid (m.2.inn=false)) (fun _ wr=>T.length - uOf wr bb)
 case atStart=>exact⟨0,([],s),N,vn,[],none,0,rfl,zh rfl,zh (zero_le _),zh A.nilS,zh (cD.nil N s),ku,zh (fun h=>h),E⟩
 case round=>
  clear A ku E
  obtain⟨B,m,Z,cC,H,ao,ak,rfl,lF,RO,A,G,HL,O,E⟩:=hrel
  have Dk:Hid (KX b bb T D n A0 bt w0 wr m.2 m.2.i Z cC ((.slice ao B ak,.ints H)::L)):=A
  go_wp2_with fail
  refine(KX.at A (Q1 _ HM) M8).mono ?_
  rintro Y w2 ⟨rfl,hk⟩
  have A:=zh hk
  obtain⟨av,ha⟩:=zx (atQ T ws m.2)
  rw [ha]
  have U:=zh ha
  clear hk ha
  cases av
  ·have HE:=zh (HL.stop U)
   go_wp2_with fail
   go_ret
   rw [HE.out]
   exact⟨⟨_,H,Z,cC,rfl,A,G,O,by have:=lF.out;have:=RO.out;have:=Vl.out;omega⟩,E⟩
  ·by_cases I:B=most
   ·have d1:((B:Int) == (most:Int))=true:=by rw [I];simp
    have ml:(B == most)=true:=by rw [I];simp
    have HE:Hid (ap=(m.1,aH T 15 m.2)):=zh (by have h9:=HL.out;rw [I] at h9;exact h9.full U)
    clear I
    go_wp2_with fail
    refine(A.fail 15 (by decide)).mono ?_
    rintro Y w3 ⟨v9,N9,dj,rfl,aq,au,J⟩
    have A:=zh aq;have G:=zh (G.app au.out J);have O:=zh (fun h=>J (O h))
    clear aq au J
    go_wp2_with fail
    go_ret
    rw [HE.out]
    exact⟨⟨_,H,N9,dj,rfl,A,⟨fun Y=>absurd Y (df T (by decide) _),G.2⟩,O,by have:=lF.out;have:=RO.out;have:=Vl.out;omega⟩,(eS T 15 m.2 m.1).inn.trans E⟩
   ·have d1:=yi (B:Int) (most:Int)
    have ml:(B == most)=false:=xz.2 I
    have cu:=zh (HL.next U I A.ok (fc _ U))
    have TN:Hid (B+1<=most):=zh (by have:=RO.out;omega)
    clear I
    go_wp2_with fail
    refine(A.sub HS (uF _ E U)).mono ?_
    rintro Y w3 ⟨v9,N9,dj,rfl,aq,au,J⟩
    have A:=zh aq;have G:=zh (G.app au.out J);have O:=zh (fun h=>J (O h));have E:=zh (HI _ E)
    obtain⟨l9,el⟩:=zx (H++[v9])
    have S2:=zh el
    have Bf:Hid (l9.length=B+1):=zh (by rw [<-el,Q2,lF.out];rfl)
    rw [el] at G
    clear aq au J el
    go_wp2_with (at_builtin;go_loud (refine bD rfl _ _ rfl (A.ints1 v9) (vi _ _) rfl rfl (l2:=[v9]) rfl (qh _ _) (by have:=lF.out;have:=RO.out;have:=Vl.out;omega) (by simp) ?_))
    intro ay w4 R
    rw [S2.out] at R
    obtain⟨p2,c2,rfl,-,-,-⟩:=R.list (Yu ..)
    rw [Bf.out] at R ⊢
    have A:=zh R
    have M0:Hid (T.length - uOf w4 bb<T.length - uOf wr bb):=zh (by rw [R.used,Dk.used];have h5:=fc _ U.out;have h6:=Dk.ok;have h7:=R.ok;omega)
    clear R
    go_wp2_with fail
    go_roundw
    case rel=>exact⟨B+1,(m.1++(sub m.2).1,(sub m.2).2),N9,dj,l9,p2,c2,rfl,Bf,TN,A,zh G.out,cu,O,E⟩
    case measure=>exact M0
end
end Go.Proofs.YtpkipghjohomcaaGreatDoor
