/- Lemmas. -/
import Derived.Test.YtpkipghjohomcaaGreatDoorP31
set_option linter.unusedVariables false
set_option linter.unusedSimpArgs false
set_option maxHeartbeats 16000000
set_option maxRecDepth 100000
namespace Go.Proofs.YtpkipghjohomcaaGreatDoor
open Go.RowKit List
theorem yx (T:List fN) (N:List Nd) (K:Kf) (s:ByteArray) (hs:s.size<=25000) (hw:cZ T=s.data.toList) (hT:T.length<=100000) (hN:N.length<=150000) (hk:∀(i:Nat) (x:Nd),N[i]? = some x->x.kids.length<=150000) (pt pn:Option Addr) (ct cn:Nat) (w:World) (gP:fJ w) (ht:bl w pt T) (hn:al w pn N K):
  Calls Tryz.prog 23 #[.agg #[.slice pt T.length ct,.slice pn N.length cn],.func (.func 5) #[] #[]] w (nB T N s.data.toList false w):=by
 have Dz:s.data.toList.length=s.size:=aQ s
 have HP:=zh (fun W h=>GV s 200 W hs h)
 have qm:=zh (fun (W:World) h=>H8 T pt pn ct N.length cn W (by omega) (by rw [hw];omega) h)
 rw [hw] at qm
 have K0:=zh hw
 have PR:Hid (s.data.toList=s.data.toList):=zh rfl
 obtain⟨l,hl⟩:=zx s.data.toList
 rw [hl] at HP qm Dz ⊢
 have fc:=zh hl
 have HT:=zh ht;have HN:=zh hn;have iF:=zh gP;have nQ:=zh hT;have xx:=zh hN;have HK:=zh hk;have ZT:=zh Dz;have mR:=zh hs
 clear ht hn gP hN hs Dz hl hw hk hT
 obtain⟨aL,hm⟩:=zx T.length
 obtain⟨av,hM⟩:=zx N.length
 have Hm:=zh hm;have HM:=zh hM
 rw [hm,hM] at qm ⊢
 clear hm hM
 go_enter Tryz.func23,Tryz.ntmps23
 go_wp2_with fail
 obtain⟨W,b0,m,hW,e0,e1,cS,dq,dp,lu⟩:=two w (.cells #[.slice pt aL ct,.slice pn av cn] 26) (.cells #[.slice none 0 0,.slice none 0 0] 82)
 have bB:=zh cS;have bS:=zh dq;have bm:=zh dp;have gj:=zh e0
 clear cS dq dp
 try rw [<-hW]
 try rw [e1]
 try rw [e0]
 clear e0 e1 hW
 refine(qm _ (HT.kept bm)).mono ?_
 rintro A w1 ⟨⟨ak,rfl,Z⟩,cJ⟩
 have kw:ak=s:=ByteArray.ext (Array.toList_inj.1 (Z.trans fc.symm))
 subst kw
 have fu:=zh (aa bm cJ)
 have xJ:=zh (bx cJ bB);have lJ:=zh (bx cJ bS)
 clear cJ Z qm
 go_wp2_with fail
 refine(HP _ (iF.kept fu)).mono ?_
 rintro A w2 ⟨R,he⟩
 by_cases J:(eE l 200 false).2.1≠0
 ·rw [if_pos J] at he
  subst he
  have yG:Hid (¬gK T N l false):=zh (fun h=>J h.1)
  unfold fT
  obtain⟨ao,hE⟩:=zx (eE l 200 false).2.1
  obtain⟨ax,hP⟩:=zx (eE l 200 false).2.2
  rw [hE] at J
  rw [hE,hP]
  have e1:((ao:Int) != 0)=true:=bne_iff_ne.2 (by omega)
  have uw:(ao != 0)=true:=bne_iff_ne.2 J
  have e2:=yi (ao:Int) 0
  have Fn:(ao == 0)=false:=xz.2 J
  have bF:=zh (aa fu R)
  have gH:=zh (bx R lJ)
  clear R hE hP J HP
  obtain⟨c0,c1,c2⟩:=ac gH
  have eg:m<w2.heap.size:=hlt gH
  go_wp2_with fail
  have L:Fr2 (dm m) w2 ((w2.setCell ⟨m,0,none⟩ (.slice none 0 0)).setCell ⟨m,1,none⟩ (.slice none 0 0)):=((Fr2.refl _ _).setCell (aK m) _).setCell (aK m) _
  have rT:=Fr2.after bF L (fun aq hj=>by have A:aq=m:=hj;have:=gj.out;omega)
  have hc:=ab (i:=1) (u:=.slice none 0 0) (ab (i:=0) (u:=.slice none 0 0) gH)
  have tA:=bx (af (af (ad _ none) (.cells #[.slice none 0 0,.slice none 0 0] 26)) (.cells #[.int .i64 (ao:Int),.int .i64 (ax:Int)] 29)) (show((w2.setCell ⟨m,0,none⟩ (.slice none 0 0)).setCell ⟨m,1,none⟩ (.slice none 0 0)).heap[m]? = some (Obj.cells #[.slice none 0 0,.slice none 0 0] 82) from hc)
  obtain⟨k0,k1,-⟩:=ac tA
  refine bodyPost_ret (v:=.tuple #[.agg #[.slice none 0 0,.slice none 0 0],.int .i64 10]) (by simp [results,Tryz.results23,go_sem,k0,k1]) rfl (show nB T N l false w _ _ from⟨af (af rT _) _,.inr ⟨yG,rfl⟩⟩)
 ·rw [if_neg J] at he
  obtain⟨G,H,B,I,K',rfl,dK,-,lL,mL,pR,qo,BL⟩:=he
  have eM:(eE l 200 false).2.1=0:=by omega
  have hR:=pZ (l:=l) (by have:=ZT.out;have:=mR.out;omega) eM
  have dS:=jG hR.lex
  have qk:=zh eM;have mz:=zh BL
  have YV:(ai l).1.length<=30000:=by have:=ZT.out;have:=mR.out;omega
  have z7:=zh (fun (G B:Option Addr) (H I:Nat) (K':Kf) W h1 h2 h3 h4=>tR T ((ai l).1.map toI) N (aw l 200 false) K K' (by have:=nQ.out;omega) (by rw [length_map];omega) xx (by omega) HK (m8 (by omega)) pt G pn B ct H cn I W h1 h2 h3 h4)
  rw [length_map] at z7
  obtain⟨ap,hL⟩:=zx (ai l).1
  obtain⟨O,hQ⟩:=zx (aw l 200 false)
  have rg:Hid (gK T N l false↔T=ap.map toI/\N=O):=zh ⟨fun h=>by rw [<-hL,<-hQ];exact⟨h.2.1,h.2.2⟩,fun h=>⟨qk,by rw [hL];exact h.1,by rw [hQ];exact h.2⟩⟩
  have PT:Hid (∀A w',w.grownBy w' none/\((gK T N l false/\∃pt ct pn cn K,A=.returned (.tuple #[.agg #[.slice pt ap.length ct,.slice pn O.length cn],.int .i64 0])/\TAt w' pt ap/\al w' pn O K/\O.length<=2*ap.length/\Am O K (fun aJ=>w.heap.size<=aJ))\/(¬gK T N l false/\A=.returned (.tuple #[.agg #[.slice none 0 0,.slice none 0 0],.int .i64 10])))->nB T N l false w A w'):=zh (fun A w' h=>by unfold nB;rw [hL,hQ];exact h)
  rw [hL] at z7 mz dK mL ⊢
  rw [hQ] at z7 mz lL pR qo ⊢
  have xX:=zh mL;have lr:=zh pR;have oM:=zh qo
  have rN:=zh dK;have xF:=zh lL
  clear hR eM J hL hQ dS YV dK lL mL pR qo BL
  obtain⟨m',uo⟩:=zx ap.length
  obtain⟨M',Wo⟩:=zx O.length
  have au:=zh uo;have F5:=zh Wo
  have qg:Hid (m<w1.heap.size):=zh (hlt lJ)
  rw [uo,Wo] at z7 ⊢
  rw [Hm.out,HM.out] at z7
  have bF:=zh (aa fu R)
  have pD:=zh (bx R xJ);have gH:=zh (bx R lJ)
  clear R HP xJ lJ bB bS uo Wo
  obtain⟨a0,a1,a2⟩:=ac pD
  have dZ:b0<w2.heap.size:=hlt pD
  go_wp2_with fail
  obtain⟨W3,b2,b3,xj,e2,e3,ec,yJ,j7,JZ⟩:=two w2 (.cells #[.slice G m' H,.slice B M' I] 26) (.cells #[.int .i64 0,.int .i64 0] 29)
  have bP:=zh ec;have ie:=zh yJ;have mq:=zh j7
  have Su:m<b2:=by have:=hlt gH.out;omega
  clear ec yJ j7
  try rw [<-xj]
  try rw [e3]
  try rw [e2]
  clear e2 e3 xj
  have gA:=zh (aa bF mq)
  refine(z7 G B H I K' _ (HT.kept gA) (qD (rN.kept mq)) (HN.kept gA) (xF.kept mq)).mono ?_
  rintro A w4 ⟨lO,ay,rfl,hb⟩
  have dP:=zh hb
  have ir:=zh (aa gA lO)
  have ns:=aa mq lO
  have XF:=zh (rN.kept ns);have OR:=zh (xF.kept ns)
  have sN:=zh (bx ns gH)
  obtain⟨c0,c1,c2⟩:=ac (bx lO bP)
  obtain⟨d0,d1,d2⟩:=ac sN
  have aO:m<w4.heap.size:=hlt sN
  clear lO ns z7 hb
  cases ay
  ·have yG:Hid (¬gK T N l false):=zh (fun h=>by have:=dP.2 (rg.1 h);cases this)
   go_wp2_with fail
   have L:Fr2 (dm m) w4 ((w4.setCell ⟨m,0,none⟩ (.slice none 0 0)).setCell ⟨m,1,none⟩ (.slice none 0 0)):=((Fr2.refl _ _).setCell (aK m) _).setCell (aK m) _
   have rT:=Fr2.after ir L (fun aq hj=>by have A:aq=m:=hj;have:=gj.out;omega)
   have hc:=ab (i:=1) (u:=.slice none 0 0) (ab (i:=0) (u:=.slice none 0 0) sN)
   obtain⟨k0,k1,-⟩:=ac (show((w4.setCell ⟨m,0,none⟩ (.slice none 0 0)).setCell ⟨m,1,none⟩ (.slice none 0 0)).heap[m]? = some (Obj.cells #[.slice none 0 0,.slice none 0 0] 82 (0,0)) from hc)
   refine bodyPost_ret (v:=.tuple #[.agg #[.slice none 0 0,.slice none 0 0],.int .i64 10]) (by simp [results,Tryz.results23,go_sem,k0,k1]) rfl (PT _ _ ⟨rT,.inr ⟨yG,rfl⟩⟩)
  ·go_wp2_with fail
   have L:Fr2 (dm m) w4 ((w4.setCell ⟨m,0,none⟩ (.slice G m' H)).setCell ⟨m,1,none⟩ (.slice B M' I)):=((Fr2.refl _ _).setCell (aK m) _).setCell (aK m) _
   have rT:=Fr2.after ir L (fun aq hj=>by have A:aq=m:=hj;have:=gj.out;omega)
   have hc:=ab (i:=1) (u:=.slice B M' I) (ab (i:=0) (u:=.slice G m' H) sN)
   obtain⟨k0,k1,-⟩:=ac (show((w4.setCell ⟨m,0,none⟩ (.slice G m' H)).setCell ⟨m,1,none⟩ (.slice B M' I)).heap[m]? = some (Obj.cells #[.slice G m' H,.slice B M' I] 82 (0,0)) from hc)
   have VB:=XF.keptF L (fun U E Y A=>by have A:E.block=m:=A;have h1:=xX U E Y;have h2:=qg.out;omega)
   have Yr:al _ B O K':=⟨GAt.keptB OR.1 L (fun U E Y A=>by have A:E.block=m:=A;have h1:=lr (fun h=>U (by rw [h];rfl)) E Y;have h2:=qg.out;omega),fun i ak Z=>(OR.2 i ak Z).keptF L (fun U E Y A=>by have A:E.block=m:=A;have h1:=oM i ak Z (ez U) E Y;have h2:=qg.out;omega)⟩
   refine bodyPost_ret (v:=.tuple #[.agg #[.slice G m' H,.slice B M' I],.int .i64 0]) (by simp [results,Tryz.results23,go_sem,k0,k1]) rfl (PT _ _ ⟨rT,.inl ⟨rg.2 (dP.1 (by simp)),G,H,B,I,K',by rw [au.out,F5.out],VB,Yr,mz,fun i ak Z U E Y=>Nat.le_trans fu.size (oM i ak Z U E Y)⟩⟩)
open Go.RowKit Go.World
theorem Ff {E:World} {B A j:Nat} {v a b c d e f g h:Value} (G:E.cell? ⟨A,j,none⟩=some v) (m:B≠A):((((((((E.setCell ⟨B,0,none⟩ a).setCell ⟨B,1,none⟩ b).setCell ⟨B,2,none⟩ c).setCell ⟨B,3,none⟩ d).setCell ⟨B,4,none⟩ e).setCell ⟨B,5,none⟩ f).setCell ⟨B,6,none⟩ g).setCell ⟨B,7,none⟩ h).cell? ⟨A,j,none⟩=some v:=by
 rw [vr _ _ _ _ m,vr _ _ _ _ m,vr _ _ _ _ m,vr _ _ _ _ m,vr _ _ _ _ m,vr _ _ _ _ m,vr _ _ _ _ m,vr _ _ _ _ m]
 exact G
def kL (T:List fN) (N:List Nd) (l:List UInt8) (w:World) (e:Ending) (A:World):Prop:=
 w.grownBy A none/\((gK T N l true/\∃m,e=.returned (.tuple #[.agg m.toArray,.int .i64 0])/\EAt (fun B=>w.heap.size<=B) A (oU l 200) m)\/(¬gK T N l true/\e=.returned (.tuple #[.agg #[.int .i64 0,.string ⟨#[]⟩,.string ⟨#[]⟩,.bool false,.slice none 0 0,.bool false,.slice none 0 0,.int .i64 0],.int .i64 10])))
theorem xV (T:List fN) (N:List Nd) (K:Kf) (s:ByteArray) (hs:s.size<=25000) (hw:cZ T=s.data.toList) (hT:T.length<=100000) (hN:N.length<=150000) (hk:∀(i:Nat) (x:Nd),N[i]? = some x->x.kids.length<=150000) (pt pn:Option Addr) (ct cn:Nat) (w:World) (gP:fJ w) (eh:gF w) (ht:bl w pt T) (hn:al w pn N K):
  Calls Tryz.prog 18 #[.agg #[.slice pt T.length ct,.slice pn N.length cn]] w (kL T N s.data.toList w):=by
 have Dz:s.data.toList.length=s.size:=aQ s
 have Te:=zh (fun W A B h3=>yc T N K s hs hw hT hN hk pt pn ct cn W A B h3)
 obtain⟨l,hl⟩:=zx s.data.toList
 rw [hl] at Te Dz ⊢
 have PR:Hid (l.length<=25000):=zh (by omega)
 have HT:=zh ht;have HN:=zh hn;have iF:=zh gP;have fc:=zh eh
 clear ht hn gP eh hN hs Dz hl hw hk hT
 obtain⟨a8,hm⟩:=zx T.length
 obtain⟨a3,U⟩:=zx N.length
 rw [hm,U] at Te ⊢
 clear hm U
 go_enter Tryz.func18,Tryz.ntmps18
 go_wp2_with fail
 obtain⟨W,b0,H,hW,e0,e1,cS,dq,dp,lu⟩:=two w (.cells #[.slice pt a8 ct,.slice pn a3 cn] 26) (.cells #[.int .i64 0,.string ⟨#[]⟩,.string ⟨#[]⟩,.bool false,.slice none 0 0,.bool false,.slice none 0 0,.int .i64 0] 60)
 have bS:=zh dq;have bm:=zh dp;have gj:=zh e0
 clear cS dq dp
 try rw [<-hW]
 try rw [e1]
 try rw [e0]
 clear e0 e1 hW
 refine(Te _ (iF.kept bm) (HT.kept bm) (HN.kept bm)).mono ?_
 rintro m w1 ⟨cJ,he⟩
 have fu:=zh (aa bm cJ)
 have lJ:=zh (bx cJ bS)
 clear cJ Te HT HN
 rcases he with ⟨fe,kC,kX,Y,lh,K',rfl,dK,lL,BL,Sa⟩ | ⟨iS,rfl⟩
 ·have rg:=zh fe
  have hR:=pZ (l:=l) (by have:=PR.out;omega) fe.1
  have dS:=jG hR.lex
  obtain⟨aX,ks,k0,L,oh,CB,B1,fG⟩:=Jg hR
  have a6:=PR.out
  have Zl:=zh Sa
  have a4:Hid (H<W.heap.size):=zh (hlt bS)
  clear Sa
  have rN:=zh dK;have xF:=zh lL
  have PT:Hid (∀aq O,w.grownBy O none->EAt (fun ap=>w.heap.size<=ap) O (axT (ai l).1 aX) aq->kL T N l w (.returned (.tuple #[.agg aq.toArray,.int .i64 0])) O):=zh (fun aq O A B=>⟨A,.inl ⟨rg,aq,rfl,by rw [<-B1];exact B⟩⟩)
  obtain⟨T',Y3⟩:=zx (ai l).1
  obtain⟨G,P7⟩:=zx (aw l 200 true)
  rw [Y3] at rN dS CB BL PT ⊢
  rw [P7] at xF L CB BL fG Zl ⊢
  have uu:=zh (fun (pt pn:Option Addr) (ct cn:Nat) (K:Kf) W A B h3=>E9 (T:=T') (N:=G) (K:=K) (by omega) (by omega) pt pn ct cn G.length aX (k0:Int) W (by omega) fG CB A B h3)
  have R:=zh (fun (pt pn:Option Addr) (mt ct cn:Nat) (K:Kf) W h=>sJ (K:=K) (by omega) L pt pn mt ct cn W h)
  have Kg:=zh (fun (pt pn:Option Addr) (mt ct cn:Nat) W=>OJ pt pn mt ct G.length cn (by have:=(Q4.1 L).1;omega) (by omega) W)
  have Cz:Hid (∀(pn:Option Addr) (K:Kf) W,al W pn G K->VAt W (K (G.length - 1)).1 (ar ks)):=zh (fun pn K W h=>h.2 _ _ L)
  have zU:=zh oh;have HX:=zh L
  have KH:Hid (∀(au:Addr),(K' (G.length - 1)).1=some au->W.heap.size<=au.block):=zh (fun au ha=>Zl _ _ L (fun m=>by have m:ks = []:=m;rw [m] at oh;simp at oh) au ha)
  have dU:ks.length<=150000:=by
   have:=m8 (l:=l) (D:=200) (f:=true) (by rw [P7];omega) _ _ (by rw [P7];exact L)
   exact this
  have aO:0<ks.length:=(Q4.1 oh).1
  clear dK lL hR dS BL L CB fG oh Y3 P7 B1 fe a6
  obtain⟨m',hm⟩:=zx T'.length
  obtain⟨I,U⟩:=zx G.length
  obtain⟨ak,hL⟩:=zx ks.length
  rw [hm,U] at uu ⊢
  rw [U] at R Kg
  have R:Hid (∀(pt pn:Option Addr) (mt ct cn:Nat) (K:Kf) (W:World),al W pn G K->Calls Tryz.prog 37 #[.agg #[.slice pt mt ct,.slice pn I cn],.int .i64 ((I - 1:Nat):Int)] W (bp (.slice (K (I - 1)).1 ak (K (I - 1)).2) W)):=zh (by rw [<-hL];exact R)
  rw [U] at Cz KH
  rw [hL] at dU aO
  obtain⟨ay,aL⟩:=zx (I - 1)
  rw [aL] at R Cz Kg KH
  clear hm U hL aL HX
  have z0:decide (0<ak)=true:=zd aO
  have z1:(0:Int)<(ak:Int):=by omega
  have z2:decide ((0:Int)<(ak:Int))=true:=zd z1
  go_wp2_with fail
  obtain⟨W3,b2,xj,e2,ec,j7⟩:=vw w1 (.cells #[.slice kC m' kX,.slice Y I lh] 82)
  have bP:=zh ec
  have Su:H<b2:=by have:=hlt lJ.out;omega
  have gA:=zh (aa fu j7)
  have MR:=zh (bx j7 lJ)
  have RM:=zh (rN.kept j7);have av:=zh (xF.kept j7);have KL:=zh (fc.kept gA)
  have aJ:=zh (Cz _ _ _ av)
  obtain⟨ao,ax,BO,bN,ck⟩:=bO aJ zU
  have Bg:H≠ao:=by have A:W.heap.size<=ao:=KH _ BO;have B:=a4.out;omega
  have R:Hid (∀(W:World),al W Y G K'->Calls Tryz.prog 37 #[.agg #[.slice kC m' kX,.slice Y I lh],.int .i64 (ay:Int)] W (bp (.slice (some ⟨ao,ax,none⟩) ak (K' ay).2) W)):=zh (by rw [<-BO];exact fun W h=>R kC Y m' kX lh K' W h)
  have RY:=zh ck
  have Hz:=zh bN
  rw [Nat.add_zero] at ck
  clear ec j7 BO
  try rw [<-xj]
  try rw [e2]
  clear e2 xj
  obtain⟨a0,a1,a2⟩:=ac bP
  have VF:b2<W3.heap.size:=hlt bP
  have bd:H<W3.heap.size:=hlt MR
  have Kg:=zh (fun W=>Kg kC Y m' kX lh W)
  have uu:=zh (fun W A B h3=>uu kC Y kX lh K' W A B h3)
  have Z:=zh bP.out
  clear bP aJ Cz
  go_wp2_with fail
  have UG:H≠b2:=by omega
  have J:W3.cell? ⟨ao,ax,none⟩=some (.int .i64 (k0:Int)):=ck
  go_region_held3 (fun O=>O.cell? ⟨b2,0,none⟩=some (.slice kC m' kX)/\O.cell? ⟨b2,1,none⟩=some (.slice Y I lh)/\O.cell? ⟨ao,ax,none⟩=some (.int .i64 (k0:Int)))
   (first | with_reducible exact⟨a0,a1,J⟩ | with_reducible exact⟨Ff a0 UG,Ff a1 UG,Ff J Bg⟩ | go_keep)
   (first
    | (go_at_call 38;refine(Kg.out _).mono ?_;rintro m w4 ⟨rfl,lO⟩;have ir:=zh (aa (show W3.grownBy _ none from(by repeat (with_reducible first | exact ad _ _ | refine aC ?_))) lO);obtain⟨a0,a1,a2⟩:=ac (bx ir.out Z.out);have J:=ir.out.cell RY.out (by simp);rw [Nat.add_zero] at J;have a9:=zn Hz.out ir.out.size;have VF:=hlt (bx ir.out Z.out);clear lO)
    | (go_at_call 37;refine(R.out _ (av.out.kept (aa ir.out (by repeat (with_reducible first | exact ad _ _ | refine aC ?_))))).mono ?_;rintro m w5 ⟨rfl,dw⟩;have E:=zh (aa (aa ir.out (show w4.grownBy _ none from(by repeat (with_reducible first | exact ad _ _ | refine aC ?_)))) dw);obtain⟨a0,a1,a2⟩:=ac (bx E.out Z.out);have J:=E.out.cell RY.out (by simp);rw [Nat.add_zero] at J;have bi:=zn Hz.out E.out.size;have VF:=hlt (bx E.out Z.out);clear dw)
    | (go_at_call 36;refine(uu.out _ (RM.out.kept (aa E.out (by repeat (with_reducible first | exact ad _ _ | refine aC ?_)))) (av.out.kept (aa E.out (by repeat (with_reducible first | exact ad _ _ | refine aC ?_)))) (KL.out.kept (aa E.out (by repeat (with_reducible first | exact ad _ _ | refine aC ?_))))).mono ?_;rintro m w6 ⟨ej,aq,rfl,hq⟩;obtain⟨xo,xp,xa,xb,xs,xy,xq,xr,xn,xc,xm,xd,rfl⟩:=hq.form;have HQ:=zh hq;have dD:=zh (aa (aa E.out (show w5.grownBy _ none from(by repeat (with_reducible first | exact ad _ _ | refine aC ?_)))) ej);have Qt:=bx dD.out MR.out;have a5:=zh Qt;obtain⟨x0,x1,x2,x3,x4,x5,x6,x7,x8⟩:=bJ Qt;have bc:=hlt Qt;obtain⟨a0,a1,a2⟩:=ac (bx dD.out Z.out);have J:=dD.out.cell RY.out (by simp);rw [Nat.add_zero] at J;have VF:=hlt (bx dD.out Z.out);have Ks:=zn Hz.out dD.out.size;clear ej hq Qt))
  all_goals
   go_wp2_with fail
   obtain⟨hp,hf⟩:=mY a5 (.int .i64 xo) (.string xa) (.string xb) (.bool xs) (.slice xq xn xc) (.bool xy) (.slice xr xm xd) (.int .i64 xp)
   obtain⟨f0,f1,f2,f3,f4,f5,f6,f7,-⟩:=bJ hp
   have B6:=zh (Fr2.after (aa gA dD) hf (fun i hi=>by have m:i=H:=hi;have:=gj.out;omega))
   have S6:Hid (kL T N l w (.returned (.tuple #[.agg #[.int .i64 xo,.string xa,.string xb,.bool xs,.slice xq xn xc,.bool xy,.slice xr xm xd,.int .i64 xp],.int .i64 0])) _):=zh (PT _ _ B6 (EAt.mono (fun ap hk=>by have A:=hk.1;have B:=(aa gA E).size;exact Nat.le_trans B A) (EAt.same hf (fun ap hk m=>by have m:ap=H:=m;have A:w5.heap.size<=ap:=hk.1;have B:=E.size;omega) HQ.bound)))
   first
    | (refine bodyPost_ret (v:=.tuple #[.agg #[.int .i64 xo,.string xa,.string xb,.bool xs,.slice xq xn xc,.bool xy,.slice xr xm xd,.int .i64 xp],.int .i64 0]) (by simp [results,Tryz.results18,go_sem,f0,f1,f2,f3,f4,f5,f6,f7]) rfl S6)
 ·have Gr:=zh iS
  obtain⟨c0,c1,c2,c3,c4,c5,c6,c7,c8⟩:=bJ lJ
  have eg:H<w1.heap.size:=hlt lJ
  clear iS
  go_wp2_with fail
  obtain⟨hp,hf⟩:=mY lJ (.int .i64 0) (.string ⟨#[]⟩) (.string ⟨#[]⟩) (.bool false) (.slice none 0 0) (.bool false) (.slice none 0 0) (.int .i64 0)
  have cI:=bx (af (ad _ none) (.cells #[.slice none 0 0,.slice none 0 0] 82)) hp
  obtain⟨k0,k1,k2,k3,k4,k5,k6,k7,-⟩:=bJ cI
  have rT:=Fr2.after fu hf (fun a7 hj=>by have m:a7=H:=hj;have:=gj.out;omega)
  refine bodyPost_ret (v:=.tuple #[.agg #[.int .i64 0,.string ⟨#[]⟩,.string ⟨#[]⟩,.bool false,.slice none 0 0,.bool false,.slice none 0 0,.int .i64 0],.int .i64 10]) (by simp [results,Tryz.results18,go_sem,k0,k1,k2,k3,k4,k5,k6,k7]) rfl (show kL T N l w _ _ from⟨af rT _,.inr ⟨Gr,rfl⟩⟩)
end Go.Proofs.YtpkipghjohomcaaGreatDoor
