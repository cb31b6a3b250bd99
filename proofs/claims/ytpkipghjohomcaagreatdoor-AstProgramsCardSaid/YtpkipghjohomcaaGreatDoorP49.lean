/- Lemmas. -/
import Derived.Test.YtpkipghjohomcaaGreatDoorP36
import Derived.Test.YtpkipghjohomcaaGreatDoorP39
import Derived.Test.YtpkipghjohomcaaGreatDoorP41
import Derived.Test.YtpkipghjohomcaaGreatDoorP48
set_option linter.unusedVariables false
set_option linter.unusedSimpArgs false
namespace Go.Proofs.YtpkipghjohomcaaGreatDoor
open Go.RowKit
theorem rk {l:List UInt8} {w:World} {e:Ending} {m:World} (h:pq l w e m):e=.returned (.string ⟨l.toArray⟩)/\w.grownBy m none:=by
 obtain⟨⟨E,rfl,B⟩,A⟩:=h
 refine⟨?_,A⟩
 have e:E=⟨l.toArray⟩:=ByteArray.ext (Array.toList_inj.1 (by rw [B]))
 rw [e]
def Hu (y:ByteArray) (w:World) (e:Ending) (m:World):Prop:=e=.returned (.string y)/\w.grownBy m none
theorem Ky (f:Bool):¬gK [] [] [] f:=fun h=>by
 have m:([]:List Nd).length=(aw [] 200 f).length:=by rw [<-h.2.2]
 have A:1<=(aw [] 200 f).length:=by
  unfold aw
  cases f
  ·show 1<=(post 0 (.nd 1 _)).length
   rw [kh];simp only [szR];omega
  ·show 1<=(post 0 _).length
   rw [kh]
   exact iR _
 simp at m;omega
theorem OP (w:World) (A:fJ w) (m:gF w):Calls Tryz.prog 6 #[.agg #[.slice none 0 0,.slice none 0 0]] w (bp (.tuple #[.agg #[.slice none 0 0,.slice none 0 0],.int .i64 10]) w):=by
 refine(O6 [] [] (fun _=>(none,0)) ⟨#[]⟩ (by decide) rfl (by simp) (by simp) (fun E G h=>by simp at h) none none 0 0 w A m (.inl rfl) ⟨.inl rfl,fun E G h=>by simp at h⟩).mono ?_
 rintro H I ⟨B,h | h⟩
 ·exact absurd h.1 (Ky false)
 ·exact⟨h.2,B⟩
set_option maxHeartbeats 16000000
set_option maxRecDepth 100000
open Go.RowKit List Nat Go.World
theorem CQ (s:ByteArray) (w:World) (gP:fJ w) (eh:gF w):
  Calls Tryz.prog 3 #[.string s] w (bp (.bool true) w):=by
 have bs:=zh (Jm w gP eh)
 have iF:=zh gP;have fc:=zh eh
 by_cases a8:1500<s.size
 ·have d1:decide (1500<s.size)=true:=zd a8
  have ml:=zE ((1500:Int)<(s.size:Int))
  clear a8 gP eh
  go_enter Tryz.func3,Tryz.ntmps3
  go_wp2_with fail
  refine bs.mono ?_
  rintro G w0 ⟨rfl,sP⟩
  have kD:=zh sP
  clear sP
  go_wp2_with fail
  go_ret
  exact⟨rfl,kD⟩
 have d1:decide (1500<s.size)=false:=VW a8
 have ml:=zX ((1500:Int)<(s.size:Int))
 have Dz:=aQ s
 have HP:=zh (fun W h=>GV s 100 W (by omega) h)
 obtain⟨l,hl⟩:=zx s.data.toList
 rw [hl] at HP Dz
 have fP:Hid (l.length<=1500):=zh (by omega)
 have yZ:=zh hl
 have bu:Hid (s.size<=25000):=zh (by omega)
 clear a8 gP eh Dz hl
 go_enter Tryz.func3,Tryz.ntmps3
 go_wp2_with fail
 refine bs.mono ?_
 rintro G w0 ⟨rfl,sP⟩
 have kD:=zh sP
 clear sP bs
 go_wp2_with fail
 refine(HP _ (iF.kept kD)).mono ?_
 rintro G w1 ⟨cJ,he⟩
 have fu:=zh (aa kD cJ)
 clear HP cJ
 by_cases eM:(eE l 100 false).2.1=0
 ·have hR:=pZ (l:=l) (by have:=fP.out;omega) eM
  have dS:=jG hR.lex
  rw [if_neg (by rw [eM];decide)] at he
  obtain⟨pt,ct,pn,cn,av,rfl,dK,-,lL,-,-,-,BL⟩:=he
  have Hq:=OG (D:=100) fP hR BL
  have aL:=Fk (D:=100) hR fP BL
  have fe:=MG (l:=l) (D:=100) (f:=false) (by have:=fP.out;omega) eM
  have bw:=O6 ((ai l).1.map toI) (aw l 100 false) av s bu (by rw [vp,jP hR.lex,yZ.out]) (by rw [length_map];have:=fP.out;omega) (by have:=fP.out;omega) (m8 (by have:=fP.out;omega)) pt pn ct cn
  rw [length_map,yZ.out] at bw
  have dg:oZ l 200=oZ l 100:=by
   unfold oZ
   rw [show(200:Int).toNat=200 from rfl,hR.same]
  have a3:Hid (∀W,fJ W->gF W->bl W pt ((ai l).1.map toI)->al W pn (aw l 100 false) av->Calls Tryz.prog 6 #[.agg #[.slice pt (ai l).1.length ct,.slice pn (aw l 100 false).length cn]] W (fun G A=>W.grownBy A none/\∃(H:Nat->Prop) (B:List Value),G=.returned (.tuple #[.agg B.toArray,.int .i64 0])/\gq H A (oZ l 100) B)):=zh (fun W h1 O h3 h4=>(bw W h1 O h3 h4).mono (by
   rintro G A ⟨hg,he⟩
   rcases he with ⟨-,B,Za,hq⟩ | ⟨hb,-⟩
   ·exact⟨hg,_,B,Za,dg▸hq⟩
   ·exact absurd fe hb))
  obtain⟨ks,hx,dL,dx,eB,fG,ZR⟩:=oa hR
  have c8:(aw l 100 false).length=(aw l 100 false).length - 1+1:=by have:=(Q4.1 hx).1;omega
  have K2:=uU (l:=l) (by have:=fP.out;omega) hR.lex
  have UD:Hid (∀(kC jK:Option Addr) (kX lh:Nat) W,bl W kC ((ai l).1.map toI)->al W jK (aw l 100 false) av->Calls Tryz.prog 7 #[.agg #[.slice kC (ai l).1.length kX,.slice jK (aw l 100 false).length lh]] W (vc (oZ l 100) W)):=zh (fun kC jK kX lh W h1 O=>abw (ai l).1 (aw l 100 false) av kC jK kX lh (Sh _ _ av kC jK kX lh (by have:=fP.out;omega) (by have:=fP.out;omega) 150000 (by omega)) (by have:=fP.out;omega) (by have:=fP.out;omega) _ c8 _ ks _ hx dL dx eB (by have:=fP.out;omega) ZR K2 W h1 O)
  have xY:Hid (∀W,bl W pt ((ai l).1.map toI)->al W pn (aw l 100 false) av->Calls Tryz.prog 8 #[.agg #[.slice pt (ai l).1.length ct,.slice pn (aw l 100 false).length cn]] W (fun G A=>W.grownBy A none/\∃ap aq p' c',G=.returned (.agg #[.slice ap (ai l).1.length aq,.slice p' (aw l 100 false).length c'])/\bl A ap ((ai l).1.map toI)/\al A p' (aw l 100 false) av)):=zh (fun W h1 O=>by
   have h:=SA ((ai l).1.map toI) (aw l 100 false) av pt pn ct cn W (by rw [length_map];have:=fP.out;omega) (by have:=fP.out;omega) h1 O
   unfold wA at h
   rw [length_map] at h
   exact h)
  have ue:=zh (qD dK)
  have xF:=zh lL
  obtain⟨L,hP⟩:=zx (oZ l 100)
  rw [hP] at a3 UD Hq aL
  have jI:=zh Hq
  have PX:=zh Hq.era
  obtain⟨yT,bW⟩:∃ax:ByteArray,(⟨(si L).toArray⟩:ByteArray)=ax:=⟨_,rfl⟩
  obtain⟨yE,bV⟩:∃ax:ByteArray,(⟨(si (un L)).toArray⟩:ByteArray)=ax:=⟨_,rfl⟩
  obtain⟨au,hB⟩:=zx (MD L)
  obtain⟨nb,Xh⟩:=zx au.length
  have cI:au.length<=1000000:=by rw [<-hB];have:=aL.len;show(L.defs.flatMap gf).length<=_;omega
  have JK:Hid (∀(H:Nat->Prop) B W,gq H W L B->Calls Tryz.prog 9 #[.agg B.toArray] W (Hu yT W)):=zh (fun H B W h=>(Iq H L B W h Hq).mono (by intro G A h;have O:=rk h;rw [bW] at O;exact O))
  have xw:Hid (∀(H:Nat->Prop) B W,gq H W (un L) B->Calls Tryz.prog 9 #[.agg B.toArray] W (Hu yE W)):=zh (fun H B W h=>(Iq H (un L) B W h Hq.era).mono (by intro G A h;have O:=rk h;rw [bV] at O;exact O))
  have TU:Hid (∀(H:Nat->Prop) B W,jb H W L B->Calls Tryz.prog 10 #[.agg B.toArray,.bool true] W (Hu yT W)):=zh (fun H B W h=>(Cu true H L B W h Hq).mono (by intro G A h;have O:=rk (l:=si L) h;rw [bW] at O;exact O))
  have ck:Hid (∀(H:Nat->Prop) B W,jb H W L B->Calls Tryz.prog 10 #[.agg B.toArray,.bool false] W (Hu yE W)):=zh (fun H B W h=>(Cu false H L B W h Hq).mono (by intro G A h;have O:=rk (l:=si (un L)) h;rw [bV] at O;exact O))
  have VC:Hid (∀(H:Nat->Prop) B W,gq H W L B->Calls Tryz.prog 13 #[.agg B.toArray] W (fun G A=>W.grownBy A none/\∃ap aq,G=.returned (.slice ap nb aq)/\VAt A ap (ar au))):=zh (fun H B W h=>(Vu H L B W h aL Hq).mono (by intro G A h;rw [hB] at h;unfold iV at h;rw [Xh] at h;exact h))
  have El:Hid (∀(H:Nat->Prop) B W,jb H W L B->Calls Tryz.prog 14 #[.agg B.toArray] W (fun G A=>W.grownBy A none/\∃ap aq,G=.returned (.slice ap nb aq)/\VAt A ap (ar au))):=zh (fun H B W h=>(Rq H L B W h aL Hq).mono (by intro G A h;rw [hB] at h;unfold iV at h;rw [Xh] at h;exact h))
  have Jh:Hid (∀(p1 p2:Option Addr) (c1 c2:Nat) W,VAt W p1 (ar au)->VAt W p2 (ar au)->Calls Tryz.prog 12 #[.slice p1 nb c1,.slice p2 nb c2] W (vo true W)):=zh (fun p1 p2 c1 c2 W h1 O=>by
   have h:=G8 p1 p2 c1 c2 au au W cI h1 O
   rw [zd rfl,Xh] at h
   exact h)
  have Rm:Hid (∀(I:Ex) (p1 p2:Option Addr) (c1 c2:Nat) W,cY I<=1000000->VAt W p1 (ar (ja I))->VAt W p2 (ar (ja I))->Calls Tryz.prog 12 #[.slice p1 (cY I) c1,.slice p2 (cY I) c2] W (vo true W)):=zh (fun I p1 p2 c1 c2 W h0 h1 O=>by
   have h:=G8 p1 p2 c1 c2 (ja I) (ja I) W (by rw [kf];exact h0) h1 O
   rw [zd rfl,kf] at h
   exact h)
  have b6:Hid (∀(I:Ex) (H:Nat->Prop) B W,cY I<=1000000->EAt H W I B->Calls Tryz.prog 15 #[.agg B.toArray] W (fun G A=>W.grownBy A none/\∃ap aq,G=.returned (.slice ap (cY I) aq)/\VAt A ap (ar (ja I)))):=zh (fun I H B W h0 h1=>(Wd (cY I) I (Nat.le_refl _) H B W h1 (by rw [kf];exact h0)).mono (by intro G A h;unfold iV at h;rw [kf] at h;exact h))
  have ch:Hid (∀(I:Ex) (H:Nat->Prop) B W,cY I<=1000000->RAt H W I B->Calls Tryz.prog 16 #[.agg B.toArray] W (fun G A=>W.grownBy A none/\∃ap aq,G=.returned (.slice ap (cY I) aq)/\VAt A ap (ar (ja I)))):=zh (fun I H B W h0 h1=>(Wv (cY I) I (Nat.le_refl _) H B W h1 (by rw [kf];exact h0)).mono (by intro G A h;unfold iV at h;rw [kf] at h;exact h))
  have b4:Hid (∀(H:Nat->Prop) (B:List Value) (W:World),gq H W L B->Calls Tryz.prog 11 #[.agg B.toArray] W (fun G A=>W.grownBy A none/\∃(F2:Nat->Prop) (q2:List Value),G=.returned (.agg q2.toArray)/\gq F2 A (un L) q2)):=zh (fun H B W h=>(Tz H L B W h (by have:=Hq.few;omega) (fun I hx=>by have:=Hq.imps I hx;omega) (by have:=Hq.fewd;omega) (fun E hd=>(Hq.defs E hd).dbd)).mono (by
   rintro G A ⟨h1,q2,O,h3⟩
   exact⟨h1,_,q2,O,h3⟩))
  obtain⟨mt,wu⟩:=zx (ai l).1.length
  obtain⟨dQ,hM⟩:=zx (aw l 100 false).length
  rw [wu,hM] at a3 xY ⊢
  rw [wu,hM] at UD
  clear wu hM dK lL hR dS BL fe bw dg hP eM fP yZ bu Hq aL hx dL dx eB fG ZR c8 K2 bW bV hB Xh cI
  go_wp2_with fail
  obtain⟨W,b0,b1,hW,e0,e1,cS,dq,dp,lu⟩:=two w1 (.cells #[.slice pt mt ct,.slice pn dQ cn] 26) (.cells #[.int .i64 0,.int .i64 0] 29)
  have bB:=zh cS;have bS:=zh dq;have bm:=zh dp
  have bF:=zh (aa fu dp)
  try rw [<-hW]
  try rw [e1]
  try rw [e0]
  clear e0 e1 hW cS dq dp
  refine(a3 _ (iF.kept bF) (fc.kept bF) (ue.kept bm) (xF.kept bm)).mono ?_
  rintro G w2 ⟨bL,FA,B,rfl,hq⟩
  have TJ:=hq
  obtain⟨pi,ni,ci,pd,cd,fH,rfl,cw,Zw,-⟩:=Gn TJ
  clear TJ
  have bM:=zh (And.intro cw Zw)
  have HQ:=zh hq
  have gA:=zh (aa bF bL)
  have Ml:=zh (aa bm bL)
  have pD:=zh (bx bL bB);have gH:=zh (bx bL bS)
  obtain⟨ao,hm⟩:=zx L.defs.length
  rw [hm] at HQ ⊢
  have HM:=zh hm
  have eL:ao<=10000:=by rw [<-hm];exact jI.fewd
  obtain⟨a0,a1,a2⟩:=ac gH
  have Sv:b1<w2.heap.size:=hlt gH
  have dV:b0<w2.heap.size:=hlt pD
  obtain⟨t0,t1,t2⟩:=ac pD
  clear bL hq a3 hm cw Zw
  go_wp2_with fail
  obtain⟨W3,b5,xj,e5,yr,j7⟩:=Sx w2 (.cells #[.slice pi ni ci,.slice pd ao cd] 35)
  have uz:=zh yr
  have Y2:=zh (HQ.kept j7)
  have bM:=zh (And.intro (GAt.kept bM.1 j7) (ol bM.2 j7))
  have ir:=zh (aa gA j7)
  have XV:=zh (aa Ml j7)
  try rw [<-xj]
  try rw [e5]
  clear e5 xj yr j7 a0 a1 a2 t0 t1 t2 dV Sv
  refine(xY _ (ue.kept XV) (xF.kept XV)).mono ?_
  rintro G w4 ⟨lO,kC,kX,jK,lh,rfl,ds,dd⟩
  have cN:=zh (bx lO uz)
  have ef:=zh (aa ir lO)
  have ce:=zh (Y2.kept lO)
  have bM:=zh (And.intro (GAt.kept bM.1 lO) (ol bM.2 lO))
  have IY:=zh ds;have b8:=zh dd
  clear lO ds dd xY
  go_wp2_with fail
  refine(UD kC jK kX lh w4 IY b8).mono ?_
  rintro G w5 ⟨dw,qx,rfl,pY⟩
  have TJ:=pY
  obtain⟨xi,cU,xd,cT,ex,rfl,-,du,cz,-,-⟩:=TJ
  have TZ:=zh (And.intro du cz)
  clear du cz
  rw [HM.out] at pY ⊢
  have HX:=zh pY
  have ZO:=zh (bx dw cN)
  have dD:=zh (aa ef dw)
  have cf:=zh (ce.kept dw)
  have bM:=zh (And.intro (GAt.kept bM.1 dw) (ol bM.2 dw))
  obtain⟨nx,dO⟩:=zx L.imps.length
  rw [dO] at HX ⊢
  clear dw pY UD dO
  go_wp2_with fail
  obtain⟨W5,b7,Ua,e7,vY,Bu⟩:=Sx w5 (.cells #[.slice xi nx cU,.slice xd ao cT] 41)
  have R:=zh vY
  have Y:=zh (bx Bu ZO)
  have cG:=zh (aa dD Bu)
  have a4:=zh (cf.kept Bu)
  have bM:=zh (And.intro (GAt.kept bM.1 Bu) (ol bM.2 Bu))
  have TZ:=zh (And.intro (GAt.kept TZ.1 Bu) (nU TZ.2 Bu))
  have a7:=zh (jb.kept HX Bu)
  try rw [<-Ua]
  try rw [e7]
  clear e7 Ua vY Bu cN ZO HQ Y2 ce cf HX bB bS pD gH IY b8 ue xF Ml XV bm
  obtain⟨a0,a1,a2⟩:=ac Y
  obtain⟨d0,d1,d2⟩:=ac R
  have rX:b5<W5.heap.size:=hlt Y
  have lP:b7<W5.heap.size:=hlt R
  have m:Hid (W5.grownBy W5 none):=zh (ad _ _)
  have q1:(yT.toList != yT.toList)=false:=by simp
  have q2:(yE.toList != yE.toList)=false:=by simp
  go_upto_region 10 with fail
  go_cut [72] (fun en wx=>en=.bool false/\Hid (W5.grownBy wx none))
  case first=>
   go_region_held3 (fun A=>A.cell? ⟨b5,0,none⟩=some (.slice pi ni ci)/\A.cell? ⟨b5,1,none⟩=some (.slice pd ao cd)/\A.cell? ⟨b7,0,none⟩=some (.slice xi nx cU)/\A.cell? ⟨b7,1,none⟩=some (.slice xd ao cT))
    (first | with_reducible exact⟨a0,a1,d0,d1⟩ | go_keep)
    (first
     | (go_at_call 9;have dP:=Zi;refine(xw _ _ _ (Zi.kept gbx)).mono ?_;rintro G w9 ⟨rfl,J⟩;have m:=zh (aa (aa m gbx) J);obtain⟨a0,a1,a2⟩:=ac (bx m Y);obtain⟨d0,d1,d2⟩:=ac (bx m R);have rX:=hlt (bx m Y);have lP:=hlt (bx m R);have XR:Hid True:=zh trivial;clear J Zi dP)
     | (go_at_call 9;refine(JK _ _ _ (a4.kept (aa m gbx))).mono ?_;rintro G w9 ⟨rfl,J⟩;have m:=zh (aa (aa m gbx) J);obtain⟨a0,a1,a2⟩:=ac (bx m Y);obtain⟨d0,d1,d2⟩:=ac (bx m R);have rX:=hlt (bx m Y);have lP:=hlt (bx m R);clear J)
     | (go_at_call 10;have et:=XR;refine(ck _ _ _ (jb.kept a7 (aa m gbx))).mono ?_;rintro G w9 ⟨rfl,J⟩;have m:=zh (aa (aa m gbx) J);obtain⟨a0,a1,a2⟩:=ac (bx m Y);obtain⟨d0,d1,d2⟩:=ac (bx m R);have rX:=hlt (bx m Y);have lP:=hlt (bx m R);clear J)
     | (go_at_call 10;refine(TU _ _ _ (jb.kept a7 (aa m gbx))).mono ?_;rintro G w9 ⟨rfl,J⟩;have m:=zh (aa (aa m gbx) J);obtain⟨a0,a1,a2⟩:=ac (bx m Y);obtain⟨d0,d1,d2⟩:=ac (bx m R);have rX:=hlt (bx m Y);have lP:=hlt (bx m R);clear J)
     | (go_at_call 11;refine(b4 _ _ _ (a4.kept (aa m gbx))).mono ?_;rintro G w9 ⟨J,FC,q8,rfl,bP⟩;have m:=zh (aa (aa m gbx) J);have Zi:=zh bP;obtain⟨eT,eN,eC,eX,eD,-,rfl,-,-,-⟩:=Gn bP;obtain⟨a0,a1,a2⟩:=ac (bx m Y);obtain⟨d0,d1,d2⟩:=ac (bx m R);have rX:=hlt (bx m Y);have lP:=hlt (bx m R);clear J bP)
     | (go_at_call 13;refine(VC _ _ _ (a4.kept (aa m gbx))).mono ?_;rintro G w9 ⟨J,pa,ca,rfl,T5⟩;have m:=zh (aa (aa m gbx) J);have Jk:=zh T5;obtain⟨a0,a1,a2⟩:=ac (bx m Y);obtain⟨d0,d1,d2⟩:=ac (bx m R);have rX:=hlt (bx m Y);have lP:=hlt (bx m R);clear J T5)
     | (go_at_call 14;refine(El _ _ _ (jb.kept a7 (aa m gbx))).mono ?_;rintro G w9 ⟨J,pb,cb,rfl,UF⟩;have UJ:=zh (Jk.kept (aa gbx J));have m:=zh (aa (aa m gbx) J);have K7:=zh UF;obtain⟨a0,a1,a2⟩:=ac (bx m Y);obtain⟨d0,d1,d2⟩:=ac (bx m R);have rX:=hlt (bx m Y);have lP:=hlt (bx m R);clear J UF Jk)
     | (go_at_call 12;refine(Jh _ _ _ _ _ (UJ.kept gbx) (K7.kept gbx)).mono ?_;rintro G w9 ⟨rfl,J⟩;have m:=zh (aa (aa m gbx) J);obtain⟨a0,a1,a2⟩:=ac (bx m Y);obtain⟨d0,d1,d2⟩:=ac (bx m R);have rX:=hlt (bx m Y);have lP:=hlt (bx m R);clear J UJ K7))
   all_goals
    go_wp2_with fail
    go_meet
    exact⟨rfl,m⟩
  case rest=>
   obtain⟨rfl,hcut⟩:=hcut
   have YR:=zh hcut.out
   clear hcut JK xw TU ck VC El Jh b4 m q1 q2 a0 a1 a2 d0 d1 d2 rX lP a4 a7
   obtain⟨a0,a1,a2⟩:=ac (bx YR Y)
   obtain⟨d0,d1,d2⟩:=ac (bx YR R)
   have rX:b5<wc.heap.size:=hlt (bx YR Y)
   have lP:b7<wc.heap.size:=hlt (bx YR R)
   go_wp2_with fail
   clear a0 a1 a2 d0 d1 d2 rX lP
   go_loopw [76] (fun iv wr=>∃j:Nat,j<=ao/\iv=.int .i64 (j:Int)/\Hid (W5.grownBy wr none)) (fun iv _=>ao - (intOf iv).toNat)
   case atStart=>exact⟨0,zero_le _,rfl,YR⟩
   case round=>
    clear YR
    obtain⟨j,hj,rfl,cW⟩:=hrel
    by_cases bH:j<ao
    ·obtain⟨E,hx⟩:∃I,L.defs[j]? = some I:=⟨L.defs[j]'(by rw [HM.out];exact bH),QS _⟩
     have mf:=zh (jI.defs E (gn hx))
     obtain⟨yn,pp,cp,eJ,pc,nc,cc,o9,a9,b9,s9,z9,n9,c9,y9,uP,uc,ut,p9,c5,dz,rfl,bN,NQ,qr,pg,c0,yY⟩:=yQ bM.1 bM.2 hx
     obtain⟨bc,aJ,eu,Sw,R4,xo,xa,xb,xc,xy,xk,bi,bd,Ip,gx,cP,rfl,cC,cB,ZI,-,NR,k0,Xj⟩:=sv TZ.1 TZ.2 hx
     obtain⟨xn,Wf⟩:∃ax:ByteArray,(⟨E.res.nm.toArray⟩:ByteArray)=ax:=⟨_,rfl⟩
     obtain⟨np,tK⟩:=zx E.ps.length
     have Lc:=zh tK
     have Wi:np<=10000:=by rw [<-tK];exact mf.few
     obtain⟨KZ,Cp⟩:=zx E.res.cl.length
     rw [tK] at yY
     rw [Wf,tK,Cp] at Xj
     have uN:=zh NQ;have BN:=zh qr;have dZ:=zh cB;have d5:=zh ZI;have Gr:=zh pg;have d4:=zh NR
     have pP:Hid (wr.rangeAt c5 (dz+j*15) [.bool E.pub,.string yn,.slice pp np cp,.int .i64 (E.res.base:Int),.slice pc nc cc,.int .i64 o9,.string a9,.string b9,.bool s9,.slice z9 n9 c9,.bool y9,.slice uP uc ut,.int .i64 p9,.int .i64 (E.res.ps:Int),.int .i64 E.res.bare]):=zh (fun bX b3 h=>cW.cell (yY bX b3 h) (by simp))
     have RH:=zh Xj
     have c0:=cW.cell c0 (by simp)
     have bN:=zn bN cW.size
     have zU:=zh k0;have d3:=zh cC
     have VC:=zh (bx cW R)
     have i3:decide (j<ao)=true:=zd bH
     have i4:=zE ((j:Int)<(ao:Int))
     have i2:(j:Int)<(ao:Int):=by omega
     have dj:cY E.body<=1000000:=mf.body.size
     have Jh:=zh dj
     clear hx Wf tK Cp NQ qr cB ZI pg NR yY Xj k0 cC dj
     go_upto_region 14 with fail
     go_cut [8,9] (fun t8 t9 wx=>t8=.int .i64 (j:Int)/\Hid (∃bq,t9=.pointer (some ⟨bq,0,none⟩)/\wx.heap[bq]? = some (.cells #[.bool E.pub,.string yn,.slice pp np cp,.int .i64 (E.res.base:Int),.slice pc nc cc,.int .i64 o9,.string a9,.string b9,.bool s9,.slice z9 n9 c9,.bool y9,.slice uP uc ut,.int .i64 p9,.int .i64 (E.res.ps:Int),.int .i64 E.res.bare] 62 (0,0))/\wr.heap.size<=bq/\wr.grownBy wx none))
     case first=>
      go_wp2_with (refine wpList_load_mid rfl 62 _ rfl c5 (dz+j*15) rfl [.bool E.pub,.string yn,.slice pp np cp,.int .i64 (E.res.base:Int),.slice pc nc cc,.int .i64 o9,.string a9,.string b9,.bool s9,.slice z9 n9 c9,.bool y9,.slice uP uc ut,.int .i64 p9,.int .i64 (E.res.ps:Int),.int .i64 E.res.bare] _ pP Tryz.underlying62 rfl Ct ?_)
      go_meet
      exact⟨rfl,zh ⟨_,rfl,YK wr _,Nat.le_refl _,qn wr _ none⟩⟩
     case rest=>
      obtain⟨rfl,hcut⟩:=hcut
      obtain⟨Es,rfl,uJ,iJ,J⟩:=hcut.out
      have fW:=zh uJ
      have BP:Hid (W5.grownBy wc none):=zh (aa cW J)
      clear hcut uJ iJ J c0 bN pP i2 i3 i4 VC cW
      obtain⟨W6,C7⟩:=zx wc
      rw [C7] at fW BP ⊢
      clear C7
      obtain⟨d0,d1,d2⟩:=ac (bx BP R)
      have lP:b7<W6.heap.size:=hlt (bx BP R)
      have RH:Hid (W6.rangeAt gx (cP+j*14) [.bool E.pub,.slice bc np aJ,.string xn,.int .i64 (E.res.base:Int),.slice Sw KZ R4,.int .i64 (E.res.ps:Int),.int .i64 E.res.bare,.int .i64 xo,.string xa,.string xb,.string xc,.bool xy,.slice xk bi bd,.int .i64 Ip]):=zh (fun bX b3 h=>BP.cell (RH bX b3 h) (by simp))
      have c0:=BP.cell zU (by simp)
      have bN:=zn d3 BP.size
      have i3:decide (j<ao)=true:=zd bH
      have i4:=zE ((j:Int)<(ao:Int))
      have i2:(j:Int)<(ao:Int):=by omega
      go_upto_region 15 with fail
      go_cut [10] (fun ec wx=>Hid (∃mX,ec=.pointer (some ⟨mX,0,none⟩)/\wx.heap[mX]? = some (.cells #[.bool E.pub,.slice bc np aJ,.string xn,.int .i64 (E.res.base:Int),.slice Sw KZ R4,.int .i64 (E.res.ps:Int),.int .i64 E.res.bare,.int .i64 xo,.string xa,.string xb,.string xc,.bool xy,.slice xk bi bd,.int .i64 Ip] 70 (0,0))/\W6.grownBy wx none))
      case first=>
       go_wp2_with (refine wpList_load_mid rfl 70 _ rfl gx (cP+j*14) rfl [.bool E.pub,.slice bc np aJ,.string xn,.int .i64 (E.res.base:Int),.slice Sw KZ R4,.int .i64 (E.res.ps:Int),.int .i64 E.res.bare,.int .i64 xo,.string xa,.string xb,.string xc,.bool xy,.slice xk bi bd,.int .i64 Ip] _ RH Tryz.underlying70 rfl AJ ?_)
       go_meet
       exact zh ⟨_,rfl,YK W6 _,qn W6 _ none⟩
      case rest=>
       obtain⟨mX,rfl,ET,Iy⟩:=hcut.out
       have fq:=zh ET
       have fW:=zh (bx Iy fW)
       have BP:Hid (W5.grownBy wc none):=zh (aa BP Iy)
       clear hcut ET Iy c0 bN RH i2 i3 i4 d0 d1 d2 lP
       obtain⟨W7,Uo⟩:=zx wc
       rw [Uo] at fW fq BP ⊢
       clear Uo
       have m:Hid (W7.grownBy W7 none):=zh (ad _ _)
       obtain⟨e0,e1,e2,e3,e4,e5,e6,e7,e8,e9,qC,rG,qR,rh,rS,PO⟩:=br (bx m fW);obtain⟨x0,x1,x2,x3,x4,x5,x6,x7,x8,x9,gE,gw,fS,fv,kU⟩:=bk (bx m fq);have vW:=hlt (bx m fW);have nI:=hlt (bx m fq)
       have q1:((E.res.ps:Int) != (E.res.ps:Int))=false:=by simp
       have q2:(E.res.ps != E.res.ps)=false:=by simp
       go_upto_region 16 with fail
       go_cut [101] (fun ed wx=>ed=.bool false/\Hid (W7.grownBy wx none))
       case first=>
        go_region_held3 (fun A=>A.cell? ⟨Es,0,none⟩=some (.bool E.pub)/\A.cell? ⟨Es,1,none⟩=some (.string yn)/\A.cell? ⟨Es,2,none⟩=some (.slice pp np cp)/\A.cell? ⟨Es,3,none⟩=some (.int .i64 (E.res.base:Int))/\A.cell? ⟨Es,4,none⟩=some (.slice pc nc cc)/\A.cell? ⟨Es,5,none⟩=some (.int .i64 o9)/\A.cell? ⟨Es,6,none⟩=some (.string a9)/\A.cell? ⟨Es,7,none⟩=some (.string b9)/\A.cell? ⟨Es,8,none⟩=some (.bool s9)/\A.cell? ⟨Es,9,none⟩=some (.slice z9 n9 c9)/\A.cell? ⟨Es,10,none⟩=some (.bool y9)/\A.cell? ⟨Es,11,none⟩=some (.slice uP uc ut)/\A.cell? ⟨Es,12,none⟩=some (.int .i64 p9)/\A.cell? ⟨Es,13,none⟩=some (.int .i64 (E.res.ps:Int))/\A.cell? ⟨Es,14,none⟩=some (.int .i64 E.res.bare)/\A.cell? ⟨mX,0,none⟩=some (.bool E.pub)/\A.cell? ⟨mX,1,none⟩=some (.slice bc np aJ)/\A.cell? ⟨mX,2,none⟩=some (.string xn)/\A.cell? ⟨mX,3,none⟩=some (.int .i64 (E.res.base:Int))/\A.cell? ⟨mX,4,none⟩=some (.slice Sw KZ R4)/\A.cell? ⟨mX,5,none⟩=some (.int .i64 (E.res.ps:Int))/\A.cell? ⟨mX,6,none⟩=some (.int .i64 E.res.bare)/\A.cell? ⟨mX,7,none⟩=some (.int .i64 xo)/\A.cell? ⟨mX,8,none⟩=some (.string xa)/\A.cell? ⟨mX,9,none⟩=some (.string xb)/\A.cell? ⟨mX,10,none⟩=some (.string xc)/\A.cell? ⟨mX,11,none⟩=some (.bool xy)/\A.cell? ⟨mX,12,none⟩=some (.slice xk bi bd)/\A.cell? ⟨mX,13,none⟩=some (.int .i64 Ip))
         (first | with_reducible exact⟨e0,e1,e2,e3,e4,e5,e6,e7,e8,e9,qC,rG,qR,rh,rS,x0,x1,x2,x3,x4,x5,x6,x7,x8,x9,gE,gw,fS,fv⟩ | go_keep)
         (first
          | (go_at_call 15;refine(b6 E.body _ _ _ Jh (Gr.kept (aa BP (aa m gbx)))).mono ?_;rintro G wz ⟨Z,pa,ca,rfl,T5⟩;have m:=zh (aa (aa m gbx) Z);have Jk:=zh T5;obtain⟨e0,e1,e2,e3,e4,e5,e6,e7,e8,e9,qC,rG,qR,rh,rS,PO⟩:=br (bx m fW);obtain⟨x0,x1,x2,x3,x4,x5,x6,x7,x8,x9,gE,gw,fS,fv,kU⟩:=bk (bx m fq);have vW:=hlt (bx m fW);have nI:=hlt (bx m fq);clear Z T5)
          | (go_at_call 16;refine(ch E.body _ _ _ Jh (d4.kept (aa BP (aa m gbx)))).mono ?_;rintro G wz ⟨Z,pb,cb,rfl,UF⟩;have UJ:=zh (Jk.kept (aa gbx Z));have m:=zh (aa (aa m gbx) Z);have K7:=zh UF;obtain⟨e0,e1,e2,e3,e4,e5,e6,e7,e8,e9,qC,rG,qR,rh,rS,PO⟩:=br (bx m fW);obtain⟨x0,x1,x2,x3,x4,x5,x6,x7,x8,x9,gE,gw,fS,fv,kU⟩:=bk (bx m fq);have vW:=hlt (bx m fW);have nI:=hlt (bx m fq);clear Z UF Jk)
          | (go_at_call 12;refine(Rm E.body _ _ _ _ _ Jh (UJ.kept gbx) (K7.kept gbx)).mono ?_;rintro G wz ⟨rfl,Z⟩;have m:=zh (aa (aa m gbx) Z);obtain⟨e0,e1,e2,e3,e4,e5,e6,e7,e8,e9,qC,rG,qR,rh,rS,PO⟩:=br (bx m fW);obtain⟨x0,x1,x2,x3,x4,x5,x6,x7,x8,x9,gE,gw,fS,fv,kU⟩:=bk (bx m fq);have vW:=hlt (bx m fW);have nI:=hlt (bx m fq);clear Z UJ K7))
        all_goals
         go_wp2_with fail
         go_meet
         exact⟨rfl,m⟩
       case rest=>
        obtain⟨rfl,hcut⟩:=hcut
        have bt:=zh hcut.out
        clear hcut q1 q2 m e0 e1 e2 e3 e4 e5 e6 e7 e8 e9 qC rG qR rh rS PO x0 x1 x2 x3 x4 x5 x6 x7 x8 x9 gE gw fS fv kU vW nI
        have Vq:=zh (bx bt fW)
        obtain⟨e0,e1,e2,e3,e4,e5,e6,e7,e8,e9,qC,rG,qR,rh,rS,PO⟩:=br Vq
        have vW:Es<wc.heap.size:=hlt Vq
        go_wp2_with fail
        clear e0 e1 e2 e3 e4 e5 e6 e7 e8 e9 qC rG qR rh rS PO vW
        go_loopw [105] (fun iv wr=>∃ak:Nat,ak<=np/\iv=.int .i64 (ak:Int)/\Hid (W7.grownBy wr none)) (fun iv _=>np - (intOf iv).toNat)
        case atStart=>exact⟨0,zero_le _,rfl,bt⟩
        case round=>
         clear bt Vq
         obtain⟨ak,hk,rfl,cW⟩:=hrel
         by_cases db:ak<np
         ·obtain⟨f,hx⟩:∃I,E.ps[ak]? = some I:=⟨E.ps[ak]'(by rw [Lc.out];exact db),QS _⟩
          have GE:=zh (mf.pars f (gn hx))
          obtain⟨ep,zc,g5,Ym,cr,rfl,bN,Zo,yv,-,c0,c1,c2,c3,c4⟩:=pK uN BN hx
          obtain⟨zq,es,gy,VQ,rfl,cu,hF,k0,k1,k2,k3,k4⟩:=sj dZ d5 hx
          obtain⟨eY,eA,rr,qq,yY,Cd,-⟩:=hF
          injection qq with _ qq;injection qq with _ qq;injection qq with qq _;injection qq with qp _ _
          subst qp
          have BI:=aa BP cW
          have Tf:=zh k3;have J0:=zh k2
          have dU:=zh cu
          have YU:=zh Zo;have CT:=zh yv;have Xn:=zh yY;have H3:=zh Cd
          obtain⟨yf,nZ⟩:∃ax:ByteArray,(⟨f.nm.toArray⟩:ByteArray)=ax:=⟨_,rfl⟩
          obtain⟨TG,sq⟩:=zx f.cl.length
          rw [nZ] at c0
          rw [sq] at c2 J0
          have ay:=zh sq
          have c0:=BI.cell c0 (by simp);have c1:=BI.cell c1 (by simp);have c2:=BI.cell c2 (by simp);have c3:=BI.cell c3 (by simp);have c4:=BI.cell c4 (by simp)
          have bN:=zn bN BI.size
          have i5:decide (ak<np)=true:=zd db
          have i6:=zE ((ak:Int)<(np:Int))
          have i7:(ak:Int)<(np:Int):=by omega
          clear hx Zo yv yY Cd nZ sq k0 k1 k2 k3 k4 cu BI
          go_upto_region 20 with fail
          go_cut [11,12] (fun eg ej wx=>eg=.int .i64 (ak:Int)/\Hid (∃bq,ej=.pointer (some ⟨bq,0,none⟩)/\wx.heap[bq]? = some (.cells #[.string yf,.int .i64 (f.base:Int),.slice ep TG zc,.int .i64 (f.ps:Int),.int .i64 f.bare] 73 (0,0))/\wr.grownBy wx none))
          case first=>
           go_wp2_with fail
           go_meet
           exact⟨rfl,zh ⟨_,rfl,YK wr _,qn wr _ none⟩⟩
          case rest=>
           obtain⟨rfl,hcut⟩:=hcut
           obtain⟨Z4,rfl,cv,co⟩:=hcut.out
           have gH:=zh cv
           have aO:Hid (W7.grownBy wc none):=zh (aa cW co)
           clear hcut cv co c0 c1 c2 c3 c4 i5 i6 bN cW
           obtain⟨W8,Em⟩:=zx wc
           rw [Em] at gH aO ⊢
           clear Em
           have U:Hid (W5.grownBy W8 none):=zh (aa BP aO)
           have oS:=zh (bx aO fq)
           have Tf:=zh (U.cell Tf (by simp));have J0:=zh (U.cell J0 (by simp))
           have OI:Hid (gy<W8.heap.size):=zh (zn dU U.size)
           have m:Hid (W8.grownBy W8 none):=zh (ad _ _)
           have q1:((f.ps:Int) != (f.ps:Int))=false:=by simp
           have q2:(f.ps != f.ps)=false:=by simp
           go_upto_region 21 with fail
           go_cut [142] (fun el wx=>el=.bool false/\Hid (W8.grownBy wx none))
           case first=>
            obtain⟨d9,yv⟩:=zx f.cl
            rw [yv] at ay CT H3
            match d9,yv with
            | [],yv=>
              obtain rfl:TG=0:=ay.symm
              clear yv ay CT H3 YU Xn
              obtain⟨r0,r1,r2,r3,r4,r5⟩:=bC (bx m gH);have G0:=hlt (bx m gH);obtain⟨m0,m1,-⟩:=bk (bx m oS);have nI:=hlt (bx m oS);have m3:=m.cell Tf (by simp);have m2:=m.cell J0 (by simp);have Tj:=zn OI m.size
              go_quiet (fail)
              go_wp2_with fail
              go_meet
              exact⟨rfl,zh (by repeat (with_reducible first | exact ad _ _ | refine am ?_ _ | refine aC ?_))⟩
            | [I],yv=>
              obtain rfl:TG=1:=ay.symm
              have qv:Hid (cY I<=1000000):=zh (GE.cls I (by rw [yv];simp)).size
              obtain⟨o1,p1,a1,d6,s1,y1,z1,Vs,n1,d8,eb,d7,gc,A5,rfl,dX,c7,l0,l1,l2,l3,l4,l5,l6,l7⟩:=CU (j:=0) YU CT rfl
              obtain⟨o2,a2,b2,c2,y2,z2,n2,ea,p2,gr,xT,rfl,AR,c6,t0,t1,t2,t3,t4,t5,t6⟩:=zl (j:=0) Xn H3 rfl
              have dA:=zh (c7.kept U);have pJ:=zh (c6.kept U)
              simp only [Nat.zero_mul,Nat.add_zero] at l0 l1 l2 l3 l4 l5 l6 l7 t0 t1 t2 t3 t4 t5 t6
              have lC:=zh (U.cell l0 (by simp));have BW:=zh (U.cell l1 (by simp));have Ul:=zh (U.cell l2 (by simp));have KL:=zh (U.cell l3 (by simp));have aX:=zh (U.cell l4 (by simp));have EW:=zh (U.cell l5 (by simp));have Lj:=zh (U.cell l6 (by simp));have BX:=zh (U.cell l7 (by simp));have KU:=zh (U.cell t0 (by simp));have LP:=zh (U.cell t1 (by simp));have xE:=zh (U.cell t2 (by simp));have PK:=zh (U.cell t3 (by simp));have a5:=zh (U.cell t4 (by simp));have a6:=zh (U.cell t5 (by simp));have Y4:=zh (U.cell t6 (by simp))
              have Tx:Hid (gc<W8.heap.size):=zh (zn dX U.size)
              have RB:Hid (gr<W8.heap.size):=zh (zn AR U.size)
              clear yv ay CT H3 YU Xn c7 c6 dX AR l0 l1 l2 l3 l4 l5 l6 l7 t0 t1 t2 t3 t4 t5 t6
              obtain⟨r0,r1,r2,r3,r4,r5⟩:=bC (bx m gH);have G0:=hlt (bx m gH);obtain⟨m0,m1,-⟩:=bk (bx m oS);have nI:=hlt (bx m oS);have m3:=m.cell Tf (by simp);have m2:=m.cell J0 (by simp);have Tj:=zn OI m.size;have l0:=m.cell lC (by simp);have l1:=m.cell BW (by simp);have l2:=m.cell Ul (by simp);have l3:=m.cell KL (by simp);have l4:=m.cell aX (by simp);have l5:=m.cell EW (by simp);have l6:=m.cell Lj (by simp);have l7:=m.cell BX (by simp);have t0:=m.cell KU (by simp);have t1:=m.cell LP (by simp);have t2:=m.cell xE (by simp);have t3:=m.cell PK (by simp);have t4:=m.cell a5 (by simp);have t5:=m.cell a6 (by simp);have t6:=m.cell Y4 (by simp);have Vt:=zn Tx m.size;have Xd:=zn RB m.size
              go_region_held3 (fun A=>A.cell? ⟨Z4,0,none⟩=some (.string yf)/\A.cell? ⟨Z4,1,none⟩=some (.int .i64 (f.base:Int))/\A.cell? ⟨Z4,2,none⟩=some (.slice (some ⟨gc,A5,none⟩) 1 zc)/\A.cell? ⟨Z4,3,none⟩=some (.int .i64 (f.ps:Int))/\A.cell? ⟨Z4,4,none⟩=some (.int .i64 f.bare)/\A.cell? ⟨mX,1,none⟩=some (.slice (some ⟨gy,VQ,none⟩) np aJ)/\A.cell? ⟨gy,VQ+ak*5+3,none⟩=some (.int .i64 (f.ps:Int))/\A.cell? ⟨gy,VQ+ak*5+2,none⟩=some (.slice (some ⟨gr,xT,none⟩) 1 es)/\A.cell? ⟨gc,A5,none⟩=some (.int .i64 o1)/\A.cell? ⟨gc,A5+1,none⟩=some (.string a1)/\A.cell? ⟨gc,A5+2,none⟩=some (.string d6)/\A.cell? ⟨gc,A5+3,none⟩=some (.bool s1)/\A.cell? ⟨gc,A5+4,none⟩=some (.slice z1 n1 d8)/\A.cell? ⟨gc,A5+5,none⟩=some (.bool y1)/\A.cell? ⟨gc,A5+6,none⟩=some (.slice Vs eb d7)/\A.cell? ⟨gc,A5+7,none⟩=some (.int .i64 p1)/\A.cell? ⟨gr,xT,none⟩=some (.int .i64 o2)/\A.cell? ⟨gr,xT+1,none⟩=some (.string a2)/\A.cell? ⟨gr,xT+2,none⟩=some (.string b2)/\A.cell? ⟨gr,xT+3,none⟩=some (.string c2)/\A.cell? ⟨gr,xT+4,none⟩=some (.bool y2)/\A.cell? ⟨gr,xT+5,none⟩=some (.slice z2 n2 ea)/\A.cell? ⟨gr,xT+6,none⟩=some (.int .i64 p2))
               (first | with_reducible exact⟨r0,r1,r2,r3,r4,m1,m3,m2,l0,l1,l2,l3,l4,l5,l6,l7,t0,t1,t2,t3,t4,t5,t6⟩ | go_keep)
               (first
                | (go_at_call 15;refine(b6 I _ _ _ qv (dA.kept (aa m gbx))).mono ?_;rintro G wz ⟨Z,pa,ca,rfl,T5⟩;have m:=zh (aa (aa m gbx) Z);have Jk:=zh T5;obtain⟨r0,r1,r2,r3,r4,r5⟩:=bC (bx m gH);have G0:=hlt (bx m gH);obtain⟨m0,m1,-⟩:=bk (bx m oS);have nI:=hlt (bx m oS);have m3:=m.cell Tf (by simp);have m2:=m.cell J0 (by simp);have Tj:=zn OI m.size;have l0:=m.cell lC (by simp);have l1:=m.cell BW (by simp);have l2:=m.cell Ul (by simp);have l3:=m.cell KL (by simp);have l4:=m.cell aX (by simp);have l5:=m.cell EW (by simp);have l6:=m.cell Lj (by simp);have l7:=m.cell BX (by simp);have t0:=m.cell KU (by simp);have t1:=m.cell LP (by simp);have t2:=m.cell xE (by simp);have t3:=m.cell PK (by simp);have t4:=m.cell a5 (by simp);have t5:=m.cell a6 (by simp);have t6:=m.cell Y4 (by simp);have Vt:=zn Tx m.size;have Xd:=zn RB m.size;clear Z T5)
                | (go_at_call 16;refine(ch I _ _ _ qv (pJ.kept (aa m gbx))).mono ?_;rintro G wz ⟨Z,pb,cb,rfl,UF⟩;have UJ:=zh (Jk.kept (aa gbx Z));have m:=zh (aa (aa m gbx) Z);have K7:=zh UF;obtain⟨r0,r1,r2,r3,r4,r5⟩:=bC (bx m gH);have G0:=hlt (bx m gH);obtain⟨m0,m1,-⟩:=bk (bx m oS);have nI:=hlt (bx m oS);have m3:=m.cell Tf (by simp);have m2:=m.cell J0 (by simp);have Tj:=zn OI m.size;have l0:=m.cell lC (by simp);have l1:=m.cell BW (by simp);have l2:=m.cell Ul (by simp);have l3:=m.cell KL (by simp);have l4:=m.cell aX (by simp);have l5:=m.cell EW (by simp);have l6:=m.cell Lj (by simp);have l7:=m.cell BX (by simp);have t0:=m.cell KU (by simp);have t1:=m.cell LP (by simp);have t2:=m.cell xE (by simp);have t3:=m.cell PK (by simp);have t4:=m.cell a5 (by simp);have t5:=m.cell a6 (by simp);have t6:=m.cell Y4 (by simp);have Vt:=zn Tx m.size;have Xd:=zn RB m.size;clear Z UF Jk)
                | (go_at_call 12;refine(Rm I _ _ _ _ _ qv (UJ.kept gbx) (K7.kept gbx)).mono ?_;rintro G wz ⟨rfl,Z⟩;have m:=zh (aa (aa m gbx) Z);obtain⟨r0,r1,r2,r3,r4,r5⟩:=bC (bx m gH);have G0:=hlt (bx m gH);obtain⟨m0,m1,-⟩:=bk (bx m oS);have nI:=hlt (bx m oS);have m3:=m.cell Tf (by simp);have m2:=m.cell J0 (by simp);have Tj:=zn OI m.size;have l0:=m.cell lC (by simp);have l1:=m.cell BW (by simp);have l2:=m.cell Ul (by simp);have l3:=m.cell KL (by simp);have l4:=m.cell aX (by simp);have l5:=m.cell EW (by simp);have l6:=m.cell Lj (by simp);have l7:=m.cell BX (by simp);have t0:=m.cell KU (by simp);have t1:=m.cell LP (by simp);have t2:=m.cell xE (by simp);have t3:=m.cell PK (by simp);have t4:=m.cell a5 (by simp);have t5:=m.cell a6 (by simp);have t6:=m.cell Y4 (by simp);have Vt:=zn Tx m.size;have Xd:=zn RB m.size;clear Z UJ K7))
              all_goals
               go_wp2_with fail
               go_meet
               exact⟨rfl,m⟩
            | I::ax::r,yv=>exact absurd GE.one (by rw [yv];simp)
           case rest=>
            obtain⟨rfl,hcut⟩:=hcut
            have ZH:=zh (aa aO hcut.out)
            clear hcut q1 q2 m
            go_wp2_with fail
            go_roundw
            case rel=>exact⟨ak+1,by omega,by go_num,ZH⟩
            case measure=>(simp [intOf]<;>omega)
         ·obtain rfl:ak=np:=by omega
          have i5:decide (ak<ak)=false:=by simp
          have i6:decide ((ak:Int)<(ak:Int))=false:=by simp
          have ZH:=zh (aa BP cW)
          go_wp2_with fail
          go_roundw
          case rel=>exact⟨j+1,by omega,by go_num,ZH⟩
          case measure=>(simp [intOf]<;>omega)
    ·obtain rfl:j=ao:=by omega
     have i3:decide (j<j)=false:=by simp
     have i4:decide ((j:Int)<(j:Int))=false:=by simp
     go_wp2_with fail
     go_ret
     exact⟨rfl,aa cG cW⟩
 ·rw [if_pos eM] at he
  subst he
  unfold fT
  obtain⟨bn,hE⟩:=zx (eE l 100 false).2.1
  obtain⟨dR,hQ⟩:=zx (eE l 100 false).2.2
  rw [hE] at eM
  rw [hE,hQ]
  have f1:((bn:Int) != 0)=true:=bne_iff_ne.2 (by omega)
  have eF:(bn != 0)=true:=bne_iff_ne.2 eM
  clear hE hQ eM fP yZ bu
  go_wp2_with fail
  obtain⟨W,b0,b1,hW,e0,e1,cS,dq,dp,lu⟩:=two w1 (.cells #[.slice none 0 0,.slice none 0 0] 26) (.cells #[.int .i64 (bn:Int),.int .i64 (dR:Int)] 29)
  have bS:=zh dq
  have bF:=zh (aa fu dp)
  try rw [<-hW]
  try rw [e1]
  try rw [e0]
  clear e0 e1 hW cS dq dp
  refine(OP _ (iF.kept bF) (fc.kept bF)).mono ?_
  rintro G w2 ⟨rfl,bL⟩
  have gH:=zh (bx bL bS)
  have gA:=zh (aa bF bL)
  obtain⟨a0,a1,a2⟩:=ac gH
  have Sv:b1<w2.heap.size:=hlt gH
  clear bL
  go_wp2_with fail
  go_ret
  exact⟨rfl,af gA _⟩
end Go.Proofs.YtpkipghjohomcaaGreatDoor
