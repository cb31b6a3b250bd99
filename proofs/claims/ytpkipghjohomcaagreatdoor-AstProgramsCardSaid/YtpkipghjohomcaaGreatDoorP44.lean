/- Lemmas. -/
import Derived.Test.YtpkipghjohomcaaGreatDoorP38
set_option linter.unusedVariables false
set_option linter.unusedSimpArgs false
set_option maxHeartbeats 16000000
set_option maxRecDepth 100000
namespace Go.Proofs.YtpkipghjohomcaaGreatDoor
open Go.RowKit List Nat Go.World
theorem EN {w:World} {G:Option Addr} {l:List (List UInt8×Nat)} (h:GAt 2 w G (l.map iK)) {j:Nat} {x:List UInt8×Nat} (J:l[j]? = some x):∃g m,G=some ⟨g,m,none⟩/\g<w.heap.size/\w.cell? ⟨g,m+j*2,none⟩=some (.string ⟨x.1.toArray⟩)/\w.cell? ⟨g,m+j*2+1,none⟩=some (.int .i64 (x.2:Int)):=by
 have B:(l.map iK)[j]? = some (iK x):=by rw [getElem?_map,J];rfl
 obtain⟨g,m,rfl,H,A⟩:=h.resolve_left (fun I=>by rw [I] at B;simp at B)
 have A:=A j _ B
 have E:=A 0 _ rfl
 rw [Nat.add_zero] at E
 exact⟨g,m,rfl,H,E,A 1 _ rfl⟩
theorem US {W:World} {b B:Nat} (h:W.heap[b]? = some (.cells #[.pointer none,.slice none 0 0] 96 (0,0))) (m:B<=b):Lib.IsBuilder 96 5 B b [] W:=
 .inl ⟨m,.slice none 0 0,h,ownsRow_nil _ _ _ _,by simp [Value.ownBlock]⟩
theorem Iq (F:Nat->Prop) (P:Px) (q:List Value) (w:World) (L:gq F w P q) (hb:PBd P):
  Calls Tryz.prog 9 #[.agg q.toArray] w (pq (si P) w):=by
 replace L:=L.bound
 obtain⟨pi,ci,pd,cd,fH,rfl,Uu,fe,rP,au,PL⟩:=L
 have ur:=zh (Co hb)
 have xw:Hid (si P=P.imps.flatMap fO++P.defs.flatMap jF):=zh rfl
 have jI:=zh hb
 have jm:=zh (fun (W:World) (hg:w.grownBy W none)=>eq (S:=fun _=>False) (F:=fun I=>F I/\I<w.heap.size) (length_map _) Uu au (Fr2.none hg) (fun _ _ h=>h))
 have bM:=zh (fun (W:World) (hg:w.grownBy W none)=>(show GAt 15 W pd fH/\dG (fun I=>F I/\I<w.heap.size) W P.defs fH from⟨eq (S:=fun _=>False) (F:=fun I=>F I/\I<w.heap.size) (mp rP) fe PL (Fr2.none hg) (fun _ _ h=>h),ol rP hg⟩))
 obtain⟨H,hn⟩:=zx P.imps.length
 obtain⟨m,hm⟩:=zx P.defs.length
 have HN:=zh hn;have HM:=zh hm
 have hi:H<=10000:=by rw [<-hn];exact hb.few
 have hd:m<=10000:=by rw [<-hm];exact hb.fewd
 rw [hn,hm]
 clear Uu fe rP au PL hb hn hm
 go_enter Tryz.func9,Tryz.ntmps9
 go_wp2_with fail
 obtain⟨W,b0,A,hW,Y,Z,cS,dq,dp,lu⟩:=two w (.cells #[.slice pi H ci,.slice pd m cd] 35) (.cells #[.pointer none,.slice none 0 0] 96)
 have bB:=zh cS;have bm:=zh dp
 have ay:Hid (PD A A [] W):=zh ⟨US dq (Nat.le_refl _),Nat.le_of_lt (hlt dq)⟩
 have dP:Hid (b0<A/\w.heap.size=b0):=zh ⟨lu,Y⟩
 try rw [<-hW]
 try rw [Z]
 try rw [Y]
 clear cS dq dp Y Z hW lu
 go_loopg [11] H (fun gk iv wr=>∃E:Nat,E<=H/\iv=.int .i64 (E:Int)/\H - E<=gk/\gk<=H/\Hid (PD A A ((P.imps.take E).flatMap fO) wr)/\Hid (Below A W wr))
 case atStart=>exact⟨0,zero_le _,rfl,by omega,Nat.le_refl _,ay,zh (Below.refl _ _)⟩
 case round=>
  obtain⟨E,hj,rfl,Qc,Zn,lT,nz⟩:=hrel
  have cW:Hid (w.grownBy wr none):=zh (bj (Below.trans2 (Below.gb bm (Nat.le_refl _)) (Below.mono nz (by have:=dP.out;omega))))
  by_cases av:E<H
  ·obtain⟨J,L⟩:∃J,P.imps[E]? = some J:=⟨P.imps[E]'(by rw [HN.out];exact av),QS _⟩
   obtain⟨aX,a0,rfl,bN,c0,c1⟩:=EN (jm wr cW) L
   have cu:Hid ((P.imps.take (E+1)).flatMap fO=(P.imps.take E).flatMap fO++fO J):=zh (ib fO L)
   have TS:Hid (((P.imps.take E).flatMap fO).length+(8+J.1.length)<=20000000000000):=zh (by
    have h1:=gS fO P.imps (E+1)
    have h2:=ur.out
    rw [xw.out,Q2] at h2
    rw [cu.out,Q2] at h1
    have h3:(fO J).length=8+J.1.length:=by unfold fO;simp only [hJ,Q2,length_nil];omega
    omega)
   have T6:=jI.imps J (gn L)
   obtain⟨yf,nZ⟩:∃ap:ByteArray,(⟨J.1.toArray⟩:ByteArray)=ap:=⟨_,rfl⟩
   have Fc:Hid (yf.data.toList=J.1):=zh (by rw [<-nZ])
   rw [nZ] at c0
   have kw:=aV Fc
   have k1:¬ 9223372036854775807<7+yf.size:=by omega
   have k2:¬ 9223372036854775807<7+yf.size+1:=by omega
   obtain⟨xp,YP⟩:=zx J.2
   rw [YP] at c1
   have i1:(0:Int)<=(E:Int):=by omega
   have i2:(E:Int)<(H:Int):=by omega
   have i3:decide (E<H)=true:=zd av
   have i4:decide ((E:Int)<(H:Int))=true:=zd i2
   have ik:Hid (A<=wr.heap.size):=zh lT.2
   clear L nZ kw YP T6
   go_wp2_with fail
   refine(tT A A _ _ _ (lT.gb (qn wr _ none)) (by
    unfold Room
    have h1:=TS.out;have h3:=aV Fc
    simp only [ByteArray.size_append]
    have R:(⟨#[105,109,112,111,114,116,32]⟩:ByteArray).size=7:=rfl
    have e2:(⟨#[10]⟩:ByteArray).size=1:=rfl
    omega)).mono ?_
   rintro R W3 ⟨rfl,jL,fa,-⟩
   have My:Hid (PD A A ((P.imps.take (E+1)).flatMap fO) W3):=zh (by
    have R:((⟨#[105,109,112,111,114,116,32]⟩:ByteArray)++yf++⟨#[10]⟩).data.toList=fO J:=by simp [bo,Fc.out,fO]
    rw [cu.out,<-R];exact jL)
   have ie:Hid (Below A W W3):=zh (Below.trans2 nz (Below.trans2 (Below.gb (qn wr _ none) ik) fa))
   have Wg:H<=10000:=hi
   have aJ:IntKind.i64.wrap ((E:Int)+1)=((E+1:Nat):Int):=by rw [IntWalk.i64_in _ (by omega)];omega
   clear jL fa c0 c1 k1 k2
   go_wp2_with fail
   go_roundg (H - (E+1))
   case measure=>omega
   case rel=>exact⟨E+1,by omega,by first | rfl | go_num,Nat.le_refl _,by omega,My,ie⟩
  ·obtain rfl:E=H:=by omega
   have NN:=lT.out
   rw [V7 (by have:=HN.out;omega)] at NN
   have PX:=zh NN
   have bV:Hid (wr.heap[b0]? = some (.cells #[.slice pi E ci,.slice pd m cd] 35 (0,0))):=zh ((nz.block b0 dP.1).trans bB)
   obtain⟨d0,d1,d2⟩:=ac bV
   have dZ:b0<wr.heap.size:=hlt bV
   have ax:=nz
   clear NN lT nz
   go_wp2_with fail
   clear d0 d1 d2 dZ
   go_loopg [24] m (fun gk iv wr=>∃B:Nat,B<=m/\iv=.int .i64 (B:Int)/\m - B<=gk/\gk<=m/\Hid (PD A A (P.imps.flatMap fO++(P.defs.take B).flatMap jF) wr)/\Hid (Below A W wr))
   case atStart=>exact⟨0,zero_le _,rfl,by omega,Nat.le_refl _,zh (by rw [take_zero,flatMap_nil,append_nil];exact PX),ax⟩
   case round=>
    obtain⟨B,ZC,rfl,Zx,aL,ao,Zs⟩:=hrel
    have kY:Hid (w.grownBy wr none):=zh (bj (Below.trans2 (Below.gb bm (Nat.le_refl _)) (Below.mono Zs (by have:=dP.out;omega))))
    have ik:Hid (A<=wr.heap.size):=zh ao.2
    by_cases xS:B<m
    ·obtain⟨O,P4⟩:∃O,P.defs[B]? = some O:=⟨P.defs[B]'(by rw [HM.out];exact xS),QS _⟩
     obtain⟨fe,rP⟩:=bM wr kY
     obtain⟨qd,OV,U⟩:=AG rP P4
     have WJ:=U
     obtain⟨pp,np,cp,eJ,pc,nc,cc,qb,rfl,-,aq,-,-⟩:=WJ
     obtain⟨o9,p9,a9,b9,s9,y9,z9,uP,n9,c9,uc,ut,rfl⟩:=aq.form
     simp only [cons_append,nil_append] at U OV
     clear aq
     obtain⟨gd,aO,rfl,R7,G⟩:=fe.resolve_left (fun R=>by rw [R] at OV;simp at OV)
     have G:=G B _ OV
     have Y:=G 0 _ rfl
     have Z:=G 1 _ rfl
     have e2:=G 2 _ rfl
     have e3:=G 3 _ rfl
     have e4:=G 4 _ rfl
     have e5:=G 5 _ rfl
     have e6:=G 6 _ rfl
     have e7:=G 7 _ rfl
     have e8:=G 8 _ rfl
     have e9:=G 9 _ rfl
     have qC:=G 10 _ rfl
     have rG:=G 11 _ rfl
     have qR:=G 12 _ rfl
     have rh:=G 13 _ rfl
     have rS:=G 14 _ rfl
     rw [Nat.add_zero] at Y
     obtain⟨yn,vt⟩:∃ap:ByteArray,(⟨O.res.nm.toArray⟩:ByteArray)=ap:=⟨_,rfl⟩
     unfold aD at Z U
     rw [vt] at Z U
     have iS:=jI.defs O (gn P4)
     have cu:Hid ((P.defs.take (B+1)).flatMap jF=(P.defs.take B).flatMap jF++jF O):=zh (ib jF P4)
     have TS:Hid (Room (P.imps.flatMap fO++(P.defs.take B).flatMap jF) (jF O).length):=zh (by
      have h1:=gS jF P.defs (B+1)
      have h2:=ur.out
      rw [xw.out,Q2] at h2
      rw [cu.out,Q2] at h1
      unfold Room
      rw [Q2]
      omega)
     have bX:=zh (fun W' (h:wr.grownBy W' none) (h2:PD A A (P.imps.flatMap fO++(P.defs.take B).flatMap jF) W')=>Kx (fun I=>F I/\I<w.heap.size) A A (fun I hk=>by have h3:=hk.2;have h4:=dP.out;omega) _ O _ W' h2 (U.kept h) iS TS)
     have i1:(0:Int)<=(B:Int):=by omega
     have i2:(B:Int)<(m:Int):=by omega
     have i3:decide (B<m)=true:=zd xS
     have i4:decide ((B:Int)<(m:Int))=true:=zd i2
     clear P4 OV U G iS vt fe rP
     go_wp2_with fail
     refine(bX _ (qn wr _ none) (ao.gb (qn wr _ none))).mono ?_
     rintro R W3 ⟨rfl,jL,fa,-⟩
     have My:Hid (PD A A (P.imps.flatMap fO++(P.defs.take (B+1)).flatMap jF) W3):=zh (by rw [cu.out,<-append_assoc];exact jL)
     have ie:Hid (Below A W W3):=zh (Below.trans2 Zs (Below.trans2 (Below.gb (qn wr _ none) ik) fa))
     have Wg:m<=10000:=hd
     have aJ:IntKind.i64.wrap ((B:Int)+1)=((B+1:Nat):Int):=by rw [IntWalk.i64_in _ (by omega)];omega
     clear jL fa Y Z e2 e3 e4 e5 e6 e7 e8 e9 qC rG qR rh rS bX
     go_wp2_with fail
     go_roundg (m - (B+1))
     case measure=>omega
     case rel=>exact⟨B+1,by omega,by first | rfl | go_num,Nat.le_refl _,by omega,My,ie⟩
    ·obtain rfl:B=m:=by omega
     have ak:=ao.out
     rw [V7 (by have:=HM.out;omega),<-xw.out] at ak
     have Ov:=zh (Tryz.Builder_String_any_k A A _ wr (Lib.IsBuilderF.of ak.1) ak.2)
     clear ak
     go_wp2_with fail
     refine Ov.mono ?_
     rintro R w7 ⟨rfl,-,Dy,-⟩
     have cG:Hid (w.grownBy w7 none):=zh (bj (Below.trans2 (Below.gb kY (Nat.le_refl _)) (Below.mono Dy (by have:=dP.out;omega))))
     clear Dy
     go_wp2_with fail
     go_ret
     exact⟨⟨_,rfl,rfl⟩,cG⟩
end Go.Proofs.YtpkipghjohomcaaGreatDoor
