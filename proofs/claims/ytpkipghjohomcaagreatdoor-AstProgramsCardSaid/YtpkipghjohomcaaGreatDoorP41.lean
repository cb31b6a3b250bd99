/- Lemmas. -/
import Derived.Test.YtpkipghjohomcaaGreatDoorP43
set_option linter.unusedVariables false
set_option linter.unusedSimpArgs false
set_option maxHeartbeats 32000000
set_option maxRecDepth 100000
namespace Go.Proofs.YtpkipghjohomcaaGreatDoor
open Go.RowKit List Nat Go.World
theorem ig.fourt {F:Nat->Prop} {w:World} {d:Dx} {q:List Value} (h:ig F w d q):∃E q1 q2 q3 q4 G H I J L A B m O,q = [E,q1,q2,q3,q4,G,H,I,J,L,A,B,m,O]:=by
 obtain⟨pp,cp,nm,ak,pc,nc,cc,ps,Z,op,R,Y,ao,ap,pk,nk,ck,U,rfl⟩:=h.form
 exact⟨_,_,_,_,_,_,_,_,_,_,_,_,_,_,rfl⟩
theorem abw (T:List Tok) (N:List Nd) (K:Nat->Option Addr×Nat) (pt pn:Option Addr) (ct cn:Nat) (av:RIH T N K pt pn ct cn 150000) (hT:T.length<=40000) (hN:N.length<=150000)
  (n:Nat) (ay:N.length=n+1) (kd:Int) (ks:List Int) (l:List Tr) (hx:N[n]? = some ⟨kd,-1,ks⟩) (hk:KT N n ks l) (dx:fj l) (eB:∀z∈cg l,z<T.length) (fG:bK l<=149999) (eM:∀t∈l,OkP T t) (iS:∀i,(tkT T i).pos<=1000000/\(tkT T i).text.length<=1000000)
  (w:World) (ht:bl w pt (T.map toI)) (hw:al w pn N K):
  Calls Tryz.prog 7 #[.agg #[.slice pt T.length ct,.slice pn N.length cn]] w (vc (bg T l) w):=by
 obtain⟨g,aq,rfl,bN,c0,c1,c2⟩:=bZ hw hx
 have iE:=zh (hw.2 n _ hx)
 have HW:=zh hw;have HT:=zh ht;have kA:=zh hk;have sE:=zh dx;have lj:=zh fG;have lY:=zh eB;have qk:=zh eM
 have V6:=zh (fun (n:Nat) (ks:List Int) (l:List Tr) (hs:ShD T (.nd 3 l)) hx hk dx eB fG W h1 h2=>Vi T N K pt (some ⟨g,aq,none⟩) ct cn av hT hN n (3:Int) ks l hx hk dx eB fG hs iS W h1 h2)
 have JT:=zh (fun (n j i:Nat) (ks:List Int) (l:List Tr) (hk:KT N n ks l) (hj:l[j]? = some (.lf i)) (hi:i<T.length)=>fV (K:=K) (pt:=pt) (pn:=some ⟨g,aq,none⟩) (ct:=ct) (cn:=cn) hT hN hk hj hi)
 obtain⟨ao,hM⟩:=zx N.length
 obtain⟨tm,kK⟩:=zx T.length
 obtain⟨kl,dU⟩:=zx ks.length
 have P8:kl=l.length:=by rw [<-dU];exact hk.1
 have fP:=zh P8
 have HM:=zh hM;have ue:=zh kK
 have Bo:kl<=150000:=by have:=fw l;omega
 simp only at c0 c1 c2
 rw [hM] at hN ay V6 JT ⊢
 rw [kK] at hT V6 JT ⊢
 rw [dU] at c2
 obtain⟨kq,kV⟩:=zx (K n).1
 obtain⟨kc,px⟩:=zx (K n).2
 have iE:Hid (VAt w kq (ar ks)):=zh (by rw [<-kV];exact iE)
 rw [kV,px] at c2
 have bm:IntKind.i64.wrap ((ao:Int) - 1)=(n:Int):=by rw [IntWalk.i64_in _ (by omega)];omega
 have d1:=zE (n<ao)
 have ml:=zE ((n:Int)<(ao:Int))
 have bi:(0:Int)<=(n:Int):=by omega
 have Yv:(n:Int)<(ao:Int):=by omega
 have mR:Hid (g<w.heap.size):=zh bN
 clear av hx hw ht hk hM kK dU kV px dx fG eB eM iS P8 ay
 have jo:=af (af (qn w (.cells #[.slice pt tm ct,.slice (some ⟨g,aq,none⟩) ao cn] 46) none) (.cells #[.slice none 0 0,.slice none 0 0] 41)) (.cells #[.slice none 0 0,.slice none 0 0] 41)
 have c2:=jo.cell c2 (by simp)
 go_enter Tryz.func7,Tryz.ntmps7
 go_wp2_with fail
 obtain⟨W7,b0,b1,B,hW,e0,e1,e2,cS,dq,ec,dp,lu,oR⟩:=three w (.cells #[.slice pt tm ct,.slice (some ⟨g,aq,none⟩) ao cn] 46) (.cells #[.slice none 0 0,.slice none 0 0] 41) (.cells #[.slice none 0 0,.slice none 0 0] 41)
 have ky:W7.heap.size=B+1:=by rw [hW];simp;omega
 have Rn:=zh cS;have X1:=zh dq;have jC:=zh ec;have cG:=zh dp;have gj:=zh e0;have tQ:Hid (B+1<=W7.heap.size):=zh (by omega)
 clear cS dq ec dp c0 c1 c2 jo
 try rw [<-hW]
 try rw [e2]
 try rw [e1]
 try rw [e0]
 clear e0 e1 e2 hW ky
 have a7:w.heap.size<=b1:=by have:=gj.out;omega
 go_loopw [5] (fun iv wr=>∃(j:Nat) (R:List (List Value)) (pi:Option Addr) (ni ci:Nat) (pd:Option Addr) (nd cd:Nat),j<=kl/\iv=.int .i64 (j:Int)/\Hid (wr.heap[B]? = some (.cells #[.slice pi ni ci,.slice pd nd cd] 41 (0,0)))/\Hid (ag 1 9 wr W7.heap.size (.slice pi ni ci) ((bg T (l.take j)).imps.map rx))/\Hid (ag 14 70 wr W7.heap.size (.slice pd nd cd) R)/\Hid (Sep (.slice pi ni ci) (.slice pd nd cd))/\Hid (RDs (fun A=>B+1<=A/\A<wr.heap.size/\¬Wr3 B (.slice pi ni ci) (.slice pd nd cd) A) wr (bg T (l.take j)).defs R)/\Hid (Fr2 (fun A=>A=B) W7 wr)) (fun iv _=>kl - (intOf iv).toNat)
 case atStart=>exact⟨0,[],none,0,0,none,0,0,zero_le _,rfl,jC,zh (by simp [bg];exact ag.nil _ _ _ _),zh (ag.nil _ _ _ _),zh (fun A h=>by cases h),zh (by simp [bg,RDs]),zh (Fr2.refl _ _)⟩
 case round=>
  obtain⟨j,R,pi,ni,ci,pd,nd,cd,hj,rfl,bW,qs,tS,Er,fc,HF⟩:=hrel
  have cW:Hid (w.grownBy wr none):=zh (Fr2.after cG HF (fun i hi=>by have m:i=B:=hi;omega))
  have bV:=zh (HF.keep Rn (by omega));have iN:=zh (HF.keep X1 (by omega))
  have Ez:Hid (B+1<=wr.heap.size):=zh (Nat.le_trans tQ HF.size)
  have rV:=zh (HT.kept cW);have CJ:=zh (HW.kept cW)
  obtain⟨a0,a1,a2⟩:=ac bV
  obtain⟨d0,d1,d2⟩:=ac bW
  have dZ:b0<wr.heap.size:=hlt bV
  have cB:B<wr.heap.size:=hlt bW
  have AR:g<wr.heap.size:=zn mR cW.size
  by_cases a6:j<kl
  ·obtain⟨u,hu⟩:∃u,l[j]? = some u:=⟨l[j]'(by have:=fP.out;omega),QS _⟩
   obtain⟨k1,eD,dK,gW⟩:=kA.2 j u hu
   obtain⟨g1,dR,rfl,je,jx⟩:=bO iE eD
   have mJ:Hid (g1<w.heap.size):=zh je
   have a3:=zh jx
   have jx:=cW.cell jx (by simp)
   have RY:=zh jx
   have aX:g1<wr.heap.size:=zn je cW.size
   have y1:(0:Int)<=(j:Int):=by omega
   have y2:(j:Int)<(kl:Int):=by omega
   have y3:decide (j<kl)=true:=zd a6
   have y4:decide ((j:Int)<(kl:Int))=true:=zd y2
   have x1:(0:Int)<=(k1:Int):=by omega
   have x2:(k1:Int)<(ao:Int):=by omega
   have x3:=zE (k1<ao)
   have x4:decide ((k1:Int)<(ao:Int))=true:=zd x2
   have cu:=zh (zA T hu)
   have j8:=zh (qk u (gn hu))
   obtain⟨bs,bd,aL,-⟩:=qs.is
   have ym:ni=((bg T (l.take j)).imps.map rx).length:=by injection aL
   obtain⟨bq,bc,aJ,-⟩:=tS.is
   have DL:nd=R.length:=by injection aJ
   have Mm:=Dn T (l.take j)
   have rm:=length_take (i:=j) (l:=l)
   have Fs:Hid (((bg T (l.take j)).imps.map rx).length<=1000000):=zh (by rw [length_map];omega)
   have Cc:Hid (R.length<=1000000):=zh (by have h1:=kG fc.out;omega)
   clear aL aJ Mm rm je
   by_cases h2:aU u=2
   ·cases u with
    | lf i=>simp [aU] at h2
    | nd k' l'=>
      have h2:k'=2:=h2
      subst h2
      obtain⟨n',mE,eC,dO,gD⟩:=dK.nd
      have eC:k1=n':=by omega
      subst eC
      have mI:∀z∈cg l',z<T.length:=fun z hz=>lY z (dy hu z (by simp only [lvT];exact hz))
      obtain⟨i9,n9,m9,rfl⟩:=j8.1 l' rfl
      obtain⟨k6,ak,z1,z2,ap,my,EQ,jy,hL⟩:=JT k1 1 n9 mE _ gD rfl (by rw [<-ue.out];exact mI n9 (by simp [cg,lvT]))
      have HL:=zh hL
      obtain⟨g',nS,fQ,-,n0,n1,n2⟩:=bZ HW dO
      injection fQ with fQ;injection fQ with es cI;subst es cI
      have V5:=HW.2 k1 _ dO
      obtain⟨xl,rQ⟩:=zx mE.length
      simp only at n0 n1 n2
      rw [rQ] at n2
      obtain⟨bn,xQ⟩:=zx (K k1).1
      obtain⟨PZ,Dg⟩:=zx (K k1).2
      rw [xQ] at V5 n2
      rw [Dg] at n2
      obtain⟨g6,su,rfl,G7,ce⟩:=bO V5 my
      have a4:=zh n0
      have n0:=cW.cell n0 (by simp)
      have n2:=cW.cell n2 (by simp)
      have ce:=cW.cell ce (by simp)
      have Ks:g6<wr.heap.size:=zn G7 cW.size
      have dP:Hid (b0<W7.heap.size/\g1<W7.heap.size/\g<W7.heap.size/\g6<W7.heap.size):=zh (by have h1:=tQ.out;have h2:=gj.out;have h3:=mJ.out;have h4:=mR.out;omega)
      have Fg:1<xl:=by rw [<-rQ];exact(Q4.1 my).1
      have v1:(1:Int)<(xl:Int):=by omega
      have v2:decide ((1:Int)<(xl:Int))=true:=zd v1
      have v3:decide (1<xl)=true:=zd Fg
      have KP:=zh ce;have mz:=zh n2
      have xL:Hid ((bg T (l.take (j+1))).imps.map rx=(bg T (l.take j)).imps.map rx++[[.string z2]]/\(bg T (l.take (j+1))).defs=(bg T (l.take j)).defs):=zh ⟨by
       rw [cu.1,if_pos (show aU (.nd 2 [Tr.lf i9,Tr.lf n9,Tr.lf m9])=2 from rfl),map_append]
       congr 1
       show [rx (Cf T [Tr.lf i9,Tr.lf n9,Tr.lf m9])]=_
       have e1:Cf T [Tr.lf i9,Tr.lf n9,Tr.lf m9]=((tkT T n9).text,(tkT T n9).pos):=rfl
       rw [e1];unfold rx aD;rw [EQ],by rw [cu.2,if_neg (show ¬aU (.nd 2 [Tr.lf i9,Tr.lf n9,Tr.lf m9])=3 by simp [aU]),append_nil]⟩
      obtain⟨LI,ax⟩:=zx ((bg T (l.take j)).imps.map rx)
      rw [ax] at xL qs Fs ym
      have a8:=zh ym
      have zW:=lK
      clear hu eD dK gW dO gD mI my EQ jy hL V5 rQ xQ Dg j8 cu DL ax ym
      go_wp2_with fail
      go_quiet (fail)
      go_wp2_with fail
      refine mM (S:=fun w'=>w'.cell? ⟨b0,0,none⟩=some (.slice pt tm ct)/\w'.cell? ⟨b0,1,none⟩=some (.slice (some ⟨g,aq,none⟩) ao cn)/\w'.cell? ⟨B,0,none⟩=some (.slice pi ni ci)/\w'.cell? ⟨g1,dR+j,none⟩=some (.int .i64 (k1:Int))/\w'.cell? ⟨g,aq+k1*3+2,none⟩=some (.slice (some ⟨g6,su,none⟩) xl PZ)/\w'.cell? ⟨g6,su+1,none⟩=some (.int .i64 (k6:Int))) (z:=19) (by kernel_rfl) (by first | with_reducible exact⟨a0,a1,d0,jx,n2,ce⟩ | go_keep) (fun G=>?_)
      refine' aF (i:=0) (oi:=_) (v:=_) ?him0 (by kernel_rfl) (by kernel_rfl) (by kernel_rfl) (by kernel_rfl) ?hQm0 ?hwm0 ?hym0 G ?hnm0
      case him0=>(simp only [Q7,kT,vd];rfl)
      case hQm0=>exact fun _ _ _ h=>h
      case hwm0=>rfl
      case hym0=>(intro w E;obtain⟨Y,kj,li,Z,mW,mZ⟩:=E;go_simp;try with_reducible rfl)
      try simp only [Act.put,Q5,fk,fz]
      refine' aF (i:=1) (oi:=_) (v:=_) ?him1 (by kernel_rfl) (by kernel_rfl) (by kernel_rfl) (by kernel_rfl) ?hQm1 ?hwm1 ?hym1 G ?hnm1
      case him1=>(simp only [Q7,kT,vd];rfl)
      case hQm1=>exact fun _ _ _ h=>h
      case hwm1=>rfl
      case hym1=>(intro w E;obtain⟨Y,kj,li,Z,mW,mZ⟩:=E;go_simp;try with_reducible rfl)
      try simp only [Act.put,Q5,fk,fz]
      refine' aF (i:=2) (oi:=_) (v:=_) ?him2 (by kernel_rfl) (by kernel_rfl) (by kernel_rfl) (by kernel_rfl) ?hQm2 ?hwm2 ?hym2 G ?hnm2
      case him2=>(simp only [Q7,kT,vd];rfl)
      case hQm2=>exact fun _ _ _ h=>h
      case hwm2=>rfl
      case hym2=>(intro w E;obtain⟨Y,kj,li,Z,mW,mZ⟩:=E;go_simp;try with_reducible rfl)
      try simp only [Act.put,Q5,fk,fz]
      refine' aF (i:=3) (oi:=_) (v:=_) ?him3 (by kernel_rfl) (by kernel_rfl) (by kernel_rfl) (by kernel_rfl) ?hQm3 ?hwm3 ?hym3 G ?hnm3
      case him3=>(simp only [Q7,kT,vd];rfl)
      case hQm3=>exact fun _ _ _ h=>h
      case hwm3=>rfl
      case hym3=>(intro w E;obtain⟨Y,kj,li,Z,mW,mZ⟩:=E;go_simp;try with_reducible rfl)
      try simp only [Act.put,Q5,fk,fz]
      refine' aF (i:=4) (oi:=_) (v:=_) ?him4 (by kernel_rfl) (by kernel_rfl) (by kernel_rfl) (by kernel_rfl) ?hQm4 ?hwm4 ?hym4 G ?hnm4
      case him4=>(simp only [Q7,kT,vd];rfl)
      case hQm4=>exact fun _ _ _ h=>h
      case hwm4=>rfl
      case hym4=>(intro w E;obtain⟨Y,kj,li,Z,mW,mZ⟩:=E;go_simp;try with_reducible rfl)
      try simp only [Act.put,Q5,fk,fz]
      refine' aF (i:=5) (oi:=_) (v:=_) ?him5 (by kernel_rfl) (by kernel_rfl) (by kernel_rfl) (by kernel_rfl) ?hQm5 ?hwm5 ?hym5 G ?hnm5
      case him5=>(simp only [Q7,kT,vd];rfl)
      case hQm5=>exact fun _ _ _ h=>h
      case hwm5=>rfl
      case hym5=>(intro w E;obtain⟨Y,kj,li,Z,mW,mZ⟩:=E;go_simp;try with_reducible rfl)
      try simp only [Act.put,Q5,fk,fz]
      refine' aF (i:=6) (oi:=_) (v:=_) ?him6 (by kernel_rfl) (by kernel_rfl) (by kernel_rfl) (by kernel_rfl) ?hQm6 ?hwm6 ?hym6 G ?hnm6
      case him6=>(simp only [Q7,kT,vd];rfl)
      case hQm6=>exact fun _ _ _ h=>h
      case hwm6=>rfl
      case hym6=>(intro w E;obtain⟨Y,kj,li,Z,mW,mZ⟩:=E;go_simp;try with_reducible rfl)
      try simp only [Act.put,Q5,fk,fz]
      refine' aF (i:=7) (oi:=_) (v:=_) ?him7 (by kernel_rfl) (by kernel_rfl) (by kernel_rfl) (by kernel_rfl) ?hQm7 ?hwm7 ?hym7 G ?hnm7
      case him7=>(simp only [Q7,kT,vd];rfl)
      case hQm7=>exact fun _ _ _ h=>h
      case hwm7=>rfl
      case hym7=>(intro w E;obtain⟨Y,kj,li,Z,mW,mZ⟩:=E;go_simp;try with_reducible rfl)
      try simp only [Act.put,Q5,fk,fz]
      refine' aF (i:=8) (oi:=_) (v:=_) ?him8 (by kernel_rfl) (by kernel_rfl) (by kernel_rfl) (by kernel_rfl) ?hQm8 ?hwm8 ?hym8 G ?hnm8
      case him8=>(simp only [Q7,kT,vd];rfl)
      case hQm8=>exact fun _ _ _ h=>h
      case hwm8=>rfl
      case hym8=>(intro w E;obtain⟨Y,kj,li,Z,mW,mZ⟩:=E;go_simp;try with_reducible rfl)
      try simp only [Act.put,Q5,fk,fz]
      refine' aF (i:=9) (oi:=_) (v:=_) ?him9 (by kernel_rfl) (by kernel_rfl) (by kernel_rfl) (by kernel_rfl) ?hQm9 ?hwm9 ?hym9 G ?hnm9
      case him9=>(simp only [Q7,kT,vd];rfl)
      case hQm9=>exact fun _ _ _ h=>h
      case hwm9=>rfl
      case hym9=>(intro w E;obtain⟨Y,kj,li,Z,mW,mZ⟩:=E;go_simp;try with_reducible rfl)
      try simp only [Act.put,Q5,fk,fz]
      refine' aF (i:=10) (oi:=_) (v:=_) ?him10 (by kernel_rfl) (by kernel_rfl) (by kernel_rfl) (by kernel_rfl) ?hQm10 ?hwm10 ?hym10 G ?hnm10
      case him10=>(simp only [Q7,kT,vd];rfl)
      case hQm10=>exact fun _ _ _ h=>h
      case hwm10=>rfl
      case hym10=>(intro w E;obtain⟨Y,kj,li,Z,mW,mZ⟩:=E;go_simp;try with_reducible rfl)
      try simp only [Act.put,Q5,fk,fz]
      refine' aF (i:=11) (oi:=_) (v:=_) ?him11 (by kernel_rfl) (by kernel_rfl) (by kernel_rfl) (by kernel_rfl) ?hQm11 ?hwm11 ?hym11 G ?hnm11
      case him11=>(simp only [Q7,kT,vd];rfl)
      case hQm11=>exact fun _ _ _ h=>h
      case hwm11=>rfl
      case hym11=>(intro w E;obtain⟨Y,kj,li,Z,mW,mZ⟩:=E;go_simp;try with_reducible rfl)
      try simp only [Act.put,Q5,fk,fz]
      refine' aF (i:=12) (oi:=_) (v:=_) ?him12 (by kernel_rfl) (by kernel_rfl) (by kernel_rfl) (by kernel_rfl) ?hQm12 ?hwm12 ?hym12 G ?hnm12
      case him12=>(simp only [Q7,kT,vd];rfl)
      case hQm12=>exact fun _ _ _ h=>h
      case hwm12=>rfl
      case hym12=>(intro w E;obtain⟨Y,kj,li,Z,mW,mZ⟩:=E;go_simp;try with_reducible rfl)
      try simp only [Act.put,Q5,fk,fz]
      refine' aF (i:=13) (oi:=_) (v:=_) ?him13 (by kernel_rfl) (by kernel_rfl) (by kernel_rfl) (by kernel_rfl) ?hQm13 ?hwm13 ?hym13 G ?hnm13
      case him13=>(simp only [Q7,kT,vd];rfl)
      case hQm13=>exact fun _ _ _ h=>h
      case hwm13=>rfl
      case hym13=>(intro w E;obtain⟨Y,kj,li,Z,mW,mZ⟩:=E;go_simp;try with_reducible rfl)
      try simp only [Act.put,Q5,fk,fz]
      refine' eQ (i:=14) (o:=_) ?hrm14 ?hom14 (fun K U=>?_)
      case hrm14=>kernel_rfl
      case hom14=>(simp only [Q7,kT,vd];rfl)
      go_simp
      go_at_call 25
      refine(HL _ (rV.kept gby) (CJ.kept gby)).mono ?_
      rintro m H ⟨rfl,bH⟩
      have I:=zh (aa (show wr.grownBy _ none from gby) bH)
      obtain⟨a0,a1,a2⟩:=ac (bx I bV)
      obtain⟨d0,d1,d2⟩:=ac (bx I bW)
      have dZ:b0<H.heap.size:=hlt (bx I bV)
      have cB:B<H.heap.size:=hlt (bx I bW)
      have jx:=I.cell RY (by simp)
      have n2:=I.cell mz (by simp)
      have ce:=I.cell KP (by simp)
      have O:=zh (qs.kept I)
      have yz:=zh (bx I bW)
      have gO:Hid (W7.heap.size<=H.heap.size):=zh (Nat.le_trans HF.size I.size)
      have iH:=zh (YK H (.cells #[.string z2] 9))
      clear bH
      go_wp2_with fail
      refine U.out _ _ (fun _=>(by first | with_reducible exact⟨a0,a1,d0,jx,n2,ce⟩ | go_keep)) (fun hH=>?_)
      have G:=hH (by decide)
      clear U hH K
      try simp only [Act.put,Q5,fk,fz]
      refine' aF (i:=15) (oi:=_) (v:=_) ?him15 (by kernel_rfl) (by kernel_rfl) (by kernel_rfl) (by kernel_rfl) ?hQm15 ?hwm15 ?hym15 G ?hnm15
      case him15=>(simp only [Q7,kT,vd];rfl)
      case hQm15=>exact fun _ _ _ h=>h
      case hwm15=>rfl
      case hym15=>(intro w E;obtain⟨Y,kj,li,Z,mW,mZ⟩:=E;go_simp;try with_reducible rfl)
      try simp only [Act.put,Q5,fk,fz]
      refine' eQ (i:=16) (o:=_) ?hrm16 ?hom16 (fun K U=>?_)
      case hrm16=>kernel_rfl
      case hom16=>(simp only [Q7,kT,vd];rfl)
      go_simp
      refine U.out _ _ (fun _=>(by first | with_reducible exact⟨a0,a1,d0,jx,n2,ce⟩ | go_keep)) (fun hH=>?_)
      have G:=hH (by decide)
      clear U hH K
      try simp only [Act.put,Q5,fk,fz]
      refine' eQ (i:=17) (o:=_) ?hrm17 ?hom17 (fun K U=>?_)
      case hrm17=>kernel_rfl
      case hom17=>(simp only [Q7,kT,vd];rfl)
      refine eG (s:=1) (t:=38) (T:=9) (by decide) Tryz.underlying38 Tv rfl (by omega) rfl _ _ rfl W7.heap.size LI [.string z2] rfl (fun u hu=>by simp at hu;rcases hu with rfl;rfl) (.slice pi ni ci) rfl (ag.kept O gby) H.heap.size _ rfl (by exact iH) rfl Fs (by have:=gO.out;simp;omega) (H.heap.size+1) (by simp) ?_
      intro L J wa fM bH el
      have iJ:=(bH.block B (by simp;omega) (fun m=>by have:=(ag.at O B m.symm).1;have:=tQ.out;omega)).trans (show _=_ from bx (show H.grownBy _ none from gby) yz)
      obtain⟨r0,r1,r2⟩:=ac iJ
      have fW:=zh iJ
      have ji:=zh fM
      have ii:=zh bH
      have oC:=zh el
      have cB:B<wa.heap.size:=hlt iJ
      have a0:=bH.cell ((show H.grownBy _ none from gby).cell a0 (by simp)) (fun m=>by have qj:=dP.out;first | (have:=(ag.at O _ m).1;simp only at this;omega) | (have:=(ag.at O _ m.symm).1;simp only at this;omega))
      have a1:=bH.cell ((show H.grownBy _ none from gby).cell a1 (by simp)) (fun m=>by have qj:=dP.out;first | (have:=(ag.at O _ m).1;simp only at this;omega) | (have:=(ag.at O _ m.symm).1;simp only at this;omega))
      have jx:=bH.cell ((show H.grownBy _ none from gby).cell jx (by simp)) (fun m=>by have qj:=dP.out;first | (have:=(ag.at O _ m).1;simp only at this;omega) | (have:=(ag.at O _ m.symm).1;simp only at this;omega))
      have n2:=bH.cell ((show H.grownBy _ none from gby).cell n2 (by simp)) (fun m=>by have qj:=dP.out;first | (have:=(ag.at O _ m).1;simp only at this;omega) | (have:=(ag.at O _ m.symm).1;simp only at this;omega))
      have ce:=bH.cell ((show H.grownBy _ none from gby).cell ce (by simp)) (fun m=>by have qj:=dP.out;first | (have:=(ag.at O _ m).1;simp only at this;omega) | (have:=(ag.at O _ m.symm).1;simp only at this;omega))
      clear iJ fM bH el
      refine U.out _ _ (fun _=>(by first | with_reducible exact⟨a0,a1,r0,jx,n2,ce⟩ | go_keep)) (fun hH=>?_)
      have G:=hH (by decide)
      clear U hH K
      try simp only [Act.put,Q5,fk,fz]
      refine' aF (i:=18) (oi:=_) (v:=_) ?him18 (by kernel_rfl) (by kernel_rfl) (by kernel_rfl) (by kernel_rfl) ?hQm18 ?hwm18 ?hym18 G ?hnm18
      case him18=>(simp only [Q7,kT,vd];rfl)
      case hQm18=>exact fun _ _ _ h=>h
      case hwm18=>rfl
      case hym18=>(intro w E;obtain⟨Y,kj,li,Z,mW,mZ⟩:=E;go_simp;try with_reducible rfl)
      try simp only [Act.put,Q5,fk,fz]
      refine' eQ (i:=19) (o:=_) ?hrm19 ?hom19 (fun K U=>?_)
      case hrm19=>kernel_rfl
      case hom19=>(simp only [Q7,kT,vd];rfl)
      go_simp
      refine U.out _ _ (fun h=>absurd rfl h) (fun _=>?_)
      clear U K
      refine xe (by kernel_rfl) ?_
      have dz:H.grownBy (H.alloc (.cells #[.string z2] 9)) none:=qn _ _ _
      have B5:∀A,(Value.slice pd nd cd).ownBlock=some A->A<wr.heap.size:=fun A m=>(ag.at tS A m).2
      have a5:=I.size
      have fq:Hid ((wa.setCell ⟨B,0,none⟩ (.slice (some ⟨L,0,none⟩) (LI.length+1) J)).heap[B]? = some (.cells #[.slice (some ⟨L,0,none⟩) (LI.length+1) J,.slice pd nd cd] 41 (0,0))):=zh (ab (i:=0) (u:=.slice (some ⟨L,0,none⟩) (LI.length+1) J) fW)
      have iQ:Hid (ag 1 9 (wa.setCell ⟨B,0,none⟩ (.slice (some ⟨L,0,none⟩) (LI.length+1) J)) W7.heap.size (.slice (some ⟨L,0,none⟩) (LI.length+1) J) (LI++[[.string z2]])):=zh (ji.keptS (Fr2.setCell (S:=fun A=>A=B) (Fr2.refl _ _) (g:=B) (j:=0) rfl _) (fun g hg m=>by have:=tQ.out;omega))
      have QA:Hid (ag 14 70 (wa.setCell ⟨B,0,none⟩ (.slice (some ⟨L,0,none⟩) (LI.length+1) J)) W7.heap.size (.slice pd nd cd) R):=zh (((ag.keptR (ag.kept tS (aa I dz)) ii (fun A h1 h2=>Er A h2 h1))).keptS (Fr2.setCell (S:=fun A=>A=B) (Fr2.refl _ _) (g:=B) (j:=0) rfl _) (fun g hg m=>by have:=tQ.out;omega))
      have ru:Hid (Sep (.slice (some ⟨L,0,none⟩) (LI.length+1) J) (.slice pd nd cd)):=zh (qK Er (fun A m=>by have:=B5 A m;omega) oC)
      have oW:Hid (RDs (fun A=>B+1<=A/\A<(wa.setCell ⟨B,0,none⟩ (.slice (some ⟨L,0,none⟩) (LI.length+1) J)).heap.size/\¬Wr3 B (.slice (some ⟨L,0,none⟩) (LI.length+1) J) (.slice pd nd cd) A) (wa.setCell ⟨B,0,none⟩ (.slice (some ⟨L,0,none⟩) (LI.length+1) J)) (bg T (l.take j)).defs R):=zh (Jo (w7:=H) fc I dz (by simp) ii (oC.imp id (fun h=>by omega)))
      have gB:Hid (Fr2 (fun A=>A=B) W7 (wa.setCell ⟨B,0,none⟩ (.slice (some ⟨L,0,none⟩) (LI.length+1) J))):=zh ((HF.low (Below.trans2 (Below.gb I HF.size) (Below.trans2 (Below.gb dz gO) ((Fr2.of ii (S:=fun A=>(Value.slice pi ni ci).ownBlock=some A) (fun A m=>m)).below (by have:=gO.out;simp;omega) (fun A m=>(ag.at O A m).1))))).setCell rfl _)
      clear dz B5 a5 ji fW ii oC iH O yz r0 r1 r2 fc qs tS Er HF jx n2 ce
      obtain⟨W8,Em⟩:=zx ((wa.setCell ⟨B,0,none⟩ (.slice (some ⟨L,0,none⟩) (LI.length+1) J)))
      rw [Em] at fq iQ QA oW gB ⊢
      clear Em a0 a1 a2 d0 d1 d2
      have eY:Hid (w.grownBy W8 none):=zh (Fr2.after cG gB (fun i hi=>by have m:i=B:=hi;omega))
      obtain⟨a0,a1,a2⟩:=ac (gB.keep Rn (by omega))
      have jx:=eY.cell a3 (by simp)
      have n0:=eY.cell a4 (by simp)
      have AR:g<W8.heap.size:=zn mR eY.size
      have aX:g1<W8.heap.size:=zn mJ eY.size
      go_wp2_with fail
      go_quiet (fail)
      go_wp2_with fail
      go_roundw
      case rel=>exact⟨j+1,R,some ⟨L,0,none⟩,LI.length+1,J,pd,nd,cd,by omega,by go_num,zh (bx (am (ad _ _) _) fq),zh (by rw [xL.1];exact iQ.kept (am (ad _ _) _)),zh (QA.kept (am (ad _ _) _)),ru,zh (by rw [xL.2];exact nU oW (am (ad _ _) _)),zh (gB.trans (Fr2.none (am (ad _ _) _)))⟩
      case measure=>simp [intOf];omega
   ·by_cases h3:aU u=3
    ·cases u with
     | lf i=>simp [aU] at h3
     | nd k' l'=>
       have h3:k'=3:=h3
       subst h3
       obtain⟨n',mE,eC,dO,gD⟩:=dK.nd
       have eC:k1=n':=by omega
       subst eC
       have ln:=da sE hu
       simp only [kOk] at ln
       have EI:=zh (fun W h1 h2=>V6 k1 mE l' (j8.2 l' rfl) dO gD ln.2.2 (fun z hz=>by rw [<-ue.out];exact lY z (dy hu z (by simp only [lvT];exact hz))) (by have h9:=eU hu;have h8:=lj.out;simp only [szR] at h9;omega) W h1 h2)
       obtain⟨g',nS,fQ,-,n0,n1,-⟩:=bZ HW dO
       injection fQ with fQ;injection fQ with es cI;subst es cI
       have n0:=cW.cell n0 (by simp)
       have dP:Hid (b0<W7.heap.size/\g1<W7.heap.size/\g<W7.heap.size):=zh (by have h1:=tQ.out;have h2:=gj.out;have h3:=mJ.out;have h4:=mR.out;omega)
       have xL:Hid ((bg T (l.take (j+1))).imps=(bg T (l.take j)).imps/\(bg T (l.take (j+1))).defs=(bg T (l.take j)).defs++[lG T l']):=zh ⟨by rw [cu.1,if_neg (show ¬aU (.nd 3 l')=2 by simp [aU]),append_nil],by rw [cu.2,if_pos (show aU (.nd 3 l')=3 from rfl)];rfl⟩
       have YS:=zh DL
       clear hu eD dK gW dO gD ln j8 cu DL ym h2
       go_wp2_with fail
       go_quiet (fail)
       go_wp2_with fail
       go_quiet (fail)
       go_wp2_with fail
       refine mM (S:=fun w'=>w'.cell? ⟨b0,0,none⟩=some (.slice pt tm ct)/\w'.cell? ⟨b0,1,none⟩=some (.slice (some ⟨g,aq,none⟩) ao cn)/\w'.cell? ⟨B,1,none⟩=some (.slice pd nd cd)/\w'.cell? ⟨g1,dR+j,none⟩=some (.int .i64 (k1:Int))) (z:=11) (by kernel_rfl) (by first | with_reducible exact⟨a0,a1,d1,jx⟩ | go_keep) (fun G=>?_)
       refine' aF (i:=0) (oi:=_) (v:=_) ?hid0 (by kernel_rfl) (by kernel_rfl) (by kernel_rfl) (by kernel_rfl) ?hQd0 ?hwd0 ?hyd0 G ?hnd0
       case hid0=>(simp only [Q7,kT,vd];rfl)
       case hQd0=>exact fun _ _ _ h=>h
       case hwd0=>rfl
       case hyd0=>(intro w E;obtain⟨Y,kj,li,Z⟩:=E;go_simp;try with_reducible rfl)
       try simp only [Act.put,Q5,fk,fz]
       refine' aF (i:=1) (oi:=_) (v:=_) ?hid1 (by kernel_rfl) (by kernel_rfl) (by kernel_rfl) (by kernel_rfl) ?hQd1 ?hwd1 ?hyd1 G ?hnd1
       case hid1=>(simp only [Q7,kT,vd];rfl)
       case hQd1=>exact fun _ _ _ h=>h
       case hwd1=>rfl
       case hyd1=>(intro w E;obtain⟨Y,kj,li,Z⟩:=E;go_simp;try with_reducible rfl)
       try simp only [Act.put,Q5,fk,fz]
       refine' aF (i:=2) (oi:=_) (v:=_) ?hid2 (by kernel_rfl) (by kernel_rfl) (by kernel_rfl) (by kernel_rfl) ?hQd2 ?hwd2 ?hyd2 G ?hnd2
       case hid2=>(simp only [Q7,kT,vd];rfl)
       case hQd2=>exact fun _ _ _ h=>h
       case hwd2=>rfl
       case hyd2=>(intro w E;obtain⟨Y,kj,li,Z⟩:=E;go_simp;try with_reducible rfl)
       try simp only [Act.put,Q5,fk,fz]
       refine' aF (i:=3) (oi:=_) (v:=_) ?hid3 (by kernel_rfl) (by kernel_rfl) (by kernel_rfl) (by kernel_rfl) ?hQd3 ?hwd3 ?hyd3 G ?hnd3
       case hid3=>(simp only [Q7,kT,vd];rfl)
       case hQd3=>exact fun _ _ _ h=>h
       case hwd3=>rfl
       case hyd3=>(intro w E;obtain⟨Y,kj,li,Z⟩:=E;go_simp;try with_reducible rfl)
       try simp only [Act.put,Q5,fk,fz]
       refine' aF (i:=4) (oi:=_) (v:=_) ?hid4 (by kernel_rfl) (by kernel_rfl) (by kernel_rfl) (by kernel_rfl) ?hQd4 ?hwd4 ?hyd4 G ?hnd4
       case hid4=>(simp only [Q7,kT,vd];rfl)
       case hQd4=>exact fun _ _ _ h=>h
       case hwd4=>rfl
       case hyd4=>(intro w E;obtain⟨Y,kj,li,Z⟩:=E;go_simp;try with_reducible rfl)
       try simp only [Act.put,Q5,fk,fz]
       refine' aF (i:=5) (oi:=_) (v:=_) ?hid5 (by kernel_rfl) (by kernel_rfl) (by kernel_rfl) (by kernel_rfl) ?hQd5 ?hwd5 ?hyd5 G ?hnd5
       case hid5=>(simp only [Q7,kT,vd];rfl)
       case hQd5=>exact fun _ _ _ h=>h
       case hwd5=>rfl
       case hyd5=>(intro w E;obtain⟨Y,kj,li,Z⟩:=E;go_simp;try with_reducible rfl)
       try simp only [Act.put,Q5,fk,fz]
       refine' aF (i:=6) (oi:=_) (v:=_) ?hid6 (by kernel_rfl) (by kernel_rfl) (by kernel_rfl) (by kernel_rfl) ?hQd6 ?hwd6 ?hyd6 G ?hnd6
       case hid6=>(simp only [Q7,kT,vd];rfl)
       case hQd6=>exact fun _ _ _ h=>h
       case hwd6=>rfl
       case hyd6=>(intro w E;obtain⟨Y,kj,li,Z⟩:=E;go_simp;try with_reducible rfl)
       try simp only [Act.put,Q5,fk,fz]
       refine' eQ (i:=7) (o:=_) ?hrd7 ?hod7 (fun K U=>?_)
       case hrd7=>kernel_rfl
       case hod7=>(simp only [Q7,kT,vd];rfl)
       go_simp
       go_at_call 26
       refine(EI _ (rV.kept gby) (CJ.kept gby)).mono ?_
       rintro m H ⟨bH,bt,rfl,hq⟩
       have I:=zh (aa (show wr.grownBy _ none from gby) bH)
       obtain⟨q0,q1,q2,q3,q4,q5,q6,q7,q8,q9,mQ,mr,mN,ql,rfl⟩:=hq.fourt
       have rp:Hid (∀u∈[q0,q1,q2,q3,q4,q5,q6,q7,q8,q9,mQ,mr,mN,ql],u.oneCell'=true):=zh hq.one.2
       have HQ:Hid (ig (fun A=>wr.heap.size<=A) H (lG T l') [q0,q1,q2,q3,q4,q5,q6,q7,q8,q9,mQ,mr,mN,ql]):=zh hq
       obtain⟨a0,a1,a2⟩:=ac (bx I bV)
       obtain⟨d0,d1,d2⟩:=ac (bx I bW)
       have dZ:b0<H.heap.size:=hlt (bx I bV)
       have cB:B<H.heap.size:=hlt (bx I bW)
       have jx:=I.cell RY (by simp)
       have O:=zh (tS.kept I)
       have yz:=zh (bx I bW)
       have gO:Hid (W7.heap.size<=H.heap.size):=zh (Nat.le_trans HF.size I.size)
       have iH:=zh (YK H (.cells #[q0,q1,q2,q3,q4,q5,q6,q7,q8,q9,mQ,mr,mN,ql] 70))
       clear bH hq
       go_wp2_with fail
       refine U.out _ _ (fun _=>(by first | with_reducible exact⟨a0,a1,d1,jx⟩ | go_keep)) (fun hH=>?_)
       have G:=hH (by decide)
       clear U hH K
       try simp only [Act.put,Q5,fk,fz]
       refine' eQ (i:=8) (o:=_) ?hrd8 ?hod8 (fun K U=>?_)
       case hrd8=>kernel_rfl
       case hod8=>(simp only [Q7,kT,vd];rfl)
       go_simp
       refine U.out _ _ (fun _=>(by first | with_reducible exact⟨a0,a1,d1,jx⟩ | go_keep)) (fun hH=>?_)
       have G:=hH (by decide)
       clear U hH K
       try simp only [Act.put,Q5,fk,fz]
       refine' eQ (i:=9) (o:=_) ?hrd9 ?hod9 (fun K U=>?_)
       case hrd9=>kernel_rfl
       case hod9=>(simp only [Q7,kT,vd];rfl)
       refine eG (s:=14) (t:=39) (T:=70) (by decide) Tryz.underlying39 Va rfl (by omega) rfl _ _ rfl W7.heap.size R [q0,q1,q2,q3,q4,q5,q6,q7,q8,q9,mQ,mr,mN,ql] rfl rp (.slice pd nd cd) rfl (ag.kept O gby) H.heap.size _ rfl (by exact iH) rfl Cc (by have:=gO.out;simp;omega) (H.heap.size+1) (by simp) ?_
       intro L J wa fM bH el
       have iJ:=(bH.block B (by simp;omega) (fun m=>by have:=(ag.at O B m.symm).1;have:=tQ.out;omega)).trans (show _=_ from bx (show H.grownBy _ none from gby) yz)
       obtain⟨r0,r1,r2⟩:=ac iJ
       have fW:=zh iJ
       have ji:=zh fM
       have ii:=zh bH
       have oC:=zh el
       have cB:B<wa.heap.size:=hlt iJ
       have a0:=bH.cell ((show H.grownBy _ none from gby).cell a0 (by simp)) (fun m=>by have qj:=dP.out;first | (have:=(ag.at O _ m).1;simp only at this;omega) | (have:=(ag.at O _ m.symm).1;simp only at this;omega))
       have a1:=bH.cell ((show H.grownBy _ none from gby).cell a1 (by simp)) (fun m=>by have qj:=dP.out;first | (have:=(ag.at O _ m).1;simp only at this;omega) | (have:=(ag.at O _ m.symm).1;simp only at this;omega))
       have jx:=bH.cell ((show H.grownBy _ none from gby).cell jx (by simp)) (fun m=>by have qj:=dP.out;first | (have:=(ag.at O _ m).1;simp only at this;omega) | (have:=(ag.at O _ m.symm).1;simp only at this;omega))
       clear iJ fM bH el
       refine U.out _ _ (fun _=>(by first | with_reducible exact⟨a0,a1,r1,jx⟩ | go_keep)) (fun hH=>?_)
       have G:=hH (by decide)
       clear U hH K
       try simp only [Act.put,Q5,fk,fz]
       refine' aF (i:=10) (oi:=_) (v:=_) ?hid10 (by kernel_rfl) (by kernel_rfl) (by kernel_rfl) (by kernel_rfl) ?hQd10 ?hwd10 ?hyd10 G ?hnd10
       case hid10=>(simp only [Q7,kT,vd];rfl)
       case hQd10=>exact fun _ _ _ h=>h
       case hwd10=>rfl
       case hyd10=>(intro w E;obtain⟨Y,kj,li,Z⟩:=E;go_simp;try with_reducible rfl)
       try simp only [Act.put,Q5,fk,fz]
       refine' eQ (i:=11) (o:=_) ?hrd11 ?hod11 (fun K U=>?_)
       case hrd11=>kernel_rfl
       case hod11=>(simp only [Q7,kT,vd];rfl)
       go_simp
       refine U.out _ _ (fun h=>absurd rfl h) (fun _=>?_)
       clear U K
       refine xe (by kernel_rfl) ?_
       have dz:H.grownBy (H.alloc (.cells #[q0,q1,q2,q3,q4,q5,q6,q7,q8,q9,mQ,mr,mN,ql] 70)) none:=qn _ _ _
       have oW:Hid (RDs (fun A=>B+1<=A/\A<(wa.setCell ⟨B,1,none⟩ (.slice (some ⟨L,0,none⟩) (R.length+1) J)).heap.size/\¬Wr3 B (.slice pi ni ci) (.slice (some ⟨L,0,none⟩) (R.length+1) J) A) (wa.setCell ⟨B,1,none⟩ (.slice (some ⟨L,0,none⟩) (R.length+1) J)) (bg T (l.take (j+1))).defs (R++[[q0,q1,q2,q3,q4,q5,q6,q7,q8,q9,mQ,mr,mN,ql]])):=zh (by
        rw [xL.2]
        exact Iw (w7:=H) (wa:=H.alloc (.cells #[q0,q1,q2,q3,q4,q5,q6,q7,q8,q9,mQ,mr,mN,ql] 70)) Ez (by have:=tQ.out;omega) (hlt bW) qs tS fc I HQ dz (by simp) ii oC)
       have fq:Hid ((wa.setCell ⟨B,1,none⟩ (.slice (some ⟨L,0,none⟩) (R.length+1) J)).heap[B]? = some (.cells #[.slice pi ni ci,.slice (some ⟨L,0,none⟩) (R.length+1) J] 41 (0,0))):=zh (ab (i:=1) (u:=.slice (some ⟨L,0,none⟩) (R.length+1) J) fW)
       have iQ:Hid (ag 14 70 (wa.setCell ⟨B,1,none⟩ (.slice (some ⟨L,0,none⟩) (R.length+1) J)) W7.heap.size (.slice (some ⟨L,0,none⟩) (R.length+1) J) (R++[[q0,q1,q2,q3,q4,q5,q6,q7,q8,q9,mQ,mr,mN,ql]])):=zh (ji.keptS (Fr2.setCell (S:=fun A=>A=B) (Fr2.refl _ _) (g:=B) (j:=1) rfl _) (fun g hg m=>by have:=tQ.out;omega))
       have LH:Hid (ag 1 9 (wa.setCell ⟨B,1,none⟩ (.slice (some ⟨L,0,none⟩) (R.length+1) J)) W7.heap.size (.slice pi ni ci) ((bg T (l.take (j+1))).imps.map rx)):=zh (by
        rw [xL.1]
        exact((ag.keptR (ag.kept qs (aa I dz)) ii (fun A h1 h2=>Er A h1 h2))).keptS (Fr2.setCell (S:=fun A=>A=B) (Fr2.refl _ _) (g:=B) (j:=1) rfl _) (fun g hg m=>by have:=tQ.out;omega))
       have ru:Hid (Sep (.slice pi ni ci) (.slice (some ⟨L,0,none⟩) (R.length+1) J)):=zh (Sep.symm (qK (Sep.symm Er) (fun A m=>by have h1:=(ag.at qs A m).2;have h2:=I.size;omega) oC))
       have gB:Hid (Fr2 (fun A=>A=B) W7 (wa.setCell ⟨B,1,none⟩ (.slice (some ⟨L,0,none⟩) (R.length+1) J))):=zh ((HF.low (Below.trans2 (Below.gb I HF.size) (Below.trans2 (Below.gb dz gO) ((Fr2.of ii (S:=fun A=>(Value.slice pd nd cd).ownBlock=some A) (fun A m=>m)).below (by have:=gO.out;simp;omega) (fun A m=>(ag.at O A m).1))))).setCell rfl _)
       clear dz ji fW ii oC iH HQ rp O yz r0 r1 r2 fc qs tS HF
       go_wp2_with fail
       go_roundw
       case rel=>exact⟨j+1,R++[[q0,q1,q2,q3,q4,q5,q6,q7,q8,q9,mQ,mr,mN,ql]],pi,ni,ci,some ⟨L,0,none⟩,R.length+1,J,by omega,by go_num,fq,LH,iQ,ru,oW,gB⟩
       case measure=>simp [intOf];omega
    ·have xL:Hid ((bg T (l.take (j+1))).imps=(bg T (l.take j)).imps/\(bg T (l.take (j+1))).defs=(bg T (l.take j)).defs):=zh ⟨by rw [cu.1,if_neg h2,append_nil],by rw [cu.2,if_neg h3,append_nil]⟩
     obtain⟨xk,xt,Ni,dO,zF,a9⟩:∃(xk xt:Int) (Ni:List Int),N[k1]? = some ⟨xk,xt,Ni⟩/\(xk == 2)=false/\(xk == 3)=false:=by
      cases u with
      | lf i=>
        obtain⟨n',eC,dO⟩:=dK.lf
        have eC:k1=n':=by omega
        subst eC
        exact⟨_,_,_,dO,rfl,rfl⟩
      | nd k' l'=>
        obtain⟨n',mE,eC,dO,-⟩:=dK.nd
        have eC:k1=n':=by omega
        subst eC
        exact⟨_,_,_,dO,xz.2 (fun m=>h2 (by have e2:k'=2:=(by omega);exact e2)),xz.2 (fun m=>h3 (by have e2:k'=3:=(by omega);exact e2))⟩
     obtain⟨g',nS,fQ,-,n0,-,-⟩:=bZ CJ dO
     injection fQ with fQ;injection fQ with es cI;subst es cI
     clear hu eD dK gW h2 h3 dO j8 cu
     go_wp2_with fail
     go_quiet (fail)
     go_wp2_with fail
     go_quiet (fail)
     go_wp2_with fail
     go_roundw
     case rel=>exact⟨j+1,R,pi,ni,ci,pd,nd,cd,by omega,by go_num,zh (bx (am (ad _ _) _) bW),zh (by rw [xL.1];exact qs.kept (am (ad _ _) _)),zh (tS.kept (am (ad _ _) _)),Er,zh (by rw [xL.2];exact nU fc (am (ad _ _) _)),zh (HF.trans (Fr2.none (am (ad _ _) _)))⟩
     case measure=>simp [intOf];omega
  ·obtain rfl:j=kl:=by omega
   have eh:=fc.out
   have au:=qs.out
   have aO:Hid (bg T (l.take j)=bg T l):=zh (by rw [V7 (by have:=fP.out;omega)])
   rw [aO.out] at eh au
   have HP:=zh (Ld (P:=bg T l) oR a7 (by have:=tQ.out;omega) cW iN au tS eh)
   obtain⟨f0,f1,f2⟩:=ac iN
   have eg:b1<wr.heap.size:=hlt iN
   clear eh au
   go_wp2_with fail
   obtain⟨k0,k1,-⟩:=ac (show((wr.setCell ⟨b1,0,none⟩ (.slice pi ni ci)).setCell ⟨b1,1,none⟩ (.slice pd nd cd)).heap[b1]? = some (Obj.cells #[.slice pi ni ci,.slice pd nd cd] 41 (0,0)) from ab (i:=1) (u:=.slice pd nd cd) (ab (i:=0) (u:=.slice pi ni ci) iN))
   refine bodyPost_ret (v:=.agg #[.slice pi ni ci,.slice pd nd cd]) (by simp [results,Tryz.results7,go_sem,k0,k1]) rfl HP
end Go.Proofs.YtpkipghjohomcaaGreatDoor
