/- Lemmas. -/
import Derived.Test.YtpkipghjohomcaaGreatDoorP38
set_option linter.unusedVariables false
set_option linter.unusedSimpArgs false
set_option maxHeartbeats 32000000
set_option maxRecDepth 100000
namespace Go.Proofs.YtpkipghjohomcaaGreatDoor
open Go.RowKit List Nat Go.World
theorem Vi (T:List Tok) (N:List Nd) (K:Nat->Option Addr×Nat) (pt pn:Option Addr) (ct cn:Nat) (aJ:RIH T N K pt pn ct cn 150000) (hT:T.length<=40000) (hN:N.length<=150000)
  (n:Nat) (kd:Int) (ks:List Int) (l:List Tr) (hx:N[n]? = some ⟨kd,-1,ks⟩) (U:KT N n ks l) (dx:fj l) (eB:∀z∈cg l,z<T.length) (fG:bK l<=149999) (hd:ShD T (.nd 3 l)) (iS:∀i,(tkT T i).pos<=1000000/\(tkT T i).text.length<=1000000)
  (w:World) (ht:bl w pt (T.map toI)) (hw:al w pn N K):
  Calls Tryz.prog 26 #[.agg #[.slice pt T.length ct,.slice pn N.length cn],.int .i64 (n:Int)] w (D5 (lG T l) w):=by
 obtain⟨eM,NK,⟨i0,h0⟩,⟨bu,ay,Mk,Ep⟩,CM⟩:=MY hd
 obtain⟨⟨bw,hm,TY⟩,qr⟩:=OB hd
 have bn:gz T l=tkT T i0:=by
  cases l with
  | nil=>simp at h0
  | cons aq cC=>simp at h0;subst h0;simp [gz,ba]
 obtain⟨k0,ch,cJ,y0,Cq,oh,hy0,-,tr⟩:=fV (K:=K) (pt:=pt) (pn:=pn) (ct:=ct) (cn:=cn) hT hN U h0 (eB i0 (qi h0))
 obtain⟨ka,b7,cb,ya,a8,Y7,bt,a6,bd⟩:=fV (K:=K) (pt:=pt) (pn:=pn) (ct:=ct) (cn:=cn) hT hN U hm (eB bw (qi hm))
 have aX:=fun W h1 h2=>CC T N K pt pn ct cn aJ hT hN n kd ks l hx U dx eB fG eM iS ya (b7:Int) cb a8 W h1 h2
 have a7:ya.data.toList=(tkT T bw).text:=by rw [bt]
 have WC:fF T ya.data.toList a8 l=cm T l:=by rw [a7,a6,<-TY]
 rw [WC] at aX
 obtain⟨aq,a0⟩:=zx (if (gz T l).text=rH then 2 else 1:Nat)
 rw [a0] at hm Y7
 obtain⟨pub,rL⟩:=zx (decide ((gz T l).text=rH))
 have bq:(y0.toList == [112,117,98])=pub:=by
  rw [<-rL,toList_data,hy0,bn]
  show((tkT T i0).text == rH)=decide ((tkT T i0).text=rH)
  rw [Bool.eq_iff_iff];simp
 have bi:aq=if pub=true then 2 else 1:=by
  rw [<-a0,<-rL]
  by_cases hc:(gz T l).text=rH
  ·rw [if_pos hc,if_pos (by simpa using hc)]
  ·rw [if_neg hc,if_neg (by simpa using hc)]
 obtain⟨kb,uH,bs,-⟩:=U.2 (l.length - 2) bu ay
 have FQ:kQ T N (kb:Int) bu:=⟨Mk,Ep,da dx ay,fun z hz=>eB z (dy ay z hz),bs⟩
 have bc:=fun W h1 h2=>aJ bu kb W (by have:=eU ay;omega) FQ h1 h2
 have pg:axT T bu=axT T (l.getD (l.length - 2) (.lf 0)):=by rw [getD_eq_getElem?_getD,ay];rfl
 have EI:Hid (lG T l=⟨pub,bA T l,cm T l,axT T bu⟩):=zh (by unfold lG;rw [rL,pg])
 obtain⟨g,av,rfl,bN,c0,c1,c2⟩:=bZ hw hx
 have iE:=zh (hw.2 n _ hx)
 have hn:n<N.length:=(Q4.1 hx).1
 have HW:=zh hw;have HT:=zh ht;have kA:=zh U;have sE:=zh dx;have lj:=zh fG;have lY:=zh eB;have Yk:=zh NK;have Gr:=zh iS;have BN:=zh qr
 have lC:=zh tr;have iF:=zh bd;have JU:=zh aX;have vD:=zh bc
 have PW:=zh (fun (n:Nat) (ks:List Int) (l:List Tr) hx U dx eB fG eM b9 ca y0 Cq W h1 h2=>CC T N K pt (some ⟨g,av,none⟩) ct cn aJ hT hN n (4:Int) ks l hx U dx eB fG eM iS b9 ca y0 Cq W h1 h2)
 have JT:=zh (fun (n j i:Nat) (ks:List Int) (l:List Tr) (U:KT N n ks l) (hj:l[j]? = some (.lf i)) (hi:i<T.length)=>fV (K:=K) (pt:=pt) (pn:=some ⟨g,av,none⟩) (ct:=ct) (cn:=cn) hT hN U hj hi)
 obtain⟨ao,hM⟩:=zx N.length
 obtain⟨tm,kK⟩:=zx T.length
 obtain⟨kl,dU⟩:=zx ks.length
 have P8:kl=l.length:=by rw [<-dU];exact U.1
 have fP:=zh P8
 have HM:=zh hM;have ue:=zh kK
 have Bo:kl<=150000:=by have:=fw l;omega
 have ge:2<=kl:=by omega
 have b6:aq<kl:=by rw [<-dU];exact(Q4.1 Y7).1
 rw [<-P8] at uH
 simp only at c0 c1 c2
 rw [hM] at hn hN lC iF JU vD PW JT ⊢
 rw [kK] at hT lC iF JU vD PW JT ⊢
 rw [dU] at c2
 obtain⟨kq,kV⟩:=zx (K n).1
 obtain⟨kc,px⟩:=zx (K n).2
 have iE:Hid (VAt w kq (ar ks)):=zh (by rw [<-kV];exact iE)
 rw [kV,px] at c2
 obtain⟨g1,dR,rfl,je,v0⟩:=bO iE oh
 rw [Nat.add_zero] at v0
 obtain⟨a9,Ug,O,-,va⟩:=bO iE Y7
 injection O with O;injection O with es cI;subst es cI
 obtain⟨a9,Ug,O,-,vb⟩:=bO iE uH
 injection O with O;injection O with es cI;subst es cI
 have xA:=zh v0;have Jk:=zh va;have K7:=zh vb
 have mJ:Hid (g1<w.heap.size):=zh je
 have d1:decide (n<ao)=true:=zd hn
 have ml:=zE ((n:Int)<(ao:Int))
 have mR:Hid (g<w.heap.size):=zh bN
 obtain⟨A,hF⟩:=zx (cm T l)
 rw [hF] at JU EI
 have b2:=zh bq
 have Yo:=zh bi
 clear aJ hx hw ht U hM kK dU kV px dx fG eB eM NK iS hd qr TY hm h0 bn oh hy0 tr Y7 bt a6 bd aX a7 WC a0 rL bq ay Mk Ep uH bs FQ bc pg P8 hF v0 va vb CM bi
 have jo:=af (qn w (.cells #[.slice pt tm ct,.slice (some ⟨g,av,none⟩) ao cn] 46) none) (.cells #[.bool false,.slice none 0 0,.string ⟨#[]⟩,.int .i64 0,.slice none 0 0,.int .i64 0,.int .i64 0,.int .i64 0,.string ⟨#[]⟩,.string ⟨#[]⟩,.string ⟨#[]⟩,.bool false,.slice none 0 0,.int .i64 0] 70)
 have c2:=jo.cell c2 (by simp)
 go_enter Tryz.func26,Tryz.ntmps26
 go_wp2_with fail
 obtain⟨W,b0,b1,hW,e0,e1,cS,dq,dp,lu⟩:=two w (.cells #[.slice pt tm ct,.slice (some ⟨g,av,none⟩) ao cn] 46) (.cells #[.bool false,.slice none 0 0,.string ⟨#[]⟩,.int .i64 0,.slice none 0 0,.int .i64 0,.int .i64 0,.int .i64 0,.string ⟨#[]⟩,.string ⟨#[]⟩,.string ⟨#[]⟩,.bool false,.slice none 0 0,.int .i64 0] 70)
 have ky:W.heap.size=b1+1:=by rw [hW];simp;omega
 have bB:=zh cS;have bS:=zh dq;have bm:=zh dp;have gj:=zh e0;have uh:=zh ky
 clear cS dq dp c0 c1 c2 jo
 try rw [<-hW]
 try rw [e1]
 try rw [e0]
 clear e0 e1 hW ky
 have a3:=HT;have aL:=HW
 have HT:=zh (HT.kept bm);have HW:=zh (HW.kept bm)
 obtain⟨H,I,a2⟩:=ac bB
 have dZ:b0<W.heap.size:=hlt bB
 have v0:=bm.cell xA (by simp)
 have kB:g1<W.heap.size:=zn mJ bm.size
 have z0:(0:Int)<(kl:Int):=by omega
 have yF:decide ((0:Int)<(kl:Int))=true:=zd z0
 have EK:=zE (0<kl)
 have z1:0<kl:=by omega
 have zW:=lK
 have q1:(y0.toList == [112,117,98])=pub:=b2.out
 go_cut [6] (fun t6 wx=>Hid (LC W b1 pub t6 wx))
 case first=>
  go_region_held3 (fun w'=>w'.cell? ⟨b0,0,none⟩=some (.slice pt tm ct)/\w'.cell? ⟨b0,1,none⟩=some (.slice (some ⟨g,av,none⟩) ao cn)/\w'.cell? ⟨g1,dR,none⟩=some (.int .i64 (k0:Int)))
   (first | with_reducible exact⟨H,I,v0⟩ | with_reducible exact⟨FW H (by omega),FW I (by omega),FW v0 (by omega)⟩ | go_keep)
   (first | (go_at_call 25;refine(lC _ (HT.kept gbx) (HW.kept gbx)).mono ?_;rintro B w2 ⟨rfl,bL⟩;(try (have mB:=bx bL (YK W (.cells #[.bool false,.slice none 0 0,.string ⟨#[]⟩,.int .i64 0,.slice none 0 0,.int .i64 0,.int .i64 0,.int .i64 0,.string ⟨#[]⟩,.string ⟨#[]⟩,.string ⟨#[]⟩,.bool false,.slice none 0 0,.int .i64 0] 70))));(try (have xR:=bk mB;obtain⟨q0,cz,q2,q3,q4,q5,q6,q7,q8,q9,mQ,mr,mN,ql,BV⟩:=xR));have bF:=zh (aa (show W.grownBy _ none from gbx) bL);obtain⟨H,I,a2⟩:=ac (bx bF bB);have v0:=bF.cell v0 (by simp);clear bL))
  all_goals
   have s2:W.heap.size<=w2.heap.size:=bF.size
   have cp:=uh.out
   go_wp2_with fail
   go_meet
   first
    | (with_reducible refine zh (Vb bF.out ?_)
       omega)
    | (with_reducible refine zh (Yd bF.out (Nat.le_refl _) ?_ mB)
       omega)
 case rest=>
  obtain⟨m,rfl,cB,oR,co,dX⟩:=hcut.out
  have gh:=zh (aa bm dX)
  have bB:=zh (bx dX bB);have bS:=zh (bx dX bS);have bP:=zh cB
  have Vr:=zh (a3.kept gh);have a4:=zh (aL.kept gh)
  clear hcut cB dX H I a2 dZ v0 kB HT HW bm
  obtain⟨d0,d1,d2,d3,d4,d5,d6,d7,d8,d9,j0,Ah,BU,BS,BQ⟩:=bk bP
  have XZ:m<wc.heap.size:=hlt bP
  go_upto_if 24 with fail
  go_cut [7] (fun t7 wx=>t7=.int .i64 (aq:Int)/\wx=wc)
  case first=>
   by_cases hp:pub=true
   ·have Eb:(aq:Int)=2:=by rw [Yo.out,if_pos hp];rfl
    clear Yo
    go_wp2_with fail
    all_goals
     first
      | (exfalso;exact absurd (hp.symm.trans (by assumption:pub=false)) (by decide))
      | (go_meet
         exact⟨by rw [Eb],rfl⟩)
   ·have O:pub=false:=by simpa using hp
    have Eb:(aq:Int)=1:=by rw [Yo.out,if_neg hp];rfl
    clear Yo hp
    go_wp2_with fail
    all_goals
     first
      | (exfalso;exact absurd (O.symm.trans (by assumption:pub=true)) (by decide))
      | (go_meet
         exact⟨by rw [Eb],rfl⟩)
  case rest=>
   obtain⟨rfl,lx⟩:=hcut
   subst lx
   clear d0 d1 d2 d3 d4 d5 d6 d7 d8 d9 j0 Ah BU BS BQ
   obtain⟨H,I,a2⟩:=ac bB
   obtain⟨d0,d1,d2,d3,d4,d5,d6,d7,d8,d9,j0,Ah,BU,BS,BQ⟩:=bk bP
   have dZ:b0<wc.heap.size:=hlt bB
   have va:=gh.cell Jk (by simp)
   have kB:g1<wc.heap.size:=zn mJ gh.size
   have x1:(0:Int)<=(aq:Int):=by omega
   have x2:(aq:Int)<(kl:Int):=by omega
   have x3:decide (aq<kl)=true:=zd b6
   have x4:decide ((aq:Int)<(kl:Int))=true:=zd x2
   have ci:m≠b0:=by omega
   have ck:m≠g1:=by have:=mJ.out;have:=uh.out;have:=gh.size;have:=gj.out;omega
   go_wp2_with fail
   go_region_held3 (fun w'=>w'.cell? ⟨b0,0,none⟩=some (.slice pt tm ct)/\w'.cell? ⟨b0,1,none⟩=some (.slice (some ⟨g,av,none⟩) ao cn)/\w'.cell? ⟨g1,dR+aq,none⟩=some (.int .i64 (ka:Int)))
    (first | with_reducible exact⟨H,I,va⟩ | with_reducible exact⟨wZ H (by omega),wZ I (by omega),wZ va (by omega)⟩ | go_keep)
    (first
     | (go_at_call 25;refine(iF _ (Vr.kept gbx) (a4.kept gbx)).mono ?_;rintro B w5 ⟨rfl,dw⟩;have ef:=zh (aa (show wc.grownBy _ none from gbx) dw);obtain⟨H,I,a2⟩:=ac (bx ef bB);obtain⟨d0,d1,d2,d3,d4,d5,d6,d7,d8,d9,j0,Ah,BU,BS,BQ⟩:=bk (bx ef bP);have va:=ef.cell va (by simp);have XZ:m<w5.heap.size:=hlt (bx ef bP);clear dw)
     | (go_at_call 57;refine(JU _ (Vr.kept (aa ef gbx)) (a4.kept (aa ef gbx))).mono ?_;rintro B w6 ⟨ej,bM,rfl,hq⟩;obtain⟨pc,nc,cc,rfl⟩:=hq.form;have dD:=zh (aa ef (aa (show w5.grownBy _ none from gbx) ej));have HQ:Hid (cH (fun G=>w5.heap.size<=G) w6 A [.string ⟨A.nm.toArray⟩,.int .i64 (A.base:Int),.slice pc nc cc,.int .i64 (A.ps:Int),.int .i64 A.bare]):=zh hq;obtain⟨H,I,a2⟩:=ac (bx dD bB);obtain⟨d0,d1,d2,d3,d4,d5,d6,d7,d8,d9,j0,Ah,BU,BS,BQ⟩:=bk (bx dD bP);have va:=(aa gh dD).cell Jk (by simp);have XZ:m<w6.heap.size:=hlt (bx dD bP);clear ej hq))
   all_goals
    go_wp2_with fail
    obtain⟨DM,qL⟩:=Qn (bx dD bP) (.string ⟨A.nm.toArray⟩) (.int .i64 (A.base:Int)) (.slice pc nc cc) (.int .i64 (A.ps:Int)) (.int .i64 A.bare)
    obtain⟨W7,Uo⟩:=zx ((((((w6.setCell ⟨m,2,none⟩ (.string ⟨A.nm.toArray⟩)).setCell ⟨m,3,none⟩ (.int .i64 (A.base:Int))).setCell ⟨m,4,none⟩ (.slice pc nc cc)).setCell ⟨m,5,none⟩ (.int .i64 (A.ps:Int))).setCell ⟨m,6,none⟩ (.int .i64 A.bare)))
    rw [Uo] at DM qL ⊢
    have jC:Hid (W7.heap[m]? = some (.cells #[.bool pub,.slice none 0 0,.string ⟨A.nm.toArray⟩,.int .i64 (A.base:Int),.slice pc nc cc,.int .i64 (A.ps:Int),.int .i64 A.bare,.int .i64 0,.string ⟨#[]⟩,.string ⟨#[]⟩,.string ⟨#[]⟩,.bool false,.slice none 0 0,.int .i64 0] 70 (0,0))):=zh DM
    have cG:Hid (w.grownBy W7 none):=zh (Fr2.after (aa gh dD) qL (fun G B=>by have B:G=m:=B;have:=gj.out;omega))
    have Rn:=zh (qL.keep (bx dD bB) (fun B=>by have B:b0=m:=B;omega));have X1:=zh (qL.keep (bx dD bS) (fun B=>by have B:b1=m:=B;omega))
    have R0:Hid (cH (fun G=>m+1<=G) W7 A [.string ⟨A.nm.toArray⟩,.int .i64 (A.base:Int),.slice pc nc cc,.int .i64 (A.ps:Int),.int .i64 A.bare]):=zh (cH.same qL (fun G U B=>by have B:G=m:=B;have U:m+1<=G:=U;omega) (cH.mono (fun G U=>by have h1:=hlt bP.out;have h2:=ef.size;have U:w5.heap.size<=G:=U;show m+1<=G;omega) HQ))
    have tQ:Hid (m+1<=W7.heap.size):=zh (hlt jC)
    have Ep:w.heap.size<=m:=by have:=gj.out;omega
    clear DM qL Uo H I a2 d0 d1 d2 d3 d4 d5 d6 d7 d8 d9 j0 Ah BU BS BQ va dZ XZ kB HQ x1 x2 x3 x4
    go_loopw [8] (fun iv wr=>∃(j:Nat) (R:List (List Value)) (pv:Option Addr) (nv cv:Nat),j<=kl/\iv=.int .i64 (j:Int)/\Hid (wr.heap[m]? = some (.cells #[.bool pub,.slice pv nv cv,.string ⟨A.nm.toArray⟩,.int .i64 (A.base:Int),.slice pc nc cc,.int .i64 (A.ps:Int),.int .i64 A.bare,.int .i64 0,.string ⟨#[]⟩,.string ⟨#[]⟩,.string ⟨#[]⟩,.bool false,.slice none 0 0,.int .i64 0] 70 (0,0)))/\Hid (ag 5 66 wr W7.heap.size (.slice pv nv cv) R)/\Hid (RFs (fun G=>m+1<=G/\G<wr.heap.size/\G≠m/\(Value.slice pv nv cv).ownBlock≠some G) wr (bA T (l.take j)) R)/\Hid (Fr2 (fun G=>G=m) W7 wr)) (fun iv _=>kl - (intOf iv).toNat)
    case atStart=>exact⟨0,[],none,0,0,zero_le _,rfl,jC,zh (ag.nil _ _ _ _),zh (by simp [bA,RFs]),zh (Fr2.refl _ _)⟩
    case round=>
     obtain⟨j,R,pv,nv,cv,hj,rfl,bW,HO,fc,HF⟩:=hrel
     have cW:Hid (w.grownBy wr none):=zh (Fr2.after cG HF (fun i hi=>by have B:i=m:=hi;omega))
     have bV:=zh (HF.keep Rn (by omega));have iN:=zh (HF.keep X1 (by omega))
     have Ez:Hid (m+1<=wr.heap.size):=zh (Nat.le_trans tQ HF.size)
     have rV:=zh (a3.kept cW);have CJ:=zh (aL.kept cW)
     obtain⟨H,I,a2⟩:=ac bV
     obtain⟨d0,d1,d2,d3,d4,d5,d6,d7,d8,d9,j0,Ah,BU,BS,BQ⟩:=bk bW
     have dZ:b0<wr.heap.size:=hlt bV
     have cB:m<wr.heap.size:=hlt bW
     have AR:g<wr.heap.size:=zn mR cW.size
     have cf:g1<wr.heap.size:=zn mJ cW.size
     by_cases b8:j<kl
     ·obtain⟨u,hu⟩:∃u,l[j]? = some u:=⟨l[j]'(by have:=fP.out;omega),QS _⟩
      obtain⟨k1,eD,dK,gW⟩:=kA.2 j u hu
      obtain⟨a9,Ug,O,-,jx⟩:=bO iE eD
      injection O with O;injection O with es cI;subst es cI
      have jx:=cW.cell jx (by simp)
      have RY:=zh jx
      have y1:(0:Int)<=(j:Int):=by omega
      have y2:(j:Int)<(kl:Int):=by omega
      have y3:decide (j<kl)=true:=zd b8
      have y4:decide ((j:Int)<(kl:Int))=true:=zd y2
      have x1:(0:Int)<=(k1:Int):=by omega
      have x2:(k1:Int)<(ao:Int):=by omega
      have x3:=zE (k1<ao)
      have x4:decide ((k1:Int)<(ao:Int))=true:=zd x2
      have cu:=zh (qu T hu)
      by_cases h4:aU u=4
      ·cases u with
       | lf i=>simp [aU] at h4
       | nd k' l'=>
         have h4:k'=4:=h4
         subst h4
         obtain⟨n',mE,eC,dO,gD⟩:=dK.nd
         have eC:k1=n':=by omega
         subst eC
         have ln:=da sE hu
         simp only [kOk] at ln
         have mI:∀z∈cg l',z<T.length:=fun z hz=>lY z (dy hu z (by simp only [lvT];exact hz))
         have yu:bK l'<=149999:=by have h9:=eU hu;have h8:=lj.out;simp only [szR] at h9;omega
         obtain⟨m',uo,a5⟩:=LR (BN l' (gn hu))
         obtain⟨k6,ak,z1,z2,ap,my,EQ,jy,hL⟩:=JT k1 0 m' mE l' gD uo (by rw [<-ue.out];exact mI m' (qi uo))
         have aO:=fun W h1 h2=>PW k1 mE l' dO gD ln.2.2 (fun z hz=>by rw [<-ue.out];exact mI z hz) yu (Yk l' (gn hu)) z2 (ak:Int) z1 ap W h1 h2
         have FG:z2.data.toList=(tkT T m').text:=by rw [EQ]
         have WC:fF T z2.data.toList ap l'=cm T l':=by rw [FG,jy,<-a5]
         rw [WC] at aO
         have b4:=zh aO;have HL:=zh hL
         obtain⟨g',nS,O,-,n0,n1,n2⟩:=bZ CJ dO
         injection O with O;injection O with es cI;subst es cI
         have V5:=aL.2 k1 _ dO
         obtain⟨xl,rQ⟩:=zx mE.length
         simp only at n0 n1 n2
         rw [rQ] at n2
         obtain⟨cr,xQ⟩:=zx (K k1).1
         obtain⟨PZ,Dg⟩:=zx (K k1).2
         rw [xQ] at V5 n2
         rw [Dg] at n2
         obtain⟨g6,su,rfl,G7,ce⟩:=bO V5 my
         rw [Nat.add_zero] at ce
         have ce:=cW.cell ce (by simp)
         have Ks:g6<wr.heap.size:=zn G7 cW.size
         have dP:Hid (b0<W7.heap.size/\g1<W7.heap.size/\g<W7.heap.size/\g6<W7.heap.size):=zh (by have h1:=tQ.out;have h2:=gj.out;have h3:=mJ.out;have h4:=mR.out;omega)
         have Fg:0<xl:=by rw [<-rQ];exact(Q4.1 my).1
         have v1:(0:Int)<(xl:Int):=by omega
         have v2:decide ((0:Int)<(xl:Int))=true:=zd v1
         have v3:decide (0<xl)=true:=zd Fg
         have e4:(((4:Nat):Int) == 4)=true:=rfl
         have KP:=zh ce;have a1:=zh n0;have mz:=zh n2
         have cu:Hid (bA T (l.take (j+1))=bA T (l.take j)++[cm T l']):=zh (by rw [cu.out,if_pos (show aU (.nd 4 l')=4 from rfl)];rfl)
         have H3:Hid (R.length<=1000000):=zh (by have h1:=oc fc.out;have h2:=tP T (l.take j);have h3:=length_take (i:=j) (l:=l);omega)
         obtain⟨cw,cl,DR,-⟩:=HO.is
         have vF:nv=R.length:=by injection DR
         have cd:=zh vF
         clear hu eD dK gW dO gD ln mI yu uo a5 my EQ jy hL aO FG WC V5 rQ xQ Dg DR vF
         go_wp2_with fail
         go_quiet (fail)
         go_wp2_with fail
         refine mM (S:=fun w'=>w'.cell? ⟨b0,0,none⟩=some (.slice pt tm ct)/\w'.cell? ⟨b0,1,none⟩=some (.slice (some ⟨g,av,none⟩) ao cn)/\w'.cell? ⟨m,1,none⟩=some (.slice pv nv cv)/\w'.cell? ⟨g1,dR+j,none⟩=some (.int .i64 (k1:Int))/\w'.cell? ⟨g,av+k1*3+2,none⟩=some (.slice (some ⟨g6,su,none⟩) xl PZ)/\w'.cell? ⟨g6,su,none⟩=some (.int .i64 (k6:Int))) (z:=24) (by kernel_rfl) (by first | with_reducible exact⟨H,I,d1,jx,n2,ce⟩ | go_keep) (fun J=>?_)
         refine' aF (i:=0) (oi:=_) (v:=_) ?hi0 (by kernel_rfl) (by kernel_rfl) (by kernel_rfl) (by kernel_rfl) ?hQ0 ?hw0 ?hy0 J ?hn0
         case hi0=>(simp only [Q7,kT,vd];rfl)
         case hQ0=>exact fun _ _ _ h=>h
         case hw0=>rfl
         case hy0=>(intro w E;obtain⟨Y,kj,li,Z,mW,mZ⟩:=E;go_simp;try with_reducible rfl)
         try simp only [Act.put,Q5,fk,fz]
         refine' aF (i:=1) (oi:=_) (v:=_) ?hi1 (by kernel_rfl) (by kernel_rfl) (by kernel_rfl) (by kernel_rfl) ?hQ1 ?hw1 ?hy1 J ?hn1
         case hi1=>(simp only [Q7,kT,vd];rfl)
         case hQ1=>exact fun _ _ _ h=>h
         case hw1=>rfl
         case hy1=>(intro w E;obtain⟨Y,kj,li,Z,mW,mZ⟩:=E;go_simp;try with_reducible rfl)
         try simp only [Act.put,Q5,fk,fz]
         refine' aF (i:=2) (oi:=_) (v:=_) ?hi2 (by kernel_rfl) (by kernel_rfl) (by kernel_rfl) (by kernel_rfl) ?hQ2 ?hw2 ?hy2 J ?hn2
         case hi2=>(simp only [Q7,kT,vd];rfl)
         case hQ2=>exact fun _ _ _ h=>h
         case hw2=>rfl
         case hy2=>(intro w E;obtain⟨Y,kj,li,Z,mW,mZ⟩:=E;go_simp;try with_reducible rfl)
         try simp only [Act.put,Q5,fk,fz]
         refine' aF (i:=3) (oi:=_) (v:=_) ?hi3 (by kernel_rfl) (by kernel_rfl) (by kernel_rfl) (by kernel_rfl) ?hQ3 ?hw3 ?hy3 J ?hn3
         case hi3=>(simp only [Q7,kT,vd];rfl)
         case hQ3=>exact fun _ _ _ h=>h
         case hw3=>rfl
         case hy3=>(intro w E;obtain⟨Y,kj,li,Z,mW,mZ⟩:=E;go_simp;try with_reducible rfl)
         try simp only [Act.put,Q5,fk,fz]
         refine' aF (i:=4) (oi:=_) (v:=_) ?hi4 (by kernel_rfl) (by kernel_rfl) (by kernel_rfl) (by kernel_rfl) ?hQ4 ?hw4 ?hy4 J ?hn4
         case hi4=>(simp only [Q7,kT,vd];rfl)
         case hQ4=>exact fun _ _ _ h=>h
         case hw4=>rfl
         case hy4=>(intro w E;obtain⟨Y,kj,li,Z,mW,mZ⟩:=E;go_simp;try with_reducible rfl)
         try simp only [Act.put,Q5,fk,fz]
         refine' aF (i:=5) (oi:=_) (v:=_) ?hi5 (by kernel_rfl) (by kernel_rfl) (by kernel_rfl) (by kernel_rfl) ?hQ5 ?hw5 ?hy5 J ?hn5
         case hi5=>(simp only [Q7,kT,vd];rfl)
         case hQ5=>exact fun _ _ _ h=>h
         case hw5=>rfl
         case hy5=>(intro w E;obtain⟨Y,kj,li,Z,mW,mZ⟩:=E;go_simp;try with_reducible rfl)
         try simp only [Act.put,Q5,fk,fz]
         refine' aF (i:=6) (oi:=_) (v:=_) ?hi6 (by kernel_rfl) (by kernel_rfl) (by kernel_rfl) (by kernel_rfl) ?hQ6 ?hw6 ?hy6 J ?hn6
         case hi6=>(simp only [Q7,kT,vd];rfl)
         case hQ6=>exact fun _ _ _ h=>h
         case hw6=>rfl
         case hy6=>(intro w E;obtain⟨Y,kj,li,Z,mW,mZ⟩:=E;go_simp;try with_reducible rfl)
         try simp only [Act.put,Q5,fk,fz]
         refine' aF (i:=7) (oi:=_) (v:=_) ?hi7 (by kernel_rfl) (by kernel_rfl) (by kernel_rfl) (by kernel_rfl) ?hQ7 ?hw7 ?hy7 J ?hn7
         case hi7=>(simp only [Q7,kT,vd];rfl)
         case hQ7=>exact fun _ _ _ h=>h
         case hw7=>rfl
         case hy7=>(intro w E;obtain⟨Y,kj,li,Z,mW,mZ⟩:=E;go_simp;try with_reducible rfl)
         try simp only [Act.put,Q5,fk,fz]
         refine' aF (i:=8) (oi:=_) (v:=_) ?hi8 (by kernel_rfl) (by kernel_rfl) (by kernel_rfl) (by kernel_rfl) ?hQ8 ?hw8 ?hy8 J ?hn8
         case hi8=>(simp only [Q7,kT,vd];rfl)
         case hQ8=>exact fun _ _ _ h=>h
         case hw8=>rfl
         case hy8=>(intro w E;obtain⟨Y,kj,li,Z,mW,mZ⟩:=E;go_simp;try with_reducible rfl)
         try simp only [Act.put,Q5,fk,fz]
         refine' aF (i:=9) (oi:=_) (v:=_) ?hi9 (by kernel_rfl) (by kernel_rfl) (by kernel_rfl) (by kernel_rfl) ?hQ9 ?hw9 ?hy9 J ?hn9
         case hi9=>(simp only [Q7,kT,vd];rfl)
         case hQ9=>exact fun _ _ _ h=>h
         case hw9=>rfl
         case hy9=>(intro w E;obtain⟨Y,kj,li,Z,mW,mZ⟩:=E;go_simp;try with_reducible rfl)
         try simp only [Act.put,Q5,fk,fz]
         refine' aF (i:=10) (oi:=_) (v:=_) ?hi10 (by kernel_rfl) (by kernel_rfl) (by kernel_rfl) (by kernel_rfl) ?hQ10 ?hw10 ?hy10 J ?hn10
         case hi10=>(simp only [Q7,kT,vd];rfl)
         case hQ10=>exact fun _ _ _ h=>h
         case hw10=>rfl
         case hy10=>(intro w E;obtain⟨Y,kj,li,Z,mW,mZ⟩:=E;go_simp;try with_reducible rfl)
         try simp only [Act.put,Q5,fk,fz]
         refine' aF (i:=11) (oi:=_) (v:=_) ?hi11 (by kernel_rfl) (by kernel_rfl) (by kernel_rfl) (by kernel_rfl) ?hQ11 ?hw11 ?hy11 J ?hn11
         case hi11=>(simp only [Q7,kT,vd];rfl)
         case hQ11=>exact fun _ _ _ h=>h
         case hw11=>rfl
         case hy11=>(intro w E;obtain⟨Y,kj,li,Z,mW,mZ⟩:=E;go_simp;try with_reducible rfl)
         try simp only [Act.put,Q5,fk,fz]
         refine' aF (i:=12) (oi:=_) (v:=_) ?hi12 (by kernel_rfl) (by kernel_rfl) (by kernel_rfl) (by kernel_rfl) ?hQ12 ?hw12 ?hy12 J ?hn12
         case hi12=>(simp only [Q7,kT,vd];rfl)
         case hQ12=>exact fun _ _ _ h=>h
         case hw12=>rfl
         case hy12=>(intro w E;obtain⟨Y,kj,li,Z,mW,mZ⟩:=E;go_simp;try with_reducible rfl)
         try simp only [Act.put,Q5,fk,fz]
         refine' aF (i:=13) (oi:=_) (v:=_) ?hi13 (by kernel_rfl) (by kernel_rfl) (by kernel_rfl) (by kernel_rfl) ?hQ13 ?hw13 ?hy13 J ?hn13
         case hi13=>(simp only [Q7,kT,vd];rfl)
         case hQ13=>exact fun _ _ _ h=>h
         case hw13=>rfl
         case hy13=>(intro w E;obtain⟨Y,kj,li,Z,mW,mZ⟩:=E;go_simp;try with_reducible rfl)
         try simp only [Act.put,Q5,fk,fz]
         refine' aF (i:=14) (oi:=_) (v:=_) ?hi14 (by kernel_rfl) (by kernel_rfl) (by kernel_rfl) (by kernel_rfl) ?hQ14 ?hw14 ?hy14 J ?hn14
         case hi14=>(simp only [Q7,kT,vd];rfl)
         case hQ14=>exact fun _ _ _ h=>h
         case hw14=>rfl
         case hy14=>(intro w E;obtain⟨Y,kj,li,Z,mW,mZ⟩:=E;go_simp;try with_reducible rfl)
         try simp only [Act.put,Q5,fk,fz]
         refine' aF (i:=15) (oi:=_) (v:=_) ?hi15 (by kernel_rfl) (by kernel_rfl) (by kernel_rfl) (by kernel_rfl) ?hQ15 ?hw15 ?hy15 J ?hn15
         case hi15=>(simp only [Q7,kT,vd];rfl)
         case hQ15=>exact fun _ _ _ h=>h
         case hw15=>rfl
         case hy15=>(intro w E;obtain⟨Y,kj,li,Z,mW,mZ⟩:=E;go_simp;try with_reducible rfl)
         try simp only [Act.put,Q5,fk,fz]
         refine' aF (i:=16) (oi:=_) (v:=_) ?hi16 (by kernel_rfl) (by kernel_rfl) (by kernel_rfl) (by kernel_rfl) ?hQ16 ?hw16 ?hy16 J ?hn16
         case hi16=>(simp only [Q7,kT,vd];rfl)
         case hQ16=>exact fun _ _ _ h=>h
         case hw16=>rfl
         case hy16=>(intro w E;obtain⟨Y,kj,li,Z,mW,mZ⟩:=E;go_simp;try with_reducible rfl)
         try simp only [Act.put,Q5,fk,fz]
         refine' aF (i:=17) (oi:=_) (v:=_) ?hi17 (by kernel_rfl) (by kernel_rfl) (by kernel_rfl) (by kernel_rfl) ?hQ17 ?hw17 ?hy17 J ?hn17
         case hi17=>(simp only [Q7,kT,vd];rfl)
         case hQ17=>exact fun _ _ _ h=>h
         case hw17=>rfl
         case hy17=>(intro w E;obtain⟨Y,kj,li,Z,mW,mZ⟩:=E;go_simp;try with_reducible rfl)
         try simp only [Act.put,Q5,fk,fz]
         refine' aF (i:=18) (oi:=_) (v:=_) ?hi18 (by kernel_rfl) (by kernel_rfl) (by kernel_rfl) (by kernel_rfl) ?hQ18 ?hw18 ?hy18 J ?hn18
         case hi18=>(simp only [Q7,kT,vd];rfl)
         case hQ18=>exact fun _ _ _ h=>h
         case hw18=>rfl
         case hy18=>(intro w E;obtain⟨Y,kj,li,Z,mW,mZ⟩:=E;go_simp;try with_reducible rfl)
         try simp only [Act.put,Q5,fk,fz]
         refine' eQ (i:=19) (o:=_) ?hr19 ?ho19 (fun K hK=>?_)
         case hr19=>kernel_rfl
         case ho19=>(simp only [Q7,kT,vd];rfl)
         go_simp
         go_at_call 25
         refine(HL _ (rV.kept gby) (CJ.kept gby)).mono ?_
         rintro B w8 ⟨rfl,rt⟩
         have L:=zh (aa (show wr.grownBy _ none from gby) rt)
         obtain⟨H,I,a2⟩:=ac (bx L bV)
         obtain⟨d0,d1,d2,d3,d4,d5,d6,d7,d8,d9,j0,Ah,BU,BS,BQ⟩:=bk (bx L bW)
         have cB:m<w8.heap.size:=hlt (bx L bW)
         have dZ:b0<w8.heap.size:=hlt (bx L bV)
         have jx:=L.cell RY (by simp)
         have n0:=L.cell a1 (by simp)
         have n2:=L.cell mz (by simp)
         have ce:=L.cell KP (by simp)
         clear rt
         go_wp2_with fail
         refine hK.out _ _ (fun _=>(by first | with_reducible exact⟨H,I,d1,jx,n2,ce⟩ | go_keep)) (fun hH=>?_)
         have J:=hH (by decide)
         clear hK hH K
         try simp only [Act.put,Q5,fk,fz]
         refine' eQ (i:=20) (o:=_) ?hr20 ?ho20 (fun K hK=>?_)
         case hr20=>kernel_rfl
         case ho20=>(simp only [Q7,kT,vd];rfl)
         go_simp
         go_at_call 57
         refine(b4 _ (rV.kept (aa L gby)) (CJ.kept (aa L gby))).mono ?_
         rintro B w9 ⟨bH,bM,rfl,hq⟩
         obtain⟨-,qq,q0,q1,q2,q3,q4,rfl⟩:=hq.five
         have rp:=zh qq
         have fR:=zh (aa L (aa (show w8.grownBy _ none from gby) bH))
         have HQ:Hid (cH (fun G=>wr.heap.size<=G) w9 _ [q0,q1,q2,q3,q4]):=zh (cH.mono (fun G U=>Nat.le_trans L.size U) hq)
         have fh:=zh (HO.kept fR)
         have yz:=zh (bx fR bW)
         obtain⟨H,I,a2⟩:=ac (bx fR bV)
         obtain⟨d0,d1,d2,d3,d4,d5,d6,d7,d8,d9,j0,Ah,BU,BS,BQ⟩:=bk (bx fR bW)
         have cB:m<w9.heap.size:=hlt (bx fR bW)
         have dZ:b0<w9.heap.size:=hlt (bx fR bV)
         have jx:=fR.cell RY (by simp)
         have n0:=fR.cell a1 (by simp)
         have n2:=fR.cell mz (by simp)
         have ce:=fR.cell KP (by simp)
         have gO:Hid (W7.heap.size<=w9.heap.size):=zh (Nat.le_trans HF.size fR.size)
         have iH:=zh (YK w9 (.cells #[q0,q1,q2,q3,q4] 66))
         clear bH hq qq
         go_wp2_with fail
         refine hK.out _ _ (fun _=>(by first | with_reducible exact⟨H,I,d1,jx,n2,ce⟩ | go_keep)) (fun hH=>?_)
         have J:=hH (by decide)
         clear hK hH K
         try simp only [Act.put,Q5,fk,fz]
         refine' eQ (i:=21) (o:=_) ?hr21 ?ho21 (fun K hK=>?_)
         case hr21=>kernel_rfl
         case ho21=>(simp only [Q7,kT,vd];rfl)
         go_simp
         refine hK.out _ _ (fun _=>(by first | with_reducible exact⟨H,I,d1,jx,n2,ce⟩ | go_keep)) (fun hH=>?_)
         have J:=hH (by decide)
         clear hK hH K
         try simp only [Act.put,Q5,fk,fz]
         refine' eQ (i:=22) (o:=_) ?hr22 ?ho22 (fun K hK=>?_)
         case hr22=>kernel_rfl
         case ho22=>(simp only [Q7,kT,vd];rfl)
         refine eG (s:=5) (t:=63) (T:=66) (by decide) Tryz.underlying63 WU rfl (by omega) rfl _ _ rfl W7.heap.size R [q0,q1,q2,q3,q4] rfl rp (.slice pv nv cv) rfl (ag.kept fh gby) w9.heap.size _ rfl (by exact iH) rfl H3 (by have:=gO.out;simp;omega) (w9.heap.size+1) (by simp) ?_
         intro g9 au wa fM bH el
         have iJ:=(bH.block m (by simp;omega) (fun B=>by have:=(ag.at fh m B.symm).1;have:=tQ.out;omega)).trans (show _=_ from bx (show w9.grownBy _ none from gby) yz)
         obtain⟨r0,r1,r2,r3,r4,r5,r6,r7,r8,r9,wM,vG,ve,wE,yh⟩:=bk iJ
         have fW:=zh iJ
         have ji:=zh fM
         have ii:=zh bH
         have oC:=zh el
         have H:=bH.cell ((show w9.grownBy _ none from gby).cell H (by simp)) (fun B=>by have qj:=dP.out;first | (have:=(ag.at fh _ B).1;simp only at this;omega) | (have:=(ag.at fh _ B.symm).1;simp only at this;omega))
         have I:=bH.cell ((show w9.grownBy _ none from gby).cell I (by simp)) (fun B=>by have qj:=dP.out;first | (have:=(ag.at fh _ B).1;simp only at this;omega) | (have:=(ag.at fh _ B.symm).1;simp only at this;omega))
         have jx:=bH.cell ((show w9.grownBy _ none from gby).cell jx (by simp)) (fun B=>by have qj:=dP.out;first | (have:=(ag.at fh _ B).1;simp only at this;omega) | (have:=(ag.at fh _ B.symm).1;simp only at this;omega))
         have n2:=bH.cell ((show w9.grownBy _ none from gby).cell n2 (by simp)) (fun B=>by have qj:=dP.out;first | (have:=(ag.at fh _ B).1;simp only at this;omega) | (have:=(ag.at fh _ B.symm).1;simp only at this;omega))
         have ce:=bH.cell ((show w9.grownBy _ none from gby).cell ce (by simp)) (fun B=>by have qj:=dP.out;first | (have:=(ag.at fh _ B).1;simp only at this;omega) | (have:=(ag.at fh _ B.symm).1;simp only at this;omega))
         clear iJ fM bH el
         refine hK.out _ _ (fun _=>(by first | with_reducible exact⟨H,I,r1,jx,n2,ce⟩ | go_keep)) (fun hH=>?_)
         have J:=hH (by decide)
         clear hK hH K
         try simp only [Act.put,Q5,fk,fz]
         refine' aF (i:=23) (oi:=_) (v:=_) ?hi23 (by kernel_rfl) (by kernel_rfl) (by kernel_rfl) (by kernel_rfl) ?hQ23 ?hw23 ?hy23 J ?hn23
         case hi23=>(simp only [Q7,kT,vd];rfl)
         case hQ23=>exact fun _ _ _ h=>h
         case hw23=>rfl
         case hy23=>(intro w E;obtain⟨Y,kj,li,Z,mW,mZ⟩:=E;go_simp;try with_reducible rfl)
         try simp only [Act.put,Q5,fk,fz]
         refine' eQ (i:=24) (o:=_) ?hr24 ?ho24 (fun K hK=>?_)
         case hr24=>kernel_rfl
         case ho24=>(simp only [Q7,kT,vd];rfl)
         go_simp
         refine hK.out _ _ (fun h=>absurd rfl h) (fun _=>?_)
         clear hK K
         refine xe (by kernel_rfl) ?_
         have dz:w9.grownBy (w9.alloc (.cells #[q0,q1,q2,q3,q4] 66)) none:=qn _ _ _
         have AK:Hid (RFs (fun G=>m+1<=G/\G<(wa.setCell ⟨m,1,none⟩ (.slice (some ⟨g9,0,none⟩) (R.length+1) au)).heap.size/\G≠m/\(Value.slice (some ⟨g9,0,none⟩) (R.length+1) au).ownBlock≠some G) (wa.setCell ⟨m,1,none⟩ (.slice (some ⟨g9,0,none⟩) (R.length+1) au)) (bA T (l.take (j+1))) (R++[[q0,q1,q2,q3,q4]])):=zh (by
          rw [cu.out]
          exact I4 (w7:=w9) (wa:=w9.alloc (.cells #[q0,q1,q2,q3,q4] 66)) Ez HO (by have:=tQ.out;omega) (hlt bW) fc fR HQ dz (by simp) ii oC (ad _ _))
         have fq:Hid ((wa.setCell ⟨m,1,none⟩ (.slice (some ⟨g9,0,none⟩) (R.length+1) au)).heap[m]? = some (.cells #[.bool pub,.slice (some ⟨g9,0,none⟩) (R.length+1) au,.string ⟨A.nm.toArray⟩,.int .i64 (A.base:Int),.slice pc nc cc,.int .i64 (A.ps:Int),.int .i64 A.bare,.int .i64 0,.string ⟨#[]⟩,.string ⟨#[]⟩,.string ⟨#[]⟩,.bool false,.slice none 0 0,.int .i64 0] 70 (0,0))):=zh (ab (i:=1) (u:=.slice (some ⟨g9,0,none⟩) (R.length+1) au) fW)
         have iQ:Hid (ag 5 66 (wa.setCell ⟨m,1,none⟩ (.slice (some ⟨g9,0,none⟩) (R.length+1) au)) W7.heap.size (.slice (some ⟨g9,0,none⟩) (R.length+1) au) (R++[[q0,q1,q2,q3,q4]])):=zh (ji.keptS (Fr2.setCell (S:=fun G=>G=m) (Fr2.refl _ _) (g:=m) (j:=1) rfl _) (fun g hg B=>by have:=tQ.out;omega))
         have gB:Hid (Fr2 (fun G=>G=m) W7 (wa.setCell ⟨m,1,none⟩ (.slice (some ⟨g9,0,none⟩) (R.length+1) au))):=zh ((HF.low (Below.trans2 (Below.gb fR HF.size) (Below.trans2 (Below.gb dz gO) ((Fr2.of ii (S:=fun G=>(Value.slice pv nv cv).ownBlock=some G) (fun G B=>B)).below (by have:=gO.out;simp;omega) (fun G B=>(ag.at fh G B).1))))).setCell rfl _)
         clear dz ji fW ii oC iH HQ rp fh yz r0 r1 r2 r3 r4 r5 r6 r7 r8 r9 wM vG ve wE yh fc HO HF
         go_wp2_with fail
         go_roundw
         case rel=>exact⟨j+1,R++[[q0,q1,q2,q3,q4]],some ⟨g9,0,none⟩,R.length+1,au,by omega,by go_num,fq,iQ,AK,gB⟩
         case measure=>simp [intOf];omega
      ·have cu:Hid (bA T (l.take (j+1))=bA T (l.take j)):=zh (by rw [cu.out,if_neg h4,append_nil])
       obtain⟨xk,xt,Ni,dO,zF⟩:∃(xk xt:Int) (Ni:List Int),N[k1]? = some ⟨xk,xt,Ni⟩/\(xk == 4)=false:=by
        cases u with
        | lf i=>
          obtain⟨n',eC,dO⟩:=dK.lf
          have eC:k1=n':=by omega
          subst eC
          exact⟨_,_,_,dO,rfl⟩
        | nd k' l'=>
          obtain⟨n',mE,eC,dO,-⟩:=dK.nd
          have eC:k1=n':=by omega
          subst eC
          exact⟨_,_,_,dO,xz.2 (fun B=>h4 (by have e2:k'=4:=(by omega);exact e2))⟩
       obtain⟨g',nS,O,-,n0,-,-⟩:=bZ CJ dO
       injection O with O;injection O with es cI;subst es cI
       clear hu eD dK gW h4 dO
       go_wp2_with fail
       go_quiet (fail)
       go_wp2_with fail
       go_roundw
       case rel=>exact⟨j+1,R,pv,nv,cv,by omega,by go_num,zh (bx (am (ad _ _) _) bW),zh (HO.kept (am (ad _ _) _)),zh (by rw [cu.out];exact qV fc (am (ad _ _) _)),zh (HF.trans (Fr2.none (am (ad _ _) _)))⟩
       case measure=>simp [intOf];omega
     ·obtain rfl:j=kl:=by omega
      obtain⟨ax,hR⟩:=zx (j - 2)
      have hw2:IntKind.i64.wrap ((j:Int) - 2)=(ax:Int):=by rw [IntWalk.i64_in _ (by omega)];omega
      have i1:(0:Int)<=(ax:Int):=by omega
      have i2:(ax:Int)<(j:Int):=by omega
      have i3:decide ((ax:Int)<(j:Int))=true:=zd i2
      have i4:=zE (ax<j)
      have i5:ax<j:=by omega
      have vb:=cW.cell K7 (by simp)
      rw [hR] at vb
      clear hR
      have D8:b0≠m:=by omega
      have Bg:g1≠m:=by have h1:=mJ.out;have h2:=gj.out;omega
      have b5:b1<m:=by omega
      go_wp2_with fail
      go_region_held3 (fun w'=>w'.cell? ⟨b0,0,none⟩=some (.slice pt tm ct)/\w'.cell? ⟨b0,1,none⟩=some (.slice (some ⟨g,av,none⟩) ao cn)/\w'.cell? ⟨g1,dR+ax,none⟩=some (.int .i64 (kb:Int)))
       (first | with_reducible exact⟨H,I,vb⟩ | with_reducible exact⟨wv H D8,wv I D8,wv vb Bg⟩ | go_keep)
       (first | (go_at_call 58;refine(vD _ (rV.kept gby) (CJ.kept gby)).mono ?_;rintro B w8 ⟨rt,bM,rfl,hq⟩;obtain⟨op,sa,sb,sc,rE,pk,nk,rq,rC,rfl⟩:=hq.form;have L:=zh (aa (show wr.grownBy _ none from gby) rt);have b3:Hid (RAt (fun G=>wr.heap.size<=G) w8 _ _):=zh hq;obtain⟨H,I,a2⟩:=ac (bx L bV);obtain⟨d0,d1,d2,d3,d4,d5,d6,d7,d8,d9,j0,Ah,BU,BS,BQ⟩:=bk (bx L bW);have vb:=L.cell vb (by simp);have cB:m<w8.heap.size:=hlt (bx L bW);clear rt hq))
      all_goals
       obtain⟨g0,g1,g2,g3,g4,g5,g6,g7,g8,g9,Y1,YZ,Zg,YN,Zh⟩:=bk (bx L iN)
       have eg:b1<w8.heap.size:=hlt (bx L iN)
       obtain⟨DM,qL⟩:=SM (bx L bW) (.int .i64 op) (.string sa) (.string sb) (.string sc) (.bool rE) (.slice pk nk rq) (.int .i64 rC)
       have oL:=qL.keep (bx L iN) (fun B=>by have B:b1=m:=B;omega)
       obtain⟨WS,TF⟩:=zx ((((((((w8.setCell ⟨m,7,none⟩ (.int .i64 op)).setCell ⟨m,8,none⟩ (.string sa)).setCell ⟨m,9,none⟩ (.string sb)).setCell ⟨m,10,none⟩ (.string sc)).setCell ⟨m,11,none⟩ (.bool rE)).setCell ⟨m,12,none⟩ (.slice pk nk rq)).setCell ⟨m,13,none⟩ (.int .i64 rC)))
       rw [TF] at qL DM oL ⊢
       clear TF d0 d1 d2 d3 d4 d5 d6 d7 d8 d9 j0 Ah BU BS BQ g0 g1 g2 g3 g4 g5 g6 g7 g8 g9 Y1 YZ Zg YN Zh H I a2 vb
       have bX:=zh qL;have Rx:=zh DM;have qg:=zh oL
       have pP:=zh (wP (cs:=[.bool pub,.slice pv nv cv,.string ⟨A.nm.toArray⟩,.int .i64 (A.base:Int),.slice pc nc cc,.int .i64 (A.ps:Int),.int .i64 A.bare,.int .i64 op,.string sa,.string sb,.string sc,.bool rE,.slice pk nk rq,.int .i64 rC]) DM)
       obtain⟨g0,g1,g2,g3,g4,g5,g6,g7,g8,g9,Y1,YZ,Zg,YN,Zh⟩:=bk oL
       have eg:b1<WS.heap.size:=hlt oL
       clear qL DM oL
       go_wp2_with (refine wpList_load_mid rfl 70 _ rfl m 0 rfl [.bool pub,.slice pv nv cv,.string ⟨A.nm.toArray⟩,.int .i64 (A.base:Int),.slice pc nc cc,.int .i64 (A.ps:Int),.int .i64 A.bare,.int .i64 op,.string sa,.string sb,.string sc,.bool rE,.slice pk nk rq,.int .i64 rC] _ pP Tryz.underlying70 rfl AJ ?_)
       obtain⟨hp,-⟩:=AM qg (.bool pub) (.slice pv nv cv) (.string ⟨A.nm.toArray⟩) (.int .i64 (A.base:Int)) (.slice pc nc cc) (.int .i64 (A.ps:Int)) (.int .i64 A.bare) (.int .i64 op) (.string sa) (.string sb) (.string sc) (.bool rE) (.slice pk nk rq) (.int .i64 rC)
       obtain⟨r0,r1,r2,r3,r4,r5,r6,r7,r8,r9,wM,vG,ve,wE,-⟩:=bk hp
       have eh:=fc.out
       rw [V7 (by have:=fP.out;omega)] at eh
       have Ol:=zh (Ps (pub:=pub) (by have:=gj.out;omega) b5 cW L bX qg tQ Ez R0 HF HO eh b3)
       refine bodyPost_ret (v:=.agg #[.bool pub,.slice pv nv cv,.string ⟨A.nm.toArray⟩,.int .i64 (A.base:Int),.slice pc nc cc,.int .i64 (A.ps:Int),.int .i64 A.bare,.int .i64 op,.string sa,.string sb,.string sc,.bool rE,.slice pk nk rq,.int .i64 rC]) (by simp [results,Tryz.results26,go_sem,r0,r1,r2,r3,r4,r5,r6,r7,r8,r9,wM,vG,ve,wE]) rfl (by rw [EI.out];exact Ol)
end Go.Proofs.YtpkipghjohomcaaGreatDoor
