/- Lemmas. -/
import Derived.Test.YtpkipghjohomcaaGreatDoorP17
set_option linter.unusedVariables false
set_option linter.unusedSimpArgs false
set_option maxHeartbeats 32000000
set_option maxRecDepth 100000
namespace Go.Proofs.YtpkipghjohomcaaGreatDoor
open Go.RowKit List Nat Go.World
theorem Z9 {T:List Tok} {N:List Nd} {K:Kf} (hT:T.length<=150000) (hN:N.length<=150000) {n kd:Nat} {ks:List Int} {l:List Tr} (hx:N[n]? = some ⟨(kd:Int),-1,ks⟩) (dL:KT N n ks l) (dx:fj l) (eB:∀i∈cg l,i<T.length) (fG:bK l<=150000) (eM:∀t∈l,OkK T t) (NK:∀l',Tr.nd 4 l'∈l->∀t∈l',OkK T t) (iS:∀i,(tkT T i).pos<=1000000/\(tkT T i).text.length<=1000000)
  {i0:Nat} (h0:l[0]? = some (.lf i0)) {u:Tr} (ap:l[l.length - 2]? = some u) (rU:isN u=true) (rR:WE T u) (CM:2<=l.length) (pt pn:Option Addr) (ct cn:Nat) (w:World) (ht:TAt w pt T) (hn:al w pn N K) (gP:gF w):
  Calls Tryz.prog 56 #[.agg #[.slice pt T.length ct,.slice pn N.length cn],.int .i64 (n:Int)] w (Bz (lG T l) w):=by
 have xS:l.length<=150000:=Nat.le_trans (fw l) fG
 have jm:=zh (fun (n:Nat) (bu:Nd) W (hx:N[n]? = some bu) h=>vK (K:=K) hN hx pt pn T.length ct cn W h)
 have zU:=zh (fun W h=>sJ (K:=K) hN hx pt pn T.length ct cn W h)
 have TR:=zh (fun W Y Z h3=>Il (K:=K) hT hN hx dL dx eB fG eM iS pt pn ct cn W Y Z h3)
 have Mn:=zh (fun (n A:Nat) (ks:List Int) (l:List Tr) W (hx:N[n]? = some ⟨(A:Int),-1,ks⟩) (dL:KT N n ks l) (dx:fj l) (eB:∀i∈cg l,i<T.length) (fG:bK l<=150000) (eM:∀t∈l,OkK T t) Y Z h3=>Il (K:=K) hT hN hx dL dx eB fG eM iS pt pn ct cn W Y Z h3)
 obtain⟨k0,oh,ZX,-⟩:=dL.2 0 _ h0
 obtain⟨n0,a4,aL⟩:=ZX.lf
 have a4:k0=n0:=by omega
 subst a4
 have a3:i0<T.length:=eB i0 (qi h0)
 have jw:=zh (fun W Y Z=>Bs (K:=K) hT hN aL a3 pt pn ct cn W Y Z)
 obtain⟨kb,uH,a6,-⟩:=dL.2 _ _ ap
 have CB:kQ T N (kb:Int) u:=⟨rU,rR,da dx ap,fun aq hz=>eB aq (dy ap aq hz),a6⟩
 have uu:=zh (fun W Y Z h3=>E9 (K:=K) hT hN pt pn ct cn (szR u) u (kb:Int) W (by have:=eU ap;omega) (Nat.le_refl _) CB Y Z h3)
 have a1:gz T l=tkT T i0:=by
  cases l with
  | nil=>simp at h0
  | cons bL b5=>simp at h0;subst h0;simp [gz,ba]
 have fe:l.getD (l.length - 2) (.lf 0)=u:=by rw [getD_eq_getElem?_getD,ap];rfl
 have EI:Hid (lG T l=⟨decide ((tkT T i0).text=rH),bA T l,cm T l,axT T u⟩):=zh (by unfold lG;rw [a1,fe])
 have HX:=zh hx;have kA:=zh dL;have sE:=zh dx;have lY:=zh eB;have lj:=zh fG;have Yk:=zh NK
 have HT:=zh ht;have HN:=zh hn;have iF:=zh gP
 have Cz:Hid (VAt w (K n).1 (ar ks)):=zh (hn.2 n _ hx)
 obtain⟨mt,wu⟩:=zx T.length
 obtain⟨mn,zo⟩:=zx N.length
 obtain⟨J,hM⟩:=zx ks.length
 have SX:J=l.length:=by rw [<-hM];exact dL.1
 have Bt:=zh SX
 have b2:J<=150000/\2<=J:=by omega
 rw [wu,zo] at jm zU TR Mn jw uu ⊢
 have zU:Hid (∀W,al W pn N K->Calls Tryz.prog 37 #[.agg #[.slice pt mt ct,.slice pn mn cn],.int .i64 (n:Int)] W (bp (.slice (K n).1 J (K n).2) W)):=zh (fun W h=>by rw [<-hM];exact zU W h)
 have xY:=zh wu
 obtain⟨pk,BO⟩:=zx (K n).1
 have Xq:=zh BO
 rw [BO] at Cz zU
 generalize (K n).2=ck at *
 obtain⟨g,ax,rfl,bN,v0⟩:=bO Cz oh
 obtain⟨g',nS,fQ,-,vb⟩:=bO Cz uH
 injection fQ with fQ;injection fQ with es cI;subst es cI
 rw [Nat.add_zero] at v0
 rw [<-SX] at vb
 have xA:=zh v0;have K7:=zh vb;have Hz:=zh bN
 obtain⟨tk,rm⟩:=zx (tkT T i0).kind
 obtain⟨tp,tY⟩:=zx (tkT T i0).pos
 obtain⟨y9,a7⟩:∃ay:ByteArray,(⟨(tkT T i0).lead.toArray⟩:ByteArray)=ay:=⟨_,rfl⟩
 obtain⟨yt,Ej⟩:∃ay:ByteArray,(⟨(tkT T i0).text.toArray⟩:ByteArray)=ay:=⟨_,rfl⟩
 obtain⟨pub,rL⟩:∃pub:Bool,(yt.toList == [112,117,98])=pub:=⟨_,rfl⟩
 have a5:decide ((tkT T i0).text=rH)=pub:=by
  rw [<-rL,toList_data,<-Ej]
  show decide ((tkT T i0).text=rH)=((tkT T i0).text == rH)
  rw [Bool.eq_iff_iff];simp
 rw [a5] at EI
 unfold wJ aD at jw
 rw [rm,tY,a7,Ej] at jw
 obtain⟨B,hF⟩:=zx (cm T l)
 rw [hF] at TR EI
 have jI:=zh rL
 clear ht hn gP hx dL dx eB fG eM NK iS hT hN wu zo hM SX xS h0 ap rU rR CM oh ZX aL a3 uH a6 CB a1 fe rm tY a7 Ej a5 hF v0 vb rL Cz BO
 go_enter Tryz.func56,Tryz.ntmps56
 go_wp2_with fail
 obtain⟨W,b0,b1,hW,e0,e1,cS,dq,dp,lu⟩:=two w (.cells #[.slice pt mt ct,.slice pn mn cn] 82) (.cells #[.bool false,.string ⟨#[]⟩,.slice none 0 0,.int .i64 0,.slice none 0 0,.int .i64 0,.string ⟨#[]⟩,.string ⟨#[]⟩,.bool false,.slice none 0 0,.bool false,.slice none 0 0,.int .i64 0,.int .i64 0,.int .i64 0] 62)
 have ky:W.heap.size=b1+1:=by rw [hW];simp;omega
 have bB:=zh cS;have bS:=zh dq;have bm:=zh dp;have gj:=zh e0;have uh:=zh ky
 clear cS dq dp
 try rw [<-hW]
 try rw [e1]
 try rw [e0]
 clear e0 e1 hW ky
 have bn:=HT;have aJ:=HN;have bc:=iF
 have HT:=zh (HT.kept bm);have HN:=zh (HN.kept bm);have iF:=zh (iF.kept bm)
 obtain⟨G,H,a2⟩:=ac bB
 have dZ:b0<W.heap.size:=hlt bB
 go_cut [5,6] (fun t5 t6 wx=>Hid (t5=.slice (some ⟨g,ax,none⟩) J ck/\FH W (b1+1) B t6 wx))
 case first=>
  go_region_held3 (fun w'=>w'.cell? ⟨b0,0,none⟩=some (.slice pt mt ct)/\w'.cell? ⟨b0,1,none⟩=some (.slice pn mn cn))
   (first | with_reducible exact⟨G,H⟩ | with_reducible exact⟨Um G (by omega),Um H (by omega)⟩ | go_keep)
   (first
    | (go_at_call 37;refine(zU _ (HN.kept gbx)).mono ?_;rintro E w5 ⟨rfl,dw⟩;(try (have a0:=bx dw (YK W (.cells #[.string ⟨#[]⟩,.int .i64 0,.slice none 0 0,.int .i64 0,.int .i64 0] 73))));have ef:=zh (aa (show W.grownBy _ none from gbx) dw);have s5:W.heap.size<=w5.heap.size:=ef.size;have G:=ef.cell G (by simp);have H:=ef.cell H (by simp);clear dw)
    | (go_at_call 91;refine(TR _ (HT.kept (aa ef gbx)) (HN.kept (aa ef gbx)) (iF.kept (aa ef gbx))).mono ?_;rintro E w6 ⟨R,a8,rfl,hq⟩;obtain⟨pc,nc,cc,rfl⟩:=hq.form;(try (have au:=bx R a0));(try (have au:=bx R (YK w5 (.cells #[.string ⟨#[]⟩,.int .i64 0,.slice none 0 0,.int .i64 0,.int .i64 0] 73))));(try (have QB:=bC au;obtain⟨r0,r1,r2,r3,r4,r5⟩:=QB));have L:=zh (aa (show w5.grownBy _ none from gbx) R);have s6:w5.heap.size<=w6.heap.size:=L.size;have HQ:=zh hq;have G:=L.cell G (by simp);have H:=L.cell H (by simp);clear R hq))
  all_goals
   have YB:=uh.out
   go_wp2_with fail
   go_meet
   refine zh ⟨rfl,?_⟩
   have ns:=aa ef L
   first
    | (with_reducible refine RV ns ?_ ?_ HQ.out
       ·show b1+1<=w5.heap.size
        omega
       ·omega)
    | (with_reducible refine Ih (b0:=W.heap.size) ns (Nat.le_refl _) ?_ ?_ au HQ.out
       ·omega
       ·exact hlt a0)
    | (with_reducible refine Ih (b0:=w5.heap.size) ns s5 ?_ ?_ au HQ.out
       ·omega
       ·simp)
 case rest=>
  obtain⟨rfl,b6,q6,rfl,P9,YI,Gb,dX⟩:=hcut.out
  obtain⟨pc,nc,cc,rfl⟩:=YI.form
  have gh:=zh dX;have Eu:=zh P9;have av:=zh YI;have Lj:=zh Gb
  have bB:=zh (bx dX bB);have bS:=zh (bx dX bS)
  have HT:=zh (HT.kept dX);have HN:=zh (HN.kept dX);have iF:=zh (iF.kept dX)
  have bm:=zh (aa bm dX)
  clear hcut P9 YI Gb dX G H a2
  obtain⟨G,H,a2⟩:=ac bB
  obtain⟨f0,f1,f2,f3,f4,f5⟩:=bC Eu
  have dZ:b0<wc.heap.size:=hlt bB
  have P9:b6<wc.heap.size:=hlt Eu
  have v0:=bm.cell xA (by simp)
  have BI:g<wc.heap.size:=zn Hz bm.size
  have m0:(0:Int)<(J:Int):=by omega
  have m1:decide ((0:Int)<(J:Int))=true:=zd m0
  have m2:=zE (0<J)
  have m3:0<J:=by omega
  go_wp2_with fail
  obtain⟨W7,m,Uo,e7,vY,AU,V9⟩:=Jb wc (.cells #[.bool false,.string ⟨B.nm.toArray⟩,.slice none 0 0,.int .i64 (B.base:Int),.slice pc nc cc,.int .i64 0,.string ⟨#[]⟩,.string ⟨#[]⟩,.bool false,.slice none 0 0,.bool false,.slice none 0 0,.int .i64 0,.int .i64 (B.ps:Int),.int .i64 B.bare] 62)
  have cG:=zh AU
  have i8:=zh vY
  have bB:=zh (bx AU bB);have bS:=zh (bx AU bS)
  have av:=zh (av.kept AU)
  have HT:=zh (HT.kept AU);have HN:=zh (HN.kept AU);have iF:=zh (iF.kept AU)
  have bm:=zh (aa bm AU)
  have bX:b6<m:=by rw [<-e7];exact P9
  have Zc:Hid (wc.heap.size=m):=zh e7
  have bP:b1<b6:=by have:=Lj.out;omega
  clear G H a2 f0 f1 f2 f3 f4 f5 dZ P9 v0 BI
  obtain⟨G,H,a2⟩:=ac bB
  obtain⟨d0,d1,d2,d3,d4,d5,d6,d7,d8,d9,j0,Ah,BU,BS,BQ,X2⟩:=br i8
  have dZ:b0<W7.heap.size:=hlt bB
  have lP:m<W7.heap.size:=hlt i8
  have v0:=bm.cell xA (by simp)
  have BI:g<W7.heap.size:=zn Hz bm.size
  try rw [<-Uo]
  try rw [e7]
  clear Uo e7 vY AU V9
  have D8:m≠b0:=by omega
  have Bg:m≠g:=by have Y:=Hz.out;have Z:=gj.out;omega
  have zW:=Kr
  have q1:(yt.toList == [112,117,98])=pub:=jI.out
  go_region_held3 (fun w'=>w'.cell? ⟨b0,0,none⟩=some (.slice pt mt ct)/\w'.cell? ⟨b0,1,none⟩=some (.slice pn mn cn)/\w'.cell? ⟨g,ax,none⟩=some (.int .i64 (k0:Int)))
   (first | with_reducible exact⟨G,H,v0⟩ | go_keep)
   (first | (go_at_call 90;refine(jw _ (HT.kept gbx) (HN.kept gbx)).mono ?_;rintro E w8 ⟨rfl,rt⟩;have O:=zh (aa (show W7.grownBy _ none from gbx) rt);obtain⟨G,H,a2⟩:=ac (bx O bB);obtain⟨d0,d1,d2,d3,d4,d5,d6,d7,d8,d9,j0,Ah,BU,BS,BQ,X2⟩:=br (bx O i8);have v0:=O.cell v0 (by simp);have lP:m<w8.heap.size:=zn lP O.size;clear rt))
  all_goals
   go_wp2_with fail
   have P6:Fr2 (fun A=>A=m) W7 (w8.setCell ⟨m,0,none⟩ (.bool pub)):=(Fr2.none O).trans (Fr2.setCell (S:=fun A=>A=m) (Fr2.refl _ _) (g:=m) (j:=0) rfl _)
   have Mt:=zh (ab (i:=0) (u:=.bool pub) (bx O i8))
   obtain⟨W9,aX⟩:=zx (w8.setCell ⟨m,0,none⟩ (.bool pub))
   rw [aX] at P6 Mt ⊢
   have Mt:Hid (W9.heap[m]? = some (.cells #[.bool pub,.string ⟨B.nm.toArray⟩,.slice none 0 0,.int .i64 (B.base:Int),.slice pc nc cc,.int .i64 0,.string ⟨#[]⟩,.string ⟨#[]⟩,.bool false,.slice none 0 0,.bool false,.slice none 0 0,.int .i64 0,.int .i64 (B.ps:Int),.int .i64 B.bare] 62 (0,0))):=Mt
   have Ep:w.heap.size<=m:=by have:=gj.out;omega
   have fR:=zh (Fr2.after bm P6 (fun A E=>by have E:A=m:=E;omega))
   have XA:=zh (P6.keep bB (by omega));have bq:=zh (P6.keep bS (by omega))
   have bd:=zh (PAt.same P6 (fun A hk E=>by have E:A=m:=E;have Y:=hk.2.1;have Z:=Zc.out;omega) av)
   have AQ:Hid (m+1<=W9.heap.size):=zh (hlt Mt)
   clear P6 aX G H a2 d0 d1 d2 d3 d4 d5 d6 d7 d8 d9 j0 Ah BU BS BQ X2 dZ lP v0 BI
   go_loopw [37] (fun iv wr=>∃(j:Nat) (I:List (List Value)) (pv:Option Addr) (nv cv:Nat),j<=J/\iv=.int .i64 (j:Int)/\Hid (wr.heap[m]? = some (.cells #[.bool pub,.string ⟨B.nm.toArray⟩,.slice pv nv cv,.int .i64 (B.base:Int),.slice pc nc cc,.int .i64 0,.string ⟨#[]⟩,.string ⟨#[]⟩,.bool false,.slice none 0 0,.bool false,.slice none 0 0,.int .i64 0,.int .i64 (B.ps:Int),.int .i64 B.bare] 62 (0,0)))/\Hid (ag 5 73 wr W9.heap.size (.slice pv nv cv) I)/\Hid (eZ (fun A=>m+1<=A/\A<wr.heap.size/\A≠m/\(Value.slice pv nv cv).ownBlock≠some A) wr (bA T (l.take j)) I)/\Hid (Fr2 (fun A=>A=m) W9 wr)) (fun iv _=>J - (intOf iv).toNat)
   case atStart=>exact⟨0,[],none,0,0,zero_le _,rfl,Mt,zh (ag.nil _ _ _ _),zh (by simp [bA,eZ]),zh (Fr2.refl _ _)⟩
   case round=>
    obtain⟨j,I,pv,nv,cv,hj,rfl,B4,HO,fc,HF⟩:=hrel
    have cW:Hid (w.grownBy wr none):=zh (Fr2.after fR HF (fun i hi=>by have E:i=m:=hi;omega))
    have bV:=zh (HF.keep XA (by omega));have iN:=zh (HF.keep bq (by omega))
    have Ez:Hid (m+1<=wr.heap.size):=zh (Nat.le_trans AQ HF.size)
    have rV:=zh (bn.kept cW);have mv:=zh (aJ.kept cW);have K8:=zh (bc.kept cW)
    obtain⟨G,H,a2⟩:=ac bV
    obtain⟨d0,d1,d2,d3,d4,d5,d6,d7,d8,d9,j0,Ah,BU,BS,BQ,X2⟩:=br B4
    have dZ:b0<wr.heap.size:=hlt bV
    have lP:m<wr.heap.size:=hlt B4
    have AR:g<wr.heap.size:=zn Hz cW.size
    by_cases bt:j<J
    ·obtain⟨uj,yL⟩:∃u,l[j]? = some u:=⟨l[j]'(by have:=Bt.out;omega),QS _⟩
     obtain⟨k1,eD,dK,gW⟩:=kA.2 j uj yL
     obtain⟨gg,oo,JL,-,jx⟩:=bO (aJ.2 n _ HX) eD
     rw [Xq.out] at JL
     injection JL with JL;injection JL with es cI;subst es cI
     have jx:=cW.cell jx (by simp)
     have y1:(0:Int)<=(j:Int):=by omega
     have y2:(j:Int)<(J:Int):=by omega
     have y3:decide (j<J)=true:=zd bt
     have y4:decide ((j:Int)<(J:Int))=true:=zd y2
     have cu:=zh (qu T yL)
     by_cases h4:aU uj=4
     ·cases uj with
      | lf i=>simp [aU] at h4
      | nd k' l'=>
        have h4:k'=4:=h4
        subst h4
        obtain⟨n',mE,eC,dO,gD⟩:=dK.nd
        have eC:k1=n':=by omega
        subst eC
        have ln:=da sE yL
        simp only [kOk] at ln
        have jM:=zh (jm k1 _ wr dO mv)
        have S6:=zh (fun W Y Z h3=>Mn k1 4 mE l' W dO gD ln.2.2 (fun aq hz=>by rw [<-xY.out];exact lY aq (dy yL aq (by simp only [lvT];exact hz))) (by have h9:=eU yL;have h8:=lj.out;simp only [szR] at h9;omega) (Yk l' (gn yL)) Y Z h3)
        have cu:Hid (bA T (l.take (j+1))=bA T (l.take j)++[cm T l']):=zh (by rw [cu.out,if_pos (show aU (.nd 4 l')=4 from rfl)];rfl)
        have H3:Hid (I.length<=1000000):=zh (by have Y:=pB fc.out;have Z:=tP T (l.take j);have h3:=length_take (i:=j) (l:=l);omega)
        obtain⟨b4,bW,DR,-⟩:=HO.is
        have vF:nv=I.length:=by injection DR
        have bF:=zh vF
        clear yL eD dK gW dO gD ln DR vF
        go_wp2_with fail
        refine jM.mono ?_
        rintro E w6 ⟨rfl,R⟩
        have L:=zh R
        clear G H a2 d0 d1 d2 d3 d4 d5 d6 d7 d8 d9 j0 Ah BU BS BQ X2
        obtain⟨G,H,a2⟩:=ac (bx R bV)
        obtain⟨d0,d1,d2,d3,d4,d5,d6,d7,d8,d9,j0,Ah,BU,BS,BQ,X2⟩:=br (bx R B4)
        have dZ:b0<w6.heap.size:=zn dZ R.size
        have lP:m<w6.heap.size:=zn lP R.size
        clear R jM
        go_wp2_with fail
        go_region_law (first
         | (refine eG (s:=5) (t:=54) (T:=73) (by decide) Tryz.underlying54 Ht rfl (by omega) rfl _ _ rfl W9.heap.size I [q0,q1,q2,q3,q4] rfl rp (.slice pv nv cv) rfl (ag.kept fh gby) w7.heap.size _ rfl (by exact iH) rfl H3 (by have:=gO.out;simp;omega) (w7.heap.size+1) (by simp) ?_;intro U ak w9 fM bH el;have iJ:=(bH.block m (by simp;omega) (fun E=>by have:=(ag.at fh m E.symm).1;have:=AQ.out;omega)).trans (show _=_ from bx (show w7.grownBy _ none from gby) QL);obtain⟨r0,r1,r2,r3,r4,r5,r6,r7,r8,r9,wM,vG,ve,wE,yh,FJ⟩:=br iJ;have fW:=zh iJ;have ji:=zh fM;have ii:=zh bH;have oC:=zh el;clear iJ fM bH el)
         | (go_simp;go_at_call 91;refine(S6 _ (rV.kept (aa L gby)) (mv.kept (aa L gby)) (K8.kept (aa L gby))).mono ?_;rintro E w7 ⟨dV,a8,rfl,hq⟩;obtain⟨-,qq,q0,q1,q2,q3,q4,rfl⟩:=hq.five;have rp:=zh qq;have sI:=zh (aa L (aa (show w6.grownBy _ none from gby) dV));have HQ:Hid (PAt (fun A=>wr.heap.size<=A) w7 _ [q0,q1,q2,q3,q4]):=zh (PAt.mono (fun A hk=>Nat.le_trans L.size hk) hq);have fh:=zh (HO.kept sI);have QL:=zh (bx sI B4);obtain⟨x0,x1,x2,x3,x4,x5,x6,x7,x8,x9,gE,gw,fS,fv,kU,bw⟩:=br QL.out;have bM:m<w7.heap.size:=hlt QL.out;have gO:Hid (W9.heap.size<=w7.heap.size):=zh (Nat.le_trans HF.size sI.size);have iH:=zh (YK w7 (.cells #[q0,q1,q2,q3,q4] 73));clear dV hq qq))
        all_goals
         have dz:w7.grownBy (w7.alloc (.cells #[q0,q1,q2,q3,q4] 73)) none:=qn _ _ _
         have AK:Hid (eZ (fun A=>m+1<=A/\A<(w9.setCell ⟨m,2,none⟩ (.slice (some ⟨U,0,none⟩) (I.length+1) ak)).heap.size/\A≠m/\(Value.slice (some ⟨U,0,none⟩) (I.length+1) ak).ownBlock≠some A) (w9.setCell ⟨m,2,none⟩ (.slice (some ⟨U,0,none⟩) (I.length+1) ak)) (bA T (l.take (j+1))) (I++[[q0,q1,q2,q3,q4]])):=zh (by
          rw [cu.out]
          exact Nn (w7:=w7) (wa:=w7.alloc (.cells #[q0,q1,q2,q3,q4] 73)) Ez HO (by have:=AQ.out;omega) (hlt B4) fc sI HQ dz (by simp) ii oC (ad _ _))
         have fq:Hid ((w9.setCell ⟨m,2,none⟩ (.slice (some ⟨U,0,none⟩) (I.length+1) ak)).heap[m]? = some (.cells #[.bool pub,.string ⟨B.nm.toArray⟩,.slice (some ⟨U,0,none⟩) (I.length+1) ak,.int .i64 (B.base:Int),.slice pc nc cc,.int .i64 0,.string ⟨#[]⟩,.string ⟨#[]⟩,.bool false,.slice none 0 0,.bool false,.slice none 0 0,.int .i64 0,.int .i64 (B.ps:Int),.int .i64 B.bare] 62 (0,0))):=zh (ab (i:=2) (u:=.slice (some ⟨U,0,none⟩) (I.length+1) ak) fW)
         have iQ:Hid (ag 5 73 (w9.setCell ⟨m,2,none⟩ (.slice (some ⟨U,0,none⟩) (I.length+1) ak)) W9.heap.size (.slice (some ⟨U,0,none⟩) (I.length+1) ak) (I++[[q0,q1,q2,q3,q4]])):=zh (ji.keptS (Fr2.setCell (S:=fun A=>A=m) (Fr2.refl _ _) (g:=m) (j:=2) rfl _) (fun g hg E=>by have:=AQ.out;omega))
         have gB:Hid (Fr2 (fun A=>A=m) W9 (w9.setCell ⟨m,2,none⟩ (.slice (some ⟨U,0,none⟩) (I.length+1) ak))):=zh ((HF.low (Below.trans2 (Below.gb sI HF.size) (Below.trans2 (Below.gb dz gO) ((Fr2.of ii (S:=fun A=>(Value.slice pv nv cv).ownBlock=some A) (fun A E=>E)).below (by have:=gO.out;simp;omega) (fun A E=>(ag.at fh A E).1))))).setCell rfl _)
         clear dz ji fW ii oC iH HQ rp fh QL r0 r1 r2 r3 r4 r5 r6 r7 r8 r9 wM vG ve wE yh FJ x0 x1 x2 x3 x4 x5 x6 x7 x8 x9 gE gw fS fv kU bw fc HO HF
         go_wp2_with fail
         go_roundw
         case rel=>exact⟨j+1,I++[[q0,q1,q2,q3,q4]],some ⟨U,0,none⟩,I.length+1,ak,by omega,by go_num,fq,iQ,AK,gB⟩
         case measure=>simp [intOf];omega
     ·have cu:Hid (bA T (l.take (j+1))=bA T (l.take j)):=zh (by rw [cu.out,if_neg h4,append_nil])
      obtain⟨xk,VN,zF⟩:∃xk:Int,(Calls Tryz.prog 54 #[.agg #[.slice pt mt ct,.slice pn mn cn],.int .i64 (k1:Int)] wr (bp (.int .i64 xk) wr))/\(xk == 4)=false:=by
       cases uj with
       | lf i=>
         obtain⟨n',eC,dO⟩:=dK.lf
         have eC:k1=n':=by omega
         subst eC
         exact⟨19,jm k1 _ wr dO mv,rfl⟩
       | nd k' l'=>
         obtain⟨n',mE,eC,dO,-⟩:=dK.nd
         have eC:k1=n':=by omega
         subst eC
         exact⟨(k':Int),jm k1 _ wr dO mv,xz.2 (fun E=>h4 (by have e2:k'=4:=(by omega);exact e2))⟩
      have VN:=zh VN
      clear yL eD dK gW h4
      go_wp2_with fail
      refine VN.mono ?_
      rintro E w6 ⟨rfl,R⟩
      have L:=zh R
      clear R
      go_wp2_with fail
      go_roundw
      case rel=>exact⟨j+1,I,pv,nv,cv,by omega,by go_num,zh (bx L B4),zh (HO.kept L),zh (by rw [cu.out];exact qI (fun A hk=>⟨hk.1,zn hk.2.1 L.size,hk.2.2⟩) (Ge fc L)),zh (HF.trans (Fr2.none L))⟩
      case measure=>simp [intOf];omega
    ·obtain rfl:j=J:=by omega
     obtain⟨ao,hR⟩:=zx (j - 2)
     have b3:IntKind.i64.wrap ((j:Int) - 2)=(ao:Int):=by rw [IntWalk.i64_in _ (by omega)];omega
     have i1:(0:Int)<=(ao:Int):=by omega
     have i2:(ao:Int)<(j:Int):=by omega
     have i3:decide ((ao:Int)<(j:Int))=true:=zd i2
     have i4:=zE (ao<j)
     have i5:ao<j:=by omega
     have vb:=cW.cell K7 (by simp)
     rw [hR] at vb
     clear hR
     have D8:m≠b0:=by omega
     have Bg:m≠g:=by have Y:=Hz.out;have Z:=gj.out;omega
     have Gj:b1<m:=by omega
     go_wp2_with fail
     go_region_held3 (fun w'=>w'.cell? ⟨b0,0,none⟩=some (.slice pt mt ct)/\w'.cell? ⟨b0,1,none⟩=some (.slice pn mn cn)/\w'.cell? ⟨g,ax+ao,none⟩=some (.int .i64 (kb:Int)))
      (first | with_reducible exact⟨G,H,vb⟩ | with_reducible exact⟨FE G D8,FE H D8,FE vb Bg⟩ | go_keep)
      (first | (go_at_call 36;refine(uu _ (rV.kept gby) (mv.kept gby) (K8.kept gby)).mono ?_;rintro E w8 ⟨rt,a8,rfl,hq⟩;obtain⟨op,rC,sa,sb,bs,rE,pw,pk,nw,cw,nk,rq,rfl⟩:=hq.form;have O:=zh (aa (show wr.grownBy _ none from gby) rt);have bi:Hid (EAt (fun A=>wr.heap.size<=A) w8 _ _):=zh hq;obtain⟨G,H,a2⟩:=ac (bx O bV);obtain⟨d0,d1,d2,d3,d4,d5,d6,d7,d8,d9,j0,Ah,BU,BS,BQ,X2⟩:=br (bx O B4);have vb:=O.cell vb (by simp);have lP:m<w8.heap.size:=zn lP O.size;clear rt hq))
     all_goals
      obtain⟨g0,g1,g2,g3,g4,g5,g6,g7,g8,U,Y1,YZ,Zg,YN,Zh,aO⟩:=br (bx O iN)
      have eg:b1<w8.heap.size:=hlt (bx O iN)
      obtain⟨DM,qL⟩:=TK (bx O B4) (.int .i64 op) (.string sa) (.string sb) (.bool bs) (.slice pw nw cw) (.bool rE) (.slice pk nk rq) (.int .i64 rC)
      have oL:=qL.keep (bx O iN) (fun E=>by have E:b1=m:=E;omega)
      obtain⟨WS,TF⟩:=zx (((((((((w8.setCell ⟨m,5,none⟩ (.int .i64 op)).setCell ⟨m,6,none⟩ (.string sa)).setCell ⟨m,7,none⟩ (.string sb)).setCell ⟨m,8,none⟩ (.bool bs)).setCell ⟨m,9,none⟩ (.slice pw nw cw)).setCell ⟨m,10,none⟩ (.bool rE)).setCell ⟨m,11,none⟩ (.slice pk nk rq)).setCell ⟨m,12,none⟩ (.int .i64 rC)))
      rw [TF] at qL DM oL ⊢
      clear TF d0 d1 d2 d3 d4 d5 d6 d7 d8 d9 j0 Ah BU BS BQ X2 g0 g1 g2 g3 g4 g5 g6 g7 g8 U Y1 YZ Zg YN Zh aO G H a2 vb
      have a9:=zh qL;have Rx:=zh DM;have qg:=zh oL
      have pP:=zh (wP (cs:=[.bool pub,.string ⟨B.nm.toArray⟩,.slice pv nv cv,.int .i64 (B.base:Int),.slice pc nc cc,.int .i64 op,.string sa,.string sb,.bool bs,.slice pw nw cw,.bool rE,.slice pk nk rq,.int .i64 rC,.int .i64 (B.ps:Int),.int .i64 B.bare]) DM)
      obtain⟨g0,g1,g2,g3,g4,g5,g6,g7,g8,U,Y1,YZ,Zg,YN,Zh,aO⟩:=br oL
      have eg:b1<WS.heap.size:=hlt oL
      clear qL DM oL
      go_wp2_with (refine wpList_load_mid rfl 62 _ rfl m 0 rfl [.bool pub,.string ⟨B.nm.toArray⟩,.slice pv nv cv,.int .i64 (B.base:Int),.slice pc nc cc,.int .i64 op,.string sa,.string sb,.bool bs,.slice pw nw cw,.bool rE,.slice pk nk rq,.int .i64 rC,.int .i64 (B.ps:Int),.int .i64 B.bare] _ pP Tryz.underlying62 rfl GO ?_)
      obtain⟨hp,-⟩:=EG qg (.bool pub) (.string ⟨B.nm.toArray⟩) (.slice pv nv cv) (.int .i64 (B.base:Int)) (.slice pc nc cc) (.int .i64 op) (.string sa) (.string sb) (.bool bs) (.slice pw nw cw) (.bool rE) (.slice pk nk rq) (.int .i64 rC) (.int .i64 (B.ps:Int)) (.int .i64 B.bare)
      obtain⟨r0,r1,r2,r3,r4,r5,r6,r7,r8,r9,wM,vG,ve,wE,yh,-⟩:=br hp
      have eh:=fc.out
      rw [V7 (by have:=Bt.out;omega)] at eh
      have Ol:=zh (Rk (pub:=pub) gj lu Gj cW O a9 qg Zc AQ Ez bd HF HO eh bi)
      refine bodyPost_ret (v:=.agg #[.bool pub,.string ⟨B.nm.toArray⟩,.slice pv nv cv,.int .i64 (B.base:Int),.slice pc nc cc,.int .i64 op,.string sa,.string sb,.bool bs,.slice pw nw cw,.bool rE,.slice pk nk rq,.int .i64 rC,.int .i64 (B.ps:Int),.int .i64 B.bare]) (by simp [results,Tryz.results56,go_sem,r0,r1,r2,r3,r4,r5,r6,r7,r8,r9,wM,vG,ve,wE,yh]) rfl (by rw [EI.out];exact Ol)
end Go.Proofs.YtpkipghjohomcaaGreatDoor
