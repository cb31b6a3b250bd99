/- Lemmas. -/
import Derived.Test.YtpkipghjohomcaaGreatDoorP37
set_option linter.unusedVariables false
set_option linter.unusedSimpArgs false
set_option maxHeartbeats 16000000
set_option maxRecDepth 100000
namespace Go.Proofs.YtpkipghjohomcaaGreatDoor
open Go.RowKit List Nat Go.World
def mw (T:List Tok) (f:Fx):Tr->Fx
 | .lf _=>f
 | .nd A m=>if A=5 then { f with base:=if (gz T m).text=boolT then 2 else 1,bare:=((gz T m).pos+(gz T m).text.length:Nat) } else if A=6 then { f with cl:=[(bQ T m).headD pW],bare:=-1 } else f
def fF (T:List Tok) (A:List UInt8) (m:Nat) (l:List Tr):Fx:=l.foldl (mw T) ⟨A,0,[],m,0⟩
theorem Ci (T:List Tok) (A:List UInt8) (m:Nat) {l:List Tr} {j:Nat} {t:Tr} (h:l[j]? = some t):fF T A m (l.take (j+1))=mw T (fF T A m (l.take j)) t:=by
 unfold fF
 rw [gR h,foldl_append];rfl
def L4 (x:Fx) (w:World) (e:Ending) (A:World):Prop:=w.grownBy A none/\∃m,e=.returned (.agg m.toArray)/\cH (fun B=>w.heap.size<=B) A x m
theorem four (w:World) (A B C D:Obj):∃(W:World) (b0 E m H:Nat),W=(((w.alloc A).alloc B).alloc C).alloc D/\w.heap.size=b0/\w.heap.size+1=E/\w.heap.size+1+1=m/\w.heap.size+1+1+1=H/\W.heap[b0]? = some A/\W.heap[E]? = some B/\W.heap[m]? = some C/\W.heap[H]? = some D/\w.grownBy W none/\b0<E/\E<m/\m<H:=by
 obtain⟨W,b0,E,m,I,J,L,O,R,U,Y,Z,lu,oR⟩:=three w A B C
 have hs:W.heap.size=m+1:=by rw [I];simp;omega
 have G:=qn W D none
 refine⟨W.alloc D,b0,E,m,m+1,by rw [I],J,L,O,by omega,bx G R,bx G U,bx G Y,?_,aa Z G,lu,oR,by omega⟩
 have:=YK W D
 rw [hs] at this;exact this
theorem one1 (w:World) (A:Obj):∃(W:World) (b0:Nat),W=(w.alloc A).drew/\w.heap.size=b0/\W.heap[b0]? = some A/\w.grownBy W none/\W.heap.size=b0+1:=
 ⟨_,_,rfl,rfl,bx (aC (ad _ none)) (YK w A),aC (qn w A none),by simp [World.drew]⟩
theorem cH.turn {F:Nat->Prop} {w:World} {f:Fx} {a b c d:Value} {E:Option Addr} {B A:Nat} (h:cH F w f [a,b,.slice E B A,c,d]) (nm:List UInt8) (base ps:Nat) (bare:Int):cH F w { f with nm:=nm,base:=base,ps:=ps,bare:=bare } [.string ⟨nm.toArray⟩,.int .i64 (base:Int),.slice E B A,.int .i64 (ps:Int),.int .i64 bare]:=by
 obtain⟨Y,U,R,m,G,H,I⟩:=h
 injection m with _ m;injection m with _ m;injection m with m _;injection m with J L O
 subst J L O
 exact⟨_,_,R,rfl,G,H,I⟩
theorem CC (T:List Tok) (N:List Nd) (K:Nat->Option Addr×Nat) (pt pn:Option Addr) (ct cn:Nat) (a5:RIH T N K pt pn ct cn 150000) (hT:T.length<=40000) (hN:N.length<=150000)
  (n:Nat) (kd:Int) (ks:List Int) (l:List Tr) (hx:N[n]? = some ⟨kd,-1,ks⟩) (B:KT N n ks l) (dx:fj l) (eB:∀z∈cg l,z<T.length) (fG:bK l<=149999) (eM:∀t∈l,OkK T t) (iS:∀i,(tkT T i).pos<=1000000/\(tkT T i).text.length<=1000000)
  (Z:ByteArray) (aJ:Int) (y0:ByteArray) (U:Nat) (w:World) (ht:bl w pt (T.map toI)) (hw:al w pn N K):
  Calls Tryz.prog 57 #[.agg #[.slice pt T.length ct,.slice pn N.length cn],.int .i64 (n:Int),.agg #[.int .i64 aJ,.string y0,.string Z,.int .i64 (U:Int)]] w (L4 (fF T Z.data.toList U l) w):=by
 obtain⟨g,av,rfl,bN,c0,c1,c2⟩:=bZ hw hx
 have iE:=zh (hw.2 n _ hx)
 have hn:n<N.length:=(Q4.1 hx).1
 have HW:=zh hw;have HT:=zh ht;have kA:=zh B;have sE:=zh dx;have lj:=zh fG;have lY:=zh eB;have qk:=zh eM;have Gr:=zh iS
 have uu:=zh a5
 have JT:=zh (fun (n j i:Nat) (ks:List Int) (l:List Tr) (B:KT N n ks l) (hj:l[j]? = some (.lf i)) (hi:i<T.length)=>fV (K:=K) (pt:=pt) (pn:=some ⟨g,av,none⟩) (ct:=ct) (cn:=cn) hT hN B hj hi)
 obtain⟨ao,hM⟩:=zx N.length
 obtain⟨tm,kK⟩:=zx T.length
 obtain⟨kl,dU⟩:=zx ks.length
 have fP:Hid (kl=l.length):=zh (by rw [<-dU];exact B.1)
 have HM:=zh hM;have ue:=zh kK
 have Bo:kl<=150000:=by have:=fP.out;have:=fw l;omega
 unfold RIH at uu
 simp only at c0 c1 c2
 rw [hM] at hn hN uu JT ⊢
 rw [kK] at hT uu JT ⊢
 rw [dU] at c2
 obtain⟨kq,kV⟩:=zx (K n).1
 obtain⟨kc,px⟩:=zx (K n).2
 have iE:Hid (VAt w kq (ar ks)):=zh (by rw [<-kV];exact iE)
 rw [kV,px] at c2
 have d1:decide (n<ao)=true:=zd hn
 have ml:=zE ((n:Int)<(ao:Int))
 have mR:Hid (g<w.heap.size):=zh bN
 clear a5 hx hw ht B hM kK dU kV px dx fG eB eM iS
 have jo:=af (af (af (qn w (.cells #[.slice pt tm ct,.slice (some ⟨g,av,none⟩) ao cn] 46) none) (.cells #[.int .i64 aJ,.string y0,.string Z,.int .i64 (U:Int)] 88)) (.cells #[.string ⟨#[]⟩,.int .i64 0,.slice none 0 0,.int .i64 0,.int .i64 0] 66)) (.cells #[.string Z,.int .i64 0,.slice none 0 0,.int .i64 (U:Int),.int .i64 0] 66)
 have c2:=jo.cell c2 (by simp)
 go_enter Tryz.func57,Tryz.ntmps57
 go_wp2_with fail
 obtain⟨W,b0,b1,b2,m,hW,e0,e1,e2,e3,cS,dq,ec,yJ,dp,lu,oR,JZ⟩:=four w (.cells #[.slice pt tm ct,.slice (some ⟨g,av,none⟩) ao cn] 46) (.cells #[.int .i64 aJ,.string y0,.string Z,.int .i64 (U:Int)] 88) (.cells #[.string ⟨#[]⟩,.int .i64 0,.slice none 0 0,.int .i64 0,.int .i64 0] 66) (.cells #[.string Z,.int .i64 0,.slice none 0 0,.int .i64 (U:Int),.int .i64 0] 66)
 have ky:W.heap.size=m+1:=by rw [hW];simp;omega
 have bB:=zh cS;have bP:=zh ec;have ie:=zh yJ;have bm:=zh dp;have gj:=zh e0;have Ee:=zh e2;have uh:=zh ky
 clear cS dq ec yJ dp c2 jo c0 c1
 try rw [<-hW]
 try rw [e3]
 try rw [e2]
 try rw [e1]
 try rw [e0]
 clear e0 e1 e2 e3 hW ky
 go_loopw [9] (fun iv wr=>∃(j:Nat) (ay:List Value),j<=kl/\iv=.int .i64 (j:Int)/\Hid (wr.heap[m]? = some (.cells ay.toArray 66 (0,0)))/\Hid (cH (fun A=>m+1<=A/\A<wr.heap.size) wr (fF T Z.data.toList U (l.take j)) ay)/\Hid (Fr2 (fun A=>A=m) W wr)) (fun iv _=>kl - (intOf iv).toNat)
 case atStart=>exact⟨0,_,zero_le _,rfl,ie,zh ⟨none,0,[],rfl,GAt.nil,by simp [fF,LsR],fun h=>absurd rfl h⟩,zh (Fr2.refl _ _)⟩
 case round=>
  obtain⟨j,ay,hj,rfl,sQ,lT,HF⟩:=hrel
  have cW:Hid (w.grownBy wr none):=zh (Fr2.after bm HF (fun i hi=>by have:=gj.out;omega))
  have CJ:=zh (HW.kept cW)
  have rV:=zh (HT.kept cW)
  have bV:=zh (HF.keep bB (by omega));have bW:=zh (HF.keep bP (by omega))
  have Ez:Hid (m+1<=wr.heap.size):=zh (by rw [<-uh.out];exact HF.size)
  have AR:g<wr.heap.size:=zn mR cW.size
  obtain⟨a0,a1,a2⟩:=ac bV
  have dZ:b0<wr.heap.size:=hlt bV
  have fa:m<wr.heap.size:=hlt sQ
  obtain⟨E,hF⟩:=zx (fF T Z.data.toList U (l.take j))
  have aL:=zh hF
  rw [hF] at lT
  clear hF
  obtain⟨pc,nc,cc,rfl⟩:=lT.form
  by_cases bq:j<kl
  ·obtain⟨u,hu⟩:∃u,l[j]? = some u:=⟨l[j]'(by have:=fP.out;omega),QS _⟩
   obtain⟨k1,eD,dK,gW⟩:=kA.2 j u hu
   obtain⟨g1,dR,rfl,je,jx⟩:=bO iE eD
   have jx:=cW.cell jx (by simp)
   have je:g1<wr.heap.size:=zn je cW.size
   have y1:(0:Int)<=(j:Int):=by omega
   have y2:(j:Int)<(kl:Int):=by omega
   have y3:decide (j<kl)=true:=zd bq
   have y4:decide ((j:Int)<(kl:Int))=true:=zd y2
   have x1:(0:Int)<=(k1:Int):=by omega
   have x2:(k1:Int)<(ao:Int):=by omega
   have x3:=zE (k1<ao)
   have x4:decide ((k1:Int)<(ao:Int))=true:=zd x2
   have j8:=zh (qk u (gn hu))
   have R:=zh (Ci T Z.data.toList U hu)
   rw [aL.out] at R
   obtain⟨xk,xt,Ni,Y,zF⟩:∃(xk xt:Int) (Ni:List Int),N[k1]? = some ⟨xk,xt,Ni⟩/\xk=(aU u:Int):=by
    cases u with
    | lf i=>
      obtain⟨n',eC,Y⟩:=dK.lf
      have eC:k1=n':=by omega
      subst eC
      exact⟨_,_,_,Y,rfl⟩
    | nd k' l'=>
      obtain⟨n',mE,eC,Y,-⟩:=dK.nd
      have eC:k1=n':=by omega
      subst eC
      exact⟨_,_,_,Y,rfl⟩
   obtain⟨g',nS,fQ,-,n0,n1,n2⟩:=bZ CJ Y
   injection fQ with fQ;injection fQ with es cI;subst es cI
   have bi:=zh Y
   obtain⟨xl,rQ⟩:=zx Ni.length
   have Yi:=zh rQ
   simp only at n0 n1 n2
   rw [rQ] at n2
   obtain⟨a9,xQ⟩:=zx (K k1).1
   obtain⟨PZ,Dg⟩:=zx (K k1).2
   have Cz:Hid (VAt wr a9 (ar Ni)):=zh (by rw [<-xQ];exact CJ.2 k1 _ Y)
   rw [xQ,Dg] at n2
   have bd:=zh xQ
   have HU:=zh hu;have rN:=zh dK;have K6:=zh zF
   clear hu eD dK gW Y zF rQ xQ Dg
   go_wp2_with fail
   go_region
   obtain⟨O,b4,a6,e4,a4,lO,bs⟩:=one1 wr (.cells #[.int .i64 xk,.int .i64 xt,.slice a9 xl PZ] 86)
   have C6:=zh a4;have J:=zh lO;have bH:=zh e4
   have bX:m<b4:=by omega
   clear a4 lO bs n0 n1 n2 jx a0 a1 a2 je AR dZ fa x1 x2 x3 x4 y1 y2 y3 y4
   try rw [<-a6]
   try rw [e4]
   clear e4 a6
   have JF:=zh (bx J bV);have rZ:=zh (bx J sQ)
   have IY:=zh (rV.kept J);have aX:=zh (CJ.kept J)
   obtain⟨m0,m1,m2,m3⟩:=cells3 C6
   have PY:b4<O.heap.size:=hlt C6
   cases u with
   | lf i=>
     have q5:(xk == 5)=false:=xz.2 (by rw [K6.out];simp [aU])
     have q6:(xk == 6)=false:=xz.2 (by rw [K6.out];simp [aU])
     have R:Hid (fF T Z.data.toList U (l.take (j+1))=E):=zh R.out
     go_wp2_with fail
     go_roundw
     case rel=>exact⟨j+1,_,by omega,by go_num,rZ,zh (by rw [R.out];exact cH.mono (fun A B=>⟨B.1,zn B.2 J.size⟩) (lT.kept J)),zh (HF.trans (Fr2.none J))⟩
     case measure=>simp [intOf];omega
   | nd k' l'=>
     obtain⟨n',mE,eC,Y,gD⟩:=rN.nd
     have eC:k1=n':=by omega
     subst eC
     have bu:=Option.some.inj (bi.symm.trans Y)
     injection bu with WM ax bt
     subst bt
     have ln:=da sE HU
     simp only [kOk] at ln
     have yw:=ln.2.2
     have mI:∀z∈cg l',z<T.length:=fun z hz=>lY z (dy HU z (by simp only [lvT];exact hz))
     have yu:bK l'+1<=149999:=by have h9:=eU HU.out;have h8:=lj.out;simp only [szR] at h9;omega
     by_cases h5:k'=5
     ·obtain⟨aq,rfl⟩:=j8.1 h5
      have q5:(xk == 5)=true:=by rw [K6.out,h5];rfl
      have q6:(xk == 6)=false:=xz.2 (by rw [K6.out,h5];simp [aU])
      obtain⟨k6,ak,z1,L,ap,my,EQ,jy,hL⟩:=JT k1 0 aq Ni [.lf aq] gD rfl (by rw [<-ue.out];exact mI aq (by simp [cg,lvT]))
      obtain⟨g6,su,rfl,Ks,ce⟩:=bO (Cz.kept J) my
      rw [Nat.add_zero] at ce
      have HL:=zh hL
      have XW:Hid (L.data.toList=(tkT T aq).text):=zh (by rw [EQ])
      have Fg:xl=1:=by rw [<-Yi.out,gD.1];rfl
      have iS:=Gr aq
      have TT:L.size=(tkT T aq).text.length:=by rw [<-XW.out,aQ]
      rw [<-jy,<-TT] at iS
      have b6:IntKind.i64.wrap ((ap:Int)+(L.size:Int))=(ap:Int)+(L.size:Int):=IntWalk.i64_in _ (by omega)
      have R:Hid (fF T Z.data.toList U (l.take (j+1))={ E with base:=if (tkT T aq).text=boolT then 2 else 1,bare:=(ap:Int)+(L.size:Int) }):=zh (by rw [R.out,mw,if_pos h5,TT,jy];rfl)
      have w1:(0:Int)<(xl:Int):=by omega
      have w2:decide ((0:Int)<(xl:Int))=true:=zd w1
      have w3:0<xl:=by omega
      have KP:=zh ce
      clear Y gD WM ax ln yw mI yu my EQ hL Fg iS TT jy j8
      have dZ:b0<O.heap.size:=hlt JF
      have fa:m<O.heap.size:=hlt rZ
      obtain⟨a0,a1,a2⟩:=ac JF
      obtain⟨f0,f1,f2,f3,f4,f5⟩:=bC rZ
      go_wp2_with fail
      go_cut [11] (fun bw wx=>Hid (kr O b4 ak z1 L ap bw wx))
      case first=>
       go_region_held3 (fun w'=>w'.cell? ⟨b0,0,none⟩=some (.slice pt tm ct)/\w'.cell? ⟨b0,1,none⟩=some (.slice (some ⟨g,av,none⟩) ao cn)/\w'.cell? ⟨b4,2,none⟩=some (.slice (some ⟨g6,su,none⟩) xl PZ)/\w'.cell? ⟨g6,su,none⟩=some (.int .i64 (k6:Int)))
        (first | with_reducible exact⟨a0,a1,m2,ce⟩ | with_reducible exact⟨di a0 (by omega),di a1 (by omega),di m2 (by omega),di ce (by omega)⟩ | go_keep)
        (first | (go_at_call 25;refine(HL _ (IY.kept gbx) (aX.kept gbx)).mono ?_;rintro H w2 ⟨rfl,bL⟩;(try (have mB:=bx bL (YK O (.cells #[.int .i64 0,.string ⟨#[]⟩,.string ⟨#[]⟩,.int .i64 0] 88))));(try (have xR:=cx mB;obtain⟨q0,q1,q2,q3,q4⟩:=xR));have bF:=zh (aa (show O.grownBy _ none from gbx) bL);obtain⟨a0,a1,a2⟩:=ac (bx bF JF);obtain⟨m0,m1,m2,m3⟩:=cells3 (bx bF C6);have ce:=bF.cell KP (by simp);clear bL))
       all_goals
        have s2:O.heap.size<=w2.heap.size:=bF.size
        go_wp2_with fail
        go_meet
        first
         | (with_reducible refine zh (jH bF.out ?_)
            omega)
         | (with_reducible refine zh (jz bF.out (Nat.le_refl _) PY mB))
      case rest=>
       obtain⟨b5,rfl,rX,b3,dX⟩:=hcut.out
       have Ml:=zh dX
       have uz:=zh rX
       have RR:=zh (bx dX rZ);have a3:=zh (bx dX C6)
       clear hcut rX dX a0 a1 a2 f0 f1 f2 f3 f4 f5 m0 m1 m2 m3 ce dZ fa PY Ks
       obtain⟨f0,f1,f2,f3,f4,f5⟩:=bC RR
       obtain⟨m0,m1,m2,m3⟩:=cells3 a3
       obtain⟨t0,t1,t2,t3,t4⟩:=cx uz
       have fa:m<wc.heap.size:=hlt RR
       have PY:b4<wc.heap.size:=hlt a3
       have rX:b5<wc.heap.size:=hlt uz
       have b8:m≠b5:=by omega
       have b7:m≠b4:=by omega
       have ca:b5≠m:=by omega
       have b9:b4≠m:=by omega
       obtain⟨bn,Mk⟩:∃bn:Nat,(if (tkT T aq).text=boolT then 2 else 1:Nat)=bn:=⟨_,rfl⟩
       rw [Mk] at R
       by_cases au:(tkT T aq).text=boolT
       ·have e1:(L.toList == [98,111,111,108])=true:=by rw [toList_data,XW.out,au];rfl
        rw [if_pos au] at Mk
        subst Mk
        clear au
        go_wp2_with fail
        have I:Fr2 (fun A=>A=m) wc (((wc.setCell ⟨m,1,none⟩ (.int .i64 1)).setCell ⟨m,1,none⟩ (.int .i64 2)).setCell ⟨m,4,none⟩ (.int .i64 ((ap:Int)+(L.size:Int)))):=Fr2.setCell (S:=fun A=>A=m) (Fr2.setCell (S:=fun A=>A=m) (Fr2.setCell (S:=fun A=>A=m) (Fr2.refl _ _) (g:=m) (j:=1) rfl _) (g:=m) (j:=1) rfl _) (g:=m) (j:=4) rfl _
        have Nu:=zh (ab (i:=4) (u:=.int .i64 ((ap:Int)+(L.size:Int))) (ab (i:=1) (u:=.int .i64 2) (ab (i:=1) (u:=.int .i64 1) RR)))
        have aO:=zh (aa J (show O.grownBy wc none from Ml))
        have KV:=zh (cH.mono (F':=fun A=>m+1<=A/\A<(((wc.setCell ⟨m,1,none⟩ (.int .i64 1)).setCell ⟨m,1,none⟩ (.int .i64 2)).setCell ⟨m,4,none⟩ (.int .i64 ((ap:Int)+(L.size:Int)))).heap.size) (fun A B=>⟨B.1,zn B.2 (Nat.le_trans aO.size I.size)⟩) (cH.same I (fun A B H=>by have H:A=m:=H;have:=B.1;omega) (cH.turn (lT.kept aO) E.nm 2 E.ps ((ap:Int)+(L.size:Int)))))
        have LZ:=zh ((HF.trans (Fr2.none aO)).trans I)
        clear I
        go_roundw
        case rel=>exact⟨j+1,_,by omega,by go_num,Nu,zh (by rw [R.out];exact KV),LZ⟩
        case measure=>simp [intOf];omega
       ·have e1:(L.toList == [98,111,111,108])=false:=by rw [toList_data,XW.out];exact xz.2 au
        rw [if_neg au] at Mk
        subst Mk
        clear au
        go_wp2_with fail
        have I:Fr2 (fun A=>A=m) wc ((wc.setCell ⟨m,1,none⟩ (.int .i64 1)).setCell ⟨m,4,none⟩ (.int .i64 ((ap:Int)+(L.size:Int)))):=Fr2.setCell (S:=fun A=>A=m) (Fr2.setCell (S:=fun A=>A=m) (Fr2.refl _ _) (g:=m) (j:=1) rfl _) (g:=m) (j:=4) rfl _
        have Nu:=zh (ab (i:=4) (u:=.int .i64 ((ap:Int)+(L.size:Int))) (ab (i:=1) (u:=.int .i64 1) RR))
        have aO:=zh (aa J (show O.grownBy wc none from Ml))
        have KV:=zh (cH.mono (F':=fun A=>m+1<=A/\A<((wc.setCell ⟨m,1,none⟩ (.int .i64 1)).setCell ⟨m,4,none⟩ (.int .i64 ((ap:Int)+(L.size:Int)))).heap.size) (fun A B=>⟨B.1,zn B.2 (Nat.le_trans aO.size I.size)⟩) (cH.same I (fun A B H=>by have H:A=m:=H;have:=B.1;omega) (cH.turn (lT.kept aO) E.nm 1 E.ps ((ap:Int)+(L.size:Int)))))
        have LZ:=zh ((HF.trans (Fr2.none aO)).trans I)
        clear I
        go_roundw
        case rel=>exact⟨j+1,_,by omega,by go_num,Nu,zh (by rw [R.out];exact KV),LZ⟩
        case measure=>simp [intOf];omega
     ·by_cases h6:k'=6
      ·obtain⟨i6,e6,j6,rfl,XP,mB⟩:=j8.2 h6
       have q5:(xk == 5)=false:=xz.2 (by rw [K6.out];simp [aU];omega)
       have q6:(xk == 6)=true:=by rw [K6.out,h6];rfl
       obtain⟨ke,a7,a8,-⟩:=gD.2 1 e6 rfl
       have CB:kQ T N (ke:Int) e6:=⟨XP,mB,da yw (j:=1) (t:=e6) rfl,fun z hz=>mI z (dy (j:=1) (t:=e6) rfl z hz),a8⟩
       have bc:=zh (fun W h1 h2=>uu e6 ke W (by have h9:=eU (l:=[Tr.lf i6,e6,Tr.lf j6]) (j:=1) (t:=e6) rfl;omega) CB h1 h2)
       obtain⟨g6,su,Uz,G7,ce⟩:=bO (HW.2 k1 _ Y) a7
       rw [bd.out] at Uz
       subst Uz
       have bM:m≠g6:=by have:=gj.out;omega
       have D8:m≠b0:=by omega
       have bS:m≠b4:=by omega
       have ce:=(aa cW J).cell ce (by simp)
       have Ks:g6<O.heap.size:=zn G7 (aa cW J).size
       have Fg:xl=3:=by rw [<-Yi.out,gD.1];rfl
       have B1:(bQ T [Tr.lf i6,e6,Tr.lf j6]).headD pW=axT T e6:=by rw [bQ,if_neg (by simp [isN]),bQ,if_pos XP];rfl
       have R:Hid (fF T Z.data.toList U (l.take (j+1))={ E with cl:=[axT T e6],bare:=-1 }):=zh (by rw [R.out,mw,if_neg h5,if_pos h6,B1])
       have w1:(1:Int)<(xl:Int):=by omega
       have w2:decide ((1:Int)<(xl:Int))=true:=zd w1
       have w3:1<xl:=by omega
       have KP:=zh ce;have Lj:=zh Ks
       clear Y gD WM ax ln yw mI yu a7 a8 CB Fg B1 j8 XP mB h5 h6
       have dZ:b0<O.heap.size:=hlt JF
       have fa:m<O.heap.size:=hlt rZ
       obtain⟨a0,a1,a2⟩:=ac JF
       obtain⟨f0,f1,f2,f3,f4,f5⟩:=bC rZ
       go_wp2_with fail
       go_region_held3 (fun w'=>w'.cell? ⟨b0,0,none⟩=some (.slice pt tm ct)/\w'.cell? ⟨b0,1,none⟩=some (.slice (some ⟨g,av,none⟩) ao cn)/\w'.cell? ⟨b4,2,none⟩=some (.slice (some ⟨g6,su,none⟩) xl PZ)/\w'.cell? ⟨g6,su+1,none⟩=some (.int .i64 (ke:Int)))
        (first | with_reducible exact⟨a0,a1,m2,ce⟩ | go_keep)
        (first | (go_at_call 58;refine(bc _ (IY.kept gbx) (aX.kept gbx)).mono ?_;rintro H G ⟨rt,qe,rfl,hq⟩;obtain⟨q0,q1,q2,q3,q4,KK,J1,rfl⟩:=hq.seven;have HQ:=zh hq;have eY:=zh (aa (show O.grownBy _ none from gbx) rt);obtain⟨a0,a1,a2⟩:=ac (bx eY JF);obtain⟨f0,f1,f2,f3,f4,f5⟩:=bC (bx eY rZ);obtain⟨m0,m1,m2,m3⟩:=cells3 (bx eY C6);have ce:=eY.cell KP (by simp);have fa:m<G.heap.size:=hlt (bx eY rZ);have PY:b4<G.heap.size:=hlt (bx eY C6);clear rt hq))
       all_goals
        go_wp2_with fail
        have I:Fr2 (fun A=>A=m) G ((G.setCell ⟨m,2,none⟩ (.slice (some ⟨G.heap.size,0,none⟩) 1 1)).setCell ⟨m,4,none⟩ (.int .i64 (-1))):=Fr2.setCell (S:=fun A=>A=m) (Fr2.setCell (S:=fun A=>A=m) (Fr2.refl _ _) (g:=m) (j:=2) rfl _) (g:=m) (j:=4) rfl _
        have KE:((G.setCell ⟨m,2,none⟩ (.slice (some ⟨G.heap.size,0,none⟩) 1 1)).setCell ⟨m,4,none⟩ (.int .i64 (-1))).heap.size=G.heap.size:=by simp [World.setCell]
        have dz:=qn ((G.setCell ⟨m,2,none⟩ (.slice (some ⟨G.heap.size,0,none⟩) 1 1)).setCell ⟨m,4,none⟩ (.int .i64 (-1))) (.cells #[q0,q1,q2,q3,q4,KK,J1] 68) none
        have hA:=YK ((G.setCell ⟨m,2,none⟩ (.slice (some ⟨G.heap.size,0,none⟩) 1 1)).setCell ⟨m,4,none⟩ (.int .i64 (-1))) (.cells #[q0,q1,q2,q3,q4,KK,J1] 68)
        rw [KE] at hA
        have EL:(((G.setCell ⟨m,2,none⟩ (.slice (some ⟨G.heap.size,0,none⟩) 1 1)).setCell ⟨m,4,none⟩ (.int .i64 (-1))).alloc (.cells #[q0,q1,q2,q3,q4,KK,J1] 68)).heap.size=G.heap.size+1:=by rw [<-KE];simp
        have Nu:=zh (bx dz (ab (i:=4) (u:=.int .i64 (-1)) (ab (i:=2) (u:=.slice (some ⟨G.heap.size,0,none⟩) 1 1) (bx eY rZ))))
        have JA:=(RAt.same I (fun A B H=>by have H:A=m:=H;have h1:O.heap.size<=A:=B.1;have h2:=hlt rZ.out;omega) HQ.bound).kept dz
        have KV:Hid (cH (fun A=>m+1<=A/\A<(((G.setCell ⟨m,2,none⟩ (.slice (some ⟨G.heap.size,0,none⟩) 1 1)).setCell ⟨m,4,none⟩ (.int .i64 (-1))).alloc (.cells #[q0,q1,q2,q3,q4,KK,J1] 68)).heap.size) (((G.setCell ⟨m,2,none⟩ (.slice (some ⟨G.heap.size,0,none⟩) 1 1)).setCell ⟨m,4,none⟩ (.int .i64 (-1))).alloc (.cells #[q0,q1,q2,q3,q4,KK,J1] 68)) { E with cl:=[axT T e6],bare:=-1 } [.string ⟨E.nm.toArray⟩,.int .i64 (E.base:Int),.slice (some ⟨G.heap.size,0,none⟩) 1 1,.int .i64 (E.ps:Int),.int .i64 (-1)]):=zh ⟨_,1,[[q0,q1,q2,q3,q4,KK,J1]],rfl,Gw hA,by
         simp only [LsR]
         exact⟨_,[],rfl,RAt.mono (fun A B=>by have h1:O.heap.size<=A:=B.1;have h2:=B.2;have h3:=hlt rZ.out;rw [EL];omega) JA,rfl⟩,fun _=>⟨_,rfl,by rw [EL];have h2:=hlt (bx eY rZ);simp only;omega⟩⟩
        have LZ:=zh (((HF.trans (Fr2.none (aa J eY))).trans I).trans (Fr2.none dz))
        clear I KE dz hA EL JA
        go_roundw
        case rel=>exact⟨j+1,_,by omega,by go_num,Nu,zh (by rw [R.out];exact KV),LZ⟩
        case measure=>simp [intOf];omega
      ·have q5:(xk == 5)=false:=xz.2 (by rw [K6.out];simp [aU];omega)
       have q6:(xk == 6)=false:=xz.2 (by rw [K6.out];simp [aU];omega)
       have R:Hid (fF T Z.data.toList U (l.take (j+1))=E):=zh (by rw [R.out,mw,if_neg h5,if_neg h6])
       clear Y gD WM ax ln yw mI yu j8 h5 h6
       go_wp2_with fail
       go_roundw
       case rel=>exact⟨j+1,_,by omega,by go_num,rZ,zh (by rw [R.out];exact cH.mono (fun A B=>⟨B.1,zn B.2 J.size⟩) (lT.kept J)),zh (HF.trans (Fr2.none J))⟩
       case measure=>simp [intOf];omega
  ·obtain rfl:j=kl:=by omega
   have TY:fF T Z.data.toList U l=E:=by rw [<-aL.out,V7 (by have:=fP.out;omega)]
   have B6:=zh TY
   obtain⟨f0,f1,f2,f3,f4,f5⟩:=bC sQ
   obtain⟨g0,g1,g2,g3,g4,g5⟩:=bC bW
   have cB:b2<wr.heap.size:=hlt bW
   clear TY a0 a1 a2
   go_wp2_with fail
   obtain⟨hp,I⟩:=Gz bW (.string ⟨E.nm.toArray⟩) (.int .i64 (E.base:Int)) (.slice pc nc cc) (.int .i64 (E.ps:Int)) (.int .i64 E.bare)
   obtain⟨r0,r1,r2,r3,r4,-⟩:=bC hp
   have HP:Hid (L4 E w (.returned (.agg #[.string ⟨E.nm.toArray⟩,.int .i64 (E.base:Int),.slice pc nc cc,.int .i64 (E.ps:Int),.int .i64 E.bare])) _):=zh ⟨Fr2.after cW I (fun A H=>by have H:A=b2:=H;have:=gj.out;omega),_,rfl,cH.mono (fun A B=>by have:=gj.out;have:=B.1;omega) (cH.same I (fun A B H=>by have H:A=b2:=H;have:=B.1;omega) lT)⟩
   refine bodyPost_ret (v:=.agg #[.string ⟨E.nm.toArray⟩,.int .i64 (E.base:Int),.slice pc nc cc,.int .i64 (E.ps:Int),.int .i64 E.bare]) (by simp [results,Tryz.results57,go_sem,r0,r1,r2,r3,r4]) rfl (by rw [B6.out];exact HP)
end Go.Proofs.YtpkipghjohomcaaGreatDoor
