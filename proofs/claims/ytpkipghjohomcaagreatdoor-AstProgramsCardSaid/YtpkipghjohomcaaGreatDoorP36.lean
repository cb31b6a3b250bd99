/- Lemmas. -/
import Derived.Test.YtpkipghjohomcaaGreatDoorP35
set_option linter.unusedVariables false
set_option linter.unusedSimpArgs false
set_option maxHeartbeats 16000000
set_option maxRecDepth 100000
namespace Go.Proofs.YtpkipghjohomcaaGreatDoor
open Go.RowKit List Nat Go.World
def clT (c:Bool) (l:List Ex):List Ex:=if c=true then l else []
def clF (c:Bool) (f:Fx):Fx:=if c=true then f else oQ f
def clD (c:Bool) (d:Dx):Dx:=if c=true then d else oG d
def clP (c:Bool) (P:Px):Px:=if c=true then P else un P
def lp (c:Bool) (f:Fx):List UInt8:=jd (clF c f)
def j9 (c:Bool) (d:Dx):List UInt8:=jF (clD c d)
theorem Pg (c:Bool) (f:Fx):lp c f=32::(f.nm++dW f.base (clT c f.cl)):=by cases c<;>rfl
theorem Oa (c:Bool) (d:Dx):j9 c d=(if d.pub=true then [112,117,98,32] else [])++(d.res.nm++(d.ps.flatMap (lp c)++(32::(dW d.res.base (clT c d.res.cl)++([32,61,32]++(cL d.body++[10])))))):=by
 cases c
 ·exact Pm d
 ·rfl
theorem OA (c:Bool) (P:Px):si (clP c P)=P.imps.flatMap fO++P.defs.flatMap (j9 c):=by
 cases c
 ·exact Om P
 ·rfl
theorem FBd.clF {f:Fx} (c:Bool) (h:FBd f):FBd (clF c f):=by
 cases c
 ·exact h.era
 ·exact h
theorem PBd.clP {P:Px} (c:Bool) (h:PBd P):PBd (clP c P):=by
 cases c
 ·exact h.era
 ·exact h
theorem qQ (c:Bool) (f:Fx):(clF c f).base=f.base:=by cases c<;>rfl
theorem Ax (c:Bool) (f:Fx):(clF c f).cl=clT c f.cl:=by cases c<;>rfl
theorem Cu (c:Bool) (F:Nat->Prop) (P:Px) (q:List Value) (w:World) (J:jb F w P q) (hb:PBd P):
  Calls Tryz.prog 10 #[.agg q.toArray,.bool c] w (pq (si (clP c P)) w):=by
 replace J:=J.bound
 obtain⟨pi,ci,pd,cd,fH,rfl,Uu,fe,rP,bq,PL⟩:=J
 have ur:=zh (Co (hb.clP c))
 have xw:Hid (si (clP c P)=P.imps.flatMap fO++P.defs.flatMap (j9 c)):=zh (OA c P)
 have jI:=zh hb
 have jm:=zh (fun (W:World) (hg:w.grownBy W none)=>eq (S:=fun _=>False) (F:=fun A=>F A/\A<w.heap.size) (length_map _) Uu bq (Fr2.none hg) (fun _ _ h=>h))
 have bM:=zh (fun (W:World) (hg:w.grownBy W none)=>(show GAt 14 W pd fH/\RDs (fun A=>F A/\A<w.heap.size) W P.defs fH from⟨eq (S:=fun _=>False) (F:=fun A=>F A/\A<w.heap.size) (kG rP) fe PL (Fr2.none hg) (fun _ _ h=>h),nU rP hg⟩))
 obtain⟨ap,hn⟩:=zx P.imps.length
 obtain⟨ao,hm⟩:=zx P.defs.length
 have HN:=zh hn;have HM:=zh hm
 have hi:ap<=10000:=by rw [<-hn];exact hb.few
 have hd:ao<=10000:=by rw [<-hm];exact hb.fewd
 rw [hn,hm]
 clear Uu fe rP bq PL hb hn hm
 go_enter Tryz.func10,Tryz.ntmps10
 go_wp2_with fail
 obtain⟨W,b0,hW,dZ,cS,dp⟩:=Pq w (.cells #[.slice pi ap ci,.slice pd ao cd] 41)
 have bB:=zh cS;have bm:=zh dp
 try rw [<-hW]
 try rw [dZ]
 clear cS dp dZ hW
 go_loopw [5,6] (fun ax Z wr=>∃j:Nat,j<=ap/\Z=.int .i64 (j:Int)/\(∃G:ByteArray,ax=.string G/\Hid (G.data.toList=(P.imps.take j).flatMap fO))/\Hid (W.grownBy wr none)) (fun _ Z _=>ap - (intOf Z).toNat)
 case atStart=>exact⟨0,zero_le _,rfl,⟨_,rfl,zh (by simp)⟩,zh (ad _ _)⟩
 case round=>
  obtain⟨j,hj,rfl,⟨G,rfl,HT⟩,U⟩:=hrel
  have cW:Hid (w.grownBy wr none):=zh (aa bm U)
  have bV:=zh (bx U bB)
  obtain⟨a0,a1,a2⟩:=ac bV
  have dZ:b0<wr.heap.size:=hlt bV
  by_cases bs:j<ap
  ·obtain⟨ak,J⟩:∃ak,P.imps[j]? = some ak:=⟨P.imps[j]'(by rw [HN.out];exact bs),QS _⟩
   obtain⟨g,bw,rfl,bN,c0⟩:=Jc (jm wr cW) J
   have cu:Hid ((P.imps.take (j+1)).flatMap fO=(P.imps.take j).flatMap fO++fO ak):=zh (ib fO J)
   have T6:=jI.imps ak (gn J)
   obtain⟨L,nZ⟩:∃ay:ByteArray,(⟨ak.1.toArray⟩:ByteArray)=ay:=⟨_,rfl⟩
   have Fc:Hid (L.data.toList=ak.1):=zh (by rw [<-nZ])
   rw [nZ] at c0
   have kw:L.size<=2000:=by rw [aV Fc.out];exact T6
   have K2:G.size<=20000000000000:=by
    rw [aV HT.out]
    have h1:=gS fO P.imps j
    have h2:=ur.out
    rw [xw.out,Q2] at h2
    omega
   have k1:¬ 9223372036854775807<7+L.size:=by omega
   have k2:¬ 9223372036854775807<7+L.size+1:=by omega
   have k3:¬ 9223372036854775807<G.size+(7+L.size+1):=by omega
   have i3:decide (j<ap)=true:=zd bs
   have i4:=zE ((j:Int)<(ap:Int))
   have i2:(j:Int)<(ap:Int):=by omega
   have nE:Hid ((G++(((⟨#[105,109,112,111,114,116,32]⟩:ByteArray)++L)++⟨#[10]⟩)).data.toList=(P.imps.take (j+1)).flatMap fO):=zh (by rw [cu.out,<-HT.out];simp [bo,Fc.out,fO])
   clear J nZ T6
   go_wp2_with fail
   go_roundw
   case rel=>exact⟨j+1,by omega,by go_num,⟨_,rfl,nE⟩,U⟩
   case measure=>(simp [intOf]<;>omega)
  ·obtain rfl:j=ap:=by omega
   rw [V7 (by rw [HN.out];exact Nat.le_refl _)] at HT
   have lN:=HT;have bP:=U
   have ca:decide (j<j)=false:=by simp
   go_wp2_with fail
   clear a0 a1 a2 dZ
   go_loopw [5,7] (fun ax Z b4=>∃I:Nat,I<=ao/\Z=.int .i64 (I:Int)/\(∃G:ByteArray,ax=.string G/\Hid (G.data.toList=P.imps.flatMap fO++(P.defs.take I).flatMap (j9 c)))/\Hid (W.grownBy b4 none)) (fun _ Z _=>ao - (intOf Z).toNat)
   case atStart=>exact⟨0,zero_le _,rfl,⟨_,rfl,zh (by rw [lN.out];simp)⟩,bP⟩
   case round=>
    obtain⟨I,ZC,rfl,⟨t2,rfl,mK⟩,Ml⟩:=hrel
    have av:Hid (w.grownBy wr none):=zh (aa bm Ml)
    have QW:=zh (bx Ml bB)
    obtain⟨a0,a1,a2⟩:=ac QW
    have dZ:b0<wr.heap.size:=hlt QW
    by_cases bt:I<ao
    ·obtain⟨m,J⟩:∃ak,P.defs[I]? = some ak:=⟨P.defs[I]'(by rw [HM.out];exact bt),QS _⟩
     obtain⟨pp,cp,eJ,pc,cc,op,xa,xb,xc,xy,pk,nk,ck,Ip,g,bw,rfl,bN,NQ,qr,O2,pg,c0,yY⟩:=sv (bM wr av).1 (bM wr av).2 J
     have cu:Hid ((P.defs.take (I+1)).flatMap (j9 c)=(P.defs.take I).flatMap (j9 c)++j9 c m):=zh (ib (j9 c) J)
     have yM:=jI.defs m (gn J)
     have mf:=zh yM
     have oA:Hid ((P.imps.flatMap fO++(P.defs.take I).flatMap (j9 c)).length+(j9 c m).length<=20000000000000):=zh (by
      have h1:=gS (j9 c) P.defs (I+1)
      have h2:=ur.out
      rw [xw.out,Q2] at h2
      rw [cu.out,Q2] at h1
      rw [Q2]
      omega)
     have EI:Hid (j9 c m=(if m.pub=true then [112,117,98,32] else [])++(m.res.nm++(m.ps.flatMap (lp c)++(32::(dW m.res.base (clT c m.res.cl)++([32,61,32]++(cL m.body++[10]))))))):=zh (Oa c m)
     obtain⟨yn,vt⟩:∃ay:ByteArray,(⟨m.res.nm.toArray⟩:ByteArray)=ay:=⟨_,rfl⟩
     have Xg:Hid (yn.data.toList=m.res.nm):=zh (by rw [<-vt])
     have bW:Hid ((⟨m.res.nm.toArray⟩:ByteArray)=yn):=zh vt
     have b1:=cu
     have kw:yn.size<=2000:=by rw [aV Xg.out];exact yM.res.name
     obtain⟨np,tK⟩:=zx m.ps.length
     have Lc:=zh tK
     have Wi:np<=10000:=by rw [<-tK];exact yM.few
     obtain⟨KZ,Cp⟩:=zx m.res.cl.length
     rw [vt,Cp] at O2 yY
     rw [tK] at yY
     have uN:=zh NQ;have BN:=zh qr;have Rf:=zh O2;have GR:=zh pg;have pP:=zh yY
     obtain⟨aq,rL⟩:=zx m.pub
     rw [rL] at pP EI c0
     have K2:t2.size<=20000000000000:=by
      have h2:=oA.out
      rw [<-mK.out] at h2
      have h3:=aV (a:=t2) rfl
      omega
     have i3:decide (I<ao)=true:=zd bt
     have i4:=zE ((I:Int)<(ao:Int))
     have i2:(I:Int)<(ao:Int):=by omega
     clear J vt yM tK Cp NQ qr O2 pg yY rL
     go_upto_region 9 with fail
     go_cut [8] (fun t8 R=>Hid (∃B,t8=.pointer (some ⟨B,0,none⟩)/\R.heap[B]? = some (.cells #[.bool aq,.slice pp np cp,.string yn,.int .i64 (m.res.base:Int),.slice pc KZ cc,.int .i64 (m.res.ps:Int),.int .i64 m.res.bare,.int .i64 op,.string xa,.string xb,.string xc,.bool xy,.slice pk nk ck,.int .i64 Ip] 70 (0,0))/\wr.heap.size<=B/\wr.grownBy R none))
     case first=>
      go_wp2_with (refine wpList_load_mid rfl 70 _ rfl g (bw+I*14) rfl [.bool aq,.slice pp np cp,.string yn,.int .i64 (m.res.base:Int),.slice pc KZ cc,.int .i64 (m.res.ps:Int),.int .i64 m.res.bare,.int .i64 op,.string xa,.string xb,.string xc,.bool xy,.slice pk nk ck,.int .i64 Ip] _ pP Tryz.underlying70 rfl AJ ?_)
      go_meet
      exact zh ⟨_,rfl,YK wr _,Nat.le_refl _,qn wr _ none⟩
     case rest=>
      obtain⟨B,rfl,Zm,I1,rt⟩:=hcut.out
      have MU:=zh Zm
      have BP:Hid (w.grownBy wc none):=zh (aa av rt)
      have VE:Hid (W.grownBy wc none):=zh (aa Ml rt)
      have uN:=zh (GAt.kept uN rt);have BN:=zh (qV BN rt);have Rf:=zh (Rf.kept rt);have GR:=zh (GR.kept rt)
      obtain⟨S1,kj⟩:=zx (P.imps.flatMap fO++(P.defs.take I).flatMap (j9 c))
      rw [kj] at mK oA
      have mJ:=zh kj
      have a4:Hid (W.heap.size<=B):=zh (Nat.le_trans Ml.size I1)
      clear hcut Zm I1 rt c0 a0 a1 a2 dZ i2 i3 i4 pP QW av Ml bN kj
      obtain⟨e0,e1,e2,e3,e4,e5,e6,e7,e8,e9,qC,rG,qR,rh,rS⟩:=bk MU
      have S3:B<wc.heap.size:=hlt MU
      have k3:¬ 9223372036854775807<t2.size+4:=by omega
      go_upto_if 40 with fail
      go_cut [5] (fun t5 R=>(∃t3:ByteArray,t5=.string t3/\Hid (t3.data.toList=S1++(if aq=true then [112,117,98,32] else [])))/\R=wc)
      case first=>
       cases aq
       ·go_wp2_with fail
        go_meet
        exact⟨⟨_,rfl,zh (by simp [mK.out])⟩,rfl⟩
       ·go_wp2_with fail
        go_meet
        exact⟨⟨_,rfl,zh (by simp [bo,mK.out])⟩,rfl⟩
      case rest=>
       obtain⟨⟨t3,rfl,RM⟩,lx⟩:=hcut
       subst lx
       have HR:Hid (S1.length+((if aq=true then [112,117,98,32] else []:List UInt8).length+(m.res.nm.length+((m.ps.flatMap (lp c)).length+(1+((dW m.res.base (clT c m.res.cl)).length+(3+((cL m.body).length+1)))))))<=20000000000000):=zh (by
        have h1:=oA.out
        rw [EI.out] at h1
        simp only [Q2,hJ,length_nil] at h1 ⊢
        omega)
       have b2:t3.size<=20000000000000:=by rw [aV RM.out,Q2];have:=HR.out;omega
       have k3:¬ 9223372036854775807<t3.size+yn.size:=by omega
       have a8:Hid (S1++j9 c m=S1++(if aq=true then [112,117,98,32] else [])++m.res.nm++m.ps.flatMap (lp c)++(32::(dW m.res.base (clT c m.res.cl)++([32,61,32]++(cL m.body++[10]))))):=zh (by rw [EI.out];simp only [append_assoc])
       obtain⟨S0,jS⟩:=zx (S1++(if aq=true then [112,117,98,32] else [])++m.res.nm)
       have lC:Hid (S0.length+((m.ps.flatMap (lp c)).length+(1+((dW m.res.base (clT c m.res.cl)).length+(3+((cL m.body).length+1)))))<=20000000000000):=zh (by
        have h1:=HR.out
        rw [<-jS]
        simp only [Q2] at h1 ⊢
        omega)
       have IY:Hid ((t3++yn).data.toList=S0):=zh (by rw [bo,RM.out,Xg.out];exact jS)
       rw [jS] at a8
       clear jS HR EI oA mK RM K2
       go_wp2_with fail
       clear k3 b2 kw
       obtain⟨a3,Y9⟩:=zx wc
       rw [Y9] at MU BP VE uN BN Rf GR S3 ⊢
       clear Y9 e0 e1 e2 e3 e4 e5 e6 e7 e8 e9 qC rG qR rh rS
       go_loopw [5,9] (fun ax Z b5=>∃A:Nat,A<=np/\Z=.int .i64 (A:Int)/\(∃G:ByteArray,ax=.string G/\Hid (G.data.toList=S0++(m.ps.take A).flatMap (lp c)))/\Hid (a3.grownBy b5 none)) (fun _ Z _=>np - (intOf Z).toNat)
       case atStart=>exact⟨0,zero_le _,rfl,⟨_,rfl,zh (by rw [IY.out];simp)⟩,zh (ad _ _)⟩
       case round=>
        obtain⟨A,hk,rfl,⟨G,rfl,HT⟩,U⟩:=hrel
        have RZ:=zh (bx U MU)
        obtain⟨e0,e1,e2,e3,e4,e5,e6,e7,e8,e9,qC,rG,qR,rh,rS⟩:=bk RZ
        have S3:B<wr.heap.size:=hlt RZ
        by_cases bu:A<np
        ·obtain⟨E,J⟩:∃ak,m.ps[A]? = some ak:=⟨m.ps[A]'(by rw [Lc.out];exact bu),QS _⟩
         obtain⟨b6,cz,g5,Ym,rfl,bN,hF,c0,c1,c2,c3,c4⟩:=sj (GAt.kept uN U) (qV BN U) J
         have cu:Hid ((m.ps.take (A+1)).flatMap (lp c)=(m.ps.take A).flatMap (lp c)++lp c E):=zh (ib (lp c) J)
         have aX:=mf.pars E (gn J)
         have GE:=zh (aX.clF c)
         obtain⟨L,nZ⟩:∃ay:ByteArray,(⟨E.nm.toArray⟩:ByteArray)=ay:=⟨_,rfl⟩
         have Fc:Hid (L.data.toList=E.nm):=zh (by rw [<-nZ])
         have b7:L.size<=2000:=by rw [aV Fc.out];exact aX.name
         obtain⟨TG,sq⟩:=zx E.cl.length
         rw [nZ,sq] at hF
         rw [nZ] at c0
         rw [sq] at c2
         have HF:=zh hF
         have K2:G.size<=20000000000000:=by
          rw [aV HT.out,Q2]
          have h1:=gS (lp c) m.ps A
          have h2:=lC.out
          omega
         have i3:decide (A<np)=true:=zd bu
         have i4:=zE ((A:Int)<(np:Int))
         have i2:(A:Int)<(np:Int):=by omega
         have bS:Hid ((⟨E.nm.toArray⟩:ByteArray)=L):=zh nZ
         clear J nZ aX sq hF
         go_upto_region 16 with fail
         go_cut [10] (fun b3 R=>Hid (∃O,b3=.pointer (some ⟨O,0,none⟩)/\R.heap[O]? = some (.cells #[.string L,.int .i64 (E.base:Int),.slice b6 TG cz,.int .i64 (E.ps:Int),.int .i64 E.bare] 66 (0,0))/\wr.heap.size<=O/\wr.grownBy R none))
         case first=>
          go_wp2_with fail
          go_meet
          exact zh ⟨_,rfl,YK wr _,Nat.le_refl _,qn wr _ none⟩
         case rest=>
          obtain⟨O,rfl,ET,a6,Iy⟩:=hcut.out
          clear c0 c1 c2 c3 c4 bN
          obtain⟨q0,q1,q2,q3,q4,q5⟩:=bC ET
          have nI:O<wc.heap.size:=hlt ET
          have fW:=zh ET;have fR:=zh Iy;have a5:=zh a6
          clear ET a6 Iy hcut
          go_upto_if 61 with fail
          go_cut [] (fun R=>Hid (∃z2 n2 c2,R.heap[O]? = some (.cells #[.string L,.int .i64 (E.base:Int),.slice z2 n2 c2,.int .i64 (E.ps:Int),.int .i64 E.bare] 66 (0,0))/\cH (fun A=>F A/\A<w.heap.size) R (clF c E) [.string L,.int .i64 (E.base:Int),.slice z2 n2 c2,.int .i64 (E.ps:Int),.int .i64 E.bare]/\a3.grownBy R none))
          case first=>
           cases c
           ·go_wp2_with fail
            go_meet
            exact zh ⟨_,_,_,ab (i:=2) (u:=.slice none 0 0) fW,by rw [<-bS.out];exact DY E,Fr2.after (aa U fR) (Fr2.setCell (Fr2.refl (dm O) wc) (g:=O) (j:=2) (aK O) _) (fun j hj=>by have au:j=O:=hj;have:=a5.out;have:=U.size;omega)⟩
           ·go_wp2_with fail
            go_meet
            exact zh ⟨_,_,_,fW,HF.kept fR,aa U fR⟩
          case rest=>
          obtain⟨z2,n2,c2,yr,a9,bc⟩:=hcut.out
          have uz:=zh yr;have Eo:=zh a9;have ef:=zh bc
          clear hcut yr a9 bc q0 q1 q2 q3 q4 q5 nI fW fR a5
          go_upto_region 19 with fail
          obtain⟨W5,Ua⟩:=zx wc
          rw [Ua] at uz ef Eo ⊢
          clear Ua
          have MT:=zh (fun (V:World) (hV:W5.grownBy V none)=>by have h:=B3 (fun A=>F A/\A<w.heap.size) (clF c E) _ V (Eo.kept hV) GE.out;rw [qQ,Ax] at h;exact h)
          have aJ:Hid ((dW E.base (clT c E.cl)).length<=100010):=zh (by have h:=lm GE.out;rw [qQ,Ax] at h;exact h)
          have aO:Hid (W5.grownBy W5 none):=zh (ad _ _)
          have k4:¬ 9223372036854775807<1+L.size:=by omega
          clear e0 e1 e2 e3 e4 e5 e6 e7 e8 e9 qC rG qR rh rS
          obtain⟨f0,f1,f2,f3,f4,f5⟩:=bC uz
          have Qh:O<W5.heap.size:=hlt uz
          go_region_held3 (fun H=>H.cell? ⟨O,0,none⟩=some (.string L)/\H.cell? ⟨O,1,none⟩=some (.int .i64 (E.base:Int))/\H.cell? ⟨O,2,none⟩=some (.slice z2 n2 c2)/\H.cell? ⟨O,3,none⟩=some (.int .i64 (E.ps:Int))/\H.cell? ⟨O,4,none⟩=some (.int .i64 E.bare))
           (first | with_reducible exact⟨f0,f1,f2,f3,f4⟩ | go_keep)
           (first | (go_at_call 30;refine(MT _ gbx).mono ?_;rintro au w9 ⟨⟨dd,rfl,hd⟩,bH⟩;have fR:Hid (W5.grownBy w9 none):=zh (aa gbx bH);have bX:Hid (dd.data.toList=dW E.base (clT c E.cl)):=zh hd;have rP:dd.size<=100010:=(by rw [aV bX.out];exact aJ);have k5:¬ 9223372036854775807<1+L.size+dd.size:=(by omega);have k6:¬ 9223372036854775807<G.size+(1+L.size+dd.size):=(by omega);obtain⟨f0,f1,f2,f3,f4,f5⟩:=bC (bx fR uz);clear bH hd))
          all_goals
           have nE:Hid ((G++(((⟨#[32]⟩:ByteArray)++L)++dd)).data.toList=S0++(m.ps.take (A+1)).flatMap (lp c)):=zh (by rw [cu.out,Pg,bo,HT.out,bo,bo,Fc.out,bX.out,append_assoc];rfl)
           have cG:Hid (a3.grownBy w9 none):=zh (aa ef fR)
           clear f0 f1 f2 f3 f4 f5
           go_wp2_with fail
           go_roundw
           case rel=>exact⟨A+1,by omega,by go_num,⟨_,rfl,nE⟩,cG⟩
           case measure=>(simp [intOf]<;>omega)
        ·obtain rfl:A=np:=by omega
         rw [V7 (by rw [Lc.out];exact Nat.le_refl _)] at HT
         have aL:=zh (GR.kept U)
         go_upto_if 72 with fail
         go_cut [] (fun R=>Hid (∃Sw n2 R4,R.heap[B]? = some (.cells #[.bool aq,.slice pp A cp,.string yn,.int .i64 (m.res.base:Int),.slice Sw n2 R4,.int .i64 (m.res.ps:Int),.int .i64 m.res.bare,.int .i64 op,.string xa,.string xb,.string xc,.bool xy,.slice pk nk ck,.int .i64 Ip] 70 (0,0))/\cH (fun A=>F A/\A<w.heap.size) R (clF c m.res) [.string yn,.int .i64 (m.res.base:Int),.slice Sw n2 R4,.int .i64 (m.res.ps:Int),.int .i64 m.res.bare]/\W.grownBy R none/\RAt (fun A=>F A/\A<w.heap.size) R m.body [.int .i64 op,.string xa,.string xb,.string xc,.bool xy,.slice pk nk ck,.int .i64 Ip]))
         case first=>
          cases c
          ·go_wp2_with fail
           go_meet
           have nW:Fr2 (dm B) wr (wr.setCell ⟨B,4,none⟩ (.slice none 0 0)):=Fr2.setCell (Fr2.refl (dm B) wr) (g:=B) (j:=4) (aK B) _
           exact zh ⟨_,_,_,ab (i:=4) (u:=.slice none 0 0) RZ,by rw [<-bW.out];exact DY m.res,Fr2.after (aa VE U) nW (fun j hj=>by have au:j=B:=hj;have:=a4.out;omega),RAt.same nW (fun A hk au=>by have au:A=B:=au;have:=hk.2;have:=a4.out;have:=bm.size;omega) aL⟩
          ·go_wp2_with fail
           go_meet
           exact zh ⟨_,_,_,RZ,Rf.kept U,aa VE U,aL⟩
         case rest=>
         obtain⟨Sw,n2,R4,Gb,bn,bd,bi⟩:=hcut.out
         have Eu:=zh Gb;have Uf:=zh bn;have a7:=zh bd;have LV:=zh bi
         clear hcut Gb bn bd bi aL e0 e1 e2 e3 e4 e5 e6 e7 e8 e9 qC rG qR rh rS S3
         go_upto_region 22 with fail
         obtain⟨W6,C7⟩:=zx wc
         rw [C7] at a7 Uf LV Eu ⊢
         clear C7
         have MT:=zh (fun (V:World) (hV:W6.grownBy V none)=>by have h:=B3 (fun A=>F A/\A<w.heap.size) (clF c m.res) _ V (Uf.kept hV) (mf.res.clF c);rw [qQ,Ax] at h;exact h)
         have bF:=zh (fun (V:World) (hV:W6.grownBy V none)=>GN (cY m.body) m.body (Nat.le_refl _) (fun A=>F A/\A<w.heap.size) _ V (LV.kept hV) mf.body.small (by have:=mf.body.len;omega))
         have aJ:Hid ((dW m.res.base (clT c m.res.cl)).length<=100010):=zh (by have h:=lm (mf.res.clF c);rw [qQ,Ax] at h;exact h)
         have bL:Hid ((cL m.body).length<=100000):=zh mf.body.len
         have aO:Hid (W6.grownBy W6 none):=zh (ad _ _)
         have K2:G.size<=20000000000000:=by
          rw [aV HT.out,Q2]
          have h2:=lC.out
          omega
         obtain⟨e0,e1,e2,e3,e4,e5,e6,e7,e8,e9,qC,rG,qR,rh,rS⟩:=bk Eu
         have S3:B<W6.heap.size:=hlt Eu
         go_region_held3 (fun H=>H.cell? ⟨B,0,none⟩=some (.bool aq)/\H.cell? ⟨B,1,none⟩=some (.slice pp A cp)/\H.cell? ⟨B,2,none⟩=some (.string yn)/\H.cell? ⟨B,3,none⟩=some (.int .i64 (m.res.base:Int))/\H.cell? ⟨B,4,none⟩=some (.slice Sw n2 R4)/\H.cell? ⟨B,5,none⟩=some (.int .i64 (m.res.ps:Int))/\H.cell? ⟨B,6,none⟩=some (.int .i64 m.res.bare)/\H.cell? ⟨B,7,none⟩=some (.int .i64 op)/\H.cell? ⟨B,8,none⟩=some (.string xa)/\H.cell? ⟨B,9,none⟩=some (.string xb)/\H.cell? ⟨B,10,none⟩=some (.string xc)/\H.cell? ⟨B,11,none⟩=some (.bool xy)/\H.cell? ⟨B,12,none⟩=some (.slice pk nk ck)/\H.cell? ⟨B,13,none⟩=some (.int .i64 Ip))
          (first | with_reducible exact⟨e0,e1,e2,e3,e4,e5,e6,e7,e8,e9,qC,rG,qR,rh⟩ | go_keep)
          (first
           | (go_at_call 30;refine(MT _ (aa aO gbx)).mono ?_;rintro au w9 ⟨⟨Y,rfl,wU⟩,bH⟩;have aO:=zh (aa (aa aO gbx) bH);have rO:Hid (Y.data.toList=dW m.res.base (clT c m.res.cl)):=zh wU;have b8:Y.size<=100010:=(by rw [aV rO.out];exact aJ);have k5:¬ 9223372036854775807<1+Y.size:=(by omega);have k6:¬ 9223372036854775807<1+Y.size+3:=(by omega);(try (have k7:¬ 9223372036854775807<1+Y.size+3+d2.size:=(by omega);have k8:¬ 9223372036854775807<1+Y.size+3+d2.size+1:=(by omega);have k9:¬ 9223372036854775807<G.size+(1+Y.size+3+d2.size+1):=(by omega)));obtain⟨e0,e1,e2,e3,e4,e5,e6,e7,e8,e9,qC,rG,qR,rh,rS⟩:=bk (bx aO Eu);clear bH wU)
           | (go_at_call 31;refine(bF _ (aa aO gbx)).mono ?_;rintro au w9 ⟨⟨d2,rfl,X7⟩,bH⟩;have aO:=zh (aa (aa aO gbx) bH);have SJ:Hid (d2.data.toList=cL m.body):=zh X7;have b9:d2.size<=100000:=(by rw [aV SJ.out];exact bL);(try (have k7:¬ 9223372036854775807<1+Y.size+3+d2.size:=(by omega);have k8:¬ 9223372036854775807<1+Y.size+3+d2.size+1:=(by omega);have k9:¬ 9223372036854775807<G.size+(1+Y.size+3+d2.size+1):=(by omega)));obtain⟨e0,e1,e2,e3,e4,e5,e6,e7,e8,e9,qC,rG,qR,rh,rS⟩:=bk (bx aO Eu);clear bH X7))
         all_goals
          have nE:Hid ((G++((((⟨#[32]⟩:ByteArray)++Y)++⟨#[32,61,32]⟩++d2)++⟨#[10]⟩)).data.toList=P.imps.flatMap fO++(P.defs.take (I+1)).flatMap (j9 c)):=zh (by rw [b1.out,<-append_assoc,mJ.out,a8.out];simp [bo,HT.out,rO.out,SJ.out])
          have cG:Hid (W.grownBy _ none):=zh (aa a7 aO)
          clear e0 e1 e2 e3 e4 e5 e6 e7 e8 e9 qC rG qR rh rS
          go_wp2_with fail
          go_roundw
          case rel=>exact⟨I+1,by omega,by go_num,⟨_,rfl,nE⟩,cG⟩
          case measure=>(simp [intOf]<;>omega)
    ·obtain rfl:I=ao:=by omega
     rw [V7 (by rw [HM.out];exact Nat.le_refl _)] at mK
     go_wp2_with fail
     go_ret
     exact⟨⟨_,rfl,by rw [mK.out,xw.out]⟩,av⟩
end Go.Proofs.YtpkipghjohomcaaGreatDoor
