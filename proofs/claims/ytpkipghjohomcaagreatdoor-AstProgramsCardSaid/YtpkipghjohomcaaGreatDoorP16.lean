/- Lemmas. -/
import Derived.Test.YtpkipghjohomcaaGreatDoorP12
set_option linter.unusedVariables false
set_option linter.unusedSimpArgs false
set_option maxHeartbeats 16000000
set_option maxRecDepth 100000
namespace Go.Proofs.YtpkipghjohomcaaGreatDoor
open Go.RowKit List Nat Go.World
theorem E9 {T:List Tok} {N:List Nd} {K:Kf} (hT:T.length<=150000) (hN:N.length<=150000) (pt pn:Option Addr) (ct cn:Nat):∀(ap:Nat) (t:Tr) (kx:Int) (w:World),ap<=150000->szR t<=ap->kQ T N kx t->TAt w pt T->al w pn N K->gF w->
  Calls Tryz.prog 36 #[.agg #[.slice pt T.length ct,.slice pn N.length cn],.int .i64 kx] w (Mb (axT T t) w):=by
 intro ap
 induction ap with
 | zero=>intro t kx w _ h;have:=iR t;omega
 | succ ap ih=>
   intro t kx w hm fG fe ht hn gP
   have IH:=zh ih
   have jm:=zh (fun (E:Nat) (aL:Nd) W (U:N[E]? = some aL) h=>vK (K:=K) hN U pt pn T.length ct cn W h)
   have bM:=zh (fun (E:Nat) (aL:Nd) W (U:N[E]? = some aL) h=>sJ (K:=K) hN U pt pn T.length ct cn W h)
   have jw:=zh (fun (E:Nat) (m:Nat) (ks:List Int) (l:List Tr) W (U:N[E]? = some ⟨(m:Int),-1,ks⟩) (dL:KT N E ks l) (dx:fj l) (eB:∀i∈cg l,i<T.length) (xS:l.length<=150000) h1 h2=>sg (K:=K) hT hN U dL dx eB xS pt pn ct cn W h1 h2)
   have HT:=zh ht;have HN:=zh hn;have iF:=zh gP
   have rg:=zh fe
   obtain⟨mt,wu⟩:=zx T.length
   obtain⟨mn,zo⟩:=zx N.length
   rw [wu,zo] at jm bM jw IH ⊢
   have xY:=zh wu
   clear ht hn gP ih hT hN wu zo fe
   go_enter Tryz.func36,Tryz.ntmps36
   go_wp2_with fail
   obtain⟨W,b0,b1,hW,e0,e1,cS,dq,dp,lu⟩:=two w (.cells #[.slice pt mt ct,.slice pn mn cn] 82) (.cells #[.int .i64 0,.string ⟨#[]⟩,.string ⟨#[]⟩,.bool false,.slice none 0 0,.bool false,.slice none 0 0,.int .i64 0] 60)
   have bB:=zh cS;have bS:=zh dq;have bm:=zh dp;have gj:=zh e0
   clear cS dq dp
   try rw [<-hW]
   try rw [e1]
   try rw [e0]
   clear e0 e1 hW
   go_loopg [1] (ap+1) (fun gk I wr=>∃(t':Tr) (aJ:Int),I=.int .i64 aJ/\szR t'<=gk/\gk<=ap+1/\Hid (kQ T N aJ t')/\Hid (axT T t'=axT T t)/\Hid (W.grownBy wr none))
   case atStart=>exact⟨t,kx,rfl,fG,Nat.le_refl _,rg,zh rfl,zh (ad _ _)⟩
   case round=>
    obtain⟨t',aJ,rfl,RG,Qc,QK,av,Zu⟩:=hrel
    obtain⟨a8,Qf,Uk,Hw,bd⟩:=QK.out
    cases t' with
    | lf i=>simp [isN] at a8
    | nd m l=>
      obtain⟨E,ks,rfl,U,dL⟩:=bd.nd
      simp only [WE] at Qf
      simp only [kOk] at Uk
      simp only [lvT] at Hw
      have dZ:=bx Zu bB
      have bV:=zh dZ
      obtain⟨a0,a1,a2⟩:=ac dZ
      have Y:=zh (HN.kept (aa bm Zu));have rV:=zh (HT.kept (aa bm Zu));have K8:=zh (iF.kept (aa bm Zu))
      have jM:=zh (fun W h=>jm E _ W U h)
      clear dZ a8 bd
      by_cases oR:m=12
      ·have e1:((m:Int) == 12)=true:=by rw [oR];rfl
       obtain⟨i,j,u,rfl,O⟩:∃i j u,l = [.lf i,u,.lf j]/\isN u=true:=by
        have h:=Qf.1
        rw [oR] at h
        cases h with
        | grp i j u h1=>exact⟨i,j,u,rfl,h1⟩
       obtain⟨k1,eD,dK,-⟩:=dL.2 1 u rfl
       have BK:=zh (fun W h=>bM E _ W U h)
       obtain⟨g,a9,BO,bN,ck⟩:=bO (Y.2 E _ U) eD
       have hL:ks.length=3:=dL.1
       obtain⟨aq,P8⟩:=zx ks.length
       rw [P8] at hL
       have BK:Hid (∀W,al W pn N K->Calls Tryz.prog 37 #[.agg #[.slice pt mt ct,.slice pn mn cn],.int .i64 (E:Int)] W (bp (.slice (some ⟨g,a9,none⟩) aq (K E).2) W)):=zh (by rw [<-BO,<-P8];exact BK)
       have z1:=zE (1<aq)
       have Vs:=zE ((1:Int)<(aq:Int))
       have cp:(1:Int)<(aq:Int):=by omega
       have HU:Hid (kQ T N (k1:Int) u):=zh ⟨O,(by have h:=uS Qf.2 (j:=1) (t:=u) rfl;exact h),da Uk.2.2 (j:=1) (t:=u) rfl,fun i hi=>Hw i (dy (j:=1) (t:=u) rfl i hi),dK⟩
       have bi:Hid (axT T u=axT T t):=zh (by
        have h:axT T (.nd m [.lf i,u,.lf j])=axT T u:=by rw [oR];exact NG T i j O
        rw [<-h];exact av)
       have a3:Hid (szR u+2<gk):=zh (by simp only [szR,bK] at RG;omega)
       generalize (K E).2=cc at *
       clear U dL eD dK BO O P8 hL oR Qf Uk Hw RG QK av
       go_wp2_with fail
       refine(jM _ Y).mono ?_
       rintro A w1 ⟨rfl,L⟩
       have dZ:=bx L bV
       have xJ:=zh dZ
       obtain⟨a0,a1,a2⟩:=ac dZ
       have xD:=zh (Y.kept L)
       have fu:=zh (aa Zu L)
       have ck:=L.cell ck (by simp)
       have bN:=zn bN L.size
       clear L jM dZ
       go_wp2_with fail
       refine(BK _ xD).mono ?_
       rintro A w2 ⟨rfl,bL⟩
       have bF:=zh (aa fu bL)
       have ck:=bL.cell ck (by simp)
       have bN:=zn bN bL.size
       clear bL BK
       go_wp2_with fail
       go_roundg (szR u)
       case measure=>have:=a3.out;omega
       case rel=>exact⟨u,_,rfl,Nat.le_refl _,by have:=a3.out;omega,HU,bi,bF⟩
      ·have e1:=yi (m:Int) 12
       have uw:(m == 12)=false:=xz.2 oR
       have K0:=zh Qf;have sE:=zh Uk;have lY:=zh Hw;have HX:=zh U;have kA:=zh dL;have aO:=zh oR
       have lj:Hid (bK l<=ap):=zh (by simp only [szR] at RG;omega)
       clear Qf Uk Hw U dL oR RG
       go_wp2_with fail
       refine(jM _ Y).mono ?_
       rintro A w1 ⟨rfl,L⟩
       have fu:=zh (aa Zu L)
       have dZ:=bx L bV
       have xJ:=zh dZ
       obtain⟨a0,a1,a2⟩:=ac dZ
       have xD:=zh (Y.kept L);have lN:=zh (rV.kept L);have BW:=zh (K8.kept L)
       clear L dZ bV Y rV K8
       have BK:=zh (fun W h1 h2=>jw E m ks l W HX kA sE.2.2 (fun i hi=>by rw [<-xY.out];exact lY i hi) (by have:=fw l;have:=lj.out;omega) h1 h2)
       have ax:=zh (fun W b4 b2 h1 h2=>LM K0.1 aO b4 b2 W (by have:=fw l;have:=lj.out;omega) h1 h2)
       obtain⟨op,nm,md,nu,ys,ps,K3⟩:=FZ m (fun j=>tkT T ((ba l).getD j T.length))
       rw [K3] at ax
       have YS:=zh K3
       have uh:=zh fu.size
       have Rx:Hid (b1<w1.heap.size):=zh (zn (hlt bS) fu.size)
       have bP:b0<w1.heap.size:=by have:=Rx.out;omega
       have a6:=zh (aa bm fu)
       clear K3
       go_wp2_with fail
       go_cut [5] (fun t5 wx=>Hid (sM w b1 op ps nm md nu ys t5 wx/\w1.grownBy wx none))
       case first=>
        go_region_with (first
         | (go_at_call 54;refine(jM _ (xD.kept gbx)).mono ?_;rintro A w2 ⟨rfl,bL⟩;(try (have mB:=bx bL (YK w1 (.cells #[.int .i64 0,.string ⟨#[]⟩,.string ⟨#[]⟩,.bool false,.slice none 0 0,.bool false,.slice none 0 0,.int .i64 0] 60))));have bF:=zh (aa (show w1.grownBy _ none from gbx) bL);have IG:=bF.size;obtain⟨d0,d1,d2⟩:=ac (bx bF xJ);have cd:b0<w2.heap.size:=zn bP IG;clear bL)
         | (go_at_call 55;refine(BK _ (lN.kept (aa bF gbx)) (xD.kept (aa bF gbx))).mono ?_;rintro A w3 ⟨iU,po,co,rfl,a7⟩;(try (have au:=bx iU mB));(try (have au:=bx iU (YK w2 (.cells #[.int .i64 0,.string ⟨#[]⟩,.string ⟨#[]⟩,.bool false,.slice none 0 0,.bool false,.slice none 0 0,.int .i64 0] 60))));have bs:=zh a7;have gA:=zh (aa (aa bF (show w2.grownBy _ none from gbx)) iU);clear iU a7)
         | (go_at_call 66;refine(ax _ _ _ (bs.kept gbx) (BW.kept (aa gA gbx))).mono ?_;rintro A w4 ⟨lO,b5,rfl,hq,YI⟩;obtain⟨s,pw,nw,cw,rfl,nH⟩:=hq.parts YI;(try (have Ux:=bx lO au));(try (have Ux:=bx lO (YK w3 (.cells #[.int .i64 0,.string ⟨#[]⟩,.string ⟨#[]⟩,.bool false,.slice none 0 0,.bool false,.slice none 0 0,.int .i64 0] 60))));(try (have xR:=bJ Ux;obtain⟨c0,c1,c2,c3,c4,c5,c6,c7,c8⟩:=xR));have C8:=zh nH;have ir:=zh (aa (aa gA (show w3.grownBy _ none from gbx)) lO);(try clear lO);(try clear hq);(try clear YI);(try clear nH)))
        all_goals
         have s3:w1.heap.size<=w3.heap.size:=gA.size
         have s4:w1.heap.size<=w4.heap.size:=ir.size
         have s1:w.heap.size<=w1.heap.size:=a6.size
         have Sv:=Rx.out
         go_wp2_with fail
         go_meet
         have SZ:=aa a6 ir
         have nH:=C8.out
         first
          | (with_reducible refine zh ⟨I5 (w3:=w3) SZ ?_ ?_ ?_ ?_,af ir.out _⟩
             ·omega
             ·omega
             ·omega
             ·exact nH)
          | (with_reducible refine zh ⟨td (w3:=w3) (b:=w1.heap.size) SZ ?_ ?_ ?_ ?_ Ux ?_,Fr ir.out ?_ Ux⟩
             ·omega
             ·omega
             ·omega
             ·exact hlt au
             ·exact nH
             ·omega)
          | (with_reducible refine zh ⟨td (w3:=w3) (b:=w2.heap.size) SZ ?_ ?_ ?_ ?_ Ux ?_,Fr ir.out ?_ Ux⟩
             ·omega
             ·omega
             ·omega
             ·exact hlt au
             ·exact nH
             ·omega)
          | (with_reducible refine zh ⟨td (w3:=(w3.alloc (.cells #[.int .i64 0,.string ⟨#[]⟩,.string ⟨#[]⟩,.bool false,.slice none 0 0,.bool false,.slice none 0 0,.int .i64 0] 60))) (b:=w3.heap.size) SZ ?_ ?_ ?_ ?_ Ux ?_,Fr ir.out ?_ Ux⟩
             ·simp;omega
             ·omega
             ·omega
             ·simp
             ·exact nH
             ·omega)
       case rest=>
        obtain⟨⟨B,s,pw,nw,cw,rfl,cB,nH,ce,BI⟩,dX⟩:=hcut.out
        have gh:=zh dX;have C8:=zh nH;have bt:=zh BI
        have ay:=zh (xD.kept dX);have Vr:=zh (lN.kept dX);have aX:=zh (BW.kept dX)
        have Fy:=zh (bx dX xJ)
        have Z8:=zh (bx (aa fu dX) bS)
        have IM:=zh cB
        have TN:=zh (bM E _ wc HX ay)
        have dU:ks.length=l.length:=kA.1
        obtain⟨ak,hM⟩:=zx ks.length
        have Bt:Hid (ak=l.length):=zh (by rw [<-hM];exact dU)
        have ci:ak<=150000:=by have:=fw l;have:=lj.out;omega
        have TN:Hid (Calls Tryz.prog 37 #[.agg #[.slice pt mt ct,.slice pn mn cn],.int .i64 (E:Int)] wc (bp (.slice (K E).1 ak (K E).2) wc)):=zh (by rw [<-hM];exact TN)
        have Cz:Hid (∀W,al W pn N K->VAt W (K E).1 (ar ks)):=zh (fun W h=>h.2 E _ HX)
        obtain⟨a0,a1,a2⟩:=ac Fy
        generalize (K E).1=pk at *
        generalize (K E).2=ck at *
        clear hcut dX nH BI cB dU hM jM BK ax xD lN BW xJ
        go_wp2_with fail
        refine TN.mono ?_
        rintro A w5 ⟨rfl,dw⟩
        have ef:=zh dw
        have YG:=zh (ay.kept dw);have Uj:=zh (Vr.kept dw);have EW:=zh (aX.kept dw)
        have E3:=zh (bx dw Fy);have Vd:=zh (bx dw Z8);have Q3:=zh (bx dw IM)
        have bw:Hid (ff (fun m=>b1+1<=m/\m<w5.heap.size/\m≠B) w5 op nu s pw nw cw):=zh ((C8.same (S:=fun _=>False) (Fr2.none dw) (fun _ _ h=>h)).mono (fun m H=>⟨H.1,zn H.2.1 dw.size,H.2.2⟩))
        have bX:=zh (aa bt dw)
        have nE:Hid (B<w5.heap.size):=zh (hlt Q3)
        have cb:b0<w5.heap.size:=by have:=nE.out;omega
        clear TN dw ay Vr aX Fy Z8 IM C8
        obtain⟨a0,a1,a2⟩:=ac E3
        go_wp2_with fail
        go_loopw [28] (fun iv wr=>∃(j:Nat) (G:List (List Value)) (Z:Option Addr) (I R:Nat),j<=ak/\iv=.int .i64 (j:Int)/\Hid (wr.heap[B]? = some (.cells #[.int .i64 (op:Int),.string ⟨nm.toArray⟩,.string ⟨md.toArray⟩,.bool s,.slice pw nw cw,.bool ys,.slice Z I R,.int .i64 (ps:Int)] 60 (0,0)))/\Hid (ag 8 60 wr w5.heap.size (.slice Z I R) G)/\Hid (LsE (fun m=>b1+1<=m/\m<wr.heap.size/\m≠B/\(Value.slice Z I R).ownBlock≠some m) wr (bQ T (l.take j)) G)/\Hid (Fr2 (fun m=>m=B) w5 wr)) (fun iv _=>ak - (intOf iv).toNat)
        case atStart=>exact⟨0,[],none,0,0,zero_le _,rfl,Q3,zh (ag.nil _ _ _ _),zh (by simp [bQ,LsE]),zh (Fr2.refl _ _)⟩
        case round=>
         obtain⟨j,G,Z,I,R,hj,rfl,bW,HO,fc,HF⟩:=hrel
         have cW:Hid (w.grownBy wr none):=zh (Fr2.after bX HF (fun i hi=>by have:=gj.out;omega))
         have Y:=zh (HN.kept cW)
         have rV:=zh (HT.kept cW)
         have K8:=zh (iF.kept cW)
         have bV:=zh (HF.keep E3 (by omega))
         have iN:=zh (HF.keep Vd (by omega))
         obtain⟨a0,a1,a2⟩:=ac bV
         obtain⟨c0,c1,c2,c3,c4,c5,c6,c7,c8⟩:=bJ bW
         have ca:b0<wr.heap.size:=hlt bV
         have JQ:B<wr.heap.size:=hlt bW
         by_cases hlt:j<ak
         ·obtain⟨u,O⟩:∃u,l[j]? = some u:=⟨l[j]'(by have:=Bt.out;omega),QS _⟩
          obtain⟨k1,eD,dK,gW⟩:=kA.2 j u O
          obtain⟨g,a9,rfl,bN,jx⟩:=bO (Cz _ Y) eD
          have y1:(0:Int)<=(j:Int):=by omega
          have y2:(j:Int)<(ak:Int):=by omega
          have y3:decide (j<ak)=true:=zd hlt
          have y4:decide ((j:Int)<(ak:Int))=true:=zd y2
          cases u with
          | lf i=>
            obtain⟨n',eC,dO⟩:=dK.lf
            have eC:k1=n':=by omega
            subst eC
            have jM:=zh (jm k1 _ wr dO Y)
            have Ed:=zh (Gv T O)
            clear O eD dK gW dO
            go_wp2_with fail
            refine jM.mono ?_
            rintro A w6 ⟨rfl,J⟩
            have dD:=zh J
            clear J jM
            go_wp2_with fail
            go_roundw
            case rel=>exact⟨j+1,G,Z,I,R,by omega,by go_num,zh (bx dD bW),zh (HO.kept dD),zh (by rw [Ed.out];exact LsE.mono (fun m H=>⟨H.1,zn H.2.1 dD.size,H.2.2⟩) (fc.kept dD)),zh (HF.trans (Fr2.none dD))⟩
            case measure=>simp [intOf];omega
          | nd m' q'=>
            obtain⟨n',mE,eC,dO,-⟩:=dK.nd
            have eC:k1=n':=by omega
            subst eC
            have ln:=da sE.2.2 O
            have a4:=ln
            simp only [kOk] at ln
            have bc:((m':Int) != 19)=true:=bne_iff_ne.2 (by omega)
            have b9:(m' != 19)=true:=bne_iff_ne.2 (by omega)
            have jM:=zh (jm k1 _ wr dO Y)
            have Ed:=zh (GI T O rfl)
            have bn:Hid (kQ T N (k1:Int) (.nd m' q')):=zh ⟨rfl,uS K0.2 O,a4,fun i hi=>lY i (dy O i hi),dK⟩
            have Ec:=zh (fun W h1 h2 h3=>IH.out (.nd m' q') (k1:Int) W (by omega) (Nat.le_trans (eU O) lj) bn h1 h2 h3)
            have H3:Hid (G.length<=1000000):=zh (by have h1:=jk fc.out;have h2:=vz T (l.take j);have h3:=length_take (i:=j) (l:=l);omega)
            obtain⟨cl,ch,DR,-⟩:=HO.is
            have vF:I=G.length:=by injection DR
            have b6:=zh vF
            clear O eD dK gW dO ln a4 DR vF
            go_wp2_with fail
            refine jM.mono ?_
            rintro A w6 ⟨rfl,J⟩
            have dD:=zh J
            have Xc:=zh (bx J bW);have Qm:=zh (bx J bV)
            have bq:=zh (Y.kept J);have YA:=zh (rV.kept J);have Lj:=zh (K8.kept J)
            have SG:=zh (HO.kept J)
            have a5:Hid (LsE (fun m=>b1+1<=m/\m<w6.heap.size/\m≠B/\(Value.slice Z I R).ownBlock≠some m) w6 (bQ T (l.take j)) G):=zh (LsE.mono (fun m H=>⟨H.1,zn H.2.1 J.size,H.2.2⟩) (fc.kept J))
            have Pt:=zh (HF.trans (Fr2.none J))
            obtain⟨a0,a1,a2⟩:=ac Qm
            obtain⟨c0,c1,c2,c3,c4,c5,c6,c7,c8⟩:=bJ Xc
            have cf:b0<w6.heap.size:=_root_.Go.Proofs.YtpkipghjohomcaaGreatDoor.hlt Qm
            have bu:B<w6.heap.size:=_root_.Go.Proofs.YtpkipghjohomcaaGreatDoor.hlt Xc
            clear J jM bW bV Y rV K8 HO fc HF
            go_wp2_with fail
            go_region_law (first
             | (refine eG (s:=8) (t:=55) (T:=60) (by decide) Tryz.underlying55 Mu rfl (by omega) rfl _ _ rfl w5.heap.size G [q0,q1,q2,q3,q4,q5,q6,q7] rfl rp (.slice Z I R) rfl (ag.kept fh gbx) w7.heap.size _ rfl (by exact iH) rfl H3 (by have:=gO.out;simp;omega) (w7.heap.size+1) (by simp) ?_;intro g9 ao w9 fM bH el;have iJ:=(bH.block B (by simp;omega) (fun A=>by have:=(ag.at fh B A.symm).1;have:=nE.out;omega)).trans (show _=_ from bx (show w7.grownBy _ none from gbx) jC);obtain⟨d0,d1,d2,d3,d4,d5,d6,d7,d8⟩:=bJ iJ;have fW:=zh iJ;have ji:=zh fM;have fR:=zh bH;have oC:=zh el;clear iJ fM bH el)
             | (go_simp;go_at_call 36;refine(Ec.out _ (YA.out.kept (by repeat (with_reducible first | exact ad _ _ | refine aC ?_))) (bq.out.kept (by repeat (with_reducible first | exact ad _ _ | refine aC ?_))) (Lj.out.kept (by repeat (with_reducible first | exact ad _ _ | refine aC ?_)))).mono ?_;rintro A w7 ⟨dV,b5,rfl,hq⟩;obtain⟨q0,q1,q2,q3,q4,q5,q6,q7,rfl⟩:=hq.eight;have rp:=zh hq.one.2;have HQ:=zh hq;have cG:=zh (aa (show w6.grownBy _ none from(by repeat (with_reducible first | exact ad _ _ | refine aC ?_))) dV);have fh:=zh (SG.out.kept cG.out);have jC:=zh (bx cG.out Xc.out);obtain⟨f0,f1,f2,f3,f4,f5,f6,f7,f8⟩:=bJ jC.out;have b8:B<w7.heap.size:=_root_.Go.Proofs.YtpkipghjohomcaaGreatDoor.hlt jC.out;have gO:Hid (w5.heap.size<=w7.heap.size):=zh (Nat.le_trans Pt.out.size cG.out.size);have iH:=zh (YK w7 (.cells #[q0,q1,q2,q3,q4,q5,q6,q7] 60));clear dV hq))
            all_goals
             have dz:w7.grownBy (w7.alloc (.cells #[q0,q1,q2,q3,q4,q5,q6,q7] 60)) none:=qn _ _ _
             have AK:Hid (LsE (fun m=>b1+1<=m/\m<(w9.setCell ⟨B,6,none⟩ (.slice (some ⟨g9,0,none⟩) (G.length+1) ao)).heap.size/\m≠B/\(Value.slice (some ⟨g9,0,none⟩) (G.length+1) ao).ownBlock≠some m) (w9.setCell ⟨B,6,none⟩ (.slice (some ⟨g9,0,none⟩) (G.length+1) ao)) (bQ T (l.take (j+1))) (G++[[q0,q1,q2,q3,q4,q5,q6,q7]])):=zh (by
              rw [Ed.out]
              exact MV (w7:=w7) (wa:=w7.alloc (.cells #[q0,q1,q2,q3,q4,q5,q6,q7] 60)) (by have:=nE.out;have:=Pt.size;omega) SG nE bu a5 cG HQ dz (by simp) fR oC (ad _ _))
             have fq:Hid ((w9.setCell ⟨B,6,none⟩ (.slice (some ⟨g9,0,none⟩) (G.length+1) ao)).heap[B]? = some (.cells #[.int .i64 (op:Int),.string ⟨nm.toArray⟩,.string ⟨md.toArray⟩,.bool s,.slice pw nw cw,.bool ys,.slice (some ⟨g9,0,none⟩) (G.length+1) ao,.int .i64 (ps:Int)] 60 (0,0))):=zh (ab (i:=6) (u:=.slice (some ⟨g9,0,none⟩) (G.length+1) ao) fW)
             have iQ:Hid (ag 8 60 (w9.setCell ⟨B,6,none⟩ (.slice (some ⟨g9,0,none⟩) (G.length+1) ao)) w5.heap.size (.slice (some ⟨g9,0,none⟩) (G.length+1) ao) (G++[[q0,q1,q2,q3,q4,q5,q6,q7]])):=zh (ji.keptS (Fr2.setCell (S:=fun m=>m=B) (Fr2.refl _ _) (g:=B) (j:=6) rfl _) (fun g hg A=>by have:=nE.out;omega))
             have gB:Hid (Fr2 (fun m=>m=B) w5 (w9.setCell ⟨B,6,none⟩ (.slice (some ⟨g9,0,none⟩) (G.length+1) ao))):=zh ((Pt.low (Below.trans2 (Below.gb cG Pt.size) (Below.trans2 (Below.gb dz gO) ((Fr2.of fR (S:=fun m=>(Value.slice Z I R).ownBlock=some m) (fun m A=>A)).below (by have:=gO.out;simp;omega) (fun m A=>(ag.at fh m A).1))))).setCell rfl _)
             clear dz ji fW fR oC iH HQ rp fh jC d0 d1 d2 d3 d4 d5 d6 d7 d8 f0 f1 f2 f3 f4 f5 f6 f7 f8 a5 SG Pt
             go_wp2_with fail
             go_roundw
             case rel=>exact⟨j+1,G++[[q0,q1,q2,q3,q4,q5,q6,q7]],some ⟨g9,0,none⟩,G.length+1,ao,by omega,by go_num,fq,iQ,AK,gB⟩
             case measure=>simp [intOf];omega
         ·obtain rfl:j=ak:=by omega
          have eh:=fc.out
          rw [V7 (by have:=Bt.out;omega)] at eh
          obtain⟨SK,pX,ma⟩:=HO.rows
          have Cd:=jk eh
          have uu:Hid (∀W',wr.grownBy W' none\/Fr2 (dm b1) wr W'->EAt (fun m=>w.heap.size<=m) W' (axT T t) [.int .i64 (op:Int),.string ⟨nm.toArray⟩,.string ⟨md.toArray⟩,.bool s,.slice pw nw cw,.bool ys,.slice Z I R,.int .i64 (ps:Int)]):=zh (fun W' b3=>by
           have nW:Fr2 (fun m=>m=b1) wr W':=by
            rcases b3 with h | h
            ·exact Fr2.none h
            ·exact h
           rw [<-av.out,aaU T aO.out,YS.out]
           have h5:ff (fun m=>b1+1<=m/\m<w5.heap.size/\m≠B) wr op nu s pw nw cw:=bw.same HF (fun m H A=>H.2.2 A)
           have hl:I=(bQ T l).length:=SK.trans Cd
           subst hl
           have KQ:w.heap.size<=b1:=by have:=gj.out;omega
           exact EAt.fill ((h5.same nW (fun m H A=>by omega)).mono (fun m H=>by omega)) (pX.keptS nW (fun h0 b7 ha A=>by obtain⟨a',pS,K4,-⟩:=ma h0;rw [ha] at pS;injection pS with pS;subst pS;have:=nE.out;omega)) (LsE.mono (fun m H=>by omega) (LsE.same nW (fun m H A=>by have:=H.1;omega) eh)) (fun h0=>by
            obtain⟨a',pS,K4,-⟩:=ma (fun A=>by rw [A] at Cd;exact h0 (fb Cd.symm))
            exact⟨a',pS,by have:=nE.out;omega⟩))
          obtain⟨f0,f1,f2,f3,f4,f5,f6,f7,f8⟩:=bJ iN
          clear eh SK pX ma Cd
          go_wp2_with fail
          obtain⟨hp,hf⟩:=mY iN (.int .i64 (op:Int)) (.string ⟨nm.toArray⟩) (.string ⟨md.toArray⟩) (.bool s) (.slice pw nw cw) (.bool ys) (.slice Z I R) (.int .i64 (ps:Int))
          obtain⟨k0,k1,k2,k3,k4,k5,k6,k7,-⟩:=bJ hp
          have B6:=zh (Fr2.after cW hf (fun i hi=>by have A:i=b1:=hi;have:=gj.out;omega))
          have S6:Hid (Mb (axT T t) w (.returned (.agg #[.int .i64 (op:Int),.string ⟨nm.toArray⟩,.string ⟨md.toArray⟩,.bool s,.slice pw nw cw,.bool ys,.slice Z I R,.int .i64 (ps:Int)])) _):=zh ⟨B6,_,rfl,uu _ (.inr hf)⟩
          refine bodyPost_ret (v:=.agg #[.int .i64 (op:Int),.string ⟨nm.toArray⟩,.string ⟨md.toArray⟩,.bool s,.slice pw nw cw,.bool ys,.slice Z I R,.int .i64 (ps:Int)]) (by simp [results,Tryz.results36,go_sem,k0,k1,k2,k3,k4,k5,k6,k7]) rfl S6
end Go.Proofs.YtpkipghjohomcaaGreatDoor
