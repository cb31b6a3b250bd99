/- Lemmas. -/
import Derived.Test.YtjbgnopnehgbaaaGreatDoorP22
set_option linter.unusedVariables false
set_option linter.unusedSimpArgs false
set_option maxHeartbeats 16000000
set_option maxRecDepth 100000
namespace Go.Proofs.YtjbgnopnehgbaaaGreatDoor
open Go.RowKit
theorem Dm {T:List Tok} {N:List Nd} {K:Kf} (hT:T.length≤150000) (hN:N.length≤150000) (pt pn:Option Addr) (ct cn:Nat):∀(m:Nat) (t:Tr) (kx:Int) (w:World),m≤150000→szR t≤m→rH T N kx t→TAt w pt T→aE w pn N K→fy w→
  Calls Tryz.prog 58 #[.agg #[.slice pt T.length ct,.slice pn N.length cn],.int .i64 kx] w (Kz (axT T t) w):=by
 intro m
 induction m with
 | zero=>intro t kx w _ h;have:=kQ t;omega
 | succ m ih=>
   intro t kx w hm db eO ht hn cg
   have IH:=zh ih
   have rh:=zh (fun (n:Nat) (x:Nd) W (hx:N[n]? = some x) h=>tL (K:=K) hN hx pt pn T.length ct cn W h)
   have bP:=zh (fun (n:Nat) (x:Nd) W (hx:N[n]? = some x) h=>qz (K:=K) hN hx pt pn T.length ct cn W h)
   have kA:=zh (fun (n:Nat) (k:Nat) (ks:List Int) (l:List Tr) W (hx:N[n]? = some ⟨(k:Int),-1,ks⟩) (jX:KT N n ks l) (lJ:ix l) (lH:∀i∈eo l,i<T.length) (ET:l.length≤150000) h1 h2=>pW (K:=K) hT hN hx jX lJ lH ET pt pn ct cn W h1 h2)
   have HT:=zh ht;have HN:=zh hn;have gf:=zh cg
   have qE:=zh eO
   obtain⟨mt,vM⟩:∃mt,T.length=mt:=⟨_,rfl⟩
   obtain⟨mn,sM⟩:∃mn,N.length=mn:=⟨_,rfl⟩
   rw [vM,sM] at rh bP kA IH ⊢
   have AZ:=zh vM
   clear ht hn cg ih hT hN vM sM eO
   go_enter Tryz.func58,Tryz.ntmps58
   go_wp2_with fail
   obtain⟨W,b0,b1,hW,e0,e1,ge,ik,jC,zR⟩:=two w (.cells #[.slice pt mt ct,.slice pn mn cn] 73) (.cells #[.int .i64 0,.string ⟨#[]⟩,.string ⟨#[]⟩,.bool false,.slice none 0 0,.bool false,.slice none 0 0,.int .i64 0] 30)
   have f9:=zh ge;have iV:=zh ik;have da:=zh jC;have kD:=zh e0
   clear ge ik jC
   try rw [←hW]
   try rw [e1]
   try rw [e0]
   clear e0 e1 hW
   go_loopg [1] (m+1) (fun gk nv wr=>∃(t':Tr) (kx':Int),nv=.int .i64 kx'∧szR t'≤gk∧gk≤m+1∧Hid (rH T N kx' t')∧Hid (axT T t'=axT T t)∧Hid (W.grownBy wr none))
   case atStart=>exact⟨t,kx,rfl,db,Nat.le_refl _,qE,zh rfl,zh (ad _ _)⟩
   case round=>
    obtain⟨t',kx',rfl,QJ,Su,PG,HA',Y3⟩:=hrel
    obtain⟨nd',Yi,ko',lv',pl'⟩:=PG.out
    cases t' with
    | lf i=>simp [isN] at nd'
    | nd k l=>
      obtain⟨n,ks,rfl,hx,jX⟩:=pl'.nd
      simp only [WE] at Yi
      simp only [kOk] at ko'
      simp only [lvT] at lv'
      have jK:=bx Y3.out f9.out
      have iw:=zh jK
      obtain⟨a0,a1,a2⟩:=ah jK
      have lu:=zh (HN.out.kept (aa da.out Y3.out));have Bv:=zh (HT.out.kept (aa da.out Y3.out));have JD:=zh (gf.out.kept (aa da.out Y3.out))
      have iS:=zh (fun W h=>rh.out n _ W hx h)
      clear jK nd' pl'
      by_cases zX:k=12
      ·have e1:((k:Int) == 12)=true:=by rw [zX];rfl
       obtain⟨i,j,u,rfl,hu⟩:∃i j u,l = [.lf i,u,.lf j]∧isN u=true:=by
        have h:=Yi.1
        rw [zX] at h
        cases h with
        | grp i j u h1=>exact⟨i,j,u,rfl,h1⟩
       obtain⟨k1,iP,eU,-⟩:=jX.2 1 u rfl
       have wt:=zh (fun W h=>bP.out n _ W hx h)
       obtain⟨g,off,nF,gc,ck⟩:=gW (lu.out.2 n _ hx) iP
       have hL:ks.length=3:=jX.1
       obtain⟨L,hLL⟩:∃L,ks.length=L:=⟨_,rfl⟩
       rw [hLL] at hL
       have wt:Hid (∀W,aE W pn N K→Calls Tryz.prog 49 #[.agg #[.slice pt mt ct,.slice pn mn cn],.int .i64 (n:Int)] W (aR (.slice (some ⟨g,off,none⟩) L (K n).2) W)):=zh (by rw [←nF,←hLL];exact wt.out)
       have z1:decide (1<L)=true:=zd (by omega)
       have z1':decide ((1:Int)<(L:Int))=true:=zd (by omega)
       have zz1:(1:Int)<(L:Int):=by omega
       have HU:Hid (rH T N (k1:Int) u):=zh ⟨hu,(by have h:=zB Yi.2 (j:=1) (t:=u) rfl;exact h),fB ko'.2.2 (j:=1) (t:=u) rfl,fun i hi=>lv' i (gE (j:=1) (t:=u) rfl i hi),eU⟩
       have HAU:Hid (axT T u=axT T t):=zh (by
        have h:axT T (.nd k [.lf i,u,.lf j])=axT T u:=by rw [zX];exact V5 T i j hu
        rw [←h];exact HA'.out)
       have HSU:Hid (szR u+2<gk):=zh (by simp only [szR,dI] at QJ;omega)
       generalize (K n).2=cc at *
       clear hx jX iP eU nF hu hLL hL zX Yi ko' lv' QJ PG HA'
       go_wp2_with fail
       refine(iS.out _ lu.out).mono ?_
       rintro e w1 ⟨rfl,bI⟩
       have jK:=bx bI iw.out
       have vq:=zh jK
       obtain⟨a0,a1,a2⟩:=ah jK
       have rz:=zh (lu.out.kept bI)
       have cZ:=zh (aa Y3.out bI)
       have ck:=bI.cell ck (by simp)
       have gc:=zn gc bI.size
       clear bI iS jK
       go_wp2_with fail
       refine(wt.out _ rz.out).mono ?_
       rintro e w2 ⟨rfl,bT⟩
       have cz:=zh (aa cZ.out bT)
       have ck:=bT.cell ck (by simp)
       have gc:=zn gc bT.size
       clear bT wt
       go_wp2_with fail
       go_roundg (szR u)
       case measure=>have:=HSU.out;omega
       case rel=>exact⟨u,_,rfl,Nat.le_refl _,by have:=HSU.out;omega,HU,HAU,cz⟩
      ·have e1:((k:Int) == 12)=false:=beq_eq_false_iff_ne.2 (by omega)
       have sl:(k == 12)=false:=beq_eq_false_iff_ne.2 zX
       have YB:=zh Yi;have Js:=zh ko';have vB:=zh lv';have HX:=zh hx;have sD:=zh jX;have H12:=zh zX
       have pO:Hid (dI l≤m):=zh (by simp only [szR] at QJ;omega)
       clear Yi ko' lv' hx jX zX QJ
       go_wp2_with fail
       refine(iS.out _ lu.out).mono ?_
       rintro e w1 ⟨rfl,bI⟩
       have cZ:=zh (aa Y3.out bI)
       have jK:=bx bI iw.out
       have vq:=zh jK
       obtain⟨a0,a1,a2⟩:=ah jK
       have rz:=zh (lu.out.kept bI);have lI:=zh (Bv.out.kept bI);have HL1:=zh (JD.out.kept bI)
       clear bI jK iw lu Bv JD
       have wt:=zh (fun W h1 h2=>kA.out n k ks l W HX.out sD.out Js.out.2.2 (fun i hi=>by rw [←AZ.out];exact vB.out i hi) (by have:=jk l;have:=pO.out;omega) h1 h2)
       have HK3:=zh (fun W p c h1 h2=>J8 YB.out.1 H12.out p c W (by have:=jk l;have:=pO.out;omega) h1 h2)
       obtain⟨op,nm,md,nu,ys,ps,JA⟩:=Eb k (fun j=>tkT T ((aX l).getD j T.length))
       rw [JA] at HK3
       have Vi:=zh JA
       have Yu:=zh cZ.out.size
       have Jr:Hid (b1<w1.heap.size):=zh (zn (hlt iV.out) cZ.out.size)
       have afw:b0<w1.heap.size:=by have:=Jr.out;omega
       have aaZ:=zh (aa da.out cZ.out)
       clear JA
       go_wp2_with fail
       go_cut [5] (fun t5 wx=>Hid (DC w b1 op ps nm md nu ys t5 wx∧w1.grownBy wx none))
       case first=>
        go_region_with (first
         | (go_at_call 51;refine(iS.out _ (rz.out.kept gbx)).mono ?_;rintro e w2 ⟨rfl,bT⟩;(try (have Lk:=bx bT (heap_alloc_new w1 (.cells #[.int .i64 0,.string ⟨#[]⟩,.string ⟨#[]⟩,.bool false,.slice none 0 0,.bool false,.slice none 0 0,.int .i64 0] 30))));have cz:=zh (aa (show w1.grownBy _ none from gbx) bT);have Ov:=cz.out.size;obtain⟨d0,d1,d2⟩:=ah (bx cz.out vq.out);have aja:b0<w2.heap.size:=zn afw Ov;clear bT)
         | (go_at_call 52;refine(wt.out _ (lI.out.kept (aa cz.out gbx)) (rz.out.kept (aa cz.out gbx))).mono ?_;rintro e w3 ⟨fM,po,co,rfl,hto⟩;(try (have he3:=bx fM Lk));(try (have he3:=bx fM (heap_alloc_new w2 (.cells #[.int .i64 0,.string ⟨#[]⟩,.string ⟨#[]⟩,.bool false,.slice none 0 0,.bool false,.slice none 0 0,.int .i64 0] 30))));have HTO:=zh hto;have eg:=zh (aa (aa cz.out (show w2.grownBy _ none from gbx)) fM);clear fM hto)
         | (go_at_call 97;refine(HK3.out _ _ _ (HTO.out.kept gbx) (HL1.out.kept (aa eg.out gbx))).mono ?_;rintro e w4 ⟨nY,q,rfl,hq,Ym⟩;obtain⟨s,pw,nw,cw,rfl,mw⟩:=hq.parts Ym;(try (have TO:=bx nY he3));(try (have TO:=bx nY (heap_alloc_new w3 (.cells #[.int .i64 0,.string ⟨#[]⟩,.string ⟨#[]⟩,.bool false,.slice none 0 0,.bool false,.slice none 0 0,.int .i64 0] 30))));(try (have hc4:=bD TO;obtain⟨c0,c1,c2,c3,c4,c5,c6,c7,c8⟩:=hc4));have tY:=zh mw;have lw:=zh (aa (aa eg.out (show w3.grownBy _ none from gbx)) nY);(try clear nY);(try clear hq);(try clear Ym);(try clear mw)))
        all_goals
         have s3:w1.heap.size≤w3.heap.size:=eg.out.size
         have s4:w1.heap.size≤w4.heap.size:=lw.out.size
         have s1:w.heap.size≤w1.heap.size:=aaZ.out.size
         have abt:=Jr.out
         go_wp2_with fail
         go_meet
         have R8:=aa aaZ.out lw.out
         have mw:=tY.out
         first
          | (with_reducible refine zh ⟨GO (w3:=w3) R8 ?_ ?_ ?_ ?_,ae lw.out _⟩
             ·omega
             ·omega
             ·omega
             ·exact mw)
          | (with_reducible refine zh ⟨qR (w3:=w3) (b:=w1.heap.size) R8 ?_ ?_ ?_ ?_ TO ?_,DI lw.out ?_ TO⟩
             ·omega
             ·omega
             ·omega
             ·exact hlt he3
             ·exact mw
             ·omega)
          | (with_reducible refine zh ⟨qR (w3:=w3) (b:=w2.heap.size) R8 ?_ ?_ ?_ ?_ TO ?_,DI lw.out ?_ TO⟩
             ·omega
             ·omega
             ·omega
             ·exact hlt he3
             ·exact mw
             ·omega)
          | (with_reducible refine zh ⟨qR (w3:=(w3.alloc (.cells #[.int .i64 0,.string ⟨#[]⟩,.string ⟨#[]⟩,.bool false,.slice none 0 0,.bool false,.slice none 0 0,.int .i64 0] 30))) (b:=w3.heap.size) R8 ?_ ?_ ?_ ?_ TO ?_,DI lw.out ?_ TO⟩
             ·simp;omega
             ·omega
             ·omega
             ·simp
             ·exact mw
             ·omega)
       case rest=>
        obtain⟨⟨b2,s,pw,nw,cw,rfl,dC,mw,aku,rP⟩,pJ⟩:=hcut.out
        have HGC:=zh pJ;have tY:=zh mw;have adU:=zh rP
        have HNc:=zh (rz.out.kept pJ);have HTc:=zh (lI.out.kept pJ);have HLc:=zh (HL1.out.kept pJ)
        have WD:=zh (bx pJ vq.out)
        have ZQ:=zh (bx (aa cZ.out pJ) iV.out)
        have Zv:=zh dC
        have SV:=zh (bP.out n _ wc HX.out HNc.out)
        have jo:ks.length=l.length:=sD.out.1
        obtain⟨M,hM⟩:∃M,ks.length=M:=⟨_,rfl⟩
        have zA:Hid (M=l.length):=zh (by rw [←hM];exact jo)
        have hMm:M≤150000:=by have:=jk l;have:=pO.out;omega
        have SV:Hid (Calls Tryz.prog 49 #[.agg #[.slice pt mt ct,.slice pn mn cn],.int .i64 (n:Int)] wc (aR (.slice (K n).1 M (K n).2) wc)):=zh (by rw [←hM];exact SV.out)
        have C6:Hid (∀W,aE W pn N K→VAt W (K n).1 (bo ks)):=zh (fun W h=>h.2 n _ HX.out)
        obtain⟨a0,a1,a2⟩:=ah WD.out
        generalize (K n).1=pk at *
        generalize (K n).2=ck at *
        clear hcut pJ mw rP dC jo hM iS wt HK3 rz lI HL1 vq
        go_wp2_with fail
        refine SV.out.mono ?_
        rintro e w5 ⟨rfl,jI⟩
        have iD:=zh jI
        have HN5:=zh (HNc.out.kept jI);have TC:=zh (HTc.out.kept jI);have OA:=zh (HLc.out.kept jI)
        have Qd:=zh (bx jI WD.out);have Ut:=zh (bx jI ZQ.out);have P0:=zh (bx jI Zv.out)
        have afM:Hid (dV (fun k=>b1+1≤k∧k<w5.heap.size∧k≠b2) w5 op nu s pw nw cw):=zh ((tY.out.same (S:=fun _=>False) (Fr2.none jI) (fun _ _ h=>h)).mono (fun k hk=>⟨hk.1,zn hk.2.1 jI.size,hk.2.2⟩))
        have agC:=zh (aa adU.out jI)
        have zV:Hid (b2<w5.heap.size):=zh (hlt P0.out)
        have ajE:b0<w5.heap.size:=by have:=zV.out;omega
        clear SV jI HNc HTc HLc WD ZQ Zv tY
        obtain⟨a0,a1,a2⟩:=ah Qd.out
        go_wp2_with fail
        go_loopw [28] (fun iv wr=>∃(j:Nat) (rows:List (List Value)) (pv:Option Addr) (nv cv:Nat),j≤M∧iv=.int .i64 (j:Int)∧Hid (wr.heap[b2]? = some (.cells #[.int .i64 (op:Int),.string ⟨nm.toArray⟩,.string ⟨md.toArray⟩,.bool s,.slice pw nw cw,.bool ys,.slice pv nv cv,.int .i64 (ps:Int)] 30 (0,0)))∧Hid (ak 8 30 wr w5.heap.size (.slice pv nv cv) rows)∧Hid (LsE (fun k=>b1+1≤k∧k<wr.heap.size∧k≠b2∧(Value.slice pv nv cv).ownBlock≠some k) wr (bR T (l.take j)) rows)∧Hid (Fr2 (fun k=>k=b2) w5 wr)) (fun iv _=>M - (intOf iv).toNat)
        case atStart=>exact⟨0,[],none,0,0,Nat.zero_le _,rfl,P0,zh (ak.nil _ _ _ _),zh (by simp [bR,LsE]),zh (Fr2.refl _ _)⟩
        case round=>
         obtain⟨j,rows,pv,nv,cv,hj,rfl,eM,HO,ip,HF⟩:=hrel
         have j4:Hid (w.grownBy wr none):=zh (Fr2.after agC.out HF.out (fun i hi=>by have:=kD.out;omega))
         have lu:=zh (HN.out.kept j4.out)
         have Bv:=zh (HT.out.kept j4.out)
         have JD:=zh (gf.out.kept j4.out)
         have iw:=zh (HF.out.keep Qd.out (by omega))
         have n5:=zh (HF.out.keep Ut.out (by omega))
         obtain⟨a0,a1,a2⟩:=ah iw.out
         obtain⟨c0,c1,c2,c3,c4,c5,c6,c7,c8⟩:=bD eM.out
         have akj:b0<wr.heap.size:=hlt iw.out
         have DF:b2<wr.heap.size:=hlt eM.out
         by_cases hlt:j<M
         ·obtain⟨u,hu⟩:∃u,l[j]? = some u:=⟨l[j]'(by have:=zA.out;omega),List.getElem?_eq_getElem _⟩
          obtain⟨k1,iP,eU,lz⟩:=sD.out.2 j u hu
          obtain⟨g,off,rfl,gc,SO⟩:=gW (C6.out _ lu.out) iP
          have y1:(0:Int)≤(j:Int):=by omega
          have y2:(j:Int)<(M:Int):=by omega
          have y3:decide (j<M)=true:=zd hlt
          have y4:decide ((j:Int)<(M:Int))=true:=zd y2
          cases u with
          | lf i=>
            obtain⟨n',j5,jb⟩:=eU.lf
            have j5:k1=n':=by omega
            subst j5
            have iS:=zh (rh.out k1 _ wr jb lu.out)
            have EC:=zh (P8 T hu)
            clear hu iP eU lz jb
            go_wp2_with fail
            refine iS.out.mono ?_
            rintro e w6 ⟨rfl,dk⟩
            have dQ:=zh dk
            clear dk iS
            go_wp2_with fail
            go_roundw
            case rel=>exact⟨j+1,rows,pv,nv,cv,by omega,by go_num,zh (bx dQ.out eM.out),zh (HO.out.kept dQ.out),zh (by rw [EC.out];exact LsE.mono (fun k hk=>⟨hk.1,zn hk.2.1 dQ.out.size,hk.2.2⟩) (ip.out.kept dQ.out)),zh (HF.out.trans (Fr2.none dQ.out))⟩
            case measure=>simp [intOf];omega
          | nd m' q'=>
            obtain⟨n',Ik,j5,jb,-⟩:=eU.nd
            have j5:k1=n':=by omega
            subst j5
            have sx:=fB Js.out.2.2 hu
            have Z5:=sx
            simp only [kOk] at sx
            have bl:((m':Int) != 19)=true:=bne_iff_ne.2 (by omega)
            have agu:(m' != 19)=true:=bne_iff_ne.2 (by omega)
            have iS:=zh (rh.out k1 _ wr jb lu.out)
            have EC:=zh (QW T hu rfl)
            have HGU:Hid (rH T N (k1:Int) (.nd m' q')):=zh ⟨rfl,zB YB.out.2 hu,Z5,fun i hi=>vB.out i (gE hu i hi),eU⟩
            have HIH:=zh (fun W h1 h2 h3=>IH.out (.nd m' q') (k1:Int) W (by omega) (Nat.le_trans (je hu) pO.out) HGU.out h1 h2 h3)
            have XJ:Hid (rows.length≤1000000):=zh (by have h1:=nP ip.out;have h2:=AL T (l.take j);have h3:=List.length_take (i:=j) (l:=l);omega)
            obtain⟨pv',cv',T0,-⟩:=HO.out.is
            have AV:nv=rows.length:=by injection T0
            have Xg:=zh AV
            clear hu iP eU lz jb sx Z5 T0 AV
            go_wp2_with fail
            refine iS.out.mono ?_
            rintro e w6 ⟨rfl,dk⟩
            have dQ:=zh dk
            have Wt:=zh (bx dk eM.out);have Zc:=zh (bx dk iw.out)
            have HN6:=zh (lu.out.kept dk);have Yh:=zh (Bv.out.kept dk);have Zj:=zh (JD.out.kept dk)
            have OU:=zh (HO.out.kept dk)
            have abj:Hid (LsE (fun k=>b1+1≤k∧k<w6.heap.size∧k≠b2∧(Value.slice pv nv cv).ownBlock≠some k) w6 (bR T (l.take j)) rows):=zh (LsE.mono (fun k hk=>⟨hk.1,zn hk.2.1 dk.size,hk.2.2⟩) (ip.out.kept dk))
            have NX:=zh (HF.out.trans (Fr2.none dk))
            obtain⟨a0,a1,a2⟩:=ah Zc.out
            obtain⟨c0,c1,c2,c3,c4,c5,c6,c7,c8⟩:=bD Wt.out
            have akR:b0<w6.heap.size:=_root_.Go.Proofs.YtjbgnopnehgbaaaGreatDoor.hlt Zc.out
            have adG:b2<w6.heap.size:=_root_.Go.Proofs.YtjbgnopnehgbaaaGreatDoor.hlt Wt.out
            clear dk iS eM iw lu Bv JD HO ip HF
            go_wp2_with fail
            go_region_law (first
             | (refine fc (s:=8) (t:=28) (T:=30) (by decide) Tryz.underlying28 Vg rfl (by omega) rfl _ _ rfl w5.heap.size rows [q0,q1,q2,q3,q4,q5,q6,q7] rfl vK.out (.slice pv nv cv) rfl (ak.kept vO.out gbx) w7.heap.size _ rfl (by exact lT.out) rfl XJ.out (by have:=n6.out;simp;omega) (w7.heap.size+1) (by simp) ?_;intro g9 cap9 w9 ii eu ef;have kJ:=(eu.block b2 (by simp;omega) (fun e=>by have:=(ak.at vO.out b2 e.symm).1;have:=zV.out;omega)).trans (show _=_ from bx (show w7.grownBy _ none from gbx) yT.out);obtain⟨d0,d1,d2,d3,d4,d5,d6,d7,d8⟩:=bD kJ;have rf:=zh kJ;have ss:=zh ii;have rr:=zh eu;have zw:=zh ef;clear kJ ii eu ef)
             | (go_simp;go_at_call 58;refine(HIH.out _ (Yh.out.kept (by repeat (first | with_reducible exact ad _ _ | with_reducible refine aF ?_))) (HN6.out.kept (by repeat (first | with_reducible exact ad _ _ | with_reducible refine aF ?_))) (Zj.out.kept (by repeat (first | with_reducible exact ad _ _ | with_reducible refine aF ?_)))).mono ?_;rintro e w7 ⟨iG,q,rfl,hq⟩;obtain⟨q0,q1,q2,q3,q4,q5,q6,q7,rfl⟩:=hq.eight;have vK:=zh hq.one.2;have HQ:=zh hq;have gT:=zh (aa (show w6.grownBy _ none from(by repeat (first | with_reducible exact ad _ _ | with_reducible refine aF ?_))) iG);have vO:=zh (OU.out.kept gT.out);have yT:=zh (bx gT.out Wt.out);obtain⟨f0,f1,f2,f3,f4,f5,f6,f7,f8⟩:=bD yT.out;have aa5:b2<w7.heap.size:=_root_.Go.Proofs.YtjbgnopnehgbaaaGreatDoor.hlt yT.out;have n6:Hid (w5.heap.size≤w7.heap.size):=zh (Nat.le_trans NX.out.size gT.out.size);have lT:=zh (heap_alloc_new w7 (.cells #[q0,q1,q2,q3,q4,q5,q6,q7] 30));clear iG hq))
            all_goals
             have dG:w7.grownBy (w7.alloc (.cells #[q0,q1,q2,q3,q4,q5,q6,q7] 30)) none:=World.grownBy_alloc _ _ _
             have Lw:Hid (LsE (fun k=>b1+1≤k∧k<(w9.setCell ⟨b2,6,none⟩ (.slice (some ⟨g9,0,none⟩) (rows.length+1) cap9)).heap.size∧k≠b2∧(Value.slice (some ⟨g9,0,none⟩) (rows.length+1) cap9).ownBlock≠some k) (w9.setCell ⟨b2,6,none⟩ (.slice (some ⟨g9,0,none⟩) (rows.length+1) cap9)) (bR T (l.take (j+1))) (rows++[[q0,q1,q2,q3,q4,q5,q6,q7]])):=zh (by
              rw [EC.out]
              exact Ls (w7:=w7) (wa:=w7.alloc (.cells #[q0,q1,q2,q3,q4,q5,q6,q7] 30)) (by have:=zV.out;have:=NX.out.size;omega) OU.out zV.out adG abj.out gT.out HQ.out dG (by simp) rr.out zw.out (ad _ _))
             have qv:Hid ((w9.setCell ⟨b2,6,none⟩ (.slice (some ⟨g9,0,none⟩) (rows.length+1) cap9)).heap[b2]? = some (.cells #[.int .i64 (op:Int),.string ⟨nm.toArray⟩,.string ⟨md.toArray⟩,.bool s,.slice pw nw cw,.bool ys,.slice (some ⟨g9,0,none⟩) (rows.length+1) cap9,.int .i64 (ps:Int)] 30 (0,0))):=zh (ab (i:=6) (u:=.slice (some ⟨g9,0,none⟩) (rows.length+1) cap9) rf.out)
             have sq:Hid (ak 8 30 (w9.setCell ⟨b2,6,none⟩ (.slice (some ⟨g9,0,none⟩) (rows.length+1) cap9)) w5.heap.size (.slice (some ⟨g9,0,none⟩) (rows.length+1) cap9) (rows++[[q0,q1,q2,q3,q4,q5,q6,q7]])):=zh (ss.out.keptS (Fr2.setCell (S:=fun k=>k=b2) (Fr2.refl _ _) (g:=b2) (j:=6) rfl _) (fun g hg e=>by have:=zV.out;omega))
             have nj:Hid (Fr2 (fun k=>k=b2) w5 (w9.setCell ⟨b2,6,none⟩ (.slice (some ⟨g9,0,none⟩) (rows.length+1) cap9))):=zh ((NX.out.low (Below.trans2 (Below.gb gT.out NX.out.size) (Below.trans2 (Below.gb dG n6.out) ((Fr2.of rr.out (S:=fun k=>(Value.slice pv nv cv).ownBlock=some k) (fun k e=>e)).below (by have:=n6.out;simp;omega) (fun k e=>(ak.at vO.out k e).1))))).setCell rfl _)
             clear dG ss rf rr zw lT HQ vK vO yT d0 d1 d2 d3 d4 d5 d6 d7 d8 f0 f1 f2 f3 f4 f5 f6 f7 f8 abj OU NX
             go_wp2_with fail
             go_roundw
             case rel=>exact⟨j+1,rows++[[q0,q1,q2,q3,q4,q5,q6,q7]],some ⟨g9,0,none⟩,rows.length+1,cap9,by omega,by go_num,qv,sq,Lw,nj⟩
             case measure=>simp [intOf];omega
         ·obtain rfl:j=M:=by omega
          have i7:=ip.out
          rw [List.take_of_length_le (by have:=zA.out;omega)] at i7
          obtain⟨D2,pz,lB⟩:=HO.out.rows
          have nA:=nP i7
          have xz:Hid (∀W',wr.grownBy W' none∨Fr2 (ez b1) wr W'→EAt (fun k=>w.heap.size≤k) W' (axT T t) [.int .i64 (op:Int),.string ⟨nm.toArray⟩,.string ⟨md.toArray⟩,.bool s,.slice pw nw cw,.bool ys,.slice pv nv cv,.int .i64 (ps:Int)]):=zh (fun W' hW'=>by
           have Et:Fr2 (fun k=>k=b1) wr W':=by
            rcases hW' with h | h
            ·exact Fr2.none h
            ·exact h
           rw [←HA'.out,aat T H12.out,Vi.out]
           have h5:dV (fun k=>b1+1≤k∧k<w5.heap.size∧k≠b2) wr op nu s pw nw cw:=afM.out.same HF.out (fun k hk e=>hk.2.2 e)
           have hl:nv=(bR T l).length:=D2.trans nA
           subst hl
           have Qa:w.heap.size≤b1:=by have:=kD.out;omega
           exact EAt.fill ((h5.same Et (fun k hk e=>by omega)).mono (fun k hk=>by omega)) (pz.keptS Et (fun h0 a ha e=>by obtain⟨a',jE,MZ,-⟩:=lB h0;rw [ha] at jE;injection jE with jE;subst jE;have:=zV.out;omega)) (LsE.mono (fun k hk=>by omega) (LsE.same Et (fun k hk e=>by have:=hk.1;omega) i7)) (fun h0=>by
            obtain⟨a',jE,MZ,-⟩:=lB (fun e=>by rw [e] at nA;exact h0 (List.eq_nil_of_length_eq_zero nA.symm))
            have IA:=HO.out
            rw [jE] at IA
            exact⟨a',jE,by have:=zV.out;omega,IA.flat.same Et (fun e=>by have:=zV.out;omega)⟩))
          obtain⟨f0,f1,f2,f3,f4,f5,f6,f7,f8⟩:=bD n5.out
          clear i7 D2 pz lB nA
          go_wp2_with fail
          obtain⟨hp,hf⟩:=nC n5.out (.int .i64 (op:Int)) (.string ⟨nm.toArray⟩) (.string ⟨md.toArray⟩) (.bool s) (.slice pw nw cw) (.bool ys) (.slice pv nv cv) (.int .i64 (ps:Int))
          obtain⟨k0,k1,k2,k3,k4,k5,k6,k7,-⟩:=bD hp
          have wb:=zh (Fr2.after j4.out hf (fun i hi=>by have e:i=b1:=hi;have:=kD.out;omega))
          have Sd:Hid (Kz (axT T t) w (.returned (.agg #[.int .i64 (op:Int),.string ⟨nm.toArray⟩,.string ⟨md.toArray⟩,.bool s,.slice pw nw cw,.bool ys,.slice pv nv cv,.int .i64 (ps:Int)])) _):=zh ⟨wb.out,_,rfl,xz.out _ (.inr hf)⟩
          refine bodyPost_ret (v:=.agg #[.int .i64 (op:Int),.string ⟨nm.toArray⟩,.string ⟨md.toArray⟩,.bool s,.slice pw nw cw,.bool ys,.slice pv nv cv,.int .i64 (ps:Int)]) (by simp [results,Tryz.results58,go_sem,k0,k1,k2,k3,k4,k5,k6,k7]) rfl Sd.out
end Go.Proofs.YtjbgnopnehgbaaaGreatDoor
