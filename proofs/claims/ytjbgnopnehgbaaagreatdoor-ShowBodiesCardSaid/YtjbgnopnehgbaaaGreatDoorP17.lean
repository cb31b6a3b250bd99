/- Lemmas. -/
import Derived.Test.YtjbgnopnehgbaaaGreatDoorP16
set_option linter.unusedVariables false
set_option linter.unusedSimpArgs false
set_option maxHeartbeats 16000000
set_option maxRecDepth 100000
namespace Go.Proofs.YtjbgnopnehgbaaaGreatDoor
open Go.RowKit
theorem xM (f:Bool) (fn:Nat) (hfn:(fn=59∧f=true)∨(fn=35∧f=false)) (F:Nat→Prop) (a0:Addr) (x0:Sx) (q0:List Value) (w:World) (cg:cM w) (hc:CAt w a0 q0) (hx:SAt F w x0 q0) (db:bw x0≤1000000) (dp:okS x0) (hF:∀k,F k→k<w.heap.size):
  Calls Tryz.prog 34 #[.pointer (some a0),.func (.func fn) #[] #[]] w (dY (bf f x0) w):=by
 have Ww:Hid (∀op W,Calls Tryz.prog fn #[.int .i64 op] W (fun e w'=>e=.returned (.bool (se f op))∧w'=W)):=zh (by
  intro op W
  rcases hfn with ⟨rfl,rfl⟩ | ⟨rfl,rfl⟩
  ·exact Uj op W
  ·exact Ve op W)
 obtain⟨UC,XF,rfl,MF,hc0⟩:=id hc
 have HP0:=zh (jB.start hc hx)
 have Sw:Hid (iC f [((⟨UC,XF,none⟩:Addr),x0,0)]=bf f x0):=zh (by simp [iC,nG])
 have HC0:Hid (kg [((⟨UC,XF,none⟩:Addr),x0,0)]≤4000000):=zh (by
  have h:=E5 x0
  simp only [kg,List.map_cons,List.map_nil,List.sum_cons,List.sum_nil,uz];omega)
 have agm:=zh dp;have gf:=zh cg;have OE:=zh hF
 obtain⟨R,hR⟩:∃R,bf f x0=R:=⟨_,rfl⟩
 obtain⟨N,hN⟩:∃N,bw x0=N:=⟨_,rfl⟩
 have sF:Hid (N≤1000000):=zh (by omega)
 rw [hR] at Sw ⊢
 rw [hN] at HP0
 have YL:=zh (ak.newS (s:=2) (T:=135) w w.heap.size [.pointer (some ⟨UC,XF,none⟩),.int .i64 0] rfl (fun u hu=>by simp at hu;rcases hu with rfl | rfl<;>rfl) (Nat.le_refl _))
 have lO:=zh (World.grownBy_alloc w (.cells #[.pointer (some ⟨UC,XF,none⟩),.int .i64 0] 135) none)
 obtain⟨base,gq⟩:∃base,w.heap.size=base:=⟨_,rfl⟩
 have nK:=zh gq
 rw [gq] at YL
 clear cg hc hx db dp hF hR hN gq hc0 MF
 rcases hfn with ⟨rfl,hf⟩ | ⟨rfl,hf⟩
 all_goals
  clear hf
  go_enter Tryz.func34,Tryz.ntmps34
  go_wp2_with fail
  try rw [nK.out]
  generalize (w.alloc (.cells #[.pointer (some ⟨UC,XF,none⟩),.int .i64 0] 135))=W at *
  go_loopg [5] (kg [((⟨UC,XF,none⟩:Addr),x0,0)]) (fun gk av wr=>∃P:List Pq,kg P≤gk∧gk≤4000000∧Hid (ak 2 135 wr base av (P.map iL))∧Hid (jB F w N P)∧Hid (iC f P=R)∧Hid (∀p∈P,okS p.2.1)∧Hid (w.grownBy wr none))
  case atStart=>exact⟨[((⟨UC,XF,none⟩:Addr),x0,0)],Nat.le_refl _,HC0.out,YL,HP0,Sw,zh (fun p hp=>by simp at hp;subst hp;exact agm.out),lO⟩
  case round=>
   obtain⟨P,YY,Su,HO,WN,Ni,Iv,HG⟩:=hrel
   rcases ju P with rfl | ⟨P',⟨a,x,d⟩,rfl⟩
   ·have hv:∃p c,u5=.slice p 0 c:=by
     obtain⟨p,c,e,-⟩:=HO.out.is
     exact⟨p,c,e⟩
    obtain⟨p,c,rfl⟩:=hv
    have HFE:Hid (R=true):=zh (by rw [←Ni.out];rfl)
    go_wp2_with fail
    go_ret
    exact⟨by rw [HFE.out];rfl,HG.out⟩
   ·have hO:ak 2 135 wr base u5 (P'.map iL++[iL (a,x,d)]):=by have:=HO.out;rwa [List.map_append] at this
    obtain⟨L,hL⟩:∃L,(P'.map iL).length=L:=⟨_,rfl⟩
    obtain⟨p,c,rfl,-,BC,wk,-⟩:=hO.is
    obtain⟨-,IQ,ga,rfl⟩:=hO.popS
    have bB:(P'.map iL++[iL (a,x,d)]).length=L+1:=by rw [List.length_append,hL];rfl
    rw [bB] at hO BC ⊢
    have Nm:Hid (P'.length=L):=zh (by rw [←hL,List.length_map])
    have hLb:L+1≤4000000:=by
     have h1:=AU (P'++[(a,x,d)])
     rw [List.length_append,List.length_singleton] at h1
     have h2:=Nm.out
     omega
    obtain⟨q,YF,sd,hdk⟩:=WN.out.at_ (a,x,d) (by simp)
    have Uc:=Iv.out (a,x,d) (by simp)
    simp only at YF sd hdk Uc
    obtain⟨fg,fo,rfl,⟨nH,IA⟩,-⟩:=id YF
    cases x with
    | mk op nm md nu ys ks ps=>
      simp only [Sx.ks] at hdk
      simp only [okS] at Uc
      obtain⟨⟨qC,hn2,hn3⟩,hoks⟩:=Uc
      have abE:ks.length≤1000000:=by
       have h1:=WN.out.last
       have h2:=sF.out
       have h3:=qX ks
       simp only [bw] at h1;omega
      have Yl:=zh (fun W (h:w.grownBy W none)=>zk F ⟨fg,fo,none⟩ op nm md nu ys ks ps q W (gf.out.kept h) (YF.same (S:=fun _=>False) (Fr2.none h) (fun h=>h)) (sd.kept h) qC hn2 hn3 abE (fun k hk=>zn (OE.out k hk) h.size) (zn nH h.size))
      have mG:=zh sd;have HCA:=zh YF
      simp only [SAt] at sd
      obtain⟨s9,pw9,nw9,cw9,pk,ck,rows,rfl,-,-,OH,i7,hkf⟩:=sd
      have CK:=zh OH;have ip:=zh i7;have HKF:=zh hkf;have YR:=zh IA;have afG:=zh hoks
      have tC:=YF.same (S:=fun _=>False) (Fr2.none HG.out) (fun h=>h)
      obtain⟨g7,o7,e7,-,tC⟩:=tC
      simp only [Addr.mk.injEq,and_true] at e7
      obtain⟨rfl,rfl⟩:=e7
      have c0:=tC 0 _ rfl
      have c6:=tC 6 _ rfl
      rw [Nat.add_zero] at c0
      obtain⟨a0,a1,a2,zy,TJ,-⟩:=ak.top2S hO
      rw [hL] at a0 a1
      obtain⟨kn,lz⟩:∃kn,ks.length=kn:=⟨_,rfl⟩
      have Ij:=zh lz
      rw [lz] at c6 hdk Yl abE
      have ot:=zh hO;have pX:=zh IQ
      obtain⟨n1,CU⟩:∃n1,L+1=n1:=⟨_,rfl⟩
      have rz:=zh CU
      have rC:IntKind.i64.wrap ((n1:Int) - 1)=(L:Int):=by rw [IntWalk.i64_in _ (by omega)];omega
      have x1:(0:Int)≤(L:Int):=by omega
      have x2:(L:Int)<(n1:Int):=by omega
      have x3:decide (L<n1)=true:=zd (by omega)
      have x4:decide ((L:Int)<(n1:Int))=true:=zd x2
      have x5:decide ((0:Int)<(n1:Int))=true:=zd (by omega)
      have x6:decide (0<n1)=true:=zd (by omega)
      rw [CU] at ot ⊢
      obtain⟨b1,fw⟩:∃b,se f op=b:=⟨_,rfl⟩
      obtain⟨b2,dC⟩:∃b,iR op nm md nu ys kn=b:=⟨_,rfl⟩
      have iV:=zh fw;have fu:=zh dC
      rw [dC] at Yl
      have kf:fg<wr.heap.size:=zn nH HG.out.size
      have NS:(d=0∧b1=false)∨(d=0∧b1=true∧b2=false)∨(d=0∧b1=true∧b2=true)∨d≠0:=by cases b1<;>cases b2<;>simp<;>omega
      clear hO IQ bB BC wk CU lz fw dC YF tC OH i7 hkf IA hoks qC hn2 hn3 HO
      rcases NS with ⟨rfl,rfl⟩ | ⟨rfl,rfl,rfl⟩ | ⟨YD,rfl,rfl⟩ | YD
      focus
       have Ur:Hid (R=false):=zh (by rw [←Ni.out];exact Cf (xW (by rw [iV.out];rfl)))
       go_wp2_with fail
       refine(Ww.out op wr).mono ?_
       rintro e w1 ⟨rfl,rfl⟩
       rw [iV.out]
       go_wp2_with fail
       go_ret
       exact⟨by rw [Ur.out];rfl,HG.out⟩
      focus
       have Ur:Hid (R=false):=zh (by rw [←Ni.out];exact Cf (xW (by rw [iV.out,Ij.out,fu.out];rfl)))
       go_wp2_with fail
       refine(Ww.out op wr).mono ?_
       rintro e w1 ⟨rfl,rfl⟩
       rw [iV.out]
       go_wp2_with fail
       refine(Yl.out _ HG.out).mono ?_
       rintro e w2 ⟨rfl,hg⟩
       have cz:=zh (aa HG.out hg)
       clear hg
       go_wp2_with fail
       go_ret
       exact⟨by rw [Ur.out];rfl,cz.out⟩
      focus
       have e0:((d:Int) == 0)=true:=by rw [YD];rfl
       have HH0:Hid (d=0→bf f (.mk op nm md nu ys ks ps)=cx f ks):=zh (fun _=>Bf (by rw [iV.out,Ij.out,fu.out];rfl))
       clear YD
       go_wp2_with fail
       refine(Ww.out op wr).mono ?_
       rintro e w1 ⟨rfl,rfl⟩
       rw [iV.out]
       go_wp2_with fail
       refine(Yl.out _ HG.out).mono ?_
       rintro e w2 ⟨rfl,hg⟩
       have cz:=zh (aa HG.out hg)
       have qq:=zh (ot.out.kept hg);have Lm:=zh (pX.out.kept hg)
       clear hg e0 a0 a1 a2 c0 c6 zy kf ot pX HG
       go_wp2_with fail
      rotate_left 1
      focus
       have e0:((d:Int) == 0)=false:=beq_eq_false_iff_ne.2 (by omega)
       have HH0:Hid (d=0→bf f (.mk op nm md nu ys ks ps)=cx f ks):=zh (fun h=>absurd h YD)
       clear YD
       go_wp2_with fail
       have cz:=HG;have qq:=ot;have Lm:=pX
       clear e0 a0 a1 a2 c0 c6 zy kf ot pX HG
       generalize wr=w2 at *
      all_goals
       obtain⟨a0,a1,a2,zy,TJ,-⟩:=ak.top2S qq.out
       have Zq:(P'.map iL).length=L:=by rw [List.length_map];exact Nm.out
       rw [Zq] at a0 a1 TJ
       obtain⟨g7,o7,e7,-,tC⟩:=HCA.out.same (S:=fun _=>False) (Fr2.none cz.out) (fun h=>h)
       simp only [Addr.mk.injEq,and_true] at e7
       obtain⟨rfl,rfl⟩:=e7
       have c6:=tC 6 _ rfl
       rw [Ij.out] at c6
       have kf:fg<w2.heap.size:=zn nH cz.out.size
       clear tC Zq
       go_quiet (fail)
       have eO:=ap (ad w2 none) nq
       have eg:=zh (aa cz.out eO);have HO3:=zh (qq.out.kept eO);have VX:=zh (Lm.out.kept eO)
       have a0:(w2.drewN nq).cell? ⟨ga,L*2,none⟩=some (.pointer (some ⟨fg,fo,none⟩)):=a0
       have a1:(w2.drewN nq).cell? ⟨ga,L*2+1,none⟩=some (.int .i64 (d:Int)):=a1
       have a2:∀j,(w2.drewN nq).frozen? ⟨ga,j,none⟩=false:=a2
       have zy:ga<(w2.drewN nq).heap.size:=zy
       have kf:fg<(w2.drewN nq).heap.size:=kf
       have c6:(w2.drewN nq).cell? ⟨fg,fo+6,none⟩=some (.slice pk kn ck):=c6
       clear eO qq Lm cz
       generalize w2.drewN nq=w3 at *
       by_cases hd:d=kn
       ·have e1:(d == kn)=true:=by rw [hd];simp
        have sl:((d:Int) == (kn:Int))=true:=by rw [hd];simp
        have VS:Hid (iC f P'=R):=zh (by rw [←Ni.out];exact(KI HH0.out (by rw [hd];exact Ij.out.symm)).symm)
        have HC3:Hid (kg P'<gk):=zh (zn Pr YY)
        clear hd
        go_wp2_with fail
        go_roundg (kg P')
        case measure=>exact HC3.out
        case rel=>exact⟨P',Nat.le_refl _,by have:=HC3.out;omega,by rw [hL] at VX;exact VX,zh WN.out.pop,VS,zh (fun p hp=>Iv.out p (List.mem_append_left _ hp)),eg⟩
       ·have e1:(d == kn)=false:=beq_eq_false_iff_ne.2 hd
        have sl:((d:Int) == (kn:Int))=false:=beq_eq_false_iff_ne.2 (by omega)
        have hlt:d<kn:=by omega
        clear hd
        obtain⟨kx,BZ⟩:∃kx,ks[d]? = some kx:=⟨ks[d]'(by rw [Ij.out];exact hlt),List.getElem?_eq_getElem _⟩
        obtain⟨qx,M0,S9⟩:=ip.out.get BZ
        obtain⟨mq,Zw,rfl,M3⟩:=CK.out.at M0 (fun a ha=>by
         obtain⟨a',h1,-,h2⟩:=HKF.out (fun e=>by rw [e] at BZ;simp at BZ)
         rw [ha] at h1;injection h1 with h1;subst h1;exact h2)
        have Tf:=zh BZ;have sy:=zh S9;have Tz:=zh M3
        have ZN:mq<w.heap.size:=by obtain⟨g1,o1,e,h,-⟩:=M3;injection e with e;subst e;exact h.1
        have HGK:=zh ZN
        have y1:(0:Int)≤(d:Int):=by omega
        have y2:(d:Int)<(kn:Int):=by omega
        have y3:decide (d<kn)=true:=zd hlt
        have y4:decide ((d:Int)<(kn:Int))=true:=zd y2
        have eE:IntKind.i64.wrap ((d:Int)+1)=((d+1:Nat):Int):=by rw [IntWalk.i64_in _ (by omega)];omega
        clear BZ M0 S9 M3 ZN
        go_wp2_with fail
        go_quiet (fail)
        have eO:=ap (ad w3 none) nq
        have lw:=zh (aa eg.out eO);have HO4:=zh (HO3.out.kept eO)
        have a0:(w3.drewN nq).cell? ⟨ga,L*2,none⟩=some (.pointer (some ⟨fg,fo,none⟩)):=a0
        have a1:(w3.drewN nq).cell? ⟨ga,L*2+1,none⟩=some (.int .i64 (d:Int)):=a1
        have a2:∀j,(w3.drewN nq).frozen? ⟨ga,j,none⟩=false:=a2
        have zy:ga<(w3.drewN nq).heap.size:=zy
        clear eO c6 HO3 VX eg
        generalize w3.drewN nq=w4 at *
        obtain⟨ko,lJ⟩:∃ko,Zw+d*8=ko:=⟨_,rfl⟩
        have Js:=zh lJ
        rw [lJ] at Tz ⊢
        have h5:=ak.last2S (u:=.int .i64 ((d+1:Nat):Int)) rfl HO4.out
        have P5:(P'.map iL).length=L:=by rw [List.length_map];exact Nm.out
        rw [P5] at h5
        have PR:=zh h5.1;have iD:=zh h5.2
        have Pi:base≤ga:=HO4.out.blkS.1
        have acn:=zh Pi
        have aeo:Hid (jB F w N (P'++[(⟨fg,fo,none⟩,.mk op nm md nu ys ks ps,d+1)]++[(⟨mq,ko,none⟩,kx,0)])):=zh (WN.out.step Tf.out Tz.out sy.out)
        have DP:=zh (fun i p h=>WN.out.ne (i:=i) (p:=p) Tf.out Tz.out sy.out h)
        obtain⟨d1,pN⟩:∃d1,d+1=d1:=⟨_,rfl⟩
        have pY:=zh pN
        rw [pN] at eE PR iD
        clear h5 pN lJ Pi P5
        obtain⟨m,hm⟩:∃m,n1 / 2=m:=⟨_,rfl⟩
        have HM:=zh hm
        have sM:m<n1:=by have:=rz.out;omega
        have z1:(0:Int)≤(m:Int):=by omega
        have z2:(m:Int)<(n1:Int):=by omega
        have z3:decide (m<n1)=true:=zd sM
        have z4:decide ((m:Int)<(n1:Int))=true:=zd z2
        have hq:(n1:Int).tdiv 2=(m:Int):=by rw [←hm];rfl
        obtain⟨pm,hpm⟩:∃pm,(P'++[(⟨fg,fo,none⟩,Sx.mk op nm md nu ys ks ps,d)])[m]? = some pm:=⟨(P'++[(⟨fg,fo,none⟩,Sx.mk op nm md nu ys ks ps,d)])[m]'(by rw [List.length_append,List.length_singleton,Nm.out,rz.out];exact sM),List.getElem?_eq_getElem _⟩
        have Vk:=DP.out m pm hpm
        have pz:∃dm,(P'.map iL++[[Value.pointer (some ⟨fg,fo,none⟩),Value.int .i64 (d1:Int)]])[m]? = some [Value.pointer (some pm.1),Value.int .i64 dm]:=by
         rcases ki hpm with ⟨h1,h2⟩ | ⟨h1,h2⟩
         ·exact⟨(pm.2.2:Int),by rw [List.getElem?_append_left (by rw [List.length_map];exact h1),List.getElem?_map,h2];rfl⟩
         ·subst h2
          exact⟨(d1:Int),by rw [h1,List.getElem?_append_right (by rw [List.length_map];exact Nat.le_refl _),List.length_map,Nat.sub_self];rfl⟩
        obtain⟨dm,pz⟩:=pz
        have cm:=PR.out.cellS pz (i:=0) rfl
        rw [Nat.add_zero] at cm
        have aao:=List.mem_of_getElem? hpm
        obtain⟨rm,cqm,-,-⟩:=WN.out.at_ pm aao
        obtain⟨gm,om,em,⟨-,aaU⟩,-⟩:=cqm
        have aad:Flat w mq:=by
         obtain⟨g8,o8,ek,⟨-,h8⟩,-⟩:=Tz.out
         injection ek with ek1 ek2;subst ek1;exact h8
        rw [em] at cm Vk
        go_upto_region 10 with fail
        have hs5:Fr2 (fun k=>ga=k) w4 (w4.setCell ⟨ga,L*2+1,none⟩ (.int .i64 (d1:Int))):=Fr2.of iD.out (fun k e=>by injection e)
        have dQ:=zh (Fr2.after lw.out hs5 (fun j hj=>by have hj:ga=j:=hj;have:=acn.out;have:=nK.out;omega))
        clear hm hpm pz aao em hs5 iD HO4 lw a0 a1 a2
        generalize (w4.setCell ⟨ga,L*2+1,none⟩ (.int .i64 (d1:Int)))=w5 at *
        have cm:w5.cell? ⟨ga,m*2,none⟩=some (.pointer (some ⟨gm,om,none⟩)):=cm
        have hEQ:=Xe (w:=w5) Vk (aad.same (S:=fun _=>False) (Fr2.none dQ.out) (fun h=>h)) (aaU.same (S:=fun _=>False) (Fr2.none dQ.out) (fun h=>h))
        have hwm:IntKind.i64.wrap (m:Int)=(m:Int):=IntWalk.i64_in _ (by have:=rz.out;omega)
        have aeS:wrap64 (m:Int)=(m:Int):=by have:=rz.out;unfold wrap64;omega
        clear Vk aad aaU sM
        go_upto_region 12 with fail
        have uu:=heap_alloc_new w5 (.cells #[.pointer (some ⟨mq,ko,none⟩),.int .i64 0] 135)
        have ab5:(w5.alloc (.cells #[.pointer (some ⟨mq,ko,none⟩),.int .i64 0] 135)).heap.size=w5.heap.size+1:=by simp
        have CE:=zh uu;have Ws:=zh ab5
        have M1:Hid ((P'.map iL++[[Value.pointer (some ⟨fg,fo,none⟩),Value.int .i64 (d1:Int)]]).length=n1):=zh (by rw [List.length_append,List.length_map,Nm.out];exact rz.out)
        have OW:Hid ((P'.map iL++[[Value.pointer (some ⟨fg,fo,none⟩),Value.int .i64 (d1:Int)]]).length≤1000000):=zh (by
         rw [M1.out]
         have h1:=WN.out.last
         have h2:=sF.out
         have h3:=gz (Sx.mk op nm md nu ys ks ps)
         rw [Nm.out] at h1
         have h4:=rz.out
         simp only at h1
         omega)
        have Jr:Hid (base≤(w5.alloc (.cells #[.pointer (some ⟨mq,ko,none⟩),.int .i64 0] 135)).heap.size):=zh (by rw [Ws.out];have:=dQ.out.size;have:=nK.out;omega)
        have OU:Hid (ak 2 135 w5 base (.slice (some ⟨ga,0,none⟩) n1 c) (P'.map iL++[[Value.pointer (some ⟨fg,fo,none⟩),Value.int .i64 (d1:Int)]])):=zh PR.out
        clear uu ab5 cm hEQ hwm aeS hq PR
        go_wp2_with (at_builtin;go_loud (refine el (s:=2) (t:=136) (T:=135) (by decide) Tryz.underlying136 Vu rfl (by omega) rfl _ _ rfl base (P'.map iL++[[Value.pointer (some ⟨fg,fo,none⟩),Value.int .i64 (d1:Int)]]) [.pointer (some ⟨mq,ko,none⟩),.int .i64 0] rfl (fun u hu=>by simp at hu;rcases hu with rfl | rfl<;>rfl) (.slice (some ⟨ga,0,none⟩) n1 c) rfl (ak.kept OU.out (World.grownBy_alloc _ _ none)) w5.heap.size _ rfl CE.out rfl OW.out Jr.out (w5.heap.size+1) Ws.out ?_))
        intro g9 cap9 w9 ii eu ef
        try rw [rz.out] at ii ⊢
        have rr:Hid (w.grownBy w9 none):=zh (Fr2.after (aa dQ.out (World.grownBy_alloc _ _ none)) (Fr2.of eu (S:=fun k=>ga=k) (fun k e=>Option.some.inj (show some ga=some k from e))) (fun j hj=>by have hj:ga=j:=hj;have:=acn.out;have:=nK.out;omega))
        have ss:Hid (ak 2 135 w9 base (.slice (some ⟨g9,0,none⟩) (n1+1) cap9) ((P'++[((⟨fg,fo,none⟩:Addr),Sx.mk op nm md nu ys ks ps,d+1)]++[((⟨mq,ko,none⟩:Addr),kx,0)]).map iL)):=zh (by
         rw [List.map_append,List.map_append,pY.out,List.append_assoc];exact ii)
        have HT9:Hid (iC f (P'++[((⟨fg,fo,none⟩:Addr),Sx.mk op nm md nu ys ks ps,d+1)]++[((⟨mq,ko,none⟩:Addr),kx,0)])=R):=zh (by
         rw [←Ni.out];exact(Hh HH0.out Tf.out).symm)
        have HC9:Hid (kg (P'++[((⟨fg,fo,none⟩:Addr),Sx.mk op nm md nu ys ks ps,d+1)]++[((⟨mq,ko,none⟩:Addr),kx,0)])+1≤gk):=zh (by
         have h:=Lv (P:=P') (a:=⟨fg,fo,none⟩) (b:=⟨mq,ko,none⟩) (x:=Sx.mk op nm md nu ys ks ps) Tf.out
         omega)
        have agH:Hid (∀p∈P'++[((⟨fg,fo,none⟩:Addr),Sx.mk op nm md nu ys ks ps,d+1)]++[((⟨mq,ko,none⟩:Addr),kx,0)],okS p.2.1):=zh (fun p hp=>by
         simp only [List.append_assoc,List.cons_append,List.nil_append,List.mem_append,List.mem_cons,List.not_mem_nil,or_false] at hp
         rcases hp with hp | rfl | rfl
         ·exact Iv.out p (List.mem_append_left _ hp)
         ·exact Iv.out (⟨fg,fo,none⟩,Sx.mk op nm md nu ys ks ps,d) (by simp)
         ·exact tQ afG.out Tf.out)
        clear ii eu ef OU CE Ws Jr OW M1
        go_wp2_with fail
        go_roundg (kg (P'++[((⟨fg,fo,none⟩:Addr),Sx.mk op nm md nu ys ks ps,d+1)]++[((⟨mq,ko,none⟩:Addr),kx,0)]))
        case measure=>have:=HC9.out;omega
        case rel=>exact⟨_,Nat.le_refl _,by have:=HC9.out;omega,ss,aeo,HT9,agH,rr⟩
end Go.Proofs.YtjbgnopnehgbaaaGreatDoor
