/- Lemmas. -/
import Derived.Test.YtjbgnopnehgbaaaGreatDoorP6
set_option linter.unusedVariables false
set_option linter.unusedSimpArgs false
set_option maxHeartbeats 16000000
set_option maxRecDepth 100000
namespace Go.Proofs.YtjbgnopnehgbaaaGreatDoor
open Go.RowKit
theorem SB (fn:Nat) (hfn:fn=22) {σ : Type} (st : σ→Ex→Nat→σ) (b B:Nat) (F:Nat→Prop) (P : σ→World→Prop) (LL : σ→Prop) (QQ:Ex→Prop) (H:PT st fn b B F P LL QQ) (x:Ex) (g o:Nat) (s : σ) (w:World) (hs:P s w) (hx:kz F w g o x) (hB:b<w.heap.size) (hc:kw x≤1000000) (hL:LL (vV st x s)) (hQ:QQ x):
  Calls Tryz.prog 21 #[.pointer (some ⟨g,o,none⟩),.func (.func fn) #[] #[.pointer (some ⟨b,0,none⟩)]] w (fun e w'=>e=.returned (.tuple #[])∧P (vV st x s) w'∧Below B w w'):=by
 subst hfn
 all_goals
  have HH:=zh H;have HP:=zh hs;have HX:=zh hx
  have OY:=zh H.tell
  obtain⟨fin,bF⟩:∃fin,vV st x s=fin:=⟨_,rfl⟩
  have Oy:=zh bF
  rw [bF] at hL
  have HLF:=zh hL
  have HQX:=zh hQ
  have Rc:=zh H.box
  rw [bF]
  have mD:Hid (B≤w.heap.size):=zh (by have:=H.box;omega)
  have HC:=zh hc
  have HCX:=zh hc
  have YL:=zh (ak.new (s:=2) (T:=121) w w.heap.size [.pointer (some ⟨g,o,none⟩),.int .i64 0] rfl (fun u hu=>by simp at hu;rcases hu with rfl | rfl<;>rfl) (Nat.le_refl _))
  have lO:=zh (World.grownBy_alloc w (.cells #[.pointer (some ⟨g,o,none⟩),.int .i64 0] 121) none)
  obtain⟨base,gq⟩:∃base,w.heap.size=base:=⟨_,rfl⟩
  have nK:=zh gq
  have fL:Hid (b<base):=zh (by omega)
  rw [gq] at YL
  clear H hs hx hc bF hB gq hL hQ
  go_enter Tryz.func21,Tryz.ntmps21
  go_wp2_with fail
  try rw [nK.out]
  have HP0:=zh (HH.out.grown _ _ _ HP.out lO.out)
  have HX0:=zh (HH.out.at HX.out (Below.gb lO.out mD.out))
  have aew:Hid (Below B w (w.alloc (.cells #[.pointer (some ⟨g,o,none⟩),.int .i64 0] 121))):=zh (Below.gb lO.out mD.out)
  have RP:Hid (base<(w.alloc (.cells #[.pointer (some ⟨g,o,none⟩),.int .i64 0] 121)).heap.size):=zh (by simp;have:=nK.out;omega)
  have Y2:Hid (ak 2 121 (w.alloc (.cells #[.pointer (some ⟨g,o,none⟩),.int .i64 0] 121)) base (.slice (some ⟨base,0,none⟩) 1 1) [[.pointer (some ⟨g,o,none⟩),.int .i64 0]]):=zh YL.out
  have HFW:Hid (qo st [⟨x,0,g,o⟩] s=fin):=zh (by
   have e:qo st [⟨x,0,g,o⟩] s=rsF st ⟨x,0,g,o⟩ s:=by simp [qo]
   rw [e,←EA];exact Oy.out)
  have HCW:Hid (m6 [⟨x,0,g,o⟩]≤1000000):=zh (by
   have e:m6 [⟨x,0,g,o⟩]=cntF ⟨x,0,g,o⟩:=by simp [m6]
   rw [e,←Fn];exact HC.out)
  generalize (w.alloc (.cells #[.pointer (some ⟨g,o,none⟩),.int .i64 0] 121))=W at *
  clear YL lO HP HX Oy HC
  go_loopg [4] (m6 [⟨x,0,g,o⟩]) (fun gk av wr=>∃(G:List Fm) (s' : σ),m6 G≤gk∧gk≤1000000∧Hid (ak 2 121 wr base av (G.map lX))∧Hid (P s' wr)∧Hid (qo st G s'=fin)∧Hid (∀f∈G,kz F W f.g f.o f.x∧f.d≤(cV f.x).length∧kw f.x≤1000000∧QQ f.x)∧Hid (Below B W wr)∧Hid (base≤wr.heap.size))
  case atStart=>exact⟨[⟨x,0,g,o⟩],s,Nat.le_refl _,HCW.out,Y2,HP0,HFW,zh (fun f hf=>by simp at hf;subst hf;exact⟨HX0.out,Nat.zero_le _,HCX.out,HQX.out⟩),zh (Below.refl _ _),zh (Nat.le_of_lt RP.out)⟩
  case round=>
   obtain⟨G,s',YY,Su,HO,HPS,HRU,Xq,CA,Y0⟩:=hrel
   rcases Dj G with rfl | ⟨G',f,rfl⟩
   ·have hv:∃p c,u4=.slice p 0 c:=by
     obtain⟨p,c,e,-⟩:=HO.out.is
     exact⟨p,c,e⟩
    obtain⟨p,c,rfl⟩:=hv
    have HFE:Hid (s'=fin):=zh HRU.out
    have HBF:=zh (Below.trans2 aew.out CA.out)
    go_wp2_with fail
    go_end0
    exact⟨rfl,by rw [←HFE.out];exact HPS.out,HBF.out⟩
   ·have hO:ak 2 121 wr base u4 (G'.map lX++[lX f]):=by have:=HO.out;rwa [List.map_append] at this
    obtain⟨L,hL⟩:∃L,(G'.map lX).length=L:=⟨_,rfl⟩
    obtain⟨p,c,rfl,dG,BC,wk,-⟩:=hO.is
    obtain⟨-,IQ,ga,rfl⟩:=hO.pop
    have NC:=hO.blk
    obtain⟨g2,o2,ee,gc,rp⟩:=dG.resolve_left (by simp)
    injection ee with ee;injection ee with ee lr;subst ee lr
    have a0:=rp L (lX f) (by rw [←hL];simp) 0 _ rfl
    have a1:=rp L (lX f) (by rw [←hL];simp) 1 _ rfl
    rw [Nat.zero_add,Nat.add_zero] at a0
    rw [Nat.zero_add] at a1
    have bB:(G'.map lX++[lX f]).length=L+1:=by rw [List.length_append,hL];rfl
    rw [bB] at hO BC ⊢
    rw [hL] at IQ
    have Nm:Hid (G'.length=L):=zh (by rw [←hL,List.length_map])
    have hLb:L+1≤1000000:=by
     have h1:=Ag (G'++[f])
     rw [List.length_append,List.length_singleton] at h1
     have h2:=Nm.out
     omega
    obtain⟨gN,hdf,hcf,hqf⟩:=Xq.out f (by simp)
    have MK:=HH.out.at gN CA.out
    have abh:=zh MK
    obtain⟨pk,ck,c6,-⟩:=MK.kids
    have EC:=zh (fun W (h:wr.grownBy W none)=>OY.out s' f W (HH.out.grown _ _ _ HPS.out h) (by have:=fL.out;have:=Rc.out;have:=Y0.out;have:=h.size;omega) (MK.same (Fr2.none (S:=fun _=>False) h) (fun _ _ h=>h)) hdf hqf (GF HH.out.mono (by rw [HRU.out];exact HLF.out)))
    have UL:Hid (B≤wr.heap.size):=zh (by have:=fL.out;have:=Rc.out;have:=Y0.out;omega)
    have ot:=zh hO;have HGB:=zh NC;have pX:=zh IQ;have Sc:=zh gN;have HDF:=zh hdf;have HCF:=zh hcf;have HQF:=zh hqf
    have Ax:f.g<wr.heap.size:=MK.2.1
    obtain⟨n1,qC⟩:∃n1,L+1=n1:=⟨_,rfl⟩
    have rz:=zh qC
    have rC:IntKind.i64.wrap ((n1:Int) - 1)=(L:Int):=by rw [IntWalk.i64_in _ (by omega)];omega
    have x1:(0:Int)≤(L:Int):=by omega
    have x2:(L:Int)<(n1:Int):=by omega
    have x3:decide (L<n1)=true:=zd (by omega)
    have x4:decide ((L:Int)<(n1:Int))=true:=zd x2
    have x5:decide ((0:Int)<(n1:Int))=true:=zd (by omega)
    have x6:decide (0<n1)=true:=zd (by omega)
    rw [qC] at ot ⊢
    clear hcf hqf
    obtain⟨fg,nH⟩:∃fg,f.g=fg:=⟨_,rfl⟩
    obtain⟨fo,SZ⟩:∃fo,f.o=fo:=⟨_,rfl⟩
    obtain⟨fd,Ed⟩:∃fd,f.d=fd:=⟨_,rfl⟩
    obtain⟨kn,lz⟩:∃kn,(cV f.x).length=kn:=⟨_,rfl⟩
    have XM:=zh nH;have yQ:=zh SZ;have S6:=zh Ed;have Ij:=zh lz
    rw [nH,SZ] at a0 EC
    rw [Ed] at a1 EC hdf
    rw [nH,SZ,lz] at c6
    rw [nH] at Ax
    rw [lz] at hdf
    clear hO IQ NC dG rp gN MK bB hL qC nH SZ Ed lz HO wk
    go_wp2_with fail
    go_region_with (first | (go_at_call 22;refine(EC.out _ (by repeat (first | with_reducible exact ad _ _ | with_reducible refine aF ?_))).mono ?_;rintro e w2 ⟨rfl,ee,dC,ho2⟩;have Jm:=zh ee;have fu:Hid (Below B wr w2):=zh (Below.trans2 (Below.gb (show wr.grownBy _ none from(by repeat (first | with_reducible exact ad _ _ | with_reducible refine aF ?_))) UL.out) dC);have qq:Hid (gU b wr w2):=zh ((gU.none (show wr.grownBy _ none from(by repeat (first | with_reducible exact ad _ _ | with_reducible refine aF ?_)))).trans ho2);clear ee dC ho2))
    all_goals
     clear a0 a1 c6 EC Ax
     have dp:=ot.out.okept qq.out (by decide) fL.out
     have vu:=zh dp
     obtain⟨a0,a1,a2,zy,TJ,-⟩:=ak.top2 dp
     have Zq:(G'.map lX).length=L:=by rw [List.length_map];exact Nm.out
     rw [Zq] at a0 a1 TJ
     rw [XM.out,yQ.out] at a0
     rw [S6.out] at a1
     have SF:=HH.out.at abh.out fu.out
     have Mn:=zh SF
     obtain⟨SP,UZ,c6,-⟩:=SF.kids
     have Ax:=SF.2.1
     rw [XM.out,yQ.out,Ij.out] at c6
     rw [XM.out] at Ax
     have vP:=zh (Below.trans2 CA.out fu.out)
     have rX:Hid (base≤w2.heap.size):=zh (Nat.le_trans Y0.out fu.out.size)
     have x7:(n1:Int)≤(c:Int):=by have:=rz.out;omega
     have x8:n1≤c:=by have:=rz.out;omega
     have x9:L≤c:=by omega
     clear dp SF Zq ot abh CA Y0 HPS qq fu UL
     go_wp2_with fail
     go_quiet (fail)
     have eO:=ap (ad w2 none) nq
     have vu:=zh (vu.out.kept eO);have Jm:=zh (HH.out.grown _ _ _ Jm.out eO)
     have Mn:Hid (kz F (w2.drewN nq) f.g f.o f.x):=zh (Mn.out.same (Fr2.none (S:=fun _=>False) eO) (fun _ _ h=>h))
     have vP:=zh (Below.trans2 vP.out (Below.gb eO (by have:=fL.out;have:=Rc.out;have:=rX.out;omega)))
     have rX:Hid (base≤(w2.drewN nq).heap.size):=zh rX.out
     have a0:(w2.drewN nq).cell? ⟨ga,L*2,none⟩=some (.pointer (some ⟨fg,fo,none⟩)):=a0
     have a1:(w2.drewN nq).cell? ⟨ga,L*2+1,none⟩=some (.int .i64 (fd:Int)):=a1
     have a2:∀j,(w2.drewN nq).frozen? ⟨ga,j,none⟩=false:=a2
     have zy:ga<(w2.drewN nq).heap.size:=zy
     have Ax:fg<(w2.drewN nq).heap.size:=Ax
     have c6:(w2.drewN nq).cell? ⟨fg,fo+6,none⟩=some (.slice SP kn UZ):=c6
     clear eO
     generalize w2.drewN nq=w3 at *
     by_cases hd:fd=kn
     ·have e1:(fd == kn)=true:=by rw [hd];simp
      have sl:((fd:Int) == (kn:Int))=true:=by rw [hd];simp
      have Rd:=zh hd
      clear hd
      have Mw:=vu.out.pop.2.1
      have P5:(G'.map lX).length=L:=by rw [List.length_map];exact Nm.out
      rw [P5] at Mw
      have Lm:=zh Mw
      have Ed:f.d=(cV f.x).length:=by rw [S6.out,Ij.out];exact Rd.out
      have IO:Hid (qo st G' (st s' f.x fd)=fin):=zh (by
       have h:=HRU.out
       rw [j7,(Az st Ed _).1] at h
       rw [←S6.out];exact h)
      have Vl:Hid (m6 G'+1≤gk):=zh (by
       have h:=mR G' f
       rw [(Az st Ed s').2] at h;omega)
      clear Mw P5 Ed vu HRU a0 a1 a2 c6
      go_wp2_with fail
      go_roundg (m6 G')
      case measure=>have:=Vl.out;omega
      case rel=>exact⟨G',_,Nat.le_refl _,by have:=Vl.out;omega,Lm,Jm,IO,zh (fun f' hf'=>Xq.out f' (List.mem_append_left _ hf')),vP,rX⟩
     ·have e1:(fd == kn)=false:=beq_eq_false_iff_ne.2 hd
      have sl:((fd:Int) == (kn:Int))=false:=beq_eq_false_iff_ne.2 (by omega)
      have hlt:fd<kn:=by omega
      clear hd
      obtain⟨kx,BZ⟩:∃kx,(cV f.x)[f.d]? = some kx:=⟨(cV f.x)[f.d]'(by rw [Ij.out,S6.out];exact hlt),List.getElem?_eq_getElem _⟩
      obtain⟨pk3,ck3,c63,abX⟩:=(Sc.out).kids
      obtain⟨pk4,ck4,c64,ZW⟩:=Mn.out.kids
      rw [XM.out,yQ.out,Ij.out] at c64
      have hpe:pk4=SP:=by
       have h:=c64.symm.trans c6
       injection h with h;injection h with h1 h2 h3
      obtain⟨mq,Zw,nF,hka⟩:=ZW f.d kx BZ
      have Xl:kz F W mq (Zw+f.d*8) kx:=by
       obtain⟨g9,o9,Ox,al⟩:=abX f.d kx BZ
       have hc9:=(Sc.out).kids
       have c9:w3.cell? ⟨f.g,f.o+6,none⟩=some (.slice pk3 (cV f.x).length ck3):=by
        rw [World.cell?_of_block (w:=W) (vP.out.block f.g (HH.out.below _ (Sc.out).1))];exact c63
       rw [XM.out,yQ.out,Ij.out] at c9
       have h:=c9.symm.trans c64
       injection h with h;injection h with h1 h2 h3
       rw [h1,nF] at Ox
       injection Ox with Ox;injection Ox with Ox hp10
       subst Ox;subst hp10
       exact al
      rw [hpe] at nF
      subst nF
      rw [S6.out] at Xl
      have y2:(fd:Int)<(kn:Int):=by omega
      have y3:decide (fd<kn)=true:=zd hlt
      have y4:decide ((fd:Int)<(kn:Int))=true:=zd y2
      have y1:(0:Int)≤(fd:Int):=by omega
      have jo:kn≤1000000:=by
       have h1:=sU (cV f.x)
       have h2:od (cV f.x)≤kw f.x:=by cases f.x with | mk op nm md nu ys ks ps=>simp only [kw,cV];omega
       have h3:=HCF.out
       rw [←Ij.out];omega
      have M3:kw kx≤1000000:=by
       have h1:=BM _ _ _ BZ
       have h2:od (cV f.x)≤kw f.x:=by cases f.x with | mk op nm md nu ys ks ps=>simp only [kw,cV];omega
       have h3:=HCF.out
       omega
      have adL:=zh M3;have Tf:=zh BZ
      clear M3 BZ
      have eE:IntKind.i64.wrap ((fd:Int)+1)=((fd+1:Nat):Int):=by rw [IntWalk.i64_in _ (by omega)];omega
      have HKA:=zh Xl
      clear abX ZW c63 c64 hpe hka Xl
      go_wp2_with fail
      go_quiet (fail)
      have eO:=ap (ad w3 none) nq
      have vu:=zh (vu.out.kept eO);have Jm:=zh (HH.out.grown _ _ _ Jm.out eO)
      have Mn:Hid (kz F (w3.drewN nq) f.g f.o f.x):=zh (Mn.out.same (Fr2.none (S:=fun _=>False) eO) (fun _ _ h=>h))
      have vP:=zh (Below.trans2 vP.out (Below.gb eO (by have:=fL.out;have:=Rc.out;have:=rX.out;omega)))
      have rX:Hid (base≤(w3.drewN nq).heap.size):=zh rX.out
      have a0:(w3.drewN nq).cell? ⟨ga,L*2,none⟩=some (.pointer (some ⟨fg,fo,none⟩)):=a0
      have a1:(w3.drewN nq).cell? ⟨ga,L*2+1,none⟩=some (.int .i64 (fd:Int)):=a1
      have a2:∀j,(w3.drewN nq).frozen? ⟨ga,j,none⟩=false:=a2
      have zy:ga<(w3.drewN nq).heap.size:=zy
      have Ax:fg<(w3.drewN nq).heap.size:=Ax
      clear eO c6
      generalize w3.drewN nq=w4 at *
      have h5:=ak.last2 (u:=.int .i64 ((fd+1:Nat):Int)) rfl vu.out
      have P5:(G'.map lX).length=L:=by rw [List.length_map];exact Nm.out
      rw [P5] at h5
      rw [XM.out,yQ.out] at h5
      have PR:=zh h5.1;have iD:=zh h5.2
      have HP5:Hid (P (st s' f.x fd) (w4.setCell ⟨ga,L*2+1,none⟩ (.int .i64 ((fd+1:Nat):Int)))):=zh (by
       obtain⟨afY,cs,rp⟩:=vu.out.blk
       exact HH.out.placed _ _ _ ga cs Jm.out h5.2 rp (by have:=fL.out;omega))
      have zg:Hid ((G'.map lX++[[Value.pointer (some ⟨fg,fo,none⟩),Value.int .i64 ((fd+1:Nat):Int)]]).length=n1):=zh (by rw [List.length_append,P5];exact rz.out)
      have M1:Hid ((G'.map lX++[[Value.pointer (some ⟨fg,fo,none⟩),Value.int .i64 ((fd+1:Nat):Int)]]).length≤1000000):=zh (by rw [zg.out];have:=rz.out;omega)
      obtain⟨rU,Xh⟩:∃rU,fd+1=rU:=⟨_,rfl⟩
      have Wp:=zh Xh
      rw [Xh] at eE PR iD HP5 zg M1
      clear h5 P5 Xh
      have acf:Hid (kz F W mq (Zw+fd*8) kx):=HKA
      obtain⟨ko,lJ⟩:∃ko,Zw+fd*8=ko:=⟨_,rfl⟩
      rw [lJ] at acf ⊢
      clear lJ HKA
      have xQ:Hid ((w4.setCell ⟨ga,L*2+1,none⟩ (.int .i64 (rU:Int))).heap.size=w4.heap.size):=zh (by simp [World.setCell])
      have CE:Hid (((w4.setCell ⟨ga,L*2+1,none⟩ (.int .i64 (rU:Int))).alloc (.cells #[.pointer (some ⟨mq,ko,none⟩),.int .i64 0] 121)).heap[w4.heap.size]? = some (.cells #[.pointer (some ⟨mq,ko,none⟩),.int .i64 0] 121 (0,0))):=zh (by
       have h:=heap_alloc_new (w4.setCell ⟨ga,L*2+1,none⟩ (.int .i64 (rU:Int))) (.cells #[.pointer (some ⟨mq,ko,none⟩),.int .i64 0] 121)
       rw [xQ.out] at h;exact h)
      have mG:Hid (((w4.setCell ⟨ga,L*2+1,none⟩ (.int .i64 (rU:Int))).alloc (.cells #[.pointer (some ⟨mq,ko,none⟩),.int .i64 0] 121)).heap.size=w4.heap.size+1):=zh (by
       have h:=xQ.out
       simp [h])
      go_wp2_with (at_builtin;go_loud (refine el (s:=2) (t:=122) (T:=121) (by decide) Tryz.underlying122 ZM rfl (by omega) rfl _ _ rfl base (G'.map lX++[[Value.pointer (some ⟨fg,fo,none⟩),Value.int .i64 (rU:Int)]]) [.pointer (some ⟨mq,ko,none⟩),.int .i64 0] rfl (fun u hu=>by simp at hu;rcases hu with rfl | rfl<;>rfl) (.slice (some ⟨ga,0,none⟩) n1 c) rfl (ak.kept PR.out (World.grownBy_alloc _ _ none)) w4.heap.size _ rfl CE.out rfl M1.out (by rw [mG.out];have:=rX.out;omega) (w4.heap.size+1) mG.out ?_))
      intro g9 cap9 w9 ii eu ef
      have hwb:w4.grownBy (w4.setCell ⟨ga,L*2+1,none⟩ (.int .i64 (rU:Int))) (some ga):=iD.out
      have Pi:base≤ga:=vu.out.blk.1
      have kJ:Below B w4 w9:=by
       have h1:Below B w4 (w4.setCell ⟨ga,L*2+1,none⟩ (.int .i64 (rU:Int))):=(Fr2.of hwb (S:=fun k=>ga=k) (fun k e=>by injection e)).below (by have:=fL.out;have:=Rc.out;have:=rX.out;omega) (fun k e=>by have:=fL.out;have:=Rc.out;omega)
       have h2:Below B (w4.setCell ⟨ga,L*2+1,none⟩ (.int .i64 (rU:Int))) ((w4.setCell ⟨ga,L*2+1,none⟩ (.int .i64 (rU:Int))).alloc (.cells #[.pointer (some ⟨mq,ko,none⟩),.int .i64 0] 121)):=Below.gb (World.grownBy_alloc _ _ none) (by rw [xQ.out];have:=fL.out;have:=Rc.out;have:=rX.out;omega)
       exact Below.trans2 h1 (Below.trans2 h2 ((Fr2.of eu (S:=fun k=>(Value.slice (some ⟨ga,0,none⟩) n1 c).ownBlock=some k) (fun k e=>e)).below (by rw [mG.out];have:=fL.out;have:=Rc.out;have:=rX.out;omega) (fun k e=>by have e:ga=k:=Option.some.inj (show some ga=some k from e);have:=fL.out;have:=Rc.out;omega)))
      have hP9:P (st s' f.x fd) w9:=by
       obtain⟨afY,cs,rp⟩:=PR.out.blk
       exact HH.out.placed _ _ _ ga cs (HH.out.grown _ _ _ HP5.out (World.grownBy_alloc _ _ none)) (show _ from eu) (bx (World.grownBy_alloc _ _ none) rp) (by have:=fL.out;omega)
      have hs9:base≤w9.heap.size:=by have h1:=eu.size;rw [mG.out] at h1;have:=rX.out;omega
      have rf:=zh (Below.trans2 vP.out kJ);have HP9:=zh hP9;have AX:=zh hs9
      have ss:Hid (ak 2 121 w9 base (.slice (some ⟨g9,0,none⟩) (G'.length+1+1) cap9) ((G'++[{ f with d:=rU },⟨kx,0,mq,ko⟩]).map lX)):=zh (by
       rw [List.map_append]
       have e : [{ f with d:=rU },(⟨kx,0,mq,ko⟩:Fm)].map lX = [[Value.pointer (some ⟨fg,fo,none⟩),Value.int .i64 (rU:Int)],[Value.pointer (some ⟨mq,ko,none⟩),Value.int .i64 0]]:=by
        simp only [List.map_cons,List.map_nil,lX]
        rw [XM.out,yQ.out];rfl
       rw [e];exact ii)
      have hrk:=RM st Tf.out s' mq ko
      have afQ:Hid (qo st (G'++[{ f with d:=rU },⟨kx,0,mq,ko⟩]) (st s' f.x fd)=fin):=zh (by
       have h:=HRU.out
       rw [j7,hrk.1] at h
       have e:G'++[{ f with d:=rU },(⟨kx,0,mq,ko⟩:Fm)]=(G'++[{ f with d:=rU }])++[⟨kx,0,mq,ko⟩]:=by simp
       rw [e,j7,j7,←Wp.out,←S6.out];exact h)
      have aaE:Hid (m6 (G'++[{ f with d:=rU },⟨kx,0,mq,ko⟩])+1≤gk):=zh (by
       have h1:=mR G' f
       rw [hrk.2] at h1
       have e:G'++[{ f with d:=rU },(⟨kx,0,mq,ko⟩:Fm)]=(G'++[{ f with d:=rU }])++[⟨kx,0,mq,ko⟩]:=by simp
       have h2:=mR (G'++[{ f with d:=rU }]) ⟨kx,0,mq,ko⟩
       have h3:=mR G' { f with d:=rU }
       rw [e,h2,h3]
       rw [S6.out,Wp.out] at h1
       omega)
      have abJ:Hid (∀f'∈G'++[{ f with d:=rU },⟨kx,0,mq,ko⟩],kz F W f'.g f'.o f'.x∧f'.d≤(cV f'.x).length∧kw f'.x≤1000000∧QQ f'.x):=zh (fun f' hf'=>by
       rcases List.mem_append.1 hf' with h | h
       ·exact Xq.out f' (List.mem_append_left _ h)
       ·rcases List.mem_cons.1 h with h | h
        ·subst h
         exact⟨Sc.out,by show rU≤(cV f.x).length;rw [Ij.out,←Wp.out];omega,HCF.out,HQF.out⟩
        ·rcases List.mem_cons.1 h with h | h
         ·subst h;exact⟨acf.out,Nat.zero_le _,adL.out,HH.out.kids _ _ HQF.out (List.mem_of_getElem? Tf.out)⟩
         ·cases h)
      clear ii eu ef hwb Pi kJ hP9 hs9 hrk PR iD HP5 zg M1 CE mG xQ a0 a1 a2
      go_wp2_with fail
      go_roundg (m6 (G'++[{ f with d:=rU },⟨kx,0,mq,ko⟩]))
      case measure=>have:=aaE.out;omega
      case rel=>exact⟨_,_,Nat.le_refl _,by have:=aaE.out;omega,ss,HP9,afQ,abJ,rf,AX⟩
end Go.Proofs.YtjbgnopnehgbaaaGreatDoor
