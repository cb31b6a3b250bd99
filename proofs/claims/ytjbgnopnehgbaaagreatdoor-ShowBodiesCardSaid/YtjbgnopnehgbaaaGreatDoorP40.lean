/- Lemmas. -/
import Derived.Test.YtjbgnopnehgbaaaGreatDoorP18
import Derived.Test.YtjbgnopnehgbaaaGreatDoorP39
set_option linter.unusedVariables false
set_option linter.unusedSimpArgs false
namespace Go.Proofs.YtjbgnopnehgbaaaGreatDoor
open Go.RowKit
mutual
def exS:Ex→Sx
 | .mk op nm md nu ys ks ps=>.mk op nm md (if op=1 then Zd.parseV nu else 0) ys (AR ks) ps
def AR:List Ex→List Sx
 | []=>[]
 | x::l=>exS x::AR l
end
theorem AH:∀l:List Ex,(AR l).length=l.length
 | []=>rfl
 | x::l=>by simp only [AR,List.length_cons,AH l]
mutual
theorem NY {F:Nat→Prop} {w:World}:∀ {x:Ex} {q:List Value},EAt F w x q→SAt F w (exS x) q
 | .mk op nm md nu ys ks ps,q,h=>by
   simp only [EAt] at h
   obtain⟨s,pw,nw,cw,pk,ck,rows,rfl,hn,hg,hl,hf⟩:=h
   simp only [exS,SAt]
   have hi:Zd.IsInt w (.agg #[.bool s,.slice pw nw cw]) (if op=1 then Zd.parseV nu else 0)∧(0<nw→∃a,pw=some a∧F a.block):=by
    unfold dV at hn
    by_cases h1:op=1
    ·rw [if_pos h1] at hn ⊢;exact⟨hn.1,hn.2.2⟩
    ·rw [if_neg h1] at hn ⊢;exact hn
   refine⟨s,pw,nw,cw,pk,ck,rows,by rw [AH],hi.1,hi.2,hg,TD hl,fun h0=>?_⟩
   obtain⟨a,ha,h1,h2⟩:=hf (fun e=>h0 (by rw [e];rfl))
   exact⟨a,ha,h1,h2⟩
theorem TD {F:Nat→Prop} {w:World}:∀ {l:List Ex} {r:List (List Value)},LsE F w l r→LsS F w (AR l) r
 | [],r,h=>by simp only [LsE] at h;simp only [AR,LsS];exact h
 | x::l,r,h=>by
   simp only [LsE] at h
   obtain⟨q,r',h1,h2,h3⟩:=h
   simp only [AR,LsS]
   exact⟨q,r',h1,NY h2,TD h3⟩
end
def abL:List UInt8:=[110,111,116,40,97,38,38,45,40,98,43,49,41,60,99,41]
theorem QX:(dH abL 200 true).2.1=0:=by kernel_rfl
def QK:Ex:=.mk 6 [] [] [] false [.mk 18 [] [] [] false [.mk 3 [97] [] [] false [] 4,.mk 14 [] [] [] false [.mk 5 [] [] [] false [.mk 7 [] [] [] false [.mk 3 [98] [] [] false [] 9,.mk 1 [] [] [49] false [] 11] 10] 7,.mk 3 [99] [] [] false [] 14] 13] 5] 0
theorem Hb:nz abL 200=QK:=by kernel_rfl
def ng:Sx:=.mk 6 [] [] 0 false [.mk 18 [] [] 0 false [.mk 3 [97] [] 0 false [] 4,.mk 14 [] [] 0 false [.mk 5 [] [] 0 false [.mk 7 [] [] 0 false [.mk 3 [98] [] 0 false [] 9,.mk 1 [] [] 1 false [] 11] 10] 7,.mk 3 [99] [] 0 false [] 14] 13] 5] 0
theorem VO:Zd.parseV [49]=1:=by kernel_rfl
theorem Sy:exS QK=ng:=by simp [QK,exS,AR,ng,VO]
theorem B0:Zd.txtL 1 = [49]:=by rw [←VO,Zd.txtL_parse (by kernel_rfl)]
theorem Dh:bf true ng=true:=by
 simp only [ng,bf,cx,iR,B9,B0]
 kernel_rfl
theorem xS:txS ng = [110,111,116,32,40,97,32,38,38,32,45,40,98,32,43,32,49,41,32,60,32,99,41]:=by
 simp only [ng,txS,iK,iB,B0]
 kernel_rfl
theorem Zf:0<Zd.Lim:=by unfold Zd.Lim;exact Nat.pow_pos (by unfold Zd.Bw;omega)
theorem adS:1<Zd.Lim:=by have:=Zd.parseV_lim [49];rw [VO] at this;exact this
theorem Q9:okS ng:=by simp [ng,okS,jD,Zf,adS]
theorem K3:bw ng≤1000000:=by simp [ng,bw,dh]
theorem PY:wgS ng≤500000:=by simp [ng,wgS,gP]
set_option maxHeartbeats 16000000
set_option maxRecDepth 100000
mutual
theorem SAt.bound {F:Nat→Prop} {w:World}:∀ {x:Sx} {q:List Value},SAt F w x q→SAt (fun k=>F k∧k<w.heap.size) w x q
 | .mk op nm md nu ys ks ps,q,h=>by
   simp only [SAt] at h ⊢
   obtain⟨s,pw,nw,cw,pk,ck,rows,h1,h2,h6,h3,h4,h5⟩:=h
   refine⟨s,pw,nw,cw,pk,ck,rows,h1,h2,fun h0=>?_,h3,LsS.bound h4,fun h0=>?_⟩
   ·obtain⟨a,ha,h7⟩:=h6 h0
    obtain⟨a',jE,h8⟩:=Zd.int_some h2 h0
    rw [ha] at jE;injection jE with jE;subst jE
    exact⟨a,ha,h7,h8⟩
   ·obtain⟨a,ha,h7,cs,T,h8⟩:=h5 h0
    exact⟨a,ha,⟨h7,hlt h8⟩,cs,T,h8⟩
theorem LsS.bound {F:Nat→Prop} {w:World}:∀ {l:List Sx} {r:List (List Value)},LsS F w l r→LsS (fun k=>F k∧k<w.heap.size) w l r
 | [],r,h=>by simp only [LsS] at h ⊢;exact h
 | x::l,r,h=>by
   simp only [LsS] at h ⊢
   obtain⟨q,r',h1,h2,h3⟩:=h
   exact⟨q,r',h1,SAt.bound h2,LsS.bound h3⟩
end
theorem Rw (w:World) (cg:cM w) (i7:fy w):Calls Tryz.prog 10 #[.string ⟨#[110,111,116,40,97,38,38,45,40,98,43,49,41,60,99,41]⟩] w
  (fun e w'=>w.grownBy w' none∧∃q,e=.returned (.tuple #[.agg q.toArray,.bool true])∧SAt (fun k=>k<w'.heap.size) w' ng q):=by
 have OG:=zh (fun W (h:w.grownBy W none)=>xj ⟨#[110,111,116,40,97,38,38,45,40,98,43,49,41,60,99,41]⟩ 200 W (by decide) (cg.kept h))
 have dp:(dH (⟨#[110,111,116,40,97,38,38,45,40,98,43,49,41,60,99,41]⟩:ByteArray).data.toList 200 true).2.1=0:=QX
 have gf:=zh cg;have ip:=zh i7
 clear cg i7
 have vl:=heap_alloc_new w (.cells #[.int .i64 0,.string ⟨#[]⟩,.string ⟨#[]⟩,.bool false,.slice none 0 0,.bool false,.slice none 0 0,.int .i64 0] 30)
 have lF:=World.grownBy_alloc w (.cells #[.int .i64 0,.string ⟨#[]⟩,.string ⟨#[]⟩,.bool false,.slice none 0 0,.bool false,.slice none 0 0,.int .i64 0] 30) none
 go_enter Tryz.func10,Tryz.ntmps10
 go_upto_region 1 with fail
 generalize (w.alloc (.cells #[.int .i64 0,.string ⟨#[]⟩,.string ⟨#[]⟩,.bool false,.slice none 0 0,.bool false,.slice none 0 0,.int .i64 0] 30))=WA at *
 obtain⟨b,hb⟩:∃b,w.heap.size=b:=⟨_,rfl⟩
 rw [hb] at vl ⊢
 have HB:=zh hb;have nK:=zh vl;have Bo:=zh lF
 clear vl lF hb
 go_wp2_with fail
 refine(OG.out WA Bo.out).mono ?_
 rintro e w1 ⟨bI,he⟩
 rw [if_neg (by rw [dp];decide)] at he
 obtain⟨pt,ct,pn,cn,K,rfl,eU,Gf,kF,-,-,-,hN⟩:=he
 have yQ:=zh (fun W h1 h2 h3 h4=>Bk ⟨#[110,111,116,40,97,38,38,45,40,98,43,49,41,60,99,41]⟩ 200 (by decide) dp pt pn ct cn K W h1 h2 h3 h4 hN)
 have T4:nz (⟨#[110,111,116,40,97,38,38,45,40,98,43,49,41,60,99,41]⟩:ByteArray).data.toList 200=QK:=Hb
 rw [T4] at yQ
 have qY:=zh eU;have zz:=zh kF;have cZ:=zh (aa Bo.out bI)
 have iV:=zh (bx bI nK.out)
 obtain⟨m,hm⟩:∃m,(ag (⟨#[110,111,116,40,97,38,38,45,40,98,43,49,41,60,99,41]⟩:ByteArray).data.toList).1.length=m:=⟨_,rfl⟩
 obtain⟨M,hM⟩:∃M,(aD (⟨#[110,111,116,40,97,38,38,45,40,98,43,49,41,60,99,41]⟩:ByteArray).data.toList 200 true).length=M:=⟨_,rfl⟩
 rw [hm,hM] at yQ ⊢
 obtain⟨W,b0,b1,hW,e0,e1,ge,ik,jC,zR⟩:=two w1 (.cells #[.slice pt m ct,.slice pn M cn] 42) (.cells #[.int .i64 0,.int .i64 0] 44)
 have fw:b1=b0+1:=by omega
 subst fw
 have mD:Hid (b<W.heap.size):=zh (zn (hlt iV.out) jC.size)
 have Sw:=zh ge;have lI:=zh ik;have da:=zh jC
 clear hm hM hN Gf eU kF bI dp T4 OG ge ik jC
 go_wp2_with fail
 try rw [←hW]
 try rw [e1]
 try rw [e0]
 clear e0 e1 hW
 refine(yQ.out _ (gf.out.kept (aa cZ.out da.out)) (ip.out.kept (aa cZ.out da.out)) (qY.out.kept da.out) (zz.out.kept da.out)).mono ?_
 rintro e w2 ⟨bT,q,rfl,hq⟩
 have cz:=zh (aa (aa cZ.out da.out) bT)
 have hs:=NY hq
 rw [Sy] at hs
 have fu:=zh (bx (aa da.out bT) iV.out)
 have es:=zh (bx bT lI.out)
 have HX:=zh hs
 have zC:=hs
 unfold ng at zC
 simp only [SAt] at zC
 obtain⟨s8,pw,nw,cw,pk,ck,rows,rfl,-⟩:=zC
 clear bT hq hs yQ gf ip qY zz da Sw lI cZ nK Bo iV
 unfold aw at *
 simp only [List.length_cons,List.length_nil] at *
 have fM:=World.grownBy_alloc w2 (.cells #[.int .i64 6,.string ⟨#[]⟩,.string ⟨#[]⟩,.bool s8,.slice pw nw cw,.bool false,.slice pk (0+1) ck,.int .i64 0] 30) none
 have ig:=heap_alloc_new w2 (.cells #[.int .i64 6,.string ⟨#[]⟩,.string ⟨#[]⟩,.bool s8,.slice pw nw cw,.bool false,.slice pk (0+1) ck,.int .i64 0] 30)
 go_upto_region 3 with fail
 generalize (w2.alloc (.cells #[.int .i64 6,.string ⟨#[]⟩,.string ⟨#[]⟩,.bool s8,.slice pw nw cw,.bool false,.slice pk (0+1) ck,.int .i64 0] 30))=W3 at *
 obtain⟨b6,Xy⟩:∃b6,w2.heap.size=b6:=⟨_,rfl⟩
 rw [Xy] at ig ⊢
 have wP:=zh ig;have UL:=zh (bx fM fu.out)
 have eg:=zh (aa cz.out fM)
 have HX3:=zh (HX.out.kept fM)
 obtain⟨f0,f1,f2⟩:=ah (bx fM es.out)
 obtain⟨t0,t1,t2,t3,t4,t5,t6,t7⟩:=bm wP.out
 obtain⟨c0,c1,c2,c3,c4,c5,c6,c7⟩:=bm UL.out
 have fz:=frz UL.out
 have mV:b<W3.heap.size:=hlt UL.out
 clear fM ig fu es HX cz
 go_wp2_with fail
 obtain⟨p1,f8⟩:=To UL.out (.int .i64 6) (.string ⟨#[]⟩) (.string ⟨#[]⟩) (.bool s8) (.slice pw nw cw) (.bool false) (.slice pk 1 ck) (.int .i64 0)
 obtain⟨r0,r1,r2,r3,r4,r5,r6,r7⟩:=bm p1
 have hf:=gy eg.out f8 (fun i hi=>by have hi:i=b:=hi;have:=HB.out;omega)
 have S9:=(SAt.same f8 (fun k (hk:W.heap.size≤k) e=>by have e:k=b:=e;have:=mD.out;omega) HX3.out).bound
 refine bodyPost_ret (v:=.tuple #[.agg #[.int .i64 6,.string ⟨#[]⟩,.string ⟨#[]⟩,.bool s8,.slice pw nw cw,.bool false,.slice pk 1 ck,.int .i64 0],.bool true]) (by simp [results,Tryz.results10,go_sem,r0,r1,r2,r3,r4,r5,r6,r7]) rfl ⟨hf,_,rfl,SAt.mono (fun k hk=>hk.2) S9⟩
theorem Yf (w:World):SAt (fun _=>False) w (.mk 4 [] [] 0 false [] 0) [.int .i64 4,.string ⟨#[]⟩,.string ⟨#[]⟩,.bool false,.slice none 0 0,.bool false,.slice none 0 0,.int .i64 0]:=by
 simp only [SAt]
 exact⟨false,none,0,0,none,0,[],rfl,Zd.zero_int w,fun h=>absurd h (by omega),GAt.nil,LsS.nil,fun h=>absurd rfl h⟩
theorem Iq:bf false (.mk 4 [] [] 0 false [] 0)=false:=by simp [bf,se]
theorem Hf (w:World) (cg:cM w) (i7:fy w) (hlw:fW w):Calls Tryz.prog 4 #[] w (aR (.bool true) w):=by
 have zP:=zh (Rw w cg i7)
 have wZ:=zh (fun W (h:w.grownBy W none)=>cg.kept h)
 have HLW:Hid (∀W,w.grownBy W none→fW W):=zh (fun W h j t hj=>h.cell (hlw j t hj) (by simp))
 have Jn:=zh (fun W (h:w.grownBy W none)=>Mg (fun _=>False) (.mk 4 [] [] 0 false [] 0) _ W (wZ.out W h) (HLW.out W h) (Yf W) (fun _ h=>h.elim) (by simp [bw,dh]) (by simp [okS,jD,Zf]) (by simp [wgS,gP]) (by simp [txS,iK,iB]))
 clear cg i7 hlw
 go_enter Tryz.func4,Tryz.ntmps4
 go_wp2_with fail
 refine zP.out.mono ?_
 rintro e w1 ⟨bI,q,rfl,hx⟩
 have yQ:=zh (fun W (h:w1.grownBy W none)=>GD _ ng q W (wZ.out W (aa bI h)) (HLW.out W (aa bI h)) (hx.kept h) (fun k hk=>zn hk h.size) K3 Q9 PY (by rw [xS];decide))
 have cZ:=zh bI
 have zC:=hx
 unfold ng at zC
 simp only [SAt] at zC
 obtain⟨s8,pw,nw,cw,pk,ck,rows,rfl,-⟩:=zC
 clear bI hx zP
 unfold aw at *
 simp only [List.length_cons,List.length_nil,Nat.zero_add] at *
 have bT:=World.grownBy_alloc w1 (.cells #[.int .i64 6,.string ⟨#[]⟩,.string ⟨#[]⟩,.bool s8,.slice pw nw cw,.bool false,.slice pk 1 ck,.int .i64 0] 30) none
 have dC:=heap_alloc_new w1 (.cells #[.int .i64 6,.string ⟨#[]⟩,.string ⟨#[]⟩,.bool s8,.slice pw nw cw,.bool false,.slice pk 1 ck,.int .i64 0] 30)
 go_upto_region 2 with fail
 generalize (w1.alloc (.cells #[.int .i64 6,.string ⟨#[]⟩,.string ⟨#[]⟩,.bool s8,.slice pw nw cw,.bool false,.slice pk 1 ck,.int .i64 0] 30))=W2 at *
 obtain⟨b,hb⟩:∃b,w1.heap.size=b:=⟨_,rfl⟩
 rw [hb] at dC ⊢
 have aeW:=zh (yQ.out W2 bT)
 have cz:=zh (aa cZ.out bT)
 obtain⟨c0,c1,c2,c3,c4,c5,c6,c7⟩:=bm dC
 have mV:b<W2.heap.size:=hlt dC
 clear hb dC bT yQ
 have hr9:=Dh
 have ht9:=xS
 go_wp2_with fail
 refine aeW.out.mono ?_
 rintro e w3 ⟨rfl,fM⟩
 rw [hr9,ht9]
 have eg:=zh (aa cz.out fM)
 clear fM c0 c1 c2 c3 c4 c5 c6 c7 mV hr9 ht9
 go_wp2_with fail
 refine(Jn.out w3 eg.out).mono ?_
 rintro e w4 ⟨rfl,nY⟩
 rw [Iq]
 have lw:=zh (aa eg.out nY)
 clear nY
 go_wp2_with fail
 go_ret
 exact⟨rfl,lw.out⟩
mutual
theorem yh:∀e:Ex,lU (npE e)=lU e
 | .mk op nm md nu ys ks ps=>by simp only [npE,lU,FT ks,fq,nmE,lx]
theorem FT:∀l:List Ex,th (iM l)=th l
 | []=>rfl
 | x::l=>by simp only [iM,th,yh x,FT l]
end
mutual
theorem DH:∀e:Ex,lA (npE e)↔lA e
 | .mk op nm md nu ys ks ps=>by simp only [npE,lA,EU ks,uI]
theorem EU:∀l:List Ex,nE (iM l)↔nE l
 | []=>Iff.rfl
 | x::l=>by simp only [iM,nE,DH x,EU l]
end
mutual
theorem DJ:∀e:Ex,kw (npE e)=kw e
 | .mk op nm md nu ys ks ps=>by simp only [npE,kw,Fs ks]
theorem Fs:∀l:List Ex,od (iM l)=od l
 | []=>rfl
 | x::l=>by simp only [iM,od,DJ x,Fs l]
end
mutual
def toE:Sx→Ex
 | .mk op nm md nu ys ks ps=>.mk op.toNat nm md (if op=1 then Zd.txtL nu else []) ys (zL ks) ps.toNat
def zL:List Sx→List Ex
 | []=>[]
 | x::l=>toE x::zL l
end
theorem AQ:∀l:List Sx,(zL l).length=l.length
 | []=>rfl
 | x::l=>by simp only [zL,List.length_cons,AQ l]
mutual
theorem TS:∀x:Sx,npE (toE x)=npS x
 | .mk op nm md nu ys ks ps=>by simp only [toE,npE,npS,LA ks]
theorem LA:∀l:List Sx,iM (zL l)=gu l
 | []=>rfl
 | x::l=>by simp only [zL,iM,gu,TS x,LA l]
end
mutual
def eoS:Sx→Prop
 | .mk op _ _ nu _ ks ps=>(0≤op∧(op=1→Zd.parseV (Zd.txtL nu)=nu∧Zd.parseE (Zd.txtL nu)=0)∧(op≠1→nu=0)∧ps=0)∧CR ks
def CR:List Sx→Prop
 | []=>True
 | x::l=>eoS x∧CR l
end
mutual
def plS:Sx→Prop
 | .mk _ _ _ _ _ ks ps=>ps=0∧oQ ks
def oQ:List Sx→Prop
 | []=>True
 | x::l=>plS x∧oQ l
end
mutual
theorem Lu {F:Nat→Prop} {w:World}:∀ {x:Sx} {q:List Value},eoS x→SAt F w x q→EAt F w (toE x) q
 | .mk op nm md nu ys ks ps,q,ho,h=>by
   simp only [eoS] at ho
   obtain⟨⟨o1,o2,o3,o4⟩,o5⟩:=ho
   simp only [SAt] at h
   obtain⟨s,pw,nw,cw,pk,ck,rows,rfl,hi,YV,hg,hl,hf⟩:=h
   simp only [toE,EAt]
   refine⟨s,pw,nw,cw,pk,ck,rows,?_,?_,hg,Nl o5 hl,fun h0=>?_⟩
   ·rw [AQ,show((op.toNat:Nat):Int)=op by omega,o4];rfl
   ·unfold dV
    by_cases h1:op=1
    ·subst h1
     rw [if_pos rfl,if_pos (show Int.toNat 1=1 from rfl)]
     have:=o2 rfl
     exact⟨by rw [this.1];exact hi,this.2,YV⟩
    ·rw [if_neg (by omega)]
     rw [o3 h1] at hi
     exact⟨hi,YV⟩
   ·obtain⟨a,ha,h1,h2⟩:=hf (fun e=>h0 (by rw [e];rfl))
    exact⟨a,ha,h1,h2⟩
theorem Nl {F:Nat→Prop} {w:World}:∀ {l:List Sx} {r:List (List Value)},CR l→LsS F w l r→LsE F w (zL l) r
 | [],r,_,h=>by simp only [LsS] at h;simp only [zL,LsE];exact h
 | x::l,r,ho,h=>by
   simp only [CR] at ho
   simp only [LsS] at h
   obtain⟨q,r',h1,h2,h3⟩:=h
   simp only [zL,LsE]
   exact⟨q,r',h1,Lu ho.1 h2,Nl ho.2 h3⟩
end
theorem pA:∀ {a b:List Sx},oQ (a++b)↔oQ a∧oQ b
 | [],b=>by simp [oQ]
 | x::a,b=>by simp only [List.cons_append,oQ,pA (a:=a) (b:=b),and_assoc]
theorem A9:∀(l:List Cl) (o:List Sx),oQ o→oQ (l.foldl iF o)
 | [],o,h=>h
 | c::l,o,h=>by
   refine A9 l _ ?_
   unfold iF
   rw [←List.take_append_drop (o.length - ft c) o] at h
   have h3:=pA.1 h
   refine pA.2 ⟨h3.1,?_⟩
   simp only [oQ,plS,and_true]
   exact⟨trivial,h3.2⟩
theorem Ng {l:List Cl} {x:Sx} (h:eY l=some x):plS x:=by
 unfold eY at h
 split at h
 ·cases h
 ·split at h
  ·have h1:oQ (cA l):=A9 l [] trivial
   rcases ju (cA l) with ho | ⟨o1,y,ho⟩
   ·rw [ho] at h;cases h
   ·rw [ho] at h h1
    rw [List.getLast?_append] at h
    have:y=x:=by simpa using h
    subst this
    have:=(pA.1 h1).2
    simp only [oQ,and_true] at this
    exact this
  ·cases h
mutual
theorem TH:∀x:Sx,kw (npS x)+1=2*bw x
 | .mk op nm md nu ys ks ps=>by
   have:=J2 ks
   simp only [npS,kw,bw];omega
theorem J2:∀l:List Sx,od (gu l)=2*dh l
 | []=>rfl
 | x::l=>by
   have h1:=TH x
   have h2:=J2 l
   simp only [gu,od,dh];omega
end
theorem IB (op:Nat) (nm md nu:List UInt8) (ys:Bool) (ks:List Ex) (ps:Nat):(fq (.mk op nm md nu ys ks ps)).length≤20+nm.length+md.length+nu.length:=by
 have hd:(DA op).length≤2:=by unfold DA;split<;>simp
 have hn:(nmE (.mk op nm md nu ys ks ps)).length≤2+nm.length+md.length:=by
  show(if md≠[] then 32::(md++46::nm) else if nm≠[] then 32::nm else []).length≤_
  by_cases h1:md≠[]
  ·rw [if_pos h1];simp;omega
  ·rw [if_neg h1]
   by_cases h2:nm≠[]
   ·rw [if_pos h2];simp;omega
   ·rw [if_neg h2];simp
 have ht:(lx (.mk op nm md nu ys ks ps)).length≤6+nu.length:=by
  show(if op=1 then 32::nu else if op=2 then 32::(if ys=true then [116,114,117,101] else [102,97,108,115,101]) else []).length≤_
  by_cases h1:op=1
  ·rw [if_pos h1];simp;omega
  ·rw [if_neg h1]
   by_cases h2:op=2
   ·rw [if_pos h2];cases ys<;>simp<;>omega
   ·rw [if_neg h2];simp
 unfold fq
 simp only [List.length_append,List.length_cons]
 omega
mutual
theorem S1:∀x:Sx,(lU (npS x)).length≤tbS x
 | .mk op nm md nu ys ks ps=>by
   have h1:=LB ks
   have h2:=IB op.toNat nm md (if op=1 then Zd.txtL nu else []) ys (gu ks) 0
   have h3:(if op=1 then Zd.txtL nu else []).length≤(Zd.txtL nu).length:=by split<;>simp
   simp only [npS,lU,tbS,List.length_append,List.length_singleton]
   omega
theorem LB:∀l:List Sx,(th (gu l)).length≤jA l
 | []=>by simp [gu,th,jA]
 | x::l=>by
   have h1:=S1 x
   have h2:=LB l
   simp only [gu,th,jA,List.cons_append,List.length_cons,List.length_append]
   omega
end
mutual
theorem Ub {f:Bool}:∀ {x:Sx},bf f x=true→tbS x≤1000000→lA (npS x)
 | .mk op nm md nu ys ks ps,h,hb=>by
   simp only [bf,iR,Bool.and_eq_true,decide_eq_true_eq] at h
   obtain⟨⟨-,⟨⟨⟨⟨h1,Ol⟩,-⟩,-⟩,-⟩,-⟩,hks⟩:=h
   simp only [tbS] at hb
   have h3:(if op=1 then Zd.txtL nu else []).length≤(Zd.txtL nu).length:=by split<;>simp
   simp only [npS,lA,uI]
   exact⟨⟨by omega,by omega,by omega,by omega⟩,LG hks (by omega)⟩
theorem LG {f:Bool}:∀ {l:List Sx},cx f l=true→jA l≤1000000→nE (gu l)
 | [],_,_=>by simp [gu,nE]
 | x::l,h,hb=>by
   simp only [cx,Bool.and_eq_true] at h
   simp only [jA] at hb
   simp only [gu,nE]
   exact⟨Ub h.1 (by omega),LG h.2 (by omega)⟩
end
mutual
theorem abf {f:Bool}:∀ {x:Sx},bf f x=true→plS x→eoS x
 | .mk op nm md nu ys ks ps,h,hp=>by
   simp only [bf,iR,Bool.and_eq_true,decide_eq_true_eq] at h
   obtain⟨⟨-,⟨⟨⟨⟨h1,Ol⟩,-⟩,-⟩,hnu⟩,-⟩,hks⟩:=h
   simp only [plS] at hp
   unfold B9 at hnu
   simp only [eoS]
   refine⟨⟨by omega,fun e=>?_,fun e=>?_,hp.1⟩,TT hks hp.2⟩
   ·rw [if_pos e] at hnu
    simp at hnu
    exact⟨Gj hnu.1 hnu.2,(mJ (yW hnu.1 hnu.2)).1⟩
   ·rw [if_neg e] at hnu
    simpa using hnu
theorem TT {f:Bool}:∀ {l:List Sx},cx f l=true→oQ l→CR l
 | [],_,_=>by simp [CR]
 | x::l,h,hp=>by
   simp only [cx,Bool.and_eq_true] at h
   simp only [oQ] at hp
   simp only [CR]
   exact⟨abf h.1 hp.1,TT h.2 hp.2⟩
end
def K0 (T:List iN) (N:List Nd) (l:List UInt8) (w:World) (e:Ending) (w':World):Prop:=
 w.grownBy w' none∧((fU T N l false∧∃q,e=.returned (.tuple #[.agg q.toArray,.int .i64 0])∧pI (fun k=>w.heap.size≤k) w' (tw l 200) q)∨(¬fU T N l false∧e=.returned (.tuple #[.agg #[.slice none 0 0,.slice none 0 0],.int .i64 10])))
theorem XB (T:List iN) (N:List Nd) (K:Kf) (s:ByteArray) (hs:s.size≤25000) (hw:cu T=s.data.toList) (hT:T.length≤100000) (hN:N.length≤150000) (hk:∀(i:Nat) (x:Nd),N[i]? = some x→x.kids.length≤150000) (pt pn:Option Addr) (ct cn:Nat) (w:World) (cg:cM w) (i7:fy w) (ht:eQ w pt T) (hn:aE w pn N K):
  Calls Tryz.prog 8 #[.agg #[.slice pt T.length ct,.slice pn N.length cn]] w (K0 T N s.data.toList w):=by
 have xw:s.data.toList.length=s.size:=aM s
 have Sn:=zh (fun W h1 h2 h3=>vN T N K s hs hw hT hN hk pt pn ct cn W h1 h2 h3)
 obtain⟨l,hl⟩:∃l,s.data.toList=l:=⟨_,rfl⟩
 rw [hl] at Sn xw ⊢
 have HPR:=zh (fun (hg:fU T N l false) (AA:(aD l 200 false).length≤2*(ag l).1.length) (K:Kf) (pt pn:Option Addr) (ct cn:Nat) W h1 h2 h3=>Gi (l:=l) (D:=200) (by omega) (oa (by omega) hg.1) AA (K:=K) pt pn ct cn W h1 h2 h3)
 have HT:=zh ht;have HN:=zh hn;have gf:=zh cg;have ip:=zh i7
 clear ht hn cg i7 hN hs xw hl hw hk hT
 obtain⟨m,hm⟩:∃m,T.length=m:=⟨_,rfl⟩
 obtain⟨M,hM⟩:∃M,N.length=M:=⟨_,rfl⟩
 rw [hm,hM] at Sn ⊢
 clear hm hM
 go_enter Tryz.func8,Tryz.ntmps8
 go_wp2_with fail
 obtain⟨W,b0,b1,hW,e0,e1,ge,ik,jC,zR⟩:=two w (.cells #[.slice pt m ct,.slice pn M cn] 42) (.cells #[.slice none 0 0,.slice none 0 0] 50)
 have iV:=zh ik;have da:=zh jC;have kD:=zh e0
 clear ge ik jC
 try rw [←hW]
 try rw [e1]
 try rw [e0]
 clear e0 e1 hW
 refine(Sn.out _ (gf.out.kept da.out) (HT.out.kept da.out) (HN.out.kept da.out)).mono ?_
 rintro e w1 ⟨bI,he⟩
 have cZ:=zh (aa da.out bI)
 have kE:=zh (bx bI iV.out)
 clear bI Sn
 rcases he with ⟨eO,lD,lG,kI,lN,K',rfl,eU,kF,AA,-⟩ | ⟨vo,rfl⟩
 ·have qE:=zh eO
  have zP:=zh (fun W h1 h2 h3=>HPR.out eO AA K' lD kI lG lN W h1 h2 h3)
  have qY:=zh eU;have zz:=zh kF
  generalize (ag l).1.length=m' at *
  generalize (aD l 200 false).length=M' at *
  clear eU kF HPR eO AA
  go_wp2_with fail
  obtain⟨W3,b2,JT,e2,gS,nh⟩:=Lf w1 (.cells #[.slice lD m' lG,.slice kI M' lN] 73)
  have eg:=zh (aa cZ.out nh)
  have Lp:=zh (bx nh kE.out)
  have sw:=zh nh
  clear nh
  try rw [←JT]
  try rw [e2]
  clear e2 JT gS
  refine(zP.out _ (qY.out.kept sw.out) (zz.out.kept sw.out) (ip.out.kept eg.out)).mono ?_
  rintro e w4 ⟨nY,q,rfl,hq⟩
  obtain⟨pi,ni,ci,pd,nd,cd,rfl⟩:∃(pi:Option Addr) (ni ci:Nat) (pd:Option Addr) (nd cd:Nat),q = [.slice pi ni ci,.slice pd nd cd]:=by
   obtain⟨pi,ci,pd,cd,Cb,rfl,-⟩:=hq
   exact⟨_,_,_,_,_,_,rfl⟩
  have lw:=zh (aa eg.out nY)
  have HS3:Hid (b1<W3.heap.size∧w.heap.size≤W3.heap.size):=zh ⟨hlt Lp.out,eg.out.size⟩
  have qD:=zh (bx nY Lp.out)
  obtain⟨c0,c1,c2⟩:=ah qD.out
  have fw:b1<w4.heap.size:=hlt qD.out
  have HQ:=zh hq
  clear nY hq zP
  go_wp2_with fail
  have hf:Fr2 (ez b1) w4 ((w4.setCell ⟨b1,0,none⟩ (.slice pi ni ci)).setCell ⟨b1,1,none⟩ (.slice pd nd cd)):=((Fr2.refl _ _).setCell (bh b1) _).setCell (bh b1) _
  have nH:=Fr2.after lw.out hf (fun j hj=>by have e:j=b1:=hj;have:=kD.out;omega)
  have hc:=ab (i:=1) (u:=.slice pd nd cd) (ab (i:=0) (u:=.slice pi ni ci) qD.out)
  obtain⟨k0,k1,-⟩:=ah (show((w4.setCell ⟨b1,0,none⟩ (.slice pi ni ci)).setCell ⟨b1,1,none⟩ (.slice pd nd cd)).heap[b1]? = some (Obj.cells #[.slice pi ni ci,.slice pd nd cd] 50 (0,0)) from hc)
  have HP:Hid (K0 T N l w (.returned (.tuple #[.agg #[.slice pi ni ci,.slice pd nd cd],.int .i64 0])) ((w4.setCell ⟨b1,0,none⟩ (.slice pi ni ci)).setCell ⟨b1,1,none⟩ (.slice pd nd cd))):=zh ⟨nH,.inl ⟨qE.out,_,rfl,pI.mono (fun k hk=>Nat.le_trans HS3.out.2 hk) (pI.same hf (fun k hk e=>by have e:k=b1:=e;have:=HS3.out.1;have h:W3.heap.size≤k:=hk;omega) HQ.out)⟩⟩
  refine bodyPost_ret (v:=.tuple #[.agg #[.slice pi ni ci,.slice pd nd cd],.int .i64 0]) (by simp [results,Tryz.results8,go_sem,k0,k1]) rfl HP.out
 ·have Jn:=zh vo
  obtain⟨c0,c1,c2⟩:=ah kE.out
  have fw:b1<w1.heap.size:=hlt kE.out
  clear vo HPR
  go_wp2_with fail
  have hf:Fr2 (ez b1) w1 ((w1.setCell ⟨b1,0,none⟩ (.slice none 0 0)).setCell ⟨b1,1,none⟩ (.slice none 0 0)):=((Fr2.refl _ _).setCell (bh b1) _).setCell (bh b1) _
  have nH:=Fr2.after cZ.out hf (fun j hj=>by have e:j=b1:=hj;have:=kD.out;omega)
  have hc:=ab (i:=1) (u:=.slice none 0 0) (ab (i:=0) (u:=.slice none 0 0) kE.out)
  have sG:=bx (ae (ad _ none) (.cells #[.slice none 0 0,.slice none 0 0] 73)) (show((w1.setCell ⟨b1,0,none⟩ (.slice none 0 0)).setCell ⟨b1,1,none⟩ (.slice none 0 0)).heap[b1]? = some (Obj.cells #[.slice none 0 0,.slice none 0 0] 50) from hc)
  obtain⟨k0,k1,-⟩:=ah sG
  refine bodyPost_ret (v:=.tuple #[.agg #[.slice none 0 0,.slice none 0 0],.int .i64 10]) (by simp [results,Tryz.results8,go_sem,k0,k1]) rfl (show K0 T N l w _ _ from⟨ae nH _,.inr ⟨Jn.out,rfl⟩⟩)
theorem E0 {v:List UInt8} {w:World} {e:Ending} {w':World} (h:uW v w e w'):e=.returned (.string ⟨v.toArray⟩)∧w.grownBy w' none:=by
 obtain⟨⟨r,rfl,hr⟩,hg⟩:=h
 refine⟨?_,hg⟩
 subst hr
 simp
theorem CM {F:Nat→Prop} {w:World} {pd:Option Addr} {rows:List (List Value)} {ds:List Dx} (hg:GAt 15 w pd rows) (i7:eW F w ds rows) {d:Dx} (hk:ds[0]? = some d):
  ∃(o9 p9:Int) (a9 b9:ByteArray) (s9 y9:Bool) (z9 TU:Option Addr) (n9 c9 SY TF:Nat) (g off:Nat),pd=some ⟨g,off,none⟩∧g<w.heap.size∧EAt F w d.body [.int .i64 o9,.string a9,.string b9,.bool s9,.slice z9 n9 c9,.bool y9,.slice TU SY TF,.int .i64 p9]∧
   w.cell? ⟨g,off+5,none⟩=some (.int .i64 o9)∧w.cell? ⟨g,off+5+1,none⟩=some (.string a9)∧w.cell? ⟨g,off+5+2,none⟩=some (.string b9)∧w.cell? ⟨g,off+5+3,none⟩=some (.bool s9)∧w.cell? ⟨g,off+5+4,none⟩=some (.slice z9 n9 c9)∧w.cell? ⟨g,off+5+5,none⟩=some (.bool y9)∧w.cell? ⟨g,off+5+6,none⟩=some (.slice TU SY TF)∧w.cell? ⟨g,off+5+7,none⟩=some (.int .i64 p9):=by
 obtain⟨qx,M0,hD⟩:=KZ i7 hk
 obtain⟨g,off,rfl,gc,hc⟩:=hg.resolve_left (fun e=>by rw [e] at M0;simp at M0)
 obtain⟨pp,np,cp,iL,pc,nc,cc,qb,rfl,h2,h3,-⟩:=hD
 obtain⟨o9,p9,a9,b9,s9,y9,z9,TU,n9,c9,SY,TF,rfl⟩:=h3.form
 have hc:=hc 0 _ M0
 simp only [Nat.zero_mul,Nat.add_zero] at hc
 exact⟨o9,p9,a9,b9,s9,y9,z9,TU,n9,c9,SY,TF,g,off,rfl,gc,h3,hc 5 _ rfl,hc 6 _ rfl,hc 7 _ rfl,hc 8 _ rfl,hc 9 _ rfl,hc 10 _ rfl,hc 11 _ rfl,hc 12 _ rfl⟩
theorem NO {x:Sx} (h:bf false x=true) (hs:bw x≤30) (hb:tbS x≤10000∧wgS x≤500):
  (dH (jy++(txS x++[59])) 200 false).2.1=0∧(∃d,(tw (jy++(txS x++[59])) 200).defs = [d]∧lU d.body=lU (toE x)∧lA d.body∧kw d.body≤90)∧lA (toE x)∧kw (toE x)≤90∧(lU (toE x)).length≤10000:=by
 have hF:=Us false _ x hs h
 have YI:(txS x).length≤10000:=Nat.le_trans (DU x) hb.1
 obtain⟨r1,d,hd,r2⟩:=Qs hF (by omega) (by omega)
 have e1:=TS x
 have k1:=Ub h (by omega)
 have k2:=TH x
 have k3:=S1 x
 refine⟨r1,⟨d,hd,?_,?_,?_⟩,?_,?_,?_⟩
 ·rw [←yh,r2,←e1,yh]
 ·rw [←DH,r2];exact k1
 ·rw [←DJ,r2];omega
 ·rw [←DH,e1];exact k1
 ·rw [←DJ,e1];omega
 ·rw [←yh,e1];omega
def QB (s:ByteArray):ByteArray:=⟨#[102,117,110,32,102,40,41,58,32,105,110,116,32,61,32]⟩++s++⟨#[59]⟩
theorem GA (s:ByteArray):(QB s).data.toList=jy++(s.data.toList++[59]):=by
 unfold QB jy
 simp
theorem IY (l:List Cl) (pt:Option Addr) (ct:Nat) (w:World) (hT:GAt 6 w pt (l.map oR)) (hk:∀c∈l,-9223372036854775808≤c.kids∧c.kids<9223372036854775808) (cg:cM w) (i7:fy w) (hlw:fW w):
  Calls Tryz.prog 3 #[.slice pt l.length ct] w (aR (.bool true) w):=by
 have HAN:=zh (Hf w cg i7 hlw)
 have HBO:=zh (fun W (h:w.grownBy W none)=>Uq l pt ct W (hT.kept h) hk)
 have wZ:=zh cg
 have ip:=zh i7
 have HLW:Hid (∀W,w.grownBy W none→fW W):=zh (fun W h j t hj=>h.cell (hlw j t hj) (by simp))
 obtain⟨m,hm⟩:∃m,l.length=m:=⟨_,rfl⟩
 rw [hm] at HBO ⊢
 clear hT hk cg i7 hlw hm
 go_enter Tryz.func3,Tryz.ntmps3
 go_wp2_with fail
 refine HAN.out.mono ?_
 rintro e w1 ⟨rfl,bI⟩
 have cZ:=zh bI
 clear bI
 go_wp2_with fail
 refine(HBO.out w1 cZ.out).mono ?_
 rintro e w2 ⟨bT,hbo⟩
 have cz:=zh (aa cZ.out bT)
 clear bT HBO HAN
 cases hb:eY l with
 | none=>
   rw [hb] at hbo
   subst hbo
   clear hb
   unfold z8 z7
   go_wp2_with fail
   go_ret
   exact⟨rfl,aa cz.out gby⟩
 | some x=>
   rw [hb] at hbo
   obtain⟨q,r,rfl,hx,hr⟩:=hbo
   replace hx:=SAt.mono (fun k hk=>hk.2) hx
   have db:=wL hb
   have dp:=BD hb
   have vo:=Ic hb
   have SL:=Ng hb
   have YI:(txS x).length≤10000:=Nat.le_trans (DU x) vo.1
   have yQ:=zh (fun W (h:w2.grownBy W none)=>Mg _ x q W (wZ.out.kept (aa cz.out h)) (HLW.out W (aa cz.out h)) (hx.kept h) (fun k hk=>zn hk h.size) (by omega) dp (by omega) (by omega))
   have PC:Hid (bf false x=true→∀W,w2.grownBy W none→Calls Tryz.prog 9 #[.agg q.toArray] W (uW (lU (toE x)) W)):=zh (fun hr W h=>by
    obtain⟨-,-,b1,b2,b3⟩:=NO hr db vo
    exact EO _ _ q W ((Lu (abf hr SL) hx).kept h) b1 (by omega) (by omega))
   have CE:=zh (fun hr=>NO (x:=x) hr db vo)
   have CS:Hid ((txS x).length≤10000):=zh YI
   unfold lW at yQ
   obtain⟨T,YN⟩:∃T,txS x=T:=⟨_,rfl⟩
   obtain⟨D,hDe⟩:∃D,lU (toE x)=D:=⟨_,rfl⟩
   obtain⟨ra,hra⟩:∃b,bf false x=b:=⟨_,rfl⟩
   rw [YN,hra] at yQ
   rw [hra,hDe] at PC
   rw [hra,YN,hDe] at CE
   rw [YN] at CS
   clear db dp vo SL YI YN hDe hra hb
   cases x with
   | mk op nm md nu ys ks ps=>
     simp only [SAt] at hx
     simp only [RSt] at hr
     obtain⟨s1,zj,zb,yI,yq,yy,S4,rfl,-⟩:=hx
     obtain⟨SP,UZ,aa9,rfl,-⟩:=hr
     unfold aw at *
     generalize (⟨nm.toArray⟩:ByteArray)=y1 at *
     generalize (⟨md.toArray⟩:ByteArray)=z1 at *
     generalize (⟨(Zd.txtL nu).toArray⟩:ByteArray)=u1 at *
     generalize ks.length=kl1 at *
     have lF:=World.grownBy_alloc w2 (.cells #[.int .i64 op,.string y1,.string z1,.bool s1,.slice zj zb yI,.bool ys,.slice yq kl1 yy,.int .i64 ps] 30) none
     have vl:=heap_alloc_new w2 (.cells #[.int .i64 op,.string y1,.string z1,.bool s1,.slice zj zb yI,.bool ys,.slice yq kl1 yy,.int .i64 ps] 30)
     have oZ:=World.grownBy_alloc (w2.alloc (.cells #[.int .i64 op,.string y1,.string z1,.bool s1,.slice zj zb yI,.bool ys,.slice yq kl1 yy,.int .i64 ps] 30)) (.cells #[.int .i64 op,.string y1,.string z1,.string u1,.bool ys,.slice SP kl1 UZ,.int .i64 ps] 33) none
     have vl:=bx oZ vl
     have hg:=aa lF oZ
     go_upto_region 4 with fail
     generalize ((w2.alloc (.cells #[.int .i64 op,.string y1,.string z1,.bool s1,.slice zj zb yI,.bool ys,.slice yq kl1 yy,.int .i64 ps] 30)).alloc (.cells #[.int .i64 op,.string y1,.string z1,.string u1,.bool ys,.slice SP kl1 UZ,.int .i64 ps] 33))=W3 at *
     obtain⟨b,hb⟩:∃b,w2.heap.size=b:=⟨_,rfl⟩
     rw [hb] at vl ⊢
     have nK:=zh vl;have eg:=zh hg
     clear lF oZ vl hg hb
     obtain⟨c0,c1,c2,c3,c4,c5,c6,c7⟩:=bm nK.out
     have mV:b<W3.heap.size:=hlt nK.out
     go_wp2_with fail
     refine(yQ.out W3 eg.out).mono ?_
     rintro e w4 ⟨rfl,nY⟩
     have lw:=zh (aa eg.out nY)
     have aa4:=zh (bx nY nK.out)
     clear nY c0 c1 c2 c3 c4 c5 c6 c7 mV yQ
     cases ra
     focus
      simp only [Bool.false_eq_true,if_false]
      go_wp2_with fail
      go_ret
      exact⟨rfl,aa cz.out lw.out⟩
     simp only [if_true]
     have uu:=CE.out rfl
     obtain⟨sv,hsv⟩:∃s:ByteArray,(⟨T.toArray⟩:ByteArray)=s:=⟨_,rfl⟩
     have xw:sv.data.toList=T:=by rw [←hsv]
     have db:sv.size≤10000:=by rw [←aM,xw];exact CS.out
     obtain⟨k1,⟨dd,k2,k3,k4,k5⟩,-,-,k12⟩:=uu
     have lL:=GA sv
     obtain⟨y,hy⟩:∃y,QB sv=y:=⟨_,rfl⟩
     have Wm:Hid (QB sv=y):=zh hy
     rw [hy,xw] at lL
     obtain⟨lt,hlt⟩:∃l,jy++(T++[59])=l:=⟨_,rfl⟩
     have SR:lt.length≤10016:=by rw [←hlt];have:=CS.out;simp [jy];omega
     rw [hlt] at lL k1 k2
     have jL:y.size≤10016:=by rw [←aM,lL];exact SR
     have HP:=zh (fun W (h:w.grownBy W none)=>Fo y 200 W (by omega) (wZ.out.kept h))
     rw [lL] at HP
     have hR:=oa (l:=lt) (by omega) k1
     have abc:=lg hR.lex
     have eO:=La (l:=lt) (D:=200) (f:=false) (by omega) k1
     have Yb:=zh (fun K pt pn ct cn (AA:(aD lt 200 false).length≤2*(ag lt).1.length)=>XB ((ag lt).1.map toI) (aD lt 200 false) K y (by omega) (by rw [tt,ku hR.lex,lL]) (by rw [List.length_map];omega) (by omega) (lZ (by omega)) pt pn ct cn)
     rw [List.length_map,lL] at Yb
     have WJ:Hid (∀K pt pn ct cn,(aD lt 200 false).length≤2*(ag lt).1.length→∀W,cM W→fy W→eQ W pt ((ag lt).1.map toI)→aE W pn (aD lt 200 false) K→Calls Tryz.prog 8 #[.agg #[.slice pt (ag lt).1.length ct,.slice pn (aD lt 200 false).length cn]] W (fun e w'=>W.grownBy w' none∧∃q,e=.returned (.tuple #[.agg q.toArray,.int .i64 0])∧pI (fun k=>W.heap.size≤k) w' (tw lt 200) q)):=zh (fun K pt pn ct cn AA W h1 h2 h3 h4=>(Yb.out K pt pn ct cn AA W h1 h2 h3 h4).mono (by
      rintro e w' ⟨hg,he⟩
      rcases he with ⟨-,q,Jx,hq⟩ | ⟨hb,-⟩
      ·exact⟨hg,q,Jx,hq⟩
      ·exact absurd eO hb))
     obtain⟨P,hP⟩:∃P,tw lt 200=P:=⟨_,rfl⟩
     rw [hP] at WJ k2
     have HPD:=zh k2
     have HK:=zh (And.intro k3 (And.intro k4 (And.intro k5 k12)))
     have kz1:¬ 9223372036854775807<15+sv.size:=by omega
     have kz2:¬ 9223372036854775807<15+sv.size+1:=by omega
     rw [hsv]
     clear hsv xw k2 k3 k4 k5 k12 CE CS hy lL hlt SR jL hR abc eO Yb hP
     go_wp2_with fail
     clear kz1 kz2 db
     have hY:((⟨#[102,117,110,32,102,40,41,58,32,105,110,116,32,61,32]⟩:ByteArray)++sv++⟨#[59]⟩:ByteArray)=y:=Wm.out
     rw [hY]
     obtain⟨y0,hy0⟩:∃y0,((⟨#[102,117,110,32,102,40,41,58,32,105,110,116,32,61,32]⟩:ByteArray)++sv:ByteArray)=y0:=⟨_,rfl⟩
     try rw [hy0]
     clear hY hy0 Wm
     refine(HP.out w4 (aa cz.out lw.out)).mono ?_
     rintro e w5 ⟨jI,he⟩
     rw [if_neg (by rw [k1];decide)] at he
     obtain⟨pt9,ct9,pn9,cn9,K9,rfl,eU,-,kF,-,-,-,hN⟩:=he
     have qY:=zh (oD eU);have zz:=zh kF;have Z2:=zh hN
     have iD:=zh (aa lw.out jI)
     have aax:=zh (bx jI aa4.out)
     have HOF:=zh (WJ.out K9 pt9 pn9 ct9 cn9 Z2.out)
     obtain⟨tm,htm⟩:∃m,(ag lt).1.length=m:=⟨_,rfl⟩
     obtain⟨tM,htM⟩:∃M,(aD lt 200 false).length=M:=⟨_,rfl⟩
     rw [htm,htM] at HOF ⊢
     obtain⟨W,b0,b1,hW,e0,e1,ge,ik,jC,zR⟩:=two w5 (.cells #[.slice pt9 tm ct9,.slice pn9 tM cn9] 42) (.cells #[.int .i64 0,.int .i64 0] 44)
     have fw:b1=b0+1:=by omega
     subst fw
     have Sw:=zh ge;have lI:=zh ik;have da:=zh jC
     have aaY:=zh (bx jC aax.out)
     clear htm htM hN eU kF jI k1 HP WJ ge ik jC nK aa4
     go_upto_region 10 with fail
     try rw [←hW]
     try rw [e1]
     try rw [e0]
     clear e0 e1 hW
     obtain⟨f0,f1⟩:=(show W.cell? ⟨b0+1,0,none⟩=some (.int .i64 0)∧W.cell? ⟨b0+1,1,none⟩=some (.int .i64 0) from⟨by rw [cell_of_row W (b0+1) 0 _ _ (0,0) lI.out];rfl,by rw [cell_of_row W (b0+1) 1 _ _ (0,0) lI.out];rfl⟩)
     obtain⟨t0,t1⟩:=(show W.cell? ⟨b0,0,none⟩=some (.slice pt9 tm ct9)∧W.cell? ⟨b0,1,none⟩=some (.slice pn9 tM cn9) from⟨by rw [cell_of_row W b0 0 _ _ (0,0) Sw.out];rfl,by rw [cell_of_row W b0 1 _ _ (0,0) Sw.out];rfl⟩)
     have ZR:b0<W.heap.size:=hlt Sw.out
     have abt:b0+1<W.heap.size:=hlt lI.out
     go_wp2_with fail
     refine(HOF.out W (wZ.out.kept (aa cz.out (aa iD.out da.out))) (ip.out.kept (aa cz.out (aa iD.out da.out))) (qY.out.kept da.out) (zz.out.kept da.out)).mono ?_
     rintro e w6 ⟨dk,qp,rfl,hqp⟩
     have dQ:=zh (aa iD.out (aa da.out dk))
     have abF:=zh (bx dk aaY.out)
     obtain⟨pi,ci,pd,cd,Cb,rfl,-,OH,Yr,-,-⟩:=hqp
     rw [HPD.out] at Yr
     obtain⟨ni,hni⟩:∃ni,P.imps.length=ni:=⟨_,rfl⟩
     have qC:P.defs.length=1:=by rw [HPD.out];rfl
     rw [hni,qC]
     obtain⟨o9,p9,a9,b9,s9,y9,z9,TU,n9,c9,SY,TF,g,off,rfl,gc,hE,q0,q1,q2,q3,q4,q5,q6,q7⟩:=CM OH Yr (d:=dd) rfl
     obtain⟨g3,g4,g5,DW⟩:=HK.out
     have HDY:=zh (fun W (h:w6.grownBy W none)=>EO _ dd.body _ W (hE.kept h) g4 (by omega) (by rw [g3];omega))
     rw [g3] at HDY
     have HQ:=zh (And.intro q0 (And.intro q1 (And.intro q2 (And.intro q3 (And.intro q4 (And.intro q5 (And.intro q6 q7)))))))
     have FW:=zh gc
     have hgY:=World.grownBy_alloc w6 (.cells #[.slice pi ni ci,.slice (some ⟨g,off,none⟩) 1 cd] 50) none
     have hbY:=heap_alloc_new w6 (.cells #[.slice pi ni ci,.slice (some ⟨g,off,none⟩) 1 cd] 50)
     clear dk OH Yr hE q0 q1 q2 q3 q4 q5 q6 q7 gc hni qC g3 g4 g5 DW HK HOF qY zz da Sw lI f0 f1 t0 t1 ZR abt aax aaY HPD Z2
     go_upto_region 13 with fail
     generalize (w6.alloc (.cells #[.slice pi ni ci,.slice (some ⟨g,off,none⟩) 1 cd] 50))=w8 at *
     obtain⟨O0,kJ⟩:∃b,w6.heap.size=b:=⟨_,rfl⟩
     rw [kJ] at hbY ⊢
     have jl:=zh (aa dQ.out hgY)
     have aav:=zh hgY
     have Gy:=zh (bx hgY abF.out)
     have Ja:=zh hbY
     obtain⟨dv,Y1⟩:∃s:ByteArray,(⟨D.toArray⟩:ByteArray)=s:=⟨_,rfl⟩
     have afq:Hid (∀W,w8.grownBy W none→Calls Tryz.prog 9 #[.agg #[.int .i64 op,.string y1,.string z1,.bool s1,.slice zj zb yI,.bool ys,.slice yq kl1 yy,.int .i64 ps]] W (fun e w'=>e=.returned (.string dv)∧W.grownBy w' none)):=zh (fun W h=>(PC.out (by simp) W (aa jl.out h)).mono (fun e w' hh=>by have:=E0 hh;rw [Y1] at this;exact this))
     have afe:Hid (∀W,w8.grownBy W none→Calls Tryz.prog 9 #[.agg #[.int .i64 o9,.string a9,.string b9,.bool s9,.slice z9 n9 c9,.bool y9,.slice TU SY TF,.int .i64 p9]] W (fun e w'=>e=.returned (.string dv)∧W.grownBy w' none)):=zh (fun W h=>(HDY.out W (aa aav.out h)).mono (fun e w' hh=>by have:=E0 hh;rw [Y1] at this;exact this))
     have HQ8:Hid (∀W,w8.grownBy W none→W.cell? ⟨g,off+5,none⟩=some (.int .i64 o9)∧W.cell? ⟨g,off+5+1,none⟩=some (.string a9)∧W.cell? ⟨g,off+5+2,none⟩=some (.string b9)∧W.cell? ⟨g,off+5+3,none⟩=some (.bool s9)∧W.cell? ⟨g,off+5+4,none⟩=some (.slice z9 n9 c9)∧W.cell? ⟨g,off+5+5,none⟩=some (.bool y9)∧W.cell? ⟨g,off+5+6,none⟩=some (.slice TU SY TF)∧W.cell? ⟨g,off+5+7,none⟩=some (.int .i64 p9)∧g<W.heap.size):=zh (fun W h=>by
      obtain⟨r0,r1,r2,r3,r4,r5,r6,r7⟩:=HQ.out
      have hg:=aa aav.out h
      exact⟨hg.cell r0 (by simp),hg.cell r1 (by simp),hg.cell r2 (by simp),hg.cell r3 (by simp),hg.cell r4 (by simp),hg.cell r5 (by simp),hg.cell r6 (by simp),hg.cell r7 (by simp),zn FW.out hg.size⟩)
     clear hgY hbY kJ PC HDY abF Y1 HQ FW
     obtain⟨c0,c1,c2,c3,c4,c5,c6,c7⟩:=bm Gy.out
     have p1:w8.cell? ⟨O0,1,none⟩=some (.slice (some ⟨g,off,none⟩) 1 cd):=by rw [cell_of_row w8 O0 1 _ _ (0,0) Ja.out];rfl
     obtain⟨d0,d1,d2,d3,d4,d5,d6,d7,rP⟩:=HQ8.out w8 (ad _ _)
     have mV:b<w8.heap.size:=hlt Gy.out
     have abS:O0<w8.heap.size:=hlt Ja.out
     have Bg:Hid (w8.grownBy w8 none):=zh (ad _ _)
     go_region_held3 (fun w'=>w'.cell? ⟨b,0,none⟩=some (.int .i64 op)∧w'.cell? ⟨b,1,none⟩=some (.string y1)∧w'.cell? ⟨b,2,none⟩=some (.string z1)∧w'.cell? ⟨b,3,none⟩=some (.bool s1)∧w'.cell? ⟨b,4,none⟩=some (.slice zj zb yI)∧w'.cell? ⟨b,5,none⟩=some (.bool ys)∧w'.cell? ⟨b,6,none⟩=some (.slice yq kl1 yy)∧w'.cell? ⟨b,7,none⟩=some (.int .i64 ps)∧w'.cell? ⟨g,off+5,none⟩=some (.int .i64 o9)∧w'.cell? ⟨g,off+5+1,none⟩=some (.string a9)∧w'.cell? ⟨g,off+5+2,none⟩=some (.string b9)∧w'.cell? ⟨g,off+5+3,none⟩=some (.bool s9)∧w'.cell? ⟨g,off+5+4,none⟩=some (.slice z9 n9 c9)∧w'.cell? ⟨g,off+5+5,none⟩=some (.bool y9)∧w'.cell? ⟨g,off+5+6,none⟩=some (.slice TU SY TF)∧w'.cell? ⟨g,off+5+7,none⟩=some (.int .i64 p9)∧w'.cell? ⟨O0,1,none⟩=some (.slice (some ⟨g,off,none⟩) 1 cd))
      (first | with_reducible exact⟨c0,c1,c2,c3,c4,c5,c6,c7,d0,d1,d2,d3,d4,d5,d6,d7,p1⟩ | go_keep)
      (first | (go_at_call 9;refine(afq.out _ (aa Bg.out gby)).mono ?_;rintro e wd ⟨rfl,eO⟩;have Bg:=zh (aa (aa Bg.out gby) eO);obtain⟨c0,c1,c2,c3,c4,c5,c6,c7⟩:=bm (bx Bg.out Gy.out);obtain⟨d0,d1,d2,d3,d4,d5,d6,d7,rP⟩:=HQ8.out _ Bg.out;have p1:wd.cell? ⟨O0,1,none⟩=some (.slice (some ⟨g,off,none⟩) 1 cd):=(cell_of_row wd O0 1 _ _ (0,0) (bx Bg.out Ja.out)).trans rfl;have mV:b<wd.heap.size:=hlt (bx Bg.out Gy.out);have abS:O0<wd.heap.size:=hlt (bx Bg.out Ja.out);clear eO) | (go_at_call 9;refine(afe.out _ (aa Bg.out gby)).mono ?_;rintro e wd ⟨rfl,eO⟩;have Bg:=zh (aa (aa Bg.out gby) eO);obtain⟨c0,c1,c2,c3,c4,c5,c6,c7⟩:=bm (bx Bg.out Gy.out);obtain⟨d0,d1,d2,d3,d4,d5,d6,d7,rP⟩:=HQ8.out _ Bg.out;have p1:wd.cell? ⟨O0,1,none⟩=some (.slice (some ⟨g,off,none⟩) 1 cd):=(cell_of_row wd O0 1 _ _ (0,0) (bx Bg.out Ja.out)).trans rfl;have mV:b<wd.heap.size:=hlt (bx Bg.out Gy.out);have abS:O0<wd.heap.size:=hlt (bx Bg.out Ja.out);clear eO) | fail)
     all_goals
      go_wp2_with fail
      go_ret
      exact⟨rfl,aa cz.out (aa jl.out (aa Bg.out gby))⟩
end Go.Proofs.YtjbgnopnehgbaaaGreatDoor
