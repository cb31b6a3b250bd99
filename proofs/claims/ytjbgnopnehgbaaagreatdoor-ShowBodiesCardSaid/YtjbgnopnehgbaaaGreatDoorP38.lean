/- Lemmas. -/
import Derived.Test.YtjbgnopnehgbaaaGreatDoorP23
import Derived.Test.YtjbgnopnehgbaaaGreatDoorP36
set_option linter.unusedVariables false
set_option linter.unusedSimpArgs false
namespace Go.Proofs.YtjbgnopnehgbaaaGreatDoor
open Go.RowKit
structure AN (l:List UInt8) (D:Int) (f:Bool):Prop where
 d1:1≤D
 d2:D≤200
 lex:(ag l).2.1=0
 ok:(aH (ag l).1 D.toNat f).2.e=0
 same:aH (ag l).1 200 f=aH (ag l).1 D.toNat f
 nodes:aD l 200 f=aD l D f
 ans:(dH l 200 f).2.1=0
theorem oa {l:List UInt8} {D:Int} {f:Bool} (hl:l.length≤30000) (h:(dH l D f).2.1=0):AN l D f:=by
 have hr:¬(D<1∨200<D):=fun e=>by
  unfold dH at h;rw [if_pos e] at h;cases h
 have hx:(ag l).2.1=0:=by
  rcases Nat.eq_zero_or_pos (ag l).2.1 with h9 | h9
  ·exact h9
  ·rw [y8 hr (by omega) (by omega)] at h
   have h:(ag l).2.1=0:=h
   omega
 have ht:(aH (ag l).1 D.toNat f).2.e=0:=by
  have h9:=px (f:=f) hr (by omega) hx
  rcases Nat.eq_zero_or_pos (aH (ag l).1 D.toNat f).2.e with h8 | h8
  ·exact h8
  ·rw [if_neg (by omega)] at h9
   rw [h9] at h
   have h:(aH (ag l).1 D.toNat f).2.e=0:=h
   omega
 have hs:aH (ag l).1 200 f=aH (ag l).1 D.toNat f:=by
  rcases yn hx (D:=D.toNat) (D':=200) (by omega) (by omega) f with e | ⟨e,-⟩
  ·exact e.symm
  ·rw [ht] at e;cases e
 refine⟨by omega,by omega,hx,ht,hs,?_,?_⟩
 ·unfold aD
  rw [show((200:Int)).toNat=200 from rfl,hs]
 ·have h9:=px (D:=200) (f:=f) (by omega) (by omega) hx
  rw [show((200:Int)).toNat=200 from rfl,hs,if_pos ht] at h9
  rw [h9]
theorem Jh {l:List UInt8} {D:Int} (h:AN l D true):∃t i,(aH (ag l).1 D.toNat true).1 = [t,.lf i]∧isN t=true∧WE (ag l).1 t:=by
 have h0:=h.ok
 unfold aH at h0 ⊢
 rw [if_pos rfl] at h0 ⊢
 obtain⟨k1,-,k3⟩:=nS (ag l).1 (k:=5) (s:=((nxT (ag l).1 D.toNat D.toNat).expr (setIn true az)).2) h0
 have hw:=Xc (ag l).1 (EW l) D.toNat D.toNat (Nat.le_refl _)
 obtain⟨t,ht,h1,h2⟩:=hw.expr (setIn true az) k3
 refine⟨t,((nxT (ag l).1 D.toNat D.toNat).expr (setIn true az)).2.i,?_,h1,h2⟩
 show((nxT (ag l).1 D.toNat D.toNat).expr (setIn true az)).1++(aA (ag l).1 5 ((nxT (ag l).1 D.toNat D.toNat).expr (setIn true az)).2).1=_
 rw [ht,k1];rfl
theorem lZ {l:List UInt8} {D:Int} {f:Bool} (hN:(aD l D f).length≤150000):∀(i:Nat) (x:Nd),(aD l D f)[i]? = some x→x.kids.length≤150000:=fun i x hx=>by
 have h1:=qr (.nd (ev f) (aH (ag l).1 D.toNat f).1) 0 x (List.mem_of_getElem? hx)
 have h2:(aD l D f).length=(post 0 (.nd (ev f) (aH (ag l).1 D.toNat f).1)).length:=rfl
 omega
def nz (l:List UInt8) (D:Int):Ex:=(bR (ag l).1 (aH (ag l).1 D.toNat true).1).headD MV
def Cr (x:Ex) (w:World) (e:Ending) (w':World):Prop:=w.grownBy w' none∧∃q,e=.returned (.tuple #[.agg q.toArray,.int .i64 0])∧EAt (fun k=>w.heap.size≤k) w' x q
theorem G0 {l:List UInt8} {D:Int} (h:AN l D true):∃(t:Tr) (ks:List Int) (k0:Nat),(aD l D true)[(aD l D true).length - 1]? = some ⟨18,-1,ks⟩∧ks[0]? = some (k0:Int)∧rH (ag l).1 (aD l D true) (k0:Int) t∧axT (ag l).1 t=nz l D∧szR t≤(aD l D true).length:=by
 obtain⟨t,i,ht,h1,h2⟩:=Jh h
 have hr:=vC.root (.nd 18 (aH (ag l).1 D.toNat true).1)
 have OT:aD l D true=post 0 (.nd 18 (aH (ag l).1 D.toNat true).1):=rfl
 obtain⟨n,ks,hn,hx,jX⟩:=hr.nd
 have bB:(aD l D true).length=szR (.nd 18 (aH (ag l).1 D.toNat true).1):=by rw [OT,mA]
 have j5:n=(aD l D true).length - 1:=by omega
 rw [←OT] at hx jX
 rw [j5] at hx
 obtain⟨k0,Fr,eU,-⟩:=jX.2 0 t (by rw [ht];rfl)
 have lJ:=FH (ag l).1 D.toNat true
 have lH:=rt h.lex D.toNat true h.ok
 rw [KO,ht] at lJ
 rw [ht] at lH
 simp only [ix] at lJ
 refine⟨t,ks,k0,hx,Fr,⟨h1,h2,lJ.1,fun j hj=>?_,eU⟩,?_,?_⟩
 ·have:j∈eo [t,.lf i]:=by simp only [eo,List.mem_append];exact .inl hj
  rw [lH] at this
  exact List.mem_range.1 this
 ·unfold nz
  rw [ht]
  rw [bR,if_pos h1];rfl
 ·rw [bB,ht]
  simp only [szR,dI];omega
theorem Lf (w:World) (A:Obj):∃(W:World) (b0:Nat),W=w.alloc A∧w.heap.size=b0∧W.heap[b0]? = some A∧w.grownBy W none:=
 ⟨_,_,rfl,rfl,heap_alloc_new w A,World.grownBy_alloc w A none⟩
def fU (T:List iN) (N:List Nd) (l:List UInt8) (f:Bool):Prop:=(dH l 200 f).2.1=0∧T=(ag l).1.map toI∧N=aD l 200 f
def ml (T:List iN) (N:List Nd) (l:List UInt8) (f:Bool) (w:World) (e:Ending) (w':World):Prop:=
 w.grownBy w' none∧((fU T N l f∧∃pt ct pn cn K,e=.returned (.tuple #[.agg #[.slice pt (ag l).1.length ct,.slice pn (aD l 200 f).length cn],.int .i64 0])∧TAt w' pt (ag l).1∧aE w' pn (aD l 200 f) K∧(aD l 200 f).length≤2*(ag l).1.length∧yf (aD l 200 f) K (fun k=>w.heap.size≤k))∨
  (¬fU T N l f∧e=.returned (.tuple #[.agg #[.slice none 0 0,.slice none 0 0],.int .i64 10])))
theorem oD {w:World} {p:Option Addr} {T:List Tok} (h:TAt w p T):eQ w p (T.map toI):=by
 rcases h with h | ⟨g,off,rfl,hl,hc⟩
 ·subst h;exact .inl rfl
 ·refine .inr ⟨g,off,rfl,hl,fun j q hj i v hi=>?_⟩
  unfold EJ at hj
  rw [List.getElem?_map,List.getElem?_map] at hj
  cases ht:T[j]? with
  | none=>rw [ht] at hj;cases hj
  | some t=>
    rw [ht] at hj
    injection hj with hj
    subst hj
    obtain⟨h0,h1,h2,h3⟩:=hc j t ht
    match i,hi with
    | 0,hi=>injection hi with hi;subst hi;exact h0
    | 1,hi=>injection hi with hi;subst hi;exact h1
    | 2,hi=>injection hi with hi;subst hi;exact h2
    | 3,hi=>injection hi with hi;subst hi;exact h3
    | k+4,hi=>simp [Nr,toI] at hi
set_option maxHeartbeats 16000000
set_option maxRecDepth 100000
theorem vF (T:List iN) (N:List Nd) (K:Kf) (s:ByteArray) (hs:s.size≤25000) (hw:cu T=s.data.toList) (hT:T.length≤100000) (hN:N.length≤150000) (hk:∀(i:Nat) (x:Nd),N[i]? = some x→x.kids.length≤150000) (pt pn:Option Addr) (ct cn:Nat) (w:World) (cg:cM w) (ht:eQ w pt T) (hn:aE w pn N K):
  Calls Tryz.prog 19 #[.agg #[.slice pt T.length ct,.slice pn N.length cn],.func (.func 26) #[] #[]] w (ml T N s.data.toList true w):=by
 have xw:s.data.toList.length=s.size:=aM s
 have HP:=zh (fun W h=>xj s 200 W hs h)
 have CC:=zh (fun (W:World) h=>F2 T pt pn ct N.length cn W (by omega) (by rw [hw];omega) h)
 rw [hw] at CC
 have YB:=zh hw
 have CS:Hid (s.data.toList=s.data.toList):=zh rfl
 obtain⟨l,hl⟩:∃l,s.data.toList=l:=⟨_,rfl⟩
 rw [hl] at HP CC xw ⊢
 have ip:=zh hl
 have HT:=zh ht;have HN:=zh hn;have gf:=zh cg;have OY:=zh hT;have VC:=zh hN;have HK:=zh hk;have Jl:=zh xw;have Cv:=zh hs
 clear ht hn cg hN hs xw hl hw hk hT
 obtain⟨m,hm⟩:∃m,T.length=m:=⟨_,rfl⟩
 obtain⟨M,hM⟩:∃M,N.length=M:=⟨_,rfl⟩
 have Hm:=zh hm;have HM:=zh hM
 rw [hm,hM] at CC ⊢
 clear hm hM
 go_enter Tryz.func19,Tryz.ntmps19
 go_wp2_with fail
 obtain⟨W,b0,b1,hW,e0,e1,ge,ik,jC,zR⟩:=two w (.cells #[.slice pt m ct,.slice pn M cn] 42) (.cells #[.slice none 0 0,.slice none 0 0] 73)
 have f9:=zh ge;have iV:=zh ik;have da:=zh jC;have kD:=zh e0
 clear ge ik jC
 try rw [←hW]
 try rw [e1]
 try rw [e0]
 clear e0 e1 hW
 refine(CC.out _ (HT.out.kept da.out)).mono ?_
 rintro e w1 ⟨⟨y,rfl,hy⟩,bI⟩
 have jL:y=s:=ByteArray.ext (Array.toList_inj.1 (hy.trans ip.out.symm))
 subst jL
 have cZ:=zh (aa da.out bI)
 have vq:=zh (bx bI f9.out);have kE:=zh (bx bI iV.out)
 clear bI hy CC
 go_wp2_with fail
 refine(HP.out _ (gf.out.kept cZ.out)).mono ?_
 rintro e w2 ⟨bT,he⟩
 by_cases bl:(dH l 200 true).2.1≠0
 ·rw [if_pos bl] at he
  subst he
  have lm:Hid (¬fU T N l true):=zh (fun h=>bl h.1)
  unfold fe
  obtain⟨E,hE⟩:∃E,(dH l 200 true).2.1=E:=⟨_,rfl⟩
  obtain⟨P,hP⟩:∃P,(dH l 200 true).2.2=P:=⟨_,rfl⟩
  rw [hE] at bl
  rw [hE,hP]
  have e1:((E:Int) != 0)=true:=bne_iff_ne.2 (by omega)
  have sl:(E != 0)=true:=bne_iff_ne.2 bl
  have e2:((E:Int) == 0)=false:=beq_eq_false_iff_ne.2 (by omega)
  have DB:(E == 0)=false:=beq_eq_false_iff_ne.2 bl
  have cz:=zh (aa cZ.out bT)
  have qs:=zh (bx bT kE.out)
  clear bT hE hP bl HP
  obtain⟨c0,c1,c2⟩:=ah qs.out
  have fw:b1<w2.heap.size:=hlt qs.out
  go_wp2_with fail
  have hf:Fr2 (ez b1) w2 ((w2.setCell ⟨b1,0,none⟩ (.slice none 0 0)).setCell ⟨b1,1,none⟩ (.slice none 0 0)):=((Fr2.refl _ _).setCell (bh b1) _).setCell (bh b1) _
  have nH:=Fr2.after cz.out hf (fun j hj=>by have e:j=b1:=hj;have:=kD.out;omega)
  have hc:=ab (i:=1) (u:=.slice none 0 0) (ab (i:=0) (u:=.slice none 0 0) qs.out)
  have sG:=bx (ae (ae (ad _ none) (.cells #[.slice none 0 0,.slice none 0 0] 42)) (.cells #[.int .i64 (E:Int),.int .i64 (P:Int)] 44)) (show((w2.setCell ⟨b1,0,none⟩ (.slice none 0 0)).setCell ⟨b1,1,none⟩ (.slice none 0 0)).heap[b1]? = some (Obj.cells #[.slice none 0 0,.slice none 0 0] 73) from hc)
  obtain⟨k0,k1,-⟩:=ah sG
  refine bodyPost_ret (v:=.tuple #[.agg #[.slice none 0 0,.slice none 0 0],.int .i64 10]) (by simp [results,Tryz.results19,go_sem,k0,k1]) rfl (show ml T N l true w _ _ from⟨ae (ae nH _) _,.inr ⟨lm.out,rfl⟩⟩)
 ·rw [if_neg bl] at he
  obtain⟨lD,lG,kI,lN,K',rfl,eU,-,kF,kM,dK,fI,AA⟩:=he
  have dp:(dH l 200 true).2.1=0:=by omega
  have hR:=oa (l:=l) (by have:=Jl.out;have:=Cv.out;omega) dp
  have bB:=lg hR.lex
  have vu:=zh dp;have Cw:=zh AA
  have hlb:(ag l).1.length≤30000:=by have:=Jl.out;have:=Cv.out;omega
  have xQ:=zh (fun (lD kI:Option Addr) (lG lN:Nat) (K':Kf) W h1 h2 h3 h4=>rI T ((ag l).1.map toI) N (aD l 200 true) K K' (by have:=OY.out;omega) (by rw [List.length_map];omega) VC.out (by omega) HK.out (lZ (by omega)) pt lD pn kI ct lG cn lN W h1 h2 h3 h4)
  rw [List.length_map] at xQ
  obtain⟨L,hL⟩:∃L,(ag l).1=L:=⟨_,rfl⟩
  obtain⟨Q,hQ⟩:∃Q,aD l 200 true=Q:=⟨_,rfl⟩
  have qE:Hid (fU T N l true↔T=L.map toI∧N=Q):=zh ⟨fun h=>by rw [←hL,←hQ];exact⟨h.2.1,h.2.2⟩,fun h=>⟨vu.out,by rw [hL];exact h.1,by rw [hQ];exact h.2⟩⟩
  have Oz:Hid (∀e w',w.grownBy w' none∧((fU T N l true∧∃pt ct pn cn K,e=.returned (.tuple #[.agg #[.slice pt L.length ct,.slice pn Q.length cn],.int .i64 0])∧TAt w' pt L∧aE w' pn Q K∧Q.length≤2*L.length∧yf Q K (fun k=>w.heap.size≤k))∨(¬fU T N l true∧e=.returned (.tuple #[.agg #[.slice none 0 0,.slice none 0 0],.int .i64 10])))→ml T N l true w e w'):=zh (fun e w' h=>by unfold ml;rw [hL,hQ];exact h)
  rw [hL] at xQ Cw eU kM ⊢
  rw [hQ] at xQ Cw kF dK fI ⊢
  have rV:=zh kM;have es:=zh dK;have jp:=zh fI
  have qY:=zh eU;have zz:=zh kF
  clear hR dp bl hL hQ bB hlb eU kF kM dK fI AA
  obtain⟨m',vG⟩:∃m',L.length=m':=⟨_,rfl⟩
  obtain⟨M',VT⟩:∃M',Q.length=M':=⟨_,rfl⟩
  have Hm':=zh vG;have Ej:=zh VT
  have vT:Hid (b1<w1.heap.size):=zh (hlt kE.out)
  rw [vG,VT] at xQ ⊢
  rw [Hm.out,HM.out] at xQ
  have cz:=zh (aa cZ.out bT)
  have Km:=zh (bx bT vq.out);have qs:=zh (bx bT kE.out)
  clear bT HP vq kE f9 iV vG VT
  obtain⟨a0,a1,a2⟩:=ah Km.out
  have jK:b0<w2.heap.size:=hlt Km.out
  go_wp2_with fail
  obtain⟨W3,b2,b3,JT,e2,e3,gS,JM,nh,h23⟩:=two w2 (.cells #[.slice lD m' lG,.slice kI M' lN] 42) (.cells #[.int .i64 0,.int .i64 0] 44)
  have fu:=zh gS;have wP:=zh JM;have sw:=zh nh
  have abr:b1<b2:=by have:=hlt qs.out;omega
  clear gS JM nh
  try rw [←JT]
  try rw [e3]
  try rw [e2]
  clear e2 e3 JT
  have eg:=zh (aa cz.out sw.out)
  refine(xQ.out lD kI lG lN K' _ (HT.out.kept eg.out) (oD (qY.out.kept sw.out)) (HN.out.kept eg.out) (zz.out.kept sw.out)).mono ?_
  rintro e w4 ⟨nY,b,rfl,hb⟩
  have fL:=zh hb
  have lw:=zh (aa eg.out nY)
  have mc:=aa sw.out nY
  have Xi:=zh (qY.out.kept mc);have Nt:=zh (zz.out.kept mc)
  have qD:=zh (bx mc qs.out)
  obtain⟨c0,c1,c2⟩:=ah (bx nY fu.out)
  obtain⟨d0,d1,d2⟩:=ah qD.out
  have age:b1<w4.heap.size:=hlt qD.out
  clear nY mc xQ hb
  cases b
  ·have lm:Hid (¬fU T N l true):=zh (fun h=>by have:=fL.out.2 (qE.out.1 h);cases this)
   go_wp2_with fail
   have hf:Fr2 (ez b1) w4 ((w4.setCell ⟨b1,0,none⟩ (.slice none 0 0)).setCell ⟨b1,1,none⟩ (.slice none 0 0)):=((Fr2.refl _ _).setCell (bh b1) _).setCell (bh b1) _
   have nH:=Fr2.after lw.out hf (fun j hj=>by have e:j=b1:=hj;have:=kD.out;omega)
   have hc:=ab (i:=1) (u:=.slice none 0 0) (ab (i:=0) (u:=.slice none 0 0) qD.out)
   obtain⟨k0,k1,-⟩:=ah (show((w4.setCell ⟨b1,0,none⟩ (.slice none 0 0)).setCell ⟨b1,1,none⟩ (.slice none 0 0)).heap[b1]? = some (Obj.cells #[.slice none 0 0,.slice none 0 0] 73 (0,0)) from hc)
   refine bodyPost_ret (v:=.tuple #[.agg #[.slice none 0 0,.slice none 0 0],.int .i64 10]) (by simp [results,Tryz.results19,go_sem,k0,k1]) rfl (Oz.out _ _ ⟨nH,.inr ⟨lm.out,rfl⟩⟩)
  ·go_wp2_with fail
   have hf:Fr2 (ez b1) w4 ((w4.setCell ⟨b1,0,none⟩ (.slice lD m' lG)).setCell ⟨b1,1,none⟩ (.slice kI M' lN)):=((Fr2.refl _ _).setCell (bh b1) _).setCell (bh b1) _
   have nH:=Fr2.after lw.out hf (fun j hj=>by have e:j=b1:=hj;have:=kD.out;omega)
   have hc:=ab (i:=1) (u:=.slice kI M' lN) (ab (i:=0) (u:=.slice lD m' lG) qD.out)
   obtain⟨k0,k1,-⟩:=ah (show((w4.setCell ⟨b1,0,none⟩ (.slice lD m' lG)).setCell ⟨b1,1,none⟩ (.slice kI M' lN)).heap[b1]? = some (Obj.cells #[.slice lD m' lG,.slice kI M' lN] 73 (0,0)) from hc)
   have UK:=Xi.out.keptF hf (fun h0 a ha e=>by have e:a.block=b1:=e;have h1:=rV.out h0 a ha;have h2:=vT.out;omega)
   have Ya:aE _ kI Q K':=⟨GAt.keptB Nt.out.1 hf (fun h0 a ha e=>by have e:a.block=b1:=e;have h1:=es.out (fun h=>h0 (by rw [h];rfl)) a ha;have h2:=vT.out;omega),fun i y hy=>(Nt.out.2 i y hy).keptF hf (fun h0 a ha e=>by have e:a.block=b1:=e;have h1:=jp.out i y hy (eB h0) a ha;have h2:=vT.out;omega)⟩
   refine bodyPost_ret (v:=.tuple #[.agg #[.slice lD m' lG,.slice kI M' lN],.int .i64 0]) (by simp [results,Tryz.results19,go_sem,k0,k1]) rfl (Oz.out _ _ ⟨nH,.inl ⟨qE.out.2 (fL.out.1 (by simp)),lD,lG,kI,lN,K',by rw [Hm'.out,Ej.out],UK,Ya,Cw.out,fun i y hy h0 a ha=>Nat.le_trans cZ.out.size (jp.out i y hy h0 a ha)⟩⟩)
theorem Dr {w2:World} {B gg j:Nat} {v a b c d e f g h:Value} (hv:w2.cell? ⟨gg,j,none⟩=some v) (bl:B≠gg):((((((((w2.setCell ⟨B,0,none⟩ a).setCell ⟨B,1,none⟩ b).setCell ⟨B,2,none⟩ c).setCell ⟨B,3,none⟩ d).setCell ⟨B,4,none⟩ e).setCell ⟨B,5,none⟩ f).setCell ⟨B,6,none⟩ g).setCell ⟨B,7,none⟩ h).cell? ⟨gg,j,none⟩=some v:=by
 rw [World.cell?_setCell_far _ _ _ _ bl,World.cell?_setCell_far _ _ _ _ bl,World.cell?_setCell_far _ _ _ _ bl,World.cell?_setCell_far _ _ _ _ bl,World.cell?_setCell_far _ _ _ _ bl,World.cell?_setCell_far _ _ _ _ bl,World.cell?_setCell_far _ _ _ _ bl,World.cell?_setCell_far _ _ _ _ bl]
 exact hv
def jM (T:List iN) (N:List Nd) (l:List UInt8) (w:World) (e:Ending) (w':World):Prop:=
 w.grownBy w' none∧((fU T N l true∧∃q,e=.returned (.tuple #[.agg q.toArray,.int .i64 0])∧EAt (fun k=>w.heap.size≤k) w' (nz l 200) q)∨(¬fU T N l true∧e=.returned (.tuple #[.agg #[.int .i64 0,.string ⟨#[]⟩,.string ⟨#[]⟩,.bool false,.slice none 0 0,.bool false,.slice none 0 0,.int .i64 0],.int .i64 10])))
theorem vz (T:List iN) (N:List Nd) (K:Kf) (s:ByteArray) (hs:s.size≤25000) (hw:cu T=s.data.toList) (hT:T.length≤100000) (hN:N.length≤150000) (hk:∀(i:Nat) (x:Nd),N[i]? = some x→x.kids.length≤150000) (pt pn:Option Addr) (ct cn:Nat) (w:World) (cg:cM w) (i7:fy w) (ht:eQ w pt T) (hn:aE w pn N K):
  Calls Tryz.prog 27 #[.agg #[.slice pt T.length ct,.slice pn N.length cn]] w (jM T N s.data.toList w):=by
 have xw:s.data.toList.length=s.size:=aM s
 have Sn:=zh (fun W h1 h2 h3=>vF T N K s hs hw hT hN hk pt pn ct cn W h1 h2 h3)
 obtain⟨l,hl⟩:∃l,s.data.toList=l:=⟨_,rfl⟩
 rw [hl] at Sn xw ⊢
 have CS:Hid (l.length≤25000):=zh (by omega)
 have HT:=zh ht;have HN:=zh hn;have gf:=zh cg;have ip:=zh i7
 clear ht hn cg i7 hN hs xw hl hw hk hT
 obtain⟨m,hm⟩:∃m,T.length=m:=⟨_,rfl⟩
 obtain⟨M,hM⟩:∃M,N.length=M:=⟨_,rfl⟩
 rw [hm,hM] at Sn ⊢
 clear hm hM
 go_enter Tryz.func27,Tryz.ntmps27
 go_wp2_with fail
 obtain⟨W,b0,b1,hW,e0,e1,ge,ik,jC,zR⟩:=two w (.cells #[.slice pt m ct,.slice pn M cn] 42) (.cells #[.int .i64 0,.string ⟨#[]⟩,.string ⟨#[]⟩,.bool false,.slice none 0 0,.bool false,.slice none 0 0,.int .i64 0] 30)
 have iV:=zh ik;have da:=zh jC;have kD:=zh e0
 clear ge ik jC
 try rw [←hW]
 try rw [e1]
 try rw [e0]
 clear e0 e1 hW
 refine(Sn.out _ (gf.out.kept da.out) (HT.out.kept da.out) (HN.out.kept da.out)).mono ?_
 rintro e w1 ⟨bI,he⟩
 have cZ:=zh (aa da.out bI)
 have kE:=zh (bx bI iV.out)
 clear bI Sn HT HN
 rcases he with ⟨eO,lD,lG,kI,lN,K',rfl,eU,kF,AA,Wj⟩ | ⟨vo,rfl⟩
 ·have qE:=zh eO
  have hR:=oa (l:=l) (by have:=CS.out;omega) eO.1
  have bB:=lg hR.lex
  obtain⟨t,ks,k0,hx,Fr,Da,O9,db⟩:=G0 hR
  have afr:=CS.out
  have YP:=zh Wj
  have aeO:Hid (b1<W.heap.size):=zh (hlt iV.out)
  clear Wj
  have qY:=zh eU;have zz:=zh kF
  have Oz:Hid (∀q w',w.grownBy w' none→EAt (fun k=>w.heap.size≤k) w' (axT (ag l).1 t) q→jM T N l w (.returned (.tuple #[.agg q.toArray,.int .i64 0])) w'):=zh (fun q w' h1 h2=>⟨h1,.inl ⟨qE.out,q,rfl,by rw [←O9];exact h2⟩⟩)
  obtain⟨T',Yx⟩:∃T',(ag l).1=T':=⟨_,rfl⟩
  obtain⟨N',OT⟩:∃N',aD l 200 true=N':=⟨_,rfl⟩
  rw [Yx] at qY bB Da AA Oz ⊢
  rw [OT] at zz hx Da AA db YP ⊢
  have xz:=zh (fun (pt pn:Option Addr) (ct cn:Nat) (K:Kf) W h1 h2 h3=>Dm (T:=T') (N:=N') (K:=K) (by omega) (by omega) pt pn ct cn N'.length t (k0:Int) W (by omega) db Da h1 h2 h3)
  have bP:=zh (fun (pt pn:Option Addr) (mt ct cn:Nat) (K:Kf) W h=>qz (K:=K) (by omega) hx pt pn mt ct cn W h)
  have IM:=zh (fun (pt pn:Option Addr) (mt ct cn:Nat) W=>Na pt pn mt ct N'.length cn (by have:=(List.getElem?_eq_some_iff.1 hx).1;omega) (by omega) W)
  have C6:Hid (∀(pn:Option Addr) (K:Kf) W,aE W pn N' K→VAt W (K (N'.length - 1)).1 (bo ks)):=zh (fun pn K W h=>h.2 _ _ hx)
  have xN:=zh Fr;have HX:=zh hx
  have Ge:Hid (∀(a:Addr),(K' (N'.length - 1)).1=some a→W.heap.size≤a.block):=zh (fun a ha=>YP.out _ _ hx (fun e=>by have e:ks = []:=e;rw [e] at Fr;simp at Fr) a ha)
  have jo:ks.length≤150000:=by
   have:=lZ (l:=l) (D:=200) (f:=true) (by rw [OT];omega) _ _ (by rw [OT];exact hx)
   exact this
  have hkp:0<ks.length:=(List.getElem?_eq_some_iff.1 Fr).1
  clear eU kF hR bB AA hx Da db Fr Yx OT O9 eO afr
  obtain⟨m',hm⟩:∃m,T'.length=m:=⟨_,rfl⟩
  obtain⟨M',hM⟩:∃M,N'.length=M:=⟨_,rfl⟩
  obtain⟨L,hL⟩:∃L,ks.length=L:=⟨_,rfl⟩
  rw [hm,hM] at xz ⊢
  rw [hM] at bP IM
  have bP:Hid (∀(pt pn:Option Addr) (mt ct cn:Nat) (K:Kf) (W:World),aE W pn N' K→Calls Tryz.prog 49 #[.agg #[.slice pt mt ct,.slice pn M' cn],.int .i64 ((M' - 1:Nat):Int)] W (aR (.slice (K (M' - 1)).1 L (K (M' - 1)).2) W)):=zh (by rw [←hL];exact bP.out)
  rw [hM] at C6 Ge
  rw [hL] at jo hkp
  obtain⟨R,hRR⟩:∃R,M' - 1=R:=⟨_,rfl⟩
  rw [hRR] at bP C6 IM Ge
  clear hm hM hL hRR HX
  have z0:decide (0<L)=true:=zd hkp
  have z1:(0:Int)<(L:Int):=by omega
  have z2:decide ((0:Int)<(L:Int))=true:=zd z1
  go_wp2_with fail
  obtain⟨W3,b2,JT,e2,gS,nh⟩:=Lf w1 (.cells #[.slice lD m' lG,.slice kI M' lN] 73)
  have fu:=zh gS
  have abr:b1<b2:=by have:=hlt kE.out;omega
  have eg:=zh (aa cZ.out nh)
  have Lp:=zh (bx nh kE.out)
  have VS:=zh (qY.out.kept nh);have HN3:=zh (zz.out.kept nh);have Ou:=zh (ip.out.kept eg.out)
  have abg:=zh (C6.out _ _ _ HN3.out)
  obtain⟨g,off,nF,gc,ck⟩:=gW abg.out xN.out
  have DT:b1≠g:=by have h1:W.heap.size≤g:=Ge.out _ nF;have h2:=aeO.out;omega
  have bP:Hid (∀(W:World),aE W kI N' K'→Calls Tryz.prog 49 #[.agg #[.slice lD m' lG,.slice kI M' lN],.int .i64 (R:Int)] W (aR (.slice (some ⟨g,off,none⟩) L (K' R).2) W)):=zh (by rw [←nF];exact fun W h=>bP.out lD kI m' lG lN K' W h)
  have Tz:=zh ck
  have FW:=zh gc
  rw [Nat.add_zero] at ck
  clear gS nh nF
  try rw [←JT]
  try rw [e2]
  clear e2 JT
  obtain⟨a0,a1,a2⟩:=ah fu.out
  have UR:b2<W3.heap.size:=hlt fu.out
  have ajV:b1<W3.heap.size:=hlt Lp.out
  have IM:=zh (fun W=>IM.out lD kI m' lG lN W)
  have xz:=zh (fun W h1 h2 h3=>xz.out lD kI lG lN K' W h1 h2 h3)
  have Gq:=zh fu.out
  clear fu abg C6
  go_wp2_with fail
  have T3:b1≠b2:=by omega
  have Ti:W3.cell? ⟨g,off,none⟩=some (.int .i64 (k0:Int)):=ck
  go_region_held3 (fun w'=>w'.cell? ⟨b2,0,none⟩=some (.slice lD m' lG)∧w'.cell? ⟨b2,1,none⟩=some (.slice kI M' lN)∧w'.cell? ⟨g,off,none⟩=some (.int .i64 (k0:Int)))
   (first | with_reducible exact⟨a0,a1,Ti⟩ | with_reducible exact⟨Dr a0 T3,Dr a1 T3,Dr Ti DT⟩ | go_keep)
   (first
    | (go_at_call 50;refine(IM.out _).mono ?_;rintro e w4 ⟨rfl,nY⟩;have lw:=zh (aa (show W3.grownBy _ none from(by repeat (first | with_reducible exact ad _ _ | with_reducible refine aF ?_))) nY);obtain⟨a0,a1,a2⟩:=ah (bx lw.out Gq.out);have Ti:=lw.out.cell Tz.out (by simp);rw [Nat.add_zero] at Ti;have ajt:=zn FW.out lw.out.size;have UR:=hlt (bx lw.out Gq.out);clear nY)
    | (go_at_call 49;refine(bP.out _ (HN3.out.kept (aa lw.out (by repeat (first | with_reducible exact ad _ _ | with_reducible refine aF ?_))))).mono ?_;rintro e w5 ⟨rfl,jI⟩;have iD:=zh (aa (aa lw.out (show w4.grownBy _ none from(by repeat (first | with_reducible exact ad _ _ | with_reducible refine aF ?_)))) jI);obtain⟨a0,a1,a2⟩:=ah (bx iD.out Gq.out);have Ti:=iD.out.cell Tz.out (by simp);rw [Nat.add_zero] at Ti;have aln:=zn FW.out iD.out.size;have UR:=hlt (bx iD.out Gq.out);clear jI)
    | (go_at_call 58;refine(xz.out _ (VS.out.kept (aa iD.out (by repeat (first | with_reducible exact ad _ _ | with_reducible refine aF ?_)))) (HN3.out.kept (aa iD.out (by repeat (first | with_reducible exact ad _ _ | with_reducible refine aF ?_)))) (Ou.out.kept (aa iD.out (by repeat (first | with_reducible exact ad _ _ | with_reducible refine aF ?_))))).mono ?_;rintro e w6 ⟨dk,q,rfl,hq⟩;obtain⟨xo,xp,xa,xb,xs,xy,xq,xr,xn,xc,xm,xd,rfl⟩:=hq.form;have HQ:=zh hq;have dQ:=zh (aa (aa iD.out (show w5.grownBy _ none from(by repeat (first | with_reducible exact ad _ _ | with_reducible refine aF ?_)))) dk);have Pf:=bx dQ.out Lp.out;have aeY:=zh Pf;obtain⟨x0,x1,x2,x3,x4,x5,x6,x7,x8⟩:=bD Pf;have aiE:=hlt Pf;obtain⟨a0,a1,a2⟩:=ah (bx dQ.out Gq.out);have Ti:=dQ.out.cell Tz.out (by simp);rw [Nat.add_zero] at Ti;have UR:=hlt (bx dQ.out Gq.out);have alk:=zn FW.out dQ.out.size;clear dk hq Pf))
  all_goals
   go_wp2_with fail
   obtain⟨hp,hf⟩:=nC aeY.out (.int .i64 xo) (.string xa) (.string xb) (.bool xs) (.slice xq xn xc) (.bool xy) (.slice xr xm xd) (.int .i64 xp)
   obtain⟨f0,f1,f2,f3,f4,f5,f6,f7,-⟩:=bD hp
   have wb:=zh (Fr2.after (aa eg.out dQ.out) hf (fun i hi=>by have e:i=b1:=hi;have:=kD.out;omega))
   have Sd:Hid (jM T N l w (.returned (.tuple #[.agg #[.int .i64 xo,.string xa,.string xb,.bool xs,.slice xq xn xc,.bool xy,.slice xr xm xd,.int .i64 xp],.int .i64 0])) _):=zh (Oz.out _ _ wb.out (EAt.mono (fun k hk=>by have h1:=hk.1;have h2:=(aa eg.out iD.out).size;exact Nat.le_trans h2 h1) (EAt.same hf (fun k hk e=>by have e:k=b1:=e;have h1:w5.heap.size≤k:=hk.1;have h2:=iD.out.size;omega) HQ.out.bound)))
   first
    | (refine bodyPost_ret (v:=.tuple #[.agg #[.int .i64 xo,.string xa,.string xb,.bool xs,.slice xq xn xc,.bool xy,.slice xr xm xd,.int .i64 xp],.int .i64 0]) (by simp [results,Tryz.results27,go_sem,f0,f1,f2,f3,f4,f5,f6,f7]) rfl Sd.out)
 ·have Jn:=zh vo
  obtain⟨c0,c1,c2,c3,c4,c5,c6,c7,c8⟩:=bD kE.out
  have fw:b1<w1.heap.size:=hlt kE.out
  clear vo
  go_wp2_with fail
  obtain⟨hp,hf⟩:=nC kE.out (.int .i64 0) (.string ⟨#[]⟩) (.string ⟨#[]⟩) (.bool false) (.slice none 0 0) (.bool false) (.slice none 0 0) (.int .i64 0)
  have ee:=bx (ae (ad _ none) (.cells #[.slice none 0 0,.slice none 0 0] 73)) hp
  obtain⟨k0,k1,k2,k3,k4,k5,k6,k7,-⟩:=bD ee
  have nH:=Fr2.after cZ.out hf (fun j hj=>by have e:j=b1:=hj;have:=kD.out;omega)
  refine bodyPost_ret (v:=.tuple #[.agg #[.int .i64 0,.string ⟨#[]⟩,.string ⟨#[]⟩,.bool false,.slice none 0 0,.bool false,.slice none 0 0,.int .i64 0],.int .i64 10]) (by simp [results,Tryz.results27,go_sem,k0,k1,k2,k3,k4,k5,k6,k7]) rfl (show jM T N l w _ _ from⟨ae nH _,.inr ⟨Jn.out,rfl⟩⟩)
end Go.Proofs.YtjbgnopnehgbaaaGreatDoor
