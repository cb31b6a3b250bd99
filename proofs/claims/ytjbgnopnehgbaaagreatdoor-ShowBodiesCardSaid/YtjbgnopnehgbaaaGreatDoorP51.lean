/- Lemmas. -/
import Derived.Test.YtjbgnopnehgbaaaGreatDoorP16
import Derived.Test.YtjbgnopnehgbaaaGreatDoorP38
set_option linter.unusedVariables false
set_option linter.unusedSimpArgs false
namespace Go.Proofs.YtjbgnopnehgbaaaGreatDoor
theorem Rn {T:List Tok} {k:Nat} {l:List Tr} (h:WE T (.nd k l)):7≤k:=by
 simp only [WE] at h
 cases h.1<;>omega
theorem RH {T:List Tok} {u:Tr} (h1:isN u=true) (h2:WE T u):OkK T u∧∀l',u≠.nd 4 l':=by
 cases u with
 | lf i=>simp [isN] at h1
 | nd k l=>
   have:=Rn h2
   exact⟨⟨fun e=>by omega,fun e=>by omega⟩,fun l' e=>by injection e with e;omega⟩
theorem Aj {T:List Tok} {l:List Tr} (h:ShT T l):∀t∈l,OkK T t∧∀l',t≠.nd 4 l':=by
 cases h with
 | mk c b cl h1 h2 h3=>
   intro t ht
   rcases List.mem_cons.1 ht with rfl | ht
   ·exact⟨trivial,fun l' e=>by cases e⟩
   rcases List.mem_cons.1 ht with rfl | ht
   ·exact⟨⟨fun _=>⟨b,rfl⟩,fun e=>by omega⟩,fun l' e=>by injection e with e;omega⟩
   cases h3 with
   | no=>simp at ht
   | yes i j e h4 h5=>
     simp at ht;subst ht
     exact⟨⟨fun e=>by omega,fun _=>⟨i,e,j,rfl,h4,h5⟩⟩,fun l' e=>by injection e with e;omega⟩
theorem Li {T:List Tok} {p:Tr} (h:ShP T p):OkK T p∧∀l',p=.nd 4 l'→∀t∈l',OkK T t:=by
 cases h with
 | mk n l h1 h2=>
   refine⟨⟨fun e=>by omega,fun e=>by omega⟩,fun l' e t ht=>?_⟩
   injection e with _ e
   subst e
   rcases List.mem_cons.1 ht with rfl | ht
   ·exact trivial
   ·exact(Aj h2 t ht).1
theorem Rf {T:List Tok} {l:List Tr} (h:sj T l):∀t∈l,OkK T t∧∀l',t=.nd 4 l'→∀t∈l',OkK T t:=by
 induction h with
 | one p hp=>intro t ht;simp at ht;subst ht;exact Li hp
 | more l c p _ hc hp ih=>
   intro t ht
   rcases List.mem_append.1 ht with ht | ht
   ·rcases List.mem_append.1 ht with ht | ht
    ·exact ih t ht
    ·simp at ht;subst ht;exact⟨trivial,fun l' e=>by cases e⟩
   ·simp at ht;subst ht;exact Li hp
theorem VF {T:List Tok} {l:List Tr} (h:ShD T (.nd 3 l)):(∀t∈l,OkK T t)∧(∀l',Tr.nd 4 l'∈l→∀t∈l',OkK T t)∧(∃i0,l[0]? = some (.lf i0))∧(∃u,l[l.length - 2]? = some u∧isN u=true∧WE T u)∧2≤l.length:=by
 cases h with
 | mk pb f n o ps c tl q body m QF Up Wj R5 dp Y8 M3 htl hqk fw dC YC=>
   have key:∀t∈pb++[Tr.lf f,.lf n,.lf o]++ps++[.lf c]++tl++[.lf q]++[body]++[.lf m],OkK T t∧∀l',t=.nd 4 l'→∀t∈l',OkK T t:=fun t ht=>by
    simp only [List.mem_append] at ht
    rcases ht with ((((((ht | ht) | ht) | ht) | ht) | ht) | ht) | ht
    ·rcases QF with rfl | ⟨p,rfl,-⟩
     ·simp at ht
     ·simp at ht;subst ht;exact⟨trivial,fun l' e=>by cases e⟩
    ·simp at ht;rcases ht with rfl | rfl | rfl<;>exact⟨trivial,fun l' e=>by cases e⟩
    ·rcases Y8 with rfl | Y8
     ·simp at ht
     ·exact Rf Y8 t ht
    ·simp at ht;subst ht;exact⟨trivial,fun l' e=>by cases e⟩
    ·have h:=Aj htl t ht
     exact⟨h.1,fun l' e=>absurd e (h.2 l')⟩
    ·simp at ht;subst ht;exact⟨trivial,fun l' e=>by cases e⟩
    ·simp at ht;subst ht
     have h:=RH fw dC
     exact⟨h.1,fun l' e=>absurd e (h.2 l')⟩
    ·simp at ht;subst ht;exact⟨trivial,fun l' e=>by cases e⟩
   refine⟨fun t ht=>(key t ht).1,fun l' hl=>(key _ hl).2 l' rfl,?_,⟨body,?_,fw,dC⟩,by simp;omega⟩
   ·rcases QF with rfl | ⟨p,rfl,-⟩
    ·exact⟨f,by simp⟩
    ·exact⟨p,by simp⟩
   ·have e:pb++[Tr.lf f,.lf n,.lf o]++ps++[.lf c]++tl++[.lf q]++[body]++[.lf m]=(pb++[Tr.lf f,.lf n,.lf o]++ps++[.lf c]++tl++[.lf q])++[body,.lf m]:=by simp
    rw [e]
    generalize pb++[Tr.lf f,.lf n,.lf o]++ps++[.lf c]++tl++[.lf q]=A
    rw [List.length_append,List.getElem?_append_right (by simp)]
    simp
set_option maxHeartbeats 16000000
set_option maxRecDepth 100000
open Go.RowKit
theorem vN (T:List iN) (N:List Nd) (K:Kf) (s:ByteArray) (hs:s.size≤25000) (hw:cu T=s.data.toList) (hT:T.length≤100000) (hN:N.length≤150000) (hk:∀(i:Nat) (x:Nd),N[i]? = some x→x.kids.length≤150000) (pt pn:Option Addr) (ct cn:Nat) (w:World) (cg:cM w) (ht:eQ w pt T) (hn:aE w pn N K):
  Calls Tryz.prog 19 #[.agg #[.slice pt T.length ct,.slice pn N.length cn],.func (.func 7) #[] #[]] w (ml T N s.data.toList false w):=by
 have xw:s.data.toList.length=s.size:=aM s
 have HP:=zh (fun W h=>Fo s 200 W hs h)
 have CC:=zh (fun (W:World) h=>F2 T pt pn ct N.length cn W (by omega) (by rw [hw];omega) h)
 rw [hw] at CC
 have YB:=zh hw
 have CS:Hid (s.data.toList=s.data.toList):=zh rfl
 obtain⟨l,hl⟩:∃l,s.data.toList=l:=⟨_,rfl⟩
 rw [hl] at HP CC xw ⊢
 have ip:=zh hl
 have HT:=zh ht;have HN:=zh hn;have gf:=zh cg;have OY:=zh hT;have VC:=zh hN;have HK:=zh hk;have Jl:=zh xw;have Cv:=zh hs
 clear ht hn cg hN hs xw hl hw hk hT
 obtain⟨m,hm⟩:∃m,T.length=m:=⟨_,rfl⟩
 obtain⟨M,hM⟩:∃M,N.length=M:=⟨_,rfl⟩
 have Hm:=zh hm;have HM:=zh hM
 rw [hm,hM] at CC ⊢
 clear hm hM
 go_enter Tryz.func19,Tryz.ntmps19
 go_wp2_with fail
 obtain⟨W,b0,b1,hW,e0,e1,ge,ik,jC,zR⟩:=two w (.cells #[.slice pt m ct,.slice pn M cn] 42) (.cells #[.slice none 0 0,.slice none 0 0] 73)
 have f9:=zh ge;have iV:=zh ik;have da:=zh jC;have kD:=zh e0
 clear ge ik jC
 try rw [←hW]
 try rw [e1]
 try rw [e0]
 clear e0 e1 hW
 refine(CC.out _ (HT.out.kept da.out)).mono ?_
 rintro e w1 ⟨⟨y,rfl,hy⟩,bI⟩
 have jL:y=s:=ByteArray.ext (Array.toList_inj.1 (hy.trans ip.out.symm))
 subst jL
 have cZ:=zh (aa da.out bI)
 have vq:=zh (bx bI f9.out);have kE:=zh (bx bI iV.out)
 clear bI hy CC
 go_wp2_with fail
 refine(HP.out _ (gf.out.kept cZ.out)).mono ?_
 rintro e w2 ⟨bT,he⟩
 by_cases bl:(dH l 200 false).2.1≠0
 ·rw [if_pos bl] at he
  subst he
  have lm:Hid (¬fU T N l false):=zh (fun h=>bl h.1)
  unfold fe
  obtain⟨E,hE⟩:∃E,(dH l 200 false).2.1=E:=⟨_,rfl⟩
  obtain⟨P,hP⟩:∃P,(dH l 200 false).2.2=P:=⟨_,rfl⟩
  rw [hE] at bl
  rw [hE,hP]
  have e1:((E:Int) != 0)=true:=bne_iff_ne.2 (by omega)
  have sl:(E != 0)=true:=bne_iff_ne.2 bl
  have e2:((E:Int) == 0)=false:=beq_eq_false_iff_ne.2 (by omega)
  have DB:(E == 0)=false:=beq_eq_false_iff_ne.2 bl
  have cz:=zh (aa cZ.out bT)
  have qs:=zh (bx bT kE.out)
  clear bT hE hP bl HP
  obtain⟨c0,c1,c2⟩:=ah qs.out
  have fw:b1<w2.heap.size:=hlt qs.out
  go_wp2_with fail
  have hf:Fr2 (ez b1) w2 ((w2.setCell ⟨b1,0,none⟩ (.slice none 0 0)).setCell ⟨b1,1,none⟩ (.slice none 0 0)):=((Fr2.refl _ _).setCell (bh b1) _).setCell (bh b1) _
  have nH:=Fr2.after cz.out hf (fun j hj=>by have e:j=b1:=hj;have:=kD.out;omega)
  have hc:=ab (i:=1) (u:=.slice none 0 0) (ab (i:=0) (u:=.slice none 0 0) qs.out)
  have sG:=bx (ae (ae (ad _ none) (.cells #[.slice none 0 0,.slice none 0 0] 42)) (.cells #[.int .i64 (E:Int),.int .i64 (P:Int)] 44)) (show((w2.setCell ⟨b1,0,none⟩ (.slice none 0 0)).setCell ⟨b1,1,none⟩ (.slice none 0 0)).heap[b1]? = some (Obj.cells #[.slice none 0 0,.slice none 0 0] 73) from hc)
  obtain⟨k0,k1,-⟩:=ah sG
  refine bodyPost_ret (v:=.tuple #[.agg #[.slice none 0 0,.slice none 0 0],.int .i64 10]) (by simp [results,Tryz.results19,go_sem,k0,k1]) rfl (show ml T N l false w _ _ from⟨ae (ae nH _) _,.inr ⟨lm.out,rfl⟩⟩)
 ·rw [if_neg bl] at he
  obtain⟨lD,lG,kI,lN,K',rfl,eU,-,kF,kM,dK,fI,AA⟩:=he
  have dp:(dH l 200 false).2.1=0:=by omega
  have hR:=oa (l:=l) (by have:=Jl.out;have:=Cv.out;omega) dp
  have bB:=lg hR.lex
  have vu:=zh dp;have Cw:=zh AA
  have hlb:(ag l).1.length≤30000:=by have:=Jl.out;have:=Cv.out;omega
  have xQ:=zh (fun (lD kI:Option Addr) (lG lN:Nat) (K':Kf) W h1 h2 h3 h4=>rI T ((ag l).1.map toI) N (aD l 200 false) K K' (by have:=OY.out;omega) (by rw [List.length_map];omega) VC.out (by omega) HK.out (lZ (by omega)) pt lD pn kI ct lG cn lN W h1 h2 h3 h4)
  rw [List.length_map] at xQ
  obtain⟨L,hL⟩:∃L,(ag l).1=L:=⟨_,rfl⟩
  obtain⟨Q,hQ⟩:∃Q,aD l 200 false=Q:=⟨_,rfl⟩
  have qE:Hid (fU T N l false↔T=L.map toI∧N=Q):=zh ⟨fun h=>by rw [←hL,←hQ];exact⟨h.2.1,h.2.2⟩,fun h=>⟨vu.out,by rw [hL];exact h.1,by rw [hQ];exact h.2⟩⟩
  have Oz:Hid (∀e w',w.grownBy w' none∧((fU T N l false∧∃pt ct pn cn K,e=.returned (.tuple #[.agg #[.slice pt L.length ct,.slice pn Q.length cn],.int .i64 0])∧TAt w' pt L∧aE w' pn Q K∧Q.length≤2*L.length∧yf Q K (fun k=>w.heap.size≤k))∨(¬fU T N l false∧e=.returned (.tuple #[.agg #[.slice none 0 0,.slice none 0 0],.int .i64 10])))→ml T N l false w e w'):=zh (fun e w' h=>by unfold ml;rw [hL,hQ];exact h)
  rw [hL] at xQ Cw eU kM ⊢
  rw [hQ] at xQ Cw kF dK fI ⊢
  have rV:=zh kM;have es:=zh dK;have jp:=zh fI
  have qY:=zh eU;have zz:=zh kF
  clear hR dp bl hL hQ bB hlb eU kF kM dK fI AA
  obtain⟨m',vG⟩:∃m',L.length=m':=⟨_,rfl⟩
  obtain⟨M',VT⟩:∃M',Q.length=M':=⟨_,rfl⟩
  have Hm':=zh vG;have Ej:=zh VT
  have vT:Hid (b1<w1.heap.size):=zh (hlt kE.out)
  rw [vG,VT] at xQ ⊢
  rw [Hm.out,HM.out] at xQ
  have cz:=zh (aa cZ.out bT)
  have Km:=zh (bx bT vq.out);have qs:=zh (bx bT kE.out)
  clear bT HP vq kE f9 iV vG VT
  obtain⟨a0,a1,a2⟩:=ah Km.out
  have jK:b0<w2.heap.size:=hlt Km.out
  go_wp2_with fail
  obtain⟨W3,b2,b3,JT,e2,e3,gS,JM,nh,h23⟩:=two w2 (.cells #[.slice lD m' lG,.slice kI M' lN] 42) (.cells #[.int .i64 0,.int .i64 0] 44)
  have fu:=zh gS;have wP:=zh JM;have sw:=zh nh
  have abr:b1<b2:=by have:=hlt qs.out;omega
  clear gS JM nh
  try rw [←JT]
  try rw [e3]
  try rw [e2]
  clear e2 e3 JT
  have eg:=zh (aa cz.out sw.out)
  refine(xQ.out lD kI lG lN K' _ (HT.out.kept eg.out) (oD (qY.out.kept sw.out)) (HN.out.kept eg.out) (zz.out.kept sw.out)).mono ?_
  rintro e w4 ⟨nY,b,rfl,hb⟩
  have fL:=zh hb
  have lw:=zh (aa eg.out nY)
  have mc:=aa sw.out nY
  have Xi:=zh (qY.out.kept mc);have Nt:=zh (zz.out.kept mc)
  have qD:=zh (bx mc qs.out)
  obtain⟨c0,c1,c2⟩:=ah (bx nY fu.out)
  obtain⟨d0,d1,d2⟩:=ah qD.out
  have age:b1<w4.heap.size:=hlt qD.out
  clear nY mc xQ hb
  cases b
  ·have lm:Hid (¬fU T N l false):=zh (fun h=>by have:=fL.out.2 (qE.out.1 h);cases this)
   go_wp2_with fail
   have hf:Fr2 (ez b1) w4 ((w4.setCell ⟨b1,0,none⟩ (.slice none 0 0)).setCell ⟨b1,1,none⟩ (.slice none 0 0)):=((Fr2.refl _ _).setCell (bh b1) _).setCell (bh b1) _
   have nH:=Fr2.after lw.out hf (fun j hj=>by have e:j=b1:=hj;have:=kD.out;omega)
   have hc:=ab (i:=1) (u:=.slice none 0 0) (ab (i:=0) (u:=.slice none 0 0) qD.out)
   obtain⟨k0,k1,-⟩:=ah (show((w4.setCell ⟨b1,0,none⟩ (.slice none 0 0)).setCell ⟨b1,1,none⟩ (.slice none 0 0)).heap[b1]? = some (Obj.cells #[.slice none 0 0,.slice none 0 0] 73 (0,0)) from hc)
   refine bodyPost_ret (v:=.tuple #[.agg #[.slice none 0 0,.slice none 0 0],.int .i64 10]) (by simp [results,Tryz.results19,go_sem,k0,k1]) rfl (Oz.out _ _ ⟨nH,.inr ⟨lm.out,rfl⟩⟩)
  ·go_wp2_with fail
   have hf:Fr2 (ez b1) w4 ((w4.setCell ⟨b1,0,none⟩ (.slice lD m' lG)).setCell ⟨b1,1,none⟩ (.slice kI M' lN)):=((Fr2.refl _ _).setCell (bh b1) _).setCell (bh b1) _
   have nH:=Fr2.after lw.out hf (fun j hj=>by have e:j=b1:=hj;have:=kD.out;omega)
   have hc:=ab (i:=1) (u:=.slice kI M' lN) (ab (i:=0) (u:=.slice lD m' lG) qD.out)
   obtain⟨k0,k1,-⟩:=ah (show((w4.setCell ⟨b1,0,none⟩ (.slice lD m' lG)).setCell ⟨b1,1,none⟩ (.slice kI M' lN)).heap[b1]? = some (Obj.cells #[.slice lD m' lG,.slice kI M' lN] 73 (0,0)) from hc)
   have UK:=Xi.out.keptF hf (fun h0 a ha e=>by have e:a.block=b1:=e;have h1:=rV.out h0 a ha;have h2:=vT.out;omega)
   have Ya:aE _ kI Q K':=⟨GAt.keptB Nt.out.1 hf (fun h0 a ha e=>by have e:a.block=b1:=e;have h1:=es.out (fun h=>h0 (by rw [h];rfl)) a ha;have h2:=vT.out;omega),fun i y hy=>(Nt.out.2 i y hy).keptF hf (fun h0 a ha e=>by have e:a.block=b1:=e;have h1:=jp.out i y hy (eB h0) a ha;have h2:=vT.out;omega)⟩
   refine bodyPost_ret (v:=.tuple #[.agg #[.slice lD m' lG,.slice kI M' lN],.int .i64 0]) (by simp [results,Tryz.results19,go_sem,k0,k1]) rfl (Oz.out _ _ ⟨nH,.inl ⟨qE.out.2 (fL.out.1 (by simp)),lD,lG,kI,lN,K',by rw [Hm'.out,Ej.out],UK,Ya,Cw.out,fun i y hy h0 a ha=>Nat.le_trans cZ.out.size (jp.out i y hy h0 a ha)⟩⟩)
end Go.Proofs.YtjbgnopnehgbaaaGreatDoor
namespace Go.Proofs.YtjbgnopnehgbaaaGreatDoor.showBodies
open Go.ChangeShapes Go.WideShapes Go.ChangeAt Go.RowKit
theorem p1:Rows.showBodiesRow.wfByText (OpenSpec.ofChange Rows.showBodiesSpec)=true:=by kernel_rfl
theorem p2:Tryz.prog.mainIs=some (Rows.showBodiesCard.stood.harness.1,Rows.showBodiesCard.stood.harness.2.toList):=by kernel_rfl
theorem p3:false=Tryz.prog.looks []:=by kernel_rfl
theorem p4:false=Rows.showBodiesRow.goesBy Tryz.prog:=by kernel_rfl
end Go.Proofs.YtjbgnopnehgbaaaGreatDoor.showBodies
