/- Lemmas. -/
import Derived.Test.YtjbgnopnehgbaaaGreatDoorP23
import Derived.Test.YtjbgnopnehgbaaaGreatDoorP33
set_option linter.unusedVariables false
set_option linter.unusedSimpArgs false
namespace Go.Proofs.YtjbgnopnehgbaaaGreatDoor
open Go.RowKit
def oT (F:Nat→Prop) (w:World):Pc→List Value→Prop
 | .bs l,r=>r=jt l
 | .ex x least,r=>∃g o q,r=jx g o ((least:Nat):Int)∧F g∧g<w.heap.size∧SAt F w x q∧∀i v,q[i]? = some v→w.cell? ⟨g,o+i,none⟩=some v
def bp (F:Nat→Prop) (w:World):List Pc→List (List Value)→Prop
 | [],r=>r = []
 | p::l,r=>∃q r',r=q::r'∧oT F w p q∧bp F w l r'
theorem oT.same {F S:Nat→Prop} {w w':World} (hg:Fr2 S w w') (hS:∀k,F k→¬S k) {p:Pc} {r:List Value} (h:oT F w p r):oT F w' p r:=by
 cases p with
 | bs l=>exact h
 | ex x least=>
   obtain⟨g,o,q,h1,h2,h3,h4,h5⟩:=h
   exact⟨g,o,q,h1,h2,zn h3 hg.size,h4.same hg hS,fun i v hi=>by rw [World.cell?_of_block (w:=w) (hg.block g h3 (hS _ h2))];exact h5 i v hi⟩
theorem bp.same {F S:Nat→Prop} {w w':World} (hg:Fr2 S w w') (hS:∀k,F k→¬S k):∀ {l:List Pc} {r:List (List Value)},bp F w l r→bp F w' l r
 | [],r,h=>h
 | p::l,r,h=>by
   obtain⟨q,r',h1,h2,h3⟩:=h
   exact⟨q,r',h1,h2.same hg hS,bp.same hg hS h3⟩
theorem bp.app {F:Nat→Prop} {w:World}:∀ {l l2:List Pc} {r r2:List (List Value)},bp F w l r→bp F w l2 r2→bp F w (l++l2) (r++r2)
 | [],l2,r,r2,h,h2=>by have h:r = []:=h;subst h;exact h2
 | p::l,l2,r,r2,h,h2=>by
   obtain⟨q,r',rfl,h3,h4⟩:=h
   exact⟨q,r'++r2,rfl,h3,bp.app h4 h2⟩
theorem bp.len {F:Nat→Prop} {w:World}:∀ {l:List Pc} {r:List (List Value)},bp F w l r→r.length=l.length
 | [],r,h=>by have h:r = []:=h;subst h;rfl
 | p::l,r,h=>by
   obtain⟨q,r',rfl,h3,h4⟩:=h
   simp [bp.len h4]
def oF (S F:Nat→Prop) (B b:Nat) (rows:List (List Value)) (ps:List Pc) (w:World) (e:Ending) (w':World):Prop:=e=.returned (.tuple #[])∧∃R,bj S B b w' (rows++R)∧bp F w' ps R∧Fr2 (fun k=>¬S k) w w'
theorem mF {S F:Nat→Prop} {B b:Nat} {rows R:List (List Value)} {ps:List Pc} {w w':World} {e:Ending} (h:dy S B b (rows++R) w e w') (hp:bp F w ps R) (hF:∀k,F k→S k):oF S F B b rows ps w e w':=by
 obtain⟨h1,h2,h3⟩:=h
 exact⟨h1,R,h2,hp.same h3 (fun k hk e=>e (hF k hk)),h3⟩
theorem VZ {F:Nat→Prop} {w:World} {gk ok:Nat} {ks:List Sx} {rows:List (List Value)} (hG:GAt 8 w (some ⟨gk,ok,none⟩) rows) (hl:LsS F w ks rows) (hF:F gk) (IA:Flat w gk) {j:Nat} {x:Sx} (hx:ks[j]? = some x) (least:Nat):oT F w (.ex x least) (jx gk (ok+j*8) ((least:Nat):Int)):=by
 obtain⟨q,hq,hx2⟩:=hl.get hx
 have rP:gk<w.heap.size:=by obtain⟨cs,T,h⟩:=IA;exact hlt h
 rcases hG with h | ⟨g,off,he,-,hc⟩
 ·subst h;simp at hq
 ·simp only [Option.some.injEq,Addr.mk.injEq,and_true] at he
  obtain⟨rfl,rfl⟩:=he
  exact⟨gk,ok+j*8,q,rfl,hF,rP,hx2,fun i v hi=>hc j q hq i v hi⟩
theorem getD_some {ks:List Sx} {j:Nat} (h:j<ks.length):ks[j]? = some (ks.getD j nilS):=by
 rw [List.getD_eq_getElem?_getD,List.getElem?_eq_getElem h];rfl
theorem uc (x:Sx):∀l:List Sx,ei (l++[x])=ei l++(if l.length=0 then [] else [.bs [44,32]])++[.ex x 0]
 | []=>by simp [ei]
 | [y]=>by simp [ei]
 | y::z::l=>by
   have h:=uc x (z::l)
   simp only [List.cons_append] at h ⊢
   simp only [ei,h]
   simp
theorem FA {F:Nat→Prop} {w:World} {gk ok:Nat} {ks:List Sx} (hk:∀(j:Nat) (x:Sx),ks[j]? = some x→oT F w (.ex x 0) (jx gk (ok+j*8) 0)):∀n,n≤ks.length→bp F w (ei (ks.take n)) (iI [44,32] gk ok n)
 | 0,_=>by simp [ei,iI,bp]
 | n+1,h=>by
   have hx:=getD_some (ks:=ks) (j:=n) (by omega)
   rw [List.take_add_one,hx]
   show bp F w (ei (ks.take n++[ks.getD n nilS])) _
   rw [uc,List.length_take,Nat.min_eq_left (by omega)]
   refine bp.app (bp.app (FA hk n (by omega)) ?_) ⟨_,[],rfl,hk _ _ hx,rfl⟩
   by_cases h0:n=0
   ·rw [if_pos h0,if_pos h0];rfl
   ·rw [if_neg h0,if_neg h0];exact⟨_,[],rfl,rfl,rfl⟩
set_option maxRecDepth 100000
theorem Ql (S F:Nat→Prop) (B b:Nat) (rows:List (List Value)) (fg fo:Nat) (op:Int) (nm md:List UInt8) (nu:Int) (ys:Bool) (ks:List Sx) (ps:Int) (q:List Value) (w:World) (h:bj S B b w rows) (hl:rows.length≤700000) (hF:∀k,F k→S k) (hSg:S 5) (cg:fW w)
  (hx:SAt F w (.mk op nm md nu ys ks ps) q) (hSf:S fg) (hc:∀i v,q[i]? = some v→w.cell? ⟨fg,fo+i,none⟩=some v)
  (h1:1≤op) (h2:op≤24) (hn:countB op ks.length=true) (hnl:nm.length≤60000) (LC:md.length≤60000) (hZ:nu.natAbs<Zd.Lim):
  Calls Tryz.prog 104 #[.pointer (some ⟨b,0,none⟩),.pointer (some ⟨fg,fo,none⟩)] w (oF S F B b rows (fR (.mk op nm md nu ys ks ps)) w):=by
 simp only [SAt] at hx
 obtain⟨s,pw,nw,cw,pk,ck,kr,rfl,hi,-,hG,i7,hk⟩:=hx
 have c0:=hc 0 _ rfl
 have c1:=hc 1 _ rfl
 have c2:=hc 2 _ rfl
 have c3:=hc 3 _ rfl
 have c4:=hc 4 _ rfl
 have c5:=hc 5 _ rfl
 have c6:=hc 6 _ rfl
 clear hc
 unfold aw at c1 c2
 have Lo:∀l,bp F w [Pc.bs l] [jt l]:=fun l=>⟨_,[],rfl,rfl,rfl⟩
 have aai:∀ {p:Pc} {r:List Value},oT F w p r→bp F w [p] [r]:=fun h=>⟨_,[],rfl,h,rfl⟩
 obtain⟨gk,ok,nF,hkp⟩:∃gk ok,(0<ks.length→pk=some ⟨gk,ok,none⟩)∧∀(j:Nat) (x:Sx) (least:Nat),ks[j]? = some x→oT F w (.ex x least) (jx gk (ok+j*8) ((least:Nat):Int)):=by
  by_cases h0:ks = []
  ·subst h0;exact⟨0,0,fun h=>absurd h (by simp),fun j x least h=>by simp at h⟩
  ·obtain⟨a,rfl,hFa,IA⟩:=hk h0
   have hG0:=hG
   rcases hG with hG | ⟨g,off,he,-,-⟩
   ·exact absurd (List.eq_nil_of_length_eq_zero (by rw [←i7.len,hG];rfl)) h0
   ·injection he with he
    subst he
    exact⟨g,off,fun _=>rfl,fun j x least hx=>VZ hG0 i7 hFa IA hx least⟩
 have hK:∀(j least:Nat),j<ks.length→oT F w (.ex (ks.getD j nilS) least) (jx gk (ok+j*8) ((least:Nat):Int)):=fun j least hj=>hkp j _ least (getD_some hj)
 clear hk hG i7
 unfold countB at hn
 simp only [fR]
 by_cases e1:op=1
 ·subst e1
  exact(Oh S B b rows fg fo nu s pw nw cw w h hl c0 c3 c4 hi hZ).mono (fun e w' h=>mF h (Lo _) hF)
 rw [if_neg e1]
 by_cases e2:op=2
 ·subst e2
  exact(Ds S B b rows fg fo ys w h hl c0 c5).mono (fun e w' h=>mF h (Lo _) hF)
 rw [if_neg e2]
 by_cases e3:op=3
 ·subst e3
  exact(wN S B b rows fg fo nm 3 (.inl rfl) w h hl c0 c1).mono (fun e w' h=>mF h (Lo _) hF)
 rw [if_neg e3]
 by_cases e4:op=4
 ·subst e4
  exact(wN S B b rows fg fo nm 4 (.inr rfl) w h hl c0 c1).mono (fun e w' h=>mF h (Lo _) hF)
 rw [if_neg e4]
 rw [if_neg (by omega)] at hn
 by_cases e5:op=5∨op=6
 ·rw [if_pos (by omega)] at hn
  have hn:=of_decide_eq_true hn
  rw [hn,nF (by omega)] at c6
  have h9:=Lh S B b rows fg fo gk ok ck op e5 w h hl hSf c0 c6
  refine h9.mono (fun e w' h=>?_)
  rcases e5 with rfl | rfl
  ·exact mF h (bp.app (Lo _) (aai (hK 0 9 (by omega)))) hF
  ·exact mF h (bp.app (Lo _) (aai (hK 0 4 (by omega)))) hF
 rw [if_neg (by omega),if_neg (by omega)]
 rw [if_neg (by omega)] at hn
 by_cases Do:op=21
 ·subst Do
  rw [if_neg (by omega),if_pos rfl] at hn
  have hn:=of_decide_eq_true hn
  rw [hn,nF (by omega)] at c6
  refine(Sf S B b rows fg fo gk ok ck w h hl hSf c0 c6).mono (fun e w' h=>mF h ?_ hF)
  exact⟨_,_,rfl,rfl,_,_,rfl,hK 0 0 (by omega),_,_,rfl,rfl,_,_,rfl,hK 1 0 (by omega),_,_,rfl,rfl,_,_,rfl,hK 2 0 (by omega),rfl⟩
 rw [if_neg Do]
 by_cases e22:op=22
 ·subst e22
  rw [if_pos (by omega)] at hn
  have hn:=of_decide_eq_true hn
  rw [hn,nF (by omega)] at c6
  refine(J3 S B b rows fg fo gk ok ck nm w h hl hnl hSf c0 c1 c6).mono (fun e w' h=>mF h ?_ hF)
  exact⟨_,_,rfl,rfl,_,_,rfl,hK 0 0 (by omega),_,_,rfl,rfl,_,_,rfl,hK 1 0 (by omega),rfl⟩
 rw [if_neg e22]
 by_cases e23:op=23
 ·subst e23
  rw [if_pos (by omega)] at hn
  have hn:=of_decide_eq_true hn
  rw [hn,nF (by omega)] at c6
  refine(Af S B b rows fg fo gk ok ck w h hl hSf c0 c6).mono (fun e w' h=>mF h ?_ hF)
  exact⟨_,_,rfl,rfl,_,_,rfl,hK 0 0 (by omega),_,_,rfl,rfl,_,_,rfl,hK 1 0 (by omega),rfl⟩
 rw [if_neg e23]
 by_cases Dp:op=24
 ·subst Dp
  rw [if_neg (by omega),if_neg (by omega)] at hn
  have hn:=of_decide_eq_true hn
  refine(Iy S B b rows fg fo gk ok ks.length ck pk nm md w h hl hn hnl LC hSf nF c0 c1 c2 c6).mono (fun e w' h=>mF h ?_ hF)
  have ha:=FA (F:=F) (w:=w) (gk:=gk) (ok:=ok) (ks:=ks) (fun j x hx=>hkp j x 0 hx) ks.length (Nat.le_refl _)
  rw [List.take_length] at ha
  refine bp.app (bp.app (bp.app ?_ (Lo _)) ha) (Lo _)
  by_cases hm:md = []
  ·rw [if_pos hm,if_pos hm];rfl
  ·rw [if_neg hm,if_neg hm];exact Lo _
 rw [if_neg Dp]
 rw [if_pos (by omega)] at hn
 have hn:=of_decide_eq_true hn
 rw [hn,nF (by omega)] at c6
 obtain⟨j,rfl⟩:∃j:Nat,op=((7+j:Nat):Int):=⟨(op - 7).toNat,by omega⟩
 have hj:j<lk.length:=by show j<14;omega
 have hsg:=List.getElem?_eq_getElem hj
 refine(Ai S B b rows fg fo gk ok ck j _ w h hl hsg hSf hSg cg c0 c6).mono (fun e w' h=>mF h ?_ hF)
 rw [GI hsg]
 exact⟨_,_,rfl,hK 0 _ (by omega),_,_,rfl,rfl,_,_,rfl,by have:=hK 1 (iT (aV ((7+j:Nat):Int))) (by omega);rwa [Nat.one_mul] at this,rfl⟩
set_option maxHeartbeats 16000000
theorem fW.same {S:Nat→Prop} {w w':World} (h:fW w) (hf:Fr2 (fun k=>¬S k) w w') (hS:S 5) (hs:5<w.heap.size):fW w':=fun j l hj=>by
 rw [World.cell?_of_block (w:=w) (hf.block _ hs (fun e=>e hS))];exact h j l hj
theorem vZ:∀l:List Sx,(ei l).length≤2*l.length
 | []=>by simp [ei]
 | [x]=>by simp [ei]
 | x::y::l=>by
   have:=vZ (y::l)
   simp only [ei,List.length_cons] at this ⊢;omega
theorem GR {op:Int} {nm md:List UInt8} {nu:Int} {ys:Bool} {ks:List Sx} {ps:Int} (hn:countB op ks.length=true):(fR (.mk op nm md nu ys ks ps)).length≤1000:=by
 have ha:=vZ ks
 simp only [fR]
 by_cases Dp:op=24
 ·unfold countB at hn
  rw [if_neg (by omega),if_neg (by omega),if_neg (by omega),if_neg (by omega)] at hn
  have hn:=of_decide_eq_true hn
  subst Dp
  rw [if_neg (by omega),if_neg (by omega),if_neg (by omega),if_neg (by omega),if_neg (by omega),if_neg (by omega),if_neg (by omega),if_neg (by omega),if_neg (by omega),if_pos rfl]
  simp only [List.length_append,List.length_cons,List.length_nil]
  split<;>simp<;>omega
 ·rw [if_neg Dp]
  repeat' (first | (simp only [List.length_cons,List.length_nil];omega) | split)
theorem PM (S F:Nat→Prop) (B b:Nat) (rows:List (List Value)) (fg fo least:Nat) (x:Sx) (q:List Value) (w:World) (h:bj S B b w rows) (hl:rows.length≤600000) (hF:∀k,F k→S k) (hSg:S 5) (cg:fW w)
  (hx:SAt F w x q) (hSf:S fg) (hc:∀i v,q[i]? = some v→w.cell? ⟨fg,fo+i,none⟩=some v)
  (h1:1≤x.op) (h2:x.op≤24) (hn:countB x.op x.ks.length=true) (dp:match x with | .mk _ nm md nu _ _ _=>nm.length≤60000∧md.length≤60000∧nu.natAbs<Zd.Lim):
  Calls Tryz.prog 68 #[.pointer (some ⟨b,0,none⟩),.pointer (some ⟨fg,fo,none⟩),.int .i64 least] w (oF S F B b rows (gQ x least) w):=by
 have HHS:Hid (∀k,S k→k<w.heap.size):=zh (by obtain⟨v,-,-,-,-,-,-,hh⟩:=h;exact hh)
 have c0:w.cell? ⟨fg,fo,none⟩=some (.int .i64 x.op):=by
  cases x with
  | mk op nm md nu ys ks ps=>
    have hx2:=hx
    simp only [SAt] at hx2
    obtain⟨s,pw,nw,cw,pk,ck,kr,rfl,-⟩:=hx2
    exact hc 0 _ rfl
 have HB:Hid (∀R W,Fr2 (fun k=>¬S k) w W→bj S B b W R→R.length≤700000→Calls Tryz.prog 104 #[.pointer (some ⟨b,0,none⟩),.pointer (some ⟨fg,fo,none⟩)] W (oF S F B b R (fR x) W)):=zh (fun R W hf hW hR=>by
  cases x with
  | mk op nm md nu ys ks ps=>
    exact Ql S F B b R fg fo op nm md nu ys ks ps q W hW hR hF hSg (cg.same hf hSg (HHS.out _ hSg)) (hx.same hf (fun k hk e=>e (hF k hk))) hSf (fun i v hi=>by rw [World.cell?_of_block (w:=w) (hf.block _ (HHS.out _ hSf) (fun e=>e hSf))];exact hc i v hi) h1 h2 hn dp.1 dp.2.1 dp.2.2)
 have vB:=zh (fun W=>EY x.op h1 h2 W)
 have ow:=zh (fun rows s W h h2=>kW S B b rows s W h h2)
 have HW:=zh h;have HL:=zh hl;have HF:=zh hF
 have Cx:Hid ((fR x).length≤1000):=zh (by cases x with | mk op nm md nu ys ks ps=>exact GR hn)
 obtain⟨P,hP⟩:∃P,fR x=P:=⟨_,rfl⟩
 obtain⟨OP,hOP⟩:∃OP,gQ x least=OP:=⟨_,rfl⟩
 have HO:Hid (OP=if aV x.op<least then .bs [40]::P++[.bs [41]] else P):=zh (by rw [←hP,←hOP];rfl)
 rw [hP] at HB Cx
 rw [hOP]
 obtain⟨op,sJ⟩:∃op,x.op=op:=⟨_,rfl⟩
 rw [sJ] at c0 vB HO
 obtain⟨lv,lH⟩:∃lv,aV op=lv:=⟨_,rfl⟩
 rw [lH] at vB HO
 clear h hl hF hSg cg hx hSf hc h1 h2 hn dp hOP hP sJ lH
 go_enter Tryz.func68,Tryz.ntmps68
 go_wp2_with fail
 refine(vB.out w).mono ?_
 rintro e w1 ⟨rfl,bI⟩
 have cZ:=zh bI
 clear bI
 have HW1:=zh (HW.out.kept cZ.out)
 have rV:Hid (Fr2 (fun k=>¬S k) w w1):=zh (Fr2.none cZ.out)
 by_cases hlt:lv<least
 ·have qq:Hid (OP=.bs [40]::(P++[.bs [41]])):=zh (by rw [HO.out,if_pos hlt];rfl)
  have y1:decide ((least:Int)≤(lv:Int))=false:=decide_eq_false (by omega)
  have y2:decide ((lv:Int)≥(least:Int))=false:=decide_eq_false (by omega)
  have y3:decide (least≤lv)=false:=decide_eq_false (by omega)
  clear hlt
  go_wp2_with fail
  refine(ow.out _ _ w1 HW1.out (by have:=HL.out;omega)).mono ?_
  rintro e w2 ⟨rfl,eE,dK⟩
  have kL:=zh eE;have es:=zh (rV.out.trans dK)
  clear eE dK
  go_wp2_with fail
  refine(HB.out _ w2 es.out kL.out (by have h:=HL.out;simp only [List.length_append,List.length_cons,List.length_nil];omega)).mono ?_
  rintro e w3 ⟨rfl,R,mO,lr,fI⟩
  have tA:=zh mO;have ES:=zh lr;have jp:=zh (es.out.trans fI)
  clear mO fI lr
  go_wp2_with fail
  refine(ow.out _ _ w3 tA.out (by have h:=HL.out;have h2:=ES.out.len;have h3:=Cx.out;simp only [List.length_append,List.length_cons,List.length_nil];omega)).mono ?_
  rintro e w4 ⟨rfl,GX,qF⟩
  have VK:=zh GX
  have YH:=zh (ES.out.same qF (fun k hk e=>e (HF.out k hk)))
  have vj:=zh (jp.out.trans qF)
  clear GX qF
  go_wp2_with fail
  go_end0
  rw [qq.out]
  refine⟨rfl,jt [40]::(R++[jt [41]]),?_,⟨_,_,rfl,rfl,YH.out.app ⟨_,[],rfl,rfl,rfl⟩⟩,vj.out⟩
  have h:=VK.out
  simp only [List.append_assoc,List.cons_append,List.nil_append] at h ⊢
  exact h
 ·have qq:Hid (OP=P):=zh (by rw [HO.out,if_neg hlt])
  have y1:decide ((least:Int)≤(lv:Int))=true:=zd (by omega)
  have y2:decide ((lv:Int)≥(least:Int))=true:=zd (by omega)
  have y3:decide (least≤lv)=true:=zd (by omega)
  clear hlt
  go_wp2_with fail
  refine(HB.out _ w1 rV.out HW1.out (by have h:=HL.out;omega)).mono ?_
  rintro e w3 ⟨rfl,R,mO,lr,fI⟩
  have tA:=zh mO;have ES:=zh lr;have jp:=zh (rV.out.trans fI)
  clear mO fI lr
  go_wp2_with fail
  go_end0
  rw [qq.out]
  exact⟨rfl,R,tA.out,ES.out,jp.out⟩
mutual
def RSt (F:Nat→Prop) (w:World):Sx→List Value→Prop
 | .mk op nm md nu ys ks ps,q=>∃pk ck rows,q = [.int .i64 op,aw nm,aw md,aw (Zd.txtL nu),.bool ys,.slice pk ks.length ck,.int .i64 ps]∧GAt 7 w pk rows∧LsU F w ks rows∧(ks≠[]→∃a,pk=some a∧F a.block)
def LsU (F:Nat→Prop) (w:World):List Sx→List (List Value)→Prop
 | [],r=>r = []
 | x::l,r=>∃q r',r=q::r'∧RSt F w x q∧LsU F w l r'
end
theorem RSt.len {F:Nat→Prop} {w:World}:∀ {x:Sx} {q:List Value},RSt F w x q→q.length=7
 | .mk op nm md nu ys ks ps,q,h=>by
   simp only [RSt] at h
   obtain⟨pk,ck,rows,rfl,-⟩:=h
   rfl
theorem LsU.len {F:Nat→Prop} {w:World}:∀ {l:List Sx} {r:List (List Value)},LsU F w l r→r.length=l.length
 | [],r,h=>by simp only [LsU] at h;rw [h];rfl
 | x::l,r,h=>by
   simp only [LsU] at h
   obtain⟨q,r',rfl,-,h2⟩:=h
   rw [List.length_cons,LsU.len h2];rfl
theorem LsU.snoc {F:Nat→Prop} {w:World} {x:Sx} {q:List Value} (hx:RSt F w x q):∀ {l:List Sx} {r:List (List Value)},LsU F w l r→LsU F w (l++[x]) (r++[q])
 | [],r,h=>by simp only [LsU] at h;subst h;simp only [List.nil_append,LsU];exact⟨q,[],rfl,hx,rfl⟩
 | y::l,r,h=>by
   simp only [LsU] at h
   obtain⟨q',r',rfl,h1,h2⟩:=h
   simp only [List.cons_append,LsU]
   exact⟨q',_,rfl,h1,LsU.snoc hx h2⟩
theorem Hq {S F:Nat→Prop} {w w':World} {p:Option Addr} {rows:List (List Value)} {n:Nat} (hr:rows.length=n) (h:GAt 7 w p rows) (hF:0<n→∃a,p=some a∧F a.block) (hg:Fr2 S w w') (hS:∀k,F k→¬S k):GAt 7 w' p rows:=
 h.keptS hg (fun h0 a ha=>by
  obtain⟨b,hb,h1⟩:=hF (by have:=List.length_pos_iff.2 h0;omega)
  rw [ha] at hb;injection hb with hb;subst hb;exact hS _ h1)
mutual
theorem RSt.same {F S:Nat→Prop} {w w':World} (hg:Fr2 S w w') (hS:∀k,F k→¬S k):∀ {x:Sx} {q:List Value},RSt F w x q→RSt F w' x q
 | .mk op nm md nu ys ks ps,q,h=>by
   simp only [RSt] at h ⊢
   obtain⟨pk,ck,rows,h1,h3,h4,h5⟩:=h
   exact⟨pk,ck,rows,h1,Hq h4.len h3 (fun h0=>h5 (List.length_pos_iff.1 h0)) hg hS,LsU.same hg hS h4,h5⟩
theorem LsU.same {F S:Nat→Prop} {w w':World} (hg:Fr2 S w w') (hS:∀k,F k→¬S k):∀ {l:List Sx} {r:List (List Value)},LsU F w l r→LsU F w' l r
 | [],r,h=>by simp only [LsU] at h ⊢;exact h
 | x::l,r,h=>by
   simp only [LsU] at h ⊢
   obtain⟨q,r',h1,h2,h3⟩:=h
   exact⟨q,r',h1,RSt.same hg hS h2,LsU.same hg hS h3⟩
end
mutual
theorem RSt.mono {F F':Nat→Prop} {w:World} (hF:∀k,F k→F' k):∀ {x:Sx} {q:List Value},RSt F w x q→RSt F' w x q
 | .mk op nm md nu ys ks ps,q,h=>by
   simp only [RSt] at h ⊢
   obtain⟨pk,ck,rows,h1,h3,h4,h5⟩:=h
   exact⟨pk,ck,rows,h1,h3,LsU.mono hF h4,fun h0=>by obtain⟨a,ha,h6⟩:=h5 h0;exact⟨a,ha,hF _ h6⟩⟩
theorem LsU.mono {F F':Nat→Prop} {w:World} (hF:∀k,F k→F' k):∀ {l:List Sx} {r:List (List Value)},LsU F w l r→LsU F' w l r
 | [],r,h=>by simp only [LsU] at h ⊢;exact h
 | x::l,r,h=>by
   simp only [LsU] at h ⊢
   obtain⟨q,r',h1,h2,h3⟩:=h
   exact⟨q,r',h1,RSt.mono hF h2,LsU.mono hF h3⟩
end
theorem LsU.kept {F:Nat→Prop} {w w':World} {l:List Sx} {r:List (List Value)} (h:LsU F w l r) (hg:w.grownBy w' none):LsU F w' l r:=LsU.same (S:=fun _=>False) (Fr2.none hg) (fun _ _ h=>h) h
set_option maxHeartbeats 4000000
def PAt (F:Nat→Prop) (w:World) (f:Fx) (q:List Value):Prop:=∃pc cc rows,q = [aw f.nm,.int .i64 (f.base:Int),.slice pc f.cl.length cc,.int .i64 (f.ps:Int),.int .i64 f.bare]∧GAt 8 w pc rows∧LsE F w f.cl rows∧(f.cl≠[]→∃a,pc=some a∧F a.block)
theorem PAt.same {F S:Nat→Prop} {w w':World} {f:Fx} {q:List Value} (hg:Fr2 S w w') (hS:∀k,F k→¬S k) (h:PAt F w f q):PAt F w' f q:=by
 obtain⟨pc,cc,rows,h1,h2,h3,h4⟩:=h
 exact⟨pc,cc,rows,h1,Ce (nP h3) h2 (fun h0=>h4 (List.length_pos_iff.1 h0)) hg hS,LsE.same hg hS h3,h4⟩
theorem PAt.mono {F F':Nat→Prop} {w:World} {f:Fx} {q:List Value} (hF:∀k,F k→F' k) (h:PAt F w f q):PAt F' w f q:=by
 obtain⟨pc,cc,rows,h1,h2,h3,h4⟩:=h
 exact⟨pc,cc,rows,h1,h2,LsE.mono hF h3,fun h0=>by obtain⟨a,ha,h5⟩:=h4 h0;exact⟨a,ha,hF _ h5⟩⟩
theorem PAt.kept {F:Nat→Prop} {w w':World} {f:Fx} {q:List Value} (h:PAt F w f q) (hg:w.grownBy w' none):PAt F w' f q:=PAt.same (S:=fun _=>False) (Fr2.none hg) (fun _ _ h=>h) h
theorem PAt.bound {F:Nat→Prop} {w:World} {f:Fx} {q:List Value} (h:PAt F w f q):PAt (fun k=>F k∧k<w.heap.size) w f q:=by
 obtain⟨pc,cc,rows,h1,h2,h3,h4⟩:=h
 refine⟨pc,cc,rows,h1,h2,LsE.bound h3,fun h0=>?_⟩
 obtain⟨a,ha,h5⟩:=h4 h0
 have hr:=nP h3
 exact⟨a,ha,h5,GAt.blk h2 (fun e=>by rw [e] at hr;exact h0 (List.eq_nil_of_length_eq_zero hr.symm)) a ha⟩
theorem PAt.form {F:Nat→Prop} {w:World} {f:Fx} {q:List Value} (h:PAt F w f q):∃pc nc cc,q = [.string ⟨f.nm.toArray⟩,.int .i64 (f.base:Int),.slice pc nc cc,.int .i64 (f.ps:Int),.int .i64 f.bare]:=by
 obtain⟨pc,cc,rows,rfl,-⟩:=h
 exact⟨pc,_,cc,rfl⟩
theorem PAt.turn {F:Nat→Prop} {w:World} {f:Fx} {a b c d:Value} {pc:Option Addr} {nc cc:Nat} (h:PAt F w f [a,b,.slice pc nc cc,c,d]) (nm:List UInt8) (base ps:Nat) (bare:Int):PAt F w { f with nm:=nm,base:=base,ps:=ps,bare:=bare } [.string ⟨nm.toArray⟩,.int .i64 (base:Int),.slice pc nc cc,.int .i64 (ps:Int),.int .i64 bare]:=by
 obtain⟨pc',cc',rows,h1,h2,h3,h4⟩:=h
 injection h1 with _ h1;injection h1 with _ h1;injection h1 with h1 _;injection h1 with h5 h6 h7
 subst h5 h6 h7
 exact⟨_,_,rows,rfl,h2,h3,h4⟩
def Fl (x:Fx) (w:World) (e:Ending) (w':World):Prop:=w.grownBy w' none∧∃q,e=.returned (.agg q.toArray)∧PAt (fun k=>w.heap.size≤k) w' x q
def OkK (T:List Tok):Tr→Prop
 | .lf _=>True
 | .nd k l=>(k=5→∃b,l = [.lf b])∧(k=6→∃i e j,l = [.lf i,e,.lf j]∧isN e=true∧WE T e)
theorem XT (x:ByteArray) (w:World):Calls Tryz.prog 123 #[.string x] w (aR (.int .i64 (rd x.data.toList:Int)) w):=by
 by_cases h:x.data.toList=P7
 ·have e1:(x.toList == [105,110,116])=true:=by rw [toList_data,h];rfl
  have hb:rd x.data.toList=1:=by unfold rd;rw [if_pos h]
  rw [hb]
  clear h hb
  go_enter Tryz.func123,Tryz.ntmps123
  go_wp2_with fail
  go_ret
  exact⟨rfl,ad _ _⟩
 ·have e1:(x.toList == [105,110,116])=false:=by rw [toList_data];exact beq_eq_false_iff_ne.2 h
  have hb:rd x.data.toList=2:=by unfold rd;rw [if_neg h]
  rw [hb]
  clear h hb
  go_enter Tryz.func123,Tryz.ntmps123
  go_wp2_with fail
  go_ret
  exact⟨rfl,ad _ _⟩
theorem Td {W:World} {B:Nat} {T:TypeId} {x0 x1 x2 x3 x4:Value} (h0:W.heap[B]? = some (.cells #[x0,x1,x2,x3,x4] T (0,0))) (a b c d e:Value):(((((W.setCell ⟨B,0,none⟩ a).setCell ⟨B,1,none⟩ b).setCell ⟨B,2,none⟩ c).setCell ⟨B,3,none⟩ d).setCell ⟨B,4,none⟩ e).heap[B]? = some (.cells #[a,b,c,d,e] T (0,0))∧Fr2 (ez B) W (((((W.setCell ⟨B,0,none⟩ a).setCell ⟨B,1,none⟩ b).setCell ⟨B,2,none⟩ c).setCell ⟨B,3,none⟩ d).setCell ⟨B,4,none⟩ e):=by
 have h1:(W.setCell ⟨B,0,none⟩ a).heap[B]? = some (.cells #[a,x1,x2,x3,x4] T (0,0)):=ab (i:=0) (u:=a) h0
 have h2:((W.setCell ⟨B,0,none⟩ a).setCell ⟨B,1,none⟩ b).heap[B]? = some (.cells #[a,b,x2,x3,x4] T (0,0)):=ab (i:=1) (u:=b) h1
 have h3:(((W.setCell ⟨B,0,none⟩ a).setCell ⟨B,1,none⟩ b).setCell ⟨B,2,none⟩ c).heap[B]? = some (.cells #[a,b,c,x3,x4] T (0,0)):=ab (i:=2) (u:=c) h2
 have h4:((((W.setCell ⟨B,0,none⟩ a).setCell ⟨B,1,none⟩ b).setCell ⟨B,2,none⟩ c).setCell ⟨B,3,none⟩ d).heap[B]? = some (.cells #[a,b,c,d,x4] T (0,0)):=ab (i:=3) (u:=d) h3
 have h5:(((((W.setCell ⟨B,0,none⟩ a).setCell ⟨B,1,none⟩ b).setCell ⟨B,2,none⟩ c).setCell ⟨B,3,none⟩ d).setCell ⟨B,4,none⟩ e).heap[B]? = some (.cells #[a,b,c,d,e] T (0,0)):=ab (i:=4) (u:=e) h4
 exact⟨h5,(Fr2.setCell (Fr2.setCell (Fr2.setCell (Fr2.setCell (Fr2.setCell (Fr2.refl (ez B) W) (g:=B) (j:=0) (bh B) a) (g:=B) (j:=1) (bh B) b) (g:=B) (j:=2) (bh B) c) (g:=B) (j:=3) (bh B) d) (g:=B) (j:=4) (bh B) e)⟩
theorem fj {w:World} {r:Nat} {a b c d e:Value} {T:TypeId} (h0:w.heap[r]? = some (.cells #[a,b,c,d,e] T (0,0))):w.cell? ⟨r,0,none⟩=some a∧w.cell? ⟨r,1,none⟩=some b∧w.cell? ⟨r,2,none⟩=some c∧w.cell? ⟨r,3,none⟩=some d∧w.cell? ⟨r,4,none⟩=some e∧∀o,w.frozen? ⟨r,o,none⟩=false:=
 ⟨by rw [cell_of_row w r 0 _ T (0,0) h0];rfl,by rw [cell_of_row w r 1 _ T (0,0) h0];rfl,by rw [cell_of_row w r 2 _ T (0,0) h0];rfl,by rw [cell_of_row w r 3 _ T (0,0) h0];rfl,by rw [cell_of_row w r 4 _ T (0,0) h0];rfl,fun o=>by simp [World.frozen?,h0]⟩
theorem Qc {w:World} {z:Nat} {q:List Value} {T:TypeId} {k:Nat} (h:w.heap[z]? = some (.cells q.toArray T (0,0))):GAt k w (some ⟨z,0,none⟩) [q]:=by
 refine .inr ⟨z,0,rfl,hlt h,fun j q' hj i v hi=>?_⟩
 match j,hj with
 | 0,hj=>
   simp at hj;subst hj
   rw [show 0+0*k+i=i by omega,cell_of_row w z i _ T (0,0) h,List.getElem?_toArray]
   exact hi
theorem AG (T:List Tok) {l:List Tr} {j:Nat} {t:Tr} (h:l[j]? = some t):eH T (l.take (j+1))=wy T (eH T (l.take j)) t:=by
 unfold eH
 rw [gV h,List.foldl_append];rfl
end Go.Proofs.YtjbgnopnehgbaaaGreatDoor
