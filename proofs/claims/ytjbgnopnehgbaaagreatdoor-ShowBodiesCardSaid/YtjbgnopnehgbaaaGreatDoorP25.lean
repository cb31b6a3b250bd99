/- Lemmas. -/
import Derived.Test.YtjbgnopnehgbaaaGreatDoorP22
set_option linter.unusedVariables false
set_option linter.unusedSimpArgs false
set_option maxHeartbeats 16000000
set_option maxRecDepth 100000
namespace Go.Proofs.YtjbgnopnehgbaaaGreatDoor
open Go.RowKit
theorem um {p:Prop} {w w':World} {b:Bool} (hg:w.grownBy w' none) (h:b=true↔p):n8 p w (.returned (.bool b)) w':=⟨hg,b,rfl,h⟩
theorem uy {α : Type} {l l':List α} {m:Nat} (h1:l.length=m) (h2:l'.length=m) (h:∀i,i<m→l[i]? = l'[i]?):l=l':=by
 refine List.ext_getElem? fun i=>?_
 rcases Nat.lt_or_ge i m with hi | hi
 ·exact h i hi
 ·rw [List.getElem?_eq_none (by omega),List.getElem?_eq_none (by omega)]
theorem Cd {a b:List UInt8} (h:a≠b):((⟨a.toArray⟩:ByteArray).toList == (⟨b.toArray⟩:ByteArray).toList)=false:=by
 rw [toList_data,toList_data];exact beq_eq_false_iff_ne.2 h
theorem Ak {a b:List UInt8} (h:a=b):((⟨a.toArray⟩:ByteArray).toList == (⟨b.toArray⟩:ByteArray).toList)=true:=by rw [h];exact beq_self_eq_true _
theorem Ie (T T':List iN) (hT:T.length≤150000) (Yx:T'.length≤150000) (p p':Option Addr) (c c':Nat) (w:World) (h:eQ w p T) (h':eQ w p' T'):
  Calls Tryz.prog 88 #[.slice p T.length c,.slice p' T'.length c'] w (n8 (T=T') w):=by
 have HA:=zh h;have HB:=zh h'
 obtain⟨m,hm⟩:∃m,T.length=m:=⟨_,rfl⟩
 obtain⟨m',vG⟩:∃m',T'.length=m':=⟨_,rfl⟩
 have HM:=zh hm;have Ej:=zh vG
 rw [hm] at hT ⊢
 rw [vG] at Yx ⊢
 clear h h' hm vG
 by_cases hmm:m=m'
 ·subst hmm
  go_enter Tryz.func88,Tryz.ntmps88
  go_wp2_with fail
  go_loopw [13] (fun iv wr=>∃j:Nat,j≤m∧iv=.int .i64 (j:Int)∧Hid (w.grownBy wr none)∧Hid (∀i,i<j→T[i]? = T'[i]?)) (fun iv _=>m - (intOf iv).toNat)
  case atStart=>exact⟨0,Nat.zero_le _,rfl,ad _ _,zh (fun i hi=>by omega)⟩
  case round=>
   obtain⟨j,hj,rfl,HG,HE⟩:=hrel
   by_cases hlt:j<m
   ·obtain⟨t,ht⟩:∃t,T[j]? = some t:=⟨T[j]'(by rw [HM.out];exact hlt),List.getElem?_eq_getElem _⟩
    obtain⟨u,hu⟩:∃u,T'[j]? = some u:=⟨T'[j]'(by rw [Ej.out];exact hlt),List.getElem?_eq_getElem _⟩
    obtain⟨g,off,rfl,gc,t0,t1,t2,t3⟩:=De (HA.out.kept HG.out) ht
    obtain⟨g',Ob,rfl,abV,u0,u1,u2,u3⟩:=De (HB.out.kept HG.out) hu
    have y1:(0:Int)≤(j:Int):=by omega
    have y2:(j:Int)<(m:Int):=by omega
    have y3:decide (j<m)=true:=zd hlt
    have y4:decide ((j:Int)<(m:Int))=true:=zd y2
    have HTU:Hid (T[j]? = some t∧T'[j]? = some u):=zh ⟨ht,hu⟩
    have DP:Hid (t≠u→¬T=T'):=zh (fun bl e=>by rw [e,hu] at ht;injection ht with ht;exact bl ht.symm)
    have Sa:Hid (t=u→∀i,i<j+1→T[i]? = T'[i]?):=zh (fun e i hi=>by
     rcases Nat.lt_or_ge i j with h1 | h1
     ·exact HE.out i h1
     ·obtain rfl:i=j:=by omega
      rw [ht,hu,e])
    clear ht hu
    obtain⟨tk,tl,tx,tp⟩:=t
    obtain⟨uk,ul,ux,up⟩:=u
    unfold aw at t1 t2 u1 u2
    simp only at t0 t1 t2 t3 u0 u1 u2 u3
    by_cases k0:tk=uk
    ·have q0:(tk == uk)=true:=beq_iff_eq.2 k0
     by_cases k1:tl=ul
     ·have q1:=Ak k1
      by_cases k2:tx=ux
      ·have q2:=Ak k2
       by_cases k3:tp=up
       ·have q3:(tp == up)=true:=beq_iff_eq.2 k3
        have HJ:=zh (Sa.out (by rw [k0,k1,k2,k3]))
        clear k0 k1 k2 k3
        generalize (⟨tl.toArray⟩:ByteArray)=le at *
        generalize (⟨tx.toArray⟩:ByteArray)=te at *
        generalize (⟨ul.toArray⟩:ByteArray)=le' at *
        generalize (⟨ux.toArray⟩:ByteArray)=te' at *
        go_wp2_with fail
        go_quiet (fail)
        go_wp2_with fail
        go_roundw
        case rel=>exact⟨j+1,by omega,by go_num,zh (ap HG.out _),HJ⟩
        case measure=>simp [intOf];omega
       ·have q3:(tp == up)=false:=beq_eq_false_iff_ne.2 k3
        have HJ:=zh (DP.out (fun e=>by injection e;contradiction))
        clear k0 k1 k2 k3
        generalize (⟨tl.toArray⟩:ByteArray)=le at *
        generalize (⟨tx.toArray⟩:ByteArray)=te at *
        generalize (⟨ul.toArray⟩:ByteArray)=le' at *
        generalize (⟨ux.toArray⟩:ByteArray)=te' at *
        go_wp2_with fail
        go_quiet (fail)
        go_wp2_with fail
        go_ret
        exact dB (ap HG.out _) HJ.out
      ·have q2:=Cd k2
       have HJ:=zh (DP.out (fun e=>by injection e;contradiction))
       clear k0 k1 k2
       generalize (⟨tl.toArray⟩:ByteArray)=le at *
       generalize (⟨tx.toArray⟩:ByteArray)=te at *
       generalize (⟨ul.toArray⟩:ByteArray)=le' at *
       generalize (⟨ux.toArray⟩:ByteArray)=te' at *
       go_wp2_with fail
       go_quiet (fail)
       go_wp2_with fail
       go_ret
       exact dB (ap HG.out _) HJ.out
     ·have q1:=Cd k1
      have HJ:=zh (DP.out (fun e=>by injection e;contradiction))
      clear k0 k1
      generalize (⟨tl.toArray⟩:ByteArray)=le at *
      generalize (⟨tx.toArray⟩:ByteArray)=te at *
      generalize (⟨ul.toArray⟩:ByteArray)=le' at *
      generalize (⟨ux.toArray⟩:ByteArray)=te' at *
      go_wp2_with fail
      go_quiet (fail)
      go_wp2_with fail
      go_ret
      exact dB (ap HG.out _) HJ.out
    ·have q0:(tk == uk)=false:=beq_eq_false_iff_ne.2 k0
     have HJ:=zh (DP.out (fun e=>by injection e;contradiction))
     clear k0
     generalize (⟨tl.toArray⟩:ByteArray)=le at *
     generalize (⟨tx.toArray⟩:ByteArray)=te at *
     generalize (⟨ul.toArray⟩:ByteArray)=le' at *
     generalize (⟨ux.toArray⟩:ByteArray)=te' at *
     go_wp2_with fail
     go_quiet (fail)
     go_wp2_with fail
     go_ret
     exact dB (ap HG.out _) HJ.out
   ·obtain rfl:j=m:=by omega
    go_wp2_with fail
    go_ret
    exact um HG.out ⟨fun _=>uy HM.out Ej.out HE.out,fun _=>rfl⟩
 ·have d1:((m:Int) != (m':Int))=true:=bne_iff_ne.2 (by omega)
  have d2:(m != m')=true:=bne_iff_ne.2 hmm
  have d3:((m:Int) == (m':Int))=false:=beq_eq_false_iff_ne.2 (by omega)
  have d4:(m == m')=false:=beq_eq_false_iff_ne.2 hmm
  have HJ:Hid (¬T=T'):=zh (fun e=>hmm (by rw [←HM.out,←Ej.out,e]))
  clear hmm
  go_enter Tryz.func88,Tryz.ntmps88
  go_wp2_with fail
  go_ret
  exact dB (ad _ _) HJ.out
theorem IV (l l':List Int) (hl:l.length≤150000) (Yp:l'.length≤150000) (p p':Option Addr) (c c':Nat) (w:World) (h:VAt w p (bo l)) (h':VAt w p' (bo l')):
  Calls Tryz.prog 122 #[.slice p l.length c,.slice p' l'.length c'] w (n8 (l=l') w):=by
 have HA:=zh h;have HB:=zh h'
 obtain⟨m,hm⟩:∃m,l.length=m:=⟨_,rfl⟩
 obtain⟨m',vG⟩:∃m',l'.length=m':=⟨_,rfl⟩
 have HM:=zh hm;have Ej:=zh vG
 rw [hm] at hl ⊢
 rw [vG] at Yp ⊢
 clear h h' hm vG
 by_cases hmm:m=m'
 ·subst hmm
  go_enter Tryz.func122,Tryz.ntmps122
  go_wp2_with fail
  go_loopw [13] (fun iv wr=>∃j:Nat,j≤m∧iv=.int .i64 (j:Int)∧Hid (w.grownBy wr none)∧Hid (∀i,i<j→l[i]? = l'[i]?)) (fun iv _=>m - (intOf iv).toNat)
  case atStart=>exact⟨0,Nat.zero_le _,rfl,ad _ _,zh (fun i hi=>by omega)⟩
  case round=>
   obtain⟨j,hj,rfl,HG,HE⟩:=hrel
   by_cases hlt:j<m
   ·obtain⟨x,hx⟩:∃x,l[j]? = some x:=⟨l[j]'(by rw [HM.out];exact hlt),List.getElem?_eq_getElem _⟩
    obtain⟨y,hy⟩:∃y,l'[j]? = some y:=⟨l'[j]'(by rw [Ej.out];exact hlt),List.getElem?_eq_getElem _⟩
    obtain⟨g,off,rfl,gc,t0⟩:=gW (HA.out.kept HG.out) hx
    obtain⟨g',Ob,rfl,abV,u0⟩:=gW (HB.out.kept HG.out) hy
    have y1:(0:Int)≤(j:Int):=by omega
    have y2:(j:Int)<(m:Int):=by omega
    have y3:decide (j<m)=true:=zd hlt
    have y4:decide ((j:Int)<(m:Int))=true:=zd y2
    by_cases k0:x=y
    ·have q0:(x == y)=true:=beq_iff_eq.2 k0
     have q1:(x != y)=false:=by rw [bne,q0];rfl
     have HJ:Hid (∀i,i<j+1→l[i]? = l'[i]?):=zh (fun i hi=>by
      rcases Nat.lt_or_ge i j with h1 | h1
      ·exact HE.out i h1
      ·obtain rfl:i=j:=by omega
       rw [hx,hy,k0])
     clear k0 hx hy
     go_wp2_with fail
     go_quiet (fail)
     go_wp2_with fail
     go_roundw
     case rel=>exact⟨j+1,by omega,by go_num,zh (ap HG.out _),HJ⟩
     case measure=>simp [intOf];omega
    ·have q0:(x == y)=false:=beq_eq_false_iff_ne.2 k0
     have q1:(x != y)=true:=bne_iff_ne.2 k0
     have HJ:Hid (¬l=l'):=zh (fun e=>by rw [e,hy] at hx;injection hx with hx;exact k0 hx.symm)
     clear k0 hx hy
     go_wp2_with fail
     go_quiet (fail)
     go_wp2_with fail
     go_ret
     exact dB (ap HG.out _) HJ.out
   ·obtain rfl:j=m:=by omega
    go_wp2_with fail
    go_ret
    exact um HG.out ⟨fun _=>uy HM.out Ej.out HE.out,fun _=>rfl⟩
 ·have d1:((m:Int) != (m':Int))=true:=bne_iff_ne.2 (by omega)
  have d2:(m != m')=true:=bne_iff_ne.2 hmm
  have d3:((m:Int) == (m':Int))=false:=beq_eq_false_iff_ne.2 (by omega)
  have d4:(m == m')=false:=beq_eq_false_iff_ne.2 hmm
  have HJ:Hid (¬l=l'):=zh (fun e=>hmm (by rw [←HM.out,←Ej.out,e]))
  clear hmm
  go_enter Tryz.func122,Tryz.ntmps122
  go_wp2_with fail
  go_ret
  exact dB (ad _ _) HJ.out
theorem Cm (k t k' t':Int) (l l':List Int) (hl:l.length≤150000) (Yp:l'.length≤150000) (p p':Option Addr) (c c':Nat) (w:World) (h:VAt w p (bo l)) (h':VAt w p' (bo l')):
  Calls Tryz.prog 90 #[.agg #[.int .i64 k,.int .i64 t,.slice p l.length c],.agg #[.int .i64 k',.int .i64 t',.slice p' l'.length c']] w (n8 (k=k'∧t=t'∧l=l') w):=by
 have HE:=zh (fun W h1 h2=>IV l l' hl Yp p p' c c' W h1 h2)
 have HA:=zh h;have HB:=zh h'
 generalize l.length=m at *
 generalize l'.length=m' at *
 clear h h' hl Yp
 by_cases k0:k=k'
 ·have q0:(k == k')=true:=beq_iff_eq.2 k0
  by_cases k1:t=t'
  ·have q1:(t == t')=true:=beq_iff_eq.2 k1
   have HK:Hid (k=k'∧t=t'):=zh ⟨k0,k1⟩
   clear k0 k1
   go_enter Tryz.func90,Tryz.ntmps90
   go_wp2_with fail
   refine(HE.out _ (HA.out.kept (ae (ae (ad _ _) _) _)) (HB.out.kept (ae (ae (ad _ _) _) _))).mono ?_
   rintro e w1 ⟨bI,b,rfl,hb⟩
   have cZ:=zh (aa (ae (ae (ad w _) _) _) bI)
   have fL:=zh hb
   clear bI HE hb
   go_wp2_with fail
   go_ret
   exact um cZ.out ⟨fun h=>⟨HK.out.1,HK.out.2,fL.out.1 h⟩,fun h=>fL.out.2 h.2.2⟩
  ·have q1:(t == t')=false:=beq_eq_false_iff_ne.2 k1
   have HK:Hid (¬(k=k'∧t=t'∧l=l')):=zh (fun h=>k1 h.2.1)
   clear k0 k1
   go_enter Tryz.func90,Tryz.ntmps90
   go_wp2_with fail
   go_ret
   exact dB (ae (ae (ad _ _) _) _) HK.out
 ·have q0:(k == k')=false:=beq_eq_false_iff_ne.2 k0
  have HK:Hid (¬(k=k'∧t=t'∧l=l')):=zh (fun h=>k0 h.1)
  clear k0
  go_enter Tryz.func90,Tryz.ntmps90
  go_wp2_with fail
  go_ret
  exact dB (ae (ae (ad _ _) _) _) HK.out
theorem aaC {x y:Nd} (h:x.kind=y.kind∧x.tok=y.tok∧x.kids=y.kids):x=y:=by
 obtain⟨a,b,c⟩:=x;obtain⟨a',b',c'⟩:=y
 simp only at h
 obtain⟨rfl,rfl,rfl⟩:=h;rfl
theorem D4 (N N':List Nd) (K K':Kf) (hN:N.length≤150000) (hN':N'.length≤150000) (hk:∀(i:Nat) (x:Nd),N[i]? = some x→x.kids.length≤150000) (Uu:∀(i:Nat) (x:Nd),N'[i]? = some x→x.kids.length≤150000) (p p':Option Addr) (c c':Nat) (w:World) (h:aE w p N K) (h':aE w p' N' K'):
  Calls Tryz.prog 89 #[.slice p N.length c,.slice p' N'.length c',.func (.func 90) #[] #[]] w (n8 (N=N') w):=by
 have HA:=zh h;have HB:=zh h';have HK:=zh hk;have HK':=zh Uu
 obtain⟨m,hm⟩:∃m,N.length=m:=⟨_,rfl⟩
 obtain⟨m',vG⟩:∃m',N'.length=m':=⟨_,rfl⟩
 have HM:=zh hm;have Ej:=zh vG
 rw [hm] at hN ⊢
 rw [vG] at hN' ⊢
 clear h h' hm vG hk Uu
 by_cases hmm:m=m'
 ·subst hmm
  go_enter Tryz.func89,Tryz.ntmps89
  go_wp2_with fail
  go_loopw [17] (fun iv wr=>∃j:Nat,j≤m∧iv=.int .i64 (j:Int)∧Hid (w.grownBy wr none)∧Hid (∀i,i<j→N[i]? = N'[i]?)) (fun iv _=>m - (intOf iv).toNat)
  case atStart=>exact⟨0,Nat.zero_le _,rfl,ad _ _,zh (fun i hi=>by omega)⟩
  case round=>
   obtain⟨j,hj,rfl,HG,HE⟩:=hrel
   by_cases hlt:j<m
   ·obtain⟨x,hx⟩:∃x,N[j]? = some x:=⟨N[j]'(by rw [HM.out];exact hlt),List.getElem?_eq_getElem _⟩
    obtain⟨y,hy⟩:∃y,N'[j]? = some y:=⟨N'[j]'(by rw [Ej.out];exact hlt),List.getElem?_eq_getElem _⟩
    have HAr:=zh (HA.out.kept HG.out);have HBr:=zh (HB.out.kept HG.out)
    obtain⟨g,off,rfl,gc,t0,t1,t2⟩:=mY HAr.out hx
    obtain⟨g',Ob,rfl,abV,u0,u1,u2⟩:=mY HBr.out hy
    have y1:(0:Int)≤(j:Int):=by omega
    have y2:(j:Int)<(m:Int):=by omega
    have y3:decide (j<m)=true:=zd hlt
    have y4:decide ((j:Int)<(m:Int))=true:=zd y2
    have HS:=zh (fun W h1 h2=>Cm x.kind x.tok y.kind y.tok x.kids y.kids (HK.out j x hx) (HK'.out j y hy) (K j).1 (K' j).1 (K j).2 (K' j).2 W h1 h2)
    have HV:=zh (HAr.out.2 j x hx);have HV':=zh (HBr.out.2 j y hy)
    obtain⟨P,hP⟩:∃P:Prop,(x.kind=y.kind∧x.tok=y.tok∧x.kids=y.kids)=P:=⟨_,rfl⟩
    have DP:Hid (¬P→¬N=N'):=zh (fun bl e=>bl (by rw [e,hy] at hx;injection hx with hx;rw [←hP,hx];exact⟨rfl,rfl,rfl⟩))
    have Sa:Hid (P→∀i,i<j+1→N[i]? = N'[i]?):=zh (fun e i hi=>by
     rcases Nat.lt_or_ge i j with h1 | h1
     ·exact HE.out i h1
     ·obtain rfl:i=j:=by omega
      rw [hx,hy,aaC (x:=x) (y:=y) (by rw [hP];exact e)])
    rw [hP] at HS
    clear hx hy hP
    generalize (K j).1=pk at *
    generalize (K j).2=ck at *
    generalize (K' j).1=pk' at *
    generalize (K' j).2=ck' at *
    generalize x.kids.length=kl at *
    generalize y.kids.length=kl' at *
    generalize x.kind=xk at *
    generalize x.tok=xt at *
    generalize y.kind=yk at *
    generalize y.tok=yt at *
    have v0:=(World.grownBy_alloc wr (.cells #[.int .i64 xk,.int .i64 xt,.slice pk kl ck] 152) none).cell u0 (by simp)
    have v1:=(World.grownBy_alloc wr (.cells #[.int .i64 xk,.int .i64 xt,.slice pk kl ck] 152) none).cell u1 (by simp)
    have v2:=(World.grownBy_alloc wr (.cells #[.int .i64 xk,.int .i64 xt,.slice pk kl ck] 152) none).cell u2 (by simp)
    go_wp2_with fail
    refine(HS.out _ (HV.out.kept (ae (ae (ad _ _) _) _)) (HV'.out.kept (ae (ae (ad _ _) _) _))).mono ?_
    rintro e w1 ⟨bI,b,rfl,hb⟩
    have cZ:=zh (aa HG.out (aa (ae (ae (ad wr _) _) _) bI))
    have fL:=zh hb
    clear bI HS hb
    cases b
    ·go_wp2_with fail
     go_ret
     exact dB cZ.out (DP.out (fun h=>by have:=fL.out.2 h;cases this))
    ·go_wp2_with fail
     go_roundw
     case rel=>exact⟨j+1,by omega,by go_num,cZ,zh (Sa.out (fL.out.1 (by simp)))⟩
     case measure=>simp [intOf];omega
   ·obtain rfl:j=m:=by omega
    go_wp2_with fail
    go_ret
    exact um HG.out ⟨fun _=>uy HM.out Ej.out HE.out,fun _=>rfl⟩
 ·have d1:((m:Int) != (m':Int))=true:=bne_iff_ne.2 (by omega)
  have d2:(m != m')=true:=bne_iff_ne.2 hmm
  have d3:((m:Int) == (m':Int))=false:=beq_eq_false_iff_ne.2 (by omega)
  have d4:(m == m')=false:=beq_eq_false_iff_ne.2 hmm
  have HJ:Hid (¬N=N'):=zh (fun e=>hmm (by rw [←HM.out,←Ej.out,e]))
  clear hmm
  go_enter Tryz.func89,Tryz.ntmps89
  go_wp2_with fail
  go_ret
  exact dB (ad _ _) HJ.out
theorem rI (T T':List iN) (N N':List Nd) (K K':Kf) (hT:T.length≤150000) (Yx:T'.length≤150000) (hN:N.length≤150000) (hN':N'.length≤150000) (hk:∀(i:Nat) (x:Nd),N[i]? = some x→x.kids.length≤150000) (Uu:∀(i:Nat) (x:Nd),N'[i]? = some x→x.kids.length≤150000) (pt lD pn kI:Option Addr) (ct lG cn lN:Nat) (w:World) (ht:eQ w pt T) (ht':eQ w lD T') (h:aE w pn N K) (h':aE w kI N' K'):
  Calls Tryz.prog 48 #[.agg #[.slice pt T.length ct,.slice pn N.length cn],.agg #[.slice lD T'.length lG,.slice kI N'.length lN]] w (n8 (T=T'∧N=N') w):=by
 have HE:=zh (fun W h1 h2=>Ie T T' hT Yx pt lD ct lG W h1 h2)
 have HF:=zh (fun W h1 h2=>D4 N N' K K' hN hN' hk Uu pn kI cn lN W h1 h2)
 have HA:=zh ht;have HB:=zh ht';have HC:=zh h;have HD:=zh h'
 generalize T.length=m at *
 generalize N.length=M at *
 generalize T'.length=m' at *
 generalize N'.length=M' at *
 clear h h' ht ht' hk Uu
 have da:Hid (w.grownBy ((w.alloc (.cells #[.slice pt m ct,.slice pn M cn] 42)).alloc (.cells #[.slice lD m' lG,.slice kI M' lN] 42)) none):=zh (ae (ae (ad _ _) _) _)
 go_enter Tryz.func48,Tryz.ntmps48
 go_wp2_with fail
 refine(HE.out _ (HA.out.kept da.out) (HB.out.kept da.out)).mono ?_
 rintro e w1 ⟨bI,b,rfl,hb⟩
 have cZ:=zh (aa da.out bI)
 obtain⟨W0,b0,b1,hW,e0,e1,ge,ik,-,-⟩:=two w (.cells #[.slice pt m ct,.slice pn M cn] 42) (.cells #[.slice lD m' lG,.slice kI M' lN] 42)
 rw [←hW] at bI
 obtain⟨a0,a1,a2⟩:=ah (bx bI ge)
 obtain⟨c0,c1,c2⟩:=ah (bx bI ik)
 rw [←e0] at a0 a1 a2
 rw [←e1] at c0 c1 c2
 have fL:=zh hb
 clear bI HE ge ik hW e0 e1 hb
 cases b
 ·go_wp2_with fail
  go_ret
  exact dB cZ.out (fun h=>by have:=fL.out.2 h.1;cases this)
 ·go_wp2_with fail
  refine(HF.out _ (HC.out.kept cZ.out) (HD.out.kept cZ.out)).mono ?_
  rintro e w2 ⟨bT,b,rfl,hb⟩
  have cz:=zh (aa cZ.out bT)
  have fu:=zh hb
  clear bT HF hb
  go_wp2_with fail
  go_ret
  exact um cz.out ⟨fun h=>⟨fL.out.1 (by simp),fu.out.1 h⟩,fun h=>fu.out.2 h.2⟩
end Go.Proofs.YtjbgnopnehgbaaaGreatDoor
