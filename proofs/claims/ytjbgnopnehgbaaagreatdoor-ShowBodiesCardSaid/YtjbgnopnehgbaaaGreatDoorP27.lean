/- Lemmas. -/
import Derived.Test.YtjbgnopnehgbaaaGreatDoorP4
import Derived.Test.YtjbgnopnehgbaaaGreatDoorP8
set_option linter.unusedVariables false
set_option linter.unusedSimpArgs false
set_option maxHeartbeats 4000000
set_option maxRecDepth 100000
namespace Go.Proofs.YtjbgnopnehgbaaaGreatDoor
open Go.RowKit
theorem bZ {w:World} {r:Nat} {a b c d e f g h i j:Value} {T:TypeId} (hh:w.heap[r]? = some (.cells #[a,b,c,d,e,f,g,h,i,j] T (0,0))):w.cell? ⟨r,0,none⟩=some a∧w.cell? ⟨r,1,none⟩=some b∧w.cell? ⟨r,2,none⟩=some c∧w.cell? ⟨r,3,none⟩=some d∧w.cell? ⟨r,4,none⟩=some e∧w.cell? ⟨r,5,none⟩=some f∧w.cell? ⟨r,6,none⟩=some g∧w.cell? ⟨r,7,none⟩=some h∧w.cell? ⟨r,8,none⟩=some i∧w.cell? ⟨r,9,none⟩=some j∧∀o,w.frozen? ⟨r,o,none⟩=false:=
 ⟨by rw [cell_of_row w r 0 _ T (0,0) hh];rfl,by rw [cell_of_row w r 1 _ T (0,0) hh];rfl,by rw [cell_of_row w r 2 _ T (0,0) hh];rfl,by rw [cell_of_row w r 3 _ T (0,0) hh];rfl,by rw [cell_of_row w r 4 _ T (0,0) hh];rfl,by rw [cell_of_row w r 5 _ T (0,0) hh];rfl,by rw [cell_of_row w r 6 _ T (0,0) hh];rfl,by rw [cell_of_row w r 7 _ T (0,0) hh];rfl,by rw [cell_of_row w r 8 _ T (0,0) hh];rfl,by rw [cell_of_row w r 9 _ T (0,0) hh];rfl,fun o=>by simp [World.frozen?,hh]⟩
def Tn (b bb:Nat) (vn:Value):Nat→Prop:=fun k=>k=b∨k=bb∨vn.ownBlock=some k
structure Step (b bb:Nat) (vn:Value) (w:World) (bY:Value) (w':World):Prop where
 fr:Fr2 (Tn b bb vn) w w'
 own:∀k,bY.ownBlock=some k→vn.ownBlock=some k∨w.heap.size≤k
theorem Step.refl (b bb:Nat) (vn:Value) (w:World):Step b bb vn w vn w:=⟨Fr2.refl _ _,fun _ h=>.inl h⟩
theorem Step.of {b bb:Nat} {vn:Value} {w w':World} (h:w.grownBy w' none):Step b bb vn w vn w':=⟨Fr2.none h,fun _ h=>.inl h⟩
theorem Step.trans {b bb:Nat} {v0 v1 v2:Value} {w0 w1 w2:World} (h1:Step b bb v0 w0 v1 w1) (h2:Step b bb v1 w1 v2 w2):Step b bb v0 w0 v2 w2:=by
 refine⟨⟨h2.fr.os.trans h1.fr.os,h2.fr.tape.trans h1.fr.tape,h2.fr.output.trans h1.fr.output,Nat.le_trans h1.fr.size h2.fr.size,fun k hk hn=>?_⟩,fun k hk=>?_⟩
 ·rw [h2.fr.block k (zn hk h1.fr.size) ?_,h1.fr.block k hk hn]
  rintro(e | e | e)
  ·exact hn (.inl e)
  ·exact hn (.inr (.inl e))
  ·rcases h1.own k e with h | h
   ·exact hn (.inr (.inr h))
   ·omega
 ·rcases h2.own k hk with h | h
  ·exact h1.own k h
  ·exact .inr (Nat.le_trans h1.fr.size h)
structure XAt (w:World) (b bb:Nat) (T:List Tok) (D n:Nat) (s:St) (u:Nat) (N:List Nd) (vn:Value) (A:Nat→Prop):Prop where
 box:w.heap[b]? = some (.cells #[.pointer (some ⟨bb,0,none⟩),.int .i64 ((an T s).kind:Int),aw (an T s).lead,aw (an T s).text,.int .i64 ((an T s).pos:Int),.int .i64 (D:Int),.int .i64 (n:Int),.bool s.inn,.int .i64 (s.e:Int),.int .i64 (s.pos:Int)] 107 (0,0))
 bld:kX w bb T u N vn A
 far:∀k,A k→b<k
 new:∀k,w.heap.size≤k→A k
 lt:bb<b
 own:∀k,vn.ownBlock=some k→b<k∧k<w.heap.size
 ok:s.i<T.length
 few:N.length≤2*u
section
variable {w w':World} {b bb:Nat} {T:List Tok} {D n:Nat} {s:St} {u:Nat} {N:List Nd} {vn:Value} {A:Nat→Prop}
theorem XAt.kept (h:XAt w b bb T D n s u N vn A) (hg:w.grownBy w' none):XAt w' b bb T D n s u N vn A:=
 ⟨bx hg h.box,h.bld.kept hg,h.far,fun k hk=>h.new k (Nat.le_trans hg.size hk),h.lt,fun k e=>⟨(h.own k e).1,zn (h.own k e).2 hg.size⟩,h.ok,h.few⟩
theorem XAt.lt' (h:XAt w b bb T D n s u N vn A):b<w.heap.size:=j3 h.box
theorem XAt.turn {n':Nat} {s':St} (h:XAt w b bb T D n s u N vn A) (hf:Fr2 (ez b) w w') (hb:w'.heap[b]? = some (.cells #[.pointer (some ⟨bb,0,none⟩),.int .i64 ((an T s').kind:Int),aw (an T s').lead,aw (an T s').text,.int .i64 ((an T s').pos:Int),.int .i64 (D:Int),.int .i64 (n':Int),.bool s'.inn,.int .i64 (s'.e:Int),.int .i64 (s'.pos:Int)] 107 (0,0))) (ho:s'.i<T.length):XAt w' b bb T D n' s' u N vn A:=
 ⟨hb,h.bld.keptF hf (fun k hk e=>by have:=h.lt;unfold ez at e;omega) (fun k e e2=>by have:=(h.own k e).1;unfold ez at e2;omega) (fun k hk e=>by have:=h.far k hk;unfold ez at e;omega) (fun _ _ h=>h),h.far,fun k hk=>h.new k (Nat.le_trans hf.size hk),h.lt,fun k e=>⟨(h.own k e).1,zn (h.own k e).2 hf.size⟩,ho,h.few⟩
theorem Step.self (h:Fr2 (ez b) w w'):Step b bb vn w vn w':=⟨⟨h.os,h.tape,h.output,h.size,fun k hk hn=>h.block k hk (fun e=>hn (.inl e))⟩,fun _ h=>.inl h⟩
end
def zI (w:World) (v:Value) (ws:List (List UInt8)):Prop:=∃g,v=.slice (some ⟨g,0,none⟩) ws.length ws.length∧∀(j:Nat) (x:List UInt8),ws[j]? = some x→w.cell? ⟨g,j,none⟩=some (aw x)
def FL (x:List UInt8) (ws:List (List UInt8)) (w:World) (e:Ending) (w':World):Prop:=(∃k:Int,e=.returned (.int .i64 k)∧decide (0≤k)=decide (x∈ws))∧w.grownBy w' none
theorem KK (g:Nat) (x:List UInt8) (ws:List (List UInt8)) (w:World) (hn:ws.length≤100) (h:∀(j:Nat) (x:List UInt8),ws[j]? = some x→w.cell? ⟨g,j,none⟩=some (aw x)):
  Calls Tryz.prog 141 #[.slice (some ⟨g,0,none⟩) ws.length ws.length,aw x] w (FL x ws w):=by
 have HH:=zh h
 clear h
 obtain⟨m,hm⟩:∃m,ws.length=m:=⟨_,rfl⟩
 have HM:=zh hm
 unfold aw
 obtain⟨xb,QL⟩:∃xb:ByteArray,(⟨x.toArray⟩:ByteArray)=xb:=⟨_,rfl⟩
 have HX:=zh QL
 have HP:Hid (∀(k:Int) (w':World),decide (0≤k)=decide (x∈ws)→w.grownBy w' none→FL x ws w (.returned (.int .i64 k)) w'):=zh (fun k w' h1 h2=>⟨⟨k,rfl,h1⟩,h2⟩)
 rw [hm] at hn ⊢
 rw [QL]
 clear hm QL
 go_enter Tryz.func141,Tryz.ntmps141
 go_wp2_with fail
 go_loopw [8] (fun v wr=>∃k:Nat,k≤m∧v=.int .i64 k∧wr=w∧Hid (∀j,j<k→ws[j]?≠some x)) (fun v _=>m - (intOf v).toNat)
 case atStart=>exact⟨0,Nat.zero_le _,rfl,rfl,zh (fun j h=>by omega)⟩
 case round=>
  obtain⟨k,hk,rfl,rfl,HNO⟩:=hrel
  by_cases hlt:k<m
  ·have d1:decide ((k:Int)<(m:Int))=true:=zd (by omega)
   have uR:decide (k<m)=true:=zd hlt
   obtain⟨y,hy⟩:∃y,ws[k]? = some y:=⟨ws[k]'(by rw [HM.out];exact hlt),List.getElem?_eq_getElem _⟩
   have c0:=HH.out k y hy
   unfold aw at c0
   obtain⟨yb,hyb⟩:∃yb:ByteArray,(⟨y.toArray⟩:ByteArray)=yb:=⟨_,rfl⟩
   have e8:(xb.toList == yb.toList)=decide (x=y):=by
    rw [←hyb,←HX.out,toList_data,toList_data]
    by_cases e:x=y
    ·rw [e];simp
    ·simp [e]
   rw [hyb] at c0
   have HY:=zh hy
   clear hyb hy
   by_cases Vr:x=y
   ·rw [zd Vr] at e8
    have cy:Hid (decide (0≤(k:Int))=decide (x∈ws)):=zh (by rw [zd (show(0:Int)≤(k:Int) by omega),zd (by rw [Vr];exact List.mem_of_getElem? HY.out)])
    clear Vr HNO
    go_wp2_with fail
    go_ret
    exact HP.out _ _ cy.out (ad _ _)
   ·rw [decide_eq_false Vr] at e8
    have Cw:Hid (∀j,j<k+1→ws[j]?≠some x):=zh (fun j hj=>by
     rcases Nat.lt_or_ge j k with h | h
     ·exact HNO.out j h
     ·obtain rfl:j=k:=by omega
      rw [HY.out];exact fun e=>Vr (Option.some.inj e).symm)
    clear Vr HNO
    go_wp2_with fail
    go_roundw
    case rel=>exact⟨k+1,by omega,by go_num,by first | rfl | trivial,Cw⟩
    case measure=>(simp [intOf]<;>omega)
  ·obtain rfl:k=m:=by omega
   have cy:Hid (decide (0≤(-1:Int))=decide (x∈ws)):=zh (by
    rw [decide_eq_false (show ¬(0:Int)≤(-1:Int) by omega),decide_eq_false]
    intro hx
    obtain⟨j,hj⟩:=List.getElem?_of_mem hx
    exact HNO.out j (by rw [←HM.out];exact(List.getElem?_eq_some_iff.1 hj).1) hj)
   clear HNO
   go_wp2_with fail
   go_ret
   exact HP.out _ _ cy.out (ad _ _)
theorem AB (g:Nat) (x:List UInt8) (ws:List (List UInt8)) (w:World) (hn:ws.length≤100) (h:∀(j:Nat) (x:List UInt8),ws[j]? = some x→w.cell? ⟨g,j,none⟩=some (aw x)):
  Calls Tryz.prog 116 #[.slice (some ⟨g,0,none⟩) ws.length ws.length,aw x] w (aR (.bool (decide (x∈ws))) w):=by
 have HI:=zh (KK g x ws w hn h)
 obtain⟨m,hm⟩:∃m,ws.length=m:=⟨_,rfl⟩
 obtain⟨v,hv⟩:∃v,aw x=v:=⟨_,rfl⟩
 rw [hm,hv] at HI ⊢
 clear hm hv h hn
 go_enter Tryz.func116,Tryz.ntmps116
 go_wp2_with fail
 refine HI.out.mono ?_
 rintro e w1 ⟨⟨k,rfl,hk⟩,hg⟩
 have HG:=zh hg;have HK:=zh hk
 clear hg HI hk
 go_wp2_with fail
 go_ret
 exact⟨by rw [←HK.out];rfl,HG.out⟩
def atQ (T:List Tok) (ws:List (List UInt8)) (s:St):Bool:=decide (s.e=0) && decide ((an T s).text∈ws)
section
variable (b bb:Nat) (T:List Tok) (D n:Nat)
theorem aa0 (s:St) (u:Nat) (N:List Nd) (vn v:Value) (A:Nat→Prop) (ws:List (List UInt8)) (w:World) (hn:ws.length≤100) (h:XAt w b bb T D n s u N vn A) (hv:zI w v ws):
  Calls Tryz.prog 76 #[.pointer (some ⟨b,0,none⟩),v] w (aR (.bool (atQ T ws s)) w):=by
 obtain⟨d0,d1,d2,d3,d4,d5,d6,d7,d8,d9,lK⟩:=bZ h.box
 obtain⟨g,rfl,hc⟩:=hv
 have HC:=zh (AB g (an T s).text ws w hn hc)
 have HA:Hid (atQ T ws s=(decide (s.e=0) && decide ((an T s).text∈ws))):=zh rfl
 obtain⟨m,hm⟩:∃m,ws.length=m:=⟨_,rfl⟩
 obtain⟨t,ht⟩:∃t,aw (an T s).text=t:=⟨_,rfl⟩
 rw [ht] at d3
 rw [hm,ht] at HC
 rw [hm]
 obtain⟨E,hE⟩:∃E,s.e=E:=⟨_,rfl⟩
 rw [hE] at d8 HA
 clear hc h hn hm ht hE
 by_cases he:E=0
 ·subst he
  go_enter Tryz.func76,Tryz.ntmps76
  go_wp2_with fail
  refine HC.out.mono ?_
  rintro e w1 ⟨rfl,hg⟩
  have HG:=zh hg
  clear hg HC
  go_wp2_with fail
  go_ret
  exact⟨by rw [HA.out];simp,HG.out⟩
 ·have e2:(E == 0)=false:=beq_eq_false_iff_ne.2 he
  have DB:((E:Int) == 0)=false:=beq_eq_false_iff_ne.2 (by omega)
  have HE:=zh he
  clear he HC
  go_enter Tryz.func76,Tryz.ntmps76
  go_wp2_with fail
  go_ret
  exact⟨by rw [HA.out,decide_eq_false HE.out];rfl,ad _ _⟩
theorem td (s:St) (u:Nat) (N:List Nd) (vn:Value) (A:Nat→Prop) (k:Nat) (w:World) (h:XAt w b bb T D n s u N vn A):
  Calls Tryz.prog 86 #[.pointer (some ⟨b,0,none⟩),.int .i64 (k:Int)] w (aR (.bool (decide (s.e=0∧(an T s).kind=k))) w):=by
 obtain⟨d0,d1,d2,d3,d4,d5,d6,d7,d8,d9,lK⟩:=bZ h.box
 obtain⟨t,ht⟩:∃t,(an T s).kind=t:=⟨_,rfl⟩
 rw [ht] at d1 ⊢
 obtain⟨E,hE⟩:∃E,s.e=E:=⟨_,rfl⟩
 rw [hE] at d8 ⊢
 clear h ht hE
 by_cases he:E=0
 ·subst he
  have e1:((t:Int) == (k:Int))=decide (t=k):=by
   by_cases e:t=k
   ·subst e;simp
   ·rw [decide_eq_false e];exact beq_eq_false_iff_ne.2 (by omega)
  have sl:(t == k)=decide (t=k):=by by_cases e:t=k<;>simp [e]
  have HV:Hid (decide ((0:Nat)=0∧t=k)=decide (t=k)):=zh (by simp)
  rw [HV.out]
  go_enter Tryz.func86,Tryz.ntmps86
  go_wp2_with fail
  go_ret
  exact⟨by first | rfl | simp,ad _ _⟩
 ·have e2:(E == 0)=false:=beq_eq_false_iff_ne.2 he
  have DB:((E:Int) == 0)=false:=beq_eq_false_iff_ne.2 (by omega)
  have HV:Hid (decide (E=0∧t=k)=false):=zh (decide_eq_false (fun e=>he e.1))
  rw [HV.out]
  clear he
  go_enter Tryz.func86,Tryz.ntmps86
  go_wp2_with fail
  go_ret
  exact⟨rfl,ad _ _⟩
def aa1 (b bb:Nat) (T:List Tok) (D n:Nat) (s:St) (u:Nat) (N:List Nd) (vn:Value) (A:Nat→Prop) (w:World) (e:Ending) (w':World):Prop:=e=.returned (.int .i64 (-1))∧XAt w' b bb T D n s u N vn A∧Step b bb vn w vn w'
theorem jU (m:Nat) (s:St) (u:Nat) (N:List Nd) (vn:Value) (A:Nat→Prop) (w:World) (h:XAt w b bb T D n s u N vn A):
  Calls Tryz.prog 77 #[.pointer (some ⟨b,0,none⟩),.int .i64 (m:Int)] w (aa1 b bb T D n (aB T m s) u N vn A w):=by
 obtain⟨d0,d1,d2,d3,d4,d5,d6,d7,d8,d9,lK⟩:=bZ h.box
 have HB:=zh h
 by_cases he:s.e=0
 ·have HF:Hid (aB T m s={ s with e:=m,pos:=(an T s).pos }):=zh (by unfold aB;rw [if_pos he])
  have fu:=zh (fun (v1 v2:Value)=>ab (i:=9) (u:=v2) (ab (i:=8) (u:=v1) h.box))
  obtain⟨p,hp⟩:∃p,(an T s).pos=p:=⟨_,rfl⟩
  have sK:=zh hp
  rw [hp] at d4
  rw [he] at d8
  clear h he hp
  go_enter Tryz.func77,Tryz.ntmps77
  go_wp2_with fail
  go_ret
  have hf:Fr2 (ez b) w ((w.setCell ⟨b,8,none⟩ (.int .i64 (m:Int))).setCell ⟨b,9,none⟩ (.int .i64 (p:Int))):=((Fr2.refl _ _).setCell (bh b) _).setCell (bh b) _
  refine⟨rfl,?_,Step.self hf⟩
  rw [HF.out]
  have Fi:=sK.out
  subst Fi
  exact HB.out.turn hf ((fu.out _ _).trans rfl) HB.out.ok
 ·have SJ:((s.e:Int) == 0)=false:=beq_eq_false_iff_ne.2 (by omega)
  have ajP:(s.e == 0)=false:=beq_eq_false_iff_ne.2 he
  have HF:Hid (aB T m s=s):=zh (fX T he)
  clear h he
  go_enter Tryz.func77,Tryz.ntmps77
  go_wp2_with fail
  go_ret
  exact⟨rfl,by rw [HF.out];exact HB.out,Step.refl _ _ _ _⟩
end
end Go.Proofs.YtjbgnopnehgbaaaGreatDoor
namespace Go.Proofs.YtjbgnopnehgbaaaGreatDoor
open Go.RowKit
def dX (b bb:Nat) (T:List Tok) (D n k:Nat) (s:St) (r:RT) (N:List Nd) (vn:Value) (A:Nat→Prop) (w:World) (e:Ending) (w':World):Prop:=
 ∃(v:Int) (N':List Nd) (bY:Value),e=.returned (.int .i64 v)∧XAt w' b bb T D n r.2 r.2.i N' bY A∧Step b bb vn w bY w'∧aQ k N s r N' [v]∧(s.e≠0→r.2.e≠0)
theorem dX.eqv {b bb:Nat} {T:List Tok} {D n k:Nat} {s:St} {r r':RT} {N:List Nd} {vn:Value} {A:Nat→Prop} {w:World} {e:Ending} {w':World} (h:dX b bb T D n k s r N vn A w e w') (he:Eqv r r'):dX b bb T D n k s r' N vn A w e w':=by
 obtain⟨v,N',bY,h1,h2,h3,h4,h5⟩:=h
 exact⟨v,N',bY,h1,he.1▸h2,h3,h4.eqv he,fun h=>by rw [←he.1];exact h5 h⟩
theorem dX.after {b bb:Nat} {T:List Tok} {D n k:Nat} {s:St} {r:RT} {N:List Nd} {vn:Value} {A:Nat→Prop} {w0 w:World} {e:Ending} {w':World} (h:dX b bb T D n k s r N vn A w e w') (hs:Step b bb vn w0 vn w):dX b bb T D n k s r N vn A w0 e w':=by
 obtain⟨v,N',bY,h1,h2,h3,h4,h5⟩:=h
 exact⟨v,N',bY,h1,h2,hs.trans h3,h4,h5⟩
theorem XAt.bump {w w':World} {b bb:Nat} {T:List Tok} {D n:Nat} {s:St} {u u':Nat} {N N':List Nd} {vn bY:Value} {A:Nat→Prop} (h:XAt w b bb T D n s u N vn A) (hb:kX w' bb T u' N' bY A) (hf:Fr2 (yD bb vn) w w') (ho:∀k,bY.ownBlock=some k→vn.ownBlock=some k∨w.heap.size≤k) (hN:N'.length≤2*u'):XAt w' b bb T D n s u' N' bY A∧Step b bb vn w bY w':=by
 have hw:=h.lt'
 refine⟨⟨hf.keep h.box (fun e=>?_),hb,h.far,fun k hk=>h.new k (Nat.le_trans hf.size hk),h.lt,fun k e=>⟨?_,?_⟩,h.ok,hN⟩,⟨⟨hf.os,hf.tape,hf.output,hf.size,fun k hk hn=>hf.block k hk (fun e=>hn (e.elim (fun h=>.inr (.inl h)) (fun h=>.inr (.inr h))))⟩,ho⟩⟩
 ·have h1:=h.lt
  rcases e with e | e
  ·omega
  ·have:=(h.own _ e).1;omega
 ·rcases ho k e with h1 | h1
  ·exact(h.own k h1).1
  ·omega
 ·obtain⟨pt,ct,K,hB,-⟩:=hb
  exact(hB.turn k e).2
section
variable (b bb:Nat) (T:List Tok) (D n:Nat)
variable (hT:T.length≤40000) (hS:tT T) (hE:tG T)
include hT hS hE
def Ki (b bb:Nat) (T:List Tok) (D n:Nat) (s:St) (N:List Nd) (vn:Value) (A:Nat→Prop) (w:World) (e:Ending) (w':World):Prop:=
 ∃bY:Value,e=.returned (.int .i64 (N.length:Int))∧XAt w' b bb T D n (ac T s).2 (s.i+1) (N++[⟨19,(s.i:Int),[]⟩]) bY A∧Step b bb vn w bY w'
theorem Nc (s:St) (N:List Nd) (vn:Value) (A:Nat→Prop) (w:World) (h:XAt w b bb T D n s s.i N vn A):
  Calls Tryz.prog 79 #[.pointer (some ⟨b,0,none⟩)] w (Ki b bb T D n s N vn A w):=by
 obtain⟨d0,d1,d2,d3,d4,d5,d6,d7,d8,d9,lK⟩:=bZ h.box
 have V4:=h.few
 have dp:=h.ok
 have HL:=zh (JZ A bb T s.i N vn w (by omega) dp (by omega) h.bld)
 have Bh:T[s.i]? = some (an T s):=by unfold an;rw [List.getElem?_eq_getElem dp];rfl
 have AK:=hE _ _ Bh
 have hi:(ac T s).2.i=min (s.i+1) (T.length - 1)∧(ac T s).2.inn=s.inn∧(ac T s).2.e=s.e∧(ac T s).2.pos=s.pos:=by
  show(aI T s).2.i=_∧(aI T s).2.inn=_∧(aI T s).2.e=_∧(aI T s).2.pos=_
  unfold aI
  by_cases h5:(an T s).kind=5
  ·rw [if_pos h5]
   have:=AK.1 h5
   exact⟨by show s.i=_;omega,rfl,rfl,rfl⟩
  ·rw [if_neg h5]
   have:s.i+1≠T.length:=fun e=>h5 (AK.2 e)
   exact⟨by show s.i+1=_;omega,rfl,rfl,rfl⟩
 obtain⟨s',QJ⟩:∃s',(ac T s).2=s':=⟨_,rfl⟩
 rw [QJ] at hi
 have ht':T[min (s.i+1) (T.length - 1)]? = some (an T s'):=by
  rw [←hi.1];unfold an;rw [List.getElem?_eq_getElem (by rw [hi.1];omega)];rfl
 have Jo:=zh (fun (N':List Nd) (bY:Value) (w1:World) (hb:vI w1 bb T (s.i+1) N' bY)=>DO bb T (s.i+1) N' bY (an T s') w1 (by omega) (by omega) hS ht' hb)
 have HX:=zh h
 have Qa:N.length+1≤2*(s.i+1):=by omega
 have wZ:=zh Qa
 have HI:=zh hi
 have HSI:Hid (s'.i<T.length):=zh (by rw [hi.1];omega)
 have Yt:Hid (Ki b bb T D n s N vn A w=fun e w'=>∃bY:Value,e=.returned (.int .i64 (N.length:Int))∧XAt w' b bb T D n s' (s.i+1) (N++[⟨19,(s.i:Int),[]⟩]) bY A∧Step b bb vn w bY w'):=zh (by unfold Ki;rw [QJ])
 rw [Yt.out]
 clear h V4 dp Bh AK QJ hi ht' Qa hT hS hE Yt
 go_enter Tryz.func79,Tryz.ntmps79
 go_wp2_with fail
 refine HL.out.mono ?_
 rintro e w1 ⟨rfl,vt,fw,kM,rg⟩
 obtain⟨Mo,Y7⟩:=HX.out.bump fw kM rg (by rw [List.length_append];exact wZ.out)
 have IP:=zh Mo;have afK:=zh Y7
 obtain⟨d0,d1,d2,d3,d4,d5,d6,d7,d8,d9,lK⟩:=bZ Mo.box
 clear fw kM rg Mo Y7 HL
 go_wp2_with fail
 refine(Jo.out _ _ _ IP.out.bld.bld).mono ?_
 rintro e w2 ⟨rfl,bT⟩
 have yg:=zh (IP.out.kept bT);have ad3:=zh (afK.out.trans (Step.of (b:=b) (bb:=bb) (vn:=vt) bT))
 obtain⟨d0,d1,d2,d3,d4,d5,d6,d7,d8,d9,lK⟩:=bZ yg.out.box
 clear bT Jo
 have fu:=zh (fun (v1 v2 v3 v4:Value)=>ab (i:=4) (u:=v4) (ab (i:=3) (u:=v3) (ab (i:=2) (u:=v2) (ab (i:=1) (u:=v1) yg.out.box))))
 obtain⟨t,ht⟩:∃t,an T s'=t:=⟨_,rfl⟩
 have kA:=zh ht
 rw [ht]
 unfold Iw aw
 obtain⟨xl,zS⟩:∃xl:ByteArray,(⟨t.lead.toArray⟩:ByteArray)=xl:=⟨_,rfl⟩
 obtain⟨xt,Bj⟩:∃xt:ByteArray,(⟨t.text.toArray⟩:ByteArray)=xt:=⟨_,rfl⟩
 have HXL:=zh zS;have Z6:=zh Bj
 rw [zS,Bj]
 obtain⟨tk,qK⟩:∃tk,t.kind=tk:=⟨_,rfl⟩
 obtain⟨tp,rR⟩:∃tp,t.pos=tp:=⟨_,rfl⟩
 have rh:=zh qK;have Oz:=zh rR
 rw [qK,rR]
 clear ht zS Bj qK rR
 go_wp2_with fail
 go_ret
 have hf:Fr2 (ez b) w2 ((((w2.setCell ⟨b,1,none⟩ (.int .i64 (tk:Int))).setCell ⟨b,2,none⟩ (.string xl)).setCell ⟨b,3,none⟩ (.string xt)).setCell ⟨b,4,none⟩ (.int .i64 (tp:Int))):=((((Fr2.refl _ _).setCell (bh b) _).setCell (bh b) _).setCell (bh b) _).setCell (bh b) _
 refine⟨vt,rfl,yg.out.turn hf ((fu.out _ _ _ _).trans ?_) HSI.out,ad3.out.trans (Step.self hf)⟩
 rw [kA.out,HI.out.2.1,HI.out.2.2.1,HI.out.2.2.2]
 unfold aw
 rw [HXL.out,Z6.out,rh.out,Oz.out]
 rfl
theorem Dy (s:St) (N:List Nd) (vn:Value) (A:Nat→Prop) (w:World) (hk:(an T s).kind≠5) (he:s.e=0) (h:XAt w b bb T D n s s.i N vn A):
  Calls Tryz.prog 79 #[.pointer (some ⟨b,0,none⟩)] w (dX b bb T D n 1 s (ac T s) N vn A w):=by
 refine(Nc b bb T D n hT hS hE s N vn A w h).mono ?_
 rintro e w' ⟨bY,rfl,h1,h2⟩
 exact⟨_,_,bY,rfl,by rw [qP hk];exact h1,h2,aQ.leaf hk he,fun h=>absurd he h⟩
def ny (T:List Tok) (ws:List (List UInt8)) (s:St):RT:=if atQ T ws s=true then ac T s else ([],aB T 22 s)
def SU (T:List Tok) (ws:List (List UInt8)):Prop:=∀s,atQ T ws s=true→(an T s).kind≠5∧s.e=0
theorem abe (ws:List (List UInt8)) (hn:ws.length≤100) (hk:SU T ws) (s:St) (N:List Nd) (vn v:Value) (A:Nat→Prop) (w:World) (h:XAt w b bb T D n s s.i N vn A) (hv:zI w v ws):
  Calls Tryz.prog 78 #[.pointer (some ⟨b,0,none⟩),v] w (dX b bb T D n 1 s (ny T ws s) N vn A w):=by
 have HA:=zh (aa0 b bb T D n s s.i N vn v A ws w hn h hv)
 have HF:=zh (fun w h=>jU b bb T D n 22 s s.i N vn A w h)
 have HX:=zh h
 obtain⟨a,ha⟩:∃a,atQ T ws s=a:=⟨_,rfl⟩
 have HV:=zh ha
 have kA:=zh (fun w (hh:atQ T ws s=true) h=>Dy b bb T D n hT hS hE s N vn A w (hk s hh).1 (hk s hh).2 h)
 rw [ha] at HA
 clear h hv hn hk ha hT hS hE
 go_enter Tryz.func78,Tryz.ntmps78
 go_wp2_with fail
 refine HA.out.mono ?_
 rintro e w1 ⟨rfl,hg⟩
 have IP:=zh (HX.out.kept hg);have HG:=zh hg
 clear hg HA
 cases a
 ·go_wp2_with fail
  refine(HF.out _ IP.out).mono ?_
  rintro e w2 ⟨rfl,h2,st2⟩
  have HZ:Hid (dX b bb T D n 1 s (ny T ws s) N vn A w (.returned (.int .i64 (-1))) w2):=zh (by
   have e:ny T ws s=([],aB T 22 s):=by unfold ny;rw [if_neg (by rw [HV.out];decide)]
   rw [e]
   refine⟨-1,N,vn,rfl,?_,(Step.of HG.out).trans st2,aQ.fail (by decide) [],fun h=>by show(aB T 22 s).e≠0;rw [fX T h];exact h⟩
   show XAt w2 b bb T D n (aB T 22 s) (aB T 22 s).i N vn A
   rw [jZ];exact h2)
  clear h2 st2
  go_wp2_with fail
  go_ret
  exact HZ.out
 ·go_wp2_with fail
  refine(kA.out _ HV.out IP.out).mono ?_
  rintro e w2 hp
  have HZ:Hid (dX b bb T D n 1 s (ny T ws s) N vn A w e w2):=zh (by
   have e:ny T ws s=ac T s:=by unfold ny;rw [if_pos HV.out]
   rw [e]
   exact hp.after (Step.of HG.out))
  obtain⟨v,N',bY,rfl,-⟩:=hp
  go_wp2_with fail
  go_ret
  exact HZ.out
theorem RN (k:Nat) (hk:k≠5) (s:St) (N:List Nd) (vn:Value) (A:Nat→Prop) (w:World) (h:XAt w b bb T D n s s.i N vn A):
  Calls Tryz.prog 46 #[.pointer (some ⟨b,0,none⟩),.int .i64 (k:Int)] w (dX b bb T D n 1 s (aA T k s) N vn A w):=by
 have HA:=zh (td b bb T D n s s.i N vn A k w h)
 have HF:=zh (fun w h=>jU b bb T D n 22 s s.i N vn A w h)
 have HX:=zh h
 have sD:Hid (aA T k s=if s.e=0∧(an T s).kind=k then ac T s else ([],aB T 22 s)):=zh rfl
 have kA:=zh (fun w (hh:s.e=0∧(an T s).kind=k) h=>Dy b bb T D n hT hS hE s N vn A w (by rw [hh.2];exact hk) hh.1 h)
 clear h hk hT hS hE
 by_cases hc:s.e=0∧(an T s).kind=k
 ·rw [zd hc] at HA
  rw [if_pos hc] at sD
  have HC:=zh hc
  rw [sD.out]
  clear hc
  go_enter Tryz.func46,Tryz.ntmps46
  go_wp2_with fail
  refine HA.out.mono ?_
  rintro e w1 ⟨rfl,hg⟩
  have IP:=zh (HX.out.kept hg);have HG:=zh hg
  clear hg HA
  go_wp2_with fail
  refine(kA.out _ HC.out IP.out).mono ?_
  rintro e w2 hp
  have HZ:=zh (hp.after (Step.of HG.out))
  obtain⟨v,N',bY,rfl,-⟩:=hp
  go_wp2_with fail
  go_ret
  exact HZ.out
 ·rw [decide_eq_false hc] at HA
  rw [if_neg hc] at sD
  rw [sD.out]
  clear hc
  go_enter Tryz.func46,Tryz.ntmps46
  go_wp2_with fail
  refine HA.out.mono ?_
  rintro e w1 ⟨rfl,hg⟩
  have IP:=zh (HX.out.kept hg);have HG:=zh hg
  clear hg HA
  go_wp2_with fail
  refine(HF.out _ IP.out).mono ?_
  rintro e w2 ⟨rfl,h2,st2⟩
  have HZ:Hid (dX b bb T D n 1 s ([],aB T 22 s) N vn A w (.returned (.int .i64 (-1))) w2):=zh (by
   refine⟨-1,N,vn,rfl,?_,(Step.of HG.out).trans st2,aQ.fail (by decide) [],fun h=>by show(aB T 22 s).e≠0;rw [fX T h];exact h⟩
   show XAt w2 b bb T D n (aB T 22 s) (aB T 22 s).i N vn A
   rw [jZ];exact h2)
  clear h2 st2
  go_wp2_with fail
  go_ret
  exact HZ.out
end
end Go.Proofs.YtjbgnopnehgbaaaGreatDoor
namespace Go.Proofs.YtjbgnopnehgbaaaGreatDoor
open Go.RowKit
inductive Th where
 | strs (ws:List (List UInt8))
 | ints (l:List Int)
 | box (x:Value)
def K5 (w:World) (b:Nat) (v:Value):Th→Prop
 | .strs ws=>zI w v ws
 | .ints l=>pR w (b+1) v l
 | .box x=>∃g,v=.slice (some ⟨g,0,none⟩) 1 1∧w.cell? ⟨g,0,none⟩=some x
def Apart (w0 w:World) (b:Nat) (vn:Value) (A:Nat→Prop) (p:Value×Th):Prop:=
 K5 w b p.1 p.2∧∀k,p.1.ownBlock=some k→w0.heap.size≤k∧b<k∧k<w.heap.size∧vn.ownBlock≠some k∧¬A k
def aap (p q:Value×Th):Prop:=∀k,p.1.ownBlock=some k→q.1.ownBlock≠some k
def KX (b bb:Nat) (T:List Tok) (D n:Nat) (A0:Nat→Prop) (aZ:Value) (w0 w:World) (s:St) (u:Nat) (N:List Nd) (vn:Value) (L:List (Value×Th)):Prop:=
 ∃A:Nat→Prop,XAt w b bb T D n s u N vn A∧(∀j,A j→A0 j)∧(∀p∈L,Apart w0 w b vn A p)∧Step b bb aZ w0 vn w∧(∀k,A0 k→b<k)∧(∀k,w0.heap.size≤k→A0 k)∧b<w0.heap.size∧L.Pairwise aap
theorem K5.keptF {S:Nat→Prop} {w w':World} {b:Nat} {v:Value} {t:Th} (h:K5 w b v t) (hf:Fr2 S w w') (hk:∀k,v.ownBlock=some k→k<w.heap.size∧¬S k):K5 w' b v t:=by
 cases t with
 | strs ws=>
   obtain⟨g,e,hc⟩:=h
   have h1:=hk g (by rw [e];rfl)
   exact⟨g,e,fun j x hx=>(World.cell?_of_block (a:=⟨g,j,none⟩) (hf.block g h1.1 h1.2)).trans (hc j x hx)⟩
 | ints l=>exact ak.keptF h hf fun k e=>(hk k e).2
 | box x=>
   obtain⟨g,e,hc⟩:=h
   have h1:=hk g (by rw [e];rfl)
   exact⟨g,e,(World.cell?_of_block (a:=⟨g,0,none⟩) (hf.block g h1.1 h1.2)).trans hc⟩
section
variable {b bb:Nat} {T:List Tok} {D n:Nat} {A0:Nat→Prop} {aZ:Value} {w0 w w':World} {s:St} {u:Nat} {N:List Nd} {vn:Value} {L:List (Value×Th)}
theorem XAt.wide {A A':Nat→Prop} (h:XAt w b bb T D n s u N vn A) (ha:∀j,A j→A' j) (hf:∀k,A' k→b<k) (hn:∀k,w.heap.size≤k→A' k):XAt w b bb T D n s u N vn A':=by
 obtain⟨pt,ct,K,hB,hK⟩:=h.bld
 exact⟨h.box,⟨pt,ct,K,hB,fun i x hx hn a jE=>ha _ (hK i x hx hn a jE)⟩,hf,hn,h.lt,h.own,h.ok,h.few⟩
theorem KX.start {A:Nat→Prop} (h:XAt w b bb T D n s u N vn A):KX b bb T D n A vn w w s u N vn []:=
 ⟨A,h,fun _ h=>h,fun p hp=>by simp at hp,Step.refl _ _ _ _,h.far,h.new,h.lt',List.Pairwise.nil⟩
theorem KX.done (h:KX b bb T D n A0 aZ w0 w s u N vn L):XAt w b bb T D n s u N vn A0∧Step b bb aZ w0 vn w:=by
 obtain⟨A,h1,h2,-,h4,h5,h6,-⟩:=h
 exact⟨h1.wide h2 h5 fun k hk=>h6 k (Nat.le_trans h4.fr.size hk),h4⟩
theorem KX.kept (h:KX b bb T D n A0 aZ w0 w s u N vn L) (hg:w.grownBy w' none):KX b bb T D n A0 aZ w0 w' s u N vn L:=by
 obtain⟨A,h1,h2,h3,h4,h5,h6,h7⟩:=h
 refine⟨A,h1.kept hg,h2,fun p hp=>?_,h4.trans (Step.of hg),h5,h6,h7⟩
 obtain⟨t,k⟩:=h3 p hp
 exact⟨t.keptF (S:=fun _=>False) (Fr2.none hg) fun j e=>⟨(k j e).2.2.1,fun h=>h⟩,fun j e=>⟨(k j e).1,(k j e).2.1,zn (k j e).2.2.1 hg.size,(k j e).2.2.2⟩⟩
theorem KX.drew (h:KX b bb T D n A0 aZ w0 w s u N vn L):KX b bb T D n A0 aZ w0 w.drew s u N vn L:=h.kept (aF (ad _ _))
theorem KX.alloc (h:KX b bb T D n A0 aZ w0 w s u N vn L) (o:Obj):KX b bb T D n A0 aZ w0 (w.alloc o) s u N vn L:=h.kept (ae (ad _ _) _)
theorem KX.few (h:KX b bb T D n A0 aZ w0 w s u N vn L) {L':List (Value×Th)} (hl:L'.Sublist L):KX b bb T D n A0 aZ w0 w s u N vn L':=by
 obtain⟨A,h1,h2,h3,h4,h5,h6,h7,h8⟩:=h
 exact⟨A,h1,h2,fun p hp=>h3 p (hl.subset hp),h4,h5,h6,h7,h8.sublist hl⟩
theorem KX.nils (h:KX b bb T D n A0 aZ w0 w s u N vn L):KX b bb T D n A0 aZ w0 w s u N vn []:=h.few (List.nil_sublist _)
theorem KX.innc (h:KX b bb T D n A0 aZ w0 w s u N vn L):w.cell? ⟨b,7,none⟩=some (.bool s.inn):=by
 obtain⟨A,h1,-⟩:=h
 exact(bZ h1.box).2.2.2.2.2.2.2.1
theorem KX.cell (h:KX b bb T D n A0 aZ w0 w s u N vn L):w.cell? ⟨b,0,none⟩=some (.pointer (some ⟨bb,0,none⟩)):=by
 obtain⟨A,h1,-⟩:=h
 exact(bZ h1.box).1
theorem KX.ok (h:KX b bb T D n A0 aZ w0 w s u N vn L):s.i<T.length:=by
 obtain⟨A,h1,-⟩:=h
 exact h1.ok
theorem KX.fresh (h:KX b bb T D n A0 aZ w0 w s u N vn L) {o:Obj} {v:Value} {t:Th} (ht:K5 (w.alloc o) b v t) (hv:v.ownBlock=some w.heap.size):KX b bb T D n A0 aZ w0 (w.alloc o) s u N vn ((v,t)::L):=by
 obtain⟨A,h1,h2,h3,h4,h5,h6,h7,h8⟩:=h
 have hb:=h1.lt'
 have hs:(w.alloc o).heap.size=w.heap.size+1:=by simp
 have hg:=World.grownBy_alloc w o none
 have h0:=h4.fr.size
 have hx:=h1.kept hg
 refine⟨fun j=>A j∧j≠w.heap.size,⟨hx.box,h1.bld.keptF (S:=fun _=>False) (Fr2.none hg) (fun _ _ h=>h) (fun _ _ h=>h) (fun _ _ h=>h) (fun k hk ha=>⟨ha,by omega⟩),fun k hk=>h1.far k hk.1,fun k hk=>⟨h1.new k (by omega),by omega⟩,hx.lt,hx.own,hx.ok,hx.few⟩,fun j hj=>h2 j hj.1,fun p hp=>?_,h4.trans (Step.of hg),h5,h6,h7,List.pairwise_cons.2 ⟨fun p hp k e e2=>?_,h8⟩⟩
 ·rcases List.mem_cons.1 hp with rfl | hp
  ·refine⟨ht,fun k e=>?_⟩
   have hk:w.heap.size=k:=by rw [hv] at e;exact Option.some.inj e
   subst hk
   exact⟨h0,hb,by omega,fun e2=>by have:=(h1.own _ e2).2;omega,fun hA=>hA.2 rfl⟩
  ·obtain⟨t,k⟩:=h3 p hp
   exact⟨t.keptF (S:=fun _=>False) (Fr2.none hg) fun j e=>⟨(k j e).2.2.1,fun h=>h⟩,fun j e=>⟨(k j e).1,(k j e).2.1,by have:=(k j e).2.2.1;omega,(k j e).2.2.2.1,fun hA=>(k j e).2.2.2.2 hA.1⟩⟩
 ·have hk:w.heap.size=k:=by rw [hv] at e;exact Option.some.inj e
  have:=((h3 p hp).2 k e2).2.2.1
  omega
theorem KX.strs (h:KX b bb T D n A0 aZ w0 w s u N vn L) (xs:List ByteArray) (ty:TypeId):KX b bb T D n A0 aZ w0 (w.alloc (.cells (xs.map Value.string).toArray ty)) s u N vn ((.slice (some ⟨w.heap.size,0,none⟩) xs.length xs.length,.strs (xs.map fun x=>x.data.toList))::L):=by
 refine h.fresh ⟨w.heap.size,by simp,fun j x hx=>?_⟩ rfl
 rw [cell_of_row _ _ j _ _ (0,0) (heap_alloc_new w _)]
 rw [List.getElem?_map] at hx
 rw [List.getElem?_toArray,List.getElem?_map]
 cases hq:xs[j]? with
 | none=>rw [hq] at hx;cases hx
 | some y=>
   rw [hq] at hx
   obtain rfl:y.data.toList=x:=Option.some.inj hx
   rfl
theorem KX.strs1 (h:KX b bb T D n A0 aZ w0 w s u N vn L) (x:ByteArray) (ty:TypeId):KX b bb T D n A0 aZ w0 (w.alloc (.cells #[.string x] ty)) s u N vn ((.slice (some ⟨w.heap.size,0,none⟩) 1 1,.strs [x.data.toList])::L):=h.strs [x] ty
theorem KX.strs2 (h:KX b bb T D n A0 aZ w0 w s u N vn L) (x y:ByteArray) (ty:TypeId):KX b bb T D n A0 aZ w0 (w.alloc (.cells #[.string x,.string y] ty)) s u N vn ((.slice (some ⟨w.heap.size,0,none⟩) 2 2,.strs [x.data.toList,y.data.toList])::L):=h.strs [x,y] ty
theorem KX.boxed (h:KX b bb T D n A0 aZ w0 w s u N vn L) (x:Value) (ty:TypeId):KX b bb T D n A0 aZ w0 (w.alloc (.cells #[x] ty)) s u N vn ((.slice (some ⟨w.heap.size,0,none⟩) 1 1,.box x)::L):=
 h.fresh ⟨w.heap.size,rfl,by rw [cell_of_row _ _ 0 _ _ (0,0) (heap_alloc_new w _)];rfl⟩ rfl
theorem KX.nilS (h:KX b bb T D n A0 aZ w0 w s u N vn L):KX b bb T D n A0 aZ w0 w s u N vn ((.slice none 0 0,.ints [])::L):=by
 obtain⟨A,h1,h2,h3,h4,h5,h6,h7,h8⟩:=h
 refine⟨A,h1,h2,fun p hp=>?_,h4,h5,h6,h7,List.pairwise_cons.2 ⟨fun p hp k e=>(by cases e),h8⟩⟩
 rcases List.mem_cons.1 hp with rfl | hp
 ·exact⟨pR.nil _ _,fun k e=>by cases e⟩
 ·exact h3 p hp
theorem pR.newL (w:World) (base:Nat) (vs:List Int) (h0:vs≠[]) (hl:vs.length≤1000000) (hb:base≤w.heap.size):pR (w.alloc (.cells (bo vs).toArray 3)) base (.slice (some ⟨w.heap.size,0,none⟩) vs.length vs.length) vs:=by
 refine⟨?_,ye (mT _)⟩
 rw [mK,uM,dW]
 exact⟨by simp [bo],.inr ⟨_,vs.length,_,rfl,hb,heap_alloc_new w _,by simp,by unfold maxLen;omega,by simp [bo],by rw [List.take_of_length_le (by simp [bo])]⟩⟩
theorem KX.ints (h:KX b bb T D n A0 aZ w0 w s u N vn L) (vs:List Int) (h0:vs≠[]) (hl:vs.length≤1000000):KX b bb T D n A0 aZ w0 (w.alloc (.cells (bo vs).toArray 3)) s u N vn ((.slice (some ⟨w.heap.size,0,none⟩) vs.length vs.length,.ints vs)::L):=by
 refine h.fresh (pR.newL w (b+1) vs h0 hl ?_) rfl
 obtain⟨A,h1,-⟩:=h
 exact h1.lt'
theorem KX.go {A:Nat→Prop} {s':St} {u':Nat} {N':List Nd} {bY:Value} (h2:∀j,A j→A0 j) (h3:∀p∈L,Apart w0 w b vn A p) (h4:Step b bb aZ w0 vn w) (h5:(∀k,A0 k→b<k)∧(∀k,w0.heap.size≤k→A0 k)∧b<w0.heap.size∧L.Pairwise aap) (As:bb<b) (hx:XAt w' b bb T D n s' u' N' bY A) (hs:Step b bb vn w bY w'):KX b bb T D n A0 aZ w0 w' s' u' N' bY L:=by
 refine⟨A,hx,h2,fun p hp=>?_,h4.trans hs,h5⟩
 obtain⟨t,k⟩:=h3 p hp
 refine⟨t.keptF hs.fr fun j e=>?_,fun j e=>?_⟩
 ·obtain⟨k1,k2,k3,k4,-⟩:=k j e
  exact⟨k3,fun h=>by rcases h with h | h | h;omega;omega;exact k4 h⟩
 ·obtain⟨k1,k2,k3,k4,k5⟩:=k j e
  refine⟨k1,k2,zn k3 hs.fr.size,fun h=>?_,k5⟩
  rcases hs.own j h with h | h
  ·exact k4 h
  ·omega
theorem KX.call {P:Program} {f k:Nat} {args:Array Value} {r:RT} (hk:KX b bb T D n A0 aZ w0 w s s.i N vn L) (C:∀A,XAt w b bb T D n s s.i N vn A→Calls P f args w (dX b bb T D n k s r N vn A w)):
  Calls P f args w fun e w'=>∃(v:Int) (N':List Nd) (bY:Value),e=.returned (.int .i64 v)∧KX b bb T D n A0 aZ w0 w' r.2 r.2.i N' bY L∧aQ k N s r N' [v]∧(s.e≠0→r.2.e≠0):=by
 obtain⟨A,h1,h2,h3,h4,h5⟩:=hk
 refine(C A h1).mono ?_
 rintro e w' ⟨v,N',bY,rfl,g1,g2,g3,g4⟩
 exact⟨v,N',bY,rfl,KX.go h2 h3 h4 h5 h1.lt g1 g2,g3,g4⟩
theorem KX.val {P:Program} {f:Nat} {args:Array Value} {v:Value} (hk:KX b bb T D n A0 aZ w0 w s u N vn L) (C:∀A,XAt w b bb T D n s u N vn A→Calls P f args w (aR v w)):
  Calls P f args w fun e w'=>e=.returned v∧KX b bb T D n A0 aZ w0 w' s u N vn L:=by
 obtain⟨A,h1,-⟩:=id hk
 refine(C A h1).mono ?_
 rintro e w' ⟨rfl,hg⟩
 exact⟨rfl,hk.kept hg⟩
theorem KX.appended {v1 v':Value} {l1 l:List Int} (hk:KX b bb T D n A0 aZ w0 w s u N vn L) {L2:List (Value×Th)} (hm:((v1,Th.ints l1)::L2).Sublist L) (ho:pR w' (b+1) v' l) (hg:w.grownBy w' v1.ownBlock) (hb:∀k,v'.ownBlock=some k→v1.ownBlock=some k∨w.heap.size≤k):KX b bb T D n A0 aZ w0 w' s u N vn ((v',.ints l)::L2):=by
 obtain⟨A,h1,h2,h3,h4,h5,h6,h7,h8⟩:=hk
 obtain⟨-,iP⟩:=h3 _ (hm.subset (List.mem_cons_self ..))
 obtain⟨iE,ee⟩:=List.pairwise_cons.1 (h8.sublist hm)
 have hf:Fr2 (fun k=>v1.ownBlock=some k) w w':=Fr2.of hg (fun k e=>e)
 have Hj:=fun k e=>ak.at ho k e
 have hlt:=h1.lt
 have mV:=h1.lt'
 refine⟨fun j=>A j∧v'.ownBlock≠some j,⟨hf.keep h1.box (fun e=>by have:=(iP _ e).2.1;omega),h1.bld.keptF hf (fun k hk e=>by have:=(iP _ e).2.1;omega) (fun k e e2=>(iP _ e2).2.2.2.1 e) (fun k ha e=>(iP _ e).2.2.2.2 ha) (fun k hk ha=>⟨ha,fun e=>?_⟩),fun k hk=>h1.far k hk.1,fun k hk=>⟨h1.new k (Nat.le_trans hf.size hk),fun e=>by have:=(Hj k e).2;omega⟩,h1.lt,fun k e=>⟨(h1.own k e).1,zn (h1.own k e).2 hf.size⟩,h1.ok,h1.few⟩,fun j hj=>h2 j hj.1,fun p hp=>?_,⟨⟨hf.os.trans h4.fr.os,hf.tape.trans h4.fr.tape,hf.output.trans h4.fr.output,Nat.le_trans h4.fr.size hf.size,fun k hk hn=>?_⟩,h4.own⟩,h5,h6,h7,List.pairwise_cons.2 ⟨fun p hp k e e2=>?_,ee⟩⟩
 ·rcases hb k e with h | h
  ·exact(iP _ h).2.2.2.2 ha
  ·omega
 ·rcases List.mem_cons.1 hp with rfl | hp
  rotate_left
  ·obtain⟨t,k⟩:=h3 p (hm.subset (List.mem_cons_of_mem _ hp))
   refine⟨t.keptF hf fun j e=>⟨(k j e).2.2.1,fun e2=>iE p hp j e2 e⟩,fun j e=>⟨(k j e).1,(k j e).2.1,zn (k j e).2.2.1 hf.size,(k j e).2.2.2.1,fun hA=>(k j e).2.2.2.2 hA.1⟩⟩
  refine⟨ho,fun k e=>⟨?_,?_,(Hj k e).2,fun e2=>?_,fun hA=>hA.2 e⟩⟩
  ·rcases hb k e with h | h
   ·exact(iP _ h).1
   ·exact Nat.le_trans h4.fr.size h
  ·have:=(Hj k e).1;omega
  ·rcases hb k e with h | h
   ·exact(iP _ h).2.2.2.1 e2
   ·have:=(h1.own _ e2).2;omega
 ·rw [hf.block k (zn hk h4.fr.size) (fun e=>by have:=(iP _ e).1;omega),h4.fr.block k hk hn]
 ·rcases hb k e with h | h
  ·exact iE p hp k h e2
  ·have:=((h3 p (hm.subset (List.mem_cons_of_mem _ hp))).2 k e2).2.2.1
   omega
theorem KX.list {v:Value} {l:List Int} (hk:KX b bb T D n A0 aZ w0 w s u N vn L) (hm:(v,Th.ints l)∈L):∃p c,v=.slice p l.length c∧VAt w p (bo l)∧l.length≤c∧pR w (b+1) v l:=by
 obtain⟨A,h1,h2,h3,-⟩:=hk
 obtain⟨ho,-⟩:=h3 _ hm
 obtain⟨p,c,e1,e2,e3,-⟩:=pR.parts ho
 exact⟨p,c,e1,e2,e3,ho⟩
theorem KX.str {v:Value} {ws:List (List UInt8)} (hk:KX b bb T D n A0 aZ w0 w s u N vn L) (hm:(v,Th.strs ws)∈L):zI w v ws:=by
 obtain⟨A,h1,h2,h3,-⟩:=hk
 exact(h3 _ hm).1
theorem Tj {o:Oper} {a:Act} {K:Act→World→Prop} {Q:Exit→Act→World→Prop} (os ox:Operand) (ho:o.op=.call { callee:=.builtin .append,args:=#[os,ox],argTypes:=#[110,110] })
  {l1 l2:List Int} {v1:Value} {q:Option Addr} {m c:Nat} {L2:List (Value×Th)} (hk:KX b bb T D n A0 aZ w0 w s u N vn L) (hm:((v1,Th.ints l1)::L2).Sublist L) (hs:a.eval os=v1) (hx:a.eval ox=.slice q m c) (hl:l2.length=m) (hy:VAt w q (bo l2)) (h1:l1.length≤1000000) (h2:l2.length≤1000000)
  (h:∀v' w',KX b bb T D n A0 aZ w0 w' s u N vn ((v',.ints (l1++l2))::L2)→K (a.put o.dst v') w'):o.wp Tryz.prog a w K Q:=by
 obtain⟨p1,c1,-,-,-,ey⟩:=hk.list (hm.subset (List.mem_cons_self ..))
 have KB:=ey.1
 rw [mK,uM,dW] at KB
 obtain⟨i0,hi,JF,Ha,D5⟩:=info_parts Mp
 have mV:b+1≤w.heap.size:=by
  obtain⟨A,g1,-⟩:=id hk
  exact g1.lt'
 by_cases h0:l2 = []
 ·subst h0
  obtain rfl:m=0:=hl.symm
  have pj:=ly (P:=Tryz.prog) (w:=w) (b+1) 110 o.type 3 i0 1 Tryz.underlying110 hi v1 l1.length (bo l1) KB q c
  have h3:=h v1 w (by rw [List.append_nil];exact hk.few hm)
  unfold Oper.wp
  simp [execOp,ho,resolve,invoke,builtin,hs,hx,pj,Result.andThen]
  exact h3
 ·obtain⟨g,off,rfl,hg,hc⟩:=hy.resolve_left (fun e=>h0 (List.length_eq_zero_iff.1 (by have:=congrArg List.length e;rwa [dW] at this)))
  refine wp_append_lies w os ox 110 ho (b+1) 3 i0 (.int .i64 0) 1 8 Tryz.underlying110 hi JF Ha D5 rfl (by decide) v1 l1.length (bo l1) hs KB ⟨g,off,none⟩ m c (bo l2) hx (by rw [dW,hl,Nat.mul_one]) (fun j x hj=>by rw [Addr.add_lit];exact hc j x hj) (mT _) (by rw [←hl];exact List.length_pos_iff.2 h0) (by unfold maxLen;omega) (by omega) mV w.heap.size rfl ?_
  intro g' bH w' k1 k2 k3 k4
  refine h _ _ (hk.appended hm ⟨?_,ye (mT _)⟩ k2 (fun k e=>?_))
  ·rw [mK,uM,yL,List.length_append,dW,dW,hl];exact k1
  ·have Uu:g'=k:=by simpa [Value.ownBlock] using e
   subst Uu
   exact k3.imp id fun h=>by omega
theorem ba {ops:Array Oper} {rest:List Oper} {o:Oper} {a:Act} {Q:Exit→Act→World→Prop} (eO:o.guard=none) (os ox:Operand) (ho:o.op=.call { callee:=.builtin .append,args:=#[os,ox],argTypes:=#[110,110] })
  {l1 l2:List Int} {v1:Value} {q:Option Addr} {m c:Nat} {L2:List (Value×Th)} (hk:KX b bb T D n A0 aZ w0 w s u N vn L) (hm:((v1,Th.ints l1)::L2).Sublist L) (hs:a.eval os=v1) (hx:a.eval ox=.slice q m c) (hl:l2.length=m) (hy:VAt w q (bo l2)) (h1:l1.length≤1000000) (h2:l2.length≤1000000)
  (h:∀v' w',KX b bb T D n A0 aZ w0 w' s u N vn ((v',.ints (l1++l2))::L2)→wpList Tryz.prog ops Q rest (a.put o.dst v') w'):wpList Tryz.prog ops Q (o::rest) a w:=
 wpList_plain eO fun _ hK=>Tj os ox ho hk hm hs hx hl hy h1 h2 fun v' w' h9=>hK _ _ (h v' w' h9)
theorem mW {ops:Array Oper} {o:Oper} {a:Act} {K:Act→World→Prop} {Q:Exit→Act→World→Prop} {E:Prop} (eO:o.guard=none) (os ox:Operand) (ho:o.op=.call { callee:=.builtin .append,args:=#[os,ox],argTypes:=#[110,110] })
  {l1 l2:List Int} {v1:Value} {q:Option Addr} {m c:Nat} {L2:List (Value×Th)} (hk:KX b bb T D n A0 aZ w0 w s u N vn L) (hm:((v1,Th.ints l1)::L2).Sublist L) (hs:a.eval os=v1) (hx:a.eval ox=.slice q m c) (hl:l2.length=m) (hy:VAt w q (bo l2)) (h1:l1.length≤1000000) (h2:l2.length≤1000000)
  (h:∀v' w',KX b bb T D n A0 aZ w0 w' s u N vn ((v',.ints (l1++l2))::L2)→K (a.put o.dst v') w'):if Region.wanted o (yielded ops a.tmps)=true then Oper.wp Tryz.prog o a w K Q else E:=by
 have hw:Region.wanted o (yielded ops a.tmps)=true:=by simp [Region.wanted,eO]
 rw [if_pos hw]
 exact Tj os ox ho hk hm hs hx hl hy h1 h2 h
theorem KX.node {k kind:Nat} {v:Value} {vs:List Int} {Ns:List Nd} {s0:St} {r:RT} (hk:KX b bb T D n A0 aZ w0 w s s.i N vn L) (hm:(v,Th.ints vs)∈L) (hT:T.length≤40000) (hO:aQ (k+1) Ns s0 r N vs) (hr:r.2=s) (hN:Ns.length≤2*s0.i) (hl:vs.length≤30000):
  Calls Tryz.prog 45 #[.pointer (some ⟨bb,0,none⟩),.int .i64 (kind:Int),v] w fun e w'=>∃(x:Int) (N':List Nd) (bY:Value),e=.returned (.int .i64 x)∧KX b bb T D n A0 aZ w0 w' s s.i N' bY L∧aQ k Ns s0 ([.nd kind r.1],r.2) N' [x]:=by
 obtain⟨p,c,rfl,hv,-,-⟩:=hk.list hm
 have Kw:=hk
 obtain⟨A,h1,h2,h3,h4,h5⟩:=hk
 have V4:=h1.few
 have dp:=h1.ok
 by_cases he:r.2.e=0
 ·have hO2:=hO.node (kind:=kind) he
  have hb:=hO2.out.2
  refine(Bd A bb T s.i N vn (kind:Int) vs p c w (by omega) (by omega) h1.bld h1.new hv (hO.ok he)).mono ?_
  rintro e w' ⟨rfl,bY,g1,g2,g3⟩
  obtain⟨hx,si⟩:=h1.bump g1 g2 g3 (by
   rw [←hr]
   have dC:(N++[(⟨(kind:Int),-1,vs⟩:Nd)]).length+2*s0.i≤Ns.length+2*r.2.i:=hb
   omega)
  exact⟨_,_,bY,rfl,KX.go h2 h3 h4 h5 h1.lt hx si,hO2⟩
 ·refine(wh bb T s.i N vn (kind:Int) vs p c w (by omega) (by omega) h1.bld.bld hv (hO.no he)).mono ?_
  rintro e w' ⟨rfl,hg⟩
  exact⟨-1,N,vn,rfl,Kw.kept hg,hO.none he⟩
end
end Go.Proofs.YtjbgnopnehgbaaaGreatDoor
namespace Go.Proofs.YtjbgnopnehgbaaaGreatDoor
open Go.RowKit
def bX (b bb:Nat) (T:List Tok) (D n:Nat) (P:St→Prop) (f:Nat) (sub:St→RT):Prop:=
 ∀(s:St) (N:List Nd) (vn:Value) (A:Nat→Prop) (w:World),P s→XAt w b bb T D n s s.i N vn A→Calls Tryz.prog f #[.pointer (some ⟨b,0,none⟩)] w (dX b bb T D n 0 s (sub s) N vn A w)
theorem dX.fail {b bb:Nat} {T:List Tok} {D n m k:Nat} (hm:m≠0) {s:St} {N:List Nd} {vn:Value} {A:Nat→Prop} {w w':World} (h:XAt w' b bb T D n (aB T m s) s.i N vn A) (hs:Step b bb vn w vn w'):dX b bb T D n k s ([],aB T m s) N vn A w (.returned (.int .i64 (-1))) w':=
 ⟨-1,N,vn,rfl,by show XAt w' b bb T D n (aB T m s) (aB T m s).i N vn A;rw [jZ];exact h,hs,aQ.fail hm [],fun h=>by show(aB T m s).e≠0;rw [fX T h];exact h⟩
section
variable (b bb:Nat) (T:List Tok) (D n:Nat)
theorem gJ (hD:D≤200) (hn:n≤D) (P:St→Prop) (sub:St→RT) (hC:n<D→bX b bb T D (n+1) P 83 sub) (s:St) (N:List Nd) (vn:Value) (A:Nat→Prop) (w:World) (hP:P s) (h:XAt w b bb T D n s s.i N vn A):
  Calls Tryz.prog 82 #[.pointer (some ⟨b,0,none⟩),.func (.func 83) #[] #[]] w (dX b bb T D n 0 s (dt T D n sub s) N vn A w):=by
 obtain⟨d0,d1,d2,d3,d4,d5,d6,d7,d8,d9,lK⟩:=bZ h.box
 have HX:=zh h
 have yF:Hid (∀m,XAt (w.drewN m) b bb T D n s s.i N vn A):=zh (fun m=>HX.out.kept (ap (ad _ _) _))
 have qE:Hid (∀m,Step b bb vn w vn (w.drewN m)):=zh (fun m=>Step.of (ap (ad _ _) _))
 by_cases hnD:n=D
 ·have HZ:Hid (dt T D n sub s=([],aB T 23 s)):=zh (by unfold dt;rw [if_pos hnD])
  have HF:=zh (fun w h=>jU b bb T D n 23 s s.i N vn A w h)
  have e1:(n == D)=true:=by rw [hnD];simp
  have sl:((n:Int) == (D:Int))=true:=by rw [hnD];simp
  rw [HZ.out]
  clear h hC hP hn hD hnD
  go_enter Tryz.func82,Tryz.ntmps82
  go_wp2_with fail
  go_quiet (fail)
  go_wp2_with fail
  refine(HF.out _ (yF.out _)).mono ?_
  rintro e w2 ⟨rfl,h2,st2⟩
  have HQ:=zh (dX.fail (k:=0) (by decide) h2 ((qE.out _).trans st2))
  clear h2 st2
  go_wp2_with fail
  go_ret
  exact HQ.out
 ·have HZ:Hid (dt T D n sub s=sub s):=zh (by unfold dt;rw [if_neg hnD])
  have HC:=zh (fun w h=>hC (by omega) s N vn A w hP h)
  have e1:(n == D)=false:=beq_eq_false_iff_ne.2 hnD
  have sl:((n:Int) == (D:Int))=false:=beq_eq_false_iff_ne.2 (by omega)
  have rC:IntKind.i64.wrap ((n:Int)+1)=((n+1:Nat):Int):=by rw [IntWalk.i64_in _ (by omega)];omega
  have eE:IntKind.i64.wrap (((n+1:Nat):Int) - 1)=(n:Int):=by rw [IntWalk.i64_in _ (by omega)];omega
  obtain⟨n1,qC⟩:∃n1,n+1=n1:=⟨_,rfl⟩
  rw [qC] at rC eE HC
  have Hw:Hid (∀m,XAt ((w.drewN m).setCell ⟨b,6,none⟩ (.int .i64 (n1:Int))) b bb T D n1 s s.i N vn A):=zh (fun m=>(yF.out m).turn ((Fr2.refl _ _).setCell (bh b) _) ((ab (i:=6) (yF.out m).box).trans rfl) HX.out.ok)
  have Aa:Hid (∀m,Step b bb vn w vn ((w.drewN m).setCell ⟨b,6,none⟩ (.int .i64 (n1:Int)))):=zh (fun m=>(qE.out m).trans (Step.self ((Fr2.refl _ _).setCell (bh b) _)))
  rw [HZ.out]
  clear h hC hP hn hD hnD qC
  go_enter Tryz.func82,Tryz.ntmps82
  go_wp2_with fail
  go_quiet (fail)
  go_wp2_with fail
  refine(HC.out _ (Hw.out _)).mono ?_
  rintro e w2 ⟨v,N',bY,rfl,h2,st2,o2,k2⟩
  have yg:=zh h2;have zV:=zh ((Aa.out _).trans st2);have qq:=zh o2;have wt:=zh k2
  obtain⟨d0,d1,d2,d3,d4,d5,d6,d7,d8,d9,lK⟩:=bZ h2.box
  clear h2 st2 o2 k2 Hw Aa yF qE HC
  go_wp2_with fail
  go_ret
  have hf:Fr2 (ez b) w2 (w2.setCell ⟨b,6,none⟩ (.int .i64 (n:Int))):=(Fr2.refl _ _).setCell (bh b) _
  exact⟨v,N',bY,rfl,yg.out.turn hf ((ab (i:=6) yg.out.box).trans rfl) yg.out.ok,zV.out.trans (Step.self hf),qq.out,wt.out⟩
theorem gK (hD:D≤200) (hn:n≤D) (P:St→Prop) (sub:St→RT) (hC:n<D→bX b bb T D (n+1) P 96 sub) (s:St) (N:List Nd) (vn:Value) (A:Nat→Prop) (w:World) (hP:P s) (h:XAt w b bb T D n s s.i N vn A):
  Calls Tryz.prog 82 #[.pointer (some ⟨b,0,none⟩),.func (.func 96) #[] #[]] w (dX b bb T D n 0 s (dt T D n sub s) N vn A w):=by
 obtain⟨d0,d1,d2,d3,d4,d5,d6,d7,d8,d9,lK⟩:=bZ h.box
 have HX:=zh h
 have yF:Hid (∀m,XAt (w.drewN m) b bb T D n s s.i N vn A):=zh (fun m=>HX.out.kept (ap (ad _ _) _))
 have qE:Hid (∀m,Step b bb vn w vn (w.drewN m)):=zh (fun m=>Step.of (ap (ad _ _) _))
 by_cases hnD:n=D
 ·have HZ:Hid (dt T D n sub s=([],aB T 23 s)):=zh (by unfold dt;rw [if_pos hnD])
  have HF:=zh (fun w h=>jU b bb T D n 23 s s.i N vn A w h)
  have e1:(n == D)=true:=by rw [hnD];simp
  have sl:((n:Int) == (D:Int))=true:=by rw [hnD];simp
  rw [HZ.out]
  clear h hC hP hn hD hnD
  go_enter Tryz.func82,Tryz.ntmps82
  go_wp2_with fail
  go_quiet (fail)
  go_wp2_with fail
  refine(HF.out _ (yF.out _)).mono ?_
  rintro e w2 ⟨rfl,h2,st2⟩
  have HQ:=zh (dX.fail (k:=0) (by decide) h2 ((qE.out _).trans st2))
  clear h2 st2
  go_wp2_with fail
  go_ret
  exact HQ.out
 ·have HZ:Hid (dt T D n sub s=sub s):=zh (by unfold dt;rw [if_neg hnD])
  have HC:=zh (fun w h=>hC (by omega) s N vn A w hP h)
  have e1:(n == D)=false:=beq_eq_false_iff_ne.2 hnD
  have sl:((n:Int) == (D:Int))=false:=beq_eq_false_iff_ne.2 (by omega)
  have rC:IntKind.i64.wrap ((n:Int)+1)=((n+1:Nat):Int):=by rw [IntWalk.i64_in _ (by omega)];omega
  have eE:IntKind.i64.wrap (((n+1:Nat):Int) - 1)=(n:Int):=by rw [IntWalk.i64_in _ (by omega)];omega
  obtain⟨n1,qC⟩:∃n1,n+1=n1:=⟨_,rfl⟩
  rw [qC] at rC eE HC
  have Hw:Hid (∀m,XAt ((w.drewN m).setCell ⟨b,6,none⟩ (.int .i64 (n1:Int))) b bb T D n1 s s.i N vn A):=zh (fun m=>(yF.out m).turn ((Fr2.refl _ _).setCell (bh b) _) ((ab (i:=6) (yF.out m).box).trans rfl) HX.out.ok)
  have Aa:Hid (∀m,Step b bb vn w vn ((w.drewN m).setCell ⟨b,6,none⟩ (.int .i64 (n1:Int)))):=zh (fun m=>(qE.out m).trans (Step.self ((Fr2.refl _ _).setCell (bh b) _)))
  rw [HZ.out]
  clear h hC hP hn hD hnD qC
  go_enter Tryz.func82,Tryz.ntmps82
  go_wp2_with fail
  go_quiet (fail)
  go_wp2_with fail
  refine(HC.out _ (Hw.out _)).mono ?_
  rintro e w2 ⟨v,N',bY,rfl,h2,st2,o2,k2⟩
  have yg:=zh h2;have zV:=zh ((Aa.out _).trans st2);have qq:=zh o2;have wt:=zh k2
  obtain⟨d0,d1,d2,d3,d4,d5,d6,d7,d8,d9,lK⟩:=bZ h2.box
  clear h2 st2 o2 k2 Hw Aa yF qE HC
  go_wp2_with fail
  go_ret
  have hf:Fr2 (ez b) w2 (w2.setCell ⟨b,6,none⟩ (.int .i64 (n:Int))):=(Fr2.refl _ _).setCell (bh b) _
  exact⟨v,N',bY,rfl,yg.out.turn hf ((ab (i:=6) yg.out.box).trans rfl) yg.out.ok,zV.out.trans (Step.self hf),qq.out,wt.out⟩
theorem rS (hD:D≤200) (hn:n≤D) (P:St→Prop) (sub:St→RT) (hC:n<D→bX b bb T D (n+1) P 162 sub) (s:St) (N:List Nd) (vn:Value) (A:Nat→Prop) (w:World) (hP:P s) (h:XAt w b bb T D n s s.i N vn A):
  Calls Tryz.prog 82 #[.pointer (some ⟨b,0,none⟩),.func (.func 162) #[] #[]] w (dX b bb T D n 0 s (dt T D n sub s) N vn A w):=by
 obtain⟨d0,d1,d2,d3,d4,d5,d6,d7,d8,d9,lK⟩:=bZ h.box
 have HX:=zh h
 have yF:Hid (∀m,XAt (w.drewN m) b bb T D n s s.i N vn A):=zh (fun m=>HX.out.kept (ap (ad _ _) _))
 have qE:Hid (∀m,Step b bb vn w vn (w.drewN m)):=zh (fun m=>Step.of (ap (ad _ _) _))
 by_cases hnD:n=D
 ·have HZ:Hid (dt T D n sub s=([],aB T 23 s)):=zh (by unfold dt;rw [if_pos hnD])
  have HF:=zh (fun w h=>jU b bb T D n 23 s s.i N vn A w h)
  have e1:(n == D)=true:=by rw [hnD];simp
  have sl:((n:Int) == (D:Int))=true:=by rw [hnD];simp
  rw [HZ.out]
  clear h hC hP hn hD hnD
  go_enter Tryz.func82,Tryz.ntmps82
  go_wp2_with fail
  go_quiet (fail)
  go_wp2_with fail
  refine(HF.out _ (yF.out _)).mono ?_
  rintro e w2 ⟨rfl,h2,st2⟩
  have HQ:=zh (dX.fail (k:=0) (by decide) h2 ((qE.out _).trans st2))
  clear h2 st2
  go_wp2_with fail
  go_ret
  exact HQ.out
 ·have HZ:Hid (dt T D n sub s=sub s):=zh (by unfold dt;rw [if_neg hnD])
  have HC:=zh (fun w h=>hC (by omega) s N vn A w hP h)
  have e1:(n == D)=false:=beq_eq_false_iff_ne.2 hnD
  have sl:((n:Int) == (D:Int))=false:=beq_eq_false_iff_ne.2 (by omega)
  have rC:IntKind.i64.wrap ((n:Int)+1)=((n+1:Nat):Int):=by rw [IntWalk.i64_in _ (by omega)];omega
  have eE:IntKind.i64.wrap (((n+1:Nat):Int) - 1)=(n:Int):=by rw [IntWalk.i64_in _ (by omega)];omega
  obtain⟨n1,qC⟩:∃n1,n+1=n1:=⟨_,rfl⟩
  rw [qC] at rC eE HC
  have Hw:Hid (∀m,XAt ((w.drewN m).setCell ⟨b,6,none⟩ (.int .i64 (n1:Int))) b bb T D n1 s s.i N vn A):=zh (fun m=>(yF.out m).turn ((Fr2.refl _ _).setCell (bh b) _) ((ab (i:=6) (yF.out m).box).trans rfl) HX.out.ok)
  have Aa:Hid (∀m,Step b bb vn w vn ((w.drewN m).setCell ⟨b,6,none⟩ (.int .i64 (n1:Int)))):=zh (fun m=>(qE.out m).trans (Step.self ((Fr2.refl _ _).setCell (bh b) _)))
  rw [HZ.out]
  clear h hC hP hn hD hnD qC
  go_enter Tryz.func82,Tryz.ntmps82
  go_wp2_with fail
  go_quiet (fail)
  go_wp2_with fail
  refine(HC.out _ (Hw.out _)).mono ?_
  rintro e w2 ⟨v,N',bY,rfl,h2,st2,o2,k2⟩
  have yg:=zh h2;have zV:=zh ((Aa.out _).trans st2);have qq:=zh o2;have wt:=zh k2
  obtain⟨d0,d1,d2,d3,d4,d5,d6,d7,d8,d9,lK⟩:=bZ h2.box
  clear h2 st2 o2 k2 Hw Aa yF qE HC
  go_wp2_with fail
  go_ret
  have hf:Fr2 (ez b) w2 (w2.setCell ⟨b,6,none⟩ (.int .i64 (n:Int))):=(Fr2.refl _ _).setCell (bh b) _
  exact⟨v,N',bY,rfl,yg.out.turn hf ((ab (i:=6) yg.out.box).trans rfl) yg.out.ok,zV.out.trans (Step.self hf),qq.out,wt.out⟩
theorem vS (hD:D≤200) (hn:n≤D) (P:St→Prop) (sub:St→RT) (hC:n<D→bX b bb T D (n+1) P 178 sub) (s:St) (N:List Nd) (vn:Value) (A:Nat→Prop) (w:World) (hP:P s) (h:XAt w b bb T D n s s.i N vn A):
  Calls Tryz.prog 82 #[.pointer (some ⟨b,0,none⟩),.func (.func 178) #[] #[]] w (dX b bb T D n 0 s (dt T D n sub s) N vn A w):=by
 obtain⟨d0,d1,d2,d3,d4,d5,d6,d7,d8,d9,lK⟩:=bZ h.box
 have HX:=zh h
 have yF:Hid (∀m,XAt (w.drewN m) b bb T D n s s.i N vn A):=zh (fun m=>HX.out.kept (ap (ad _ _) _))
 have qE:Hid (∀m,Step b bb vn w vn (w.drewN m)):=zh (fun m=>Step.of (ap (ad _ _) _))
 by_cases hnD:n=D
 ·have HZ:Hid (dt T D n sub s=([],aB T 23 s)):=zh (by unfold dt;rw [if_pos hnD])
  have HF:=zh (fun w h=>jU b bb T D n 23 s s.i N vn A w h)
  have e1:(n == D)=true:=by rw [hnD];simp
  have sl:((n:Int) == (D:Int))=true:=by rw [hnD];simp
  rw [HZ.out]
  clear h hC hP hn hD hnD
  go_enter Tryz.func82,Tryz.ntmps82
  go_wp2_with fail
  go_quiet (fail)
  go_wp2_with fail
  refine(HF.out _ (yF.out _)).mono ?_
  rintro e w2 ⟨rfl,h2,st2⟩
  have HQ:=zh (dX.fail (k:=0) (by decide) h2 ((qE.out _).trans st2))
  clear h2 st2
  go_wp2_with fail
  go_ret
  exact HQ.out
 ·have HZ:Hid (dt T D n sub s=sub s):=zh (by unfold dt;rw [if_neg hnD])
  have HC:=zh (fun w h=>hC (by omega) s N vn A w hP h)
  have e1:(n == D)=false:=beq_eq_false_iff_ne.2 hnD
  have sl:((n:Int) == (D:Int))=false:=beq_eq_false_iff_ne.2 (by omega)
  have rC:IntKind.i64.wrap ((n:Int)+1)=((n+1:Nat):Int):=by rw [IntWalk.i64_in _ (by omega)];omega
  have eE:IntKind.i64.wrap (((n+1:Nat):Int) - 1)=(n:Int):=by rw [IntWalk.i64_in _ (by omega)];omega
  obtain⟨n1,qC⟩:∃n1,n+1=n1:=⟨_,rfl⟩
  rw [qC] at rC eE HC
  have Hw:Hid (∀m,XAt ((w.drewN m).setCell ⟨b,6,none⟩ (.int .i64 (n1:Int))) b bb T D n1 s s.i N vn A):=zh (fun m=>(yF.out m).turn ((Fr2.refl _ _).setCell (bh b) _) ((ab (i:=6) (yF.out m).box).trans rfl) HX.out.ok)
  have Aa:Hid (∀m,Step b bb vn w vn ((w.drewN m).setCell ⟨b,6,none⟩ (.int .i64 (n1:Int)))):=zh (fun m=>(qE.out m).trans (Step.self ((Fr2.refl _ _).setCell (bh b) _)))
  rw [HZ.out]
  clear h hC hP hn hD hnD qC
  go_enter Tryz.func82,Tryz.ntmps82
  go_wp2_with fail
  go_quiet (fail)
  go_wp2_with fail
  refine(HC.out _ (Hw.out _)).mono ?_
  rintro e w2 ⟨v,N',bY,rfl,h2,st2,o2,k2⟩
  have yg:=zh h2;have zV:=zh ((Aa.out _).trans st2);have qq:=zh o2;have wt:=zh k2
  obtain⟨d0,d1,d2,d3,d4,d5,d6,d7,d8,d9,lK⟩:=bZ h2.box
  clear h2 st2 o2 k2 Hw Aa yF qE HC
  go_wp2_with fail
  go_ret
  have hf:Fr2 (ez b) w2 (w2.setCell ⟨b,6,none⟩ (.int .i64 (n:Int))):=(Fr2.refl _ _).setCell (bh b) _
  exact⟨v,N',bY,rfl,yg.out.turn hf ((ab (i:=6) yg.out.box).trans rfl) yg.out.ok,zV.out.trans (Step.self hf),qq.out,wt.out⟩
theorem VE (hD:D≤200) (hn:n≤D) (hC:n<D→bX b bb T D (n+1) (fun s=>s.inn=false) 83 (fG T D (n+1) (NT T D (n+1)))):bX b bb T D n (fun s=>s.inn=false) 121 (NT T D n).expr:=by
 intro s N vn A w hP h
 have HN:=zh (gJ b bb T D n hD hn _ _ hC s N vn A w hP h)
 have HE:=zh (qw T hn s hP)
 clear h hC hP hn hD
 go_enter Tryz.func121,Tryz.ntmps121
 go_wp2_with fail
 refine HN.out.mono ?_
 rintro e w2 hp
 have HQ:=zh (hp.eqv HE.out)
 obtain⟨v,N',bY,rfl,-⟩:=hp
 clear HN
 go_wp2_with fail
 go_ret
 exact HQ.out
end
end Go.Proofs.YtjbgnopnehgbaaaGreatDoor
namespace Go.Proofs.YtjbgnopnehgbaaaGreatDoor
open Go.RowKit
def KS:List (List UInt8):=[[108,101,116],[105,102],[97,115,115,101,114,116],[61,62],[124,124],[38,38],[110,111,116],[61],[60,62],[60],[60,61],[62],[62,61],[43],[45],[42],[47],[37],[116,114,117,101],[102,97,108,115,101],[114,101,115],[40],[41],[46],[44],[105,109,112,111,114,116],[112,117,98],[102,117,110],[59],[58],[105,110,116],[98,111,111,108],[123],[125],[105,110],[116,104,101,110],[101,108,115,101]]
structure cN (T:List Tok):Prop where
 len:T.length≤40000
 short:tT T
 ends:tG T
 keys:∀(i:Nat) (t:Tok),T[i]? = some t→t.text∈KS→t.kind=2∨t.kind=4
theorem L9 {T:List Tok} (h:cN T) {s:St} (ht:(an T s).text∈KS):(an T s).kind=2∨(an T s).kind=4:=by
 unfold an at ht ⊢
 cases hq:T[s.i]? with
 | none=>rw [hq] at ht;exact absurd ht (by decide)
 | some t=>rw [hq] at ht;exact h.keys _ _ hq ht
theorem jh {T:List Tok} (h:cN T) {ws:List (List UInt8)} (hw:∀x∈ws,x∈KS) (s:St):atQ T ws s=ws.any fun x=>isQ T x s:=by
 unfold atQ isQ
 by_cases he:s.e=0
 ·rw [zd he,Bool.true_and]
  by_cases hm:(an T s).text∈ws
  ·rw [zd hm]
   exact(List.any_eq_true.2 ⟨_,hm,zd ⟨he,L9 h (hw _ hm),rfl⟩⟩).symm
  ·rw [decide_eq_false hm]
   refine(List.any_eq_false.2 fun x hx=>?_).symm
   have:¬(s.e=0∧((an T s).kind=2∨(an T s).kind=4)∧(an T s).text=x):=fun e=>hm (e.2.2▸hx)
   rw [decide_eq_false this];decide
 ·rw [decide_eq_false he,Bool.false_and]
  refine(List.any_eq_false.2 fun x hx=>?_).symm
  have:¬(s.e=0∧((an T s).kind=2∨(an T s).kind=4)∧(an T s).text=x):=fun e=>he e.1
  rw [decide_eq_false this];decide
theorem at_one {T:List Tok} (h:cN T) {x:List UInt8} (hx:x∈KS) (s:St):atQ T [x] s=isQ T x s:=by
 rw [jh h (fun y hy=>by rw [List.mem_singleton.1 hy];exact hx)];simp
theorem mU {T:List Tok} (h:cN T) {ws:List (List UInt8)} (hw:∀x∈ws,x∈KS):SU T ws:=fun s hs=>by
 rw [jh h hw] at hs
 obtain⟨x,-,hx⟩:=List.any_eq_true.1 hs
 exact af hx
theorem QP {T:List Tok} (h:cN T) {x:List UInt8} (hx:x∈KS) (s:St):ny T [x] s=aj T x s:=by
 unfold ny aj;rw [at_one h hx]
section
variable {b bb:Nat} {T:List Tok} {D n:Nat} {A0:Nat→Prop} {aZ:Value} {w0 w w':World} {s:St} {u:Nat} {N:List Nd} {vn:Value} {L:List (Value×Th)}
theorem KX.ints1 (h:KX b bb T D n A0 aZ w0 w s u N vn L) (a:Int):KX b bb T D n A0 aZ w0 (w.alloc (.cells #[.int .i64 a] 3)) s u N vn ((.slice (some ⟨w.heap.size,0,none⟩) 1 1,.ints [a])::L):=h.ints [a] (by simp) (by simp)
theorem KX.ints2 (h:KX b bb T D n A0 aZ w0 w s u N vn L) (a c:Int):KX b bb T D n A0 aZ w0 (w.alloc (.cells #[.int .i64 a,.int .i64 c] 3)) s u N vn ((.slice (some ⟨w.heap.size,0,none⟩) 2 2,.ints [a,c])::L):=h.ints [a,c] (by simp) (by simp)
theorem KX.ints3 (h:KX b bb T D n A0 aZ w0 w s u N vn L) (a c d:Int):KX b bb T D n A0 aZ w0 (w.alloc (.cells #[.int .i64 a,.int .i64 c,.int .i64 d] 3)) s u N vn ((.slice (some ⟨w.heap.size,0,none⟩) 3 3,.ints [a,c,d])::L):=h.ints [a,c,d] (by simp) (by simp)
theorem KX.ints4 (h:KX b bb T D n A0 aZ w0 w s u N vn L) (a c d e:Int):KX b bb T D n A0 aZ w0 (w.alloc (.cells #[.int .i64 a,.int .i64 c,.int .i64 d,.int .i64 e] 3)) s u N vn ((.slice (some ⟨w.heap.size,0,none⟩) 4 4,.ints [a,c,d,e])::L):=h.ints [a,c,d,e] (by simp) (by simp)
theorem KX.ints6 (h:KX b bb T D n A0 aZ w0 w s u N vn L) (a c d e f g:Int):KX b bb T D n A0 aZ w0 (w.alloc (.cells #[.int .i64 a,.int .i64 c,.int .i64 d,.int .i64 e,.int .i64 f,.int .i64 g] 3)) s u N vn ((.slice (some ⟨w.heap.size,0,none⟩) 6 6,.ints [a,c,d,e,f,g])::L):=h.ints [a,c,d,e,f,g] (by simp) (by simp)
theorem KX.at {v:Value} {ws:List (List UInt8)} (hk:KX b bb T D n A0 aZ w0 w s u N vn L) (hm:(v,Th.strs ws)∈L) (hn:ws.length≤100):
  Calls Tryz.prog 76 #[.pointer (some ⟨b,0,none⟩),v] w fun e w'=>e=.returned (.bool (atQ T ws s))∧KX b bb T D n A0 aZ w0 w' s u N vn L:=
 hk.val fun A h=>aa0 b bb T D n s u N vn v A ws w hn h (hk.str hm)
theorem KX.atx {v:Value} {ws:List (List UInt8)} (hk:KX b bb T D n A0 aZ w0 w s u N vn L) (hm:∃v',v'=v∧(v',Th.strs ws)∈L) (hn:ws.length≤100):
  Calls Tryz.prog 76 #[.pointer (some ⟨b,0,none⟩),v] w fun e w'=>e=.returned (.bool (atQ T ws s))∧KX b bb T D n A0 aZ w0 w' s u N vn L:=by
 obtain⟨v',rfl,hm⟩:=hm
 exact hk.at hm hn
theorem KX.kind (hk:KX b bb T D n A0 aZ w0 w s u N vn L) (k:Nat):
  Calls Tryz.prog 86 #[.pointer (some ⟨b,0,none⟩),.int .i64 (k:Int)] w fun e w'=>e=.returned (.bool (decide (s.e=0∧(an T s).kind=k)))∧KX b bb T D n A0 aZ w0 w' s u N vn L:=
 hk.val fun A h=>td b bb T D n s u N vn A k w h
def jm (b bb:Nat) (T:List Tok) (D n k:Nat) (A0:Nat→Prop) (aZ:Value) (w0:World) (s:St) (r:RT) (N:List Nd) (L:List (Value×Th)) (e:Ending) (w':World):Prop:=
 ∃(v:Int) (N':List Nd) (bY:Value),e=.returned (.int .i64 v)∧KX b bb T D n A0 aZ w0 w' r.2 r.2.i N' bY L∧aQ k N s r N' [v]∧(s.e≠0→r.2.e≠0)
theorem KX.take (hk:KX b bb T D n A0 aZ w0 w s s.i N vn L) (hC:cN T) (h5:(an T s).kind≠5) (he:s.e=0):Calls Tryz.prog 79 #[.pointer (some ⟨b,0,none⟩)] w (jm b bb T D n 1 A0 aZ w0 s (ac T s) N L):=
 hk.call fun A h=>Dy b bb T D n hC.len hC.short hC.ends s N vn A w h5 he h
theorem KX.one {v:Value} {ws:List (List UInt8)} (hk:KX b bb T D n A0 aZ w0 w s s.i N vn L) (hC:cN T) (hm:(v,Th.strs ws)∈L) (hn:ws.length≤100) (hw:∀x∈ws,x∈KS):Calls Tryz.prog 78 #[.pointer (some ⟨b,0,none⟩),v] w (jm b bb T D n 1 A0 aZ w0 s (ny T ws s) N L):=
 hk.call fun A h=>abe b bb T D n hC.len hC.short hC.ends ws hn (mU hC hw) s N vn v A w h (hk.str hm)
theorem KX.one1 {v:Value} (x:List UInt8) (hk:KX b bb T D n A0 aZ w0 w s s.i N vn L) (hC:cN T) (hw:x∈KS) (hm:∃v',v'=v∧(v',Th.strs [x])∈L):Calls Tryz.prog 78 #[.pointer (some ⟨b,0,none⟩),v] w (jm b bb T D n 1 A0 aZ w0 s (aj T x s) N L):=by
 obtain⟨v',rfl,hm⟩:=hm
 rw [←QP hC hw]
 exact hk.one hC hm (by simp) (fun y hy=>by rw [List.mem_singleton.1 hy];exact hw)
theorem KX.oneOf (hk:KX b bb T D n A0 aZ w0 w s s.i N vn L) (hC:cN T) (k:Nat) (hk5:k≠5):Calls Tryz.prog 46 #[.pointer (some ⟨b,0,none⟩),.int .i64 (k:Int)] w (jm b bb T D n 1 A0 aZ w0 s (aA T k s) N L):=
 hk.call fun A h=>RN b bb T D n hC.len hC.short hC.ends k hk5 s N vn A w h
theorem KX.word (hk:KX b bb T D n A0 aZ w0 w s s.i N vn L) (hC:cN T):Calls Tryz.prog 46 #[.pointer (some ⟨b,0,none⟩),.int .i64 1] w (jm b bb T D n 1 A0 aZ w0 s (aA T 1 s) N L):=hk.oneOf hC 1 (by decide)
theorem KX.sub {P:St→Prop} {f:Nat} {sub:St→RT} (hk:KX b bb T D n A0 aZ w0 w s s.i N vn L) (hC:bX b bb T D n P f sub) (hP:P s):Calls Tryz.prog f #[.pointer (some ⟨b,0,none⟩)] w (jm b bb T D n 0 A0 aZ w0 s (sub s) N L):=
 hk.call fun A h=>hC s N vn A w hP h
theorem KX.fail (hk:KX b bb T D n A0 aZ w0 w s s.i N vn L) (m:Nat) (hm:m≠0):Calls Tryz.prog 77 #[.pointer (some ⟨b,0,none⟩),.int .i64 (m:Int)] w (jm b bb T D n 0 A0 aZ w0 s ([],aB T m s) N L):=
 hk.call fun A h=>(jU b bb T D n m s s.i N vn A w h).mono (by
  rintro e w' ⟨rfl,h2,h3⟩
  exact dX.fail hm h2 h3)
theorem KX.fin {k:Nat} {r r':RT} {s0:St} {N0:List Nd} {x:Int} {w':World} {N':List Nd} {bY:Value} (ho:aQ k N0 s0 r N' [x]) (hk:KX b bb T D n A0 aZ w0 w' r.2 r.2.i N' bY L) (hd:s0.e≠0→r.2.e≠0) (he:Eqv r r'):dX b bb T D n 0 s0 r' N0 aZ A0 w0 (.returned (.int .i64 x)) w':=by
 obtain⟨h1,h2⟩:=hk.done
 exact dX.eqv ⟨x,N',bY,rfl,h1,h2,ho.weak (Nat.zero_le _),hd⟩ he
end
end Go.Proofs.YtjbgnopnehgbaaaGreatDoor
