/- Lemmas. -/
import Derived.Test.YtjbgnopnehgbaaaGreatDoorP21
set_option linter.unusedVariables false
set_option linter.unusedSimpArgs false
namespace Go.Proofs.YtjbgnopnehgbaaaGreatDoor
open Go.RowKit
def LS:Ex→List Ex→Ex
 | .mk op nm md nu ys _ ps,ks=>.mk op nm md nu ys ks ps
theorem tV (k:Nat) (o:Nat→Tok) (ks:List Ex):bJ k o ks=LS (bJ k o []) ks:=by
 unfold bJ
 repeat' (split)
 all_goals (first | rfl | (split<;>rfl))
theorem Eb (k:Nat) (o:Nat→Tok):∃op nm md nu ys ps,bJ k o []=.mk op nm md nu ys [] ps:=by
 cases h:bJ k o [] with
 | mk op nm md nu ys ks ps=>
   have h1:=tV k o []
   rw [h] at h1
   simp only [LS,Ex.mk.injEq,true_and,and_true] at h1
   exact⟨op,nm,md,nu,ys,ps,by rw [h1]⟩
theorem EK {F:Nat→Prop} {w:World} {s:Bool} {p:Option Addr} {n c:Nat} {Z:Int} (hi:Zd.IsInt w (.agg #[.bool s,.slice p n c]) Z) (h:0<n→∃a,p=some a∧F a.block) (h0:0<n):∃a,p=some a∧F a.block∧a.block<w.heap.size:=by
 obtain⟨a,ha,hF⟩:=h h0
 refine⟨a,ha,hF,?_⟩
 obtain⟨s',v,M,he,⟨p',n',c',f,rfl,h1,h2,h3,h4⟩,r⟩:=hi
 simp only [Value.agg.injEq,Array.mk.injEq,List.cons.injEq,Value.bool.injEq,Value.slice.injEq,and_true] at he
 obtain⟨rfl,rfl,rfl,rfl⟩:=he
 obtain⟨g,off,hp,hl,-⟩:=Or.resolve_left h3 (by omega)
 rw [ha] at hp;injection hp with hp;subst hp;exact hl
theorem dV.bound {F:Nat→Prop} {w:World} {op:Nat} {nu:List UInt8} {s:Bool} {p:Option Addr} {n c:Nat} (h:dV F w op nu s p n c):dV (fun k=>F k∧k<w.heap.size) w op nu s p n c:=by
 unfold dV at h ⊢
 split
 ·rename_i ho
  rw [if_pos ho] at h
  exact⟨h.1,h.2.1,EK h.1 h.2.2⟩
 ·rename_i ho
  rw [if_neg ho] at h
  exact⟨h.1,EK h.1 h.2⟩
mutual
theorem EAt.bound {F:Nat→Prop} {w:World}:∀ {x:Ex} {q:List Value},EAt F w x q→EAt (fun k=>F k∧k<w.heap.size) w x q
 | .mk op nm md nu ys ks ps,q,h=>by
   simp only [EAt] at h ⊢
   obtain⟨s,pw,nw,cw,pk,ck,rows,h1,h2,h3,h4,h5⟩:=h
   refine⟨s,pw,nw,cw,pk,ck,rows,h1,h2.bound,h3,LsE.bound h4,fun h0=>?_⟩
   obtain⟨a,ha,h6,h7⟩:=h5 h0
   have hr:=nP h4
   refine⟨a,ha,⟨h6,?_⟩,h7⟩
   exact(GAt.blk h3 (fun e=>by rw [e] at hr;exact h0 (List.eq_nil_of_length_eq_zero hr.symm)) a ha)
theorem LsE.bound {F:Nat→Prop} {w:World}:∀ {l:List Ex} {r:List (List Value)},LsE F w l r→LsE (fun k=>F k∧k<w.heap.size) w l r
 | [],r,h=>by simp only [LsE] at h ⊢;exact h
 | x::l,r,h=>by
   simp only [LsE] at h ⊢
   obtain⟨q,r',h1,h2,h3⟩:=h
   exact⟨q,r',h1,EAt.bound h2,LsE.bound h3⟩
end
theorem EAt.parts {F:Nat→Prop} {w:World} {op ps:Nat} {nm md nu:List UInt8} {ys:Bool} {q:List Value} (h:EAt F w (.mk op nm md nu ys [] ps) q) (h0:q[6]? = some (.slice none 0 0)):∃s pw nw cw,q = [.int .i64 (op:Int),.string ⟨nm.toArray⟩,.string ⟨md.toArray⟩,.bool s,.slice pw nw cw,.bool ys,.slice none 0 0,.int .i64 (ps:Int)]∧dV F w op nu s pw nw cw:=by
 simp only [EAt] at h
 obtain⟨s,pw,nw,cw,pk,ck,rows,rfl,h2,-⟩:=h
 simp at h0
 obtain⟨rfl,rfl⟩:=h0
 exact⟨s,pw,nw,cw,rfl,h2⟩
theorem EAt.one {F:Nat→Prop} {w:World} {x:Ex} {q:List Value} (h:EAt F w x q):q.length=8∧∀u∈q,u.oneCell'=true:=by
 cases x with
 | mk op nm md nu ys ks ps=>
   simp only [EAt] at h
   obtain⟨s,pw,nw,cw,pk,ck,rows,rfl,-⟩:=h
   exact⟨rfl,fun u hu=>by simp at hu;rcases hu with rfl | rfl | rfl | rfl | rfl | rfl | rfl | rfl<;>rfl⟩
theorem mB (T:List Tok):∀a b:List Tr,bR T (a++b)=bR T a++bR T b
 | [],b=>by simp [bR]
 | t::a,b=>by
   simp only [List.cons_append,bR,mB T a b]
   split<;>simp
theorem QW (T:List Tok) {l:List Tr} {j:Nat} {t:Tr} (h:l[j]? = some t) (ht:isN t=true):bR T (l.take (j+1))=bR T (l.take j)++[axT T t]:=by
 rw [gV h,mB];simp [bR,ht]
theorem P8 (T:List Tok) {l:List Tr} {j i:Nat} (h:l[j]? = some (.lf i)):bR T (l.take (j+1))=bR T (l.take j):=by
 rw [gV h,mB];simp [bR,isN]
theorem AL (T:List Tok):∀l:List Tr,(bR T l).length≤l.length
 | []=>by simp [bR]
 | t::l=>by
   have:=AL T l
   simp only [bR,List.length_cons]
   split
   ·simp only [List.length_cons];omega
   ·omega
theorem zB {T:List Tok}:∀ {l:List Tr} {j:Nat} {t:Tr},WEs T l→l[j]? = some t→WE T t
 | [],j,t,_,h=>by simp at h
 | u::l,j,t,hk,h=>by
   simp only [WEs] at hk
   match j,h with
   | 0,h=>simp at h;subst h;exact hk.1
   | j+1,h=>exact zB hk.2 (by simpa using h)
theorem gE:∀ {l:List Tr} {j:Nat} {t:Tr},l[j]? = some t→∀i∈lvT t,i∈eo l
 | [],j,t,h=>by simp at h
 | u::l,j,t,h=>fun i hi=>by
   simp only [eo,List.mem_append]
   match j,h with
   | 0,h=>simp at h;subst h;exact .inl hi
   | j+1,h=>exact .inr (gE (l:=l) (j:=j) (by simpa using h) i hi)
theorem je:∀ {l:List Tr} {j:Nat} {t:Tr},l[j]? = some t→szR t≤dI l
 | [],j,t,h=>by simp at h
 | u::l,j,t,h=>by
   simp only [dI]
   match j,h with
   | 0,h=>simp at h;subst h;omega
   | j+1,h=>have:=je (l:=l) (j:=j) (t:=t) (by simpa using h);omega
theorem jk:∀l:List Tr,l.length≤dI l
 | []=>Nat.zero_le _
 | u::l=>by have:=jk l;have:=kQ u;simp only [dI,List.length_cons];omega
theorem J8 {T:List Tok} {k:Nat} {l:List Tr} (hs:ShE T k l) (hk:k≠12) (p:Option Addr) (c:Nat) (w:World) (hl:l.length≤150000) (ht:TAt w p ((aX l).map (tkT T))) (cg:fy w):
  Calls Tryz.prog 97 #[.int .i64 (k:Int),.slice p (aX l).length c] w (cF (bJ k (fun j=>tkT T ((aX l).getD j T.length)) []) w):=by
 have ho:(fun j=>tkT T ((aX l).getD j T.length))=tkT ((aX l).map (tkT T)):=by
  funext j
  unfold tkT
  rw [List.getElem?_map,List.getD_eq_getElem?_getD]
  cases h:(aX l)[j]? with
  | none=>simp
  | some i=>rfl
 have bB:((aX l).map (tkT T)).length=(aX l).length:=List.length_map _
 have nN:((aX l).map (tkT T)).length≤150000:=by have:=oN l;omega
 rw [ho,←bB]
 cases hs with
 | let_ i j k' m t u h1 h2=>
   cases t with
   | lf _=>simp [isN] at h1
   | nd _ _=>cases u with
     | lf _=>simp [isN] at h2
     | nd _ _=>exact aaP _ p c w nN (by simp [aX]) (by simp [aX]) ht
 | if_ i j k' t u v h1 h2 h3=>exact abl _ p c w nN (by simp [aX]) ht
 | assert_ i j t u h1 h2=>exact aaA _ p c w nN (by simp [aX]) ht
 | bin i t u h1 h2 h3=>
   cases t with
   | lf _=>simp [isN] at h1
   | nd _ _=>exact XP _ p c w nN (by simp [aX]) cg ht
 | una i t h1 h2=>exact X5 _ p c w nN (by simp [aX]) ht
 | grp i j t h1=>exact absurd rfl hk
 | call i j l' h1=>exact MG _ p c w nN (by simp [aX]) (by simp [aX]) (fun e=>absurd (by simpa [aX,tkT] using e) h1) ht
 | callm i j m l' h1=>exact MG _ p c w nN (by simp [aX]) (by simp [aX]) (fun _=>by simp [aX]) ht
 | nam i=>exact Xb _ p c w nN (by simp [aX]) ht
 | num i h1=>exact WK _ p c w nN (by simp [aX]) (by simpa [aX,tkT] using h1) ht
 | tru i=>exact VN _ p c w nN (by simp [aX]) ht
 | res i=>exact Xj _ p c w nN (by simp [aX]) ht
theorem EAt.fill {F:Nat→Prop} {w:World} {op ps:Nat} {nm md nu:List UInt8} {ys s:Bool} {pw pk:Option Addr} {nw cw ck:Nat} {ks:List Ex} {rows:List (List Value)} (h:dV F w op nu s pw nw cw) (hr:GAt 8 w pk rows) (hl:LsE F w ks rows) (hf:ks≠[]→∃a,pk=some a∧F a.block∧wj w a.block):EAt F w (.mk op nm md nu ys ks ps) [.int .i64 (op:Int),.string ⟨nm.toArray⟩,.string ⟨md.toArray⟩,.bool s,.slice pw nw cw,.bool ys,.slice pk ks.length ck,.int .i64 (ps:Int)]:=by
 simp only [EAt]
 exact⟨s,pw,nw,cw,pk,ck,rows,rfl,h,hr,hl,hf⟩
theorem Vg:(Tryz.prog.info? 30).map (fun i=>(i.zero,i.size,i.bytes))=some (some (.agg #[.int .i64 0,.string ⟨#[]⟩,.string ⟨#[]⟩,.bool false,.slice none 0 0,.bool false,.slice none 0 0,.int .i64 0]),8,112):=by kernel_rfl
theorem two (w:World) (A B:Obj):∃(W:World) (b0 b1:Nat),W=(w.alloc A).alloc B∧w.heap.size=b0∧w.heap.size+1=b1∧W.heap[b0]? = some A∧W.heap[b1]? = some B∧w.grownBy W none∧b0<b1:=by
 have h1:=heap_alloc_new w A
 have h2:=heap_alloc_new (w.alloc A) B
 have s1:(w.alloc A).heap.size=w.heap.size+1:=by simp
 rw [s1] at h2
 exact⟨_,_,_,rfl,rfl,rfl,bx (World.grownBy_alloc _ _ none) h1,h2,ae (ae (ad _ _) _) _,by omega⟩
def DC (w:World) (b1 op ps:Nat) (nm md nu:List UInt8) (ys:Bool) (t5:Value) (wx:World):Prop:=
 ∃(b2:Nat) (s:Bool) (pw:Option Addr) (nw cw:Nat),t5=.pointer (some ⟨b2,0,none⟩)∧wx.heap[b2]? = some (.cells #[.int .i64 (op:Int),.string ⟨nm.toArray⟩,.string ⟨md.toArray⟩,.bool s,.slice pw nw cw,.bool ys,.slice none 0 0,.int .i64 (ps:Int)] 30 (0,0))∧dV (fun k=>b1+1≤k∧k<wx.heap.size∧k≠b2) wx op nu s pw nw cw∧b1<b2∧w.grownBy wx none
theorem GO {w w3 w4:World} {b1 op ps:Nat} {nm md nu:List UInt8} {ys s:Bool} {pw:Option Addr} {nw cw:Nat} (hg:w.grownBy w4 none) (h3:w.heap.size≤w3.heap.size) (hb:b1<w4.heap.size) (ig:b1<w3.heap.size) (hn:dV (fun k=>w3.heap.size≤k) w4 op nu s pw nw cw):
  DC w b1 op ps nm md nu ys (.pointer (some ⟨w4.heap.size,0,none⟩)) (w4.alloc (.cells #[.int .i64 (op:Int),.string ⟨nm.toArray⟩,.string ⟨md.toArray⟩,.bool s,.slice pw nw cw,.bool ys,.slice none 0 0,.int .i64 (ps:Int)] 30)):=by
 refine⟨w4.heap.size,s,pw,nw,cw,rfl,heap_alloc_new w4 _,?_,hb,ae hg _⟩
 exact((hn.bound).same (S:=fun _=>False) (Fr2.none (World.grownBy_alloc w4 _ none)) (fun _ _ h=>h)).mono (fun k hk=>⟨by omega,by simp;omega,by omega⟩)
theorem qR {w w3 w4:World} {b b1 op ps:Nat} {nm md nu:List UInt8} {ys s:Bool} {pw:Option Addr} {nw cw:Nat} {x0 x1 x2 x3 x4 x5 x6 x7:Value} (hg:w.grownBy w4 none) (h3:w.heap.size≤w3.heap.size) (hb:b1<b) (hwb:w.heap.size≤b) (ig:b<w3.heap.size) (h0:w4.heap[b]? = some (.cells #[x0,x1,x2,x3,x4,x5,x6,x7] 30 (0,0))) (hn:dV (fun k=>w3.heap.size≤k) w4 op nu s pw nw cw):
  DC w b1 op ps nm md nu ys (.pointer (some ⟨b,0,none⟩)) ((((((((w4.setCell ⟨b,0,none⟩ (.int .i64 (op:Int))).setCell ⟨b,1,none⟩ (.string ⟨nm.toArray⟩)).setCell ⟨b,2,none⟩ (.string ⟨md.toArray⟩)).setCell ⟨b,3,none⟩ (.bool s)).setCell ⟨b,4,none⟩ (.slice pw nw cw)).setCell ⟨b,5,none⟩ (.bool ys)).setCell ⟨b,6,none⟩ (.slice none 0 0)).setCell ⟨b,7,none⟩ (.int .i64 (ps:Int))):=by
 obtain⟨hp,hf⟩:=nC h0 (.int .i64 (op:Int)) (.string ⟨nm.toArray⟩) (.string ⟨md.toArray⟩) (.bool s) (.slice pw nw cw) (.bool ys) (.slice none 0 0) (.int .i64 (ps:Int))
 refine⟨b,s,pw,nw,cw,rfl,hp,?_,hb,Fr2.after hg hf (fun j hj=>by have e:j=b:=hj;omega)⟩
 exact((hn.bound).same hf (fun k hk e=>by have e:k=b:=e;omega)).mono (fun k hk=>⟨by omega,zn hk.2 hf.size,by omega⟩)
theorem DI {w1 w4:World} {b:Nat} {x0 x1 x2 x3 x4 x5 x6 x7:Value} {a0 a1 a2 a3 a4 a5 a6 a7:Value} (hg:w1.grownBy w4 none) (hb:w1.heap.size≤b) (h0:w4.heap[b]? = some (.cells #[x0,x1,x2,x3,x4,x5,x6,x7] 30 (0,0))):
  w1.grownBy ((((((((w4.setCell ⟨b,0,none⟩ a0).setCell ⟨b,1,none⟩ a1).setCell ⟨b,2,none⟩ a2).setCell ⟨b,3,none⟩ a3).setCell ⟨b,4,none⟩ a4).setCell ⟨b,5,none⟩ a5).setCell ⟨b,6,none⟩ a6).setCell ⟨b,7,none⟩ a7) none:=
 Fr2.after hg (nC h0 a0 a1 a2 a3 a4 a5 a6 a7).2 (fun j hj=>by have e:j=b:=hj;omega)
theorem V5 (T:List Tok) (i j:Nat) {u:Tr} (hu:isN u=true):axT T (.nd 12 [.lf i,u,.lf j])=axT T u:=by
 have h:bR T [.lf i,u,.lf j] = [axT T u]:=by
  rw [bR,bR,bR,bR,if_neg (by simp [isN]),if_pos hu,if_neg (by simp [isN])]
 rw [axT,if_pos rfl,h];rfl
theorem EAt.eight {F:Nat→Prop} {w:World} {x:Ex} {q:List Value} (h:EAt F w x q):∃a0 a1 a2 a3 a4 a5 a6 a7,q = [a0,a1,a2,a3,a4,a5,a6,a7]:=by
 cases x with
 | mk op nm md nu ys ks ps=>
   simp only [EAt] at h
   obtain⟨s,pw,nw,cw,pk,ck,rows,rfl,-⟩:=h
   exact⟨_,_,_,_,_,_,_,_,rfl⟩
theorem Ls {wr w7 wa w9 W9:World} {B b2 base nv cv g9 n9 cap9:Nat} {pv:Option Addr} {rows:List (List Value)} {q:List Value} {ks:List Ex} {x:Ex} {u:Value} (hw:B≤wr.heap.size) (hO:ak 8 30 wr base (.slice pv nv cv) rows) (dC:b2<base) (DF:b2<wr.heap.size)
  (hLS:LsE (fun k=>B≤k∧k<wr.heap.size∧k≠b2∧(Value.slice pv nv cv).ownBlock≠some k) wr ks rows) (iG:wr.grownBy w7 none) (hq:EAt (fun k=>wr.heap.size≤k) w7 x q) (dG:w7.grownBy wa none) (sd:wa.heap.size=w7.heap.size+1)
  (eu:wa.grownBy w9 (Value.slice pv nv cv).ownBlock) (ef:(Value.slice pv nv cv).ownBlock=some g9∨g9=w7.heap.size+1) (hf:(w9.setCell ⟨b2,6,none⟩ u).grownBy W9 none):
  LsE (fun k=>B≤k∧k<W9.heap.size∧k≠b2∧(Value.slice (some ⟨g9,0,none⟩) n9 cap9).ownBlock≠some k) W9 (ks++[x]) (rows++[q]):=by
 have Hj:=ak.at hO
 have s7:=iG.size
 have s9:=eu.size
 have sf:=hf.size
 have sc:(w9.setCell ⟨b2,6,none⟩ u).heap.size=w9.heap.size:=by simp [World.setCell]
 have fr:Fr2 (fun k=>(Value.slice pv nv cv).ownBlock=some k∨k=b2) w7 W9:=
  ((Fr2.none dG).trans ((Fr2.of eu (fun k e=>.inl e)).trans ((Fr2.setCell (Fr2.refl _ _) (.inr rfl) u).trans (Fr2.none hf))))
 have bl:∀k,k<w7.heap.size→(Value.slice pv nv cv).ownBlock≠some k→(Value.slice (some ⟨g9,0,none⟩) n9 cap9).ownBlock≠some k:=fun k hk h1 e=>by
  have e:g9=k:=Option.some.inj (show some g9=some k from e)
  rcases ef with h | h
  ·exact h1 (by rw [h,e])
  ·omega
 have oS:∀k,wr.heap.size≤k→(Value.slice pv nv cv).ownBlock≠some k:=fun k hk e=>by have:=Hj _ e;omega
 refine EM ?_ ?_
 ·have h1:=EAt.same fr (fun k (hk:wr.heap.size≤k∧k<w7.heap.size)=>fun e=>by
   rcases e with e | e
   ·exact oS k hk.1 e
   ·omega) hq.bound
  exact EAt.mono (fun k hk=>⟨by omega,by omega,by omega,bl k hk.2 (oS k hk.1)⟩) h1
 ·have h1:=LsE.same fr (fun k (hk:B≤k∧k<wr.heap.size∧k≠b2∧(Value.slice pv nv cv).ownBlock≠some k)=>fun e=>by
   rcases e with e | e
   ·exact hk.2.2.2 e
   ·exact hk.2.2.1 e) (hLS.kept iG)
  exact LsE.mono (fun k hk=>⟨hk.1,by omega,hk.2.2.1,bl k (by omega) hk.2.2.2⟩) h1
theorem aat (T:List Tok) {k:Nat} {l:List Tr} (hk:k≠12):axT T (.nd k l)=LS (bJ k (fun j=>tkT T ((aX l).getD j T.length)) []) (bR T l):=by
 rw [axT,if_neg hk,tV]
theorem ak.flat {s n c:Nat} {T:TypeId} {w:World} {base:Nat} {a:Addr} {l:List (List Value)} (h:ak s T w base (.slice (some a) n c) l):wj w a.block:=by
 rcases h.1.2 with ⟨e,-⟩ | ⟨g,cap,fp,e,hb,hg,-⟩
 ·cases e
 ·injection e with e1
  injection e1 with e1
  subst e1
  exact⟨_,_,hg⟩
theorem ak.rows {s n c:Nat} {T:TypeId} {w:World} {base:Nat} {p:Option Addr} {l:List (List Value)} (h:ak s T w base (.slice p n c) l):n=l.length∧GAt s w p l∧(l≠[]→∃a,p=some a∧base≤a.block∧a.block<w.heap.size):=by
 obtain⟨p',c',e,h1,h2,h3,h4⟩:=h.is
 injection e with e1 e2 e3
 subst e1
 refine⟨e2,h1,fun h0=>?_⟩
 have hl:=List.length_pos_iff.2 h0
 obtain⟨a,ha,hb,hc⟩:=ak.lt h rfl (by omega)
 exact⟨a,ha,hb,hc⟩
structure rH (T:List Tok) (N:List Nd) (k:Int) (t:Tr):Prop where
 nd:isN t=true
 we:WE T t
 ko:kOk t
 lv:∀i∈lvT t,i<T.length
 pl:vC N k t
end Go.Proofs.YtjbgnopnehgbaaaGreatDoor
