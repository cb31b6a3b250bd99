/- Lemmas. -/
import Derived.ProofKit
import Derived.SevenTiedAt
import Derived.Test.YtjbgnopnehgbaaaGreatDoorRows
import Derived.Test.YtjbgnopnehgbaaaGreatDoorP0
import Derived.Test.YtjbgnopnehgbaaaGreatDoorP1
set_option linter.unusedVariables false
set_option linter.unusedSimpArgs false
set_option maxHeartbeats 1000000
set_option maxRecDepth 100000
namespace Go.Proofs.YtjbgnopnehgbaaaGreatDoor
open Go.RowKit
theorem Tv:(Tryz.prog.info? 80).map (·.size)=some 2:=by kernel_rfl
theorem abx:liesAt Tryz.prog Tryz.prog.depth 80 (2 / Tryz.prog.cellsOf 80) 0 80 1=true:=by kernel_rfl
theorem aal:(Tryz.prog.info? 5).map (fun i=>(i.zero,i.size,i.bytes))=some (some (.int .u8 0),1,1):=by kernel_rfl
theorem tR (b:Nat) (w:World) (h0:w.cell? ⟨b,0,none⟩=some (.pointer (some ⟨b,0,none⟩))):
  Calls Tryz.prog 54 #[.pointer (some ⟨b,0,none⟩)] w fun e w'=>e=.returned (.tuple #[])∧w'=w:=by
 obtain⟨j,hj,_⟩:=Option.map_eq_some_iff.1 Tv
 go_enter Tryz.func54,Tryz.ntmps54
 go_wp2
 rw [Lib.run_neq_ptr_same w _ Tryz.underlying77 hj]
 go_wp2
 go_end0
 exact⟨rfl,rfl⟩
theorem rY (b:Nat) (w:World) (h0:w.cell? ⟨b,0,none⟩=some (.pointer none)) (hsh:w.shape? b=some (80,2)) (SX:w.frozen? ⟨b,0,none⟩=false):
  Calls Tryz.prog 54 #[.pointer (some ⟨b,0,none⟩)] w fun e w'=>e=.returned (.tuple #[])∧w'=w.setCell ⟨b,0,none⟩ (.pointer (some ⟨b,0,none⟩)):=by
 obtain⟨j,hj,hjs⟩:=Option.map_eq_some_iff.1 Tv
 go_enter Tryz.func54,Tryz.ntmps54
 go_wp2
 rw [Lib.run_to_unsafe w ⟨b,0,none⟩ Tryz.underlying77 Tryz.underlying170 hj (by rw [hjs];decide) hsh (Nat.zero_lt_succ 1)]
 simp only [Result.andThen]
 rw [Oper.upon_value]
 go_wp2
 rw [run_callFunc_extern Tryz.func93 (by kernel_rfl) (by kernel_rfl) (by kernel_rfl) (e:=Extern.AbiNoEscape.same) (by kernel_rfl)]
 rw [Lib.run_noEscape]
 simp only [Result.andThen]
 rw [Oper.upon_value]
 go_wp2
 rw [Lib.run_from_unsafe w ⟨b,0,none⟩ Tryz.underlying170 Tryz.underlying77 hj hsh abx]
 simp only [Result.andThen]
 rw [Oper.upon_value]
 go_wp2
 go_end0
 exact⟨rfl,rfl⟩
def gU (b:Nat) (w w':World):Prop:=∀(g:Nat) (cs:Array Value) (T:TypeId),w.heap[g]? = some (.cells cs T (0,0))→T≠5→g≠b→w'.heap[g]? = some (.cells cs T (0,0))
theorem gU.trans {b:Nat} {w w1 w2:World} (h:gU b w w1) (k:gU b w1 w2):gU b w w2:=fun g cs T h1 h2 h3=>k g cs T (h g cs T h1 h2 h3) h2 h3
theorem gU.none {b:Nat} {w w':World} (h:w.grownBy w' Option.none):gU b w w':=fun g cs T h1 _ _=>bx h h1
theorem j3 {a:World} {h:Nat} {o:Obj} (hb:a.heap[h]? = some o):h<a.heap.size:=hlt hb
theorem AJ (B b:Nat) (bs:List Value) (w:World) (h:Lib.IsBuilder 80 5 B b bs w):
  Calls Tryz.prog 54 #[.pointer (some ⟨b,0,none⟩)] w fun e w'=>e=.returned (.tuple #[])∧(Lib.BuilderAt 80 5 B b (.pointer (some ⟨b,0,none⟩)) bs w'∧Below B w w')∧Fr2 (fun k=>k=b) w w':=by
 rcases h with h | h
 ·refine(rY b w h.cell0 h.shape h.frozen0).mono ?_
  rintro e w' ⟨rfl,rfl⟩
  exact⟨rfl,⟨h.used _,(Below.refl B w).setCell (p:=⟨b,0,none⟩) h.1 _⟩,Fr2.setCell (S:=fun k=>k=b) (Fr2.refl _ _) rfl _⟩
 ·refine(tR b w h.cell0).mono ?_
  rintro e w' ⟨rfl,rfl⟩
  exact⟨rfl,⟨h,Below.refl B _⟩,Fr2.refl _ _⟩
theorem fA (B b:Nat) (bs:List Value) (s:ByteArray) (w:World) (h:Lib.IsBuilder 80 5 B b bs w) (bB:bs.length+s.size≤140737488355328) (hBw:B≤w.heap.size):
  Calls Tryz.prog 23 #[.pointer (some ⟨b,0,none⟩),.string s] w fun e w'=>e=.returned (.tuple #[.int .i64 s.size,.nilIface])∧(Lib.BuilderAt 80 5 B b (.pointer (some ⟨b,0,none⟩)) (bs++Lib.strCells s) w'∧Below B w w')∧gU b w w':=by
 obtain⟨i0,hi,YT,hz1,hz2⟩:=info_parts aal
 go_enter Tryz.func23,Tryz.ntmps23
 go_wp2_with (go_at_call 54;refine(AJ B b bs _ h).mono ?_)
 rintro e w1 ⟨rfl,⟨h1,fw⟩,kM⟩
 have rV:=zh kM
 clear kM
 obtain⟨hB,v,uu,ey,bl⟩:=h1
 have c0:w1.cell? ⟨b,0,none⟩=some (.pointer (some ⟨b,0,none⟩)):=by rw [Lib.cell_of_heap uu];rfl
 have c1:w1.cell? ⟨b,1,none⟩=some v:=by rw [Lib.cell_of_heap uu];rfl
 go_wp2_with (at_builtin;refine Lib.wpList_append_own_string _ rfl _ _ 78 9 rfl B 5 i0 Tryz.underlying78 Tryz.underlying9 hi YT hz1 hz2 _ _ _ rfl ey s rfl ?c3 ?c4 ?c5 ?_)
 case c3=>unfold maxLen;omega
 case c4=>omega
 case c5=>have:=fw.size;omega
 intro v' w2 hown' hgrow _
 have hlt:b<w1.heap.size:=by
  rcases Nat.lt_or_ge b w1.heap.size with h' | h'
  ·exact h'
  ·simp [Array.getElem?_eq_none h'] at uu
 have dC:w2.heap[b]? = some (.cells #[.pointer (some ⟨b,0,none⟩),v] 80 (0,0)):=by
  rw [hgrow.block b hlt (fun e=>bl e.symm)]
  exact uu
 have d0:w2.cell? ⟨b,0,none⟩=some (.pointer (some ⟨b,0,none⟩)):=by rw [Lib.cell_of_heap dC];rfl
 have d1:w2.cell? ⟨b,1,none⟩=some v:=by rw [Lib.cell_of_heap dC];rfl
 have f1:w2.frozen? ⟨b,1,none⟩=false:=Lib.frozen_of_heap dC 1
 obtain⟨ao,n',cap,rfl⟩:∃ao n' cap,v'=.slice ao n' cap:=by
  rcases hown'.2 with ⟨hv,_⟩ | ⟨g,cap,fp,hv,_⟩
  ·exact⟨_,_,_,hv⟩
  ·exact⟨_,_,_,hv⟩
 go_wp2
 go_ret2
 refine⟨rfl,⟨?_,?_⟩,?_⟩
 ·exact Lib.BuilderAt.put (T:=80) (e:=5) hB dC (bs':=bs++Lib.strCells s) (by simpa [Lib.strCells_length] using hown') (by decide)
 ·exact(fw.grown hgrow (by have:=fw.size;omega) (fun k hk=>(ey.lt k hk).1)).setCell (p:=⟨b,1,none⟩) hB _
 ·intro g cs T h1 h2 h3
  have h4:=rV.out.keep h1 h3
  have h5:=Lib.ownBlock_ne ey h4 h2
  have h6:w2.heap[g]? = _:=(hgrow.block g (j3 h4) (fun e=>h5 e.symm)).trans h4
  rw [Below.heap_setCell _ _ _ _ (by simpa using h3)]
  exact h6
theorem An {B b:Nat} {bs:List Value} {w w':World} (h:Lib.IsBuilder 80 5 B b bs w) (hg:w.grownBy w' none):Lib.IsBuilder 80 5 B b bs w':=by
 have one:∀p,Lib.BuilderAt 80 5 B b p bs w→Lib.BuilderAt 80 5 B b p bs w':=by
  intro p ⟨hB,v,hb,ey,bl⟩
  exact⟨hB,v,bx hg hb,World.ownsRow.kept ey hg (by cases hv:v.ownBlock with | none=>exact .inl rfl | some k=>exact .inr (by simp)),bl⟩
 exact h.imp (one _) (one _)
theorem Gs {B b g:Nat} {bs:List Value} {w w':World} {cs:Array Value} {T:TypeId} (h:Lib.IsBuilder 80 5 B b bs w) (hg:w.grownBy w' (some g)) (NC:w.heap[g]? = some (.cells cs T (0,0))) (hT:T≠5) (bl:g≠b):Lib.IsBuilder 80 5 B b bs w':=by
 have one:∀p,Lib.BuilderAt 80 5 B b p bs w→Lib.BuilderAt 80 5 B b p bs w':=by
  intro p ⟨hB,v,hb,ey,hn⟩
  have h5:=Lib.ownBlock_ne ey NC hT
  exact⟨hB,v,(hg.block b (hlt hb) (by simpa using bl.symm)).trans hb,World.ownsRow.kept ey hg (by cases hv:v.ownBlock with | none=>exact .inl rfl | some k=>exact .inr (fun e=>h5 (hv.trans e))),hn⟩
 exact h.imp (one _) (one _)
theorem yR (w:World) (B:Nat) (hB:B≤w.heap.size):Lib.IsBuilder 80 5 B w.heap.size [] (w.alloc (.cells #[.pointer none,.slice none 0 0] 80)):=
 .inl ⟨hB,.slice none 0 0,heap_alloc_new w _,World.ownsRow_nil _ _ _ _,by simp [Value.ownBlock]⟩
structure iN where
 kind:Int
 lead:List UInt8
 text:List UInt8
 pos:Int
structure Nd where
 kind:Int
 tok:Int
 kids:List Int
def rc {α : Type} (d : α) (F:Nd→(Int→α)→α) (N:List Nd):Nat→Nat→α
 | 0,_=>d
 | f+1,n=>match N[n]? with
   | none=>d
   | some x=>F x (fun k=>rc d F N f k.toNat)
def rcw {α : Type} (d : α) (F:Nd→(Int→α)→α) (N:List Nd) (n:Nat):α:=rc d F N (n+1) n
def lvF (x:Nd) (g:Int→List Int):List Int:=if x.kind=19 then [x.tok] else x.kids.flatMap g
def szF (x:Nd) (g:Int→Nat):Nat:=1+(x.kids.map g).sum
def lv (N:List Nd) (n:Nat):List Int:=rcw [] lvF N n
def sz (N:List Nd) (n:Nat):Nat:=rcw 0 szF N n
def Wid (s:Nat) (l:List (List Value)):Prop:=∀q∈l,q.length=s∧∀u∈q,u.oneCell'=true
theorem flat_get {s:Nat} {l:List (List Value)} (hw:Wid s l):∀(j:Nat) (q:List Value),l[j]? = some q→∀(i:Nat) (v:Value),q[i]? = some v→l.flatten[j*s+i]? = some v:=by
 induction l with
 | nil=>intro j q h;simp at h
 | cons a l ih=>
   intro j q hj i v hi
   have ha:=(hw a List.mem_cons_self).1
   rw [List.flatten_cons]
   match j,hj with
   | 0,hj=>
     simp at hj;subst hj
     rw [Nat.zero_mul,Nat.zero_add,List.getElem?_append_left (List.getElem?_eq_some_iff.1 hi).1];exact hi
   | j+1,hj=>
     have h2:(j+1)*s+i=a.length+(j*s+i):=by rw [ha,Nat.add_mul];omega
     rw [h2,List.getElem?_append_right (by omega),Nat.add_sub_cancel_left]
     exact ih (fun q hq=>hw q (List.mem_cons_of_mem _ hq)) j q (by simpa using hj) i v hi
theorem dc {s:Nat} {l:List (List Value)} (hw:Wid s l):l.flatten.length=l.length*s:=by
 induction l with
 | nil=>simp
 | cons a l ih=>rw [List.flatten_cons,List.length_append,ih fun q hq=>hw q (List.mem_cons_of_mem _ hq),(hw a List.mem_cons_self).1,List.length_cons,Nat.add_mul];omega
def GAt (s:Nat) (w:World) (p:Option Addr) (l:List (List Value)):Prop:=
 l = []∨∃g off,p=some ⟨g,off,none⟩∧g<w.heap.size∧∀(j:Nat) (q:List Value),l[j]? = some q→∀(i:Nat) (v:Value),q[i]? = some v→w.cell? ⟨g,off+j*s+i,none⟩=some v
theorem GAt.kept {s:Nat} {w w':World} {p:Option Addr} {l:List (List Value)} (h:GAt s w p l) (hg:w.grownBy w' none):GAt s w' p l:=by
 rcases h with h | ⟨g,off,rfl,hl,hc⟩
 ·exact .inl h
 ·exact .inr ⟨g,off,rfl,zn hl hg.size,fun j q hj i v hi=>hg.cell (hc j q hj i v hi) (by simp)⟩
theorem GAt.keptS {S:Nat→Prop} {s:Nat} {w w':World} {p:Option Addr} {l:List (List Value)} (h:GAt s w p l) (hg:Fr2 S w w') (hS:l≠[]→∀a,p=some a→¬S a.block):GAt s w' p l:=by
 rcases h with h | ⟨g,off,rfl,hl,hc⟩
 ·exact .inl h
 ·by_cases h0:l = []
  ·exact .inl h0
  ·exact .inr ⟨g,off,rfl,zn hl hg.size,fun j q hj i v hi=>by rw [World.cell?_of_block (w:=w) (hg.block g hl (hS h0 ⟨g,off,none⟩ rfl))];exact hc j q hj i v hi⟩
theorem GAt.blk {s:Nat} {w:World} {p:Option Addr} {l:List (List Value)} (h:GAt s w p l):l≠[]→∀a,p=some a→a.block<w.heap.size:=fun h0 a ha=>by
 obtain⟨g,off,rfl,hl,-⟩:=h.resolve_left h0
 injection ha with ha;subst ha;exact hl
theorem GAt.nil {s:Nat} {w:World} {p:Option Addr}:GAt s w p []:=.inl rfl
def ak (s:Nat) (T:TypeId) (w:World) (base:Nat) (v:Value) (l:List (List Value)):Prop:=w.ownsRow base T s v l.length l.flatten∧Wid s l
theorem ak.nil (s:Nat) (T:TypeId) (w:World) (base:Nat):ak s T w base (.slice none 0 0) []:=⟨World.ownsRow_nil _ _ _ _,fun q hq=>by simp at hq⟩
theorem ak.kept {s:Nat} {T:TypeId} {w w':World} {base:Nat} {v:Value} {l:List (List Value)} (h:ak s T w base v l) (hg:w.grownBy w' none):ak s T w' base v l:=⟨World.ownsRow.kept h.1 hg (by
 cases hv:v.ownBlock with
 | none=>exact .inl rfl
 | some k=>exact .inr (by simp)),h.2⟩
theorem ak.keptS {S:Nat→Prop} {s:Nat} {T:TypeId} {w w':World} {base:Nat} {v:Value} {l:List (List Value)} (h:ak s T w base v l) (hg:Fr2 S w w') (hS:∀g,base≤g→¬S g):ak s T w' base v l:=
 ⟨⟨h.1.1,h.1.2.imp id fun ⟨g,cap,fp,e,hb,hh,r⟩=>⟨g,cap,fp,e,hb,hg.keep hh (hS g hb),r⟩⟩,h.2⟩
theorem ak.is {s:Nat} {T:TypeId} {w:World} {base:Nat} {v:Value} {l:List (List Value)} (h:ak s T w base v l):∃p c,v=.slice p l.length c∧GAt s w p l∧l.length≤c∧c≤maxLen∧(l≠[]→∀a,p=some a→base≤a.block):=by
 rcases h.1.2 with ⟨rfl,h0⟩ | ⟨g,cap,fp,rfl,hb,hg,BC,wk,h1,h2⟩
 ·have:l = []:=List.eq_nil_of_length_eq_zero h0
  subst this
  exact⟨none,0,rfl,.inl rfl,Nat.le_refl _,by unfold maxLen;omega,fun h=>absurd rfl h⟩
 ·refine⟨_,cap,rfl,.inr ⟨g,0,rfl,hlt hg,fun j q hj i v hi=>?_⟩,BC,wk,fun _ a ha=>by injection ha with ha;subst ha;exact hb⟩
  have h3:=flat_get h.2 j q hj i v hi
  have h':w.ownsRow base T s (.slice (some ⟨g,0,none⟩) l.length cap) l.length l.flatten:=h.1
  have h4:=(List.getElem?_eq_some_iff.1 h3).1
  rw [dc h.2] at h4
  rw [Nat.zero_add,h'.cellAt _ h4];exact h3
theorem ak.lt {s:Nat} {T:TypeId} {w:World} {base:Nat} {v:Value} {l:List (List Value)} (h:ak s T w base v l) {p:Option Addr} {n c:Nat} (hv:v=.slice p n c) (hn:0<n):∃a,p=some a∧base≤a.block∧a.block<w.heap.size:=by
 rcases h.1.2 with ⟨h1,h0⟩ | ⟨g,cap,fp,h1,hb,hg,-⟩
 ·rw [hv] at h1;injection h1 with h1 h2 h3;omega
 ·rw [hv] at h1;injection h1 with h1 h2 h3;subst h1;exact⟨_,rfl,hb,hlt hg⟩
theorem ly {P:Program} {w:World} (base:Nat) (t ty e:TypeId) (i:TypeInfo) (size:Nat) (ht:P.underlying t=some (.slice e)) (hi:P.info? e=some i)
  (v:Value) (n:Nat) (xs:List Value) (ey:w.ownsRow base e size v n xs) (p:Option Addr) (c:Nat):
  (Builtin.append_ #[t,t] ty #[v,.slice p 0 c]).run P w=.ok v w:=by
 rcases ey.2 with ⟨rfl,rfl⟩ | ⟨g,cap,fp,rfl,_,_,BC,_⟩
 ·cases p<;>simp [Builtin.append_,run_underlying ht,sizeOf,typeInfo,hi,Builtin.lenOf,Builtin.firstCells,loadCells,loadCellsFrom]
 ·cases p<;>simp [Builtin.append_,run_underlying ht,sizeOf,typeInfo,hi,Builtin.lenOf,Builtin.firstCells,BC,storeCells,loadCells,loadCellsFrom]
theorem nO {P:Program} {w:World} {ops:Array Oper} {rest:List Oper} {o:Oper} {a:Act} {Q:Exit→Act→World→Prop} (eO:o.guard=none) (s x:Operand) (t:TypeId)
  (ho:o.op=.call { callee:=.builtin .append,args:=#[s,x],argTypes:=#[t,t] })
  (base:Nat) (e:TypeId) (i:TypeInfo) (size:Nat) (ht:P.underlying t=some (.slice e)) (hi:P.info? e=some i)
  (v:Value) (n:Nat) (xs:List Value) (hs:a.eval s=v) (ey:w.ownsRow base e size v n xs) (p:Option Addr) (c:Nat) (hx:a.eval x=.slice p 0 c)
  (h:wpList P ops Q rest (a.put o.dst v) w):wpList P ops Q (o::rest) a w:=by
 refine wpList_plain eO fun K hK=>?_
 have pj:=ly (P:=P) (w:=w) base t o.type e i size ht hi v n xs ey p c
 unfold Oper.wp
 simp [execOp,ho,resolve,invoke,builtin,hs,hx,pj,Result.andThen]
 exact hK _ _ h
theorem oG {s:Nat} {t T:TypeId} {z:Value} {by':Nat} (Jv:0<s) (ht:Tryz.prog.underlying t=some (.slice T)) (hT:(Tryz.prog.info? T).map (fun i=>(i.zero,i.size,i.bytes))=some (some z,s,by')) (hz:z.cells.size=s) (hby:by'≤1000)
  {w0:World} {ops:Array Oper} {rest:List Oper} {o:Oper} {a:Act} {Q:Exit→Act→World→Prop} (eO:o.guard=none) (os ox:Operand) (ho:o.op=.call { callee:=.builtin .append,args:=#[os,ox],argTypes:=#[t,t] })
  (base:Nat) (l ys:List (List Value)) (hy:Wid s ys) (v:Value) (hs:a.eval os=v) (ey:ak s T w0 base v l) (p:Option Addr) (m c:Nat) (hx:a.eval ox=.slice p m c) (hm:ys.length=m) (jL:GAt s w0 p ys) (hn:l.length≤1000000) (hn2:m≤1000000) (gq:base≤w0.heap.size)
  (K:∀p' n' bH w',n'=l.length+m→ak s T w' base (.slice p' n' bH) (l++ys)→Below base w0 w'→w0.grownBy w' v.ownBlock→wpList Tryz.prog ops Q rest (a.put o.dst (.slice p' n' bH)) w'):
  wpList Tryz.prog ops Q (o::rest) a w0:=by
 obtain⟨i0,hi,JF,Ha,D5⟩:=info_parts hT
 by_cases rO:m=0
 ·subst rO
  have:ys = []:=List.eq_nil_of_length_eq_zero hm
  subst this
  obtain⟨p',c',rfl,-⟩:=ey.is
  exact nO eO os ox t ho base T i0 s ht hi _ _ _ hs ey.1 p c hx (K p' _ c' w0 rfl (by simpa using ey) (Below.refl _ _) (ad _ _))
 have rO:0<m:=by omega
 have hb:(l.length+m)*by'≤140737488355328:=by
  have:(l.length+m)*by'≤(l.length+m)*1000:=Nat.mul_le_mul_left _ hby
  omega
 obtain⟨g,off,rfl,gc,hc⟩:=jL.resolve_left (fun h=>by rw [h] at hm;simp at hm;omega)
 refine wpList_append_lies (P:=Tryz.prog) _ eO os ox t ho base T i0 z s by' ht hi JF Ha D5 hz Jv _ l.length l.flatten hs ey.1 ⟨g,off,none⟩ m c ys.flatten hx (by rw [dc hy,hm]) ?_ ?_ rO (by unfold maxLen;omega) hb gq w0.heap.size rfl ?_
 ·intro j u hj
  have Zg:=(List.getElem?_eq_some_iff.1 hj).1
  rw [dc hy] at Zg
  have hq:j / s<ys.length:=(Nat.div_lt_iff_lt_mul Jv).2 Zg
  have h3:=List.getElem?_eq_getElem hq
  have hr:j % s<(ys[j / s]).length:=by rw [(hy _ (List.getElem_mem hq)).1];exact Nat.mod_lt _ Jv
  have h4:=List.getElem?_eq_getElem hr
  have h5:=flat_get hy _ _ h3 _ _ h4
  have h6:j / s*s+j % s=j:=by rw [Nat.mul_comm];exact Nat.div_add_mod j s
  rw [h6,hj] at h5
  have h5:=Option.some.inj h5
  rw [Addr.add_lit,h5,←hc _ _ h3 _ _ h4,Nat.add_assoc,h6]
 ·intro u hu
  obtain⟨q,hq,hu⟩:=List.mem_flatten.1 hu
  exact(hy q hq).2 u hu
 ·intro g' bH w' h3 h4 h5 _
  refine K _ _ bH w' rfl ⟨by simpa [hm] using h3,fun q hq=>?_⟩ (xC ey.1 gq h4) h4
  rcases List.mem_append.1 hq with hq | hq
  ·exact ey.2 q hq
  ·exact hy q hq
def one (zs:List Value):List (List Value):=zs.map ([·])
theorem mK (zs:List Value):(one zs).length=zs.length:=List.length_map _
theorem uM (zs:List Value):(one zs).flatten=zs:=by
 induction zs with
 | nil=>rfl
 | cons a l ih=>simpa [one] using ih
theorem ye {zs:List Value} (h:∀u∈zs,u.oneCell'=true):Wid 1 (one zs):=fun q hq=>by
 obtain⟨u,hu,rfl⟩:=List.mem_map.1 hq
 exact⟨rfl,fun v hv=>by simp at hv;subst hv;exact h _ hu⟩
theorem Xs {w:World} {p:Option Addr} {zs:List Value} (h:VAt w p zs):GAt 1 w p (one zs):=by
 rcases h with rfl | ⟨g,off,rfl,hl,hc⟩
 ·exact .inl rfl
 ·refine .inr ⟨g,off,rfl,hl,fun j q hj i v hi=>?_⟩
  unfold one at hj
  rw [List.getElem?_map] at hj
  obtain⟨u,hu,rfl⟩:=Option.map_eq_some_iff.1 hj
  match i,hi with
  | 0,hi=>simp at hi;subst hi;simpa using hc j _ hu
theorem Yc {w:World} {p:Option Addr} {zs:List Value} (h:GAt 1 w p (one zs)):VAt w p zs:=by
 rcases h with h | ⟨g,off,rfl,hl,hc⟩
 ·refine .inl ?_
  unfold one at h;exact List.map_eq_nil_iff.1 h
 ·refine .inr ⟨g,off,rfl,hl,fun j u hj=>?_⟩
  have:=hc j [u] (by unfold one;rw [List.getElem?_map,hj];rfl) 0 u rfl
  simpa using this
end Go.Proofs.YtjbgnopnehgbaaaGreatDoor
namespace Go.Proofs.YtjbgnopnehgbaaaGreatDoor.Mx
structure kU (u d Y dM lE:Nat):Prop where
 hY:Y=dM*4294967296+lE
 h0:lE<4294967296
 h1:2147483648≤dM
 h2:dM<4294967296
 hu:u<Y
 hd:d<4294967296
section
variable {u d Y dM lE q r:Nat}
theorem kU.pos (h:kU u d Y dM lE):0<Y:=by have:=h.hY;have:=h.h1;omega
theorem kU.lt (h:kU u d Y dM lE):(u*4294967296+d) / Y<4294967296:=by
 rw [Nat.div_lt_iff_lt_mul h.pos]
 have:=h.hu;have:=h.hd;omega
theorem Vj (h:kU u d Y dM lE) (e:q*dM+r=u):q*Y+r*4294967296=u*4294967296+q*lE:=by
 rw [h.hY,←e];grind
theorem kU.stop (h:kU u d Y dM lE) (e:q*dM+r=u) (hQ:(u*4294967296+d) / Y≤q) (t:q*lE≤4294967296*r+d):q=(u*4294967296+d) / Y:=by
 have m:=Vj h e
 have:q≤(u*4294967296+d) / Y:=by
  rw [Nat.le_div_iff_mul_le h.pos];omega
 omega
theorem kU.more (h:kU u d Y dM lE) (e:q*dM+r=u) (t:4294967296≤q∨4294967296*r+d<q*lE):(u*4294967296+d) / Y<q:=by
 rcases t with t | t
 ·have:=h.lt;omega
 ·have m:=Vj h e
  rw [Nat.div_lt_iff_lt_mul h.pos];omega
theorem kU.brk (h:kU u d Y dM lE) (e:q*dM+r=u) (hQ:(u*4294967296+d) / Y≤q) (hr:4294967296≤r) (hq:q≤4294967296):q=(u*4294967296+d) / Y:=by
 have m:=Vj h e
 have:q*lE≤4294967296*4294967295:=Nat.mul_le_mul hq (by have:=h.h0;omega)
 have:q≤(u*4294967296+d) / Y:=by
  rw [Nat.le_div_iff_mul_le h.pos];omega
 omega
theorem kU.start (h:kU u d Y dM lE):(u / dM)*dM+u % dM=u∧(u*4294967296+d) / Y≤u / dM∧u / dM≤4294967297∧u % dM<4294967296∧0<dM:=by
 have h1:=h.h1;have h2:=h.h2;have hu:=h.hu;have hY:=h.hY;have h0:=h.h0;have hd:=h.hd
 have e:(u / dM)*dM+u % dM=u:=by rw [Nat.mul_comm];exact Nat.div_add_mod u dM
 have hm:u % dM<dM:=Nat.mod_lt _ (by omega)
 refine⟨e,?_,?_,by omega,by omega⟩
 ·rw [Nat.le_div_iff_mul_le (by omega)]
  have k:(u*4294967296+d) / Y*Y≤u*4294967296+d:=Nat.div_mul_le_self _ _
  generalize (u*4294967296+d) / Y=Q at *
  have e2:Q*Y=Q*dM*4294967296+Q*lE:=by rw [hY];grind
  omega
 ·have:u / dM<4294967298:=by
   rw [Nat.div_lt_iff_lt_mul (by omega)];omega
  omega
theorem kU.rest (h:kU u d Y dM lE):(u*4294967296+d) % Y<Y∧(u*4294967296+d) / Y*Y+(u*4294967296+d) % Y=u*4294967296+d:=by
 refine⟨Nat.mod_lt _ h.pos,?_⟩
 rw [Nat.mul_comm];exact Nat.div_add_mod _ _
end
open Go.Lib in
theorem mg:∀(f x:Nat),x<2 ^ f→x<2 ^ bitLenAux f x∧(x≠0→2 ^ bitLenAux f x≤2*x)∧bitLenAux f x≤f
 | 0,x,h=>by simp at h;subst h;simp [bitLenAux]
 | f+1,x,h=>by
   rw [Nat.pow_succ] at h
   obtain⟨a,b,c⟩:=mg f (x / 2) (by omega)
   by_cases h0:x=0
   ·subst h0;simp [bitLenAux]
   ·have e:bitLenAux (f+1) x=1+bitLenAux f (x / 2):=by simp [bitLenAux,h0]
    rw [e,Nat.pow_add]
    refine⟨by omega,fun _=>?_,by omega⟩
    by_cases h1:x / 2=0
    ·have:bitLenAux f (x / 2)=0:=by rw [h1];cases f<;>simp [bitLenAux]
     rw [this];omega
    ·have:=b h1;omega
theorem LV (y:Nat) (h0:0<y) (h:y<18446744073709551616):∃s,s≤63∧Go.Lib.bitLen y+s=64∧y*2 ^ s<18446744073709551616∧9223372036854775808≤y*2 ^ s:=by
 obtain⟨a,b,c⟩:=mg 64 y h
 have b:=b (by omega)
 change y<2 ^ Go.Lib.bitLen y at a
 change 2 ^ Go.Lib.bitLen y≤2*y at b
 change Go.Lib.bitLen y≤64 at c
 have iO:Go.Lib.bitLen y≠0:=by intro e;rw [e] at a;omega
 obtain⟨s,hs⟩:∃s,Go.Lib.bitLen y+s=64:=⟨64 - Go.Lib.bitLen y,by omega⟩
 have hp:2 ^ Go.Lib.bitLen y*2 ^ s=18446744073709551616:=by rw [←Nat.pow_add,hs]
 have Jv:0<2 ^ s:=Nat.pow_pos (by omega)
 refine⟨s,by omega,hs,?_,?_⟩
 ·calc y*2 ^ s<2 ^ Go.Lib.bitLen y*2 ^ s:=Nat.mul_lt_mul_of_pos_right a Jv
   _=_:=hp
 ·have:2 ^ Go.Lib.bitLen y*2 ^ s≤2*y*2 ^ s:=Nat.mul_le_mul_right _ b
  rw [hp,Nat.mul_assoc] at this
  omega
end Go.Proofs.YtjbgnopnehgbaaaGreatDoor.Mx
namespace Go.Proofs.YtjbgnopnehgbaaaGreatDoor.showBodies
open Go.ChangeShapes Go.WideShapes Go.ChangeAt Go.RowKit
theorem k1:(Rows.showBodiesRow.inPlace == Tryz.prog.inPlace 3)=true:=by kernel_rfl
theorem k2:(Rows.showBodiesRow.unfollowed == Tryz.prog.unfollowed 3)=true:=by kernel_rfl
theorem k3:(Rows.showBodiesRow.recurses == Tryz.prog.recurses 3)=true:=by kernel_rfl
theorem k4:(Rows.showBodiesRow.named == Tryz.prog.varsNamed 3)=true:=by kernel_rfl
theorem k5:laidOutB Tryz.prog=true:=by kernel_rfl
theorem k6:mapsRowed Tryz.prog=true:=by kernel_rfl
theorem k7:Rows.showBodiesRow.wf (OpenSpec.ofChange Rows.showBodiesSpec)=true:=by kernel_rfl
theorem closed:joinedFacts Tryz.prog 3 Tryz.f3 Rows.showBodiesSpec Rows.showBodiesRow=true:=by
 unfold joinedFacts
 simp only [Bool.and_eq_true]
 repeat' apply And.intro
 all_goals first
  | with_reducible exact k1
  | with_reducible exact k2
  | with_reducible exact k3
  | with_reducible exact k4
  | with_reducible exact k5
  | with_reducible exact k6
  | with_reducible exact k7
  | kernel_rfl
end Go.Proofs.YtjbgnopnehgbaaaGreatDoor.showBodies
