/- Lemmas. -/
import Derived.BigQuiet
import Derived.Deep.AppendLies
import Derived.Deep.OwnRows
import Derived.Deep.RegionHeld3
import Derived.Laws.AppendOwnNone
import Derived.Shelf.Bits.Mul64
import Derived.Shelf.Small.Bits
import Derived.Shelf.Small.Utf8
import Derived.Shelf.Small.Wraps
import Derived.Shelf.Strconv.Clone
import Derived.Shelf.Strconv.Itoa3
import Derived.Shelf.Strings.AsciiSet
import Derived.Shelf.Strings.BuilderK
import Derived.Shelf.Strings.Runes
import Derived.Shelf.Strings.Shaped
import Derived.Shelf.Strings.Trim
import Derived.Shelf.Unicode.DecodeSlow
import Derived.Test.YtpkipghjohomcaaGreatDoorProg
import Derived.WalkLawsBesides
import Derived.WalkSpells
set_option linter.unusedVariables false
set_option linter.unusedSimpArgs false
namespace Go.Proofs.YtpkipghjohomcaaGreatDoor
open Go.RowKit
theorem zh {p:Prop} (h:p):Hid p:=Lib.hid h
theorem zn {a b c:Nat} (h:a<b) (k:b<=c):a<c:=Nat.lt_of_lt_of_le h k
theorem zd {p:Prop} [Decidable p] (h:p):decide p=true:=decide_eq_true h
theorem zx {α:Sort _} (a:α):∃x,a=x:=⟨_,rfl⟩
theorem xz {α:Type _} [BEq α] [LawfulBEq α] {a b:α}:(a == b)=false↔a≠b:=beq_eq_false_iff_ne
theorem qn (w:World) (o:Obj) (row:Option Nat):w.grownBy (w.alloc o) row:=World.grownBy_alloc w o row
theorem Yu {α:Type _} {a:α} {l:List α}:a∈a::l:=List.mem_cons_self
theorem YK (w:World) (o:Obj):(w.alloc o).heap[w.heap.size]? = some o:=heap_alloc_new w o
theorem QS {α:Type _} {l:List α} {i:Nat} (h:i<l.length):l[i]? = some l[i]:=List.getElem?_eq_getElem h
theorem Q1 {α:Type _} (y:α) {a:α} {l:List α}:a∈l->a∈y::l:=List.mem_cons_of_mem y
theorem Q2 {α:Type _} {c d:List α}:(c++d).length=c.length+d.length:=List.length_append
theorem Q4 {α:Type _} {i:Nat} {a:α} {l:List α}:l[i]? = some a↔∃h:i<l.length,l[i]=a:=List.getElem?_eq_some_iff
theorem Q5 {α:Type _} (l:List α) (i:Nat) (a:α):l.toArray.setIfInBounds i a=(l.set i a).toArray:=List.setIfInBounds_toArray l i a
theorem Q7 {α:Type _} {xs:List α} {i:Nat}:xs.toArray[i]? = xs[i]?:=List.getElem?_toArray
theorem kT {α:Type _} {a:α} {i:Nat} {l:List α}:(a::l)[i+1]? = l[i]?:=List.getElem?_cons_succ
theorem vd {α:Type _} {a:α} {l:List α}:(a::l)[0]? = some a:=List.getElem?_cons_zero
theorem vi {α:Type _} (a:α) (l:List α):l.Sublist (a::l):=List.sublist_cons_self a l
theorem vr (w:World) (p a:Addr) (v:Value):p.block≠a.block->(w.setCell p v).cell? a=w.cell? a:=World.cell?_setCell_far w p a v
theorem VW {p:Prop} [Decidable p]:¬p->decide p=false:=decide_eq_false
theorem V7 {α:Type _} {i:Nat} {l:List α}:l.length<=i->l.take i=l:=List.take_of_length_le
theorem fb {α:Type _} {l:List α}:l.length=0->l=[]:=List.eq_nil_of_length_eq_zero
theorem fk {α:Type _} {x:α} {xs:List α} {a:α}:(x::xs).set 0 a=a::xs:=List.set_cons_zero
theorem fz {α:Type _} {x:α} {xs:List α} {i:Nat} {a:α}:(x::xs).set (i+1) a=x::xs.set i a:=List.set_cons_succ
theorem gn {α:Type _} {l:List α} {i:Nat} {a:α}:l[i]? = some a->a∈l:=List.mem_of_getElem?
theorem hJ {α:Type _} {a:α} {l:List α}:(a::l).length=l.length+1:=List.length_cons
theorem hZ (w:World) (g j:Nat) (cs:Array Value) (t:TypeId) (fr:Nat×Nat) (hg:w.heap[g]? = some (.cells cs t fr)):w.cell? ⟨g,j,none⟩=cs[j]?:=cell_of_row w g j cs t fr hg
theorem zE (p:Prop) [Decidable p] (h:p:=by omega):decide p=true:=decide_eq_true h
theorem zX (p:Prop) [Decidable p] (h:¬p:=by omega):decide p=false:=decide_eq_false h
theorem yi {α:Type _} [BEq α] [LawfulBEq α] (a b:α) (h:a≠b:=by omega):(a == b)=false:=beq_eq_false_iff_ne.2 h
open Go.RowKit List Go.World
theorem sS {k:IntKind} {a b:Int} (h:a=b):Value.int k a=Value.int k b:=by rw [h]
section
variable {w a b c:World} {row:Option Nat}
theorem ad (w:World) (row:Option Nat):w.grownBy w row:=⟨rfl,rfl,rfl,Nat.le_refl _,fun _ _ _=>rfl⟩
theorem aa (h:a.grownBy b row) (k:b.grownBy c row):a.grownBy c row:=
 ⟨k.os.trans h.os,k.tape.trans h.tape,k.output.trans h.output,Nat.le_trans h.size k.size,fun B m A=>(k.block B (zn m h.size) A).trans (h.block B m A)⟩
theorem aC (h:a.grownBy b row):a.grownBy b.drew row:=⟨h.os,h.tape,h.output,h.size,h.block⟩
theorem am (h:a.grownBy b row) (n:Nat):a.grownBy (b.drewN n) row:=⟨h.os,h.tape,h.output,h.size,h.block⟩
theorem af (h:a.grownBy b row) (o:Obj):a.grownBy (b.alloc o) row:=aa h (qn b o row)
theorem gbx {a b:World} {row:Option Nat} (h:a.grownBy b row:=by repeat (with_reducible first | exact ad _ _ | refine aC ?_ | refine af ?_ _)):a.grownBy b row:=h
theorem gby {a b:World} {row:Option Nat} (h:a.grownBy b row:=by repeat (with_reducible first | exact ad _ _ | refine aC ?_ | refine am ?_ _ | refine af ?_ _)):a.grownBy b row:=h
theorem pM {g j:Nat} (h:a.grownBy b (some g)) (u:Value):a.grownBy (b.setCell ⟨g,j,none⟩ u) (some g):=
 aa h ⟨rfl,rfl,rfl,by simp [World.setCell],fun B _ A=>Below.heap_setCell _ _ _ _ (by intro m;apply A;rw [m])⟩
theorem dF (h:a.grownBy b none):Below a.heap.size a b:=⟨h.os,h.tape,h.output,h.size,fun A m=>h.block A m (by simp)⟩
theorem bj (h:Below a.heap.size a b):a.grownBy b row:=⟨h.os,h.tape,h.output,h.size,fun A m _=>h.block A m⟩
theorem Below.trans2 {B:Nat} (h:Below B a b) (k:Below B b c):Below B a c:=
 ⟨k.os.trans h.os,k.tape.trans h.tape,k.output.trans h.output,Nat.le_trans h.size k.size,fun A m=>(k.block A m).trans (h.block A m)⟩
theorem Below.gb {B:Nat} (h:a.grownBy b none) (A:B<=a.heap.size):Below B a b:=⟨h.os,h.tape,h.output,h.size,fun m E=>h.block m (by omega) (by simp)⟩
theorem bx {h:Nat} {o:Obj} (A:a.grownBy b none) (m:a.heap[h]? = some o):b.heap[h]? = some o:=(A.block _ (Array.getElem?_eq_some_iff.1 m).1 (by simp)).trans m
theorem hlt {h:Nat} {o:Obj} (m:a.heap[h]? = some o):h<a.heap.size:=(Array.getElem?_eq_some_iff.1 m).1
end
structure Fr2 (S:Nat->Prop) (w w':World):Prop where
 os:w'.os=w.os
 tape:w'.tape=w.tape
 output:w'.output=w.output
 size:w.heap.size<=w'.heap.size
 block:∀k,k<w.heap.size->¬S k->w'.heap[k]? = w.heap[k]?
theorem Fr2.refl (S:Nat->Prop) (w:World):Fr2 S w w:=⟨rfl,rfl,rfl,Nat.le_refl _,fun _ _ _=>rfl⟩
theorem Fr2.trans {S:Nat->Prop} {a b c:World} (h:Fr2 S a b) (k:Fr2 S b c):Fr2 S a c:=
 ⟨k.os.trans h.os,k.tape.trans h.tape,k.output.trans h.output,Nat.le_trans h.size k.size,fun B m A=>(k.block B (zn m h.size) A).trans (h.block B m A)⟩
theorem Fr2.of {S:Nat->Prop} {a b:World} {row:Option Nat} (h:a.grownBy b row) (A:∀k,row=some k->S k):Fr2 S a b:=
 ⟨h.os,h.tape,h.output,h.size,fun k B E=>h.block k B fun m=>E (A k m.symm)⟩
theorem Fr2.below {S:Nat->Prop} {a b:World} {B:Nat} (h:Fr2 S a b) (E:B<=a.heap.size) (m:∀k,S k->B<=k):Below B a b:=
 ⟨h.os,h.tape,h.output,h.size,fun k G=>h.block k (by omega) fun A=>by have:=m k A;omega⟩
theorem Fr2.after {S:Nat->Prop} {a b c:World} (h:a.grownBy b none) (k:Fr2 S b c) (A:∀i,S i->a.heap.size<=i):a.grownBy c none:=
 ⟨k.os.trans h.os,k.tape.trans h.tape,k.output.trans h.output,Nat.le_trans h.size k.size,fun i m _=>(k.block i (zn m h.size) (fun B=>by have:=A i B;omega)).trans (h.block i m (by simp))⟩
theorem Fr2.ofBelow {a b:World} {B:Nat} (h:Below B a b):Fr2 (fun m=>B<=m) a b:=
 ⟨h.os,h.tape,h.output,h.size,fun m _ A=>h.block m (by omega)⟩
theorem Fr2.low {S:Nat->Prop} {a b c:World} (h:Fr2 S a b) (k:Below a.heap.size b c):Fr2 S a c:=
 ⟨k.os.trans h.os,k.tape.trans h.tape,k.output.trans h.output,Nat.le_trans h.size k.size,fun A m B=>(k.block A m).trans (h.block A m B)⟩
theorem Fr2.mono {S S':Nat->Prop} {a b:World} (h:Fr2 S a b) (A:∀k,S k->S' k):Fr2 S' a b:=
 ⟨h.os,h.tape,h.output,h.size,fun k B E=>h.block k B fun m=>E (A k m)⟩
theorem Fr2.none {S:Nat->Prop} {a b:World} (h:a.grownBy b none):Fr2 S a b:=Fr2.of h (fun _ m=>by cases m)
theorem Fr2.keep {S:Nat->Prop} {a b:World} {k:Nat} {o:Obj} (h:Fr2 S a b) (m:a.heap[k]? = some o) (A:¬S k):b.heap[k]? = some o:=(h.block k (hlt m) A).trans m
theorem Fr2.setCell {S:Nat->Prop} {a b:World} (h:Fr2 S a b) {g j:Nat} (A:S g) (u:Value):Fr2 S a (b.setCell ⟨g,j,Option.none⟩ u):=
 h.trans (Fr2.of (row:=some g) (pM (ad _ _) u) (fun B m=>by injection m with m;exact m▸A))
theorem cells3 {w:World} {r:Nat} {u v z:Value} {T:TypeId} (h:w.heap[r]? = some (.cells #[u,v,z] T (0,0))):w.cell? ⟨r,0,none⟩=some u/\w.cell? ⟨r,1,none⟩=some v/\w.cell? ⟨r,2,none⟩=some z/\∀o,w.frozen? ⟨r,o,none⟩=false:=
 ⟨by rw [hZ w r 0 _ T (0,0) h];rfl,by rw [hZ w r 1 _ T (0,0) h];rfl,by rw [hZ w r 2 _ T (0,0) h];rfl,fun o=>by simp [World.frozen?,h]⟩
theorem cx {w:World} {r:Nat} {a b c d:Value} {T:TypeId} (h:w.heap[r]? = some (.cells #[a,b,c,d] T (0,0))):w.cell? ⟨r,0,none⟩=some a/\w.cell? ⟨r,1,none⟩=some b/\w.cell? ⟨r,2,none⟩=some c/\w.cell? ⟨r,3,none⟩=some d/\∀o,w.frozen? ⟨r,o,none⟩=false:=
 ⟨by rw [hZ w r 0 _ T (0,0) h];rfl,by rw [hZ w r 1 _ T (0,0) h];rfl,by rw [hZ w r 2 _ T (0,0) h];rfl,by rw [hZ w r 3 _ T (0,0) h];rfl,fun o=>by simp [World.frozen?,h]⟩
theorem ab {W:World} {r i:Nat} {cs:Array Value} {u:Value} {T:TypeId} (m:W.heap[r]? = some (.cells cs T (0,0))):(W.setCell ⟨r,i,none⟩ u).heap[r]? = some (.cells (cs.setIfInBounds i u) T (0,0)):=by
 simp only [World.setCell,Array.getElem?_modify,m,if_true,Option.map_some];rfl
def VAt (w:World) (p:Option Addr) (G:List Value):Prop:=
 G = []\/∃m B,p=some ⟨m,B,none⟩/\m<w.heap.size/\∀A E,G[A]? = some E->w.cell? ⟨m,B+A,none⟩=some E
theorem VAt.keptS {S:Nat->Prop} {w I:World} {p:Option Addr} {m:List Value} (h:VAt w p m) (E:Fr2 S w I) (J:m≠[]->∀a,p=some a->¬S a.block):VAt I p m:=by
 rcases h with h | ⟨A,H,rfl,G,L⟩
 ·exact .inl h
 ·by_cases B:m = []
  ·exact .inl B
  ·exact .inr ⟨A,H,rfl,zn G E.size,fun R U O=>by rw [<-L R U O];exact cell?_of_block (w:=w) (E.block A G (J B ⟨A,H,none⟩ rfl))⟩
theorem VAt.kept {w A:World} {p:Option Addr} {m:List Value} (h:VAt w p m) (B:w.grownBy A none):VAt A p m:=h.keptS (S:=fun _=>False) (Fr2.none B) (fun _ _ _ h=>h)
theorem VAt.low {w J:World} {p:Option Addr} {m:List Value} {B:Nat} (h:VAt w p m) (H:Below B w J) (L:m≠[]->∀a,p=some a->a.block<B):VAt J p m:=by
 rcases h with h | ⟨A,E,rfl,R,O⟩
 ·exact .inl h
 ·by_cases G:m = []
  ·exact .inl G
  ·exact .inr ⟨A,E,rfl,zn R H.size,fun I Y U=>(H.cell (p:=⟨A,E+I,none⟩) (L G ⟨A,E,none⟩ rfl)).trans (O I Y U)⟩
def xW (T:TypeId) (w:World) (base:Nat) (v:Value) (m:List Value):Prop:=w.ownsRow base T 1 v m.length m
theorem xW.nil (T:TypeId) (w:World) (base:Nat):xW T w base (.slice none 0 0) []:=ownsRow_nil _ _ _ _
theorem xW.kept {T:TypeId} {w A:World} {base:Nat} {v:Value} {m:List Value} (h:xW T w base v m) (B:w.grownBy A none):xW T A base v m:=World.ownsRow.kept h B (by
 cases E:v.ownBlock with
 | none=>exact .inl rfl
 | some G=>exact .inr (by simp))
theorem xW.keptS {S:Nat->Prop} {T:TypeId} {w E:World} {base:Nat} {v:Value} {B:List Value} (h:xW T w base v B) (J:Fr2 S w E) (I:∀g,base<=g->v.ownBlock=some g->¬S g):xW T E base v B:=by
 refine⟨h.1,h.2.imp id fun ⟨g,G,H,m,A,L,O⟩=>⟨g,G,H,m,A,J.keep L (I g A (by rw [m];rfl)),O⟩⟩
theorem xW.is {T:TypeId} {w:World} {base:Nat} {v:Value} {m:List Value} (h:xW T w base v m):∃p c,v=.slice p m.length c/\VAt w p m/\m.length<=c/\c<=maxLen:=by
 rcases h.2 with ⟨A,I⟩ | ⟨H,O,G,A,hb,J,Y,U,hs,R⟩
 ·exact⟨none,0,by rw [A,I],.inl (fb I),by omega,by omega⟩
 ·refine⟨_,O,A,.inr ⟨H,0,rfl,hlt J,fun B ak L=>?_⟩,Y,U⟩
  have Z:B<m.length:=(Q4.1 L).1
  have E:(G.toList.take (m.length*1))[B]? = m[B]? := by rw [R]
  rw [getElem?_take,if_pos (by omega),Array.getElem?_toList] at E
  rw [hZ _ H _ G _ (0,0) J,Nat.zero_add,E,L]
theorem sY {A E:World} {base n:Nat} {e:TypeId} {size:Nat} {v:Value} {xs:List Value} (h:A.ownsRow base e size v n xs) (G:base<=A.heap.size) (m:A.grownBy E v.ownBlock):Below base A E:=
 ⟨m.os,m.tape,m.output,m.size,fun B H=>m.block B (by omega) fun e=>by have:=(h.lt B e.symm).1;omega⟩
def sn (l:List (Value×Value)):List Value:=l.flatMap fun m=>[m.1,m.2]
theorem De (p:Value×Value) (l:List (Value×Value)):sn (p::l)=p.1::p.2::sn l:=rfl
theorem FX (l:List (Value×Value)) (j:Nat) (p:Value×Value) (h:l[j]? = some p):(sn l)[j*2]? = some p.1/\(sn l)[j*2+1]? = some p.2:=by
 induction l generalizing j with
 | nil=>simp at h
 | cons A l m=>
   rw [De]
   match j,h with
   | 0,h=>simp at h;subst h;exact⟨rfl,rfl⟩
   | j+1,h=>
     have:=m j (by simpa using h)
     rw [show(j+1)*2=j*2+1+1 by omega]
     simpa using this
def QAt (w:World) (p:Option Addr) (l:List (Value×Value)):Prop:=
 l = []\/∃m B,p=some ⟨m,B,none⟩/\m<w.heap.size/\∀A E,l[A]? = some E->w.cell? ⟨m,B+A*2,none⟩=some E.1/\w.cell? ⟨m,B+A*2+1,none⟩=some E.2
theorem QAt.kept {w H:World} {p:Option Addr} {l:List (Value×Value)} (h:QAt w p l) (m:w.grownBy H none):QAt H p l:=by
 rcases h with h | ⟨I,L,rfl,J,A⟩
 ·exact .inl h
 ·exact .inr ⟨I,L,rfl,zn J m.size,fun E G B=>⟨m.cell (A E G B).1 (by simp),m.cell (A E G B).2 (by simp)⟩⟩
theorem QAt.low {w O:World} {p:Option Addr} {l:List (Value×Value)} {B:Nat} (h:QAt w p l) (G:Below B w O) (R:l≠[]->∀a,p=some a->a.block<B):QAt O p l:=by
 rcases h with h | ⟨m,E,rfl,U,I⟩
 ·exact .inl h
 ·by_cases H:l = []
  ·exact .inl H
  ·have hlt:=R H ⟨m,E,none⟩ rfl
   exact .inr ⟨m,E,rfl,zn U G.size,fun A L J=>⟨(G.cell (p:=⟨m,E+A*2,none⟩) hlt).trans (I A L J).1,(G.cell (p:=⟨m,E+A*2+1,none⟩) hlt).trans (I A L J).2⟩⟩
theorem QAt.blk {w:World} {p:Option Addr} {l:List (Value×Value)} (h:QAt w p l):l≠[]->∀a,p=some a->a.block<w.heap.size:=fun E a G=>by
 obtain⟨B,I,A,H,-⟩:=h.resolve_left E
 have m:some a=some (⟨B,I,none⟩:Addr):=G.symm.trans A
 injection m with m;subst m;exact H
def sC (T:TypeId) (w:World) (base:Nat) (v:Value) (l:List (Value×Value)):Prop:=w.ownsRow base T 2 v l.length (sn l)
theorem sC.nil (T:TypeId) (w:World) (base:Nat):sC T w base (.slice none 0 0) []:=ownsRow_nil _ _ _ _
theorem sC.kept {T:TypeId} {w m:World} {base:Nat} {v:Value} {l:List (Value×Value)} (h:sC T w base v l) (A:w.grownBy m none):sC T m base v l:=World.ownsRow.kept h A (by
 cases B:v.ownBlock with
 | none=>exact .inl rfl
 | some E=>exact .inr (by simp))
theorem sC.keptS {S:Nat->Prop} {T:TypeId} {w B:World} {base:Nat} {v:Value} {l:List (Value×Value)} (h:sC T w base v l) (I:Fr2 S w B) (H:∀g,base<=g->v.ownBlock=some g->¬S g):sC T B base v l:=by
 refine⟨h.1,h.2.imp id fun ⟨g,E,G,m,A,J,L⟩=>⟨g,E,G,m,A,I.keep J (H g A (by rw [m];rfl)),L⟩⟩
theorem sC.is {T:TypeId} {w:World} {base:Nat} {v:Value} {l:List (Value×Value)} (h:sC T w base v l):∃p c,v=.slice p l.length c/\QAt w p l/\l.length<=c/\c<=maxLen/\(l≠[]->∀a,p=some a->base<=a.block):=by
 rcases h.2 with ⟨rfl,L⟩ | ⟨B,A,ep,rfl,O,R,Z,Y,h1,h2⟩
 ·have:l = []:=fb L
  subst this
  exact⟨none,0,rfl,.inl rfl,Nat.le_refl _,by unfold maxLen;omega,fun h=>absurd rfl h⟩
 ·refine⟨_,A,rfl,.inr ⟨B,0,rfl,hlt R,fun H U G=>?_⟩,Z,Y,fun _ a m=>by injection m with m;subst m;exact O⟩
  obtain⟨I,J⟩:=FX l H U G
  have PU:H<l.length:=(Q4.1 G).1
  have E:w.ownsRow base T 2 (.slice (some ⟨B,0,none⟩) l.length A) l.length (sn l):=h
  rw [Nat.zero_add]
  exact⟨by rw [E.cellAt _ (by omega)];exact I,by rw [E.cellAt _ (by omega)];exact J⟩
end Go.Proofs.YtpkipghjohomcaaGreatDoor
namespace Go.Proofs.YtpkipghjohomcaaGreatDoor
def qX (b:UInt8):Bool:=b == 32 || b == 9 || b == 13 || b == 10
def nr (b:UInt8):Bool:=(97<=b && b<=122) || (65<=b && b<=90)
def fy (b:UInt8):Bool:=48<=b && b<=57
def inW (b:UInt8):Bool:=nr b || fy b || b == 95
def sk:Bool->List UInt8->Nat
 | _,[]=>0
 | true,b::r=>if b=10 then sk false r+1 else sk true r+1
 | false,b::r=>if qX b then sk false r+1 else if b=45/\r.head? = some 45 then sk true r+1 else 0
theorem tU:∀(l:List UInt8) (m:Bool),sk m l<=l.length
 | [],m=>by cases m<;>simp [sk]
 | b::r,true=>by
   have A:=tU r false;have B:=tU r true
   simp only [sk,hJ];split<;>omega
 | b::r,false=>by
   have A:=tU r false;have B:=tU r true
   simp only [sk,hJ];split
   ·omega
   ·split<;>omega
def runN (p:UInt8->Bool):List UInt8->Nat
 | []=>0
 | b::r=>if p b then runN p r+1 else 0
theorem rK (p:UInt8->Bool):∀l:List UInt8,runN p l<=l.length
 | []=>Nat.le_refl _
 | b::r=>by
   have:=rK p r
   simp only [runN,hJ];split<;>omega
theorem og (p:UInt8->Bool) {l:List UInt8} {k:Nat} (A:k<=l.length) (B:∀j b,j<k->l[j]? = some b->p b=true) (m:∀b,l[k]? = some b->p b=false):runN p l=k:=by
 induction l generalizing k with
 | nil=>simp at A;subst A;rfl
 | cons G J H=>
   match k,A,B,m with
   | 0,_,_,m=>simp only [runN];rw [m G rfl];rfl
   | k+1,A,B,m=>
     simp only [runN]
     rw [B 0 G (by omega) rfl,H (k:=k) (by simpa using A) (fun j b I E=>B (j+1) b (by omega) (by simpa using E)) (fun b E=>m b (by simpa using E))]
     rfl
def fY:List (List UInt8):=[[97,115,115,101,114,116],[98,111,111,108],[101,108,115,101],[102,97,108,115,101],[102,117,110],[105,102],[105,109,112,111,114,116],[105,110],[105,110,116],[108,101,116],[110,111,116],[112,117,98],[114,101,115],[116,104,101,110],[116,114,117,101]]
def iP:List (List UInt8):=[[40],[41],[123],[125],[44],[58],[59],[46],[43],[45],[42],[47],[37],[61],[60,62],[60],[60,61],[62],[62,61],[38,38],[124,124],[61,62]]
def fm (L:List (List UInt8)) (l:List UInt8) (m:Nat):Nat:=L.foldl (fun m A=>if A.isPrefixOf l then max m A.length else m) m
theorem Tu (L:List (List UInt8)) (g l:List UInt8) (m:Nat):fm (L++[g]) l m=if g.isPrefixOf l then max (fm L l m) g.length else fm L l m:=by
 unfold fm;rw [List.foldl_append];rfl
theorem aaS {L:List (List UInt8)} {l:List UInt8} {n:Nat} (h:∀g∈L,g.isPrefixOf l=true->g.length<=n):∀m,m<=n->fm L l m<=n:=by
 induction L with
 | nil=>intro m A;exact A
 | cons B L H=>
   intro m A
   show fm L l (if B.isPrefixOf l then max m B.length else m)<=n
   refine H (fun g G=>h g (Q1 _ G)) _ ?_
   split
   ·rename_i E
    exact Nat.max_le.2 ⟨A,h B (Yu ..) E⟩
   ·exact A
def nV (l:List UInt8):Nat:=fm iP l 0
theorem RK {g l:List UInt8} (h:g.isPrefixOf l=true):g.length<=l.length:=(List.isPrefixOf_iff_prefix.1 h).length_le
theorem MF (l:List UInt8):nV l<=l.length:=aaS (fun A _ m=>RK m) 0 (Nat.zero_le _)
def cy:List UInt8->Nat×Nat
 | []=>(5,0)
 | a::r=>if nr a then (if fY.contains ((a::r).take (runN inW (a::r))) then 2 else 1,runN inW (a::r))
   else if fy a then (3,runN fy (a::r)) else if 0<nV (a::r) then (4,nV (a::r)) else (0,0)
theorem gY (a:UInt8) (r:List UInt8):cy (a::r)=if nr a then (if fY.contains ((a::r).take (runN inW (a::r))) then 2 else 1,runN inW (a::r))
  else if fy a then (3,runN fy (a::r)) else if 0<nV (a::r) then (4,nV (a::r)) else (0,0):=rfl
def cK (k:Nat) (t:List UInt8):Nat:=
 if k=0\/k=1/\40<t.length then 20 else if k=3/\(60<t.length\/1<t.length/\t.head? = some 48) then 21 else 0
theorem ot (l:List UInt8):(cy l).2<=l.length:=by
 cases l with
 | nil=>exact Nat.le_refl _
 | cons m A=>
   rw [gY]
   have B:=rK inW (m::A);have E:=rK fy (m::A);have G:=MF (m::A)
   split
   ·exact B
   ·split
    ·exact E
    ·split
     ·exact G
     ·exact Nat.zero_le _
theorem tB (l:List UInt8):(cy l).1<=5/\((cy l).1=5↔l = []):=by
 cases l with
 | nil=>exact⟨Nat.le_refl _,by simp [cy]⟩
 | cons m A=>
   rw [gY]
   split
   ·simp only [reduceCtorEq,iff_false];split<;>omega
   ·split
    ·simp
    ·split<;>simp
theorem pI {l:List UInt8} (I:(cy l).1≠5) (m:(cy l).1≠0):0<(cy l).2:=by
 cases l with
 | nil=>exact absurd rfl I
 | cons A B=>
   rw [gY] at m ⊢
   split
   ·rename_i h
    show 0<runN inW (A::B)
    simp [runN,inW,h]
   ·split
    ·rename_i h
     show 0<runN fy (A::B)
     simp [runN,h]
    ·split
     ·assumption
     ·rename_i E G H
      rw [if_neg E,if_neg G,if_neg H] at m
      exact absurd rfl m
structure Tok where
 kind:Nat
 lead:List UInt8
 text:List UInt8
 pos:Nat
def bI (l:List UInt8) (p:Nat):Tok:=⟨(cy (l.drop (sk false l))).1,l.take (sk false l),(l.drop (sk false l)).take (cy (l.drop (sk false l))).2,p+sk false l⟩
def f9 (l:List UInt8):Nat:=sk false l+(cy (l.drop (sk false l))).2
def kg:Nat->List UInt8->Nat->List Tok×Nat×Nat
 | 0,_,_=>([],0,0)
 | f+1,l,p=>
   if cK (bI l p).kind (bI l p).text≠0 then ([],cK (bI l p).kind (bI l p).text,(bI l p).pos)
   else if (bI l p).kind=5 then ([bI l p],0,0)
   else (bI l p::(kg f (l.drop (f9 l)) (p+f9 l)).1,(kg f (l.drop (f9 l)) (p+f9 l)).2)
def ai (l:List UInt8):List Tok×Nat×Nat:=kg (l.length+1) l 0
theorem me {f:Nat} {l:List UInt8} {p:Nat} (h:cK (bI l p).kind (bI l p).text≠0):kg (f+1) l p=([],cK (bI l p).kind (bI l p).text,(bI l p).pos):=by
 rw [kg,if_pos h]
theorem rs {f:Nat} {l:List UInt8} {p:Nat} (h:cK (bI l p).kind (bI l p).text=0) (m:(bI l p).kind=5):kg (f+1) l p=([bI l p],0,0):=by
 rw [kg,if_neg (by simp [h]),if_pos m]
theorem n5 {f:Nat} {l:List UInt8} {p:Nat} (h:cK (bI l p).kind (bI l p).text=0) (m:(bI l p).kind≠5):kg (f+1) l p=(bI l p::(kg f (l.drop (f9 l)) (p+f9 l)).1,(kg f (l.drop (f9 l)) (p+f9 l)).2):=by
 rw [kg,if_neg (by simp [h]),if_neg m]
theorem vH (l:List UInt8):f9 l<=l.length:=by
 unfold f9
 have A:=tU l false;have m:=ot (l.drop (sk false l))
 rw [List.length_drop] at m;omega
theorem sd {l:List UInt8} {p:Nat} (h:cK (bI l p).kind (bI l p).text=0) (A:(bI l p).kind≠5):0<f9 l:=by
 have:(cy (l.drop (sk false l))).1≠0:=fun m=>by
  unfold cK at h
  rw [if_pos (.inl m)] at h;cases h
 have:=pI A this
 unfold f9;omega
def mV (s:List UInt8) (O:List Tok) (p:Nat):Prop:=p<=s.length/\O.length<=p/\∃m,s.length - p<m/\ai s=(O++(kg m (s.drop p) p).1,(kg m (s.drop p) p).2)
theorem mV.start (s:List UInt8):mV s [] 0:=⟨Nat.zero_le _,Nat.le_refl _,s.length+1,by omega,by simp [ai]⟩
theorem mV.fault {s:List UInt8} {O:List Tok} {p:Nat} (h:mV s O p) (E:cK (bI (s.drop p) p).kind (bI (s.drop p) p).text≠0):(ai s).2=(cK (bI (s.drop p) p).kind (bI (s.drop p) p).text,(bI (s.drop p) p).pos):=by
 obtain⟨_,_,m,G,B⟩:=h
 obtain⟨m,rfl⟩:∃A,m=A+1:=⟨m - 1,by omega⟩
 rw [B,me E]
theorem mV.done {s:List UInt8} {O:List Tok} {p:Nat} (h:mV s O p) (G:cK (bI (s.drop p) p).kind (bI (s.drop p) p).text=0) (B:(bI (s.drop p) p).kind=5):ai s=(O++[bI (s.drop p) p],0,0):=by
 obtain⟨_,_,m,H,E⟩:=h
 obtain⟨m,rfl⟩:∃A,m=A+1:=⟨m - 1,by omega⟩
 rw [E,rs G B]
theorem mV.more {s:List UInt8} {O:List Tok} {p:Nat} (h:mV s O p) (B:cK (bI (s.drop p) p).kind (bI (s.drop p) p).text=0) (A:(bI (s.drop p) p).kind≠5):mV s (O++[bI (s.drop p) p]) (p+f9 (s.drop p))/\0<f9 (s.drop p):=by
 obtain⟨R,L,m,J,I⟩:=h
 obtain⟨m,rfl⟩:∃E,m=E+1:=⟨m - 1,by omega⟩
 have G:=vH (s.drop p);have H:=sd B A
 rw [List.length_drop] at G
 refine⟨⟨by omega,by rw [Q2,List.length_singleton];omega,m,by omega,?_⟩,H⟩
 rw [I,n5 B A,List.drop_drop,List.append_assoc]
 rfl
end Go.Proofs.YtpkipghjohomcaaGreatDoor
namespace Go.Proofs
open Go.Shelf
def Tryz.lays169_ren:Go.Shelf.Ren:=⟨fun | 169=>29 | n=>n,fun | 70=>93 | 9=>9 | 0=>0 | 72=>96 | 37=>94 | 127=>129 | 3=>3 | 5=>5 | n=>n,fun | n=>n⟩
theorem Tryz.lays169:Go.Proofs.Lays.n169 Tryz.prog Tryz.lays169_ren:={
 mixed:=by kernel_rfl
 f169:=Tryz.func29.trans (congrArg some (by kernel_rfl))
 t0:=Tryz.underlying0
 a0:=Tryz.isAgg0
 z0:=Tryz.sizeOf0
 v0:=Tryz.zeroValue0
 t3:=Tryz.underlying3
 a3:=Tryz.isAgg3
 z3:=Tryz.sizeOf3
 v3:=Tryz.zeroValue3
 t9:=Tryz.underlying9
 a9:=Tryz.isAgg9
 z9:=Tryz.sizeOf9
 v9:=Tryz.zeroValue9
 t37:=Tryz.underlying94
 a37:=Tryz.isAgg94
 z37:=Tryz.sizeOf94
 v37:=Tryz.zeroValue94
 t70:=Tryz.underlying93
 a70:=Tryz.isAgg93
 z70:=Tryz.sizeOf93
 v70:=Tryz.zeroValue93
 t72:=Tryz.underlying96
 a72:=Tryz.isAgg96
 z72:=Tryz.sizeOf96
 v72:=Tryz.zeroValue96
 t127:=Tryz.underlying129
 a127:=Tryz.isAgg129
 z127:=Tryz.sizeOf129
 v127:=Tryz.zeroValue129 }
theorem Tryz.Builder_Extra_169:Builder.Extra Tryz.prog Tryz.lays169_ren:={
 sizeBuilder:=by kernel_rfl
 liesBuilder:=by kernel_rfl
 t5:=Tryz.underlying5
 a5:=Tryz.isAgg5
 z5:=Tryz.sizeOf5
 v5:=Tryz.zeroValue5
 infoByte:=by kernel_rfl
 cellsByte:=by kernel_rfl
 sizeByte:=by kernel_rfl
 neB5:=by decide }
def Tryz.lays161_ren:Go.Shelf.Ren:=⟨fun | 161=>104 | 231=>130 | 227=>131 | 233=>132 | 235=>133 | 228=>146 | 197=>147 | 151=>148 | 260=>157 | 152=>158 | 137=>166 | 119=>167 | 224=>161 | 225=>160 | 217=>159 | 266=>168 | n=>n,fun | 9=>9 | 4=>4 | 3=>3 | 5=>5 | 117=>190 | 116=>189 | 0=>0 | 124=>193 | 105=>205 | 21=>21 | 119=>218 | 46=>209 | 139=>221 | 138=>220 | n=>n,fun | 3=>7 | 4=>8 | n=>n⟩
theorem Tryz.lays161:Go.Proofs.Lays.n161 Tryz.prog Tryz.lays161_ren:={
 mixed:=by kernel_rfl
 f119:=Tryz.func167.trans (congrArg some (by kernel_rfl))
 f137:=Tryz.func166.trans (congrArg some (by kernel_rfl))
 f151:=Tryz.func148.trans (congrArg some (by kernel_rfl))
 f152:=Tryz.func158.trans (congrArg some (by kernel_rfl))
 f161:=Tryz.func104.trans (congrArg some (by kernel_rfl))
 f197:=Tryz.func147.trans (congrArg some (by kernel_rfl))
 f217:=Tryz.func159.trans (congrArg some (by kernel_rfl))
 f224:=Tryz.func161.trans (congrArg some (by kernel_rfl))
 f225:=Tryz.func160.trans (congrArg some (by kernel_rfl))
 f227:=Tryz.func131.trans (congrArg some (by kernel_rfl))
 f228:=Tryz.func146.trans (congrArg some (by kernel_rfl))
 f231:=Tryz.func130.trans (congrArg some (by kernel_rfl))
 f233:=Tryz.func132.trans (congrArg some (by kernel_rfl))
 f235:=Tryz.func133.trans (congrArg some (by kernel_rfl))
 f260:=Tryz.func157.trans (congrArg some (by kernel_rfl))
 f266:=Tryz.func168.trans (congrArg some (by kernel_rfl))
 t0:=Tryz.underlying0
 a0:=Tryz.isAgg0
 z0:=Tryz.sizeOf0
 v0:=Tryz.zeroValue0
 t3:=Tryz.underlying3
 a3:=Tryz.isAgg3
 z3:=Tryz.sizeOf3
 v3:=Tryz.zeroValue3
 t4:=Tryz.underlying4
 a4:=Tryz.isAgg4
 z4:=Tryz.sizeOf4
 v4:=Tryz.zeroValue4
 t5:=Tryz.underlying5
 a5:=Tryz.isAgg5
 z5:=Tryz.sizeOf5
 v5:=Tryz.zeroValue5
 t9:=Tryz.underlying9
 a9:=Tryz.isAgg9
 z9:=Tryz.sizeOf9
 v9:=Tryz.zeroValue9
 t21:=Tryz.underlying21
 a21:=Tryz.isAgg21
 z21:=Tryz.sizeOf21
 v21:=Tryz.zeroValue21
 t46:=Tryz.underlying209
 a46:=Tryz.isAgg209
 z46:=Tryz.sizeOf209
 v46:=Tryz.zeroValue209
 t105:=Tryz.underlying205
 a105:=Tryz.isAgg205
 z105:=Tryz.sizeOf205
 v105:=Tryz.zeroValue205
 t116:=Tryz.underlying189
 a116:=Tryz.isAgg189
 z116:=Tryz.sizeOf189
 t117:=Tryz.underlying190
 a117:=Tryz.isAgg190
 z117:=Tryz.sizeOf190
 v117:=Tryz.zeroValue190
 t119:=Tryz.underlying218
 a119:=Tryz.isAgg218
 z119:=Tryz.sizeOf218
 t124:=Tryz.underlying193
 a124:=Tryz.isAgg193
 z124:=Tryz.sizeOf193
 v124:=Tryz.zeroValue193
 t138:=Tryz.underlying220
 a138:=Tryz.isAgg220
 z138:=Tryz.sizeOf220
 v138:=Tryz.zeroValue220
 t139:=Tryz.underlying221
 a139:=Tryz.isAgg221
 z139:=Tryz.sizeOf221
 v139:=Tryz.zeroValue221
 g3:=by kernel_rfl
 g4:=by kernel_rfl }
def Tryz.lays134_ren:Go.Shelf.Ren:=⟨fun | 134=>156 | 129=>152 | n=>n,fun | 53=>182 | 3=>3 | 4=>4 | 46=>209 | 5=>5 | 9=>9 | n=>n,fun | n=>n⟩
theorem Tryz.lays134:Go.Proofs.Lays.n134 Tryz.prog Tryz.lays134_ren:={
 mixed:=by kernel_rfl
 f129:=Tryz.func152.trans (congrArg some (by kernel_rfl))
 f134:=Tryz.func156.trans (congrArg some (by kernel_rfl))
 t3:=Tryz.underlying3
 a3:=Tryz.isAgg3
 z3:=Tryz.sizeOf3
 v3:=Tryz.zeroValue3
 t4:=Tryz.underlying4
 a4:=Tryz.isAgg4
 z4:=Tryz.sizeOf4
 v4:=Tryz.zeroValue4
 t5:=Tryz.underlying5
 a5:=Tryz.isAgg5
 z5:=Tryz.sizeOf5
 v5:=Tryz.zeroValue5
 t9:=Tryz.underlying9
 a9:=Tryz.isAgg9
 z9:=Tryz.sizeOf9
 v9:=Tryz.zeroValue9
 t46:=Tryz.underlying209
 a46:=Tryz.isAgg209
 z46:=Tryz.sizeOf209
 v46:=Tryz.zeroValue209
 t53:=Tryz.underlying182
 a53:=Tryz.isAgg182
 z53:=Tryz.sizeOf182
 v53:=Tryz.zeroValue182 }
theorem Tryz.bits_LeadingZeros64 (x:Int) (w:World) (A:0<=x) (B:x<=18446744073709551615):
  Calls Tryz.prog 156 #[.int .u64 x] w fun m E=>m=.returned (.int .i64 (64 - (Lib.bitLen x.toNat:Int)))/\E=w:=Any.bits_LeadingZeros64 Tryz.lays134 x w A B
def Tryz.lays103_ren:Go.Shelf.Ren:=⟨fun | 103=>123 | 210=>138 | 206=>134 | n=>n,fun | 9=>9 | 4=>4 | 24=>179 | 3=>3 | n=>n,fun | n=>n⟩
theorem Tryz.lays103:Go.Proofs.Lays.n103 Tryz.prog Tryz.lays103_ren:={
 mixed:=by kernel_rfl
 f103:=Tryz.func123.trans (congrArg some (by kernel_rfl))
 f206:=Tryz.func134.trans (congrArg some (by kernel_rfl))
 f210:=Tryz.func138.trans (congrArg some (by kernel_rfl))
 t3:=Tryz.underlying3
 a3:=Tryz.isAgg3
 z3:=Tryz.sizeOf3
 v3:=Tryz.zeroValue3
 t4:=Tryz.underlying4
 a4:=Tryz.isAgg4
 z4:=Tryz.sizeOf4
 v4:=Tryz.zeroValue4
 t9:=Tryz.underlying9
 a9:=Tryz.isAgg9
 z9:=Tryz.sizeOf9
 v9:=Tryz.zeroValue9
 t24:=Tryz.underlying179
 a24:=Tryz.isAgg179
 z24:=Tryz.sizeOf179
 v24:=Tryz.zeroValue179 }
open Go.RowKit in
theorem Tryz.strings_CutPrefix (s p:ByteArray) (w:World):
  Calls Tryz.prog 123 #[.string s,.string p] w fun m A=>m=.returned (.tuple #[.string ⟨(Lib.trimPrefix s.data.toList p.data.toList).toArray⟩,.bool (Lib.hasPrefix s.data.toList p.data.toList)])/\A=w:=Any.strings_CutPrefix Tryz.lays103 s p w
def Tryz.lays121_ren:Go.Shelf.Ren:=⟨fun | 121=>69 | 214=>103 | n=>n,fun | 4=>4 | 9=>9 | n=>n,fun | n=>n⟩
theorem Tryz.lays121:Go.Proofs.Lays.n121 Tryz.prog Tryz.lays121_ren:={
 mixed:=by kernel_rfl
 f121:=Tryz.func69.trans (congrArg some (by kernel_rfl))
 f214:=Tryz.func103.trans (congrArg some (by kernel_rfl))
 t4:=Tryz.underlying4
 a4:=Tryz.isAgg4
 z4:=Tryz.sizeOf4
 v4:=Tryz.zeroValue4
 t9:=Tryz.underlying9
 a9:=Tryz.isAgg9
 z9:=Tryz.sizeOf9
 v9:=Tryz.zeroValue9 }
open Go.RowKit in
theorem Tryz.strconv_FormatBool (b:Bool) (w:World):
  Calls Tryz.prog 69 #[.bool b] w fun m A=>m=.returned (.string ⟨(Lib.formatBool b).toArray⟩)/\A=w:=Any.strconv_FormatBool Tryz.lays121 b w
open Go.RowKit in
theorem Tryz.Builder_String_any_k (B b:Nat) (l:List UInt8) (w:World) (h:Lib.IsBuilderF 96 5 B b (Lib.byteCells l) w) (E:B<=w.heap.size):
  Calls Tryz.prog 29 #[.pointer (some ⟨b,0,none⟩)] w fun A m=>A=.returned (.string ⟨l.toArray⟩)/\(Lib.IsBuilderF 96 5 B b (Lib.byteCells l) m/\Below B w m/\Lib.OthersKept 5 (some b) w m):=Any.Builder_String_any_k Tryz.lays169 Tryz.Builder_Extra_169 B b l w h E
def Tryz.lays171_ren:Go.Shelf.Ren:=⟨fun | 171=>67 | 243=>100 | 246=>127 | 283=>141 | 284=>142 | 285=>143 | 286=>144 | 129=>152 | 317=>151 | 318=>153 | 319=>154 | 320=>155 | 337=>164 | 338=>165 | n=>n,fun | 3=>3 | 9=>9 | 2=>2 | 4=>4 | 171=>200 | 0=>0 | 53=>182 | 37=>94 | 5=>5 | 173=>203 | 212=>211 | 51=>212 | 20=>20 | 213=>213 | 46=>209 | 232=>225 | 233=>226 | n=>n,fun | 17=>3 | 18=>9 | 19=>10 | n=>n⟩
theorem Tryz.lays171:Go.Proofs.Lays.n171 Tryz.prog Tryz.lays171_ren:={
 mixed:=by kernel_rfl
 f129:=Tryz.func152.trans (congrArg some (by kernel_rfl))
 f171:=Tryz.func67.trans (congrArg some (by kernel_rfl))
 f243:=Tryz.func100.trans (congrArg some (by kernel_rfl))
 f246:=Tryz.func127.trans (congrArg some (by kernel_rfl))
 f283:=Tryz.func141.trans (congrArg some (by kernel_rfl))
 f284:=Tryz.func142.trans (congrArg some (by kernel_rfl))
 f285:=Tryz.func143.trans (congrArg some (by kernel_rfl))
 f286:=Tryz.func144.trans (congrArg some (by kernel_rfl))
 f317:=Tryz.func151.trans (congrArg some (by kernel_rfl))
 f318:=Tryz.func153.trans (congrArg some (by kernel_rfl))
 f319:=Tryz.func154.trans (congrArg some (by kernel_rfl))
 f320:=Tryz.func155.trans (congrArg some (by kernel_rfl))
 f337:=Tryz.func164.trans (congrArg some (by kernel_rfl))
 f338:=Tryz.func165.trans (congrArg some (by kernel_rfl))
 t0:=Tryz.underlying0
 a0:=Tryz.isAgg0
 z0:=Tryz.sizeOf0
 v0:=Tryz.zeroValue0
 t2:=Tryz.underlying2
 a2:=Tryz.isAgg2
 z2:=Tryz.sizeOf2
 v2:=Tryz.zeroValue2
 t3:=Tryz.underlying3
 a3:=Tryz.isAgg3
 z3:=Tryz.sizeOf3
 v3:=Tryz.zeroValue3
 t4:=Tryz.underlying4
 a4:=Tryz.isAgg4
 z4:=Tryz.sizeOf4
 v4:=Tryz.zeroValue4
 t5:=Tryz.underlying5
 a5:=Tryz.isAgg5
 z5:=Tryz.sizeOf5
 v5:=Tryz.zeroValue5
 t9:=Tryz.underlying9
 a9:=Tryz.isAgg9
 z9:=Tryz.sizeOf9
 v9:=Tryz.zeroValue9
 t20:=Tryz.underlying20
 a20:=Tryz.isAgg20
 z20:=Tryz.sizeOf20
 v20:=Tryz.zeroValue20
 t37:=Tryz.underlying94
 a37:=Tryz.isAgg94
 z37:=Tryz.sizeOf94
 v37:=Tryz.zeroValue94
 t46:=Tryz.underlying209
 a46:=Tryz.isAgg209
 z46:=Tryz.sizeOf209
 v46:=Tryz.zeroValue209
 t51:=Tryz.underlying212
 a51:=Tryz.isAgg212
 z51:=Tryz.sizeOf212
 v51:=Tryz.zeroValue212
 t53:=Tryz.underlying182
 a53:=Tryz.isAgg182
 z53:=Tryz.sizeOf182
 v53:=Tryz.zeroValue182
 t171:=Tryz.underlying200
 a171:=Tryz.isAgg200
 z171:=Tryz.sizeOf200
 v171:=Tryz.zeroValue200
 t173:=Tryz.underlying203
 a173:=Tryz.isAgg203
 z173:=Tryz.sizeOf203
 v173:=Tryz.zeroValue203
 t212:=Tryz.underlying211
 a212:=Tryz.isAgg211
 z212:=Tryz.sizeOf211
 v212:=Tryz.zeroValue211
 t213:=Tryz.underlying213
 a213:=Tryz.isAgg213
 z213:=Tryz.sizeOf213
 t232:=Tryz.underlying225
 a232:=Tryz.isAgg225
 z232:=Tryz.sizeOf225
 v232:=Tryz.zeroValue225
 t233:=Tryz.underlying226
 a233:=Tryz.isAgg226
 z233:=Tryz.sizeOf226
 v233:=Tryz.zeroValue226
 g17:=by kernel_rfl
 g18:=by kernel_rfl
 g19:=by kernel_rfl }
open Go.RowKit Go.Sort Go.Lib in
theorem Tryz.strconv_Itoa_small (i:Nat) (A:i<100) (w:World):
  Calls Tryz.prog 67 #[.int .i64 i] w fun m B=>m=.returned (.string ⟨(Lib.decDigits i).toArray⟩)/\B=w:=Any.strconv_Itoa_small Tryz.lays171 i A w
def Tryz.laysM316_ren:Go.Shelf.Ren:=⟨fun | 316=>62 | n=>n,fun | 9=>9 | 3=>3 | 4=>4 | 37=>94 | 0=>0 | 127=>129 | 5=>5 | n=>n,fun | n=>n⟩
theorem Tryz.laysM316:Go.Proofs.LaysM.n316 Tryz.prog Tryz.laysM316_ren:={
 mixed:=by kernel_rfl
 f316:=Tryz.func62.trans (congrArg some (by kernel_rfl))
 t0:=Tryz.underlying0
 a0:=Tryz.isAgg0
 z0:=Tryz.sizeOf0
 v0:=Tryz.zeroValue0
 t3:=Tryz.underlying3
 a3:=Tryz.isAgg3
 z3:=Tryz.sizeOf3
 v3:=Tryz.zeroValue3
 t4:=Tryz.underlying4
 a4:=Tryz.isAgg4
 z4:=Tryz.sizeOf4
 v4:=Tryz.zeroValue4
 t9:=Tryz.underlying9
 a9:=Tryz.isAgg9
 z9:=Tryz.sizeOf9
 v9:=Tryz.zeroValue9
 t37:=Tryz.underlying94
 a37:=Tryz.isAgg94
 z37:=Tryz.sizeOf94
 v37:=Tryz.zeroValue94
 t127:=Tryz.underlying129
 a127:=Tryz.isAgg129
 z127:=Tryz.sizeOf129
 v127:=Tryz.zeroValue129
 t5:=Tryz.underlying5
 a5:=Tryz.isAgg5
 z5:=Tryz.sizeOf5
 v5:=Tryz.zeroValue5
 i0:=by kernel_rfl
 i3:=by kernel_rfl
 i4:=by kernel_rfl
 i5:=by kernel_rfl
 i9:=by kernel_rfl
 i37:=by kernel_rfl
 i127:=by kernel_rfl }
open Go.RowKit in
theorem Tryz.stringslite_Clone (s:ByteArray) (w:World) (A:s.size<=281474976710656):
  Calls Tryz.prog 62 #[.string s] w fun m B=>m=.returned (.string s)/\Below w.heap.size w B:=Any.stringslite_Clone Tryz.laysM316 s w A
def Tryz.lays219_ren:Go.Shelf.Ren:=⟨fun | 219=>149 | 217=>159 | 225=>160 | 224=>161 | 267=>162 | 266=>168 | 314=>169 | n=>n,fun | 9=>9 | 3=>3 | 4=>4 | 5=>5 | 46=>209 | 146=>223 | 51=>212 | n=>n,fun | 1=>6 | n=>n⟩
theorem Tryz.lays219:Go.Proofs.Lays.n219 Tryz.prog Tryz.lays219_ren:={
 mixed:=by kernel_rfl
 f217:=Tryz.func159.trans (congrArg some (by kernel_rfl))
 f219:=Tryz.func149.trans (congrArg some (by kernel_rfl))
 f224:=Tryz.func161.trans (congrArg some (by kernel_rfl))
 f225:=Tryz.func160.trans (congrArg some (by kernel_rfl))
 f266:=Tryz.func168.trans (congrArg some (by kernel_rfl))
 f267:=Tryz.func162.trans (congrArg some (by kernel_rfl))
 f314:=Tryz.func169.trans (congrArg some (by kernel_rfl))
 t3:=Tryz.underlying3
 a3:=Tryz.isAgg3
 z3:=Tryz.sizeOf3
 v3:=Tryz.zeroValue3
 t4:=Tryz.underlying4
 a4:=Tryz.isAgg4
 z4:=Tryz.sizeOf4
 v4:=Tryz.zeroValue4
 t5:=Tryz.underlying5
 a5:=Tryz.isAgg5
 z5:=Tryz.sizeOf5
 v5:=Tryz.zeroValue5
 t9:=Tryz.underlying9
 a9:=Tryz.isAgg9
 z9:=Tryz.sizeOf9
 v9:=Tryz.zeroValue9
 t46:=Tryz.underlying209
 a46:=Tryz.isAgg209
 z46:=Tryz.sizeOf209
 v46:=Tryz.zeroValue209
 t51:=Tryz.underlying212
 a51:=Tryz.isAgg212
 z51:=Tryz.sizeOf212
 v51:=Tryz.zeroValue212
 t146:=Tryz.underlying223
 a146:=Tryz.isAgg223
 z146:=Tryz.sizeOf223
 v146:=Tryz.zeroValue223
 g1:=by kernel_rfl }
open Go.RowKit Go.Lib in
theorem Tryz.stringslite_Index_one (s:ByteArray) (c:UInt8) (w:World):
  Calls Tryz.prog 149 #[.string s,.string ⟨#[c]⟩] w fun m A=>m=.returned (.int .i64 (Lib.indexByte s.data.toList c))/\A=w:=Any.stringslite_Index_one Tryz.lays219 s c w
def Tryz.lays99_ren:Go.Shelf.Ren:=⟨fun | 99=>105 | 206=>134 | n=>n,fun | 9=>9 | 4=>4 | 3=>3 | n=>n,fun | n=>n⟩
theorem Tryz.lays99:Go.Proofs.Lays.n99 Tryz.prog Tryz.lays99_ren:={
 mixed:=by kernel_rfl
 f99:=Tryz.func105.trans (congrArg some (by kernel_rfl))
 f206:=Tryz.func134.trans (congrArg some (by kernel_rfl))
 t3:=Tryz.underlying3
 a3:=Tryz.isAgg3
 z3:=Tryz.sizeOf3
 v3:=Tryz.zeroValue3
 t4:=Tryz.underlying4
 a4:=Tryz.isAgg4
 z4:=Tryz.sizeOf4
 v4:=Tryz.zeroValue4
 t9:=Tryz.underlying9
 a9:=Tryz.isAgg9
 z9:=Tryz.sizeOf9
 v9:=Tryz.zeroValue9 }
open Go.RowKit Go.Lib in
theorem Tryz.strings_HasPrefix (s p:ByteArray) (w:World):
  Calls Tryz.prog 105 #[.string s,.string p] w fun m A=>m=.returned (.bool (Lib.hasPrefix s.data.toList p.data.toList))/\A=w:=Any.strings_HasPrefix Tryz.lays99 s p w
def Tryz.lays264_ren:Go.Shelf.Ren:=⟨fun | 264=>139 | n=>n,fun | 53=>182 | 46=>209 | n=>n,fun | n=>n⟩
theorem Tryz.lays264:Go.Proofs.Lays.n264 Tryz.prog Tryz.lays264_ren:={
 mixed:=by kernel_rfl
 f264:=Tryz.func139.trans (congrArg some (by kernel_rfl))
 t46:=Tryz.underlying209
 a46:=Tryz.isAgg209
 z46:=Tryz.sizeOf209
 v46:=Tryz.zeroValue209
 t53:=Tryz.underlying182
 a53:=Tryz.isAgg182
 z53:=Tryz.sizeOf182
 v53:=Tryz.zeroValue182 }
open Go.RowKit Go.Lib in
theorem Tryz.bits_Mul64 (x y:Nat) (A:x<18446744073709551616) (B:y<18446744073709551616) (w:World):
  Calls Tryz.prog 139 #[.int .u64 x,.int .u64 y] w fun m E=>m=.returned (.tuple #[.int .u64 ((x*y / 18446744073709551616:Nat):Int),.int .u64 ((x*y % 18446744073709551616:Nat):Int)])/\E=w:=Any.bits_Mul64 Tryz.lays264 x y A B w
end Go.Proofs
set_option maxRecDepth 100000
namespace Go.Proofs.YtpkipghjohomcaaGreatDoor
open Go.RowKit
theorem vX {a b:Bool} (h:a=b):Ending.returned (.bool a)=.returned (.bool b):=by rw [h]
theorem SY {k:IntKind} {a b:Int} (h:a=b):Ending.returned (.int k a)=.returned (.int k b):=by rw [h]
def wW (v:Bool) (w:World) (e:Ending) (m:World):Prop:=e=.returned (.bool v)/\w=m
theorem Je (b:UInt8):nr b=((decide (97<=b.toNat) && decide (b.toNat<=122)) || (decide (65<=b.toNat) && decide (b.toNat<=90))):=by
 unfold nr;simp only [UInt8.le_iff_toNat_le];rfl
theorem JV (b:UInt8):fy b=(decide (48<=b.toNat) && decide (b.toNat<=57)):=by
 unfold fy;simp only [UInt8.le_iff_toNat_le];rfl
theorem Ww (b c:UInt8):(b == c)=decide (b.toNat=c.toNat):=by
 rw [Bool.eq_iff_iff];simp [UInt8.toNat_inj]
theorem rY (b:UInt8) (w:World):Calls Tryz.prog 111 #[.int .u8 (b.toNat:Int)] w (wW (fy b) w):=by
 rw [JV]
 have m:=b.toNat_lt
 generalize b.toNat=A at *
 go_enter Tryz.func111,Tryz.ntmps111
 go_wp2
 all_goals
  go_ret
  refine⟨vX ?_,rfl⟩
  rw [Bool.eq_iff_iff];simp;try omega
theorem wL (b:UInt8) (w:World):Calls Tryz.prog 107 #[.int .u8 (b.toNat:Int)] w (wW (nr b) w):=by
 rw [Je]
 have m:=b.toNat_lt
 generalize b.toNat=A at *
 go_enter Tryz.func107,Tryz.ntmps107
 go_wp2
 all_goals
  go_ret
  refine⟨vX ?_,rfl⟩
  rw [Bool.eq_iff_iff];simp;try omega
theorem Oz (b:UInt8) (w:World):Calls Tryz.prog 109 #[.int .u8 (b.toNat:Int)] w (wW (inW b) w):=by
 have A:=zh (fun W=>wL b W)
 have m:=zh (fun W=>rY b W)
 unfold inW
 rw [Ww,show(95:UInt8).toNat=95 from rfl]
 generalize nr b=G at *
 generalize fy b=H at *
 have I:=b.toNat_lt
 generalize b.toNat=J at *
 cases G<;>cases H
 all_goals
  go_enter Tryz.func109,Tryz.ntmps109
  go_wp2_with (first | (go_at_call 107;refine(A _).mono ?_;rintro B E ⟨rfl,rfl⟩) | (go_at_call 111;refine(m _).mono ?_;rintro B E ⟨rfl,rfl⟩))
  go_ret
  refine⟨vX ?_,rfl⟩
  rw [Bool.eq_iff_iff];simp;try omega
set_option maxHeartbeats 2000000
open Go.RowKit List Nat
theorem byte_at {s:ByteArray} {k:Nat} (h:k<s.size):s.data.toList[k]? = some s[k]:=by
 rw [QS (by rw [Array.length_toList];exact h)];rfl
theorem aQ (s:ByteArray):s.data.toList.length=s.size:=Array.length_toList
theorem Ts {b:UInt8} (c:UInt8) {n:Int} (A:(c.toNat:Int)=n) (h:¬b=c):((b.toNat:Int) == n)=false:=by
 subst A
 rw [xz]
 intro m
 exact h (UInt8.toNat_inj.1 (Int.ofNat_inj.1 m))
def D4 (v:Int) (w:World) (e:Ending) (m:World):Prop:=e=.returned (.int .i64 v)/\w=m
def tW (p:UInt8->Bool) (s:ByteArray) (k:Nat):Prop:=k<=s.size/\∀A m,A<k->s.data.toList[A]? = some m->p m=true
theorem tW.more {p:UInt8->Bool} {s:ByteArray} {k:Nat} (h:tW p s k) (A:k<s.size) (H:p s[k]=true):tW p s (k+1):=
 ⟨A,fun B E I m=>by
  by_cases G:B=k
  ·subst G;rw [byte_at A] at m;injection m with m;rw [<-m];exact H
  ·exact h.2 B E (by omega) m⟩
theorem tW.stop {p:UInt8->Bool} {s:ByteArray} {k:Nat} (h:tW p s k) (A:k<s.size) (B:p s[k]=false):runN p s.data.toList=k:=
 og p (by rw [aQ];exact h.1) h.2 (fun E m=>by rw [byte_at A] at m;injection m with m;rw [<-m];exact B)
theorem tW.all {p:UInt8->Bool} {s:ByteArray} {k:Nat} (h:tW p s k) (B:k=s.size):runN p s.data.toList=k:=
 og p (by rw [aQ];exact h.1) h.2 (fun A m=>by rw [getElem?_eq_none (by rw [aQ];omega)] at m;cases m)
theorem Gh (p:UInt8->Bool) (g:Nat) (L:∀b w,Calls Tryz.prog g #[.int .u8 (b.toNat:Int)] w (wW (p b) w)) (Z:∀J w,(callFunc g J).run Tryz.prog w=.ok (.enter g J) w)
  (s:ByteArray) (w:World) (hs:s.size<=1000000):Calls Tryz.prog 108 #[.string s,.func (.func g) #[] #[]] w (D4 (runN p s.data.toList) w):=by
 have H:=zh L
 clear L
 go_enter Tryz.func108,Tryz.ntmps108
 go_wp2
 go_loopw [5] (fun I wr=>∃m:Nat,m<=s.size/\I=.int .i64 m/\Hid (tW p s m)/\wr=w) (fun I _=>s.size - (intOf I).toNat)
 case atStart=>exact⟨0,zero_le _,rfl,zh ⟨zero_le _,fun ak b U=>absurd U (not_lt_zero _)⟩,rfl⟩
 case round=>
  obtain⟨m,hk,rfl,G,rfl⟩:=hrel
  by_cases hlt:m<s.size
  ·have O:=zE ((m:Int)<(s.size:Int))
   have ml:decide (m<s.size)=true:=zd hlt
   have E:=zh (H s[m])
   cases A:p s[m]
   ·rw [A] at E
    have B:=zh (G.stop hlt A)
    clear A H
    go_wp2_with (refine(E _).mono ?_;rintro R Y ⟨rfl,rfl⟩)
    go_ret
    exact⟨by rw [B.out];rfl,rfl⟩
   ·rw [A] at E
    have B:=zh (G.more hlt A)
    clear A H
    go_wp2_with (refine(E _).mono ?_;rintro R Y ⟨rfl,rfl⟩)
    go_roundw
    case rel=>exact⟨m+1,by omega,by go_num,B,by first | rfl | trivial⟩
    case measure=>(simp [intOf]<;>omega)
  ·obtain rfl:m=s.size:=by omega
   have O:=zX ((s.size:Int)<(s.size:Int))
   have B:=zh (G.all rfl)
   go_wp2
   go_ret
   exact⟨by rw [B.out];rfl,rfl⟩
theorem VP (s:ByteArray) (w:World) (m:s.size<=1000000):Calls Tryz.prog 108 #[.string s,.func (.func 109) #[] #[]] w (D4 (runN inW s.data.toList) w):=
 Gh inW 109 Oz (fun _ _=>enters_of Tryz.func109 (by kernel_rfl) rfl _ _) s w m
theorem Yp (s:ByteArray) (w:World) (m:s.size<=1000000):Calls Tryz.prog 108 #[.string s,.func (.func 111) #[] #[]] w (D4 (runN fy s.data.toList) w):=
 Gh fy 111 rY (fun _ _=>enters_of Tryz.func111 (by kernel_rfl) rfl _ _) s w m
set_option maxHeartbeats 1000000
open Go.RowKit Nat Go.World
theorem Ub:(Tryz.prog.info? 96).map (·.size)=some 2:=by kernel_rfl
theorem ab0:liesAt Tryz.prog Tryz.prog.depth 96 (2 / Tryz.prog.cellsOf 96) 0 96 1=true:=by kernel_rfl
theorem aaH:(Tryz.prog.info? 5).map (fun m=>(m.zero,m.size,m.bytes))=some (some (.int .u8 0),1,1):=by kernel_rfl
theorem vN (b:Nat) (w:World) (E:w.cell? ⟨b,0,none⟩=some (.pointer (some ⟨b,0,none⟩))):
  Calls Tryz.prog 59 #[.pointer (some ⟨b,0,none⟩)] w fun m B=>m=.returned (.tuple #[])/\B=w:=by
 obtain⟨G,A,_⟩:=Option.map_eq_some_iff.1 Ub
 go_enter Tryz.func59,Tryz.ntmps59
 go_wp2
 rw [Lib.run_neq_ptr_same w _ Tryz.underlying93 A]
 go_wp2
 go_end0
 exact⟨rfl,rfl⟩
theorem um (b:Nat) (w:World) (H:w.cell? ⟨b,0,none⟩=some (.pointer none)) (A:w.shape? b=some (96,2)) (G:w.frozen? ⟨b,0,none⟩=false):
  Calls Tryz.prog 59 #[.pointer (some ⟨b,0,none⟩)] w fun e E=>e=.returned (.tuple #[])/\E=w.setCell ⟨b,0,none⟩ (.pointer (some ⟨b,0,none⟩)):=by
 obtain⟨I,m,B⟩:=Option.map_eq_some_iff.1 Ub
 go_enter Tryz.func59,Tryz.ntmps59
 go_wp2
 rw [Lib.run_to_unsafe w ⟨b,0,none⟩ Tryz.underlying93 Tryz.underlying160 m (by rw [B];decide) A (zero_lt_succ 1)]
 simp only [Result.andThen]
 rw [Oper.upon_value]
 go_wp2
 rw [run_callFunc_extern Tryz.func94 (by kernel_rfl) (by kernel_rfl) (by kernel_rfl) (e:=Extern.AbiNoEscape.same) (by kernel_rfl)]
 rw [Lib.run_noEscape]
 simp only [Result.andThen]
 rw [Oper.upon_value]
 go_wp2
 rw [Lib.run_from_unsafe w ⟨b,0,none⟩ Tryz.underlying160 Tryz.underlying93 m A ab0]
 simp only [Result.andThen]
 rw [Oper.upon_value]
 go_wp2
 go_end0
 exact⟨rfl,rfl⟩
def bU (b:Nat) (w E:World):Prop:=∀(A:Nat) (B:Array Value) (m:TypeId),w.heap[A]? = some (.cells B m (0,0))->m≠5->A≠b->E.heap[A]? = some (.cells B m (0,0))
theorem bU.trans {b:Nat} {w H I:World} (h:bU b w H) (k:bU b H I):bU b w I:=fun B A m J E G=>k B A m (h B A m J E G) E G
theorem bU.none {b:Nat} {w m:World} (h:w.grownBy m Option.none):bU b w m:=fun G E B A _ _=>bx h A
theorem jJ {a:World} {h:Nat} {o:Obj} (m:a.heap[h]? = some o):h<a.heap.size:=hlt m
theorem CI (B b:Nat) (G:List Value) (w:World) (h:Lib.IsBuilder 96 5 B b G w):
  Calls Tryz.prog 59 #[.pointer (some ⟨b,0,none⟩)] w fun A m=>A=.returned (.tuple #[])/\(Lib.BuilderAt 96 5 B b (.pointer (some ⟨b,0,none⟩)) G m/\Below B w m)/\Fr2 (fun E=>E=b) w m:=by
 rcases h with h | h
 ·refine(um b w h.cell0 h.shape h.frozen0).mono ?_
  rintro A m ⟨rfl,rfl⟩
  exact⟨rfl,⟨h.used _,(Below.refl B w).setCell (p:=⟨b,0,none⟩) h.1 _⟩,Fr2.setCell (S:=fun E=>E=b) (Fr2.refl _ _) rfl _⟩
 ·refine(vN b w h.cell0).mono ?_
  rintro A m ⟨rfl,rfl⟩
  exact⟨rfl,⟨h,Below.refl B _⟩,Fr2.refl _ _⟩
theorem gG (B b:Nat) (m:List Value) (s:ByteArray) (w:World) (h:Lib.IsBuilder 96 5 B b m w) (dS:m.length+s.size<=140737488355328) (au:B<=w.heap.size):
  Calls Tryz.prog 27 #[.pointer (some ⟨b,0,none⟩),.string s] w fun e w'=>e=.returned (.tuple #[.int .i64 s.size,.nilIface])/\(Lib.BuilderAt 96 5 B b (.pointer (some ⟨b,0,none⟩)) (m++Lib.strCells s) w'/\Below B w w')/\bU b w w':=by
 obtain⟨i0,hi,UC,XO,EQ⟩:=info_parts aaH
 go_enter Tryz.func27,Tryz.ntmps27
 go_wp2_with (go_at_call 59;refine(CI B b m _ h).mono ?_)
 rintro e H ⟨rfl,⟨U,L⟩,mL⟩
 have xX:=zh mL
 clear mL
 obtain⟨hB,ak,G,J,bc⟩:=U
 have c0:H.cell? ⟨b,0,none⟩=some (.pointer (some ⟨b,0,none⟩)):=by rw [Lib.cell_of_heap G];rfl
 have c1:H.cell? ⟨b,1,none⟩=some ak:=by rw [Lib.cell_of_heap G];rfl
 go_wp2_with (at_builtin;refine Lib.wpList_append_own_string _ rfl _ _ 94 9 rfl B 5 i0 Tryz.underlying94 Tryz.underlying9 hi UC XO EQ _ _ _ rfl J s rfl ?c3 ?c4 ?c5 ?_)
 case c3=>unfold maxLen;omega
 case c4=>omega
 case c5=>have:=L.size;omega
 intro v' A ap Z _
 have hlt:b<H.heap.size:=by
  rcases Nat.lt_or_ge b H.heap.size with R | R
  ·exact R
  ·simp [Array.getElem?_eq_none R] at G
 have E:A.heap[b]? = some (.cells #[.pointer (some ⟨b,0,none⟩),ak] 96 (0,0)):=by
  rw [Z.block b hlt (fun e=>bc e.symm)]
  exact G
 have d0:A.cell? ⟨b,0,none⟩=some (.pointer (some ⟨b,0,none⟩)):=by rw [Lib.cell_of_heap E];rfl
 have d1:A.cell? ⟨b,1,none⟩=some ak:=by rw [Lib.cell_of_heap E];rfl
 have f1:A.frozen? ⟨b,1,none⟩=false:=Lib.frozen_of_heap E 1
 obtain⟨ao,n',I,rfl⟩:∃ao n' I,v'=.slice ao n' I:=by
  rcases ap.2 with ⟨hv,_⟩ | ⟨O,I,ep,hv,_⟩
  ·exact⟨_,_,_,hv⟩
  ·exact⟨_,_,_,hv⟩
 go_wp2
 go_ret2
 refine⟨rfl,⟨?_,?_⟩,?_⟩
 ·exact Lib.BuilderAt.put (T:=96) (e:=5) hB E (bs':=m++Lib.strCells s) (by simpa [Lib.strCells_length] using ap) (by decide)
 ·exact(L.grown Z (by have:=L.size;omega) (fun aq hk=>(J.lt aq hk).1)).setCell (p:=⟨b,1,none⟩) hB _
 ·intro O cs T U h2 h3
  have Y:=xX.keep U h3
  have h5:=Lib.ownBlock_ne J Y h2
  have h6:A.heap[O]? = _:=(Z.block O (jJ Y) (fun e=>h5 e.symm)).trans Y
  rw [Below.heap_setCell _ _ _ _ (by simpa using h3)]
  exact h6
theorem Ch {B b:Nat} {m:List Value} {w E:World} (h:Lib.IsBuilder 96 5 B b m w) (G:w.grownBy E none):Lib.IsBuilder 96 5 B b m E:=by
 have one:∀A,Lib.BuilderAt 96 5 B b A m w->Lib.BuilderAt 96 5 B b A m E:=by
  intro A ⟨L,H,O,J,I⟩
  exact⟨L,H,bx G O,World.ownsRow.kept J G (by cases R:H.ownBlock with | none=>exact .inl rfl | some U=>exact .inr (by simp)),I⟩
 exact h.imp (one _) (one _)
theorem IC {B b g:Nat} {m:List Value} {w E:World} {cs:Array Value} {T:TypeId} (h:Lib.IsBuilder 96 5 B b m w) (I:w.grownBy E (some g)) (L:w.heap[g]? = some (.cells cs T (0,0))) (Z:T≠5) (O:g≠b):Lib.IsBuilder 96 5 B b m E:=by
 have one:∀A,Lib.BuilderAt 96 5 B b A m w->Lib.BuilderAt 96 5 B b A m E:=by
  intro A ⟨Y,J,H,G,hn⟩
  have U:=Lib.ownBlock_ne G L Z
  exact⟨Y,J,(I.block b (hlt H) (by simpa using O.symm)).trans H,World.ownsRow.kept G I (by cases hv:J.ownBlock with | none=>exact .inl rfl | some ak=>exact .inr (fun R=>U (hv.trans R))),hn⟩
 exact h.imp (one _) (one _)
theorem GP (w:World) (B:Nat) (m:B<=w.heap.size):Lib.IsBuilder 96 5 B w.heap.size [] (w.alloc (.cells #[.pointer none,.slice none 0 0] 96)):=
 .inl ⟨m,.slice none 0 0,YK w _,ownsRow_nil _ _ _ _,by simp [Value.ownBlock]⟩
theorem sC.okept {T:TypeId} {w E:World} {base b:Nat} {v:Value} {l:List (Value×Value)} (h:sC T w base v l) (O:bU b w E) (J:T≠5) (L:v.ownBlock≠some b):sC T E base v l:=
 ⟨h.1,h.2.imp id fun ⟨B,G,A,m,R,I,U⟩=>⟨B,G,A,m,R,O B A T I J (fun H=>L (by rw [m,H];rfl)),U⟩⟩
end Go.Proofs.YtpkipghjohomcaaGreatDoor
