/- Lemmas. -/
import Derived.BigQuiet
import Derived.Deep.AppendLies
import Derived.Deep.OwnRows
import Derived.Laws.AppendOwnNone
import Derived.Lib.Hide
import Derived.Test.YtjbgnopnehgbaaaGreatDoorProg
import Derived.WalkLawsBesides
import Derived.WalkSpells
set_option linter.unusedVariables false
set_option linter.unusedSimpArgs false
namespace Go.Proofs.YtjbgnopnehgbaaaGreatDoor
open Go.RowKit
theorem zh {p:Prop} (h:p):Hid p:=Lib.hid h
theorem zn {a b c:Nat} (h:a<b) (k:b≤c):a<c:=Nat.lt_of_lt_of_le h k
theorem zd {p:Prop} [Decidable p] (h:p):decide p=true:=decide_eq_true h
theorem qJ {k:IntKind} {a b:Int} (h:a=b):Value.int k a=Value.int k b:=by rw [h]
section
variable {w a b c:World} {row:Option Nat}
theorem ad (w:World) (row:Option Nat):w.grownBy w row:=⟨rfl,rfl,rfl,Nat.le_refl _,fun _ _ _=>rfl⟩
theorem aa (h:a.grownBy b row) (k:b.grownBy c row):a.grownBy c row:=
 ⟨k.os.trans h.os,k.tape.trans h.tape,k.output.trans h.output,Nat.le_trans h.size k.size,fun i hi hr=>(k.block i (zn hi h.size) hr).trans (h.block i hi hr)⟩
theorem aF (h:a.grownBy b row):a.grownBy b.drew row:=⟨h.os,h.tape,h.output,h.size,h.block⟩
theorem ap (h:a.grownBy b row) (n:Nat):a.grownBy (b.drewN n) row:=⟨h.os,h.tape,h.output,h.size,h.block⟩
theorem ae (h:a.grownBy b row) (o:Obj):a.grownBy (b.alloc o) row:=aa h (World.grownBy_alloc b o row)
theorem gbx {a b:World} {row:Option Nat} (h:a.grownBy b row:=by repeat (first | with_reducible exact ad _ _ | with_reducible refine aF ?_ | with_reducible refine ae ?_ _)):a.grownBy b row:=h
theorem gby {a b:World} {row:Option Nat} (h:a.grownBy b row:=by repeat (first | with_reducible exact ad _ _ | with_reducible refine aF ?_ | with_reducible refine ap ?_ _ | with_reducible refine ae ?_ _)):a.grownBy b row:=h
theorem nX {g j:Nat} (h:a.grownBy b (some g)) (u:Value):a.grownBy (b.setCell ⟨g,j,none⟩ u) (some g):=
 aa h ⟨rfl,rfl,rfl,by simp [World.setCell],fun i _ hr=>Below.heap_setCell _ _ _ _ (by intro e;apply hr;rw [e])⟩
theorem df (h:a.grownBy b none):Below a.heap.size a b:=⟨h.os,h.tape,h.output,h.size,fun k hk=>h.block k hk (by simp)⟩
theorem bz (h:Below a.heap.size a b):a.grownBy b row:=⟨h.os,h.tape,h.output,h.size,fun k hk _=>h.block k hk⟩
theorem Below.trans2 {B:Nat} (h:Below B a b) (k:Below B b c):Below B a c:=
 ⟨k.os.trans h.os,k.tape.trans h.tape,k.output.trans h.output,Nat.le_trans h.size k.size,fun i hi=>(k.block i hi).trans (h.block i hi)⟩
theorem Below.gb {B:Nat} (h:a.grownBy b none) (hB:B≤a.heap.size):Below B a b:=⟨h.os,h.tape,h.output,h.size,fun k hk=>h.block k (by omega) (by simp)⟩
theorem bx {h:Nat} {o:Obj} (hg:a.grownBy b none) (hb:a.heap[h]? = some o):b.heap[h]? = some o:=(hg.block _ (Array.getElem?_eq_some_iff.1 hb).1 (by simp)).trans hb
theorem hlt {h:Nat} {o:Obj} (hb:a.heap[h]? = some o):h<a.heap.size:=(Array.getElem?_eq_some_iff.1 hb).1
end
structure Fr2 (S:Nat→Prop) (w w':World):Prop where
 os:w'.os=w.os
 tape:w'.tape=w.tape
 output:w'.output=w.output
 size:w.heap.size≤w'.heap.size
 block:∀k,k<w.heap.size→¬S k→w'.heap[k]? = w.heap[k]?
theorem Fr2.refl (S:Nat→Prop) (w:World):Fr2 S w w:=⟨rfl,rfl,rfl,Nat.le_refl _,fun _ _ _=>rfl⟩
theorem Fr2.trans {S:Nat→Prop} {a b c:World} (h:Fr2 S a b) (k:Fr2 S b c):Fr2 S a c:=
 ⟨k.os.trans h.os,k.tape.trans h.tape,k.output.trans h.output,Nat.le_trans h.size k.size,fun i hi hr=>(k.block i (zn hi h.size) hr).trans (h.block i hi hr)⟩
theorem Fr2.of {S:Nat→Prop} {a b:World} {row:Option Nat} (h:a.grownBy b row) (hS:∀k,row=some k→S k):Fr2 S a b:=
 ⟨h.os,h.tape,h.output,h.size,fun k hk hn=>h.block k hk fun e=>hn (hS k e.symm)⟩
theorem Fr2.below {S:Nat→Prop} {a b:World} {B:Nat} (h:Fr2 S a b) (hB:B≤a.heap.size) (hS:∀k,S k→B≤k):Below B a b:=
 ⟨h.os,h.tape,h.output,h.size,fun k hk=>h.block k (by omega) fun hs=>by have:=hS k hs;omega⟩
theorem Fr2.after {S:Nat→Prop} {a b c:World} (h:a.grownBy b none) (k:Fr2 S b c) (hS:∀i,S i→a.heap.size≤i):a.grownBy c none:=
 ⟨k.os.trans h.os,k.tape.trans h.tape,k.output.trans h.output,Nat.le_trans h.size k.size,fun i hi _=>(k.block i (zn hi h.size) (fun hs=>by have:=hS i hs;omega)).trans (h.block i hi (by simp))⟩
theorem Fr2.ofBelow {a b:World} {B:Nat} (h:Below B a b):Fr2 (fun k=>B≤k) a b:=
 ⟨h.os,h.tape,h.output,h.size,fun k _ hn=>h.block k (by omega)⟩
theorem Fr2.low {S:Nat→Prop} {a b c:World} (h:Fr2 S a b) (k:Below a.heap.size b c):Fr2 S a c:=
 ⟨k.os.trans h.os,k.tape.trans h.tape,k.output.trans h.output,Nat.le_trans h.size k.size,fun i hi hr=>(k.block i hi).trans (h.block i hi hr)⟩
theorem Fr2.mono {S S':Nat→Prop} {a b:World} (h:Fr2 S a b) (hS:∀k,S k→S' k):Fr2 S' a b:=
 ⟨h.os,h.tape,h.output,h.size,fun k hk hn=>h.block k hk fun e=>hn (hS k e)⟩
theorem Fr2.none {S:Nat→Prop} {a b:World} (h:a.grownBy b none):Fr2 S a b:=Fr2.of h (fun _ e=>by cases e)
theorem Fr2.keep {S:Nat→Prop} {a b:World} {k:Nat} {o:Obj} (h:Fr2 S a b) (hb:a.heap[k]? = some o) (hn:¬S k):b.heap[k]? = some o:=(h.block k (hlt hb) hn).trans hb
theorem Fr2.setCell {S:Nat→Prop} {a b:World} (h:Fr2 S a b) {g j:Nat} (hg:S g) (u:Value):Fr2 S a (b.setCell ⟨g,j,Option.none⟩ u):=
 h.trans (Fr2.of (row:=some g) (nX (ad _ _) u) (fun k e=>by injection e with e;exact e▸hg))
theorem cells3 {w:World} {r:Nat} {u v z:Value} {T:TypeId} (h:w.heap[r]? = some (.cells #[u,v,z] T (0,0))):w.cell? ⟨r,0,none⟩=some u∧w.cell? ⟨r,1,none⟩=some v∧w.cell? ⟨r,2,none⟩=some z∧∀o,w.frozen? ⟨r,o,none⟩=false:=
 ⟨by rw [cell_of_row w r 0 _ T (0,0) h];rfl,by rw [cell_of_row w r 1 _ T (0,0) h];rfl,by rw [cell_of_row w r 2 _ T (0,0) h];rfl,fun o=>by simp [World.frozen?,h]⟩
theorem sW {w:World} {r:Nat} {a b c d:Value} {T:TypeId} (h:w.heap[r]? = some (.cells #[a,b,c,d] T (0,0))):w.cell? ⟨r,0,none⟩=some a∧w.cell? ⟨r,1,none⟩=some b∧w.cell? ⟨r,2,none⟩=some c∧w.cell? ⟨r,3,none⟩=some d∧∀o,w.frozen? ⟨r,o,none⟩=false:=
 ⟨by rw [cell_of_row w r 0 _ T (0,0) h];rfl,by rw [cell_of_row w r 1 _ T (0,0) h];rfl,by rw [cell_of_row w r 2 _ T (0,0) h];rfl,by rw [cell_of_row w r 3 _ T (0,0) h];rfl,fun o=>by simp [World.frozen?,h]⟩
theorem ab {W:World} {r i:Nat} {cs:Array Value} {u:Value} {T:TypeId} (hb:W.heap[r]? = some (.cells cs T (0,0))):(W.setCell ⟨r,i,none⟩ u).heap[r]? = some (.cells (cs.setIfInBounds i u) T (0,0)):=by
 simp only [World.setCell,Array.getElem?_modify,hb,if_true,Option.map_some];rfl
def VAt (w:World) (p:Option Addr) (vs:List Value):Prop:=
 vs = []∨∃g off,p=some ⟨g,off,none⟩∧g<w.heap.size∧∀j v,vs[j]? = some v→w.cell? ⟨g,off+j,none⟩=some v
theorem VAt.keptS {S:Nat→Prop} {w w':World} {p:Option Addr} {vs:List Value} (h:VAt w p vs) (hg:Fr2 S w w') (hS:vs≠[]→∀a,p=some a→¬S a.block):VAt w' p vs:=by
 rcases h with h | ⟨g,off,rfl,hl,hc⟩
 ·exact .inl h
 ·by_cases h0:vs = []
  ·exact .inl h0
  ·exact .inr ⟨g,off,rfl,zn hl hg.size,fun j v hv=>by rw [←hc j v hv];exact World.cell?_of_block (w:=w) (hg.block g hl (hS h0 ⟨g,off,none⟩ rfl))⟩
theorem VAt.kept {w w':World} {p:Option Addr} {vs:List Value} (h:VAt w p vs) (hg:w.grownBy w' none):VAt w' p vs:=h.keptS (S:=fun _=>False) (Fr2.none hg) (fun _ _ _ h=>h)
theorem xC {w0 w':World} {base n:Nat} {e:TypeId} {size:Nat} {v:Value} {xs:List Value} (h:w0.ownsRow base e size v n xs) (hb:base≤w0.heap.size) (hg:w0.grownBy w' v.ownBlock):Below base w0 w':=
 ⟨hg.os,hg.tape,hg.output,hg.size,fun k hk=>hg.block k (by omega) fun e=>by have:=(h.lt k e.symm).1;omega⟩
end Go.Proofs.YtjbgnopnehgbaaaGreatDoor
namespace Go.Proofs.YtjbgnopnehgbaaaGreatDoor
def jY (b:UInt8):Bool:=b == 32 || b == 9 || b == 13 || b == 10
def eT (b:UInt8):Bool:=(97≤b && b≤122) || (65≤b && b≤90)
def cH (b:UInt8):Bool:=48≤b && b≤57
def inW (b:UInt8):Bool:=eT b || cH b || b == 95
def sk:Bool→List UInt8→Nat
 | _,[]=>0
 | true,b::r=>if b=10 then sk false r+1 else sk true r+1
 | false,b::r=>if jY b then sk false r+1 else if b=45∧r.head? = some 45 then sk true r+1 else 0
theorem rJ:∀(l:List UInt8) (m:Bool),sk m l≤l.length
 | [],m=>by cases m<;>simp [sk]
 | b::r,true=>by
   have h1:=rJ r false;have h2:=rJ r true
   simp only [sk,List.length_cons];split<;>omega
 | b::r,false=>by
   have h1:=rJ r false;have h2:=rJ r true
   simp only [sk,List.length_cons];split
   ·omega
   ·split<;>omega
def runN (p:UInt8→Bool):List UInt8→Nat
 | []=>0
 | b::r=>if p b then runN p r+1 else 0
theorem pF (p:UInt8→Bool):∀l:List UInt8,runN p l≤l.length
 | []=>Nat.le_refl _
 | b::r=>by
   have:=pF p r
   simp only [runN,List.length_cons];split<;>omega
theorem mQ (p:UInt8→Bool) {l:List UInt8} {k:Nat} (hk:k≤l.length) (h1:∀j b,j<k→l[j]? = some b→p b=true) (h2:∀b,l[k]? = some b→p b=false):runN p l=k:=by
 induction l generalizing k with
 | nil=>simp at hk;subst hk;rfl
 | cons a r ih=>
   match k,hk,h1,h2 with
   | 0,_,_,h2=>simp only [runN];rw [h2 a rfl];rfl
   | k+1,hk,h1,h2=>
     simp only [runN]
     rw [h1 0 a (by omega) rfl,ih (k:=k) (by simpa using hk) (fun j b hj hb=>h1 (j+1) b (by omega) (by simpa using hb)) (fun b hb=>h2 b (by simpa using hb))]
     rfl
theorem Ca (p:UInt8→Bool) {T X:List UInt8} (h:∀b∈T,p b=true) (hx:∀b,X.head? = some b→p b=false):runN p (T++X)=T.length:=by
 induction T with
 | nil=>cases X with
   | nil=>rfl
   | cons b r=>simp [runN,hx b rfl]
 | cons a T ih=>simp [runN,h a (List.mem_cons_self ..),ih (fun b hb=>h b (List.mem_cons_of_mem _ hb))]
theorem Av (p:UInt8→Bool):∀ {T X:List UInt8},runN p (T++X)=T.length→(∀b∈T,p b=true)∧∀b,X.head? = some b→p b=false
 | [],[],_=>⟨by simp,by simp⟩
 | [],b::r,h=>⟨by simp,fun c hc=>by
   simp at hc;subst hc
   simp only [List.nil_append,runN,List.length_nil] at h
   split at h
   ·omega
   ·rename_i hn;exact Bool.eq_false_iff.2 hn⟩
 | a::T,X,h=>by
   simp only [List.cons_append,runN,List.length_cons] at h
   split at h
   ·rename_i ha
    obtain⟨h1,h2⟩:=Av p (T:=T) (X:=X) (by omega)
    refine⟨fun b hb=>?_,h2⟩
    rcases List.mem_cons.1 hb with rfl | hb
    ·exact ha
    ·exact h1 b hb
   ·omega
def eV:List (List UInt8):=[[97,115,115,101,114,116],[98,111,111,108],[101,108,115,101],[102,97,108,115,101],[102,117,110],[105,102],[105,109,112,111,114,116],[105,110],[105,110,116],[108,101,116],[110,111,116],[112,117,98],[114,101,115],[116,104,101,110],[116,114,117,101]]
def eZ:List (List UInt8):=[[40],[41],[123],[125],[44],[58],[59],[46],[43],[45],[42],[47],[37],[61],[60,62],[60],[60,61],[62],[62,61],[38,38],[124,124],[61,62]]
def fm (L:List (List UInt8)) (l:List UInt8) (m:Nat):Nat:=L.foldl (fun m g=>if g.isPrefixOf l then max m g.length else m) m
theorem SC (L:List (List UInt8)) (g l:List UInt8) (m:Nat):fm (L++[g]) l m=if g.isPrefixOf l then max (fm L l m) g.length else fm L l m:=by
 unfold fm;rw [List.foldl_append];rfl
theorem Zy (L:List (List UInt8)) (l:List UInt8):∀m,m≤fm L l m:=by
 induction L with
 | nil=>intro m;exact Nat.le_refl _
 | cons g L ih=>
   intro m
   show m≤fm L l (if g.isPrefixOf l then max m g.length else m)
   refine Nat.le_trans ?_ (ih _)
   split<;>omega
theorem Tg {L:List (List UInt8)} {g l:List UInt8} (h:g∈L) (hp:g.isPrefixOf l=true):∀m,g.length≤fm L l m:=by
 induction L with
 | nil=>cases h
 | cons a L ih=>
   intro m
   show _≤fm L l (if a.isPrefixOf l then max m a.length else m)
   rcases List.mem_cons.1 h with rfl | h
   ·rw [if_pos hp]
    exact Nat.le_trans (Nat.le_max_right _ _) (Zy L l _)
   ·exact ih h _
theorem LE {L:List (List UInt8)} {l:List UInt8} {n:Nat} (h:∀g∈L,g.isPrefixOf l=true→g.length≤n):∀m,m≤n→fm L l m≤n:=by
 induction L with
 | nil=>intro m hm;exact hm
 | cons a L ih=>
   intro m hm
   show fm L l (if a.isPrefixOf l then max m a.length else m)≤n
   refine ih (fun g hg=>h g (List.mem_cons_of_mem _ hg)) _ ?_
   split
   ·rename_i ha
    exact Nat.max_le.2 ⟨hm,h a (List.mem_cons_self ..) ha⟩
   ·exact hm
def jV (l:List UInt8):Nat:=fm eZ l 0
theorem QR {g l:List UInt8} (h:g.isPrefixOf l=true):g.length≤l.length:=(List.isPrefixOf_iff_prefix.1 h).length_le
theorem K8 (l:List UInt8):jV l≤l.length:=LE (fun g _ hp=>QR hp) 0 (Nat.zero_le _)
theorem Ix (l:List UInt8):jV l≤2:=LE (fun g hg _=>by
 have:∀g∈eZ,g.length≤2:=by decide
 exact this g hg) 0 (Nat.zero_le _)
def mr:List (List UInt8):=[[60,62],[60,61],[62,61],[38,38],[124,124],[61,62]]
def Oq:List UInt8:=[40,41,123,125,44,58,59,46,43,45,42,47,37,61,60,62]
theorem IX {g l:List UInt8} (h:g∈mr) (hp:g.isPrefixOf l=true):jV l=2:=by
 have h1:∀g∈mr,g∈eZ∧g.length=2:=by decide
 have h2:=Tg (h1 g h).1 hp 0
 rw [(h1 g h).2] at h2
 exact Nat.le_antisymm (Ix l) h2
theorem G7 {a:UInt8} {r:List UInt8} (h2:∀g∈mr,g.isPrefixOf (a::r)=false) (h1:a∈Oq):jV (a::r)=1:=by
 have hm:∀a∈Oq,[a]∈eZ:=by decide
 have hs:∀g∈eZ,g∈mr∨g.length=1:=by decide
 have hp : [a].isPrefixOf (a::r)=true:=by simp [List.isPrefixOf]
 refine Nat.le_antisymm (LE (fun g hg hgp=>?_) 0 (by omega)) (Tg (hm a h1) hp 0)
 rcases hs g hg with h | h
 ·rw [h2 g h] at hgp;cases hgp
 ·omega
def aJ:List UInt8→Nat×Nat
 | []=>(5,0)
 | a::r=>if eT a then (if eV.contains ((a::r).take (runN inW (a::r))) then 2 else 1,runN inW (a::r))
   else if cH a then (3,runN cH (a::r)) else if 0<jV (a::r) then (4,jV (a::r)) else (0,0)
theorem ch (a:UInt8) (r:List UInt8):aJ (a::r)=if eT a then (if eV.contains ((a::r).take (runN inW (a::r))) then 2 else 1,runN inW (a::r))
  else if cH a then (3,runN cH (a::r)) else if 0<jV (a::r) then (4,jV (a::r)) else (0,0):=rfl
def bg (k:Nat) (t:List UInt8):Nat:=
 if k=0∨k=1∧40<t.length then 20 else if k=3∧(60<t.length∨1<t.length∧t.head? = some 48) then 21 else 0
theorem mS (l:List UInt8):(aJ l).2≤l.length:=by
 cases l with
 | nil=>exact Nat.le_refl _
 | cons a r=>
   rw [ch]
   have h1:=pF inW (a::r);have h2:=pF cH (a::r);have h3:=K8 (a::r)
   split
   ·exact h1
   ·split
    ·exact h2
    ·split
     ·exact h3
     ·exact Nat.zero_le _
theorem rj (l:List UInt8):(aJ l).1≤5∧((aJ l).1=5↔l = []):=by
 cases l with
 | nil=>exact⟨Nat.le_refl _,by simp [aJ]⟩
 | cons a r=>
   rw [ch]
   split
   ·simp only [reduceCtorEq,iff_false];split<;>omega
   ·split
    ·simp
    ·split<;>simp
theorem nV {l:List UInt8} (h5:(aJ l).1≠5) (h0:(aJ l).1≠0):0<(aJ l).2:=by
 cases l with
 | nil=>exact absurd rfl h5
 | cons a r=>
   rw [ch] at h0 ⊢
   split
   ·rename_i h
    show 0<runN inW (a::r)
    simp [runN,inW,h]
   ·split
    ·rename_i h
     show 0<runN cH (a::r)
     simp [runN,h]
    ·split
     ·assumption
     ·rename_i h1 h2 h3
      rw [if_neg h1,if_neg h2,if_neg h3] at h0
      exact absurd rfl h0
structure Tok where
 kind:Nat
 lead:List UInt8
 text:List UInt8
 pos:Nat
def aY (l:List UInt8) (p:Nat):Tok:=⟨(aJ (l.drop (sk false l))).1,l.take (sk false l),(l.drop (sk false l)).take (aJ (l.drop (sk false l))).2,p+sk false l⟩
def dZ (l:List UInt8):Nat:=sk false l+(aJ (l.drop (sk false l))).2
def iZ:Nat→List UInt8→Nat→List Tok×Nat×Nat
 | 0,_,_=>([],0,0)
 | f+1,l,p=>
   if bg (aY l p).kind (aY l p).text≠0 then ([],bg (aY l p).kind (aY l p).text,(aY l p).pos)
   else if (aY l p).kind=5 then ([aY l p],0,0)
   else (aY l p::(iZ f (l.drop (dZ l)) (p+dZ l)).1,(iZ f (l.drop (dZ l)) (p+dZ l)).2)
def ag (l:List UInt8):List Tok×Nat×Nat:=iZ (l.length+1) l 0
theorem kY {f:Nat} {l:List UInt8} {p:Nat} (h:bg (aY l p).kind (aY l p).text≠0):iZ (f+1) l p=([],bg (aY l p).kind (aY l p).text,(aY l p).pos):=by
 rw [iZ,if_pos h]
theorem mu {f:Nat} {l:List UInt8} {p:Nat} (h:bg (aY l p).kind (aY l p).text=0) (h5:(aY l p).kind=5):iZ (f+1) l p=([aY l p],0,0):=by
 rw [iZ,if_neg (by simp [h]),if_pos h5]
theorem kj {f:Nat} {l:List UInt8} {p:Nat} (h:bg (aY l p).kind (aY l p).text=0) (h5:(aY l p).kind≠5):iZ (f+1) l p=(aY l p::(iZ f (l.drop (dZ l)) (p+dZ l)).1,(iZ f (l.drop (dZ l)) (p+dZ l)).2):=by
 rw [iZ,if_neg (by simp [h]),if_neg h5]
theorem tJ (l:List UInt8):dZ l≤l.length:=by
 unfold dZ
 have h1:=rJ l false;have h2:=mS (l.drop (sk false l))
 rw [List.length_drop] at h2;omega
theorem pU {l:List UInt8} {p:Nat} (h:bg (aY l p).kind (aY l p).text=0) (h5:(aY l p).kind≠5):0<dZ l:=by
 have:(aJ (l.drop (sk false l))).1≠0:=fun e=>by
  unfold bg at h
  rw [if_pos (.inl e)] at h;cases h
 have:=nV h5 this
 unfold dZ;omega
def lS (s:List UInt8) (O:List Tok) (p:Nat):Prop:=p≤s.length∧O.length≤p∧∃f,s.length - p<f∧ag s=(O++(iZ f (s.drop p) p).1,(iZ f (s.drop p) p).2)
theorem lS.start (s:List UInt8):lS s [] 0:=⟨Nat.zero_le _,Nat.le_refl _,s.length+1,by omega,by simp [ag]⟩
theorem lS.fault {s:List UInt8} {O:List Tok} {p:Nat} (h:lS s O p) (hw:bg (aY (s.drop p) p).kind (aY (s.drop p) p).text≠0):(ag s).2=(bg (aY (s.drop p) p).kind (aY (s.drop p) p).text,(aY (s.drop p) p).pos):=by
 obtain⟨_,_,f,hf,he⟩:=h
 obtain⟨f,rfl⟩:∃f',f=f'+1:=⟨f - 1,by omega⟩
 rw [he,kY hw]
theorem lS.done {s:List UInt8} {O:List Tok} {p:Nat} (h:lS s O p) (hw:bg (aY (s.drop p) p).kind (aY (s.drop p) p).text=0) (h5:(aY (s.drop p) p).kind=5):ag s=(O++[aY (s.drop p) p],0,0):=by
 obtain⟨_,_,f,hf,he⟩:=h
 obtain⟨f,rfl⟩:∃f',f=f'+1:=⟨f - 1,by omega⟩
 rw [he,mu hw h5]
theorem lS.more {s:List UInt8} {O:List Tok} {p:Nat} (h:lS s O p) (hw:bg (aY (s.drop p) p).kind (aY (s.drop p) p).text=0) (h5:(aY (s.drop p) p).kind≠5):lS s (O++[aY (s.drop p) p]) (p+dZ (s.drop p))∧0<dZ (s.drop p):=by
 obtain⟨hp,ho,f,hf,he⟩:=h
 obtain⟨f,rfl⟩:∃f',f=f'+1:=⟨f - 1,by omega⟩
 have h1:=tJ (s.drop p);have h2:=pU hw h5
 rw [List.length_drop] at h1
 refine⟨⟨by omega,by rw [List.length_append,List.length_singleton];omega,f,by omega,?_⟩,h2⟩
 rw [he,kj hw h5,List.drop_drop,List.append_assoc]
 rfl
end Go.Proofs.YtjbgnopnehgbaaaGreatDoor
