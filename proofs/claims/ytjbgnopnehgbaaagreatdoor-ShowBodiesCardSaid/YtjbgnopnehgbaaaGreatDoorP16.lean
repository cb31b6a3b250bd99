/- Lemmas. -/
import Derived.Shelf.SlicesQ.Reverse
import Derived.Test.YtjbgnopnehgbaaaGreatDoorP15
import Derived.Test.YtjbgnopnehgbaaaGreatDoorP47
set_option linter.unusedVariables false
set_option linter.unusedSimpArgs false
namespace Go.Proofs.YtjbgnopnehgbaaaGreatDoor
open Go.RowKit
abbrev PcV:=ByteArray×Option Addr×Int
def fQ (x:PcV):List Value:=[.string x.1,.pointer x.2.1,.int .i64 x.2.2]
def V8:Go.Shelf.Ren:=⟨fun | 35=>67 | n=>n,fun | 22=>97 | 23=>140 | n=>n,fun | n=>n⟩
theorem VA:SlLaysE0.n35 Tryz.prog V8:={
 mixed:=by kernel_rfl
 f35:=⟨"slices.Reverse[[]touchstone/show.piece,touchstone/show.piece]",of_decide_eq_true (by kernel_rfl),Tryz.func67.trans (congrArg some (by kernel_rfl))⟩
 t0:=Tryz.underlying0
 a0:=Tryz.isAgg0
 z0:=Tryz.sizeOf0
 v0:=Tryz.zeroValue0
 t3:=Tryz.underlying3
 a3:=Tryz.isAgg3
 z3:=Tryz.sizeOf3
 v3:=Tryz.zeroValue3
 t4:=Tryz.underlying4
 a4:=Tryz.isAgg4
 z4:=Tryz.sizeOf4
 v4:=Tryz.zeroValue4
 t22:=Tryz.underlying97
 a22:=Tryz.isAgg97
 z22:=Tryz.sizeOf97
 v22:=Tryz.zeroValue97 }
theorem lV (x:PcV):(fQ x).length=3:=rfl
theorem Al (x:PcV):∀v∈fQ x,v.oneCell'=true:=by
 intro v hv
 simp only [fQ,List.mem_cons,List.not_mem_nil,or_false] at hv
 rcases hv with rfl | rfl | rfl<;>rfl
theorem Q0 (blk off cap:Nat) (d:Array PcV) (w:World) (hH:Go.Sort.HoldsK fQ 3 w blk off d) (db:d.size≤9223372036854775807):
  Calls Tryz.prog 67 #[.slice (some ⟨blk,off,none⟩) d.size cap] w fun e w'=>e=.returned (.tuple #[])∧∃n,w'=Go.Sort.putRowK fQ 3 (Go.Sort.ahead w n) blk off d.reverse:=
 AnyQ.slices_Reverse VA 3 Tryz.isAgg140 Tryz.sizeOf140 fQ lV Al blk off cap d w hH db
def iL (p:Pq):List Value:=[.pointer (some p.1),.int .i64 (p.2.2:Int)]
theorem Vu:(Tryz.prog.info? 135).map (fun i=>(i.zero,i.size,i.bytes))=some (some (.agg #[.pointer none,.int .i64 0]),2,16):=by kernel_rfl
theorem pB:(Tryz.prog.info? 30).map (fun i=>(i.zero,i.size,i.bytes))=some (some (.agg #[.int .i64 0,.string ⟨#[]⟩,.string ⟨#[]⟩,.bool false,.slice none 0 0,.bool false,.slice none 0 0,.int .i64 0]),8,112):=by kernel_rfl
theorem Xe {w:World} {a b:Addr} (bl:a≠b) (ha:Flat w a.block) (hb:Flat w b.block):(binOp .eql 67 (.pointer (some a)) (.pointer (some b))).run Tryz.prog w=.ok (.bool false) w:=by
 obtain⟨ca,ta,ha⟩:=ha
 obtain⟨cb,tb,hb⟩:=hb
 obtain⟨j,hj,hjs⟩:=Option.map_eq_some_iff.1 pB
 simp only [Prod.mk.injEq] at hjs
 exact run_eql_ptr_other w Tryz.underlying67 hj (by rw [hjs.2.1];decide) bl ha hb
mutual
def okS:Sx→Prop
 | .mk _ nm md nu _ ks _=>(nm.length≤60000∧md.length≤60000∧nu.natAbs<Zd.Lim)∧jD ks
def jD:List Sx→Prop
 | []=>True
 | x::l=>okS x∧jD l
end
theorem tQ:∀ {l:List Sx} {j:Nat} {x:Sx},jD l→l[j]? = some x→okS x
 | [],j,x,_,h=>by simp at h
 | y::l,0,x,hr,h=>by simp at h;subst h;simp only [jD] at hr;exact hr.1
 | y::l,j+1,x,hr,h=>by simp only [jD] at hr;exact tQ hr.2 (by simpa using h)
theorem qX:∀l:List Sx,l.length≤dh l
 | []=>Nat.le_refl _
 | x::l=>by have:=qX l;have:=gz x;simp only [List.length_cons,dh];omega
theorem AU:∀P:List Pq,P.length≤kg P
 | []=>Nat.le_refl _
 | p::P=>by
   have:=AU P
   simp only [List.length_cons,kg,List.map_cons,List.sum_cons,I1] at *
   omega
theorem Uj (op:Int) (w:World):Calls Tryz.prog 59 #[.int .i64 op] w (fun e w'=>e=.returned (.bool (se true op))∧w'=w):=by
 go_enter Tryz.func59,Tryz.ntmps59
 go_wp2
 go_ret
 exact⟨rfl,rfl⟩
theorem Ve (op:Int) (w:World):Calls Tryz.prog 35 #[.int .i64 op] w (fun e w'=>e=.returned (.bool (se false op))∧w'=w):=by
 have h:se false op=(op != 4):=by
  unfold se
  rw [if_neg (by simp)]
  by_cases h:op=4
  ·subst h;rfl
  ·rw [zd h];simp [bne,h]
 rw [h]
 go_enter Tryz.func35,Tryz.ntmps35
 go_wp2
 go_ret
 exact⟨rfl,rfl⟩
structure Cl where
 op:Int
 kids:Int
 nm:List UInt8
 md:List UInt8
 nu:List UInt8
 ys:Bool
def ft (c:Cl):Nat:=if c.op≤4∨24<c.op then 0 else if c.op≤6 then 1 else if c.op=21 then 3 else if c.op=24 then (min (max c.kids 0) 9).toNat else 2
def jw (c:Cl):Bool:=decide (c.nm.length≤60) && decide (c.md.length≤60) && decide (c.nu.length≤80)
def rQ (c:Cl):Int:=if c.op=1 then Zd.parseV c.nu else 0
def iF (o:List Sx) (c:Cl):List Sx:=o.take (o.length - ft c)++[.mk c.op c.nm c.md (rQ c) c.ys (o.drop (o.length - ft c)) 0]
def cA (l:List Cl):List Sx:=l.foldl iF []
def eY (l:List Cl):Option Sx:=if 30<l.length then none else if l.all jw then (cA l).getLast? else none
theorem Hr (c:Cl):ft c≤9:=by
 unfold ft
 split
 ·omega
 split
 ·omega
 split
 ·omega
 split
 ·omega
 ·omega
theorem pH (a b:List Sx):dh (a++b)=dh a+dh b:=by
 induction a with
 | nil=>simp [dh]
 | cons x l ih=>simp only [List.cons_append,dh,ih];omega
theorem Hy (o:List Sx) (c:Cl):dh (iF o c)=dh o+1:=by
 unfold iF
 have h:=pH (o.take (o.length - ft c)) (o.drop (o.length - ft c))
 rw [List.take_append_drop] at h
 rw [pH,h]
 simp only [dh,bw];omega
theorem Ar (l:List Cl) (c:Cl):cA (l++[c])=iF (cA l) c:=by simp [cA,List.foldl_append]
theorem xV:∀(l:List Cl) (o:List Sx),dh (l.foldl iF o)=dh o+l.length
 | [],o=>by simp
 | c::l,o=>by rw [List.foldl_cons,xV l,Hy,List.length_cons];omega
theorem tZ (l:List Cl):dh (cA l)=l.length:=by
 have:=xV l []
 simp only [dh] at this
 unfold cA;omega
theorem xP:∀l:List Sx,l.length≤dh l
 | []=>Nat.le_refl _
 | x::l=>by have:=xP l;have:=gz x;simp only [List.length_cons,dh];omega
theorem uS (l:List Cl):(cA l).length≤l.length:=by have:=xP (cA l);rw [tZ] at this;exact this
theorem wL {l:List Cl} {x:Sx} (h:eY l=some x):bw x≤30:=by
 unfold eY at h
 split at h
 ·simp at h
 ·rename_i h30
  split at h
  ·have h1:x∈cA l:=List.mem_of_getLast? h
   obtain⟨j,hj,rfl⟩:=List.getElem_of_mem h1
   have:=jd (List.getElem?_eq_getElem hj)
   rw [tZ] at this;omega
  ·simp at h
theorem Wq {N:Nat} (h:N≠0):0<Zd.nd N:=by unfold Zd.nd;rw [dif_neg h];omega
theorem El (N j:Nat):Zd.dig N j<10:=Nat.mod_lt _ (by omega)
theorem MW {N:Nat} (h:N≠0):∃b r,Zd.decL N=b::r∧48≤b.toNat∧b.toNat≤57:=by
 have hp:=Wq h
 have hl:(Zd.decL N).length=Zd.nd N:=iH N
 match hD:Zd.decL N with
 | []=>rw [hD] at hl;simp at hl;omega
 | b::r=>
   refine⟨b,r,rfl,?_⟩
   have hm:b∈Zd.decL N:=by rw [hD];simp
   unfold Zd.decL at hm
   obtain⟨j,-,rfl⟩:=List.mem_map.1 hm
   have:=El N (Zd.nd N - 1 - j)
   rw [UInt8.toNat_ofNat']
   omega
theorem AM (Z:Int):∃b r,Zd.txtL Z=b::r∧(b=45↔Z<0):=by
 unfold Zd.txtL
 by_cases h0:Z=0
 ·subst h0;exact⟨48,[],rfl,by decide⟩
 rw [if_neg h0]
 by_cases h1:Z<0
 ·rw [if_pos h1];exact⟨45,_,rfl,by simp [h1]⟩
 ·rw [if_neg h1]
  obtain⟨b,r,h,h2,-⟩:=MW (N:=Z.natAbs) (by omega)
  exact⟨b,r,h,fun e=>by(subst e;exact absurd h2 (by decide)),fun e=>absurd e h1⟩
structure Tk where
 b:Bool
 k:Nat
 t:List UInt8
def j9 (t:Tk):List UInt8:=(if t.b then [32] else [])++t.t
def txK (A:List Tk):List UInt8:=A.flatMap j9
theorem dP (A B:List Tk):txK (A++B)=txK A++txK B:=by simp [txK]
theorem bS (t:Tk) (A:List Tk):txK (t::A)=j9 t++txK A:=by simp [txK]
theorem sR:txK [] = []:=rfl
def ldK:List Tk→List Tk
 | []=>[]
 | t::l=>{ t with b:=true }::l
def gI (op:Int) (A:List Tk) (least:Nat):List Tk:=if aV op<least then ⟨false,4,[40]⟩::(A++[⟨false,4,[41]⟩]) else A
def Ud (op:Int) (nm:List UInt8) (nu:Int) (ys:Bool) (k:List (Int×List Tk)):List Tk:=
 let K:=fun j least=>gI (k.getD j (1,[])).1 (k.getD j (1,[])).2 least
 if op=1 then [⟨false,3,Zd.txtL nu⟩] else if op=2 then [⟨false,2,if ys then [116,114,117,101] else [102,97,108,115,101]⟩] else if op=3 then [⟨false,1,nm⟩] else if op=4 then [⟨false,2,[114,101,115]⟩]
 else if op=5 then ⟨false,4,[45]⟩::K 0 9 else if op=6 then ⟨false,2,[110,111,116]⟩::ldK (K 0 4)
 else K 0 (iu (aV op))++⟨true,4,eJ op⟩::ldK (K 1 (iT (aV op)))
mutual
def tkS:Sx→List Tk
 | .mk op nm _ nu ys ks _=>Ud op nm nu ys (XA ks)
def XA:List Sx→List (Int×List Tk)
 | []=>[]
 | x::l=>(x.op,tkS x)::XA l
end
def wK (x:Sx) (least:Nat):List Tk:=gI x.op (tkS x) least
theorem agy {op:Int} (h1:7≤op) (h2:op≤20) (a b:Sx) (ps:Int):tkS (.mk op [] [] 0 false [a,b] ps)=wK a (iu (aV op))++⟨true,4,eJ op⟩::ldK (wK b (iT (aV op))):=by
 simp only [tkS,XA,Ud]
 rw [if_neg (by omega),if_neg (by omega),if_neg (by omega),if_neg (by omega),if_neg (by omega),if_neg (by omega)]
 rfl
theorem Vb (a:Sx) (ps:Int):txS (.mk 5 [] [] 0 false [a] ps)=45::ji a 9:=by simp [txS,iK,iB,ji]
theorem Vd (a:Sx) (ps:Int):txS (.mk 6 [] [] 0 false [a] ps) = [110,111,116]++32::ji a 4:=by simp [txS,iK,iB,ji]
theorem WX {op:Int} (h1:7≤op) (h2:op≤20) (a b:Sx) (ps:Int):txS (.mk op [] [] 0 false [a,b] ps)=ji a (iu (aV op))++([32]++eJ op++[32])++ji b (iT (aV op)):=by
 simp only [txS,iK,iB]
 rw [if_neg (by omega),if_neg (by omega),if_neg (by omega),if_neg (by omega),if_neg (by omega),if_neg (by omega),if_neg (by omega),if_neg (by omega),if_neg (by omega),if_neg (by omega)]
 rfl
theorem mf {l:List UInt8} (h:di l=true):l≠[]:=by
 unfold di at h
 rintro rfl
 simp [aJ] at h
def HdK (lev:Nat) (A:List Tk):Prop:=∃t l,A=t::l∧t.b=false∧t.t≠[]∧t.k≠5∧(t.k=4→t.t = [45]∨t.t = [40])∧(t.k=2→t.t = [110,111,116]→lev≤4)∧(t.k=4→t.t = [45]→lev≤8)∧(t.k≠4→t.t.head?≠some 45)
theorem Mf {op:Int} {A:List Tk} {least:Nat} (h:HdK (aV op) A):HdK least (gI op A least):=by
 unfold gI
 split
 ·exact⟨_,_,rfl,rfl,by simp,by simp,fun _=>.inr rfl,fun h=>by simp at h,fun _ h=>by simp at h,fun h=>by simp at h⟩
 ·obtain⟨t,l,rfl,h1,h2,h3,h4,h5,h6,h7⟩:=h
  exact⟨t,l,rfl,h1,h2,h3,h4,fun a b=>by have:=h5 a b;omega,fun a b=>by have:=h6 a b;omega,h7⟩
theorem HdK.app {lev:Nat} {A B:List Tk} (h:HdK lev A):HdK lev (A++B):=by
 obtain⟨t,l,rfl,h1⟩:=h
 exact⟨t,l++B,rfl,h1⟩
theorem HdK.le {lev lev':Nat} {A:List Tk} (h:HdK lev A) (hl:lev'≤lev):HdK lev' A:=by
 obtain⟨t,l,rfl,h1,h2,h3,h4,h5,h6,h7⟩:=h
 exact⟨t,l,rfl,h1,h2,h3,h4,fun a b=>by have:=h5 a b;omega,fun a b=>by have:=h6 a b;omega,h7⟩
theorem EX {op:Int} (h1:7≤op) (h2:op≤20):aV op=7∨aV op=6∨aV op=5∨aV op=3∨aV op=2∨aV op=1:=by
 unfold aV
 repeat' split
 all_goals omega
theorem dj {lev:Nat} {A:List Tk} (h:HdK lev A):txK (ldK A)=32::txK A:=by
 obtain⟨t,l,rfl,h1,-⟩:=h
 simp [ldK,txK,j9,h1]
def qf (t:Tk) (R:List UInt8):Prop:=aJ (t.t++R)=(t.k,t.t.length)∧sk false (t.t++R)=0∧bg t.k t.t=0∧t.t≠[]∧t.k≠5
def lC:List Tk→List UInt8→Prop
 | [],_=>True
 | t::l,R=>qf t (txK l++R)∧lC l R
theorem fK:∀ {A B:List Tk} {R:List UInt8},lC A (txK B++R)→lC B R→lC (A++B) R
 | [],B,R,_,h=>h
 | t::A,B,R,h1,h2=>by
   simp only [List.cons_append,lC] at h1 ⊢
   refine⟨?_,fK h1.2 h2⟩
   rw [dP,List.append_assoc];exact h1.1
theorem jr:∀ {A:List Tk} {R:List UInt8},lC A R→lC (ldK A) R
 | [],R,h=>h
 | t::A,R,h=>h
theorem Fp {a:UInt8} {r:List UInt8} (h1:jY a=false) (h2:¬(a=45∧r.head? = some 45)):sk false (a::r)=0:=by
 simp only [sk,h1];simp [h2]
theorem Wf {r:List UInt8} (h:sk false r=0):sk false (32::r)=1:=by
 simp only [sk,h];rfl
theorem FP:∀(A:List Tk) (f p:Nat),lC A []→(txK A).length<f→∃L e,iZ f (txK A) p=(L++[e],0,0)∧e.kind=5∧L.map (fun k=>(k.kind,k.text))=A.map (fun t=>(t.k,t.t))
 | [],f,p,_,hf=>by
   obtain⟨f,rfl⟩:∃g,f=g+1:=⟨f - 1,by omega⟩
   have h:=RL p
   rw [sR,mu (by rw [h];rfl) (by rw [h])]
   exact⟨[],aY [] p,rfl,by rw [h],rfl⟩
 | t::A,f,p,h,hf=>by
   obtain⟨f,rfl⟩:∃g,f=g+1:=⟨f - 1,by omega⟩
   simp only [lC,List.append_nil] at h
   obtain⟨⟨h1,h2,h3,h4,h5⟩,h6⟩:=h
   have hb:∃B:List UInt8,txK (t::A)=B++(t.t++txK A)∧sk false (B++(t.t++txK A))=B.length:=by
    rw [bS]
    unfold j9
    cases t.b
    ·exact⟨[],by simp,by simpa using h2⟩
    ·exact⟨[32],by simp,by simpa using Wf h2⟩
   obtain⟨B,hB,hs⟩:=hb
   rw [hB] at hf ⊢
   have hd:(B++(t.t++txK A)).drop (sk false (B++(t.t++txK A)))=t.t++txK A:=by rw [hs,List.drop_left]
   have hk:(aY (B++(t.t++txK A)) p).kind=t.k:=by show(aJ _).1=_;rw [hd,h1]
   have ht:(aY (B++(t.t++txK A)) p).text=t.t:=by show List.take (aJ _).2 _=_;rw [hd,h1];exact List.take_left
   have si:dZ (B++(t.t++txK A))=B.length+t.t.length:=by unfold dZ;rw [hd,hs,h1]
   have hr:(B++(t.t++txK A)).drop (dZ (B++(t.t++txK A)))=txK A:=by
    rw [si,←List.append_assoc,List.drop_append,List.length_append];simp
   rw [kj (by rw [hk,ht];exact h3) (by rw [hk];exact h5),hr]
   have iO:0<t.t.length:=List.length_pos_iff.2 h4
   obtain⟨L,e,g1,g2,g3⟩:=FP A f (p+dZ (B++(t.t++txK A))) h6 (by simp only [List.length_append] at hf;omega)
   rw [g1]
   exact⟨aY (B++(t.t++txK A)) p::L,e,rfl,g2,by simp [g3,hk,ht]⟩
def NW (R:List UInt8):Prop:=∀b,R.head? = some b→inW b=false
theorem il {b:UInt8} {r:List UInt8} (h:inW b=false):NW (b::r):=fun c hc=>by simp at hc;subst hc;exact h
theorem rt8 {P:UInt8→Prop} (h:∀n,n<256→P (UInt8.ofNat n)) (b:UInt8):P b:=by
 have:=h b.toNat b.toNat_lt
 rwa [UInt8.ofNat_toNat] at this
theorem E8 {b:UInt8} (h:cH b=true):inW b=true∧eT b=false:=by
 have e:∀b:UInt8,cH b=true→inW b=true∧eT b=false:=rt8 (by decide +kernel)
 exact e b h
theorem FI {t R:List UInt8} {b:Bool} {k:Nat} (h:(aJ t).1=k) (hk:k=1∨k=2) (hl:(aJ t).2=t.length) (hw:bg k t=0) (hR:NW R):qf ⟨b,k,t⟩ R:=by
 cases t with
 | nil=>rcases hk with rfl | rfl<;>simp [aJ] at h
 | cons a r=>
   rw [ch] at h hl
   by_cases hc:eT a=true
   ·rw [if_pos hc] at h hl
    have k9:(∀c∈a::r,inW c=true)∧_:=Av inW (T:=a::r) (X:=[]) (by simpa using hl)
    have tP:=Ca inW (T:=a::r) (X:=R) k9.1 hR
    have hb:=uP hc
    refine⟨?_,Fp hb.1 (fun e=>hb.2 e.1),hw,by simp,by rcases hk with rfl | rfl<;>simp⟩
    show aJ (a::(r++R))=_
    rw [ch,if_pos hc]
    have e:runN inW (a::(r++R))=(a::r).length:=tP
    rw [e]
    have e2:(a::(r++R)).take (a::r).length=a::r:=List.take_left (l₁:=a::r) (l₂:=R)
    have e3:(a::r).take (runN inW (a::r))=a::r:=by rw [show runN inW (a::r)=(a::r).length from hl,List.take_length]
    rw [e2]
    simp only [] at h
    rw [e3] at h
    rw [h]
   ·rw [if_neg hc] at h
    split at h
    ·simp at h;omega
    ·split at h<;>simp at h<;>omega
theorem VM {t R:List UInt8} {b:Bool} (h:uB t) (hR:NW R):qf ⟨b,3,t⟩ R:=by
 obtain⟨h1,h2,h3,h4⟩:=h
 have YU:∀c,R.head? = some c→cH c=false:=fun c hc=>by
  have:=hR c hc
  cases hd:cH c
  ·rfl
  ·have:=(E8 hd).1;simp_all
 have hr:=Ca cH (T:=t) (X:=R) h3 YU
 cases t with
 | nil=>simp at h1
 | cons a r=>
   have ha:=h3 a (by simp)
   have e:∀a:UInt8,cH a=true→jY a=false∧a≠45:=rt8 (by decide +kernel)
   refine⟨?_,Fp (e a ha).1 (fun e2=>(e a ha).2 e2.1),?_,by simp,by simp⟩
   ·show aJ (a::(r++R))=_
    rw [ch,if_neg (by simp [(E8 ha).2]),if_pos ha]
    rw [show runN cH (a::(r++R))=(a::r).length from hr]
   ·unfold bg
    rw [if_neg (by simp),if_neg]
    rintro⟨-,h | ⟨h,h5⟩⟩
    ·simp at h h2;omega
    ·exact h4 h h5
theorem l4 {a:UInt8} {R:List UInt8} {b:Bool} (ha:a∈Oq) (hl:eT a=false) (hd:cH a=false) (hb:jY a=false) (h2:∀g∈mr,g.isPrefixOf (a::R)=false) (Pt:a=45→R.head?≠some 45):qf ⟨b,4,[a]⟩ R:=by
 refine⟨?_,Fp hb (fun e=>Pt e.1 e.2),by simp [bg],by simp,by simp⟩
 show aJ (a::R)=_
 have h1:=G7 (r:=R) h2 ha
 rw [ch,if_neg (by simp [hl]),if_neg (by simp [hd]),h1]
 rfl
theorem Op {a c:UInt8} {R:List UInt8} {b:Bool} (ha : [a,c]∈mr) (hl:eT a=false) (hd:cH a=false) (hb:jY a=false) (Pt:a≠45):qf ⟨b,4,[a,c]⟩ R:=by
 refine⟨?_,Fp hb (fun e=>Pt e.1),by simp [bg],by simp,by simp⟩
 show aJ (a::c::R)=_
 have h1:=IX (l:=a::c::R) ha (by simp [List.isPrefixOf])
 rw [ch,if_neg (by simp [hl]),if_neg (by simp [hd]),h1]
 rfl
theorem SN {op:Int} (h1:7≤op) (h2:op≤20) {R:List UInt8} {b:Bool}:qf ⟨b,4,eJ op⟩ (32::R):=by
 obtain h | h | h | h | h | h | h | h | h | h | h | h | h | h:op=7∨op=8∨op=9∨op=10∨op=11∨op=12∨op=13∨op=14∨op=15∨op=16∨op=17∨op=18∨op=19∨op=20:=by omega
 all_goals subst h
 all_goals first
  | exact l4 (by decide) (by decide) (by decide) (by decide) (by intro g hg;simp only [mr,List.mem_cons,List.not_mem_nil,or_false] at hg;rcases hg with rfl | rfl | rfl | rfl | rfl | rfl<;>simp [List.isPrefixOf]) (by simp)
  | exact Op (by decide) (by decide) (by decide) (by decide) (by decide)
theorem Qi {R:List UInt8} {b:Bool}:qf ⟨b,4,[40]⟩ R:=
 l4 (by decide) (by decide) (by decide) (by decide) (by intro g hg;simp only [mr,List.mem_cons,List.not_mem_nil,or_false] at hg;rcases hg with rfl | rfl | rfl | rfl | rfl | rfl<;>simp [List.isPrefixOf]) (by simp)
theorem Po {R:List UInt8} {b:Bool}:qf ⟨b,4,[41]⟩ R:=
 l4 (by decide) (by decide) (by decide) (by decide) (by intro g hg;simp only [mr,List.mem_cons,List.not_mem_nil,or_false] at hg;rcases hg with rfl | rfl | rfl | rfl | rfl | rfl<;>simp [List.isPrefixOf]) (by simp)
theorem Kh {R:List UInt8} {b:Bool} (h:R.head?≠some 45):qf ⟨b,4,[45]⟩ R:=
 l4 (by decide) (by decide) (by decide) (by decide) (by intro g hg;simp only [mr,List.mem_cons,List.not_mem_nil,or_false] at hg;rcases hg with rfl | rfl | rfl | rfl | rfl | rfl<;>simp [List.isPrefixOf]) (fun _=>h)
theorem yW {nu:Int} (h0:0≤nu) (hl:(Zd.txtL nu).length≤60):uB (Zd.txtL nu):=by
 by_cases hz:nu=0
 ·subst hz;refine⟨by decide,by decide,by decide,by decide⟩
 ·obtain⟨N,rfl⟩:=Int.eq_ofNat_of_zero_le h0
  have hN:N≠0:=fun e=>hz (by rw [e];rfl)
  have ht:Zd.txtL (N:Int)=Zd.decL N:=by unfold Zd.txtL;rw [if_neg hz,if_neg (by omega)];rfl
  rw [ht] at hl ⊢
  have JA:0<Zd.nd N:=by rw [Zd.nd,dif_neg hN];omega
  have bB:(Zd.decL N).length=Zd.nd N:=by simp [Zd.decL]
  refine⟨by omega,hl,fun b hb=>?_,fun h1 e=>?_⟩
  ·obtain⟨j,hj,rfl⟩:=List.mem_map.1 hb
   have UW:Zd.dig N (Zd.nd N - 1 - j)<10:=Nat.mod_lt _ (by omega)
   have:∀d,d<10→cH (UInt8.ofNat (48+d))=true:=by decide +kernel
   exact this _ UW
  ·have hh:(Zd.decL N).head? = some (UInt8.ofNat (48+Zd.dig N (Zd.nd N - 1))):=by
    rw [List.head?_eq_getElem?];simp [Zd.decL,List.getElem?_range,JA]
   rw [hh] at e
   have Da:=Zd.nd_le N hN
   have hlt:=Zd.nd_lt N
   have hd:Zd.dig N (Zd.nd N - 1)=N / 10 ^ (Zd.nd N - 1):=by
    unfold Zd.dig
    refine Nat.mod_eq_of_lt ((Nat.div_lt_iff_lt_mul (Nat.pow_pos (by omega))).2 ?_)
    have:10*10 ^ (Zd.nd N - 1)=10 ^ Zd.nd N:=by rw [Nat.mul_comm,←Nat.pow_succ];congr 1;omega
    omega
   have h1:1≤N / 10 ^ (Zd.nd N - 1):=(Nat.le_div_iff_mul_le (Nat.pow_pos (by omega))).2 (by omega)
   have UW:Zd.dig N (Zd.nd N - 1)<10:=Nat.mod_lt _ (by omega)
   have:∀d,d<10→some (UInt8.ofNat (48+d))=some 48→d=0:=by decide +kernel
   have:=this _ UW e
   omega
theorem MO {A:List Tk} {R:List UInt8} (h:HdK 9 A):(txK A++R).head?≠some 45:=by
 obtain⟨t,l,rfl,h1,h2,h3,h4,h5,h6,h7⟩:=h
 rw [bS]
 unfold j9
 rw [h1]
 have bl:t.t.head?≠some 45:=by
  by_cases hk:t.k=4
  ·rcases h4 hk with e | e
   ·have:=h6 hk e;omega
   ·rw [e];simp
  ·exact h7 hk
 obtain⟨a,r,e⟩:=List.exists_cons_of_ne_nil h2
 rw [e] at bl ⊢
 simpa using bl
def cQ:List (List Tk)→List Tk
 | []=>[]
 | [a]=>a
 | a::l=>a++⟨false,4,[44]⟩::ldK (cQ l)
def cI (nm md:List UInt8):List Tk:=(if md = [] then [] else [⟨false,1,md⟩,⟨false,4,[46]⟩])++[⟨false,1,nm⟩,⟨false,4,[40]⟩]
def dJ (op:Int) (nm md:List UInt8) (nu:Int) (ys:Bool) (k:List (Int×List Tk)):List Tk:=
 let K:=fun j least=>gI (k.getD j (1,[])).1 (k.getD j (1,[])).2 least
 if op=1 then [⟨false,3,Zd.txtL nu⟩] else if op=2 then [⟨false,2,if ys then [116,114,117,101] else [102,97,108,115,101]⟩] else if op=3 then [⟨false,1,nm⟩] else if op=4 then [⟨false,2,[114,101,115]⟩]
 else if op=5 then ⟨false,4,[45]⟩::K 0 9 else if op=6 then ⟨false,2,[110,111,116]⟩::ldK (K 0 4)
 else if op=21 then ⟨false,2,[105,102]⟩::(ldK (K 0 0)++⟨true,2,[116,104,101,110]⟩::(ldK (K 1 0)++⟨true,2,[101,108,115,101]⟩::ldK (K 2 0)))
 else if op=22 then ⟨false,2,[108,101,116]⟩::⟨true,1,nm⟩::⟨true,4,[61]⟩::(ldK (K 0 0)++⟨true,2,[105,110]⟩::ldK (K 1 0))
 else if op=23 then ⟨false,2,[97,115,115,101,114,116]⟩::(ldK (K 0 0)++⟨true,2,[105,110]⟩::ldK (K 1 0))
 else if op=24 then cI nm md++(cQ (k.map (·.2))++[⟨false,4,[41]⟩])
 else K 0 (iu (aV op))++⟨true,4,eJ op⟩::ldK (K 1 (iT (aV op)))
mutual
def tkB:Sx→List Tk
 | .mk op nm md nu ys ks _=>dJ op nm md nu ys (vr ks)
def vr:List Sx→List (Int×List Tk)
 | []=>[]
 | x::l=>(x.op,tkB x)::vr l
end
theorem Cn:∀l:List Sx,(vr l).map (·.2)=l.map tkB
 | []=>rfl
 | x::l=>by simp only [vr,List.map_cons,Cn l]
theorem BV:∀l:List Sx,(iK l).map (·.2)=l.map txS
 | []=>rfl
 | x::l=>by simp only [iK,List.map_cons,BV l]
def wB (x:Sx) (least:Nat):List Tk:=gI x.op (tkB x) least
inductive Fmx (f:Bool):Sx→Prop
 | lit (nu ps:Int):0≤nu→(Zd.txtL nu).length≤60→Fmx f (.mk 1 [] [] nu false [] ps)
 | tru (ys:Bool) (ps:Int):Fmx f (.mk 2 [] [] 0 ys [] ps)
 | var (nm:List UInt8) (ps:Int):di nm=true→Fmx f (.mk 3 nm [] 0 false [] ps)
 | res (ps:Int):f=true→Fmx f (.mk 4 [] [] 0 false [] ps)
 | neg (a:Sx) (ps:Int):Fmx f a→Fmx f (.mk 5 [] [] 0 false [a] ps)
 | not (a:Sx) (ps:Int):Fmx f a→Fmx f (.mk 6 [] [] 0 false [a] ps)
 | bin (op:Int) (a b:Sx) (ps:Int):7≤op→op≤20→Fmx f a→Fmx f b→Fmx f (.mk op [] [] 0 false [a,b] ps)
 | ite (a b c:Sx) (ps:Int):f=false→Fmx f a→Fmx f b→Fmx f c→Fmx f (.mk 21 [] [] 0 false [a,b,c] ps)
 | let_ (nm:List UInt8) (a b:Sx) (ps:Int):f=false→di nm=true→Fmx f a→Fmx f b→Fmx f (.mk 22 nm [] 0 false [a,b] ps)
 | asr (a b:Sx) (ps:Int):f=false→Fmx f a→Fmx f b→Fmx f (.mk 23 [] [] 0 false [a,b] ps)
 | call (nm md:List UInt8) (ks:List Sx) (ps:Int):f=false→di nm=true→(md = []∨di md=true)→ks.length≤8→(∀a,a∈ks→Fmx f a)→Fmx f (.mk 24 nm md 0 false ks ps)
theorem Us (f:Bool):∀(n:Nat) (x:Sx),bw x≤n→bf f x=true→Fmx f x:=by
 intro n
 induction n with
 | zero=>intro x h;have:=gz x;omega
 | succ n ih=>
   intro x hn hr
   cases x with
   | mk op nm md nu ys ks ps=>
     simp only [bw] at hn
     simp only [bf,iR,Bool.and_eq_true,decide_eq_true_eq] at hr
     obtain⟨⟨Wu,⟨⟨⟨⟨h1,Ol⟩,hc⟩,zQ⟩,hnu⟩,jL⟩,hks⟩:=hr
     have kP:∀a,a∈ks→Fmx f a:=fun a ha=>by
      obtain⟨j,hj⟩:=List.getElem?_of_mem ha
      have h2:=jd hj
      exact ih a (by omega) (rN hks hj)
     have Q3:21≤op→f=false:=fun h=>by
      cases f
      ·rfl
      ·simp [se] at Wu;omega
     have qF:op=4→f=true:=fun h=>by
      cases f
      ·simp [se] at Wu;exact absurd h Wu
      ·rfl
     unfold countB at hc
     unfold pZ at zQ
     unfold B9 at hnu
     have two:ks.length=2→∃a b,ks = [a,b]:=fun h=>by
      match ks,h with
      | [a,b],_=>exact⟨a,b,rfl⟩
     by_cases e4:op≤4
     ·rw [if_pos e4] at hc
      have:ks = []:=List.eq_nil_of_length_eq_zero (by simpa using hc)
      subst this
      obtain h | h | h | h:op=1∨op=2∨op=3∨op=4:=by omega
      all_goals subst h
      all_goals simp at zQ hnu jL
      ·obtain⟨rfl,rfl⟩:=zQ
       subst jL
       exact .lit nu ps hnu.1 hnu.2
      ·obtain⟨rfl,rfl⟩:=zQ
       subst hnu
       exact .tru ys ps
      ·obtain⟨h1,rfl⟩:=zQ
       subst hnu;subst jL
       exact .var nm ps h1
      ·obtain⟨rfl,rfl⟩:=zQ
       subst hnu;subst jL
       exact .res ps (qF rfl)
     ·rw [if_neg e4] at hc
      rw [if_neg (by omega)] at hnu
      have adu:nu=0:=by simpa using hnu
      have hy:ys=false:=by simp at jL;rcases jL with h | h;omega;exact h
      subst adu;subst hy
      by_cases e20:op≤20
      ·rw [if_neg (by omega),if_neg (by omega)] at zQ
       simp at zQ
       obtain⟨rfl,rfl⟩:=zQ
       by_cases e6:op≤6
       ·rw [if_pos e6] at hc
        obtain⟨a,rfl⟩:∃a,ks = [a]:=List.length_eq_one_iff.1 (by simpa using hc)
        obtain h | h:op=5∨op=6:=by omega
        ·subst h;exact .neg a ps (kP a (by simp))
        ·subst h;exact .not a ps (kP a (by simp))
       ·rw [if_neg e6,if_pos (by omega)] at hc
        obtain⟨a,b,rfl⟩:=two (by simpa using hc)
        exact .bin op a b ps (by omega) (by omega) (kP a (by simp)) (kP b (by simp))
      ·rw [if_neg (by omega)] at hc
       obtain h | h | h | h:op=21∨op=22∨op=23∨op=24:=by omega
       all_goals subst h
       all_goals simp at hc zQ
       ·obtain⟨rfl,rfl⟩:=zQ
        match ks,hc,kP with
        | [a,b,c],_,kP=>exact .ite a b c ps (Q3 (by omega)) (kP a (by simp)) (kP b (by simp)) (kP c (by simp))
       ·obtain⟨h1,rfl⟩:=zQ
        obtain⟨a,b,rfl⟩:=two hc
        exact .let_ nm a b ps (Q3 (by omega)) h1 (kP a (by simp)) (kP b (by simp))
       ·obtain⟨rfl,rfl⟩:=zQ
        obtain⟨a,b,rfl⟩:=two hc
        exact .asr a b ps (Q3 (by omega)) (kP a (by simp)) (kP b (by simp))
       ·exact .call nm md ks ps (Q3 (by omega)) zQ.1 zQ.2 hc kP
theorem uE (a:Sx) (ps:Int):tkB (.mk 5 [] [] 0 false [a] ps)=⟨false,4,[45]⟩::wB a 9:=by simp [tkB,vr,dJ,wB]
theorem uq (a:Sx) (ps:Int):tkB (.mk 6 [] [] 0 false [a] ps)=⟨false,2,[110,111,116]⟩::ldK (wB a 4):=by simp [tkB,vr,dJ,wB]
theorem nM {op:Int} (h1:7≤op) (h2:op≤20) (a b:Sx) (ps:Int):tkB (.mk op [] [] 0 false [a,b] ps)=wB a (iu (aV op))++⟨true,4,eJ op⟩::ldK (wB b (iT (aV op))):=by
 simp only [tkB,vr,dJ]
 rw [if_neg (by omega),if_neg (by omega),if_neg (by omega),if_neg (by omega),if_neg (by omega),if_neg (by omega),if_neg (by omega),if_neg (by omega),if_neg (by omega),if_neg (by omega)]
 rfl
theorem uJ (a b c:Sx) (ps:Int):tkB (.mk 21 [] [] 0 false [a,b,c] ps)=⟨false,2,[105,102]⟩::(ldK (tkB a)++⟨true,2,[116,104,101,110]⟩::(ldK (tkB b)++⟨true,2,[101,108,115,101]⟩::ldK (tkB c))):=by simp [tkB,vr,dJ,gI]
theorem uT (nm:List UInt8) (a b:Sx) (ps:Int):tkB (.mk 22 nm [] 0 false [a,b] ps)=⟨false,2,[108,101,116]⟩::⟨true,1,nm⟩::⟨true,4,[61]⟩::(ldK (tkB a)++⟨true,2,[105,110]⟩::ldK (tkB b)):=by simp [tkB,vr,dJ,gI]
theorem vf (a b:Sx) (ps:Int):tkB (.mk 23 [] [] 0 false [a,b] ps)=⟨false,2,[97,115,115,101,114,116]⟩::(ldK (tkB a)++⟨true,2,[105,110]⟩::ldK (tkB b)):=by simp [tkB,vr,dJ,gI]
theorem oX (nm md:List UInt8) (ks:List Sx) (ps:Int):tkB (.mk 24 nm md 0 false ks ps)=cI nm md++(cQ (ks.map tkB)++[⟨false,4,[41]⟩]):=by simp [tkB,dJ,Cn]
theorem Wk (a b c:Sx) (ps:Int):txS (.mk 21 [] [] 0 false [a,b,c] ps) = [105,102]++32::(txS a++([32]++[116,104,101,110]++32::(txS b++([32]++[101,108,115,101]++32::txS c)))):=by simp [txS,iK,iB,mh]
theorem UQ (nm:List UInt8) (a b:Sx) (ps:Int):txS (.mk 22 nm [] 0 false [a,b] ps) = [108,101,116]++([32]++nm++([32]++[61]++32::(txS a++([32]++[105,110]++32::txS b)))):=by simp [txS,iK,iB,mh]
theorem US (a b:Sx) (ps:Int):txS (.mk 23 [] [] 0 false [a,b] ps) = [97,115,115,101,114,116]++32::(txS a++([32]++[105,110]++32::txS b)):=by simp [txS,iK,iB,mh]
theorem Sk (nm md:List UInt8) (ks:List Sx) (ps:Int):txS (.mk 24 nm md 0 false ks ps)=(if md = [] then [] else md++[46])++nm++[40]++ln (ks.map txS)++[41]:=by simp [txS,iB,BV]
def HdB (lev:Nat) (A:List Tk):Prop:=HdK lev A∧(1≤lev→∀t,A.head? = some t→t.k=2→t.t≠[108,101,116]∧t.t≠[105,102]∧t.t≠[97,115,115,101,114,116])
theorem AC {op:Int} {A:List Tk} {least:Nat} (h:HdB (aV op) A):HdB least (gI op A least):=by
 refine⟨Mf h.1,fun hl t ht hk=>?_⟩
 unfold gI at ht
 split at ht
 ·simp at ht;subst ht;simp at hk
 ·exact h.2 (by omega) t ht hk
theorem HdB.app {lev:Nat} {A B:List Tk} (h:HdB lev A):HdB lev (A++B):=by
 refine⟨h.1.app,fun hl t ht hk=>?_⟩
 obtain⟨u,l,e,-⟩:=h.1
 rw [e] at ht
 exact h.2 hl t (by rw [e];simpa using ht) hk
theorem HdB.le {lev lev':Nat} {A:List Tk} (h:HdB lev A) (hl:lev'≤lev):HdB lev' A:=⟨h.1.le hl,fun h1=>h.2 (by omega)⟩
theorem gp {lev:Nat} {t:Tk} {l:List Tk} (h1:t.b=false) (h2:t.t≠[]) (h3:t.k≠5) (h4:t.k=4→t.t = [45]∨t.t = [40]) (h5:t.k=2→t.t = [110,111,116]→lev≤4) (h6:t.k=4→t.t = [45]→lev≤8) (h7:t.k≠4→t.t.head?≠some 45)
  (h8:1≤lev→t.k=2→t.t≠[108,101,116]∧t.t≠[105,102]∧t.t≠[97,115,115,101,114,116]):HdB lev (t::l):=
 ⟨⟨t,l,rfl,h1,h2,h3,h4,h5,h6,h7⟩,fun hl u hu hk=>by simp at hu;subst hu;exact h8 hl hk⟩
theorem uv {nm:List UInt8} (h:di nm=true):nm.head?≠some 45:=by
 unfold di at h
 obtain⟨a,r,rfl,ha⟩:=xR (of_decide_eq_true h).1
 intro e
 simp at e
 exact(uP ha).2 e
theorem dw {f:Bool} {x:Sx} (h:Fmx f x):HdB (aV x.op) (tkB x):=by
 induction h with
 | lit nu ps h1 h2=>
   obtain⟨b,r,h,h9⟩:=AM nu
   have e:tkB (.mk 1 [] [] nu false [] ps) = [⟨false,3,Zd.txtL nu⟩]:=by simp [tkB,dJ]
   rw [e]
   exact gp rfl (by simp [h]) (by simp) (by simp) (by simp) (by simp) (fun _ e=>by simp [h] at e;have:=h9.1 e;omega) (by simp)
 | tru ys ps=>
   have e:tkB (.mk 2 [] [] 0 ys [] ps) = [⟨false,2,if ys then [116,114,117,101] else [102,97,108,115,101]⟩]:=by simp [tkB,dJ]
   rw [e]
   exact gp rfl (by cases ys<;>simp) (by simp) (by simp) (fun _ h=>by cases ys<;>simp at h) (by simp) (fun _=>by cases ys<;>simp) (fun _ _=>by cases ys<;>simp)
 | var nm ps h=>
   have e:tkB (.mk 3 nm [] 0 false [] ps) = [⟨false,1,nm⟩]:=by simp [tkB,dJ]
   rw [e]
   exact gp rfl (mf h) (by simp) (by simp) (by simp) (by simp) (fun _=>uv h) (by simp)
 | res ps h=>
   have e:tkB (.mk 4 [] [] 0 false [] ps) = [⟨false,2,[114,101,115]⟩]:=by simp [tkB,dJ]
   rw [e]
   exact gp rfl (by simp) (by simp) (by simp) (by simp) (by simp) (by simp) (by simp)
 | neg a ps h ih=>rw [uE];exact gp rfl (by simp) (by simp) (fun _=>.inl rfl) (by simp) (fun _ _=>by simp [Sx.op,aV]) (by simp) (by simp)
 | not a ps h ih=>rw [uq];exact gp rfl (by simp) (by simp) (by simp) (fun _ _=>by simp [Sx.op,aV]) (by simp) (by simp) (by simp)
 | bin op a b ps h1 h2 ha hb iha ihb=>
   rw [nM h1 h2]
   refine HdB.app (HdB.le (AC iha) ?_)
   show aV op≤_
   unfold iu
   rcases EX h1 h2 with h | h | h | h | h | h<;>rw [h]<;>decide
 | ite a b c ps hf ha hb hc=>rw [uJ];exact gp rfl (by simp) (by simp) (by simp) (by simp) (by simp) (by simp) (fun h=>by simp [Sx.op,aV] at h)
 | let_ nm a b ps hf hn ha hb=>rw [uT];exact gp rfl (by simp) (by simp) (by simp) (by simp) (by simp) (by simp) (fun h=>by simp [Sx.op,aV] at h)
 | asr a b ps hf ha hb=>rw [vf];exact gp rfl (by simp) (by simp) (by simp) (by simp) (by simp) (by simp) (fun h=>by simp [Sx.op,aV] at h)
 | call nm md ks ps hf hn hm hk hks ih=>
   rw [oX]
   refine HdB.app ?_
   unfold cI
   rcases hm with rfl | hm
   ·exact gp rfl (mf hn) (by simp) (by simp) (by simp) (by simp) (fun _=>uv hn) (by simp)
   ·rw [if_neg (mf hm)]
    exact gp rfl (mf hm) (by simp) (by simp) (by simp) (by simp) (fun _=>uv hm) (by simp)
theorem xH {f:Bool} {x:Sx} (h:Fmx f x) (least:Nat):HdB least (wB x least):=AC (dw h)
theorem sL {x:Sx} (h:txK (tkB x)=txS x) (least:Nat):txK (wB x least)=ji x least:=by
 unfold wB gI ji mh
 split
 ·simp [bS,dP,j9,h,sR]
 ·exact h
theorem EL {f:Bool}:∀ {ks:List Sx},ks≠[]→(∀a,a∈ks→Fmx f a)→HdB 0 (cQ (ks.map tkB))
 | [],h,_=>absurd rfl h
 | [a],_,h=>(dw (h a (by simp))).le (Nat.zero_le _)
 | a::b::l,_,h=>((dw (h a (by simp))).le (Nat.zero_le _)).app
theorem B4 {f:Bool}:∀ {ks:List Sx},(∀a,a∈ks→Fmx f a)→(∀a,a∈ks→txK (tkB a)=txS a)→txK (cQ (ks.map tkB))=ln (ks.map txS)
 | [],_,_=>rfl
 | [a],_,h=>h a (by simp)
 | a::b::l,hf,h=>by
   have ih:=B4 (ks:=b::l) (fun c hc=>hf c (List.mem_cons_of_mem _ hc)) (fun c hc=>h c (List.mem_cons_of_mem _ hc))
   have hh:=EL (ks:=b::l) (by simp) (fun c hc=>hf c (List.mem_cons_of_mem _ hc))
   simp only [List.map_cons] at ih hh ⊢
   simp only [cQ,ln,dP,bS,dj hh.1,ih,h a (by simp)]
   simp [j9]
theorem K7 {f:Bool} {x:Sx} (h:Fmx f x):txK (tkB x)=txS x:=by
 induction h with
 | lit nu ps h1 h2=>simp [tkB,dJ,txS,iB,txK,j9]
 | tru ys ps=>simp [tkB,dJ,txS,iB,txK,j9]
 | var nm ps h=>simp [tkB,dJ,txS,iB,txK,j9]
 | res ps h=>simp [tkB,dJ,txS,iB,txK,j9]
 | neg a ps h ih=>rw [uE,Vb,bS,sL ih];simp [j9]
 | not a ps h ih=>rw [uq,Vd,bS,dj (xH h 4).1,sL ih];simp [j9]
 | bin op a b ps h1 h2 ha hb iha ihb=>
   rw [nM h1 h2,WX h1 h2,dP,bS,dj (xH hb _).1,sL iha,sL ihb];simp [j9]
 | ite a b c ps hf ha hb hc ia ib ic=>rw [uJ,Wk];simp only [bS,dP,dj (dw ha).1,dj (dw hb).1,dj (dw hc).1,ia,ib,ic];simp [j9]
 | let_ nm a b ps hf hn ha hb ia ib=>rw [uT,UQ];simp only [bS,dP,dj (dw ha).1,dj (dw hb).1,ia,ib];simp [j9]
 | asr a b ps hf ha hb ia ib=>rw [vf,US];simp only [bS,dP,dj (dw ha).1,dj (dw hb).1,ia,ib];simp [j9]
 | call nm md ks ps hf hn hm hk hks ih=>
   rw [oX,Sk,dP,dP,B4 hks ih]
   unfold cI
   by_cases hmd:md = []
   ·simp [hmd,bS,j9,sR]
   ·simp [hmd,bS,j9,sR]
def fP (F:Nat→Prop) (w:World):List Fx→List (List Value)→Prop
 | [],r=>r = []
 | x::l,r=>∃q r',r=q::r'∧PAt F w x q∧fP F w l r'
theorem pT {F:Nat→Prop} {w:World}:∀ {l:List Fx} {r:List (List Value)},fP F w l r→r.length=l.length
 | [],r,h=>by simp only [fP] at h;rw [h];rfl
 | x::l,r,h=>by
   simp only [fP] at h
   obtain⟨q,r',rfl,-,h2⟩:=h
   rw [List.length_cons,pT h2];rfl
theorem F1 {F:Nat→Prop} {w:World} {x:Fx} {q:List Value} (hx:PAt F w x q):∀ {l:List Fx} {r:List (List Value)},fP F w l r→fP F w (l++[x]) (r++[q])
 | [],r,h=>by simp only [fP] at h;subst h;simp only [List.nil_append,fP];exact⟨q,[],rfl,hx,rfl⟩
 | y::l,r,h=>by
   simp only [fP] at h
   obtain⟨q',r',rfl,h1,h2⟩:=h
   simp only [List.cons_append,fP]
   exact⟨q',_,rfl,h1,F1 hx h2⟩
theorem oY {F S:Nat→Prop} {w w':World} (hg:Fr2 S w w') (hS:∀k,F k→¬S k):∀ {l:List Fx} {r:List (List Value)},fP F w l r→fP F w' l r
 | [],r,h=>by simp only [fP] at h ⊢;exact h
 | x::l,r,h=>by
   simp only [fP] at h ⊢
   obtain⟨q,r',h1,h2,h3⟩:=h
   exact⟨q,r',h1,PAt.same hg hS h2,oY hg hS h3⟩
theorem oL {F F':Nat→Prop} {w:World} (hF:∀k,F k→F' k):∀ {l:List Fx} {r:List (List Value)},fP F w l r→fP F' w l r
 | [],r,h=>by simp only [fP] at h ⊢;exact h
 | x::l,r,h=>by
   simp only [fP] at h ⊢
   obtain⟨q,r',h1,h2,h3⟩:=h
   exact⟨q,r',h1,PAt.mono hF h2,oL hF h3⟩
theorem Ey {F:Nat→Prop} {w w':World} {l:List Fx} {r:List (List Value)} (h:fP F w l r) (hg:w.grownBy w' none):fP F w' l r:=oY (S:=fun _=>False) (Fr2.none hg) (fun _ _ h=>h) h
theorem PAt.five {F:Nat→Prop} {w:World} {f:Fx} {q:List Value} (h:PAt F w f q):q.length=5∧(∀u∈q,u.oneCell'=true)∧∃a0 a1 a2 a3 a4,q = [a0,a1,a2,a3,a4]:=by
 obtain⟨pc,nc,cc,rfl⟩:=h.form
 exact⟨rfl,fun u hu=>by simp at hu;rcases hu with rfl | rfl | rfl | rfl | rfl<;>rfl,_,_,_,_,_,rfl⟩
def DAt (F:Nat→Prop) (w:World) (d:Dx) (q:List Value):Prop:=∃pp np cp iL pc nc cc qb,q = [.bool d.pub,aw d.res.nm,.slice pp np cp,.int .i64 (d.res.base:Int),.slice pc nc cc]++qb++[.int .i64 (d.res.ps:Int),.int .i64 d.res.bare]∧
 PAt F w d.res [aw d.res.nm,.int .i64 (d.res.base:Int),.slice pc nc cc,.int .i64 (d.res.ps:Int),.int .i64 d.res.bare]∧EAt F w d.body qb∧np=d.ps.length∧GAt 5 w pp iL∧fP F w d.ps iL∧(d.ps≠[]→∃a,pp=some a∧F a.block)
def zE (x:Dx) (w:World) (e:Ending) (w':World):Prop:=w.grownBy w' none∧∃q,e=.returned (.agg q.toArray)∧DAt (fun k=>w.heap.size≤k) w' x q
theorem R6:(Tryz.prog.info? 168).map (fun i=>(i.zero,i.size,i.bytes))=some (some (.agg #[.string ⟨#[]⟩,.int .i64 0,.slice none 0 0,.int .i64 0,.int .i64 0]),5,64):=by kernel_rfl
theorem I4 (a d:Int) (b c:ByteArray) (w:World):(Instr.field 105 (.agg #[.int .i64 a,.string b,.string c,.int .i64 d]) 2).run Tryz.prog w=.ok (.string c) w:=by kernel_rfl
theorem yi (T:List Tok) {l:List Tr} {j:Nat} {t:Tr} (h:l[j]? = some t):dS T (l.take (j+1))=dS T (l.take j)++(if dx t=4 then [eH T (xu t)] else []):=by
 unfold dS
 rw [gV h,List.filter_append,List.map_append]
 congr 1
 by_cases h4:dx t=4
 ·simp [h4]
 ·simp [h4]
theorem B5 (T:List Tok) (l:List Tr):(dS T l).length≤l.length:=by
 unfold dS
 rw [List.length_map];exact List.length_filter_le _ _
theorem TE {w2:World} {B gg j:Nat} {v a b c d e:Value} (h:w2.cell? ⟨gg,j,none⟩=some v) (bl:gg≠B):(((((w2.setCell ⟨B,0,none⟩ a).setCell ⟨B,1,none⟩ b).setCell ⟨B,2,none⟩ c).setCell ⟨B,3,none⟩ d).setCell ⟨B,4,none⟩ e).cell? ⟨gg,j,none⟩=some v:=by
 rw [World.cell?_setCell_far _ _ _ _ (fun e=>bl e.symm),World.cell?_setCell_far _ _ _ _ (fun e=>bl e.symm),World.cell?_setCell_far _ _ _ _ (fun e=>bl e.symm),World.cell?_setCell_far _ _ _ _ (fun e=>bl e.symm),World.cell?_setCell_far _ _ _ _ (fun e=>bl e.symm)]
 exact h
theorem Kk {W:World} {B:Nat} {T:TypeId} {x0 x1 x2 x3 x4 x5 x6 x7 x8 x9 vh sP rD oO oq:Value} (h0:W.heap[B]? = some (.cells #[x0,x1,x2,x3,x4,x5,x6,x7,x8,x9,vh,sP,rD,oO,oq] T (0,0))) (a0 a1 a2 a3 a4 a5 a6 a7 a8 a9 a10 a11 a12 a13 a14:Value):(((((((((((((((W.setCell ⟨B,0,none⟩ a0).setCell ⟨B,1,none⟩ a1).setCell ⟨B,2,none⟩ a2).setCell ⟨B,3,none⟩ a3).setCell ⟨B,4,none⟩ a4).setCell ⟨B,5,none⟩ a5).setCell ⟨B,6,none⟩ a6).setCell ⟨B,7,none⟩ a7).setCell ⟨B,8,none⟩ a8).setCell ⟨B,9,none⟩ a9).setCell ⟨B,10,none⟩ a10).setCell ⟨B,11,none⟩ a11).setCell ⟨B,12,none⟩ a12).setCell ⟨B,13,none⟩ a13).setCell ⟨B,14,none⟩ a14).heap[B]? = some (.cells #[a0,a1,a2,a3,a4,a5,a6,a7,a8,a9,a10,a11,a12,a13,a14] T (0,0))∧Fr2 (ez B) W (((((((((((((((W.setCell ⟨B,0,none⟩ a0).setCell ⟨B,1,none⟩ a1).setCell ⟨B,2,none⟩ a2).setCell ⟨B,3,none⟩ a3).setCell ⟨B,4,none⟩ a4).setCell ⟨B,5,none⟩ a5).setCell ⟨B,6,none⟩ a6).setCell ⟨B,7,none⟩ a7).setCell ⟨B,8,none⟩ a8).setCell ⟨B,9,none⟩ a9).setCell ⟨B,10,none⟩ a10).setCell ⟨B,11,none⟩ a11).setCell ⟨B,12,none⟩ a12).setCell ⟨B,13,none⟩ a13).setCell ⟨B,14,none⟩ a14):=by
 have h1:(W.setCell ⟨B,0,none⟩ a0).heap[B]? = some (.cells #[a0,x1,x2,x3,x4,x5,x6,x7,x8,x9,vh,sP,rD,oO,oq] T (0,0)):=ab (i:=0) (u:=a0) h0
 have h2:((W.setCell ⟨B,0,none⟩ a0).setCell ⟨B,1,none⟩ a1).heap[B]? = some (.cells #[a0,a1,x2,x3,x4,x5,x6,x7,x8,x9,vh,sP,rD,oO,oq] T (0,0)):=ab (i:=1) (u:=a1) h1
 have h3:(((W.setCell ⟨B,0,none⟩ a0).setCell ⟨B,1,none⟩ a1).setCell ⟨B,2,none⟩ a2).heap[B]? = some (.cells #[a0,a1,a2,x3,x4,x5,x6,x7,x8,x9,vh,sP,rD,oO,oq] T (0,0)):=ab (i:=2) (u:=a2) h2
 have h4:((((W.setCell ⟨B,0,none⟩ a0).setCell ⟨B,1,none⟩ a1).setCell ⟨B,2,none⟩ a2).setCell ⟨B,3,none⟩ a3).heap[B]? = some (.cells #[a0,a1,a2,a3,x4,x5,x6,x7,x8,x9,vh,sP,rD,oO,oq] T (0,0)):=ab (i:=3) (u:=a3) h3
 have h5:(((((W.setCell ⟨B,0,none⟩ a0).setCell ⟨B,1,none⟩ a1).setCell ⟨B,2,none⟩ a2).setCell ⟨B,3,none⟩ a3).setCell ⟨B,4,none⟩ a4).heap[B]? = some (.cells #[a0,a1,a2,a3,a4,x5,x6,x7,x8,x9,vh,sP,rD,oO,oq] T (0,0)):=ab (i:=4) (u:=a4) h4
 have h6:((((((W.setCell ⟨B,0,none⟩ a0).setCell ⟨B,1,none⟩ a1).setCell ⟨B,2,none⟩ a2).setCell ⟨B,3,none⟩ a3).setCell ⟨B,4,none⟩ a4).setCell ⟨B,5,none⟩ a5).heap[B]? = some (.cells #[a0,a1,a2,a3,a4,a5,x6,x7,x8,x9,vh,sP,rD,oO,oq] T (0,0)):=ab (i:=5) (u:=a5) h5
 have h7:(((((((W.setCell ⟨B,0,none⟩ a0).setCell ⟨B,1,none⟩ a1).setCell ⟨B,2,none⟩ a2).setCell ⟨B,3,none⟩ a3).setCell ⟨B,4,none⟩ a4).setCell ⟨B,5,none⟩ a5).setCell ⟨B,6,none⟩ a6).heap[B]? = some (.cells #[a0,a1,a2,a3,a4,a5,a6,x7,x8,x9,vh,sP,rD,oO,oq] T (0,0)):=ab (i:=6) (u:=a6) h6
 have h8:((((((((W.setCell ⟨B,0,none⟩ a0).setCell ⟨B,1,none⟩ a1).setCell ⟨B,2,none⟩ a2).setCell ⟨B,3,none⟩ a3).setCell ⟨B,4,none⟩ a4).setCell ⟨B,5,none⟩ a5).setCell ⟨B,6,none⟩ a6).setCell ⟨B,7,none⟩ a7).heap[B]? = some (.cells #[a0,a1,a2,a3,a4,a5,a6,a7,x8,x9,vh,sP,rD,oO,oq] T (0,0)):=ab (i:=7) (u:=a7) h7
 have h9:(((((((((W.setCell ⟨B,0,none⟩ a0).setCell ⟨B,1,none⟩ a1).setCell ⟨B,2,none⟩ a2).setCell ⟨B,3,none⟩ a3).setCell ⟨B,4,none⟩ a4).setCell ⟨B,5,none⟩ a5).setCell ⟨B,6,none⟩ a6).setCell ⟨B,7,none⟩ a7).setCell ⟨B,8,none⟩ a8).heap[B]? = some (.cells #[a0,a1,a2,a3,a4,a5,a6,a7,a8,x9,vh,sP,rD,oO,oq] T (0,0)):=ab (i:=8) (u:=a8) h8
 have UW:((((((((((W.setCell ⟨B,0,none⟩ a0).setCell ⟨B,1,none⟩ a1).setCell ⟨B,2,none⟩ a2).setCell ⟨B,3,none⟩ a3).setCell ⟨B,4,none⟩ a4).setCell ⟨B,5,none⟩ a5).setCell ⟨B,6,none⟩ a6).setCell ⟨B,7,none⟩ a7).setCell ⟨B,8,none⟩ a8).setCell ⟨B,9,none⟩ a9).heap[B]? = some (.cells #[a0,a1,a2,a3,a4,a5,a6,a7,a8,a9,vh,sP,rD,oO,oq] T (0,0)):=ab (i:=9) (u:=a9) h9
 have h11:(((((((((((W.setCell ⟨B,0,none⟩ a0).setCell ⟨B,1,none⟩ a1).setCell ⟨B,2,none⟩ a2).setCell ⟨B,3,none⟩ a3).setCell ⟨B,4,none⟩ a4).setCell ⟨B,5,none⟩ a5).setCell ⟨B,6,none⟩ a6).setCell ⟨B,7,none⟩ a7).setCell ⟨B,8,none⟩ a8).setCell ⟨B,9,none⟩ a9).setCell ⟨B,10,none⟩ a10).heap[B]? = some (.cells #[a0,a1,a2,a3,a4,a5,a6,a7,a8,a9,a10,sP,rD,oO,oq] T (0,0)):=ab (i:=10) (u:=a10) UW
 have zX:((((((((((((W.setCell ⟨B,0,none⟩ a0).setCell ⟨B,1,none⟩ a1).setCell ⟨B,2,none⟩ a2).setCell ⟨B,3,none⟩ a3).setCell ⟨B,4,none⟩ a4).setCell ⟨B,5,none⟩ a5).setCell ⟨B,6,none⟩ a6).setCell ⟨B,7,none⟩ a7).setCell ⟨B,8,none⟩ a8).setCell ⟨B,9,none⟩ a9).setCell ⟨B,10,none⟩ a10).setCell ⟨B,11,none⟩ a11).heap[B]? = some (.cells #[a0,a1,a2,a3,a4,a5,a6,a7,a8,a9,a10,a11,rD,oO,oq] T (0,0)):=ab (i:=11) (u:=a11) h11
 have h13:(((((((((((((W.setCell ⟨B,0,none⟩ a0).setCell ⟨B,1,none⟩ a1).setCell ⟨B,2,none⟩ a2).setCell ⟨B,3,none⟩ a3).setCell ⟨B,4,none⟩ a4).setCell ⟨B,5,none⟩ a5).setCell ⟨B,6,none⟩ a6).setCell ⟨B,7,none⟩ a7).setCell ⟨B,8,none⟩ a8).setCell ⟨B,9,none⟩ a9).setCell ⟨B,10,none⟩ a10).setCell ⟨B,11,none⟩ a11).setCell ⟨B,12,none⟩ a12).heap[B]? = some (.cells #[a0,a1,a2,a3,a4,a5,a6,a7,a8,a9,a10,a11,a12,oO,oq] T (0,0)):=ab (i:=12) (u:=a12) zX
 have h14:((((((((((((((W.setCell ⟨B,0,none⟩ a0).setCell ⟨B,1,none⟩ a1).setCell ⟨B,2,none⟩ a2).setCell ⟨B,3,none⟩ a3).setCell ⟨B,4,none⟩ a4).setCell ⟨B,5,none⟩ a5).setCell ⟨B,6,none⟩ a6).setCell ⟨B,7,none⟩ a7).setCell ⟨B,8,none⟩ a8).setCell ⟨B,9,none⟩ a9).setCell ⟨B,10,none⟩ a10).setCell ⟨B,11,none⟩ a11).setCell ⟨B,12,none⟩ a12).setCell ⟨B,13,none⟩ a13).heap[B]? = some (.cells #[a0,a1,a2,a3,a4,a5,a6,a7,a8,a9,a10,a11,a12,a13,oq] T (0,0)):=ab (i:=13) (u:=a13) h13
 have h15:(((((((((((((((W.setCell ⟨B,0,none⟩ a0).setCell ⟨B,1,none⟩ a1).setCell ⟨B,2,none⟩ a2).setCell ⟨B,3,none⟩ a3).setCell ⟨B,4,none⟩ a4).setCell ⟨B,5,none⟩ a5).setCell ⟨B,6,none⟩ a6).setCell ⟨B,7,none⟩ a7).setCell ⟨B,8,none⟩ a8).setCell ⟨B,9,none⟩ a9).setCell ⟨B,10,none⟩ a10).setCell ⟨B,11,none⟩ a11).setCell ⟨B,12,none⟩ a12).setCell ⟨B,13,none⟩ a13).setCell ⟨B,14,none⟩ a14).heap[B]? = some (.cells #[a0,a1,a2,a3,a4,a5,a6,a7,a8,a9,a10,a11,a12,a13,a14] T (0,0)):=ab (i:=14) (u:=a14) h14
 exact⟨h15,(Fr2.setCell (Fr2.setCell (Fr2.setCell (Fr2.setCell (Fr2.setCell (Fr2.setCell (Fr2.setCell (Fr2.setCell (Fr2.setCell (Fr2.setCell (Fr2.setCell (Fr2.setCell (Fr2.setCell (Fr2.setCell (Fr2.setCell (Fr2.refl (ez B) W) (g:=B) (j:=0) (bh B) a0) (g:=B) (j:=1) (bh B) a1) (g:=B) (j:=2) (bh B) a2) (g:=B) (j:=3) (bh B) a3) (g:=B) (j:=4) (bh B) a4) (g:=B) (j:=5) (bh B) a5) (g:=B) (j:=6) (bh B) a6) (g:=B) (j:=7) (bh B) a7) (g:=B) (j:=8) (bh B) a8) (g:=B) (j:=9) (bh B) a9) (g:=B) (j:=10) (bh B) a10) (g:=B) (j:=11) (bh B) a11) (g:=B) (j:=12) (bh B) a12) (g:=B) (j:=13) (bh B) a13) (g:=B) (j:=14) (bh B) a14)⟩
theorem fH {w:World} {r:Nat} {a0 a1 a2 a3 a4 a5 a6 a7 a8 a9 a10 a11 a12 a13 a14:Value} {T:TypeId} (h0:w.heap[r]? = some (.cells #[a0,a1,a2,a3,a4,a5,a6,a7,a8,a9,a10,a11,a12,a13,a14] T (0,0))):w.cell? ⟨r,0,none⟩=some a0∧w.cell? ⟨r,1,none⟩=some a1∧w.cell? ⟨r,2,none⟩=some a2∧w.cell? ⟨r,3,none⟩=some a3∧w.cell? ⟨r,4,none⟩=some a4∧w.cell? ⟨r,5,none⟩=some a5∧w.cell? ⟨r,6,none⟩=some a6∧w.cell? ⟨r,7,none⟩=some a7∧w.cell? ⟨r,8,none⟩=some a8∧w.cell? ⟨r,9,none⟩=some a9∧w.cell? ⟨r,10,none⟩=some a10∧w.cell? ⟨r,11,none⟩=some a11∧w.cell? ⟨r,12,none⟩=some a12∧w.cell? ⟨r,13,none⟩=some a13∧w.cell? ⟨r,14,none⟩=some a14∧∀o,w.frozen? ⟨r,o,none⟩=false:=
 ⟨by rw [cell_of_row w r 0 _ T (0,0) h0];rfl,by rw [cell_of_row w r 1 _ T (0,0) h0];rfl,by rw [cell_of_row w r 2 _ T (0,0) h0];rfl,by rw [cell_of_row w r 3 _ T (0,0) h0];rfl,by rw [cell_of_row w r 4 _ T (0,0) h0];rfl,by rw [cell_of_row w r 5 _ T (0,0) h0];rfl,by rw [cell_of_row w r 6 _ T (0,0) h0];rfl,by rw [cell_of_row w r 7 _ T (0,0) h0];rfl,by rw [cell_of_row w r 8 _ T (0,0) h0];rfl,by rw [cell_of_row w r 9 _ T (0,0) h0];rfl,by rw [cell_of_row w r 10 _ T (0,0) h0];rfl,by rw [cell_of_row w r 11 _ T (0,0) h0];rfl,by rw [cell_of_row w r 12 _ T (0,0) h0];rfl,by rw [cell_of_row w r 13 _ T (0,0) h0];rfl,by rw [cell_of_row w r 14 _ T (0,0) h0];rfl,fun o=>by simp [World.frozen?,h0]⟩
theorem LY {wr w7 wa w9 W9:World} {B b2 base nv cv g9 n9 cap9 j2:Nat} {pv:Option Addr} {rows:List (List Value)} {q:List Value} {ks:List Fx} {x:Fx} {u:Value} (hw:B≤wr.heap.size) (hO:ak 5 168 wr base (.slice pv nv cv) rows) (dC:b2<base) (DF:b2<wr.heap.size)
  (hLS:fP (fun k=>B≤k∧k<wr.heap.size∧k≠b2∧(Value.slice pv nv cv).ownBlock≠some k) wr ks rows) (iG:wr.grownBy w7 none) (hq:PAt (fun k=>wr.heap.size≤k) w7 x q) (dG:w7.grownBy wa none) (sd:wa.heap.size=w7.heap.size+1)
  (eu:wa.grownBy w9 (Value.slice pv nv cv).ownBlock) (ef:(Value.slice pv nv cv).ownBlock=some g9∨g9=w7.heap.size+1) (hf:(w9.setCell ⟨b2,j2,none⟩ u).grownBy W9 none):
  fP (fun k=>B≤k∧k<W9.heap.size∧k≠b2∧(Value.slice (some ⟨g9,0,none⟩) n9 cap9).ownBlock≠some k) W9 (ks++[x]) (rows++[q]):=by
 have Hj:=ak.at hO
 have s7:=iG.size
 have s9:=eu.size
 have sf:=hf.size
 have sc:(w9.setCell ⟨b2,j2,none⟩ u).heap.size=w9.heap.size:=by simp [World.setCell]
 have fr:Fr2 (fun k=>(Value.slice pv nv cv).ownBlock=some k∨k=b2) w7 W9:=
  ((Fr2.none dG).trans ((Fr2.of eu (fun k e=>.inl e)).trans ((Fr2.setCell (Fr2.refl _ _) (.inr rfl) u).trans (Fr2.none hf))))
 have bl:∀k,k<w7.heap.size→(Value.slice pv nv cv).ownBlock≠some k→(Value.slice (some ⟨g9,0,none⟩) n9 cap9).ownBlock≠some k:=fun k hk h1 e=>by
  have e:g9=k:=Option.some.inj (show some g9=some k from e)
  rcases ef with h | h
  ·exact h1 (by rw [h,e])
  ·omega
 have oS:∀k,wr.heap.size≤k→(Value.slice pv nv cv).ownBlock≠some k:=fun k hk e=>by have:=Hj _ e;omega
 refine F1 ?_ ?_
 ·have h1:=PAt.same fr (fun k (hk:wr.heap.size≤k∧k<w7.heap.size)=>fun e=>by
   rcases e with e | e
   ·exact oS k hk.1 e
   ·omega) hq.bound
  exact PAt.mono (fun k hk=>⟨by omega,by omega,by omega,bl k hk.2 (oS k hk.1)⟩) h1
 ·have h1:=oY fr (fun k (hk:B≤k∧k<wr.heap.size∧k≠b2∧(Value.slice pv nv cv).ownBlock≠some k)=>fun e=>by
   rcases e with e | e
   ·exact hk.2.2.2 e
   ·exact hk.2.2.1 e) (Ey hLS iG)
  exact oL (fun k hk=>⟨hk.1,by omega,hk.2.2.1,bl k (by omega) hk.2.2.2⟩) h1
theorem DQ {w2:World} {B gg j:Nat} {v a b c d e f g h:Value} (hv:w2.cell? ⟨gg,j,none⟩=some v) (bl:B≠gg):((((((((w2.setCell ⟨B,5,none⟩ a).setCell ⟨B,6,none⟩ b).setCell ⟨B,7,none⟩ c).setCell ⟨B,8,none⟩ d).setCell ⟨B,9,none⟩ e).setCell ⟨B,10,none⟩ f).setCell ⟨B,11,none⟩ g).setCell ⟨B,12,none⟩ h).cell? ⟨gg,j,none⟩=some v:=by
 rw [World.cell?_setCell_far _ _ _ _ bl,World.cell?_setCell_far _ _ _ _ bl,World.cell?_setCell_far _ _ _ _ bl,World.cell?_setCell_far _ _ _ _ bl,World.cell?_setCell_far _ _ _ _ bl,World.cell?_setCell_far _ _ _ _ bl,World.cell?_setCell_far _ _ _ _ bl,World.cell?_setCell_far _ _ _ _ bl]
 exact hv
theorem Zz {W:World} {B:Nat} {T:TypeId} {x0 x1 x2 x3 x4 x5 x6 x7 x8 x9 vh sP rD oO oq:Value} (h0:W.heap[B]? = some (.cells #[x0,x1,x2,x3,x4,x5,x6,x7,x8,x9,vh,sP,rD,oO,oq] T (0,0))) (a b c d e f g h:Value):((((((((W.setCell ⟨B,5,none⟩ a).setCell ⟨B,6,none⟩ b).setCell ⟨B,7,none⟩ c).setCell ⟨B,8,none⟩ d).setCell ⟨B,9,none⟩ e).setCell ⟨B,10,none⟩ f).setCell ⟨B,11,none⟩ g).setCell ⟨B,12,none⟩ h).heap[B]? = some (.cells #[x0,x1,x2,x3,x4,a,b,c,d,e,f,g,h,oO,oq] T (0,0))∧Fr2 (ez B) W ((((((((W.setCell ⟨B,5,none⟩ a).setCell ⟨B,6,none⟩ b).setCell ⟨B,7,none⟩ c).setCell ⟨B,8,none⟩ d).setCell ⟨B,9,none⟩ e).setCell ⟨B,10,none⟩ f).setCell ⟨B,11,none⟩ g).setCell ⟨B,12,none⟩ h):=by
 have h1:(W.setCell ⟨B,5,none⟩ a).heap[B]? = some (.cells #[x0,x1,x2,x3,x4,a,x6,x7,x8,x9,vh,sP,rD,oO,oq] T (0,0)):=ab (i:=5) (u:=a) h0
 have h2:((W.setCell ⟨B,5,none⟩ a).setCell ⟨B,6,none⟩ b).heap[B]? = some (.cells #[x0,x1,x2,x3,x4,a,b,x7,x8,x9,vh,sP,rD,oO,oq] T (0,0)):=ab (i:=6) (u:=b) h1
 have h3:(((W.setCell ⟨B,5,none⟩ a).setCell ⟨B,6,none⟩ b).setCell ⟨B,7,none⟩ c).heap[B]? = some (.cells #[x0,x1,x2,x3,x4,a,b,c,x8,x9,vh,sP,rD,oO,oq] T (0,0)):=ab (i:=7) (u:=c) h2
 have h4:((((W.setCell ⟨B,5,none⟩ a).setCell ⟨B,6,none⟩ b).setCell ⟨B,7,none⟩ c).setCell ⟨B,8,none⟩ d).heap[B]? = some (.cells #[x0,x1,x2,x3,x4,a,b,c,d,x9,vh,sP,rD,oO,oq] T (0,0)):=ab (i:=8) (u:=d) h3
 have h5:(((((W.setCell ⟨B,5,none⟩ a).setCell ⟨B,6,none⟩ b).setCell ⟨B,7,none⟩ c).setCell ⟨B,8,none⟩ d).setCell ⟨B,9,none⟩ e).heap[B]? = some (.cells #[x0,x1,x2,x3,x4,a,b,c,d,e,vh,sP,rD,oO,oq] T (0,0)):=ab (i:=9) (u:=e) h4
 have h6:((((((W.setCell ⟨B,5,none⟩ a).setCell ⟨B,6,none⟩ b).setCell ⟨B,7,none⟩ c).setCell ⟨B,8,none⟩ d).setCell ⟨B,9,none⟩ e).setCell ⟨B,10,none⟩ f).heap[B]? = some (.cells #[x0,x1,x2,x3,x4,a,b,c,d,e,f,sP,rD,oO,oq] T (0,0)):=ab (i:=10) (u:=f) h5
 have h7:(((((((W.setCell ⟨B,5,none⟩ a).setCell ⟨B,6,none⟩ b).setCell ⟨B,7,none⟩ c).setCell ⟨B,8,none⟩ d).setCell ⟨B,9,none⟩ e).setCell ⟨B,10,none⟩ f).setCell ⟨B,11,none⟩ g).heap[B]? = some (.cells #[x0,x1,x2,x3,x4,a,b,c,d,e,f,g,rD,oO,oq] T (0,0)):=ab (i:=11) (u:=g) h6
 have h8:((((((((W.setCell ⟨B,5,none⟩ a).setCell ⟨B,6,none⟩ b).setCell ⟨B,7,none⟩ c).setCell ⟨B,8,none⟩ d).setCell ⟨B,9,none⟩ e).setCell ⟨B,10,none⟩ f).setCell ⟨B,11,none⟩ g).setCell ⟨B,12,none⟩ h).heap[B]? = some (.cells #[x0,x1,x2,x3,x4,a,b,c,d,e,f,g,h,oO,oq] T (0,0)):=ab (i:=12) (u:=h) h7
 exact⟨h8,(Fr2.setCell (Fr2.setCell (Fr2.setCell (Fr2.setCell (Fr2.setCell (Fr2.setCell (Fr2.setCell (Fr2.setCell (Fr2.refl (ez B) W) (g:=B) (j:=5) (bh B) a) (g:=B) (j:=6) (bh B) b) (g:=B) (j:=7) (bh B) c) (g:=B) (j:=8) (bh B) d) (g:=B) (j:=9) (bh B) e) (g:=B) (j:=10) (bh B) f) (g:=B) (j:=11) (bh B) g) (g:=B) (j:=12) (bh B) h)⟩
theorem Oa {w:World} {b:Nat} {cs:List Value} {T:TypeId} (h:w.heap[b]? = some (.cells cs.toArray T (0,0))):w.rangeAt b 0 cs:=fun j v hv=>by
 rw [Nat.zero_add,cell_of_row w b j _ T (0,0) h,List.getElem?_toArray];exact hv
theorem Rb:(Tryz.prog.info? 55).map (·.size)=some 15:=by kernel_rfl
def DY (W:World) (B:Nat) (x:Fx) (t6:Value) (wx:World):Prop:=∃b q,t6=.pointer (some ⟨b,0,none⟩)∧wx.heap[b]? = some (.cells q.toArray 168 (0,0))∧PAt (fun k=>B≤k∧k<wx.heap.size∧k≠b) wx x q∧B≤b∧W.grownBy wx none
theorem QY {W w0 w2:World} {B:Nat} {x:Fx} {a b c d e:Value} (h:W.grownBy w2 none) (hB:B≤w0.heap.size) (gS:B≤w2.heap.size) (hq:PAt (fun k=>w0.heap.size≤k) w2 x [a,b,c,d,e]):DY W B x (.pointer (some ⟨w2.heap.size,0,none⟩)) (w2.alloc (.cells #[a,b,c,d,e] 168)):=
 ⟨w2.heap.size,_,rfl,heap_alloc_new w2 _,PAt.mono (fun k hk=>⟨by have:=hk.1;omega,by have:=hk.2;simp;omega,by have:=hk.2;omega⟩) (PAt.kept hq.bound (World.grownBy_alloc _ _ none)),gS,ae h _⟩
theorem F9 {W w0 w2:World} {B b0:Nat} {x:Fx} {a b c d e:Value} {x0 x1 x2 x3 x4:Value} (h:W.grownBy w2 none) (hb:W.heap.size≤b0) (hB:B≤b0) (jK:b0<w0.heap.size) (hbx:w2.heap[b0]? = some (.cells #[x0,x1,x2,x3,x4] 168 (0,0))) (hq:PAt (fun k=>w0.heap.size≤k) w2 x [a,b,c,d,e]):
  DY W B x (.pointer (some ⟨b0,0,none⟩)) (((((w2.setCell ⟨b0,0,none⟩ a).setCell ⟨b0,1,none⟩ b).setCell ⟨b0,2,none⟩ c).setCell ⟨b0,3,none⟩ d).setCell ⟨b0,4,none⟩ e):=by
 obtain⟨hp,hf⟩:=Td hbx a b c d e
 refine⟨b0,_,rfl,hp,?_,hB,Fr2.after h hf (fun j hj=>by have e:j=b0:=hj;omega)⟩
 exact PAt.mono (fun k hk=>⟨by have:=hk.1;omega,zn hk.2 hf.size,by have:=hk.1;omega⟩) (PAt.same hf (fun k hk e=>by have e:k=b0:=e;have:=hk.1;omega) hq.bound)
theorem Qn {T:List Tok} {w W9 wr w8 WS:World} {b0 b1 b6 b7 wcs:Nat} {l:List Tr} {u:Tr} {F:Fx} {pub bs FU:Bool} {sa sb:ByteArray} {op FR:Int} {pv pc pw pk:Option Addr} {nv cv nc cc nw cw nk FD:Nat} {rows:List (List Value)} {x0 x1 x2 x3 x4 x5 x6 x7 x8 x9 vh sP rD oO oq:Value}
  (hw0:w.heap.size=b0) (zR:b0<b1) (h17:b1<b7) (hGr:w.grownBy wr none) (ZL:wr.grownBy w8 none) (hFS:Fr2 (ez b7) w8 WS) (ik:WS.heap[b1]? = some (.cells #[x0,x1,x2,x3,x4,x5,x6,x7,x8,x9,vh,sP,rD,oO,oq] 55 (0,0)))
  (hsc:wcs=b7) (hS9:b7+1≤W9.heap.size) (hSr:b7+1≤wr.heap.size) (hQ:PAt (fun k=>b1+1≤k∧k<wcs∧k≠b6) W9 F [aw F.nm,.int .i64 (F.base:Int),.slice pc nc cc,.int .i64 (F.ps:Int),.int .i64 F.bare]) (hF:Fr2 (fun k=>k=b7) W9 wr)
  (hO:ak 5 168 wr W9.heap.size (.slice pv nv cv) rows) (i7:fP (fun k=>b7+1≤k∧k<wr.heap.size∧k≠b7∧(Value.slice pv nv cv).ownBlock≠some k) wr (dS T l) rows)
  (hE:EAt (fun k=>wr.heap.size≤k) w8 (axT T u) [.int .i64 op,.string sa,.string sb,.bool bs,.slice pw nw cw,.bool FU,.slice pk nk FD,.int .i64 FR]):
  zE ⟨pub,dS T l,F,axT T u⟩ w (.returned (.agg #[.bool pub,.string ⟨F.nm.toArray⟩,.slice pv nv cv,.int .i64 (F.base:Int),.slice pc nc cc,.int .i64 op,.string sa,.string sb,.bool bs,.slice pw nw cw,.bool FU,.slice pk nk FD,.int .i64 FR,.int .i64 (F.ps:Int),.int .i64 F.bare])) (((((((((((((((WS.setCell ⟨b1,0,none⟩ (.bool pub)).setCell ⟨b1,1,none⟩ (.string ⟨F.nm.toArray⟩)).setCell ⟨b1,2,none⟩ (.slice pv nv cv)).setCell ⟨b1,3,none⟩ (.int .i64 (F.base:Int))).setCell ⟨b1,4,none⟩ (.slice pc nc cc)).setCell ⟨b1,5,none⟩ (.int .i64 op)).setCell ⟨b1,6,none⟩ (.string sa)).setCell ⟨b1,7,none⟩ (.string sb)).setCell ⟨b1,8,none⟩ (.bool bs)).setCell ⟨b1,9,none⟩ (.slice pw nw cw)).setCell ⟨b1,10,none⟩ (.bool FU)).setCell ⟨b1,11,none⟩ (.slice pk nk FD)).setCell ⟨b1,12,none⟩ (.int .i64 FR)).setCell ⟨b1,13,none⟩ (.int .i64 (F.ps:Int))).setCell ⟨b1,14,none⟩ (.int .i64 F.bare)):=by
 obtain⟨hp,hf⟩:=Kk ik (.bool pub) (.string ⟨F.nm.toArray⟩) (.slice pv nv cv) (.int .i64 (F.base:Int)) (.slice pc nc cc) (.int .i64 op) (.string sa) (.string sb) (.bool bs) (.slice pw nw cw) (.bool FU) (.slice pk nk FD) (.int .i64 FR) (.int .i64 (F.ps:Int)) (.int .i64 F.bare)
 have S0:Fr2 (fun k=>k=b7∨k=b1) w8 (((((((((((((((WS.setCell ⟨b1,0,none⟩ (.bool pub)).setCell ⟨b1,1,none⟩ (.string ⟨F.nm.toArray⟩)).setCell ⟨b1,2,none⟩ (.slice pv nv cv)).setCell ⟨b1,3,none⟩ (.int .i64 (F.base:Int))).setCell ⟨b1,4,none⟩ (.slice pc nc cc)).setCell ⟨b1,5,none⟩ (.int .i64 op)).setCell ⟨b1,6,none⟩ (.string sa)).setCell ⟨b1,7,none⟩ (.string sb)).setCell ⟨b1,8,none⟩ (.bool bs)).setCell ⟨b1,9,none⟩ (.slice pw nw cw)).setCell ⟨b1,10,none⟩ (.bool FU)).setCell ⟨b1,11,none⟩ (.slice pk nk FD)).setCell ⟨b1,12,none⟩ (.int .i64 FR)).setCell ⟨b1,13,none⟩ (.int .i64 (F.ps:Int))).setCell ⟨b1,14,none⟩ (.int .i64 F.bare)):=(hFS.mono (fun k e=>.inl e)).trans (hf.mono (fun k e=>.inr e))
 have Et:Fr2 (fun k=>k=b7∨k=b1) wr (((((((((((((((WS.setCell ⟨b1,0,none⟩ (.bool pub)).setCell ⟨b1,1,none⟩ (.string ⟨F.nm.toArray⟩)).setCell ⟨b1,2,none⟩ (.slice pv nv cv)).setCell ⟨b1,3,none⟩ (.int .i64 (F.base:Int))).setCell ⟨b1,4,none⟩ (.slice pc nc cc)).setCell ⟨b1,5,none⟩ (.int .i64 op)).setCell ⟨b1,6,none⟩ (.string sa)).setCell ⟨b1,7,none⟩ (.string sb)).setCell ⟨b1,8,none⟩ (.bool bs)).setCell ⟨b1,9,none⟩ (.slice pw nw cw)).setCell ⟨b1,10,none⟩ (.bool FU)).setCell ⟨b1,11,none⟩ (.slice pk nk FD)).setCell ⟨b1,12,none⟩ (.int .i64 FR)).setCell ⟨b1,13,none⟩ (.int .i64 (F.ps:Int))).setCell ⟨b1,14,none⟩ (.int .i64 F.bare)):=(Fr2.none ZL).trans S0
 have db:=hGr.size
 obtain⟨D2,pz,lB⟩:=hO.rows
 refine⟨Fr2.after (aa hGr ZL) S0 (fun k e=>by rcases e with e | e<;>omega),_,rfl,pv,nv,cv,rows,pc,nc,cc,[.int .i64 op,.string sa,.string sb,.bool bs,.slice pw nw cw,.bool FU,.slice pk nk FD,.int .i64 FR],rfl,?_,?_,D2.trans (pT i7),?_,?_,fun h0=>?_⟩
 ·exact PAt.mono (fun k hk=>by have h1:=hk.1;omega) (PAt.same Et (fun k hk e=>by have h1:=hk.1;have h2:=hk.2.1;rcases e with e | e<;>omega) (PAt.same hF (fun k hk e=>by have h2:=hk.2.1;omega) hQ))
 ·exact EAt.mono (fun k hk=>Nat.le_trans db hk) (EAt.same S0 (fun k hk e=>by have hk:wr.heap.size≤k:=hk;rcases e with e | e<;>omega) hE)
 ·exact pz.keptS Et (fun h0 a ha e=>by
   obtain⟨a',jE,MZ,-⟩:=lB h0
   rw [ha] at jE;injection jE with jE;subst jE
   rcases e with e | e<;>omega)
 ·exact oL (fun k hk=>by have h1:=hk.1;omega) (oY Et (fun k hk e=>by have h1:=hk.1;rcases e with e | e<;>omega) i7)
 ·obtain⟨a',jE,MZ,-⟩:=lB (fun e=>by have h9:=pT i7;rw [e] at h9;exact h0 (List.eq_nil_of_length_eq_zero h9.symm))
  exact⟨a',jE,by omega⟩
theorem Tb:∀(n N:Nat),N<10 ^ n→Mx.V 10 (Zd.dig N) 0 n=N
 | 0,N,h=>by simp at h;subst h;rfl
 | n+1,N,h=>by
   rw [Mx.V_front]
   have e:Mx.V 10 (Zd.dig N) (0+1) n=Mx.V 10 (Zd.dig (N / 10)) 0 n:=Mx.V_congr (fun j _=>by
    unfold Zd.dig
    rw [Nat.div_div_eq_div_mul,show 0+1+j=(0+j)+1 by omega,Nat.pow_succ,Nat.mul_comm])
   rw [e,Tb n (N / 10) (by rw [Nat.pow_succ] at h;omega)]
   unfold Zd.dig
   simp only [Nat.pow_zero,Nat.div_one]
   omega
theorem QO (N:Nat):Zd.valL (Zd.decL N)=N:=by
 have bB:(Zd.decL N).length=Zd.nd N:=by simp [Zd.decL]
 rw [Zd.valL_all,bB]
 refine Eq.trans (Mx.V_congr (g:=Zd.dig N) (p:=0) (fun j hj=>?_)) (Tb (Zd.nd N) N (Zd.nd_lt N))
 rw [Nat.zero_add,Zd.dgt_get (by omega)]
 have UW:Zd.dig N j<10:=Nat.mod_lt _ (by omega)
 have:(Zd.decL N)[Zd.nd N - 1 - j]'(by omega)=UInt8.ofNat (48+Zd.dig N (Zd.nd N - 1 - (Zd.nd N - 1 - j))):=by simp [Zd.decL]
 rw [this,show Zd.nd N - 1 - (Zd.nd N - 1 - j)=j by omega]
 have h8:∀d,d<10→(UInt8.ofNat (48+d)).toNat - 48=d:=by decide +kernel
 exact h8 _ UW
theorem Gj {nu:Int} (h0:0≤nu) (hl:(Zd.txtL nu).length≤60):Zd.parseV (Zd.txtL nu)=nu:=by
 have hn:=yW h0 hl
 have hE:=(mJ hn).1
 unfold Zd.parseV
 rw [if_pos hE]
 obtain⟨b,r,hb,Pt⟩:=AM nu
 have bl:b.toNat≠45:=fun e=>by
  have:b=45:=UInt8.toNat_inj.1 e
  have:=Pt.1 this
  omega
 have hm:=Zd.md_other (t:=r) bl
 rw [hb,hm.1,hm.2,←hb]
 obtain⟨N,rfl⟩:=Int.eq_ofNat_of_zero_le h0
 by_cases hz:N=0
 ·subst hz;rfl
 ·have ht:Zd.txtL (N:Int)=Zd.decL N:=by unfold Zd.txtL;rw [if_neg (by omega),if_neg (by omega)];rfl
  rw [ht,QO];rfl
end Go.Proofs.YtjbgnopnehgbaaaGreatDoor
