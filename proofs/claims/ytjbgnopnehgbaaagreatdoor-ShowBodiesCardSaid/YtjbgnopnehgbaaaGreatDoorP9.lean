/- Lemmas. -/
import Derived.Deep.Slices
import Derived.OpenShut
import Derived.Shelf.Spec.BitsCarry
import Derived.Test.YtjbgnopnehgbaaaGreatDoorP3
set_option linter.unusedVariables false
set_option linter.unusedSimpArgs false
namespace Go.Proofs.YtjbgnopnehgbaaaGreatDoor
structure St where
 i:Nat
 inn:Bool
 e:Nat
 pos:Nat
abbrev RQ:=List UInt8×St
def an (T:List Tok) (s:St):Tok:=T[s.i]?.getD ⟨5,[],[],0⟩
def aB (T:List Tok) (n:Nat) (s:St):St:=if s.e=0 then { s with e:=n,pos:=(an T s).pos } else s
def isQ (T:List Tok) (w:List UInt8) (s:St):Bool:=decide (s.e=0∧((an T s).kind=2∨(an T s).kind=4)∧(an T s).text=w)
def aI (T:List Tok) (s:St):RQ:=if (an T s).kind=5 then ([32,36],s) else (32::(an T s).text,{ s with i:=s.i+1 })
def fT (T:List Tok) (w:List UInt8) (s:St):RQ:=if isQ T w s=true then aI T s else ([],aB T 22 s)
def lQ (T:List Tok) (k:Nat) (s:St):RQ:=if s.e=0∧(an T s).kind=k then aI T s else ([],aB T 22 s)
def aO (T:List Tok) (D n:Nat) (s:St):St:=if D<n then aB T 23 s else s
def Eh (T:List Tok) (c:St→Bool) (sub:St→RQ):Nat→RQ→RQ
 | 0,r=>r
 | f+1,r=>if c r.2=true then
   Eh T c sub f ([32,40,49,48]++r.1++(aI T r.2).1++(sub (aI T r.2).2).1++[41],(sub (aI T r.2).2).2)
   else r
def uC (T:List Tok) (sub:St→RQ):Nat→Nat→RQ→RQ
 | 0,_,r=>r
 | f+1,k,r=>if isQ T [44] r.2=true then
   let l:=aI T r.2
   let s:=if k=8 then aB T 15 l.2 else l.2
   uC T sub f (k+1) (r.1++l.1++(sub s).1,(sub s).2)
   else r
structure Nx where
 expr:St→RQ
 formula:St→RQ
 nots:St→RQ
 factor:St→RQ
section
variable (T:List Tok) (D n:Nat) (nx:Nx)
def aT (s:St):Nat:=T.length - s.i+1
def Ff (s:St):RQ:=uC T nx.expr (aT T (nx.expr s).2) 1 (nx.expr s)
def Kv (a:RQ):RQ:=if isQ T [46] a.2=true then (a.1++(aI T a.2).1++(lQ T 1 (aI T a.2).2).1,(lQ T 1 (aI T a.2).2).2) else a
def Ln (b:RQ):RQ:=(b.1++(fT T [40] b.2).1,(fT T [40] b.2).2)
def J6 (c:RQ):RQ:=if isQ T [41] c.2=true then c else (c.1++(Ff T nx c.2).1,(Ff T nx c.2).2)
def MC (d:RQ):RQ:=([32,40,49,51]++d.1++(fT T [41] d.2).1++[41],(fT T [41] d.2).2)
def NZ (s:St):RQ:=
 if (aI T s).2.inn=true∨(isQ T [46] (aI T s).2=false∧isQ T [40] (aI T s).2=false) then ([32,40,49,52]++(aI T s).1++[41],(aI T s).2)
 else MC T (J6 T nx (Ln T (Kv T (aI T s))))
def K2 (s:St):RQ:=
 if s.e≠0 then ([],s)
 else if (an T s).kind=3 then ([32,40,49,53]++(aI T s).1++[41],(aI T s).2)
 else if isQ T [116,114,117,101] s=true∨isQ T [102,97,108,115,101] s=true then ([32,40,49,54]++(aI T s).1++[41],(aI T s).2)
 else if s.inn=true∧isQ T [114,101,115] s=true then ([32,40,49,55]++(aI T s).1++[41],(aI T s).2)
 else if isQ T [40] s=true then
  let l:=aI T s
  let b:=nx.expr l.2
  let c:=fT T [41] b.2
  ([32,40,49,50]++l.1++b.1++c.1++[41],c.2)
 else if (an T s).kind=1 then NZ T nx s
 else ([],aB T 22 s)
def EB (sub:St→RQ) (s:St):RQ:=
 let l:=aI T s
 let t:=aO T D (n+1) l.2
 if t.e≠0 then ([],t) else ([32,40,49,49]++l.1++(sub t).1++[41],(sub t).2)
def mZ (s:St):RQ:=if isQ T [45] s=true then EB T D n nx.factor s else K2 T nx s
def jN (s:St):Bool:=isQ T [42] s || isQ T [47] s || isQ T [37] s
def jT (s:St):Bool:=isQ T [43] s || isQ T [45] s
def fs (s:St):Bool:=isQ T [61] s || isQ T [60,62] s || isQ T [60] s || isQ T [60,61] s || isQ T [62] s || isQ T [62,61] s
def lY (s:St):RQ:=Eh T (jN T) (mZ T D n nx) (aT T (mZ T D n nx s).2) (mZ T D n nx s)
def Qg (s:St):RQ:=Eh T (jT T) (lY T D n nx) (aT T (lY T D n nx s).2) (lY T D n nx s)
def H6 (s:St):RQ:=
 if isQ T [110,111,116] s=true then EB T D n nx.nots s
 else
  let a:=Qg T D n nx s
  if fs T a.2=true then
   let l:=aI T a.2
   let b:=Qg T D n nx l.2
   ([32,40,49,48]++a.1++l.1++b.1++[41],b.2)
  else a
def MA (s:St):RQ:=Eh T (isQ T [38,38]) (H6 T D n nx) (aT T (H6 T D n nx s).2) (H6 T D n nx s)
def orQ (s:St):RQ:=Eh T (isQ T [124,124]) (MA T D n nx) (aT T (MA T D n nx s).2) (MA T D n nx s)
def oH (s:St):RQ:=
 let a:=orQ T D n nx s
 if isQ T [61,62] a.2=true then
  let l:=aI T a.2
  let t:=aO T D (n+1) l.2
  if t.e≠0 then ([],t) else ([32,40,49,48]++a.1++l.1++(nx.formula t).1++[41],(nx.formula t).2)
 else a
def WW (s:St):RQ:=
 let l:=aI T s
 let k:=lQ T 1 l.2
 let q:=fT T [61] k.2
 let a:=nx.expr q.2
 let i:=fT T [105,110] a.2
 let b:=nx.expr i.2
 ([32,40,55]++l.1++k.1++q.1++a.1++i.1++b.1++[41],b.2)
def ifQ (s:St):RQ:=
 let l:=aI T s
 let a:=nx.expr l.2
 let t:=fT T [116,104,101,110] a.2
 let b:=nx.expr t.2
 let e:=fT T [101,108,115,101] b.2
 let c:=nx.expr e.2
 ([32,40,56]++l.1++a.1++t.1++b.1++e.1++c.1++[41],c.2)
def yz (s:St):RQ:=
 let l:=aI T s
 let a:=nx.expr l.2
 let i:=fT T [105,110] a.2
 let b:=nx.expr i.2
 ([32,40,57]++l.1++a.1++i.1++b.1++[41],b.2)
def NL (s:St):RQ:=
 let t:=aO T D n s
 if t.e≠0 then ([],t)
 else if t.inn=false∧isQ T [108,101,116] t=true then WW T nx t
 else if t.inn=false∧isQ T [105,102] t=true then ifQ T nx t
 else if t.inn=false∧isQ T [97,115,115,101,114,116] t=true then yz T nx t
 else oH T D n nx t
end
def nxQ (T:List Tok) (D:Nat):Nat→Nx
 | 0=>{ expr:=fun s=>([],aO T D (D+1) s),formula:=fun s=>([],s),nots:=fun s=>([],s),factor:=fun s=>([],s) }
 | d+1=>{ expr:=NL T D (D - d) (nxQ T D d),formula:=oH T D (D - d) (nxQ T D d),nots:=H6 T D (D - d) (nxQ T D d),factor:=mZ T D (D - d) (nxQ T D d) }
def BE (T:List Tok) (i:Nat):Nat:=((T.take i).map fun t=>t.text.length+8).sum
theorem It (T:List Tok) {i:Nat} {t:Tok} (h:T[i]? = some t):BE T (i+1)=BE T i+(t.text.length+8):=by
 unfold BE;rw [List.take_add_one,h,List.map_append,List.sum_append];simp
theorem jZ (T:List Tok) (n:Nat) (s:St):(aB T n s).i=s.i:=by unfold aB;split<;>rfl
theorem VW (T:List Tok) (D n:Nat) (s:St):(aO T D n s).i=s.i:=by unfold aO;split;exact jZ T 23 s;rfl
theorem qh {T:List Tok} {s:St} (h:(an T s).kind≠5):(aI T s).1.length+7+BE T s.i≤BE T (aI T s).2.i∧(aI T s).2.i=s.i+1:=by
 unfold aI
 rw [if_neg h]
 cases ht:T[s.i]? with
 | none=>exact absurd (by unfold an;rw [ht];rfl) h
 | some t=>
   have h1:an T s=t:=by unfold an;rw [ht];rfl
   rw [h1,It T ht]
   refine⟨?_,rfl⟩
   simp only [List.length_cons];omega
theorem af {T:List Tok} {w:List UInt8} {s:St} (h:isQ T w s=true):(an T s).kind≠5∧s.e=0:=by
 unfold isQ at h
 have:=of_decide_eq_true h
 omega
end Go.Proofs.YtjbgnopnehgbaaaGreatDoor
namespace Go.Proofs.YtjbgnopnehgbaaaGreatDoor
theorem qA (l:List UInt8) (p:Nat):(aY l p).lead++(aY l p).text=l.take (dZ l):=by
 unfold aY dZ;rw [List.take_add]
theorem jF (t:Tok) (l:List Tok):bV (t::l)=t.lead++t.text++bV l:=rfl
theorem xK {l:List UInt8} {p:Nat} (h5:(aY l p).kind=5):dZ l=l.length∧(aY l p).text = []:=by
 have h1:=((rj (l.drop (sk false l))).2).1 h5
 have h2:l.length≤sk false l:=by
  have:=congrArg List.length h1;rw [List.length_drop,List.length_nil] at this;omega
 have h3:=rJ l false
 constructor
 ·unfold dZ;rw [h1];simp [aJ];omega
 ·unfold aY;rw [h1];rfl
theorem Ok {l:List UInt8} {p:Nat} (h:bg (aY l p).kind (aY l p).text=0) (h5:(aY l p).kind≠5):(aY l p).text≠[]:=by
 have h0:(aJ (l.drop (sk false l))).1≠0:=fun e=>by
  unfold bg at h
  rw [if_pos (.inl e)] at h;cases h
 have h1:=nV h5 h0
 have h2:=mS (l.drop (sk false l))
 intro e
 have h3:((l.drop (sk false l)).take (aJ (l.drop (sk false l))).2).length=([]:List UInt8).length:=congrArg List.length e
 rw [List.length_take,List.length_nil,Nat.min_eq_left h2] at h3
 omega
theorem uV:∀(f:Nat) (l:List UInt8) (p:Nat),l.length<f→(iZ f l p).2.1=0→bV (iZ f l p).1=l
 | 0,l,p,h,_=>by omega
 | f+1,l,p,h,h0=>by
   by_cases hw:bg (aY l p).kind (aY l p).text=0
   ·by_cases h5:(aY l p).kind=5
    ·rw [mu hw h5,jF,qA,(xK h5).1,List.take_length];simp [bV]
    ·rw [kj hw h5] at h0 ⊢
     have h1:=pU hw h5
     have h2:=tJ l
     rw [jF,qA,uV f (l.drop (dZ l)) _ (by rw [List.length_drop];omega) h0,List.take_append_drop]
   ·rw [kY hw] at h0
    exact absurd h0 hw
theorem ku {l:List UInt8} (h:(ag l).2.1=0):bV (ag l).1=l:=uV _ l 0 (by omega) h
def JS (p:Nat) (L:List Tok):Prop:=∀i t,L[i]? = some t→t.pos=p+(bV (L.take i)).length+t.lead.length∧(t.kind=5↔i+1=L.length)∧(t.text = []↔t.kind=5)
theorem tS:∀(f:Nat) (l:List UInt8) (p:Nat),l.length<f→(iZ f l p).2.1=0→JS p (iZ f l p).1∧(iZ f l p).1≠[]
 | 0,l,p,h,_=>by omega
 | f+1,l,p,h,h0=>by
   by_cases hw:bg (aY l p).kind (aY l p).text=0
   ·have S5:(aY l p).lead.length=sk false l:=by
     unfold aY;simp only [List.length_take];have:=rJ l false;omega
    by_cases h5:(aY l p).kind=5
    ·rw [mu hw h5]
     refine⟨fun i t hi=>?_,by simp⟩
     match i,hi with
     | 0,hi=>
       simp at hi;subst hi
       refine⟨?_,by simp [h5],by simp [h5,(xK h5).2]⟩
       rw [S5];simp [bV];rfl
    ·rw [kj hw h5] at h0 ⊢
     have h1:=pU hw h5
     have h2:=tJ l
     obtain⟨ih,bl⟩:=tS f (l.drop (dZ l)) (p+dZ l) (by rw [List.length_drop];omega) h0
     refine⟨fun i t hi=>?_,by simp⟩
     match i,hi with
     | 0,hi=>
       simp at hi;subst hi
       have ht:=Ok hw h5
       refine⟨?_,?_,by simp [h5,ht]⟩
       ·rw [S5];simp [bV];rfl
       ·simp [h5]
        intro e;exact bl e
     | i+1,hi=>
       obtain⟨a1,a2,a3⟩:=ih i t (by simpa using hi)
       refine⟨?_,by rw [a2];simp,a3⟩
       rw [a1,List.take_succ_cons,jF,qA,List.length_append,List.length_take,Nat.min_eq_left h2]
       omega
   ·rw [kY hw] at h0
    exact absurd h0 hw
theorem j8 {l:List UInt8} (h:(ag l).2.1=0):JS 0 (ag l).1∧(ag l).1≠[]:=tS _ l 0 (by omega) h
theorem lg {l:List UInt8} (h:(ag l).2.1=0):(ag l).1.length≤l.length+1:=by
 have h1:=(j8 h).1
 have h2:∀(L:List Tok),(∀i t,L[i]? = some t→(t.text = []↔i+1=L.length))→L.length≤(bV L).length+1:=by
  intro L hL
  have key:∀(L:List Tok),(∀t∈L,t.text≠[])→L.length≤(bV L).length:=by
   intro L
   induction L with
   | nil=>intro _;exact Nat.le_refl _
   | cons t L ih=>
     intro hh
     have a:=ih (fun t ht=>hh t (List.mem_cons_of_mem _ ht))
     have b:=List.length_pos_iff.2 (hh t (List.mem_cons_self ..))
     rw [jF];simp only [List.length_cons,List.length_append];omega
  have h3:=key (L.take (L.length - 1)) (fun t ht=>by
   obtain⟨i,hi⟩:=List.getElem?_of_mem ht
   rw [List.getElem?_take] at hi
   split at hi
   ·rename_i hlt
    intro e
    have:=(hL i t hi).1 e
    omega
   ·cases hi)
  have h4:=jS L (L.length - 1)
  rw [List.length_take] at h3
  omega
 have h5:=h2 (ag l).1 (fun i t hi=>by obtain⟨_,a,b⟩:=h1 i t hi;rw [b,a])
 rw [ku h] at h5;exact h5
open Go.RowKit
def ez (b:Nat):Nat→Prop:=fun k=>k=b
def tG (T:List Tok):Prop:=∀(i:Nat) (t:Tok),T[i]? = some t→(t.kind=5↔i+1=T.length)
theorem bh (b:Nat):ez b b:=rfl
theorem A6 {X:Nat→Prop} {a b:World} (h:Fr2 X a b):Fr2 X a b.drew:=⟨h.os,h.tape,h.output,h.size,h.block⟩
section
variable {T:List Tok}
theorem Od {s:St} (h:jN T s=true):(an T s).kind≠5:=by
 unfold jN at h
 simp only [Bool.or_eq_true] at h
 rcases h with (h | h) | h<;>exact(af h).1
theorem KE {s:St} (h:jT T s=true):(an T s).kind≠5:=by
 unfold jT at h
 simp only [Bool.or_eq_true] at h
 rcases h with h | h<;>exact(af h).1
theorem Nf {s:St} (h:fs T s=true):(an T s).kind≠5:=by
 unfold fs at h
 simp only [Bool.or_eq_true] at h
 rcases h with ((((h | h) | h) | h) | h) | h<;>exact(af h).1
end
theorem cC (T:List Tok) {m:Nat} (hm:m≠0) (s:St):(aB T m s).e≠0:=by
 unfold aB;split
 ·exact hm
 ·assumption
def setIn (v:Bool) (s:St):St:={ s with inn:=v }
section
variable (T:List Tok) (ex:St→RQ)
def XK (a:RQ):RQ:=
 if isQ T [105,110,116] a.2=true∨isQ T [98,111,111,108] a.2=true then (a.1++([32,40,53]++(aI T a.2).1++[41]),(aI T a.2).2)
 else (a.1,aB T 22 a.2)
def VQ (b:RQ):RQ:=
 if isQ T [123] b.2=true then
  let f:=ex (setIn true (aI T b.2).2)
  let m:=fT T [125] (setIn false f.2)
  (b.1++([32,40,54]++(aI T b.2).1++f.1++m.1++[41]),m.2)
 else b
def yu (s:St):RQ:=VQ T ex (XK T (fT T [58] s))
def MS (s:St):RQ:=
 let k:=lQ T 1 s
 let t:=yu T ex k.2
 ([32,40,52]++k.1++t.1++[41],t.2)
def sC (s:St):RQ:=uC T (MS T ex) (aT T (MS T ex s).2) 1 (MS T ex s)
def Vy (s:St):RQ:=if isQ T [112,117,98] s=true then ([32,40,51]++(aI T s).1,(aI T s).2) else ([32,40,51],s)
def WI (p:RQ):RQ:=
 let u:=fT T [102,117,110] p.2
 let k:=lQ T 1 u.2
 let o:=fT T [40] k.2
 (p.1++(u.1++k.1++o.1),o.2)
def X2 (o:RQ):RQ:=if o.2.e=0∧isQ T [41] o.2=false then (o.1++(sC T ex o.2).1,(sC T ex o.2).2) else o
def XY (r:RQ):RQ:=
 let c:=fT T [41] r.2
 let t:=yu T ex c.2
 let q:=fT T [61] t.2
 let x:=ex q.2
 let m:=fT T [59] x.2
 (r.1++(c.1++t.1++q.1)++x.1++m.1++[41],m.2)
def Qv (s:St):RQ:=XY T ex (X2 T ex (WI T (Vy T s)))
def yK (r:RQ):RQ:=
 let l:=aI T r.2
 let k:=lQ T 1 l.2
 let m:=fT T [59] k.2
 (r.1++([32,40,50]++l.1++k.1++m.1++[41]),m.2)
def BS (c:St→Bool) (step:RQ→RQ) (most:Nat):Nat→Nat→RQ→Bool×RQ
 | 0,_,r=>(true,r)
 | f+1,k,r=>if c r.2=true then (if k=most then (false,([],aB T 15 r.2)) else BS c step most f (k+1) (step r)) else (true,r)
def fF (s:St):Bool:=isQ T [112,117,98] s || isQ T [102,117,110] s
def jf (r:RQ):Bool×RQ:=BS T (isQ T [105,109,112,111,114,116]) (yK T) 16 (aT T r.2) 0 r
def yA (r:RQ):RQ:=(r.1++(Qv T ex r.2).1,(Qv T ex r.2).2)
def BT (r:RQ):Bool×RQ:=BS T (fF T) (yA T ex) 64 (aT T r.2) 0 r
def Z9 (r:RQ):RQ:=(r.1++(lQ T 5 r.2).1++[41],(lQ T 5 r.2).2)
def oA (s:St):RQ:=
 if (jf T ([40,49],s)).1=false then (jf T ([40,49],s)).2
 else if (BT T ex (jf T ([40,49],s)).2).1=false then (BT T ex (jf T ([40,49],s)).2).2
 else Z9 T (BT T ex (jf T ([40,49],s)).2).2
def zo (s:St):RQ:=
 let x:=ex (setIn true s)
 let k:=lQ T 5 x.2
 ([40,49,56]++x.1++k.1++[41],k.2)
end
theorem oV {l:List UInt8} (h:(ag l).2.1=0):tG (ag l).1∧(ag l).1≠[]:=⟨fun i t ht=>((j8 h).1 i t ht).2.1,(j8 h).2⟩
def az:St:=⟨0,false,0,0⟩
def Qy (r:RQ):List UInt8×Nat×Nat:=if r.2.e=0 then (r.1,0,0) else ([],r.2.e,r.2.pos)
def wT (T:List Tok) (D:Nat) (f:Bool):RQ:=if f=true then zo T (nxQ T D D).expr az else oA T (nxQ T D D).expr az
def t8 (l:List UInt8) (D:Nat) (f:Bool):List UInt8×Nat×Nat:=
 if 65536<l.length then ([],11,0)
 else if (ag l).2.1≠0 then ([],(ag l).2.1,(ag l).2.2)
 else Qy (wT (ag l).1 D f)
end Go.Proofs.YtjbgnopnehgbaaaGreatDoor
namespace Go.Proofs.YtjbgnopnehgbaaaGreatDoor.Mx
def V (b:Nat) (f:Nat→Nat) (o:Nat):Nat→Nat
 | 0=>0
 | n+1=>V b f o n+f (o+n)*b ^ n
variable {b:Nat} {f g:Nat→Nat} {o p n m:Nat}
theorem gZ:V b f o (n+1)=V b f o n+f (o+n)*b ^ n:=rfl
theorem V_congr (h:∀j,j<n→f (o+j)=g (p+j)):V b f o n=V b g p n:=by
 induction n with
 | zero=>rfl
 | succ n ih=>rw [gZ,gZ,ih (fun j hj=>h j (by omega)),h n (by omega)]
theorem Qm (h:∀j,j<n→f (o+j)=0):V b f o n=0:=by
 induction n with
 | zero=>rfl
 | succ n ih=>rw [gZ,ih (fun j hj=>h j (by omega)),h n (by omega)];simp
theorem QC (h:∀j,j<n→f (o+j)<b):V b f o n<b ^ n:=by
 induction n with
 | zero=>simp [V]
 | succ n ih=>
   have h1:=ih (fun j hj=>h j (by omega))
   have h2:f (o+n)+1≤b:=h n (by omega)
   have h3:(f (o+n)+1)*b ^ n≤b*b ^ n:=Nat.mul_le_mul_right _ h2
   rw [gZ,Nat.pow_succ,Nat.mul_comm (b ^ n) b]
   rw [Nat.add_mul] at h3
   omega
theorem zN (m:Nat):V b f o (m+n)=V b f o m+b ^ m*V b f (o+m) n:=by
 induction n with
 | zero=>simp [V]
 | succ n ih=>
   rw [←Nat.add_assoc,gZ,ih,gZ,Nat.pow_add,Nat.add_assoc o m n]
   grind
theorem V_front:V b f o (n+1)=f o+b*V b f (o+1) n:=by
 rw [Nat.add_comm n 1,zN];simp [V]
theorem afE (h:f (o+n)≠0):b ^ n≤V b f o (n+1):=by
 have:1*b ^ n≤f (o+n)*b ^ n:=Nat.mul_le_mul_right _ (by omega)
 rw [gZ];omega
theorem wS (h:n=0∨f (o+n - 1)≠0):n=0∨b ^ (n - 1)≤V b f o n:=by
 cases n with
 | zero=>exact .inl rfl
 | succ n=>exact .inr (afE (by simpa using h))
theorem Ty (h:∀j,n≤j→j<m→f (o+j)=0) (zQ:n≤m):V b f o m=V b f o n:=by
 obtain⟨k,rfl⟩:∃k,m=n+k:=⟨m - n,by omega⟩
 rw [zN,Qm (n:=k) (fun j hj=>by rw [Nat.add_assoc];exact h (n+j) (by omega) (by omega))];simp
theorem Ss (hb:0<b) (h:∀j,j<n→f (o+j)<b) {j:Nat} (hj:j<n):V b f o n / b ^ j % b=f (o+j):=by
 obtain⟨k,rfl⟩:∃k,n=j+(k+1):=⟨n - j - 1,by omega⟩
 have hlt:V b f o j<b ^ j:=QC (fun i hi=>h i (by omega))
 have hp:0<b ^ j:=Nat.pow_pos hb
 rw [zN,Nat.add_mul_div_left _ _ hp,Nat.div_eq_of_lt hlt,Nat.zero_add,V_front,Nat.add_mul_mod_self_left,Nat.mod_eq_of_lt (h j (by omega))]
def upd (f:Nat→Nat) (k x:Nat):Nat→Nat:=fun j=>if j=k then x else f j
theorem zm (k x:Nat):upd f k x k=x:=by simp [upd]
theorem upd_ne {k j x:Nat} (h:j≠k):upd f k x j=f j:=by simp [upd,h]
theorem qS {k x:Nat} (h:k<o∨o+n≤k):V b (upd f k x) o n=V b f o n:=
 V_congr (fun j hj=>upd_ne (by omega))
end Go.Proofs.YtjbgnopnehgbaaaGreatDoor.Mx
namespace Go.Proofs.YtjbgnopnehgbaaaGreatDoor.Zd
open Go.RowKit
def Bw:Nat:=18446744073709551616
theorem qJ {k:IntKind} {a b:Int} (h:a=b):Value.int k a=Value.int k b:=by rw [h]
theorem tg:0<Bw:=by unfold Bw;omega
def At (k:IntKind) (w:World) (p:Option Addr) (n:Nat) (f:Nat→Nat):Prop:=
 n=0∨∃g off,p=some ⟨g,off,none⟩∧g<w.heap.size∧∀j,j<n→w.cell? ⟨g,off+j,none⟩=some (.int k (f j))
theorem At.pre {k:IntKind} {w:World} {p:Option Addr} {n m:Nat} {f:Nat→Nat} (h:At k w p n f) (hm:m≤n):At k w p m f:=by
 rcases h with h | ⟨g,off,rfl,hg,hc⟩
 ·exact .inl (by omega)
 ·exact .inr ⟨g,off,rfl,hg,fun j hj=>hc j (by omega)⟩
theorem At.grown {k:IntKind} {w w':World} {p:Option Addr} {n:Nat} {f:Nat→Nat} {row:Option Nat} (h:At k w p n f) (hb:w.grownBy w' row) (hB:∀a,p=some a→some a.block≠row):At k w' p n f:=by
 rcases h with h | ⟨g,off,rfl,hg,hc⟩
 ·exact .inl h
 ·exact .inr ⟨g,off,rfl,zn hg hb.size,fun j hj=>hb.cell (hc j hj) (show some g≠row from hB ⟨g,off,none⟩ rfl)⟩
def Blk (k:IntKind) (w:World) (g M:Nat) (f:Nat→Nat):Prop:=
 ∃fp T,w.heap[g]? = some (.cells fp T (0,0))∧fp.size=M∧∀j,j<M→fp[j]? = some (.int k (f j))
section
variable {k:IntKind} {w w':World} {g M:Nat} {f:Nat→Nat}
theorem Blk.lt (h:Blk k w g M f):g<w.heap.size:=by
 obtain⟨fp,T,hg,_⟩:=h
 exact(Array.getElem?_eq_some_iff.1 hg).1
theorem Blk.cell (h:Blk k w g M f) {j:Nat} (hj:j<M):w.cell? ⟨g,j,none⟩=some (.int k (f j)):=by
 obtain⟨fp,T,hg,_,hc⟩:=h
 rw [cell_of_row w g j fp T (0,0) hg];exact hc j hj
theorem Blk.free (h:Blk k w g M f) (j:Nat):w.frozen? ⟨g,j,none⟩=false:=by
 obtain⟨fp,T,hg,_,hc⟩:=h
 simp [World.frozen?,hg]
theorem Blk.set (h:Blk k w g M f) {j:Nat} (x:Nat):Blk k (w.setCell ⟨g,j,none⟩ (.int k x)) g M (Mx.upd f j x):=by
 obtain⟨fp,T,hg,hs,hc⟩:=h
 refine⟨fp.setIfInBounds j (.int k x),T,?_,by simpa using hs,fun i hi=>?_⟩
 ·simp only [World.setCell,Array.getElem?_modify,hg,if_true,Option.map_some];rfl
 ·rw [Array.getElem?_setIfInBounds]
  by_cases e:j=i
  ·subst e;simp [Mx.upd,hs,hi]
  ·rw [if_neg e,hc i hi];simp [Mx.upd,Ne.symm e]
theorem Blk.kept {row:Option Nat} (h:Blk k w g M f) (hg:w.grownBy w' row) (bl:some g≠row):Blk k w' g M f:=by
 obtain⟨fp,T,hh,r⟩:=h
 exact⟨fp,T,by rw [hg.block g (Array.getElem?_eq_some_iff.1 hh).1 bl];exact hh,r⟩
theorem Blk.at0 (h:Blk k w g M f):At k w (some ⟨g,0,none⟩) M f:=
 .inr ⟨g,0,rfl,h.lt,fun j hj=>by rw [Nat.zero_add];exact h.cell hj⟩
end
section
variable {w a b c:World} {row:Option Nat}
theorem ad (w:World) (row:Option Nat):w.grownBy w row:=⟨rfl,rfl,rfl,Nat.le_refl _,fun _ _ _=>rfl⟩
theorem aa (h:a.grownBy b row) (k:b.grownBy c row):a.grownBy c row:=
 ⟨k.os.trans h.os,k.tape.trans h.tape,k.output.trans h.output,Nat.le_trans h.size k.size,fun i hi hr=>(k.block i (zn hi h.size) hr).trans (h.block i hi hr)⟩
theorem aF (h:a.grownBy b row):a.grownBy b.drew row:=⟨h.os,h.tape,h.output,h.size,h.block⟩
theorem ap (h:a.grownBy b row) (n:Nat):a.grownBy (b.drewN n) row:=⟨h.os,h.tape,h.output,h.size,h.block⟩
theorem ae (h:a.grownBy b row) (o:Obj):a.grownBy (b.alloc o) row:=aa h (World.grownBy_alloc b o row)
theorem gbx {a b:World} {row:Option Nat} (h:a.grownBy b row:=by repeat (first | with_reducible exact ad _ _ | with_reducible refine aF ?_ | with_reducible refine ae ?_ _)):a.grownBy b row:=h
theorem gby {a b:World} {row:Option Nat} (h:a.grownBy b row:=by repeat (first | with_reducible exact ad _ _ | with_reducible refine aF ?_ | with_reducible refine ap ?_ _ | with_reducible refine ae ?_ _)):a.grownBy b row:=h
theorem nX {g j:Nat} (h:a.grownBy b (some g)) (u:Value):a.grownBy (b.setCell ⟨g,j,none⟩ u) (some g):=
 aa h ⟨rfl,rfl,rfl,by simp [World.setCell],fun i _ hr=>Below.heap_setCell _ _ _ _ (by intro e;apply hr;rw [e])⟩
theorem df (h:a.grownBy b none):Below a.heap.size a b:=⟨h.os,h.tape,h.output,h.size,fun k hk=>h.block k hk (by simp)⟩
theorem FZ (hb:a.grownBy b none):(∀k o,k<a.heap.size→b.cell? ⟨k,o,none⟩=a.cell? ⟨k,o,none⟩)∧(∀k o,k<a.heap.size→b.frozen? ⟨k,o,none⟩=a.frozen? ⟨k,o,none⟩):=
 ⟨fun k o h=>(df hb).cell (p:=⟨k,o,none⟩) h,fun k o h=>(df hb).frozen (p:=⟨k,o,none⟩) h⟩
theorem bz (h:Below a.heap.size a b):a.grownBy b row:=⟨h.os,h.tape,h.output,h.size,fun k hk _=>h.block k hk⟩
theorem D3 {g:Nat} (h:Below a.heap.size a b) (hg:a.heap.size≤g) (k:b.grownBy c (some g)):Below a.heap.size a c:=
 ⟨k.os.trans h.os,k.tape.trans h.tape,k.output.trans h.output,Nat.le_trans h.size k.size,fun i hi=>(k.block i (zn hi h.size) (by simp;omega)).trans (h.block i hi)⟩
end
section
variable {P:Program} {f:FuncId} {args:Array Value} {w:World} {a n:Nat} {v:Value}
theorem q1 (c:∀W:World,Calls P f args W fun e w'=>e=.returned v∧W=w'):Calls P f args (w.drewN n) fun e w''=>e=.returned v∧∃m,w''=w.drewN m:=
 (c _).mono fun _ _ ⟨he,hm⟩=>⟨he,n,hm.symm⟩
theorem q2 (c:∀W:World,Calls P f args W fun e w'=>e=.returned v∧W=w'):Calls P f args (w.drewN (a+n)) fun e w''=>e=.returned v∧∃m,w''=w.drewN (a+m):=
 (c _).mono fun _ _ ⟨he,hm⟩=>⟨he,n,hm.symm⟩
theorem q3 (c:∀W:World,Calls P f args W fun e w'=>e=.returned v∧∃m,w'=W.drewN m):Calls P f args (w.drewN n) fun e w''=>e=.returned v∧∃m,w''=w.drewN m:=
 (c _).mono fun _ _ ⟨he,m,hm⟩=>⟨he,n+m,by rw [hm,World.drewN_drewN]⟩
theorem q4 (c:∀W:World,Calls P f args W fun e w'=>e=.returned v∧∃m,w'=W.drewN m):Calls P f args (w.drewN (a+n)) fun e w''=>e=.returned v∧∃m,w''=w.drewN (a+m):=
 (c _).mono fun _ _ ⟨he,m,hm⟩=>⟨he,n+m,by rw [hm,World.drewN_drewN,Nat.add_assoc]⟩
end
theorem I3 (x y c:Nat) (hc:c≤1) (hx:x<Bw) (hy:y<Bw):∃s c':Nat,(∀w,(callFunc 62 #[.int .u64 x,.int .u64 y,.int .u64 c]).run Tryz.prog w=.ok (.value (.tuple #[.int .u64 s,.int .u64 c'])) w)∧s<Bw∧c'≤1∧s+c'*Bw=x+y+c:=by
 unfold Bw at *
 refine⟨(x+y+c) % 18446744073709551616,(x+y+c) / 18446744073709551616,fun w=>?_,?_,?_,?_⟩
 ·rw [run_callFunc_extern Tryz.func62 (by kernel_rfl) (by kernel_rfl) (by kernel_rfl) (e:=add64Entry) (by kernel_rfl),run_add64 x y c (by omega) (by omega) (by omega) (by omega)]
  simp only [Result.andThen]
  congr 5<;>omega
 ·omega
 ·omega
 ·omega
theorem Qp (x y:Nat) (hx:x<Bw) (hy:y<Bw):∃hi lo:Nat,(∀w,Calls Tryz.prog 61 #[.int .u64 x,.int .u64 y] w fun e w'=>e=.returned (.tuple #[.int .u64 hi,.int .u64 lo])∧w=w')∧hi<Bw∧lo<Bw∧hi*Bw+lo=x*y:=by
 refine⟨x*y / 18446744073709551616,x*y % 18446744073709551616,fun w=>(Tryz.bits_Mul64 x y hx hy w).mono (by rintro e w' ⟨h1,h2⟩;exact⟨h1,h2.symm⟩),?_,?_,?_⟩
 ·have:x*y<18446744073709551616*18446744073709551616:=Nat.mul_lt_mul'' hx hy
  unfold Bw;omega
 ·unfold Bw;omega
 ·unfold Bw;omega
end Go.Proofs.YtjbgnopnehgbaaaGreatDoor.Zd
set_option maxHeartbeats 1000000
set_option maxRecDepth 100000
namespace Go.Proofs.YtjbgnopnehgbaaaGreatDoor.Zd
open Go.RowKit Mx
def oW (hi lo y:Nat) (w:World) (e:Ending) (w':World):Prop:=
 ∃q r:Nat,e=.returned (.tuple #[.int .u64 q,.int .u64 r])∧q<Bw∧r<y∧q*y+r=hi*Bw+lo∧∃m,w'=w.drewN m
theorem Eo (lo y:Nat) (w:World) (hy:0<y) (hyB:y<Bw) (FY:lo<Bw):
  Calls Tryz.prog 129 #[.int .u64 0,.int .u64 lo,.int .u64 y] w (oW 0 lo y w):=by
 have h1:((y:Int) == 0)=false:=beq_eq_false_iff_ne.2 (by omega)
 have h2:(1:Int)≤y:=by omega
 have h3:(y:Int)≤18446744073709551615:=by unfold Bw at hyB;omega
 have h4:(lo:Int)≤18446744073709551615:=by unfold Bw at FY;omega
 have h5:(0:Int)≤lo:=by omega
 go_enter Tryz.func129,Tryz.ntmps129
 go_wp2
 go_region
 all_goals go_wp2
 all_goals exact bodyPost_ret (v:=.tuple #[.int .u64 (IntKind.u64.wrap (↑lo / ↑y)),.int .u64 (↑lo % ↑y)]) (by simp [results,Tryz.results129,go_sem]) rfl (by
  have e1:IntKind.u64.wrap ((lo:Int) / (y:Int))=((lo / y:Nat):Int):=by
   rw [IntKind.wrap_u64,←Int.natCast_ediv]
   have:lo / y≤lo:=Nat.div_le_self _ _
   unfold Bw at FY
   generalize lo / y=q at *
   omega
  refine⟨lo / y,lo % y,?_,Nat.lt_of_le_of_lt (Nat.div_le_self _ _) FY,Nat.mod_lt _ hy,?_,1,rfl⟩
  ·rw [e1,←Int.natCast_emod]
  ·rw [Nat.zero_mul,Nat.zero_add,Nat.mul_comm];exact Nat.div_add_mod lo y)
theorem IG (hi lo y s:Nat) (hs:s≤63) (hy:hi<y) (FY:lo<Bw) (hY1:y*2 ^ s<18446744073709551616) (hY2:9223372036854775808≤y*2 ^ s):
  ∃Y dM lE U L OZ Gp:Nat,IntKind.u64.wrap ((y:Int)*2 ^ s)=(Y:Int)∧(Y:Int) / 4294967296=(dM:Int)∧bits .and .u64 (Y:Int) 4294967295=(lE:Int)∧
   bits .or .u64 (IntKind.u64.wrap ((hi:Int)*2 ^ s)) ((lo:Int) / 2 ^ (64 - s))=(U:Int)∧IntKind.u64.wrap ((lo:Int)*2 ^ s)=(L:Int)∧(L:Int) / 4294967296=(OZ:Int)∧bits .and .u64 (L:Int) 4294967295=(Gp:Int)∧
   kU U OZ Y dM lE∧Gp<4294967296∧Y=y*2 ^ s∧(hi*Bw+lo)*2 ^ s=(U*4294967296+OZ)*4294967296+Gp∧Y<18446744073709551616∧U<18446744073709551616:=by
 unfold Bw at *
 have hp:0<2 ^ s:=Nat.pow_pos (by omega)
 have ee:0<2 ^ (64 - s):=Nat.pow_pos (by omega)
 have Fi:2 ^ s*2 ^ (64 - s)=18446744073709551616:=by rw [←Nat.pow_add,show s+(64 - s)=64 from by omega]
 have h1:(hi+1)*2 ^ s≤y*2 ^ s:=Nat.mul_le_mul_right _ hy
 have aeZ:lo / 2 ^ (64 - s)<2 ^ s:=by rw [Nat.div_lt_iff_lt_mul ee,Fi];exact FY
 have hU:hi*2 ^ s+lo / 2 ^ (64 - s)<y*2 ^ s:=by rw [Nat.add_mul] at h1;omega
 have hor:hi*2 ^ s ||| lo / 2 ^ (64 - s)=hi*2 ^ s+lo / 2 ^ (64 - s):=by
  rw [Nat.mul_comm];exact(Nat.two_pow_add_eq_or_of_lt aeZ hi).symm
 have hL:lo*2 ^ s=lo / 2 ^ (64 - s)*18446744073709551616+lo % 2 ^ (64 - s)*2 ^ s:=by
  have:=Nat.div_add_mod lo (2 ^ (64 - s))
  generalize lo / 2 ^ (64 - s)=a at *
  generalize lo % 2 ^ (64 - s)=b at *
  rw [←this,←Fi];grind
 have hb:lo % 2 ^ (64 - s)*2 ^ s<18446744073709551616:=by
  rw [←Fi,Nat.mul_comm (2 ^ s)]
  exact Nat.mul_lt_mul_of_pos_right (Nat.mod_lt _ ee) hp
 have hLm:lo*2 ^ s % 18446744073709551616=lo % 2 ^ (64 - s)*2 ^ s:=by omega
 refine⟨y*2 ^ s,y*2 ^ s / 4294967296,y*2 ^ s % 4294967296,hi*2 ^ s+lo / 2 ^ (64 - s),lo*2 ^ s % 18446744073709551616,lo*2 ^ s % 18446744073709551616 / 4294967296,lo*2 ^ s % 18446744073709551616 % 4294967296,
  ?_,by omega,Mul64.maskN _ hY1,?_,?_,by omega,Mul64.maskN _ (by omega),⟨by omega,by omega,by omega,by omega,hU,by omega⟩,by omega,rfl,?_,hY1,by omega⟩
 ·have e:((y:Int)*2 ^ s)=((y*2 ^ s:Nat):Int):=by simp
  rw [e];exact Mul64.wrapN _ hY1
 ·have e:((hi:Int)*2 ^ s)=((hi*2 ^ s:Nat):Int):=by simp
  have e2:((lo:Int) / 2 ^ (64 - s))=((lo / 2 ^ (64 - s):Nat):Int):=by simp
  rw [e,Mul64.wrapN _ (by omega),e2,bits_or_u64_nat _ _ (by omega) (by omega),hor]
 ·have e:((lo:Int)*2 ^ s)=((lo*2 ^ s:Nat):Int):=by simp
  rw [e];exact Mul64.wrapM _
 ·have e:(hi*18446744073709551616+lo)*2 ^ s=hi*2 ^ s*18446744073709551616+lo*2 ^ s:=by grind
  rw [e];omega
theorem ad1 (y:Nat) (h0:0<y) (h:y<Bw):∃s:Nat,s≤63∧(∀w,Calls Tryz.prog 148 #[.int .u64 y] w fun e w'=>e=.returned (.int .i64 s)∧w=w')∧y*2 ^ s<18446744073709551616∧9223372036854775808≤y*2 ^ s:=by
 obtain⟨s,h1,h2,h3,h4⟩:=LV y h0 h
 refine⟨s,h1,fun w=>(Tryz.bits_LeadingZeros64 (y:Int) w (by omega) (by unfold Bw at h;omega)).mono ?_,h3,h4⟩
 rintro e w' ⟨rfl,rfl⟩
 refine⟨?_,rfl⟩
 have:(64 - (Go.Lib.bitLen (y:Int).toNat:Int))=(s:Int):=by rw [Int.toNat_natCast];omega
 rw [this]
theorem j0 {k:IntKind} {a b:Int} (h:a=b):Value.int k a=Value.int k b:=by rw [h]
theorem half_start {u d Y dM lE:Nat} (h:kU u d Y dM lE) (hu:u<18446744073709551616):∃q r:Nat,IntKind.u64.wrap ((u:Int) / (dM:Int))=(q:Int)∧IntKind.u64.wrap ((u:Int) - IntKind.u64.wrap ((q:Int)*(dM:Int)))=(r:Int)∧q*dM+r=u∧(u*4294967296+d) / Y≤q∧q≤4294967297∧r<4294967296:=by
 obtain⟨a,b,c,e,f⟩:=h.start
 refine⟨u / dM,u % dM,?_,?_,a,b,c,e⟩
 ·rw [Mul64.wrapN _ hu |> fun _=>IntKind.wrap_u64,←Int.natCast_ediv]
  generalize u / dM=q at *
  omega
 ·rw [←Int.natCast_mul]
  generalize u / dM*dM=P at *
  generalize u % dM=R at *
  rw [IntKind.wrap_u64,IntKind.wrap_u64]
  omega
theorem wM {u d Y dM lE:Nat} (h:kU u d Y dM lE) (hY:Y<18446744073709551616) (hu:u<18446744073709551616):∃q r:Nat,q=(u*4294967296+d) / Y∧q<4294967296∧q*Y+r=u*4294967296+d∧r<Y∧
  IntKind.u64.wrap (IntKind.u64.wrap (IntKind.u64.wrap ((u:Int)*4294967296)+(d:Int)) - IntKind.u64.wrap ((q:Int)*(Y:Int)))=(r:Int):=by
 obtain⟨a,b⟩:=h.rest
 have:=h.lt
 refine⟨_,_,rfl,this,b,a,?_⟩
 rw [←Int.natCast_mul]
 generalize (u*4294967296+d) / Y*Y=P at *
 generalize (u*4294967296+d) % Y=R at *
 simp only [IntKind.wrap_u64]
 omega
theorem QH {hi lo y s Y U OZ Gp Q1 R1 Q2 R2:Nat} (w:World) (hY:Y=y*2 ^ s) (hN:(hi*Bw+lo)*2 ^ s=(U*4294967296+OZ)*4294967296+Gp) (h1:Q1*Y+R1=U*4294967296+OZ) (h2:Q2*Y+R2=R1*4294967296+Gp)
  (TV:Q1<4294967296) (hq2:Q2<4294967296) (hr:R2<Y):
  oW hi lo y w (.returned (.tuple #[.int .u64 ((Q1:Int)*4294967296+(Q2:Int)),.int .u64 ((R2:Int) / 2 ^ s)])) w:=by
 have hp:0<2 ^ s:=Nat.pow_pos (by omega)
 have e:(hi*Bw+lo)*2 ^ s=(Q1*4294967296+Q2)*y*2 ^ s+R2:=by
  rw [hN,←h1]
  have:(Q1*Y+R1)*4294967296+Gp=Q1*4294967296*Y+(R1*4294967296+Gp):=by grind
  rw [this,←h2,hY];grind
 unfold oW
 generalize hi*Bw+lo=N at *
 have hq:(Q1*4294967296+Q2)*y≤N:=Nat.le_of_mul_le_mul_right (by rw [e];omega) hp
 have e2:(N - (Q1*4294967296+Q2)*y)*2 ^ s=R2:=by rw [Nat.sub_mul,e];omega
 have e3:R2 / 2 ^ s=N - (Q1*4294967296+Q2)*y:=by rw [←e2];exact Nat.mul_div_cancel _ hp
 have hlt:R2 / 2 ^ s<y:=by rw [Nat.div_lt_iff_lt_mul hp,←hY];exact hr
 refine⟨Q1*4294967296+Q2,R2 / 2 ^ s,?_,by unfold Bw;omega,hlt,by rw [e3];omega,0,rfl⟩
 simp
theorem IK (hi lo y:Nat) (w:World) (hh:0<hi) (hy:hi<y) (hyB:y<Bw) (FY:lo<Bw):
  Calls Tryz.prog 129 #[.int .u64 hi,.int .u64 lo,.int .u64 y] w (oW hi lo y w):=by
 have h1:((y:Int) == 0)=false:=beq_eq_false_iff_ne.2 (by omega)
 have h2:(1:Int)≤y:=by omega
 have h3:(y:Int)≤18446744073709551615:=by unfold Bw at hyB;omega
 have h4:(lo:Int)≤18446744073709551615:=by unfold Bw at FY;omega
 have h5:(0:Int)≤lo:=by omega
 have h6:((hi:Int) == 0)=false:=beq_eq_false_iff_ne.2 (by omega)
 have h7:(hi:Int)<y:=by omega
 obtain⟨s,agb,HL,hY1,hY2⟩:=ad1 y (by omega) hyB
 have HL:=zh HL
 go_enter Tryz.func129,Tryz.ntmps129
 obtain⟨Y,dM,lE,U,L,OZ,Gp,hEY,hE1,hE0,hEU,hEL,hL1,hL0,OI,hu0,hYy,hN,hYb,hUb⟩:=IG hi lo y s agb hy FY hY1 hY2
 have HEY:=zh hEY;have HE1:=zh hE1;have kD:=zh hE0;have HEU:=zh hEU;have HEL:=zh hEL;have HL1:=zh hL1;have HL0:=zh hL0
 have HYy:=zh hYy;have HN:=zh hN
 clear hEY hE1 hE0 hEU hEL hL1 hL0 hYy hN
 go_upto_region 15 with (go_at_call 148;refine(HL.out _).mono ?_;rintro e w' ⟨rfl,rfl⟩)
 simp only [HEY.out,HE1.out,kD.out,HEU.out,HEL.out,HL1.out,HL0.out]
 clear HL
 have hyn:=OI.h1
 have g1:(1:Int)≤dM:=by omega
 have g2:((dM:Int) == 0)=false:=beq_eq_false_iff_ne.2 (by omega)
 obtain⟨q0,r0,b1,b2,a1,a2,A3,A4⟩:=half_start OI hUb
 have A1:=zh a1;have XE:=zh OI
 have TZ:=OI.h2
 obtain⟨Q1,R1,hQ1,adx,Yn,afA,aef⟩:=wM OI hYb hUb
 have vK:=zh hQ1;have Gv:=zh Yn
 rw [←hQ1] at a2
 have hH2:kU R1 Gp Y dM lE:=⟨OI.hY,OI.h0,OI.h1,OI.h2,afA,hu0⟩
 have A2:=zh a2
 clear a1 a2 OI hQ1 Yn
 go_upto_block 0 with fail
 clear b1 b2
 go_cut [15] (fun v wx=>v=.int .u64 (Q1:Nat)∧wx=w)
 case first=>
  go_wp2_with fail
  go_loop [15,16] (fun q r=>∃qn rn:Nat,q=.int .u64 qn∧r=.int .u64 rn∧Hid (qn*dM+rn=U)∧Hid (Q1≤qn)∧qn≤4294967297∧rn<4294967296) (fun q _=>(intOf q).toNat)
  case atStart=>exact⟨q0,r0,rfl,rfl,A1.out,A2.out,A3,A4⟩
  case round=>
   obtain⟨qn,rn,rfl,rfl,E1,E2,hq3,hr3⟩:=hrel
   by_cases t1:4294967296≤qn
   ·have t1':(4294967296:Int)≤qn:=by omega
    have hm:Q1<qn:=by rw [vK.out];exact XE.out.more E1.out (.inl t1)
    have HM:=zh hm
    have L3:Hid ((qn - 1)*dM+(rn+dM)=U):=by have:=E1.out;rw [Nat.sub_mul];show _=_;have:1*dM≤qn*dM:=Nat.mul_le_mul_right _ (by omega);omega
    have JX:Hid (Q1≤qn - 1):=by show _≤_;omega
    clear hm
    by_cases t2:4294967296≤rn+dM
    ·have Vz:(4294967296:Int)≤rn+dM:=by omega
     have bF:qn - 1=Q1:=by rw [vK.out];exact XE.out.brk L3.out (by rw [←vK.out];exact JX.out) t2 (by omega)
     have ec:=zh bF
     clear bF
     go_wp2
     go_meet
     exact⟨j0 (by have:=ec.out;omega),rfl⟩
    ·have Vz:decide ((4294967296:Int)≤(rn:Int)+(dM:Int))=false:=decide_eq_false (by omega)
     have ns:=zh t2
     clear t2
     go_wp2
     go_round
     case rel=>exact⟨qn - 1,rn+dM,j0 (by omega),by go_num,L3,JX,by omega,by have:=ns.out;omega⟩
     case measure=>simp [intOf];omega
   ·have t1':decide ((4294967296:Int)≤(qn:Int))=false:=decide_eq_false (by omega)
    have HQ3:=zh hq3;have Y9:=zh hr3;have lI:=zh t1
    have fw:qn*lE≤4294967295*4294967295:=Nat.mul_le_mul (by omega) (by have:=XE.out.h0;omega)
    have dC:(qn:Int)*lE≤18446744065119617025:=by rw [←Int.natCast_mul];omega
    have ig:(0:Int)≤(qn:Int)*lE:=by rw [←Int.natCast_mul];omega
    have pN:=XE.out.hd
    by_cases t3:4294967296*rn+OZ<qn*lE
    ·have t3':(4294967296:Int)*rn+OZ<(qn:Int)*lE:=by rw [←Int.natCast_mul];omega
     have hm:Q1<qn:=by rw [vK.out];exact XE.out.more E1.out (.inr t3)
     have Jx:1≤qn:=by omega
     have L3:Hid ((qn - 1)*dM+(rn+dM)=U):=by have:=E1.out;rw [Nat.sub_mul];show _=_;have:1*dM≤qn*dM:=Nat.mul_le_mul_right _ (by omega);omega
     have JX:Hid (Q1≤qn - 1):=by show _≤_;omega
     clear hm fw t3
     by_cases t2:4294967296≤rn+dM
     ·have Vz:(4294967296:Int)≤rn+dM:=by omega
      have bF:qn - 1=Q1:=by rw [vK.out];exact XE.out.brk L3.out (by rw [←vK.out];exact JX.out) t2 (by omega)
      have ec:=zh bF
      clear bF
      go_wp2
      go_meet
      exact⟨j0 (by have:=ec.out;omega),rfl⟩
     ·have Vz:decide ((4294967296:Int)≤(rn:Int)+(dM:Int))=false:=decide_eq_false (by omega)
      have ns:=zh t2
      clear t2
      go_wp2
      go_round
      case rel=>exact⟨qn - 1,rn+dM,j0 (by omega),by go_num,L3,JX,by omega,by have:=ns.out;omega⟩
      case measure=>simp [intOf];omega
    ·have t3':(qn:Int)*lE≤(4294967296:Int)*rn+OZ:=by rw [←Int.natCast_mul];omega
     have bF:qn=Q1:=by rw [vK.out];exact XE.out.stop E1.out (by rw [←vK.out];exact E2.out) (by omega)
     have ec:=zh bF
     clear bF fw t3
     go_wp2
     go_meet
     exact⟨j0 (by have:=ec.out;omega),rfl⟩
 case rest=>
  obtain⟨rfl,hwc⟩:=hcut;obtain rfl:w=_:=hwc.symm
  obtain⟨q1,r1,b1,b2,a1,a2,C3,C4⟩:=half_start hH2 (by omega)
  obtain⟨Q2,R2,hQ2,adR,YU,afh,aiU⟩:=wM hH2 hYb (by omega)
  have C1:=zh a1;have XV:=zh hH2
  have TL:=zh hQ2;have IO:=zh YU
  rw [←hQ2] at a2
  have C2:=zh a2
  clear a1 a2 hH2 hQ2 YU
  go_upto_block 2 with fail
  clear b1 b2 aef
  go_cut [18] (fun v wx=>v=.int .u64 (Q2:Nat)∧wx=w)
  case first=>
   go_wp2_with fail
   go_loop [18,16] (fun q r=>∃qn rn:Nat,q=.int .u64 qn∧r=.int .u64 rn∧Hid (qn*dM+rn=R1)∧Hid (Q2≤qn)∧qn≤4294967297∧rn<4294967296) (fun q _=>(intOf q).toNat)
   case atStart=>exact⟨q1,r1,rfl,rfl,C1.out,C2.out,C3,C4⟩
   case round=>
    obtain⟨qn,rn,rfl,rfl,E1,E2,hq3,hr3⟩:=hrel
    by_cases t1:4294967296≤qn
    ·have t1':(4294967296:Int)≤qn:=by omega
     have hm:Q2<qn:=by rw [TL.out];exact XV.out.more E1.out (.inl t1)
     have HM:=zh hm
     have L3:Hid ((qn - 1)*dM+(rn+dM)=R1):=by have:=E1.out;rw [Nat.sub_mul];show _=_;have:1*dM≤qn*dM:=Nat.mul_le_mul_right _ (by omega);omega
     have JX:Hid (Q2≤qn - 1):=by show _≤_;omega
     clear hm
     by_cases t2:4294967296≤rn+dM
     ·have Vz:(4294967296:Int)≤rn+dM:=by omega
      have bF:qn - 1=Q2:=by rw [TL.out];exact XV.out.brk L3.out (by rw [←TL.out];exact JX.out) t2 (by omega)
      have ec:=zh bF
      clear bF
      go_wp2
      go_meet
      exact⟨j0 (by have:=ec.out;omega),rfl⟩
     ·have Vz:decide ((4294967296:Int)≤(rn:Int)+(dM:Int))=false:=decide_eq_false (by omega)
      have ns:=zh t2
      clear t2
      go_wp2
      go_round
      case rel=>exact⟨qn - 1,rn+dM,j0 (by omega),by go_num,L3,JX,by omega,by have:=ns.out;omega⟩
      case measure=>simp [intOf];omega
    ·have t1':decide ((4294967296:Int)≤(qn:Int))=false:=decide_eq_false (by omega)
     have HQ3:=zh hq3;have Y9:=zh hr3;have lI:=zh t1
     have fw:qn*lE≤4294967295*4294967295:=Nat.mul_le_mul (by omega) (by have:=XV.out.h0;omega)
     have dC:(qn:Int)*lE≤18446744065119617025:=by rw [←Int.natCast_mul];omega
     have ig:(0:Int)≤(qn:Int)*lE:=by rw [←Int.natCast_mul];omega
     have pN:=XV.out.hd
     by_cases t3:4294967296*rn+Gp<qn*lE
     ·have t3':(4294967296:Int)*rn+Gp<(qn:Int)*lE:=by rw [←Int.natCast_mul];omega
      have hm:Q2<qn:=by rw [TL.out];exact XV.out.more E1.out (.inr t3)
      have Jx:1≤qn:=by omega
      have L3:Hid ((qn - 1)*dM+(rn+dM)=R1):=by have:=E1.out;rw [Nat.sub_mul];show _=_;have:1*dM≤qn*dM:=Nat.mul_le_mul_right _ (by omega);omega
      have JX:Hid (Q2≤qn - 1):=by show _≤_;omega
      clear hm fw t3
      by_cases t2:4294967296≤rn+dM
      ·have Vz:(4294967296:Int)≤rn+dM:=by omega
       have bF:qn - 1=Q2:=by rw [TL.out];exact XV.out.brk L3.out (by rw [←TL.out];exact JX.out) t2 (by omega)
       have ec:=zh bF
       clear bF
       go_wp2
       go_meet
       exact⟨j0 (by have:=ec.out;omega),rfl⟩
      ·have Vz:decide ((4294967296:Int)≤(rn:Int)+(dM:Int))=false:=decide_eq_false (by omega)
       have ns:=zh t2
       clear t2
       go_wp2
       go_round
       case rel=>exact⟨qn - 1,rn+dM,j0 (by omega),by go_num,L3,JX,by omega,by have:=ns.out;omega⟩
       case measure=>simp [intOf];omega
     ·have t3':(qn:Int)*lE≤(4294967296:Int)*rn+Gp:=by rw [←Int.natCast_mul];omega
      have bF:qn=Q2:=by rw [TL.out];exact XV.out.stop E1.out (by rw [←TL.out];exact E2.out) (by omega)
      have ec:=zh bF
      clear bF fw t3
      go_wp2
      go_meet
      exact⟨j0 (by have:=ec.out;omega),rfl⟩
  case rest=>
   obtain⟨rfl,hwc⟩:=hcut;obtain rfl:w=_:=hwc.symm
   have bF:=QH w HYy.out HN.out Gv.out IO.out adx adR afh
   have ec:=zh bF
   clear bF
   go_wp2
   go_ret2
   exact ec.out
theorem PS (hi lo y:Nat) (w:World) (hy:hi<y) (hyB:y<Bw) (FY:lo<Bw):
  Calls Tryz.prog 129 #[.int .u64 hi,.int .u64 lo,.int .u64 y] w (oW hi lo y w):=by
 by_cases h:hi=0
 ·subst h;exact Eo lo y w hy hyB FY
 ·exact IK hi lo y w (by omega) hy hyB FY
end Go.Proofs.YtjbgnopnehgbaaaGreatDoor.Zd
namespace Go.Proofs.YtjbgnopnehgbaaaGreatDoor
open Go.RowKit
section
open Go.ChangeShapes Go.WideShapes Go.Deep
variable {H:Type} {enc:TypeId×Value→H} {P:Program} {w:World} {base:Nat} {spare:Nat→Bool} {held:Bool}
theorem Ig {t e:TypeId} {s fuel:Nat} {v:Option Addr} {n c:Nat} {x:DataW H×List MemPlace} (ht:P.underlying t=some (.slice e)) (ce:P.cellsOf e=s) (hs:0<s)
  (h:DataW.trod enc P w base spare held fuel t [.slice v n c]=some x):n≤c∧c≤maxLen∧∃q:Nat→List Value,(∀j,j<n→(q j).length=s∧∃f' x',DataW.trod enc P w base spare held f' e (q j)=some x')∧GAt s w v ((List.range n).map q):=by
 rcases open_slice ht h with ⟨h0,-⟩ | ⟨a,len,cap,m,nn,Dd,Pl,rp,hb,hl,hm,hmm,-,hx⟩
 ·simp at h0
  obtain⟨rfl,rfl,rfl⟩:=h0
  exact⟨Nat.le_refl _,by omega,fun _=>[],fun j hj=>by omega,.inl rfl⟩
 ·simp at rp
  obtain⟨rfl,rfl,rfl⟩:=rp
  have ET:n≤m:=by rw [hmm];split<;>omega
  have each:∀i,i<n→∃q:List Value,q.length=s∧(∃f' x',DataW.trod enc P w base spare held f' e q=some x')∧∀j,j<s→w.cell? (a.add (i*s+j))=q[j]? := by
   intro i hi
   obtain⟨cs',h1,h2⟩:=hx i (by omega)
   rw [ce] at h1
   obtain⟨_,bB,fD⟩:=World.cells?_some h1
   refine⟨cs',bB,⟨_,_,h2⟩,fun j hj=>?_⟩
   have:=fD j (by omega)
   rw [add_add] at this
   exact this
  refine⟨hl,hm,?_⟩
  obtain⟨q,hq⟩:=choose_lt each
  refine⟨q,fun j hj=>⟨(hq j hj).1,(hq j hj).2.1⟩,?_⟩
  by_cases h0:n=0
  ·subst h0;exact .inl rfl
  ·have Ot:=(hq 0 (by omega)).2.2 0 hs
   have Jx:∃u,(q 0)[0]? = some u:=⟨(q 0)[0]'(by rw [(hq 0 (by omega)).1];exact hs),List.getElem?_eq_getElem _⟩
   obtain⟨u,hu⟩:=Jx
   rw [hu] at Ot
   have EG:=World.cell?_spot Ot
   have hlt:=World.block_lt_of_cell? w _ Ot
   obtain⟨g,o,sp⟩:=a
   have EG:sp=none:=by simpa [Addr.add] using EG
   subst EG
   refine .inr ⟨g,o,rfl,by simpa [Addr.add] using hlt,fun j l hj i u hi=>?_⟩
   rw [List.getElem?_map] at hj
   obtain⟨j',hj',rfl⟩:=Option.map_eq_some_iff.1 hj
   have JE:j<n:=by have:=(List.getElem?_eq_some_iff.1 hj').1;simpa using this
   have:j'=j:=by rw [List.getElem?_range JE] at hj';exact(Option.some.inj hj').symm
   subst this
   have his:i<s:=by have:=(List.getElem?_eq_some_iff.1 hi).1;rw [(hq j' JE).1] at this;exact this
   have:=(hq j' JE).2.2 i his
   rw [Addr.add_lit,hi,←Nat.add_assoc] at this
   exact this
end
end Go.Proofs.YtjbgnopnehgbaaaGreatDoor
