/- Lemmas. -/
import Derived.Test.YtjbgnopnehgbaaaGreatDoorP11
set_option linter.unusedVariables false
set_option linter.unusedSimpArgs false
namespace Go.Proofs.YtjbgnopnehgbaaaGreatDoor
section
variable (T:List Tok) (et:St→RT)
def gR (a:RT):RT:=
 if isQ T [105,110,116] a.2=true∨isQ T [98,111,111,108] a.2=true then (a.1++[.nd 5 (ac T a.2).1],(ac T a.2).2)
 else (a.1,aB T 22 a.2)
def fY (b:RT):RT:=
 if isQ T [123] b.2=true then
  let f:=et (setIn true (ac T b.2).2)
  let m:=aj T [125] (setIn false f.2)
  (b.1++[.nd 6 ((ac T b.2).1++f.1++m.1)],m.2)
 else b
def bA (s:St):RT:=fY T et (gR T (aj T [58] s))
def eF (s:St):RT:=
 let k:=aA T 1 s
 let t:=bA T et k.2
 ([.nd 4 (k.1++t.1)],t.2)
def eI (s:St):RT:=bk T (eF T et) (aT T (eF T et s).2) 1 (eF T et s)
def bW (s:St):RT:=if isQ T [112,117,98] s=true then ac T s else ([],s)
def cK (p:RT):RT:=
 let u:=aj T [102,117,110] p.2
 let k:=aA T 1 u.2
 let o:=aj T [40] k.2
 (p.1++(u.1++k.1++o.1),o.2)
def du (o:RT):RT:=if o.2.e=0∧isQ T [41] o.2=false then (o.1++(eI T et o.2).1,(eI T et o.2).2) else o
def eL (r:RT):RT:=
 let c:=aj T [41] r.2
 let t:=bA T et c.2
 let q:=aj T [61] t.2
 let x:=et q.2
 let m:=aj T [59] x.2
 (r.1++(c.1++t.1++q.1)++x.1++m.1,m.2)
def gO (s:St):RT:=([.nd 3 (eL T et (du T et (cK T (bW T s)))).1],(eL T et (du T et (cK T (bW T s)))).2)
def eC (r:RT):RT:=
 let l:=ac T r.2
 let k:=aA T 1 l.2
 let m:=aj T [59] k.2
 (r.1++[.nd 2 (l.1++k.1++m.1)],m.2)
def dr (c:St→Bool) (step:RT→RT) (most:Nat):Nat→Nat→RT→Bool×RT
 | 0,_,r=>(true,r)
 | f+1,k,r=>if c r.2=true then (if k=most then (false,([],aB T 15 r.2)) else dr c step most f (k+1) (step r)) else (true,r)
def au (r:RT):Bool×RT:=dr T (isQ T [105,109,112,111,114,116]) (eC T) 16 (aT T r.2) 0 r
def fE (r:RT):RT:=(r.1++(gO T et r.2).1,(gO T et r.2).2)
def cj (r:RT):Bool×RT:=dr T (fF T) (fE T et) 64 (aT T r.2) 0 r
def aW (s:St):RT:=
 if (au T ([],s)).1=false then (au T ([],s)).2
 else if (cj T et (au T ([],s)).2).1=false then (cj T et (au T ([],s)).2).2
 else ((cj T et (au T ([],s)).2).2.1++(aA T 5 (cj T et (au T ([],s)).2).2.2).1,(aA T 5 (cj T et (au T ([],s)).2).2.2).2)
def de (s:St):RT:=
 let x:=et (setIn true s)
 let k:=aA T 5 x.2
 (x.1++k.1,k.2)
variable {ex:St→RQ} (h:∀s,ex s=im T (et s))
include h
omit h in
theorem XS (a:RT):XK T (im T a)=im T (gR T a):=by
 unfold XK gR;rw [fx];simp only [cT,eG,dz];simp only [im,aK,cB];rfl
theorem Vp (a:RT):VQ T ex (im T a)=im T (fY T et a):=by
 unfold VQ fY;simp only [fx,cT,eG,dz,h,jq];simp only [im,aK,cB];simp [nQ]
theorem Ev (s:St):yu T ex s=im T (bA T et s):=by
 unfold yu bA;rw [jq,XS,Vp T et h]
theorem TQ (s:St):MS T ex s=im T (eF T et s):=by
 unfold MS eF;simp only [kT,cT,Ev T et h,dz];simp only [im,aK,cB];simp [nQ]
theorem K6 (s:St):sC T ex s=im T (eI T et s):=by
 unfold sC eI;rw [TQ T et h,zq T (TQ T et h)];rfl
def ahead (a:List UInt8) (r:RQ):RQ:=(a++r.1,r.2)
omit h in
theorem Uk (s:St):Vy T s=ahead [32,40,51] (im T (bW T s)):=by
 unfold Vy bW;rw [fx,eG];split<;>simp [ahead,im,iQ]
omit h in
theorem Uo (a:RT):WI T (ahead [32,40,51] (im T a))=ahead [32,40,51] (im T (cK T a)):=by
 unfold WI cK
 show((ahead [32,40,51] (im T a)).1++_,_)=_
 simp only [ahead,cT,jq,kT,dz]
 simp only [im,aK];simp
theorem UX (a:RT):X2 T ex (ahead [32,40,51] (im T a))=ahead [32,40,51] (im T (du T et a)):=by
 unfold X2 du
 rw [fx]
 simp only [ahead,cT,K6 T et h,dz]
 split<;>simp [im,aK]
theorem Yd (a:RT):XY T ex (ahead [32,40,51] (im T a))=(([32,40,51]++(im T (eL T et a)).1++[41]),(eL T et a).2):=by
 unfold XY eL
 simp only [ahead,cT,jq,Ev T et h,h,dz]
 simp only [im,aK];simp
theorem ZI (s:St):Qv T ex s=im T (gO T et s):=by
 unfold Qv gO
 rw [Uk,Uo,UX T et h,Yd T et h]
 simp only [im,cB];rfl
omit h in
theorem GU (r:RT):yK T (ahead [40,49] (im T r))=ahead [40,49] (im T (eC T r)):=by
 unfold yK eC
 simp only [ahead,cT,eG,jq,kT,dz]
 simp only [im,aK,cB];simp [nQ]
theorem Jb (r:RT):yA T ex (ahead [40,49] (im T r))=ahead [40,49] (im T (fE T et r)):=by
 unfold yA fE
 simp only [ahead,cT,ZI T et h,dz]
 simp only [im,aK];simp
def yx (T:List Tok) (b:Bool×RT):Bool×RQ:=(b.1,if b.1=true then ahead [40,49] (im T b.2) else im T b.2)
omit h in
theorem C5 {c:St→Bool} {step:RQ→RQ} {stepT:RT→RT} {most:Nat} (hs:∀r,step (ahead [40,49] (im T r))=ahead [40,49] (im T (stepT r))):∀f k r,BS T c step most f k (ahead [40,49] (im T r))=yx T (dr T c stepT most f k r)
 | 0,k,r=>rfl
 | f+1,k,r=>by
   unfold BS dr
   have e:(ahead [40,49] (im T r)).2=r.2:=rfl
   rw [e]
   split
   ·split
    ·simp [yx,im,iQ]
    ·rw [hs,C5 hs f]
   ·rfl
omit h in
theorem Gu (s:St):jf T ([40,49],s)=yx T (au T ([],s)):=by
 have e:(([40,49],s):RQ)=ahead [40,49] (im T ([],s)):=by simp [ahead,im,iQ]
 unfold jf au
 rw [e,C5 T (GU T)];rfl
theorem Xu (r:RT):BT T ex (ahead [40,49] (im T r))=yx T (cj T et r):=by
 unfold BT cj
 rw [C5 T (Jb T et h)];rfl
omit h in
theorem gH {c:St→Bool} {stepT:RT→RT} {most:Nat}:∀f k r,(dr T c stepT most f k r).1=false→(dr T c stepT most f k r).2.2.e≠0
 | 0,k,r,hh=>by cases hh
 | f+1,k,r,hh=>by
   unfold dr at hh ⊢
   split at hh
   ·rename_i hc
    rw [if_pos hc]
    split at hh
    ·rename_i hk
     rw [if_pos hk]
     exact cC T (by decide) _
    ·rename_i hk
     rw [if_neg hk]
     exact gH f _ _ hh
   ·cases hh
theorem GM (s:St):(oA T ex s).2=(aW T et s).2∧((aW T et s).2.e=0→(oA T ex s).1=dmp T (.nd 1 (aW T et s).1)):=by
 have fw:=gH T (c:=isQ T [105,109,112,111,114,116]) (stepT:=eC T) (most:=16) (aT T s) 0 ([],s)
 have Vo:(au T ([],s)).1=false→(au T ([],s)).2.2.e≠0:=fw
 have hI:=Gu T s
 unfold oA aW
 rw [hI]
 generalize au T ([],s)=I at *
 obtain⟨i1,r⟩:=I
 cases i1
 ·refine⟨rfl,fun he=>absurd he (Vo rfl)⟩
 ·have dC:=gH T (c:=fF T) (stepT:=fE T et) (most:=64) (aT T r.2) 0 r
  have L8:(cj T et r).1=false→(cj T et r).2.2.e≠0:=dC
  have hD:=Xu T et h r
  have e:(yx T (true,r)).2=ahead [40,49] (im T r):=rfl
  have e1:(yx T (true,r)).1=true:=rfl
  rw [e,hD,e1]
  show(if true=false then _ else _:RQ).2=(if true=false then _ else _:RT).2∧_
  generalize cj T et r=J at *
  obtain⟨j1,z⟩:=J
  cases j1
  ·refine⟨by simp [yx,im],fun he=>absurd he (by simpa using L8 rfl)⟩
  ·have e2:(yx T (true,z)).2=ahead [40,49] (im T z):=rfl
   have e3:(yx T (true,z)).1=true:=rfl
   rw [e2,e3]
   simp only [Z9,ahead,cT,kT,dz]
   refine⟨by simp,fun _=>?_⟩
   simp only [dmp];simp [nQ,aK]
theorem FB (s:St):(zo T ex s).2=(de T et s).2∧(zo T ex s).1=dmp T (.nd 18 (de T et s).1):=by
 unfold zo de
 simp only [h,cT,kT,dz]
 refine⟨trivial,?_⟩
 simp only [dmp,aK];simp [nQ]
end
end Go.Proofs.YtjbgnopnehgbaaaGreatDoor
namespace Go.Proofs.YtjbgnopnehgbaaaGreatDoor
structure Good (T:List Tok) (s:St) (r:RT):Prop where
 stay:s.e≠0→r.2.e=s.e∧r.2.pos=s.pos∧r.2.i=s.i
 mono:s.i≤r.2.i
 place:s.e=0→r.2.e≠0→r.2.pos=(an T r.2).pos
 inr:tG T→s.i<T.length→r.2.i<T.length
theorem Good.nil (T:List Tok) (s:St):Good T s ([],s):=⟨fun _=>⟨rfl,rfl,rfl⟩,Nat.le_refl _,fun h e=>absurd h e,fun _ h=>h⟩
theorem Good.self (T:List Tok) (r:RT):Good T r.2 r:=⟨fun _=>⟨rfl,rfl,rfl⟩,Nat.le_refl _,fun h e=>absurd h e,fun _ h=>h⟩
theorem Good.app {T:List Tok} {s:St} {a b:RT} (h1:Good T s a) (h2:Good T a.2 b):Good T s (a.1++b.1,b.2):=by
 refine⟨fun e=>?_,Nat.le_trans h1.mono h2.mono,fun e eb=>?_,fun hE h=>h2.inr hE (h1.inr hE h)⟩
 ·obtain⟨a1,a2,a3⟩:=h1.stay e
  obtain⟨b1,b2,b3⟩:=h2.stay (by rw [a1];exact e)
  exact⟨b1.trans a1,b2.trans a2,b3.trans a3⟩
 ·by_cases ea:a.2.e=0
  ·exact h2.place ea eb
  ·obtain⟨b1,b2,b3⟩:=h2.stay ea
   have:=h1.place e ea
   show b.2.pos=(an T b.2).pos
   have e2:an T b.2=an T a.2:=by unfold an;rw [b3]
   rw [b2,e2];exact this
theorem Good.state {T:List Tok} {s:St} {a b:RT} (h1:Good T s a) (h2:Good T a.2 b) {l:List Tr}:Good T s (l,b.2):=
 ⟨(h1.app h2).stay,(h1.app h2).mono,(h1.app h2).place,(h1.app h2).inr⟩
theorem Good.node {T:List Tok} {s:St} {l:List Tr} {t:St} (k:Nat) (h:Good T s (l,t)):Good T s ([.nd k l],t):=⟨h.stay,h.mono,h.place,h.inr⟩
theorem Good.inn {T:List Tok} {s:St} {v:Bool} {r:RT} (h:Good T (setIn v s) r):Good T s r:=⟨h.stay,h.mono,h.place,h.inr⟩
theorem M7 {T:List Tok} {s:St} (h:jN T s=true):s.e=0:=by
 unfold jN at h;simp only [Bool.or_eq_true] at h;rcases h with (h | h) | h<;>exact(af h).2
theorem KH {T:List Tok} {s:St} (h:jT T s=true):s.e=0:=by
 unfold jT at h;simp only [Bool.or_eq_true] at h;rcases h with h | h<;>exact(af h).2
theorem Ck {T:List Tok} {s:St} (h:fs T s=true):s.e=0:=by
 unfold fs at h;simp only [Bool.or_eq_true] at h;rcases h with ((((h | h) | h) | h) | h) | h<;>exact(af h).2
section
variable (T:List Tok)
theorem ax {s:St} (h:s.e=0):Good T s (ac T s):=by
 have h1:(ac T s).2.e=0:=by show(aI T s).2.e=0;unfold aI;split<;>exact h
 refine⟨fun e=>absurd h e,?_,fun _ e=>absurd h1 e,fun hE hl=>?_⟩
 rotate_left
 ·show(aI T s).2.i<T.length
  have ht:T[s.i]? = some (an T s):=by unfold an;rw [List.getElem?_eq_getElem hl];rfl
  have:=hE _ _ ht
  unfold aI;split
  ·exact hl
  ·show s.i+1<T.length;omega
 show s.i≤(aI T s).2.i
 unfold aI;split
 ·exact Nat.le_refl _
 ·exact Nat.le_succ _
theorem gY (n:Nat) (s:St) (l:List Tr):Good T s (l,aB T n s):=by
 refine⟨fun e=>?_,?_,fun e _=>?_,fun _ hl=>by show(aB T n s).i<_;rw [jZ];exact hl⟩
 ·have h:aB T n s=s:=by unfold aB;rw [if_neg e]
  show(aB T n s).e=s.e∧(aB T n s).pos=s.pos∧(aB T n s).i=s.i
  rw [h];exact⟨rfl,rfl,rfl⟩
 ·show s.i≤(aB T n s).i;rw [jZ];exact Nat.le_refl _
 ·show(aB T n s).pos=(an T (aB T n s)).pos;unfold aB;rw [if_pos e];rfl
theorem aN (w:List UInt8) (s:St):Good T s (aj T w s):=by
 unfold aj
 split
 ·rename_i h;exact ax T (af h).2
 ·exact gY T 22 s []
theorem cY (k:Nat) (s:St):Good T s (aA T k s):=by
 unfold aA
 split
 ·rename_i h;exact ax T h.1
 ·exact gY T 22 s []
theorem dA {D n:Nat} {s:St} {r:RT} (h:Good T (aO T D n s) r):Good T s r:=by
 have h0:Good T s (([]:List Tr),aO T D n s):=by
  unfold aO;split
  ·exact gY T 23 s []
  ·exact Good.nil T s
 exact h0.app h
theorem eX {c:St→Bool} {sub:St→RT} (hc:∀s,c s=true→s.e=0) (hs:∀s,Good T s (sub s)) {s:St}:∀f r,Good T s r→Good T s (rwT T c sub f r)
 | 0,r,h=>h
 | f+1,r,h=>by
   unfold rwT
   split
   ·rename_i iA
    refine eX hc hs f _ (Good.node 10 ?_)
    exact(h.app (ax T (hc _ iA))).app (hs _)
   ·exact h
theorem er {sub:St→RT} (hs:∀s,Good T s (sub s)) {s:St}:∀f k r,Good T s r→Good T s (bk T sub f k r)
 | 0,k,r,h=>h
 | f+1,k,r,h=>by
   unfold bk
   split
   ·rename_i iA
    refine er hs f _ _ ?_
    refine(h.app (ax T (af iA).2)).app ?_
    split
    ·exact(gY T 15 _ []).app (hs _)
    ·exact hs _
   ·exact h
structure NxG (T:List Tok) (nt:NxT):Prop where
 expr:∀s,Good T s (nt.expr s)
 formula:∀s,Good T s (nt.formula s)
 nots:∀s,Good T s (nt.nots s)
 factor:∀s,Good T s (nt.factor s)
end
section
variable (T:List Tok) (D n:Nat) {nt:NxT} (h:NxG T nt)
include h
theorem I2 (s:St):Good T s (jn T nt s):=er T h.expr _ _ _ (h.expr s)
omit h in
theorem uh {s:St} {a:RT} (ha:Good T s a):Good T s (bO T a):=by
 unfold bO
 split
 ·rename_i hc;exact(ha.app (ax T (af hc).2)).app (cY T _ _)
 ·exact ha
omit h in
theorem sZ {s:St} {a:RT} (ha:Good T s a):Good T s (bN T a):=ha.app (aN T _ _)
theorem Ef {s:St} {a:RT} (ha:Good T s a):Good T s (bG T nt a):=by
 unfold bG
 split
 ·exact ha
 ·exact ha.app (I2 T h _)
omit h in
theorem n7 {s:St} {a:RT} (ha:Good T s a):Good T s (gF T a):=Good.node 13 (ha.app (aN T _ _))
theorem GV {s:St} (hk:s.e=0):Good T s (dq T nt s):=by
 unfold dq
 split
 ·exact Good.node 14 (ax T hk)
 ·exact n7 T (Ef T h (sZ T (uh T (ax T hk))))
theorem qH (s:St):Good T s (bC T nt s):=by
 unfold bC
 split
 ·exact Good.nil T s
 rename_i he
 have he:s.e=0:=by omega
 split
 ·exact Good.node 15 (ax T he)
 split
 ·exact Good.node 16 (ax T he)
 split
 ·exact Good.node 17 (ax T he)
 split
 ·exact Good.node 12 (((ax T he).app (h.expr _)).app (aN T _ _))
 split
 ·exact GV T h he
 ·exact gY T 22 s []
omit h in
theorem wn {sub:St→RT} (hs:∀s,Good T s (sub s)) {s:St} (hk:s.e=0):Good T s (fa T D n sub s):=by
 unfold fa
 simp only []
 split
 ·exact(ax T hk).state (dA T (Good.nil T _))
 ·exact Good.node 11 ((ax T hk).app (dA T (hs _)))
theorem fS (s:St):Good T s (aL T D n nt s):=by
 unfold aL
 split
 ·rename_i hk;exact wn T D n h.factor (af hk).2
 ·exact qH T h s
theorem kR (s:St):Good T s (cJ T D n nt s):=eX T (fun _ hc=>M7 hc) (fS T D n h) _ _ (fS T D n h s)
theorem uD (s:St):Good T s (cX T D n nt s):=eX T (fun _ hc=>KH hc) (kR T D n h) _ _ (kR T D n h s)
theorem kG (s:St):Good T s (dL T D n nt s):=by
 unfold dL
 simp only []
 split
 ·rename_i hk;exact wn T D n h.nots (af hk).2
 split
 ·rename_i hk;exact Good.node 10 (((uD T D n h s).app (ax T (Ck hk))).app (uD T D n h _))
 ·exact uD T D n h s
theorem uF (s:St):Good T s (me T D n nt s):=eX T (fun _ hc=>(af hc).2) (kG T D n h) _ _ (kG T D n h s)
theorem zc (s:St):Good T s (orT T D n nt s):=eX T (fun _ hc=>(af hc).2) (uF T D n h) _ _ (uF T D n h s)
theorem gw (s:St):Good T s (ay T D n nt s):=by
 unfold ay
 simp only []
 split
 ·rename_i hk
  split
  ·exact((zc T D n h s).app (ax T (af hk).2)).state (dA T (Good.nil T _))
  ·exact Good.node 10 (((zc T D n h s).app (ax T (af hk).2)).app (dA T (h.formula _)))
 ·exact zc T D n h s
theorem A7 {s:St} (hk:s.e=0):Good T s (nT T nt s):=
 Good.node 7 ((((((ax T hk).app (cY T _ _)).app (aN T _ _)).app (h.expr _)).app (aN T _ _)).app (h.expr _))
theorem EI {s:St} (hk:s.e=0):Good T s (ifT T nt s):=
 Good.node 8 ((((((ax T hk).app (h.expr _)).app (aN T _ _)).app (h.expr _)).app (aN T _ _)).app (h.expr _))
theorem rF {s:St} (hk:s.e=0):Good T s (ep T nt s):=
 Good.node 9 ((((ax T hk).app (h.expr _)).app (aN T _ _)).app (h.expr _))
theorem Gw (s:St):Good T s (cP T D n nt s):=by
 unfold cP
 simp only []
 split
 ·exact dA T (Good.nil T _)
 split
 ·rename_i hk;exact dA T (A7 T h (af hk.2).2)
 split
 ·rename_i hk;exact dA T (EI T h (af hk.2).2)
 split
 ·rename_i hk;exact dA T (rF T h (af hk.2).2)
 ·exact dA T (gw T D n h _)
end
theorem dF (T:List Tok) (D:Nat):∀d,NxG T (nxT T D d)
 | 0=>⟨fun s=>dA T (Good.nil T _),fun s=>Good.nil T s,fun s=>Good.nil T s,fun s=>Good.nil T s⟩
 | d+1=>⟨Gw T D _ (dF T D d),gw T D _ (dF T D d),kG T D _ (dF T D d),fS T D _ (dF T D d)⟩
section
variable (T:List Tok) {et:St→RT} (h:∀s,Good T s (et s))
include h
omit h in
theorem wV {s:St} {a:RT} (ha:Good T s a):Good T s (gR T a):=by
 unfold gR
 split
 ·rename_i hk;exact ha.app (Good.node 5 (ax T (by rcases hk with hk | hk<;>exact(af hk).2)))
 ·exact ha.state (gY T 22 _ [])
theorem GQ {s:St} {a:RT} (ha:Good T s a):Good T s (fY T et a):=by
 unfold fY
 split
 ·rename_i hk
  refine ha.app (Good.node 6 (((ax T (af hk).2).app ?_).app ?_))
  ·exact(h _).inn
  ·exact(aN T _ _).inn
 ·exact ha
theorem jz (s:St):Good T s (bA T et s):=GQ T h (wV T (aN T _ s))
theorem l0 (s:St):Good T s (eF T et s):=Good.node 4 ((cY T _ s).app (jz T h _))
theorem Bm (s:St):Good T s (eI T et s):=er T (l0 T h) _ _ _ (l0 T h s)
omit h in
theorem xA (s:St):Good T s (bW T s):=by
 unfold bW
 split
 ·rename_i hk;exact ax T (af hk).2
 ·exact Good.nil T s
omit h in
theorem qL {s:St} {a:RT} (ha:Good T s a):Good T s (cK T a):=ha.app (((aN T _ _).app (cY T _ _)).app (aN T _ _))
theorem qM {s:St} {a:RT} (ha:Good T s a):Good T s (du T et a):=by
 unfold du
 split
 ·exact ha.app (Bm T h _)
 ·exact ha
theorem mX {s:St} {a:RT} (ha:Good T s a):Good T s (eL T et a):=
 ((ha.app (((aN T _ _).app (jz T h _)).app (aN T _ _))).app (h _)).app (aN T _ _)
theorem lR (s:St):Good T s (gO T et s):=Good.node 3 (mX T h (qM T h (qL T (xA T s))))
omit h in
theorem oy {s:St} {r:RT} (hr:Good T s r) (hc:isQ T [105,109,112,111,114,116] r.2=true):Good T s (eC T r):=
 hr.app (Good.node 2 (((ax T (af hc).2).app (cY T _ _)).app (aN T _ _)))
omit h in
theorem i8 {c:St→Bool} {step:RT→RT} {most:Nat} {s:St} (hs:∀r,c r.2=true→Good T s r→Good T s (step r)):∀f k r,Good T s r→Good T s (dr T c step most f k r).2
 | 0,k,r,hr=>hr
 | f+1,k,r,hr=>by
   unfold dr
   split
   ·rename_i hc
    split
    ·exact hr.state (gY T 15 _ [])
    ·exact i8 hs f _ _ (hs r hc hr)
   ·exact hr
end
end Go.Proofs.YtjbgnopnehgbaaaGreatDoor
set_option maxHeartbeats 2000000
namespace Go.Proofs.YtjbgnopnehgbaaaGreatDoor.Zd
open Go.RowKit Mx
def minus (l:List UInt8):Bool:=Lib.hasPrefix l [45]
def digs (l:List UInt8):List UInt8:=Lib.trimPrefix l [45]
def valL (l:List UInt8):Nat:=l.foldl (fun a b=>10*a+(b.toNat - 48)) 0
def parseE (l:List UInt8):Int:=if 60<(digs l).length then 11 else if plain (digs l)=false∨(minus l=true∧digs l = [48]) then 10 else 0
def parseV (l:List UInt8):Int:=if parseE l=0 then sgn (minus l) (valL (digs l)) else 0
def ParsePost (l:List UInt8) (w:World) (e:Ending) (w':World):Prop:=∃x,e=.returned (.tuple #[x,.int .i64 (parseE l)])∧IsInt w' x (parseV l)∧w.grownBy w' none∧∀s p n c,x=.agg #[.bool s,.slice p n c]→0<n→∃a,p=some a∧w.heap.size≤a.block
theorem qc {l:List UInt8} (h:plain l=true) (j:Nat) (hj:j<l.length):48≤l[j].toNat∧l[j].toNat≤57:=by
 unfold plain at h
 rw [Bool.and_eq_true,List.all_eq_true] at h
 exact of_decide_eq_true (h.1 _ (List.getElem_mem hj))
theorem qu {l:List UInt8} {k:Nat} (hk:k<l.length):valL (l.take (k+1))=10*valL (l.take k)+(l[k].toNat - 48):=by
 rw [List.take_add_one,List.getElem?_eq_getElem hk]
 unfold valL
 rw [List.foldl_append];rfl
theorem aaf (s:ByteArray) (w:World):Calls Tryz.prog 29 #[.string s,.string ⟨#[45]⟩] w fun e w'=>e=.returned (.tuple #[.string ⟨(digs s.data.toList).toArray⟩,.bool (minus s.data.toList)])∧w'=w:=
 Tryz.strings_CutPrefix s ⟨#[45]⟩ w
theorem zero_int (w:World):IsInt w (.agg #[.bool false,.slice none 0 0]) 0:=
 ⟨false,_,0,rfl,⟨none,0,0,fun _=>0,rfl,Nat.le_refl _,by omega,.inl rfl,fun j h=>by omega,.inl rfl,rfl⟩,by simp,rfl⟩
theorem qi {l:List UInt8} {w:World} {E:Int} (hE:parseE l=E) (h:E≠0):ParsePost l w (.returned (.tuple #[.agg #[.bool false,.slice none 0 0],.int .i64 E])) (w.alloc (.cells #[.bool false,.slice none 0 0] 27)):=
 ⟨_,by rw [hE],by unfold parseV;rw [hE,if_neg h];exact zero_int _,ae (ad w none) _,fun s p n c h h0=>by simp at h;omega⟩
theorem int_some {w:World} {s:Bool} {p:Option Addr} {n c:Nat} {Z:Int} (h:IsInt w (.agg #[.bool s,.slice p n c]) Z) (hn:0<n):∃a,p=some a∧a.block<w.heap.size:=by
 obtain⟨s',v,N,he,⟨p',n',c',f,rfl,_,_,Hj,_⟩,_⟩:=h
 simp at he
 obtain⟨rfl,rfl,rfl,rfl⟩:=he
 rcases Hj with h | ⟨g,off,rfl,hg,_⟩
 ·omega
 ·exact⟨_,rfl,hg⟩
def E4 (p:Option Addr) (Z:Int) (w:World) (e:Ending) (w':World):Prop:=∃s3 p3 n3 c3,e=.returned (.agg #[.bool s3,.slice p3 n3 c3])∧IsInt w' (.agg #[.bool s3,.slice p3 n3 c3]) Z∧w.grownBy w' none∧(0<n3→p3=p)
theorem FM {b s:Bool} {p p':Option Addr} {m bH:Nat} {Z:Int} {w w':World} (h:yZ Z w (.returned (.agg #[.bool (s && b),.slice p' m bH])) w') (q7:0<m→p'=p):E4 p Z w (.returned (.agg #[.bool (s && b),.slice p' m bH])) w':=by
 obtain⟨x,e,h1,h2⟩:=h
 injection e with e
 subst e
 exact⟨_,_,_,_,rfl,h1,h2,q7⟩
theorem Br (s:Bool) (p:Option Addr) (n cap:Nat) (f:Nat→Nat) (w:World) (hn:n≤cap) (hc:cap≤maxLen) (h:At .u64 w p n f) (hf:∀j,j<n→f j<Bw):
  Calls Tryz.prog 32 #[.bool s,.slice p n cap] w (E4 p (sgn s (V Bw f 0 n)) w):=by
 have HT:=zh (fun w1 (hg:w.grownBy w1 none)=>zr p n cap f w1 hn hc (h.grown hg (by simp)))
 have HH:=zh h;have HF:=zh hf
 clear h hf
 cases s
 ·go_enter Tryz.func32,Tryz.ntmps32
  go_wp2_with (go_at_call 63;refine(HT.out _ ?_).mono ?_;(exact World.grownBy_alloc w _ none);rintro e w1 ⟨m,p',bH,rfl,q1,q2,q3,q4,q5,q6,q7,rfl⟩;have Q4:=zh q4;have Q5:=zh q5;have Q7:=zh q7;clear q4 q5 q6 q7)
  have bF:=FM (uK (s:=false) q1 q2 (Nat.le_trans q3 hc) HH.out HF.out Q4.out Q5.out Q7.out) Q7.out
  have ec:=zh bF
  clear bF
  exact bodyPost_ret (v:=.agg #[.bool (false && decide (0<m)),.slice p' m bH]) (by simp [results,Tryz.results32,go_sem]) rfl ec.out
 ·go_enter Tryz.func32,Tryz.ntmps32
  go_wp2_with (go_at_call 63;refine(HT.out _ ?_).mono ?_;(exact World.grownBy_alloc w _ none);rintro e w1 ⟨m,p',bH,rfl,q1,q2,q3,q4,q5,q6,q7,rfl⟩;have Q4:=zh q4;have Q5:=zh q5;have Q7:=zh q7;clear q4 q5 q6 q7)
  have bF:=FM (uK (s:=true) q1 q2 (Nat.le_trans q3 hc) HH.out HF.out Q4.out Q5.out Q7.out) Q7.out
  have ec:=zh bF
  clear bF
  exact bodyPost_ret (v:=.agg #[.bool (true && decide (0<m)),.slice p' m bH]) (by simp [results,Tryz.results32,go_sem]) rfl ec.out
def Vx (l:List UInt8) (w:World) (k:Nat) (v:Value) (wr:World):Prop:=
 ∃(mm:Nat) (f:Nat→Nat),mm≤k∧Own .u64 93 wr (w.heap.size+1) v mm f∧(∀j,j<mm→f j<Bw)∧V Bw f 0 mm=valL (l.take k)∧Below (w.heap.size+1) (w.alloc (.cells #[.bool false,.slice none 0 0] 27)) wr
theorem Parse_c (s:ByteArray) (w:World):Calls Tryz.prog 12 #[.string s] w (ParsePost s.data.toList w):=by
 obtain⟨d,hd⟩:∃d:ByteArray,d=⟨(digs s.data.toList).toArray⟩:=⟨_,rfl⟩
 have hdl:d.data.toList=digs s.data.toList:=by rw [hd]
 have Yr:d.size=(digs s.data.toList).length:=by rw [←hdl];exact(Array.length_toList).symm
 obtain⟨m,hm⟩:∃m,minus s.data.toList=m:=⟨_,rfl⟩
 obtain⟨n,hn⟩:∃n,(digs s.data.toList).length=n:=⟨_,rfl⟩
 rw [hn] at Yr
 have HD:=zh hdl;have HM:=zh hm;have OJ:=zh hn
 have hcut:∀w,Calls Tryz.prog 29 #[.string s,.string ⟨#[45]⟩] w fun e w'=>e=.returned (.tuple #[.string d,.bool m])∧w'=w:=by
  intro w;rw [hd,←hm];exact aaf s w
 have Kx:=zh hcut
 clear hcut hd hdl hm hn
 by_cases DZ:60<n
 ·have d1:decide ((60:Int)<n)=true:=zd (by omega)
  have hE:parseE s.data.toList=11:=by unfold parseE;rw [OJ.out,if_pos DZ]
  have HE:=zh hE
  clear hE
  go_enter Tryz.func12,Tryz.ntmps12
  go_wp2_with (go_at_call 29;refine(Kx.out _).mono ?_;rintro e w1 ⟨rfl,rfl⟩)
  exact bodyPost_ret (v:=.tuple #[.agg #[.bool false,.slice none 0 0],.int .i64 11]) (by simp [results,Tryz.results12,go_sem]) rfl (qi HE.out (by decide))
 ·have d1:decide ((60:Int)<n)=false:=decide_eq_false (by omega)
  obtain⟨pb,QF⟩:∃pb,plain (digs s.data.toList)=pb:=⟨_,rfl⟩
  have lM:=zh QF
  have SL:∀w,Calls Tryz.prog 30 #[.string d] w (fun e w'=>e=.returned (.bool pb)∧w'=w):=by
   intro w
   have:=PF d w (by rw [HD.out,OJ.out];omega)
   rwa [HD.out,QF] at this
  have Yk:=zh SL
  have hE:parseE s.data.toList=if pb=false∨(m=true∧digs s.data.toList = [48]) then 10 else 0:=by unfold parseE;rw [OJ.out,if_neg DZ,QF,HM.out]
  have HE:=zh hE
  clear hE SL QF
  cases pb
  ·have hE:parseE s.data.toList=10:=by rw [HE.out,if_pos (.inl rfl)]
   have HE:=zh hE
   clear hE
   go_enter Tryz.func12,Tryz.ntmps12
   go_wp2_with (first
    | (go_at_call 29;refine(Kx.out _).mono ?_;rintro e w1 ⟨rfl,rfl⟩)
    | (go_at_call 30;refine(Yk.out _).mono ?_;rintro e w1 ⟨rfl,rfl⟩))
   exact bodyPost_ret (v:=.tuple #[.agg #[.bool false,.slice none 0 0],.int .i64 10]) (by simp [results,Tryz.results12,go_sem]) rfl (qi HE.out (by decide))
  ·by_cases h0:m=true∧digs s.data.toList = [48]
   ·obtain⟨zR,h0⟩:=h0
    have hE:parseE s.data.toList=10:=by rw [HE.out,if_pos (.inr ⟨zR,h0⟩)]
    subst zR
    have C0:=zh hE
    have c1:(d.toList == [48])=true:=by rw [toList_data,HD.out,h0];rfl
    clear hE h0 HE
    go_enter Tryz.func12,Tryz.ntmps12
    go_wp2_with (first
     | (go_at_call 29;refine(Kx.out _).mono ?_;rintro e w1 ⟨rfl,rfl⟩)
     | (go_at_call 30;refine(Yk.out _).mono ?_;rintro e w1 ⟨rfl,rfl⟩))
    exact bodyPost_ret (v:=.tuple #[.agg #[.bool false,.slice none 0 0],.int .i64 10]) (by simp [results,Tryz.results12,go_sem]) rfl (qi C0.out (by decide))
   ·have hE:parseE s.data.toList=0:=by rw [HE.out,if_neg (by
     rintro(h | h);· cases h
     ·exact h0 h)]
    have C0:=zh hE
    have iE:plain (digs s.data.toList)=true:=lM.out
    have PJ:=qc iE
    have aam:=zh PJ
    have Ly:Vx (digs s.data.toList) w 0 (.slice none 0 0) (w.alloc (.cells #[.bool false,.slice none 0 0] 27)):=
     ⟨0,fun _=>0,Nat.le_refl _,⟨rfl,.inl ⟨rfl,rfl⟩⟩,fun j h=>by omega,by simp [V,valL],Below.refl _ _⟩
    have gM:=zh Ly
    clear hE HE iE PJ Ly
    cases m
    ·clear h0
     go_enter Tryz.func12,Tryz.ntmps12
     go_wp2_with (first
      | (go_at_call 29;refine(Kx.out _).mono ?_;rintro e w1 ⟨rfl,rfl⟩)
      | (go_at_call 30;refine(Yk.out _).mono ?_;rintro e w1 ⟨rfl,rfl⟩))
     go_loopw [6,30] (fun v i wr=>∃k:Nat,k≤n∧i=.int .i64 k∧Hid (Vx (digs s.data.toList) w k v wr)) (fun _ i _=>n - (intOf i).toNat)
     case atStart=>exact⟨0,by omega,rfl,gM⟩
     case round=>
      clear gM
      obtain⟨k,hk,rfl,HR⟩:=hrel
      by_cases hlt:k<n
      ·obtain⟨mm,f,h1,h2,h3,h4,h5⟩:=HR.out
       have jo:k<(digs s.data.toList).length:=by rw [OJ.out];exact hlt
       obtain⟨b,Qj⟩:∃b:Nat,((digs s.data.toList)[k]'jo).toNat=b:=⟨_,rfl⟩
       have hix:=yU d k b (by rw [HD.out];exact jo) (by rw [←Qj];simp only [HD.out])
       have hb:=aam.out k jo
       rw [Qj] at hb
       have hv:=qu jo
       rw [Qj,←h4] at hv
       have db:=h5.size
       have Yt:=zh (rB (w.heap.size+1) u6 mm 10 (b - 48) f wr h2 h3 (by unfold Bw;omega) (by unfold Bw;omega) (by omega) (by simpa using db))
       have HV:=zh hv;have HB:=zh h5
       have ZU:IntKind.u8.wrap ((b:Int) - 48)=((b - 48:Nat):Int):=by rw [IntKind.wrap_u8];omega
       clear h2 h3 h4 h5 hv Qj jo db
       go_wp2_with (go_at_call 31;refine Yt.out.mono ?_;rintro e w2 ⟨v',m',f',rfl,o1,o2,o3,o4,o5⟩;have O1:=zh o1;have O3:=zh o3;have O4:=zh o4;have O5:=zh o5;clear o1 o3 o4 o5)
       go_roundw
       case rel=>exact⟨k+1,by omega,by go_num,m',f',by omega,O1.out,O3.out,by rw [O4.out,HV.out],HB.out.trans O5.out⟩
       case measure=>simp [intOf];omega
      ·obtain rfl:k=n:=by omega
       obtain⟨mm,f,h1,h2,h3,h4,h5⟩:=HR.out
       obtain⟨p,cap,rfl,hmc,wk,RA⟩:∃p cap,u6=.slice p mm cap∧mm≤cap∧cap≤maxLen∧∀a,p=some a→w.heap.size+1≤a.block:=by
        rcases h2.shape with ⟨rfl,rfl⟩ | ⟨g,cap,rfl,VP,_,BC,wk⟩
        ·exact⟨_,_,rfl,by omega,by omega,fun a h=>by cases h⟩
        ·exact⟨_,_,rfl,BC,wk,fun a h=>by cases h;exact VP⟩
       rw [List.take_of_length_le (by rw [OJ.out];omega)] at h4
       have RE:=zh (Br false p mm cap f wr hmc wk h2.at.2 h3)
       have HV:=zh h4;have HB:=zh h5
       clear h2 h3 h4 h5 HR
       go_wp2_with (go_at_call 32;refine RE.out.mono ?_;rintro e w3 ⟨s3,p3,n3,c3,rfl,hx,hg,lr⟩;have HX:=zh hx;have ES:=zh lr;clear lr;have mc:=aa (bz (row:=none) (a:=w.alloc (.cells #[.bool false,.slice none 0 0] 27)) (by simpa using HB.out)) hg;have eg:=zh mc;obtain⟨adv,aeT⟩:=FZ mc;have hz3:w.heap.size<w3.heap.size:=(by have:=mc.size;simp at this;omega);clear hx hg mc)
       have hb:=aae w (.cells #[.bool false,.slice none 0 0] 27)
       obtain⟨x,e1,e2,e3⟩:=Fa hb eg.out HX.out (ae (ad w none) _) (Nat.le_refl _)
       injection e1 with e1;subst e1
       obtain⟨rc0,rc1⟩:=wG (s:=s3) (p:=p3) (n:=n3) (c:=c3) hb eg.out
       refine bodyPost_ret (v:=.tuple #[.agg #[.bool s3,.slice p3 n3 c3],.int .i64 0]) (by simp [results,Tryz.results12,go_sem,rc0,rc1]) rfl ⟨_,by rw [C0.out],?_,e3,?_⟩
       ·unfold parseV
        rw [if_pos C0.out,HM.out,←HV.out];exact e2
       ·intro s p' n c h h0
        simp at h
        obtain⟨rfl,rfl,rfl,rfl⟩:=h
        obtain⟨a,ha,_⟩:=int_some e2 h0
        refine⟨a,ha,?_⟩
        have:=RA a (by rw [←ES.out h0];exact ha)
        omega
    ·have c1:(d.toList == [48])=false:=by rw [toList_data,HD.out];exact beq_eq_false_iff_ne.2 (fun h=>h0 ⟨rfl,h⟩)
     clear h0
     go_enter Tryz.func12,Tryz.ntmps12
     go_wp2_with (first
      | (go_at_call 29;refine(Kx.out _).mono ?_;rintro e w1 ⟨rfl,rfl⟩)
      | (go_at_call 30;refine(Yk.out _).mono ?_;rintro e w1 ⟨rfl,rfl⟩))
     go_loopw [6,30] (fun v i wr=>∃k:Nat,k≤n∧i=.int .i64 k∧Hid (Vx (digs s.data.toList) w k v wr)) (fun _ i _=>n - (intOf i).toNat)
     case atStart=>exact⟨0,by omega,rfl,gM⟩
     case round=>
      clear gM
      obtain⟨k,hk,rfl,HR⟩:=hrel
      by_cases hlt:k<n
      ·obtain⟨mm,f,h1,h2,h3,h4,h5⟩:=HR.out
       have jo:k<(digs s.data.toList).length:=by rw [OJ.out];exact hlt
       obtain⟨b,Qj⟩:∃b:Nat,((digs s.data.toList)[k]'jo).toNat=b:=⟨_,rfl⟩
       have hix:=yU d k b (by rw [HD.out];exact jo) (by rw [←Qj];simp only [HD.out])
       have hb:=aam.out k jo
       rw [Qj] at hb
       have hv:=qu jo
       rw [Qj,←h4] at hv
       have db:=h5.size
       have Yt:=zh (rB (w.heap.size+1) u6 mm 10 (b - 48) f wr h2 h3 (by unfold Bw;omega) (by unfold Bw;omega) (by omega) (by simpa using db))
       have HV:=zh hv;have HB:=zh h5
       have ZU:IntKind.u8.wrap ((b:Int) - 48)=((b - 48:Nat):Int):=by rw [IntKind.wrap_u8];omega
       clear h2 h3 h4 h5 hv Qj jo db
       go_wp2_with (go_at_call 31;refine Yt.out.mono ?_;rintro e w2 ⟨v',m',f',rfl,o1,o2,o3,o4,o5⟩;have O1:=zh o1;have O3:=zh o3;have O4:=zh o4;have O5:=zh o5;clear o1 o3 o4 o5)
       go_roundw
       case rel=>exact⟨k+1,by omega,by go_num,m',f',by omega,O1.out,O3.out,by rw [O4.out,HV.out],HB.out.trans O5.out⟩
       case measure=>simp [intOf];omega
      ·obtain rfl:k=n:=by omega
       obtain⟨mm,f,h1,h2,h3,h4,h5⟩:=HR.out
       obtain⟨p,cap,rfl,hmc,wk,RA⟩:∃p cap,u6=.slice p mm cap∧mm≤cap∧cap≤maxLen∧∀a,p=some a→w.heap.size+1≤a.block:=by
        rcases h2.shape with ⟨rfl,rfl⟩ | ⟨g,cap,rfl,VP,_,BC,wk⟩
        ·exact⟨_,_,rfl,by omega,by omega,fun a h=>by cases h⟩
        ·exact⟨_,_,rfl,BC,wk,fun a h=>by cases h;exact VP⟩
       rw [List.take_of_length_le (by rw [OJ.out];omega)] at h4
       have RE:=zh (Br true p mm cap f wr hmc wk h2.at.2 h3)
       have HV:=zh h4;have HB:=zh h5
       clear h2 h3 h4 h5 HR
       go_wp2_with (go_at_call 32;refine RE.out.mono ?_;rintro e w3 ⟨s3,p3,n3,c3,rfl,hx,hg,lr⟩;have HX:=zh hx;have ES:=zh lr;clear lr;have mc:=aa (bz (row:=none) (a:=w.alloc (.cells #[.bool false,.slice none 0 0] 27)) (by simpa using HB.out)) hg;have eg:=zh mc;obtain⟨adv,aeT⟩:=FZ mc;have hz3:w.heap.size<w3.heap.size:=(by have:=mc.size;simp at this;omega);clear hx hg mc)
       have hb:=aae w (.cells #[.bool false,.slice none 0 0] 27)
       obtain⟨x,e1,e2,e3⟩:=Fa hb eg.out HX.out (ae (ad w none) _) (Nat.le_refl _)
       injection e1 with e1;subst e1
       obtain⟨rc0,rc1⟩:=wG (s:=s3) (p:=p3) (n:=n3) (c:=c3) hb eg.out
       refine bodyPost_ret (v:=.tuple #[.agg #[.bool s3,.slice p3 n3 c3],.int .i64 0]) (by simp [results,Tryz.results12,go_sem,rc0,rc1]) rfl ⟨_,by rw [C0.out],?_,e3,?_⟩
       ·unfold parseV
        rw [if_pos C0.out,HM.out,←HV.out];exact e2
       ·intro s p' n c h h0
        simp at h
        obtain⟨rfl,rfl,rfl,rfl⟩:=h
        obtain⟨a,ha,_⟩:=int_some e2 h0
        refine⟨a,ha,?_⟩
        have:=RA a (by rw [←ES.out h0];exact ha)
        omega
theorem Rl (t:List UInt8):minus (45::t)=true∧digs (45::t)=t:=by
 simp [minus,digs,Lib.hasPrefix,Lib.trimPrefix]
theorem md_other {x:UInt8} {t:List UInt8} (h:x.toNat≠45):minus (x::t)=false∧digs (x::t)=x::t:=by
 have hx:x≠45:=fun e=>h (by rw [e];rfl)
 have h1:Lib.hasPrefix (x::t) [45]=false:=by
  have:((45:UInt8) == x)=false:=beq_eq_false_iff_ne.2 (fun e=>hx e.symm)
  simp [Lib.hasPrefix,List.isPrefixOf,this]
 exact⟨h1,by unfold digs Lib.trimPrefix;rw [h1];rfl⟩
theorem afT {l:List UInt8} (h:0<l.length) (hb:l[0].toNat=45):minus l=true∧digs l=l.drop 1:=by
 match l,h,hb with
 | x::t,_,hb=>
   obtain rfl:x=45:=UInt8.toNat_inj.1 hb
   exact Rl t
theorem mdne {l:List UInt8} (h:0<l.length) (hb:l[0].toNat≠45):minus l=false∧digs l=l:=by
 match l,h,hb with
 | x::t,_,hb=>exact md_other hb
def dgt (D:List UInt8) (j:Nat):Nat:=(D.getD j 0).toNat - 48
theorem dgt_get {D:List UInt8} {j:Nat} (h:j<D.length):dgt D j=D[j].toNat - 48:=by
 unfold dgt;rw [List.getD_eq_getElem?_getD,List.getElem?_eq_getElem h];rfl
theorem ML (D:List UInt8):∀k,k≤D.length→valL (D.take k)=V 10 (fun j=>dgt D (k - 1 - j)) 0 k
 | 0,_=>by simp [valL,V]
 | k+1,h=>by
   rw [qu (by omega),ML D k (by omega),V_front,←dgt_get]
   simp only [Nat.add_sub_cancel]
   rw [V_congr (f:=fun j=>dgt D (k - j)) (g:=fun j=>dgt D (k - 1 - j)) (o:=1) (p:=0) (fun j hj=>by
    show dgt D (k - (1+j))=dgt D (k - 1 - (0+j))
    congr 1;omega)]
   show _=dgt D (k - 0)+_
   rw [Nat.sub_zero];omega
theorem valL_all (D:List UInt8):valL D=V 10 (fun j=>dgt D (D.length - 1 - j)) 0 D.length:=by
 have:=ML D D.length (Nat.le_refl _)
 rwa [List.take_length] at this
theorem RJ {n:Nat} {f:Nat→Nat} (t:n=0∨f (n - 1)≠0):0<n↔V 10 f 0 n≠0:=by
 constructor
 ·intro h
  rcases wS (b:=10) (f:=f) (o:=0) (n:=n) (by simpa using t) with e | e
  ·omega
  ·have:=Nat.pow_pos (n:=n - 1) (show 0<10 by omega);omega
 ·intro h
  rcases Nat.eq_zero_or_pos n with e | e
  ·subst e;exact absurd rfl h
  ·exact e
theorem CP {N k:Nat} (h:N≤Bw ^ k) (hk:k<tj):N<Lim:=by
 unfold Lim
 exact Nat.lt_of_le_of_lt h (Nat.pow_lt_pow_right (by unfold Bw;omega) hk)
theorem QG (l:List UInt8) (h:∀b∈l,b.toNat≤57) (a:Nat):l.foldl (fun a b=>10*a+(b.toNat - 48)) a<(a+1)*10 ^ l.length:=by
 induction l generalizing a with
 | nil=>simp
 | cons x xs ih=>
   have h1:=h x (by simp)
   have h2:=ih (fun b hb=>h b (by simp [hb])) (10*a+(x.toNat - 48))
   rw [List.foldl_cons,List.length_cons,Nat.pow_succ]
   refine zn h2 ?_
   have h3:10*a+(x.toNat - 48)+1≤(a+1)*10:=by omega
   calc (10*a+(x.toNat - 48)+1)*10 ^ xs.length≤((a+1)*10)*10 ^ xs.length:=Nat.mul_le_mul_right _ h3
    _=(a+1)*(10 ^ xs.length*10):=by rw [Nat.mul_assoc,Nat.mul_comm 10]
theorem QZ {l:List UInt8} (h:plain l=true):valL l<10 ^ l.length:=by
 have:=QG l (fun b hb=>by
  obtain⟨j,hj,rfl⟩:=List.getElem_of_mem hb
  exact(qc h j hj).2) 0
 simpa [valL] using this
theorem SH (l:List UInt8):(digs l).length≤l.length:=by
 unfold digs Lib.trimPrefix
 split
 ·simp
 ·exact Nat.le_refl _
theorem GZ (l:List UInt8):(parseV l).natAbs<10 ^ l.length∧(parseV l).natAbs<10 ^ 60:=by
 unfold parseV
 by_cases h:parseE l=0
 ·rw [if_pos h]
  have e:(sgn (minus l) (valL (digs l))).natAbs=valL (digs l):=by unfold sgn;split<;>simp
  rw [e]
  have h1:plain (digs l)=true∧(digs l).length≤60:=by
   unfold parseE at h
   by_cases DZ:60<(digs l).length
   ·rw [if_pos DZ] at h;omega
   ·rw [if_neg DZ] at h
    by_cases hp:plain (digs l)=false
    ·rw [if_pos (.inl hp)] at h;omega
    ·exact⟨by simpa using hp,by omega⟩
  have h2:=QZ h1.1
  exact⟨zn h2 (Nat.pow_le_pow_right (by omega) (SH l)),zn h2 (Nat.pow_le_pow_right (by omega) h1.2)⟩
 ·rw [if_neg h]
  exact⟨by simpa using Nat.pow_pos (by omega),by simp⟩
theorem parseV_lim (l:List UInt8):(parseV l).natAbs<Lim:=by
 refine CP (k:=4) (Nat.le_of_lt (zn (GZ l).2 ?_)) (by unfold tj;omega)
 have h1:(10:Nat) ^ 60≤(10 ^ 19) ^ 4:=by rw [←Nat.pow_mul];exact Nat.pow_le_pow_right (by omega) (by omega)
 exact Nat.le_trans h1 (Nat.pow_le_pow_left (by unfold Bw;omega) 4)
theorem Cg {D:List UInt8} (hp:∀j (hj:j<D.length),48≤D[j].toNat∧D[j].toNat≤57) (h0:0<D.length) (ht:D[0].toNat≠48):valL D≠0∧decL (valL D)=D:=by
 have hv:=valL_all D
 have hf:∀j,j<D.length→dgt D (D.length - 1 - j)<10:=by
  intro j hj
  have Ta:D.length - 1 - j<D.length:=by omega
  have:=hp _ Ta
  rw [dgt_get Ta];omega
 have aas:dgt D (D.length - 1 - (D.length - 1))≠0:=by
  rw [Nat.sub_self,dgt_get h0]
  have:=hp 0 h0;omega
 have bl:valL D≠0:=by
  rw [hv];exact(RJ (f:=fun j=>dgt D (D.length - 1 - j)) (.inr aas)).1 h0
 obtain⟨d1,d2⟩:=xG (f:=fun j=>dgt D (D.length - 1 - j)) hf h0 aas hv.symm
 refine⟨bl,List.ext_getElem (by rw [iH,←d1]) fun j h1 h2=>?_⟩
 apply UInt8.toNat_inj.1
 rw [tU,←d1,←d2 (D.length - 1 - j) (by omega)]
 show 48+dgt D (D.length - 1 - (D.length - 1 - j))=_
 rw [show D.length - 1 - (D.length - 1 - j)=j by omega,dgt_get h2]
 have:=hp j h2
 omega
theorem Sh (l:List UInt8):l=if minus l then 45::digs l else digs l:=by
 match l with
 | []=>rfl
 | x::t=>
   by_cases hx:x.toNat=45
   ·obtain⟨h1,h2⟩:=afT (l:=x::t) (by simp) hx
    have:x=45:=UInt8.toNat_inj.1 hx
    rw [h1,if_pos rfl,h2,this];rfl
   ·obtain⟨h1,h2⟩:=mdne (l:=x::t) (by simp) hx
    rw [h1,h2];rfl
theorem txtL_parse {l:List UInt8} (h:parseE l=0):txtL (parseV l)=l:=by
 have hE:=h
 unfold parseE at h
 by_cases DZ:60<(digs l).length
 ·rw [if_pos DZ] at h;cases h
 ·rw [if_neg DZ] at h
  by_cases hb:plain (digs l)=false∨(minus l=true∧digs l = [48])
  ·rw [if_pos hb] at h;cases h
  ·have hp:plain (digs l)=true:=by
    rcases hp:plain (digs l) with _ | _
    ·exact absurd (.inl hp) hb
    ·rfl
   have PJ:=qc hp
   have hmz:¬(minus l=true∧digs l = [48]):=fun h=>hb (.inr h)
   have EG:=Sh l
   unfold parseV
   rw [if_pos hE]
   by_cases hz:digs l = [48]
   ·have hm:minus l=false:=by
     rcases hm:minus l with _ | _
     ·rfl
     ·exact absurd ⟨hm,hz⟩ hmz
    rw [hm] at EG
    simp only [Bool.false_eq_true,if_false] at EG
    rw [hm,hz]
    rw [hz] at EG
    rw [EG];rfl
   ·have h0:0<(digs l).length:=by
     rcases Nat.eq_zero_or_pos (digs l).length with e | e
     ·rw [List.eq_nil_of_length_eq_zero e] at hp;cases hp
     ·exact e
    have ht:(digs l)[0].toNat≠48:=by
     intro e
     have e0:(digs l)[0]=48:=UInt8.toNat_inj.1 e
     unfold plain at hp
     rw [decide_eq_false hz,List.head?_eq_getElem?,List.getElem?_eq_getElem h0,e0] at hp
     simp at hp
    obtain⟨k1,k2⟩:=Cg PJ h0 ht
    rcases hm:minus l with _ | _
    ·rw [hm] at EG
     simp only [Bool.false_eq_true,if_false] at EG
     show txtL ((valL (digs l):Nat):Int)=l
     rw [EH k1,k2];exact EG.symm
    ·rw [hm] at EG
     simp only [if_true] at EG
     show txtL (-((valL (digs l):Nat):Int))=l
     rw [FJ k1,k2];exact EG.symm
end Go.Proofs.YtjbgnopnehgbaaaGreatDoor.Zd
namespace Go.Proofs.YtjbgnopnehgbaaaGreatDoor
open Go.RowKit
def Flat (w:World) (g:Nat):Prop:=∃cs T,w.heap[g]? = some (.cells cs T (0,0))
theorem Flat.same {S:Nat→Prop} {w w':World} {g:Nat} (h:Flat w g) (hg:Fr2 S w w') (hS:¬S g):Flat w' g:=by
 obtain⟨cs,T,h⟩:=h
 exact⟨cs,T,by rw [hg.block g (hlt h) hS];exact h⟩
mutual
def SAt (F:Nat→Prop) (w:World):Sx→List Value→Prop
 | .mk op nm md nu ys ks ps,q=>∃s pw nw cw pk ck rows,q = [.int .i64 op,aw nm,aw md,.bool s,.slice pw nw cw,.bool ys,.slice pk ks.length ck,.int .i64 ps]∧Zd.IsInt w (.agg #[.bool s,.slice pw nw cw]) nu∧(0<nw→∃a,pw=some a∧F a.block)∧GAt 8 w pk rows∧LsS F w ks rows∧(ks≠[]→∃a,pk=some a∧F a.block∧Flat w a.block)
def LsS (F:Nat→Prop) (w:World):List Sx→List (List Value)→Prop
 | [],r=>r = []
 | x::l,r=>∃q r',r=q::r'∧SAt F w x q∧LsS F w l r'
end
theorem qN {S:Nat→Prop} {w w':World} {s:Bool} {p:Option Addr} {n c:Nat} {Z:Int} (h:Zd.IsInt w (.agg #[.bool s,.slice p n c]) Z) (hg:Fr2 S w w') (hS:0<n→∀a,p=some a→¬S a.block):Zd.IsInt w' (.agg #[.bool s,.slice p n c]) Z:=by
 obtain⟨s',v,N,he,⟨p',n',c',f,rfl,h1,h2,h3,h4⟩,r⟩:=h
 simp only [Value.agg.injEq,Array.mk.injEq,List.cons.injEq,Value.bool.injEq,Value.slice.injEq,and_true] at he
 obtain⟨rfl,rfl,rfl,rfl⟩:=he
 refine⟨s,_,N,rfl,⟨p,n,c,f,rfl,h1,h2,?_,h4⟩,r⟩
 rcases Nat.eq_zero_or_pos n with h0 | h0
 ·exact .inl h0
 ·obtain⟨g,off,rfl,hl,hc⟩:=Or.resolve_left h3 (by omega)
  exact .inr ⟨g,off,rfl,zn hl hg.size,fun j hj=>by rw [World.cell?_of_block (w:=w) (hg.block g hl (hS h0 _ rfl))];exact hc j hj⟩
theorem SAt.len {F:Nat→Prop} {w:World}:∀ {x:Sx} {q:List Value},SAt F w x q→q.length=8
 | .mk op nm md nu ys ks ps,q,h=>by
   simp only [SAt] at h
   obtain⟨s,pw,nw,cw,pk,ck,rows,rfl,-⟩:=h
   rfl
theorem LsS.len {F:Nat→Prop} {w:World}:∀ {l:List Sx} {r:List (List Value)},LsS F w l r→r.length=l.length
 | [],r,h=>by simp only [LsS] at h;rw [h];rfl
 | x::l,r,h=>by
   simp only [LsS] at h
   obtain⟨q,r',rfl,-,h2⟩:=h
   rw [List.length_cons,LsS.len h2];rfl
theorem LsS.wid {F:Nat→Prop} {w:World}:∀ {l:List Sx} {r:List (List Value)},LsS F w l r→∀q∈r,q.length=8
 | [],r,h=>by simp only [LsS] at h;subst h;simp
 | x::l,r,h=>by
   simp only [LsS] at h
   obtain⟨q,r',rfl,h1,h2⟩:=h
   intro z hz
   rcases List.mem_cons.1 hz with rfl | hz
   ·exact h1.len
   ·exact LsS.wid h2 z hz
theorem LsS.get {F:Nat→Prop} {w:World}:∀ {l:List Sx} {r:List (List Value)} {j:Nat} {x:Sx},LsS F w l r→l[j]? = some x→∃q,r[j]? = some q∧SAt F w x q
 | [],r,j,x,h,hx=>by simp at hx
 | y::l,r,j,x,h,hx=>by
   simp only [LsS] at h
   obtain⟨q,r',rfl,h1,h2⟩:=h
   match j,hx with
   | 0,hx=>simp at hx;subst hx;exact⟨q,rfl,h1⟩
   | j+1,hx=>
     obtain⟨q',hq,hr⟩:=LsS.get h2 (j:=j) (by simpa using hx)
     exact⟨q',by simpa using hq,hr⟩
theorem LsS.snoc {F:Nat→Prop} {w:World} {x:Sx} {q:List Value} (hx:SAt F w x q):∀ {l:List Sx} {r:List (List Value)},LsS F w l r→LsS F w (l++[x]) (r++[q])
 | [],r,h=>by simp only [LsS] at h;subst h;simp only [List.nil_append,LsS];exact⟨q,[],rfl,hx,rfl⟩
 | y::l,r,h=>by
   simp only [LsS] at h
   obtain⟨q',r',rfl,h1,h2⟩:=h
   simp only [List.cons_append,LsS]
   exact⟨q',_,rfl,h1,LsS.snoc hx h2⟩
theorem LsS.nil {F:Nat→Prop} {w:World}:LsS F w [] []:=by simp [LsS]
theorem Io {S F:Nat→Prop} {w w':World} {p:Option Addr} {rows:List (List Value)} {n:Nat} (hr:rows.length=n) (h:GAt 8 w p rows) (hF:0<n→∃a,p=some a∧F a.block) (hg:Fr2 S w w') (hS:∀k,F k→¬S k):GAt 8 w' p rows:=
 h.keptS hg (fun h0 a ha=>by
  obtain⟨b,hb,h1⟩:=hF (by have:=List.length_pos_iff.2 h0;omega)
  rw [ha] at hb;injection hb with hb;subst hb;exact hS _ h1)
mutual
theorem SAt.same {F S:Nat→Prop} {w w':World} (hg:Fr2 S w w') (hS:∀k,F k→¬S k):∀ {x:Sx} {q:List Value},SAt F w x q→SAt F w' x q
 | .mk op nm md nu ys ks ps,q,h=>by
   simp only [SAt] at h ⊢
   obtain⟨s,pw,nw,cw,pk,ck,rows,h1,h2,h6,h3,h4,h5⟩:=h
   exact⟨s,pw,nw,cw,pk,ck,rows,h1,qN h2 hg (fun h0 a ha=>by obtain⟨b,hb,hF⟩:=h6 h0;rw [ha] at hb;injection hb with hb;subst hb;exact hS _ hF),h6,Io h4.len h3 (fun h0=>by obtain⟨a,ha,hF,-⟩:=h5 (List.length_pos_iff.1 h0);exact⟨a,ha,hF⟩) hg hS,LsS.same hg hS h4,fun h0=>by obtain⟨a,ha,hF,hl⟩:=h5 h0;exact⟨a,ha,hF,hl.same hg (hS _ hF)⟩⟩
theorem LsS.same {F S:Nat→Prop} {w w':World} (hg:Fr2 S w w') (hS:∀k,F k→¬S k):∀ {l:List Sx} {r:List (List Value)},LsS F w l r→LsS F w' l r
 | [],r,h=>by simp only [LsS] at h ⊢;exact h
 | x::l,r,h=>by
   simp only [LsS] at h ⊢
   obtain⟨q,r',h1,h2,h3⟩:=h
   exact⟨q,r',h1,SAt.same hg hS h2,LsS.same hg hS h3⟩
end
mutual
theorem SAt.mono {F F':Nat→Prop} {w:World} (hF:∀k,F k→F' k):∀ {x:Sx} {q:List Value},SAt F w x q→SAt F' w x q
 | .mk op nm md nu ys ks ps,q,h=>by
   simp only [SAt] at h ⊢
   obtain⟨s,pw,nw,cw,pk,ck,rows,h1,h2,h6,h3,h4,h5⟩:=h
   exact⟨s,pw,nw,cw,pk,ck,rows,h1,h2,fun h0=>by obtain⟨a,ha,h7⟩:=h6 h0;exact⟨a,ha,hF _ h7⟩,h3,LsS.mono hF h4,fun h0=>by obtain⟨a,ha,h6,h8⟩:=h5 h0;exact⟨a,ha,hF _ h6,h8⟩⟩
theorem LsS.mono {F F':Nat→Prop} {w:World} (hF:∀k,F k→F' k):∀ {l:List Sx} {r:List (List Value)},LsS F w l r→LsS F' w l r
 | [],r,h=>by simp only [LsS] at h ⊢;exact h
 | x::l,r,h=>by
   simp only [LsS] at h ⊢
   obtain⟨q,r',h1,h2,h3⟩:=h
   exact⟨q,r',h1,SAt.mono hF h2,LsS.mono hF h3⟩
end
theorem SAt.kept {F:Nat→Prop} {w w':World} {x:Sx} {q:List Value} (h:SAt F w x q) (hg:w.grownBy w' none):SAt F w' x q:=SAt.same (S:=fun _=>False) (Fr2.none hg) (fun _ _ h=>h) h
theorem LsS.kept {F:Nat→Prop} {w w':World} {l:List Sx} {r:List (List Value)} (h:LsS F w l r) (hg:w.grownBy w' none):LsS F w' l r:=LsS.same (S:=fun _=>False) (Fr2.none hg) (fun _ _ h=>h) h
theorem Xr {s:Nat} {w:World} {p:Option Addr} {r1 r2:List (List Value)} (h1:GAt s w p r1) (h2:GAt s w p r2) (hl:r1.length=r2.length) (e1:∀q∈r1,q.length=s) (e2:∀q∈r2,q.length=s):r1=r2:=by
 rcases h1 with h1 | ⟨g,off,rfl,-,c1⟩
 ·subst h1;exact(List.eq_nil_of_length_eq_zero (by rw [←hl];rfl)).symm
 rcases h2 with h2 | ⟨g',Ob,hp,-,c2⟩
 ·subst h2;exact List.eq_nil_of_length_eq_zero hl
 simp only [Option.some.injEq,Addr.mk.injEq,and_true] at hp
 obtain⟨rfl,rfl⟩:=hp
 refine List.ext_getElem hl fun j hj1 Zg=>?_
 have a1:=List.getElem?_eq_getElem hj1
 have a2:=List.getElem?_eq_getElem Zg
 have b1:=e1 _ (List.getElem_mem hj1)
 have b2:=e2 _ (List.getElem_mem Zg)
 refine List.ext_getElem (by rw [b1,b2]) fun i Ha D5=>?_
 have d1:=c1 j _ a1 i _ (List.getElem?_eq_getElem Ha)
 have d2:=c2 j _ a2 i _ (List.getElem?_eq_getElem D5)
 rw [d1] at d2;injection d2
mutual
theorem SAt.size {F F':Nat→Prop} {w:World}:∀ {x y:Sx} {q:List Value},SAt F w x q→SAt F' w y q→bw x=bw y
 | .mk op nm md nu ys ks ps,.mk op' nm' md' nu' ys' Ik ps',q,h,h'=>by
   simp only [SAt] at h h'
   obtain⟨s,pw,nw,cw,pk,ck,rows,h1,-,-,h3,h4,-⟩:=h
   obtain⟨s',pw',nw',cw',pk',ck',rows',ON,-,-,h3',h4',-⟩:=h'
   rw [h1] at ON
   simp only [List.cons.injEq,Value.slice.injEq,and_true] at ON
   obtain⟨-,-,-,-,-,-,⟨rfl,hn,rfl⟩,-⟩:=ON
   have hr:rows=rows':=Xr h3 h3' (by rw [h4.len,h4'.len,hn]) h4.wid h4'.wid
   subst hr
   simp only [bw]
   rw [LsS.size h4 h4']
theorem LsS.size {F F':Nat→Prop} {w:World}:∀ {l m:List Sx} {r:List (List Value)},LsS F w l r→LsS F' w m r→dh l=dh m
 | [],[],r,_,_=>rfl
 | [],y::m,r,h,h'=>by simp only [LsS] at h h';obtain⟨q,r',e,-⟩:=h';rw [h] at e;cases e
 | x::l,[],r,h,h'=>by simp only [LsS] at h h';obtain⟨q,r',e,-⟩:=h;rw [h'] at e;cases e
 | x::l,y::m,r,h,h'=>by
   simp only [LsS] at h h'
   obtain⟨q,r',e,h1,h2⟩:=h
   obtain⟨q',r'',e',ON,h2'⟩:=h'
   rw [e] at e';injection e' with e1 e2;subst e1;subst e2
   simp only [dh]
   rw [SAt.size h1 ON,LsS.size h2 h2']
end
def CAt (w:World) (a:Addr) (q:List Value):Prop:=∃g off,a=⟨g,off,none⟩∧(g<w.heap.size∧Flat w g)∧∀(i:Nat) (v:Value),q[i]? = some v→w.cell? ⟨g,off+i,none⟩=some v
theorem CAt.eq {w:World} {a:Addr} {q r:List Value} (h1:CAt w a q) (h2:CAt w a r) (hl:q.length=r.length):q=r:=by
 obtain⟨g,off,rfl,-,c1⟩:=h1
 obtain⟨g',Ob,hp,-,c2⟩:=h2
 simp only [Addr.mk.injEq,and_true] at hp
 obtain⟨rfl,rfl⟩:=hp
 refine List.ext_getElem hl fun i Ha D5=>?_
 have d1:=c1 i _ (List.getElem?_eq_getElem Ha)
 have d2:=c2 i _ (List.getElem?_eq_getElem D5)
 rw [d1] at d2;injection d2
theorem CAt.same {S:Nat→Prop} {w w':World} {a:Addr} {q:List Value} (h:CAt w a q) (hg:Fr2 S w w') (hS:¬S a.block):CAt w' a q:=by
 obtain⟨g,off,rfl,⟨hl,IA⟩,c⟩:=h
 exact⟨g,off,rfl,⟨zn hl hg.size,IA.same hg hS⟩,fun i v hi=>by rw [World.cell?_of_block (w:=w) (hg.block g hl hS)];exact c i v hi⟩
theorem GAt.at {s:Nat} {w:World} {p:Option Addr} {rows:List (List Value)} {j:Nat} {q:List Value} (h:GAt s w p rows) (hj:rows[j]? = some q) (hf:∀a,p=some a→Flat w a.block):∃g off,p=some ⟨g,off,none⟩∧CAt w ⟨g,off+j*s,none⟩ q:=by
 rcases h with h | ⟨g,off,rfl,hl,c⟩
 ·subst h;simp at hj
 ·exact⟨g,off,rfl,⟨g,_,rfl,⟨hl,hf _ rfl⟩,fun i v hi=>c j q hj i v hi⟩⟩
theorem K1 {F F':Nat→Prop} {w:World} {a:Addr} {x y:Sx} {q r:List Value} (h1:CAt w a q) (hx:SAt F w x q) (h2:CAt w a r) (hy:SAt F' w y r):bw x=bw y:=by
 have:=h1.eq h2 (by rw [hx.len,hy.len]);subst this
 exact hx.size hy
abbrev Pq:=Addr×Sx×Nat
def nG (f:Bool) (p:Pq):Bool:=if p.2.2=0 then bf f p.2.1 else cx f (p.2.1.ks.drop p.2.2)
def iC (f:Bool) (P:List Pq):Bool:=P.all (nG f)
mutual
def KF:Sx→Nat
 | .mk _ _ _ _ _ ks _=>1+wq ks
def wq:List Sx→Nat
 | []=>0
 | x::l=>1+KF x+wq l
end
def I1 (p:Pq):Nat:=1+wq (p.2.1.ks.drop p.2.2)
def kg (P:List Pq):Nat:=(P.map I1).sum
mutual
theorem E5:∀x:Sx,KF x+1=2*bw x
 | .mk op nm md nu ys ks ps=>by simp only [KF,bw];have:=B8 ks;omega
theorem B8:∀l:List Sx,wq l=2*dh l
 | []=>rfl
 | x::l=>by simp only [wq,dh];have:=E5 x;have:=B8 l;omega
end
theorem jG (a b:List Pq):kg (a++b)=kg a+kg b:=by simp [kg,List.map_append,List.sum_append]
theorem gG (f:Bool) (a b:List Pq):iC f (a++b)=(iC f a && iC f b):=by simp [iC,List.all_append]
theorem uz (a:Addr) (x:Sx):I1 (a,x,0)=KF x:=by cases x;simp [I1,Sx.ks,KF]
theorem xi {ks:List Sx} {d:Nat} {k:Sx} (h:ks[d]? = some k):ks.drop d=k::ks.drop (d+1):=by
 obtain⟨hd,hk⟩:=List.getElem?_eq_some_iff.1 h
 rw [List.drop_eq_getElem_cons hd,hk]
theorem Hh {f:Bool} {P:List Pq} {a b:Addr} {x k:Sx} {d:Nat} (h0:d=0→bf f x=cx f x.ks) (hk:x.ks[d]? = some k):iC f (P++[(a,x,d)])=iC f (P++[(a,x,d+1)]++[(b,k,0)]):=by
 have e:nG f (a,x,d)=(bf f k && cx f (x.ks.drop (d+1))):=by
  have hdc:=xi hk
  unfold nG
  simp only
  split
  ·rename_i h
   rw [h0 h]
   have h:d=0:=h
   subst h
   rw [List.drop_zero] at hdc
   rw [hdc];simp only [cx,List.drop_succ_cons,List.drop_zero]
  ·rw [hdc];simp only [cx]
 have e2:nG f (a,x,d+1)=cx f (x.ks.drop (d+1)):=rfl
 have e3:nG f (b,k,0)=bf f k:=rfl
 rw [gG,gG,gG]
 simp only [iC,List.all_cons,List.all_nil,Bool.and_true,e,e2,e3]
 cases List.all P (nG f)<;>cases bf f k<;>simp
theorem Lv {P:List Pq} {a b:Addr} {x k:Sx} {d:Nat} (hk:x.ks[d]? = some k):kg (P++[(a,x,d)])=kg (P++[(a,x,d+1)]++[(b,k,0)])+1:=by
 have hdc:=xi hk
 rw [jG,jG,jG]
 simp only [kg,List.map_cons,List.map_nil,List.sum_cons,List.sum_nil]
 rw [uz]
 simp only [I1,hdc,wq];omega
theorem KI {f:Bool} {P:List Pq} {a:Addr} {x:Sx} {d:Nat} (h0:d=0→bf f x=cx f x.ks) (hd:d=x.ks.length):iC f (P++[(a,x,d)])=iC f P:=by
 have e:nG f (a,x,d)=true:=by
  unfold nG
  simp only
  split
  ·rename_i h
   have h:d=0:=h
   rw [h0 h,List.eq_nil_of_length_eq_zero (hd.symm.trans h)];rfl
  ·rw [hd,List.drop_length];rfl
 rw [gG]
 simp only [iC,List.all_cons,List.all_nil,e,Bool.and_true]
theorem Pr {P:List Pq} {a:Addr} {x:Sx} {d:Nat}:kg P<kg (P++[(a,x,d)]):=by
 rw [jG]
 simp only [kg,List.map_cons,List.map_nil,List.sum_cons,List.sum_nil,I1];omega
theorem Cf {f:Bool} {P:List Pq} {a:Addr} {x:Sx} (h:bf f x=false):iC f (P++[(a,x,0)])=false:=by
 rw [gG]
 simp [iC,nG,h]
theorem Bf {f:Bool} {op:Int} {nm md:List UInt8} {nu:Int} {ys:Bool} {ks:List Sx} {ps:Int} (h:(se f op && iR op nm md nu ys ks.length)=true):bf f (.mk op nm md nu ys ks ps)=cx f ks:=by
 simp only [bf,h,Bool.true_and]
theorem xW {f:Bool} {op:Int} {nm md:List UInt8} {nu:Int} {ys:Bool} {ks:List Sx} {ps:Int} (h:(se f op && iR op nm md nu ys ks.length)=false):bf f (.mk op nm md nu ys ks ps)=false:=by
 simp only [bf,h,Bool.false_and]
structure jB (F:Nat→Prop) (w:World) (n:Nat) (P:List Pq):Prop where
 at_:∀p∈P,∃q,CAt w p.1 q∧SAt F w p.2.1 q∧p.2.2≤p.2.1.ks.length
 siz:∀(i:Nat) (p:Pq),P[i]? = some p→i+bw p.2.1≤n
 dec:∀(i j:Nat) (p r:Pq),i<j→P[i]? = some p→P[j]? = some r→bw r.2.1<bw p.2.1
theorem jB.start {F:Nat→Prop} {w:World} {a:Addr} {x:Sx} {q:List Value} (h1:CAt w a q) (h2:SAt F w x q):jB F w (bw x) [(a,x,0)]:=
 ⟨fun p hp=>by simp at hp;subst hp;exact⟨q,h1,h2,Nat.zero_le _⟩,fun i p hp=>by
  rcases i with _ | i
  ·simp at hp;subst hp;simp
  ·simp at hp,fun i j p r hij hp hr=>by
  rcases j with _ | j
  ·omega
  ·simp at hr⟩
theorem jB.pop {F:Nat→Prop} {w:World} {n:Nat} {P:List Pq} {p:Pq} (h:jB F w n (P++[p])):jB F w n P:=
 ⟨fun r hr=>h.at_ r (List.mem_append_left _ hr),fun i r hi=>h.siz i r (by rw [List.getElem?_append_left (List.getElem?_eq_some_iff.1 hi).1];exact hi),
  fun i j r s hij hi hj=>h.dec i j r s hij (by rw [List.getElem?_append_left (List.getElem?_eq_some_iff.1 hi).1];exact hi) (by rw [List.getElem?_append_left (List.getElem?_eq_some_iff.1 hj).1];exact hj)⟩
theorem jB.last {F:Nat→Prop} {w:World} {n:Nat} {P:List Pq} {p:Pq} (h:jB F w n (P++[p])):P.length+bw p.2.1≤n:=h.siz P.length p (by simp)
theorem ki {P:List Pq} {p r:Pq} {i:Nat} (h:(P++[p])[i]? = some r):(i<P.length∧P[i]? = some r)∨(i=P.length∧r=p):=by
 obtain⟨hi,-⟩:=List.getElem?_eq_some_iff.1 h
 rw [List.length_append,List.length_singleton] at hi
 by_cases hl:i<P.length
 ·rw [List.getElem?_append_left hl] at h;exact .inl ⟨hl,h⟩
 ·have e:i=P.length:=by omega
  subst e
  simp at h;exact .inr ⟨rfl,h.symm⟩
theorem jB.step {F:Nat→Prop} {w:World} {n:Nat} {P:List Pq} {a b:Addr} {x k:Sx} {d:Nat} {q:List Value} (h:jB F w n (P++[(a,x,d)])) (hk:x.ks[d]? = some k) (h1:CAt w b q) (h2:SAt F w k q):jB F w n (P++[(a,x,d+1)]++[(b,k,0)]):=by
 have hs:=BK hk
 have hd:d<x.ks.length:=(List.getElem?_eq_some_iff.1 hk).1
 have hl:=h.last
 simp only at hl
 have g:∀(i:Nat) (p:Pq),(P++[(a,x,d+1)])[i]? = some p→∃p',(P++[(a,x,d)])[i]? = some p'∧p'.2.1=p.2.1:=fun i p hp=>by
  rcases ki hp with ⟨h1,h2⟩ | ⟨rfl,rfl⟩
  ·exact⟨p,by rw [List.getElem?_append_left h1];exact h2,rfl⟩
  ·exact⟨(a,x,d),by simp,rfl⟩
 refine⟨fun p hp=>?_,fun i p hp=>?_,fun i j p r hij hp hr=>?_⟩
 ·simp only [List.append_assoc,List.cons_append,List.nil_append,List.mem_append,List.mem_cons,List.not_mem_nil,or_false] at hp
  rcases hp with hp | rfl | rfl
  ·exact h.at_ p (List.mem_append_left _ hp)
  ·obtain⟨q',e1,e2,-⟩:=h.at_ (a,x,d) (by simp)
   exact⟨q',e1,e2,by simp only;omega⟩
  ·exact⟨q,h1,h2,Nat.zero_le _⟩
 ·rcases ki hp with ⟨h3,h4⟩ | ⟨rfl,rfl⟩
  ·obtain⟨p',e1,e2⟩:=g i p h4
   rw [←e2];exact h.siz i p' e1
  ·simp only [List.length_append,List.length_singleton];omega
 ·rcases ki hr with ⟨h3,h4⟩ | ⟨rfl,rfl⟩
  ·have YQ:=hp
   rw [List.getElem?_append_left (by omega)] at YQ
   obtain⟨p1,e1,e2⟩:=g i p YQ
   obtain⟨r1,e3,e4⟩:=g j r h4
   rw [←e2,←e4];exact h.dec i j p1 r1 hij e1 e3
  ·simp only [List.length_append,List.length_singleton] at hij
   rw [List.getElem?_append_left (by simpa using hij)] at hp
   obtain⟨p1,e1,e2⟩:=g i p hp
   rw [←e2]
   rcases ki e1 with ⟨h3,h4⟩ | ⟨rfl,rfl⟩
   ·have:=h.dec i P.length p1 (a,x,d) h3 e1 (by simp)
    simp only at this ⊢;omega
   ·simp only;omega
theorem jB.ne {F:Nat→Prop} {w:World} {n:Nat} {P:List Pq} {a b:Addr} {x k:Sx} {d i:Nat} {q:List Value} {p:Pq} (h:jB F w n (P++[(a,x,d)])) (hk:x.ks[d]? = some k) (h1:CAt w b q) (h2:SAt F w k q) (hp:(P++[(a,x,d)])[i]? = some p):b≠p.1:=by
 intro e
 obtain⟨r,c1,c2,-⟩:=h.at_ p (List.mem_of_getElem? hp)
 rw [←e] at c1
 have h3:=K1 h1 h2 c1 c2
 have h4:=BK hk
 rcases ki hp with ⟨h5,h6⟩ | ⟨rfl,rfl⟩
 ·have:=h.dec i P.length p (a,x,d) h5 hp (by simp)
  simp only at this;omega
 ·simp only at h3;omega
end Go.Proofs.YtjbgnopnehgbaaaGreatDoor
