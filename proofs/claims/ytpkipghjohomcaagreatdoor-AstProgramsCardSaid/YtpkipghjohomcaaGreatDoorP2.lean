/- Lemmas. -/
import Derived.Test.YtpkipghjohomcaaGreatDoorP9
set_option linter.unusedVariables false
set_option linter.unusedSimpArgs false
namespace Go.Proofs.YtpkipghjohomcaaGreatDoor
structure St where
 i:Nat
 inn:Bool
 e:Nat
 pos:Nat
abbrev RQ:=List UInt8×St
def az (T:List Tok) (s:St):Tok:=T[s.i]?.getD ⟨5,[],[],0⟩
def aH (T:List Tok) (n:Nat) (s:St):St:=if s.e=0 then { s with e:=n,pos:=(az T s).pos } else s
def isQ (T:List Tok) (w:List UInt8) (s:St):Bool:=decide (s.e=0/\((az T s).kind=2\/(az T s).kind=4)/\(az T s).text=w)
def aS (T:List Tok) (s:St):RQ:=if (az T s).kind=5 then ([32,36],s) else (32::(az T s).text,{ s with i:=s.i+1 })
def gZ (T:List Tok) (w:List UInt8) (s:St):RQ:=if isQ T w s=true then aS T s else ([],aH T 22 s)
def mT (T:List Tok) (k:Nat) (s:St):RQ:=if s.e=0/\(az T s).kind=k then aS T s else ([],aH T 22 s)
def aY (T:List Tok) (D n:Nat) (s:St):St:=if D<n then aH T 23 s else s
def F4 (T:List Tok) (c:St->Bool) (sub:St->RQ):Nat->RQ->RQ
 | 0,r=>r
 | f+1,r=>if c r.2=true then
   F4 T c sub f ([32,40,49,48]++r.1++(aS T r.2).1++(sub (aS T r.2).2).1++[41],(sub (aS T r.2).2).2)
   else r
def ww (T:List Tok) (sub:St->RQ):Nat->Nat->RQ->RQ
 | 0,_,r=>r
 | f+1,k,r=>if isQ T [44] r.2=true then
   let m:=aS T r.2
   let A:=if k=8 then aH T 15 m.2 else m.2
   ww T sub f (k+1) (r.1++m.1++(sub A).1,(sub A).2)
   else r
structure Nx where
 expr:St->RQ
 formula:St->RQ
 nots:St->RQ
 factor:St->RQ
section
variable (T:List Tok) (D n:Nat) (nx:Nx)
def bG (s:St):Nat:=T.length - s.i+1
def GJ (s:St):RQ:=ww T nx.expr (bG T (nx.expr s).2) 1 (nx.expr s)
def L7 (a:RQ):RQ:=if isQ T [46] a.2=true then (a.1++(aS T a.2).1++(mT T 1 (aS T a.2).2).1,(mT T 1 (aS T a.2).2).2) else a
def MQ (b:RQ):RQ:=(b.1++(gZ T [40] b.2).1,(gZ T [40] b.2).2)
def LA (c:RQ):RQ:=if isQ T [41] c.2=true then c else (c.1++(GJ T nx c.2).1,(GJ T nx c.2).2)
def Oh (d:RQ):RQ:=([32,40,49,51]++d.1++(gZ T [41] d.2).1++[41],(gZ T [41] d.2).2)
def Pu (s:St):RQ:=
 if (aS T s).2.inn=true\/(isQ T [46] (aS T s).2=false/\isQ T [40] (aS T s).2=false) then ([32,40,49,52]++(aS T s).1++[41],(aS T s).2)
 else Oh T (LA T nx (MQ T (L7 T (aS T s))))
def Mz (s:St):RQ:=
 if s.e≠0 then ([],s)
 else if (az T s).kind=3 then ([32,40,49,53]++(aS T s).1++[41],(aS T s).2)
 else if isQ T [116,114,117,101] s=true\/isQ T [102,97,108,115,101] s=true then ([32,40,49,54]++(aS T s).1++[41],(aS T s).2)
 else if s.inn=true/\isQ T [114,101,115] s=true then ([32,40,49,55]++(aS T s).1++[41],(aS T s).2)
 else if isQ T [40] s=true then
  let B:=aS T s
  let m:=nx.expr B.2
  let A:=gZ T [41] m.2
  ([32,40,49,50]++B.1++m.1++A.1++[41],A.2)
 else if (az T s).kind=1 then Pu T nx s
 else ([],aH T 22 s)
def Gg (sub:St->RQ) (s:St):RQ:=
 let A:=aS T s
 let m:=aY T D (n+1) A.2
 if m.e≠0 then ([],m) else ([32,40,49,49]++A.1++(sub m).1++[41],(sub m).2)
def oD (s:St):RQ:=if isQ T [45] s=true then Gg T D n nx.factor s else Mz T nx s
def rd (s:St):Bool:=isQ T [42] s || isQ T [47] s || isQ T [37] s
def rB (s:St):Bool:=isQ T [43] s || isQ T [45] s
def jf (s:St):Bool:=isQ T [61] s || isQ T [60,62] s || isQ T [60] s || isQ T [60,61] s || isQ T [62] s || isQ T [62,61] s
def m6 (s:St):RQ:=F4 T (rd T) (oD T D n nx) (bG T (oD T D n nx s).2) (oD T D n nx s)
def Re (s:St):RQ:=F4 T (rB T) (m6 T D n nx) (bG T (m6 T D n nx s).2) (m6 T D n nx s)
def JI (s:St):RQ:=
 if isQ T [110,111,116] s=true then Gg T D n nx.nots s
 else
  let m:=Re T D n nx s
  if jf T m.2=true then
   let B:=aS T m.2
   let A:=Re T D n nx B.2
   ([32,40,49,48]++m.1++B.1++A.1++[41],A.2)
  else m
def Of (s:St):RQ:=F4 T (isQ T [38,38]) (JI T D n nx) (bG T (JI T D n nx s).2) (JI T D n nx s)
def orQ (s:St):RQ:=F4 T (isQ T [124,124]) (Of T D n nx) (bG T (Of T D n nx s).2) (Of T D n nx s)
def qG (s:St):RQ:=
 let m:=orQ T D n nx s
 if isQ T [61,62] m.2=true then
  let B:=aS T m.2
  let A:=aY T D (n+1) B.2
  if A.e≠0 then ([],A) else ([32,40,49,48]++m.1++B.1++(nx.formula A).1++[41],(nx.formula A).2)
 else m
def Xs (s:St):RQ:=
 let G:=aS T s
 let E:=mT T 1 G.2
 let H:=gZ T [61] E.2
 let m:=nx.expr H.2
 let B:=gZ T [105,110] m.2
 let A:=nx.expr B.2
 ([32,40,55]++G.1++E.1++H.1++m.1++B.1++A.1++[41],A.2)
def ifQ (s:St):RQ:=
 let G:=aS T s
 let m:=nx.expr G.2
 let H:=gZ T [116,104,101,110] m.2
 let A:=nx.expr H.2
 let E:=gZ T [101,108,115,101] A.2
 let B:=nx.expr E.2
 ([32,40,56]++G.1++m.1++H.1++A.1++E.1++B.1++[41],B.2)
def Az (s:St):RQ:=
 let E:=aS T s
 let m:=nx.expr E.2
 let B:=gZ T [105,110] m.2
 let A:=nx.expr B.2
 ([32,40,57]++E.1++m.1++B.1++A.1++[41],A.2)
def Pf (s:St):RQ:=
 let m:=aY T D n s
 if m.e≠0 then ([],m)
 else if m.inn=false/\isQ T [108,101,116] m=true then Xs T nx m
 else if m.inn=false/\isQ T [105,102] m=true then ifQ T nx m
 else if m.inn=false/\isQ T [97,115,115,101,114,116] m=true then Az T nx m
 else qG T D n nx m
end
def nxQ (T:List Tok) (D:Nat):Nat->Nx
 | 0=>{ expr:=fun m=>([],aY T D (D+1) m),formula:=fun m=>([],m),nots:=fun m=>([],m),factor:=fun m=>([],m) }
 | d+1=>{ expr:=Pf T D (D - d) (nxQ T D d),formula:=qG T D (D - d) (nxQ T D d),nots:=JI T D (D - d) (nxQ T D d),factor:=oD T D (D - d) (nxQ T D d) }
def Do (T:List Tok) (i:Nat):Nat:=((T.take i).map fun m=>m.text.length+8).sum
theorem JY (T:List Tok) {i:Nat} {t:Tok} (h:T[i]? = some t):Do T (i+1)=Do T i+(t.text.length+8):=by
 unfold Do;rw [List.take_add_one,h,List.map_append,List.sum_append];simp
theorem lc (T:List Tok) (n:Nat) (s:St):(aH T n s).i=s.i:=by unfold aH;split<;>rfl
theorem Wr (T:List Tok) (D n:Nat) (s:St):(aY T D n s).i=s.i:=by unfold aY;split;exact lc T 23 s;rfl
theorem ss {T:List Tok} {s:St} (h:(az T s).kind≠5):(aS T s).1.length+7+Do T s.i<=Do T (aS T s).2.i/\(aS T s).2.i=s.i+1:=by
 unfold aS
 rw [if_neg h]
 cases m:T[s.i]? with
 | none=>exact absurd (by unfold az;rw [m];rfl) h
 | some B=>
   have A:az T s=B:=by unfold az;rw [m];rfl
   rw [A,JY T m]
   refine⟨?_,rfl⟩
   simp only [hJ];omega
theorem ah {T:List Tok} {w:List UInt8} {s:St} (h:isQ T w s=true):(az T s).kind≠5/\s.e=0:=by
 unfold isQ at h
 have:=of_decide_eq_true h
 omega
end Go.Proofs.YtpkipghjohomcaaGreatDoor
namespace Go.Proofs.YtpkipghjohomcaaGreatDoor
open Go.RowKit
def dm (b:Nat):Nat->Prop:=fun m=>m=b
def vC (T:List Tok):Prop:=∀(m:Nat) (A:Tok),T[m]? = some A->(A.kind=5↔m+1=T.length)
theorem aK (b:Nat):dm b b:=rfl
theorem CP {X:Nat->Prop} {a b:World} (h:Fr2 X a b):Fr2 X a b.drew:=⟨h.os,h.tape,h.output,h.size,h.block⟩
section
variable {T:List Tok}
theorem Py {s:St} (h:rd T s=true):(az T s).kind≠5:=by
 unfold rd at h
 simp only [Bool.or_eq_true] at h
 rcases h with (h | h) | h<;>exact(ah h).1
theorem Mf {s:St} (h:rB T s=true):(az T s).kind≠5:=by
 unfold rB at h
 simp only [Bool.or_eq_true] at h
 rcases h with h | h<;>exact(ah h).1
theorem OM {s:St} (h:jf T s=true):(az T s).kind≠5:=by
 unfold jf at h
 simp only [Bool.or_eq_true] at h
 rcases h with ((((h | h) | h) | h) | h) | h<;>exact(ah h).1
end
theorem df (T:List Tok) {m:Nat} (A:m≠0) (s:St):(aH T m s).e≠0:=by
 unfold aH;split
 ·exact A
 ·assumption
def setIn (v:Bool) (s:St):St:={ s with inn:=v }
section
variable (T:List Tok) (ex:St->RQ)
def XX (a:RQ):RQ:=
 if isQ T [105,110,116] a.2=true\/isQ T [98,111,111,108] a.2=true then (a.1++([32,40,53]++(aS T a.2).1++[41]),(aS T a.2).2)
 else (a.1,aH T 22 a.2)
def Wm (b:RQ):RQ:=
 if isQ T [123] b.2=true then
  let A:=ex (setIn true (aS T b.2).2)
  let m:=gZ T [125] (setIn false A.2)
  (b.1++([32,40,54]++(aS T b.2).1++A.1++m.1++[41]),m.2)
 else b
def Au (s:St):RQ:=Wm T ex (XX T (gZ T [58] s))
def Oy (s:St):RQ:=
 let m:=mT T 1 s
 let A:=Au T ex m.2
 ([32,40,52]++m.1++A.1++[41],A.2)
def uC (s:St):RQ:=ww T (Oy T ex) (bG T (Oy T ex s).2) 1 (Oy T ex s)
def V3 (s:St):RQ:=if isQ T [112,117,98] s=true then ([32,40,51]++(aS T s).1,(aS T s).2) else ([32,40,51],s)
def Xi (p:RQ):RQ:=
 let B:=gZ T [102,117,110] p.2
 let m:=mT T 1 B.2
 let A:=gZ T [40] m.2
 (p.1++(B.1++m.1++A.1),A.2)
def Yg (o:RQ):RQ:=if o.2.e=0/\isQ T [41] o.2=false then (o.1++(uC T ex o.2).1,(uC T ex o.2).2) else o
def Yc (r:RQ):RQ:=
 let A:=gZ T [41] r.2
 let E:=Au T ex A.2
 let B:=gZ T [61] E.2
 let G:=ex B.2
 let m:=gZ T [59] G.2
 (r.1++(A.1++E.1++B.1)++G.1++m.1++[41],m.2)
def Rs (s:St):RQ:=Yc T ex (Yg T ex (Xi T (V3 T s)))
def AN (r:RQ):RQ:=
 let B:=aS T r.2
 let A:=mT T 1 B.2
 let m:=gZ T [59] A.2
 (r.1++([32,40,50]++B.1++A.1++m.1++[41]),m.2)
def DA (c:St->Bool) (step:RQ->RQ) (most:Nat):Nat->Nat->RQ->Bool×RQ
 | 0,_,r=>(true,r)
 | f+1,k,r=>if c r.2=true then (if k=most then (false,([],aH T 15 r.2)) else DA c step most f (k+1) (step r)) else (true,r)
def ki (s:St):Bool:=isQ T [112,117,98] s || isQ T [102,117,110] s
def jU (r:RQ):Bool×RQ:=DA T (isQ T [105,109,112,111,114,116]) (AN T) 16 (bG T r.2) 0 r
def AA (r:RQ):RQ:=(r.1++(Rs T ex r.2).1,(Rs T ex r.2).2)
def DD (r:RQ):Bool×RQ:=DA T (ki T) (AA T ex) 64 (bG T r.2) 0 r
def aas (r:RQ):RQ:=(r.1++(mT T 5 r.2).1++[41],(mT T 5 r.2).2)
def qy (s:St):RQ:=
 if (jU T ([40,49],s)).1=false then (jU T ([40,49],s)).2
 else if (DD T ex (jU T ([40,49],s)).2).1=false then (DD T ex (jU T ([40,49],s)).2).2
 else aas T (DD T ex (jU T ([40,49],s)).2).2
def Bl (s:St):RQ:=
 let A:=ex (setIn true s)
 let m:=mT T 5 A.2
 ([40,49,56]++A.1++m.1++[41],m.2)
end
theorem qZ {l:List UInt8} (h:(ai l).2.1=0):vC (ai l).1/\(ai l).1≠[]:=⟨fun A B m=>((ly h).1 A B m).2.1,(ly h).2⟩
def aI:St:=⟨0,false,0,0⟩
def aaQ (r:RQ):List UInt8×Nat×Nat:=if r.2.e=0 then (r.1,0,0) else ([],r.2.e,r.2.pos)
def GQ (T:List Tok) (D:Nat) (f:Bool):RQ:=if f=true then Bl T (nxQ T D D).expr aI else qy T (nxQ T D D).expr aI
def AX (l:List UInt8) (D:Nat) (f:Bool):List UInt8×Nat×Nat:=
 if 65536<l.length then ([],11,0)
 else if (ai l).2.1≠0 then ([],(ai l).2.1,(ai l).2.2)
 else aaQ (GQ (ai l).1 D f)
end Go.Proofs.YtpkipghjohomcaaGreatDoor
namespace Go.Proofs.YtpkipghjohomcaaGreatDoor
inductive Tr where
 | lf (i:Nat)
 | nd (k:Nat) (l:List Tr)
abbrev RT:=List Tr×St
def pE (k:Nat):List UInt8:=if k<10 then [UInt8.ofNat (48+k)] else [UInt8.ofNat (48+k / 10),UInt8.ofNat (48+k % 10)]
def ac3 (T:List Tok) (i:Nat):List UInt8:=if (T[i]?.getD ⟨5,[],[],0⟩).kind=5 then [36] else (T[i]?.getD ⟨5,[],[],0⟩).text
mutual
def dmp (T:List Tok):Tr->List UInt8
 | .lf m=>ac3 T m
 | .nd A B=>40::pE A++jp T B++[41]
def jp (T:List Tok):List Tr->List UInt8
 | []=>[]
 | t::l=>32::dmp T t++jp T l
end
theorem aT (T:List Tok) (a b:List Tr):jp T (a++b)=jp T a++jp T b:=by
 induction a with
 | nil=>simp [jp]
 | cons A a m=>simp [jp,m]
theorem dc (T:List Tok) (k:Nat) (l:List Tr):jp T [.nd k l] = [32,40]++pE k++jp T l++[41]:=by simp [jp,dmp]
theorem iX (T:List Tok):jp T [] = []:=by simp [jp]
def im (T:List Tok) (a:RT):RQ:=(jp T a.1,a.2)
theorem em (T:List Tok) (a:RT):(im T a).1=jp T a.1:=rfl
theorem dN (T:List Tok) (a:RT):(im T a).2=a.2:=rfl
theorem gC (T:List Tok) (p:Prop) [Decidable p] (a b:RT):im T (if p then a else b)=if p then im T a else im T b:=by split<;>rfl
section
variable (T:List Tok)
def ae (s:St):RT:=([.lf s.i],(aS T s).2)
def an (w:List UInt8) (s:St):RT:=if isQ T w s=true then ae T s else ([],aH T 22 s)
def aM (k:Nat) (s:St):RT:=if s.e=0/\(az T s).kind=k then ae T s else ([],aH T 22 s)
theorem fE (s:St):aS T s=im T (ae T s):=by
 have h:(aS T s).1=jp T [.lf s.i]:=by
  unfold aS
  simp only [jp,dmp,ac3,az]
  split<;>rename_i m<;>simp [m]
 exact Prod.ext h rfl
theorem jZ (w:List UInt8) (s:St):gZ T w s=im T (an T w s):=by
 unfold gZ an
 rw [gC,fE];simp [im,jp]
theorem lZ (k:Nat) (s:St):mT T k s=im T (aM T k s):=by
 unfold mT aM
 rw [gC,fE];simp [im,jp]
def rwT (c:St->Bool) (sub:St->RT):Nat->RT->RT
 | 0,r=>r
 | f+1,r=>if c r.2=true then rwT c sub f ([.nd 10 (r.1++(ae T r.2).1++(sub (ae T r.2).2).1)],(sub (ae T r.2).2).2) else r
theorem DG {c:St->Bool} {sub:St->RQ} {m:St->RT} (h:∀s,sub s=im T (m s)):∀f r,F4 T c sub f (im T r)=im T (rwT T c m f r)
 | 0,r=>rfl
 | f+1,r=>by
   unfold F4 rwT
   rw [gC,dN,<-DG h f,fE,h]
   simp only [im,dc,aT]
   rfl
def bT (sub:St->RT):Nat->Nat->RT->RT
 | 0,_,r=>r
 | f+1,k,r=>if isQ T [44] r.2=true then
   let m:=ae T r.2
   let A:=if k=8 then aH T 15 m.2 else m.2
   bT sub f (k+1) (r.1++m.1++(sub A).1,(sub A).2)
   else r
theorem Bm {sub:St->RQ} {m:St->RT} (h:∀s,sub s=im T (m s)):∀f k r,ww T sub f k (im T r)=im T (bT T m f k r)
 | 0,k,r=>rfl
 | f+1,k,r=>by
   unfold ww bT
   simp only []
   rw [gC,dN,<-Bm h f,fE]
   simp only [dN,h,em]
   simp only [im,aT]
structure NxT where
 expr:St->RT
 formula:St->RT
 nots:St->RT
 factor:St->RT
structure NxM (nx:Nx) (nt:NxT):Prop where
 expr:∀s,nx.expr s=im T (nt.expr s)
 formula:∀s,nx.formula s=im T (nt.formula s)
 nots:∀s,nx.nots s=im T (nt.nots s)
 factor:∀s,nx.factor s=im T (nt.factor s)
end
section
variable (T:List Tok) (D n:Nat) (nt:NxT)
def lz (s:St):RT:=bT T nt.expr (bG T (nt.expr s).2) 1 (nt.expr s)
def dh (a:RT):RT:=if isQ T [46] a.2=true then (a.1++(ae T a.2).1++(aM T 1 (ae T a.2).2).1,(aM T 1 (ae T a.2).2).2) else a
def de (b:RT):RT:=(b.1++(an T [40] b.2).1,(an T [40] b.2).2)
def cM (c:RT):RT:=if isQ T [41] c.2=true then c else (c.1++(lz T nt c.2).1,(lz T nt c.2).2)
def jr (d:RT):RT:=([.nd 13 (d.1++(an T [41] d.2).1)],(an T [41] d.2).2)
def eV (s:St):RT:=
 if (ae T s).2.inn=true\/(isQ T [46] (ae T s).2=false/\isQ T [40] (ae T s).2=false) then ([.nd 14 (ae T s).1],(ae T s).2)
 else jr T (cM T nt (de T (dh T (ae T s))))
def cQ (s:St):RT:=
 if s.e≠0 then ([],s)
 else if (az T s).kind=3 then ([.nd 15 (ae T s).1],(ae T s).2)
 else if isQ T [116,114,117,101] s=true\/isQ T [102,97,108,115,101] s=true then ([.nd 16 (ae T s).1],(ae T s).2)
 else if s.inn=true/\isQ T [114,101,115] s=true then ([.nd 17 (ae T s).1],(ae T s).2)
 else if isQ T [40] s=true then
  let B:=ae T s
  let m:=nt.expr B.2
  let A:=an T [41] m.2
  ([.nd 12 (B.1++m.1++A.1)],A.2)
 else if (az T s).kind=1 then eV T nt s
 else ([],aH T 22 s)
def gL (sub:St->RT) (s:St):RT:=
 let A:=ae T s
 let m:=aY T D (n+1) A.2
 if m.e≠0 then ([],m) else ([.nd 11 (A.1++(sub m).1)],(sub m).2)
def bz (s:St):RT:=if isQ T [45] s=true then gL T D n nt.factor s else cQ T nt s
def dH (s:St):RT:=rwT T (rd T) (bz T D n nt) (bG T (bz T D n nt s).2) (bz T D n nt s)
def ew (s:St):RT:=rwT T (rB T) (dH T D n nt) (bG T (dH T D n nt s).2) (dH T D n nt s)
def gp (s:St):RT:=
 if isQ T [110,111,116] s=true then gL T D n nt.nots s
 else
  let m:=ew T D n nt s
  if jf T m.2=true then
   let B:=ae T m.2
   let A:=ew T D n nt B.2
   ([.nd 10 (m.1++B.1++A.1)],A.2)
  else m
def oN (s:St):RT:=rwT T (isQ T [38,38]) (gp T D n nt) (bG T (gp T D n nt s).2) (gp T D n nt s)
def orT (s:St):RT:=rwT T (isQ T [124,124]) (oN T D n nt) (bG T (oN T D n nt s).2) (oN T D n nt s)
def aP (s:St):RT:=
 let m:=orT T D n nt s
 if isQ T [61,62] m.2=true then
  let B:=ae T m.2
  let A:=aY T D (n+1) B.2
  if A.e≠0 then ([],A) else ([.nd 10 (m.1++B.1++(nt.formula A).1)],(nt.formula A).2)
 else m
def qN (s:St):RT:=
 let G:=ae T s
 let E:=aM T 1 G.2
 let H:=an T [61] E.2
 let m:=nt.expr H.2
 let B:=an T [105,110] m.2
 let A:=nt.expr B.2
 ([.nd 7 (G.1++E.1++H.1++m.1++B.1++A.1)],A.2)
def ifT (s:St):RT:=
 let G:=ae T s
 let m:=nt.expr G.2
 let H:=an T [116,104,101,110] m.2
 let A:=nt.expr H.2
 let E:=an T [101,108,115,101] A.2
 let B:=nt.expr E.2
 ([.nd 8 (G.1++m.1++H.1++A.1++E.1++B.1)],B.2)
def fL (s:St):RT:=
 let E:=ae T s
 let m:=nt.expr E.2
 let B:=an T [105,110] m.2
 let A:=nt.expr B.2
 ([.nd 9 (E.1++m.1++B.1++A.1)],A.2)
def fK (s:St):RT:=
 let m:=aY T D n s
 if m.e≠0 then ([],m)
 else if m.inn=false/\isQ T [108,101,116] m=true then qN T nt m
 else if m.inn=false/\isQ T [105,102] m=true then ifT T nt m
 else if m.inn=false/\isQ T [97,115,115,101,114,116] m=true then fL T nt m
 else aP T D n nt m
variable {nx:Nx} (h:NxM T nx nt)
include h
theorem VU (s:St):GJ T nx s=im T (lz T nt s):=by
 unfold GJ lz;rw [h.expr,Bm T h.expr];rfl
omit h in
theorem RP (a:RT):L7 T (im T a)=im T (dh T a):=by
 unfold L7 dh;rw [gC];simp only [dN,fE,lZ,em];simp only [im,aT]
omit h in
theorem Ss (a:RT):MQ T (im T a)=im T (de T a):=by
 unfold MQ de;simp only [dN,jZ,em];simp only [im,aT]
theorem QP (a:RT):LA T nx (im T a)=im T (cM T nt a):=by
 unfold LA cM;rw [gC];simp only [dN,VU T nt h,em];simp only [im,aT]
omit h in
theorem Rd (a:RT):Oh T (im T a)=im T (jr T a):=by
 unfold Oh jr;simp only [dN,jZ,em];simp only [im,aT,dc];simp [pE]
theorem XT (s:St):Pu T nx s=im T (eV T nt s):=by
 have B:(ae T s).2=(aS T s).2:=rfl
 unfold Pu eV
 by_cases A:(aS T s).2.inn=true\/(isQ T [46] (aS T s).2=false/\isQ T [40] (aS T s).2=false)
 ·have m:=A
  rw [<-B] at m
  rw [if_pos A,if_pos m,fE];simp only [im,dc];rfl
 ·have m:=A
  rw [<-B] at m
  rw [if_neg A,if_neg m,fE,RP,Ss,QP T nt h,Rd]
theorem Wb (s:St):Mz T nx s=im T (cQ T nt s):=by
 unfold Mz cQ
 simp only [gC,fE,dN,em,h.expr,jZ,XT T nt h]
 simp only [im,dc,aT,iX];simp [pE]
omit h in
theorem Pv {sub:St->RQ} {m:St->RT} (A:∀s,sub s=im T (m s)) (s:St):Gg T D n sub s=im T (gL T D n m s):=by
 unfold Gg gL
 simp only [gC,fE,dN,em,A]
 simp only [im,dc,aT,iX];simp [pE]
theorem wm (s:St):oD T D n nx s=im T (bz T D n nt s):=by
 unfold oD bz;rw [gC,Pv T D n h.factor,Wb T nt h]
theorem Ab (s:St):m6 T D n nx s=im T (dH T D n nt s):=by
 unfold m6 dH;rw [wm T D n nt h,DG T (wm T D n nt h)];rfl
theorem ZN (s:St):Re T D n nx s=im T (ew T D n nt s):=by
 unfold Re ew;rw [Ab T D n nt h,DG T (Ab T D n nt h)];rfl
theorem NF (s:St):JI T D n nx s=im T (gp T D n nt s):=by
 unfold JI gp
 simp only [gC,Pv T D n h.nots,ZN T D n nt h,fE,dN,em]
 simp only [im,dc,aT,iX];simp [pE]
theorem TL (s:St):Of T D n nx s=im T (oN T D n nt s):=by
 unfold Of oN;rw [NF T D n nt h,DG T (NF T D n nt h)];rfl
theorem afY (s:St):orQ T D n nx s=im T (orT T D n nt s):=by
 unfold orQ orT;rw [TL T D n nt h,DG T (TL T D n nt h)];rfl
theorem zi (s:St):qG T D n nx s=im T (aP T D n nt s):=by
 unfold qG aP
 simp only [gC,afY T D n nt h,fE,dN,em,h.formula]
 simp only [im,dc,aT,iX];simp [pE]
theorem acJ (s:St):Xs T nx s=im T (qN T nt s):=by
 unfold Xs qN
 simp only [fE,dN,em,h.expr,jZ,lZ]
 simp only [im,dc,aT,iX];simp [pE]
theorem agu (s:St):ifQ T nx s=im T (ifT T nt s):=by
 unfold ifQ ifT
 simp only [fE,dN,em,h.expr,jZ,lZ]
 simp only [im,dc,aT,iX];simp [pE]
theorem Ma (s:St):Az T nx s=im T (fL T nt s):=by
 unfold Az fL
 simp only [fE,dN,em,h.expr,jZ,lZ]
 simp only [im,dc,aT,iX];simp [pE]
theorem XN (s:St):Pf T D n nx s=im T (fK T D n nt s):=by
 unfold Pf fK
 simp only [gC,acJ T nt h,agu T nt h,Ma T nt h,zi T D n nt h]
 simp only [im,iX]
end
def nxT (T:List Tok) (D:Nat):Nat->NxT
 | 0=>{ expr:=fun m=>([],aY T D (D+1) m),formula:=fun m=>([],m),nots:=fun m=>([],m),factor:=fun m=>([],m) }
 | d+1=>{ expr:=fK T D (D - d) (nxT T D d),formula:=aP T D (D - d) (nxT T D d),nots:=gp T D (D - d) (nxT T D d),factor:=bz T D (D - d) (nxT T D d) }
theorem PB (T:List Tok) (D:Nat):∀d,NxM T (nxQ T D d) (nxT T D d)
 | 0=>⟨fun m=>by simp [nxQ,nxT,im,jp],fun m=>by simp [nxQ,nxT,im,jp],fun m=>by simp [nxQ,nxT,im,jp],fun m=>by simp [nxQ,nxT,im,jp]⟩
 | d+1=>⟨XN T D _ _ (PB T D d),zi T D _ _ (PB T D d),NF T D _ _ (PB T D d),wm T D _ _ (PB T D d)⟩
end Go.Proofs.YtpkipghjohomcaaGreatDoor
namespace Go.Proofs.YtpkipghjohomcaaGreatDoor
section
variable (T:List Tok) (et:St->RT)
def iY (a:RT):RT:=
 if isQ T [105,110,116] a.2=true\/isQ T [98,111,111,108] a.2=true then (a.1++[.nd 5 (ae T a.2).1],(ae T a.2).2)
 else (a.1,aH T 22 a.2)
def iD (b:RT):RT:=
 if isQ T [123] b.2=true then
  let A:=et (setIn true (ae T b.2).2)
  let m:=an T [125] (setIn false A.2)
  (b.1++[.nd 6 ((ae T b.2).1++A.1++m.1)],m.2)
 else b
def cj (s:St):RT:=iD T et (iY T (an T [58] s))
def fD (s:St):RT:=
 let m:=aM T 1 s
 let A:=cj T et m.2
 ([.nd 4 (m.1++A.1)],A.2)
def fI (s:St):RT:=bT T (fD T et) (bG T (fD T et s).2) 1 (fD T et s)
def cV (s:St):RT:=if isQ T [112,117,98] s=true then ae T s else ([],s)
def dJ (p:RT):RT:=
 let B:=an T [102,117,110] p.2
 let m:=aM T 1 B.2
 let A:=an T [40] m.2
 (p.1++(B.1++m.1++A.1),A.2)
def eH (o:RT):RT:=if o.2.e=0/\isQ T [41] o.2=false then (o.1++(fI T et o.2).1,(fI T et o.2).2) else o
def gv (r:RT):RT:=
 let A:=an T [41] r.2
 let E:=cj T et A.2
 let B:=an T [61] E.2
 let G:=et B.2
 let m:=an T [59] G.2
 (r.1++(A.1++E.1++B.1)++G.1++m.1,m.2)
def jg (s:St):RT:=([.nd 3 (gv T et (eH T et (dJ T (cV T s)))).1],(gv T et (eH T et (dJ T (cV T s)))).2)
def fB (r:RT):RT:=
 let B:=ae T r.2
 let A:=aM T 1 B.2
 let m:=an T [59] A.2
 (r.1++[.nd 2 (B.1++A.1++m.1)],m.2)
def eW (c:St->Bool) (step:RT->RT) (most:Nat):Nat->Nat->RT->Bool×RT
 | 0,_,r=>(true,r)
 | f+1,k,r=>if c r.2=true then (if k=most then (false,([],aH T 15 r.2)) else eW c step most f (k+1) (step r)) else (true,r)
def aG (r:RT):Bool×RT:=eW T (isQ T [105,109,112,111,114,116]) (fB T) 16 (bG T r.2) 0 r
def jh (r:RT):RT:=(r.1++(jg T et r.2).1,(jg T et r.2).2)
def dk (r:RT):Bool×RT:=eW T (ki T) (jh T et) 64 (bG T r.2) 0 r
def bE (s:St):RT:=
 if (aG T ([],s)).1=false then (aG T ([],s)).2
 else if (dk T et (aG T ([],s)).2).1=false then (dk T et (aG T ([],s)).2).2
 else ((dk T et (aG T ([],s)).2).2.1++(aM T 5 (dk T et (aG T ([],s)).2).2.2).1,(aM T 5 (dk T et (aG T ([],s)).2).2.2).2)
def dY (s:St):RT:=
 let A:=et (setIn true s)
 let m:=aM T 5 A.2
 (A.1++m.1,m.2)
variable {ex:St->RQ} (h:∀s,ex s=im T (et s))
include h
omit h in
theorem X5 (a:RT):XX T (im T a)=im T (iY T a):=by
 unfold XX iY;rw [gC];simp only [dN,fE,em];simp only [im,aT,dc];rfl
theorem VX (a:RT):Wm T ex (im T a)=im T (iD T et a):=by
 unfold Wm iD;simp only [gC,dN,fE,em,h,jZ];simp only [im,aT,dc];simp [pE]
theorem Gd (s:St):Au T ex s=im T (cj T et s):=by
 unfold Au cj;rw [jZ,X5,VX T et h]
theorem Uy (s:St):Oy T ex s=im T (fD T et s):=by
 unfold Oy fD;simp only [lZ,dN,Gd T et h,em];simp only [im,aT,dc];simp [pE]
theorem MC (s:St):uC T ex s=im T (fI T et s):=by
 unfold uC fI;rw [Uy T et h,Bm T (Uy T et h)];rfl
def ahead (a:List UInt8) (r:RQ):RQ:=(a++r.1,r.2)
omit h in
theorem UV (s:St):V3 T s=ahead [32,40,51] (im T (cV T s)):=by
 unfold V3 cV;rw [gC,fE];split<;>simp [ahead,im,jp]
omit h in
theorem UY (a:RT):Xi T (ahead [32,40,51] (im T a))=ahead [32,40,51] (im T (dJ T a)):=by
 unfold Xi dJ
 show((ahead [32,40,51] (im T a)).1++_,_)=_
 simp only [ahead,dN,jZ,lZ,em]
 simp only [im,aT];simp
theorem VJ (a:RT):Yg T ex (ahead [32,40,51] (im T a))=ahead [32,40,51] (im T (eH T et a)):=by
 unfold Yg eH
 rw [gC]
 simp only [ahead,dN,MC T et h,em]
 split<;>simp [im,aT]
theorem Yt (a:RT):Yc T ex (ahead [32,40,51] (im T a))=(([32,40,51]++(im T (gv T et a)).1++[41]),(gv T et a).2):=by
 unfold Yc gv
 simp only [ahead,dN,jZ,Gd T et h,h,em]
 simp only [im,aT];simp
theorem Z5 (s:St):Rs T ex s=im T (jg T et s):=by
 unfold Rs jg
 rw [UV,UY,VJ T et h,Yt T et h]
 simp only [im,dc];rfl
omit h in
theorem Ja (r:RT):AN T (ahead [40,49] (im T r))=ahead [40,49] (im T (fB T r)):=by
 unfold AN fB
 simp only [ahead,dN,fE,jZ,lZ,em]
 simp only [im,aT,dc];simp [pE]
theorem KA (r:RT):AA T ex (ahead [40,49] (im T r))=ahead [40,49] (im T (jh T et r)):=by
 unfold AA jh
 simp only [ahead,dN,Z5 T et h,em]
 simp only [im,aT];simp
def Ay (T:List Tok) (b:Bool×RT):Bool×RQ:=(b.1,if b.1=true then ahead [40,49] (im T b.2) else im T b.2)
omit h in
theorem ER {c:St->Bool} {step:RQ->RQ} {stepT:RT->RT} {most:Nat} (m:∀r,step (ahead [40,49] (im T r))=ahead [40,49] (im T (stepT r))):∀f k r,DA T c step most f k (ahead [40,49] (im T r))=Ay T (eW T c stepT most f k r)
 | 0,k,r=>rfl
 | f+1,k,r=>by
   unfold DA eW
   have A:(ahead [40,49] (im T r)).2=r.2:=rfl
   rw [A]
   split
   ·split
    ·simp [Ay,im,jp]
    ·rw [m,ER m f]
   ·rfl
omit h in
theorem IF (s:St):jU T ([40,49],s)=Ay T (aG T ([],s)):=by
 have m:(([40,49],s):RQ)=ahead [40,49] (im T ([],s)):=by simp [ahead,im,jp]
 unfold jU aG
 rw [m,ER T (Ja T)];rfl
theorem XL (r:RT):DD T ex (ahead [40,49] (im T r))=Ay T (dk T et r):=by
 unfold DD dk
 rw [ER T (KA T et h)];rfl
omit h in
theorem iA {c:St->Bool} {stepT:RT->RT} {most:Nat}:∀f k r,(eW T c stepT most f k r).1=false->(eW T c stepT most f k r).2.2.e≠0
 | 0,k,r,hh=>by cases hh
 | f+1,k,r,hh=>by
   unfold eW at hh ⊢
   split at hh
   ·rename_i A
    rw [if_pos A]
    split at hh
    ·rename_i m
     rw [if_pos m]
     exact df T (by decide) _
    ·rename_i m
     rw [if_neg m]
     exact iA f _ _ hh
   ·cases hh
theorem I2 (s:St):(qy T ex s).2=(bE T et s).2/\((bE T et s).2.e=0->(qy T ex s).1=dmp T (.nd 1 (bE T et s).1)):=by
 have Y:=iA T (c:=isQ T [105,109,112,111,114,116]) (stepT:=fB T) (most:=16) (bG T s) 0 ([],s)
 have G:(aG T ([],s)).1=false->(aG T ([],s)).2.2.e≠0:=Y
 have hI:=IF T s
 unfold qy bE
 rw [hI]
 generalize aG T ([],s)=I at *
 obtain⟨i1,m⟩:=I
 cases i1
 ·refine⟨rfl,fun A=>absurd A (G rfl)⟩
 ·have H:=iA T (c:=ki T) (stepT:=jh T et) (most:=64) (bG T m.2) 0 m
  have E:(dk T et m).1=false->(dk T et m).2.2.e≠0:=H
  have Z:=XL T et h m
  have L:(Ay T (true,m)).2=ahead [40,49] (im T m):=rfl
  have O:(Ay T (true,m)).1=true:=rfl
  rw [L,Z,O]
  show(if true=false then _ else _:RQ).2=(if true=false then _ else _:RT).2/\_
  generalize dk T et m=J at *
  obtain⟨j1,B⟩:=J
  cases j1
  ·refine⟨by simp [Ay,im],fun A=>absurd A (by simpa using E rfl)⟩
  ·have R:(Ay T (true,B)).2=ahead [40,49] (im T B):=rfl
   have U:(Ay T (true,B)).1=true:=rfl
   rw [R,U]
   simp only [aas,ahead,dN,lZ,em]
   refine⟨by simp,fun _=>?_⟩
   simp only [dmp];simp [pE,aT]
theorem G9 (s:St):(Bl T ex s).2=(dY T et s).2/\(Bl T ex s).1=dmp T (.nd 18 (dY T et s).1):=by
 unfold Bl dY
 simp only [h,dN,lZ,em]
 refine⟨trivial,?_⟩
 simp only [dmp,aT];simp [pE]
end
end Go.Proofs.YtpkipghjohomcaaGreatDoor
namespace Go.Proofs.YtpkipghjohomcaaGreatDoor
structure Good (T:List Tok) (s:St) (r:RT):Prop where
 stay:s.e≠0->r.2.e=s.e/\r.2.pos=s.pos/\r.2.i=s.i
 mono:s.i<=r.2.i
 place:s.e=0->r.2.e≠0->r.2.pos=(az T r.2).pos
 inr:vC T->s.i<T.length->r.2.i<T.length
theorem Good.nil (T:List Tok) (s:St):Good T s ([],s):=⟨fun _=>⟨rfl,rfl,rfl⟩,Nat.le_refl _,fun h m=>absurd h m,fun _ h=>h⟩
theorem Good.self (T:List Tok) (r:RT):Good T r.2 r:=⟨fun _=>⟨rfl,rfl,rfl⟩,Nat.le_refl _,fun h m=>absurd h m,fun _ h=>h⟩
theorem Good.app {T:List Tok} {s:St} {a b:RT} (B:Good T s a) (m:Good T a.2 b):Good T s (a.1++b.1,b.2):=by
 refine⟨fun A=>?_,Nat.le_trans B.mono m.mono,fun A Y=>?_,fun L h=>m.inr L (B.inr L h)⟩
 ·obtain⟨I,O,R⟩:=B.stay A
  obtain⟨J,E,G⟩:=m.stay (by rw [I];exact A)
  exact⟨J.trans I,E.trans O,G.trans R⟩
 ·by_cases H:a.2.e=0
  ·exact m.place H Y
  ·obtain⟨J,E,G⟩:=m.stay H
   have:=B.place A H
   show b.2.pos=(az T b.2).pos
   have U:az T b.2=az T a.2:=by unfold az;rw [G]
   rw [E,U];exact this
theorem Good.state {T:List Tok} {s:St} {a b:RT} (m:Good T s a) (A:Good T a.2 b) {l:List Tr}:Good T s (l,b.2):=
 ⟨(m.app A).stay,(m.app A).mono,(m.app A).place,(m.app A).inr⟩
theorem Good.node {T:List Tok} {s:St} {l:List Tr} {t:St} (k:Nat) (h:Good T s (l,t)):Good T s ([.nd k l],t):=⟨h.stay,h.mono,h.place,h.inr⟩
theorem Good.inn {T:List Tok} {s:St} {v:Bool} {r:RT} (h:Good T (setIn v s) r):Good T s r:=⟨h.stay,h.mono,h.place,h.inr⟩
theorem OH {T:List Tok} {s:St} (h:rd T s=true):s.e=0:=by
 unfold rd at h;simp only [Bool.or_eq_true] at h;rcases h with (h | h) | h<;>exact(ah h).2
theorem Mh {T:List Tok} {s:St} (h:rB T s=true):s.e=0:=by
 unfold rB at h;simp only [Bool.or_eq_true] at h;rcases h with h | h<;>exact(ah h).2
theorem DZ {T:List Tok} {s:St} (h:jf T s=true):s.e=0:=by
 unfold jf at h;simp only [Bool.or_eq_true] at h;rcases h with ((((h | h) | h) | h) | h) | h<;>exact(ah h).2
section
variable (T:List Tok)
theorem aE {s:St} (h:s.e=0):Good T s (ae T s):=by
 have B:(ae T s).2.e=0:=by show(aS T s).2.e=0;unfold aS;split<;>exact h
 refine⟨fun m=>absurd h m,?_,fun _ m=>absurd B m,fun E A=>?_⟩
 rotate_left
 ·show(aS T s).2.i<T.length
  have G:T[s.i]? = some (az T s):=by unfold az;rw [QS A];rfl
  have:=E _ _ G
  unfold aS;split
  ·exact A
  ·show s.i+1<T.length;omega
 show s.i<=(aS T s).2.i
 unfold aS;split
 ·exact Nat.le_refl _
 ·exact Nat.le_succ _
theorem iM (n:Nat) (s:St) (l:List Tr):Good T s (l,aH T n s):=by
 refine⟨fun m=>?_,?_,fun m _=>?_,fun _ A=>by show(aH T n s).i<_;rw [lc];exact A⟩
 ·have h:aH T n s=s:=by unfold aH;rw [if_neg m]
  show(aH T n s).e=s.e/\(aH T n s).pos=s.pos/\(aH T n s).i=s.i
  rw [h];exact⟨rfl,rfl,rfl⟩
 ·show s.i<=(aH T n s).i;rw [lc];exact Nat.le_refl _
 ·show(aH T n s).pos=(az T (aH T n s)).pos;unfold aH;rw [if_pos m];rfl
theorem aW (w:List UInt8) (s:St):Good T s (an T w s):=by
 unfold an
 split
 ·rename_i h;exact aE T (ah h).2
 ·exact iM T 22 s []
theorem dT (k:Nat) (s:St):Good T s (aM T k s):=by
 unfold aM
 split
 ·rename_i h;exact aE T h.1
 ·exact iM T 22 s []
theorem eo {D n:Nat} {s:St} {r:RT} (h:Good T (aY T D n s) r):Good T s r:=by
 have m:Good T s (([]:List Tr),aY T D n s):=by
  unfold aY;split
  ·exact iM T 23 s []
  ·exact Good.nil T s
 exact m.app h
theorem fZ {c:St->Bool} {sub:St->RT} (m:∀s,c s=true->s.e=0) (A:∀s,Good T s (sub s)) {s:St}:∀f r,Good T s r->Good T s (rwT T c sub f r)
 | 0,r,h=>h
 | f+1,r,h=>by
   unfold rwT
   split
   ·rename_i B
    refine fZ m A f _ (Good.node 10 ?_)
    exact(h.app (aE T (m _ B))).app (A _)
   ·exact h
theorem ft {sub:St->RT} (m:∀s,Good T s (sub s)) {s:St}:∀f k r,Good T s r->Good T s (bT T sub f k r)
 | 0,k,r,h=>h
 | f+1,k,r,h=>by
   unfold bT
   split
   ·rename_i A
    refine ft m f _ _ ?_
    refine(h.app (aE T (ah A).2)).app ?_
    split
    ·exact(iM T 15 _ []).app (m _)
    ·exact m _
   ·exact h
structure NxG (T:List Tok) (nt:NxT):Prop where
 expr:∀s,Good T s (nt.expr s)
 formula:∀s,Good T s (nt.formula s)
 nots:∀s,Good T s (nt.nots s)
 factor:∀s,Good T s (nt.factor s)
end
section
variable (T:List Tok) (D n:Nat) {nt:NxT} (h:NxG T nt)
include h
theorem Ko (s:St):Good T s (lz T nt s):=ft T h.expr _ _ _ (h.expr s)
omit h in
theorem wg {s:St} {a:RT} (m:Good T s a):Good T s (dh T a):=by
 unfold dh
 split
 ·rename_i A;exact(m.app (aE T (ah A).2)).app (dT T _ _)
 ·exact m
omit h in
theorem uX {s:St} {a:RT} (m:Good T s a):Good T s (de T a):=m.app (aW T _ _)
theorem F1 {s:St} {a:RT} (m:Good T s a):Good T s (cM T nt a):=by
 unfold cM
 split
 ·exact m
 ·exact m.app (Ko T h _)
omit h in
theorem pU {s:St} {a:RT} (m:Good T s a):Good T s (jr T a):=Good.node 13 (m.app (aW T _ _))
theorem Jd {s:St} (m:s.e=0):Good T s (eV T nt s):=by
 unfold eV
 split
 ·exact Good.node 14 (aE T m)
 ·exact pU T (F1 T h (uX T (wg T (aE T m))))
theorem sR (s:St):Good T s (cQ T nt s):=by
 unfold cQ
 split
 ·exact Good.nil T s
 rename_i m
 have m:s.e=0:=by omega
 split
 ·exact Good.node 15 (aE T m)
 split
 ·exact Good.node 16 (aE T m)
 split
 ·exact Good.node 17 (aE T m)
 split
 ·exact Good.node 12 (((aE T m).app (h.expr _)).app (aW T _ _))
 split
 ·exact Jd T h m
 ·exact iM T 22 s []
omit h in
theorem yP {sub:St->RT} (A:∀s,Good T s (sub s)) {s:St} (m:s.e=0):Good T s (gL T D n sub s):=by
 unfold gL
 simp only []
 split
 ·exact(aE T m).state (eo T (Good.nil T _))
 ·exact Good.node 11 ((aE T m).app (eo T (A _)))
theorem gV (s:St):Good T s (bz T D n nt s):=by
 unfold bz
 split
 ·rename_i m;exact yP T D n h.factor (ah m).2
 ·exact sR T h s
theorem lW (s:St):Good T s (dH T D n nt s):=fZ T (fun _ m=>OH m) (gV T D n h) _ _ (gV T D n h s)
theorem wy (s:St):Good T s (ew T D n nt s):=fZ T (fun _ m=>Mh m) (lW T D n h) _ _ (lW T D n h s)
theorem lM (s:St):Good T s (gp T D n nt s):=by
 unfold gp
 simp only []
 split
 ·rename_i m;exact yP T D n h.nots (ah m).2
 split
 ·rename_i m;exact Good.node 10 (((wy T D n h s).app (aE T (DZ m))).app (wy T D n h _))
 ·exact wy T D n h s
theorem wC (s:St):Good T s (oN T D n nt s):=fZ T (fun _ m=>(ah m).2) (lM T D n h) _ _ (lM T D n h s)
theorem Ba (s:St):Good T s (orT T D n nt s):=fZ T (fun _ m=>(ah m).2) (wC T D n h) _ _ (wC T D n h s)
theorem iw (s:St):Good T s (aP T D n nt s):=by
 unfold aP
 simp only []
 split
 ·rename_i m
  split
  ·exact((Ba T D n h s).app (aE T (ah m).2)).state (eo T (Good.nil T _))
  ·exact Good.node 10 (((Ba T D n h s).app (aE T (ah m).2)).app (eo T (h.formula _)))
 ·exact Ba T D n h s
theorem CR {s:St} (m:s.e=0):Good T s (qN T nt s):=
 Good.node 7 ((((((aE T m).app (dT T _ _)).app (aW T _ _)).app (h.expr _)).app (aW T _ _)).app (h.expr _))
theorem Gp {s:St} (m:s.e=0):Good T s (ifT T nt s):=
 Good.node 8 ((((((aE T m).app (h.expr _)).app (aW T _ _)).app (h.expr _)).app (aW T _ _)).app (h.expr _))
theorem tO {s:St} (m:s.e=0):Good T s (fL T nt s):=
 Good.node 9 ((((aE T m).app (h.expr _)).app (aW T _ _)).app (h.expr _))
theorem IJ (s:St):Good T s (fK T D n nt s):=by
 unfold fK
 simp only []
 split
 ·exact eo T (Good.nil T _)
 split
 ·rename_i m;exact eo T (CR T h (ah m.2).2)
 split
 ·rename_i m;exact eo T (Gp T h (ah m.2).2)
 split
 ·rename_i m;exact eo T (tO T h (ah m.2).2)
 ·exact eo T (iw T D n h _)
end
theorem ey (T:List Tok) (D:Nat):∀d,NxG T (nxT T D d)
 | 0=>⟨fun s=>eo T (Good.nil T _),fun s=>Good.nil T s,fun s=>Good.nil T s,fun s=>Good.nil T s⟩
 | d+1=>⟨IJ T D _ (ey T D d),iw T D _ (ey T D d),lM T D _ (ey T D d),gV T D _ (ey T D d)⟩
section
variable (T:List Tok) {et:St->RT} (h:∀s,Good T s (et s))
include h
omit h in
theorem zv {s:St} {a:RT} (A:Good T s a):Good T s (iY T a):=by
 unfold iY
 split
 ·rename_i m;exact A.app (Good.node 5 (aE T (by rcases m with m | m<;>exact(ah m).2)))
 ·exact A.state (iM T 22 _ [])
theorem I7 {s:St} {a:RT} (m:Good T s a):Good T s (iD T et a):=by
 unfold iD
 split
 ·rename_i A
  refine m.app (Good.node 6 (((aE T (ah A).2).app ?_).app ?_))
  ·exact(h _).inn
  ·exact(aW T _ _).inn
 ·exact m
theorem km (s:St):Good T s (cj T et s):=I7 T h (zv T (aW T _ s))
theorem ne (s:St):Good T s (fD T et s):=Good.node 4 ((dT T _ s).app (km T h _))
theorem Db (s:St):Good T s (fI T et s):=ft T (ne T h) _ _ _ (ne T h s)
omit h in
theorem zI (s:St):Good T s (cV T s):=by
 unfold cV
 split
 ·rename_i m;exact aE T (ah m).2
 ·exact Good.nil T s
omit h in
theorem sT {s:St} {a:RT} (m:Good T s a):Good T s (dJ T a):=m.app (((aW T _ _).app (dT T _ _)).app (aW T _ _))
theorem sV {s:St} {a:RT} (m:Good T s a):Good T s (eH T et a):=by
 unfold eH
 split
 ·exact m.app (Db T h _)
 ·exact m
theorem oB {s:St} {a:RT} (m:Good T s a):Good T s (gv T et a):=
 ((m.app (((aW T _ _).app (km T h _)).app (aW T _ _))).app (h _)).app (aW T _ _)
theorem mU (s:St):Good T s (jg T et s):=Good.node 3 (oB T h (sV T h (sT T (zI T s))))
omit h in
theorem qw {s:St} {r:RT} (A:Good T s r) (m:isQ T [105,109,112,111,114,116] r.2=true):Good T s (fB T r):=
 A.app (Good.node 2 (((aE T (ah m).2).app (dT T _ _)).app (aW T _ _)))
omit h in
theorem jO {c:St->Bool} {step:RT->RT} {most:Nat} {s:St} (m:∀r,c r.2=true->Good T s r->Good T s (step r)):∀f k r,Good T s r->Good T s (eW T c step most f k r).2
 | 0,k,r,hr=>hr
 | f+1,k,r,hr=>by
   unfold eW
   split
   ·rename_i A
    split
    ·exact hr.state (iM T 15 _ [])
    ·exact jO m f _ _ (m r A hr)
   ·exact hr
end
end Go.Proofs.YtpkipghjohomcaaGreatDoor
namespace Go.Proofs.YtpkipghjohomcaaGreatDoor
mutual
def szR:Tr->Nat
 | .lf _=>1
 | .nd _ m=>bK m+1
def bK:List Tr->Nat
 | []=>0
 | t::l=>szR t+bK l
end
def jB:Nat->List Tr->List Int
 | _,[]=>[]
 | b,t::l=>((b+szR t - 1:Nat):Int)::jB (b+szR t) l
mutual
def post:Nat->Tr->List Nd
 | _,.lf i=>[⟨19,(i:Int),[]⟩]
 | b,.nd k l=>eR b l++[⟨(k:Int),-1,jB b l⟩]
def eR:Nat->List Tr->List Nd
 | _,[]=>[]
 | b,t::l=>post b t++eR (b+szR t) l
end
theorem iR (t:Tr):1<=szR t:=by cases t<;>(unfold szR;omega)
theorem tz (a c:List Tr):∀b,jB b (a++c)=jB b a++jB (b+bK a) c:=by
 induction a with
 | nil=>intro b;simp [jB,bK]
 | cons m a A=>
   intro b
   simp only [List.cons_append,jB,bK,A]
   rw [show b+szR m+bK a=b+(szR m+bK a) by omega]
theorem qT (a c:List Tr):∀b,eR b (a++c)=eR b a++eR (b+bK a) c:=by
 induction a with
 | nil=>intro b;simp [eR,bK]
 | cons m a A=>
   intro b
   simp only [List.cons_append,eR,bK,A,List.append_assoc]
   rw [show b+szR m+bK a=b+(szR m+bK a) by omega]
mutual
theorem kh:∀(t:Tr) (b:Nat),(post b t).length=szR t
 | .lf i,b=>by simp [post,szR]
 | .nd k l,b=>by simp [post,szR,ia l b]
theorem ia:∀(l:List Tr) (b:Nat),(eR b l).length=bK l
 | [],b=>by simp [eR,bK]
 | t::l,b=>by simp [eR,bK,kh t b,ia l (b+szR t)]
end
theorem AC:∀(l:List Tr) (b:Nat) (k:Int),k∈jB b l->(b:Int)<=k/\k<((b+bK l:Nat):Int)
 | [],b,k,h=>by simp [jB] at h
 | t::l,b,k,h=>by
   have m:=iR t
   simp only [jB,List.mem_cons] at h
   simp only [bK]
   rcases h with rfl | h
   ·omega
   ·have:=AC l (b+szR t) k h
    omega
theorem CY:∀(l:List Tr) (b:Nat),(jB b l).length=l.length
 | [],b=>rfl
 | t::l,b=>by simp [jB,CY l]
def cD (k:Nat) (N:List Nd) (s:St) (r:RT) (m:List Nd) (A:List Int):Prop:=
 (r.2.e=0->m=N++eR N.length r.1/\A=jB N.length r.1/\m.length+2*s.i+k<=N.length+2*r.2.i)/\m.length+2*s.i<=N.length+2*r.2.i
structure aZ (k:Nat) (N:List Nd) (s:St) (r:RT) (N':List Nd) (vs:List Int):Prop where
 out:cD k N s r N' vs
 dead:r.2.e≠0->(-1:Int)∈vs
def Eqv (a b:RT):Prop:=a.2=b.2/\(b.2.e=0->a.1=b.1)
theorem Eqv.refl (a:RT):Eqv a a:=⟨rfl,fun _=>rfl⟩
theorem cD.nil (N:List Nd) (s:St):cD 0 N s ([],s) N []:=⟨fun _=>⟨by simp [eR],rfl,Nat.le_refl _⟩,Nat.le_refl _⟩
theorem cD.app {k1 k2:Nat} {N A m:List Nd} {s:St} {a b:RT} {J L:List Int} (G:cD k1 N s a A J) (H:cD k2 A a.2 b m L) (Z:a.2.e≠0->b.2.e≠0):cD (k1+k2) N s (a.1++b.1,b.2) m (J++L):=by
 refine⟨fun B=>?_,?_⟩
 ·have R:a.2.e=0:=by
   rcases Nat.eq_zero_or_pos a.2.e with h | h
   ·exact h
   ·exact absurd B (Z (by omega))
  obtain⟨E,O,e3⟩:=G.1 R
  obtain⟨U,Y,f3⟩:=H.1 B
  have I:A.length=N.length+bK a.1:=by rw [E,Q2,ia]
  refine⟨?_,?_,?_⟩
  ·rw [U,I,qT,<-List.append_assoc,<-E]
  ·rw [Y,O,I,tz]
  ·show m.length+2*s.i+(k1+k2)<=N.length+2*b.2.i;omega
 ·have:=G.2;have:=H.2
  show m.length+2*s.i<=N.length+2*b.2.i;omega
theorem aZ.app {k1 k2:Nat} {N m A:List Nd} {s:St} {a b:RT} {E G:List Int} (I:cD k1 N s a m E) (B:aZ k2 m a.2 b A G) (J:a.2.e≠0->b.2.e≠0):aZ (k1+k2) N s (a.1++b.1,b.2) A (E++G):=
 ⟨I.app B.out J,fun H=>List.mem_append_right _ (B.dead H)⟩
theorem cD.weak {k j:Nat} {N A:List Nd} {s:St} {r:RT} {B:List Int} (h:cD k N s r A B) (E:j<=k):cD j N s r A B:=
 ⟨fun m=>⟨(h.1 m).1,(h.1 m).2.1,by have:=(h.1 m).2.2;omega⟩,h.2⟩
theorem aZ.weak {k j:Nat} {N m:List Nd} {s:St} {r:RT} {A:List Int} (h:aZ k N s r m A) (B:j<=k):aZ j N s r m A:=⟨h.out.weak B,h.dead⟩
theorem cD.eqv {k:Nat} {N A:List Nd} {s:St} {a b:RT} {E:List Int} (h:cD k N s a A E) (m:Eqv a b):cD k N s b A E:=
 ⟨fun B=>by rw [<-m.1,<-m.2 B];exact h.1 (by rw [m.1];exact B),by rw [<-m.1];exact h.2⟩
theorem aZ.eqv {k:Nat} {N m:List Nd} {s:St} {a b:RT} {B:List Int} (h:aZ k N s a m B) (A:Eqv a b):aZ k N s b m B:=
 ⟨h.out.eqv A,fun E=>h.dead (by rw [A.1];exact E)⟩
theorem aZ.ok {k:Nat} {N m:List Nd} {s:St} {r:RT} {B:List Int} (h:aZ k N s r m B) (e:r.2.e=0):okB m.length B=true:=by
 obtain⟨E,G,-⟩:=h.out.1 e
 refine wD fun H A=>?_
 rw [G] at A
 have:=AC _ _ _ A
 rw [E,Q2,ia]
 omega
theorem aZ.no {k:Nat} {N m:List Nd} {s:St} {r:RT} {A:List Int} (h:aZ k N s r m A) (e:r.2.e≠0):okB m.length A=false:=by
 obtain⟨E,B⟩:=List.getElem?_of_mem (h.dead e)
 exact n4 B (by omega)
theorem aZ.node {k kind:Nat} {N m:List Nd} {s:St} {r:RT} {B:List Int} (h:aZ (k+1) N s r m B) (e:r.2.e=0):aZ k N s ([.nd kind r.1],r.2) (m++[⟨(kind:Int),-1,B⟩]) [(m.length:Int)]:=by
 obtain⟨A,E,H⟩:=h.out.1 e
 have G:m.length=N.length+bK r.1:=by rw [A,Q2,ia]
 refine⟨⟨fun _=>⟨?_,?_,?_⟩,?_⟩,fun h=>absurd e h⟩
 ·simp only [eR,post,List.append_nil];rw [<-List.append_assoc,<-A,E]
 ·simp only [jB,szR];rw [G];congr 1
 ·rw [Q2];show m.length+1+2*s.i+k<=N.length+2*r.2.i;omega
 ·rw [Q2];show m.length+1+2*s.i<=N.length+2*r.2.i;omega
theorem aZ.none {k kind:Nat} {N m:List Nd} {s:St} {r:RT} {A:List Int} (h:aZ (k+1) N s r m A) (e:r.2.e≠0):aZ k N s ([.nd kind r.1],r.2) m [-1]:=
 ⟨⟨fun h=>absurd h e,h.out.2⟩,fun _=>List.mem_singleton.2 rfl⟩
theorem aZ.leaf {T:List Tok} {N:List Nd} {s:St} (A:(az T s).kind≠5) (m:s.e=0):aZ 1 N s (ae T s) (N++[⟨19,(s.i:Int),[]⟩]) [(N.length:Int)]:=by
 have B:=ss A
 refine⟨⟨fun _=>⟨?_,?_,?_⟩,?_⟩,fun h=>absurd ?_ h⟩
 ·simp [ae,eR,post]
 ·simp [ae,jB,szR]
 ·rw [Q2];show N.length+1+2*s.i+1<=N.length+2*(aS T s).2.i;omega
 ·rw [Q2];show N.length+1+2*s.i<=N.length+2*(aS T s).2.i;omega
 ·show(aS T s).2.e=0;unfold aS;split<;>exact m
theorem aZ.fail {T:List Tok} {N:List Nd} {s:St} {k m:Nat} (A:m≠0) (l:List Tr):aZ k N s (l,aH T m s) N [-1]:=
 ⟨⟨fun h=>absurd h (df T A s),by show N.length+2*s.i<=N.length+2*(aH T m s).i;rw [lc];omega⟩,fun _=>List.mem_singleton.2 rfl⟩
end Go.Proofs.YtpkipghjohomcaaGreatDoor
namespace Go.Proofs.YtpkipghjohomcaaGreatDoor.Zd
open Go.RowKit Mx List Nat
theorem Sf (t:List UInt8):minus (45::t)=true/\digs (45::t)=t:=by
 simp [minus,digs,Lib.hasPrefix,Lib.trimPrefix]
theorem PG {x:UInt8} {t:List UInt8} (h:x.toNat≠45):minus (x::t)=false/\digs (x::t)=x::t:=by
 have B:x≠45:=fun m=>h (by rw [m];rfl)
 have A:Lib.hasPrefix (x::t) [45]=false:=by
  have:((45:UInt8) == x)=false:=xz.2 (fun m=>B m.symm)
  simp [Lib.hasPrefix,List.isPrefixOf,this]
 exact⟨A,by unfold digs Lib.trimPrefix;rw [A];rfl⟩
theorem agJ {l:List UInt8} (h:0<l.length) (m:l[0].toNat=45):minus l=true/\digs l=l.drop 1:=by
 match l,h,m with
 | x::t,_,m=>
   obtain rfl:x=45:=UInt8.toNat_inj.1 m
   exact Sf t
theorem mdne {l:List UInt8} (h:0<l.length) (m:l[0].toNat≠45):minus l=false/\digs l=l:=by
 match l,h,m with
 | x::t,_,m=>exact PG m
def dgt (D:List UInt8) (j:Nat):Nat:=(D.getD j 0).toNat - 48
theorem uB {D:List UInt8} {j:Nat} (h:j<D.length):dgt D j=D[j].toNat - 48:=by
 unfold dgt;rw [getD_eq_getElem?_getD,QS h];rfl
theorem Ou (D:List UInt8):∀k,k<=D.length->mH (D.take k)=V 10 (fun m=>dgt D (k - 1 - m)) 0 k
 | 0,_=>by simp [mH,V]
 | k+1,h=>by
   rw [sD (by omega),Ou D k (by omega),uQ,<-uB]
   simp only [Nat.add_sub_cancel]
   rw [uO (f:=fun m=>dgt D (k - m)) (g:=fun m=>dgt D (k - 1 - m)) (o:=1) (p:=0) (fun m A=>by
    show dgt D (k - (1+m))=dgt D (k - 1 - (0+m))
    congr 1;omega)]
   show _=dgt D (k - 0)+_
   rw [Nat.sub_zero];omega
theorem Oc (D:List UInt8):mH D=V 10 (fun m=>dgt D (D.length - 1 - m)) 0 D.length:=by
 have:=Ou D D.length (Nat.le_refl _)
 rwa [take_length] at this
theorem SD {n:Nat} {f:Nat->Nat} (t:n=0\/f (n - 1)≠0):0<n↔V 10 f 0 n≠0:=by
 constructor
 ·intro h
  rcases zu (b:=10) (f:=f) (o:=0) (n:=n) (by simpa using t) with m | m
  ·omega
  ·have:=Nat.pow_pos (n:=n - 1) (show 0<10 by omega);omega
 ·intro h
  rcases eq_zero_or_pos n with m | m
  ·subst m;exact absurd rfl h
  ·exact m
theorem EC {N k:Nat} (h:N<=Bw ^ k) (m:k<xN):N<Lim:=by
 unfold Lim
 exact Nat.lt_of_le_of_lt h (Nat.pow_lt_pow_right (by unfold Bw;omega) m)
theorem RA (l:List UInt8) (h:∀b∈l,b.toNat<=57) (a:Nat):l.foldl (fun a b=>10*a+(b.toNat - 48)) a<(a+1)*10 ^ l.length:=by
 induction l generalizing a with
 | nil=>simp
 | cons m A H=>
   have I:=h m (by simp)
   have B:=H (fun b G=>h b (by simp [G])) (10*a+(m.toNat - 48))
   rw [foldl_cons,hJ,Nat.pow_succ]
   refine zn B ?_
   have E:10*a+(m.toNat - 48)+1<=(a+1)*10:=by omega
   calc (10*a+(m.toNat - 48)+1)*10 ^ A.length<=((a+1)*10)*10 ^ A.length:=mul_le_mul_right _ E
    _=(a+1)*(10 ^ A.length*10):=by rw [Nat.mul_assoc,Nat.mul_comm 10]
theorem RX {l:List UInt8} (h:plain l=true):mH l<10 ^ l.length:=by
 have:=RA l (fun E m=>by
  obtain⟨B,A,rfl⟩:=getElem_of_mem m
  exact(sm h B A).2) 0
 simpa [mH] using this
theorem TA (l:List UInt8):(digs l).length<=l.length:=by
 unfold digs Lib.trimPrefix
 split
 ·simp
 ·exact Nat.le_refl _
theorem Jf (l:List UInt8):(parseV l).natAbs<10 ^ l.length/\(parseV l).natAbs<10 ^ 60:=by
 unfold parseV
 by_cases h:parseE l=0
 ·rw [if_pos h]
  have G:(sgn (minus l) (mH (digs l))).natAbs=mH (digs l):=by unfold sgn;split<;>simp
  rw [G]
  have A:plain (digs l)=true/\(digs l).length<=60:=by
   unfold parseE at h
   by_cases m:60<(digs l).length
   ·rw [if_pos m] at h;omega
   ·rw [if_neg m] at h
    by_cases E:plain (digs l)=false
    ·rw [if_pos (.inl E)] at h;omega
    ·exact⟨by simpa using E,by omega⟩
  have B:=RX A.1
  exact⟨zn B (Nat.pow_le_pow_right (by omega) (TA l)),zn B (Nat.pow_le_pow_right (by omega) A.2)⟩
 ·rw [if_neg h]
  exact⟨by simpa using Nat.pow_pos (by omega),by simp⟩
theorem parseV_lim (l:List UInt8):(parseV l).natAbs<Lim:=by
 refine EC (k:=4) (Nat.le_of_lt (zn (Jf l).2 ?_)) (by unfold xN;omega)
 have m:(10:Nat) ^ 60<=(10 ^ 19) ^ 4:=by rw [<-Nat.pow_mul];exact Nat.pow_le_pow_right (by omega) (by omega)
 exact Nat.le_trans m (Nat.pow_le_pow_left (by unfold Bw;omega) 4)
theorem DU {D:List UInt8} (A:∀j (R:j<D.length),48<=D[j].toNat/\D[j].toNat<=57) (m:0<D.length) (Y:D[0].toNat≠48):mH D≠0/\oJ (mH D)=D:=by
 have I:=Oc D
 have O:∀j,j<D.length->dgt D (D.length - 1 - j)<10:=by
  intro j R
  have B:D.length - 1 - j<D.length:=by omega
  have:=A _ B
  rw [uB B];omega
 have E:dgt D (D.length - 1 - (D.length - 1))≠0:=by
  rw [Nat.sub_self,uB m]
  have:=A 0 m;omega
 have J:mH D≠0:=by
  rw [I];exact(SD (f:=fun j=>dgt D (D.length - 1 - j)) (.inr E)).1 m
 obtain⟨G,L⟩:=zP (f:=fun j=>dgt D (D.length - 1 - j)) O m E I.symm
 refine⟨J,ext_getElem (by rw [nR,<-G]) fun j U H=>?_⟩
 apply UInt8.toNat_inj.1
 rw [vS,<-G,<-L (D.length - 1 - j) (by omega)]
 show 48+dgt D (D.length - 1 - (D.length - 1 - j))=_
 rw [show D.length - 1 - (D.length - 1 - j)=j by omega,uB H]
 have:=A j H
 omega
theorem Ta (l:List UInt8):l=if minus l then 45::digs l else digs l:=by
 match l with
 | []=>rfl
 | x::t=>
   by_cases B:x.toNat=45
   ·obtain⟨m,A⟩:=agJ (l:=x::t) (by simp) B
    have:x=45:=UInt8.toNat_inj.1 B
    rw [m,if_pos rfl,A,this];rfl
   ·obtain⟨m,A⟩:=mdne (l:=x::t) (by simp) B
    rw [m,A];rfl
theorem txtL_parse {l:List UInt8} (h:parseE l=0):txtL (parseV l)=l:=by
 have R:=h
 unfold parseE at h
 by_cases I:60<(digs l).length
 ·rw [if_pos I] at h;cases h
 ·rw [if_neg I] at h
  by_cases H:plain (digs l)=false\/(minus l=true/\digs l = [48])
  ·rw [if_pos H] at h;cases h
  ·have A:plain (digs l)=true:=by
    rcases A:plain (digs l) with _ | _
    ·exact absurd (.inl A) H
    ·rfl
   have L:=sm A
   have U:¬(minus l=true/\digs l = [48]):=fun h=>H (.inr h)
   have m:=Ta l
   unfold parseV
   rw [if_pos R]
   by_cases G:digs l = [48]
   ·have B:minus l=false:=by
     rcases B:minus l with _ | _
     ·rfl
     ·exact absurd ⟨B,G⟩ U
    rw [B] at m
    simp only [Bool.false_eq_true,if_false] at m
    rw [B,G]
    rw [G] at m
    rw [m];rfl
   ·have J:0<(digs l).length:=by
     rcases eq_zero_or_pos (digs l).length with E | E
     ·rw [fb E] at A;cases A
     ·exact E
    have Y:(digs l)[0].toNat≠48:=by
     intro E
     have O:(digs l)[0]=48:=UInt8.toNat_inj.1 E
     unfold plain at A
     rw [VW G,head?_eq_getElem?,QS J,O] at A
     simp at A
    obtain⟨k1,k2⟩:=DU L J Y
    rcases B:minus l with _ | _
    ·rw [B] at m
     simp only [Bool.false_eq_true,if_false] at m
     show txtL ((mH (digs l):Nat):Int)=l
     rw [Gm k1,k2];exact m.symm
    ·rw [B] at m
     simp only [if_true] at m
     show txtL (-((mH (digs l):Nat):Int))=l
     rw [Hh k1,k2];exact m.symm
end Go.Proofs.YtpkipghjohomcaaGreatDoor.Zd
