/- Lemmas. -/
import Derived.Deep.RegionHeld3
import Derived.StillTailTactics
import Derived.Test.YtjbgnopnehgbaaaGreatDoorP9
set_option linter.unusedVariables false
set_option linter.unusedSimpArgs false
namespace Go.Proofs.YtjbgnopnehgbaaaGreatDoor
inductive Tr where
 | lf (i:Nat)
 | nd (k:Nat) (l:List Tr)
abbrev RT:=List Tr×St
def nQ (k:Nat):List UInt8:=if k<10 then [UInt8.ofNat (48+k)] else [UInt8.ofNat (48+k / 10),UInt8.ofNat (48+k % 10)]
def acp (T:List Tok) (i:Nat):List UInt8:=if (T[i]?.getD ⟨5,[],[],0⟩).kind=5 then [36] else (T[i]?.getD ⟨5,[],[],0⟩).text
mutual
def dmp (T:List Tok):Tr→List UInt8
 | .lf i=>acp T i
 | .nd k l=>40::nQ k++iQ T l++[41]
def iQ (T:List Tok):List Tr→List UInt8
 | []=>[]
 | t::l=>32::dmp T t++iQ T l
end
theorem aK (T:List Tok) (a b:List Tr):iQ T (a++b)=iQ T a++iQ T b:=by
 induction a with
 | nil=>simp [iQ]
 | cons t a ih=>simp [iQ,ih]
theorem cB (T:List Tok) (k:Nat) (l:List Tr):iQ T [.nd k l] = [32,40]++nQ k++iQ T l++[41]:=by simp [iQ,dmp]
theorem iz (T:List Tok):iQ T [] = []:=by simp [iQ]
def im (T:List Tok) (a:RT):RQ:=(iQ T a.1,a.2)
theorem dz (T:List Tok) (a:RT):(im T a).1=iQ T a.1:=rfl
theorem cT (T:List Tok) (a:RT):(im T a).2=a.2:=rfl
theorem fx (T:List Tok) (p:Prop) [Decidable p] (a b:RT):im T (if p then a else b)=if p then im T a else im T b:=by split<;>rfl
section
variable (T:List Tok)
def ac (s:St):RT:=([.lf s.i],(aI T s).2)
def aj (w:List UInt8) (s:St):RT:=if isQ T w s=true then ac T s else ([],aB T 22 s)
def aA (k:Nat) (s:St):RT:=if s.e=0∧(an T s).kind=k then ac T s else ([],aB T 22 s)
theorem eG (s:St):aI T s=im T (ac T s):=by
 have h:(aI T s).1=iQ T [.lf s.i]:=by
  unfold aI
  simp only [iQ,dmp,acp,an]
  split<;>rename_i hk<;>simp [hk]
 exact Prod.ext h rfl
theorem jq (w:List UInt8) (s:St):fT T w s=im T (aj T w s):=by
 unfold fT aj
 rw [fx,eG];simp [im,iQ]
theorem kT (k:Nat) (s:St):lQ T k s=im T (aA T k s):=by
 unfold lQ aA
 rw [fx,eG];simp [im,iQ]
def rwT (c:St→Bool) (sub:St→RT):Nat→RT→RT
 | 0,r=>r
 | f+1,r=>if c r.2=true then rwT c sub f ([.nd 10 (r.1++(ac T r.2).1++(sub (ac T r.2).2).1)],(sub (ac T r.2).2).2) else r
theorem BX {c:St→Bool} {sub:St→RQ} {subT:St→RT} (h:∀s,sub s=im T (subT s)):∀f r,Eh T c sub f (im T r)=im T (rwT T c subT f r)
 | 0,r=>rfl
 | f+1,r=>by
   unfold Eh rwT
   rw [fx,cT,←BX h f,eG,h]
   simp only [im,cB,aK]
   rfl
def bk (sub:St→RT):Nat→Nat→RT→RT
 | 0,_,r=>r
 | f+1,k,r=>if isQ T [44] r.2=true then
   let l:=ac T r.2
   let s:=if k=8 then aB T 15 l.2 else l.2
   bk sub f (k+1) (r.1++l.1++(sub s).1,(sub s).2)
   else r
theorem zq {sub:St→RQ} {subT:St→RT} (h:∀s,sub s=im T (subT s)):∀f k r,uC T sub f k (im T r)=im T (bk T subT f k r)
 | 0,k,r=>rfl
 | f+1,k,r=>by
   unfold uC bk
   simp only []
   rw [fx,cT,←zq h f,eG]
   simp only [cT,h,dz]
   simp only [im,aK]
structure NxT where
 expr:St→RT
 formula:St→RT
 nots:St→RT
 factor:St→RT
structure NxM (nx:Nx) (nt:NxT):Prop where
 expr:∀s,nx.expr s=im T (nt.expr s)
 formula:∀s,nx.formula s=im T (nt.formula s)
 nots:∀s,nx.nots s=im T (nt.nots s)
 factor:∀s,nx.factor s=im T (nt.factor s)
end
section
variable (T:List Tok) (D n:Nat) (nt:NxT)
def jn (s:St):RT:=bk T nt.expr (aT T (nt.expr s).2) 1 (nt.expr s)
def bO (a:RT):RT:=if isQ T [46] a.2=true then (a.1++(ac T a.2).1++(aA T 1 (ac T a.2).2).1,(aA T 1 (ac T a.2).2).2) else a
def bN (b:RT):RT:=(b.1++(aj T [40] b.2).1,(aj T [40] b.2).2)
def bG (c:RT):RT:=if isQ T [41] c.2=true then c else (c.1++(jn T nt c.2).1,(jn T nt c.2).2)
def gF (d:RT):RT:=([.nd 13 (d.1++(aj T [41] d.2).1)],(aj T [41] d.2).2)
def dq (s:St):RT:=
 if (ac T s).2.inn=true∨(isQ T [46] (ac T s).2=false∧isQ T [40] (ac T s).2=false) then ([.nd 14 (ac T s).1],(ac T s).2)
 else gF T (bG T nt (bN T (bO T (ac T s))))
def bC (s:St):RT:=
 if s.e≠0 then ([],s)
 else if (an T s).kind=3 then ([.nd 15 (ac T s).1],(ac T s).2)
 else if isQ T [116,114,117,101] s=true∨isQ T [102,97,108,115,101] s=true then ([.nd 16 (ac T s).1],(ac T s).2)
 else if s.inn=true∧isQ T [114,101,115] s=true then ([.nd 17 (ac T s).1],(ac T s).2)
 else if isQ T [40] s=true then
  let l:=ac T s
  let b:=nt.expr l.2
  let c:=aj T [41] b.2
  ([.nd 12 (l.1++b.1++c.1)],c.2)
 else if (an T s).kind=1 then dq T nt s
 else ([],aB T 22 s)
def fa (sub:St→RT) (s:St):RT:=
 let l:=ac T s
 let t:=aO T D (n+1) l.2
 if t.e≠0 then ([],t) else ([.nd 11 (l.1++(sub t).1)],(sub t).2)
def aL (s:St):RT:=if isQ T [45] s=true then fa T D n nt.factor s else bC T nt s
def cJ (s:St):RT:=rwT T (jN T) (aL T D n nt) (aT T (aL T D n nt s).2) (aL T D n nt s)
def cX (s:St):RT:=rwT T (jT T) (cJ T D n nt) (aT T (cJ T D n nt s).2) (cJ T D n nt s)
def dL (s:St):RT:=
 if isQ T [110,111,116] s=true then fa T D n nt.nots s
 else
  let a:=cX T D n nt s
  if fs T a.2=true then
   let l:=ac T a.2
   let b:=cX T D n nt l.2
   ([.nd 10 (a.1++l.1++b.1)],b.2)
  else a
def me (s:St):RT:=rwT T (isQ T [38,38]) (dL T D n nt) (aT T (dL T D n nt s).2) (dL T D n nt s)
def orT (s:St):RT:=rwT T (isQ T [124,124]) (me T D n nt) (aT T (me T D n nt s).2) (me T D n nt s)
def ay (s:St):RT:=
 let a:=orT T D n nt s
 if isQ T [61,62] a.2=true then
  let l:=ac T a.2
  let t:=aO T D (n+1) l.2
  if t.e≠0 then ([],t) else ([.nd 10 (a.1++l.1++(nt.formula t).1)],(nt.formula t).2)
 else a
def nT (s:St):RT:=
 let l:=ac T s
 let k:=aA T 1 l.2
 let q:=aj T [61] k.2
 let a:=nt.expr q.2
 let i:=aj T [105,110] a.2
 let b:=nt.expr i.2
 ([.nd 7 (l.1++k.1++q.1++a.1++i.1++b.1)],b.2)
def ifT (s:St):RT:=
 let l:=ac T s
 let a:=nt.expr l.2
 let t:=aj T [116,104,101,110] a.2
 let b:=nt.expr t.2
 let e:=aj T [101,108,115,101] b.2
 let c:=nt.expr e.2
 ([.nd 8 (l.1++a.1++t.1++b.1++e.1++c.1)],c.2)
def ep (s:St):RT:=
 let l:=ac T s
 let a:=nt.expr l.2
 let i:=aj T [105,110] a.2
 let b:=nt.expr i.2
 ([.nd 9 (l.1++a.1++i.1++b.1)],b.2)
def cP (s:St):RT:=
 let t:=aO T D n s
 if t.e≠0 then ([],t)
 else if t.inn=false∧isQ T [108,101,116] t=true then nT T nt t
 else if t.inn=false∧isQ T [105,102] t=true then ifT T nt t
 else if t.inn=false∧isQ T [97,115,115,101,114,116] t=true then ep T nt t
 else ay T D n nt t
variable {nx:Nx} (h:NxM T nx nt)
include h
theorem Vm (s:St):Ff T nx s=im T (jn T nt s):=by
 unfold Ff jn;rw [h.expr,zq T h.expr];rfl
omit h in
theorem QV (a:RT):Kv T (im T a)=im T (bO T a):=by
 unfold Kv bO;rw [fx];simp only [cT,eG,kT,dz];simp only [im,aK]
omit h in
theorem Rz (a:RT):Ln T (im T a)=im T (bN T a):=by
 unfold Ln bN;simp only [cT,jq,dz];simp only [im,aK]
theorem PN (a:RT):J6 T nx (im T a)=im T (bG T nt a):=by
 unfold J6 bG;rw [fx];simp only [cT,Vm T nt h,dz];simp only [im,aK]
omit h in
theorem Qf (a:RT):MC T (im T a)=im T (gF T a):=by
 unfold MC gF;simp only [cT,jq,dz];simp only [im,aK,cB];simp [nQ]
theorem XG (s:St):NZ T nx s=im T (dq T nt s):=by
 have e:(ac T s).2=(aI T s).2:=rfl
 unfold NZ dq
 by_cases hc:(aI T s).2.inn=true∨(isQ T [46] (aI T s).2=false∧isQ T [40] (aI T s).2=false)
 ·have sG:=hc
  rw [←e] at sG
  rw [if_pos hc,if_pos sG,eG];simp only [im,cB];rfl
 ·have sG:=hc
  rw [←e] at sG
  rw [if_neg hc,if_neg sG,eG,QV,Rz,PN T nt h,Qf]
theorem VH (s:St):K2 T nx s=im T (bC T nt s):=by
 unfold K2 bC
 simp only [fx,eG,cT,dz,h.expr,jq,XG T nt h]
 simp only [im,cB,aK,iz];simp [nQ]
omit h in
theorem N4 {sub:St→RQ} {subT:St→RT} (hs:∀s,sub s=im T (subT s)) (s:St):EB T D n sub s=im T (fa T D n subT s):=by
 unfold EB fa
 simp only [fx,eG,cT,dz,hs]
 simp only [im,cB,aK,iz];simp [nQ]
theorem ut (s:St):mZ T D n nx s=im T (aL T D n nt s):=by
 unfold mZ aL;rw [fx,N4 T D n h.factor,VH T nt h]
theorem xT (s:St):lY T D n nx s=im T (cJ T D n nt s):=by
 unfold lY cJ;rw [ut T D n nt h,BX T (ut T D n nt h)];rfl
theorem Zo (s:St):Qg T D n nx s=im T (cX T D n nt s):=by
 unfold Qg cX;rw [xT T D n nt h,BX T (xT T D n nt h)];rfl
theorem Md (s:St):H6 T D n nx s=im T (dL T D n nt s):=by
 unfold H6 dL
 simp only [fx,N4 T D n h.nots,Zo T D n nt h,eG,cT,dz]
 simp only [im,cB,aK,iz];simp [nQ]
theorem ST (s:St):MA T D n nx s=im T (me T D n nt s):=by
 unfold MA me;rw [Md T D n nt h,BX T (Md T D n nt h)];rfl
theorem afb (s:St):orQ T D n nx s=im T (orT T D n nt s):=by
 unfold orQ orT;rw [ST T D n nt h,BX T (ST T D n nt h)];rfl
theorem wI (s:St):oH T D n nx s=im T (ay T D n nt s):=by
 unfold oH ay
 simp only [fx,afb T D n nt h,eG,cT,dz,h.formula]
 simp only [im,cB,aK,iz];simp [nQ]
theorem ab9 (s:St):WW T nx s=im T (nT T nt s):=by
 unfold WW nT
 simp only [eG,cT,dz,h.expr,jq,kT]
 simp only [im,cB,aK,iz];simp [nQ]
theorem afD (s:St):ifQ T nx s=im T (ifT T nt s):=by
 unfold ifQ ifT
 simp only [eG,cT,dz,h.expr,jq,kT]
 simp only [im,cB,aK,iz];simp [nQ]
theorem Ky (s:St):yz T nx s=im T (ep T nt s):=by
 unfold yz ep
 simp only [eG,cT,dz,h.expr,jq,kT]
 simp only [im,cB,aK,iz];simp [nQ]
theorem Xx (s:St):NL T D n nx s=im T (cP T D n nt s):=by
 unfold NL cP
 simp only [fx,ab9 T nt h,afD T nt h,Ky T nt h,wI T D n nt h]
 simp only [im,iz]
end
def nxT (T:List Tok) (D:Nat):Nat→NxT
 | 0=>{ expr:=fun s=>([],aO T D (D+1) s),formula:=fun s=>([],s),nots:=fun s=>([],s),factor:=fun s=>([],s) }
 | d+1=>{ expr:=cP T D (D - d) (nxT T D d),formula:=ay T D (D - d) (nxT T D d),nots:=dL T D (D - d) (nxT T D d),factor:=aL T D (D - d) (nxT T D d) }
theorem Oj (T:List Tok) (D:Nat):∀d,NxM T (nxQ T D d) (nxT T D d)
 | 0=>⟨fun s=>by simp [nxQ,nxT,im,iQ],fun s=>by simp [nxQ,nxT,im,iQ],fun s=>by simp [nxQ,nxT,im,iQ],fun s=>by simp [nxQ,nxT,im,iQ]⟩
 | d+1=>⟨Xx T D _ _ (Oj T D d),wI T D _ _ (Oj T D d),Md T D _ _ (Oj T D d),ut T D _ _ (Oj T D d)⟩
end Go.Proofs.YtjbgnopnehgbaaaGreatDoor
set_option maxHeartbeats 400000
namespace Go.Proofs.YtjbgnopnehgbaaaGreatDoor.Zd
open Go.RowKit Mx
theorem LO {f:Nat→Nat} {M k s B:Nat} (h:∀j,j<M→f j<B) (hs:s<B):∀j,j<M→upd f k s j<B:=by
 intro j hj;unfold upd;split<;>first | exact hs | exact h j hj
theorem O8 {q x:Nat} (hq:q<Bw) (hx:x<Bw):q*x≤340282366920938463426481119284349108225:=by
 have:q*x≤18446744073709551615*18446744073709551615:=Nat.mul_le_mul (by unfold Bw at hq;omega) (by unfold Bw at hx;omega)
 omega
def tX (p:Option Addr) (n cap:Nat) (f:Nat→Nat) (w:World) (e:Ending) (w':World):Prop:=
 ∃m p' bH,e=.returned (.slice p' m bH)∧m≤n∧m≤bH∧bH≤cap∧(m=0∨f (m - 1)≠0)∧(∀j,m≤j→j<n→f j=0)∧(m=0→p'=none)∧(0<m→p'=p)∧w=w'
theorem zr (p:Option Addr) (n cap:Nat) (f:Nat→Nat) (w:World) (hn:n≤cap) (hc:cap≤maxLen) (h:At .u64 w p n f):
  Calls Tryz.prog 63 #[.slice p n cap] w (tX p n cap f w):=by
 unfold maxLen at hc
 go_enter Tryz.func63,Tryz.ntmps63
 go_wp2
 go_loop [3] (fun i=>∃m:Nat,m≤n∧i=.int .i64 m∧Hid (∀j,m≤j→j<n→f j=0)) (fun i=>(intOf i).toNat)
 case atStart=>exact⟨n,Nat.le_refl _,rfl,fun j h1 h2=>by omega⟩
 case round=>
  obtain⟨m,hm,rfl,HZ⟩:=hrel
  by_cases h0:0<m
  ·rcases h with h | ⟨g,off,rfl,hg,fD⟩
   ·omega
   have hk:=fD (m - 1) (by omega)
   clear fD
   have hi:(0:Int)<(m:Int):=by omega
   by_cases hv:f (m - 1)=0
   ·rw [hv] at hk
    have HV:=zh hv
    clear hv
    go_wp2
    go_round
    case rel=>exact⟨m - 1,by omega,qJ (by omega),fun j h1 h2=>by
     by_cases e:j=m - 1
     ·subst e;exact HV.out
     ·exact HZ.out j (by omega) h2⟩
    case measure=>simp [intOf];omega
   ·have bF:tX (some ⟨g,off,none⟩) n cap f w (.returned (.slice (some ⟨g,off,none⟩) m cap)) w:=⟨m,_,cap,rfl,hm,by omega,by omega,.inr hv,HZ.out,fun e=>by omega,fun _=>rfl,rfl⟩
    have ec:=zh bF
    have hv1:((f (m - 1):Int) == 0)=false:=beq_eq_false_iff_ne.2 (by omega)
    have Jz:((m:Int) == 0)=false:=beq_eq_false_iff_ne.2 (by omega)
    clear bF
    go_wp2
    go_ret
    exact ec.out
  ·obtain rfl:m=0:=by omega
   have bF:tX p n cap f w (.returned (.slice none 0 0)) w:=⟨0,none,0,rfl,by omega,by omega,by omega,.inl rfl,HZ.out,fun _=>rfl,fun e=>by omega,rfl⟩
   have ec:=zh bF
   clear bF
   go_wp2
   go_ret
   exact ec.out
def yC (A:Nat) (w:World) (e:Ending) (w':World):Prop:=∃n:Nat,e=.returned (.int .i64 n)∧(A=0→n=0)∧(A≠0→2 ^ (n - 1)≤A∧A<2 ^ n∧0<n)∧w=w'
theorem Lc:(Tryz.prog.info? 93).map (fun i=>(i.zero,i.size,i.bytes))=some (some (.int .u64 0),1,8):=by kernel_rfl
theorem KR (w:World) (n:Nat) (T:TypeId):Blk .u64 (w.alloc (.cells (madeCells #[.int .u64 0] n) T)) w.heap.size n (fun _=>0):=by
 refine⟨_,T,heap_alloc_new w _,size_madeCells _ _,fun j hj=>?_⟩
 rw [←Array.getElem?_toList,toList_madeCells_one]
 simp [hj]
theorem DL (n:Nat) (hn:n≤1099511627776) (w:World):(Instr.makeSlice 25 (.int .i64 (n:Int)) (.int .i64 (n:Int))).run Tryz.prog w=.ok (.slice (some ⟨w.heap.size,0,none⟩) n n) (w.alloc (.cells (madeCells #[.int .u64 0] n) 93)):=
 run_make_row' 25 93 (.int .u64 0) 8 Tryz.underlying25 Lc rfl .i64 .i64 n (by omega) (by omega) w
def xD (g off n M d:Nat) (f:Nat→Nat) (w:World) (e:Ending) (w':World):Prop:=
 ∃(r:Nat) (f':Nat→Nat),e=.returned (.int .u64 r)∧r<d∧Blk .u64 w' g M f'∧(∀j,j<M→f' j<Bw)∧(∀j,(j<off∨off+n≤j)→f' j=f j)∧V Bw f' off n*d+r=V Bw f off n∧w.grownBy w' (some g)
theorem Jf {A F d B q r r2 x:Nat} (HV:A*d+r=F) (hq:q*d+r2=r*B+x):(q+B*A)*d+r2=x+B*F:=by
 rw [←HV]
 have e:(q+B*A)*d+r2=(q*d+r2)+B*(A*d):=by grind
 rw [e,hq];grind
theorem DG {f fk:Nat→Nat} {off n k d q r r2:Nat} (hk:k<n) (HO:∀j,(j<off+(k+1)∨off+n≤j)→fk j=f j) (HV:V Bw fk (off+(k+1)) (n - (k+1))*d+r=V Bw f (off+(k+1)) (n - (k+1)))
  (hq:q*d+r2=r*Bw+fk (off+k)):
  (∀j,(j<off+k∨off+n≤j)→upd fk (off+k) q j=f j)∧V Bw (upd fk (off+k) q) (off+k) (n - k)*d+r2=V Bw f (off+k) (n - k):=by
 refine⟨fun j hj=>?_,?_⟩
 ·rw [upd_ne (by omega)];exact HO j (by omega)
 ·obtain⟨m,rfl⟩:∃m,n=k+1+m:=⟨n - (k+1),by omega⟩
  have e1:k+1+m - k=m+1:=by omega
  have e2:k+1+m - (k+1)=m:=by omega
  rw [e2] at HV
  rw [e1,V_front,V_front,zm,qS (by omega),Nat.add_assoc off k 1,←HO (off+k) (by omega)]
  exact Jf HV hq
theorem I8 {w w':World} (h:w'.heap=w.heap) (a:Addr):w'.cell? a=w.cell? a:=by simp [World.cell?,h]
theorem Au {w w':World} (h:w'.heap=w.heap) (a:Addr):w'.frozen? a=w.frozen? a:=by simp [World.frozen?,h]
theorem L7 {k:IntKind} {w w':World} {g M:Nat} {f:Nat→Nat} (h:w'.heap=w.heap) (hb:Blk k w g M f):Blk k w' g M f:=by
 unfold Blk;rw [h];exact hb
theorem rT (g off n cap M d:Nat) (f:Nat→Nat) (w:World) (hB:Blk .u64 w g M f) (hl:off+n≤M) (hM:M≤1099511627776) (hf:∀j,j<M→f j<Bw) (hd:0<d) (hdB:d<Bw):
  Calls Tryz.prog 99 #[.slice (some ⟨g,off,none⟩) n cap,.int .u64 d] w (xD g off n M d f w):=by
 go_enter Tryz.func99,Tryz.ntmps99
 go_wp2
 go_loopw [5,6] (fun r i wr=>∃(k rn:Nat) (fk:Nat→Nat),k≤n∧i=.int .i64 ((k:Int) - 1)∧r=.int .u64 rn∧rn<d∧Hid (Blk .u64 wr g M fk)∧Hid (∀j,j<M→fk j<Bw)∧Hid (∀j,(j<off+k∨off+n≤j)→fk j=f j)∧
   Hid (V Bw fk (off+k) (n - k)*d+rn=V Bw f (off+k) (n - k))∧Hid (w.grownBy wr (some g)))
  (fun _ i _=>(intOf i+1).toNat)
 case atStart=>exact⟨n,0,f,by omega,rfl,rfl,hd,hB,hf,fun _ _=>rfl,by simp [Hid,V],ad _ _⟩
 case round=>
  obtain⟨k1,rn,fk,iP,rfl,rfl,hr,HB,HF,HO,HV,HG⟩:=hrel
  by_cases h0:0<k1
  ·obtain⟨k,rfl⟩:∃k,k1=k+1:=⟨k1 - 1,by omega⟩
   have zT:=HB.out.cell (j:=off+k) (by omega)
   have kM:=HB.out.free (off+k)
   have hx:=HF.out (off+k) (by omega)
   have gM:=zh (fun q r2 h=>DG (q:=q) (r2:=r2) (show k<n by omega) HO.out HV.out h)
   have HDV:=zh (fun w=>PS rn (fk (off+k)) d w hr hdB hx)
   have Ed:=HF.out
   have S6:=zh Ed
   have hkk:((k+1:Nat):Int) - 1=(k:Int):=by omega
   rw [hkk]
   clear hf hB Ed hx hkk
   go_wp2_with (go_at_call 129;refine(HDV.out _).mono ?_;rintro e w1 ⟨q,r2,rfl,hq,tP,Y1,m,rC⟩;(have hh1:w1.heap=wr.heap:=by rw [rC];rfl);(have bI:wr.grownBy w1 none:=by rw [rC];exact ap (ad _ _) _);clear rC;have HQ:=zh hq;have bL:=zh Y1;have HH:=zh hh1;have cZ:=zh bI;have dK:=(Au hh1 _).trans kM;have sG:=(I8 hh1 _).trans zT;clear hq Y1 hh1 bI kM zT)
   go_roundw
   case rel=>exact⟨k,r2,_,by omega,rfl,rfl,tP,(L7 HH.out HB.out).set q,LO HF.out HQ.out,(gM.out q r2 bL.out).1,(gM.out q r2 bL.out).2,nX (aa HG.out (bz (df cZ.out))) _⟩
   case measure=>simp [intOf]
  ·obtain rfl:k1=0:=by omega
   have bF:xD g off n M d f w (.returned (.int .u64 rn)) wr:=⟨rn,fk,rfl,hr,HB.out,HF.out,HO.out,HV.out,HG.out⟩
   have ec:=zh bF
   clear bF hf hB
   go_wp2
   go_ret
   exact ec.out
def Num (w:World) (v:Value) (N:Nat):Prop:=
 ∃p n cap f,v=.slice p n cap∧n≤cap∧cap≤maxLen∧At .u64 w p n f∧(∀j,j<n→f j<Bw)∧(n=0∨f (n - 1)≠0)∧V Bw f 0 n=N
theorem Num.kept {w w':World} {v:Value} {N:Nat} (h:Num w v N) (hg:w.grownBy w' none):Num w' v N:=by
 obtain⟨p,n,cap,f,rfl,h1,h2,h3,r⟩:=h
 exact⟨p,n,cap,f,rfl,h1,h2,h3.grown hg (by simp),r⟩
def tj:Nat:=100000
def Lim:Nat:=Bw ^ tj
theorem Fe {n:Nat} {f:Nat→Nat} (t:n=0∨f (n - 1)≠0) (h:V Bw f 0 n<Lim):n≤tj:=by
 rcases wS (b:=Bw) (f:=f) (o:=0) (n:=n) (by simpa using t) with e | e
 ·omega
 ·by_cases hn:n≤tj
  ·exact hn
  ·have:Bw ^ tj≤Bw ^ (n - 1):=Nat.pow_le_pow_right tg (by omega)
   unfold Lim at h
   omega
def sO (N:Nat) (w:World) (e:Ending) (w':World):Prop:=∃v,e=.returned v∧Num w' v N∧w.grownBy w' none
theorem addr_add (g o j:Nat):(⟨g,o,none⟩:Addr).add j=⟨g,o+j,none⟩:=by unfold Addr.add;split<;>simp_all
theorem KQ (w:World) (g M:Nat) (fz f:Nat→Nat) (p:Option Addr) (n cap:Nat) (hB:Blk .u64 w g M fz) (h:At .u64 w p n f) (hn:n≤M):
  ∃w',(Builtin.copy_ #[25,25] 3 #[.slice (some ⟨g,0,none⟩) M M,.slice p n cap]).run Tryz.prog w=.ok (.int .i64 n) w'∧Blk .u64 w' g M (fun j=>if j<n then f j else fz j)∧w.grownBy w' (some g):=by
 by_cases h0:n=0
 ·subst h0
  refine⟨w,?_,by simpa using hB,ad _ _⟩
  exact run_copy_none w 25 25 3 93 _ _ _ _ _ _ Tryz.underlying25 (by kernel_rfl) (by simp)
 ·rcases h with h | ⟨gb,ob,rfl,hg,hc⟩
  ·omega
  obtain⟨fp,T,mc,hs,Pn⟩:=hB
  obtain⟨L,hl,hL⟩:∃L:List Value,L.length=n∧∀j,j<n→L[j]? = some (.int .u64 (f j)):=⟨(List.range n).map fun j=>Value.int .u64 (f j),by simp,fun j hj=>by simp [hj]⟩
  have ads:∀v∈L,v.oneCell'=true:=by
   intro v hv
   obtain⟨j,hj,rfl⟩:=List.getElem_of_mem hv
   have:=hL j (by omega)
   rw [List.getElem?_eq_getElem hj] at this
   injection this with this
   rw [this];rfl
  have hr:=run_copy_row (P:=Tryz.prog) w 25 25 3 93 g 0 M M ⟨gb,ob,none⟩ n cap fp T L Tryz.underlying25 (by kernel_rfl) mc
   (by rw [hl];exact(Nat.min_eq_left hn).symm) (fun j v hj=>by
    have JE:j<n:=by rw [←hl];exact(List.getElem?_eq_some_iff.1 hj).1
    rw [hL j JE] at hj
    injection hj with hj
    rw [addr_add,←hj];exact hc j JE) (by omega) ads
  refine⟨w.setRow g (fp.toList.take 0++L++fp.toList.drop (0+L.length)).toArray,?_,?_,?_⟩
  ·rw [hr,hl];rfl
  ·refine⟨_,T,setRow_heap w g _ _ T _ mc,by simp;omega,fun j hj=>?_⟩
   rw [List.getElem?_toArray,List.take_zero,List.nil_append,Nat.zero_add,hl,List.getElem?_append,hl]
   by_cases JE:j<n
   ·rw [if_pos JE];simp only [JE,if_true];exact hL j JE
   ·rw [if_neg JE,List.getElem?_drop,Array.getElem?_toList,show n+(j - n)=j from by omega]
    simp only [JE,if_false]
    exact Pn j hj
  ·exact⟨rfl,rfl,rfl,by simp [World.setRow],fun k _ hr=>setRow_other w g k _ (by intro e;apply hr;rw [e])⟩
theorem vL {w:World} {ops:Array Oper} {rest:List Oper} {o:Oper} {a:Act} {Q:Exit→Act→World→Prop} (eO:o.guard=none) (d s:Operand)
  (ho:o.op=.call { callee:=.builtin .copy,args:=#[d,s],argTypes:=#[25,25] }) (hty:o.type=3)
  (g M n cap:Nat) (p:Option Addr) (fz f:Nat→Nat) (hd:a.eval d=.slice (some ⟨g,0,none⟩) M M) (hs:a.eval s=.slice p n cap) (hB:Blk .u64 w g M fz) (h:At .u64 w p n f) (hn:n≤M)
  (K:∀w',Hid (Blk .u64 w' g M (fun j=>if j<n then f j else fz j))→Hid (w.grownBy w' (some g))→wpList Tryz.prog ops Q rest (a.put o.dst (.int .i64 n)) w'):
  wpList Tryz.prog ops Q (o::rest) a w:=by
 refine wpList_plain eO fun K' hK=>?_
 obtain⟨w',pj,h1,h2⟩:=KQ w g M fz f p n cap hB h hn
 unfold Oper.wp
 simp [execOp,ho,resolve,invoke,builtin,hd,hs,hty,pj,Result.andThen]
 exact hK _ _ (K w' h1 h2)
def lst (k:IntKind) (n:Nat) (f:Nat→Nat):List Value:=(List.range n).map fun j=>Value.int k (f j)
theorem ya {k:IntKind} {n:Nat} {f:Nat→Nat}:(lst k n f).length=n:=by simp [lst]
theorem pC {k:IntKind} {n:Nat} {f:Nat→Nat} {j:Nat} (h:j<n):(lst k n f)[j]? = some (.int k (f j)):=by simp [lst,h]
theorem L4 {k:IntKind} {n:Nat} {f:Nat→Nat} {y:Nat}:lst k (n+1) (upd f n y)=lst k n f++[.int k y]:=by
 unfold lst
 rw [List.range_succ,List.map_append]
 congr 1
 ·apply List.map_congr_left
  intro j hj
  rw [upd_ne (by simp at hj;omega)]
 ·simp [upd]
theorem JY {k:IntKind} {n m:Nat} {f:Nat→Nat} (h:m≤n):(lst k n f).take m=lst k m f:=by
 unfold lst
 rw [←List.map_take,List.take_range,Nat.min_eq_left h]
def Own (k:IntKind) (e:TypeId) (w:World) (base:Nat) (v:Value) (n:Nat) (f:Nat→Nat):Prop:=w.ownsRow base e 1 v n (lst k n f)
section
variable {k:IntKind} {e:TypeId} {w w':World} {base:Nat} {v:Value} {n:Nat} {f:Nat→Nat}
theorem Own.shape (h:Own k e w base v n f):(v=.slice none 0 0∧n=0)∨∃g cap,v=.slice (some ⟨g,0,none⟩) n cap∧base≤g∧g<w.heap.size∧n≤cap∧cap≤maxLen:=by
 rcases h.2 with h2 | ⟨g,cap,fp,hv,hb,hg,hn,hc,_⟩
 ·exact .inl h2
 ·exact .inr ⟨g,cap,hv,hb,(Array.getElem?_eq_some_iff.1 hg).1,hn,hc⟩
theorem Own.at {p:Option Addr} {m cap:Nat} (h:Own k e w base (.slice p m cap) n f):m=n∧At k w p n f:=by
 rcases h.2 with ⟨hv,hn⟩ | ⟨g,bH,fp,hv,hb,hg,hn,hc,hs,htake⟩
 ·injection hv with h1 h2;subst h1;subst h2;exact⟨hn.symm,.inl hn⟩
 ·injection hv with h1 h2 h3;subst h1;subst h2;subst h3
  refine⟨rfl,.inr ⟨g,0,rfl,(Array.getElem?_eq_some_iff.1 hg).1,fun j hj=>?_⟩⟩
  have:=World.ownsRow.cells (w:=w) (base:=base) (e:=e) (size:=1) (v:=.slice (some ⟨g,0,none⟩) m cap) (n:=m) (xs:=lst k m f) ⟨by simp [lst],.inr ⟨g,cap,fp,rfl,hb,hg,hn,hc,hs,htake⟩⟩ (g:=g) rfl j (.int k (f j)) (pC hj)
  rwa [addr_add] at this
theorem Own.kept {row:Option Nat} (h:Own k e w base v n f) (hg:w.grownBy w' row) (bl:v.ownBlock=none∨v.ownBlock≠row):Own k e w' base v n f:=World.ownsRow.kept h hg bl
theorem Own.cut {g cap m:Nat} (h:Own k e w base (.slice (some ⟨g,0,none⟩) n cap) n f) (hm:m≤n):Own k e w base (.slice (some ⟨g,0,none⟩) m cap) m f:=by
 rcases h.2 with ⟨hv,_⟩ | ⟨g',bH,fp,hv,hb,hg,hn,hc,hs,htake⟩
 ·cases hv
 ·injection hv with h1 h2 h3
  injection h1 with h1
  injection h1 with h1
  subst h1;subst h3
  refine⟨by simp [lst],.inr ⟨g,cap,fp,rfl,hb,hg,by omega,hc,hs,?_⟩⟩
  rw [Nat.mul_one] at htake ⊢
  rw [←JY hm,←htake,List.take_take,Nat.min_eq_left hm]
theorem Own.far (h:Own k e w base v n f):∀g,v.ownBlock=some g→base≤g:=by
 intro g hg
 rcases h.shape with ⟨rfl,_⟩ | ⟨g',cap,rfl,hb,_⟩
 ·cases hg
 ·simp [Value.ownBlock] at hg;omega
theorem Own.mono {base':Nat} (h:Own k e w base v n f) (hb:base'≤base):Own k e w base' v n f:=by
 refine⟨h.1,?_⟩
 rcases h.2 with h2 | ⟨g,cap,fp,hv,hg,r⟩
 ·exact .inl h2
 ·exact .inr ⟨g,cap,fp,hv,by omega,r⟩
theorem yw {a:World} (h:a.grownBy w none) (ho:Own k e w base v n f) (hb:a.heap.size≤base) (hg:w.grownBy w' v.ownBlock):a.grownBy w' none:=by
 have hf:=ho.far
 exact⟨hg.os.trans h.os,hg.tape.trans h.tape,hg.output.trans h.output,Nat.le_trans h.size hg.size,fun i hi _=>(hg.block i (zn hi h.size) (fun e=>by have:=hf i e.symm;omega)).trans (h.block i hi (by simp))⟩
theorem Own.nil:Own k e w base (.slice none 0 0) 0 f:=World.ownsRow_nil w base e 1
theorem Own.congr {f2:Nat→Nat} (h:Own k e w base v n f) (hf:∀j,j<n→f j=f2 j):Own k e w base v n f2:=by
 have:lst k n f2=lst k n f:=by
  unfold lst
  apply List.map_congr_left
  intro j hj
  rw [hf j (by simpa using hj)]
 unfold Own
 rw [this];exact h
theorem Own.set {g cap j x:Nat} (h:Own k e w base (.slice (some ⟨g,0,none⟩) n cap) n f) (hj:j<n):Own k e (w.setCell ⟨g,j,none⟩ (.int k x)) base (.slice (some ⟨g,0,none⟩) n cap) n (upd f j x):=by
 have h2:=(World.ownsRow.stored h j (.int k x)).1
 have e:(lst k n f).set j (.int k x)=lst k n (upd f j x):=by
  apply List.ext_getElem?
  intro i
  rw [List.getElem?_set,ya]
  by_cases hi:i<n
  ·rw [pC hi]
   by_cases hij:j=i
   ·subst hij;rw [pC hi,zm];simp [hi]
   ·rw [if_neg hij,pC hi,upd_ne (by omega)]
  ·rw [if_neg (by omega),List.getElem?_eq_none (by rw [ya];omega),List.getElem?_eq_none (by rw [ya];omega)]
 rw [e] at h2
 exact h2
theorem Own.cell {g cap j:Nat} (h:Own k e w base (.slice (some ⟨g,0,none⟩) n cap) n f) (hj:j<n):w.cell? ⟨g,j,none⟩=some (.int k (f j)):=by
 rw [World.ownsRow.cellAt h j (by omega)];exact pC hj
theorem Own.free {g cap j:Nat} (h:Own k e w base (.slice (some ⟨g,0,none⟩) n cap) n f):w.frozen? ⟨g,j,none⟩=false:=World.ownsRow.frozenAt h j
end
theorem ma {k:IntKind} {t e:TypeId} {bytes:Nat} (ht:Tryz.prog.underlying t=some (.slice e)) (hinfo:(Tryz.prog.info? e).map (fun i=>(i.zero,i.size,i.bytes))=some (some (.int k 0),1,bytes)) (hby:bytes≤8)
  {w0:World} {ops:Array Oper} {rest:List Oper} {o:Oper} {a:Act} {Q:Exit→Act→World→Prop} (eO:o.guard=none) (s x:Operand) (ho:o.op=.call { callee:=.builtin .append,args:=#[s,x],argTypes:=#[t,t] })
  (base:Nat) (v:Value) (n:Nat) (f:Nat→Nat) (Y:Int) (y:Nat) (hY:Y=(y:Int)) (hs:a.eval s=v) (ey:Own k e w0 base v n f) (hx:a.eval x=.slice (some ⟨w0.heap.size,0,none⟩) 1 1) (hn:n≤1000000000) (gq:base≤w0.heap.size)
  (K:∀v' w',Own k e w' base v' (n+1) (upd f n y)→w0.grownBy w' v.ownBlock→wpList Tryz.prog ops Q rest (a.put o.dst v') w'):
  wpList Tryz.prog ops Q (o::rest) a (w0.alloc (.cells #[.int k Y] e)):=by
 subst hY
 obtain⟨i0,hi,YT,hz1,hz2⟩:=info_parts hinfo
 refine wpList_append_own (P:=Tryz.prog) _ eO s x t ho base e i0 (.int k 0) 1 bytes ht hi YT hz1 hz2 rfl (by decide) v n (lst k n f) hs (ey.alloc _) ⟨w0.heap.size,0,none⟩ 1 1 [.int k y] hx rfl ?_ ?_ (by unfold maxLen;omega) ?_ (by simp;omega) ?_
 ·intro j u hj
  match j,hj with
  | 0,hj=>simp at hj;subst hj;simp [Addr.add]
 ·intro u hu;simp at hu;subst hu;rfl
 ·have:(n+1)*bytes≤(n+1)*8:=Nat.mul_le_mul_left _ hby
  omega
 ·intro v' w' h1 h2 _
  refine K v' w' ?_ ⟨h2.os,h2.tape,h2.output,Nat.le_trans (by simp) h2.size,fun j hj hr=>(h2.block j (by simp;omega) hr).trans (Below.heap_alloc w0 _ j hj)⟩
  unfold Own
  rw [L4];exact h1
theorem own_below {w w1 w2:World} (h:Below w.heap.size w w1) {o:Obj} (hg:(w1.alloc o).grownBy w2 (some w1.heap.size)):w.grownBy w2 none:=
 bz (D3 (h.alloc h.size o) h.size hg)
theorem Uw {f:Nat→Nat} {n M:Nat} (h:∀j,j<n→f j<Bw):∀j,j<M→(fun j=>if j<n then f j else 0) j<Bw:=by
 intro j _
 show(if j<n then f j else 0)<Bw
 split
 ·exact h j ‹_›
 ·exact tg
theorem FN {n:Nat} {f:Nat→Nat} (hB:V Bw f 0 n≠0):0<n:=by
 rcases Nat.eq_zero_or_pos n with h | h
 ·subst h;exact absurd rfl hB
 ·exact h
end Go.Proofs.YtjbgnopnehgbaaaGreatDoor.Zd
set_option maxHeartbeats 2000000
namespace Go.Proofs.YtjbgnopnehgbaaaGreatDoor.Zd
open Go.RowKit Mx
def nd (N:Nat):Nat:=if h:N=0 then 0 else nd (N / 10)+1
termination_by N
decreasing_by omega
theorem nd_lt (N:Nat):N<10 ^ nd N:=by
 induction N using nd.induct with
 | case1=>simp [nd]
 | case2 N h ih=>rw [nd,dif_neg h,Nat.pow_succ];omega
theorem nd_le (N:Nat) (h:N≠0):10 ^ (nd N - 1)≤N:=by
 induction N using nd.induct with
 | case1=>exact absurd rfl h
 | case2 N h ih=>
   rw [nd,dif_neg h,Nat.add_sub_cancel]
   by_cases h1:N / 10=0
   ·rw [h1,nd,dif_pos rfl];simp;omega
   ·have:=ih h1
    have e:10 ^ nd (N / 10)=10 ^ (nd (N / 10) - 1)*10:=by
     rw [←Nat.pow_succ];congr 1
     have:nd (N / 10)≠0:=by rw [nd,dif_neg h1];omega
     omega
    omega
theorem aaH {N n:Nat} (h1:N<10 ^ n) (h2:10 ^ (n - 1)≤N) (hn:0<n):n=nd N:=by
 have hN:N≠0:=by have:=Nat.pow_pos (n:=n - 1) (show 0<10 by omega);omega
 have a:=nd_lt N
 have b:=nd_le N hN
 rcases Nat.lt_trichotomy n (nd N) with h | h | h
 ·have:10 ^ n≤10 ^ (nd N - 1):=Nat.pow_le_pow_right (by omega) (by omega);omega
 ·exact h
 ·have:10 ^ nd N≤10 ^ (n - 1):=Nat.pow_le_pow_right (by omega) (by omega);omega
def dig (N j:Nat):Nat:=N / 10 ^ j % 10
theorem xG {f:Nat→Nat} {n N:Nat} (hf:∀j,j<n→f j<10) (hn:0<n) (ht:f (n - 1)≠0) (hV:V 10 f 0 n=N):n=nd N∧∀j,j<n→f j=dig N j:=by
 refine⟨aaH ?_ ?_ hn,fun j hj=>?_⟩
 ·rw [←hV];exact QC (fun j hj=>by rw [Nat.zero_add];exact hf j hj)
 ·rcases wS (b:=10) (f:=f) (o:=0) (n:=n) (.inr (by simpa using ht)) with h | h
  ·omega
  ·rw [←hV];exact h
 ·have:=Ss (b:=10) (f:=f) (o:=0) (n:=n) (by omega) (fun j hj=>by rw [Nat.zero_add];exact hf j hj) hj
  rw [Nat.zero_add] at this
  rw [←this,←hV];rfl
def decL (N:Nat):List UInt8:=(List.range (nd N)).map fun j=>UInt8.ofNat (48+dig N (nd N - 1 - j))
def txtL (Z:Int):List UInt8:=if Z=0 then [48] else if Z<0 then 45::decL Z.natAbs else decL Z.natAbs
def txt (Z:Int):Value:=.string ⟨(txtL Z).toArray⟩
def ze (N:Nat) (w:World) (e:Ending) (w':World):Prop:=
 ∃g cap f,e=.returned (.slice (some ⟨g,0,none⟩) ((nd N:Nat)) cap)∧Own .u8 5 w' w.heap.size (.slice (some ⟨g,0,none⟩) (nd N) cap) (nd N) f∧(∀j,j<nd N→f j=48+dig N j)∧w.grownBy w' none
theorem TA:(Tryz.prog.info? 5).map (fun i=>(i.zero,i.size,i.bytes))=some (some (.int .u8 0),1,1):=by kernel_rfl
def lp:Nat:=10000000000000000000
def dv (f:Nat→Nat):Nat→Nat:=fun j=>f j - 48
def We (w:World) (N na:Nat) (g:Nat) (left out:Value) (wr:World):Prop:=
 ∃nl p cl fl n fb,left=.slice p nl cl∧nl≤cl∧cl≤maxLen∧nl≤na∧(0<nl→p=some ⟨w.heap.size,0,none⟩)∧Blk .u64 wr w.heap.size na fl∧(∀j,j<na→fl j<Bw)∧(nl=0∨fl (nl - 1)≠0)∧V Bw fl 0 nl=g∧
  Own .u8 5 wr (w.heap.size+1) out n fb∧(∀j,j<n→48≤fb j∧fb j<58)∧V 10 (dv fb) 0 n+10 ^ n*g=N∧w.grownBy wr none
def aak (w wo:World) (na:Nat) (fl fb:Nat→Nat) (n r0:Nat) (r gn:Nat) (out:Value) (wr:World):Prop:=
 ∃RY,Blk .u64 wr w.heap.size na fl∧Own .u8 5 wr (w.heap.size+1) out (n+r) RY∧(∀j,j<n+r→48≤RY j∧RY j<58)∧gn<10 ^ (19 - r)∧V 10 (dv RY) 0 (n+r)+10 ^ (n+r)*gn=V 10 (dv fb) 0 n+10 ^ n*r0∧w.grownBy wr none
theorem Xw {f:Nat→Nat} {n y:Nat}:V 10 (dv (upd f n y)) 0 (n+1)=V 10 (dv f) 0 n+(y - 48)*10 ^ n:=by
 rw [gZ,Nat.zero_add]
 congr 1
 ·exact V_congr (fun j hj=>by unfold dv;rw [upd_ne (by omega)])
 ·simp [dv,upd]
theorem D0 {f:Nat→Nat} {m gn T:Nat} (h:V 10 (dv f) 0 m+10 ^ m*gn=T):V 10 (dv (upd f m (48+gn % 10))) 0 (m+1)+10 ^ (m+1)*(gn / 10)=T:=by
 rw [Xw,Nat.add_sub_cancel_left,Nat.pow_succ,←h]
 have:=Nat.div_add_mod gn 10
 generalize gn / 10=a at *
 generalize gn % 10=b at *
 rw [←this];grind
theorem Iu {f:Nat→Nat} {m gn:Nat} (h:∀j,j<m→48≤f j∧f j<58):∀j,j<m+1→48≤upd f m (48+gn % 10) j∧upd f m (48+gn % 10) j<58:=by
 intro j hj
 unfold upd
 split
 ·omega
 ·exact h j (by omega)
theorem Jc {n X g N na:Nat} (h:X+10 ^ n*g=N) (hg:0<g) (hN:N<Bw ^ na):n<64*na:=by
 have h1:10 ^ n*1≤10 ^ n*g:=Nat.mul_le_mul_left _ hg
 have h2:2 ^ n≤10 ^ n:=Nat.pow_le_pow_left (by omega) n
 have h3:Bw ^ na=2 ^ (64*na):=by rw [Nat.pow_mul];rfl
 have h4:2 ^ n<2 ^ (64*na):=by rw [←h3];omega
 exact(Nat.pow_lt_pow_iff_right (by omega)).1 h4
theorem qQ (pa:Option Addr) (na capa:Nat) (f:Nat→Nat) (w:World) (kF:na≤100000) (ha:At .u64 w pa na f) (hf:∀j,j<na→f j<Bw) (t:na=0∨f (na - 1)≠0) (h0:0<na):
  Calls Tryz.prog 64 #[.slice pa na capa] w (ze (V Bw f 0 na) w):=by
 have YC:∀w,(Instr.makeSlice 25 (.int .i64 (na:Int)) (.int .i64 (na:Int))).run Tryz.prog w=.ok (.slice (some ⟨w.heap.size,0,none⟩) na na) (w.alloc (.cells (madeCells #[.int .u64 0] na) 93)):=
  fun w=>DL na (by omega) w
 have HA:=zh ha;have HF:=zh hf;have HT:=zh t
 have hN0:V Bw f 0 na≠0:=by
  rcases wS (b:=Bw) (f:=f) (o:=0) (n:=na) (by simpa using t) with e | e
  ·omega
  ·have:=Nat.pow_pos (n:=na - 1) tg;omega
 have HN0:=zh hN0
 clear ha hf t hN0
 go_enter Tryz.func64,Tryz.ntmps64
 go_wp2_with (with_reducible refine vL rfl _ _ rfl rfl w.heap.size na na capa pa (fun _=>0) f rfl rfl (KR _ _ _) (HA.out.grown (World.grownBy_alloc _ _ none) (by simp)) (by omega) ?_)
 intro w2 fu cz
 have abM:=zh (own_below (Below.refl _ _) cz.out)
 have pO:=fu.out.lt
 have es:=zh (Uw HF.out (M:=na))
 clear YC cz HA
 have ab8:V Bw f 0 na<Bw ^ na:=QC (fun j hj=>by rw [Nat.zero_add];exact HF.out j hj)
 have VC:=zh ab8
 have HS:Hid (We w (V Bw f 0 na) na (V Bw f 0 na) (.slice (some ⟨w.heap.size,0,none⟩) na na) (.slice none 0 0) w2):=
  ⟨na,_,na,_,0,fun _=>0,rfl,Nat.le_refl _,by unfold maxLen;omega,Nat.le_refl _,fun _=>rfl,fu.out,es.out,by have:=HT.out;rcases this with h | h;exact .inl h;exact .inr (by rw [if_pos (by omega)];exact h),V_congr (fun j hj=>by simp [hj]),Own.nil,fun j hj=>by omega,by simp [V],abM.out⟩
 clear ab8 fu abM es pO
 go_wp2_with fail
 go_loopg [3,4] (V Bw f 0 na) (fun g left out wr=>We w (V Bw f 0 na) na g left out wr)
 case atStart=>exact HS.out
 case round=>
  clear HS
  obtain⟨nl,p,cl,fl,n,fb,rfl,q1,q2,q3,q4,q5,q6,q7,q8,q9,Gk,Cu,Gh⟩:=hrel
  by_cases hnl:0<nl
  ·obtain rfl:=q4 hnl
   have MF:0<gk:=by
    rw [←q8]
    rcases wS (b:=Bw) (f:=fl) (o:=0) (n:=nl) (by simpa using q7) with e | e
    ·omega
    ·have:=Nat.pow_pos (n:=nl - 1) tg;omega
   have bB:=Jc Cu MF VC.out
   have Cx:=zh q5;have YR:=zh q6;have HV8:=zh q8;have HO:=zh q9;have LH:=zh Gk;have HE:=zh Cu;have HW:=zh Gh
   have aaR:0<lp:=by unfold lp;omega
   have Ue:lp<Bw:=by unfold lp Bw;omega
   have lI:=zh aaR;have ns:=zh Ue
   have af0:=zh MF
   clear q4 q5 q6 q7 q8 q9 Gk Cu Gh aaR Ue MF
   go_wp2_with (go_at_call 99;rw [show(10000000000000000000:Int)=((lp:Nat):Int) from rfl];refine(rT w.heap.size 0 nl _ na lp fl _ Cx.out (by omega) (by omega) YR.out lI.out ns.out).mono ?_;rintro e w3 ⟨r0,f3,rfl,hr,JM,hF3,hO3,hV3,YA⟩;have wP:=zh JM;have jp:=zh hF3;have DS:=zh hV3;have eg:=zh YA;have HR:=zh hr;clear JM hF3 hO3 hV3 YA hr)
   refine(zr _ nl cl f3 _ q1 q2 (wP.out.at0.pre q3)).mono ?_
   rintro e w4 ⟨m,p',bH,rfl,hm,pP,hc',ht,hz,rO,hmp,rfl⟩
   have ZX:=zh ht;have HM2:=zh hz;have HM3:=zh hmp
   clear ht hz rO hmp
   have adw:=HO.out.far
   have lB:=HO.out.kept eg.out (by
    rcases HO.out.shape with ⟨e,_⟩ | ⟨g',c',e,hb,_⟩
    ·subst e;exact .inl rfl
    ·subst e;exact .inr (by simp [Value.ownBlock];omega))
   have CE:=zh lB
   have tA:=zh (bz (row:=none) (D3 (df HW.out) (Nat.le_refl _) eg.out))
   have Aa:Hid (aak w w na f3 fb n r0 0 r0 u4 w3):=⟨fb,wP.out,CE.out,LH.out,by have:=HR.out;unfold lp at this;omega,rfl,tA.out⟩
   clear lB adw CE tA Cx eg HW HO
   go_wp2_with fail
   go_loopg [4,5,19] 19 (fun g out grp i wr=>∃r gn:Nat,g=19 - r∧r≤19∧i=.int .i64 r∧grp=.int .u64 gn∧aak w w na f3 fb n r0 r gn out wr)
   case atStart=>exact⟨0,r0,rfl,by omega,rfl,rfl,Aa.out⟩
   case round=>
    clear Aa
    obtain⟨r,gn,rfl,akJ,rfl,rfl,RY,g1,g2,g3,g4,g5,g6⟩:=hrel
    by_cases hlt:r<19
    ·have i1:(0:Int)≤(gn:Int) % 10:=by omega
     have i2:(gn:Int) % 10<10:=by omega
     have i3:(0:Int)≤gn:=by omega
     have i4:(gn:Int)≤18446744073709551615:=by
      have:10 ^ (19 - r)≤10 ^ 19:=Nat.pow_le_pow_right (by omega) (by omega)
      omega
     have G1:=zh g1;have G2:=zh g2;have G3:=zh g3;have G4:=zh g4;have G5:=zh g5;have G6:=zh g6
     have db:=G6.out.size
     have hL:=G1.out.lt
     clear g1 g2 g3 g4 g5 g6
     go_wp2_with (at_builtin;refine ma (k:=.u8) (t:=78) (e:=5) (bytes:=1) Tryz.underlying78 TA (by omega) rfl _ _ rfl (w.heap.size+1) u4 (n+r) RY _ (48+gn % 10) (by omega) rfl G2.out rfl (by omega) (by omega) ?_)
     intro v' w' hO' hG'
     have YO:=zh hO';have PG:=zh hG'
     clear hO' hG'
     go_wp2_with fail
     have bT:gn / 10<10 ^ (19 - (r+1)):=by
      have e:10 ^ (19 - r)=10 ^ (19 - (r+1))*10:=by rw [←Nat.pow_succ];congr 1;omega
      have:=G4.out
      omega
     have hL2:w.heap.size≠w.heap.size+1:=by omega
     have hBL:Blk .u64 w' w.heap.size na f3:=by
      refine G1.out.kept PG.out ?_
      intro e
      have:=G2.out.far _ e.symm
      omega
     go_roundg (19 - (r+1))
     case measure=>omega
     case rel=>exact⟨r+1,gn / 10,rfl,by omega,by go_num,qJ (by omega),upd RY (n+r) (48+gn % 10),hBL,YO.out,Iu G3.out,bT,D0 G5.out,yw G6.out G2.out (by omega) PG.out⟩
    ·obtain rfl:r=19:=by omega
     have hz:gn=0:=by have:gn<10 ^ 0:=g4;simpa using this
     rw [hz,Nat.mul_zero,Nat.add_zero] at g5
     have hv3:V Bw f3 0 m=V Bw f3 0 nl:=(Ty (fun j h1 h2=>by simpa using HM2.out j h1 h2) hm).symm
     have Su:gk=V Bw f3 0 m*lp+r0:=by rw [hv3,DS.out];exact HV8.out.symm
     have abR:V Bw f3 0 m<gk:=by
      have h1:=lI.out
      have h2:=af0.out
      have h3:V Bw f3 0 m*2≤V Bw f3 0 m*lp:=Nat.mul_le_mul_left _ (by unfold lp;omega)
      omega
     have hE2:V 10 (dv RY) 0 (n+19)+10 ^ (n+19)*V Bw f3 0 m=V Bw f 0 na:=by
      rw [g5,←HE.out,Su,Nat.pow_add]
      have e:lp=10 ^ 19:=by unfold lp;rfl
      rw [e];generalize (10:Nat) ^ 19=t;grind
     have HH:=zh (show We w (V Bw f 0 na) na (V Bw f3 0 m) (.slice p' m bH) u4 wr from⟨m,p',bH,f3,n+19,RY,rfl,pP,by omega,by omega,HM3.out,g1,jp.out,ZX.out,rfl,g2,g3,hE2,g6⟩)
     have ae4:=zh abR
     clear hE2 Su hv3 hz g1 g2 g3 g4 g5 g6 abR
     go_wp2_with fail
     go_roundg (V Bw f3 0 m)
     case measure=>exact ae4.out
     case rel=>exact HH.out
  ·obtain rfl:nl=0:=by omega
   have hg:gk=0:=q8.symm
   rw [hg,Nat.mul_zero,Nat.add_zero] at Cu
   have wv:0<n:=by
    rcases Nat.eq_zero_or_pos n with h | h
    ·subst h;exact absurd Cu.symm HN0.out
    ·exact h
   obtain⟨G,cap,rfl,hG1,hG2,YA,hG4⟩:∃g cap,u4=.slice (some ⟨g,0,none⟩) n cap∧w.heap.size+1≤g∧g<wr.heap.size∧n≤cap∧cap≤maxLen:=by
    rcases q9.shape with ⟨_,h⟩ | h
    ·omega
    ·exact h
   have HO:=zh q9;have LH:=zh Gk;have HE:=zh Cu;have HW:=zh Gh
   clear q4 q5 q6 q7 q8 q9 Gk Cu Gh hg HT HF
   go_wp2_with fail
   go_loopg [4] n (fun g out wx=>∃m:Nat,g=m∧0<m∧m≤n∧out=.slice (some ⟨G,0,none⟩) m cap∧Hid (V 10 (dv fb) 0 m=V Bw f 0 na)∧wr=wx)
   case atStart=>exact⟨n,rfl,wv,Nat.le_refl _,rfl,HE,rfl⟩
   case round=>
    obtain⟨m,hgm,rO,sM,rfl,HM,rfl⟩:=hrel
    obtain rfl:m=_:=hgm.symm
    have fD:=HO.out.cell (j:=m - 1) (by omega)
    have abA:=LH.out (m - 1) (by omega)
    unfold maxLen at hG4
    have i1:(0:Int)≤(m:Int) - 1:=by omega
    have i2:(m:Int) - 1<m:=by omega
    by_cases hx:fb (m - 1)=48
    ·rw [hx] at fD
     have hvm:V 10 (dv fb) 0 (m - 1)=V Bw f 0 na:=by
      have:=HM.out
      obtain⟨t,rfl⟩:∃t,m=t+1:=⟨m - 1,by omega⟩
      rw [gZ,Nat.zero_add] at this
      simp only [Nat.add_sub_cancel] at hx ⊢
      have e:dv fb t=0:=by unfold dv;rw [hx]
      rw [e,Nat.zero_mul,Nat.add_zero] at this
      exact this
     have vk:0<m - 1:=by
      rcases Nat.eq_zero_or_pos (m - 1) with h | h
      ·rw [h] at hvm;exact absurd hvm.symm HN0.out
      ·exact h
     have HVM:=zh hvm
     clear hvm hx abA
     go_wp2_with fail
     go_roundg (m - 1)
     case measure=>omega
     case rel=>exact⟨m - 1,rfl,vk,by omega,rfl,HVM,rfl⟩
    ·have hd:=xG (f:=dv fb) (n:=m) (N:=V Bw f 0 na) (fun j hj=>by have:=LH.out j (by omega);unfold dv;omega) rO (by unfold dv;omega) HM.out
     have bF:ze (V Bw f 0 na) w (.returned (.slice (some ⟨G,0,none⟩) m cap)) wr:=by
      refine⟨G,cap,fb,by rw [←hd.1],?_,fun j hj=>?_,HW.out⟩
      ·rw [←hd.1];exact(HO.out.cut sM).mono (by omega)
      ·have h1:=LH.out j (by omega)
       have h2:=hd.2 j (by omega)
       unfold dv at h2
       omega
     have ec:=zh bF
     have bl:((fb (m - 1):Int) == 48)=false:=beq_eq_false_iff_ne.2 (by omega)
     clear bF hd abA hx
     go_wp2_with fail
     go_ret
     exact ec.out
end Go.Proofs.YtjbgnopnehgbaaaGreatDoor.Zd
namespace Go.Proofs.YtjbgnopnehgbaaaGreatDoor
open Go.RowKit
theorem ak.blkS {s:Nat} {T:TypeId} {w:World} {base g n c:Nat} {l:List (List Value)} (h:ak s T w base (.slice (some ⟨g,0,none⟩) n c) l):base≤g∧∃fp,w.heap[g]? = some (.cells fp T (0,0)):=by
 rcases h.1.2 with ⟨h1,h0⟩ | ⟨g',cap,fp,e,hb,hg,r⟩
 ·cases h1
 ·injection e with e1 e2 e3
  injection e1 with e1
  injection e1 with e1
  subst e1
  exact⟨hb,fp,hg⟩
theorem ak.popS {s n c:Nat} {T:TypeId} {w:World} {base:Nat} {p:Option Addr} {l:List (List Value)} {q:List Value} (h:ak s T w base (.slice p n c) (l++[q])):n=l.length+1∧ak s T w base (.slice p l.length c) l∧∃g,p=some ⟨g,0,none⟩:=by
 have h2:=h.1
 have hw:=h.2
 rw [List.length_append,List.length_singleton] at h2
 rcases h2.2 with ⟨e,h0⟩ | ⟨g,cap,fp,e,hb,hg,BC,wk,db,ht⟩
 ·omega
 ·injection e with e1 e2 e3
  subst e1;subst e2;subst e3
  refine⟨rfl,⟨⟨dc (fun q hq=>hw q (List.mem_append_left _ hq)),.inr ⟨g,c,fp,rfl,hb,hg,by omega,wk,db,?_⟩⟩,fun q hq=>hw q (List.mem_append_left _ hq)⟩,g,rfl⟩
  have IA:=dc (fun q hq=>hw q (List.mem_append_left _ hq):Wid s l)
  have h3:(fp.toList.take ((l.length+1)*s)).take (l.length*s)=l.flatten:=by
   rw [ht,List.flatten_append,List.take_append_of_le_length (by omega),List.take_of_length_le (by omega)]
  rw [List.take_take,Nat.min_eq_left (Nat.mul_le_mul_right _ (by omega))] at h3
  exact h3
theorem ak.newS {s:Nat} {T:TypeId} (w:World) (base:Nat) (y:List Value) (hy:y.length=s) (h1:∀u∈y,u.oneCell'=true) (hb:base≤w.heap.size):ak s T (w.alloc (.cells y.toArray T)) base (.slice (some ⟨w.heap.size,0,none⟩) 1 1) [y]:=by
 refine⟨⟨by simp [hy],.inr ⟨w.heap.size,1,y.toArray,rfl,hb,heap_alloc_new w _,Nat.le_refl _,by unfold maxLen;omega,by simp [hy],?_⟩⟩,fun q hq=>by simp at hq;subst hq;exact⟨hy,h1⟩⟩
 subst hy
 simp
theorem ak.last2S {n c g:Nat} {T:TypeId} {w:World} {base:Nat} {l:List (List Value)} {a b u:Value} (hu:u.oneCell'=true) (h:ak 2 T w base (.slice (some ⟨g,0,none⟩) n c) (l++[[a,b]])):ak 2 T (w.setCell ⟨g,l.length*2+1,none⟩ u) base (.slice (some ⟨g,0,none⟩) n c) (l++[[a,u]])∧w.grownBy (w.setCell ⟨g,l.length*2+1,none⟩ u) (some g):=by
 have hn:=h.popS.1
 subst hn
 have hw:=h.2
 have Um:Wid 2 l:=fun q hq=>hw q (List.mem_append_left _ hq)
 have h1:=h.1
 rw [List.length_append,List.length_singleton] at h1
 have h2:=World.ownsRow.stored h1 (l.length*2+1) u
 refine⟨⟨?_,fun q hq=>?_⟩,h2.2⟩
 ·have e:(l++[[a,u]]).flatten=((l++[[a,b]]).flatten).set (l.length*2+1) u:=by
   rw [List.flatten_append,List.flatten_append,List.set_append,if_neg (by rw [dc Um];omega),dc Um]
   simp
  rw [e,List.length_append,List.length_singleton]
  exact h2.1
 ·rcases List.mem_append.1 hq with hq | hq
  ·exact Um q hq
  ·simp at hq;subst hq
   refine⟨rfl,fun v hv=>?_⟩
   simp at hv
   rcases hv with rfl | rfl
   ·exact(hw [v,b] (by simp)).2 v (by simp)
   ·exact hu
theorem ak.top2S {n c g:Nat} {T:TypeId} {w:World} {base:Nat} {l:List (List Value)} {a b:Value} (h:ak 2 T w base (.slice (some ⟨g,0,none⟩) n c) (l++[[a,b]])):w.cell? ⟨g,l.length*2,none⟩=some a∧w.cell? ⟨g,l.length*2+1,none⟩=some b∧(∀j,w.frozen? ⟨g,j,none⟩=false)∧g<w.heap.size∧l.length+1≤c∧c≤maxLen:=by
 have hn:=h.popS.1
 subst hn
 obtain⟨p,c',e,dG,h1,h2,-⟩:=h.is
 injection e with e1 e2 e3
 subst e1;subst e3
 obtain⟨g2,o2,ee,gc,rp⟩:=dG.resolve_left (by simp)
 injection ee with ee;injection ee with ee lr;subst ee lr
 have a0:=rp l.length [a,b] (by simp) 0 _ rfl
 have a1:=rp l.length [a,b] (by simp) 1 _ rfl
 rw [Nat.zero_add,Nat.add_zero] at a0
 rw [Nat.zero_add] at a1
 have h3:=h.1
 rw [List.length_append,List.length_singleton] at h3 h1
 exact⟨a0,a1,fun j=>World.ownsRow.frozenAt h3 j,gc,h1,h2⟩
theorem ak.cellS {s n c g:Nat} {T:TypeId} {w:World} {base j i:Nat} {l:List (List Value)} {q:List Value} {v:Value} (h:ak s T w base (.slice (some ⟨g,0,none⟩) n c) l) (hj:l[j]? = some q) (hi:q[i]? = some v):w.cell? ⟨g,j*s+i,none⟩=some v:=by
 obtain⟨p,c',e,dG,-⟩:=h.is
 injection e with e1 e2 e3
 subst e1
 obtain⟨g2,o2,ee,-,rp⟩:=dG.resolve_left (fun e=>by rw [e] at hj;simp at hj)
 injection ee with ee;injection ee with ee lr;subst ee lr
 have:=rp j q hj i v hi
 rwa [Nat.zero_add] at this
theorem ju {α : Type} (l:List α):l = []∨∃l' x,l=l'++[x]:=by
 rcases List.eq_nil_or_concat l with h | ⟨l',x,h⟩
 ·exact .inl h
 ·exact .inr ⟨l',x,by simpa using h⟩
inductive Sx where
 | mk (op:Int) (nm md:List UInt8) (nu:Int) (ys:Bool) (ks:List Sx) (ps:Int)
def Sx.op:Sx→Int | .mk op _ _ _ _ _ _=>op
def Sx.ks:Sx→List Sx | .mk _ _ _ _ _ ks _=>ks
def di (l:List UInt8):Bool:=decide ((aJ l).1=1∧(aJ l).2=l.length∧bg 1 l=0)
def countB (op:Int) (n:Nat):Bool:=
 if op≤4 then decide (n=0) else if op≤6 then decide (n=1) else if op≤20∨op=22∨op=23 then decide (n=2) else if op=21 then decide (n=3) else decide (n≤8)
def pZ (op:Int) (nm md:List UInt8):Bool:=
 if op=3∨op=22 then di nm && decide (md = []) else if op=24 then di nm && (decide (md = []) || di md) else decide (nm = []) && decide (md = [])
def B9 (op:Int) (nu:Int):Bool:=if op=1 then decide (0≤nu) && decide ((Zd.txtL nu).length≤60) else decide (nu=0)
def iR (op:Int) (nm md:List UInt8) (nu:Int) (ys:Bool) (n:Nat):Bool:=
 decide (1≤op) && decide (op≤24) && countB op n && pZ op nm md && B9 op nu && (decide (op=2) || !ys)
def se (f:Bool) (op:Int):Bool:=if f then decide (op<21) else decide (op≠4)
mutual
def bf (f:Bool):Sx→Bool
 | .mk op nm md nu ys ks _=>se f op && iR op nm md nu ys ks.length && cx f ks
def cx (f:Bool):List Sx→Bool
 | []=>true
 | x::l=>bf f x && cx f l
end
mutual
def bw:Sx→Nat
 | .mk _ _ _ _ _ ks _=>1+dh ks
def dh:List Sx→Nat
 | []=>0
 | x::l=>bw x+dh l
end
theorem gz (x:Sx):0<bw x:=by cases x;simp only [bw];omega
theorem jd:∀ {l:List Sx} {j:Nat} {x:Sx},l[j]? = some x→bw x≤dh l
 | [],j,x,h=>by simp at h
 | y::l,0,x,h=>by simp at h;subst h;simp only [dh];omega
 | y::l,j+1,x,h=>by
   have:=jd (l:=l) (j:=j) (x:=x) (by simpa using h)
   simp only [dh];omega
theorem BK {x k:Sx} {j:Nat} (h:x.ks[j]? = some k):bw k<bw x:=by
 cases x with
 | mk op nm md nu ys ks ps=>simp only [Sx.ks] at h;have:=jd h;simp only [bw];omega
theorem rN {f:Bool}:∀ {l:List Sx} {j:Nat} {x:Sx},cx f l=true→l[j]? = some x→bf f x=true
 | [],j,x,_,h=>by simp at h
 | y::l,0,x,hr,h=>by simp at h;subst h;simp only [cx,Bool.and_eq_true] at hr;exact hr.1
 | y::l,j+1,x,hr,h=>by simp only [cx,Bool.and_eq_true] at hr;exact rN hr.2 (by simpa using h)
def aV (op:Int):Nat:=
 if op=5 then 8 else if op=6 then 4 else if op=7∨op=8 then 6 else if 9≤op∧op≤11 then 7 else if 12≤op∧op≤17 then 5 else if op=18 then 3 else if op=19 then 2 else if op=20 then 1
 else if 21≤op∧op≤23 then 0 else 9
def iu (l:Nat):Nat:=if l=1 then 2 else if l=5 then 6 else l
def iT (l:Nat):Nat:=if l=1 then 1 else l+1
def eJ (op:Int):List UInt8:=
 [[43],[45],[42],[47],[37],[61],[60,62],[60],[60,61],[62],[62,61],[38,38],[124,124],[61,62]].getD (op - 7).toNat []
inductive Pc where
 | bs (l:List UInt8)
 | ex (x:Sx) (least:Nat)
def mh (op:Int) (t:List UInt8) (least:Nat):List UInt8:=if aV op<least then [40]++t++[41] else t
def ln:List (List UInt8)→List UInt8
 | []=>[]
 | [t]=>t
 | t::l=>t++[44,32]++ln l
def iB (op:Int) (nm md:List UInt8) (nu:Int) (ys:Bool) (k:List (Int×List UInt8)):List UInt8:=
 let K:=fun j least=>mh (k.getD j (1,[])).1 (k.getD j (1,[])).2 least
 if op=1 then Zd.txtL nu else if op=2 then (if ys then [116,114,117,101] else [102,97,108,115,101]) else if op=3 then nm else if op=4 then [114,101,115]
 else if op=5 then [45]++K 0 9 else if op=6 then [110,111,116,32]++K 0 4
 else if op=21 then [105,102,32]++K 0 0++[32,116,104,101,110,32]++K 1 0++[32,101,108,115,101,32]++K 2 0
 else if op=22 then [108,101,116,32]++nm++[32,61,32]++K 0 0++[32,105,110,32]++K 1 0
 else if op=23 then [97,115,115,101,114,116,32]++K 0 0++[32,105,110,32]++K 1 0
 else if op=24 then (if md = [] then [] else md++[46])++nm++[40]++ln (k.map (·.2))++[41]
 else K 0 (iu (aV op))++([32]++eJ op++[32])++K 1 (iT (aV op))
mutual
def txS:Sx→List UInt8
 | .mk op nm md nu ys ks _=>iB op nm md nu ys (iK ks)
def iK:List Sx→List (Int×List UInt8)
 | []=>[]
 | x::l=>(x.op,txS x)::iK l
end
def ji (x:Sx) (least:Nat):List UInt8:=mh x.op (txS x) least
theorem BO:∀(l:List Sx) (j:Nat),(iK l)[j]? = l[j]?.map (fun x=>(x.op,txS x))
 | [],j=>by simp [iK]
 | x::l,0=>by simp [iK]
 | x::l,j+1=>by simp [iK,BO l j]
def gL:Pc→List UInt8
 | .bs l=>l
 | .ex x least=>ji x least
def bu (l:List Pc):List UInt8:=l.flatMap gL
def ei:List Sx→List Pc
 | []=>[]
 | [x]=>[.ex x 0]
 | x::l=>.ex x 0::.bs [44,32]::ei l
def nilS:Sx:=.mk 1 [] [] 0 false [] 0
def fR:Sx→List Pc
 | .mk op nm md nu ys ks _=>
   let K:=fun j=>ks.getD j nilS
   if op=1 then [.bs (Zd.txtL nu)] else if op=2 then [.bs (if ys then [116,114,117,101] else [102,97,108,115,101])] else if op=3 then [.bs nm] else if op=4 then [.bs [114,101,115]]
   else if op=5 then [.bs [45],.ex (K 0) 9] else if op=6 then [.bs [110,111,116,32],.ex (K 0) 4]
   else if op=21 then [.bs [105,102,32],.ex (K 0) 0,.bs [32,116,104,101,110,32],.ex (K 1) 0,.bs [32,101,108,115,101,32],.ex (K 2) 0]
   else if op=22 then [.bs ([108,101,116,32]++nm++[32,61,32]),.ex (K 0) 0,.bs [32,105,110,32],.ex (K 1) 0]
   else if op=23 then [.bs [97,115,115,101,114,116,32],.ex (K 0) 0,.bs [32,105,110,32],.ex (K 1) 0]
   else if op=24 then (if md = [] then [] else [.bs (md++[46])])++[.bs (nm++[40])]++ei ks++[.bs [41]]
   else [.ex (K 0) (iu (aV op)),.bs ([32]++eJ op++[32]),.ex (K 1) (iT (aV op))]
def gQ (x:Sx) (least:Nat):List Pc:=if aV x.op<least then .bs [40]::fR x++[.bs [41]] else fR x
theorem Dl (op:Int) (t:List UInt8):mh op t 0=t:=by simp [mh]
theorem wU:∀l:List Sx,bu (ei l)=ln ((iK l).map (·.2))
 | []=>rfl
 | [x]=>by simp [ei,bu,gL,ji,Dl,iK,ln]
 | x::y::l=>by
   have:=wU (y::l)
   simp only [bu] at this
   simp only [ei,bu,List.flatMap_cons,this,gL,ji,Dl]
   simp [iK,ln]
theorem gA {ks:List Sx} {j least:Nat} (h:j<ks.length):mh ((iK ks).getD j (1,[])).1 ((iK ks).getD j (1,[])).2 least=ji (ks.getD j nilS) least:=by
 have h1:(iK ks).getD j (1,[])=((ks.getD j nilS).op,txS (ks.getD j nilS)):=by
  simp only [List.getD_eq_getElem?_getD,BO,List.getElem?_eq_getElem h,Option.map_some,Option.getD_some]
 rw [h1];rfl
theorem GH {op:Int} {nm md:List UInt8} {nu:Int} {ys:Bool} {ks:List Sx} {ps:Int} (h1:1≤op) (h2:op≤24) (hc:countB op ks.length=true):
  bu (fR (.mk op nm md nu ys ks ps))=txS (.mk op nm md nu ys ks ps):=by
 have hk:(5≤op∧op≤6→1=ks.length)∧(7≤op∧op≤20∨op=22∨op=23→2=ks.length)∧(op=21→3=ks.length):=by
  unfold countB at hc
  refine⟨fun h=>?_,fun h=>?_,fun h=>?_⟩
  ·rw [if_neg (by omega),if_pos (by omega)] at hc;exact(of_decide_eq_true hc).symm
  ·rw [if_neg (by omega),if_neg (by omega),if_pos (by omega)] at hc;exact(of_decide_eq_true hc).symm
  ·rw [if_neg (by omega),if_neg (by omega),if_neg (by omega),if_pos h] at hc;exact(of_decide_eq_true hc).symm
 simp only [fR,txS,iB]
 by_cases e1:op=1
 ·simp [e1,bu,gL]
 rw [if_neg e1,if_neg e1]
 by_cases e2:op=2
 ·simp [e2,bu,gL]
 rw [if_neg e2,if_neg e2]
 by_cases e3:op=3
 ·simp [e3,bu,gL]
 rw [if_neg e3,if_neg e3]
 by_cases e4:op=4
 ·simp [e4,bu,gL]
 rw [if_neg e4,if_neg e4]
 by_cases e5:op=5
 ·rw [if_pos e5,if_pos e5,gA (by omega)];simp [bu,gL]
 rw [if_neg e5,if_neg e5]
 by_cases e6:op=6
 ·rw [if_pos e6,if_pos e6,gA (by omega)];simp [bu,gL]
 rw [if_neg e6,if_neg e6]
 by_cases Do:op=21
 ·have:=hk.2.2 Do
  rw [if_pos Do,if_pos Do,gA (by omega),gA (by omega),gA (by omega)];simp [bu,gL]
 rw [if_neg Do,if_neg Do]
 by_cases e22:op=22
 ·have:=hk.2.1 (by omega)
  rw [if_pos e22,if_pos e22,gA (by omega),gA (by omega)];simp [bu,gL]
 rw [if_neg e22,if_neg e22]
 by_cases e23:op=23
 ·have:=hk.2.1 (by omega)
  rw [if_pos e23,if_pos e23,gA (by omega),gA (by omega)];simp [bu,gL]
 rw [if_neg e23,if_neg e23]
 by_cases Dp:op=24
 ·rw [if_pos Dp,if_pos Dp]
  have:=wU ks
  simp only [bu] at this
  by_cases hm:md = []
  ·simp [hm,bu,gL,this]
  ·simp [hm,bu,gL,this]
 rw [if_neg Dp,if_neg Dp]
 have:=hk.2.1 (by omega)
 rw [gA (by omega),gA (by omega)];simp [bu,gL]
theorem ID {x:Sx} (least:Nat) (h1:1≤x.op) (h2:x.op≤24) (hc:countB x.op x.ks.length=true):bu (gQ x least)=ji x least:=by
 cases x with
 | mk op nm md nu ys ks ps=>
   simp only [Sx.op,Sx.ks] at h1 h2 hc
   have h:=GH (nm:=nm) (md:=md) (nu:=nu) (ys:=ys) (ps:=ps) h1 h2 hc
   show bu (if aV op<least then Pc.bs [40]::fR (.mk op nm md nu ys ks ps)++[.bs [41]] else fR (.mk op nm md nu ys ks ps))=if aV op<least then [40]++txS (.mk op nm md nu ys ks ps)++[41] else txS (.mk op nm md nu ys ks ps)
   by_cases hl:aV op<least
   ·rw [if_pos hl,if_pos hl];simp only [bu] at h;simp [bu,gL,h]
   ·rw [if_neg hl,if_neg hl];exact h
mutual
def wgS:Sx→Nat
 | .mk _ _ _ _ _ ks _=>6+gP ks
def gP:List Sx→Nat
 | []=>0
 | x::l=>2+wgS x+gP l
end
def wgP:Pc→Nat
 | .bs _=>1
 | .ex x _=>wgS x
def eP (l:List Pc):Nat:=(l.map wgP).sum
theorem jP (a b:List Pc):eP (a++b)=eP a+eP b:=by simp [eP,List.map_append,List.sum_append]
theorem ja (a:Pc) (b:List Pc):eP (a::b)=wgP a+eP b:=by simp [eP]
theorem FX:∀l:List Sx,eP (ei l)≤gP l
 | []=>by simp [ei,eP,gP]
 | [x]=>by simp [ei,eP,gP,wgP]
 | x::y::l=>by
   have:=FX (y::l)
   simp only [ei,ja,wgP,gP] at this ⊢;omega
theorem WP:∀ {ks:List Sx} {n:Nat},ks.length=n→(n=1→gP ks=2+wgS (ks.getD 0 nilS))∧(n=2→gP ks=4+wgS (ks.getD 0 nilS)+wgS (ks.getD 1 nilS))∧(n=3→gP ks=6+wgS (ks.getD 0 nilS)+wgS (ks.getD 1 nilS)+wgS (ks.getD 2 nilS))
 | [],n,h=>by simp at h;subst h;simp
 | [x],n,h=>by simp at h;subst h;simp [gP]
 | [x,y],n,h=>by simp at h;subst h;simp [gP];omega
 | [x,y,z],n,h=>by simp at h;subst h;simp [gP];omega
 | x::y::z::u::l,n,h=>by simp at h;omega
theorem Q6 {op:Int} {nm md:List UInt8} {nu:Int} {ys:Bool} {ks:List Sx} {ps:Int} (h1:1≤op) (h2:op≤24) (hc:countB op ks.length=true):
  eP (fR (.mk op nm md nu ys ks ps))+2<wgS (.mk op nm md nu ys ks ps):=by
 have hk:(5≤op∧op≤6→ks.length=1)∧(7≤op∧op≤20∨op=22∨op=23→ks.length=2)∧(op=21→ks.length=3):=by
  unfold countB at hc
  refine⟨fun h=>?_,fun h=>?_,fun h=>?_⟩
  ·rw [if_neg (by omega),if_pos (by omega)] at hc;exact of_decide_eq_true hc
  ·rw [if_neg (by omega),if_neg (by omega),if_pos (by omega)] at hc;exact of_decide_eq_true hc
  ·rw [if_neg (by omega),if_neg (by omega),if_neg (by omega),if_pos h] at hc;exact of_decide_eq_true hc
 obtain⟨g1,g2,g3⟩:=WP (ks:=ks) rfl
 simp only [fR,wgS]
 by_cases e1:op=1
 ·rw [if_pos e1];simp only [eP,List.map,wgP,List.sum_cons,List.sum_nil];omega
 rw [if_neg e1]
 by_cases e2:op=2
 ·rw [if_pos e2];simp only [eP,List.map,wgP,List.sum_cons,List.sum_nil];omega
 rw [if_neg e2]
 by_cases e3:op=3
 ·rw [if_pos e3];simp only [eP,List.map,wgP,List.sum_cons,List.sum_nil];omega
 rw [if_neg e3]
 by_cases e4:op=4
 ·rw [if_pos e4];simp only [eP,List.map,wgP,List.sum_cons,List.sum_nil];omega
 rw [if_neg e4]
 by_cases e5:op=5
 ·rw [if_pos e5];have:=g1 (hk.1 (by omega));simp only [eP,List.map,wgP,List.sum_cons,List.sum_nil];omega
 rw [if_neg e5]
 by_cases e6:op=6
 ·rw [if_pos e6];have:=g1 (hk.1 (by omega));simp only [eP,List.map,wgP,List.sum_cons,List.sum_nil];omega
 rw [if_neg e6]
 by_cases Do:op=21
 ·rw [if_pos Do];have:=g3 (hk.2.2 Do);simp only [eP,List.map,wgP,List.sum_cons,List.sum_nil];omega
 rw [if_neg Do]
 by_cases e22:op=22
 ·rw [if_pos e22];have:=g2 (hk.2.1 (by omega));simp only [eP,List.map,wgP,List.sum_cons,List.sum_nil];omega
 rw [if_neg e22]
 by_cases e23:op=23
 ·rw [if_pos e23];have:=g2 (hk.2.1 (by omega));simp only [eP,List.map,wgP,List.sum_cons,List.sum_nil];omega
 rw [if_neg e23]
 by_cases Dp:op=24
 ·rw [if_pos Dp]
  have:=FX ks
  by_cases hm:md = []
  ·rw [if_pos hm];simp only [jP,ja,wgP,List.nil_append];simp only [eP,List.map_nil,List.sum_nil] at *;omega
  ·rw [if_neg hm];simp only [jP,ja,wgP];simp only [eP,List.map_nil,List.sum_nil] at *;omega
 rw [if_neg Dp]
 have:=g2 (hk.2.1 (by omega))
 simp only [eP,List.map,wgP,List.sum_cons,List.sum_nil];omega
theorem Qb {x:Sx} (least:Nat) (h1:1≤x.op) (h2:x.op≤24) (hc:countB x.op x.ks.length=true):eP (gQ x least)<wgS x:=by
 cases x with
 | mk op nm md nu ys ks ps=>
   simp only [Sx.op,Sx.ks] at h1 h2 hc
   have h:=Q6 (nm:=nm) (md:=md) (nu:=nu) (ys:=ys) (ps:=ps) h1 h2 hc
   show eP (if aV op<least then Pc.bs [40]::fR (.mk op nm md nu ys ks ps)++[.bs [41]] else fR (.mk op nm md nu ys ks ps))<_
   by_cases hl:aV op<least
   ·rw [if_pos hl];simp only [List.cons_append,ja,jP,wgP] at *;simp only [eP,List.map_nil,List.sum_nil] at *;omega
   ·rw [if_neg hl];omega
open Go
section
variable {P:Program} {ops:Array Oper} {Q:Exit→Act→World→Prop} {md:Region.Mode} {S:World→Prop} {z:Nat}
def wpG (P:Program) (md:Region.Mode) (ops:Array Oper) (Q:Exit→Act→World→Prop) (S:World→Prop) (z:Nat):Nat→Array Bool→Act→World→Prop
 | 0,L,a,w=>Region.ready md ops L = []∧Q .normal a w
 | n+1,L,a,w=>(Region.ready md ops L = []→Q .normal a w)∧∀i∈Region.ready md ops L,wpOp P ops Q i (fun a' w'=>(i≠z→S w')∧wpG P md ops Q S z n (L.setIfInBounds i true) a' w') a w
theorem FG:∀(n:Nat) (L:Array Bool) (a:Act) (w:World),wpG P md ops Q S z n L a w→wpAny P md ops Q n L a w
 | 0,_,_,_,h=>h
 | n+1,_,_,_,h=>⟨h.1,fun i hi=>wpOp_mono (fun a' w' k=>FG n _ a' w' k.2) (h.2 i hi)⟩
theorem Hz {L:Array Bool} {i:Nat} (hz:Region.waitsFor md ops z i=true) (hi:L.getD i true=false):z∉Region.ready md ops L:=fun h=>by
 obtain⟨oz,hoz,e,he,hb,hei⟩:=Region.waitsFor_spec hz
 obtain⟨-,o,ho,k9⟩:=mem_ready.1 h
 obtain rfl:o=oz:=Option.some.inj (ho.symm.trans hoz)
 have h1:=k9 e he hb
 rw [hei] at h1
 have h2:=getD_both hi
 rw [h1] at h2
 cases h2
theorem Hk {i:Nat} {oi:Oper} {v:Value} (hi:ops[i]? = some oi) (hsel:∀(j:Nat) (o:Oper) cs b,ops[j]? = some o→o.op≠.select cs b) (hz:Region.waitsFor md ops z i=true)
  (hQ:∀c a w,Q (.panic c) (a.put oi.dst v) w→Q (.panic c) a w):∀(n:Nat) (L:Array Bool) (a:Act) (w:World),
   (∀j oj,ops[j]? = some oj→j≠i→L.getD j true=false→(∀e∈oj.after,Region.binds md e=true→e.on≠i)→oi.apart ops oj=true)→
   i∈Region.ready md ops L→YieldsIf P ops S oi v a→S w→wpG P md ops Q S z n (L.setIfInBounds i true) (a.put oi.dst v) w→wpG P md ops Q S z (n+1) L a w:=by
 intro n
 induction n with
 | zero=>
   intro L a w _ hr hy hS H
   refine⟨fun h0=>(by rw [h0] at hr;cases hr),fun j hj=>?_⟩
   by_cases bl:j=i
   ·subst bl;exact hy.wpOp hi hS ⟨fun _=>hS,H⟩
   ·have h1:=ready_mono hj bl
    rw [H.1] at h1;cases h1
 | succ n ih=>
   intro L a w hap hr hy hS H
   refine⟨fun h0=>(by rw [h0] at hr;cases hr),fun j hj=>?_⟩
   by_cases bl:j=i
   ·subst bl;exact hy.wpOp hi hS ⟨fun _=>hS,H⟩
   ·have YE:=(mem_ready.1 hr).1
    have hjz:j≠z:=fun e=>Hz hz YE (e▸hj)
    obtain⟨Ta,oj,hoj,k9⟩:=mem_ready.1 hj
    have oS:∀e∈oj.after,Region.binds md e=true→e.on≠i:=fun e he hb h0=>by
     have h1:=k9 e he hb
     rw [h0,getD_both YE] at h1
     cases h1
    have ab7:=wpOp_putIf hoj (hap j oj hoj bl Ta oS) (fun cs b=>hsel i oi cs b hi) (fun cs b=>hsel j oj cs b hoj) hQ hy (H.2 j (ready_mono hj bl))
    refine wpOp_mono (fun a' w' k=>⟨fun _=>k.2.1 hjz,ih (L.setIfInBounds j true) a' w' (fun m om hm hmi LC sM=>hap m om hm hmi ?_ sM) (ready_mono hr (Ne.symm bl)) k.1 (k.2.1 hjz) ?_⟩) ab7
    ·by_cases hjm:j=m
     ·subst hjm;exact Ta
     ·rwa [getD_set_ne true hjm] at LC
    ·have hc:=Array.setIfInBounds_comm (xs:=L) true true bl
     rw [hc];exact k.2.2
theorem gh {i:Nat} {oi:Oper} {v:Value} {n:Nat} {L:Array Bool} {a:Act} {w:World} (hi:ops[i]? = some oi) (hs:Region.noSelect ops=true) (hf:Region.free md ops L i=true) (hr:(Region.ready md ops L).contains i=true) (hz:Region.waitsFor md ops z i=true)
  (hQ:∀c a w,Q (.panic c) (a.put oi.dst v) w→Q (.panic c) a w) (hw:Region.wanted oi (yielded ops a.tmps)=true) (hy:∀w,S w→(execOp a.eval oi).run P w=.ok (.value v) w) (hS:S w)
  (h:wpG P md ops Q S z n (L.setIfInBounds i true) (a.put oi.dst v) w):wpG P md ops Q S z (n+1) L a w:=
 Hk hi (Region.noSelect_spec hs) hz hQ n L a w (Region.free_spec hi hf) (by simpa using hr) (.inl ⟨hw,hy⟩) hS h
theorem br {i:Nat} {o:Oper} {n:Nat} {L:Array Bool} {a:Act} {w:World} (hr:Region.ready md ops L = [i]) (ho:ops[i]? = some o)
  (h:∀K:Act→World→Prop,Shut (∀a' w',(i≠z→S w')→((i≠z→S w')→wpG P md ops Q S z n (L.setIfInBounds i true) a' w')→K a' w')→if Region.wanted o (yielded ops a.tmps)=true then Oper.wp P o a w K Q else K (a.put o.dst undef) w):wpG P md ops Q S z (n+1) L a w:=
 ⟨fun h0=>(by rw [hr] at h0;cases h0),fun j hj=>by
  rw [hr] at hj
  obtain rfl:j=i:=by simpa using hj
  exact wpOp_step ho (fun K hK=>h K (fun a' w' h1 h2=>hK a' w' ⟨h1,h2 h1⟩))⟩
theorem On {n:Nat} {L:Array Bool} {a:Act} {w:World} (hr:Region.ready md ops L = []) (h:Q .normal a w):wpG P md ops Q S z n L a w:=by
 cases n with
 | zero=>exact⟨hr,h⟩
 | succ n=>exact⟨fun _=>h,fun i hi=>(by rw [hr] at hi;cases hi)⟩
theorem zY {id:Nat} {a:Act} {w:World} (hm:P.follows .mixedOrders=true) (hS:S w.drew)
  (h:S w.drew→wpG P .any ops Q S z ops.size (Array.replicate ops.size false) a w.drew):(Code.region id ops true).wp P Q a w:=
 wp_region_any hm (FG _ _ _ _ (h hS))
end
end Go.Proofs.YtjbgnopnehgbaaaGreatDoor
