/- Lemmas. -/
import Derived.Test.YtpkipghjohomcaaGreatDoorP2
set_option linter.unusedVariables false
set_option linter.unusedSimpArgs false
namespace Go.Proofs.YtpkipghjohomcaaGreatDoor
mutual
def lvT:Tr->List Nat
 | .lf m=>[m]
 | .nd _ A=>cg A
def cg:List Tr->List Nat
 | []=>[]
 | t::l=>lvT t++cg l
end
theorem ts (a b:List Tr):cg (a++b)=cg a++cg b:=by
 induction a with
 | nil=>simp [cg]
 | cons A a m=>simp [cg,m]
theorem Kz (k:Nat) (l:List Tr):cg [.nd k l]=cg l:=by simp [cg,lvT]
def Run (s:St) (r:RT):Prop:=r.2.e=0->s.e=0/\s.i<=r.2.i/\cg r.1=List.range' s.i (r.2.i - s.i)
theorem Run.nil (s:St):Run s ([],s):=fun h=>⟨h,Nat.le_refl _,by simp [cg]⟩
theorem Run.bad {s t:St} {l:List Tr} (h:t.e≠0):Run s (l,t):=fun m=>absurd m h
theorem Run.app {s:St} {a b:RT} (E:Run s a) (G:Run a.2 b):Run s (a.1++b.1,b.2):=fun m=>by
 obtain⟨B,L,R⟩:=G m
 obtain⟨A,J,O⟩:=E B
 refine⟨A,Nat.le_trans J L,?_⟩
 show cg (a.1++b.1)=_
 rw [ts,O,R]
 have H:a.2.i=s.i+1*(a.2.i - s.i):=by omega
 have I:b.2.i - s.i=(a.2.i - s.i)+(b.2.i - a.2.i):=by omega
 show _=List.range' s.i (b.2.i - s.i)
 rw [I,<-List.range'_append,<-H]
theorem Run.node {s:St} {l:List Tr} {t:St} (k:Nat) (h:Run s (l,t)):Run s ([.nd k l],t):=fun m=>by
 obtain⟨A,B,E⟩:=h m
 exact⟨A,B,by show cg [.nd k l]=_;rw [Kz];exact E⟩
theorem Run.same {s t:St} {r:RT} (h:Run t r) (E:t.e=0->s.e=0) (G:t.i=s.i):Run s r:=fun m=>by
 obtain⟨A,H,B⟩:=h m
 exact⟨E A,by omega,by rw [<-G];exact B⟩
section
variable (T:List Tok)
theorem cA {s:St} (h:(az T s).kind≠5):Run s (ae T s):=fun E=>by
 have m:=(ss h).2
 have A:(ae T s).2.i=s.i+1:=m
 have B:s.e=0:=by
  have:(ae T s).2.e=s.e:=by show(aS T s).2.e=s.e;unfold aS;rw [if_neg h]
  omega
 refine⟨B,by omega,?_⟩
 rw [A]
 show cg [.lf s.i]=_
 simp [cg,lvT]
theorem nA {n:Nat} (m:n≠0) (s t:St) (l:List Tr):Run s (l,aH T n t):=Run.bad (df T m t)
theorem dI (w:List UInt8) (s:St):Run s (an T w s):=by
 unfold an
 split
 ·rename_i h;exact cA T (ah h).1
 ·exact nA T (by decide) s s []
theorem nF {k:Nat} (m:k≠5) (s:St):Run s (aM T k s):=by
 unfold aM
 split
 ·rename_i h;exact cA T (by rw [h.2];exact m)
 ·exact nA T (by decide) s s []
theorem j5 {D n:Nat} {s:St} {r:RT} (h:Run (aY T D n s) r):Run s r:=
 h.same (fun m=>by
  unfold aY at m
  split at m
  ·exact absurd m (df T (by decide) s)
  ·exact m) (Wr T D n s)
theorem qE {c:St->Bool} {sub:St->RT} (m:∀s,c s=true->(az T s).kind≠5) (A:∀s,Run s (sub s)) {s:St}:∀f r,Run s r->Run s (rwT T c sub f r)
 | 0,r,h=>h
 | f+1,r,h=>by
   unfold rwT
   split
   ·rename_i B
    refine qE m A f _ (Run.node 10 ?_)
    exact(h.app (cA T (m _ B))).app (A _)
   ·exact h
theorem sL {sub:St->RT} (A:∀s,Run s (sub s)) {s:St}:∀f k r,Run s r->Run s (bT T sub f k r)
 | 0,k,r,h=>h
 | f+1,k,r,h=>by
   unfold bT
   split
   ·rename_i B
    refine sL A f _ _ ?_
    refine(h.app (cA T (ah B).1)).app ?_
    refine(A _).same ?_ ?_
    ·intro m
     split at m
     ·exact absurd m (df T (by decide) _)
     ·exact m
    ·split
     ·exact lc _ _ _
     ·rfl
   ·exact h
structure NxR (nt:NxT):Prop where
 expr:∀s,Run s (nt.expr s)
 formula:∀s,Run s (nt.formula s)
 nots:∀s,Run s (nt.nots s)
 factor:∀s,Run s (nt.factor s)
end
section
variable (T:List Tok) (D n:Nat) {nt:NxT} (h:NxR nt)
include h
theorem L1 (s:St):Run s (lz T nt s):=sL T h.expr _ _ _ (h.expr s)
omit h in
theorem JN {s:St} {a:RT} (m:Run s a):Run s (dh T a):=by
 unfold dh
 split
 ·rename_i A;exact(m.app (cA T (ah A).1)).app (nF T (by decide) _)
 ·exact m
omit h in
theorem I8 {s:St} {a:RT} (m:Run s a):Run s (de T a):=m.app (dI T _ _)
theorem Kn {s:St} {a:RT} (m:Run s a):Run s (cM T nt a):=by
 unfold cM
 split
 ·exact m
 ·exact m.app (L1 T h _)
omit h in
theorem JX {s:St} {a:RT} (m:Run s a):Run s (jr T a):=Run.node 13 (m.app (dI T _ _))
theorem MX {s:St} (m:(az T s).kind≠5):Run s (eV T nt s):=by
 unfold eV
 split
 ·exact Run.node 14 (cA T m)
 ·exact JX T (Kn T h (I8 T (JN T (cA T m))))
theorem Pk (s:St):Run s (cQ T nt s):=by
 unfold cQ
 split
 ·rename_i A;exact Run.bad A
 split
 ·rename_i m;exact Run.node 15 (cA T (by rw [m];decide))
 split
 ·rename_i m;exact Run.node 16 (cA T (by rcases m with m | m<;>exact(ah m).1))
 split
 ·rename_i m;exact Run.node 17 (cA T (ah m.2).1)
 split
 ·rename_i m;exact Run.node 12 (((cA T (ah m).1).app (h.expr _)).app (dI T _ _))
 split
 ·rename_i m;exact MX T h (by rw [m];decide)
 ·exact nA T (by decide) s s []
omit h in
theorem CV {sub:St->RT} (B:∀s,Run s (sub s)) {s:St} (A:(az T s).kind≠5):Run s (gL T D n sub s):=by
 unfold gL
 simp only []
 split
 ·rename_i m;exact Run.bad m
 ·exact Run.node 11 ((cA T A).app (j5 T (B _)))
theorem pF (s:St):Run s (bz T D n nt s):=by
 unfold bz
 split
 ·rename_i m;exact CV T D n h.factor (ah m).1
 ·exact Pk T h s
theorem tt (s:St):Run s (dH T D n nt s):=qE T (fun _ m=>Py m) (pF T D n h) _ _ (pF T D n h s)
theorem As (s:St):Run s (ew T D n nt s):=qE T (fun _ m=>Mf m) (tt T D n h) _ _ (tt T D n h s)
theorem BF (s:St):Run s (gp T D n nt s):=by
 unfold gp
 simp only []
 split
 ·rename_i m;exact CV T D n h.nots (ah m).1
 split
 ·rename_i m;exact Run.node 10 (((As T D n h s).app (cA T (OM m))).app (As T D n h _))
 ·exact As T D n h s
theorem Ig (s:St):Run s (oN T D n nt s):=qE T (fun _ m=>(ah m).1) (BF T D n h) _ _ (BF T D n h s)
theorem Ll (s:St):Run s (orT T D n nt s):=qE T (fun _ m=>(ah m).1) (Ig T D n h) _ _ (Ig T D n h s)
theorem tF (s:St):Run s (aP T D n nt s):=by
 unfold aP
 simp only []
 split
 ·rename_i A
  split
  ·rename_i m;exact Run.bad m
  ·exact Run.node 10 (((Ll T D n h s).app (cA T (ah A).1)).app (j5 T (h.formula _)))
 ·exact Ll T D n h s
theorem Rp {s:St} (m:(az T s).kind≠5):Run s (qN T nt s):=
 Run.node 7 ((((((cA T m).app (nF T (by decide) _)).app (dI T _ _)).app (h.expr _)).app (dI T _ _)).app (h.expr _))
theorem VR {s:St} (m:(az T s).kind≠5):Run s (ifT T nt s):=
 Run.node 8 ((((((cA T m).app (h.expr _)).app (dI T _ _)).app (h.expr _)).app (dI T _ _)).app (h.expr _))
theorem Fa {s:St} (m:(az T s).kind≠5):Run s (fL T nt s):=
 Run.node 9 ((((cA T m).app (h.expr _)).app (dI T _ _)).app (h.expr _))
theorem OS (s:St):Run s (fK T D n nt s):=by
 unfold fK
 simp only []
 split
 ·rename_i A;exact Run.bad A
 split
 ·rename_i m;exact j5 T (Rp T h (ah m.2).1)
 split
 ·rename_i m;exact j5 T (VR T h (ah m.2).1)
 split
 ·rename_i m;exact j5 T (Fa T h (ah m.2).1)
 ·exact j5 T (tF T D n h _)
end
theorem wX (T:List Tok) (D:Nat):∀d,NxR (nxT T D d)
 | 0=>⟨fun s=>j5 T (Run.nil _),fun s=>Run.nil s,fun s=>Run.nil s,fun s=>Run.nil s⟩
 | d+1=>⟨OS T D _ (wX T D d),tF T D _ (wX T D d),BF T D _ (wX T D d),pF T D _ (wX T D d)⟩
section
variable (T:List Tok) {et:St->RT} (h:∀s,Run s (et s))
include h
omit h in
theorem Lh {s:St} {a:RT} (A:Run s a):Run s (iY T a):=by
 unfold iY
 split
 ·rename_i m;exact A.app (Run.node 5 (cA T (by rcases m with m | m<;>exact(ah m).1)))
 ·exact nA T (by decide) s _ _
theorem Lu {s:St} {a:RT} (A:Run s a):Run s (iD T et a):=by
 unfold iD
 split
 ·rename_i B
  refine A.app (Run.node 6 (((cA T (ah B).1).app ?_).app ?_))
  ·exact(h _).same (fun m=>m) rfl
  ·exact(dI T _ _).same (fun m=>m) rfl
 ·exact A
theorem zj (s:St):Run s (cj T et s):=Lu T h (Lh T (dI T _ s))
theorem Ga (s:St):Run s (fD T et s):=Run.node 4 ((nF T (by decide) s).app (zj T h _))
theorem Ew (s:St):Run s (fI T et s):=sL T (Ga T h) _ _ _ (Ga T h s)
omit h in
theorem Nr (s:St):Run s (cV T s):=by
 unfold cV
 split
 ·rename_i m;exact cA T (ah m).1
 ·exact Run.nil s
omit h in
theorem MP {s:St} {a:RT} (m:Run s a):Run s (dJ T a):=m.app (((dI T _ _).app (nF T (by decide) _)).app (dI T _ _))
theorem M7 {s:St} {a:RT} (m:Run s a):Run s (eH T et a):=by
 unfold eH
 split
 ·exact m.app (Ew T h _)
 ·exact m
theorem OE {s:St} {a:RT} (m:Run s a):Run s (gv T et a):=
 ((m.app (((dI T _ _).app (zj T h _)).app (dI T _ _))).app (h _)).app (dI T _ _)
theorem Q8 (s:St):Run s (jg T et s):=Run.node 3 (OE T h (M7 T h (MP T (Nr T s))))
omit h in
theorem Dp {s:St} {r:RT} (A:Run s r) (m:isQ T [105,109,112,111,114,116] r.2=true):Run s (fB T r):=
 A.app (Run.node 2 (((cA T (ah m).1).app (nF T (by decide) _)).app (dI T _ _)))
omit h in
theorem vu {c:St->Bool} {step:RT->RT} {most:Nat} {s:St} (m:∀r,c r.2=true->Run s r->Run s (step r)):∀f k r,Run s r->Run s (eW T c step most f k r).2
 | 0,k,r,hr=>hr
 | f+1,k,r,hr=>by
   unfold eW
   split
   ·rename_i A
    split
    ·exact nA T (by decide) s _ _
    ·exact vu m f _ _ (m r A hr)
   ·exact hr
omit h in
theorem Gs {s:St} {r:RT} (J:Run s r) (m:(aM T 5 r.2).2.e=0):s.e=0/\(az T r.2).kind=5/\s.i<=r.2.i/\cg (r.1++(aM T 5 r.2).1)=List.range' s.i (r.2.i+1 - s.i):=by
 unfold aM at m ⊢
 split at m
 ·rename_i A
  obtain⟨B,E,G⟩:=J A.1
  rw [if_pos A]
  refine⟨B,A.2,E,?_⟩
  rw [ts,G]
  have H:r.2.i+1 - s.i=(r.2.i - s.i)+1:=by omega
  have I:r.2.i=s.i+1*(r.2.i - s.i):=by omega
  rw [H,<-List.range'_append,<-I]
  simp [ae,cg,lvT]
 ·exact absurd m (df T (by decide) _)
omit h in
theorem zy (E:vC T) {s:St} (m:(aM T 5 s).2.i<T.length) (A:(az T s).kind=5):s.i+1=T.length:=by
 have B:(aM T 5 s).2.i=s.i:=by
  unfold aM
  split
  ·show(aS T s).2.i=s.i
   unfold aS;rw [if_pos A]
  ·exact lc T 22 s
 rw [B] at m
 have G:T[s.i]? = some (az T s):=by unfold az;rw [QS m];rfl
 exact(E _ _ G).1 A
theorem DX (O:vC T) {s:St} (hs:s.i=0) (B:(bE T et s).2.i<T.length) (A:(bE T et s).2.e=0):cg (bE T et s).1=List.range T.length:=by
 have J:(aG T ([],s)).1=false->(aG T ([],s)).2.2.e≠0:=iA T _ _ _
 have R:Run s (aG T ([],s)).2:=vu T (fun ak m E=>Dp T E m) _ _ _ (Run.nil s)
 have I:(dk T et (aG T ([],s)).2).1=false->(dk T et (aG T ([],s)).2).2.2.e≠0:=iA T _ _ _
 have L:Run s (dk T et (aG T ([],s)).2).2:=vu T (fun ak m E=>E.app (Q8 T h _)) _ _ _ R
 unfold bE at A B ⊢
 split at A
 ·rename_i m;exact absurd A (J m)
 ·rename_i H
  split at A
  ·rename_i m;exact absurd A (I m)
  ·rename_i G
   rw [if_neg H,if_neg G]
   obtain⟨-,Y,-,Z⟩:=Gs T L A
   show cg (_++_)=_
   rw [Z,hs]
   rw [if_neg H,if_neg G] at B
   have U:=zy T (s:=(dk T et (aG T ([],s)).2).2.2) O B Y
   rw [U,Nat.sub_zero,List.range_eq_range']
theorem Jt (E:vC T) {s:St} (J:s.i=0) (m:(dY T et s).2.i<T.length) (A:(dY T et s).2.e=0):cg (dY T et s).1=List.range T.length:=by
 have G:Run s (et (setIn true s)):=(h _).same (fun B=>B) rfl
 unfold dY at A m ⊢
 simp only [] at A m ⊢
 obtain⟨-,H,-,I⟩:=Gs T G A
 rw [I,J,zy T E m H,Nat.sub_zero,List.range_eq_range']
end
end Go.Proofs.YtpkipghjohomcaaGreatDoor
namespace Go.Proofs.YtpkipghjohomcaaGreatDoor
def MK (T:List Tok):Prop:=∀A m:St,A.i<=m.i->m.i<T.length->(az T A).pos<=(az T m).pos
structure Bad (T:List Tok) (t t':St):Prop where
 deep:t.e=23
 le:t.i<=t'.i
 late:t'.e=23->t.pos<=t'.pos
 place:t.pos=(az T t).pos
 inr:t'.i<T.length
def RS (T:List Tok) (r r':RT):Prop:=r=r'\/Bad T r.2 r'.2
structure RF (T:List Tok) (f f':St->RT):Prop where
 rel:∀s,s.i<T.length->RS T (f s) (f' s)
 one:∀s,Good T s (f s)
 two:∀s,Good T s (f' s)
section
variable {T:List Tok} (hE:vC T) (hM:MK T)
include hE hM
theorem Bad.go {t m:St} (h:Bad T t m) {r r':RT} (g:Good T t r) (g':Good T m r'):Bad T r.2 r'.2:=by
 obtain⟨J,B,E⟩:=g.stay (by rw [h.deep];decide)
 have I:=g'.inr hE h.inr
 have A:=Nat.le_trans h.le g'.mono
 refine⟨J.trans h.deep,by rw [E];exact A,fun G=>?_,?_,I⟩
 ·rw [B]
  by_cases H:m.e=0
  ·rw [g'.place H (by rw [G];decide),h.place];exact hM _ _ A I
  ·obtain⟨L,O,-⟩:=g'.stay H
   rw [O];exact h.late (L.symm.trans G)
 ·rw [B,h.place];unfold az;rw [E]
theorem RS.then {a a':RT} (h:RS T a a') {g g':RT->RT} (E:a=a'->RS T (g a) (g' a)) (A:Good T a.2 (g a)) (B:Good T a'.2 (g' a')):RS T (g a) (g' a'):=by
 rcases h with m | G
 ·rw [<-m];exact E m
 ·exact .inr (G.go hE hM A B)
omit hE hM in
theorem RS.put {a a':RT} (h:RS T a a') (k:List Tr->List Tr):RS T (k a.1,a.2) (k a'.1,a'.2):=by
 rcases h with m | A
 ·rw [m];exact .inl rfl
 ·exact .inr A
theorem RS.app {a a':RT} (h:RS T a a') {f f':St->RT} (m:RF T f f') (B:a.2.i<T.length):RS T (a.1++(f a.2).1,(f a.2).2) (a'.1++(f' a'.2).1,(f' a'.2).2):=by
 rcases h with A | E
 ·rw [<-A];exact RS.put (m.rel _ B) (fun G=>a.1++G)
 ·exact .inr (E.go hE hM ((Good.self T a).app (m.one _)) ((Good.self T a').app (m.two _)))
omit hE hM in
theorem RF.same {f:St->RT} (h:∀s,Good T s (f s)):RF T f f:=⟨fun _ _=>.inl rfl,h,h⟩
omit hE hM in
theorem kJ (w:List UInt8):RF T (an T w) (an T w):=RF.same (aW T w)
omit hE hM in
theorem Im (k:Nat):RF T (aM T k) (aM T k):=RF.same (dT T k)
theorem L3 {c:St->Bool} (A:∀s,c s=true->s.e=0) {sub sub':St->RT} (m:RF T sub sub'):∀f r,r.2.i<T.length->RS T (rwT T c sub f r) (rwT T c sub' f r)
 | 0,r,h=>.inl rfl
 | f+1,r,h=>by
   unfold rwT
   split
   ·rename_i H
    have B:=(aE T (A _ H)).inr hE h
    have E:=m.rel (ae T r.2).2 B
    have G:RS T ([.nd 10 (r.1++(ae T r.2).1++(sub (ae T r.2).2).1)],(sub (ae T r.2).2).2) ([.nd 10 (r.1++(ae T r.2).1++(sub' (ae T r.2).2).1)],(sub' (ae T r.2).2).2):=RS.put E (fun I=>[.nd 10 (r.1++(ae T r.2).1++I)])
    exact RS.then hE hM G (g:=rwT T c sub f) (g':=rwT T c sub' f) (fun _=>L3 A m f _ ((m.one _).inr hE B)) (fZ T A m.one f _ (Good.self T _)) (fZ T A m.two f _ (Good.self T _))
   ·exact .inl rfl
theorem AO {c:St->Bool} (A:∀s,c s=true->s.e=0) {sub sub':St->RT} (m:RF T sub sub'):RF T (fun s=>rwT T c sub (bG T (sub s).2) (sub s)) (fun s=>rwT T c sub' (bG T (sub' s).2) (sub' s)):=by
 refine⟨fun s h=>?_,fun s=>fZ T A m.one _ _ (m.one s),fun s=>fZ T A m.two _ _ (m.two s)⟩
 exact RS.then hE hM (m.rel s h) (g:=fun B=>rwT T c sub (bG T B.2) B) (g':=fun B=>rwT T c sub' (bG T B.2) B) (fun _=>L3 hE hM A m _ _ ((m.one s).inr hE h)) (fZ T A m.one _ _ (Good.self T _)) (fZ T A m.two _ _ (Good.self T _))
theorem D9 {sub sub':St->RT} (m:RF T sub sub'):∀f k r,r.2.i<T.length->RS T (bT T sub f k r) (bT T sub' f k r)
 | 0,k,r,h=>.inl rfl
 | f+1,k,r,h=>by
   unfold bT
   split
   ·rename_i H
    have B:=(aE T (ah H).2).inr hE h
    have A:(if k=8 then aH T 15 (ae T r.2).2 else (ae T r.2).2).i<T.length:=by split;rw [lc];exact B;exact B
    have E:=m.rel _ A
    have G:=RS.put E (fun I=>r.1++(ae T r.2).1++I)
    exact RS.then hE hM G (g:=bT T sub f (k+1)) (g':=bT T sub' f (k+1)) (fun _=>D9 m f _ _ ((m.one _).inr hE A)) (ft T m.one f _ _ (Good.self T _)) (ft T m.two f _ _ (Good.self T _))
   ·exact .inl rfl
theorem Cm {sub sub':St->RT} (A:RF T sub sub'):RF T (fun m=>bT T sub (bG T (sub m).2) 1 (sub m)) (fun m=>bT T sub' (bG T (sub' m).2) 1 (sub' m)):=by
 refine⟨fun m h=>?_,fun m=>ft T A.one _ _ _ (A.one m),fun m=>ft T A.two _ _ _ (A.two m)⟩
 exact RS.then hE hM (A.rel m h) (g:=fun B=>bT T sub (bG T B.2) 1 B) (g':=fun B=>bT T sub' (bG T B.2) 1 B) (fun _=>D9 hE hM A _ _ _ ((A.one m).inr hE h)) (ft T A.one _ _ _ (Good.self T _)) (ft T A.two _ _ _ (Good.self T _))
variable {D D':Nat} (hD:D<=D')
include hD
theorem uE (m:Nat) {f f':St->RT} (J:m<=D->∀s,s.i<T.length->RS T (f s) (f' s)) (g':∀s,s.e=0->Good T s (f' s)) (s:St) (I:s.i<T.length):
  RS T (if (aY T D m s).e≠0 then ([],aY T D m s) else f (aY T D m s)) (if (aY T D' m s).e≠0 then ([],aY T D' m s) else f' (aY T D' m s)):=by
 by_cases L:m<=D
 ·have G:aY T D m s=s:=by unfold aY;rw [if_neg (by omega)]
  have A:aY T D' m s=s:=by unfold aY;rw [if_neg (by omega)]
  rw [G,A]
  split
  ·exact .inl rfl
  ·exact J L s I
 ·have G:aY T D m s=aH T 23 s:=by unfold aY;rw [if_pos (by omega)]
  rw [G,if_pos (df T (by decide) s)]
  by_cases O:m<=D'
  ·have A:aY T D' m s=s:=by unfold aY;rw [if_neg (by omega)]
   rw [A]
   by_cases B:s.e=0
   ·rw [if_neg (by omega)]
    have E:=g' s B
    have H:aH T 23 s={ s with e:=23,pos:=(az T s).pos }:=by unfold aH;rw [if_pos B]
    rw [H]
    refine .inr ⟨rfl,E.mono,fun e=>?_,rfl,E.inr hE I⟩
    show(az T s).pos<=_
    rw [E.place B (by rw [e];decide)]
    exact hM _ _ E.mono (E.inr hE I)
   ·rw [if_pos B]
    have H:aH T 23 s=s:=by unfold aH;rw [if_neg B]
    rw [H];exact .inl rfl
  ·have A:aY T D' m s=aH T 23 s:=by unfold aY;rw [if_pos (by omega)]
   rw [A,if_pos (df T (by decide) s)];exact .inl rfl
structure NxF (T:List Tok) (D n1:Nat) (nt nt':NxT):Prop where
 one:NxG T nt
 two:NxG T nt'
 expr:∀s,s.i<T.length->RS T (nt.expr s) (nt'.expr s)
 formula:n1<=D->∀s,s.i<T.length->RS T (nt.formula s) (nt'.formula s)
 nots:n1<=D->∀s,s.i<T.length->RS T (nt.nots s) (nt'.nots s)
 factor:n1<=D->∀s,s.i<T.length->RS T (nt.factor s) (nt'.factor s)
variable {n:Nat} {nt nt':NxT} (h:NxF T D (n+1) nt nt')
include h
omit hD in
theorem QR:RF T (lz T nt) (lz T nt'):=Cm hE hM ⟨h.expr,h.one.expr,h.two.expr⟩
omit h in
theorem GL {sub sub':St->RT} (G:n+1<=D->∀s,s.i<T.length->RS T (sub s) (sub' s)) (g':∀s,Good T s (sub' s)) {s:St} (A:s.e=0) (B:s.i<T.length):RS T (gL T D n sub s) (gL T D' n sub' s):=by
 unfold gL
 exact uE hE hM hD (n+1) (f:=fun m=>([.nd 11 ((ae T s).1++(sub m).1)],(sub m).2)) (f':=fun m=>([.nd 11 ((ae T s).1++(sub' m).1)],(sub' m).2)) (fun E m H=>RS.put (G E m H) (fun I=>[.nd 11 ((ae T s).1++I)])) (fun m _=>⟨(g' m).stay,(g' m).mono,(g' m).place,(g' m).inr⟩) _ ((aE T A).inr hE B)
omit hD in
theorem OC (c:RT) (m:c.2.i<T.length):RS T (cM T nt c) (cM T nt' c):=by
 unfold cM
 split
 ·exact .inl rfl
 ·exact RS.put ((QR hE hM h).rel _ m) (fun A=>c.1++A)
omit hD in
theorem Rb {s:St} (B:s.e=0) (E:s.i<T.length):RS T (eV T nt s) (eV T nt' s):=by
 unfold eV
 split
 ·exact .inl rfl
 ·have A:=uX T (wg T (aE T B))
  exact RS.then hE hM (OC hE hM h _ (A.inr hE E)) (g:=jr T) (g':=jr T) (fun m=>by rw [m];exact .inl rfl) (pU T (Good.self T _)) (pU T (Good.self T _))
omit hD in
theorem Rr:RF T (cQ T nt) (cQ T nt'):=by
 refine⟨fun G B=>?_,sR T h.one,sR T h.two⟩
 unfold cQ
 split
 ·exact .inl rfl
 rename_i m
 have m:G.e=0:=by omega
 split
 ·exact .inl rfl
 split
 ·exact .inl rfl
 split
 ·exact .inl rfl
 split
 ·have E:=(aE T m).inr hE B
  have H:=RS.put (h.expr _ E) (fun A=>(ae T G).1++A)
  have I:=RS.app hE hM H (kJ [41]) ((h.one.expr _).inr hE E)
  exact RS.put I (fun A=>[.nd 12 A])
 split
 ·exact Rb hE hM h m B
 ·exact .inl rfl
theorem y5:RF T (bz T D n nt) (bz T D' n nt'):=by
 refine⟨fun B m=>?_,gV T D n h.one,gV T D' n h.two⟩
 unfold bz
 split
 ·rename_i A;exact GL hE hM hD h.factor h.two.factor (ah A).2 m
 ·exact(Rr hE hM h).rel B m
theorem EH:RF T (dH T D n nt) (dH T D' n nt'):=AO hE hM (fun _ m=>OH m) (y5 hE hM hD h)
theorem VY:RF T (ew T D n nt) (ew T D' n nt'):=AO hE hM (fun _ m=>Mh m) (EH hE hM hD h)
theorem PH:RF T (gp T D n nt) (gp T D' n nt'):=by
 refine⟨fun A G=>?_,lM T D n h.one,lM T D' n h.two⟩
 unfold gp
 split
 ·rename_i I;exact GL hE hM hD h.nots h.two.nots (ah I).2 G
 ·have E:=VY hE hM hD h
  have J:∀m:RT,Good T m.2 (if jf T m.2=true then ([.nd 10 (m.1++(ae T m.2).1++(ew T D n nt (ae T m.2).2).1)],(ew T D n nt (ae T m.2).2).2) else m):=fun m=>by
   split
   ·rename_i B;exact Good.node 10 (((Good.self T m).app (aE T (DZ B))).app (E.one _))
   ·exact Good.self T m
  have H:∀m:RT,Good T m.2 (if jf T m.2=true then ([.nd 10 (m.1++(ae T m.2).1++(ew T D' n nt' (ae T m.2).2).1)],(ew T D' n nt' (ae T m.2).2).2) else m):=fun m=>by
   split
   ·rename_i B;exact Good.node 10 (((Good.self T m).app (aE T (DZ B))).app (E.two _))
   ·exact Good.self T m
  refine RS.then hE hM (E.rel A G) (g:=fun m=>if jf T m.2=true then ([.nd 10 (m.1++(ae T m.2).1++(ew T D n nt (ae T m.2).2).1)],(ew T D n nt (ae T m.2).2).2) else m) (g':=fun m=>if jf T m.2=true then ([.nd 10 (m.1++(ae T m.2).1++(ew T D' n nt' (ae T m.2).2).1)],(ew T D' n nt' (ae T m.2).2).2) else m) (fun _=>?_) (J _) (H _)
  show RS T (if jf T (ew T D n nt A).2=true then _ else _) (if jf T (ew T D n nt A).2=true then _ else _)
  split
  ·rename_i B
   exact RS.put (E.rel _ ((aE T (DZ B)).inr hE ((E.one A).inr hE G))) (fun L=>[.nd 10 ((ew T D n nt A).1++(ae T (ew T D n nt A).2).1++L)])
  ·exact .inl rfl
theorem Xe:RF T (oN T D n nt) (oN T D' n nt'):=AO hE hM (fun _ m=>(ah m).2) (PH hE hM hD h)
theorem ac1:RF T (orT T D n nt) (orT T D' n nt'):=AO hE hM (fun _ m=>(ah m).2) (Xe hE hM hD h)
theorem wN:RF T (aP T D n nt) (aP T D' n nt'):=by
 refine⟨fun H J=>?_,iw T D n h.one,iw T D' n h.two⟩
 have L:=ac1 hE hM hD h
 have O:∀(E:Nat) (G:NxT) (I:NxG T G) (m:RT),Good T m.2 (if isQ T [61,62] m.2=true then (if (aY T E (n+1) (ae T m.2).2).e≠0 then ([],aY T E (n+1) (ae T m.2).2) else ([.nd 10 (m.1++(ae T m.2).1++(G.formula (aY T E (n+1) (ae T m.2).2)).1)],(G.formula (aY T E (n+1) (ae T m.2).2)).2)) else m):=fun E G I m=>by
  split
  ·rename_i B
   split
   ·exact(aE T (ah B).2).state (eo T (Good.nil T _))
   ·exact Good.node 10 (((Good.self T m).app (aE T (ah B).2)).app (eo T (I.formula _)))
  ·exact Good.self T m
 refine RS.then hE hM (L.rel H J) (g:=fun m=>if isQ T [61,62] m.2=true then (if (aY T D (n+1) (ae T m.2).2).e≠0 then ([],aY T D (n+1) (ae T m.2).2) else ([.nd 10 (m.1++(ae T m.2).1++(nt.formula (aY T D (n+1) (ae T m.2).2)).1)],(nt.formula (aY T D (n+1) (ae T m.2).2)).2)) else m) (g':=fun m=>if isQ T [61,62] m.2=true then (if (aY T D' (n+1) (ae T m.2).2).e≠0 then ([],aY T D' (n+1) (ae T m.2).2) else ([.nd 10 (m.1++(ae T m.2).1++(nt'.formula (aY T D' (n+1) (ae T m.2).2)).1)],(nt'.formula (aY T D' (n+1) (ae T m.2).2)).2)) else m) (fun _=>?_) (O D nt h.one _) (O D' nt' h.two _)
 generalize U:orT T D n nt H=m
 show RS T (if isQ T [61,62] m.2=true then _ else _) (if isQ T [61,62] m.2=true then _ else _)
 split
 ·rename_i B
  have R:m.2.i<T.length:=by rw [<-U];exact(L.one H).inr hE J
  exact uE hE hM hD (n+1) (f:=fun A=>([.nd 10 (m.1++(ae T m.2).1++(nt.formula A).1)],(nt.formula A).2)) (f':=fun A=>([.nd 10 (m.1++(ae T m.2).1++(nt'.formula A).1)],(nt'.formula A).2)) (fun Y A Z=>RS.put (h.formula Y A Z) (fun ak=>[.nd 10 (m.1++(ae T m.2).1++ak)])) (fun A _=>⟨(h.two.formula A).stay,(h.two.formula A).mono,(h.two.formula A).place,(h.two.formula A).inr⟩) _ ((aE T (ah B).2).inr hE R)
 ·exact .inl rfl
omit hD hE hM in
theorem AE:RF T nt.expr nt'.expr:=⟨h.expr,h.one.expr,h.two.expr⟩
omit hD in
theorem X4 {s:St} (R:s.e=0) (U:s.i<T.length):RS T (qN T nt s) (qN T nt' s):=by
 have m:=AE h
 have A:=(aE T R).inr hE U
 have H:=RS.app hE hM (a:=ae T s) (a':=ae T s) (.inl rfl) (Im 1) A
 have B:=(dT T 1 _).inr hE A
 have I:=RS.app hE hM H (kJ [61]) B
 have E:=(aW T [61] _).inr hE B
 have J:=RS.app hE hM I m E
 have G:=(m.one _).inr hE E
 have L:=RS.app hE hM J (kJ [105,110]) G
 have Y:=(aW T [105,110] _).inr hE G
 have O:=RS.app hE hM L m Y
 exact RS.put O (fun Z=>[.nd 7 Z])
omit hD in
theorem acb {s:St} (R:s.e=0) (U:s.i<T.length):RS T (ifT T nt s) (ifT T nt' s):=by
 have m:=AE h
 have A:=(aE T R).inr hE U
 have H:=RS.app hE hM (a:=ae T s) (a':=ae T s) (.inl rfl) m A
 have B:=(m.one _).inr hE A
 have I:=RS.app hE hM H (kJ [116,104,101,110]) B
 have E:=(aW T [116,104,101,110] _).inr hE B
 have J:=RS.app hE hM I m E
 have G:=(m.one _).inr hE E
 have L:=RS.app hE hM J (kJ [101,108,115,101]) G
 have Y:=(aW T [101,108,115,101] _).inr hE G
 have O:=RS.app hE hM L m Y
 exact RS.put O (fun Z=>[.nd 8 Z])
omit hD in
theorem Jz {s:St} (I:s.e=0) (J:s.i<T.length):RS T (fL T nt s) (fL T nt' s):=by
 have m:=AE h
 have A:=(aE T I).inr hE J
 have E:=RS.app hE hM (a:=ae T s) (a':=ae T s) (.inl rfl) m A
 have B:=(m.one _).inr hE A
 have G:=RS.app hE hM E (kJ [105,110]) B
 have L:=(aW T [105,110] _).inr hE B
 have H:=RS.app hE hM G m L
 exact RS.put H (fun O=>[.nd 9 O])
def tJ (T:List Tok) (D n:Nat) (nt:NxT) (t:St):RT:=
 if t.inn=false/\isQ T [108,101,116] t=true then qN T nt t
 else if t.inn=false/\isQ T [105,102] t=true then ifT T nt t
 else if t.inn=false/\isQ T [97,115,115,101,114,116] t=true then fL T nt t
 else aP T D n nt t
omit hE hM hD h in
theorem za (A:NxG T nt) (t:St):Good T t (tJ T D n nt t):=by
 unfold tJ
 split
 ·rename_i m;exact CR T A (ah m.2).2
 split
 ·rename_i m;exact Gp T A (ah m.2).2
 split
 ·rename_i m;exact tO T A (ah m.2).2
 ·exact iw T D n A t
theorem Qp (t:St) (A:t.i<T.length):RS T (tJ T D n nt t) (tJ T D' n nt' t):=by
 unfold tJ
 split
 ·rename_i m;exact X4 hE hM h (ah m.2).2 A
 split
 ·rename_i m;exact acb hE hM h (ah m.2).2 A
 split
 ·rename_i m;exact Jz hE hM h (ah m.2).2 A
 ·exact(wN hE hM hD h).rel t A
theorem Qr (s:St) (A:s.i<T.length):RS T (fK T D n nt s) (fK T D' n nt' s):=
 uE hE hM hD n (f:=tJ T D n nt) (f':=tJ T D' n nt') (fun _ m B=>Qp hE hM hD h m B) (fun m _=>za h.two m) s A
end
theorem Uv {T:List Tok} (hE:vC T) (hM:MK T) {D D':Nat} (hD:D<=D'):∀d m n,n+d=D+1->n+m=D'+1->NxF T D n (nxT T D d) (nxT T D' m)
 | 0,m,n,h1,h2=>by
   have O:=ey T D' m
   refine⟨ey T D 0,O,fun A R=>?_,fun B=>absurd B (by omega),fun B=>absurd B (by omega),fun B=>absurd B (by omega)⟩
   have B:n=D+1:=by omega
   subst B
   cases m with
   | zero=>
     have:D'=D:=by omega
     subst this;exact .inl rfl
   | succ m=>
     have E:D' - m=D+1:=by omega
     have J:=uE hE hM hD (D+1) (f:=fun I=>(([]:List Tr),I)) (f':=tJ T D' (D+1) (nxT T D' m)) (fun U=>absurd U (by omega)) (fun I _=>za (ey T D' m) I) A R
     show RS T ([],aY T D (D+1) A) (fK T D' (D' - m) (nxT T D' m) A)
     rw [E]
     have L:(if (aY T D (D+1) A).e≠0 then (([]:List Tr),aY T D (D+1) A) else ([],aY T D (D+1) A))=([],aY T D (D+1) A):=by split<;>rfl
     rw [L] at J
     exact J
 | d+1,0,n,h1,h2=>absurd hD (by omega)
 | d+1,m+1,n,h1,h2=>by
   have H:=Uv hE hM hD d m (n+1) (by omega) (by omega)
   have E:D - d=n:=by omega
   have G:D' - m=n:=by omega
   refine⟨ey T D (d+1),ey T D' (m+1),?_,fun _=>?_,fun _=>?_,fun _=>?_⟩
   ·show ∀A,A.i<T.length->RS T (fK T D (D - d) (nxT T D d) A) (fK T D' (D' - m) (nxT T D' m) A)
    rw [E,G];exact Qr hE hM hD H
   ·show ∀A,A.i<T.length->RS T (aP T D (D - d) (nxT T D d) A) (aP T D' (D' - m) (nxT T D' m) A)
    rw [E,G];exact(wN hE hM hD H).rel
   ·show ∀A,A.i<T.length->RS T (gp T D (D - d) (nxT T D d) A) (gp T D' (D' - m) (nxT T D' m) A)
    rw [E,G];exact(PH hE hM hD H).rel
   ·show ∀A,A.i<T.length->RS T (bz T D (D - d) (nxT T D d) A) (bz T D' (D' - m) (nxT T D' m) A)
    rw [E,G];exact(y5 hE hM hD H).rel
end Go.Proofs.YtpkipghjohomcaaGreatDoor
namespace Go.Proofs.YtpkipghjohomcaaGreatDoor
section
variable {T:List Tok} (hE:vC T) (hM:MK T) {et et':St->RT} (xf:RF T et et')
include hE hM xf
theorem QI (b:RT) (I:b.2.i<T.length):RS T (iD T et b) (iD T et' b):=by
 unfold iD
 split
 ·rename_i H
  have J:=(aE T (ah H).2).inr hE I
  have G:=xf.rel (setIn true (ae T b.2).2) J
  have A:Good T (et (setIn true (ae T b.2).2)).2 (an T [125] (setIn false (et (setIn true (ae T b.2).2)).2)):=(aW T _ _).inn
  have B:Good T (et' (setIn true (ae T b.2).2)).2 (an T [125] (setIn false (et' (setIn true (ae T b.2).2)).2)):=(aW T _ _).inn
  exact RS.then hE hM G
   (g:=fun m=>(b.1++[.nd 6 ((ae T b.2).1++m.1++(an T [125] (setIn false m.2)).1)],(an T [125] (setIn false m.2)).2))
   (g':=fun m=>(b.1++[.nd 6 ((ae T b.2).1++m.1++(an T [125] (setIn false m.2)).1)],(an T [125] (setIn false m.2)).2))
   (fun E=>by rw [E];exact .inl rfl) ⟨A.stay,A.mono,A.place,A.inr⟩ ⟨B.stay,B.mono,B.place,B.inr⟩
 ·exact .inl rfl
theorem CO:RF T (cj T et) (cj T et'):=
 ⟨fun A m=>QI hE hM xf _ ((zv T (aW T [58] A)).inr hE m),km T xf.one,km T xf.two⟩
theorem VS:RF T (fD T et) (fD T et'):=
 ⟨fun m A=>RS.put (RS.app hE hM (a:=aM T 1 m) (a':=aM T 1 m) (.inl rfl) (CO hE hM xf) ((dT T 1 m).inr hE A)) (fun B=>[.nd 4 B]),ne T xf.one,ne T xf.two⟩
theorem IQ:RF T (fI T et) (fI T et'):=Cm hE hM (VS hE hM xf)
theorem Rw (o:RT) (m:o.2.i<T.length):RS T (eH T et o) (eH T et' o):=by
 unfold eH
 split
 ·exact RS.put ((IQ hE hM xf).rel _ m) (fun A=>o.1++A)
 ·exact .inl rfl
theorem Qv {r r':RT} (h:RS T r r') (L:r.2.i<T.length):RS T (gv T et r) (gv T et' r'):=by
 refine RS.then hE hM h (g:=gv T et) (g':=gv T et') (fun E=>?_) (oB T xf.one (Good.self T r)) (oB T xf.two (Good.self T r'))
 subst E
 have m:=(aW T [41] r.2).inr hE L
 have G:=RS.app hE hM (a:=an T [41] r.2) (a':=an T [41] r.2) (.inl rfl) (CO hE hM xf) m
 have A:=(km T xf.one _).inr hE m
 have H:=RS.app hE hM G (kJ [61]) A
 have B:=(aW T [61] _).inr hE A
 have I:=RS.put H (fun R=>r.1++R)
 have J:=RS.app hE hM I xf B
 have O:=(xf.one _).inr hE B
 exact RS.app hE hM J (kJ [59]) O
theorem Vf:RF T (jg T et) (jg T et'):=by
 refine⟨fun A B=>?_,mU T xf.one,mU T xf.two⟩
 have m:=(sT T (zI T A)).inr hE B
 have E:=(sV T xf.one (Good.self T (dJ T (cV T A)))).inr hE m
 exact RS.put (Qv hE hM xf (Rw hE hM xf _ m) E) (fun G=>[.nd 3 G])
omit xf in
theorem Id {c:St->Bool} {step step':RT->RT} {most:Nat}
  (m:∀r,c r.2=true->r.2.i<T.length->RS T (step r) (step' r)) (g:∀r,c r.2=true->Good T r.2 (step r)) (g':∀r,c r.2=true->Good T r.2 (step' r)):
  ∀f k r,r.2.i<T.length->eW T c step most f k r=eW T c step' most f k r\/Bad T (eW T c step most f k r).2.2 (eW T c step' most f k r).2.2
 | 0,k,r,h=>.inl rfl
 | f+1,k,r,h=>by
   unfold eW
   split
   ·rename_i B
    split
    ·exact .inl rfl
    ·rcases m r B h with E | G
     ·rw [<-E];exact Id m g g' f _ _ ((g r B).inr hE h)
     ·have H:=jO T (c:=c) (step:=step) (most:=most) (s:=(step r).2) (fun r A m=>m.state (g r A) (l:=(step r).1)) f (k+1) (step r) (Good.self T _)
      have I:=jO T (c:=c) (step:=step') (most:=most) (s:=(step' r).2) (fun r A m=>m.state (g' r A) (l:=(step' r).1)) f (k+1) (step' r) (Good.self T _)
      exact .inr (G.go hE hM H I)
   ·exact .inl rfl
theorem FT (s:St) (A:s.i<T.length):RS T (bE T et s) (bE T et' s):=by
 unfold bE
 have O:(aG T ([],s)).2.2.i<T.length:=(jO T (fun m I L=>qw T L I) _ _ _ (Good.nil T s)).inr hE A
 split
 ·exact .inl rfl
 have B:=Id hE hM (c:=ki T) (step:=jh T et) (step':=jh T et') (most:=64)
  (fun m _ A=>RS.put ((Vf hE hM xf).rel m.2 A) (fun R=>m.1++R))
  (fun m _=>(Good.self T m).app (mU T xf.one _)) (fun m _=>(Good.self T m).app (mU T xf.two _))
  (bG T (aG T ([],s)).2.2) 0 (aG T ([],s)).2 O
 have B:dk T et (aG T ([],s)).2=dk T et' (aG T ([],s)).2\/Bad T (dk T et (aG T ([],s)).2).2.2 (dk T et' (aG T ([],s)).2).2.2:=B
 rcases B with G | H
 ·rw [G];exact .inl rfl
 ·have E:∀J:Bool×RT,Good T J.2.2 (if J.1=false then J.2 else (J.2.1++(aM T 5 J.2.2).1,(aM T 5 J.2.2).2)):=fun J=>by
   split
   ·exact Good.self T _
   ·exact(Good.self T J.2).app (dT T 5 _)
  exact .inr (H.go hE hM (E _) (E _))
theorem MA (s:St) (m:s.i<T.length):RS T (dY T et s) (dY T et' s):=
 RS.app hE hM (xf.rel (setIn true s) m) (Im 5) ((xf.one (setIn true s)).inr hE m)
end
theorem ID {T:List Tok} (hE:vC T) (hM:MK T) {D D':Nat} (A:D<=D') (B:1<=D) (s:St) (m:s.i<T.length):
  RS T (bE T (nxT T D D).expr s) (bE T (nxT T D' D').expr s)/\RS T (dY T (nxT T D D).expr s) (dY T (nxT T D' D').expr s):=by
 have h:=Uv hE hM A D D' 1 (by omega) (by omega)
 have xf:RF T (nxT T D D).expr (nxT T D' D').expr:=⟨h.expr,h.one.expr,h.two.expr⟩
 exact⟨FT hE hM xf s m,MA hE hM xf s m⟩
end Go.Proofs.YtpkipghjohomcaaGreatDoor
namespace Go.Proofs.YtpkipghjohomcaaGreatDoor
theorem Ey (T:List Tok) {i j:Nat} (h:i<=j):(cq (T.take i)).length<=(cq (T.take j)).length:=by
 have m:(T.take j).take i=T.take i:=by rw [List.take_take];congr 1;omega
 rw [<-m];exact kP _ _
theorem O7 {l:List UInt8} (h:(ai l).2.1=0):MK (ai l).1:=by
 intro m A B hlt
 have E:=(ly h).1
 have G:(ai l).1[m.i]? = some (az (ai l).1 m):=by unfold az;rw [QS (Nat.lt_of_le_of_lt B hlt)];rfl
 have L:(ai l).1[A.i]? = some (az (ai l).1 A):=by unfold az;rw [QS hlt];rfl
 have p1:=(E _ _ G).1
 have p2:=(E _ _ L).1
 rcases Nat.eq_or_lt_of_le B with H | J
 ·rw [show az (ai l).1 m=az (ai l).1 A from by unfold az;rw [H]];exact Nat.le_refl _
 ·have I:=Ey (ai l).1 (i:=m.i+1) (j:=A.i) J
  rw [tE G,Q2,Q2] at I
  omega
def aR (T:List Tok) (D:Nat) (f:Bool):RT:=if f=true then dY T (nxT T D D).expr aI else bE T (nxT T D D).expr aI
theorem WW (T:List Tok) (D:Nat) (f:Bool):(GQ T D f).2=(aR T D f).2/\((aR T D f).2.e=0->(GQ T D f).1=dmp T (.nd (if f=true then 18 else 1) (aR T D f).1)):=by
 have m:=(PB T D D).expr
 unfold GQ aR
 cases f
 ·exact I2 T _ m aI
 ·exact⟨(G9 T _ m aI).1,fun _=>(G9 T _ m aI).2⟩
theorem EU {l:List UInt8} (E:l.length<=65536) (h:(ai l).2.1=0) (D:Nat) (f:Bool):
  AX l D f=if (aR (ai l).1 D f).2.e=0 then (dmp (ai l).1 (.nd (if f=true then 18 else 1) (aR (ai l).1 D f).1),0,0) else ([],(aR (ai l).1 D f).2.e,(aR (ai l).1 D f).2.pos):=by
 obtain⟨m,A⟩:=WW (ai l).1 D f
 unfold AX
 rw [if_neg (by omega),if_neg (by omega)]
 unfold aaQ
 rw [m]
 split
 ·rename_i B;rw [A B]
 ·rfl
theorem nC {l:List UInt8} (h:(ai l).2.1=0) (D:Nat) (f:Bool) (H:(aR (ai l).1 D f).2.e=0):cg (aR (ai l).1 D f).1=List.range (ai l).1.length:=by
 obtain⟨m,R⟩:=qZ h
 have A:aI.i<(ai l).1.length:=List.length_pos_iff.2 R
 have J:=(wX (ai l).1 D D).expr
 have I:=(ey (ai l).1 D D).expr
 cases f
 ·have B:(bE (ai l).1 (nxT (ai l).1 D D).expr aI).2.i<(ai l).1.length:=by
   unfold bE
   have L:=jO (ai l).1 (most:=16) (c:=isQ (ai l).1 [105,109,112,111,114,116]) (step:=fB (ai l).1) (s:=aI) (fun U G E=>qw _ E G) (bG (ai l).1 aI) 0 ([],aI) (Good.nil _ _)
   have O:=jO (ai l).1 (most:=64) (c:=ki (ai l).1) (step:=jh (ai l).1 (nxT (ai l).1 D D).expr) (s:=aI) (fun U G E=>E.app (mU _ I _)) (bG (ai l).1 (aG (ai l).1 ([],aI)).2.2) 0 (aG (ai l).1 ([],aI)).2 L
   split
   ·exact L.inr m A
   split
   ·exact O.inr m A
   ·exact(O.app (dT _ 5 _)).inr m A
  exact DX _ J m rfl B H
 ·have B:(dY (ai l).1 (nxT (ai l).1 D D).expr aI).2.i<(ai l).1.length:=
   ((I (setIn true aI)).app (dT _ 5 _)).inr m A
  exact Jt _ J m rfl B H
theorem Ap {l:List UInt8} (h:(ai l).2.1=0) {D D':Nat} (L:D<=D') (J:1<=D) (f:Bool):
  aR (ai l).1 D f=aR (ai l).1 D' f\/((aR (ai l).1 D f).2.e=23/\((aR (ai l).1 D' f).2.e=23->(aR (ai l).1 D f).2.pos<=(aR (ai l).1 D' f).2.pos)):=by
 obtain⟨O,H⟩:=qZ h
 have U:aI.i<(ai l).1.length:=List.length_pos_iff.2 H
 have G:=ID O (O7 h) L J aI U
 have B:∀m A:RT,RS (ai l).1 m A->m=A\/(m.2.e=23/\(A.2.e=23->m.2.pos<=A.2.pos)):=fun m A R=>by
  rcases R with I | E
  ·exact .inl I
  ·exact .inr ⟨E.deep,E.late⟩
 unfold aR
 cases f
 ·exact B _ _ G.1
 ·exact B _ _ G.2
structure cE (s:St) (r:RT):Prop where
 inn:r.2.inn=s.inn
 dead:s.e≠0->r.2=s
theorem cE.nil (s:St):cE s ([],s):=⟨rfl,fun _=>rfl⟩
theorem cE.app {s:St} {a b:RT} (A:cE s a) (B:cE a.2 b) {l:List Tr}:cE s (l,b.2):=by
 refine⟨B.inn.trans A.inn,fun m=>?_⟩
 have E:=A.dead m
 show b.2=s
 rw [B.dead (by rw [E];exact m),E]
theorem cE.node {s:St} {a:RT} (h:cE s a) {l:List Tr}:cE s (l,a.2):=⟨h.inn,h.dead⟩
section
variable (T:List Tok)
theorem ic {n:Nat} {s:St} (h:s.e≠0):aH T n s=s:=by unfold aH;rw [if_neg h]
theorem eS (n:Nat) (s:St) (l:List Tr):cE s (l,aH T n s):=⟨by show(aH T n s).inn=s.inn;unfold aH;split<;>rfl,fun h=>ic T h⟩
theorem Ix {D n:Nat} {s:St} (h:s.e≠0):aY T D n s=s:=by unfold aY;split;exact ic T h;rfl
theorem OY (D n:Nat) (s:St):(aY T D n s).inn=s.inn:=by unfold aY;split;exact(eS T 23 s []).inn;rfl
theorem fC {D n:Nat} {s:St} {r:RT} (h:cE (aY T D n s) r):cE s r:=
 ⟨h.inn.trans (OY T D n s),fun m=>by have A:=Ix T (D:=D) (n:=n) m;rw [h.dead (by rw [A];exact m),A]⟩
theorem aA {s:St} (h:s.e=0):cE s (ae T s):=⟨by show(aS T s).2.inn=s.inn;unfold aS;split<;>rfl,fun m=>absurd h m⟩
theorem aB (x:List UInt8) (s:St):cE s (an T x s):=by
 unfold an;split
 ·rename_i h;exact aA T (ah h).2
 ·exact eS T 22 s []
theorem bY (k:Nat) (s:St):cE s (aM T k s):=by
 unfold aM;split
 ·rename_i h;exact aA T h.1
 ·exact eS T 22 s []
theorem nn {c:St->Bool} {sub:St->RT} (m:∀s,c s=true->s.e=0) (A:∀s,cE s (sub s)) {s:St}:∀f r,cE s r->cE s (rwT T c sub f r)
 | 0,r,h=>h
 | f+1,r,h=>by
   unfold rwT
   split
   ·rename_i B
    exact nn m A f _ ((h.app (aA T (m _ B)) (l:=[])).app (A _))
   ·exact h
theorem vq {sub:St->RT} (m:∀s,cE s (sub s)) {s:St}:∀f k r,cE s r->cE s (bT T sub f k r)
 | 0,k,r,h=>h
 | f+1,k,r,h=>by
   unfold bT
   split
   ·rename_i A
    refine vq m f _ _ ?_
    refine(h.app (aA T (ah A).2) (l:=[])).app ?_
    show cE (ae T r.2).2 _
    split
    ·exact(eS T 15 _ []).app (m _)
    ·exact m _
   ·exact h
structure NxK (nt:NxT):Prop where
 expr:∀s,cE s (nt.expr s)
 formula:∀s,cE s (nt.formula s)
 nots:∀s,cE s (nt.nots s)
 factor:∀s,cE s (nt.factor s)
end
section
variable (T:List Tok) (D n:Nat) {nt:NxT} (h:NxK nt)
include h
theorem yX (s:St):cE s (lz T nt s):=vq T h.expr _ _ _ (h.expr s)
omit h in
theorem Ev {s:St} {a:RT} (m:cE s a):cE s (dh T a):=by
 unfold dh;split
 ·rename_i A;exact(m.app (aA T (ah A).2) (l:=[])).app (bY T _ _)
 ·exact m
omit h in
theorem F6 {s:St} {a:RT} (m:cE s a):cE s (de T a):=m.app (aB T _ _)
theorem EV {s:St} {a:RT} (m:cE s a):cE s (cM T nt a):=by
 unfold cM;split
 ·exact m
 ·exact m.app (yX T h _)
omit h in
theorem F9 {s:St} {a:RT} (m:cE s a):cE s (jr T a):=m.app (aB T _ _)
theorem Iz {s:St} (m:s.e=0):cE s (eV T nt s):=by
 unfold eV;split
 ·exact(aA T m).node
 ·exact F9 T (EV T h (F6 T (Ev T (aA T m))))
theorem Kc (s:St):cE s (cQ T nt s):=by
 unfold cQ
 split
 ·exact cE.nil s
 rename_i m
 have m:s.e=0:=by omega
 split
 ·exact(aA T m).node
 split
 ·exact(aA T m).node
 split
 ·exact(aA T m).node
 split
 ·exact((aA T m).app (h.expr _) (l:=[])).app (aB T _ _)
 split
 ·exact Iz T h m
 ·exact eS T 22 s []
omit h in
theorem zD {sub:St->RT} (A:∀s,cE s (sub s)) {s:St} (m:s.e=0):cE s (gL T D n sub s):=by
 unfold gL
 simp only []
 split
 ·exact(aA T m).app (fC T (cE.nil _))
 ·exact(aA T m).app (fC T (A _))
theorem kH (s:St):cE s (bz T D n nt s):=by
 unfold bz;split
 ·rename_i m;exact zD T D n h.factor (ah m).2
 ·exact Kc T h s
theorem mg (s:St):cE s (dH T D n nt s):=nn T (fun _ m=>OH m) (kH T D n h) _ _ (kH T D n h s)
theorem vM (s:St):cE s (ew T D n nt s):=nn T (fun _ m=>Mh m) (mg T D n h) _ _ (mg T D n h s)
theorem rM (s:St):cE s (gp T D n nt s):=by
 unfold gp
 simp only []
 split
 ·rename_i m;exact zD T D n h.nots (ah m).2
 split
 ·rename_i m;exact((vM T D n h s).app (aA T (DZ m)) (l:=[])).app (vM T D n h _)
 ·exact vM T D n h s
theorem wY (s:St):cE s (oN T D n nt s):=nn T (fun _ m=>(ah m).2) (rM T D n h) _ _ (rM T D n h s)
theorem Bq (s:St):cE s (orT T D n nt s):=nn T (fun _ m=>(ah m).2) (wY T D n h) _ _ (wY T D n h s)
theorem jE (s:St):cE s (aP T D n nt s):=by
 unfold aP
 simp only []
 split
 ·rename_i m
  split
  ·exact((Bq T D n h s).app (aA T (ah m).2) (l:=[])).app (fC T (cE.nil _))
  ·exact((Bq T D n h s).app (aA T (ah m).2) (l:=[])).app (fC T (h.formula _))
 ·exact Bq T D n h s
theorem Di {s:St} (m:s.e=0):cE s (qN T nt s):=
 (((((aA T m).app (bY T _ _) (l:=[])).app (aB T _ _) (l:=[])).app (h.expr _) (l:=[])).app (aB T _ _) (l:=[])).app (h.expr _)
theorem GB {s:St} (m:s.e=0):cE s (ifT T nt s):=
 (((((aA T m).app (h.expr _) (l:=[])).app (aB T _ _) (l:=[])).app (h.expr _) (l:=[])).app (aB T _ _) (l:=[])).app (h.expr _)
theorem tM {s:St} (m:s.e=0):cE s (fL T nt s):=
 (((aA T m).app (h.expr _) (l:=[])).app (aB T _ _) (l:=[])).app (h.expr _)
theorem Ku (s:St):cE s (fK T D n nt s):=by
 unfold fK
 simp only []
 split
 ·exact fC T (cE.nil _)
 split
 ·rename_i m;exact fC T (Di T h (ah m.2).2)
 split
 ·rename_i m;exact fC T (GB T h (ah m.2).2)
 split
 ·rename_i m;exact fC T (tM T h (ah m.2).2)
 ·exact fC T (jE T D n h _)
end
theorem gl (T:List Tok) (D:Nat):∀d,NxK (nxT T D d)
 | 0=>⟨fun m=>fC T (cE.nil _),fun m=>cE.nil m,fun m=>cE.nil m,fun m=>cE.nil m⟩
 | d+1=>⟨Ku T D _ (gl T D d),jE T D _ (gl T D d),rM T D _ (gl T D d),kH T D _ (gl T D d)⟩
def gJ (T:List Tok) (D n:Nat) (nt:NxT) (s:St):RT:=
 if isQ T [108,101,116] s=true then qN T nt s
 else if isQ T [105,102] s=true then ifT T nt s
 else if isQ T [97,115,115,101,114,116] s=true then fL T nt s
 else aP T D n nt s
theorem Jq (T:List Tok) (D n:Nat) {nt:NxT} (h:NxK nt) (s:St):cE s (gJ T D n nt s):=by
 unfold gJ
 split
 ·rename_i m;exact Di T h (ah m).2
 split
 ·rename_i m;exact GB T h (ah m).2
 split
 ·rename_i m;exact tM T h (ah m).2
 ·exact jE T D n h s
abbrev NT (T:List Tok) (D n:Nat):NxT:=nxT T D (D - n)
def ei (T:List Tok) (D n:Nat) (sub:St->RT) (s:St):RT:=if n=D then ([],aH T 23 s) else sub s
theorem ro (T:List Tok) {D n:Nat} (h:n<D):NT T D n={ expr:=fK T D (n+1) (NT T D (n+1)),formula:=aP T D (n+1) (NT T D (n+1)),nots:=gp T D (n+1) (NT T D (n+1)),factor:=bz T D (n+1) (NT T D (n+1)) }:=by
 show nxT T D (D - n)=_
 have m:D - n=(D - (n+1))+1:=by omega
 have A:D - (D - (n+1))=n+1:=by omega
 rw [m]
 show { expr:=fK T D (D - (D - (n+1))) _,formula:=aP T D (D - (D - (n+1))) _,nots:=gp T D (D - (D - (n+1))) _,factor:=bz T D (D - (D - (n+1))) _:NxT }=_
 rw [A]
theorem lB (T:List Tok) (D:Nat) (s:St):aY T D (D+1) s=aH T 23 s:=by unfold aY;rw [if_pos (by omega)]
theorem nX (T:List Tok) {D n:Nat} (h:n<D) (s:St):aY T D (n+1) s=s:=by unfold aY;rw [if_neg (by omega)]
theorem sG (T:List Tok) {D n:Nat} (E:n<=D) (s:St) (B:s.inn=false):Eqv (ei T D n (gJ T D (n+1) (NT T D (n+1))) s) ((NT T D n).expr s):=by
 unfold ei
 split
 ·rename_i h
  subst h
  have:(NT T n n).expr s=([],aY T n (n+1) s):=by unfold NT;rw [Nat.sub_self];rfl
  rw [this,lB];exact Eqv.refl _
 ·rename_i h
  have hlt:n<D:=by omega
  rw [ro T hlt]
  show Eqv (gJ T D (n+1) (NT T D (n+1)) s) (fK T D (n+1) (NT T D (n+1)) s)
  unfold fK
  rw [nX T hlt]
  simp only []
  by_cases m:s.e≠0
  ·rw [if_pos m]
   exact⟨(Jq T D (n+1) (gl T D _) s).dead m,fun A=>absurd A m⟩
  ·rw [if_neg m]
   unfold gJ
   simp only [B,true_and]
   exact Eqv.refl _
theorem sz (T:List Tok) {D n:Nat} (E:n<=D) (s:St) (B:s.inn=true):Eqv (ei T D n (aP T D (n+1) (NT T D (n+1))) s) ((NT T D n).expr s):=by
 unfold ei
 split
 ·rename_i h
  subst h
  have:(NT T n n).expr s=([],aY T n (n+1) s):=by unfold NT;rw [Nat.sub_self];rfl
  rw [this,lB];exact Eqv.refl _
 ·rename_i h
  have hlt:n<D:=by omega
  rw [ro T hlt]
  show Eqv (aP T D (n+1) (NT T D (n+1)) s) (fK T D (n+1) (NT T D (n+1)) s)
  unfold fK
  rw [nX T hlt]
  simp only []
  by_cases m:s.e≠0
  ·rw [if_pos m]
   exact⟨(jE T D (n+1) (gl T D _) s).dead m,fun A=>absurd A m⟩
  ·rw [if_neg m]
   simp only [B,Bool.true_eq_false,false_and,if_false]
   exact Eqv.refl _
theorem n7 (T:List Tok) {s:St} (h:s.e=0):(ae T s).2.e=0:=by show(aS T s).2.e=0;unfold aS;split<;>exact h
theorem DK (T:List Tok) {D n:Nat} (E:n<=D) {sub sub':St->RT} (B:n<D->sub'=sub) (s:St) (A:s.e=0):
  Eqv ([.nd 11 ((ae T s).1++(ei T D n sub (ae T s).2).1)],(ei T D n sub (ae T s).2).2) (gL T D n sub' s):=by
 unfold gL ei
 simp only []
 by_cases h:n=D
 ·subst h
  rw [if_pos rfl,lB,if_pos (df T (by decide) _)]
  exact⟨rfl,fun m=>absurd m (df T (by decide) _)⟩
 ·have hlt:n<D:=by omega
  rw [if_neg h,nX T hlt,B hlt,if_neg (by rw [n7 T A];decide)]
  exact Eqv.refl _
theorem OQ (T:List Tok) {D n:Nat} (E:n<=D) {sub:St->RT} {nt:NxT} (B:n<D->nt.formula=sub) (s:St) (m:isQ T [61,62] (orT T D n nt s).2=true):
  Eqv ([.nd 10 ((orT T D n nt s).1++(ae T (orT T D n nt s).2).1++(ei T D n sub (ae T (orT T D n nt s).2).2).1)],(ei T D n sub (ae T (orT T D n nt s).2).2).2) (aP T D n nt s):=by
 unfold aP ei
 simp only []
 rw [if_pos m]
 by_cases h:n=D
 ·subst h
  rw [if_pos rfl,lB,if_pos (df T (by decide) _)]
  exact⟨rfl,fun A=>absurd A (df T (by decide) _)⟩
 ·have hlt:n<D:=by omega
  rw [if_neg h,nX T hlt,B hlt,if_neg (by rw [n7 T (ah m).2];decide)]
  exact Eqv.refl _
theorem Nz {T:List Tok} {c:St->Bool} {sub:St->RT} {r:RT} (m:c r.2=false):∀f,rwT T c sub f r=r
 | 0=>rfl
 | f+1=>by unfold rwT;rw [m];rfl
def vl (T:List Tok) (sub:St->RT) (r:RT):RT:=([.nd 10 (r.1++(ae T r.2).1++(sub (ae T r.2).2).1)],(sub (ae T r.2).2).2)
def jV (T:List Tok) (c:St->Bool) (sub:St->RT) (R r:RT):Prop:=∃m,T.length - r.2.i+1<=m/\rwT T c sub m r=R
theorem jV.start (T:List Tok) (c:St->Bool) (sub:St->RT) (s:St):jV T c sub (rwT T c sub (bG T (sub s).2) (sub s)) (sub s):=⟨_,Nat.le_refl _,rfl⟩
theorem jV.stop {T:List Tok} {c:St->Bool} {sub:St->RT} {R r:RT} (h:jV T c sub R r) (m:c r.2=false):R=r:=by
 obtain⟨B,-,A⟩:=h;rw [<-A,Nz m]
theorem sZ {T:List Tok} {s:St} (m:(az T s).kind≠5):(ae T s).2.i=s.i+1:=(ss m).2
theorem jV.next {T:List Tok} {c:St->Bool} {sub:St->RT} {R r:RT} (h:jV T c sub R r) (G:c r.2=true) (H:(az T r.2).kind≠5) (L:r.2.i<T.length) (O:(ae T r.2).2.i<=(sub (ae T r.2).2).2.i):jV T c sub R (vl T sub r)/\r.2.i<(vl T sub r).2.i:=by
 obtain⟨m,J,A⟩:=h
 have I:=sZ H
 have E:r.2.i<(vl T sub r).2.i:=by show r.2.i<(sub (ae T r.2).2).2.i;omega
 refine⟨⟨m - 1,by omega,?_⟩,E⟩
 obtain⟨B,rfl⟩:∃B,m=B+1:=⟨m - 1,by omega⟩
 unfold rwT at A
 rw [if_pos G] at A
 exact A
def iz (T:List Tok) (sub:St->RT):Nat->RT->RT
 | 0,r=>(r.1,aH T 15 r.2)
 | j+1,r=>if isQ T [44] (sub r.2).2=true then iz T sub j (r.1++(sub r.2).1++(ae T (sub r.2).2).1,(ae T (sub r.2).2).2) else (r.1++(sub r.2).1,(sub r.2).2)
def fi (T:List Tok) (sub:St->RT) (s:St):RT:=if isQ T [41] s=true then ([],s) else iz T sub 8 ([],s)
theorem kM {T:List Tok} {sub:St->RT} {r:RT} {k:Nat} (m:isQ T [44] r.2=false):∀f,bT T sub f k r=r
 | 0=>rfl
 | f+1=>by unfold bT;rw [m];rfl
theorem mi {T:List Tok} {x:List UInt8} {s:St} (h:s.e≠0):isQ T x s=false:=by unfold isQ;exact VW (fun m=>h m.1)
theorem Fe (T:List Tok) {sub:St->RT} (R:∀s,Good T s (sub s)) (L:∀s,s.e≠0->(sub s).2=s):∀(j f:Nat) (r:RT),j+1<=8->T.length - (sub r.2).2.i+1<=f->r.2.i<=T.length->Eqv (iz T sub (j+1) r) (bT T sub f (8 - j) (r.1++(sub r.2).1,(sub r.2).2)):=by
 intro j
 induction j with
 | zero=>
   intro f r _ J O
   unfold iz
   by_cases m:isQ T [44] (sub r.2).2=true
   ·obtain⟨A,rfl⟩:∃A,f=A+1:=⟨f - 1,by omega⟩
    rw [if_pos m]
    unfold bT
    rw [if_pos m]
    simp only [Nat.sub_zero,if_true]
    have B:(aH T 15 (ae T (sub r.2).2).2).e≠0:=df T (by decide) _
    have I:=L _ B
    rw [I,kM (mi B)]
    exact⟨rfl,fun G=>absurd G B⟩
   ·rw [if_neg m,kM (by simpa using m)]
    exact Eqv.refl _
 | succ j U=>
   intro f r Y J O
   have H:iz T sub (j+1+1) r=if isQ T [44] (sub r.2).2=true then iz T sub (j+1) (r.1++(sub r.2).1++(ae T (sub r.2).2).1,(ae T (sub r.2).2).2) else (r.1++(sub r.2).1,(sub r.2).2):=by rw [iz]
   rw [H]
   by_cases m:isQ T [44] (sub r.2).2=true
   ·obtain⟨A,rfl⟩:∃A,f=A+1:=⟨f - 1,by omega⟩
    rw [if_pos m]
    unfold bT
    rw [if_pos m]
    simp only []
    rw [if_neg (show ¬ 8 - (j+1)=8 by omega),show 8 - (j+1)+1=8 - j by omega]
    have E:=(ah m).1
    have Z:=sZ (T:=T) (s:=(sub r.2).2) E
    have hm:=(R (ae T (sub r.2).2).2).mono
    have hlt:(sub r.2).2.i<T.length:=by
     rcases Nat.lt_or_ge (sub r.2).2.i T.length with h | h
     ·exact h
     ·exact absurd (by unfold az;rw [List.getElem?_eq_none h];rfl) E
    exact U A (r.1++(sub r.2).1++(ae T (sub r.2).2).1,(ae T (sub r.2).2).2) (by omega) (by show T.length - (sub (ae T (sub r.2).2).2).2.i+1<=A;omega) (by show(ae T (sub r.2).2).2.i<=T.length;omega)
   ·rw [if_neg m,kM (by simpa using m)]
    exact Eqv.refl _
theorem vI (T:List Tok) {sub:St->RT} (B:∀s,Good T s (sub s)) (A:∀s,s.e≠0->(sub s).2=s) (s:St) (m:s.i<=T.length):Eqv (fi T sub s) (if isQ T [41] s=true then ([],s) else bT T sub (bG T (sub s).2) 1 (sub s)):=by
 unfold fi
 split
 ·exact Eqv.refl _
 ·have h:=Fe T B A 7 (bG T (sub s).2) ([],s) (by omega) (Nat.le_refl _) m
  simpa using h
end Go.Proofs.YtpkipghjohomcaaGreatDoor
