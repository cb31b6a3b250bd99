/- Lemmas. -/
import Derived.Test.YtjbgnopnehgbaaaGreatDoorP26
set_option linter.unusedVariables false
set_option linter.unusedSimpArgs false
namespace Go.Proofs.YtjbgnopnehgbaaaGreatDoor
def Le (T:List Tok):Prop:=∀s t:St,s.i≤t.i→t.i<T.length→(an T s).pos≤(an T t).pos
structure Bad (T:List Tok) (t t':St):Prop where
 deep:t.e=23
 le:t.i≤t'.i
 late:t'.e=23→t.pos≤t'.pos
 place:t.pos=(an T t).pos
 inr:t'.i<T.length
def RS (T:List Tok) (r r':RT):Prop:=r=r'∨Bad T r.2 r'.2
structure RF (T:List Tok) (f f':St→RT):Prop where
 rel:∀s,s.i<T.length→RS T (f s) (f' s)
 one:∀s,Good T s (f s)
 two:∀s,Good T s (f' s)
section
variable {T:List Tok} (hE:tG T) (hM:Le T)
include hE hM
theorem Bad.go {t t':St} (h:Bad T t t') {r r':RT} (g:Good T t r) (g':Good T t' r'):Bad T r.2 r'.2:=by
 obtain⟨a1,a2,a3⟩:=g.stay (by rw [h.deep];decide)
 have hin:=g'.inr hE h.inr
 have Qa:=Nat.le_trans h.le g'.mono
 refine⟨a1.trans h.deep,by rw [a3];exact Qa,fun e=>?_,?_,hin⟩
 ·rw [a2]
  by_cases e0:t'.e=0
  ·rw [g'.place e0 (by rw [e];decide),h.place];exact hM _ _ Qa hin
  ·obtain⟨b1,b2,-⟩:=g'.stay e0
   rw [b2];exact h.late (b1.symm.trans e)
 ·rw [a2,h.place];unfold an;rw [a3]
theorem RS.then {a a':RT} (h:RS T a a') {g g':RT→RT} (h1:a=a'→RS T (g a) (g' a)) (g1:Good T a.2 (g a)) (g2:Good T a'.2 (g' a')):RS T (g a) (g' a'):=by
 rcases h with e | hb
 ·rw [←e];exact h1 e
 ·exact .inr (hb.go hE hM g1 g2)
omit hE hM in
theorem RS.put {a a':RT} (h:RS T a a') (k:List Tr→List Tr):RS T (k a.1,a.2) (k a'.1,a'.2):=by
 rcases h with e | hb
 ·rw [e];exact .inl rfl
 ·exact .inr hb
theorem RS.app {a a':RT} (h:RS T a a') {f f':St→RT} (hf:RF T f f') (ha:a.2.i<T.length):RS T (a.1++(f a.2).1,(f a.2).2) (a'.1++(f' a'.2).1,(f' a'.2).2):=by
 rcases h with e | hb
 ·rw [←e];exact RS.put (hf.rel _ ha) (fun l=>a.1++l)
 ·exact .inr (hb.go hE hM ((Good.self T a).app (hf.one _)) ((Good.self T a').app (hf.two _)))
omit hE hM in
theorem RF.same {f:St→RT} (h:∀s,Good T s (f s)):RF T f f:=⟨fun _ _=>.inl rfl,h,h⟩
omit hE hM in
theorem jJ (w:List UInt8):RF T (aj T w) (aj T w):=RF.same (aN T w)
omit hE hM in
theorem Gd (k:Nat):RF T (aA T k) (aA T k):=RF.same (cY T k)
theorem Kp {c:St→Bool} (hc:∀s,c s=true→s.e=0) {sub sub':St→RT} (hs:RF T sub sub'):∀f r,r.2.i<T.length→RS T (rwT T c sub f r) (rwT T c sub' f r)
 | 0,r,h=>.inl rfl
 | f+1,r,h=>by
   unfold rwT
   split
   ·rename_i iA
    have hl:=(ax T (hc _ iA)).inr hE h
    have h1:=hs.rel (ac T r.2).2 hl
    have h2:RS T ([.nd 10 (r.1++(ac T r.2).1++(sub (ac T r.2).2).1)],(sub (ac T r.2).2).2) ([.nd 10 (r.1++(ac T r.2).1++(sub' (ac T r.2).2).1)],(sub' (ac T r.2).2).2):=RS.put h1 (fun l=>[.nd 10 (r.1++(ac T r.2).1++l)])
    exact RS.then hE hM h2 (g:=rwT T c sub f) (g':=rwT T c sub' f) (fun _=>Kp hc hs f _ ((hs.one _).inr hE hl)) (eX T hc hs.one f _ (Good.self T _)) (eX T hc hs.two f _ (Good.self T _))
   ·exact .inl rfl
theorem yN {c:St→Bool} (hc:∀s,c s=true→s.e=0) {sub sub':St→RT} (hs:RF T sub sub'):RF T (fun s=>rwT T c sub (aT T (sub s).2) (sub s)) (fun s=>rwT T c sub' (aT T (sub' s).2) (sub' s)):=by
 refine⟨fun s h=>?_,fun s=>eX T hc hs.one _ _ (hs.one s),fun s=>eX T hc hs.two _ _ (hs.two s)⟩
 exact RS.then hE hM (hs.rel s h) (g:=fun r=>rwT T c sub (aT T r.2) r) (g':=fun r=>rwT T c sub' (aT T r.2) r) (fun _=>Kp hE hM hc hs _ _ ((hs.one s).inr hE h)) (eX T hc hs.one _ _ (Good.self T _)) (eX T hc hs.two _ _ (Good.self T _))
theorem Cs {sub sub':St→RT} (hs:RF T sub sub'):∀f k r,r.2.i<T.length→RS T (bk T sub f k r) (bk T sub' f k r)
 | 0,k,r,h=>.inl rfl
 | f+1,k,r,h=>by
   unfold bk
   split
   ·rename_i iA
    have hl:=(ax T (af iA).2).inr hE h
    have vA:(if k=8 then aB T 15 (ac T r.2).2 else (ac T r.2).2).i<T.length:=by split;rw [jZ];exact hl;exact hl
    have h1:=hs.rel _ vA
    have h2:=RS.put h1 (fun l=>r.1++(ac T r.2).1++l)
    exact RS.then hE hM h2 (g:=bk T sub f (k+1)) (g':=bk T sub' f (k+1)) (fun _=>Cs hs f _ _ ((hs.one _).inr hE vA)) (er T hs.one f _ _ (Good.self T _)) (er T hs.two f _ _ (Good.self T _))
   ·exact .inl rfl
theorem Ap {sub sub':St→RT} (hs:RF T sub sub'):RF T (fun s=>bk T sub (aT T (sub s).2) 1 (sub s)) (fun s=>bk T sub' (aT T (sub' s).2) 1 (sub' s)):=by
 refine⟨fun s h=>?_,fun s=>er T hs.one _ _ _ (hs.one s),fun s=>er T hs.two _ _ _ (hs.two s)⟩
 exact RS.then hE hM (hs.rel s h) (g:=fun r=>bk T sub (aT T r.2) 1 r) (g':=fun r=>bk T sub' (aT T r.2) 1 r) (fun _=>Cs hE hM hs _ _ _ ((hs.one s).inr hE h)) (er T hs.one _ _ _ (Good.self T _)) (er T hs.two _ _ _ (Good.self T _))
variable {D D':Nat} (hD:D≤D')
include hD
theorem sH (m:Nat) {f f':St→RT} (hf:m≤D→∀s,s.i<T.length→RS T (f s) (f' s)) (g':∀s,s.e=0→Good T s (f' s)) (s:St) (hs:s.i<T.length):
  RS T (if (aO T D m s).e≠0 then ([],aO T D m s) else f (aO T D m s)) (if (aO T D' m s).e≠0 then ([],aO T D' m s) else f' (aO T D' m s)):=by
 by_cases hm:m≤D
 ·have e1:aO T D m s=s:=by unfold aO;rw [if_neg (by omega)]
  have e2:aO T D' m s=s:=by unfold aO;rw [if_neg (by omega)]
  rw [e1,e2]
  split
  ·exact .inl rfl
  ·exact hf hm s hs
 ·have e1:aO T D m s=aB T 23 s:=by unfold aO;rw [if_pos (by omega)]
  rw [e1,if_pos (cC T (by decide) s)]
  by_cases pP:m≤D'
  ·have e2:aO T D' m s=s:=by unfold aO;rw [if_neg (by omega)]
   rw [e2]
   by_cases he:s.e=0
   ·rw [if_neg (by omega)]
    have hg:=g' s he
    have e3:aB T 23 s={ s with e:=23,pos:=(an T s).pos }:=by unfold aB;rw [if_pos he]
    rw [e3]
    refine .inr ⟨rfl,hg.mono,fun e=>?_,rfl,hg.inr hE hs⟩
    show(an T s).pos≤_
    rw [hg.place he (by rw [e];decide)]
    exact hM _ _ hg.mono (hg.inr hE hs)
   ·rw [if_pos he]
    have e3:aB T 23 s=s:=by unfold aB;rw [if_neg he]
    rw [e3];exact .inl rfl
  ·have e2:aO T D' m s=aB T 23 s:=by unfold aO;rw [if_pos (by omega)]
   rw [e2,if_pos (cC T (by decide) s)];exact .inl rfl
structure NxF (T:List Tok) (D n1:Nat) (nt nt':NxT):Prop where
 one:NxG T nt
 two:NxG T nt'
 expr:∀s,s.i<T.length→RS T (nt.expr s) (nt'.expr s)
 formula:n1≤D→∀s,s.i<T.length→RS T (nt.formula s) (nt'.formula s)
 nots:n1≤D→∀s,s.i<T.length→RS T (nt.nots s) (nt'.nots s)
 factor:n1≤D→∀s,s.i<T.length→RS T (nt.factor s) (nt'.factor s)
variable {n:Nat} {nt nt':NxT} (h:NxF T D (n+1) nt nt')
include h
omit hD in
theorem PO:RF T (jn T nt) (jn T nt'):=Ap hE hM ⟨h.expr,h.one.expr,h.two.expr⟩
omit h in
theorem Fg {sub sub':St→RT} (hs:n+1≤D→∀s,s.i<T.length→RS T (sub s) (sub' s)) (g':∀s,Good T s (sub' s)) {s:St} (he:s.e=0) (hl:s.i<T.length):RS T (fa T D n sub s) (fa T D' n sub' s):=by
 unfold fa
 exact sH hE hM hD (n+1) (f:=fun t=>([.nd 11 ((ac T s).1++(sub t).1)],(sub t).2)) (f':=fun t=>([.nd 11 ((ac T s).1++(sub' t).1)],(sub' t).2)) (fun hm t ht=>RS.put (hs hm t ht) (fun l=>[.nd 11 ((ac T s).1++l)])) (fun t _=>⟨(g' t).stay,(g' t).mono,(g' t).place,(g' t).inr⟩) _ ((ax T he).inr hE hl)
omit hD in
theorem M2 (c:RT) (hc:c.2.i<T.length):RS T (bG T nt c) (bG T nt' c):=by
 unfold bG
 split
 ·exact .inl rfl
 ·exact RS.put ((PO hE hM h).rel _ hc) (fun l=>c.1++l)
omit hD in
theorem P9 {s:St} (he:s.e=0) (hl:s.i<T.length):RS T (dq T nt s) (dq T nt' s):=by
 unfold dq
 split
 ·exact .inl rfl
 ·have g1:=sZ T (uh T (ax T he))
  exact RS.then hE hM (M2 hE hM h _ (g1.inr hE hl)) (g:=gF T) (g':=gF T) (fun e=>by rw [e];exact .inl rfl) (n7 T (Good.self T _)) (n7 T (Good.self T _))
omit hD in
theorem Qu:RF T (bC T nt) (bC T nt'):=by
 refine⟨fun s hl=>?_,qH T h.one,qH T h.two⟩
 unfold bC
 split
 ·exact .inl rfl
 rename_i he
 have he:s.e=0:=by omega
 split
 ·exact .inl rfl
 split
 ·exact .inl rfl
 split
 ·exact .inl rfl
 split
 ·have l1:=(ax T he).inr hE hl
  have h1:=RS.put (h.expr _ l1) (fun l=>(ac T s).1++l)
  have h2:=RS.app hE hM h1 (jJ [41]) ((h.one.expr _).inr hE l1)
  exact RS.put h2 (fun l=>[.nd 12 l])
 split
 ·exact P9 hE hM h he hl
 ·exact .inl rfl
theorem wC:RF T (aL T D n nt) (aL T D' n nt'):=by
 refine⟨fun s hl=>?_,fS T D n h.one,fS T D' n h.two⟩
 unfold aL
 split
 ·rename_i hk;exact Fg hE hM hD h.factor h.two.factor (af hk).2 hl
 ·exact(Qu hE hM h).rel s hl
theorem CT:RF T (cJ T D n nt) (cJ T D' n nt'):=yN hE hM (fun _ hc=>M7 hc) (wC hE hM hD h)
theorem Vq:RF T (cX T D n nt) (cX T D' n nt'):=yN hE hM (fun _ hc=>KH hc) (CT hE hM hD h)
theorem Om:RF T (dL T D n nt) (dL T D' n nt'):=by
 refine⟨fun s hl=>?_,kG T D n h.one,kG T D' n h.two⟩
 unfold dL
 split
 ·rename_i hk;exact Fg hE hM hD h.nots h.two.nots (af hk).2 hl
 ·have hs:=Vq hE hM hD h
  have key:∀a:RT,Good T a.2 (if fs T a.2=true then ([.nd 10 (a.1++(ac T a.2).1++(cX T D n nt (ac T a.2).2).1)],(cX T D n nt (ac T a.2).2).2) else a):=fun a=>by
   split
   ·rename_i hc;exact Good.node 10 (((Good.self T a).app (ax T (Ck hc))).app (hs.one _))
   ·exact Good.self T a
  have aep:∀a:RT,Good T a.2 (if fs T a.2=true then ([.nd 10 (a.1++(ac T a.2).1++(cX T D' n nt' (ac T a.2).2).1)],(cX T D' n nt' (ac T a.2).2).2) else a):=fun a=>by
   split
   ·rename_i hc;exact Good.node 10 (((Good.self T a).app (ax T (Ck hc))).app (hs.two _))
   ·exact Good.self T a
  refine RS.then hE hM (hs.rel s hl) (g:=fun a=>if fs T a.2=true then ([.nd 10 (a.1++(ac T a.2).1++(cX T D n nt (ac T a.2).2).1)],(cX T D n nt (ac T a.2).2).2) else a) (g':=fun a=>if fs T a.2=true then ([.nd 10 (a.1++(ac T a.2).1++(cX T D' n nt' (ac T a.2).2).1)],(cX T D' n nt' (ac T a.2).2).2) else a) (fun _=>?_) (key _) (aep _)
  show RS T (if fs T (cX T D n nt s).2=true then _ else _) (if fs T (cX T D n nt s).2=true then _ else _)
  split
  ·rename_i hc
   exact RS.put (hs.rel _ ((ax T (Ck hc)).inr hE ((hs.one s).inr hE hl))) (fun l=>[.nd 10 ((cX T D n nt s).1++(ac T (cX T D n nt s).2).1++l)])
  ·exact .inl rfl
theorem Wy:RF T (me T D n nt) (me T D' n nt'):=yN hE hM (fun _ hc=>(af hc).2) (Om hE hM hD h)
theorem acl:RF T (orT T D n nt) (orT T D' n nt'):=yN hE hM (fun _ hc=>(af hc).2) (Wy hE hM hD h)
theorem uU:RF T (ay T D n nt) (ay T D' n nt'):=by
 refine⟨fun s hl=>?_,gw T D n h.one,gw T D' n h.two⟩
 have hs:=acl hE hM hD h
 have tail:∀(E:Nat) (nu:NxT) (hg:NxG T nu) (a:RT),Good T a.2 (if isQ T [61,62] a.2=true then (if (aO T E (n+1) (ac T a.2).2).e≠0 then ([],aO T E (n+1) (ac T a.2).2) else ([.nd 10 (a.1++(ac T a.2).1++(nu.formula (aO T E (n+1) (ac T a.2).2)).1)],(nu.formula (aO T E (n+1) (ac T a.2).2)).2)) else a):=fun E nu hg a=>by
  split
  ·rename_i hk
   split
   ·exact(ax T (af hk).2).state (dA T (Good.nil T _))
   ·exact Good.node 10 (((Good.self T a).app (ax T (af hk).2)).app (dA T (hg.formula _)))
  ·exact Good.self T a
 refine RS.then hE hM (hs.rel s hl) (g:=fun a=>if isQ T [61,62] a.2=true then (if (aO T D (n+1) (ac T a.2).2).e≠0 then ([],aO T D (n+1) (ac T a.2).2) else ([.nd 10 (a.1++(ac T a.2).1++(nt.formula (aO T D (n+1) (ac T a.2).2)).1)],(nt.formula (aO T D (n+1) (ac T a.2).2)).2)) else a) (g':=fun a=>if isQ T [61,62] a.2=true then (if (aO T D' (n+1) (ac T a.2).2).e≠0 then ([],aO T D' (n+1) (ac T a.2).2) else ([.nd 10 (a.1++(ac T a.2).1++(nt'.formula (aO T D' (n+1) (ac T a.2).2)).1)],(nt'.formula (aO T D' (n+1) (ac T a.2).2)).2)) else a) (fun _=>?_) (tail D nt h.one _) (tail D' nt' h.two _)
 generalize ha:orT T D n nt s=a
 show RS T (if isQ T [61,62] a.2=true then _ else _) (if isQ T [61,62] a.2=true then _ else _)
 split
 ·rename_i hk
  have hal:a.2.i<T.length:=by rw [←ha];exact(hs.one s).inr hE hl
  exact sH hE hM hD (n+1) (f:=fun t=>([.nd 10 (a.1++(ac T a.2).1++(nt.formula t).1)],(nt.formula t).2)) (f':=fun t=>([.nd 10 (a.1++(ac T a.2).1++(nt'.formula t).1)],(nt'.formula t).2)) (fun hm t ht=>RS.put (h.formula hm t ht) (fun l=>[.nd 10 (a.1++(ac T a.2).1++l)])) (fun t _=>⟨(h.two.formula t).stay,(h.two.formula t).mono,(h.two.formula t).place,(h.two.formula t).inr⟩) _ ((ax T (af hk).2).inr hE hal)
 ·exact .inl rfl
omit hD hE hM in
theorem yE:RF T nt.expr nt'.expr:=⟨h.expr,h.one.expr,h.two.expr⟩
omit hD in
theorem XR {s:St} (he:s.e=0) (hl:s.i<T.length):RS T (nT T nt s) (nT T nt' s):=by
 have xf:=yE h
 have i0:=(ax T he).inr hE hl
 have h1:=RS.app hE hM (a:=ac T s) (a':=ac T s) (.inl rfl) (Gd 1) i0
 have i1:=(cY T 1 _).inr hE i0
 have h2:=RS.app hE hM h1 (jJ [61]) i1
 have i2:=(aN T [61] _).inr hE i1
 have h3:=RS.app hE hM h2 xf i2
 have i3:=(xf.one _).inr hE i2
 have h4:=RS.app hE hM h3 (jJ [105,110]) i3
 have i4:=(aN T [105,110] _).inr hE i3
 have h5:=RS.app hE hM h4 xf i4
 exact RS.put h5 (fun l=>[.nd 7 l])
omit hD in
theorem abG {s:St} (he:s.e=0) (hl:s.i<T.length):RS T (ifT T nt s) (ifT T nt' s):=by
 have xf:=yE h
 have i0:=(ax T he).inr hE hl
 have h1:=RS.app hE hM (a:=ac T s) (a':=ac T s) (.inl rfl) xf i0
 have i1:=(xf.one _).inr hE i0
 have h2:=RS.app hE hM h1 (jJ [116,104,101,110]) i1
 have i2:=(aN T [116,104,101,110] _).inr hE i1
 have h3:=RS.app hE hM h2 xf i2
 have i3:=(xf.one _).inr hE i2
 have h4:=RS.app hE hM h3 (jJ [101,108,115,101]) i3
 have i4:=(aN T [101,108,115,101] _).inr hE i3
 have h5:=RS.app hE hM h4 xf i4
 exact RS.put h5 (fun l=>[.nd 8 l])
omit hD in
theorem Hu {s:St} (he:s.e=0) (hl:s.i<T.length):RS T (ep T nt s) (ep T nt' s):=by
 have xf:=yE h
 have i0:=(ax T he).inr hE hl
 have h1:=RS.app hE hM (a:=ac T s) (a':=ac T s) (.inl rfl) xf i0
 have i1:=(xf.one _).inr hE i0
 have h2:=RS.app hE hM h1 (jJ [105,110]) i1
 have i2:=(aN T [105,110] _).inr hE i1
 have h3:=RS.app hE hM h2 xf i2
 exact RS.put h3 (fun l=>[.nd 9 l])
def ru (T:List Tok) (D n:Nat) (nt:NxT) (t:St):RT:=
 if t.inn=false∧isQ T [108,101,116] t=true then nT T nt t
 else if t.inn=false∧isQ T [105,102] t=true then ifT T nt t
 else if t.inn=false∧isQ T [97,115,115,101,114,116] t=true then ep T nt t
 else ay T D n nt t
omit hE hM hD h in
theorem wF (hg:NxG T nt) (t:St):Good T t (ru T D n nt t):=by
 unfold ru
 split
 ·rename_i hk;exact A7 T hg (af hk.2).2
 split
 ·rename_i hk;exact EI T hg (af hk.2).2
 split
 ·rename_i hk;exact rF T hg (af hk.2).2
 ·exact gw T D n hg t
theorem Pb (t:St) (hl:t.i<T.length):RS T (ru T D n nt t) (ru T D' n nt' t):=by
 unfold ru
 split
 ·rename_i hk;exact XR hE hM h (af hk.2).2 hl
 split
 ·rename_i hk;exact abG hE hM h (af hk.2).2 hl
 split
 ·rename_i hk;exact Hu hE hM h (af hk.2).2 hl
 ·exact(uU hE hM hD h).rel t hl
theorem Pd (s:St) (hl:s.i<T.length):RS T (cP T D n nt s) (cP T D' n nt' s):=
 sH hE hM hD n (f:=ru T D n nt) (f':=ru T D' n nt') (fun _ t ht=>Pb hE hM hD h t ht) (fun t _=>wF h.two t) s hl
end
theorem TN {T:List Tok} (hE:tG T) (hM:Le T) {D D':Nat} (hD:D≤D'):∀d d' n,n+d=D+1→n+d'=D'+1→NxF T D n (nxT T D d) (nxT T D' d')
 | 0,d',n,h1,h2=>by
   have g2:=dF T D' d'
   refine⟨dF T D 0,g2,fun s hl=>?_,fun hn=>absurd hn (by omega),fun hn=>absurd hn (by omega),fun hn=>absurd hn (by omega)⟩
   have hn:n=D+1:=by omega
   subst hn
   cases d' with
   | zero=>
     have:D'=D:=by omega
     subst this;exact .inl rfl
   | succ d'=>
     have e:D' - d'=D+1:=by omega
     have key:=sH hE hM hD (D+1) (f:=fun t=>(([]:List Tr),t)) (f':=ru T D' (D+1) (nxT T D' d')) (fun hm=>absurd hm (by omega)) (fun t _=>wF (dF T D' d') t) s hl
     show RS T ([],aO T D (D+1) s) (cP T D' (D' - d') (nxT T D' d') s)
     rw [e]
     have e2:(if (aO T D (D+1) s).e≠0 then (([]:List Tr),aO T D (D+1) s) else ([],aO T D (D+1) s))=([],aO T D (D+1) s):=by split<;>rfl
     rw [e2] at key
     exact key
 | d+1,0,n,h1,h2=>absurd hD (by omega)
 | d+1,d'+1,n,h1,h2=>by
   have ih:=TN hE hM hD d d' (n+1) (by omega) (by omega)
   have e:D - d=n:=by omega
   have e':D' - d'=n:=by omega
   refine⟨dF T D (d+1),dF T D' (d'+1),?_,fun _=>?_,fun _=>?_,fun _=>?_⟩
   ·show ∀s,s.i<T.length→RS T (cP T D (D - d) (nxT T D d) s) (cP T D' (D' - d') (nxT T D' d') s)
    rw [e,e'];exact Pd hE hM hD ih
   ·show ∀s,s.i<T.length→RS T (ay T D (D - d) (nxT T D d) s) (ay T D' (D' - d') (nxT T D' d') s)
    rw [e,e'];exact(uU hE hM hD ih).rel
   ·show ∀s,s.i<T.length→RS T (dL T D (D - d) (nxT T D d) s) (dL T D' (D' - d') (nxT T D' d') s)
    rw [e,e'];exact(Om hE hM hD ih).rel
   ·show ∀s,s.i<T.length→RS T (aL T D (D - d) (nxT T D d) s) (aL T D' (D' - d') (nxT T D' d') s)
    rw [e,e'];exact(wC hE hM hD ih).rel
end Go.Proofs.YtjbgnopnehgbaaaGreatDoor
namespace Go.Proofs.YtjbgnopnehgbaaaGreatDoor
section
variable {T:List Tok} (hE:tG T) (hM:Le T) {et et':St→RT} (xf:RF T et et')
include hE hM xf
theorem PE (b:RT) (hl:b.2.i<T.length):RS T (fY T et b) (fY T et' b):=by
 unfold fY
 split
 ·rename_i hk
  have i0:=(ax T (af hk).2).inr hE hl
  have h1:=xf.rel (setIn true (ac T b.2).2) i0
  have g1:Good T (et (setIn true (ac T b.2).2)).2 (aj T [125] (setIn false (et (setIn true (ac T b.2).2)).2)):=(aN T _ _).inn
  have g2:Good T (et' (setIn true (ac T b.2).2)).2 (aj T [125] (setIn false (et' (setIn true (ac T b.2).2)).2)):=(aN T _ _).inn
  exact RS.then hE hM h1
   (g:=fun f=>(b.1++[.nd 6 ((ac T b.2).1++f.1++(aj T [125] (setIn false f.2)).1)],(aj T [125] (setIn false f.2)).2))
   (g':=fun f=>(b.1++[.nd 6 ((ac T b.2).1++f.1++(aj T [125] (setIn false f.2)).1)],(aj T [125] (setIn false f.2)).2))
   (fun e=>by rw [e];exact .inl rfl) ⟨g1.stay,g1.mono,g1.place,g1.inr⟩ ⟨g2.stay,g2.mono,g2.place,g2.inr⟩
 ·exact .inl rfl
theorem AW:RF T (bA T et) (bA T et'):=
 ⟨fun s hl=>PE hE hM xf _ ((wV T (aN T [58] s)).inr hE hl),jz T xf.one,jz T xf.two⟩
theorem Vh:RF T (eF T et) (eF T et'):=
 ⟨fun s hl=>RS.put (RS.app hE hM (a:=aA T 1 s) (a':=aA T 1 s) (.inl rfl) (AW hE hM xf) ((cY T 1 s).inr hE hl)) (fun l=>[.nd 4 l]),l0 T xf.one,l0 T xf.two⟩
theorem GB:RF T (eI T et) (eI T et'):=Ap hE hM (Vh hE hM xf)
theorem QA (o:RT) (hl:o.2.i<T.length):RS T (du T et o) (du T et' o):=by
 unfold du
 split
 ·exact RS.put ((GB hE hM xf).rel _ hl) (fun l=>o.1++l)
 ·exact .inl rfl
theorem Pk {r r':RT} (h:RS T r r') (hl:r.2.i<T.length):RS T (eL T et r) (eL T et' r'):=by
 refine RS.then hE hM h (g:=eL T et) (g':=eL T et') (fun e=>?_) (mX T xf.one (Good.self T r)) (mX T xf.two (Good.self T r'))
 subst e
 have i1:=(aN T [41] r.2).inr hE hl
 have h1:=RS.app hE hM (a:=aj T [41] r.2) (a':=aj T [41] r.2) (.inl rfl) (AW hE hM xf) i1
 have i2:=(jz T xf.one _).inr hE i1
 have h2:=RS.app hE hM h1 (jJ [61]) i2
 have i3:=(aN T [61] _).inr hE i2
 have h3:=RS.put h2 (fun l=>r.1++l)
 have h4:=RS.app hE hM h3 xf i3
 have i4:=(xf.one _).inr hE i3
 exact RS.app hE hM h4 (jJ [59]) i4
theorem Uv:RF T (gO T et) (gO T et'):=by
 refine⟨fun s hl=>?_,lR T xf.one,lR T xf.two⟩
 have i1:=(qL T (xA T s)).inr hE hl
 have i2:=(qM T xf.one (Good.self T (cK T (bW T s)))).inr hE i1
 exact RS.put (Pk hE hM xf (QA hE hM xf _ i1) i2) (fun l=>[.nd 3 l])
omit xf in
theorem F7 {c:St→Bool} {step step':RT→RT} {most:Nat}
  (hr:∀r,c r.2=true→r.2.i<T.length→RS T (step r) (step' r)) (g:∀r,c r.2=true→Good T r.2 (step r)) (g':∀r,c r.2=true→Good T r.2 (step' r)):
  ∀f k r,r.2.i<T.length→dr T c step most f k r=dr T c step' most f k r∨Bad T (dr T c step most f k r).2.2 (dr T c step' most f k r).2.2
 | 0,k,r,h=>.inl rfl
 | f+1,k,r,h=>by
   unfold dr
   split
   ·rename_i iA
    split
    ·exact .inl rfl
    ·rcases hr r iA h with e | hb
     ·rw [←e];exact F7 hr g g' f _ _ ((g r iA).inr hE h)
     ·have m1:=i8 T (c:=c) (step:=step) (most:=most) (s:=(step r).2) (fun r hc hr=>hr.state (g r hc) (l:=(step r).1)) f (k+1) (step r) (Good.self T _)
      have m2:=i8 T (c:=c) (step:=step') (most:=most) (s:=(step' r).2) (fun r hc hr=>hr.state (g' r hc) (l:=(step' r).1)) f (k+1) (step' r) (Good.self T _)
      exact .inr (hb.go hE hM m1 m2)
   ·exact .inl rfl
theorem D8 (s:St) (hl:s.i<T.length):RS T (aW T et s) (aW T et' s):=by
 unfold aW
 have i1:(au T ([],s)).2.2.i<T.length:=(i8 T (fun r hc hr=>oy T hr hc) _ _ _ (Good.nil T s)).inr hE hl
 split
 ·exact .inl rfl
 have hm:=F7 hE hM (c:=fF T) (step:=fE T et) (step':=fE T et') (most:=64)
  (fun r _ hl=>RS.put ((Uv hE hM xf).rel r.2 hl) (fun l=>r.1++l))
  (fun r _=>(Good.self T r).app (lR T xf.one _)) (fun r _=>(Good.self T r).app (lR T xf.two _))
  (aT T (au T ([],s)).2.2) 0 (au T ([],s)).2 i1
 have hm:cj T et (au T ([],s)).2=cj T et' (au T ([],s)).2∨Bad T (cj T et (au T ([],s)).2).2.2 (cj T et' (au T ([],s)).2).2.2:=hm
 rcases hm with e | hb
 ·rw [e];exact .inl rfl
 ·have key:∀J:Bool×RT,Good T J.2.2 (if J.1=false then J.2 else (J.2.1++(aA T 5 J.2.2).1,(aA T 5 J.2.2).2)):=fun J=>by
   split
   ·exact Good.self T _
   ·exact(Good.self T J.2).app (cY T 5 _)
  exact .inr (hb.go hE hM (key _) (key _))
theorem K4 (s:St) (hl:s.i<T.length):RS T (de T et s) (de T et' s):=
 RS.app hE hM (xf.rel (setIn true s) hl) (Gd 5) ((xf.one (setIn true s)).inr hE hl)
end
theorem Gt {T:List Tok} (hE:tG T) (hM:Le T) {D D':Nat} (hD:D≤D') (h1:1≤D) (s:St) (hl:s.i<T.length):
  RS T (aW T (nxT T D D).expr s) (aW T (nxT T D' D').expr s)∧RS T (de T (nxT T D D).expr s) (de T (nxT T D' D').expr s):=by
 have h:=TN hE hM hD D D' 1 (by omega) (by omega)
 have xf:RF T (nxT T D D).expr (nxT T D' D').expr:=⟨h.expr,h.one.expr,h.two.expr⟩
 exact⟨D8 hE hM xf s hl,K4 hE hM xf s hl⟩
end Go.Proofs.YtjbgnopnehgbaaaGreatDoor
namespace Go.Proofs.YtjbgnopnehgbaaaGreatDoor
theorem CL (T:List Tok) {i j:Nat} (h:i≤j):(bV (T.take i)).length≤(bV (T.take j)).length:=by
 have h1:(T.take j).take i=T.take i:=by rw [List.take_take];congr 1;omega
 rw [←h1];exact jS _ _
theorem NG {l:List UInt8} (h:(ag l).2.1=0):Le (ag l).1:=by
 intro s t Qa hlt
 have hp:=(j8 h).1
 have hs:(ag l).1[s.i]? = some (an (ag l).1 s):=by unfold an;rw [List.getElem?_eq_getElem (Nat.lt_of_le_of_lt Qa hlt)];rfl
 have ht:(ag l).1[t.i]? = some (an (ag l).1 t):=by unfold an;rw [List.getElem?_eq_getElem hlt];rfl
 have p1:=(hp _ _ hs).1
 have p2:=(hp _ _ ht).1
 rcases Nat.eq_or_lt_of_le Qa with e | hl
 ·rw [show an (ag l).1 s=an (ag l).1 t from by unfold an;rw [e]];exact Nat.le_refl _
 ·have h1:=CL (ag l).1 (i:=s.i+1) (j:=t.i) hl
  rw [rl hs,List.length_append,List.length_append] at h1
  omega
def aH (T:List Tok) (D:Nat) (f:Bool):RT:=if f=true then de T (nxT T D D).expr az else aW T (nxT T D D).expr az
theorem My (T:List Tok) (D:Nat) (f:Bool):(wT T D f).2=(aH T D f).2∧((aH T D f).2.e=0→(wT T D f).1=dmp T (.nd (if f=true then 18 else 1) (aH T D f).1)):=by
 have hx:=(Oj T D D).expr
 unfold wT aH
 cases f
 ·exact GM T _ hx az
 ·exact⟨(FB T _ hx az).1,fun _=>(FB T _ hx az).2⟩
theorem C7 {l:List UInt8} (hl:l.length≤65536) (h:(ag l).2.1=0) (D:Nat) (f:Bool):
  t8 l D f=if (aH (ag l).1 D f).2.e=0 then (dmp (ag l).1 (.nd (if f=true then 18 else 1) (aH (ag l).1 D f).1),0,0) else ([],(aH (ag l).1 D f).2.e,(aH (ag l).1 D f).2.pos):=by
 obtain⟨h1,h2⟩:=My (ag l).1 D f
 unfold t8
 rw [if_neg (by omega),if_neg (by omega)]
 unfold Qy
 rw [h1]
 split
 ·rename_i he;rw [h2 he]
 ·rfl
theorem rt {l:List UInt8} (h:(ag l).2.1=0) (D:Nat) (f:Bool) (he:(aH (ag l).1 D f).2.e=0):eo (aH (ag l).1 D f).1=List.range (ag l).1.length:=by
 obtain⟨hE,bl⟩:=oV h
 have iO:az.i<(ag l).1.length:=List.length_pos_iff.2 bl
 have hx:=(va (ag l).1 D D).expr
 have hg:=(dF (ag l).1 D D).expr
 cases f
 ·have dp:(aW (ag l).1 (nxT (ag l).1 D D).expr az).2.i<(ag l).1.length:=by
   unfold aW
   have i1:=i8 (ag l).1 (most:=16) (c:=isQ (ag l).1 [105,109,112,111,114,116]) (step:=eC (ag l).1) (s:=az) (fun r hc hr=>oy _ hr hc) (aT (ag l).1 az) 0 ([],az) (Good.nil _ _)
   have i2:=i8 (ag l).1 (most:=64) (c:=fF (ag l).1) (step:=fE (ag l).1 (nxT (ag l).1 D D).expr) (s:=az) (fun r hc hr=>hr.app (lR _ hg _)) (aT (ag l).1 (au (ag l).1 ([],az)).2.2) 0 (au (ag l).1 ([],az)).2 i1
   split
   ·exact i1.inr hE iO
   split
   ·exact i2.inr hE iO
   ·exact(i2.app (cY _ 5 _)).inr hE iO
  exact Cj _ hx hE rfl dp he
 ·have dp:(de (ag l).1 (nxT (ag l).1 D D).expr az).2.i<(ag l).1.length:=
   ((hg (setIn true az)).app (cY _ 5 _)).inr hE iO
  exact Ho _ hx hE rfl dp he
theorem yn {l:List UInt8} (h:(ag l).2.1=0) {D D':Nat} (hD:D≤D') (h1:1≤D) (f:Bool):
  aH (ag l).1 D f=aH (ag l).1 D' f∨((aH (ag l).1 D f).2.e=23∧((aH (ag l).1 D' f).2.e=23→(aH (ag l).1 D f).2.pos≤(aH (ag l).1 D' f).2.pos)):=by
 obtain⟨hE,bl⟩:=oV h
 have iO:az.i<(ag l).1.length:=List.length_pos_iff.2 bl
 have key:=Gt hE (NG h) hD h1 az iO
 have fin:∀a b:RT,RS (ag l).1 a b→a=b∨(a.2.e=23∧(b.2.e=23→a.2.pos≤b.2.pos)):=fun a b hr=>by
  rcases hr with e | hb
  ·exact .inl e
  ·exact .inr ⟨hb.deep,hb.late⟩
 unfold aH
 cases f
 ·exact fin _ _ key.1
 ·exact fin _ _ key.2
mutual
def szR:Tr→Nat
 | .lf _=>1
 | .nd _ l=>dI l+1
def dI:List Tr→Nat
 | []=>0
 | t::l=>szR t+dI l
end
def iW:Nat→List Tr→List Int
 | _,[]=>[]
 | b,t::l=>((b+szR t - 1:Nat):Int)::iW (b+szR t) l
mutual
def post:Nat→Tr→List Nd
 | _,.lf i=>[⟨19,(i:Int),[]⟩]
 | b,.nd k l=>dT b l++[⟨(k:Int),-1,iW b l⟩]
def dT:Nat→List Tr→List Nd
 | _,[]=>[]
 | b,t::l=>post b t++dT (b+szR t) l
end
theorem kQ (t:Tr):1≤szR t:=by cases t<;>(unfold szR;omega)
theorem ri (a c:List Tr):∀b,iW b (a++c)=iW b a++iW (b+dI a) c:=by
 induction a with
 | nil=>intro b;simp [iW,dI]
 | cons t a ih=>
   intro b
   simp only [List.cons_append,iW,dI,ih]
   rw [show b+szR t+dI a=b+(szR t+dI a) by omega]
theorem oP (a c:List Tr):∀b,dT b (a++c)=dT b a++dT (b+dI a) c:=by
 induction a with
 | nil=>intro b;simp [dT,dI]
 | cons t a ih=>
   intro b
   simp only [List.cons_append,dT,dI,ih,List.append_assoc]
   rw [show b+szR t+dI a=b+(szR t+dI a) by omega]
mutual
theorem mA:∀(t:Tr) (b:Nat),(post b t).length=szR t
 | .lf i,b=>by simp [post,szR]
 | .nd k l,b=>by simp [post,szR,fV l b]
theorem fV:∀(l:List Tr) (b:Nat),(dT b l).length=dI l
 | [],b=>by simp [dT,dI]
 | t::l,b=>by simp [dT,dI,mA t b,fV l (b+szR t)]
end
theorem yB:∀(l:List Tr) (b:Nat) (k:Int),k∈iW b l→(b:Int)≤k∧k<((b+dI l:Nat):Int)
 | [],b,k,h=>by simp [iW] at h
 | t::l,b,k,h=>by
   have hp:=kQ t
   simp only [iW,List.mem_cons] at h
   simp only [dI]
   rcases h with rfl | h
   ·omega
   ·have:=yB l (b+szR t) k h
    omega
theorem Bc:∀(l:List Tr) (b:Nat),(iW b l).length=l.length
 | [],b=>rfl
 | t::l,b=>by simp [iW,Bc l]
def bU (k:Nat) (N:List Nd) (s:St) (r:RT) (N':List Nd) (vs:List Int):Prop:=
 (r.2.e=0→N'=N++dT N.length r.1∧vs=iW N.length r.1∧N'.length+2*s.i+k≤N.length+2*r.2.i)∧N'.length+2*s.i≤N.length+2*r.2.i
structure aQ (k:Nat) (N:List Nd) (s:St) (r:RT) (N':List Nd) (vs:List Int):Prop where
 out:bU k N s r N' vs
 dead:r.2.e≠0→(-1:Int)∈vs
def Eqv (a b:RT):Prop:=a.2=b.2∧(b.2.e=0→a.1=b.1)
theorem Eqv.refl (a:RT):Eqv a a:=⟨rfl,fun _=>rfl⟩
theorem bU.nil (N:List Nd) (s:St):bU 0 N s ([],s) N []:=⟨fun _=>⟨by simp [dT],rfl,Nat.le_refl _⟩,Nat.le_refl _⟩
theorem bU.app {k1 k2:Nat} {N N1 N2:List Nd} {s:St} {a b:RT} {v1 v2:List Int} (h1:bU k1 N s a N1 v1) (h2:bU k2 N1 a.2 b N2 v2) (hd:a.2.e≠0→b.2.e≠0):bU (k1+k2) N s (a.1++b.1,b.2) N2 (v1++v2):=by
 refine⟨fun e=>?_,?_⟩
 ·have ea:a.2.e=0:=by
   rcases Nat.eq_zero_or_pos a.2.e with h | h
   ·exact h
   ·exact absurd e (hd (by omega))
  obtain⟨e1,e2,e3⟩:=h1.1 ea
  obtain⟨f1,f2,f3⟩:=h2.1 e
  have hl:N1.length=N.length+dI a.1:=by rw [e1,List.length_append,fV]
  refine⟨?_,?_,?_⟩
  ·rw [f1,hl,oP,←List.append_assoc,←e1]
  ·rw [f2,e2,hl,ri]
  ·show N2.length+2*s.i+(k1+k2)≤N.length+2*b.2.i;omega
 ·have:=h1.2;have:=h2.2
  show N2.length+2*s.i≤N.length+2*b.2.i;omega
theorem aQ.app {k1 k2:Nat} {N N1 N2:List Nd} {s:St} {a b:RT} {v1 v2:List Int} (h1:bU k1 N s a N1 v1) (h2:aQ k2 N1 a.2 b N2 v2) (hd:a.2.e≠0→b.2.e≠0):aQ (k1+k2) N s (a.1++b.1,b.2) N2 (v1++v2):=
 ⟨h1.app h2.out hd,fun e=>List.mem_append_right _ (h2.dead e)⟩
theorem bU.weak {k j:Nat} {N N':List Nd} {s:St} {r:RT} {vs:List Int} (h:bU k N s r N' vs) (hj:j≤k):bU j N s r N' vs:=
 ⟨fun e=>⟨(h.1 e).1,(h.1 e).2.1,by have:=(h.1 e).2.2;omega⟩,h.2⟩
theorem aQ.weak {k j:Nat} {N N':List Nd} {s:St} {r:RT} {vs:List Int} (h:aQ k N s r N' vs) (hj:j≤k):aQ j N s r N' vs:=⟨h.out.weak hj,h.dead⟩
theorem bU.eqv {k:Nat} {N N':List Nd} {s:St} {a b:RT} {vs:List Int} (h:bU k N s a N' vs) (he:Eqv a b):bU k N s b N' vs:=
 ⟨fun e=>by rw [←he.1,←he.2 e];exact h.1 (by rw [he.1];exact e),by rw [←he.1];exact h.2⟩
theorem aQ.eqv {k:Nat} {N N':List Nd} {s:St} {a b:RT} {vs:List Int} (h:aQ k N s a N' vs) (he:Eqv a b):aQ k N s b N' vs:=
 ⟨h.out.eqv he,fun e=>h.dead (by rw [he.1];exact e)⟩
theorem aQ.ok {k:Nat} {N N1:List Nd} {s:St} {r:RT} {vs:List Int} (h:aQ k N s r N1 vs) (e:r.2.e=0):okB N1.length vs=true:=by
 obtain⟨e1,e2,-⟩:=h.out.1 e
 refine uG fun j hj=>?_
 rw [e2] at hj
 have:=yB _ _ _ hj
 rw [e1,List.length_append,fV]
 omega
theorem aQ.no {k:Nat} {N N1:List Nd} {s:St} {r:RT} {vs:List Int} (h:aQ k N s r N1 vs) (e:r.2.e≠0):okB N1.length vs=false:=by
 obtain⟨j,hj⟩:=List.getElem?_of_mem (h.dead e)
 exact mM hj (by omega)
theorem aQ.node {k kind:Nat} {N N1:List Nd} {s:St} {r:RT} {vs:List Int} (h:aQ (k+1) N s r N1 vs) (e:r.2.e=0):aQ k N s ([.nd kind r.1],r.2) (N1++[⟨(kind:Int),-1,vs⟩]) [(N1.length:Int)]:=by
 obtain⟨e1,e2,e3⟩:=h.out.1 e
 have hl:N1.length=N.length+dI r.1:=by rw [e1,List.length_append,fV]
 refine⟨⟨fun _=>⟨?_,?_,?_⟩,?_⟩,fun h=>absurd e h⟩
 ·simp only [dT,post,List.append_nil];rw [←List.append_assoc,←e1,e2]
 ·simp only [iW,szR];rw [hl];congr 1
 ·rw [List.length_append];show N1.length+1+2*s.i+k≤N.length+2*r.2.i;omega
 ·rw [List.length_append];show N1.length+1+2*s.i≤N.length+2*r.2.i;omega
theorem aQ.none {k kind:Nat} {N N1:List Nd} {s:St} {r:RT} {vs:List Int} (h:aQ (k+1) N s r N1 vs) (e:r.2.e≠0):aQ k N s ([.nd kind r.1],r.2) N1 [-1]:=
 ⟨⟨fun h=>absurd h e,h.out.2⟩,fun _=>List.mem_singleton.2 rfl⟩
theorem aQ.leaf {T:List Tok} {N:List Nd} {s:St} (hk:(an T s).kind≠5) (he:s.e=0):aQ 1 N s (ac T s) (N++[⟨19,(s.i:Int),[]⟩]) [(N.length:Int)]:=by
 have h1:=qh hk
 refine⟨⟨fun _=>⟨?_,?_,?_⟩,?_⟩,fun h=>absurd ?_ h⟩
 ·simp [ac,dT,post]
 ·simp [ac,iW,szR]
 ·rw [List.length_append];show N.length+1+2*s.i+1≤N.length+2*(aI T s).2.i;omega
 ·rw [List.length_append];show N.length+1+2*s.i≤N.length+2*(aI T s).2.i;omega
 ·show(aI T s).2.e=0;unfold aI;split<;>exact he
theorem aQ.fail {T:List Tok} {N:List Nd} {s:St} {k m:Nat} (hm:m≠0) (l:List Tr):aQ k N s (l,aB T m s) N [-1]:=
 ⟨⟨fun h=>absurd h (cC T hm s),by show N.length+2*s.i≤N.length+2*(aB T m s).i;rw [jZ];omega⟩,fun _=>List.mem_singleton.2 rfl⟩
structure bM (s:St) (r:RT):Prop where
 inn:r.2.inn=s.inn
 dead:s.e≠0→r.2=s
theorem bM.nil (s:St):bM s ([],s):=⟨rfl,fun _=>rfl⟩
theorem bM.app {s:St} {a b:RT} (h1:bM s a) (h2:bM a.2 b) {l:List Tr}:bM s (l,b.2):=by
 refine⟨h2.inn.trans h1.inn,fun e=>?_⟩
 have ha:=h1.dead e
 show b.2=s
 rw [h2.dead (by rw [ha];exact e),ha]
theorem bM.node {s:St} {a:RT} (h:bM s a) {l:List Tr}:bM s (l,a.2):=⟨h.inn,h.dead⟩
section
variable (T:List Tok)
theorem fX {n:Nat} {s:St} (h:s.e≠0):aB T n s=s:=by unfold aB;rw [if_neg h]
theorem dU (n:Nat) (s:St) (l:List Tr):bM s (l,aB T n s):=⟨by show(aB T n s).inn=s.inn;unfold aB;split<;>rfl,fun h=>fX T h⟩
theorem Gl {D n:Nat} {s:St} (h:s.e≠0):aO T D n s=s:=by unfold aO;split;exact fX T h;rfl
theorem ND (D n:Nat) (s:St):(aO T D n s).inn=s.inn:=by unfold aO;split;exact(dU T 23 s []).inn;rfl
theorem eD {D n:Nat} {s:St} {r:RT} (h:bM (aO T D n s) r):bM s r:=
 ⟨h.inn.trans (ND T D n s),fun e=>by have h1:=Gl T (D:=D) (n:=n) e;rw [h.dead (by rw [h1];exact e),h1]⟩
theorem aq {s:St} (h:s.e=0):bM s (ac T s):=⟨by show(aI T s).2.inn=s.inn;unfold aI;split<;>rfl,fun e=>absurd h e⟩
theorem ar (x:List UInt8) (s:St):bM s (aj T x s):=by
 unfold aj;split
 ·rename_i h;exact aq T (af h).2
 ·exact dU T 22 s []
theorem bE (k:Nat) (s:St):bM s (aA T k s):=by
 unfold aA;split
 ·rename_i h;exact aq T h.1
 ·exact dU T 22 s []
theorem mb {c:St→Bool} {sub:St→RT} (hc:∀s,c s=true→s.e=0) (hs:∀s,bM s (sub s)) {s:St}:∀f r,bM s r→bM s (rwT T c sub f r)
 | 0,r,h=>h
 | f+1,r,h=>by
   unfold rwT
   split
   ·rename_i iA
    exact mb hc hs f _ ((h.app (aq T (hc _ iA)) (l:=[])).app (hs _))
   ·exact h
theorem tu {sub:St→RT} (hs:∀s,bM s (sub s)) {s:St}:∀f k r,bM s r→bM s (bk T sub f k r)
 | 0,k,r,h=>h
 | f+1,k,r,h=>by
   unfold bk
   split
   ·rename_i iA
    refine tu hs f _ _ ?_
    refine(h.app (aq T (af iA).2) (l:=[])).app ?_
    show bM (ac T r.2).2 _
    split
    ·exact(dU T 15 _ []).app (hs _)
    ·exact hs _
   ·exact h
structure NxK (nt:NxT):Prop where
 expr:∀s,bM s (nt.expr s)
 formula:∀s,bM s (nt.formula s)
 nots:∀s,bM s (nt.nots s)
 factor:∀s,bM s (nt.factor s)
end
section
variable (T:List Tok) (D n:Nat) {nt:NxT} (h:NxK nt)
include h
theorem wA (s:St):bM s (jn T nt s):=tu T h.expr _ _ _ (h.expr s)
omit h in
theorem CH {s:St} {a:RT} (ha:bM s a):bM s (bO T a):=by
 unfold bO;split
 ·rename_i hc;exact(ha.app (aq T (af hc).2) (l:=[])).app (bE T _ _)
 ·exact ha
omit h in
theorem Ek {s:St} {a:RT} (ha:bM s a):bM s (bN T a):=ha.app (ar T _ _)
theorem C9 {s:St} {a:RT} (ha:bM s a):bM s (bG T nt a):=by
 unfold bG;split
 ·exact ha
 ·exact ha.app (wA T h _)
omit h in
theorem Ep {s:St} {a:RT} (ha:bM s a):bM s (gF T a):=ha.app (ar T _ _)
theorem Gm {s:St} (hk:s.e=0):bM s (dq T nt s):=by
 unfold dq;split
 ·exact(aq T hk).node
 ·exact Ep T (C9 T h (Ek T (CH T (aq T hk))))
theorem II (s:St):bM s (bC T nt s):=by
 unfold bC
 split
 ·exact bM.nil s
 rename_i he
 have he:s.e=0:=by omega
 split
 ·exact(aq T he).node
 split
 ·exact(aq T he).node
 split
 ·exact(aq T he).node
 split
 ·exact((aq T he).app (h.expr _) (l:=[])).app (ar T _ _)
 split
 ·exact Gm T h he
 ·exact dU T 22 s []
omit h in
theorem xh {sub:St→RT} (hs:∀s,bM s (sub s)) {s:St} (hk:s.e=0):bM s (fa T D n sub s):=by
 unfold fa
 simp only []
 split
 ·exact(aq T hk).app (eD T (bM.nil _))
 ·exact(aq T hk).app (eD T (hs _))
theorem jH (s:St):bM s (aL T D n nt s):=by
 unfold aL;split
 ·rename_i hk;exact xh T D n h.factor (af hk).2
 ·exact II T h s
theorem lh (s:St):bM s (cJ T D n nt s):=mb T (fun _ hc=>M7 hc) (jH T D n h) _ _ (jH T D n h s)
theorem tO (s:St):bM s (cX T D n nt s):=mb T (fun _ hc=>KH hc) (lh T D n h) _ _ (lh T D n h s)
theorem pG (s:St):bM s (dL T D n nt s):=by
 unfold dL
 simp only []
 split
 ·rename_i hk;exact xh T D n h.nots (af hk).2
 split
 ·rename_i hk;exact((tO T D n h s).app (aq T (Ck hk)) (l:=[])).app (tO T D n h _)
 ·exact tO T D n h s
theorem vc (s:St):bM s (me T D n nt s):=mb T (fun _ hc=>(af hc).2) (pG T D n h) _ _ (pG T D n h s)
theorem zu (s:St):bM s (orT T D n nt s):=mb T (fun _ hc=>(af hc).2) (vc T D n h) _ _ (vc T D n h s)
theorem iY (s:St):bM s (ay T D n nt s):=by
 unfold ay
 simp only []
 split
 ·rename_i hk
  split
  ·exact((zu T D n h s).app (aq T (af hk).2) (l:=[])).app (eD T (bM.nil _))
  ·exact((zu T D n h s).app (aq T (af hk).2) (l:=[])).app (eD T (h.formula _))
 ·exact zu T D n h s
theorem Bu {s:St} (hk:s.e=0):bM s (nT T nt s):=
 (((((aq T hk).app (bE T _ _) (l:=[])).app (ar T _ _) (l:=[])).app (h.expr _) (l:=[])).app (ar T _ _) (l:=[])).app (h.expr _)
theorem E7 {s:St} (hk:s.e=0):bM s (ifT T nt s):=
 (((((aq T hk).app (h.expr _) (l:=[])).app (ar T _ _) (l:=[])).app (h.expr _) (l:=[])).app (ar T _ _) (l:=[])).app (h.expr _)
theorem rA {s:St} (hk:s.e=0):bM s (ep T nt s):=
 (((aq T hk).app (h.expr _) (l:=[])).app (ar T _ _) (l:=[])).app (h.expr _)
theorem I6 (s:St):bM s (cP T D n nt s):=by
 unfold cP
 simp only []
 split
 ·exact eD T (bM.nil _)
 split
 ·rename_i hk;exact eD T (Bu T h (af hk.2).2)
 split
 ·rename_i hk;exact eD T (E7 T h (af hk.2).2)
 split
 ·rename_i hk;exact eD T (rA T h (af hk.2).2)
 ·exact eD T (iY T D n h _)
end
theorem fi (T:List Tok) (D:Nat):∀d,NxK (nxT T D d)
 | 0=>⟨fun s=>eD T (bM.nil _),fun s=>bM.nil s,fun s=>bM.nil s,fun s=>bM.nil s⟩
 | d+1=>⟨I6 T D _ (fi T D d),iY T D _ (fi T D d),pG T D _ (fi T D d),jH T D _ (fi T D d)⟩
def fG (T:List Tok) (D n:Nat) (nt:NxT) (s:St):RT:=
 if isQ T [108,101,116] s=true then nT T nt s
 else if isQ T [105,102] s=true then ifT T nt s
 else if isQ T [97,115,115,101,114,116] s=true then ep T nt s
 else ay T D n nt s
theorem Hi (T:List Tok) (D n:Nat) {nt:NxT} (h:NxK nt) (s:St):bM s (fG T D n nt s):=by
 unfold fG
 split
 ·rename_i hk;exact Bu T h (af hk).2
 split
 ·rename_i hk;exact E7 T h (af hk).2
 split
 ·rename_i hk;exact rA T h (af hk).2
 ·exact iY T D n h s
abbrev NT (T:List Tok) (D n:Nat):NxT:=nxT T D (D - n)
def dt (T:List Tok) (D n:Nat) (sub:St→RT) (s:St):RT:=if n=D then ([],aB T 23 s) else sub s
theorem py (T:List Tok) {D n:Nat} (h:n<D):NT T D n={ expr:=cP T D (n+1) (NT T D (n+1)),formula:=ay T D (n+1) (NT T D (n+1)),nots:=dL T D (n+1) (NT T D (n+1)),factor:=aL T D (n+1) (NT T D (n+1)) }:=by
 show nxT T D (D - n)=_
 have h1:D - n=(D - (n+1))+1:=by omega
 have h2:D - (D - (n+1))=n+1:=by omega
 rw [h1]
 show { expr:=cP T D (D - (D - (n+1))) _,formula:=ay T D (D - (D - (n+1))) _,nots:=dL T D (D - (D - (n+1))) _,factor:=aL T D (D - (D - (n+1))) _:NxT }=_
 rw [h2]
theorem km (T:List Tok) (D:Nat) (s:St):aO T D (D+1) s=aB T 23 s:=by unfold aO;rw [if_pos (by omega)]
theorem mH (T:List Tok) {D n:Nat} (h:n<D) (s:St):aO T D (n+1) s=s:=by unfold aO;rw [if_neg (by omega)]
theorem qw (T:List Tok) {D n:Nat} (hn:n≤D) (s:St) (hi:s.inn=false):Eqv (dt T D n (fG T D (n+1) (NT T D (n+1))) s) ((NT T D n).expr s):=by
 unfold dt
 split
 ·rename_i h
  subst h
  have:(NT T n n).expr s=([],aO T n (n+1) s):=by unfold NT;rw [Nat.sub_self];rfl
  rw [this,km];exact Eqv.refl _
 ·rename_i h
  have hlt:n<D:=by omega
  rw [py T hlt]
  show Eqv (fG T D (n+1) (NT T D (n+1)) s) (cP T D (n+1) (NT T D (n+1)) s)
  unfold cP
  rw [mH T hlt]
  simp only []
  by_cases he:s.e≠0
  ·rw [if_pos he]
   exact⟨(Hi T D (n+1) (fi T D _) s).dead he,fun e=>absurd e he⟩
  ·rw [if_neg he]
   unfold fG
   simp only [hi,true_and]
   exact Eqv.refl _
theorem ql (T:List Tok) {D n:Nat} (hn:n≤D) (s:St) (hi:s.inn=true):Eqv (dt T D n (ay T D (n+1) (NT T D (n+1))) s) ((NT T D n).expr s):=by
 unfold dt
 split
 ·rename_i h
  subst h
  have:(NT T n n).expr s=([],aO T n (n+1) s):=by unfold NT;rw [Nat.sub_self];rfl
  rw [this,km];exact Eqv.refl _
 ·rename_i h
  have hlt:n<D:=by omega
  rw [py T hlt]
  show Eqv (ay T D (n+1) (NT T D (n+1)) s) (cP T D (n+1) (NT T D (n+1)) s)
  unfold cP
  rw [mH T hlt]
  simp only []
  by_cases he:s.e≠0
  ·rw [if_pos he]
   exact⟨(iY T D (n+1) (fi T D _) s).dead he,fun e=>absurd e he⟩
  ·rw [if_neg he]
   simp only [hi,Bool.true_eq_false,false_and,if_false]
   exact Eqv.refl _
theorem mN (T:List Tok) {s:St} (h:s.e=0):(ac T s).2.e=0:=by show(aI T s).2.e=0;unfold aI;split<;>exact h
theorem B3 (T:List Tok) {D n:Nat} (hn:n≤D) {sub sub':St→RT} (hs:n<D→sub'=sub) (s:St) (hk:s.e=0):
  Eqv ([.nd 11 ((ac T s).1++(dt T D n sub (ac T s).2).1)],(dt T D n sub (ac T s).2).2) (fa T D n sub' s):=by
 unfold fa dt
 simp only []
 by_cases h:n=D
 ·subst h
  rw [if_pos rfl,km,if_pos (cC T (by decide) _)]
  exact⟨rfl,fun e=>absurd e (cC T (by decide) _)⟩
 ·have hlt:n<D:=by omega
  rw [if_neg h,mH T hlt,hs hlt,if_neg (by rw [mN T hk];decide)]
  exact Eqv.refl _
theorem Nq (T:List Tok) {D n:Nat} (hn:n≤D) {sub:St→RT} {nt:NxT} (hs:n<D→nt.formula=sub) (s:St) (hk:isQ T [61,62] (orT T D n nt s).2=true):
  Eqv ([.nd 10 ((orT T D n nt s).1++(ac T (orT T D n nt s).2).1++(dt T D n sub (ac T (orT T D n nt s).2).2).1)],(dt T D n sub (ac T (orT T D n nt s).2).2).2) (ay T D n nt s):=by
 unfold ay dt
 simp only []
 rw [if_pos hk]
 by_cases h:n=D
 ·subst h
  rw [if_pos rfl,km,if_pos (cC T (by decide) _)]
  exact⟨rfl,fun e=>absurd e (cC T (by decide) _)⟩
 ·have hlt:n<D:=by omega
  rw [if_neg h,mH T hlt,hs hlt,if_neg (by rw [mN T (af hk).2];decide)]
  exact Eqv.refl _
theorem L5 {T:List Tok} {c:St→Bool} {sub:St→RT} {r:RT} (hc:c r.2=false):∀f,rwT T c sub f r=r
 | 0=>rfl
 | f+1=>by unfold rwT;rw [hc];rfl
def tr (T:List Tok) (sub:St→RT) (r:RT):RT:=([.nd 10 (r.1++(ac T r.2).1++(sub (ac T r.2).2).1)],(sub (ac T r.2).2).2)
def jg (T:List Tok) (c:St→Bool) (sub:St→RT) (R r:RT):Prop:=∃f,T.length - r.2.i+1≤f∧rwT T c sub f r=R
theorem jg.start (T:List Tok) (c:St→Bool) (sub:St→RT) (s:St):jg T c sub (rwT T c sub (aT T (sub s).2) (sub s)) (sub s):=⟨_,Nat.le_refl _,rfl⟩
theorem jg.stop {T:List Tok} {c:St→Bool} {sub:St→RT} {R r:RT} (h:jg T c sub R r) (hc:c r.2=false):R=r:=by
 obtain⟨f,-,hf⟩:=h;rw [←hf,L5 hc]
theorem qP {T:List Tok} {s:St} (hk:(an T s).kind≠5):(ac T s).2.i=s.i+1:=(qh hk).2
theorem jg.next {T:List Tok} {c:St→Bool} {sub:St→RT} {R r:RT} (h:jg T c sub R r) (hc:c r.2=true) (hk:(an T r.2).kind≠5) (hi:r.2.i<T.length) (hm:(ac T r.2).2.i≤(sub (ac T r.2).2).2.i):jg T c sub R (tr T sub r)∧r.2.i<(tr T sub r).2.i:=by
 obtain⟨f,hf,hr⟩:=h
 have h1:=qP hk
 have h2:r.2.i<(tr T sub r).2.i:=by show r.2.i<(sub (ac T r.2).2).2.i;omega
 refine⟨⟨f - 1,by omega,?_⟩,h2⟩
 obtain⟨k,rfl⟩:∃k,f=k+1:=⟨f - 1,by omega⟩
 unfold rwT at hr
 rw [if_pos hc] at hr
 exact hr
def gD (T:List Tok) (sub:St→RT):Nat→RT→RT
 | 0,r=>(r.1,aB T 15 r.2)
 | j+1,r=>if isQ T [44] (sub r.2).2=true then gD T sub j (r.1++(sub r.2).1++(ac T (sub r.2).2).1,(ac T (sub r.2).2).2) else (r.1++(sub r.2).1,(sub r.2).2)
def ej (T:List Tok) (sub:St→RT) (s:St):RT:=if isQ T [41] s=true then ([],s) else gD T sub 8 ([],s)
theorem jO {T:List Tok} {sub:St→RT} {r:RT} {k:Nat} (hc:isQ T [44] r.2=false):∀f,bk T sub f k r=r
 | 0=>rfl
 | f+1=>by unfold bk;rw [hc];rfl
theorem lj {T:List Tok} {x:List UInt8} {s:St} (h:s.e≠0):isQ T x s=false:=by unfold isQ;exact decide_eq_false (fun e=>h e.1)
theorem Dq (T:List Tok) {sub:St→RT} (hs:∀s,Good T s (sub s)) (hk:∀s,s.e≠0→(sub s).2=s):∀(j f:Nat) (r:RT),j+1≤8→T.length - (sub r.2).2.i+1≤f→r.2.i≤T.length→Eqv (gD T sub (j+1) r) (bk T sub f (8 - j) (r.1++(sub r.2).1,(sub r.2).2)):=by
 intro j
 induction j with
 | zero=>
   intro f r _ hf hr
   unfold gD
   by_cases hc:isQ T [44] (sub r.2).2=true
   ·obtain⟨g,rfl⟩:∃g,f=g+1:=⟨f - 1,by omega⟩
    rw [if_pos hc]
    unfold bk
    rw [if_pos hc]
    simp only [Nat.sub_zero,if_true]
    have hd:(aB T 15 (ac T (sub r.2).2).2).e≠0:=cC T (by decide) _
    have h2:=hk _ hd
    rw [h2,jO (lj hd)]
    exact⟨rfl,fun e=>absurd e hd⟩
   ·rw [if_neg hc,jO (by simpa using hc)]
    exact Eqv.refl _
 | succ j ih=>
   intro f r hj hf hr
   have e1:gD T sub (j+1+1) r=if isQ T [44] (sub r.2).2=true then gD T sub (j+1) (r.1++(sub r.2).1++(ac T (sub r.2).2).1,(ac T (sub r.2).2).2) else (r.1++(sub r.2).1,(sub r.2).2):=by rw [gD]
   rw [e1]
   by_cases hc:isQ T [44] (sub r.2).2=true
   ·obtain⟨g,rfl⟩:∃g,f=g+1:=⟨f - 1,by omega⟩
    rw [if_pos hc]
    unfold bk
    rw [if_pos hc]
    simp only []
    rw [if_neg (show ¬ 8 - (j+1)=8 by omega),show 8 - (j+1)+1=8 - j by omega]
    have hki:=(af hc).1
    have hl:=qP (T:=T) (s:=(sub r.2).2) hki
    have hm:=(hs (ac T (sub r.2).2).2).mono
    have hlt:(sub r.2).2.i<T.length:=by
     rcases Nat.lt_or_ge (sub r.2).2.i T.length with h | h
     ·exact h
     ·exact absurd (by unfold an;rw [List.getElem?_eq_none h];rfl) hki
    exact ih g (r.1++(sub r.2).1++(ac T (sub r.2).2).1,(ac T (sub r.2).2).2) (by omega) (by show T.length - (sub (ac T (sub r.2).2).2).2.i+1≤g;omega) (by show(ac T (sub r.2).2).2.i≤T.length;omega)
   ·rw [if_neg hc,jO (by simpa using hc)]
    exact Eqv.refl _
theorem tK (T:List Tok) {sub:St→RT} (hs:∀s,Good T s (sub s)) (hk:∀s,s.e≠0→(sub s).2=s) (s:St) (hi:s.i≤T.length):Eqv (ej T sub s) (if isQ T [41] s=true then ([],s) else bk T sub (aT T (sub s).2) 1 (sub s)):=by
 unfold ej
 split
 ·exact Eqv.refl _
 ·have h:=Dq T hs hk 7 (aT T (sub s).2) ([],s) (by omega) (Nat.le_refl _) hi
  simpa using h
end Go.Proofs.YtjbgnopnehgbaaaGreatDoor
