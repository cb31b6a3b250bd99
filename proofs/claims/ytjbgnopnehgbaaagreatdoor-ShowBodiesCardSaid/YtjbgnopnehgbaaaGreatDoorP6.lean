/- Lemmas. -/
import Derived.Test.YtjbgnopnehgbaaaGreatDoorP24
set_option linter.unusedVariables false
set_option linter.unusedSimpArgs false
namespace Go.Proofs.YtjbgnopnehgbaaaGreatDoor
inductive Ex where
 | mk (op:Nat) (nm md nu:List UInt8) (ys:Bool) (ks:List Ex) (ps:Nat)
def MV:Ex:=.mk 0 [] [] [] false [] 0
def tkT (T:List Tok) (i:Nat):Tok:=T[i]?.getD ⟨5,[],[],0⟩
def cU:List (List UInt8):=[[43],[45],[42],[47],[37],[61],[60,62],[60],[60,61],[62],[62,61],[38,38],[124,124],[61,62]]
def qW (s:List UInt8):Nat:=if cU.idxOf s<14 then 7+cU.idxOf s else 0
def unE (s:List UInt8):Nat:=if s = [45] then 5 else 6
def bJ (k:Nat) (o:Nat→Tok) (ks:List Ex):Ex:=
 if k=7 then .mk 22 (o 1).text [] [] false ks (o 0).pos
 else if k=8 then .mk 21 [] [] [] false ks (o 0).pos
 else if k=9 then .mk 23 [] [] [] false ks (o 0).pos
 else if k=10 then .mk (qW (o 0).text) [] [] [] false ks (o 0).pos
 else if k=11 then .mk (unE (o 0).text) [] [] [] false ks (o 0).pos
 else if k=13 then (if (o 1).text = [46] then .mk 24 (o 2).text (o 0).text [] false ks (o 0).pos else .mk 24 (o 0).text [] [] false ks (o 0).pos)
 else if k=14 then .mk 3 (o 0).text [] [] false ks (o 0).pos
 else if k=15 then .mk 1 [] [] (o 0).text false ks (o 0).pos
 else if k=16 then .mk 2 [] [] [] (decide ((o 0).text = [116,114,117,101])) ks (o 0).pos
 else .mk 4 [] [] [] false ks (o 0).pos
def aX:List Tr→List Nat
 | []=>[]
 | .lf i::l=>i::aX l
 | .nd _ _::l=>aX l
def isN:Tr→Bool
 | .lf _=>false
 | .nd _ _=>true
mutual
def axT (T:List Tok):Tr→Ex
 | .lf _=>MV
 | .nd k l=>if k=12 then (bR T l).headD MV else bJ k (fun j=>tkT T ((aX l).getD j T.length)) (bR T l)
def bR (T:List Tok):List Tr→List Ex
 | []=>[]
 | t::l=>if isN t=true then axT T t::bR T l else bR T l
end
def uB (t:List UInt8):Prop:=0<t.length∧t.length≤60∧(∀b∈t,cH b=true)∧(1<t.length→t.head?≠some 48)
inductive ShE (T:List Tok):Nat→List Tr→Prop
 | let_ (i j k m:Nat) (t u:Tr):isN t=true→isN u=true→ShE T 7 [.lf i,.lf j,.lf k,t,.lf m,u]
 | if_ (i j k:Nat) (t u v:Tr):isN t=true→isN u=true→isN v=true→ShE T 8 [.lf i,t,.lf j,u,.lf k,v]
 | assert_ (i j:Nat) (t u:Tr):isN t=true→isN u=true→ShE T 9 [.lf i,t,.lf j,u]
 | bin (i:Nat) (t u:Tr):isN t=true→isN u=true→(tkT T i).text∈cU→ShE T 10 [t,.lf i,u]
 | una (i:Nat) (t:Tr):isN t=true→(tkT T i).text = [45]∨(tkT T i).text = [110,111,116]→ShE T 11 [.lf i,t]
 | grp (i j:Nat) (t:Tr):isN t=true→ShE T 12 [.lf i,t,.lf j]
 | call (i j:Nat) (l:List Tr):(tkT T j).text≠[46]→ShE T 13 (.lf i::.lf j::l)
 | callm (i j m:Nat) (l:List Tr):(tkT T j).text = [46]→ShE T 13 (.lf i::.lf j::.lf m::l)
 | nam (i:Nat):ShE T 14 [.lf i]
 | num (i:Nat):uB (tkT T i).text→ShE T 15 [.lf i]
 | tru (i:Nat):ShE T 16 [.lf i]
 | res (i:Nat):ShE T 17 [.lf i]
mutual
def WE (T:List Tok):Tr→Prop
 | .lf _=>True
 | .nd k l=>ShE T k l∧WEs T l
def WEs (T:List Tok):List Tr→Prop
 | []=>True
 | t::l=>WE T t∧WEs T l
end
def One (T:List Tok) (l:List Tr):Prop:=∃t,l = [t]∧isN t=true∧WE T t
abbrev WO (T:List Tok) (r:RT):Prop:=r.2.e=0→One T r.1
abbrev WL (T:List Tok) (r:RT):Prop:=r.2.e=0→WEs T r.1
def uL (T:List Tok):Prop:=∀t∈T,t.kind=3→uB t.text
theorem ie {T:List Tok} {a b:List Tr} (h1:WEs T a) (h2:WEs T b):WEs T (a++b):=by
 induction a with
 | nil=>exact h2
 | cons t a ih=>simp only [List.cons_append,WEs] at h1 ⊢;exact⟨h1.1,ih h1.2⟩
theorem cq {T:List Tok} {i:Nat} {l:List Tr} (h:WEs T l):WEs T (.lf i::l):=by simp only [WEs,WE];exact⟨trivial,h⟩
theorem cG {T:List Tok} {t:Tr} {l:List Tr} (h1:WE T t) (h:WEs T l):WEs T (t::l):=by simp only [WEs];exact⟨h1,h⟩
theorem cL {T:List Tok}:WEs T []:=by simp [WEs]
theorem One.nd {T:List Tok} {k:Nat} {l:List Tr} (h1:ShE T k l) (h2:WEs T l):One T [.nd k l]:=⟨_,rfl,rfl,by simp only [WE];exact⟨h1,h2⟩⟩
theorem uo {s:St} {r:RT} (h:bM s r) (he:r.2.e=0):s.e=0:=by
 rcases Nat.eq_zero_or_pos s.e with h0 | h0
 ·exact h0
 ·have:=h.dead (by omega);rw [this] at he;exact he
section
variable (T:List Tok)
theorem gB (s:St):(ac T s).1 = [.lf s.i]:=rfl
theorem kS {w:List UInt8} {s:St} (h:(aj T w s).2.e=0):(aj T w s).1 = [.lf s.i]∧(tkT T s.i).text=w∧((tkT T s.i).kind=2∨(tkT T s.i).kind=4)∧s.e=0:=by
 unfold aj at h ⊢
 split
 ·rename_i hk
  unfold isQ at hk
  have hk:=of_decide_eq_true hk
  exact⟨rfl,hk.2.2,hk.2.1,hk.1⟩
 ·rename_i hk
  rw [if_neg hk] at h
  exact absurd h (cC T (by decide) s)
theorem nS {k:Nat} {s:St} (h:(aA T k s).2.e=0):(aA T k s).1 = [.lf s.i]∧(tkT T s.i).kind=k∧s.e=0:=by
 unfold aA at h ⊢
 split
 ·rename_i hk;exact⟨rfl,hk.2,hk.1⟩
 ·rename_i hk
  rw [if_neg hk] at h
  exact absurd h (cC T (by decide) s)
theorem m8 {w:List UInt8} {s:St} (h:isQ T w s=true):(tkT T s.i).text=w∧((tkT T s.i).kind=2∨(tkT T s.i).kind=4)∧s.e=0:=by
 unfold isQ at h
 have hk:=of_decide_eq_true h
 exact⟨hk.2.2,hk.2.1,hk.1⟩
theorem AF {c:St→Bool} {sub:St→RT} (hc:∀s,c s=true→s.e=0∧(tkT T s.i).text∈cU) (hk:∀s,bM s (sub s)) (hs:∀s,WO T (sub s)):∀f r,WO T r→WO T (rwT T c sub f r)
 | 0,r,h=>h
 | f+1,r,h=>by
   unfold rwT
   split
   ·rename_i iA
    refine AF hc hk hs f _ fun he=>?_
    have h1:=hc _ iA
    obtain⟨t,ht,Ct,DE⟩:=h h1.1
    obtain⟨u,hu,pM,pL⟩:=hs _ he
    show One T [.nd 10 (r.1++(ac T r.2).1++(sub (ac T r.2).2).1)]
    rw [ht,hu,gB]
    exact One.nd (ShE.bin _ t u Ct pM h1.2) (cG DE (cq (cG pL cL)))
   ·exact h
theorem FO {sub:St→RT} (hk:∀s,bM s (sub s)) (hs:∀s,WO T (sub s)):∀f k r,WL T r→WL T (bk T sub f k r)
 | 0,k,r,h=>h
 | f+1,k,r,h=>by
   unfold bk
   split
   ·rename_i iA
    refine FO hk hs f _ _ fun he=>?_
    obtain⟨u,hu,pM,pL⟩:=hs _ he
    show WEs T (r.1++(ac T r.2).1++(sub (if k=8 then aB T 15 (ac T r.2).2 else (ac T r.2).2)).1)
    rw [hu,gB]
    exact ie (ie (h (m8 T iA).2.2) (cq cL)) (cG pL cL)
   ·exact h
structure NxW (D n:Nat) (nt:NxT):Prop where
 expr:∀s,WO T (nt.expr s)
 formula:n<D→∀s,WO T (nt.formula s)
 nots:n<D→∀s,WO T (nt.nots s)
 factor:n<D→∀s,WO T (nt.factor s)
end
section
variable (T:List Tok) (hT:uL T) (D n:Nat) {nt:NxT} (h:NxW T D n nt) (hk:NxK nt)
include h hk
theorem X9 (s:St):WL T (jn T nt s):=FO T hk.expr h.expr _ _ _ fun he=>by
 obtain⟨t,ht,-,h2⟩:=h.expr s he
 rw [ht];exact cG h2 cL
theorem WY (s:St) (hs:s.e=0):WO T (dq T nt s):=by
 unfold dq
 split
 ·intro _;exact One.nd (ShE.nam s.i) (cq cL)
 ·intro he
  have e1:(aj T [41] (bG T nt (bN T (bO T (ac T s)))).2).2.e=0:=he
  obtain⟨m1,-,-,d0⟩:=kS T e1
  obtain⟨rest,hr,hw,c0⟩:∃rest,(bG T nt (bN T (bO T (ac T s)))).1=(bN T (bO T (ac T s))).1++rest∧WEs T rest∧(bN T (bO T (ac T s))).2.e=0:=by
   unfold bG at d0 ⊢
   split
   ·rename_i hc
    exact⟨[],by simp,cL,(m8 T hc).2.2⟩
   ·rename_i hc
    rw [if_neg hc] at d0
    have d0:(jn T nt (bN T (bO T (ac T s))).2).2.e=0:=d0
    exact⟨_,rfl,X9 T D n h hk _ d0,uo (wA T hk _) d0⟩
  have e2:(aj T [40] (bO T (ac T s)).2).2.e=0:=c0
  obtain⟨m2,w2,-,b0⟩:=kS T e2
  show One T [.nd 13 ((bG T nt (bN T (bO T (ac T s)))).1++(aj T [41] (bG T nt (bN T (bO T (ac T s)))).2).1)]
  rw [m1,hr]
  show One T [.nd 13 ((bO T (ac T s)).1++(aj T [40] (bO T (ac T s)).2).1++rest++[.lf _])]
  rw [m2]
  unfold bO at b0 w2 ⊢
  by_cases hd:isQ T [46] (ac T s).2=true
  ·rw [if_pos hd] at b0 w2 ⊢
   have b0:(aA T 1 (ac T (ac T s).2).2).2.e=0:=b0
   obtain⟨k1,-,-⟩:=nS T b0
   show One T [.nd 13 ((ac T s).1++(ac T (ac T s).2).1++(aA T 1 (ac T (ac T s).2).2).1++[.lf _]++rest++[.lf _])]
   rw [k1,gB,gB]
   refine One.nd (ShE.callm _ _ _ _ (m8 T hd).1) ?_
   exact ie (ie (cq (cq (cq (cq cL)))) hw) (cq cL)
  ·rw [if_neg hd] at b0 w2 ⊢
   rw [gB]
   refine One.nd (ShE.call _ _ _ (by rw [w2];decide)) ?_
   exact ie (ie (cq (cq cL)) hw) (cq cL)
include hT
theorem X6 (s:St):WO T (bC T nt s):=by
 unfold bC
 split
 ·rename_i he;intro h9;exact absurd h9 he
 rename_i he
 have he:s.e=0:=by omega
 split
 ·rename_i h3
  intro _
  refine One.nd (ShE.num s.i ?_) (cq cL)
  have h4:(tkT T s.i).kind=3:=h3
  unfold tkT at h4 ⊢
  cases ht:T[s.i]? with
  | none=>rw [ht] at h4;cases h4
  | some t=>rw [ht] at h4;exact hT t (List.mem_of_getElem? ht) h4
 split
 ·intro _;exact One.nd (ShE.tru s.i) (cq cL)
 split
 ·intro _;exact One.nd (ShE.res s.i) (cq cL)
 split
 ·intro h9
  obtain⟨m1,-,-,b0⟩:=kS T h9
  obtain⟨u,hu,pM,pL⟩:=h.expr _ b0
  show One T [.nd 12 ((ac T s).1++(nt.expr (ac T s).2).1++(aj T [41] (nt.expr (ac T s).2).2).1)]
  rw [m1,hu,gB]
  exact One.nd (ShE.grp _ _ u pM) (cq (cG pL (cq cL)))
 split
 ·exact WY T D n h hk s he
 ·intro h9;exact absurd h9 (cC T (by decide) s)
omit hT h hk in
theorem NK {sub:St→RT} (hs:n<D→∀s,WO T (sub s)) {s:St} (hw:(tkT T s.i).text = [45]∨(tkT T s.i).text = [110,111,116]):WO T (fa T D n sub s):=by
 unfold fa
 simp only []
 split
 ·rename_i he;intro h9;exact absurd h9 he
 ·rename_i he
  intro h9
  have hn:n<D:=by
   rcases Nat.lt_or_ge n D with h1 | h1
   ·exact h1
   ·exfalso;apply he
    unfold aO;rw [if_pos (by omega)];exact cC T (by decide) _
  obtain⟨u,hu,pM,pL⟩:=hs hn _ h9
  show One T [.nd 11 ((ac T s).1++(sub (aO T D (n+1) (ac T s).2)).1)]
  rw [hu,gB]
  exact One.nd (ShE.una _ u pM hw) (cq (cG pL cL))
theorem tE (s:St):WO T (aL T D n nt s):=by
 unfold aL;split
 ·rename_i hc;exact NK T D n h.factor (.inl (m8 T hc).1)
 ·exact X6 T hT D n h hk s
omit hT h hk in
theorem jc {w:List UInt8} (hw:w∈cU) {s:St} (h:isQ T w s=true):s.e=0∧(tkT T s.i).text∈cU:=⟨(m8 T h).2.2,by rw [(m8 T h).1];exact hw⟩
theorem wi (s:St):WO T (cJ T D n nt s):=AF T (fun s hc=>by
 unfold jN at hc
 simp only [Bool.or_eq_true] at hc
 rcases hc with (hc | hc) | hc<;>exact jc T (by decide) hc) (jH T D n hk) (tE T hT D n h hk) _ _ (tE T hT D n h hk s)
theorem NU (s:St):WO T (cX T D n nt s):=AF T (fun s hc=>by
 unfold jT at hc
 simp only [Bool.or_eq_true] at hc
 rcases hc with hc | hc<;>exact jc T (by decide) hc) (lh T D n hk) (wi T hT D n h hk) _ _ (wi T hT D n h hk s)
theorem LX (s:St):WO T (dL T D n nt s):=by
 unfold dL
 simp only []
 split
 ·rename_i hc;exact NK T D n h.nots (.inr (m8 T hc).1)
 split
 ·rename_i hc
  intro h9
  have hm:(cX T D n nt s).2.e=0∧(tkT T (cX T D n nt s).2.i).text∈cU:=by
   unfold fs at hc
   simp only [Bool.or_eq_true] at hc
   rcases hc with ((((hc | hc) | hc) | hc) | hc) | hc<;>exact jc T (by decide) hc
  obtain⟨t,ht,Ct,DE⟩:=NU T hT D n h hk s hm.1
  obtain⟨u,hu,pM,pL⟩:=NU T hT D n h hk _ h9
  show One T [.nd 10 ((cX T D n nt s).1++(ac T (cX T D n nt s).2).1++(cX T D n nt (ac T (cX T D n nt s).2).2).1)]
  rw [ht,hu,gB]
  exact One.nd (ShE.bin _ t u Ct pM hm.2) (cG DE (cq (cG pL cL)))
 ·exact NU T hT D n h hk s
theorem Tw (s:St):WO T (me T D n nt s):=AF T (fun s hc=>jc T (by decide) hc) (pG T D n hk) (LX T hT D n h hk) _ _ (LX T hT D n h hk s)
theorem abH (s:St):WO T (orT T D n nt s):=AF T (fun s hc=>jc T (by decide) hc) (vc T D n hk) (Tw T hT D n h hk) _ _ (Tw T hT D n h hk s)
theorem wD (s:St):WO T (ay T D n nt s):=by
 unfold ay
 simp only []
 split
 ·rename_i hc
  split
  ·rename_i he;intro h9;exact absurd h9 he
  ·rename_i he
   intro h9
   have hn:n<D:=by
    rcases Nat.lt_or_ge n D with h1 | h1
    ·exact h1
    ·exfalso;apply he
     unfold aO;rw [if_pos (by omega)];exact cC T (by decide) _
   have hm:=jc T (by decide) hc
   obtain⟨t,ht,Ct,DE⟩:=abH T hT D n h hk s hm.1
   obtain⟨u,hu,pM,pL⟩:=h.formula hn _ h9
   show One T [.nd 10 ((orT T D n nt s).1++(ac T (orT T D n nt s).2).1++(nt.formula (aO T D (n+1) (ac T (orT T D n nt s).2).2)).1)]
   rw [ht,hu,gB]
   exact One.nd (ShE.bin _ t u Ct pM hm.2) (cG DE (cq (cG pL cL)))
 ·exact abH T hT D n h hk s
omit hT
theorem Z4 (s:St):WO T (nT T nt s):=by
 intro h9
 obtain⟨u,hu,pM,pL⟩:=h.expr _ h9
 have h8:=uo (hk.expr _) h9
 obtain⟨m1,-,-,h7⟩:=kS T h8
 obtain⟨t,ht,Ct,DE⟩:=h.expr _ h7
 have h6:=uo (hk.expr _) h7
 obtain⟨m2,-,-,h5⟩:=kS T h6
 obtain⟨k1,-,-⟩:=nS T h5
 unfold nT
 simp only []
 rw [hu,m1,ht,m2,k1,gB]
 exact One.nd (ShE.let_ _ _ _ _ t u Ct pM) (cq (cq (cq (cG DE (cq (cG pL cL))))))
theorem afx (s:St):WO T (ifT T nt s):=by
 intro h9
 obtain⟨v,hv,hv1,Jz⟩:=h.expr _ h9
 have h8:=uo (hk.expr _) h9
 obtain⟨m1,-,-,h7⟩:=kS T h8
 obtain⟨u,hu,pM,pL⟩:=h.expr _ h7
 have h6:=uo (hk.expr _) h7
 obtain⟨m2,-,-,h5⟩:=kS T h6
 obtain⟨t,ht,Ct,DE⟩:=h.expr _ h5
 unfold ifT
 simp only []
 rw [hv,m1,hu,m2,ht,gB]
 exact One.nd (ShE.if_ _ _ _ t u v Ct pM hv1) (cq (cG DE (cq (cG pL (cq (cG Jz cL))))))
theorem Mz (s:St):WO T (ep T nt s):=by
 intro h9
 obtain⟨u,hu,pM,pL⟩:=h.expr _ h9
 have h8:=uo (hk.expr _) h9
 obtain⟨m1,-,-,h7⟩:=kS T h8
 obtain⟨t,ht,Ct,DE⟩:=h.expr _ h7
 unfold ep
 simp only []
 rw [hu,m1,ht,gB]
 exact One.nd (ShE.assert_ _ _ t u Ct pM) (cq (cG DE (cq (cG pL cL))))
include hT
theorem WF (s:St):WO T (cP T D n nt s):=by
 unfold cP
 simp only []
 split
 ·rename_i he;intro h9;exact absurd h9 he
 split
 ·exact Z4 T D n h hk _
 split
 ·exact afx T D n h hk _
 split
 ·exact Mz T D n h hk _
 ·exact wD T hT D n h hk _
end
theorem Xc (T:List Tok) (hT:uL T) (D:Nat):∀d,d≤D→NxW T D (D - d) (nxT T D d)
 | 0,_=>⟨fun s h9=>absurd h9 (by show(aO T D (D+1) s).e≠0;rw [km];exact cC T (by decide) s),fun h=>by omega,fun h=>by omega,fun h=>by omega⟩
 | d+1,h=>by
   have ih:=Xc T hT D d (by omega)
   have hk:=fi T D d
   exact⟨WF T hT D _ ih hk,fun _=>wD T hT D _ ih hk,fun _=>LX T hT D _ ih hk,fun _=>tE T hT D _ ih hk⟩
theorem xx (p:UInt8→Bool):∀(l:List UInt8),∀b∈l.take (runN p l),p b=true
 | [],b,h=>by simp [runN] at h
 | a::r,b,h=>by
   by_cases ha:p a=true
   ·have e:runN p (a::r)=runN p r+1:=by simp [runN,ha]
    rw [e,List.take_succ_cons,List.mem_cons] at h
    rcases h with rfl | h
    ·exact ha
    ·exact xx p r b h
   ·have e:runN p (a::r)=0:=by simp [runN,ha]
    rw [e] at h;simp at h
theorem GN {l:List UInt8} (h:(aJ l).1=3):∀b∈l.take (aJ l).2,cH b=true:=by
 cases l with
 | nil=>simp [aJ] at h
 | cons a r=>
   rw [ch] at h ⊢
   split at h
   ·rename_i h1
    simp only at h
    split at h<;>cases h
   ·rename_i h1
    rw [if_neg h1]
    split at h
    ·rename_i h2
     rw [if_pos h2]
     exact xx cH (a::r)
    ·split at h<;>cases h
theorem F3 {l:List UInt8} {p:Nat} (hw:bg (aY l p).kind (aY l p).text=0) (hk:(aY l p).kind=3):uB (aY l p).text:=by
 have h1:(aJ (l.drop (sk false l))).1=3:=hk
 have h2:=nV (l:=l.drop (sk false l)) (by omega) (by omega)
 have h3:=mS (l.drop (sk false l))
 have h4:=GN h1
 unfold bg at hw
 rw [if_neg (by rw [hk];rintro(h | ⟨h,-⟩)<;>cases h)] at hw
 have h5:¬((aY l p).kind=3∧(60<(aY l p).text.length∨1<(aY l p).text.length∧(aY l p).text.head? = some 48)):=fun e=>by rw [if_pos e] at hw;cases hw
 have h6:(aY l p).text.length=(aJ (l.drop (sk false l))).2:=by
  show((l.drop (sk false l)).take _).length=_
  rw [List.length_take];omega
 refine⟨by omega,?_,h4,fun h7 h8=>h5 ⟨hk,.inr ⟨h7,h8⟩⟩⟩
 rcases Nat.lt_or_ge 60 (aY l p).text.length with h | h
 ·exact absurd ⟨hk,.inl h⟩ h5
 ·exact h
theorem zZ:∀(f:Nat) (l:List UInt8) (p:Nat),uL (iZ f l p).1
 | 0,l,p=>fun t ht=>by simp [iZ] at ht
 | f+1,l,p=>by
   intro t ht hk
   by_cases hw:bg (aY l p).kind (aY l p).text≠0
   ·rw [kY hw] at ht;simp at ht
   ·have hw:bg (aY l p).kind (aY l p).text=0:=by omega
    by_cases h5:(aY l p).kind=5
    ·rw [mu hw h5] at ht
     simp at ht;subst ht
     exact F3 hw hk
    ·rw [kj hw h5] at ht
     rcases List.mem_cons.1 ht with rfl | ht
     ·exact F3 hw hk
     ·exact zZ f _ _ t ht hk
theorem EW (l:List UInt8):uL (ag l).1:=zZ _ l 0
end Go.Proofs.YtjbgnopnehgbaaaGreatDoor
namespace Go.Proofs.YtjbgnopnehgbaaaGreatDoor
open Go.RowKit
def dV (F:Nat→Prop) (w:World) (op:Nat) (nu:List UInt8) (s:Bool) (p:Option Addr) (n c:Nat):Prop:=
 if op=1 then Zd.IsInt w (.agg #[.bool s,.slice p n c]) (Zd.parseV nu)∧Zd.parseE nu=0∧(0<n→∃a,p=some a∧F a.block) else Zd.IsInt w (.agg #[.bool s,.slice p n c]) 0∧(0<n→∃a,p=some a∧F a.block)
def wj (w:World) (g:Nat):Prop:=∃cs T,w.heap[g]? = some (.cells cs T (0,0))
theorem wj.same {S:Nat→Prop} {w w':World} {g:Nat} (h:wj w g) (hg:Fr2 S w w') (hS:¬S g):wj w' g:=by
 obtain⟨cs,T,h⟩:=h
 exact⟨cs,T,by rw [hg.block g (hlt h) hS];exact h⟩
mutual
def EAt (F:Nat→Prop) (w:World):Ex→List Value→Prop
 | .mk op nm md nu ys ks ps,q=>∃s pw nw cw pk ck rows,q = [.int .i64 (op:Int),aw nm,aw md,.bool s,.slice pw nw cw,.bool ys,.slice pk ks.length ck,.int .i64 (ps:Int)]∧dV F w op nu s pw nw cw∧GAt 8 w pk rows∧LsE F w ks rows∧(ks≠[]→∃a,pk=some a∧F a.block∧wj w a.block)
def LsE (F:Nat→Prop) (w:World):List Ex→List (List Value)→Prop
 | [],r=>r = []
 | x::l,r=>∃q r',r=q::r'∧EAt F w x q∧LsE F w l r'
end
theorem ti {S:Nat→Prop} {w w':World} {s:Bool} {p:Option Addr} {n c:Nat} {Z:Int} (h:Zd.IsInt w (.agg #[.bool s,.slice p n c]) Z) (hg:Fr2 S w w') (hS:0<n→∀a,p=some a→¬S a.block):Zd.IsInt w' (.agg #[.bool s,.slice p n c]) Z:=by
 obtain⟨s',v,N,he,⟨p',n',c',f,rfl,h1,h2,h3,h4⟩,r⟩:=h
 simp only [Value.agg.injEq,Array.mk.injEq,List.cons.injEq,Value.bool.injEq,Value.slice.injEq,and_true] at he
 obtain⟨rfl,rfl,rfl,rfl⟩:=he
 refine⟨s,_,N,rfl,⟨p,n,c,f,rfl,h1,h2,?_,h4⟩,r⟩
 rcases Nat.eq_zero_or_pos n with h0 | h0
 ·exact .inl h0
 ·obtain⟨g,off,rfl,hl,hc⟩:=Or.resolve_left h3 (by omega)
  exact .inr ⟨g,off,rfl,zn hl hg.size,fun j hj=>by rw [World.cell?_of_block (w:=w) (hg.block g hl (hS h0 _ rfl))];exact hc j hj⟩
theorem dV.same {F S:Nat→Prop} {w w':World} {op:Nat} {nu:List UInt8} {s:Bool} {p:Option Addr} {n c:Nat} (h:dV F w op nu s p n c) (hg:Fr2 S w w') (hS:∀k,F k→¬S k):dV F w' op nu s p n c:=by
 unfold dV at h ⊢
 split
 ·rename_i ho
  rw [if_pos ho] at h
  exact⟨ti h.1 hg (fun h0 a ha=>by obtain⟨b,hb,hF⟩:=h.2.2 h0;rw [ha] at hb;injection hb with hb;subst hb;exact hS _ hF),h.2⟩
 ·rename_i ho
  rw [if_neg ho] at h
  exact⟨ti h.1 hg (fun h0 a ha=>by obtain⟨b,hb,hF⟩:=h.2 h0;rw [ha] at hb;injection hb with hb;subst hb;exact hS _ hF),h.2⟩
theorem dV.mono {F F':Nat→Prop} {w:World} {op:Nat} {nu:List UInt8} {s:Bool} {p:Option Addr} {n c:Nat} (h:dV F w op nu s p n c) (hF:∀k,F k→F' k):dV F' w op nu s p n c:=by
 unfold dV at h ⊢
 split
 ·rename_i ho
  rw [if_pos ho] at h
  exact⟨h.1,h.2.1,fun h0=>by obtain⟨a,ha,h1⟩:=h.2.2 h0;exact⟨a,ha,hF _ h1⟩⟩
 ·rename_i ho
  rw [if_neg ho] at h
  exact⟨h.1,fun h0=>by obtain⟨a,ha,h1⟩:=h.2 h0;exact⟨a,ha,hF _ h1⟩⟩
theorem nP {F:Nat→Prop} {w:World}:∀ {l:List Ex} {r:List (List Value)},LsE F w l r→r.length=l.length
 | [],r,h=>by simp only [LsE] at h;rw [h];rfl
 | x::l,r,h=>by
   simp only [LsE] at h
   obtain⟨q,r',rfl,-,h2⟩:=h
   rw [List.length_cons,nP h2];rfl
theorem Oe {F:Nat→Prop} {w:World}:∀ {l:List Ex} {r:List (List Value)} {j:Nat} {x:Ex},LsE F w l r→l[j]? = some x→∃q,r[j]? = some q∧EAt F w x q
 | [],r,j,x,h,hx=>by simp at hx
 | y::l,r,j,x,h,hx=>by
   simp only [LsE] at h
   obtain⟨q,r',rfl,h1,h2⟩:=h
   match j,hx with
   | 0,hx=>simp at hx;subst hx;exact⟨q,rfl,h1⟩
   | j+1,hx=>
     obtain⟨q',hq,hr⟩:=Oe h2 (j:=j) (by simpa using hx)
     exact⟨q',by simpa using hq,hr⟩
theorem EM {F:Nat→Prop} {w:World} {x:Ex} {q:List Value} (hx:EAt F w x q):∀ {l:List Ex} {r:List (List Value)},LsE F w l r→LsE F w (l++[x]) (r++[q])
 | [],r,h=>by simp only [LsE] at h;subst h;simp only [List.nil_append,LsE];exact⟨q,[],rfl,hx,rfl⟩
 | y::l,r,h=>by
   simp only [LsE] at h
   obtain⟨q',r',rfl,h1,h2⟩:=h
   simp only [List.cons_append,LsE]
   exact⟨q',_,rfl,h1,EM hx h2⟩
theorem Ce {S F:Nat→Prop} {w w':World} {p:Option Addr} {rows:List (List Value)} {n:Nat} (hr:rows.length=n) (h:GAt 8 w p rows) (hF:0<n→∃a,p=some a∧F a.block) (hg:Fr2 S w w') (hS:∀k,F k→¬S k):GAt 8 w' p rows:=
 h.keptS hg (fun h0 a ha=>by
  obtain⟨b,hb,h1⟩:=hF (by have:=List.length_pos_iff.2 h0;omega)
  rw [ha] at hb;injection hb with hb;subst hb;exact hS _ h1)
mutual
theorem EAt.same {F S:Nat→Prop} {w w':World} (hg:Fr2 S w w') (hS:∀k,F k→¬S k):∀ {x:Ex} {q:List Value},EAt F w x q→EAt F w' x q
 | .mk op nm md nu ys ks ps,q,h=>by
   simp only [EAt] at h ⊢
   obtain⟨s,pw,nw,cw,pk,ck,rows,h1,h2,h3,h4,h5⟩:=h
   exact⟨s,pw,nw,cw,pk,ck,rows,h1,h2.same hg hS,Ce (nP h4) h3 (fun h0=>by obtain⟨a,ha,h6,-⟩:=h5 (List.length_pos_iff.1 h0);exact⟨a,ha,h6⟩) hg hS,LsE.same hg hS h4,fun h0=>by obtain⟨a,ha,h6,h7⟩:=h5 h0;exact⟨a,ha,h6,h7.same hg (hS _ h6)⟩⟩
theorem LsE.same {F S:Nat→Prop} {w w':World} (hg:Fr2 S w w') (hS:∀k,F k→¬S k):∀ {l:List Ex} {r:List (List Value)},LsE F w l r→LsE F w' l r
 | [],r,h=>by simp only [LsE] at h ⊢;exact h
 | x::l,r,h=>by
   simp only [LsE] at h ⊢
   obtain⟨q,r',h1,h2,h3⟩:=h
   exact⟨q,r',h1,EAt.same hg hS h2,LsE.same hg hS h3⟩
end
mutual
theorem EAt.mono {F F':Nat→Prop} {w:World} (hF:∀k,F k→F' k):∀ {x:Ex} {q:List Value},EAt F w x q→EAt F' w x q
 | .mk op nm md nu ys ks ps,q,h=>by
   simp only [EAt] at h ⊢
   obtain⟨s,pw,nw,cw,pk,ck,rows,h1,h2,h3,h4,h5⟩:=h
   exact⟨s,pw,nw,cw,pk,ck,rows,h1,h2.mono hF,h3,LsE.mono hF h4,fun h0=>by obtain⟨a,ha,h6,h7⟩:=h5 h0;exact⟨a,ha,hF _ h6,h7⟩⟩
theorem LsE.mono {F F':Nat→Prop} {w:World} (hF:∀k,F k→F' k):∀ {l:List Ex} {r:List (List Value)},LsE F w l r→LsE F' w l r
 | [],r,h=>by simp only [LsE] at h ⊢;exact h
 | x::l,r,h=>by
   simp only [LsE] at h ⊢
   obtain⟨q,r',h1,h2,h3⟩:=h
   exact⟨q,r',h1,EAt.mono hF h2,LsE.mono hF h3⟩
end
theorem EAt.kept {F:Nat→Prop} {w w':World} {x:Ex} {q:List Value} (h:EAt F w x q) (hg:w.grownBy w' none):EAt F w' x q:=EAt.same (S:=fun _=>False) (Fr2.none hg) (fun _ _ h=>h) h
theorem LsE.kept {F:Nat→Prop} {w w':World} {l:List Ex} {r:List (List Value)} (h:LsE F w l r) (hg:w.grownBy w' none):LsE F w' l r:=LsE.same (S:=fun _=>False) (Fr2.none hg) (fun _ _ h=>h) h
def Kz (x:Ex) (w:World) (e:Ending) (w':World):Prop:=w.grownBy w' none∧∃q,e=.returned (.agg q.toArray)∧EAt (fun k=>w.heap.size≤k) w' x q
theorem Fc {b:UInt8} (h:cH b=true):48≤b.toNat∧b.toNat≤57:=by
 unfold cH at h
 rw [Bool.and_eq_true] at h
 exact⟨UInt8.le_iff_toNat_le.1 (of_decide_eq_true h.1),UInt8.le_iff_toNat_le.1 (of_decide_eq_true h.2)⟩
theorem mJ {t:List UInt8} (h:uB t):Zd.parseE t=0∧Zd.txtL (Zd.parseV t)=t:=by
 obtain⟨h0,DZ,hd,hz⟩:=h
 have hm:Zd.minus t=false∧Zd.digs t=t:=Zd.mdne h0 (by have:=Fc (hd _ (List.getElem_mem h0));omega)
 have hp:Zd.plain t=true:=by
  unfold Zd.plain
  rw [Bool.and_eq_true,List.all_eq_true]
  refine⟨fun b hb=>zd (Fc (hd b hb)),?_⟩
  rw [Bool.or_eq_true,Bool.and_eq_true]
  by_cases h1:1<t.length
  ·exact .inr ⟨zd (List.length_pos_iff.1 h0),zd (hz h1)⟩
  ·obtain⟨a,rfl⟩:∃a,t = [a]:=List.length_eq_one_iff.1 (by omega)
   by_cases ha:a=48
   ·subst ha;exact .inl rfl
   ·exact .inr ⟨rfl,zd (by simpa using ha)⟩
 have he:Zd.parseE t=0:=by
  unfold Zd.parseE
  rw [hm.1,hm.2,if_neg (by omega),if_neg (by rw [hp];simp)]
 exact⟨he,Zd.txtL_parse he⟩
def vC (N:List Nd) (k:Int) (t:Tr):Prop:=∃b:Nat,k=((b+szR t - 1:Nat):Int)∧kV N b (post b t)
def KT (N:List Nd) (n:Nat) (ks:List Int) (l:List Tr):Prop:=ks.length=l.length∧∀(j:Nat) (t:Tr),l[j]? = some t→∃k:Nat,ks[j]? = some (k:Int)∧vC N k t∧k<n
theorem vC.lf {N:List Nd} {k:Int} {i:Nat} (h:vC N k (.lf i)):∃n:Nat,k=(n:Int)∧N[n]? = some ⟨19,(i:Int),[]⟩:=by
 obtain⟨b,rfl,h⟩:=h
 have:=h 0 ⟨19,(i:Int),[]⟩ (by simp [post])
 exact⟨b,by simp only [szR];omega,by simpa using this⟩
theorem Ah {N:List Nd}:∀(l:List Tr) (b n:Nat),b+dI l≤n→kV N b (dT b l)→KT N n (iW b l) l
 | [],b,n,_,_=>⟨by simp [iW],fun j t ht=>by simp at ht⟩
 | t::l,b,n,hn,h=>by
   simp only [dT] at h
   simp only [dI] at hn
   have h2:=h.right
   rw [mA] at h2
   have ih:=Ah l (b+szR t) n (by omega) h2
   have hp:=kQ t
   refine⟨by simp only [iW,List.length_cons];rw [ih.1],fun j u hu=>?_⟩
   match j,hu with
   | 0,hu=>
     simp at hu;subst hu
     exact⟨b+szR t - 1,by simp [iW],⟨b,rfl,h.left⟩,by omega⟩
   | j+1,hu=>
     obtain⟨k,hk,hr⟩:=ih.2 j u (by simpa using hu)
     exact⟨k,by simpa [iW] using hk,hr⟩
theorem vC.nd {N:List Nd} {k:Int} {m:Nat} {l:List Tr} (h:vC N k (.nd m l)):∃(n:Nat) (ks:List Int),k=(n:Int)∧N[n]? = some ⟨(m:Int),-1,ks⟩∧KT N n ks l:=by
 obtain⟨b,rfl,h⟩:=h
 simp only [post] at h
 have h1:=h.right 0 ⟨(m:Int),-1,iW b l⟩ (by simp)
 rw [fV] at h1
 refine⟨b+dI l,iW b l,by simp only [szR];omega,by simpa using h1,Ah l b _ (Nat.le_refl _) h.left⟩
theorem vC.root (t:Tr):vC (post 0 t) ((szR t - 1:Nat):Int) t:=⟨0,by rw [Nat.zero_add],IJ _⟩
set_option maxHeartbeats 8000000
set_option maxRecDepth 100000
theorem Zp {W:World} {B:Nat} {T:TypeId} {x0 x1 x2 x3:Value} (h0:W.heap[B]? = some (.cells #[x0,x1,x2,x3] T (0,0))) (a b c d:Value):((((W.setCell ⟨B,0,none⟩ a).setCell ⟨B,1,none⟩ b).setCell ⟨B,2,none⟩ c).setCell ⟨B,3,none⟩ d).heap[B]? = some (.cells #[a,b,c,d] T (0,0))∧Fr2 (ez B) W ((((W.setCell ⟨B,0,none⟩ a).setCell ⟨B,1,none⟩ b).setCell ⟨B,2,none⟩ c).setCell ⟨B,3,none⟩ d):=by
 have h1:(W.setCell ⟨B,0,none⟩ a).heap[B]? = some (.cells #[a,x1,x2,x3] T (0,0)):=ab (i:=0) (u:=a) h0
 have h2:((W.setCell ⟨B,0,none⟩ a).setCell ⟨B,1,none⟩ b).heap[B]? = some (.cells #[a,b,x2,x3] T (0,0)):=ab (i:=1) (u:=b) h1
 have h3:(((W.setCell ⟨B,0,none⟩ a).setCell ⟨B,1,none⟩ b).setCell ⟨B,2,none⟩ c).heap[B]? = some (.cells #[a,b,c,x3] T (0,0)):=ab (i:=2) (u:=c) h2
 have h4:((((W.setCell ⟨B,0,none⟩ a).setCell ⟨B,1,none⟩ b).setCell ⟨B,2,none⟩ c).setCell ⟨B,3,none⟩ d).heap[B]? = some (.cells #[a,b,c,d] T (0,0)):=ab (i:=3) (u:=d) h3
 exact⟨h4,(Fr2.setCell (Fr2.setCell (Fr2.setCell (Fr2.setCell (Fr2.refl (ez B) W) (g:=B) (j:=0) (bh B) a) (g:=B) (j:=1) (bh B) b) (g:=B) (j:=2) (bh B) c) (g:=B) (j:=3) (bh B) d)⟩
theorem nC {W:World} {B:Nat} {T:TypeId} {x0 x1 x2 x3 x4 x5 x6 x7:Value} (h0:W.heap[B]? = some (.cells #[x0,x1,x2,x3,x4,x5,x6,x7] T (0,0))) (a b c d e f g h:Value):((((((((W.setCell ⟨B,0,none⟩ a).setCell ⟨B,1,none⟩ b).setCell ⟨B,2,none⟩ c).setCell ⟨B,3,none⟩ d).setCell ⟨B,4,none⟩ e).setCell ⟨B,5,none⟩ f).setCell ⟨B,6,none⟩ g).setCell ⟨B,7,none⟩ h).heap[B]? = some (.cells #[a,b,c,d,e,f,g,h] T (0,0))∧Fr2 (ez B) W ((((((((W.setCell ⟨B,0,none⟩ a).setCell ⟨B,1,none⟩ b).setCell ⟨B,2,none⟩ c).setCell ⟨B,3,none⟩ d).setCell ⟨B,4,none⟩ e).setCell ⟨B,5,none⟩ f).setCell ⟨B,6,none⟩ g).setCell ⟨B,7,none⟩ h):=by
 have h1:(W.setCell ⟨B,0,none⟩ a).heap[B]? = some (.cells #[a,x1,x2,x3,x4,x5,x6,x7] T (0,0)):=ab (i:=0) (u:=a) h0
 have h2:((W.setCell ⟨B,0,none⟩ a).setCell ⟨B,1,none⟩ b).heap[B]? = some (.cells #[a,b,x2,x3,x4,x5,x6,x7] T (0,0)):=ab (i:=1) (u:=b) h1
 have h3:(((W.setCell ⟨B,0,none⟩ a).setCell ⟨B,1,none⟩ b).setCell ⟨B,2,none⟩ c).heap[B]? = some (.cells #[a,b,c,x3,x4,x5,x6,x7] T (0,0)):=ab (i:=2) (u:=c) h2
 have h4:((((W.setCell ⟨B,0,none⟩ a).setCell ⟨B,1,none⟩ b).setCell ⟨B,2,none⟩ c).setCell ⟨B,3,none⟩ d).heap[B]? = some (.cells #[a,b,c,d,x4,x5,x6,x7] T (0,0)):=ab (i:=3) (u:=d) h3
 have h5:(((((W.setCell ⟨B,0,none⟩ a).setCell ⟨B,1,none⟩ b).setCell ⟨B,2,none⟩ c).setCell ⟨B,3,none⟩ d).setCell ⟨B,4,none⟩ e).heap[B]? = some (.cells #[a,b,c,d,e,x5,x6,x7] T (0,0)):=ab (i:=4) (u:=e) h4
 have h6:((((((W.setCell ⟨B,0,none⟩ a).setCell ⟨B,1,none⟩ b).setCell ⟨B,2,none⟩ c).setCell ⟨B,3,none⟩ d).setCell ⟨B,4,none⟩ e).setCell ⟨B,5,none⟩ f).heap[B]? = some (.cells #[a,b,c,d,e,f,x6,x7] T (0,0)):=ab (i:=5) (u:=f) h5
 have h7:(((((((W.setCell ⟨B,0,none⟩ a).setCell ⟨B,1,none⟩ b).setCell ⟨B,2,none⟩ c).setCell ⟨B,3,none⟩ d).setCell ⟨B,4,none⟩ e).setCell ⟨B,5,none⟩ f).setCell ⟨B,6,none⟩ g).heap[B]? = some (.cells #[a,b,c,d,e,f,g,x7] T (0,0)):=ab (i:=6) (u:=g) h6
 have h8:((((((((W.setCell ⟨B,0,none⟩ a).setCell ⟨B,1,none⟩ b).setCell ⟨B,2,none⟩ c).setCell ⟨B,3,none⟩ d).setCell ⟨B,4,none⟩ e).setCell ⟨B,5,none⟩ f).setCell ⟨B,6,none⟩ g).setCell ⟨B,7,none⟩ h).heap[B]? = some (.cells #[a,b,c,d,e,f,g,h] T (0,0)):=ab (i:=7) (u:=h) h7
 exact⟨h8,(Fr2.setCell (Fr2.setCell (Fr2.setCell (Fr2.setCell (Fr2.setCell (Fr2.setCell (Fr2.setCell (Fr2.setCell (Fr2.refl (ez B) W) (g:=B) (j:=0) (bh B) a) (g:=B) (j:=1) (bh B) b) (g:=B) (j:=2) (bh B) c) (g:=B) (j:=3) (bh B) d) (g:=B) (j:=4) (bh B) e) (g:=B) (j:=5) (bh B) f) (g:=B) (j:=6) (bh B) g) (g:=B) (j:=7) (bh B) h)⟩
theorem bD {w:World} {r:Nat} {a b c d e f g h:Value} {T:TypeId} (h0:w.heap[r]? = some (.cells #[a,b,c,d,e,f,g,h] T (0,0))):w.cell? ⟨r,0,none⟩=some a∧w.cell? ⟨r,1,none⟩=some b∧w.cell? ⟨r,2,none⟩=some c∧w.cell? ⟨r,3,none⟩=some d∧w.cell? ⟨r,4,none⟩=some e∧w.cell? ⟨r,5,none⟩=some f∧w.cell? ⟨r,6,none⟩=some g∧w.cell? ⟨r,7,none⟩=some h∧∀o,w.frozen? ⟨r,o,none⟩=false:=
 ⟨by rw [cell_of_row w r 0 _ T (0,0) h0];rfl,by rw [cell_of_row w r 1 _ T (0,0) h0];rfl,by rw [cell_of_row w r 2 _ T (0,0) h0];rfl,by rw [cell_of_row w r 3 _ T (0,0) h0];rfl,by rw [cell_of_row w r 4 _ T (0,0) h0];rfl,by rw [cell_of_row w r 5 _ T (0,0) h0];rfl,by rw [cell_of_row w r 6 _ T (0,0) h0];rfl,by rw [cell_of_row w r 7 _ T (0,0) h0];rfl,fun o=>by simp [World.frozen?,h0]⟩
theorem tL {N:List Nd} {K:Kf} (hN:N.length≤150000) {n:Nat} {x:Nd} (hx:N[n]? = some x) (pt pn:Option Addr) (mt ct cn:Nat) (w:World) (h:aE w pn N K):
  Calls Tryz.prog 51 #[.agg #[.slice pt mt ct,.slice pn N.length cn],.int .i64 (n:Int)] w (aR (.int .i64 x.kind) w):=by
 obtain⟨g,off,rfl,gc,c0,c1,c2⟩:=mY h hx
 have hn:=(List.getElem?_eq_some_iff.1 hx).1
 obtain⟨M,hM⟩:∃M,N.length=M:=⟨_,rfl⟩
 rw [hM] at hN hn ⊢
 have x1:(0:Int)≤(n:Int):=by omega
 have x2:(n:Int)<(M:Int):=by omega
 have x3:decide (n<M)=true:=zd hn
 have x4:decide ((n:Int)<(M:Int))=true:=zd x2
 clear h hx hM
 go_enter Tryz.func51,Tryz.ntmps51
 go_wp2_with fail
 go_ret
 exact⟨rfl,World.grownBy_alloc w _ none⟩
theorem qz {N:List Nd} {K:Kf} (hN:N.length≤150000) {n:Nat} {x:Nd} (hx:N[n]? = some x) (pt pn:Option Addr) (mt ct cn:Nat) (w:World) (h:aE w pn N K):
  Calls Tryz.prog 49 #[.agg #[.slice pt mt ct,.slice pn N.length cn],.int .i64 (n:Int)] w (aR (.slice (K n).1 x.kids.length (K n).2) w):=by
 obtain⟨g,off,rfl,gc,c0,c1,c2⟩:=mY h hx
 have hn:=(List.getElem?_eq_some_iff.1 hx).1
 obtain⟨M,hM⟩:∃M,N.length=M:=⟨_,rfl⟩
 rw [hM] at hN hn ⊢
 have x1:(0:Int)≤(n:Int):=by omega
 have x2:(n:Int)<(M:Int):=by omega
 have x3:decide (n<M)=true:=zd hn
 have x4:decide ((n:Int)<(M:Int))=true:=zd x2
 generalize (K n).1=pk at *
 generalize (K n).2=ck at *
 clear h hx hM
 go_enter Tryz.func49,Tryz.ntmps49
 go_wp2_with fail
 go_ret
 exact⟨rfl,World.grownBy_alloc w _ none⟩
theorem bQ {w:World} {p:Option Addr} {T:List Tok} (h:TAt w p T) {i:Nat} (hi:i<T.length):∃g off,p=some ⟨g,off,none⟩∧g<w.heap.size∧w.cell? ⟨g,off+i*4,none⟩=some (.int .i64 ((tkT T i).kind:Int))∧w.cell? ⟨g,off+i*4+1,none⟩=some (aw (tkT T i).lead)∧w.cell? ⟨g,off+i*4+2,none⟩=some (aw (tkT T i).text)∧w.cell? ⟨g,off+i*4+3,none⟩=some (.int .i64 ((tkT T i).pos:Int)):=by
 have ht:T[i]? = some (tkT T i):=by unfold tkT;rw [List.getElem?_eq_getElem hi];rfl
 obtain⟨g,off,rfl,hl,hc⟩:=h.resolve_left (fun e=>by rw [e] at hi;simp at hi)
 exact⟨g,off,rfl,hl,hc i _ ht⟩
def uN (t:Tok):Value:=.agg #[.int .i64 (t.kind:Int),aw t.lead,aw t.text,.int .i64 (t.pos:Int)]
theorem zx {T:List Tok} {N:List Nd} {K:Kf} (hT:T.length≤150000) (hN:N.length≤150000) {n i:Nat} (hx:N[n]? = some ⟨19,(i:Int),[]⟩) (hi:i<T.length) (pt pn:Option Addr) (ct cn:Nat) (w:World) (ht:TAt w pt T) (h:aE w pn N K):
  Calls Tryz.prog 91 #[.agg #[.slice pt T.length ct,.slice pn N.length cn],.int .i64 (n:Int)] w (aR (uN (tkT T i)) w):=by
 obtain⟨g,off,rfl,gc,c0,c1,c2⟩:=mY h hx
 obtain⟨g2,Be,rfl,afF,t0,t1,t2,t3⟩:=bQ ht hi
 have hn:=(List.getElem?_eq_some_iff.1 hx).1
 obtain⟨M,hM⟩:∃M,N.length=M:=⟨_,rfl⟩
 obtain⟨m,hm⟩:∃m,T.length=m:=⟨_,rfl⟩
 rw [hM] at hN hn ⊢
 rw [hm] at hT hi ⊢
 have x1:(0:Int)≤(n:Int):=by omega
 have x2:(n:Int)<(M:Int):=by omega
 have x3:decide (n<M)=true:=zd hn
 have x4:decide ((n:Int)<(M:Int))=true:=zd x2
 have y1:(0:Int)≤(i:Int):=by omega
 have y2:(i:Int)<(m:Int):=by omega
 have y3:decide (i<m)=true:=zd hi
 have y4:decide ((i:Int)<(m:Int))=true:=zd y2
 unfold uN
 unfold aw at t1 t2 ⊢
 generalize (⟨(tkT T i).lead.toArray⟩:ByteArray)=le at *
 generalize (⟨(tkT T i).text.toArray⟩:ByteArray)=te at *
 generalize (tkT T i).kind=k at *
 generalize (tkT T i).pos=p at *
 clear h hx hM ht hm c0 c2
 go_enter Tryz.func91,Tryz.ntmps91
 go_wp2_with fail
 have hA:=heap_alloc_new w (.cells #[.slice (some ⟨g2,Be,none⟩) m ct,.slice (some ⟨g,off,none⟩) M cn] 73)
 have lF:=World.grownBy_alloc w (.cells #[.slice (some ⟨g2,Be,none⟩) m ct,.slice (some ⟨g,off,none⟩) M cn] 73) none
 have BI:(w.alloc (.cells #[.slice (some ⟨g2,Be,none⟩) m ct,.slice (some ⟨g,off,none⟩) M cn] 73)).heap.size=w.heap.size+1:=by simp
 generalize (w.alloc (.cells #[.slice (some ⟨g2,Be,none⟩) m ct,.slice (some ⟨g,off,none⟩) M cn] 73))=W1 at *
 have hB:=heap_alloc_new W1 (.cells #[.int .i64 0,.string ⟨#[]⟩,.string ⟨#[]⟩,.int .i64 0] 105)
 have oZ:=World.grownBy_alloc W1 (.cells #[.int .i64 0,.string ⟨#[]⟩,.string ⟨#[]⟩,.int .i64 0] 105) none
 rw [BI] at hB
 generalize (W1.alloc (.cells #[.int .i64 0,.string ⟨#[]⟩,.string ⟨#[]⟩,.int .i64 0] 105))=W at *
 obtain⟨b,hb⟩:∃b,w.heap.size=b:=⟨_,rfl⟩
 have mD:=zh hb
 rw [hb] at hA hB ⊢
 obtain⟨b1,fw⟩:∃x,b+1=x:=⟨_,rfl⟩
 rw [fw] at hB ⊢
 have hlt:b<b1:=by omega
 have Yj:=bx oZ hA
 obtain⟨a0,a1,a2⟩:=ah Yj
 have lO:=zh (aa lF oZ)
 have c1:=lO.out.cell c1 (by simp)
 have t0:=lO.out.cell t0 (by simp)
 have t1:=lO.out.cell t1 (by simp)
 have t2:=lO.out.cell t2 (by simp)
 have t3:=lO.out.cell t3 (by simp)
 have HB:=zh hB
 obtain⟨r0,r1,r2,r3,r4⟩:=iq hB
 clear hA Yj hB lF oZ BI hb fw
 go_region
 all_goals
  obtain⟨hb5,Hp⟩:=Zp HB.out (.int .i64 (k:Int)) (.string le) (.string te) (.int .i64 (p:Int))
  have zl:=zh Hp
  obtain⟨k0,k1,k2,k3,-⟩:=iq hb5
  clear a0 a1 a2 r0 r1 r2 r3 r4 c1 t0 t1 t2 t3 HB hb5 Hp
  generalize ((((W.setCell ⟨b1,0,none⟩ (.int .i64 (k:Int))).setCell ⟨b1,1,none⟩ (.string le)).setCell ⟨b1,2,none⟩ (.string te)).setCell ⟨b1,3,none⟩ (.int .i64 (p:Int)))=W5 at *
  go_wp2_with fail
  refine bodyPost_ret (v:=.agg #[.int .i64 (k:Int),.string le,.string te,.int .i64 (p:Int)]) (by simp [results,Tryz.results91,go_sem,k0,k1,k2,k3]) rfl ⟨rfl,Fr2.after lO.out (A6 zl.out) (fun j hj=>by have e:j=b1:=hj;rw [mD.out];omega)⟩
theorem Qx (x:ByteArray) (w:World):Calls Tryz.prog 127 #[.string x] w (aR (.int .i64 (unE x.data.toList:Nat)) w):=by
 have hx:x.toList=x.data.toList:=ByteArray.toList_eq x
 by_cases h:x.data.toList = [45]
 ·have e:unE x.data.toList=5:=by unfold unE;rw [if_pos h]
  have e1:(x.toList == [45])=true:=by rw [hx];simpa using h
  rw [e]
  clear hx h e
  go_enter Tryz.func127,Tryz.ntmps127
  go_wp2_with fail
  go_ret
  exact⟨rfl,ad _ _⟩
 ·have e:unE x.data.toList=6:=by unfold unE;rw [if_neg h]
  have e1:(x.toList == [45])=false:=by rw [hx];simpa using h
  rw [e]
  clear hx h e
  go_enter Tryz.func127,Tryz.ntmps127
  go_wp2_with fail
  go_ret
  exact⟨rfl,ad _ _⟩
theorem MD (T:List Tok) (p:Option Addr) (c:Nat) (w:World) (hT:T.length≤150000) (h1:1<T.length) (h2:(tkT T 1).text = [46]→2<T.length) (ht:TAt w p T):
  Calls Tryz.prog 128 #[.slice p T.length c] w (fun e w'=>e=.returned (.tuple #[aw (if (tkT T 1).text = [46] then (tkT T 0).text else []),aw (if (tkT T 1).text = [46] then (tkT T 2).text else (tkT T 0).text)])∧w.grownBy w' none):=by
 obtain⟨g,off,rfl,gc,-,-,t2,-⟩:=bQ ht (i:=0) (by omega)
 obtain⟨g1,ae9,iE,-,-,-,u2,-⟩:=bQ ht (i:=1) h1
 injection iE with iE;injection iE with iE ee;subst iE ee
 have hx:(⟨(tkT T 1).text.toArray⟩:ByteArray).toList=(tkT T 1).text:=by rw [ByteArray.toList_eq]
 unfold aw at t2 u2 ⊢
 obtain⟨m,hm⟩:∃m,T.length=m:=⟨_,rfl⟩
 have y0:decide ((0:Int)<(m:Int))=true:=zd (by omega)
 have y1:decide ((1:Int)<(m:Int))=true:=zd (by omega)
 have z0:decide (0<m)=true:=zd (by omega)
 have z1:decide (1<m)=true:=zd (by omega)
 by_cases hd:(tkT T 1).text = [46]
 ·obtain⟨g3,ajU,lr,-,-,-,v2,-⟩:=bQ ht (i:=2) (h2 hd)
  injection lr with lr;injection lr with lr ZJ;subst lr ZJ
  unfold aw at v2
  have h2:=h2 hd
  have y2:decide ((2:Int)<(m:Int))=true:=zd (by omega)
  have z2:decide (2<m)=true:=zd (by omega)
  have e1:((⟨(tkT T 1).text.toArray⟩:ByteArray).toList == [46])=true:=by rw [hx];simpa using hd
  rw [if_pos hd,if_pos hd,hm]
  generalize (⟨(tkT T 1).text.toArray⟩:ByteArray)=x1 at *
  generalize (⟨(tkT T 0).text.toArray⟩:ByteArray)=x0 at *
  generalize (⟨(tkT T 2).text.toArray⟩:ByteArray)=x2 at *
  rw [hm] at hT h1 h2
  clear hx ht hd hm
  go_enter Tryz.func128,Tryz.ntmps128
  go_wp2_with fail
  go_quiet (fail)
  go_wp2_with fail
  go_ret2
  exact⟨rfl,ap (ad _ _) _⟩
 ·have e1:((⟨(tkT T 1).text.toArray⟩:ByteArray).toList == [46])=false:=by rw [hx];simpa using hd
  rw [if_neg hd,if_neg hd,hm]
  generalize (⟨(tkT T 1).text.toArray⟩:ByteArray)=x1 at *
  generalize (⟨(tkT T 0).text.toArray⟩:ByteArray)=x0 at *
  rw [hm] at hT h1
  clear hx ht hd hm h2
  go_enter Tryz.func128,Tryz.ntmps128
  go_wp2_with fail
  go_quiet (fail)
  go_wp2_with fail
  go_ret2
  exact⟨rfl,ap (ad _ _) _⟩
set_option maxHeartbeats 16000000
def jt (l:List UInt8):List Value:=[aw l,.pointer none,.int .i64 0]
def jx (g o:Nat) (least:Int):List Value:=[.string ⟨#[]⟩,.pointer (some ⟨g,o,none⟩),.int .i64 least]
def eR (g o:Nat):Nat→List (List UInt8)→List (List Value)
 | _,[]=>[]
 | i,l::A=>jt l::jx g (o+i*8) 0::eR g o (i+1) A
theorem rx (g o:Nat):∀(A:List (List UInt8)) (i k:Nat) (l:List UInt8),A[k]? = some l→eR g o i (A.take (k+1))=eR g o i (A.take k)++[jt l,jx g (o+(i+k)*8) 0]
 | [],i,k,l,h=>by simp at h
 | x::A,i,0,l,h=>by simp at h;subst h;simp [eR]
 | x::A,i,k+1,l,h=>by
   have:=rx g o A (i+1) k l (by simpa using h)
   simp only [List.take_succ_cons,eR,this,List.cons_append]
   rw [show i+1+k=i+(k+1) by omega]
theorem ui (g o:Nat):∀(A:List (List UInt8)) (i:Nat),(eR g o i A).length=2*A.length
 | [],i=>rfl
 | x::A,i=>by simp only [eR,List.length_cons,ui g o A (i+1)];omega
theorem NV (S:Nat→Prop) (B b:Nat) (rows:List (List Value)) (fg fo gk ok kn ck gs os m cs:Nat) (A:List (List UInt8)) (w:World) (h:bj S B b w rows) (hl:rows.length≤900000) (hA:A.length=m) (hm:m≤kn) (hk:kn≤1000000) (Ow:m≤9)
  (c6:w.cell? ⟨fg,fo+6,none⟩=some (.slice (some ⟨gk,ok,none⟩) kn ck)) (hSf:S fg) (mp:S gs) (hs:∀(i:Nat) (l:List UInt8),A[i]? = some l→w.cell? ⟨gs,os+i,none⟩=some (aw l)):
  Calls Tryz.prog 133 #[.pointer (some ⟨b,0,none⟩),.pointer (some ⟨fg,fo,none⟩),.slice (some ⟨gs,os,none⟩) m cs] w (dy S B b (rows++eR gk ok 0 A) w):=by
 have ow:=zh (fun rows s W h h2=>kW S B b rows s W h h2)
 have Bs:=zh (fun rows a W h h2=>oJ S B b rows a 0 W h h2)
 have HW:=zh h;have HL:=zh hl;have HA:=zh hA;have HC6:=zh c6;have HS:=zh hs;have HSF:=zh hSf;have RE:=zh mp
 have mV:b<w.heap.size:=by obtain⟨v,hb,-⟩:=h;exact hlt hb
 have kf:fg<w.heap.size:=by obtain⟨v,-,-,-,-,-,-,hh⟩:=h;exact hh _ hSf
 have XQ:gs<w.heap.size:=by obtain⟨v,-,-,-,-,-,-,hh⟩:=h;exact hh _ mp
 have mD:=zh mV;have HFW:=zh kf;have da:=zh XQ
 have keep:∀W,Fr2 (fun k=>¬S k) w W→W.cell? ⟨fg,fo+6,none⟩=some (.slice (some ⟨gk,ok,none⟩) kn ck)∧(∀(i:Nat) (l:List UInt8),A[i]? = some l→W.cell? ⟨gs,os+i,none⟩=some (aw l)):=fun W hf=>
  ⟨by rw [World.cell?_of_block (w:=w) (hf.block fg kf (fun e=>e hSf))];exact c6,fun i l hi=>by rw [World.cell?_of_block (w:=w) (hf.block gs XQ (fun e=>e mp))];exact hs i l hi⟩
 have CF:=zh keep
 clear h hl hA c6 hs hSf mp mV kf XQ keep
 go_enter Tryz.func133,Tryz.ntmps133
 go_wp2_with fail
 go_loopw [10] (fun iv wr=>∃k:Nat,k≤m∧iv=.int .i64 k∧Hid (bj S B b wr (rows++eR gk ok 0 (A.take k)))∧Hid (Fr2 (fun k=>¬S k) w wr)) (fun iv _=>m - (intOf iv).toNat)
 case atStart=>exact⟨0,Nat.zero_le _,rfl,zh (by simpa [eR] using HW.out),zh (Fr2.refl _ _)⟩
 case round=>
  obtain⟨k,B6,rfl,GS,HF⟩:=hrel
  by_cases hlt:k<m
  ·have y3:decide ((k:Int)<(m:Int))=true:=zd (by omega)
   have y4:decide (k<m)=true:=zd hlt
   obtain⟨l,hx⟩:∃l,A[k]? = some l:=⟨A[k]'(by rw [HA.out];exact hlt),List.getElem?_eq_getElem _⟩
   have kA:=zh (rx gk ok A 0 k l hx)
   have ct:=(CF.out wr HF.out).2 k l hx
   have zy:gs<wr.heap.size:=zn da.out HF.out.size
   unfold aw at ct
   have OB:Hid ((rows++eR gk ok 0 (A.take k)).length≤900018):=zh (by rw [List.length_append,ui,List.length_take];have:=HL.out;omega)
   clear hx
   go_wp2_with fail
   refine(ow.out _ _ wr GS.out (by have:=OB.out;omega)).mono ?_
   rintro e w2 ⟨rfl,eE,dK⟩
   have kL:=zh eE;have es:=zh (HF.out.trans dK)
   have c6:=(CF.out w2 es.out).1
   have hfw:fg<w2.heap.size:=zn HFW.out es.out.size
   have z1:(0:Int)≤(k:Int):=by omega
   have z2:(k:Int)<(kn:Int):=by omega
   have z3:decide (k<kn)=true:=zd (by omega)
   clear eE dK ct
   go_wp2_with fail
   refine(Bs.out _ _ w2 kL.out (by have h:=OB.out;simp only [List.length_append,List.length_cons,List.length_nil] at h ⊢;omega)).mono ?_
   rintro e w3 ⟨rfl,mO,fI⟩
   have jp:=zh (es.out.trans fI)
   have tA:Hid (bj S B b w3 (rows++eR gk ok 0 (A.take (k+1)))):=zh (by
    rw [kA.out,Nat.zero_add]
    simp only [List.append_assoc,List.cons_append,List.nil_append] at mO ⊢
    exact mO)
   clear mO fI c6
   go_wp2_with fail
   go_roundw
   case rel=>exact⟨k+1,by omega,by go_num,tA,jp⟩
   case measure=>(simp [intOf]<;>omega)
  ·obtain rfl:k=m:=by omega
   have YB:Hid (bj S B b wr (rows++eR gk ok 0 A)):=zh (by
    have:=GS.out
    rwa [List.take_of_length_le (by rw [HA.out];exact Nat.le_refl _)] at this)
   go_wp2_with fail
   go_end0
   exact⟨rfl,YB.out,HF.out⟩
theorem uP {a:UInt8} (h:eT a=true):jY a=false∧a≠45:=by
 unfold eT at h
 have e:∀b:UInt8,eT b=true→jY b=false∧b≠45:=by
  intro b hb
  unfold eT at hb
  simp only [Bool.or_eq_true,Bool.and_eq_true,decide_eq_true_eq] at hb
  refine⟨?_,?_⟩
  ·unfold jY
   simp only [Bool.or_eq_false_iff,beq_eq_false_iff_ne]
   refine⟨⟨⟨?_,?_⟩,?_⟩,?_⟩<;>(rintro rfl;revert hb;decide)
  ·rintro rfl;revert hb;decide
 exact e a (by unfold eT;exact h)
theorem xR {l:List UInt8} (h:(aJ l).1=1):∃a r,l=a::r∧eT a=true:=by
 cases l with
 | nil=>simp [aJ] at h
 | cons a r=>
   rw [ch] at h
   by_cases hl:eT a=true
   ·exact⟨a,r,rfl,hl⟩
   ·rw [if_neg hl] at h
    split at h
    ·simp at h
    ·split at h<;>simp at h
theorem RL (p:Nat):aY [] p=⟨5,[],[],p⟩:=by
 have h:sk false []=0:=EV (fun b hb=>by simp at hb) rfl
 unfold aY
 rw [h];rfl
def cV:Ex→List Ex
 | .mk _ _ _ _ _ ks _=>ks
section
variable {σ : Type} (st : σ→Ex→Nat→σ)
mutual
def vV:Ex→σ→σ
 | .mk op nm md nu ys ks ps,s=>vX (.mk op nm md nu ys ks ps) 0 ks (st s (.mk op nm md nu ys ks ps) 0)
def vX (x:Ex):Nat→List Ex→σ→σ
 | _,[],s=>s
 | j,k::l,s=>vX x (j+1) l (st (vV k s) x (j+1))
end
end
mutual
def kw:Ex→Nat
 | .mk _ _ _ _ _ ks _=>1+od ks
def od:List Ex→Nat
 | []=>0
 | k::l=>kw k+1+od l
end
structure Fm where
 x:Ex
 d:Nat
 g:Nat
 o:Nat
def rsF {σ : Type} (st : σ→Ex→Nat→σ) (f:Fm) (s : σ):σ:=vX st f.x f.d ((cV f.x).drop f.d) (st s f.x f.d)
def qo {σ : Type} (st : σ→Ex→Nat→σ) (G:List Fm) (s : σ):σ:=G.foldr (rsF st) s
def cntF (f:Fm):Nat:=1+od ((cV f.x).drop f.d)
def m6 (G:List Fm):Nat:=(G.map cntF).sum
theorem EA {σ : Type} (st : σ→Ex→Nat→σ) (x:Ex) (s : σ) (g o:Nat):vV st x s=rsF st ⟨x,0,g,o⟩ s:=by
 cases x with
 | mk op nm md nu ys ks ps=>simp only [vV,rsF,cV,List.drop_zero]
theorem Fn (x:Ex) (g o:Nat):kw x=cntF ⟨x,0,g,o⟩:=by
 cases x with
 | mk op nm md nu ys ks ps=>simp only [kw,cntF,cV,List.drop_zero]
theorem j7 {σ : Type} (st : σ→Ex→Nat→σ) (G:List Fm) (f:Fm) (s : σ):qo st (G++[f]) s=qo st G (rsF st f s):=by unfold qo;rw [List.foldr_append];rfl
theorem mR (G:List Fm) (f:Fm):m6 (G++[f])=m6 G+cntF f:=by unfold m6;simp
theorem Az {σ : Type} (st : σ→Ex→Nat→σ) {f:Fm} (h:f.d=(cV f.x).length) (s : σ):rsF st f s=st s f.x f.d∧cntF f=1:=by
 unfold rsF cntF
 rw [h,List.drop_length];exact⟨rfl,rfl⟩
theorem RM {σ : Type} (st : σ→Ex→Nat→σ) {f:Fm} {k:Ex} (h:(cV f.x)[f.d]? = some k) (s : σ) (g o:Nat):rsF st f s=rsF st { f with d:=f.d+1 } (rsF st ⟨k,0,g,o⟩ (st s f.x f.d))∧cntF f=1+(cntF { f with d:=f.d+1 } + cntF ⟨k,0,g,o⟩):=by
 have e:(cV f.x).drop f.d=k::(cV f.x).drop (f.d+1):=by
  have h1:=(List.getElem?_eq_some_iff.1 h)
  obtain⟨h1,h2⟩:=h1
  rw [List.drop_eq_getElem_cons h1,h2]
 constructor
 ·rw [←EA]
  unfold rsF
  rw [e]
  simp only [vX]
 ·rw [←Fn]
  unfold cntF
  rw [e]
  simp only [od]
  omega
def kz (F:Nat→Prop) (w:World) (g o:Nat) (x:Ex):Prop:=F g∧g<w.heap.size∧∃q,q.length=8∧(∀(i:Nat) (v:Value),q[i]? = some v→w.cell? ⟨g,o+i,none⟩=some v)∧EAt F w x q
theorem EAt.len {F:Nat→Prop} {w:World} {x:Ex} {q:List Value} (h:EAt F w x q):q.length=8:=by
 cases x with
 | mk op nm md nu ys ks ps=>
   simp only [EAt] at h
   obtain⟨s,pw,nw,cw,pk,ck,rows,rfl,-⟩:=h
   rfl
theorem kz.same {F S:Nat→Prop} {w w':World} {g o:Nat} {x:Ex} (h:kz F w g o x) (hg:Fr2 S w w') (hS:∀k,F k→¬S k):kz F w' g o x:=by
 obtain⟨hF,hl,q,hq,hc,he⟩:=h
 exact⟨hF,zn hl hg.size,q,hq,fun i v hi=>by rw [World.cell?_of_block (w:=w) (hg.block g hl (hS g hF))];exact hc i v hi,EAt.same hg hS he⟩
theorem kz.kids {F:Nat→Prop} {w:World} {g o:Nat} {x:Ex} (h:kz F w g o x):∃pk ck,w.cell? ⟨g,o+6,none⟩=some (.slice pk (cV x).length ck)∧∀(j:Nat) (k:Ex),(cV x)[j]? = some k→∃g' o',pk=some ⟨g',o',none⟩∧kz F w g' (o'+j*8) k:=by
 cases x with
 | mk op nm md nu ys ks ps=>
   obtain⟨hF,hl,q,hq,hc,he⟩:=h
   simp only [EAt] at he
   obtain⟨s,pw,nw,cw,pk,ck,rows,rfl,h2,h3,h4,h5⟩:=he
   refine⟨pk,ck,hc 6 _ rfl,fun j k hk=>?_⟩
   have hk:ks[j]? = some k:=hk
   have bl:ks≠[]:=fun e=>by rw [e] at hk;simp at hk
   obtain⟨⟨g',o',x'⟩,ha,hFa⟩:=h5 bl
   obtain⟨r,hr,hre⟩:=Oe h4 hk
   obtain⟨g2,o2,hp,vA,sG⟩:=h3.resolve_left (fun e=>by rw [e] at hr;simp at hr)
   rw [ha] at hp
   simp only [Option.some.injEq,Addr.mk.injEq] at hp
   obtain⟨rfl,rfl,rfl⟩:=hp
   exact⟨g',o',ha,hFa.1,vA,r,EAt.len hre,fun i v hi=>sG j r hr i v hi,hre⟩
theorem BM:∀(ks:List Ex) (j:Nat) (k:Ex),ks[j]? = some k→kw k≤od ks
 | [],j,k,h=>by simp at h
 | y::l,j,k,h=>by
   simp only [od]
   match j,h with
   | 0,h=>simp at h;subst h;omega
   | j+1,h=>have:=BM l j k (by simpa using h);omega
theorem sU:∀ks:List Ex,ks.length≤od ks
 | []=>Nat.zero_le _
 | y::l=>by have:=sU l;simp only [od,List.length_cons];omega
def lX (f:Fm):List Value:=[.pointer (some ⟨f.g,f.o,none⟩),.int .i64 (f.d:Int)]
theorem ZM:(Tryz.prog.info? 121).map (fun i=>(i.zero,i.size,i.bytes))=some (some (.agg #[.pointer none,.int .i64 0]),2,16):=by kernel_rfl
theorem ak.okept {s:Nat} {T:TypeId} {w w':World} {base b:Nat} {v:Value} {l:List (List Value)} (h:ak s T w base v l) (hg:gU b w w') (hT:T≠5) (hb:b<base):ak s T w' base v l:=
 ⟨⟨h.1.1,h.1.2.imp id fun ⟨g,cap,fp,e,fw,hh,r⟩=>⟨g,cap,fp,e,fw,hg g fp T hh hT (by omega),r⟩⟩,h.2⟩
theorem ak.blk {s:Nat} {T:TypeId} {w:World} {base g n c:Nat} {l:List (List Value)} (h:ak s T w base (.slice (some ⟨g,0,none⟩) n c) l):base≤g∧∃fp,w.heap[g]? = some (.cells fp T (0,0)):=by
 rcases h.1.2 with ⟨h1,h0⟩ | ⟨g',cap,fp,e,hb,hg,r⟩
 ·cases h1
 ·injection e with e1 e2 e3
  injection e1 with e1
  injection e1 with e1
  subst e1
  exact⟨hb,fp,hg⟩
theorem ak.pop {s n c:Nat} {T:TypeId} {w:World} {base:Nat} {p:Option Addr} {l:List (List Value)} {q:List Value} (h:ak s T w base (.slice p n c) (l++[q])):n=l.length+1∧ak s T w base (.slice p l.length c) l∧∃g,p=some ⟨g,0,none⟩:=by
 have h2:=h.1
 have hw:=h.2
 rw [List.length_append,List.length_singleton] at h2
 rcases h2.2 with ⟨e,h0⟩ | ⟨g,cap,fp,e,hb,hg,BC,wk,db,ht⟩
 ·omega
 ·injection e with e1 e2 e3
  subst e1;subst e2;subst e3
  refine⟨rfl,⟨⟨dc (fun q hq=>hw q (List.mem_append_left _ hq)),.inr ⟨g,c,fp,rfl,hb,hg,by omega,wk,db,?_⟩⟩,fun q hq=>hw q (List.mem_append_left _ hq)⟩,g,rfl⟩
  have IA:=dc (fun q hq=>hw q (List.mem_append_left _ hq):Wid s l)
  have h3:(fp.toList.take ((l.length+1)*s)).take (l.length*s)=l.flatten:=by
   rw [ht,List.flatten_append,List.take_append_of_le_length (by omega),List.take_of_length_le (by omega)]
  rw [List.take_take,Nat.min_eq_left (Nat.mul_le_mul_right _ (by omega))] at h3
  exact h3
theorem ak.new {s:Nat} {T:TypeId} (w:World) (base:Nat) (y:List Value) (hy:y.length=s) (h1:∀u∈y,u.oneCell'=true) (hb:base≤w.heap.size):ak s T (w.alloc (.cells y.toArray T)) base (.slice (some ⟨w.heap.size,0,none⟩) 1 1) [y]:=by
 refine⟨⟨by simp [hy],.inr ⟨w.heap.size,1,y.toArray,rfl,hb,heap_alloc_new w _,Nat.le_refl _,by unfold maxLen;omega,by simp [hy],?_⟩⟩,fun q hq=>by simp at hq;subst hq;exact⟨hy,h1⟩⟩
 subst hy
 simp
theorem ak.last2 {n c g:Nat} {T:TypeId} {w:World} {base:Nat} {l:List (List Value)} {a b u:Value} (hu:u.oneCell'=true) (h:ak 2 T w base (.slice (some ⟨g,0,none⟩) n c) (l++[[a,b]])):ak 2 T (w.setCell ⟨g,l.length*2+1,none⟩ u) base (.slice (some ⟨g,0,none⟩) n c) (l++[[a,u]])∧w.grownBy (w.setCell ⟨g,l.length*2+1,none⟩ u) (some g):=by
 have hn:=h.pop.1
 subst hn
 have hw:=h.2
 have Um:Wid 2 l:=fun q hq=>hw q (List.mem_append_left _ hq)
 have h1:=h.1
 rw [List.length_append,List.length_singleton] at h1
 have h2:=World.ownsRow.stored h1 (l.length*2+1) u
 refine⟨⟨?_,fun q hq=>?_⟩,h2.2⟩
 ·have e:(l++[[a,u]]).flatten=((l++[[a,b]]).flatten).set (l.length*2+1) u:=by
   rw [List.flatten_append,List.flatten_append,List.set_append,if_neg (by rw [dc Um];omega),dc Um]
   simp
  rw [e,List.length_append,List.length_singleton]
  exact h2.1
 ·rcases List.mem_append.1 hq with hq | hq
  ·exact Um q hq
  ·simp at hq;subst hq
   refine⟨rfl,fun v hv=>?_⟩
   simp at hv
   rcases hv with rfl | rfl
   ·exact(hw [v,b] (by simp)).2 v (by simp)
   ·exact hu
theorem ak.top2 {n c g:Nat} {T:TypeId} {w:World} {base:Nat} {l:List (List Value)} {a b:Value} (h:ak 2 T w base (.slice (some ⟨g,0,none⟩) n c) (l++[[a,b]])):w.cell? ⟨g,l.length*2,none⟩=some a∧w.cell? ⟨g,l.length*2+1,none⟩=some b∧(∀j,w.frozen? ⟨g,j,none⟩=false)∧g<w.heap.size∧l.length+1≤c∧c≤maxLen:=by
 have hn:=h.pop.1
 subst hn
 obtain⟨p,c',e,dG,h1,h2,-⟩:=h.is
 injection e with e1 e2 e3
 subst e1;subst e3
 obtain⟨g2,o2,ee,gc,rp⟩:=dG.resolve_left (by simp)
 injection ee with ee;injection ee with ee lr;subst ee lr
 have a0:=rp l.length [a,b] (by simp) 0 _ rfl
 have a1:=rp l.length [a,b] (by simp) 1 _ rfl
 rw [Nat.zero_add,Nat.add_zero] at a0
 rw [Nat.zero_add] at a1
 have h3:=h.1
 rw [List.length_append,List.length_singleton] at h3 h1
 exact⟨a0,a1,fun j=>World.ownsRow.frozenAt h3 j,gc,h1,h2⟩
theorem Dj {α : Type} (l:List α):l = []∨∃l' x,l=l'++[x]:=by
 rcases List.eq_nil_or_concat l with h | ⟨l',x,h⟩
 ·exact .inl h
 ·exact .inr ⟨l',x,by simpa using h⟩
theorem LR (f:Fm):1≤cntF f:=by unfold cntF;omega
theorem Ag:∀G:List Fm,G.length≤m6 G
 | []=>Nat.zero_le _
 | f::G=>by
   have h1:=Ag G
   have h2:=LR f
   have e:m6 (f::G)=cntF f+m6 G:=by unfold m6;simp
   rw [e,List.length_cons];omega
end Go.Proofs.YtjbgnopnehgbaaaGreatDoor
namespace Go.Proofs.YtjbgnopnehgbaaaGreatDoor
open Go.RowKit
structure PT {σ : Type} (st : σ→Ex→Nat→σ) (tf b B:Nat) (F:Nat→Prop) (P : σ→World→Prop) (L : σ→Prop) (Q:Ex→Prop):Prop where
 below:∀k,F k→k<B
 box:B≤b
 tell:∀(s : σ) (f:Fm) (w:World),P s w→B≤w.heap.size→kz F w f.g f.o f.x→f.d≤(cV f.x).length→Q f.x→L (st s f.x f.d)→Calls Tryz.prog tf #[.pointer (some ⟨f.g,f.o,none⟩),.int .i64 (f.d:Int),.pointer (some ⟨b,0,none⟩)] w (fun e w'=>e=.returned (.tuple #[])∧P (st s f.x f.d) w'∧Below B w w'∧gU b w w')
 mono:∀s x d,L (st s x d)→L s
 kids:∀x k,Q x→k∈cV x→Q k
 grown:∀s w w',P s w→w.grownBy w' none→P s w'
 placed:∀s w w' g cs,P s w→w.grownBy w' (some g)→w.heap[g]? = some (.cells cs 121 (0,0))→g≠b→P s w'
theorem PT.at {σ : Type} {st : σ→Ex→Nat→σ} {tf b B:Nat} {F:Nat→Prop} {P : σ→World→Prop} {L : σ→Prop} {Q:Ex→Prop} (h:PT st tf b B F P L Q) {w w':World} {g o:Nat} {x:Ex} (hp:kz F w g o x) (hb:Below B w w'):kz F w' g o x:=
 hp.same (Fr2.ofBelow hb) (fun k hk e=>by have:=h.below k hk;omega)
mutual
theorem Iz {σ : Type} {st : σ→Ex→Nat→σ} {L : σ→Prop} (hm:∀s x d,L (st s x d)→L s):∀(x:Ex) (s : σ),L (vV st x s)→L s
 | .mk op nm md nu ys ks ps,s,h=>by
   simp only [vV] at h
   exact hm _ _ _ (mP hm _ _ ks _ h)
theorem mP {σ : Type} {st : σ→Ex→Nat→σ} {L : σ→Prop} (hm:∀s x d,L (st s x d)→L s) (x:Ex):∀(j:Nat) (l:List Ex) (s : σ),L (vX st x j l s)→L s
 | _,[],s,h=>by simp only [vX] at h;exact h
 | j,k::l,s,h=>by
   simp only [vX] at h
   exact Iz hm k s (hm _ _ _ (mP hm x (j+1) l _ h))
end
theorem xF {σ : Type} {st : σ→Ex→Nat→σ} {L : σ→Prop} (hm:∀s x d,L (st s x d)→L s):∀(G:List Fm) (s : σ),L (qo st G s)→L s
 | [],s,h=>h
 | f::G,s,h=>by
   have e:qo st (f::G) s=rsF st f (qo st G s):=rfl
   rw [e] at h
   exact xF hm G s (hm _ _ _ (mP hm _ _ _ _ h))
theorem GF {σ : Type} {st : σ→Ex→Nat→σ} {L : σ→Prop} (hm:∀s x d,L (st s x d)→L s) {G:List Fm} {f:Fm} {s : σ} (h:L (qo st (G++[f]) s)):L (st s f.x f.d):=by
 rw [j7] at h
 exact mP hm _ _ _ _ (xF hm G _ h)
end Go.Proofs.YtjbgnopnehgbaaaGreatDoor
