/- Lemmas. -/
import Derived.Test.YtjbgnopnehgbaaaGreatDoorP4
import Derived.Test.YtjbgnopnehgbaaaGreatDoorP8
set_option linter.unusedVariables false
set_option linter.unusedSimpArgs false
namespace Go.Proofs.YtjbgnopnehgbaaaGreatDoor
mutual
def kOk:Tr→Prop
 | .lf _=>True
 | .nd k l=>1≤k∧k≤18∧ix l
def ix:List Tr→Prop
 | []=>True
 | t::l=>kOk t∧ix l
end
theorem ai {a b:List Tr} (h1:ix a) (h2:ix b):ix (a++b):=by
 induction a with
 | nil=>exact h2
 | cons t a ih=>simp only [List.cons_append,ix] at h1 ⊢;exact⟨h1.1,ih h1.2⟩
theorem dl {k:Nat} {l:List Tr} (h1:1≤k) (h2:k≤18) (h:ix l):ix [.nd k l]:=by simp only [ix,kOk];exact⟨⟨h1,h2,h⟩,trivial⟩
theorem dE:ix []:=by simp [ix]
abbrev KO (r:RT):Prop:=ix r.1
section
variable (T:List Tok)
theorem cE (s:St):KO (ac T s):=by simp [KO,ac,ix,kOk]
theorem dR (w:List UInt8) (s:St):KO (aj T w s):=by unfold aj;split;exact cE T s;exact dE
theorem kN (k:Nat) (s:St):KO (aA T k s):=by unfold aA;split;exact cE T s;exact dE
theorem uf {c:St→Bool} {sub:St→RT} (hs:∀s,KO (sub s)):∀f r,KO r→KO (rwT T c sub f r)
 | 0,r,h=>h
 | f+1,r,h=>by
   unfold rwT
   split
   ·exact uf hs f _ (dl (by decide) (by decide) (ai (ai h (cE T _)) (hs _)))
   ·exact h
theorem uX {sub:St→RT} (hs:∀s,KO (sub s)):∀f k r,KO r→KO (bk T sub f k r)
 | 0,k,r,h=>h
 | f+1,k,r,h=>by
   unfold bk
   split
   ·exact uX hs f _ _ (ai (ai h (cE T _)) (hs _))
   ·exact h
structure NxO (nt:NxT):Prop where
 expr:∀s,KO (nt.expr s)
 formula:∀s,KO (nt.formula s)
 nots:∀s,KO (nt.nots s)
 factor:∀s,KO (nt.factor s)
end
section
variable (T:List Tok) (D n:Nat) {nt:NxT} (h:NxO nt)
include h
theorem Ry (s:St):KO (jn T nt s):=uX T h.expr _ _ _ (h.expr s)
omit h in
theorem JH {a:RT} (ha:KO a):KO (bO T a):=by
 unfold bO;split
 ·exact ai (ai ha (cE T _)) (kN T _ _)
 ·exact ha
omit h in
theorem ME {a:RT} (ha:KO a):KO (bN T a):=ai ha (dR T _ _)
theorem Lx {a:RT} (ha:KO a):KO (bG T nt a):=by
 unfold bG;split
 ·exact ha
 ·exact ai ha (Ry T h _)
omit h in
theorem Ld {a:RT} (ha:KO a):KO (gF T a):=dl (by decide) (by decide) (ai ha (dR T _ _))
theorem Sr (s:St):KO (dq T nt s):=by
 unfold dq;split
 ·exact dl (by decide) (by decide) (cE T _)
 ·exact Ld T (Lx T h (ME T (JH T (cE T _))))
theorem SA (s:St):KO (bC T nt s):=by
 unfold bC
 split
 ·exact dE
 split
 ·exact dl (by decide) (by decide) (cE T _)
 split
 ·exact dl (by decide) (by decide) (cE T _)
 split
 ·exact dl (by decide) (by decide) (cE T _)
 split
 ·exact dl (by decide) (by decide) (ai (ai (cE T _) (h.expr _)) (dR T _ _))
 split
 ·exact Sr T h s
 ·exact dE
omit h in
theorem FQ {sub:St→RT} (hs:∀s,KO (sub s)) (s:St):KO (fa T D n sub s):=by
 unfold fa
 simp only []
 split
 ·exact dE
 ·exact dl (by decide) (by decide) (ai (cE T _) (hs _))
theorem qa (s:St):KO (aL T D n nt s):=by
 unfold aL;split
 ·exact FQ T D n h.factor s
 ·exact SA T h s
theorem tq (s:St):KO (cJ T D n nt s):=uf T (qa T D n h) _ _ (qa T D n h s)
theorem Ee (s:St):KO (cX T D n nt s):=uf T (tq T D n h) _ _ (tq T D n h s)
theorem CG (s:St):KO (dL T D n nt s):=by
 unfold dL
 simp only []
 split
 ·exact FQ T D n h.nots s
 split
 ·exact dl (by decide) (by decide) (ai (ai (Ee T D n h s) (cE T _)) (Ee T D n h _))
 ·exact Ee T D n h s
theorem M4 (s:St):KO (me T D n nt s):=uf T (CG T D n h) _ _ (CG T D n h s)
theorem Tx (s:St):KO (orT T D n nt s):=uf T (M4 T D n h) _ _ (M4 T D n h s)
theorem uO (s:St):KO (ay T D n nt s):=by
 unfold ay
 simp only []
 split
 ·split
  ·exact dE
  ·exact dl (by decide) (by decide) (ai (ai (Tx T D n h s) (cE T _)) (h.formula _))
 ·exact Tx T D n h s
theorem Uz (s:St):KO (nT T nt s):=
 dl (by decide) (by decide) (ai (ai (ai (ai (ai (cE T _) (kN T _ _)) (dR T _ _)) (h.expr _)) (dR T _ _)) (h.expr _))
theorem ZD (s:St):KO (ifT T nt s):=
 dl (by decide) (by decide) (ai (ai (ai (ai (ai (cE T _) (h.expr _)) (dR T _ _)) (h.expr _)) (dR T _ _)) (h.expr _))
theorem GC (s:St):KO (ep T nt s):=
 dl (by decide) (by decide) (ai (ai (ai (cE T _) (h.expr _)) (dR T _ _)) (h.expr _))
theorem Pg (s:St):KO (cP T D n nt s):=by
 unfold cP
 simp only []
 split
 ·exact dE
 split
 ·exact Uz T h _
 split
 ·exact ZD T h _
 split
 ·exact GC T h _
 ·exact uO T D n h _
end
theorem wm (T:List Tok) (D:Nat):∀d,NxO (nxT T D d)
 | 0=>⟨fun s=>dE,fun s=>dE,fun s=>dE,fun s=>dE⟩
 | d+1=>⟨Pg T D _ (wm T D d),uO T D _ (wm T D d),CG T D _ (wm T D d),qa T D _ (wm T D d)⟩
section
variable (T:List Tok) {et:St→RT} (h:∀s,KO (et s))
include h
omit h in
theorem RV {a:RT} (ha:KO a):KO (gR T a):=by
 unfold gR;split
 ·exact ai ha (dl (by decide) (by decide) (cE T _))
 ·exact ha
theorem So {a:RT} (ha:KO a):KO (fY T et a):=by
 unfold fY;split
 ·exact ai ha (dl (by decide) (by decide) (ai (ai (cE T _) (h _)) (dR T _ _)))
 ·exact ha
theorem BA (s:St):KO (bA T et s):=So T h (RV T (dR T _ s))
theorem KD (s:St):KO (eF T et s):=dl (by decide) (by decide) (ai (kN T _ s) (BA T h _))
theorem H7 (s:St):KO (eI T et s):=uX T (KD T h) _ _ _ (KD T h s)
omit h in
theorem Rk (s:St):KO (bW T s):=by unfold bW;split;exact cE T s;exact dE
omit h in
theorem QI {a:RT} (ha:KO a):KO (cK T a):=ai ha (ai (ai (dR T _ _) (kN T _ _)) (dR T _ _))
theorem Rv {a:RT} (ha:KO a):KO (du T et a):=by
 unfold du;split
 ·exact ai ha (H7 T h _)
 ·exact ha
theorem Qh {a:RT} (ha:KO a):KO (eL T et a):=
 ai (ai (ai ha (ai (ai (dR T _ _) (BA T h _)) (dR T _ _))) (h _)) (dR T _ _)
theorem Wh (s:St):KO (gO T et s):=dl (by decide) (by decide) (Qh T h (Rv T h (QI T (Rk T s))))
omit h in
theorem Wg {r:RT} (hr:KO r):KO (eC T r):=ai hr (dl (by decide) (by decide) (ai (ai (cE T _) (kN T _ _)) (dR T _ _)))
omit h in
theorem zD {c:St→Bool} {step:RT→RT} {most:Nat} (hs:∀r,KO r→KO (step r)):∀f k r,KO r→KO (dr T c step most f k r).2
 | 0,k,r,hr=>hr
 | f+1,k,r,hr=>by
   unfold dr
   split
   ·split
    ·exact dE
    ·exact zD hs f _ _ (hs r hr)
   ·exact hr
theorem Dt (s:St):KO (aW T et s):=by
 have h1:KO (au T ([],s)).2:=zD T (fun r hr=>Wg T hr) _ _ _ dE
 have h2:KO (cj T et (au T ([],s)).2).2:=zD T (fun r hr=>ai hr (Wh T h _)) _ _ _ h1
 unfold aW
 split
 ·exact h1
 split
 ·exact h2
 ·exact ai h2 (kN T _ _)
theorem Ka (s:St):KO (de T et s):=ai (h _) (kN T _ _)
end
theorem FH (T:List Tok) (D:Nat) (f:Bool):KO (aH T D f):=by
 unfold aH
 split
 ·exact Ka T (wm T D D).expr _
 ·exact Dt T (wm T D D).expr _
end Go.Proofs.YtjbgnopnehgbaaaGreatDoor
namespace Go.Proofs.YtjbgnopnehgbaaaGreatDoor
open Go.RowKit
def toI (t:Tok):iN:=⟨(t.kind:Int),t.lead,t.text,(t.pos:Int)⟩
theorem gC (a b:ByteArray):(a++b).data.toList=a.data.toList++b.data.toList:=by rw [ByteArray.data_append,Array.toList_append]
theorem io {a:ByteArray} {l:List UInt8} (h:a.data.toList=l):a.size=l.length:=by rw [←aM,h]
def kV (N:List Nd) (b:Nat) (P:List Nd):Prop:=∀(j:Nat) (x:Nd),P[j]? = some x→N[b+j]? = some x
theorem kV.left {N:List Nd} {b:Nat} {P Q:List Nd} (h:kV N b (P++Q)):kV N b P:=fun j x hx=>h j x (by rw [List.getElem?_append_left (List.getElem?_eq_some_iff.1 hx).1];exact hx)
theorem kV.right {N:List Nd} {b:Nat} {P Q:List Nd} (h:kV N b (P++Q)):kV N (b+P.length) Q:=fun j x hx=>by
 have:=h (P.length+j) x (by rw [List.getElem?_append_right (by omega),Nat.add_sub_cancel_left];exact hx)
 rw [Nat.add_assoc];exact this
theorem IJ (N:List Nd):kV N 0 N:=fun j x hx=>by rw [Nat.zero_add];exact hx
def n8 (p:Prop) (w:World) (e:Ending) (w':World):Prop:=w.grownBy w' none∧∃b:Bool,e=.returned (.bool b)∧(b=true↔p)
theorem dB {p:Prop} {w w':World} (hg:w.grownBy w' none) (h:¬p):n8 p w (.returned (.bool false)) w':=⟨hg,false,rfl,by simp [h]⟩
end Go.Proofs.YtjbgnopnehgbaaaGreatDoor
