/- Lemmas. -/
import Derived.Test.YtpkipghjohomcaaGreatDoorP4
import Derived.Test.YtpkipghjohomcaaGreatDoorP5
set_option linter.unusedVariables false
set_option linter.unusedSimpArgs false
namespace Go.Proofs.YtpkipghjohomcaaGreatDoor
mutual
def kOk:Tr->Prop
 | .lf _=>True
 | .nd m A=>1<=m/\m<=18/\fj A
def fj:List Tr->Prop
 | []=>True
 | t::l=>kOk t/\fj l
end
theorem aj {a b:List Tr} (m:fj a) (A:fj b):fj (a++b):=by
 induction a with
 | nil=>exact A
 | cons E a B=>simp only [List.cons_append,fj] at m ⊢;exact⟨m.1,B m.2⟩
theorem ee {k:Nat} {l:List Tr} (m:1<=k) (A:k<=18) (h:fj l):fj [.nd k l]:=by simp only [fj,kOk];exact⟨⟨m,A,h⟩,trivial⟩
theorem ev:fj []:=by simp [fj]
abbrev KO (r:RT):Prop:=fj r.1
section
variable (T:List Tok)
theorem dl (s:St):KO (ae T s):=by simp [KO,ae,fj,kOk]
theorem eP (w:List UInt8) (s:St):KO (an T w s):=by unfold an;split;exact dl T s;exact ev
theorem lQ (k:Nat) (s:St):KO (aM T k s):=by unfold aM;split;exact dl T s;exact ev
theorem wb {c:St->Bool} {sub:St->RT} (m:∀s,KO (sub s)):∀f r,KO r->KO (rwT T c sub f r)
 | 0,r,h=>h
 | f+1,r,h=>by
   unfold rwT
   split
   ·exact wb m f _ (ee (by decide) (by decide) (aj (aj h (dl T _)) (m _)))
   ·exact h
theorem wV {sub:St->RT} (m:∀s,KO (sub s)):∀f k r,KO r->KO (bT T sub f k r)
 | 0,k,r,h=>h
 | f+1,k,r,h=>by
   unfold bT
   split
   ·exact wV m f _ _ (aj (aj h (dl T _)) (m _))
   ·exact h
structure NxO (nt:NxT):Prop where
 expr:∀s,KO (nt.expr s)
 formula:∀s,KO (nt.formula s)
 nots:∀s,KO (nt.nots s)
 factor:∀s,KO (nt.factor s)
end
section
variable (T:List Tok) (D n:Nat) {nt:NxT} (h:NxO nt)
include h
theorem Sr (s:St):KO (lz T nt s):=wV T h.expr _ _ _ (h.expr s)
omit h in
theorem Le {a:RT} (m:KO a):KO (dh T a):=by
 unfold dh;split
 ·exact aj (aj m (dl T _)) (lQ T _ _)
 ·exact m
omit h in
theorem Oj {a:RT} (m:KO a):KO (de T a):=aj m (eP T _ _)
theorem M1 {a:RT} (m:KO a):KO (cM T nt a):=by
 unfold cM;split
 ·exact m
 ·exact aj m (Sr T h _)
omit h in
theorem MI {a:RT} (m:KO a):KO (jr T a):=ee (by decide) (by decide) (aj m (eP T _ _))
theorem Tk (s:St):KO (eV T nt s):=by
 unfold eV;split
 ·exact ee (by decide) (by decide) (dl T _)
 ·exact MI T (M1 T h (Oj T (Le T (dl T _))))
theorem Tt (s:St):KO (cQ T nt s):=by
 unfold cQ
 split
 ·exact ev
 split
 ·exact ee (by decide) (by decide) (dl T _)
 split
 ·exact ee (by decide) (by decide) (dl T _)
 split
 ·exact ee (by decide) (by decide) (dl T _)
 split
 ·exact ee (by decide) (by decide) (aj (aj (dl T _) (h.expr _)) (eP T _ _))
 split
 ·exact Tk T h s
 ·exact ev
omit h in
theorem Hr {sub:St->RT} (m:∀s,KO (sub s)) (s:St):KO (gL T D n sub s):=by
 unfold gL
 simp only []
 split
 ·exact ev
 ·exact ee (by decide) (by decide) (aj (dl T _) (m _))
theorem sl (s:St):KO (bz T D n nt s):=by
 unfold bz;split
 ·exact Hr T D n h.factor s
 ·exact Tt T h s
theorem vk (s:St):KO (dH T D n nt s):=wb T (sl T D n h) _ _ (sl T D n h s)
theorem F0 (s:St):KO (ew T D n nt s):=wb T (vk T D n h) _ _ (vk T D n h s)
theorem Et (s:St):KO (gp T D n nt s):=by
 unfold gp
 simp only []
 split
 ·exact Hr T D n h.nots s
 split
 ·exact ee (by decide) (by decide) (aj (aj (F0 T D n h s) (dl T _)) (F0 T D n h _))
 ·exact F0 T D n h s
theorem OD (s:St):KO (oN T D n nt s):=wb T (Et T D n h) _ _ (Et T D n h s)
theorem Ud (s:St):KO (orT T D n nt s):=wb T (OD T D n h) _ _ (OD T D n h s)
theorem wK (s:St):KO (aP T D n nt s):=by
 unfold aP
 simp only []
 split
 ·split
  ·exact ev
  ·exact ee (by decide) (by decide) (aj (aj (Ud T D n h s) (dl T _)) (h.formula _))
 ·exact Ud T D n h s
theorem Vj (s:St):KO (qN T nt s):=
 ee (by decide) (by decide) (aj (aj (aj (aj (aj (dl T _) (lQ T _ _)) (eP T _ _)) (h.expr _)) (eP T _ _)) (h.expr _))
theorem Z1 (s:St):KO (ifT T nt s):=
 ee (by decide) (by decide) (aj (aj (aj (aj (aj (dl T _) (h.expr _)) (eP T _ _)) (h.expr _)) (eP T _ _)) (h.expr _))
theorem IR (s:St):KO (fL T nt s):=
 ee (by decide) (by decide) (aj (aj (aj (dl T _) (h.expr _)) (eP T _ _)) (h.expr _))
theorem Qu (s:St):KO (fK T D n nt s):=by
 unfold fK
 simp only []
 split
 ·exact ev
 split
 ·exact Vj T h _
 split
 ·exact Z1 T h _
 split
 ·exact IR T h _
 ·exact wK T D n h _
end
theorem yN (T:List Tok) (D:Nat):∀d,NxO (nxT T D d)
 | 0=>⟨fun s=>ev,fun s=>ev,fun s=>ev,fun s=>ev⟩
 | d+1=>⟨Qu T D _ (yN T D d),wK T D _ (yN T D d),Et T D _ (yN T D d),sl T D _ (yN T D d)⟩
section
variable (T:List Tok) {et:St->RT} (h:∀s,KO (et s))
include h
omit h in
theorem SV {a:RT} (m:KO a):KO (iY T a):=by
 unfold iY;split
 ·exact aj m (ee (by decide) (by decide) (dl T _))
 ·exact m
theorem Tg {a:RT} (m:KO a):KO (iD T et a):=by
 unfold iD;split
 ·exact aj m (ee (by decide) (by decide) (aj (aj (dl T _) (h _)) (eP T _ _)))
 ·exact m
theorem Dl (s:St):KO (cj T et s):=Tg T h (SV T (eP T _ s))
theorem Me (s:St):KO (fD T et s):=ee (by decide) (by decide) (aj (lQ T _ s) (Dl T h _))
theorem JJ (s:St):KO (fI T et s):=wV T (Me T h) _ _ _ (Me T h s)
omit h in
theorem Se (s:St):KO (cV T s):=by unfold cV;split;exact dl T s;exact ev
omit h in
theorem RE {a:RT} (m:KO a):KO (dJ T a):=aj m (aj (aj (eP T _ _) (lQ T _ _)) (eP T _ _))
theorem So {a:RT} (m:KO a):KO (eH T et a):=by
 unfold eH;split
 ·exact aj m (JJ T h _)
 ·exact m
theorem Rg {a:RT} (m:KO a):KO (gv T et a):=
 aj (aj (aj m (aj (aj (eP T _ _) (Dl T h _)) (eP T _ _))) (h _)) (eP T _ _)
theorem WT (s:St):KO (jg T et s):=ee (by decide) (by decide) (Rg T h (So T h (RE T (Se T s))))
omit h in
theorem WR {r:RT} (m:KO r):KO (fB T r):=aj m (ee (by decide) (by decide) (aj (aj (dl T _) (lQ T _ _)) (eP T _ _)))
omit h in
theorem Bx {c:St->Bool} {step:RT->RT} {most:Nat} (m:∀r,KO r->KO (step r)):∀f k r,KO r->KO (eW T c step most f k r).2
 | 0,k,r,hr=>hr
 | f+1,k,r,hr=>by
   unfold eW
   split
   ·split
    ·exact ev
    ·exact Bx m f _ _ (m r hr)
   ·exact hr
theorem Fh (s:St):KO (bE T et s):=by
 have A:KO (aG T ([],s)).2:=Bx T (fun E m=>WR T m) _ _ _ ev
 have B:KO (dk T et (aG T ([],s)).2).2:=Bx T (fun E m=>aj m (WT T h _)) _ _ _ A
 unfold bE
 split
 ·exact A
 split
 ·exact B
 ·exact aj B (lQ T _ _)
theorem LO (s:St):KO (dY T et s):=aj (h _) (lQ T _ _)
end
theorem He (T:List Tok) (D:Nat) (f:Bool):KO (aR T D f):=by
 unfold aR
 split
 ·exact LO T (yN T D D).expr _
 ·exact Fh T (yN T D D).expr _
end Go.Proofs.YtpkipghjohomcaaGreatDoor
namespace Go.Proofs.YtpkipghjohomcaaGreatDoor
inductive Ex where
 | mk (op:Nat) (nm md nu:List UInt8) (ys:Bool) (ks:List Ex) (ps:Nat)
def pW:Ex:=.mk 0 [] [] [] false [] 0
def tkT (T:List Tok) (i:Nat):Tok:=T[i]?.getD ⟨5,[],[],0⟩
def bf:List (List UInt8):=[[43],[45],[42],[47],[37],[61],[60,62],[60],[60,61],[62],[62,61],[38,38],[124,124],[61,62]]
def kE (s:List UInt8):Nat:=if bf.idxOf s<14 then 7+bf.idxOf s else 0
def unE (s:List UInt8):Nat:=if s = [45] then 5 else 6
def bR (k:Nat) (o:Nat->Tok) (ks:List Ex):Ex:=
 if k=7 then .mk 22 (o 1).text [] [] false ks (o 0).pos
 else if k=8 then .mk 21 [] [] [] false ks (o 0).pos
 else if k=9 then .mk 23 [] [] [] false ks (o 0).pos
 else if k=10 then .mk (kE (o 0).text) [] [] [] false ks (o 0).pos
 else if k=11 then .mk (unE (o 0).text) [] [] [] false ks (o 0).pos
 else if k=13 then (if (o 1).text = [46] then .mk 24 (o 2).text (o 0).text [] false ks (o 0).pos else .mk 24 (o 0).text [] [] false ks (o 0).pos)
 else if k=14 then .mk 3 (o 0).text [] [] false ks (o 0).pos
 else if k=15 then .mk 1 [] [] (o 0).text false ks (o 0).pos
 else if k=16 then .mk 2 [] [] [] (decide ((o 0).text = [116,114,117,101])) ks (o 0).pos
 else .mk 4 [] [] [] false ks (o 0).pos
def ba:List Tr->List Nat
 | []=>[]
 | .lf i::l=>i::ba l
 | .nd _ _::l=>ba l
def isN:Tr->Bool
 | .lf _=>false
 | .nd _ _=>true
mutual
def axT (T:List Tok):Tr->Ex
 | .lf _=>pW
 | .nd A m=>if A=12 then (bQ T m).headD pW else bR A (fun B=>tkT T ((ba m).getD B T.length)) (bQ T m)
def bQ (T:List Tok):List Tr->List Ex
 | []=>[]
 | t::l=>if isN t=true then axT T t::bQ T l else bQ T l
end
def Ds (t:List UInt8):Prop:=0<t.length/\t.length<=60/\(∀m∈t,fy m=true)/\(1<t.length->t.head?≠some 48)
inductive ShE (T:List Tok):Nat->List Tr->Prop
 | let_ (i j k m:Nat) (t u:Tr):isN t=true->isN u=true->ShE T 7 [.lf i,.lf j,.lf k,t,.lf m,u]
 | if_ (i j k:Nat) (t u v:Tr):isN t=true->isN u=true->isN v=true->ShE T 8 [.lf i,t,.lf j,u,.lf k,v]
 | assert_ (i j:Nat) (t u:Tr):isN t=true->isN u=true->ShE T 9 [.lf i,t,.lf j,u]
 | bin (i:Nat) (t u:Tr):isN t=true->isN u=true->(tkT T i).text∈bf->ShE T 10 [t,.lf i,u]
 | una (i:Nat) (t:Tr):isN t=true->(tkT T i).text = [45]\/(tkT T i).text = [110,111,116]->ShE T 11 [.lf i,t]
 | grp (i j:Nat) (t:Tr):isN t=true->ShE T 12 [.lf i,t,.lf j]
 | call (i j:Nat) (l:List Tr):(tkT T j).text≠[46]->ShE T 13 (.lf i::.lf j::l)
 | callm (i j m:Nat) (l:List Tr):(tkT T j).text = [46]->ShE T 13 (.lf i::.lf j::.lf m::l)
 | nam (i:Nat):ShE T 14 [.lf i]
 | num (i:Nat):Ds (tkT T i).text->ShE T 15 [.lf i]
 | tru (i:Nat):ShE T 16 [.lf i]
 | res (i:Nat):ShE T 17 [.lf i]
mutual
def WE (T:List Tok):Tr->Prop
 | .lf _=>True
 | .nd A m=>ShE T A m/\WEs T m
def WEs (T:List Tok):List Tr->Prop
 | []=>True
 | t::l=>WE T t/\WEs T l
end
def One (T:List Tok) (l:List Tr):Prop:=∃m,l = [m]/\isN m=true/\WE T m
abbrev WO (T:List Tok) (r:RT):Prop:=r.2.e=0->One T r.1
abbrev WL (T:List Tok) (r:RT):Prop:=r.2.e=0->WEs T r.1
def wI (T:List Tok):Prop:=∀m∈T,m.kind=3->Ds m.text
theorem iO {T:List Tok} {a b:List Tr} (m:WEs T a) (A:WEs T b):WEs T (a++b):=by
 induction a with
 | nil=>exact A
 | cons E a B=>simp only [List.cons_append,WEs] at m ⊢;exact⟨m.1,B m.2⟩
theorem cX {T:List Tok} {i:Nat} {l:List Tr} (h:WEs T l):WEs T (.lf i::l):=by simp only [WEs,WE];exact⟨trivial,h⟩
theorem dr {T:List Tok} {t:Tr} {l:List Tr} (m:WE T t) (h:WEs T l):WEs T (t::l):=by simp only [WEs];exact⟨m,h⟩
theorem dB {T:List Tok}:WEs T []:=by simp [WEs]
theorem One.nd {T:List Tok} {k:Nat} {l:List Tr} (m:ShE T k l) (A:WEs T l):One T [.nd k l]:=⟨_,rfl,rfl,by simp only [WE];exact⟨m,A⟩⟩
theorem wj {s:St} {r:RT} (h:cE s r) (A:r.2.e=0):s.e=0:=by
 rcases Nat.eq_zero_or_pos s.e with m | m
 ·exact m
 ·have:=h.dead (by omega);rw [this] at A;exact A
section
variable (T:List Tok)
theorem iy (s:St):(ae T s).1 = [.lf s.i]:=rfl
theorem lX {w:List UInt8} {s:St} (h:(an T w s).2.e=0):(an T w s).1 = [.lf s.i]/\(tkT T s.i).text=w/\((tkT T s.i).kind=2\/(tkT T s.i).kind=4)/\s.e=0:=by
 unfold an at h ⊢
 split
 ·rename_i hk
  unfold isQ at hk
  have hk:=of_decide_eq_true hk
  exact⟨rfl,hk.2.2,hk.2.1,hk.1⟩
 ·rename_i hk
  rw [if_neg hk] at h
  exact absurd h (df T (by decide) s)
theorem pG {k:Nat} {s:St} (h:(aM T k s).2.e=0):(aM T k s).1 = [.lf s.i]/\(tkT T s.i).kind=k/\s.e=0:=by
 unfold aM at h ⊢
 split
 ·rename_i hk;exact⟨rfl,hk.2,hk.1⟩
 ·rename_i hk
  rw [if_neg hk] at h
  exact absurd h (df T (by decide) s)
theorem oI {w:List UInt8} {s:St} (h:isQ T w s=true):(tkT T s.i).text=w/\((tkT T s.i).kind=2\/(tkT T s.i).kind=4)/\s.e=0:=by
 unfold isQ at h
 have hk:=of_decide_eq_true h
 exact⟨hk.2.2,hk.2.1,hk.1⟩
theorem CE {c:St->Bool} {sub:St->RT} (A:∀s,c s=true->s.e=0/\(tkT T s.i).text∈bf) (hk:∀s,cE s (sub s)) (B:∀s,WO T (sub s)):∀f r,WO T r->WO T (rwT T c sub f r)
 | 0,r,h=>h
 | f+1,r,h=>by
   unfold rwT
   split
   ·rename_i H
    refine CE A hk B f _ fun I=>?_
    have m:=A _ H
    obtain⟨U,J,E,G⟩:=h m.1
    obtain⟨Y,L,R,O⟩:=B _ I
    show One T [.nd 10 (r.1++(ae T r.2).1++(sub (ae T r.2).2).1)]
    rw [J,L,iy]
    exact One.nd (ShE.bin _ U Y E R m.2) (dr G (cX (dr O dB)))
   ·exact h
theorem Hp {sub:St->RT} (hk:∀s,cE s (sub s)) (m:∀s,WO T (sub s)):∀f k r,WL T r->WL T (bT T sub f k r)
 | 0,k,r,h=>h
 | f+1,k,r,h=>by
   unfold bT
   split
   ·rename_i A
    refine Hp hk m f _ _ fun B=>?_
    obtain⟨I,E,H,G⟩:=m _ B
    show WEs T (r.1++(ae T r.2).1++(sub (if k=8 then aH T 15 (ae T r.2).2 else (ae T r.2).2)).1)
    rw [E,iy]
    exact iO (iO (h (oI T A).2.2) (cX dB)) (dr G dB)
   ·exact h
structure NxW (D n:Nat) (nt:NxT):Prop where
 expr:∀s,WO T (nt.expr s)
 formula:n<D->∀s,WO T (nt.formula s)
 nots:n<D->∀s,WO T (nt.nots s)
 factor:n<D->∀s,WO T (nt.factor s)
end
section
variable (T:List Tok) (hT:wI T) (D n:Nat) {nt:NxT} (h:NxW T D n nt) (hk:NxK nt)
include h hk
theorem Yq (s:St):WL T (lz T nt s):=Hp T hk.expr h.expr _ _ _ fun A=>by
 obtain⟨E,B,-,m⟩:=h.expr s A
 rw [B];exact dr m dB
theorem Xt (s:St) (Z:s.e=0):WO T (eV T nt s):=by
 unfold eV
 split
 ·intro _;exact One.nd (ShE.nam s.i) (cX dB)
 ·intro O
  have J:(an T [41] (cM T nt (de T (dh T (ae T s)))).2).2.e=0:=O
  obtain⟨U,-,-,A⟩:=lX T J
  obtain⟨rest,R,H,I⟩:∃rest,(cM T nt (de T (dh T (ae T s)))).1=(de T (dh T (ae T s))).1++rest/\WEs T rest/\(de T (dh T (ae T s))).2.e=0:=by
   unfold cM at A ⊢
   split
   ·rename_i E
    exact⟨[],by simp,dB,(oI T E).2.2⟩
   ·rename_i E
    rw [if_neg E] at A
    have A:(lz T nt (de T (dh T (ae T s))).2).2.e=0:=A
    exact⟨_,rfl,Yq T D n h hk _ A,wj (yX T hk _) A⟩
  have L:(an T [40] (dh T (ae T s)).2).2.e=0:=I
  obtain⟨Y,B,-,m⟩:=lX T L
  show One T [.nd 13 ((cM T nt (de T (dh T (ae T s)))).1++(an T [41] (cM T nt (de T (dh T (ae T s)))).2).1)]
  rw [U,R]
  show One T [.nd 13 ((dh T (ae T s)).1++(an T [40] (dh T (ae T s)).2).1++rest++[.lf _])]
  rw [Y]
  unfold dh at m B ⊢
  by_cases G:isQ T [46] (ae T s).2=true
  ·rw [if_pos G] at m B ⊢
   have m:(aM T 1 (ae T (ae T s).2).2).2.e=0:=m
   obtain⟨k1,-,-⟩:=pG T m
   show One T [.nd 13 ((ae T s).1++(ae T (ae T s).2).1++(aM T 1 (ae T (ae T s).2).2).1++[.lf _]++rest++[.lf _])]
   rw [k1,iy,iy]
   refine One.nd (ShE.callm _ _ _ _ (oI T G).1) ?_
   exact iO (iO (cX (cX (cX (cX dB)))) H) (cX dB)
  ·rw [if_neg G] at m B ⊢
   rw [iy]
   refine One.nd (ShE.call _ _ _ (by rw [B];decide)) ?_
   exact iO (iO (cX (cX dB)) H) (cX dB)
include hT
theorem Yj (s:St):WO T (cQ T nt s):=by
 unfold cQ
 split
 ·rename_i B;intro A;exact absurd A B
 rename_i B
 have B:s.e=0:=by omega
 split
 ·rename_i H
  intro _
  refine One.nd (ShE.num s.i ?_) (cX dB)
  have m:(tkT T s.i).kind=3:=H
  unfold tkT at m ⊢
  cases E:T[s.i]? with
  | none=>rw [E] at m;cases m
  | some R=>rw [E] at m;exact hT R (gn E) m
 split
 ·intro _;exact One.nd (ShE.tru s.i) (cX dB)
 split
 ·intro _;exact One.nd (ShE.res s.i) (cX dB)
 split
 ·intro A
  obtain⟨J,-,-,G⟩:=lX T A
  obtain⟨U,I,O,L⟩:=h.expr _ G
  show One T [.nd 12 ((ae T s).1++(nt.expr (ae T s).2).1++(an T [41] (nt.expr (ae T s).2).2).1)]
  rw [J,I,iy]
  exact One.nd (ShE.grp _ _ U O) (cX (dr L (cX dB)))
 split
 ·exact Xt T D n h hk s B
 ·intro A;exact absurd A (df T (by decide) s)
omit hT h hk in
theorem Pe {sub:St->RT} (G:n<D->∀s,WO T (sub s)) {s:St} (I:(tkT T s.i).text = [45]\/(tkT T s.i).text = [110,111,116]):WO T (gL T D n sub s):=by
 unfold gL
 simp only []
 split
 ·rename_i A;intro m;exact absurd m A
 ·rename_i A
  intro m
  have E:n<D:=by
   rcases Nat.lt_or_ge n D with B | B
   ·exact B
   ·exfalso;apply A
    unfold aY;rw [if_pos (by omega)];exact df T (by decide) _
  obtain⟨O,H,L,J⟩:=G E _ m
  show One T [.nd 11 ((ae T s).1++(sub (aY T D (n+1) (ae T s).2)).1)]
  rw [H,iy]
  exact One.nd (ShE.una _ O L I) (cX (dr J dB))
theorem vy (s:St):WO T (bz T D n nt s):=by
 unfold bz;split
 ·rename_i m;exact Pe T D n h.factor (.inl (oI T m).1)
 ·exact Yj T hT D n h hk s
omit hT h hk in
theorem jQ {w:List UInt8} (m:w∈bf) {s:St} (h:isQ T w s=true):s.e=0/\(tkT T s.i).text∈bf:=⟨(oI T h).2.2,by rw [(oI T h).1];exact m⟩
theorem yK (s:St):WO T (dH T D n nt s):=CE T (fun s m=>by
 unfold rd at m
 simp only [Bool.or_eq_true] at m
 rcases m with (m | m) | m<;>exact jQ T (by decide) m) (kH T D n hk) (vy T hT D n h hk) _ _ (vy T hT D n h hk s)
theorem Pr (s:St):WO T (ew T D n nt s):=CE T (fun s m=>by
 unfold rB at m
 simp only [Bool.or_eq_true] at m
 rcases m with m | m<;>exact jQ T (by decide) m) (mg T D n hk) (yK T hT D n h hk) _ _ (yK T hT D n h hk s)
theorem Nl (s:St):WO T (gp T D n nt s):=by
 unfold gp
 simp only []
 split
 ·rename_i m;exact Pe T D n h.nots (.inr (oI T m).1)
 split
 ·rename_i m
  intro G
  have A:(ew T D n nt s).2.e=0/\(tkT T (ew T D n nt s).2.i).text∈bf:=by
   unfold jf at m
   simp only [Bool.or_eq_true] at m
   rcases m with ((((m | m) | m) | m) | m) | m<;>exact jQ T (by decide) m
  obtain⟨O,H,B,E⟩:=Pr T hT D n h hk s A.1
  obtain⟨R,I,L,J⟩:=Pr T hT D n h hk _ G
  show One T [.nd 10 ((ew T D n nt s).1++(ae T (ew T D n nt s).2).1++(ew T D n nt (ae T (ew T D n nt s).2).2).1)]
  rw [H,I,iy]
  exact One.nd (ShE.bin _ O R B L A.2) (dr E (cX (dr J dB)))
 ·exact Pr T hT D n h hk s
theorem Uc (s:St):WO T (oN T D n nt s):=CE T (fun s m=>jQ T (by decide) m) (rM T D n hk) (Nl T hT D n h hk) _ _ (Nl T hT D n h hk s)
theorem ace (s:St):WO T (orT T D n nt s):=CE T (fun s m=>jQ T (by decide) m) (wY T D n hk) (Uc T hT D n h hk) _ _ (Uc T hT D n h hk s)
theorem y7 (s:St):WO T (aP T D n nt s):=by
 unfold aP
 simp only []
 split
 ·rename_i I
  split
  ·rename_i A;intro m;exact absurd m A
  ·rename_i A
   intro m
   have J:n<D:=by
    rcases Nat.lt_or_ge n D with B | B
    ·exact B
    ·exfalso;apply A
     unfold aY;rw [if_pos (by omega)];exact df T (by decide) _
   have E:=jQ T (by decide) I
   obtain⟨Y,L,G,H⟩:=ace T hT D n h hk s E.1
   obtain⟨Z,O,U,R⟩:=h.formula J _ m
   show One T [.nd 10 ((orT T D n nt s).1++(ae T (orT T D n nt s).2).1++(nt.formula (aY T D (n+1) (ae T (orT T D n nt s).2).2)).1)]
   rw [L,O,iy]
   exact One.nd (ShE.bin _ Y Z G U E.2) (dr H (cX (dr R dB)))
 ·exact ace T hT D n h hk s
omit hT
theorem aap (s:St):WO T (qN T nt s):=by
 intro A
 obtain⟨ak,L,Y,U⟩:=h.expr _ A
 have I:=wj (hk.expr _) A
 obtain⟨O,-,-,m⟩:=lX T I
 obtain⟨Z,J,B,E⟩:=h.expr _ m
 have H:=wj (hk.expr _) m
 obtain⟨R,-,-,G⟩:=lX T H
 obtain⟨k1,-,-⟩:=pG T G
 unfold qN
 simp only []
 rw [L,O,J,R,k1,iy]
 exact One.nd (ShE.let_ _ _ _ _ Z ak B Y) (cX (cX (cX (dr E (cX (dr U dB))))))
theorem agj (s:St):WO T (ifT T nt s):=by
 intro A
 obtain⟨ap,R,U,G⟩:=h.expr _ A
 have J:=wj (hk.expr _) A
 obtain⟨Y,-,-,m⟩:=lX T J
 obtain⟨ao,O,rU,rR⟩:=h.expr _ m
 have I:=wj (hk.expr _) m
 obtain⟨Z,-,-,H⟩:=lX T I
 obtain⟨ak,L,B,E⟩:=h.expr _ H
 unfold ifT
 simp only []
 rw [R,Y,O,Z,L,iy]
 exact One.nd (ShE.if_ _ _ _ ak ao ap B rU U) (cX (dr E (cX (dr rR (cX (dr G dB))))))
theorem Oe (s:St):WO T (fL T nt s):=by
 intro m
 obtain⟨U,I,O,L⟩:=h.expr _ m
 have G:=wj (hk.expr _) m
 obtain⟨J,-,-,E⟩:=lX T G
 obtain⟨R,H,A,B⟩:=h.expr _ E
 unfold fL
 simp only []
 rw [I,J,H,iy]
 exact One.nd (ShE.assert_ _ _ R U A O) (cX (dr B (cX (dr L dB))))
include hT
theorem Xf (s:St):WO T (fK T D n nt s):=by
 unfold fK
 simp only []
 split
 ·rename_i A;intro m;exact absurd m A
 split
 ·exact aap T D n h hk _
 split
 ·exact agj T D n h hk _
 split
 ·exact Oe T D n h hk _
 ·exact y7 T hT D n h hk _
end
theorem Xy (T:List Tok) (hT:wI T) (D:Nat):∀d,d<=D->NxW T D (D - d) (nxT T D d)
 | 0,_=>⟨fun A B=>absurd B (by show(aY T D (D+1) A).e≠0;rw [lB];exact df T (by decide) A),fun h=>by omega,fun h=>by omega,fun h=>by omega⟩
 | d+1,h=>by
   have m:=Xy T hT D d (by omega)
   have hk:=gl T D d
   exact⟨Xf T hT D _ m hk,fun _=>y7 T hT D _ m hk,fun _=>Nl T hT D _ m hk,fun _=>vy T hT D _ m hk⟩
theorem zH (p:UInt8->Bool):∀(l:List UInt8),∀b∈l.take (runN p l),p b=true
 | [],b,h=>by simp [runN] at h
 | a::r,b,h=>by
   by_cases A:p a=true
   ·have m:runN p (a::r)=runN p r+1:=by simp [runN,A]
    rw [m,List.take_succ_cons,List.mem_cons] at h
    rcases h with rfl | h
    ·exact A
    ·exact zH p r b h
   ·have m:runN p (a::r)=0:=by simp [runN,A]
    rw [m] at h;simp at h
theorem I3 {l:List UInt8} (h:(cy l).1=3):∀b∈l.take (cy l).2,fy b=true:=by
 cases l with
 | nil=>simp [cy] at h
 | cons A E=>
   rw [gY] at h ⊢
   split at h
   ·rename_i m
    simp only at h
    split at h<;>cases h
   ·rename_i m
    rw [if_neg m]
    split at h
    ·rename_i B
     rw [if_pos B]
     exact zH fy (A::E)
    ·split at h<;>cases h
theorem H9 {l:List UInt8} {p:Nat} (m:cK (bI l p).kind (bI l p).text=0) (hk:(bI l p).kind=3):Ds (bI l p).text:=by
 have E:(cy (l.drop (sk false l))).1=3:=hk
 have J:=pI (l:=l.drop (sk false l)) (by omega) (by omega)
 have L:=ot (l.drop (sk false l))
 have G:=I3 E
 unfold cK at m
 rw [if_neg (by rw [hk];rintro(h | ⟨h,-⟩)<;>cases h)] at m
 have A:¬((bI l p).kind=3/\(60<(bI l p).text.length\/1<(bI l p).text.length/\(bI l p).text.head? = some 48)):=fun B=>by rw [if_pos B] at m;cases m
 have O:(bI l p).text.length=(cy (l.drop (sk false l))).2:=by
  show((l.drop (sk false l)).take _).length=_
  rw [List.length_take];omega
 refine⟨by omega,?_,G,fun H I=>A ⟨hk,.inr ⟨H,I⟩⟩⟩
 rcases Nat.lt_or_ge 60 (bI l p).text.length with h | h
 ·exact absurd ⟨hk,.inl h⟩ A
 ·exact h
theorem BZ:∀(f:Nat) (l:List UInt8) (p:Nat),wI (kg f l p).1
 | 0,l,p=>fun E m=>by simp [kg] at m
 | f+1,l,p=>by
   intro E m hk
   by_cases A:cK (bI l p).kind (bI l p).text≠0
   ·rw [me A] at m;simp at m
   ·have A:cK (bI l p).kind (bI l p).text=0:=by omega
    by_cases B:(bI l p).kind=5
    ·rw [rs A B] at m
     simp at m;subst m
     exact H9 A hk
    ·rw [n5 A B] at m
     rcases List.mem_cons.1 m with rfl | m
     ·exact H9 A hk
     ·exact BZ f _ _ E m hk
theorem Gu (l:List UInt8):wI (ai l).1:=BZ _ l 0
end Go.Proofs.YtpkipghjohomcaaGreatDoor
set_option maxHeartbeats 8000000
set_option maxRecDepth 100000
namespace Go.Proofs.YtpkipghjohomcaaGreatDoor
open Go.RowKit List Go.World
def Am (N:List Nd) (K:Kf) (A:Nat->Prop):Prop:=∀(B:Nat) (E:Nd),N[B]? = some E->E.kids≠[]->∀m,(K B).1=some m->A m.block
def mc (w:World) (b:Nat) (l:List Tok) (u:Nat) (N:List Nd) (vn:Value) (A:Nat->Prop):Prop:=∃E B m,Bld w b E B l u vn N m/\Am N m A
theorem mc.bld {w:World} {b:Nat} {l:List Tok} {u:Nat} {N:List Nd} {vn:Value} {A:Nat->Prop} (h:mc w b l u N vn A):uq w b l u N vn:=by
 obtain⟨E,B,m,h,-⟩:=h
 exact⟨E,B,m,h⟩
theorem mc.kept {w m:World} {b:Nat} {l:List Tok} {u:Nat} {N:List Nd} {vn:Value} {A:Nat->Prop} (h:mc w b l u N vn A) (H:w.grownBy m none):mc m b l u N vn A:=by
 obtain⟨I,E,B,h,G⟩:=h
 exact⟨I,E,B,h.kept H,G⟩
theorem mc.keptF {S:Nat->Prop} {w O:World} {b:Nat} {l:List Tok} {u:Nat} {N:List Nd} {vn:Value} {A J:Nat->Prop} (h:mc w b l u N vn A) (hf:Fr2 S w O) (hS:∀k,k<=b->¬S k) (hv:∀k,vn.ownBlock=some k->¬S k) (Y:∀k,A k->¬S k) (Z:∀k,k<w.heap.size->A k->J k):mc O b l u N vn J:=by
 obtain⟨pt,U,R,h,L⟩:=h
 exact⟨pt,U,R,h.keptF hf hS hv fun H I G E m B=>Y _ (L H I G E m B),fun H I G E m B=>Z _ (h.khi H I G E m B).2.1 (L H I G E m B)⟩
def jj (w:World) (b:Nat) (l:List Tok) (u:Nat) (N:List Nd) (x:Nd) (vn:Value) (A:Nat->Prop) (e:Ending) (E:World):Prop:=
 e=.returned (.int .i64 (N.length:Int))/\∃B,mc E b l u (N++[x]) B A/\Fr2 (ub b vn) w E/\∀m,B.ownBlock=some m->vn.ownBlock=some m\/w.heap.size<=m
theorem jj.after {w E:World} {b:Nat} {l:List Tok} {u:Nat} {N:List Nd} {x:Nd} {vn:Value} {A:Nat->Prop} {e:Ending} {B:World} (h:jj E b l u N x vn A e B) (m:Fr2 (ub b vn) w E):jj w b l u N x vn A e B:=by
 obtain⟨L,G,H,I,J⟩:=h
 exact⟨L,G,H,m.trans I,fun R O=>(J R O).imp id fun h=>Nat.le_trans m.size h⟩
theorem Bld.addF {ak:Nat->Prop} {w w5:World} {b:Nat} {pt:Option Addr} {ct:Nat} {l:List Tok} {u u':Nat} {vn:Value} {N:List Nd} {K:Kf} (h:Bld w b pt ct l u vn N K) (R:Fr2 (ub b vn) w w5) {I Z U:Nat} (fA:w5.heap[b]? = some (.cells #[.slice pt l.length ct,.int .i64 (u':Int),.slice (some ⟨I,0,none⟩) Z U] 144 (0,0)))
  {x:Nd} {p:Option Addr} {c:Nat} (eF:ag 3 92 w5 (b+1) (.slice (some ⟨I,0,none⟩) Z U) (iZ K N++[[.int .i64 x.kind,.int .i64 x.tok,.slice p x.kids.length c]])) (hk:VAt w p (ar x.kids)) (uH:x.kids≠[]->∀a,p=some a->b<a.block/\vn.ownBlock≠some a.block)
  (el:vn.ownBlock=some I\/w.heap.size<=I) (ST:Am N K ak) (ap:x.kids≠[]->∀a,p=some a->ak a.block):mc w5 b l u' (N++[x]) (.slice (some ⟨I,0,none⟩) Z U) ak:=by
 obtain⟨K',UR,UP⟩:=Bi K N.length p c
 have gW:∀(A:Nat) (G:Nd),(N++[x])[A]? = some G->(A<N.length/\N[A]? = some G/\K' A=K A)\/(A=N.length/\G=x/\K' A=(p,c)):=fun A G B=>by
  by_cases hi:A<N.length
  ·rw [getElem?_append_left hi] at B;exact .inl ⟨hi,B,UP A (by omega)⟩
  ·have H:=(Q4.1 B).1
   rw [Q2,length_singleton] at H
   obtain rfl:A=N.length:=by omega
   rw [getElem?_append_right (Nat.le_refl _)] at B
   simp at B
   exact .inr ⟨rfl,B.symm,UR⟩
 refine⟨pt,ct,K',⟨fA,h.cap,h.toks.keptF R (fun O a E=>?_),h.tlow,by rw [sO UR UP];exact eF,fun A G B=>?_,fun A G B L a E=>?_⟩,fun A G B L a E=>?_⟩
 ·have H:=h.tlow O a E
  rintro(m | m)
  ·omega
  ·have:=(h.turn _ m).1;omega
 ·rcases gW A G B with ⟨-,B,m⟩ | ⟨-,rfl,m⟩
  ·rw [m]
   refine(h.kids A G B).keptF R fun O a E=>?_
   obtain⟨H,Y,J⟩:=h.khi A G B (ez O) a E
   rintro(m | m)
   ·omega
   ·exact J m
  ·rw [m]
   refine hk.keptF R fun O a E=>?_
   obtain⟨H,J⟩:=uH (ez O) a E
   rintro(m | m)
   ·omega
   ·exact J m
 ·have UH:∀ao,(Value.slice (some ⟨I,0,none⟩) Z U).ownBlock=some ao->I=ao:=fun ao m=>by simpa [Value.ownBlock] using m
  rcases gW A G B with ⟨-,B,m⟩ | ⟨-,rfl,m⟩
  ·rw [m] at E
   obtain⟨H,Y,J⟩:=h.khi A G B L a E
   refine⟨H,zn Y R.size,fun e9=>?_⟩
   have:=UH _ e9
   subst this
   rcases el with h | h
   ·exact J h
   ·omega
  ·rw [m] at E
   obtain⟨H,J⟩:=uH L a E
   have Y:=hk.lt (vm L) a E
   refine⟨H,zn Y R.size,fun e9=>?_⟩
   have:=UH _ e9
   subst this
   rcases el with h | h
   ·exact J h
   ·omega
 ·rcases gW A G B with ⟨-,B,m⟩ | ⟨-,rfl,m⟩
  ·rw [m] at E;exact ST A G B L a E
  ·rw [m] at E;exact ap L a E
theorem Gc (ak:Nat->Prop) (b:Nat) (l:List Tok) (u:Nat) (N:List Nd) (vn:Value) (x:Nd) (p:Option Addr) (c:Nat) (w:World) (hN:N.length<=100000) (h:mc w b l u N vn ak) (hk:VAt w p (ar x.kids)) (uH:x.kids≠[]->∀a,p=some a->b<a.block/\vn.ownBlock≠some a.block) (au:x.kids≠[]->∀a,p=some a->ak a.block):
  Calls Tryz.prog 84 #[.pointer (some ⟨b,0,none⟩),.agg #[.int .i64 x.kind,.int .i64 x.tok,.slice p x.kids.length c]] w (jj w b l u N x vn ak):=by
 obtain⟨pt,ct,Y,h,ST⟩:=h
 have Zl:=zh ST;have TR:=zh au;have av:=zh h;have HK:=zh hk;have ax:=zh uH
 obtain⟨pv,Z,e1,-,ap,-⟩:=h.own.is
 rw [jD] at e1 ap
 subst e1
 obtain⟨B,O⟩:=zx w.heap.size
 have ik:=zh O
 have aX:b<B:=by rw [<-O];exact jJ h.box
 have ao:=zh h.own
 have ur:Hid ((iZ Y N).length<=1000000):=zh (by rw [jD];omega)
 have xx:Hid ((iZ Y N).length=N.length):=zh (jD Y N)
 obtain⟨aO,hm⟩:=zx l.length
 obtain⟨m,hM⟩:=zx N.length
 have J:=zh hM
 have fP:=zh hm
 obtain⟨G,dU⟩:=zx x.kids.length
 have lH:=zh dU
 rw [hM] at ao
 obtain⟨H,zF⟩:=zx x.kind
 obtain⟨I,xB⟩:=zx x.tok
 have K6:=zh zF;have TU:=zh xB
 have fA:=h.box
 rw [hm,hM] at fA
 rw [zF,xB,dU]
 have hA:=YK w (.cells #[.int .i64 H,.int .i64 I,.slice p G c] 92)
 have U:=qn w (.cells #[.int .i64 H,.int .i64 I,.slice p G c] 92) none
 have rW:(w.alloc (.cells #[.int .i64 H,.int .i64 I,.slice p G c] 92)).heap.size=B+1:=by simp [O]
 obtain⟨d0,d1,d2,d3⟩:=eO (bx U fA)
 have vD:=zh fA
 rw [O] at hA
 obtain⟨a0,a1,a2,a3⟩:=eO hA
 clear ST au fA hm hM dU zF xB h hk uH ap
 go_enter Tryz.func84,Tryz.ntmps84
 go_wp2_with fail
 try rw [O]
 generalize (w.alloc (.cells #[.int .i64 H,.int .i64 I,.slice p G c] 92))=W at *
 have UO:=zh (ag.kept ao U)
 have xC:=zh U
 have oF:=YK W (.cells #[.int .i64 H,.int .i64 I,.slice p G c] 92)
 rw [rW] at oF
 have iH:=zh oF
 have aJ:=zh (bx (qn W (.cells #[.int .i64 H,.int .i64 I,.slice p G c] 92) none) (bx U vD))
 have aq:∀A,(Value.slice pv m Z).ownBlock=some A->b+1<=A/\A<B+1:=fun A E=>by
  obtain⟨h1,h2⟩:=ag.at UO A E
  omega
 have ay:=zh aq
 clear hA U O oF aq
 go_region_law (refine eG (s:=3) (t:=24) (T:=92) (by decide) Tryz.underlying24 OU rfl (by omega) rfl _ _ rfl (b+1) (iZ Y N) [.int .i64 H,.int .i64 I,.slice p G c] rfl (fun u hu=>by simp at hu;rcases hu with rfl | rfl | rfl<;>rfl) (.slice pv m Z) rfl (ag.kept UO gbx) (B+1) _ rfl (by exact iH) rfl ur (by simp;omega) (B+2) (by simp;omega) ?_;intro L R w9 fM bH el;have iJ:=(bH.block b (by simp;omega) (fun E=>by have:=(ay b E.symm).1;omega)).trans aJ.out;obtain⟨f0,f1,f2,f3⟩:=eO iJ;have fW:=zh iJ;have ji:=zh fM;have fR:=zh bH;have oC:=zh el;clear fM bH el iJ)
 all_goals
  rw [xx.out,J.out] at ji ⊢
  have P1:Hid (Fr2 (ub b (.slice pv m Z)) w w9):=zh (Fr2.trans (b:=(W.alloc (.cells #[.int .i64 H,.int .i64 I,.slice p G c] 92)).drew) (Fr2.none (aa xC (aC (af (ad _ _) _)))) (Fr2.of (S:=ub b (.slice pv m Z)) fR (fun A E=>Or.inr E)))
  have gB:=zh (P1.setCell (g:=b) (j:=2) (.inl rfl) (.slice (some ⟨L,0,none⟩) (m+1) R))
  have fq:=zh (show(w9.setCell ⟨b,2,none⟩ (.slice (some ⟨L,0,none⟩) (m+1) R)).heap[b]? = some (.cells #[.slice pt aO ct,.int .i64 (u:Int),.slice (some ⟨L,0,none⟩) (m+1) R] 144 (0,0)) from ab (i:=2) fW)
  have iQ:=zh (ag.keptF ji (Fr2.setCell (S:=fun A=>A=b) (Fr2.refl _ w9) (g:=b) (j:=2) rfl (.slice (some ⟨L,0,none⟩) (m+1) R)) (fun A E=>by have:=(ag.at ji A E).1;omega))
  obtain⟨W5,Ua⟩:=zx ((w9.setCell ⟨b,2,none⟩ (.slice (some ⟨L,0,none⟩) (m+1) R)))
  rw [Ua] at gB fq iQ ⊢
  clear P1 fW ji Ua d0 d1 d2 d3 f0 f1 f2 f3 a0 a1 a2 a3 fR
  obtain⟨f0,f1,f2,f3⟩:=eO fq
  have aL:IntKind.i64.wrap (m:Int)=(m:Int):=IntWalk.i64_in _ (by have:=J.out;omega)
  have a4:IntKind.i64.wrap (((m+1:Nat):Int) - 1)=(m:Int):=by rw [show(((m+1:Nat):Int) - 1)=(m:Int) by omega];exact aL
  go_wp2_with fail
  go_ret
  refine⟨by rw [J.out];rfl,_,Bld.addF av (by rw [J.out];exact gB) (by rw [fP.out];exact fq) (by rw [K6.out,TU.out,lH.out];exact iQ) HK ax (by rw [J.out,ik.out];exact oC.imp id (fun h=>by omega)) Zl TR,by rw [J.out];exact gB.out,fun A E=>?_⟩
  have h1:L=A:=by simpa [Value.ownBlock] using E
  subst h1
  rw [J.out,ik.out]
  exact oC.imp id (fun h=>by omega)
theorem Ls (A:Nat->Prop) (b:Nat) (l:List Tok) (u:Nat) (N:List Nd) (vn:Value) (w:World) (hl:l.length<=100000) (hu:u<l.length) (hN:N.length<=100000) (h:mc w b l u N vn A):
  Calls Tryz.prog 114 #[.pointer (some ⟨b,0,none⟩)] w (jj w b l (u+1) N ⟨19,(u:Int),[]⟩ vn A):=by
 obtain⟨pt,ct,ak,h,ST⟩:=h
 have I:=h.box
 have G:=zh (fun W (h:mc W b l (u+1) N vn A)=>Gc A b l (u+1) N vn ⟨19,(u:Int),[]⟩ none 0 W hN h (.inl rfl) (fun h=>absurd rfl h) (fun h=>absurd rfl h))
 obtain⟨pv,cv,e1,-,-,-⟩:=h.own.is
 have HH:=zh h
 obtain⟨m,U⟩:=zx l.length
 rw [U] at I hu hl
 have B:Hid (∀W H L,Fr2 (ub b vn) w W->jj W b l (u+1) N ⟨19,(u:Int),[]⟩ vn A H L->jj w b l (u+1) N ⟨19,(u:Int),[]⟩ vn A H L):=zh (fun _ _ _ h1 h2=>h2.after h1)
 have E:Hid (∀W,w.grownBy W none->Fr2 (ub b vn) w (W.setCell ⟨b,1,none⟩ (.int .i64 ((u+1:Nat):Int)))/\mc (W.setCell ⟨b,1,none⟩ (.int .i64 ((u+1:Nat):Int))) b l (u+1) N vn A):=zh (fun W R=>⟨(Fr2.none R).setCell (g:=b) (j:=1) (.inl rfl) _,pt,ct,ak,(HH.kept R).setUsed (u+1),ST⟩)
 obtain⟨d0,d1,d2,d3⟩:=eO I
 have e1:=yi (u:Int) (m:Int)
 have e2:=yi u m
 have ao:IntKind.i64.wrap ((u:Int)+1)=((u+1:Nat):Int):=by rw [IntWalk.i64_in _ (by omega)];omega
 have ap:IntKind.i64.wrap (((u+1:Nat):Int) - 1)=(u:Int):=by rw [IntWalk.i64_in _ (by omega)];omega
 generalize jj w b l (u+1) N ⟨19,(u:Int),[]⟩ vn A=aq at B
 obtain⟨u1,Z⟩:=zx (u+1)
 rw [Z] at ao ap E G B
 clear I U h Z
 go_enter Tryz.func114,Tryz.ntmps114
 go_wp2_with fail
 go_quiet (fail)
 go_wp2_with fail
 obtain⟨Y,O⟩:=E (w.drewN nq) (am (ad _ _) _)
 refine(G _ O).mono ?_
 rintro H L J
 have Eh:=zh (B _ _ _ Y J)
 obtain rfl:=J.1
 clear J Y O B E G
 go_wp2_with fail
 exact Eh
theorem CZ (A:Nat->Prop) (b:Nat) (l:List Tok) (u:Nat) (N:List Nd) (vn:Value) (kind:Int) (m:List Int) (q:Option Addr) (c:Nat) (w:World) (hN:N.length<=100000) (hk:m.length<=100000) (h:mc w b l u N vn A) (hA:∀k,w.heap.size<=k->A k) (hq:VAt w q (ar m)) (eM:okB N.length m=true):
  Calls Tryz.prog 50 #[.pointer (some ⟨b,0,none⟩),.int .i64 kind,.slice q m.length c] w (jj w b l u N ⟨kind,-1,m⟩ vn A):=by
 obtain⟨pt,ct,ap,h,ST⟩:=h
 have fA:=h.box
 have HH:=zh h
 have Zl:=zh ST;have ak:=zh hA
 have KC:=zh (fun W p' c' (h:mc W b l u N vn A) G H h3=>Gc A b l u N vn ⟨kind,-1,m⟩ p' c' W hN h G H h3)
 have I:=zh (tI N.length m q c w (by omega) (by omega) hq)
 rw [eM] at I
 have Y:=zh (fun W h=>zp kind (-1) m q c W hk h)
 have HQ:=zh hq
 have ao:=zh h.turn
 have En:=jJ h.box
 have EO:=zh En
 have U:Hid (∀W B w',Fr2 (ub b vn) w W->jj W b l u N ⟨kind,-1,m⟩ vn A B w'->jj w b l u N ⟨kind,-1,m⟩ vn A B w'):=zh (fun _ _ _ G H=>H.after G)
 obtain⟨pv,cv,J,-,-,-⟩:=h.own.is
 rw [jD] at J
 obtain⟨av,hm⟩:=zx l.length
 obtain⟨aq,L⟩:=zx N.length
 obtain⟨kl,E⟩:=zx m.length
 have HM:=zh L;have lH:=zh E
 rw [L] at J
 rw [hm,J] at fA
 rw [L,E] at I
 rw [E] at Y
 rw [E]
 generalize jj w b l u N ⟨kind,-1,m⟩ vn A=au at U
 obtain⟨d0,d1,d2,d3⟩:=eO fA
 clear ST hA fA hm h L E eM hq hk hN J En
 go_enter Tryz.func50,Tryz.ntmps50
 go_wp2_with fail
 refine I.mono ?_
 rintro B w1 ⟨rfl,hg⟩
 have R:=zh hg
 clear hg I
 go_wp2_with fail
 refine(Y _ (HQ.kept R)).mono ?_
 rintro B w2 ⟨bL,p2,c2,rfl,K1,-,cB⟩
 have bF:=zh (aa R bL)
 have oY:=zh K1
 have bP:=zh cB
 have F3:=R.size
 have B2:=zh F3
 rw [lH.out]
 clear bL K1 cB F3 Y
 go_wp2_with fail
 have O:=zh (KC w2 p2 c2 ⟨pt,ct,ap,HH.kept bF,Zl⟩ oY (fun bc Z ha=>by
  obtain⟨G,-⟩:=bP bc Z ha
  have H:=B2.out
  have h3:=EO.out
  refine⟨by omega,fun B=>?_⟩
  have:=(ao _ B).2
  omega) (fun bc Z ha=>ak _ (by
  have G:=(bP bc Z ha).1
  have H:=B2.out
  omega)))
 rw [lH.out] at O
 refine O.mono ?_
 rintro B w' hp
 have Eh:=zh (U _ _ _ (Fr2.none bF) hp)
 obtain rfl:=hp.1
 clear hp U KC O
 go_wp2_with fail
 exact Eh
end Go.Proofs.YtpkipghjohomcaaGreatDoor
