/- Lemmas. -/
import Derived.Test.YtpkipghjohomcaaGreatDoorP24
import Derived.Test.YtpkipghjohomcaaGreatDoorP7
set_option linter.unusedVariables false
set_option linter.unusedSimpArgs false
namespace Go.Proofs.YtpkipghjohomcaaGreatDoor
structure Fx where
 nm:List UInt8
 base:Nat
 cl:List Ex
 ps:Nat
 bare:Int
structure Dx where
 pub:Bool
 ps:List Fx
 res:Fx
 body:Ex
structure Px where
 imps:List (List UInt8×Nat)
 defs:List Dx
def ME:List UInt8:=[105,110,116]
def boolT:List UInt8:=[98,111,111,108]
def rH:List UInt8:=[112,117,98]
def oX (t:List UInt8):Nat:=if t=ME then 1 else 2
def gz (T:List Tok) (l:List Tr):Tok:=tkT T ((ba l).getD 0 T.length)
def gT (T:List Tok) (f:Fx):Tr->Fx
 | .lf A=>if (tkT T A).kind=1 then { f with nm:=(tkT T A).text,ps:=(tkT T A).pos } else f
 | .nd B m=>if B=5 then { f with base:=oX (gz T m).text,bare:=((gz T m).pos+(gz T m).text.length:Nat) } else if B=6 then { f with cl:=[(bQ T m).headD pW],bare:=-1 } else f
def cm (T:List Tok) (l:List Tr):Fx:=l.foldl (gT T) ⟨[],0,[],0,0⟩
def eI:Tr->List Tr
 | .lf _=>[]
 | .nd _ m=>m
def aU:Tr->Nat
 | .lf _=>19
 | .nd m _=>m
def bA (T:List Tok) (l:List Tr):List Fx:=(l.filter (fun m=>aU m == 4)).map (fun m=>cm T (eI m))
def lG (T:List Tok) (l:List Tr):Dx:=⟨decide ((gz T l).text=rH),bA T l,cm T l,axT T (l.getD (l.length - 2) (.lf 0))⟩
def Cf (T:List Tok) (l:List Tr):List UInt8×Nat:=((tkT T ((ba l).getD 1 T.length)).text,(tkT T ((ba l).getD 1 T.length)).pos)
def bg (T:List Tok) (l:List Tr):Px:=⟨(l.filter (fun m=>aU m == 2)).map (fun m=>Cf T (eI m)),(l.filter (fun m=>aU m == 3)).map (fun m=>lG T (eI m))⟩
inductive ShC (T:List Tok):List Tr->Prop where
 | no:ShC T []
 | yes (i j:Nat) (e:Tr):isN e=true->WE T e->ShC T [.nd 6 [.lf i,e,.lf j]]
inductive ShT (T:List Tok):List Tr->Prop where
 | mk (c b:Nat) (cl:List Tr):(tkT T c).kind≠1->(tkT T b).text=ME\/(tkT T b).text=boolT->ShC T cl->ShT T (.lf c::.nd 5 [.lf b]::cl)
inductive ShP (T:List Tok):Tr->Prop where
 | mk (n:Nat) (l:List Tr):(tkT T n).kind=1->ShT T l->ShP T (.nd 4 (.lf n::l))
inductive tc (T:List Tok):List Tr->Prop where
 | one (p:Tr):ShP T p->tc T [p]
 | more (l:List Tr) (c:Nat) (p:Tr):tc T l->(tkT T c).kind≠1->ShP T p->tc T (l++[.lf c]++[p])
inductive ShD (T:List Tok):Tr->Prop where
 | mk (pb:List Tr) (f n o:Nat) (ps:List Tr) (c:Nat) (tl:List Tr) (q:Nat) (body:Tr) (m:Nat):(pb = []\/∃p,pb = [.lf p]/\(tkT T p).text=rH/\(tkT T p).kind≠1)->(tkT T f).text = [102,117,110]->(tkT T f).kind≠1->(tkT T n).kind=1->(tkT T o).kind≠1->(ps = []\/tc T ps)->(tkT T c).kind≠1->ShT T tl->(tkT T q).kind≠1->isN body=true->WE T body->(tkT T m).kind≠1->
   ShD T (.nd 3 (pb++[.lf f,.lf n,.lf o]++ps++[.lf c]++tl++[.lf q]++[body]++[.lf m]))
inductive ShI (T:List Tok):Tr->Prop where
 | mk (i n m:Nat):(tkT T n).kind=1->ShI T (.nd 2 [.lf i,.lf n,.lf m])
def Lf (T:List Tok) (l:List Tr):Prop:=∃is A B,l=is++A++[.lf B]/\(∀m∈is,ShI T m)/\(∀m∈A,ShD T m)
section
variable (T:List Tok)
theorem nJ {w:List UInt8} {s:St} (h:(an T w s).2.e=0):∃i,(an T w s).1 = [.lf i]/\(tkT T i).text=w/\(tkT T i).kind≠1/\s.e=0:=by
 obtain⟨m,A,E,B⟩:=lX T h
 exact⟨_,m,A,by omega,B⟩
theorem Sz {w:List UInt8} {s:St} (h:isQ T w s=true):(ae T s).1 = [.lf s.i]/\(tkT T s.i).text=w/\(tkT T s.i).kind≠1/\s.e=0:=by
 obtain⟨m,B,A⟩:=oI T h
 exact⟨rfl,m,by omega,A⟩
variable {et:St->RT} (hx:∀s,WO T (et s)) (hk:∀s,cE s (et s))
theorem X8 {a:RT} (h:(iY T a).2.e=0):∃b,(iY T a).1=a.1++[.nd 5 [.lf b]]/\((tkT T b).text=ME\/(tkT T b).text=boolT)/\a.2.e=0:=by
 unfold iY at h ⊢
 split
 ·rename_i m
  rcases m with m | m
  ·exact⟨a.2.i,rfl,.inl (oI T m).1,(oI T m).2.2⟩
  ·exact⟨a.2.i,rfl,.inr (oI T m).1,(oI T m).2.2⟩
 ·rename_i m
  rw [if_neg m] at h
  exact absurd h (df T (by decide) _)
include hx
theorem GH {s:St} (h:(cj T et s).2.e=0):ShT T (cj T et s).1/\s.e=0:=by
 unfold cj at h ⊢
 have ak:∀m:RT,(iD T et m).2.e=0->∃B,(iD T et m).1=m.1++B/\ShC T B/\m.2.e=0:=fun m A=>by
  unfold iD at A ⊢
  split
  ·rename_i E
   rw [if_pos E] at A
   obtain⟨ap,hj,-,-,G⟩:=nJ T A
   have G:(et (setIn true (ae T m.2).2)).2.e=0:=G
   obtain⟨ao,hu,rU,rR⟩:=hx _ G
   simp only []
   rw [hj,hu]
   exact⟨_,rfl,ShC.yes _ _ ao rU rR,(oI T E).2.2⟩
  ·rename_i E
   rw [if_neg E] at A
   exact⟨[],by simp,ShC.no,A⟩
 obtain⟨B,I,J,L⟩:=ak _ h
 obtain⟨m,O,R,U⟩:=X8 T L
 obtain⟨H,Y,-,Z,h9⟩:=nJ T U
 rw [I,O,Y]
 exact⟨ShT.mk H m B Z R J,h9⟩
theorem T9 {s:St} (h:(fD T et s).2.e=0):(∃p,(fD T et s).1 = [p]/\ShP T p)/\s.e=0:=by
 unfold fD at h ⊢
 obtain⟨m,A⟩:=GH T hx h
 obtain⟨B,E,G⟩:=pG T A
 simp only []
 rw [B]
 exact⟨⟨_,rfl,ShP.mk _ _ E m⟩,G⟩
theorem GZ:∀f k r,(r.2.e=0->tc T r.1)->(bT T (fD T et) f k r).2.e=0->tc T (bT T (fD T et) f k r).1
 | 0,k,r,h,m=>h m
 | f+1,k,r,h,m=>by
   unfold bT at m ⊢
   split
   ·rename_i A
    rw [if_pos A] at m
    refine GZ f _ _ (fun m=>?_) m
    have m:(fD T et (if k=8 then aH T 15 (ae T r.2).2 else (ae T r.2).2)).2.e=0:=m
    obtain⟨⟨G,E,B⟩,-⟩:=T9 T hx m
    show tc T (r.1++(ae T r.2).1++(fD T et (if k=8 then aH T 15 (ae T r.2).2 else (ae T r.2).2)).1)
    rw [E,iy]
    exact tc.more _ _ _ (h (oI T A).2.2) (Sz T A).2.2.1 B
   ·rename_i A
    rw [if_neg A] at m
    exact h m
theorem M3 {s:St} (h:(fI T et s).2.e=0):tc T (fI T et s).1:=by
 unfold fI at h ⊢
 refine GZ T hx _ _ _ (fun A=>?_) h
 obtain⟨⟨E,B,m⟩,-⟩:=T9 T hx A
 rw [B];exact tc.one E m
omit hx in
theorem WN {p:RT} (h:(dJ T p).2.e=0):∃f n o,(dJ T p).1=p.1++[.lf f,.lf n,.lf o]/\(tkT T f).text = [102,117,110]/\(tkT T f).kind≠1/\(tkT T n).kind=1/\(tkT T o).kind≠1/\p.2.e=0:=by
 unfold dJ at h ⊢
 simp only [] at h ⊢
 obtain⟨o,O,-,I,E⟩:=nJ T h
 obtain⟨L,m,G⟩:=pG T E
 obtain⟨f,J,B,A,H⟩:=nJ T G
 rw [O,L,J]
 exact⟨f,_,o,rfl,B,A,m,I,H⟩
theorem V1 {o:RT} (h:(eH T et o).2.e=0):∃A,(eH T et o).1=o.1++A/\(A = []\/tc T A)/\o.2.e=0:=by
 unfold eH at h ⊢
 split
 ·rename_i m
  rw [if_pos m] at h
  exact⟨_,rfl,.inr (M3 T hx h),m.1⟩
 ·rename_i m
  rw [if_neg m] at h
  exact⟨[],by simp,.inl rfl,h⟩
include hk
theorem WD {r:RT} (h:(gv T et r).2.e=0):∃c B q u m,(gv T et r).1=r.1++[.lf c]++B++[.lf q]++[u]++[.lf m]/\(tkT T c).kind≠1/\ShT T B/\(tkT T q).kind≠1/\isN u=true/\WE T u/\(tkT T m).kind≠1/\r.2.e=0:=by
 unfold gv at h ⊢
 simp only [] at h ⊢
 obtain⟨m,U,-,H,A⟩:=nJ T h
 obtain⟨u,hu,rU,rR⟩:=hx _ A
 have I:=wj (hk _) A
 obtain⟨q,Y,-,E,J⟩:=nJ T I
 obtain⟨Z,L⟩:=GH T hx J
 obtain⟨c,R,-,G,O⟩:=nJ T L
 rw [U,hu,Y,R]
 exact⟨c,_,q,u,m,by simp only [List.append_assoc],G,Z,E,rU,rR,H,O⟩
theorem ZZ {s:St} (h:(jg T et s).2.e=0):∃d,(jg T et s).1 = [d]/\ShD T d:=by
 unfold jg at h ⊢
 simp only [] at h ⊢
 obtain⟨U,tl,av,ax,ap,h1,J,ht,G,rU,rR,L,Y⟩:=WD T hx hk h
 obtain⟨ps,qr,ao,Z⟩:=V1 T hx Y
 obtain⟨ak,aq,au,hB,O,I,H,eM,e3⟩:=WN T Z
 obtain⟨m,E,R⟩:∃m,(cV T s).1=m/\(m = []\/∃B,m = [.lf B]/\(tkT T B).text=rH/\(tkT T B).kind≠1):=by
  unfold cV
  split
  ·rename_i A
   exact⟨_,rfl,.inr ⟨_,(Sz T A).1,(Sz T A).2.1,(Sz T A).2.2.1⟩⟩
  ·exact⟨[],rfl,.inl rfl⟩
 rw [h1,qr,hB,E]
 exact⟨_,rfl,ShD.mk m ak aq au ps U tl av ax ap R O I H eM ao J ht G rU rR L⟩
omit hx hk
theorem uV {c:St->Bool} {step:RT->RT} {most:Nat} {Q:Tr->Prop} (E:∀r,c r.2=true->(step r).2.e=0->∃t,(step r).1=r.1++[t]/\Q t/\r.2.e=0):
  ∀f k (r:RT),(eW T c step most f k r).1=true->(eW T c step most f k r).2.2.e=0->∃l,(eW T c step most f k r).2.1=r.1++l/\(∀t∈l,Q t)/\r.2.e=0
 | 0,k,r,_,he=>⟨[],by simp [eW],fun t A=>by simp at A,he⟩
 | f+1,k,r,h1,he=>by
   unfold eW at h1 he ⊢
   split
   ·rename_i m
    rw [if_pos m] at h1 he
    split
    ·rename_i hk
     rw [if_pos hk] at h1;cases h1
    ·rename_i hk
     rw [if_neg hk] at h1 he
     obtain⟨l,G,H,I⟩:=uV E f _ _ h1 he
     obtain⟨t,J,L,O⟩:=E r m I
     refine⟨t::l,by rw [G,J];simp,fun R B=>?_,O⟩
     rcases List.mem_cons.1 B with rfl | B
     ·exact L
     ·exact H R B
   ·rename_i m
    rw [if_neg m] at h1 he
    exact⟨[],by simp,fun t A=>by simp at A,he⟩
end
theorem Vz {T:List Tok} (hT:wI T) {D:Nat} (m:(aR T D false).2.e=0):Lf T (aR T D false).1:=by
 have hw:=Xy T hT D D (Nat.le_refl _)
 have hk:=gl T D D
 have U:aR T D false=bE T (nxT T D D).expr aI:=rfl
 rw [U] at m ⊢
 unfold bE at m ⊢
 by_cases G:(aG T ([],aI)).1=false
 ·rw [if_pos G] at m
  exact absurd m (iA T _ _ _ G)
 ·have ak:(aG T ([],aI)).1=true:=by simpa using G
  rw [if_neg G] at m ⊢
  by_cases H:(dk T (nxT T D D).expr (aG T ([],aI)).2).1=false
  ·rw [if_pos H] at m
   exact absurd m (iA T _ _ _ H)
  ·have ao:(dk T (nxT T D D).expr (aG T ([],aI)).2).1=true:=by simpa using H
   rw [if_neg H] at m ⊢
   obtain⟨k1,-,Y⟩:=pG T m
   obtain⟨L,J,I,Z⟩:=uV T (Q:=ShD T) (fun E A B=>by
    obtain⟨R,J,I⟩:=ZZ T hw.expr hk.expr (s:=E.2) B
    refine⟨R,?_,I,?_⟩
    ·show E.1++(jg T (nxT T D D).expr E.2).1=_
     rw [J]
    ·unfold ki at A
     rcases Bool.or_eq_true_iff.1 A with A | A<;>exact(oI T A).2.2) _ _ _ ao Y
   obtain⟨is,hi,au,-⟩:=uV T (Q:=ShI T) (fun E A B=>by
    unfold fB at B ⊢
    simp only [] at B ⊢
    obtain⟨av,hm,-,-,e3⟩:=nJ T B
    obtain⟨hn,O,e4⟩:=pG T e3
    refine⟨_,?_,ShI.mk E.2.i _ av O,(oI T A).2.2⟩
    rw [hm,hn,iy];rfl) _ _ _ ak Z
   have ap:(dk T (nxT T D D).expr (aG T ([],aI)).2).2.1=(aG T ([],aI)).2.1++L:=J
   have aq:(aG T ([],aI)).2.1 = []++is:=hi
   refine⟨is,L,(dk T (nxT T D D).expr (aG T ([],aI)).2).2.2.i,?_,au,I⟩
   show(dk T (nxT T D D).expr (aG T ([],aI)).2).2.1++(aM T 5 (dk T (nxT T D D).expr (aG T ([],aI)).2).2.2).1=_
   rw [k1,ap,aq];rfl
end Go.Proofs.YtpkipghjohomcaaGreatDoor
set_option maxHeartbeats 4000000
set_option maxRecDepth 100000
namespace Go.Proofs.YtpkipghjohomcaaGreatDoor
open Go.RowKit
def cO (b bb:Nat) (T:List Tok) (D n:Nat) (P:St->Prop) (f:Nat) (sub:St->RT):Prop:=
 ∀(m:St) (B:List Nd) (E:Value) (A:Nat->Prop) (w:World),P m->XAt w b bb T D n m m.i B E A->Calls Tryz.prog f #[.pointer (some ⟨b,0,none⟩)] w (ek b bb T D n 0 m (sub m) B E A w)
theorem ek.fail {b bb:Nat} {T:List Tok} {D n m k:Nat} (E:m≠0) {s:St} {N:List Nd} {vn:Value} {A:Nat->Prop} {w B:World} (h:XAt B b bb T D n (aH T m s) s.i N vn A) (G:Step b bb vn w vn B):ek b bb T D n k s ([],aH T m s) N vn A w (.returned (.int .i64 (-1))) B:=
 ⟨-1,N,vn,rfl,by show XAt B b bb T D n (aH T m s) (aH T m s).i N vn A;rw [lc];exact h,G,aZ.fail E [],fun h=>by show(aH T m s).e≠0;rw [ic T h];exact h⟩
section
variable (b bb:Nat) (T:List Tok) (D n:Nat)
theorem iB (hD:D<=200) (hn:n<=D) (P:St->Prop) (sub:St->RT) (O:n<D->cO b bb T D (n+1) P 82 sub) (s:St) (N:List Nd) (vn:Value) (A:Nat->Prop) (w:World) (R:P s) (h:XAt w b bb T D n s s.i N vn A):
  Calls Tryz.prog 64 #[.pointer (some ⟨b,0,none⟩),.func (.func 82) #[] #[]] w (ek b bb T D n 0 s (ei T D n sub s) N vn A w):=by
 obtain⟨d0,d1,d2,d3,d4,d5,d6,d7,d8,d9,j0⟩:=cR h.box
 have HX:=zh h
 have H:Hid (∀m,XAt (w.drewN m) b bb T D n s s.i N vn A):=zh (fun m=>HX.kept (am (ad _ _) _))
 have Y:Hid (∀m,Step b bb vn w vn (w.drewN m)):=zh (fun m=>Step.of (am (ad _ _) _))
 by_cases B:n=D
 ·have L:Hid (ei T D n sub s=([],aH T 23 s)):=zh (by unfold ei;rw [if_pos B])
  have HF:=zh (fun w h=>kR b bb T D n 23 s s.i N vn A w h)
  have e1:(n == D)=true:=by rw [B];simp
  have uw:((n:Int) == (D:Int))=true:=by rw [B];simp
  rw [L.out]
  clear h O R hn hD B
  go_enter Tryz.func64,Tryz.ntmps64
  go_wp2_with fail
  go_quiet (fail)
  go_wp2_with fail
  refine(HF _ (H _)).mono ?_
  rintro ao Z ⟨rfl,E,G⟩
  have HQ:=zh (ek.fail (k:=0) (by decide) E ((Y _).trans G))
  clear E G
  go_wp2_with fail
  go_ret
  exact HQ
 ·have L:Hid (ei T D n sub s=sub s):=zh (by unfold ei;rw [if_neg B])
  have J:=zh (fun w h=>O (by omega) s N vn A w R h)
  have e1:(n == D)=false:=xz.2 B
  have uw:=yi (n:Int) (D:Int)
  have ap:IntKind.i64.wrap ((n:Int)+1)=((n+1:Nat):Int):=by rw [IntWalk.i64_in _ (by omega)];omega
  have aq:IntKind.i64.wrap (((n+1:Nat):Int) - 1)=(n:Int):=by rw [IntWalk.i64_in _ (by omega)];omega
  obtain⟨U,ak⟩:=zx (n+1)
  rw [ak] at ap aq J
  have JD:Hid (∀m,XAt ((w.drewN m).setCell ⟨b,6,none⟩ (.int .i64 (U:Int))) b bb T D U s s.i N vn A):=zh (fun m=>(H m).turn ((Fr2.refl _ _).setCell (aK b) _) ((ab (i:=6) (H m).box).trans rfl) HX.ok)
  have B2:Hid (∀m,Step b bb vn w vn ((w.drewN m).setCell ⟨b,6,none⟩ (.int .i64 (U:Int)))):=zh (fun m=>(Y m).trans (Step.self ((Fr2.refl _ _).setCell (aK b) _)))
  rw [L.out]
  clear h O R hn hD B ak
  go_enter Tryz.func64,Tryz.ntmps64
  go_wp2_with fail
  go_quiet (fail)
  go_wp2_with fail
  refine(J _ (JD _)).mono ?_
  rintro ao Z ⟨au,N',cC,rfl,E,G,o2,k2⟩
  have I:=zh E;have nE:=zh ((B2 _).trans G);have jN:=zh o2;have BK:=zh k2
  obtain⟨d0,d1,d2,d3,d4,d5,d6,d7,d8,d9,j0⟩:=cR E.box
  clear E G o2 k2 JD B2 H Y J
  go_wp2_with fail
  go_ret
  have hf:Fr2 (dm b) Z (Z.setCell ⟨b,6,none⟩ (.int .i64 (n:Int))):=(Fr2.refl _ _).setCell (aK b) _
  exact⟨au,N',cC,rfl,I.turn hf ((ab (i:=6) I.box).trans rfl) I.ok,nE.trans (Step.self hf),jN,BK⟩
theorem iC (hD:D<=200) (hn:n<=D) (P:St->Prop) (sub:St->RT) (O:n<D->cO b bb T D (n+1) P 65 sub) (s:St) (N:List Nd) (vn:Value) (A:Nat->Prop) (w:World) (R:P s) (h:XAt w b bb T D n s s.i N vn A):
  Calls Tryz.prog 64 #[.pointer (some ⟨b,0,none⟩),.func (.func 65) #[] #[]] w (ek b bb T D n 0 s (ei T D n sub s) N vn A w):=by
 obtain⟨d0,d1,d2,d3,d4,d5,d6,d7,d8,d9,j0⟩:=cR h.box
 have HX:=zh h
 have H:Hid (∀m,XAt (w.drewN m) b bb T D n s s.i N vn A):=zh (fun m=>HX.kept (am (ad _ _) _))
 have Y:Hid (∀m,Step b bb vn w vn (w.drewN m)):=zh (fun m=>Step.of (am (ad _ _) _))
 by_cases B:n=D
 ·have L:Hid (ei T D n sub s=([],aH T 23 s)):=zh (by unfold ei;rw [if_pos B])
  have HF:=zh (fun w h=>kR b bb T D n 23 s s.i N vn A w h)
  have e1:(n == D)=true:=by rw [B];simp
  have uw:((n:Int) == (D:Int))=true:=by rw [B];simp
  rw [L.out]
  clear h O R hn hD B
  go_enter Tryz.func64,Tryz.ntmps64
  go_wp2_with fail
  go_quiet (fail)
  go_wp2_with fail
  refine(HF _ (H _)).mono ?_
  rintro ao Z ⟨rfl,E,G⟩
  have HQ:=zh (ek.fail (k:=0) (by decide) E ((Y _).trans G))
  clear E G
  go_wp2_with fail
  go_ret
  exact HQ
 ·have L:Hid (ei T D n sub s=sub s):=zh (by unfold ei;rw [if_neg B])
  have J:=zh (fun w h=>O (by omega) s N vn A w R h)
  have e1:(n == D)=false:=xz.2 B
  have uw:=yi (n:Int) (D:Int)
  have ap:IntKind.i64.wrap ((n:Int)+1)=((n+1:Nat):Int):=by rw [IntWalk.i64_in _ (by omega)];omega
  have aq:IntKind.i64.wrap (((n+1:Nat):Int) - 1)=(n:Int):=by rw [IntWalk.i64_in _ (by omega)];omega
  obtain⟨U,ak⟩:=zx (n+1)
  rw [ak] at ap aq J
  have JD:Hid (∀m,XAt ((w.drewN m).setCell ⟨b,6,none⟩ (.int .i64 (U:Int))) b bb T D U s s.i N vn A):=zh (fun m=>(H m).turn ((Fr2.refl _ _).setCell (aK b) _) ((ab (i:=6) (H m).box).trans rfl) HX.ok)
  have B2:Hid (∀m,Step b bb vn w vn ((w.drewN m).setCell ⟨b,6,none⟩ (.int .i64 (U:Int)))):=zh (fun m=>(Y m).trans (Step.self ((Fr2.refl _ _).setCell (aK b) _)))
  rw [L.out]
  clear h O R hn hD B ak
  go_enter Tryz.func64,Tryz.ntmps64
  go_wp2_with fail
  go_quiet (fail)
  go_wp2_with fail
  refine(J _ (JD _)).mono ?_
  rintro ao Z ⟨au,N',cC,rfl,E,G,o2,k2⟩
  have I:=zh E;have nE:=zh ((B2 _).trans G);have jN:=zh o2;have BK:=zh k2
  obtain⟨d0,d1,d2,d3,d4,d5,d6,d7,d8,d9,j0⟩:=cR E.box
  clear E G o2 k2 JD B2 H Y J
  go_wp2_with fail
  go_ret
  have hf:Fr2 (dm b) Z (Z.setCell ⟨b,6,none⟩ (.int .i64 (n:Int))):=(Fr2.refl _ _).setCell (aK b) _
  exact⟨au,N',cC,rfl,I.turn hf ((ab (i:=6) I.box).trans rfl) I.ok,nE.trans (Step.self hf),jN,BK⟩
theorem tZ (hD:D<=200) (hn:n<=D) (P:St->Prop) (sub:St->RT) (O:n<D->cO b bb T D (n+1) P 137 sub) (s:St) (N:List Nd) (vn:Value) (A:Nat->Prop) (w:World) (R:P s) (h:XAt w b bb T D n s s.i N vn A):
  Calls Tryz.prog 64 #[.pointer (some ⟨b,0,none⟩),.func (.func 137) #[] #[]] w (ek b bb T D n 0 s (ei T D n sub s) N vn A w):=by
 obtain⟨d0,d1,d2,d3,d4,d5,d6,d7,d8,d9,j0⟩:=cR h.box
 have HX:=zh h
 have H:Hid (∀m,XAt (w.drewN m) b bb T D n s s.i N vn A):=zh (fun m=>HX.kept (am (ad _ _) _))
 have Y:Hid (∀m,Step b bb vn w vn (w.drewN m)):=zh (fun m=>Step.of (am (ad _ _) _))
 by_cases B:n=D
 ·have L:Hid (ei T D n sub s=([],aH T 23 s)):=zh (by unfold ei;rw [if_pos B])
  have HF:=zh (fun w h=>kR b bb T D n 23 s s.i N vn A w h)
  have e1:(n == D)=true:=by rw [B];simp
  have uw:((n:Int) == (D:Int))=true:=by rw [B];simp
  rw [L.out]
  clear h O R hn hD B
  go_enter Tryz.func64,Tryz.ntmps64
  go_wp2_with fail
  go_quiet (fail)
  go_wp2_with fail
  refine(HF _ (H _)).mono ?_
  rintro ao Z ⟨rfl,E,G⟩
  have HQ:=zh (ek.fail (k:=0) (by decide) E ((Y _).trans G))
  clear E G
  go_wp2_with fail
  go_ret
  exact HQ
 ·have L:Hid (ei T D n sub s=sub s):=zh (by unfold ei;rw [if_neg B])
  have J:=zh (fun w h=>O (by omega) s N vn A w R h)
  have e1:(n == D)=false:=xz.2 B
  have uw:=yi (n:Int) (D:Int)
  have ap:IntKind.i64.wrap ((n:Int)+1)=((n+1:Nat):Int):=by rw [IntWalk.i64_in _ (by omega)];omega
  have aq:IntKind.i64.wrap (((n+1:Nat):Int) - 1)=(n:Int):=by rw [IntWalk.i64_in _ (by omega)];omega
  obtain⟨U,ak⟩:=zx (n+1)
  rw [ak] at ap aq J
  have JD:Hid (∀m,XAt ((w.drewN m).setCell ⟨b,6,none⟩ (.int .i64 (U:Int))) b bb T D U s s.i N vn A):=zh (fun m=>(H m).turn ((Fr2.refl _ _).setCell (aK b) _) ((ab (i:=6) (H m).box).trans rfl) HX.ok)
  have B2:Hid (∀m,Step b bb vn w vn ((w.drewN m).setCell ⟨b,6,none⟩ (.int .i64 (U:Int)))):=zh (fun m=>(Y m).trans (Step.self ((Fr2.refl _ _).setCell (aK b) _)))
  rw [L.out]
  clear h O R hn hD B ak
  go_enter Tryz.func64,Tryz.ntmps64
  go_wp2_with fail
  go_quiet (fail)
  go_wp2_with fail
  refine(J _ (JD _)).mono ?_
  rintro ao Z ⟨au,N',cC,rfl,E,G,o2,k2⟩
  have I:=zh E;have nE:=zh ((B2 _).trans G);have jN:=zh o2;have BK:=zh k2
  obtain⟨d0,d1,d2,d3,d4,d5,d6,d7,d8,d9,j0⟩:=cR E.box
  clear E G o2 k2 JD B2 H Y J
  go_wp2_with fail
  go_ret
  have hf:Fr2 (dm b) Z (Z.setCell ⟨b,6,none⟩ (.int .i64 (n:Int))):=(Fr2.refl _ _).setCell (aK b) _
  exact⟨au,N',cC,rfl,I.turn hf ((ab (i:=6) I.box).trans rfl) I.ok,nE.trans (Step.self hf),jN,BK⟩
theorem yB (hD:D<=200) (hn:n<=D) (P:St->Prop) (sub:St->RT) (O:n<D->cO b bb T D (n+1) P 171 sub) (s:St) (N:List Nd) (vn:Value) (A:Nat->Prop) (w:World) (R:P s) (h:XAt w b bb T D n s s.i N vn A):
  Calls Tryz.prog 64 #[.pointer (some ⟨b,0,none⟩),.func (.func 171) #[] #[]] w (ek b bb T D n 0 s (ei T D n sub s) N vn A w):=by
 obtain⟨d0,d1,d2,d3,d4,d5,d6,d7,d8,d9,j0⟩:=cR h.box
 have HX:=zh h
 have H:Hid (∀m,XAt (w.drewN m) b bb T D n s s.i N vn A):=zh (fun m=>HX.kept (am (ad _ _) _))
 have Y:Hid (∀m,Step b bb vn w vn (w.drewN m)):=zh (fun m=>Step.of (am (ad _ _) _))
 by_cases B:n=D
 ·have L:Hid (ei T D n sub s=([],aH T 23 s)):=zh (by unfold ei;rw [if_pos B])
  have HF:=zh (fun w h=>kR b bb T D n 23 s s.i N vn A w h)
  have e1:(n == D)=true:=by rw [B];simp
  have uw:((n:Int) == (D:Int))=true:=by rw [B];simp
  rw [L.out]
  clear h O R hn hD B
  go_enter Tryz.func64,Tryz.ntmps64
  go_wp2_with fail
  go_quiet (fail)
  go_wp2_with fail
  refine(HF _ (H _)).mono ?_
  rintro ao Z ⟨rfl,E,G⟩
  have HQ:=zh (ek.fail (k:=0) (by decide) E ((Y _).trans G))
  clear E G
  go_wp2_with fail
  go_ret
  exact HQ
 ·have L:Hid (ei T D n sub s=sub s):=zh (by unfold ei;rw [if_neg B])
  have J:=zh (fun w h=>O (by omega) s N vn A w R h)
  have e1:(n == D)=false:=xz.2 B
  have uw:=yi (n:Int) (D:Int)
  have ap:IntKind.i64.wrap ((n:Int)+1)=((n+1:Nat):Int):=by rw [IntWalk.i64_in _ (by omega)];omega
  have aq:IntKind.i64.wrap (((n+1:Nat):Int) - 1)=(n:Int):=by rw [IntWalk.i64_in _ (by omega)];omega
  obtain⟨U,ak⟩:=zx (n+1)
  rw [ak] at ap aq J
  have JD:Hid (∀m,XAt ((w.drewN m).setCell ⟨b,6,none⟩ (.int .i64 (U:Int))) b bb T D U s s.i N vn A):=zh (fun m=>(H m).turn ((Fr2.refl _ _).setCell (aK b) _) ((ab (i:=6) (H m).box).trans rfl) HX.ok)
  have B2:Hid (∀m,Step b bb vn w vn ((w.drewN m).setCell ⟨b,6,none⟩ (.int .i64 (U:Int)))):=zh (fun m=>(Y m).trans (Step.self ((Fr2.refl _ _).setCell (aK b) _)))
  rw [L.out]
  clear h O R hn hD B ak
  go_enter Tryz.func64,Tryz.ntmps64
  go_wp2_with fail
  go_quiet (fail)
  go_wp2_with fail
  refine(J _ (JD _)).mono ?_
  rintro ao Z ⟨au,N',cC,rfl,E,G,o2,k2⟩
  have I:=zh E;have nE:=zh ((B2 _).trans G);have jN:=zh o2;have BK:=zh k2
  obtain⟨d0,d1,d2,d3,d4,d5,d6,d7,d8,d9,j0⟩:=cR E.box
  clear E G o2 k2 JD B2 H Y J
  go_wp2_with fail
  go_ret
  have hf:Fr2 (dm b) Z (Z.setCell ⟨b,6,none⟩ (.int .i64 (n:Int))):=(Fr2.refl _ _).setCell (aK b) _
  exact⟨au,N',cC,rfl,I.turn hf ((ab (i:=6) I.box).trans rfl) I.ok,nE.trans (Step.self hf),jN,BK⟩
theorem V8 (I:D<=200) (E:n<=D) (H:n<D->cO b bb T D (n+1) (fun m=>m.inn=false) 82 (gJ T D (n+1) (NT T D (n+1)))):cO b bb T D n (fun m=>m.inn=false) 118 (NT T D n).expr:=by
 intro m R U A w B h
 have G:=zh (iB b bb T D n I E _ _ H m R U A w B h)
 have L:=zh (sG T E m B)
 clear h H B E I
 go_enter Tryz.func118,Tryz.ntmps118
 go_wp2_with fail
 refine G.mono ?_
 rintro ak w2 J
 have O:=zh (J.eqv L)
 obtain⟨ao,Y,Z,rfl,-⟩:=J
 clear G
 go_wp2_with fail
 go_ret
 exact O
end
end Go.Proofs.YtpkipghjohomcaaGreatDoor
namespace Go.Proofs.YtpkipghjohomcaaGreatDoor
open Go.RowKit List Nat
def KS:List (List UInt8):=[[108,101,116],[105,102],[97,115,115,101,114,116],[61,62],[124,124],[38,38],[110,111,116],[61],[60,62],[60],[60,61],[62],[62,61],[43],[45],[42],[47],[37],[116,114,117,101],[102,97,108,115,101],[114,101,115],[40],[41],[46],[44],[105,109,112,111,114,116],[112,117,98],[102,117,110],[59],[58],[105,110,116],[98,111,111,108],[123],[125],[105,110],[116,104,101,110],[101,108,115,101]]
structure dC (T:List Tok):Prop where
 len:T.length<=40000
 short:vR T
 ends:vC T
 keys:∀(i:Nat) (t:Tok),T[i]? = some t->t.text∈KS->t.kind=2\/t.kind=4
theorem NC {T:List Tok} (h:dC T) {s:St} (m:(az T s).text∈KS):(az T s).kind=2\/(az T s).kind=4:=by
 unfold az at m ⊢
 cases A:T[s.i]? with
 | none=>rw [A] at m;exact absurd m (by decide)
 | some B=>rw [A] at m;exact h.keys _ _ A m
theorem jW {T:List Tok} (h:dC T) {ws:List (List UInt8)} (G:∀x∈ws,x∈KS) (s:St):atQ T ws s=ws.any fun x=>isQ T x s:=by
 unfold atQ isQ
 by_cases A:s.e=0
 ·rw [zd A,Bool.true_and]
  by_cases m:(az T s).text∈ws
  ·rw [zd m]
   exact(any_eq_true.2 ⟨_,m,zd ⟨A,NC h (G _ m),rfl⟩⟩).symm
  ·rw [VW m]
   refine(any_eq_false.2 fun x E=>?_).symm
   have:¬(s.e=0/\((az T s).kind=2\/(az T s).kind=4)/\(az T s).text=x):=fun B=>m (B.2.2▸E)
   rw [VW this];decide
 ·rw [VW A,Bool.false_and]
  refine(any_eq_false.2 fun x E=>?_).symm
  have:¬(s.e=0/\((az T s).kind=2\/(az T s).kind=4)/\(az T s).text=x):=fun B=>A B.1
  rw [VW this];decide
theorem at_one {T:List Tok} (h:dC T) {x:List UInt8} (m:x∈KS) (s:St):atQ T [x] s=isQ T x s:=by
 rw [jW h (fun B A=>by rw [mem_singleton.1 A];exact m)];simp
theorem ow {T:List Tok} (h:dC T) {ws:List (List UInt8)} (A:∀x∈ws,x∈KS):TM T ws:=fun s m=>by
 rw [jW h A] at m
 obtain⟨x,-,B⟩:=any_eq_true.1 m
 exact ah B
theorem RJ {T:List Tok} (h:dC T) {x:List UInt8} (m:x∈KS) (s:St):oO T [x] s=an T x s:=by
 unfold oO an;rw [at_one h m]
section
variable {b bb:Nat} {T:List Tok} {D n:Nat} {A0:Nat->Prop} {bt:Value} {w0 w w':World} {s:St} {u:Nat} {N:List Nd} {vn:Value} {L:List (Value×Th)}
theorem KX.ints1 (h:KX b bb T D n A0 bt w0 w s u N vn L) (a:Int):KX b bb T D n A0 bt w0 (w.alloc (.cells #[.int .i64 a] 3)) s u N vn ((.slice (some ⟨w.heap.size,0,none⟩) 1 1,.ints [a])::L):=h.ints [a] (by simp) (by simp)
theorem KX.ints2 (h:KX b bb T D n A0 bt w0 w s u N vn L) (a c:Int):KX b bb T D n A0 bt w0 (w.alloc (.cells #[.int .i64 a,.int .i64 c] 3)) s u N vn ((.slice (some ⟨w.heap.size,0,none⟩) 2 2,.ints [a,c])::L):=h.ints [a,c] (by simp) (by simp)
theorem KX.ints3 (h:KX b bb T D n A0 bt w0 w s u N vn L) (a c d:Int):KX b bb T D n A0 bt w0 (w.alloc (.cells #[.int .i64 a,.int .i64 c,.int .i64 d] 3)) s u N vn ((.slice (some ⟨w.heap.size,0,none⟩) 3 3,.ints [a,c,d])::L):=h.ints [a,c,d] (by simp) (by simp)
theorem KX.ints4 (h:KX b bb T D n A0 bt w0 w s u N vn L) (a c d e:Int):KX b bb T D n A0 bt w0 (w.alloc (.cells #[.int .i64 a,.int .i64 c,.int .i64 d,.int .i64 e] 3)) s u N vn ((.slice (some ⟨w.heap.size,0,none⟩) 4 4,.ints [a,c,d,e])::L):=h.ints [a,c,d,e] (by simp) (by simp)
theorem KX.ints6 (h:KX b bb T D n A0 bt w0 w s u N vn L) (a c d e f g:Int):KX b bb T D n A0 bt w0 (w.alloc (.cells #[.int .i64 a,.int .i64 c,.int .i64 d,.int .i64 e,.int .i64 f,.int .i64 g] 3)) s u N vn ((.slice (some ⟨w.heap.size,0,none⟩) 6 6,.ints [a,c,d,e,f,g])::L):=h.ints [a,c,d,e,f,g] (by simp) (by simp)
theorem KX.at {v:Value} {ws:List (List UInt8)} (m:KX b bb T D n A0 bt w0 w s u N vn L) (E:(v,Th.strs ws)∈L) (G:ws.length<=100):
  Calls Tryz.prog 76 #[.pointer (some ⟨b,0,none⟩),v] w fun B w'=>B=.returned (.bool (atQ T ws s))/\KX b bb T D n A0 bt w0 w' s u N vn L:=
 m.val fun A h=>abp b bb T D n s u N vn v A ws w G h (m.str E)
theorem KX.atx {v:Value} {ws:List (List UInt8)} (E:KX b bb T D n A0 bt w0 w s u N vn L) (m:∃A,A=v/\(A,Th.strs ws)∈L) (G:ws.length<=100):
  Calls Tryz.prog 76 #[.pointer (some ⟨b,0,none⟩),v] w fun B w'=>B=.returned (.bool (atQ T ws s))/\KX b bb T D n A0 bt w0 w' s u N vn L:=by
 obtain⟨A,rfl,m⟩:=m
 exact E.at m G
theorem KX.kind (B:KX b bb T D n A0 bt w0 w s u N vn L) (k:Nat):
  Calls Tryz.prog 85 #[.pointer (some ⟨b,0,none⟩),.int .i64 (k:Int)] w fun m w'=>m=.returned (.bool (decide (s.e=0/\(az T s).kind=k)))/\KX b bb T D n A0 bt w0 w' s u N vn L:=
 B.val fun A h=>uY b bb T D n s u N vn A k w h
def jX (b bb:Nat) (T:List Tok) (D n k:Nat) (A0:Nat->Prop) (bt:Value) (w0:World) (s:St) (r:RT) (N:List Nd) (L:List (Value×Th)) (e:Ending) (w':World):Prop:=
 ∃(A:Int) (m:List Nd) (B:Value),e=.returned (.int .i64 A)/\KX b bb T D n A0 bt w0 w' r.2 r.2.i m B L/\aZ k N s r m [A]/\(s.e≠0->r.2.e≠0)
theorem KX.take (G:KX b bb T D n A0 bt w0 w s s.i N vn L) (m:dC T) (B:(az T s).kind≠5) (E:s.e=0):Calls Tryz.prog 79 #[.pointer (some ⟨b,0,none⟩)] w (jX b bb T D n 1 A0 bt w0 s (ae T s) N L):=
 G.call fun A h=>Fi b bb T D n m.len m.short m.ends s N vn A w B E h
theorem KX.one {v:Value} {ws:List (List UInt8)} (B:KX b bb T D n A0 bt w0 w s s.i N vn L) (m:dC T) (E:(v,Th.strs ws)∈L) (G:ws.length<=100) (H:∀x∈ws,x∈KS):Calls Tryz.prog 78 #[.pointer (some ⟨b,0,none⟩),v] w (jX b bb T D n 1 A0 bt w0 s (oO T ws s) N L):=
 B.call fun A h=>abD b bb T D n m.len m.short m.ends ws G (ow m H) s N vn v A w h (B.str E)
theorem KX.one1 {v:Value} (x:List UInt8) (G:KX b bb T D n A0 bt w0 w s s.i N vn L) (B:dC T) (E:x∈KS) (m:∃A,A=v/\(A,Th.strs [x])∈L):Calls Tryz.prog 78 #[.pointer (some ⟨b,0,none⟩),v] w (jX b bb T D n 1 A0 bt w0 s (an T x s) N L):=by
 obtain⟨A,rfl,m⟩:=m
 rw [<-RJ B E]
 exact G.one B m (by simp) (fun I H=>by rw [mem_singleton.1 H];exact E)
theorem KX.oneOf (B:KX b bb T D n A0 bt w0 w s s.i N vn L) (m:dC T) (k:Nat) (E:k≠5):Calls Tryz.prog 51 #[.pointer (some ⟨b,0,none⟩),.int .i64 (k:Int)] w (jX b bb T D n 1 A0 bt w0 s (aM T k s) N L):=
 B.call fun A h=>SL b bb T D n m.len m.short m.ends k E s N vn A w h
theorem KX.word (A:KX b bb T D n A0 bt w0 w s s.i N vn L) (m:dC T):Calls Tryz.prog 51 #[.pointer (some ⟨b,0,none⟩),.int .i64 1] w (jX b bb T D n 1 A0 bt w0 s (aM T 1 s) N L):=A.oneOf m 1 (by decide)
theorem KX.sub {P:St->Prop} {f:Nat} {sub:St->RT} (E:KX b bb T D n A0 bt w0 w s s.i N vn L) (m:cO b bb T D n P f sub) (B:P s):Calls Tryz.prog f #[.pointer (some ⟨b,0,none⟩)] w (jX b bb T D n 0 A0 bt w0 s (sub s) N L):=
 E.call fun A h=>m s N vn A w B h
theorem KX.fail (G:KX b bb T D n A0 bt w0 w s s.i N vn L) (m:Nat) (H:m≠0):Calls Tryz.prog 77 #[.pointer (some ⟨b,0,none⟩),.int .i64 (m:Int)] w (jX b bb T D n 0 A0 bt w0 s ([],aH T m s) N L):=
 G.call fun A h=>(kR b bb T D n m s s.i N vn A w h).mono (by
  rintro I w' ⟨rfl,B,E⟩
  exact ek.fail H B E)
theorem KX.fin {k:Nat} {r r':RT} {A:St} {B:List Nd} {x:Int} {w':World} {m:List Nd} {E:Value} (R:aZ k B A r m [x]) (O:KX b bb T D n A0 bt w0 w' r.2 r.2.i m E L) (I:A.e≠0->r.2.e≠0) (J:Eqv r r'):ek b bb T D n 0 A r' B bt A0 w0 (.returned (.int .i64 x)) w':=by
 obtain⟨G,H⟩:=O.done
 exact ek.eqv ⟨x,m,E,rfl,G,H,R.weak (zero_le _),I⟩ J
end
end Go.Proofs.YtpkipghjohomcaaGreatDoor
set_option maxHeartbeats 8000000
namespace Go.Proofs.YtpkipghjohomcaaGreatDoor
open Go.RowKit List
def uOf (w:World) (bb:Nat):Nat:=match w.cell? ⟨bb,1,none⟩ with
 | some (.int _ x)=>x.toNat
 | _=>0
theorem KX.used {b bb:Nat} {T:List Tok} {D n:Nat} {m:Nat->Prop} {B:Value} {H w:World} {s:St} {u:Nat} {N:List Nd} {vn:Value} {L:List (Value×Th)} (h:KX b bb T D n m B H w s u N vn L):uOf w bb=u:=by
 obtain⟨A,E,-⟩:=h
 obtain⟨O,J,I,G,-⟩:=E.bld
 unfold uOf;rw [(eO G.box).2.1];rfl
theorem cD.one {k:Nat} {N m:List Nd} {s:St} {r:RT} {x:Int} (h:aZ k N s r m [x]):cD k N s r m [x]:=h.out
def DW (T:List Tok) (D n:Nat) (nt:NxT) (s:St):RT:=if jf T (ew T D n nt s).2=true then ([.nd 10 ((ew T D n nt s).1++(ae T (ew T D n nt s).2).1++(ew T D n nt (ae T (ew T D n nt s).2).2).1)],(ew T D n nt (ae T (ew T D n nt s).2).2).2) else ew T D n nt s
theorem Qx {T:List Tok} {D n:Nat} {nt:NxT} {s:St} (h:isQ T [110,111,116] s=false):gp T D n nt s=DW T D n nt s:=by unfold gp DW;rw [if_neg (by rw [h];decide)]
section
variable (b bb:Nat) (T:List Tok) (D n:Nat)
theorem qJ (hC:dC T) (sub:St->RT) (hS:cO b bb T D n (fun _=>True) 122 sub) (hG:∀s,Good T s (sub s)) (ws:List (List UInt8)) (hn:ws.length<=100) (hw:∀x∈ws,x∈KS) {O:Nat->Prop} {bt:Value} {w0 w:World} {s:St} {N:List Nd} {vn v:Value} {L:List (Value×Th)} (J:KX b bb T D n O bt w0 w s s.i N vn L) (hm:(v,Th.strs ws)∈L) (hN:N.length<=2*s.i):
  Calls Tryz.prog 121 #[.pointer (some ⟨b,0,none⟩),.func (.func 122) #[] #[],v] w (jX b bb T D n 0 O bt w0 s (rwT T (atQ T ws) sub (bG T (sub s).2) (sub s)) N L):=by
 have Z:=zh hC;have Y:=zh hS;have HG:=zh hG;have HM:=zh hm;have M8:=zh hn
 have Ft:=zh (ow hC hw)
 have m:=zh J;have dQ:=zh hN
 have ku:=zh (jV.start T (atQ T ws) sub s)
 obtain⟨ao,hR⟩:=zx (rwT T (atQ T ws) sub (bG T (sub s).2) (sub s))
 rw [hR] at ku ⊢
 clear hC hS hG hm hn hw J hN hR
 go_enter Tryz.func121,Tryz.ntmps121
 go_wp2_with fail
 refine(m.sub Y trivial).mono ?_
 rintro ak w1 ⟨x1,N1,xM,rfl,eD,BJ,wU⟩
 have jM:=zh eD;have zV:=zh BJ;have rO:=zh wU
 clear eD BJ wU m
 go_wp2_with fail
 go_loopw [7] (fun xv wr=>∃(A:RT) (H:List Nd) (cC:Value) (x:Int),xv=.int .i64 x/\Hid (aZ 0 N s A H [x])/\Hid (KX b bb T D n O bt w0 wr A.2 A.2.i H cC L)/\Hid (jV T (atQ T ws) sub ao A)/\Hid (s.e≠0->A.2.e≠0)) (fun _ wr=>T.length - uOf wr bb)
 case atStart=>exact⟨_,_,_,_,rfl,zV,jM,ku,rO⟩
 case round=>
  clear jM zV rO ku
  obtain⟨A,H,cC,x,rfl,HO,m,HL,bX⟩:=hrel
  have Dk:Hid (KX b bb T D n O bt w0 wr A.2 A.2.i H cC L):=m
  go_wp2_with fail
  refine(KX.at m HM M8).mono ?_
  rintro ak w2 ⟨rfl,J⟩
  have m:=zh J
  obtain⟨ap,ha⟩:=zx (atQ T ws A.2)
  rw [ha]
  have HV:=zh ha
  clear J ha
  cases ap
  ·have HE:=zh (HL.stop HV)
   go_wp2_with fail
   go_ret
   rw [HE.out]
   exact⟨x,H,cC,rfl,m,HO,bX⟩
  ·have B:=zh (Ft _ HV)
   have R:=zh HO.out.out
   have cu:=zh (HL.next HV B.1 m.ok (HG _).mono)
   go_wp2_with fail
   have m:=zh m.drew
   go_region_held3 (fun w'=>w'.cell? ⟨b,0,none⟩=some (.pointer (some ⟨bb,0,none⟩))) (with_reducible first | exact m.out.cell | exact(m.out.alloc _).cell | exact((m.out.alloc _).alloc _).cell | exact(((m.out.alloc _).alloc _).alloc _).cell)
    (first
     | (go_at_call 79;(with_reducible first | refine(m.out.take Z.out B.out.1 B.out.2).mono ?_ | refine((m.out.strs1 _ _).take Z.out B.out.1 B.out.2).mono ?_ | refine(((m.out.strs1 _ _).strs1 _ _).take Z.out B.out.1 B.out.2).mono ?_);rintro ak w9 ⟨v9,N9,dj,rfl,E,G,I⟩;have m:=zh E;have U:=zh (aZ.app R.out G I);have R:=zh U.out.out;clear E G I)
     | (go_at_call 122;(with_reducible first | refine(m.out.sub Y.out trivial).mono ?_ | refine((m.out.strs1 _ _).sub Y.out trivial).mono ?_ | refine(((m.out.strs1 _ _).strs1 _ _).sub Y.out trivial).mono ?_);rintro ak w9 ⟨v9,N9,dj,rfl,E,G,I⟩;have m:=zh E;have U:=zh (aZ.app R.out G I);have R:=zh U.out.out;clear E G I)
     | (go_at_call 50;have lR:=zh (U.weak (j:=0+1) (by decide));refine(KX.node (k:=0) (kind:=10) (m.ints3 _ _ _ ) ?_ Z.len lR.out ?_ dQ.out ?_).mono ?_;exact Yu ..;rfl;simp;rintro ak w9 ⟨v9,N9,dj,rfl,E,G⟩;have m:=zh E;have HZ:=zh G;clear E G))
   all_goals
    have M0:Hid (T.length - uOf w9 bb<T.length - uOf wr bb):=zh (by rw [m.used,Dk.used];have h5:A.2.i<(sub (ae T A.2).2).2.i:=cu.2;have h6:=Dk.ok;have h7:=m.ok;omega)
    have xw:Hid (s.e≠0->(vl T sub A).2.e≠0):=zh (fun he=>absurd B.2 (bX he))
    go_wp2_with fail
    go_roundw
    case rel=>exact⟨vl T sub A,_,_,_,rfl,HZ,zh (m.few (vi _ _)),zh cu.1,xw⟩
    case measure=>exact M0
theorem vA (hC:dC T) (sub:St->RT) (hS:cO b bb T D n (fun _=>True) 137 sub) (hG:∀s,Good T s (sub s)) (ws:List (List UInt8)) (hn:ws.length<=100) (hw:∀x∈ws,x∈KS) {O:Nat->Prop} {bt:Value} {w0 w:World} {s:St} {N:List Nd} {vn v:Value} {L:List (Value×Th)} (J:KX b bb T D n O bt w0 w s s.i N vn L) (hm:(v,Th.strs ws)∈L) (hN:N.length<=2*s.i):
  Calls Tryz.prog 121 #[.pointer (some ⟨b,0,none⟩),.func (.func 137) #[] #[],v] w (jX b bb T D n 0 O bt w0 s (rwT T (atQ T ws) sub (bG T (sub s).2) (sub s)) N L):=by
 have Z:=zh hC;have Y:=zh hS;have HG:=zh hG;have HM:=zh hm;have M8:=zh hn
 have Ft:=zh (ow hC hw)
 have m:=zh J;have dQ:=zh hN
 have ku:=zh (jV.start T (atQ T ws) sub s)
 obtain⟨ao,hR⟩:=zx (rwT T (atQ T ws) sub (bG T (sub s).2) (sub s))
 rw [hR] at ku ⊢
 clear hC hS hG hm hn hw J hN hR
 go_enter Tryz.func121,Tryz.ntmps121
 go_wp2_with fail
 refine(m.sub Y trivial).mono ?_
 rintro ak w1 ⟨x1,N1,xM,rfl,eD,BJ,wU⟩
 have jM:=zh eD;have zV:=zh BJ;have rO:=zh wU
 clear eD BJ wU m
 go_wp2_with fail
 go_loopw [7] (fun xv wr=>∃(A:RT) (H:List Nd) (cC:Value) (x:Int),xv=.int .i64 x/\Hid (aZ 0 N s A H [x])/\Hid (KX b bb T D n O bt w0 wr A.2 A.2.i H cC L)/\Hid (jV T (atQ T ws) sub ao A)/\Hid (s.e≠0->A.2.e≠0)) (fun _ wr=>T.length - uOf wr bb)
 case atStart=>exact⟨_,_,_,_,rfl,zV,jM,ku,rO⟩
 case round=>
  clear jM zV rO ku
  obtain⟨A,H,cC,x,rfl,HO,m,HL,bX⟩:=hrel
  have Dk:Hid (KX b bb T D n O bt w0 wr A.2 A.2.i H cC L):=m
  go_wp2_with fail
  refine(KX.at m HM M8).mono ?_
  rintro ak w2 ⟨rfl,J⟩
  have m:=zh J
  obtain⟨ap,ha⟩:=zx (atQ T ws A.2)
  rw [ha]
  have HV:=zh ha
  clear J ha
  cases ap
  ·have HE:=zh (HL.stop HV)
   go_wp2_with fail
   go_ret
   rw [HE.out]
   exact⟨x,H,cC,rfl,m,HO,bX⟩
  ·have B:=zh (Ft _ HV)
   have R:=zh HO.out.out
   have cu:=zh (HL.next HV B.1 m.ok (HG _).mono)
   go_wp2_with fail
   have m:=zh m.drew
   go_region_held3 (fun w'=>w'.cell? ⟨b,0,none⟩=some (.pointer (some ⟨bb,0,none⟩))) (with_reducible first | exact m.out.cell | exact(m.out.alloc _).cell | exact((m.out.alloc _).alloc _).cell | exact(((m.out.alloc _).alloc _).alloc _).cell)
    (first
     | (go_at_call 79;(with_reducible first | refine(m.out.take Z.out B.out.1 B.out.2).mono ?_ | refine((m.out.strs1 _ _).take Z.out B.out.1 B.out.2).mono ?_ | refine(((m.out.strs1 _ _).strs1 _ _).take Z.out B.out.1 B.out.2).mono ?_);rintro ak w9 ⟨v9,N9,dj,rfl,E,G,I⟩;have m:=zh E;have U:=zh (aZ.app R.out G I);have R:=zh U.out.out;clear E G I)
     | (go_at_call 137;(with_reducible first | refine(m.out.sub Y.out trivial).mono ?_ | refine((m.out.strs1 _ _).sub Y.out trivial).mono ?_ | refine(((m.out.strs1 _ _).strs1 _ _).sub Y.out trivial).mono ?_);rintro ak w9 ⟨v9,N9,dj,rfl,E,G,I⟩;have m:=zh E;have U:=zh (aZ.app R.out G I);have R:=zh U.out.out;clear E G I)
     | (go_at_call 50;have lR:=zh (U.weak (j:=0+1) (by decide));refine(KX.node (k:=0) (kind:=10) (m.ints3 _ _ _ ) ?_ Z.len lR.out ?_ dQ.out ?_).mono ?_;exact Yu ..;rfl;simp;rintro ak w9 ⟨v9,N9,dj,rfl,E,G⟩;have m:=zh E;have HZ:=zh G;clear E G))
   all_goals
    have M0:Hid (T.length - uOf w9 bb<T.length - uOf wr bb):=zh (by rw [m.used,Dk.used];have h5:A.2.i<(sub (ae T A.2).2).2.i:=cu.2;have h6:=Dk.ok;have h7:=m.ok;omega)
    have xw:Hid (s.e≠0->(vl T sub A).2.e≠0):=zh (fun he=>absurd B.2 (bX he))
    go_wp2_with fail
    go_roundw
    case rel=>exact⟨vl T sub A,_,_,_,rfl,HZ,zh (m.few (vi _ _)),zh cu.1,xw⟩
    case measure=>exact M0
theorem yy (hC:dC T) (sub:St->RT) (hS:cO b bb T D n (fun _=>True) 170 sub) (hG:∀s,Good T s (sub s)) (ws:List (List UInt8)) (hn:ws.length<=100) (hw:∀x∈ws,x∈KS) {O:Nat->Prop} {bt:Value} {w0 w:World} {s:St} {N:List Nd} {vn v:Value} {L:List (Value×Th)} (J:KX b bb T D n O bt w0 w s s.i N vn L) (hm:(v,Th.strs ws)∈L) (hN:N.length<=2*s.i):
  Calls Tryz.prog 121 #[.pointer (some ⟨b,0,none⟩),.func (.func 170) #[] #[],v] w (jX b bb T D n 0 O bt w0 s (rwT T (atQ T ws) sub (bG T (sub s).2) (sub s)) N L):=by
 have Z:=zh hC;have Y:=zh hS;have HG:=zh hG;have HM:=zh hm;have M8:=zh hn
 have Ft:=zh (ow hC hw)
 have m:=zh J;have dQ:=zh hN
 have ku:=zh (jV.start T (atQ T ws) sub s)
 obtain⟨ao,hR⟩:=zx (rwT T (atQ T ws) sub (bG T (sub s).2) (sub s))
 rw [hR] at ku ⊢
 clear hC hS hG hm hn hw J hN hR
 go_enter Tryz.func121,Tryz.ntmps121
 go_wp2_with fail
 refine(m.sub Y trivial).mono ?_
 rintro ak w1 ⟨x1,N1,xM,rfl,eD,BJ,wU⟩
 have jM:=zh eD;have zV:=zh BJ;have rO:=zh wU
 clear eD BJ wU m
 go_wp2_with fail
 go_loopw [7] (fun xv wr=>∃(A:RT) (H:List Nd) (cC:Value) (x:Int),xv=.int .i64 x/\Hid (aZ 0 N s A H [x])/\Hid (KX b bb T D n O bt w0 wr A.2 A.2.i H cC L)/\Hid (jV T (atQ T ws) sub ao A)/\Hid (s.e≠0->A.2.e≠0)) (fun _ wr=>T.length - uOf wr bb)
 case atStart=>exact⟨_,_,_,_,rfl,zV,jM,ku,rO⟩
 case round=>
  clear jM zV rO ku
  obtain⟨A,H,cC,x,rfl,HO,m,HL,bX⟩:=hrel
  have Dk:Hid (KX b bb T D n O bt w0 wr A.2 A.2.i H cC L):=m
  go_wp2_with fail
  refine(KX.at m HM M8).mono ?_
  rintro ak w2 ⟨rfl,J⟩
  have m:=zh J
  obtain⟨ap,ha⟩:=zx (atQ T ws A.2)
  rw [ha]
  have HV:=zh ha
  clear J ha
  cases ap
  ·have HE:=zh (HL.stop HV)
   go_wp2_with fail
   go_ret
   rw [HE.out]
   exact⟨x,H,cC,rfl,m,HO,bX⟩
  ·have B:=zh (Ft _ HV)
   have R:=zh HO.out.out
   have cu:=zh (HL.next HV B.1 m.ok (HG _).mono)
   go_wp2_with fail
   have m:=zh m.drew
   go_region_held3 (fun w'=>w'.cell? ⟨b,0,none⟩=some (.pointer (some ⟨bb,0,none⟩))) (with_reducible first | exact m.out.cell | exact(m.out.alloc _).cell | exact((m.out.alloc _).alloc _).cell | exact(((m.out.alloc _).alloc _).alloc _).cell)
    (first
     | (go_at_call 79;(with_reducible first | refine(m.out.take Z.out B.out.1 B.out.2).mono ?_ | refine((m.out.strs1 _ _).take Z.out B.out.1 B.out.2).mono ?_ | refine(((m.out.strs1 _ _).strs1 _ _).take Z.out B.out.1 B.out.2).mono ?_);rintro ak w9 ⟨v9,N9,dj,rfl,E,G,I⟩;have m:=zh E;have U:=zh (aZ.app R.out G I);have R:=zh U.out.out;clear E G I)
     | (go_at_call 170;(with_reducible first | refine(m.out.sub Y.out trivial).mono ?_ | refine((m.out.strs1 _ _).sub Y.out trivial).mono ?_ | refine(((m.out.strs1 _ _).strs1 _ _).sub Y.out trivial).mono ?_);rintro ak w9 ⟨v9,N9,dj,rfl,E,G,I⟩;have m:=zh E;have U:=zh (aZ.app R.out G I);have R:=zh U.out.out;clear E G I)
     | (go_at_call 50;have lR:=zh (U.weak (j:=0+1) (by decide));refine(KX.node (k:=0) (kind:=10) (m.ints3 _ _ _ ) ?_ Z.len lR.out ?_ dQ.out ?_).mono ?_;exact Yu ..;rfl;simp;rintro ak w9 ⟨v9,N9,dj,rfl,E,G⟩;have m:=zh E;have HZ:=zh G;clear E G))
   all_goals
    have M0:Hid (T.length - uOf w9 bb<T.length - uOf wr bb):=zh (by rw [m.used,Dk.used];have h5:A.2.i<(sub (ae T A.2).2).2.i:=cu.2;have h6:=Dk.ok;have h7:=m.ok;omega)
    have xw:Hid (s.e≠0->(vl T sub A).2.e≠0):=zh (fun he=>absurd B.2 (bX he))
    go_wp2_with fail
    go_roundw
    case rel=>exact⟨vl T sub A,_,_,_,rfl,HZ,zh (m.few (vi _ _)),zh cu.1,xw⟩
    case measure=>exact M0
theorem Av (hC:dC T) (sub:St->RT) (hS:cO b bb T D n (fun _=>True) 171 sub) (hG:∀s,Good T s (sub s)) (ws:List (List UInt8)) (hn:ws.length<=100) (hw:∀x∈ws,x∈KS) {O:Nat->Prop} {bt:Value} {w0 w:World} {s:St} {N:List Nd} {vn v:Value} {L:List (Value×Th)} (J:KX b bb T D n O bt w0 w s s.i N vn L) (hm:(v,Th.strs ws)∈L) (hN:N.length<=2*s.i):
  Calls Tryz.prog 121 #[.pointer (some ⟨b,0,none⟩),.func (.func 171) #[] #[],v] w (jX b bb T D n 0 O bt w0 s (rwT T (atQ T ws) sub (bG T (sub s).2) (sub s)) N L):=by
 have Z:=zh hC;have Y:=zh hS;have HG:=zh hG;have HM:=zh hm;have M8:=zh hn
 have Ft:=zh (ow hC hw)
 have m:=zh J;have dQ:=zh hN
 have ku:=zh (jV.start T (atQ T ws) sub s)
 obtain⟨ao,hR⟩:=zx (rwT T (atQ T ws) sub (bG T (sub s).2) (sub s))
 rw [hR] at ku ⊢
 clear hC hS hG hm hn hw J hN hR
 go_enter Tryz.func121,Tryz.ntmps121
 go_wp2_with fail
 refine(m.sub Y trivial).mono ?_
 rintro ak w1 ⟨x1,N1,xM,rfl,eD,BJ,wU⟩
 have jM:=zh eD;have zV:=zh BJ;have rO:=zh wU
 clear eD BJ wU m
 go_wp2_with fail
 go_loopw [7] (fun xv wr=>∃(A:RT) (H:List Nd) (cC:Value) (x:Int),xv=.int .i64 x/\Hid (aZ 0 N s A H [x])/\Hid (KX b bb T D n O bt w0 wr A.2 A.2.i H cC L)/\Hid (jV T (atQ T ws) sub ao A)/\Hid (s.e≠0->A.2.e≠0)) (fun _ wr=>T.length - uOf wr bb)
 case atStart=>exact⟨_,_,_,_,rfl,zV,jM,ku,rO⟩
 case round=>
  clear jM zV rO ku
  obtain⟨A,H,cC,x,rfl,HO,m,HL,bX⟩:=hrel
  have Dk:Hid (KX b bb T D n O bt w0 wr A.2 A.2.i H cC L):=m
  go_wp2_with fail
  refine(KX.at m HM M8).mono ?_
  rintro ak w2 ⟨rfl,J⟩
  have m:=zh J
  obtain⟨ap,ha⟩:=zx (atQ T ws A.2)
  rw [ha]
  have HV:=zh ha
  clear J ha
  cases ap
  ·have HE:=zh (HL.stop HV)
   go_wp2_with fail
   go_ret
   rw [HE.out]
   exact⟨x,H,cC,rfl,m,HO,bX⟩
  ·have B:=zh (Ft _ HV)
   have R:=zh HO.out.out
   have cu:=zh (HL.next HV B.1 m.ok (HG _).mono)
   go_wp2_with fail
   have m:=zh m.drew
   go_region_held3 (fun w'=>w'.cell? ⟨b,0,none⟩=some (.pointer (some ⟨bb,0,none⟩))) (with_reducible first | exact m.out.cell | exact(m.out.alloc _).cell | exact((m.out.alloc _).alloc _).cell | exact(((m.out.alloc _).alloc _).alloc _).cell)
    (first
     | (go_at_call 79;(with_reducible first | refine(m.out.take Z.out B.out.1 B.out.2).mono ?_ | refine((m.out.strs1 _ _).take Z.out B.out.1 B.out.2).mono ?_ | refine(((m.out.strs1 _ _).strs1 _ _).take Z.out B.out.1 B.out.2).mono ?_);rintro ak w9 ⟨v9,N9,dj,rfl,E,G,I⟩;have m:=zh E;have U:=zh (aZ.app R.out G I);have R:=zh U.out.out;clear E G I)
     | (go_at_call 171;(with_reducible first | refine(m.out.sub Y.out trivial).mono ?_ | refine((m.out.strs1 _ _).sub Y.out trivial).mono ?_ | refine(((m.out.strs1 _ _).strs1 _ _).sub Y.out trivial).mono ?_);rintro ak w9 ⟨v9,N9,dj,rfl,E,G,I⟩;have m:=zh E;have U:=zh (aZ.app R.out G I);have R:=zh U.out.out;clear E G I)
     | (go_at_call 50;have lR:=zh (U.weak (j:=0+1) (by decide));refine(KX.node (k:=0) (kind:=10) (m.ints3 _ _ _ ) ?_ Z.len lR.out ?_ dQ.out ?_).mono ?_;exact Yu ..;rfl;simp;rintro ak w9 ⟨v9,N9,dj,rfl,E,G⟩;have m:=zh E;have HZ:=zh G;clear E G))
   all_goals
    have M0:Hid (T.length - uOf w9 bb<T.length - uOf wr bb):=zh (by rw [m.used,Dk.used];have h5:A.2.i<(sub (ae T A.2).2).2.i:=cu.2;have h6:=Dk.ok;have h7:=m.ok;omega)
    have xw:Hid (s.e≠0->(vl T sub A).2.e≠0):=zh (fun he=>absurd B.2 (bX he))
    go_wp2_with fail
    go_roundw
    case rel=>exact⟨vl T sub A,_,_,_,rfl,HZ,zh (m.few (vi _ _)),zh cu.1,xw⟩
    case measure=>exact M0
theorem Jn (B:dC T) (I:cO b bb T D n (fun _=>True) 171 (bz T D n (NT T D n))):cO b bb T D n (fun _=>True) 170 (dH T D n (NT T D n)):=by
 intro m ak vn A w _ h
 have L:Hid (∀m,Good T m (bz T D n (NT T D n) m)):=zh (gV T D n (ey T D (D - n)))
 have J:Hid (atQ T [[42],[47],[37]]=rd T):=zh (funext fun m=>by rw [jW B (by decide)];simp [rd,Bool.or_assoc])
 have U:=zh B;have Z:=zh I;have Y:=zh h.few
 have O:=zh (KX.start h)
 clear h I B
 go_enter Tryz.func170,Tryz.ntmps170
 go_wp2_with fail
 refine(Av b bb T D n U _ Z L.out [[42],[47],[37]] (by decide) (by decide) (O.strs [⟨#[42]⟩,⟨#[47]⟩,⟨#[37]⟩] _) (Yu ..) Y).mono ?_
 rintro ao w1 ⟨v9,N9,dj,rfl,G,H,E⟩
 have R:=zh (KX.fin H G E (r':=dH T D n (NT T D n) m) (by rw [J.out];exact Eqv.refl _))
 clear G H E
 go_wp2_with fail
 go_ret
 exact R
theorem Zv (B:dC T) (I:cO b bb T D n (fun _=>True) 170 (dH T D n (NT T D n))):cO b bb T D n (fun _=>True) 163 (ew T D n (NT T D n)):=by
 intro m ak vn A w _ h
 have L:Hid (∀m,Good T m (dH T D n (NT T D n) m)):=zh (lW T D n (ey T D (D - n)))
 have J:Hid (atQ T [[43],[45]]=rB T):=zh (funext fun m=>by rw [jW B (by decide)];simp [rB])
 have U:=zh B;have Z:=zh I;have Y:=zh h.few
 have O:=zh (KX.start h)
 clear h I B
 go_enter Tryz.func163,Tryz.ntmps163
 go_wp2_with fail
 refine(yy b bb T D n U _ Z L.out [[43],[45]] (by decide) (by decide) (O.strs [⟨#[43]⟩,⟨#[45]⟩] _) (Yu ..) Y).mono ?_
 rintro ao w1 ⟨v9,N9,dj,rfl,G,H,E⟩
 have R:=zh (KX.fin H G E (r':=ew T D n (NT T D n) m) (by rw [J.out];exact Eqv.refl _))
 clear G H E
 go_wp2_with fail
 go_ret
 exact R
theorem yg (B:dC T) (I:cO b bb T D n (fun _=>True) 137 (gp T D n (NT T D n))):cO b bb T D n (fun _=>True) 122 (oN T D n (NT T D n)):=by
 intro m ak vn A w _ h
 have L:Hid (∀m,Good T m (gp T D n (NT T D n) m)):=zh (lM T D n (ey T D (D - n)))
 have J:Hid (atQ T [[38,38]]=isQ T [38,38]):=zh (funext fun m=>by rw [jW B (by decide)];simp [])
 have U:=zh B;have Z:=zh I;have Y:=zh h.few
 have O:=zh (KX.start h)
 clear h I B
 go_enter Tryz.func122,Tryz.ntmps122
 go_wp2_with fail
 refine(vA b bb T D n U _ Z L.out [[38,38]] (by decide) (by decide) (O.strs [⟨#[38,38]⟩] _) (Yu ..) Y).mono ?_
 rintro ao w1 ⟨v9,N9,dj,rfl,G,H,E⟩
 have R:=zh (KX.fin H G E (r':=oN T D n (NT T D n) m) (by rw [J.out];exact Eqv.refl _))
 clear G H E
 go_wp2_with fail
 go_ret
 exact R
theorem yA (B:dC T) (I:cO b bb T D n (fun _=>True) 122 (oN T D n (NT T D n))):cO b bb T D n (fun _=>True) 95 (orT T D n (NT T D n)):=by
 intro m ak vn A w _ h
 have L:Hid (∀m,Good T m (oN T D n (NT T D n) m)):=zh (wC T D n (ey T D (D - n)))
 have J:Hid (atQ T [[124,124]]=isQ T [124,124]):=zh (funext fun m=>by rw [jW B (by decide)];simp [])
 have U:=zh B;have Z:=zh I;have Y:=zh h.few
 have O:=zh (KX.start h)
 clear h I B
 go_enter Tryz.func95,Tryz.ntmps95
 go_wp2_with fail
 refine(qJ b bb T D n U _ Z L.out [[124,124]] (by decide) (by decide) (O.strs [⟨#[124,124]⟩] _) (Yu ..) Y).mono ?_
 rintro ao w1 ⟨v9,N9,dj,rfl,G,H,E⟩
 have R:=zh (KX.fin H G E (r':=orT T D n (NT T D n) m) (by rw [J.out];exact Eqv.refl _))
 clear G H E
 go_wp2_with fail
 go_ret
 exact R
theorem Be (hC:dC T) (hA:cO b bb T D n (fun _=>True) 163 (ew T D n (NT T D n))):cO b bb T D n (fun _=>True) 150 (DW T D n (NT T D n)):=by
 intro E ap vn ao w _ h
 have HE:Hid (atQ T [[61],[60,62],[60],[60,61],[62],[62,61]]=jf T):=zh (funext fun E=>by rw [jW hC (by decide)];simp [jf,Bool.or_assoc])
 have H:=zh hC;have R:=zh hA;have dQ:=zh h.few
 have m:=zh (KX.start h)
 clear h hA hC
 go_enter Tryz.func150,Tryz.ntmps150
 go_wp2_with fail
 refine(m.sub R trivial).mono ?_
 rintro O w1 ⟨x1,N1,xM,rfl,eD,U,wU⟩
 have m:=zh eD;have HO:=zh U;have bX:=zh wU
 have J:=zh U.out
 clear eD U wU
 go_wp2_with fail
 refine(KX.at (ws:=[[61],[60,62],[60],[60,61],[62],[62,61]]) (m.strs [⟨#[61]⟩,⟨#[60,62]⟩,⟨#[60]⟩,⟨#[60,61]⟩,⟨#[62]⟩,⟨#[62,61]⟩] _) (Yu ..) (by decide)).mono ?_
 rintro O w2 ⟨rfl,hk⟩
 have m:=zh (hk.nils)
 obtain⟨ak,ha⟩:=zx (atQ T [[61],[60,62],[60],[60,61],[62],[62,61]] (ew T D n (NT T D n) E).2)
 rw [ha]
 have Z:=zh (show jf T (ew T D n (NT T D n) E).2=ak from by rw [<-HE.out];exact ha)
 clear hk ha
 cases ak
 ·have Y:=zh (KX.fin HO m bX (r':=DW T D n (NT T D n) E) (by unfold DW;rw [if_neg (by rw [Z.out];decide)];exact Eqv.refl _))
  go_wp2_with fail
  go_ret
  exact Y
 ·have G:=zh (show(az T (ew T D n (NT T D n) E).2).kind≠5/\(ew T D n (NT T D n) E).2.e=0 from ow H (ws:=[[61],[60,62],[60],[60,61],[62],[62,61]]) (by decide) _ (by rw [HE.out];exact Z))
  go_wp2_with fail
  have m:=zh m.drew
  go_region_held3 (fun w'=>w'.cell? ⟨b,0,none⟩=some (.pointer (some ⟨bb,0,none⟩))) (with_reducible first | exact m.out.cell | exact(m.out.alloc _).cell | exact((m.out.alloc _).alloc _).cell | exact(((m.out.alloc _).alloc _).alloc _).cell)
   (first
    | (go_at_call 79;(with_reducible first | refine(m.out.take H.out G.out.1 G.out.2).mono ?_ | refine((m.out.strs1 _ _).take H.out G.out.1 G.out.2).mono ?_ | refine(((m.out.strs1 _ _).strs1 _ _).take H.out G.out.1 G.out.2).mono ?_);rintro O w9 ⟨v9,N9,dj,rfl,A,B,I⟩;have m:=zh A;have L:=zh (aZ.app J.out B I);have J:=zh L.out.out;clear A B I)
    | (go_at_call 163;(with_reducible first | refine(m.out.sub R.out trivial).mono ?_ | refine((m.out.strs1 _ _).sub R.out trivial).mono ?_ | refine(((m.out.strs1 _ _).strs1 _ _).sub R.out trivial).mono ?_);rintro O w9 ⟨v9,N9,dj,rfl,A,B,I⟩;have m:=zh A;have L:=zh (aZ.app J.out B I);have J:=zh L.out.out;clear A B I)
    | (go_at_call 50;have lR:=zh (L.weak (j:=0+1) (by decide));refine(KX.node (k:=0) (kind:=10) (m.ints3 _ _ _ ) ?_ H.len lR.out ?_ dQ.out ?_).mono ?_;exact Yu ..;rfl;simp;rintro O w9 ⟨v9,N9,dj,rfl,A,B⟩;have m:=zh A;have HZ:=zh B;clear A B))
  all_goals
   have Y:=zh (KX.fin HZ m (fun he=>absurd G.2 (bX he)) (r':=DW T D n (NT T D n) E) (by rw [show DW T D n (NT T D n) E=_ from if_pos Z.out];exact Eqv.refl _))
   go_wp2_with fail
   go_ret
   exact Y
end
end Go.Proofs.YtpkipghjohomcaaGreatDoor
set_option maxHeartbeats 4000000
namespace Go.Proofs.YtpkipghjohomcaaGreatDoor
open Go.RowKit List
section
variable (b bb:Nat) (T:List Tok) (D n:Nat)
theorem Mg (hC:dC T) (hD:D<=200) (hn:n<=D) (hA:cO b bb T D n (fun _=>True) 172 (cQ T (NT T D n))) (hB:n<D->cO b bb T D (n+1) (fun _=>True) 171 (bz T D (n+1) (NT T D (n+1)))):cO b bb T D n (fun _=>True) 171 (bz T D n (NT T D n)):=by
 intro I ak vn A w hP h
 have J:=zh hC;have uF:=zh hP
 have py:=zh hA
 have qP:=zh (yB b bb T D n hD hn (fun _=>True) _ hB)
 have Pc:=zh (fun I U=>DK T hn (sub:=bz T D (n+1) (NT T D (n+1))) (sub':=(NT T D n).factor) (fun hlt=>by rw [ro T hlt]) I U)
 have m:=zh (KX.start h)
 have dQ:=zh h.few
 have L:=zh (cD.nil ak I)
 clear h hC hP hD hn hA hB
 go_enter Tryz.func171,Tryz.ntmps171
 go_wp2_with fail
 refine(KX.at (ws:=[[45]]) (m.strs1 _ _) (Yu ..) (by decide)).mono ?_
 rintro R w1 ⟨rfl,U⟩
 have m:=zh (U.nils)
 obtain⟨b1,hb⟩:=zx (isQ T [45] I)
 rw [at_one J.out (by decide),hb]
 have lk:=zh hb
 clear U hb
 cases b1
 ·skip
  go_wp2_with fail
  refine(m.sub py trivial).mono ?_
  rintro R w9 ⟨v9,Z,dj,rfl,B,E,G⟩
  have Y:=zh (KX.fin E B G (r':=(bz T D n (NT T D n)) I) (by unfold bz;rw [if_neg (by rw [lk.out];decide)];exact Eqv.refl _))
  clear B E G
  go_wp2_with fail
  go_ret
  exact Y
 ·skip
  have H:=zh (ah lk)
  go_wp2_with fail
  have m:=zh m.drew
  go_region_held3 (fun w'=>w'.cell? ⟨b,0,none⟩=some (.pointer (some ⟨bb,0,none⟩))) (with_reducible first | exact m.out.cell | exact(m.out.alloc _).cell | exact((m.out.alloc _).alloc _).cell | exact(((m.out.alloc _).alloc _).alloc _).cell)
   (first
    | (go_at_call 79;(with_reducible first | refine(m.out.take J.out H.out.1 H.out.2).mono ?_ | refine((m.out.strs1 _ _).take J.out H.out.1 H.out.2).mono ?_ | refine(((m.out.strs1 _ _).strs1 _ _).take J.out H.out.1 H.out.2).mono ?_);rintro R w9 ⟨v9,Z,dj,rfl,B,E,G⟩;have m:=zh B;have O:=zh (aZ.app L.out E G);have L:=zh O.out.out;clear B E G)
    | (go_at_call 64;(with_reducible first | refine(m.out.call (fun A h=>qP.out _ _ _ A _ trivial h)).mono ?_ | refine((m.out.strs1 _ _).call (fun A h=>qP.out _ _ _ A _ trivial h)).mono ?_ | refine(((m.out.strs1 _ _).strs1 _ _).call (fun A h=>qP.out _ _ _ A _ trivial h)).mono ?_);rintro R w9 ⟨v9,Z,dj,rfl,B,E,G⟩;have m:=zh B;have O:=zh (aZ.app L.out E G);have L:=zh O.out.out;clear B E G)
    | (go_at_call 50;have lR:=zh (O.weak (j:=0+1) (by decide));refine(KX.node (k:=0) (kind:=11) (m.ints2 _ _ ) ?_ J.len lR.out ?_ dQ.out ?_).mono ?_;exact Yu ..;rfl;simp;rintro R w9 ⟨v9,Z,dj,rfl,B,E⟩;have m:=zh B;have HZ:=zh E;clear B E))
  all_goals
   have Y:=zh (KX.fin HZ m (fun he=>absurd H.2 he) (r':=(bz T D n (NT T D n)) I) (by rw [show bz T D n (NT T D n) I=gL T D n (NT T D n).factor I from if_pos lk.out];exact Pc _ H.2))
   go_wp2_with fail
   go_ret
   exact Y
end
end Go.Proofs.YtpkipghjohomcaaGreatDoor
