/- Lemmas. -/
import Derived.Test.YtpkipghjohomcaaGreatDoorP12
import Derived.Test.YtpkipghjohomcaaGreatDoorP25
set_option linter.unusedVariables false
set_option linter.unusedSimpArgs false
namespace Go.Proofs.YtpkipghjohomcaaGreatDoor
open Go.RowKit List Nat Go.World
def be:Ex->List Ex
 | .mk _ _ _ _ _ m _=>m
section
variable {σ : Type} (st : σ->Ex->Nat->σ)
mutual
def uy:Ex->σ->σ
 | .mk op nm md nu ys ks ps,s=>tq (.mk op nm md nu ys ks ps) 0 ks (st s (.mk op nm md nu ys ks ps) 0)
def tq (x:Ex):Nat->List Ex->σ->σ
 | _,[],s=>s
 | j,k::l,s=>tq x (j+1) l (st (uy k s) x (j+1))
end
end
mutual
def mF:Ex->Nat
 | .mk _ _ _ _ _ m _=>1+sX m
def sX:List Ex->Nat
 | []=>0
 | k::l=>mF k+1+sX l
end
structure Fm where
 x:Ex
 d:Nat
 g:Nat
 o:Nat
def rsF {σ : Type} (st : σ->Ex->Nat->σ) (f:Fm) (s : σ):σ:=tq st f.x f.d ((be f.x).drop f.d) (st s f.x f.d)
def sA {σ : Type} (st : σ->Ex->Nat->σ) (G:List Fm) (s : σ):σ:=G.foldr (rsF st) s
def cntF (f:Fm):Nat:=1+sX ((be f.x).drop f.d)
def oH (G:List Fm):Nat:=(G.map cntF).sum
theorem Gf {σ : Type} (st : σ->Ex->Nat->σ) (x:Ex) (s : σ) (g o:Nat):uy st x s=rsF st ⟨x,0,g,o⟩ s:=by
 cases x with
 | mk G B A E I m H=>simp only [uy,rsF,be,drop_zero]
theorem GU (x:Ex) (g o:Nat):mF x=cntF ⟨x,0,g,o⟩:=by
 cases x with
 | mk G B A E I m H=>simp only [mF,cntF,be,drop_zero]
theorem lq {σ : Type} (st : σ->Ex->Nat->σ) (G:List Fm) (f:Fm) (s : σ):sA st (G++[f]) s=sA st G (rsF st f s):=by unfold sA;rw [foldr_append];rfl
theorem oq (G:List Fm) (f:Fm):oH (G++[f])=oH G+cntF f:=by unfold oH;simp
theorem Cx {σ : Type} (st : σ->Ex->Nat->σ) {f:Fm} (h:f.d=(be f.x).length) (s : σ):rsF st f s=st s f.x f.d/\cntF f=1:=by
 unfold rsF cntF
 rw [h,drop_length];exact⟨rfl,rfl⟩
theorem SI {σ : Type} (st : σ->Ex->Nat->σ) {f:Fm} {k:Ex} (h:(be f.x)[f.d]? = some k) (s : σ) (g o:Nat):rsF st f s=rsF st { f with d:=f.d+1 } (rsF st ⟨k,0,g,o⟩ (st s f.x f.d))/\cntF f=1+(cntF { f with d:=f.d+1 } + cntF ⟨k,0,g,o⟩):=by
 have A:(be f.x).drop f.d=k::(be f.x).drop (f.d+1):=by
  have m:=(Q4.1 h)
  obtain⟨m,B⟩:=m
  rw [drop_eq_getElem_cons m,B]
 constructor
 ·rw [<-Gf]
  unfold rsF
  rw [A]
  simp only [tq]
 ·rw [<-GU]
  unfold cntF
  rw [A]
  simp only [sX]
  omega
def jq (F:Nat->Prop) (w:World) (g o:Nat) (x:Ex):Prop:=F g/\g<w.heap.size/\∃m,m.length=8/\(∀(A:Nat) (B:Value),m[A]? = some B->w.cell? ⟨g,o+A,none⟩=some B)/\EAt F w x m
theorem EAt.len {F:Nat->Prop} {w:World} {x:Ex} {q:List Value} (h:EAt F w x q):q.length=8:=by
 cases x with
 | mk J G E H Z B O=>
   simp only [EAt] at h
   obtain⟨Y,R,I,A,L,m,U,rfl,-⟩:=h
   rfl
theorem jq.same {F S:Nat->Prop} {w G:World} {g o:Nat} {x:Ex} (h:jq F w g o x) (m:Fr2 S w G) (B:∀k,F k->¬S k):jq F G g o x:=by
 obtain⟨A,E,R,L,H,I⟩:=h
 exact⟨A,zn E m.size,R,L,fun O U J=>by rw [cell?_of_block (w:=w) (m.block g E (B g A))];exact H O U J,EAt.same m B I⟩
theorem jq.kids {F:Nat->Prop} {w:World} {g o:Nat} {x:Ex} (h:jq F w g o x):∃B E,w.cell? ⟨g,o+6,none⟩=some (.slice B (be x).length E)/\∀(j:Nat) (k:Ex),(be x)[j]? = some k->∃g' A,B=some ⟨g',A,none⟩/\jq F w g' (A+j*8) k:=by
 cases x with
 | mk op nm md nu ys R ps=>
   obtain⟨hF,hl,aq,hq,hc,L⟩:=h
   simp only [EAt] at L
   obtain⟨av,pw,nw,cw,B,E,au,rfl,h2,h3,h4,h5⟩:=L
   refine⟨B,E,hc 6 _ rfl,fun j k m=>?_⟩
   have m:R[j]? = some k:=m
   have Z:R≠[]:=fun G=>by rw [G] at m;simp at m
   obtain⟨⟨g',A,x'⟩,J,ak⟩:=h5 Z
   obtain⟨U,I,O⟩:=wT h4 m
   obtain⟨g2,o2,H,Y,tA⟩:=h3.resolve_left (fun G=>by rw [G] at I;simp at I)
   rw [J] at H
   simp only [Option.some.injEq,Addr.mk.injEq] at H
   obtain⟨rfl,rfl,rfl⟩:=H
   exact⟨g',A,J,ak,Y,U,EAt.len O,fun ao ap hi=>tA j U I ao ap hi,O⟩
theorem Dv:∀(ks:List Ex) (j:Nat) (k:Ex),ks[j]? = some k->mF k<=sX ks
 | [],j,k,h=>by simp at h
 | y::l,j,k,h=>by
   simp only [sX]
   match j,h with
   | 0,h=>simp at h;subst h;omega
   | j+1,h=>have:=Dv l j k (by simpa using h);omega
theorem uT:∀ks:List Ex,ks.length<=sX ks
 | []=>zero_le _
 | y::l=>by have:=uT l;simp only [sX,hJ];omega
def m4 (f:Fm):List Value:=[.pointer (some ⟨f.g,f.o,none⟩),.int .i64 (f.d:Int)]
theorem Z6:(Tryz.prog.info? 135).map (fun m=>(m.zero,m.size,m.bytes))=some (some (.agg #[.pointer none,.int .i64 0]),2,16):=by kernel_rfl
theorem ag.okept {s:Nat} {T:TypeId} {w B:World} {base b:Nat} {v:Value} {l:List (List Value)} (h:ag s T w base v l) (J:bU b w B) (I:T≠5) (R:b<base):ag s T B base v l:=
 ⟨⟨h.1.1,h.1.2.imp id fun ⟨A,E,m,G,H,L,O⟩=>⟨A,E,m,G,H,J A m T L I (by omega),O⟩⟩,h.2⟩
theorem ag.blk {s:Nat} {T:TypeId} {w:World} {base g n c:Nat} {l:List (List Value)} (h:ag s T w base (.slice (some ⟨g,0,none⟩) n c) l):base<=g/\∃A,w.heap[g]? = some (.cells A T (0,0)):=by
 rcases h.1.2 with ⟨E,R⟩ | ⟨O,I,A,B,G,H,U⟩
 ·cases E
 ·injection B with m J L
  injection m with m
  injection m with m
  subst m
  exact⟨G,A,H⟩
theorem ag.pop {s n c:Nat} {T:TypeId} {w:World} {base:Nat} {p:Option Addr} {l:List (List Value)} {q:List Value} (h:ag s T w base (.slice p n c) (l++[q])):n=l.length+1/\ag s T w base (.slice p l.length c) l/\∃g,p=some ⟨g,0,none⟩:=by
 have G:=h.1
 have A:=h.2
 rw [Q2,length_singleton] at G
 rcases G.2 with ⟨B,h0⟩ | ⟨g,ak,E,B,R,U,zC,Z,O,Y⟩
 ·omega
 ·injection B with I J L
  subst I;subst J;subst L
  refine⟨rfl,⟨⟨jT (fun q m=>A q (mem_append_left _ m)),.inr ⟨g,c,E,rfl,R,U,by omega,Z,O,?_⟩⟩,fun q m=>A q (mem_append_left _ m)⟩,g,rfl⟩
  have ao:=jT (fun q m=>A q (mem_append_left _ m):Wid s l)
  have H:(E.toList.take ((l.length+1)*s)).take (l.length*s)=l.flatten:=by
   rw [Y,flatten_append,take_append_of_le_length (by omega),V7 (by omega)]
  rw [take_take,Nat.min_eq_left (mul_le_mul_right _ (by omega))] at H
  exact H
theorem ag.new {s:Nat} {T:TypeId} (w:World) (base:Nat) (y:List Value) (m:y.length=s) (B:∀u∈y,u.oneCell'=true) (E:base<=w.heap.size):ag s T (w.alloc (.cells y.toArray T)) base (.slice (some ⟨w.heap.size,0,none⟩) 1 1) [y]:=by
 refine⟨⟨by simp [m],.inr ⟨w.heap.size,1,y.toArray,rfl,E,YK w _,Nat.le_refl _,by unfold maxLen;omega,by simp [m],?_⟩⟩,fun G A=>by simp at A;subst A;exact⟨m,B⟩⟩
 subst m
 simp
theorem ag.last2 {n c g:Nat} {T:TypeId} {w:World} {base:Nat} {l:List (List Value)} {a b u:Value} (R:u.oneCell'=true) (h:ag 2 T w base (.slice (some ⟨g,0,none⟩) n c) (l++[[a,b]])):ag 2 T (w.setCell ⟨g,l.length*2+1,none⟩ u) base (.slice (some ⟨g,0,none⟩) n c) (l++[[a,u]])/\w.grownBy (w.setCell ⟨g,l.length*2+1,none⟩ u) (some g):=by
 have O:=h.pop.1
 subst O
 have I:=h.2
 have A:Wid 2 l:=fun B m=>I B (mem_append_left _ m)
 have E:=h.1
 rw [Q2,length_singleton] at E
 have G:=World.ownsRow.stored E (l.length*2+1) u
 refine⟨⟨?_,fun B m=>?_⟩,G.2⟩
 ·have L:(l++[[a,u]]).flatten=((l++[[a,b]]).flatten).set (l.length*2+1) u:=by
   rw [flatten_append,flatten_append,set_append,if_neg (by rw [jT A];omega),jT A]
   simp
  rw [L,Q2,length_singleton]
  exact G.1
 ·rcases mem_append.1 m with m | m
  ·exact A B m
  ·simp at m;subst m
   refine⟨rfl,fun J H=>?_⟩
   simp at H
   rcases H with rfl | rfl
   ·exact(I [J,b] (by simp)).2 J (by simp)
   ·exact R
theorem ag.top2 {n c g:Nat} {T:TypeId} {w:World} {base:Nat} {l:List (List Value)} {a b:Value} (h:ag 2 T w base (.slice (some ⟨g,0,none⟩) n c) (l++[[a,b]])):w.cell? ⟨g,l.length*2,none⟩=some a/\w.cell? ⟨g,l.length*2+1,none⟩=some b/\(∀j,w.frozen? ⟨g,j,none⟩=false)/\g<w.heap.size/\l.length+1<=c/\c<=maxLen:=by
 have Y:=h.pop.1
 subst Y
 obtain⟨ak,c',L,J,G,U,-⟩:=h.is
 injection L with O e2 R
 subst O;subst R
 obtain⟨g2,o2,m,I,A⟩:=J.resolve_left (by simp)
 injection m with m;injection m with m Z;subst m Z
 have B:=A l.length [a,b] (by simp) 0 _ rfl
 have E:=A l.length [a,b] (by simp) 1 _ rfl
 rw [Nat.zero_add,Nat.add_zero] at B
 rw [Nat.zero_add] at E
 have H:=h.1
 rw [Q2,length_singleton] at H G
 exact⟨B,E,fun j=>World.ownsRow.frozenAt H j,I,G,U⟩
theorem E7 {α : Type} (l:List α):l = []\/∃m x,l=m++[x]:=by
 rcases eq_nil_or_concat l with h | ⟨m,x,h⟩
 ·exact .inl h
 ·exact .inr ⟨m,x,by simpa using h⟩
theorem Nb (f:Fm):1<=cntF f:=by unfold cntF;omega
theorem B9:∀G:List Fm,G.length<=oH G
 | []=>zero_le _
 | f::G=>by
   have A:=B9 G
   have B:=Nb f
   have m:oH (f::G)=cntF f+oH G:=by unfold oH;simp
   rw [m,hJ];omega
end Go.Proofs.YtpkipghjohomcaaGreatDoor
namespace Go.Proofs.YtpkipghjohomcaaGreatDoor
open Go.RowKit
structure Mq {σ : Type} (st : σ->Ex->Nat->σ) (tf b B:Nat) (F:Nat->Prop) (P : σ->World->Prop) (L : σ->Prop) (Q:Ex->Prop):Prop where
 below:∀k,F k->k<B
 box:B<=b
 tell:∀(s : σ) (f:Fm) (w:World),P s w->B<=w.heap.size->jq F w f.g f.o f.x->f.d<=(be f.x).length->Q f.x->L (st s f.x f.d)->Calls Tryz.prog tf #[.pointer (some ⟨f.g,f.o,none⟩),.int .i64 (f.d:Int),.pointer (some ⟨b,0,none⟩)] w (fun e w'=>e=.returned (.tuple #[])/\P (st s f.x f.d) w'/\Below B w w'/\bU b w w')
 mono:∀s x d,L (st s x d)->L s
 kids:∀x k,Q x->k∈be x->Q k
 grown:∀s w w',P s w->w.grownBy w' none->P s w'
 placed:∀s w w' g cs,P s w->w.grownBy w' (some g)->w.heap[g]? = some (.cells cs 135 (0,0))->g≠b->P s w'
theorem Mq.at {σ : Type} {I : σ->Ex->Nat->σ} {J b B:Nat} {F:Nat->Prop} {P : σ->World->Prop} {L : σ->Prop} {Q:Ex->Prop} (h:Mq I J b B F P L Q) {w m:World} {g o:Nat} {x:Ex} (G:jq F w g o x) (A:Below B w m):jq F m g o x:=
 G.same (Fr2.ofBelow A) (fun H E O=>by have:=h.below H E;omega)
mutual
theorem J8 {σ : Type} {A : σ->Ex->Nat->σ} {L : σ->Prop} (m:∀s x d,L (A s x d)->L s):∀(x:Ex) (s : σ),L (uy A x s)->L s
 | .mk op nm md nu ys ks ps,s,h=>by
   simp only [uy] at h
   exact m _ _ _ (oe m _ _ ks _ h)
theorem oe {σ : Type} {A : σ->Ex->Nat->σ} {L : σ->Prop} (m:∀s x d,L (A s x d)->L s) (x:Ex):∀(j:Nat) (l:List Ex) (s : σ),L (tq A x j l s)->L s
 | _,[],s,h=>by simp only [tq] at h;exact h
 | j,k::l,s,h=>by
   simp only [tq] at h
   exact J8 m k s (m _ _ _ (oe m x (j+1) l _ h))
end
theorem zO {σ : Type} {m : σ->Ex->Nat->σ} {L : σ->Prop} (A:∀s x d,L (m s x d)->L s):∀(G:List Fm) (s : σ),L (sA m G s)->L s
 | [],s,h=>h
 | f::G,s,h=>by
   have B:sA m (f::G) s=rsF m f (sA m G s):=rfl
   rw [B] at h
   exact zO A G s (A _ _ _ (oe A _ _ _ _ h))
theorem IW {σ : Type} {m : σ->Ex->Nat->σ} {L : σ->Prop} (A:∀s x d,L (m s x d)->L s) {G:List Fm} {f:Fm} {s : σ} (h:L (sA m (G++[f]) s)):L (m s f.x f.d):=by
 rw [lq] at h
 exact oe A _ _ _ _ (zO A G _ h)
theorem EAt.form {F:Nat->Prop} {w:World} {x:Ex} {q:List Value} (h:EAt F w x q):∃(m A:Int) (a b:ByteArray) (s y:Bool) (p G:Option Addr) (n c E B:Nat),q = [.int .i64 m,.string a,.string b,.bool s,.slice p n c,.bool y,.slice G E B,.int .i64 A]:=by
 cases x with
 | mk m O L R ys J A=>
   simp only [EAt] at h
   obtain⟨s,Z,U,I,Y,H,ak,rfl,-⟩:=h
   exact⟨_,_,_,_,_,_,_,_,_,_,_,_,rfl⟩
open Go.RowKit List
def yp (F:Nat->Prop) (base:Nat):Nat->Prop:=fun m=>F m/\m<base
def FB (F:Nat->Prop) (base:Nat):Nat->Prop:=fun m=>(F m/\m<base)\/(base<=m/\m≠base+1)
abbrev Pd:=Nat×Nat×Ex
def InZ (P:List Pd) (g i:Nat):Prop:=∃m∈P,m.1=g/\m.2.1<=i/\i<m.2.1+8
def IsD (base:Nat) (w:World) (g:Nat):Prop:=base<=g/\∃m,w.heap[g]? = some (.cells m 60 (0,0))
theorem IsD.lt {base:Nat} {w:World} {g:Nat} (h:IsD base w g):g<w.heap.size:=by obtain⟨-,m,h⟩:=h;exact hlt h
structure Agr (base:Nat) (Z:Nat->Nat->Prop) (w w':World):Prop where
 os:w'.os=w.os
 tape:w'.tape=w.tape
 output:w'.output=w.output
 size:w.heap.size<=w'.heap.size
 old:∀k,k<base->k<w.heap.size->w'.heap[k]? = w.heap[k]?
 isd:∀g,IsD base w g->IsD base w' g
 cell:∀g i v,IsD base w g->¬Z g i->w.cell? ⟨g,i,none⟩=some v->w'.cell? ⟨g,i,none⟩=some v
theorem Agr.refl (base:Nat) (Z:Nat->Nat->Prop) (w:World):Agr base Z w w:=⟨rfl,rfl,rfl,Nat.le_refl _,fun _ _ _=>rfl,fun _ h=>h,fun _ _ _ _ _ h=>h⟩
theorem Agr.trans {base:Nat} {Z Y:Nat->Nat->Prop} {a b c:World} (m:Agr base Z a b) (A:Agr base Y b c) (X:Nat->Nat->Prop) (R:∀g i,IsD base a g->Z g i->X g i) (U:∀g i,IsD base a g->Y g i->X g i):Agr base X a c:=
 ⟨A.os.trans m.os,A.tape.trans m.tape,A.output.trans m.output,Nat.le_trans m.size A.size,fun J G H=>(A.old J G (zn H m.size)).trans (m.old J G H),fun g B=>A.isd g (m.isd g B),
  fun g i L B I O=>A.cell g i L (m.isd g B) (fun E=>I (U g i B E)) (m.cell g i L B (fun E=>I (R g i B E)) O)⟩
theorem Agr.fr {base:Nat} {Z:Nat->Nat->Prop} {w A:World} (h:Agr base Z w A):Fr2 (fun m=>base<=m) w A:=⟨h.os,h.tape,h.output,h.size,fun m B E=>h.old m (by omega) B⟩
theorem Agr.gb {base:Nat} {w A:World} (Z:Nat->Nat->Prop) (h:w.grownBy A none):Agr base Z w A:=
 ⟨h.os,h.tape,h.output,h.size,fun J _ I=>h.block J I (by simp),fun G m=>⟨m.1,by obtain⟨B,E⟩:=m.2;exact⟨B,bx h E⟩⟩,fun G L O m _ H=>h.cell H (by simp)⟩
theorem Du {F:Nat->Prop} {base:Nat} {Z:Nat->Nat->Prop} {w E:World} {x:Ex} {q:List Value} (h:Agr base Z w E) (G:EAt (yp F base) w x q):EAt (yp F base) E x q:=EAt.same h.fr (fun B m A=>by have m:B<base:=m.2;have A:base<=B:=A;omega) G
structure CpI (F:Nat->Prop) (base r:Nat) (x:Ex) (P:List Pd) (w:World):Prop where
 le:base<=w.heap.size
 pend:∀p∈P,IsD base w p.1/\∃q,q.length=8/\(∀(i:Nat) (v:Value),q[i]? = some v->w.cell? ⟨p.1,p.2.1+i,none⟩=some v)/\EAt (yp F base) w p.2.2 q
 apart:∀(i j:Nat) (p q:Pd),P[i]? = some p->P[j]? = some q->i≠j->p.1≠q.1\/p.2.1+8<=q.2.1\/q.2.1+8<=p.2.1
 wand:∀w',Agr base (InZ P) w w'->(∀p∈P,jq (FB F base) w' p.1 p.2.1 p.2.2)->jq (FB F base) w' r 0 x
theorem CpI.done {F:Nat->Prop} {base r:Nat} {x:Ex} {w:World} (h:CpI F base r x [] w):jq (FB F base) w r 0 x:=h.wand w (Agr.refl _ _ _) (fun A m=>by simp at m)
theorem CpI.keep {F:Nat->Prop} {base r:Nat} {x:Ex} {P:List Pd} {w G:World} (h:CpI F base r x P w) (A:Agr base (fun _ _=>False) w G):CpI F base r x P G where
 le:=Nat.le_trans h.le A.size
 pend:=fun U B=>by
  obtain⟨E,Y,H,I,J⟩:=h.pend U B
  exact⟨A.isd _ E,Y,H,fun R Z L=>A.cell _ _ _ E (fun m=>m) (I R Z L),Du A J⟩
 apart:=h.apart
 wand:=fun w' O B=>h.wand w' (A.trans O _ (fun _ _ _ m=>m.elim) (fun _ _ _ m=>m)) B
theorem Io {F:Nat->Prop} {w:World} {h base:Nat}:∀ {ks:List Ex} {o:Nat},(∀(j:Nat) (k:Ex),ks[j]? = some k->jq (FB F base) w h (o+j*8) k)->∃A,LsE (FB F base) w ks A/\∀(j:Nat) (q:List Value),A[j]? = some q->∀(i:Nat) (v:Value),q[i]? = some v->w.cell? ⟨h,o+j*8+i,none⟩=some v
 | [],o,_=>⟨[],by simp [LsE],fun j q m=>by simp at m⟩
 | k::ks,o,hk=>by
   obtain⟨-,-,q,-,H,I⟩:=hk 0 k rfl
   obtain⟨A,E,G⟩:=Io (ks:=ks) (o:=o+8) (fun j J m=>by
    have:=hk (j+1) J (by simpa using m)
    rw [show o+(j+1)*8=o+8+j*8 by omega] at this;exact this)
   refine⟨q::A,by simp only [LsE];exact⟨q,A,rfl,I,E⟩,fun j L m=>?_⟩
   match j,m with
   | 0,m=>simp at m;subst m;intro i v B;rw [Nat.zero_mul,Nat.add_zero];have:=H i v B;rw [Nat.zero_mul,Nat.add_zero] at this;exact this
   | j+1,m=>
     intro i v B
     have:=G j L (by simpa using m) i v B
     rw [show o+(j+1)*8=o+8+j*8 by omega];exact this
def dE (h:Nat) (ks:List Ex):List Pd:=ks.mapIdx (fun m A=>(h,m*8,A))
theorem sr {h:Nat} {ks:List Ex} {j:Nat} {p:Pd} (m:(dE h ks)[j]? = some p):∃k,ks[j]? = some k/\p=(h,j*8,k):=by
 unfold dE at m
 rw [getElem?_mapIdx] at m
 cases A:ks[j]? with
 | none=>rw [A] at m;simp at m
 | some k=>rw [A] at m;simp at m;exact⟨k,rfl,m.symm⟩
theorem ou (h:Nat) (ks:List Ex):(dE h ks).length=ks.length:=by unfold dE;simp
theorem sW {h:Nat} {ks:List Ex} {p:Pd} (E:p∈dE h ks):∃j k,ks[j]? = some k/\p=(h,j*8,k):=by
 obtain⟨j,B⟩:=getElem?_of_mem E
 obtain⟨k,m,A⟩:=sr B
 exact⟨j,k,m,A⟩
theorem PC {h:Nat} {ks:List Ex} {j:Nat} {k:Ex} (m:ks[j]? = some k):(h,j*8,k)∈dE h ks:=by
 have:(dE h ks)[j]? = some (h,j*8,k):=by unfold dE;rw [getElem?_mapIdx,m];rfl
 exact gn this
theorem CpI.step {F:Nat->Prop} {base r:Nat} {x:Ex} {P:List Pd} {g o:Nat} {y:Ex} {w w2:World} (U:CpI F base r x (P++[(g,o,y)]) w) {ph:Option Addr} {h ak:Nat} (cJ:g≠base+1) (IG:base+2<=w.heap.size)
  (I:Agr base (fun O i=>O=g/\i=o+6) w w2) (QB:w2.cell? ⟨g,o+6,none⟩=some (.slice ph (be y).length ak))
  (pX:be y≠[]->ph=some ⟨h,0,none⟩/\w.heap.size<=h/\IsD base w2 h/\∀(j:Nat) (k:Ex),(be y)[j]? = some k->∃q,q.length=8/\(∀(i:Nat) (v:Value),q[i]? = some v->w2.cell? ⟨h,j*8+i,none⟩=some v)/\EAt (yp F base) w2 k q):
  CpI F base r x (P++dE h (be y)) w2:=by
 have ay:(P++[(g,o,y)])[P.length]? = some (g,o,y):=by simp
 obtain⟨Vv,q0,Za,Z,aJ⟩:=U.pend (g,o,y) (by simp)
 have bc:∀B∈P,B.1≠g\/B.2.1+8<=o\/o+8<=B.2.1:=fun B A=>by
  obtain⟨i,m⟩:=getElem?_of_mem A
  have hl:=(Q4.1 m).1
  exact U.apart i P.length B (g,o,y) (by rw [getElem?_append_left hl];exact m) ay (by omega)
 have gW:∀B∈dE h (be y),be y≠[]:=fun B A G=>by rw [G] at A;simp [dE] at A
 have oF:∀B∈dE h (be y),B.1=h/\w.heap.size<=h:=fun B A=>by
  obtain⟨j,k,-,rfl⟩:=sW A
  exact⟨rfl,(pX (gW _ A)).2.1⟩
 refine⟨Nat.le_trans U.le I.size,fun B A=>?_,fun i j B q m L aL=>?_,fun w' hw A=>?_⟩
 ·rcases mem_append.1 A with A | A
  ·obtain⟨E,q,H,R,h4⟩:=U.pend B (mem_append_left _ A)
   refine⟨I.isd _ E,q,H,fun i v m=>I.cell _ _ _ E (fun G=>?_) (R i v m),Du I h4⟩
   have a1:i<8:=by have:=(Q4.1 m).1;omega
   rcases bc B A with J | J | J
   ·exact J G.1
   ·have:=G.2;omega
   ·have:=G.2;omega
  ·obtain⟨E,H,R,h4⟩:=pX (gW _ A)
   obtain⟨j,k,hk,rfl⟩:=sW A
   exact⟨R,h4 j k hk⟩
 ·rcases Nat.lt_or_ge i P.length with ao | ao
  ·rw [getElem?_append_left ao] at m
   rcases Nat.lt_or_ge j P.length with Y | Y
   ·rw [getElem?_append_left Y] at L
    exact U.apart i j B q (by rw [getElem?_append_left ao];exact m) (by rw [getElem?_append_left Y];exact L) aL
   ·rw [getElem?_append_right Y] at L
    have E:=oF q (gn L)
    have H:=(U.pend B (mem_append_left _ (gn m))).1.lt
    exact .inl (by omega)
  ·rw [getElem?_append_right ao] at m
   have E:=oF B (gn m)
   rcases Nat.lt_or_ge j P.length with Y | Y
   ·rw [getElem?_append_left Y] at L
    have H:=(U.pend q (mem_append_left _ (gn L))).1.lt
    exact .inl (by omega)
   ·rw [getElem?_append_right Y] at L
    obtain⟨k1,-,rfl⟩:=sr m
    obtain⟨k2,-,rfl⟩:=sr L
    exact .inr (by simp only;omega)
 ·have hz:∀O i,IsD base w O->InZ (P++dE h (be y)) O i->InZ P O i:=fun O i ap G=>by
   obtain⟨B,A,E,H,R⟩:=G
   rcases mem_append.1 A with A | A
   ·exact⟨B,A,E,H,R⟩
   ·have h4:=oF B A
    have h5:=ap.lt
    exact absurd E (by omega)
  refine U.wand w' (I.trans hw (InZ (P++[(g,o,y)])) (fun O i _ G=>⟨(g,o,y),by simp,G.1.symm,by simp only;omega,by simp only;omega⟩) (fun O i ap G=>?_)) (fun B aO=>?_)
  ·obtain⟨B,A,E⟩:=hz O i ap G
   exact⟨B,mem_append_left _ A,E⟩
  ·rcases mem_append.1 aO with es | es
   ·exact A B (mem_append_left _ es)
   ·simp at es
    subst es
    have fG:w.heap.size<=w'.heap.size:=Nat.le_trans I.size hw.size
    have j4:∀i v,i<8->i≠6->w.cell? ⟨g,o+i,none⟩=some v->w'.cell? ⟨g,o+i,none⟩=some v:=fun i v m h6 hc=>
     hw.cell _ _ _ (I.isd _ Vv) (fun G=>by
      obtain⟨B,A,E,H,R⟩:=hz _ _ Vv G
      rcases bc B A with J | J | J
      ·exact J E
      ·omega
      ·omega) (I.cell _ _ _ Vv (fun G=>by have:=G.2;omega) hc)
    have PF:w'.cell? ⟨g,o+6,none⟩=some (.slice ph (be y).length ak):=
     hw.cell _ _ _ (I.isd _ Vv) (fun G=>by
      obtain⟨B,A,E,H,R⟩:=hz _ _ Vv G
      rcases bc B A with J | J | J
      ·exact J E
      ·omega
      ·omega) QB
    have aq:=Du hw (Du I aJ)
    obtain⟨aX,eh,au⟩:=Io (F:=F) (w:=w') (h:=h) (base:=base) (ks:=be y) (o:=0) (fun j k hk=>by
     rw [Nat.zero_add];exact A _ (mem_append_right _ (PC hk)))
    cases y with
    | mk op nm md nu ys ks ps=>
      simp only [be] at eh pX PF au gW
      simp only [EAt] at aq
      obtain⟨av,pw,nw,cw,pk,ck,a0,rfl,H,-,-,-⟩:=aq
      refine⟨.inr ⟨Vv.1,cJ⟩,zn Vv.lt fG,[.int .i64 (op:Int),aD nm,aD md,.bool av,.slice pw nw cw,.bool ys,.slice ph ks.length ak,.int .i64 (ps:Int)],rfl,fun i v m=>?_,?_⟩
      ·match i,m with
       | 0,m=>injection m with m;subst m;exact j4 0 _ (by omega) (by omega) (Z 0 _ rfl)
       | 1,m=>injection m with m;subst m;exact j4 1 _ (by omega) (by omega) (Z 1 _ rfl)
       | 2,m=>injection m with m;subst m;exact j4 2 _ (by omega) (by omega) (Z 2 _ rfl)
       | 3,m=>injection m with m;subst m;exact j4 3 _ (by omega) (by omega) (Z 3 _ rfl)
       | 4,m=>injection m with m;subst m;exact j4 4 _ (by omega) (by omega) (Z 4 _ rfl)
       | 5,m=>injection m with m;subst m;exact j4 5 _ (by omega) (by omega) (Z 5 _ rfl)
       | 6,m=>injection m with m;subst m;exact PF
       | 7,m=>injection m with m;subst m;exact j4 7 _ (by omega) (by omega) (Z 7 _ rfl)
       | i+8,m=>simp at m
      ·simp only [EAt]
       refine⟨av,pw,nw,cw,ph,ak,aX,rfl,?_,?_,eh,fun h0=>?_⟩
       ·unfold ff at H ⊢
        split
        ·rename_i E
         rw [if_pos E] at H
         exact⟨H.1,H.2.1,fun R=>by obtain⟨ax,I,YV⟩:=H.2.2 R;exact⟨ax,I,.inl YV⟩⟩
        ·rename_i E
         rw [if_neg E] at H;exact H
       ·by_cases h0:ks = []
        ·subst h0
         simp only [LsE] at eh
         exact .inl eh
        ·obtain⟨rfl,h4,h5,-⟩:=pX h0
         refine .inr ⟨h,0,rfl,zn h5.lt hw.size,fun j q L i v m=>au j q L i v m⟩
       ·obtain⟨rfl,h4,-⟩:=pX h0
        exact⟨_,rfl,.inr ⟨by show base<=h;omega,by show h≠base+1;omega⟩⟩
theorem CpI.start {F:Nat->Prop} {base r:Nat} {x:Ex} {q:List Value} {w:World} (G:base<=r) (A:w.heap[r]? = some (.cells q.toArray 60 (0,0))) (H:EAt (yp F base) w x q):CpI F base r x [(r,0,x)] w where
 le:=Nat.le_trans G (Nat.le_of_lt (hlt A))
 pend:=fun O m=>by
  simp at m;subst m
  refine⟨⟨G,_,A⟩,q,H.one.1,fun E R B=>?_,H⟩
  show w.cell? ⟨r,0+E,none⟩=some R
  rw [Nat.zero_add,hZ w r E _ _ (0,0) A];simpa using B
 apart:=fun E Z O q B L U=>by
  have I:=(Q4.1 B).1;have J:=(Q4.1 L).1
  simp at I J;omega
 wand:=fun w' Y m=>m (r,0,x) (by simp)
section
variable {T:List Tok} {D n:Nat} {nt:NxT} {s:St}
theorem WG (m:isQ T [108,101,116] s=true):gJ T D n nt s=qN T nt s:=if_pos m
theorem VZ (m:isQ T [108,101,116] s=false) (A:isQ T [105,102] s=true):gJ T D n nt s=ifT T nt s:=by
 unfold gJ;rw [if_neg (by rw [m];decide),if_pos A]
theorem Wc (m:isQ T [108,101,116] s=false) (A:isQ T [105,102] s=false) (B:isQ T [97,115,115,101,114,116] s=true):gJ T D n nt s=fL T nt s:=by
 unfold gJ;rw [if_neg (by rw [m];decide),if_neg (by rw [A];decide),if_pos B]
theorem Yx (m:isQ T [108,101,116] s=false) (A:isQ T [105,102] s=false) (B:isQ T [97,115,115,101,114,116] s=false):gJ T D n nt s=aP T D n nt s:=by
 unfold gJ;rw [if_neg (by rw [m];decide),if_neg (by rw [A];decide),if_neg (by rw [B];decide)]
end
end Go.Proofs.YtpkipghjohomcaaGreatDoor
namespace Go.Proofs.YtpkipghjohomcaaGreatDoor
theorem LN:∀(f:Nat) (l:List UInt8) (p:Nat) (t:Tok),t∈(kg f l p).1->∃m A,t=bI m A
 | 0,l,p,t,h=>by simp [kg] at h
 | f+1,l,p,t,h=>by
   unfold kg at h
   split at h
   ·simp at h
   split at h
   ·simp at h;exact⟨l,p,h⟩
   ·rcases List.mem_cons.1 h with rfl | h
    ·exact⟨l,p,rfl⟩
    ·exact LN f _ _ t h
theorem Yf:∀x∈KS,(x.head?.any nr)=true->fY.contains x=true:=by decide
theorem Yl:∀x∈KS,(x.head?.any fy)=false:=by decide
theorem LB:([]:List UInt8)∉KS:=by decide
theorem CK (p:UInt8->Bool) (a:UInt8) (r:List UInt8) (h:p a=true):((a::r).take (runN p (a::r))).head? = some a:=by
 have:runN p (a::r)=runN p r+1:=by simp [runN,h]
 rw [this];rfl
theorem FU (m:List UInt8) (h:m.take (cy m).2∈KS):(cy m).1=2\/(cy m).1=4:=by
 cases m with
 | nil=>exact absurd h LB
 | cons A H=>
   rw [gY] at h ⊢
   by_cases E:nr A=true
   ·rw [if_pos E] at h ⊢
    have J:inW A=true:=by unfold inW;rw [E];rfl
    have B:=CK inW A H J
    have:=Yf _ h (by simp only [] at B ⊢;rw [B];simpa using E)
    simp only [] at this ⊢
    rw [if_pos this];exact .inl rfl
   ·rw [if_neg E] at h ⊢
    by_cases G:fy A=true
    ·rw [if_pos G] at h
     have B:=CK fy A H G
     have:=Yl _ h
     simp only [] at B this
     rw [B] at this
     simp [G] at this
    ·rw [if_neg G] at h ⊢
     by_cases I:0<nV (A::H)
     ·rw [if_pos I];exact .inr rfl
     ·rw [if_neg I] at h
      exact absurd h LB
theorem DV {L:List Tok} {n:Nat} (h:(cq L).length<=n) (H:n<=1000000):vR L:=fun I E=>by
 obtain⟨G,B⟩:=List.getElem?_of_mem E
 have m:=tE B
 have A:=kP L (G+1)
 rw [m,Q2,Q2] at A
 omega
theorem Dh {l:List UInt8} (h:(ai l).2.1=0) (A:l.length<=30000):dC (ai l).1:=by
 have G:=jG h
 refine⟨by omega,DV (n:=30000) (by rw [jP h];exact A) (by omega),(qZ h).1,fun H E B m=>?_⟩
 obtain⟨I,J,rfl⟩:=LN _ _ _ E (gn B)
 exact FU _ m
open Go.RowKit
theorem iG.okept {w E:World} {base b:Nat} {v:Value} {l:List Int} (h:iG w base v l) (L:bU b w E) (J:v.ownBlock≠some b):iG E base v l:=
 ⟨⟨h.1.1,h.1.2.imp id fun ⟨B,G,A,m,O,I,R⟩=>⟨B,G,A,m,O,L B A _ I (by decide) (fun H=>J (by rw [m,H];rfl)),R⟩⟩,h.2⟩
theorem iG.block {w:World} {base:Nat} {v:Value} {l:List Int} (h:iG w base v l):∀k,v.ownBlock=some k->∃cs,w.heap[k]? = some (.cells cs 3 (0,0)):=fun k m=>by
 rcases h.1.2 with ⟨A,-⟩ | ⟨E,H,B,A,I,G,-⟩
 ·rw [A] at m;cases m
 ·rw [A] at m
  have:E=k:=by simpa [Value.ownBlock] using m
  subst this
  exact⟨B,G⟩
end Go.Proofs.YtpkipghjohomcaaGreatDoor
