/- Lemmas. -/
import Derived.Test.YtpkipghjohomcaaGreatDoorP19
import Derived.Test.YtpkipghjohomcaaGreatDoorP31
set_option linter.unusedVariables false
set_option linter.unusedSimpArgs false
namespace Go.Proofs.YtpkipghjohomcaaGreatDoor
open Go.RowKit List
def cH (F:Nat->Prop) (w:World) (f:Fx) (q:List Value):Prop:=∃m E B,q = [aD f.nm,.int .i64 (f.base:Int),.slice m f.cl.length E,.int .i64 (f.ps:Int),.int .i64 f.bare]/\GAt 7 w m B/\LsR F w f.cl B/\(f.cl≠[]->∃A,m=some A/\F A.block)
theorem cH.same {F S:Nat->Prop} {w G:World} {f:Fx} {q:List Value} (E:Fr2 S w G) (B:∀k,F k->¬S k) (h:cH F w f q):cH F G f q:=by
 obtain⟨O,H,R,J,L,m,A⟩:=h
 exact⟨O,H,R,J,zY (qa m) L (fun I=>A (length_pos_iff.1 I)) E B,LsR.same E B m,A⟩
theorem cH.mono {F F':Nat->Prop} {w:World} {f:Fx} {q:List Value} (m:∀k,F k->F' k) (h:cH F w f q):cH F' w f q:=by
 obtain⟨R,B,U,G,H,I,J⟩:=h
 exact⟨R,B,U,G,H,LsR.mono m I,fun E=>by obtain⟨A,O,L⟩:=J E;exact⟨A,O,m _ L⟩⟩
theorem cH.kept {F:Nat->Prop} {w m:World} {f:Fx} {q:List Value} (h:cH F w f q) (A:w.grownBy m none):cH F m f q:=cH.same (S:=fun _=>False) (Fr2.none A) (fun _ _ h=>h) h
theorem cH.bound {F:Nat->Prop} {w:World} {f:Fx} {q:List Value} (h:cH F w f q):cH (fun I=>F I/\I<w.heap.size) w f q:=by
 obtain⟨Y,J,Z,O,B,E,R⟩:=h
 refine⟨Y,J,Z,O,B,LsR.bound E,fun A=>?_⟩
 obtain⟨m,G,U⟩:=R A
 have H:=qa E
 exact⟨m,G,U,GAt.blk B (fun L=>by rw [L] at H;exact A (fb H.symm)) m G⟩
theorem cH.form {F:Nat->Prop} {w:World} {f:Fx} {q:List Value} (h:cH F w f q):∃A B m,q = [.string ⟨f.nm.toArray⟩,.int .i64 (f.base:Int),.slice A B m,.int .i64 (f.ps:Int),.int .i64 f.bare]:=by
 obtain⟨A,m,E,rfl,-⟩:=h
 exact⟨A,_,m,rfl⟩
def RFs (F:Nat->Prop) (w:World):List Fx->List (List Value)->Prop
 | [],r=>r = []
 | x::l,r=>∃m A,r=m::A/\cH F w x m/\RFs F w l A
theorem oc {F:Nat->Prop} {w:World}:∀ {l:List Fx} {r:List (List Value)},RFs F w l r->r.length=l.length
 | [],r,h=>by simp only [RFs] at h;rw [h];rfl
 | x::l,r,h=>by
   simp only [RFs] at h
   obtain⟨A,B,rfl,-,m⟩:=h
   rw [hJ,oc m];rfl
theorem Ca {F:Nat->Prop} {w:World} {x:Fx} {q:List Value} (m:cH F w x q):∀ {l:List Fx} {r:List (List Value)},RFs F w l r->RFs F w (l++[x]) (r++[q])
 | [],r,h=>by simp only [RFs] at h;subst h;simp only [nil_append,RFs];exact⟨q,[],rfl,m,rfl⟩
 | y::l,r,h=>by
   simp only [RFs] at h
   obtain⟨E,G,rfl,A,B⟩:=h
   simp only [cons_append,RFs]
   exact⟨E,_,rfl,A,Ca m B⟩
theorem ng {F S:Nat->Prop} {w B:World} (A:Fr2 S w B) (m:∀k,F k->¬S k):∀ {l:List Fx} {r:List (List Value)},RFs F w l r->RFs F B l r
 | [],r,h=>by simp only [RFs] at h ⊢;exact h
 | x::l,r,h=>by
   simp only [RFs] at h ⊢
   obtain⟨I,J,E,G,H⟩:=h
   exact⟨I,J,E,cH.same A m G,ng A m H⟩
theorem ry {F F':Nat->Prop} {w:World} (m:∀k,F k->F' k):∀ {l:List Fx} {r:List (List Value)},RFs F w l r->RFs F' w l r
 | [],r,h=>by simp only [RFs] at h ⊢;exact h
 | x::l,r,h=>by
   simp only [RFs] at h ⊢
   obtain⟨G,H,A,B,E⟩:=h
   exact⟨G,H,A,cH.mono m B,ry m E⟩
theorem qV {F:Nat->Prop} {w m:World} {l:List Fx} {r:List (List Value)} (h:RFs F w l r) (A:w.grownBy m none):RFs F m l r:=ng (S:=fun _=>False) (Fr2.none A) (fun _ _ h=>h) h
theorem cH.five {F:Nat->Prop} {w:World} {f:Fx} {q:List Value} (h:cH F w f q):q.length=5/\(∀u∈q,u.oneCell'=true)/\∃A B E G H,q = [A,B,E,G,H]:=by
 obtain⟨L,J,I,rfl⟩:=h.form
 exact⟨rfl,fun u m=>by simp at m;rcases m with rfl | rfl | rfl | rfl | rfl<;>rfl,_,_,_,_,_,rfl⟩
theorem yW {F:Nat->Prop} {w:World}:∀ {l:List Fx} {r:List (List Value)},RFs F w l r->RFs (fun m=>F m/\m<w.heap.size) w l r
 | [],r,h=>by simp only [RFs] at h ⊢;exact h
 | x::l,r,h=>by
   simp only [RFs] at h ⊢
   obtain⟨G,H,A,B,E⟩:=h
   exact⟨G,H,A,cH.bound B,yW E⟩
def ig (F:Nat->Prop) (w:World) (d:Dx) (q:List Value):Prop:=∃m H B G E,q = [.bool d.pub,.slice m d.ps.length H]++G++E/\cH F w d.res G/\RAt F w d.body E/\GAt 5 w m B/\RFs F w d.ps B/\(d.ps≠[]->∃A,m=some A/\F A.block)
theorem ig.same {F S:Nat->Prop} {w G:World} {d:Dx} {q:List Value} (A:Fr2 S w G) (m:∀k,F k->¬S k) (h:ig F w d q):ig F G d q:=by
 obtain⟨U,H,I,Z,Y,J,L,O,R,B,E⟩:=h
 exact⟨U,H,I,Z,Y,J,cH.same A m L,RAt.same A m O,eq (oc B) R E A m,ng A m B,E⟩
theorem ig.mono {F F':Nat->Prop} {w:World} {d:Dx} {q:List Value} (m:∀k,F k->F' k) (h:ig F w d q):ig F' w d q:=by
 obtain⟨Z,B,E,qf,qb,H,I,J,L,O,R⟩:=h
 exact⟨Z,B,E,qf,qb,H,cH.mono m I,RAt.mono m J,L,ry m O,fun G=>by obtain⟨A,Y,U⟩:=R G;exact⟨A,Y,m _ U⟩⟩
theorem ig.kept {F:Nat->Prop} {w m:World} {d:Dx} {q:List Value} (h:ig F w d q) (A:w.grownBy m none):ig F m d q:=ig.same (S:=fun _=>False) (Fr2.none A) (fun _ _ h=>h) h
theorem ig.bound {F:Nat->Prop} {w:World} {d:Dx} {q:List Value} (h:ig F w d q):ig (fun I=>F I/\I<w.heap.size) w d q:=by
 obtain⟨pp,J,O,qf,qb,R,U,Y,B,E,Z⟩:=h
 refine⟨pp,J,O,qf,qb,R,cH.bound U,RAt.bound Y,B,yW E,fun A=>?_⟩
 obtain⟨m,G,h8⟩:=Z A
 have H:=oc E
 exact⟨m,G,h8,GAt.blk B (fun L=>by rw [L] at H;exact A (fb H.symm)) m G⟩
theorem ig.form {F:Nat->Prop} {w:World} {d:Dx} {q:List Value} (h:ig F w d q):∃(G:Option Addr) (A:Nat) (nm:ByteArray) (base:Int) (E:Option Addr) (Z m:Nat) (H J B:Int) (a b c:ByteArray) (y:Bool) (pk:Option Addr) (nk L:Nat) (I:Int),q = [.bool d.pub,.slice G d.ps.length A,.string nm,.int .i64 base,.slice E Z m,.int .i64 H,.int .i64 J,.int .i64 B,.string a,.string b,.string c,.bool y,.slice pk nk L,.int .i64 I]:=by
 obtain⟨G,A,eJ,qf,qb,rfl,O,R,-⟩:=h
 obtain⟨E,m,ao,rfl,-⟩:=O
 obtain⟨B,a,b,c,y,ak,Y,U,H,rfl⟩:=R.form
 exact⟨G,A,_,_,E,_,m,_,_,B,a,b,c,y,ak,Y,U,H,rfl⟩
theorem ig.one {F:Nat->Prop} {w:World} {d:Dx} {q:List Value} (h:ig F w d q):q.length=14/\∀u∈q,u.oneCell'=true:=by
 obtain⟨pp,O,Y,H,pc,R,J,ps,G,Z,A,E,I,ak,pk,U,L,B,rfl⟩:=h.form
 exact⟨rfl,fun u m=>by simp at m;rcases m with rfl | rfl | rfl | rfl | rfl | rfl | rfl | rfl | rfl | rfl | rfl | rfl | rfl | rfl<;>rfl⟩
def RDs (F:Nat->Prop) (w:World):List Dx->List (List Value)->Prop
 | [],r=>r = []
 | x::l,r=>∃m A,r=m::A/\ig F w x m/\RDs F w l A
theorem kG {F:Nat->Prop} {w:World}:∀ {l:List Dx} {r:List (List Value)},RDs F w l r->r.length=l.length
 | [],r,h=>by simp only [RDs] at h;rw [h];rfl
 | x::l,r,h=>by
   simp only [RDs] at h
   obtain⟨A,B,rfl,-,m⟩:=h
   rw [hJ,kG m];rfl
theorem D2 {F:Nat->Prop} {w:World} {x:Dx} {q:List Value} (m:ig F w x q):∀ {l:List Dx} {r:List (List Value)},RDs F w l r->RDs F w (l++[x]) (r++[q])
 | [],r,h=>by simp only [RDs] at h;subst h;simp only [nil_append,RDs];exact⟨q,[],rfl,m,rfl⟩
 | y::l,r,h=>by
   simp only [RDs] at h
   obtain⟨E,G,rfl,A,B⟩:=h
   simp only [cons_append,RDs]
   exact⟨E,_,rfl,A,D2 m B⟩
theorem rJ {F S:Nat->Prop} {w B:World} (A:Fr2 S w B) (m:∀k,F k->¬S k):∀ {l:List Dx} {r:List (List Value)},RDs F w l r->RDs F B l r
 | [],r,h=>by simp only [RDs] at h ⊢;exact h
 | x::l,r,h=>by
   simp only [RDs] at h ⊢
   obtain⟨I,J,E,G,H⟩:=h
   exact⟨I,J,E,ig.same A m G,rJ A m H⟩
theorem qW {F F':Nat->Prop} {w:World} (m:∀k,F k->F' k):∀ {l:List Dx} {r:List (List Value)},RDs F w l r->RDs F' w l r
 | [],r,h=>by simp only [RDs] at h ⊢;exact h
 | x::l,r,h=>by
   simp only [RDs] at h ⊢
   obtain⟨G,H,A,B,E⟩:=h
   exact⟨G,H,A,ig.mono m B,qW m E⟩
theorem nU {F:Nat->Prop} {w m:World} {l:List Dx} {r:List (List Value)} (h:RDs F w l r) (A:w.grownBy m none):RDs F m l r:=rJ (S:=fun _=>False) (Fr2.none A) (fun _ _ h=>h) h
theorem yS {F:Nat->Prop} {w:World}:∀ {l:List Dx} {r:List (List Value)},RDs F w l r->RDs (fun m=>F m/\m<w.heap.size) w l r
 | [],r,h=>by simp only [RDs] at h ⊢;exact h
 | x::l,r,h=>by
   simp only [RDs] at h ⊢
   obtain⟨G,H,A,B,E⟩:=h
   exact⟨G,H,A,ig.bound B,yS E⟩
theorem Hi {F:Nat->Prop} {w:World}:∀ {l:List Dx} {r:List (List Value)} {j:Nat} {x:Dx},RDs F w l r->l[j]? = some x->∃q,r[j]? = some q/\ig F w x q
 | [],r,j,x,h,hj=>by simp at hj
 | y::l,r,j,x,h,hj=>by
   simp only [RDs] at h
   obtain⟨q,G,rfl,m,A⟩:=h
   match j,hj with
   | 0,hj=>simp at hj;subst hj;exact⟨q,rfl,m⟩
   | j+1,hj=>
     obtain⟨q2,B,E⟩:=Hi A (show l[j]? = some x by simpa using hj)
     exact⟨q2,by simpa using B,E⟩
theorem Gk {F:Nat->Prop} {w:World}:∀ {l:List Fx} {r:List (List Value)} {j:Nat} {x:Fx},RFs F w l r->l[j]? = some x->∃q,r[j]? = some q/\cH F w x q
 | [],r,j,x,h,hj=>by simp at hj
 | y::l,r,j,x,h,hj=>by
   simp only [RFs] at h
   obtain⟨q,G,rfl,m,A⟩:=h
   match j,hj with
   | 0,hj=>simp at hj;subst hj;exact⟨q,rfl,m⟩
   | j+1,hj=>
     obtain⟨q2,B,E⟩:=Gk A (show l[j]? = some x by simpa using hj)
     exact⟨q2,by simpa using B,E⟩
def rx (x:List UInt8×Nat):List Value:=[aD x.1]
def jb (F:Nat->Prop) (w:World) (P:Px) (q:List Value):Prop:=∃B H A G E,q = [.slice B P.imps.length H,.slice A P.defs.length G]/\GAt 1 w B (P.imps.map rx)/\GAt 14 w A E/\RDs F w P.defs E/\(P.imps≠[]->∃m,B=some m/\F m.block)/\(P.defs≠[]->∃m,A=some m/\F m.block)
theorem jb.same {F S:Nat->Prop} {w H:World} {P:Px} {q:List Value} (A:Fr2 S w H) (m:∀k,F k->¬S k) (h:jb F w P q):jb F H P q:=by
 obtain⟨Z,J,Y,I,L,O,R,U,B,E,G⟩:=h
 exact⟨Z,J,Y,I,L,O,eq (length_map _) R E A m,eq (kG B) U G A m,rJ A m B,E,G⟩
theorem jb.mono {F F':Nat->Prop} {w:World} {P:Px} {q:List Value} (E:∀k,F k->F' k) (h:jb F w P q):jb F' w P q:=by
 obtain⟨pi,I,pd,H,J,L,O,R,U,Y,Z⟩:=h
 exact⟨pi,I,pd,H,J,L,O,R,qW E U,fun A=>by obtain⟨m,G,B⟩:=Y A;exact⟨m,G,E _ B⟩,fun A=>by obtain⟨m,G,B⟩:=Z A;exact⟨m,G,E _ B⟩⟩
theorem jb.kept {F:Nat->Prop} {w m:World} {P:Px} {q:List Value} (h:jb F w P q) (A:w.grownBy m none):jb F m P q:=jb.same (S:=fun _=>False) (Fr2.none A) (fun _ _ h=>h) h
theorem jb.bound {F:Nat->Prop} {w:World} {P:Px} {q:List Value} (h:jb F w P q):jb (fun O=>F O/\O<w.heap.size) w P q:=by
 obtain⟨pi,U,pd,R,Y,Z,H,I,J,h5,h6⟩:=h
 refine⟨pi,U,pd,R,Y,Z,H,I,yS J,fun A=>?_,fun A=>?_⟩
 ·obtain⟨m,B,G⟩:=h5 A
  exact⟨m,B,G,GAt.blk H (fun E=>A (map_eq_nil_iff.1 E)) m B⟩
 ·obtain⟨m,B,G⟩:=h6 A
  have L:=kG J
  exact⟨m,B,G,GAt.blk I (fun E=>by rw [E] at L;exact A (fb L.symm)) m B⟩
def vc (x:Px) (w:World) (e:Ending) (A:World):Prop:=w.grownBy A none/\∃m,e=.returned (.agg m.toArray)/\jb (fun B=>w.heap.size<=B) A x m
set_option maxHeartbeats 16000000
set_option maxRecDepth 100000
open Go.RowKit List Nat Go.World
theorem Pq (w:World) (A:Obj):∃(W:World) (b0:Nat),W=w.alloc A/\w.heap.size=b0/\W.heap[b0]? = some A/\w.grownBy W none:=
 ⟨_,_,rfl,rfl,YK w A,qn w A none⟩
theorem zl {F:Nat->Prop} {w:World} {L:Option Addr} {O:List (List Value)} {I:List Ex} (Z:GAt 7 w L O) (Y:LsR F w I O) {j:Nat} {x:Ex} (hk:I[j]? = some x):
  ∃(B:Int) (a b c:ByteArray) (y:Bool) (p:Option Addr) (n k:Nat) (E:Int) (g m:Nat),L=some ⟨g,m,none⟩/\g<w.heap.size/\RAt F w x [.int .i64 B,.string a,.string b,.string c,.bool y,.slice p n k,.int .i64 E]/\
   w.cell? ⟨g,m+j*7,none⟩=some (.int .i64 B)/\w.cell? ⟨g,m+j*7+1,none⟩=some (.string a)/\w.cell? ⟨g,m+j*7+2,none⟩=some (.string b)/\w.cell? ⟨g,m+j*7+3,none⟩=some (.string c)/\w.cell? ⟨g,m+j*7+4,none⟩=some (.bool y)/\w.cell? ⟨g,m+j*7+5,none⟩=some (.slice p n k)/\w.cell? ⟨g,m+j*7+6,none⟩=some (.int .i64 E):=by
 obtain⟨ak,G,J⟩:=Bj Y hk
 obtain⟨g,m,rfl,R,A⟩:=Z.resolve_left (fun U=>by rw [U] at G;simp at G)
 obtain⟨B,a,b,c,y,p,n,k,E,rfl⟩:=J.form
 have A:=A j _ G
 have H:=A 0 _ rfl
 rw [Nat.add_zero] at H
 exact⟨B,a,b,c,y,p,n,k,E,g,m,rfl,R,J,H,A 1 _ rfl,A 2 _ rfl,A 3 _ rfl,A 4 _ rfl,A 5 _ rfl,A 6 _ rfl⟩
theorem B3 (F:Nat->Prop) (f:Fx) (q:List Value) (w:World) (h:cH F w f q) (A:FBd f):
  Calls Tryz.prog 30 #[.agg q.toArray] w (pq (dW f.base f.cl) w):=by
 obtain⟨pc,cc,bd,rfl,hg,eh,-⟩:=h
 have dS:=lm A
 have ak:dW f.base f.cl=58::eK f.base++f.cl.flatMap cL:=by unfold dW;simp
 have aq:=zh (fun W=>CF f.base A.base W)
 have CT:=zh A.cls
 obtain⟨ap,hy⟩:∃ap:ByteArray,(⟨f.nm.toArray⟩:ByteArray)=ap:=⟨_,rfl⟩
 unfold aD
 rw [hy]
 obtain⟨B,O⟩:=zx f.cl.length
 have HN:=zh O
 have a6:B<=1:=by rw [<-O];exact A.one
 obtain⟨aO,hD⟩:=zx (dW f.base f.cl)
 rw [hD] at dS ak
 have JK:=zh ak;have HL:=zh dS;have HG:=zh hg;have fc:=zh eh
 have NU:Hid ((eK f.base).length<=2):=zh (vQ _)
 generalize f.cl=G at *
 generalize f.base=E at *
 rw [O,hD]
 clear hy O hD dS ak hg eh A
 go_enter Tryz.func30,Tryz.ntmps30
 go_wp2_with fail
 obtain⟨WA,ay,av,A,hA,kt⟩:=Pq w (.cells #[.string ap,.int .i64 (E:Int),.slice pc B cc,.int .i64 (f.ps:Int),.int .i64 f.bare] 66)
 have HA:=zh hA;have xC:=zh kt
 rw [<-av]
 try rw [A]
 clear av A hA kt
 refine(aq WA).mono ?_
 rintro aJ W ⟨sP,he⟩
 obtain⟨L,Xz⟩:∃L:ByteArray,(⟨(eK E).toArray⟩:ByteArray)=L:=⟨_,rfl⟩
 have Z:L.data.toList=eK E:=by rw [<-Xz]
 rw [Xz] at he
 subst he
 have Kp:=zh Z
 have ZQ:L.size<=2:=by rw [aV Z];exact NU
 have HB:=zh (bx sP HA)
 have bm:=zh (aa xC sP)
 have Jv:Hid (∀m,(58::eK E++(G.take m).flatMap cL).length<=100010):=zh (fun m=>by
  have h1:=HL.out
  have h2:=gS cL G m
  rw [JK.out] at h1
  simp only [Q2,hJ] at h1 ⊢
  omega)
 clear sP Xz Z aq HA xC
 go_wp2_with fail
 go_loopw [3,4] (fun aL ao wr=>∃m:Nat,m<=B/\ao=.int .i64 m/\(∃I:ByteArray,aL=.string I/\Hid (I.data.toList=58::eK E++(G.take m).flatMap cL))/\Hid (W.grownBy wr none)) (fun _ ao _=>B - (intOf ao).toNat)
 case atStart=>exact⟨0,zero_le _,rfl,⟨_,rfl,zh (by simp [bo,Kp.out])⟩,zh (ad _ _)⟩
 case round=>
  obtain⟨m,hk,rfl,⟨I,rfl,J⟩,ij⟩:=hrel
  have Y:Hid (w.grownBy wr none):=zh (aa bm ij)
  have nz:=zh (bx ij HB)
  obtain⟨a0,a1,a2,a3,a4,a5⟩:=bC nz
  have Ep:ay<wr.heap.size:=hlt nz
  have K2:I.size<=1000000:=by rw [aV J.out];have:=Jv m;omega
  by_cases ax:m<B
  ·obtain⟨H,R⟩:∃H,G[m]? = some H:=⟨G[m]'(by rw [HN.out];exact ax),QS _⟩
   obtain⟨op,xa,xb,xc,xy,a9,a7,kk,bc,aX,a8,rfl,bN,hE,c0,c1,c2,c3,c4,c5,c6⟩:=zl (HG.kept Y) (fc.kept Y) R
   have U:=CT H (gn R)
   have MT:=zh (GN (cY H) H (Nat.le_refl _) F _ wr hE U.small (by have:=U.len;omega))
   have oA:Hid ((cL H).length<=100000):=zh U.len
   have cu:=zh (ib cL R)
   have d3:=zE ((m:Int)<(B:Int))
   have Yv:decide (m<B)=true:=zd ax
   clear R hE U
   go_wp2_with fail
   refine MT.mono ?_
   rintro aJ w7 ⟨⟨au,rfl,hd⟩,dV⟩
   have rP:au.size<=999998:=by rw [aV hd];have:=oA.out;omega
   have nE:Hid ((I++au).data.toList=58::eK E++(G.take (m+1)).flatMap cL):=zh (by rw [bo,J.out,hd,cu.out,append_assoc])
   have cG:Hid (W.grownBy w7 none):=zh (aa ij dV)
   clear hd dV
   go_wp2_with fail
   go_roundw
   case rel=>exact⟨m+1,by omega,by go_num,⟨_,rfl,nE⟩,cG⟩
   case measure=>(simp [intOf]<;>omega)
  ·obtain rfl:m=B:=by omega
   rw [V7 (by rw [HN.out];exact Nat.le_refl _)] at J
   go_wp2_with fail
   go_ret
   exact⟨⟨_,rfl,by rw [J.out,JK.out]⟩,Y⟩
set_option maxHeartbeats 32000000
theorem Tc {w L wr:World} {m J ni G nd E:Nat} {I H:Option Addr} {P:Px} {ak:List (List Value)} {x0 x1:Value} {X:Nat->Prop} (JZ:m<J) (hw:w.heap.size<=m) (h9:J<L.heap.size) (ao:w.grownBy wr none) (ec:wr.heap[m]? = some (.cells #[x0,x1] 35 (0,0)))
  (aq:ag 2 98 wr L.heap.size (.slice I ni G) (P.imps.map iK)) (ap:ag 15 62 wr L.heap.size (.slice H nd E) ak) (Z:dG (fun A=>J+1<=A/\A<wr.heap.size/\¬X A) wr P.defs ak):
  AZ P w (.returned (.agg #[.slice I ni G,.slice H nd E])) ((wr.setCell ⟨m,0,none⟩ (.slice I ni G)).setCell ⟨m,1,none⟩ (.slice H nd E)):=by
 obtain⟨Hn,gi,bi⟩:=aq.rows
 obtain⟨K3,gd,bd⟩:=ap.rows
 rw [length_map] at Hn
 rw [mp Z] at K3
 subst Hn;subst K3
 have hf:Fr2 (dm m) wr ((wr.setCell ⟨m,0,none⟩ (.slice I P.imps.length G)).setCell ⟨m,1,none⟩ (.slice H P.defs.length E)):=((Fr2.refl _ _).setCell (aK m) _).setCell (aK m) _
 have hP:gq (fun A=>J+1<=A) wr P [.slice I P.imps.length G,.slice H P.defs.length E]:=⟨I,G,H,E,ak,rfl,gi,gd,lU (fun A Y=>Y.1) Z,fun R=>by
  obtain⟨O,U,h1⟩:=bi (fun B=>R (map_eq_nil_iff.1 B));exact⟨O,U,by omega⟩,fun R=>by
  obtain⟨O,U,h1⟩:=bd (fun B=>R (by have:=mp Z;rw [B] at this;exact fb this.symm));exact⟨O,U,by omega⟩⟩
 exact⟨Fr2.after ao hf (fun au hj=>by have B:au=m:=hj;omega),_,rfl,gq.mono (fun A Y=>by omega) (gq.same hf (fun A Y B=>by have B:A=m:=B;omega) hP)⟩
theorem IV {T:List Tok} {N:List Nd} {K:Kf} (hT:T.length<=150000) (hN:N.length<=150000) {ao kd:Nat} (hR:N.length - 1=ao) {ks:List Int} {l:List Tr} (hx:N[ao]? = some ⟨(kd:Int),-1,ks⟩) (dL:KT N ao ks l) (dx:fj l) (eB:∀i∈cg l,i<T.length) (fG:bK l<=150000) (eM:∀t∈l,OkP T t) (iS:∀i,(tkT T i).pos<=1000000/\(tkT T i).text.length<=1000000) (pt pn:Option Addr) (ct cn:Nat) (w:World) (ht:TAt w pt T) (hn:al w pn N K) (gP:gF w):
  Calls Tryz.prog 24 #[.agg #[.slice pt T.length ct,.slice pn N.length cn]] w (AZ (bg T l) w):=by
 have xS:l.length<=150000:=Nat.le_trans (fw l) fG
 have a8:ao<N.length:=(Q4.1 hx).1
 have jm:=zh (fun (ap:Nat) (bn:Nd) W (hx:N[ap]? = some bn) h=>vK (K:=K) hN hx pt pn T.length ct cn W h)
 have zU:=zh (fun W h=>sJ (K:=K) hN hx pt pn T.length ct cn W h)
 have Kg:=zh (fun W=>OJ pt pn T.length ct N.length cn (by omega) (by omega) W)
 rw [hR] at Kg
 have SQ:=zh (fun (ap:Nat) (m:Nat) (ks:List Int) (l:List Tr) W (hx:N[ap]? = some ⟨(m:Int),-1,ks⟩) (dL:KT N ap ks l) (dx:fj l) (eB:∀i∈cg l,i<T.length) (xS:l.length<=150000) h1 I=>sg (K:=K) hT hN hx dL dx eB xS pt pn ct cn W h1 I)
 have V6:=zh (fun (ap m:Nat) (ks:List Int) (l:List Tr) (W:World) (hs:ShD T (.nd 3 l)) (hx:N[ap]? = some ⟨(m:Int),-1,ks⟩) (dL:KT N ap ks l) (dx:fj l) (eB:∀i∈cg l,i<T.length) (fG:bK l<=150000) (h1:TAt W pt T) (I:al W pn N K) (h3:gF W)=>(show Calls Tryz.prog 56 #[.agg #[.slice pt T.length ct,.slice pn N.length cn],.int .i64 (ap:Int)] W (Bz (lG T l) W) from by
  obtain⟨o1,o2,⟨i0,o3⟩,⟨u,o4,o5,o6⟩,o7⟩:=MY hs
  exact Z9 (K:=K) hT hN hx dL dx eB fG o1 o2 iS o3 o4 o5 o6 o7 pt pn ct cn W h1 I h3))
 have HX:=zh hx;have kA:=zh dL;have sE:=zh dx;have lY:=zh eB;have lj:=zh fG;have qk:=zh eM
 have HT:=zh ht;have HN:=zh hn;have iF:=zh gP
 obtain⟨mt,wu⟩:=zx T.length
 obtain⟨mn,zo⟩:=zx N.length
 obtain⟨ak,hM⟩:=zx ks.length
 have SX:ak=l.length:=by rw [<-hM];exact dL.1
 have Bt:=zh SX
 have bN:ak<=150000:=by omega
 rw [wu,zo] at jm zU Kg SQ V6 ⊢
 have zU:Hid (∀W,al W pn N K->Calls Tryz.prog 37 #[.agg #[.slice pt mt ct,.slice pn mn cn],.int .i64 (ao:Int)] W (bp (.slice (K ao).1 ak (K ao).2) W)):=zh (fun W h=>by rw [<-hM];exact zU W h)
 have xY:=zh wu
 obtain⟨pk,BO⟩:=zx (K ao).1
 have Xq:=zh BO
 rw [BO] at zU
 generalize (K ao).2=ck at *
 clear ht hn gP hx dL dx eB fG eM iS hT hN wu zo hM SX xS BO a8 hR
 go_enter Tryz.func24,Tryz.ntmps24
 go_wp2_with fail
 obtain⟨W,b0,b2,A,hW,e0,e1,e2,cS,ec,yJ,dp,bM,JZ⟩:=three w (.cells #[.slice pt mt ct,.slice pn mn cn] 82) (.cells #[.slice none 0 0,.slice none 0 0] 35) (.cells #[.slice none 0 0,.slice none 0 0] 35)
 have bB:=zh cS;have bP:=zh ec;have ie:=zh yJ;have bm:=zh dp;have gj:=zh e0
 clear cS ec yJ dp
 try rw [<-hW]
 try rw [e2]
 try rw [e1]
 try rw [e0]
 clear e0 e1 e2 hW
 have a4:=zh (HN.kept bm)
 obtain⟨a0,a1,a2⟩:=ac bB
 have dZ:b0<W.heap.size:=hlt bB
 go_cut [11,12,13] (fun bc bd bi wx=>Hid (bc=.slice pk ak ck/\bd=.int .i64 (ak:Int)/\bi=.int .i64 0/\W.grownBy wx none))
 case first=>
  go_region_held3 (fun w'=>w'.cell? ⟨b0,0,none⟩=some (.slice pt mt ct)/\w'.cell? ⟨b0,1,none⟩=some (.slice pn mn cn))
   (first | with_reducible exact⟨a0,a1⟩ | go_keep)
   (first
    | (go_at_call 38;refine(Kg _).mono ?_;rintro B w5 ⟨rfl,dw⟩;have ef:=zh (aa (show W.grownBy _ none from gbx) dw);have s5:W.heap.size<=w5.heap.size:=ef.size;obtain⟨a0,a1,a2⟩:=ac (bx ef bB);clear dw)
    | (go_at_call 37;refine(zU _ (a4.kept (aa ef gbx))).mono ?_;rintro B w6 ⟨rfl,Y⟩;have J:=zh (aa ef (aa (show w5.grownBy _ none from gbx) Y));have s6:W.heap.size<=w6.heap.size:=J.size;obtain⟨a0,a1,a2⟩:=ac (bx J bB);clear Y))
  all_goals
   go_wp2_with fail
   go_meet
   exact zh ⟨rfl,rfl,rfl,J⟩
 case rest=>
  obtain⟨rfl,rfl,rfl,dX⟩:=hcut.out
  have gh:=zh dX
  have XA:=zh (bx dX bB);have yz:=zh (bx dX bP);have aJ:=zh (bx dX ie)
  have fR:=zh (aa bm dX)
  have AQ:Hid (A+1<=wc.heap.size):=zh (hlt aJ)
  clear hcut dX a0 a1 a2 dZ
  have a9:w.heap.size<=b2:=by have:=gj.out;omega
  go_wp2_with fail
  go_loopw [13] (fun iv wr=>∃(j:Nat) (H:List (List Value)) (Z:Option Addr) (O U:Nat) (R:Option Addr) (nd L:Nat),j<=ak/\iv=.int .i64 (j:Int)/\Hid (wr.heap[A]? = some (.cells #[.slice Z O U,.slice R nd L] 35 (0,0)))/\Hid (ag 2 98 wr wc.heap.size (.slice Z O U) ((bg T (l.take j)).imps.map iK))/\Hid (ag 15 62 wr wc.heap.size (.slice R nd L) H)/\Hid (Sep (.slice Z O U) (.slice R nd L))/\Hid (dG (fun m=>A+1<=m/\m<wr.heap.size/\¬Wr3 A (.slice Z O U) (.slice R nd L) m) wr (bg T (l.take j)).defs H)/\Hid (Fr2 (fun m=>m=A) wc wr)) (fun iv _=>ak - (intOf iv).toNat)
  case atStart=>exact⟨0,[],none,0,0,none,0,0,zero_le _,rfl,aJ,zh (by simp [bg];exact ag.nil _ _ _ _),zh (ag.nil _ _ _ _),zh (fun m h=>by cases h),zh (by simp [bg,dG]),zh (Fr2.refl _ _)⟩
  case round=>
   obtain⟨j,H,Z,O,U,R,nd,L,hj,rfl,sQ,qs,tS,Er,fc,HF⟩:=hrel
   have cW:Hid (w.grownBy wr none):=zh (Fr2.after fR HF (fun i hi=>by have B:i=A:=hi;omega))
   have bV:=zh (HF.keep XA (by omega));have bW:=zh (HF.keep yz (by omega))
   have Ez:Hid (A+1<=wr.heap.size):=zh (Nat.le_trans AQ HF.size)
   have rV:=zh (HT.kept cW);have mv:=zh (HN.kept cW);have K8:=zh (iF.kept cW)
   obtain⟨a0,a1,a2⟩:=ac bV
   obtain⟨d0,d1,d2⟩:=ac sQ
   have dZ:b0<wr.heap.size:=hlt bV
   have fa:A<wr.heap.size:=hlt sQ
   by_cases a7:j<ak
   ·obtain⟨uj,yL⟩:∃u,l[j]? = some u:=⟨l[j]'(by have:=Bt.out;omega),QS _⟩
    obtain⟨k1,eD,dK,gW⟩:=kA.2 j uj yL
    obtain⟨gg,oo,JL,ns,jx⟩:=bO (HN.2 ao _ HX) eD
    rw [Xq.out] at JL
    subst JL
    have jx:=cW.cell jx (by simp)
    have bw:gg<wr.heap.size:=zn ns cW.size
    have y1:(0:Int)<=(j:Int):=by omega
    have y2:(j:Int)<(ak:Int):=by omega
    have y3:decide (j<ak)=true:=zd a7
    have y4:decide ((j:Int)<(ak:Int))=true:=zd y2
    have cu:=zh (zA T yL)
    have j8:=zh (qk uj (gn yL))
    obtain⟨bX,bL,a3,-⟩:=qs.is
    have ym:O=((bg T (l.take j)).imps.map iK).length:=by injection a3
    obtain⟨bS,bF,aX,-⟩:=tS.is
    have DL:nd=H.length:=by injection aX
    have Mm:=Dn T (l.take j)
    have rm:=length_take (i:=j) (l:=l)
    have Fs:Hid (((bg T (l.take j)).imps.map iK).length<=1000000):=zh (by rw [length_map];omega)
    have Cc:Hid (H.length<=1000000):=zh (by have h1:=mp fc.out;omega)
    clear a3 aX Mm rm ns
    by_cases I:aU uj=2
    ·cases uj with
     | lf i=>simp [aU] at I
     | nd k' l'=>
       have I:k'=2:=I
       subst I
       obtain⟨n',mE,eC,dO,gD⟩:=dK.nd
       have eC:k1=n':=by omega
       subst eC
       have ln:=da sE yL
       simp only [kOk] at ln
       have jM:=zh (jm k1 _ wr dO mv)
       obtain⟨i9,n9,m9,rfl⟩:=j8.1 l' rfl
       have IP:=zh (fun W h1 I=>SQ k1 2 mE [.lf i9,.lf n9,.lf m9] W dO gD ln.2.2 (fun av hz=>by rw [<-xY.out];exact lY av (dy yL av (by simp only [lvT];exact hz))) (by simp) h1 I)
       obtain⟨tk,rm⟩:=zx (tkT T n9).kind
       obtain⟨tp,tY⟩:=zx (tkT T n9).pos
       obtain⟨yl,pf⟩:∃ax:ByteArray,(⟨(tkT T n9).lead.toArray⟩:ByteArray)=ax:=⟨_,rfl⟩
       obtain⟨yt,Ej⟩:∃ax:ByteArray,(⟨(tkT T n9).text.toArray⟩:ByteArray)=ax:=⟨_,rfl⟩
       have uf:Hid (∀(W:World) (aq:Option Addr),TAt W aq ((ba [Tr.lf i9,Tr.lf n9,Tr.lf m9]).map (tkT T))->∃g au,aq=some ⟨g,au,none⟩/\g<W.heap.size/\W.cell? ⟨g,au+4,none⟩=some (.int .i64 (tk:Int))/\W.cell? ⟨g,au+4+1,none⟩=some (.string yl)/\W.cell? ⟨g,au+4+2,none⟩=some (.string yt)/\W.cell? ⟨g,au+4+3,none⟩=some (.int .i64 (tp:Int))):=zh (fun W aq h=>by
        obtain⟨g2,C0,cI,CM,c0,c1,c2,c3⟩:=cF h (i:=1) (by simp [ba])
        have e0:tkT ((ba [Tr.lf i9,Tr.lf n9,Tr.lf m9]).map (tkT T)) 1=tkT T n9:=by simp [tkT,ba]
        rw [e0,Nat.one_mul] at c0 c1 c2 c3
        unfold aD at c1 c2
        rw [rm] at c0;rw [pf] at c1;rw [Ej] at c2;rw [tY] at c3
        exact⟨g2,C0,cI,CM,c0,c1,c2,c3⟩)
       have IP:Hid (∀W,TAt W pt T->al W pn N K->Calls Tryz.prog 55 #[.agg #[.slice pt mt ct,.slice pn mn cn],.int .i64 (k1:Int)] W (fun B w'=>W.grownBy w' none/\∃aq a6,B=.returned (.slice aq 3 a6)/\TAt w' aq ((ba [Tr.lf i9,Tr.lf n9,Tr.lf m9]).map (tkT T)))):=IP
       have xL:Hid ((bg T (l.take (j+1))).imps.map iK=(bg T (l.take j)).imps.map iK++[[.string yt,.int .i64 (tp:Int)]]/\(bg T (l.take (j+1))).defs=(bg T (l.take j)).defs):=zh ⟨by
        rw [cu.1,if_pos (show aU (.nd 2 [Tr.lf i9,Tr.lf n9,Tr.lf m9])=2 from rfl),map_append]
        congr 1
        show [iK (Cf T [Tr.lf i9,Tr.lf n9,Tr.lf m9])]=_
        have e1:Cf T [Tr.lf i9,Tr.lf n9,Tr.lf m9]=((tkT T n9).text,(tkT T n9).pos):=rfl
        rw [e1];unfold iK aD;rw [Ej,tY],by rw [cu.2,if_neg (show ¬aU (.nd 2 [Tr.lf i9,Tr.lf n9,Tr.lf m9])=3 by simp [aU]),append_nil]⟩
       obtain⟨LI,aO⟩:=zx ((bg T (l.take j)).imps.map iK)
       rw [aO] at xL qs Fs ym
       have bq:=zh ym
       clear yL eD dK gW dO gD ln rm tY pf Ej j8 cu DL aO ym
       go_wp2_with fail
       refine jM.mono ?_
       rintro B w6 ⟨rfl,Y⟩
       have J:=zh Y
       clear a0 a1 a2 d0 d1 d2
       obtain⟨a0,a1,a2⟩:=ac (bx Y bV)
       have dZ:b0<w6.heap.size:=zn dZ Y.size
       clear Y jM
       go_wp2_with fail
       refine(IP _ (rV.kept J) (mv.kept J)).mono ?_
       rintro B w7 ⟨dV,pr,cr,rfl,ZP⟩
       obtain⟨gr,xT,rfl,AR,r0,r1,r2,r3⟩:=uf _ _ ZP
       have cG:=zh (aa J dV)
       obtain⟨d0,d1,d2⟩:=ac (bx cG sQ)
       have fa:A<w7.heap.size:=hlt (bx cG sQ)
       have fh:=zh (qs.kept cG)
       have tQ:Hid (wc.heap.size<=w7.heap.size):=zh (Nat.le_trans HF.size cG.size)
       clear dV IP ZP uf a0 a1 a2
       go_wp2_with (at_builtin;go_loud (refine gm (s:=2) (t:=32) (T:=98) (by decide) Tryz.underlying32 MW rfl (by omega) rfl _ _ rfl wc.heap.size LI [.string yt,.int .i64 (tp:Int)] rfl (fun u hu=>by simp at hu;rcases hu with rfl | rfl<;>rfl) (.slice Z O U) rfl (ag.kept fh (af (af (ad w7 _) (.cells #[.int .i64 (tk:Int),.string yl,.string yt,.int .i64 (tp:Int)] 91)) (.cells #[.string yt,.int .i64 (tp:Int)] 98))) (w7.heap.size+1) _ rfl (by have h:=YK (w7.alloc (.cells #[.int .i64 (tk:Int),.string yl,.string yt,.int .i64 (tp:Int)] 91)) (.cells #[.string yt,.int .i64 (tp:Int)] 98);simpa using h) rfl Fs (by have:=tQ.out;simp;omega) (w7.heap.size+2) (by simp) ?_))
       obtain⟨W8,Em⟩:=zx (w7.alloc (.cells #[.int .i64 (tk:Int),.string yl,.string yt,.int .i64 (tp:Int)] 91))
       have KE:W8.heap.size=w7.heap.size+1:=by rw [<-Em];simp
       have eY:Hid (wr.grownBy W8 none):=zh (by rw [<-Em];exact af cG _)
       have aL:=zh (bx eY sQ)
       have ay:Hid (wc.heap.size<=W8.heap.size):=zh (Nat.le_trans HF.size eY.size)
       have ZK:=zh (qs.kept eY)
       rw [Em]
       clear r0 r1 r2 r3 d0 d1 d2 fa Em
       have fa:A<W8.heap.size:=hlt aL
       intro G E w9 fM bH el
       have dz:W8.grownBy (W8.alloc (.cells #[.string yt,.int .i64 (tp:Int)] 98)) none:=qn _ _ _
       have B5:∀m,(Value.slice R nd L).ownBlock=some m->m<wr.heap.size:=fun m B=>(ag.at tS m B).2
       have a5:=eY.size
       have vW:=(bH.block A (by simp;omega) (fun B=>by have:=(ag.at ZK A B.symm).1;have:=AQ.out;omega)).trans (show _=_ from bx dz aL)
       obtain⟨d0,d1,d2⟩:=ac vW
       have fa:A<w9.heap.size:=hlt vW
       have bu:Hid (LI.length+1<=1000001):=zh (by have:=Fs.out;omega)
       have fq:Hid ((w9.setCell ⟨A,0,none⟩ (.slice (some ⟨G,0,none⟩) (LI.length+1) E)).heap[A]? = some (.cells #[.slice (some ⟨G,0,none⟩) (LI.length+1) E,.slice R nd L] 35 (0,0))):=zh (ab (i:=0) (u:=.slice (some ⟨G,0,none⟩) (LI.length+1) E) vW)
       have iQ:Hid (ag 2 98 (w9.setCell ⟨A,0,none⟩ (.slice (some ⟨G,0,none⟩) (LI.length+1) E)) wc.heap.size (.slice (some ⟨G,0,none⟩) (LI.length+1) E) (LI++[[.string yt,.int .i64 (tp:Int)]])):=zh (fM.keptS (Fr2.setCell (S:=fun m=>m=A) (Fr2.refl _ _) (g:=A) (j:=0) rfl _) (fun g hg B=>by have:=AQ.out;omega))
       have QA:Hid (ag 15 62 (w9.setCell ⟨A,0,none⟩ (.slice (some ⟨G,0,none⟩) (LI.length+1) E)) wc.heap.size (.slice R nd L) H):=zh (((ag.keptR (ag.kept tS (aa eY dz)) bH (fun m h1 I=>Er m I h1))).keptS (Fr2.setCell (S:=fun m=>m=A) (Fr2.refl _ _) (g:=A) (j:=0) rfl _) (fun g hg B=>by have:=AQ.out;omega))
       have ru:Hid (Sep (.slice (some ⟨G,0,none⟩) (LI.length+1) E) (.slice R nd L)):=zh (qK Er (fun m B=>by have:=B5 m B;omega) el)
       have oW:Hid (dG (fun m=>A+1<=m/\m<(w9.setCell ⟨A,0,none⟩ (.slice (some ⟨G,0,none⟩) (LI.length+1) E)).heap.size/\¬Wr3 A (.slice (some ⟨G,0,none⟩) (LI.length+1) E) (.slice R nd L) m) (w9.setCell ⟨A,0,none⟩ (.slice (some ⟨G,0,none⟩) (LI.length+1) E)) (bg T (l.take j)).defs H):=zh (ON (w7:=W8) fc eY dz (by simp) bH (el.imp id (fun h=>by omega)))
       have gB:Hid (Fr2 (fun m=>m=A) wc (w9.setCell ⟨A,0,none⟩ (.slice (some ⟨G,0,none⟩) (LI.length+1) E))):=zh ((HF.low (Below.trans2 (Below.gb eY HF.size) (Below.trans2 (Below.gb dz ay) ((Fr2.of bH (S:=fun m=>(Value.slice Z O U).ownBlock=some m) (fun m B=>B)).below (by have:=ay.out;simp;omega) (fun m B=>(ag.at ZK m B).1))))).setCell rfl _)
       clear dz B5 a5 vW fM bH el ZK qs tS Er fc HF KE
       go_wp2_with fail
       go_roundw
       case rel=>exact⟨j+1,H,some ⟨G,0,none⟩,LI.length+1,E,R,nd,L,by omega,by go_num,fq,zh (by rw [xL.1];exact iQ),QA,ru,zh (by rw [xL.2];exact oW),gB⟩
       case measure=>simp [intOf];omega
    ·by_cases h3:aU uj=3
     ·cases uj with
      | lf i=>simp [aU] at h3
      | nd k' l'=>
        have h3:k'=3:=h3
        subst h3
        obtain⟨n',mE,eC,dO,gD⟩:=dK.nd
        have eC:k1=n':=by omega
        subst eC
        have ln:=da sE yL
        simp only [kOk] at ln
        have jM:=zh (jm k1 _ wr dO mv)
        have EI:=zh (fun W h1 I h3=>V6 k1 3 mE l' W (j8.2 l' rfl) dO gD ln.2.2 (fun av hz=>by rw [<-xY.out];exact lY av (dy yL av (by simp only [lvT];exact hz))) (by have h9:=eU yL;have h8:=lj.out;simp only [szR] at h9;omega) h1 I h3)
        have xL:Hid ((bg T (l.take (j+1))).imps=(bg T (l.take j)).imps/\(bg T (l.take (j+1))).defs=(bg T (l.take j)).defs++[lG T l']):=zh ⟨by rw [cu.1,if_neg (show ¬aU (.nd 3 l')=2 by simp [aU]),append_nil],by rw [cu.2,if_pos (show aU (.nd 3 l')=3 from rfl)];rfl⟩
        have YS:=zh DL
        clear yL eD dK gW dO gD ln j8 cu DL ym I
        go_wp2_with fail
        refine jM.mono ?_
        rintro B w6 ⟨rfl,Y⟩
        have J:=zh Y
        clear a0 a1 a2 d0 d1 d2
        obtain⟨a0,a1,a2⟩:=ac (bx Y bV)
        obtain⟨d0,d1,d2⟩:=ac (bx Y sQ)
        have dZ:b0<w6.heap.size:=zn dZ Y.size
        have fa:A<w6.heap.size:=zn fa Y.size
        clear Y jM
        go_wp2_with fail
        go_region_law (first
         | (refine eG (s:=15) (t:=33) (T:=62) (by decide) Tryz.underlying33 NX rfl (by omega) rfl _ _ rfl wc.heap.size H [q0,q1,q2,q3,q4,q5,q6,q7,q8,q9,mQ,mr,mN,ql,BV] rfl rp (.slice R nd L) rfl (ag.kept fh gby) w7.heap.size _ rfl (by exact iH) rfl Cc (by have:=gO.out;simp;omega) (w7.heap.size+1) (by simp) ?_;intro G E w9 fM bH el;have iJ:=(bH.block A (by simp;omega) (fun B=>by have:=(ag.at fh A B.symm).1;have:=AQ.out;omega)).trans (show _=_ from bx (show w7.grownBy _ none from gby) Sn);obtain⟨r0,r1,r2⟩:=ac iJ;have fW:=zh iJ;have ji:=zh fM;have ii:=zh bH;have oC:=zh el;have fa:A<w9.heap.size:=hlt iJ;clear iJ fM bH el)
         | (go_simp;go_at_call 56;refine(EI _ (rV.kept (aa J gby)) (mv.kept (aa J gby)) (K8.kept (aa J gby))).mono ?_;rintro B w7 ⟨dV,b1,rfl,hq⟩;obtain⟨-,qq,q0,q1,q2,q3,q4,q5,q6,q7,q8,q9,mQ,mr,mN,ql,BV,rfl⟩:=hq.fift;have rp:=zh qq;have sI:=zh (aa J (aa (show w6.grownBy _ none from gby) dV));have HQ:Hid (DAt (fun m=>wr.heap.size<=m) w7 _ [q0,q1,q2,q3,q4,q5,q6,q7,q8,q9,mQ,mr,mN,ql,BV]):=zh (DAt.mono (fun m hk=>Nat.le_trans J.size hk) hq);have fh:=zh (tS.kept sI);have Sn:=zh (bx sI sQ);obtain⟨x0,x1,x2⟩:=ac Sn.out;have bt:A<w7.heap.size:=hlt Sn.out;have gO:Hid (wc.heap.size<=w7.heap.size):=zh (Nat.le_trans HF.size sI.size);have iH:=zh (YK w7 (.cells #[q0,q1,q2,q3,q4,q5,q6,q7,q8,q9,mQ,mr,mN,ql,BV] 62));clear dV hq qq))
        all_goals
         have dz:w7.grownBy (w7.alloc (.cells #[q0,q1,q2,q3,q4,q5,q6,q7,q8,q9,mQ,mr,mN,ql,BV] 62)) none:=qn _ _ _
         have oW:Hid (dG (fun m=>A+1<=m/\m<(w9.setCell ⟨A,1,none⟩ (.slice (some ⟨G,0,none⟩) (H.length+1) E)).heap.size/\¬Wr3 A (.slice Z O U) (.slice (some ⟨G,0,none⟩) (H.length+1) E) m) (w9.setCell ⟨A,1,none⟩ (.slice (some ⟨G,0,none⟩) (H.length+1) E)) (bg T (l.take (j+1))).defs (H++[[q0,q1,q2,q3,q4,q5,q6,q7,q8,q9,mQ,mr,mN,ql,BV]])):=zh (by
          rw [xL.2]
          exact OO (w7:=w7) (wa:=w7.alloc (.cells #[q0,q1,q2,q3,q4,q5,q6,q7,q8,q9,mQ,mr,mN,ql,BV] 62)) Ez (by have:=AQ.out;omega) (hlt sQ) qs tS fc sI HQ dz (by simp) ii oC)
         have fq:Hid ((w9.setCell ⟨A,1,none⟩ (.slice (some ⟨G,0,none⟩) (H.length+1) E)).heap[A]? = some (.cells #[.slice Z O U,.slice (some ⟨G,0,none⟩) (H.length+1) E] 35 (0,0))):=zh (ab (i:=1) (u:=.slice (some ⟨G,0,none⟩) (H.length+1) E) fW)
         have iQ:Hid (ag 15 62 (w9.setCell ⟨A,1,none⟩ (.slice (some ⟨G,0,none⟩) (H.length+1) E)) wc.heap.size (.slice (some ⟨G,0,none⟩) (H.length+1) E) (H++[[q0,q1,q2,q3,q4,q5,q6,q7,q8,q9,mQ,mr,mN,ql,BV]])):=zh (ji.keptS (Fr2.setCell (S:=fun m=>m=A) (Fr2.refl _ _) (g:=A) (j:=1) rfl _) (fun g hg B=>by have:=AQ.out;omega))
         have LH:Hid (ag 2 98 (w9.setCell ⟨A,1,none⟩ (.slice (some ⟨G,0,none⟩) (H.length+1) E)) wc.heap.size (.slice Z O U) ((bg T (l.take (j+1))).imps.map iK)):=zh (by
          rw [xL.1]
          exact((ag.keptR (ag.kept qs (aa sI dz)) ii (fun m h1 I=>Er m h1 I))).keptS (Fr2.setCell (S:=fun m=>m=A) (Fr2.refl _ _) (g:=A) (j:=1) rfl _) (fun g hg B=>by have:=AQ.out;omega))
         have ru:Hid (Sep (.slice Z O U) (.slice (some ⟨G,0,none⟩) (H.length+1) E)):=zh (Sep.symm (qK (Sep.symm Er) (fun m B=>by have h1:=(ag.at qs m B).2;have I:=sI.size;omega) oC))
         have gB:Hid (Fr2 (fun m=>m=A) wc (w9.setCell ⟨A,1,none⟩ (.slice (some ⟨G,0,none⟩) (H.length+1) E))):=zh ((HF.low (Below.trans2 (Below.gb sI HF.size) (Below.trans2 (Below.gb dz gO) ((Fr2.of ii (S:=fun m=>(Value.slice R nd L).ownBlock=some m) (fun m B=>B)).below (by have:=gO.out;simp;omega) (fun m B=>(ag.at fh m B).1))))).setCell rfl _)
         clear dz ji fW ii oC iH HQ rp fh Sn r0 r1 r2 x0 x1 x2 fc qs tS HF
         go_wp2_with fail
         go_roundw
         case rel=>exact⟨j+1,H++[[q0,q1,q2,q3,q4,q5,q6,q7,q8,q9,mQ,mr,mN,ql,BV]],Z,O,U,some ⟨G,0,none⟩,H.length+1,E,by omega,by go_num,fq,LH,iQ,ru,oW,gB⟩
         case measure=>simp [intOf];omega
     ·have xL:Hid ((bg T (l.take (j+1))).imps=(bg T (l.take j)).imps/\(bg T (l.take (j+1))).defs=(bg T (l.take j)).defs):=zh ⟨by rw [cu.1,if_neg I,append_nil],by rw [cu.2,if_neg h3,append_nil]⟩
      obtain⟨xk,VN,zF,bs⟩:∃xk:Int,(Calls Tryz.prog 54 #[.agg #[.slice pt mt ct,.slice pn mn cn],.int .i64 (k1:Int)] wr (bp (.int .i64 xk) wr))/\(xk == 2)=false/\(xk == 3)=false:=by
       cases uj with
       | lf i=>
         obtain⟨n',eC,dO⟩:=dK.lf
         have eC:k1=n':=by omega
         subst eC
         exact⟨19,jm k1 _ wr dO mv,rfl,rfl⟩
       | nd k' l'=>
         obtain⟨n',mE,eC,dO,-⟩:=dK.nd
         have eC:k1=n':=by omega
         subst eC
         exact⟨(k':Int),jm k1 _ wr dO mv,xz.2 (fun B=>I (by have e2:k'=2:=(by omega);exact e2)),xz.2 (fun B=>h3 (by have e2:k'=3:=(by omega);exact e2))⟩
      have VN:=zh VN
      clear yL eD dK gW I h3 ym DL
      go_wp2_with fail
      refine VN.mono ?_
      rintro B w6 ⟨rfl,Y⟩
      have J:=zh Y
      clear Y
      go_wp2_with fail
      go_roundw
      case rel=>exact⟨j+1,H,Z,O,U,R,nd,L,by omega,by go_num,zh (bx J sQ),zh (by rw [xL.1];exact qs.kept J),zh (tS.kept J),Er,zh (by rw [xL.2];exact lU (fun m hk=>⟨hk.1,zn hk.2.1 J.size,hk.2.2⟩) (ol fc J)),zh (HF.trans (Fr2.none J))⟩
      case measure=>simp [intOf];omega
   ·obtain rfl:j=ak:=by omega
    have fP:Hid (l.take j=l):=zh (V7 (by have:=Bt.out;omega))
    rw [fP.out] at qs fc
    obtain⟨f0,f1,f2⟩:=ac bW
    have cB:b2<wr.heap.size:=hlt bW
    have HP:=zh (Tc JZ a9 AQ cW bW qs tS fc)
    go_wp2_with fail
    have hc:=ab (i:=1) (u:=.slice R nd L) (ab (i:=0) (u:=.slice Z O U) bW)
    obtain⟨k0,k1,-⟩:=ac (show((wr.setCell ⟨b2,0,none⟩ (.slice Z O U)).setCell ⟨b2,1,none⟩ (.slice R nd L)).heap[b2]? = some (Obj.cells #[.slice Z O U,.slice R nd L] 35 (0,0)) from hc)
    refine bodyPost_ret (v:=.agg #[.slice Z O U,.slice R nd L]) (by simp [results,Tryz.results24,go_sem,k0,k1]) rfl HP
def oZ (l:List UInt8) (D:Int):Px:=bg (ai l).1 (aR (ai l).1 D.toNat false).1
theorem Sj {L:List Tok}:∀ {t:Tok},t∈L->t.lead.length+t.text.length<=(cq L).length:=by
 induction L with
 | nil=>intro t h;simp at h
 | cons m L B=>
   intro t h
   have A:cq (m::L)=m.lead++m.text++cq L:=rfl
   rw [A,Q2,Q2]
   rcases mem_cons.1 h with rfl | h
   ·omega
   ·have:=B h;omega
theorem uU {l:List UInt8} (H:l.length<=30000) (h:(ai l).2.1=0):∀i,(tkT (ai l).1 i).pos<=1000000/\(tkT (ai l).1 i).text.length<=1000000:=fun i=>by
 unfold tkT
 cases m:(ai l).1[i]? with
 | none=>exact⟨by simp,by simp⟩
 | some E=>
   have A:=Sj (gn m)
   have G:=((ly h).1 i E m).1
   have B:=kP (ai l).1 i
   rw [jP h] at A B
   simp only [Option.getD_some]
   omega
theorem oa {l:List UInt8} {D:Int} (h:vB l D false):∃(ks:List Int),(aw l D false)[(aw l D false).length - 1]? = some ⟨((1:Nat):Int),-1,ks⟩/\KT (aw l D false) ((aw l D false).length - 1) ks (aR (ai l).1 D.toNat false).1/\fj (aR (ai l).1 D.toNat false).1/\(∀i∈cg (aR (ai l).1 D.toNat false).1,i<(ai l).1.length)/\bK (aR (ai l).1 D.toNat false).1<=(aw l D false).length/\∀t∈(aR (ai l).1 D.toNat false).1,OkP (ai l).1 t:=by
 have I:=ug.root (.nd 1 (aR (ai l).1 D.toNat false).1)
 have B:aw l D false=post 0 (.nd 1 (aR (ai l).1 D.toNat false).1):=rfl
 obtain⟨J,ks,L,A,m⟩:=I.nd
 have G:(aw l D false).length=szR (.nd 1 (aR (ai l).1 D.toNat false).1):=by rw [B,kh]
 have H:J=(aw l D false).length - 1:=by omega
 rw [<-B] at A m
 rw [H] at A m
 refine⟨ks,A,m,He (ai l).1 D.toNat false,fun i E=>?_,?_,Xl (Vz (Gu l) h.ok)⟩
 ·rw [nC h.lex D.toNat false h.ok] at E
  exact mem_range.1 E
 ·rw [G];simp only [szR];omega
theorem It {l:List UInt8} {D:Int} (U:l.length<=25000) (h:vB l D false) (R:(aw l D false).length<=2*(ai l).1.length) {K:Kf} (pt pn:Option Addr) (ct cn:Nat) (w:World) (I:TAt w pt (ai l).1) (H:al w pn (aw l D false) K) (G:gF w):
  Calls Tryz.prog 24 #[.agg #[.slice pt (ai l).1.length ct,.slice pn (aw l D false).length cn]] w (AZ (oZ l D) w):=by
 obtain⟨Y,J,m,A,B,O,E⟩:=oa h
 have L:=jG h.lex
 exact IV (K:=K) (by omega) (by omega) rfl J m A B (by omega) E (uU (by omega) h.lex) pt pn ct cn w I H G
set_option maxHeartbeats 64000000
open Go.RowKit List Go.World
theorem LX (T:List Tok) (N:List Nd) (K:Nat->Option Addr×Nat) (pt pn:Option Addr) (ct cn aO:Nat) (aJ:RIH T N K pt pn ct cn aO) (hT:T.length<=40000) (hN:N.length<=150000)
  (n:Nat) (ks:List Int) (kd:Nat) (l:List Tr) (hx:N[n]? = some ⟨(kd:Int),-1,ks⟩) (dL:KT N n ks l) (hm:bK l<=aO) (mA:l.length<=150000) (dx:fj l) (eB:∀z∈cg l,z<T.length) (lx:WEs T l) (hs:ShE T kd l) (H:kd=13)
  (w:World) (ht:bl w pt (T.map toI)) (hw:al w pn N K):
  Calls Tryz.prog 58 #[.agg #[.slice pt T.length ct,.slice pn N.length cn],.int .i64 (n:Int)] w (iq (axT T (.nd kd l)) w):=by
 have HM:=zh (fun (op ps:Nat) W J Z=>pz T N K pt pn ct cn aO aJ hT hN n ks (kd:Int) l hx dL hm mA dx (gU lx dx eB) op ps W J Z)
 have Gt:=zh aJ;have kA:=zh dL;have sE:=zh dx;have lY:=zh eB;have K0:=zh lx;have qm:=zh hs;have lj:=zh hm;have nQ:=zh hT;have xx:=zh hN
 obtain⟨k0,ak,y1,y2,ap,oh,yO,tr⟩:=gN (K:=K) (pt:=pt) (pn:=pn) (ct:=ct) (cn:=cn) hT hN dL dx eB (by cases hs<;>simp)
 have Ai:=zh yO
 have lC:=zh tr
 obtain⟨kI,se⟩:∃kI:Int,(kd:Int)=kI:=⟨_,rfl⟩
 have jm:=zh se
 rw [se] at hx
 obtain⟨g,ao,rfl,bN,c0,c1,c2⟩:=bZ hw hx
 have iE:=zh (hw.2 n _ hx)
 have hn:n<N.length:=(Q4.1 hx).1
 have HW:=zh hw;have HT:=zh ht
 have lH:=zh dL.1
 obtain⟨aq,hM⟩:=zx N.length
 obtain⟨tm,kK⟩:=zx T.length
 obtain⟨U,ge⟩:=zx ks.length
 have Qy:0<U:=by rw [<-ge,lH.out];cases hs<;>simp
 have Ei:=zh hM;have ue:=zh kK;have uL:=zh ge
 simp only at c0 c1 c2
 rw [hM] at hn hN HM lC ⊢
 rw [kK] at hT HM lC ⊢
 rw [ge] at c2
 obtain⟨kq,kV⟩:=zx (K n).1
 obtain⟨kc,px⟩:=zx (K n).2
 have iE:Hid (VAt w kq (ar ks)):=zh (by rw [<-kV];exact iE)
 rw [kV,px] at c2
 have d1:decide (n<aq)=true:=zd hn
 have ml:=zE ((n:Int)<(aq:Int))
 have mR:Hid (g<w.heap.size):=zh bN
 obtain⟨g1,dR,rfl,je,v0⟩:=bO iE oh
 have mJ:Hid (g1<w.heap.size):=zh je
 rw [Nat.add_zero] at v0
 have xA:=zh v0
 have z0:(0:Int)<(U:Int):=by omega
 have yF:decide ((0:Int)<(U:Int))=true:=zd z0
 have EK:=zE (0<U)
 obtain⟨bH,hX⟩:=zx (axT T (.nd kd l))
 have HX:=zh hX
 rw [hX]
 clear hx hw ht aJ hM kK ge kV px dx hm mA eB lx tr oh dL v0 hT hN hs se yO hX
 have jo:=af (af (qn w (.cells #[.slice pt tm ct,.slice (some ⟨g,ao,none⟩) aq cn] 46) none) (.cells #[.int .i64 0,.string ⟨#[]⟩,.string ⟨#[]⟩,.string ⟨#[]⟩,.bool false,.slice none 0 0,.int .i64 0] 68)) (.cells #[.int .i64 kI,.int .i64 (-1),.slice (some ⟨g1,dR,none⟩) U kc] 86)
 have c0:=jo.cell c0 (by simp)
 have c1:=jo.cell c1 (by simp)
 have c2:=jo.cell c2 (by simp)
 go_enter Tryz.func58,Tryz.ntmps58
 go_wp2_with fail
 obtain⟨W,b0,R,b2,hW,e0,e1,e2,cS,dq,ec,dp,lu,oR⟩:=three w (.cells #[.slice pt tm ct,.slice (some ⟨g,ao,none⟩) aq cn] 46) (.cells #[.int .i64 0,.string ⟨#[]⟩,.string ⟨#[]⟩,.string ⟨#[]⟩,.bool false,.slice none 0 0,.int .i64 0] 68) (.cells #[.int .i64 kI,.int .i64 (-1),.slice (some ⟨g1,dR,none⟩) U kc] 86)
 have ky:W.heap.size=b2+1:=by rw [hW];simp;omega
 have I:=zh cS;have E:=zh dq;have L:=zh ec;have bm:=zh dp;have gj:=zh e0;have ll:=zh e1;have uh:=zh ky
 clear cS dq ec dp c2 jo c0 c1
 try rw [<-hW]
 try rw [e2]
 try rw [e1]
 try rw [e0]
 clear e0 e1 e2 hW ky
 obtain⟨a0,a1,a2⟩:=ac I
 obtain⟨n0,n1,n2,n3⟩:=cells3 L
 have v0:=bm.cell xA (by simp)
 have dZ:b0<W.heap.size:=hlt I
 have cB:b2<W.heap.size:=hlt L
 have kB:g1<W.heap.size:=zn mJ bm.size
 go_cut [6] (fun t6 wx=>Hid (kr W b2 ak y1 y2 ap t6 wx))
 case first=>
  go_region_held3 (fun w'=>w'.cell? ⟨b0,0,none⟩=some (.slice pt tm ct)/\w'.cell? ⟨b0,1,none⟩=some (.slice (some ⟨g,ao,none⟩) aq cn)/\w'.cell? ⟨b2,2,none⟩=some (.slice (some ⟨g1,dR,none⟩) U kc)/\w'.cell? ⟨g1,dR,none⟩=some (.int .i64 (k0:Int)))
   (first | with_reducible exact⟨a0,a1,n2,v0⟩ | with_reducible exact⟨di a0 (by omega),di a1 (by omega),di n2 (by omega),di v0 (by omega)⟩ | go_keep)
   (first | (go_at_call 25;refine(lC _ (HT.kept (aa bm gbx)) (HW.kept (aa bm gbx))).mono ?_;rintro B w2 ⟨rfl,bL⟩;(try (have mB:=bx bL (YK W (.cells #[.int .i64 0,.string ⟨#[]⟩,.string ⟨#[]⟩,.int .i64 0] 88))));(try (have xR:=cx mB;obtain⟨q0,q1,q2,q3,q4⟩:=xR));have bF:=zh (aa (show W.grownBy _ none from gbx) bL);obtain⟨a0,a1,a2⟩:=ac (bx bF I);obtain⟨n0,n1,n2,n3⟩:=cells3 (bx bF L);have v0:=bF.cell v0 (by simp);clear bL))
  all_goals
   have s2:W.heap.size<=w2.heap.size:=bF.size
   go_wp2_with fail
   go_meet
   first
    | (with_reducible refine zh (jH bF.out ?_)
       omega)
    | (with_reducible refine zh (jz bF.out (Nat.le_refl _) cB mB))
 case rest=>
  obtain⟨b3,rfl,fa,JZ,dX⟩:=hcut.out
  have gh:=zh (aa bm dX)
  have I:=zh (bx dX I);have E:=zh (bx dX E);have L:=zh (bx dX L);have Y:=zh fa
  have HT:=zh (HT.kept gh);have HW:=zh (HW.kept gh)
  have ll:Hid (w.heap.size<=R/\R<b2):=zh (by have:=ll.out;omega)
  obtain⟨a0,a1,a2⟩:=ac I
  obtain⟨n0,n1,n2,n3⟩:=cells3 L
  obtain⟨t0,t1,t2,t3,t4⟩:=cx Y
  have dZ:b0<wc.heap.size:=hlt I
  have eg:R<wc.heap.size:=hlt E
  have Sc:Hid (R<wc.heap.size):=zh eg
  have cB:b2<wc.heap.size:=hlt L
  have fa:b3<wc.heap.size:=hlt Y
  have kB:g1<wc.heap.size:=zn mJ gh.size
  clear hcut dX
  have hs:=qm.out
  cases hs with
  | let_ i j k' m' av u J Z=>exact absurd H (by decide)
  | if_ i j k' av u v J Z h3=>exact absurd H (by decide)
  | assert_ i j av u J Z=>exact absurd H (by decide)
  | bin i av u J Z h3=>exact absurd H (by decide)
  | una i av J Z=>exact absurd H (by decide)
  | grp i j av J=>exact absurd H (by decide)
  | call i j l' J=>
    clear H
    obtain rfl:kI=13:=by rw [<-jm.out];rfl
    obtain⟨hy,jy⟩:=Ai i rfl
    have HY:=zh hy
    have hx:=HX.symm.trans (ag9 T i j _ J)
    rw [<-jy] at hx
    obtain⟨k1,bu,bB,K5,Un,eD,au,DN,BM⟩:=fV (K:=K) (pt:=pt) (pn:=some ⟨g,ao,none⟩) (ct:=ct) (cn:=cn) nQ xx kA (j:=1) (i:=j) rfl (lY j (by simp [cg,lvT]))
    rw [ue.out,Ei.out] at BM
    have BW:=zh BM;have Wk:=zh au
    obtain⟨g',nS,fQ,-,v1⟩:=bO iE eD
    injection fQ with fQ;injection fQ with es cI;subst es cI
    have lk:=zh v1
    have v1:=gh.cell lk (by simp)
    have dU:=lH.out
    rw [uL.out] at dU
    simp only [hJ,length_nil] at dU
    have z1:(1:Int)<(U:Int):=by omega
    have Vs:decide ((1:Int)<(U:Int))=true:=zd z1
    have Vc:=zE (1<U)
    clear dU
    have e1:(K5.toList == [46])=false:=by rw [toList_data,Wk.out];exact xz.2 J
    subst hx
    clear HX jy hy eD au DN BM
    go_wp2_with fail
    refine(HM 24 ap _ HT HW).mono ?_
    rintro B w5 ⟨dw,bw,rfl,hq⟩
    obtain⟨pk,nk,ck,rfl,qp⟩:=hq.plain
    have HQ:=zh qp
    have TI:=zh dw.size
    have BB:=zh dw
    have ef:=zh (aa gh dw)
    have hB:=bx dw E
    obtain⟨f0,f1,f2,f3,f4,f5,f6,f7⟩:=aN hB
    have E:=zh hB
    clear hq qp dw HM hB
    have NV:Hid (R<w5.heap.size):=zh (hlt E)
    clear t0 t1 t2 t3 t4 fa
    obtain⟨t0,t1,t2,t3,t4⟩:=cx (bx BB Y)
    have fa:b3<w5.heap.size:=zn (hlt Y) BB.size
    go_wp2_with fail
    obtain⟨O,m,C7,e7,vY,nL,V9⟩:=Jb w5 (.cells #[.int .i64 24,.string y2,.string ⟨#[]⟩,.string ⟨#[]⟩,.bool false,.slice pk nk ck,.int .i64 (ap:Int)] 68)
    have pJ:Hid (m=w5.heap.size):=zh e7.symm
    have dD:=zh (aa ef nL)
    have yd:=zh (aa BB nL)
    have ay:=zh nL
    have Fy:=I;have IM:=L
    have i8:=zh vY
    have E:=zh (bx nL E)
    have I:=zh (bx yd I);have L:=zh (bx yd L);have Y:=zh (bx yd Y)
    have HT:=zh (HT.kept yd);have HW:=zh (HW.kept yd)
    clear a0 a1 a2 n0 n1 n2 n3 t0 t1 t2 t3 t4 f0 f1 f2 f3 f4 f5 f6 f7 dZ eg cB fa vY nL V9
    obtain⟨a0,a1,a2⟩:=ac I
    obtain⟨n0,n1,n2,n3⟩:=cells3 L
    obtain⟨t0,t1,t2,t3,t4⟩:=cx Y
    obtain⟨l0,l1,l2,l3,l4,l5,l6,l7⟩:=aN i8
    obtain⟨f0,f1,f2,f3,f4,f5,f6,f7⟩:=aN E
    have dZ:b0<O.heap.size:=hlt I
    have eg:R<O.heap.size:=hlt E
    have cB:b2<O.heap.size:=hlt L
    have fa:b3<O.heap.size:=hlt Y
    have lP:m<O.heap.size:=hlt i8
    have kB:g1<O.heap.size:=zn mJ dD.size
    have Gj:Hid (R<m):=zh (by have J:=pJ.out;have Z:=NV.out;omega)
    have v1:=dD.cell lk (by simp)
    try rw [<-C7]
    try rw [e7]
    clear C7 e7
    have zW:=lK
    go_still_tail 5,(by kernel_rfl)
    try (change wpList _ _ _ _ _ O.drew)
    go_wp2_with fail
    refine(BW _ (HT.kept gbx) (HW.kept gbx)).mono ?_
    rintro B w7 ⟨rfl,dV⟩
    have G:=zh (aa (show O.grownBy _ none from gbx) dV)
    have IE:=zh (bx G i8);have JR:=zh (bx G E)
    obtain⟨l0,l1,l2,l3,l4,l5,l6,l7⟩:=aN IE
    obtain⟨f0,f1,f2,f3,f4,f5,f6,f7⟩:=aN JR
    have eg:R<w7.heap.size:=zn eg G.size
    have lP:m<w7.heap.size:=zn lP G.size
    clear dV
    have bd:R<m:=Gj.out
    go_wp2_with fail
    have R0:=RAt.kept ((HQ (tkT T i).text []).bound) (aa ay G)
    rw [<-HY.out] at R0
    have ik:=bx G E
    have HP:=zh (fp (w:=w) (aa dD G) ll.1 ik R0 (fun A H=>by have Z:=gh.size;have h3:=Gj.out;have H:wc.heap.size<=A/\A<w5.heap.size:=H;have h4:=pJ.out;exact⟨by omega,by have:=Sc.out;omega⟩))
    obtain⟨hp,-⟩:=ju ik (.int .i64 24) (.string y2) (.string ⟨#[]⟩) (.string ⟨#[]⟩) (.bool false) (.slice pk nk ck) (.int .i64 (ap:Int))
    obtain⟨r0,r1,r2,r3,r4,r5,r6,-⟩:=aN hp
    refine bodyPost_ret (v:=.agg #[(.int .i64 24),(.string y2),(.string ⟨#[]⟩),(.string ⟨#[]⟩),(.bool false),(.slice pk nk ck),(.int .i64 (ap:Int))]) (by simp [results,Tryz.results58,go_sem,r0,r1,r2,r3,r4,r5,r6]) rfl HP
  | callm i j k3 l' J=>
    clear H
    obtain rfl:kI=13:=by rw [<-jm.out];rfl
    obtain⟨hy,jy⟩:=Ai i rfl
    have HY:=zh hy
    have hx:=HX.symm.trans (acr T i j k3 _ J)
    rw [<-jy] at hx
    obtain⟨k1,bu,bB,K5,Un,eD,au,DN,BM⟩:=fV (K:=K) (pt:=pt) (pn:=some ⟨g,ao,none⟩) (ct:=ct) (cn:=cn) nQ xx kA (j:=1) (i:=j) rfl (lY j (by simp [cg,lvT]))
    rw [ue.out,Ei.out] at BM
    have BW:=zh BM;have Wk:=zh au
    obtain⟨g',nS,fQ,-,v1⟩:=bO iE eD
    injection fQ with fQ;injection fQ with es cI;subst es cI
    have lk:=zh v1
    have v1:=gh.cell lk (by simp)
    obtain⟨k2,bM,bV,ax,bS,IU,a7,bq,aL⟩:=fV (K:=K) (pt:=pt) (pn:=some ⟨g,ao,none⟩) (ct:=ct) (cn:=cn) nQ xx kA (j:=2) (i:=k3) rfl (lY k3 (by simp [cg,lvT]))
    rw [ue.out,Ei.out] at aL
    have Ul:=zh aL;have bc:=zh a7
    obtain⟨g',nS,fQ,-,v2⟩:=bO iE IU
    injection fQ with fQ;injection fQ with es cI;subst es cI
    have oY:=zh v2
    have v2:=gh.cell oY (by simp)
    have dU:=lH.out
    rw [uL.out] at dU
    simp only [hJ,length_nil] at dU
    have z1:(1:Int)<(U:Int):=by omega
    have Vs:decide ((1:Int)<(U:Int))=true:=zd z1
    have Vc:=zE (1<U)
    have z2:(2:Int)<(U:Int):=by omega
    have bW:decide ((2:Int)<(U:Int))=true:=zd z2
    have bP:=zE (2<U)
    clear dU
    have e1:(K5.toList == [46])=true:=by rw [toList_data,Wk.out,J];rfl
    subst hx
    clear HX jy hy eD au DN BM IU a7 bq aL
    have Vr:=zh HT.out;have a9:=zh HW.out
    go_wp2_with fail
    refine(HM 24 ap _ HT HW).mono ?_
    rintro B w5 ⟨dw,bw,rfl,hq⟩
    obtain⟨pk,nk,ck,rfl,qp⟩:=hq.plain
    have HQ:=zh qp
    have TI:=zh dw.size
    have BB:=zh dw
    have ef:=zh (aa gh dw)
    have hB:=bx dw E
    obtain⟨f0,f1,f2,f3,f4,f5,f6,f7⟩:=aN hB
    have E:=zh hB
    clear hq qp dw HM hB
    have NV:Hid (R<w5.heap.size):=zh (hlt E)
    clear t0 t1 t2 t3 t4 fa
    obtain⟨t0,t1,t2,t3,t4⟩:=cx (bx BB Y)
    have fa:b3<w5.heap.size:=zn (hlt Y) BB.size
    go_wp2_with fail
    obtain⟨O,m,C7,e7,vY,nL,V9⟩:=Jb w5 (.cells #[.int .i64 24,.string y2,.string ⟨#[]⟩,.string ⟨#[]⟩,.bool false,.slice pk nk ck,.int .i64 (ap:Int)] 68)
    have pJ:Hid (m=w5.heap.size):=zh e7.symm
    have dD:=zh (aa ef nL)
    have yd:=zh (aa BB nL)
    have ay:=zh nL
    have Fy:=I;have IM:=L
    have i8:=zh vY
    have E:=zh (bx nL E)
    have I:=zh (bx yd I);have L:=zh (bx yd L);have Y:=zh (bx yd Y)
    have HT:=zh (HT.kept yd);have HW:=zh (HW.kept yd)
    clear a0 a1 a2 n0 n1 n2 n3 t0 t1 t2 t3 t4 f0 f1 f2 f3 f4 f5 f6 f7 dZ eg cB fa vY nL V9
    obtain⟨a0,a1,a2⟩:=ac I
    obtain⟨n0,n1,n2,n3⟩:=cells3 L
    obtain⟨t0,t1,t2,t3,t4⟩:=cx Y
    obtain⟨l0,l1,l2,l3,l4,l5,l6,l7⟩:=aN i8
    obtain⟨f0,f1,f2,f3,f4,f5,f6,f7⟩:=aN E
    have dZ:b0<O.heap.size:=hlt I
    have eg:R<O.heap.size:=hlt E
    have cB:b2<O.heap.size:=hlt L
    have fa:b3<O.heap.size:=hlt Y
    have lP:m<O.heap.size:=hlt i8
    have kB:g1<O.heap.size:=zn mJ dD.size
    have Gj:Hid (R<m):=zh (by have J:=pJ.out;have Z:=NV.out;omega)
    have v1:=dD.cell lk (by simp)
    try rw [<-C7]
    try rw [e7]
    clear C7 e7
    have zW:=lK
    go_still_tail 5,(by kernel_rfl)
    try (change wpList _ _ _ _ _ O.drew)
    go_wp2_with fail
    refine(BW _ (HT.kept gbx) (HW.kept gbx)).mono ?_
    rintro B w7 ⟨rfl,dV⟩
    have G:=zh (aa (show O.grownBy _ none from gbx) dV)
    have IE:=zh (bx G i8);have JR:=zh (bx G E)
    obtain⟨l0,l1,l2,l3,l4,l5,l6,l7⟩:=aN IE
    obtain⟨f0,f1,f2,f3,f4,f5,f6,f7⟩:=aN JR
    have eg:R<w7.heap.size:=zn eg G.size
    have lP:m<w7.heap.size:=zn lP G.size
    clear dV
    have bd:R<m:=Gj.out
    have bi:=zh (bx G L);have bs:=zh (bx G Y);have bt:=zh (bx G I)
    obtain⟨t0,t1,t2,t3,t4⟩:=cx bs
    have fa:b3<w7.heap.size:=zn fa G.size
    go_wp2_with fail
    have T4:Fr2 (fun A=>A=m) w7 (w7.setCell ⟨m,2,none⟩ (.string y2)):=Fr2.setCell (S:=fun A=>A=m) (Fr2.refl _ _) (g:=m) (j:=2) rfl _
    have aX:=zh T4
    have Ye:=zh (ab (i:=2) (u:=.string y2) IE)
    have VL:=zh (T4.keep bt (by have J:=hlt I.out;have Z:=pJ.out;have h3:=hlt (bx BB Fy);omega))
    have V0:=zh (T4.keep JR (by have:=Gj.out;omega))
    have XB:=zh (T4.keep bi (by have Z:=pJ.out;have h3:=hlt (bx BB IM);omega))
    have a3:=zh (Qw Vr (HT.kept G) T4 (fun A B=>by have B:A=m:=B;have:=pJ.out;have:=BB.size;omega))
    have a4:=zh (Mj a9 (HW.kept G) T4 (fun A B=>by have B:A=m:=B;have:=pJ.out;have:=BB.size;omega))
    have R6:=zh (Fr2.after (aa dD G) T4 (fun A B=>by have J:=pJ.out;have Z:=ef.size;have B:A=m:=B;omega))
    obtain⟨wS,a6⟩:=zx (w7.setCell ⟨m,2,none⟩ (.string y2))
    rw [a6] at aX Ye VL V0 XB a3 a4 R6 ⊢
    clear a6 T4 a0 a1 a2 n0 n1 n2 n3 t0 t1 t2 t3 t4 l0 l1 l2 l3 l4 l5 l6 l7 f0 f1 f2 f3 f4 f5 f6 f7 dZ eg cB fa lP kB v1 v2
    obtain⟨a0,a1,a2⟩:=ac VL
    obtain⟨n0,n1,n2,n3⟩:=cells3 XB
    have dZ:b0<wS.heap.size:=hlt VL
    have eg:R<wS.heap.size:=hlt V0
    have cB:b2<wS.heap.size:=hlt XB
    have lP:m<wS.heap.size:=hlt Ye
    have kB:g1<wS.heap.size:=zn mJ R6.size
    have v2:=R6.cell oY (by simp)
    go_still_tail 5,(by kernel_rfl)
    try (change wpList _ _ _ _ _ wS.drew)
    go_wp2_with fail
    refine(Ul _ (a3.kept gbx) (a4.kept gbx)).mono ?_
    rintro B w8 ⟨rfl,rt⟩
    have eY:=zh (aa (show wS.grownBy _ none from gbx) rt)
    have bn:=zh (bx eY Ye);have a5:=zh (bx eY V0)
    obtain⟨l0,l1,l2,l3,l4,l5,l6,l7⟩:=aN (show w8.heap[m]? = some (.cells #[.int .i64 24,.string y2,.string y2,.string ⟨#[]⟩,.bool false,.slice pk nk ck,.int .i64 (ap:Int)] 68 (0,0)) from bn)
    obtain⟨f0,f1,f2,f3,f4,f5,f6,f7⟩:=aN a5
    have eg:R<w8.heap.size:=zn eg eY.size
    have lP:m<w8.heap.size:=zn lP eY.size
    clear rt
    go_wp2_with fail
    have P6:Fr2 (fun A=>A=m) w8 (w8.setCell ⟨m,1,none⟩ (.string ax)):=Fr2.setCell (S:=fun A=>A=m) (Fr2.refl _ _) (g:=m) (j:=1) rfl _
    have Pj:=P6.keep a5 (by have:=Gj.out;omega)
    have R0:=RAt.same aX (fun A (H:wc.heap.size<=A/\A<w5.heap.size) B=>by have B:A=m:=B;have:=pJ.out;omega) (RAt.kept ((HQ (tkT T k3).text (tkT T i).text).bound) (aa ay G))
    have Zi:=RAt.same P6 (fun A (H:wc.heap.size<=A/\A<w5.heap.size) B=>by have B:A=m:=B;have:=pJ.out;omega) (RAt.kept R0 eY)
    rw [<-HY.out,<-bc.out] at Zi
    have a8:w.grownBy (w8.setCell ⟨m,1,none⟩ (.string ax)) none:=Fr2.after (aa R6 eY) P6 (fun A B=>by have J:=pJ.out;have Z:=ef.size;have B:A=m:=B;omega)
    have HP:=zh (fp (w:=w) a8 ll.1 Pj Zi (fun A H=>by have Z:=gh.size;have h3:=Gj.out;have H:wc.heap.size<=A/\A<w5.heap.size:=H;have h4:=pJ.out;exact⟨by omega,by have:=Sc.out;omega⟩))
    obtain⟨hp,-⟩:=ju Pj (.int .i64 24) (.string ax) (.string y2) (.string ⟨#[]⟩) (.bool false) (.slice pk nk ck) (.int .i64 (ap:Int))
    obtain⟨r0,r1,r2,r3,r4,r5,r6,-⟩:=aN hp
    refine bodyPost_ret (v:=.agg #[(.int .i64 24),(.string ax),(.string y2),(.string ⟨#[]⟩),(.bool false),(.slice pk nk ck),(.int .i64 (ap:Int))]) (by simp [results,Tryz.results58,go_sem,r0,r1,r2,r3,r4,r5,r6]) rfl HP
  | nam i=>exact absurd H (by decide)
  | num i J=>exact absurd H (by decide)
  | tru i=>exact absurd H (by decide)
  | res i=>exact absurd H (by decide)
end Go.Proofs.YtpkipghjohomcaaGreatDoor
