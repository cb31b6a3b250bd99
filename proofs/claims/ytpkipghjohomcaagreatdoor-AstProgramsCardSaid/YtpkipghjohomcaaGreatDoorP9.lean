/- Lemmas. -/
import Derived.Test.YtpkipghjohomcaaGreatDoorP8
set_option linter.unusedVariables false
set_option linter.unusedSimpArgs false
set_option maxHeartbeats 2000000
namespace Go.Proofs.YtpkipghjohomcaaGreatDoor.Zd
open Go.RowKit Mx
def GX (g A n:Nat) (f:Nat->Nat) (base:Nat) (w:World) (e:Ending) (m:World):Prop:=
 e=.returned (.tuple #[])/\Own .u8 5 m base (.slice (some ⟨g,0,none⟩) n A) n (fun B=>f (n - 1 - B))/\w.grownBy m (some g)
def rv (f:Nat->Nat) (n k:Nat):Nat->Nat:=fun m=>if m<k\/n<=m+k then f (n - 1 - m) else f m
theorem Ry {f:Nat->Nat} {n k:Nat} (h:2*k+1<n):∀j,j<n->upd (upd (rv f n k) k (f (n - 1 - k))) (n - 1 - k) (f k) j=rv f n (k+1) j:=by
 intro j A
 unfold upd rv
 split
 ·subst_vars
  rw [if_pos (by omega)]
  congr 1;omega
 ·split
  ·subst_vars;rw [if_pos (by omega)]
  ·by_cases m:j<k\/n<=j+k
   ·rw [if_pos m,if_pos (by omega)]
   ·rw [if_neg m,if_neg (by omega)]
theorem zM (g E n:Nat) (f:Nat->Nat) (base:Nat) (w:World) (h:Own .u8 5 w base (.slice (some ⟨g,0,none⟩) n E) n f) (hn:n<=1000000000):
  Calls Tryz.prog 102 #[.slice (some ⟨g,0,none⟩) n E] w (GX g E n f base w):=by
 have HO:=zh h
 clear h
 go_enter Tryz.func102,Tryz.ntmps102
 go_wp2
 go_loopw [2,3] (fun R j wr=>∃m:Nat,2*m<=n+1/\R=.int .i64 m/\j=.int .i64 ((n:Int) - 1 - m)/\Hid (Own .u8 5 wr base (.slice (some ⟨g,0,none⟩) n E) n (rv f n m))/\Hid (w.grownBy wr (some g))) (fun R _ _=>n - (intOf R).toNat)
 case atStart=>exact⟨0,by omega,rfl,by simp,HO.congr (fun j hj=>by simp [rv];omega),ad _ _⟩
 case round=>
  obtain⟨m,hk,rfl,rfl,A,U⟩:=hrel
  by_cases hlt:2*m+1<n
  ·have Z:=A.cell (j:=m) (by omega)
   have J:=A.cell (j:=n - 1 - m) (by omega)
   have f1:=A.free (j:=m)
   have f2:=A.free (j:=n - 1 - m)
   have e1:rv f n m m=f m:=by unfold rv;rw [if_neg (by omega)]
   have L:rv f n m (n - 1 - m)=f (n - 1 - m):=by unfold rv;rw [if_neg (by omega)]
   rw [e1] at Z;rw [L] at J
   obtain⟨x,O⟩:=zx (f m)
   obtain⟨G,I⟩:=zx (f (n - 1 - m))
   rw [O] at Z;rw [I] at J
   have Y:=zh (((A.set (j:=m) (x:=G) (by omega)).set (j:=n - 1 - m) (x:=x) (by omega)).congr (f2:=rv f n (m+1)) (by rw [<-O,<-I];exact Ry hlt))
   obtain⟨B,H⟩:=zx (n - 1 - m)
   have ak:(n:Int) - 1 - m=(B:Int):=by omega
   rw [H] at J f2 Y
   rw [ak]
   have i1:(m:Int)<B:=by omega
   have i2:(B:Int)<n:=by omega
   have dU:m<B:=by omega
   have aq:B<n:=by omega
   have HL:=zh H
   have ap:(wr.setCell ⟨g,m,none⟩ (.int .u8 G)).frozen? ⟨g,B,none⟩=false:=(A.set (j:=m) (x:=G) (by omega)).free
   have ao:=(A.set (j:=m) (x:=G) (by omega)).cell (j:=B) (by omega)
   have e3:rv f n m B=G:=by rw [<-H,L];exact I
   rw [upd_ne (by omega),e3] at ao
   clear e1 L e3 O I H ak
   go_wp2
   go_region
   all_goals go_wp2
   go_roundw
   case rel=>exact⟨m+1,by omega,by go_num,sS (by have:=HL.out;omega),Y,aC (pM (pM U _) _)⟩
   case measure=>simp [intOf];omega
  ·have dA:GX g E n f base w (.returned (.tuple #[])) wr:=⟨rfl,A.congr (fun j hj=>by
    unfold rv
    by_cases h:j<m\/n<=j+m
    ·rw [if_pos h]
    ·rw [if_neg h];congr 1;omega),U.out⟩
   have gQ:=zh dA
   have i1:¬((m:Int)<(n:Int) - 1 - m):=by omega
   clear dA
   go_wp2
   go_end0
   exact gQ
theorem Jy {A F c P m r s x E B:Nat} (h:A+c*P=m*F+r) (I:s+E*B=x*m+c):A+s*P+E*(P*B)=m*(F+x*P)+r:=by
 have G:A+s*P+E*(P*B)=A+(s+E*B)*P:=by grind
 rw [G,I]
 have H:A+(x*m+c)*P=(A+c*P)+x*m*P:=by grind
 rw [H,h];grind
def Pw (base:Nat) (n m r:Nat) (f:Nat->Nat) (w:World) (e:Ending) (H:World):Prop:=
 ∃G A B,e=.returned G/\Own .u64 182 H base G A B/\A<=n+1/\(∀E,E<A->B E<Bw)/\V Bw B 0 A=m*V Bw f 0 n+r/\Below base w H
theorem Lx {m x c A E s B:Nat} (G:m<Bw) (H:x<Bw) (L:c<Bw) (O:A*Bw+E=x*m) (J:s+B*Bw=E+c+0) (R:s<Bw):A+B<Bw/\s+(A+B)*Bw=x*m+c:=by
 have:=Qi H G
 generalize x*m=I at *
 unfold Bw at *
 omega
theorem tN (base:Nat) (v:Value) (n m r:Nat) (f:Nat->Nat) (w:World) (Z:Own .u64 182 w base v n f) (hf:∀j,j<n->f j<Bw) (hm:m<Bw) (hr:r<Bw) (hn:n<=100000) (gu:base<=w.heap.size):
  Calls Tryz.prog 125 #[v,.int .u64 m,.int .u64 r] w (Pw base n m r f w):=by
 obtain⟨J,H,rfl,hp⟩:∃J H,v=.slice J n H/\(0<n->∃I,J=some ⟨I,0,none⟩/\base<=I/\I<w.heap.size):=by
  rcases Z.shape with ⟨rfl,rfl⟩ | ⟨I,H,rfl,Y,F3,zC,xu⟩
  ·exact⟨_,_,rfl,fun h=>by omega⟩
  ·exact⟨_,_,rfl,fun _=>⟨I,rfl,Y,F3⟩⟩
 have HS:=zh Z;have E:=zh hf;have HM:=zh hm;have HR:=zh hr
 clear Z hf hm hr
 go_enter Tryz.func125,Tryz.ntmps125
 go_wp2
 go_loopw [2,14] (fun aO ao wr=>∃(k B:Nat) (A:Nat->Nat),k<=n/\ao=.int .i64 k/\aO=.int .u64 B/\Hid (B<Bw)/\Hid (Own .u64 182 wr base (.slice J n H) n A)/\Hid (∀j,j<n->A j<Bw)/\Hid (∀j,k<=j->j<n->A j=f j)/\
   Hid (V Bw A 0 k+B*Bw ^ k=m*V Bw f 0 k+r)/\Hid (Below base w wr)) (fun _ ao _=>n - (intOf ao).toNat)
 case atStart=>exact⟨0,r,f,by omega,rfl,rfl,HR,HS,E,fun _ _ _=>rfl,by simp [Hid,V],Below.refl _ _⟩
 case round=>
  clear HS E HR
  obtain⟨k,B,A,hk,rfl,rfl,R,G,E,HE,U,L⟩:=hrel
  by_cases hlt:k<n
  ·obtain⟨I,rfl,Y,F3⟩:=hp (by omega)
   have uG:=G.cell hlt
   have mL:=G.free (j:=k)
   obtain⟨hi,lo,aq,a0,H5,ay⟩:=Ro (A k) m (E k hlt) HM
   obtain⟨ap,O,ri,hs,a2,SF⟩:=Kq lo B 0 (by omega) H5 R
   obtain⟨ak,ax⟩:=Lx HM (E k hlt) R ay SF hs
   have YX:∀w,(callFunc 140 #[.int .u64 lo,.int .u64 B,.int .u64 0]).run Tryz.prog w=.ok (.value (.tuple #[.int .u64 ap,.int .u64 O])) w:=ri
   have aL:=zh aq
   have H2:Hid (V Bw (upd A k ap) 0 (k+1)+(hi+O)*Bw ^ (k+1)=m*V Bw f 0 (k+1)+r):=by
    show _=_
    rw [jn,jn,Nat.zero_add,Bk,tg (by omega),Nat.pow_succ,<-HE.out k (Nat.le_refl _) hlt]
    exact Jy U ax
   have aJ:=zh ak
   have a1:hi+O<18446744073709551616:=ak
   have Jh:=zh hs
   clear ri aq ay SF ak ax hs a0 H5
   go_wp2_with (go_at_call 139;refine(aL _).mono ?_;rintro e w' ⟨rfl,rfl⟩)
   go_roundw
   case rel=>exact⟨k+1,hi+O,upd A k ap,by omega,by go_num,by go_num,aJ,G.set hlt,M9 E Jh,(fun j h1 h2=>by rw [upd_ne (by omega)];exact HE j (by omega) h2),H2,L.setCell Y _⟩
   case measure=>simp [intOf];omega
  ·obtain rfl:k=n:=by omega
   by_cases h0:B=0
   ·subst h0
    have dA:Pw base k m r f w (.returned (.slice J k H)) wr:=⟨_,k,A,rfl,G,by omega,E,by have:=U.out;rwa [Nat.zero_mul,Nat.add_zero] at this,L⟩
    have gQ:=zh dA
    clear dA
    go_wp2
    go_ret
    exact gQ
   ·have xG:=yi (B:Int) 0
    have aX:base<=wr.heap.size:=Nat.le_trans gu L.size
    have vL:=zh G.far
    clear hp
    go_wp2_with (at_builtin;refine nj (k:=.u64) (t:=56) (e:=182) (bytes:=8) Tryz.underlying56 MH (by omega) rfl _ _ rfl base (.slice J k H) k A _ B rfl rfl G rfl (by omega) (by omega) ?_)
    intro v' w' av au
    have Zk:=zh av;have QK:=zh au
    clear av au
    go_wp2_with fail
    go_ret
    refine⟨v',k+1,_,rfl,Zk,by omega,fun j hj=>?_,?_,L.grown QK aX vL.out⟩
    ·unfold upd;split
     ·exact R
     ·exact E j (by omega)
    ·rw [jn,Nat.zero_add,Bk,tg (by omega)];exact U
open Go.RowKit Mx Go.World
def IsInt (w:World) (x:Value) (Z:Int):Prop:=∃(A:Bool) (B:Value) (m:Nat),x=.agg #[.bool A,B]/\Num w B m/\(A=true->m≠0)/\Z=if A then -(m:Int) else m
theorem IsInt.kept {w m:World} {x:Value} {Z:Int} (h:IsInt w x Z) (B:w.grownBy m none):IsInt m x Z:=by
 obtain⟨H,I,A,rfl,E,G⟩:=h
 exact⟨H,I,A,rfl,E.kept B,G⟩
def A6 (Z:Int) (w:World) (e:Ending) (m:World):Prop:=∃A,e=.returned A/\IsInt m A Z/\w.grownBy m none
def sgn (s:Bool) (N:Nat):Int:=if s then -(N:Int) else N
theorem Gl {n:Nat} {f:Nat->Nat} (t:n=0\/f (n - 1)≠0):0<n↔V Bw f 0 n≠0:=by
 constructor
 ·intro h
  rcases zu (b:=Bw) (f:=f) (o:=0) (n:=n) (by simpa using t) with m | m
  ·omega
  ·have:=Nat.pow_pos (n:=n - 1) uZ;omega
 ·intro h
  exact Ho h
theorem wH {s:Bool} {p B:Option Addr} {n m A:Nat} {f:Nat->Nat} {w:World} (q1:m<=n) (q2:m<=A) (q3:A<=maxLen) (h:At .u64 w p n f) (L:∀j,j<n->f j<Bw)
  (q4:m=0\/f (m - 1)≠0) (O:∀j,m<=j->j<n->f j=0) (R:0<m->B=p):
  A6 (sgn s (V Bw f 0 n)) w (.returned (.agg #[.bool (s && decide (0<m)),.slice B m A])) (w.alloc (.cells #[.bool (s && decide (0<m)),.slice B m A] 58)):=by
 have I:=qn w (.cells #[.bool (s && decide (0<m)),.slice B m A] 58) none
 have H:V Bw f 0 n=V Bw f 0 m:=Ue (fun j J E=>by simpa using O j J E) q1
 refine⟨_,rfl,⟨s && decide (0<m),.slice B m A,V Bw f 0 n,rfl,⟨B,m,A,f,rfl,q2,q3,?_,fun j U=>L j (by omega),q4,H.symm⟩,fun h=>?_,?_⟩,I⟩
 ·by_cases G:m=0
  ·exact .inl G
  ·have E:=(h.pre q1).grown I (by simp)
   rw [<-R (by omega)] at E;exact E
 ·rw [H];exact(Gl q4).1 (by simp at h;exact h.2)
 ·rw [H]
  by_cases G:0<m
  ·cases s<;>simp [sgn,G]
  ·obtain rfl:m=0:=by omega
   cases s<;>simp [sgn,V]
def bp (v:Value) (w:World) (e:Ending) (m:World):Prop:=e=.returned v/\w.grownBy m none
theorem Ok {w:World} {x:Value} {Z:Int} (h:IsInt w x Z):∃s p n m f,x=.agg #[.bool s,.slice p n m]/\n<=m/\m<=maxLen/\At .u64 w p n f/\(∀j,j<n->f j<Bw)/\(n=0\/f (n - 1)≠0)/\(s=true->0<n)/\Z=sgn s (V Bw f 0 n):=by
 obtain⟨s,R,O,rfl,⟨p,n,m,f,rfl,B,E,G,H,I,rfl⟩,J,L⟩:=h
 exact⟨s,p,n,m,f,rfl,B,E,G,H,I,fun A=>Ho (J A),L⟩
theorem aaw (w:World) (m:Obj):(w.alloc m).heap[w.heap.size]? = some m:=YK w m
theorem int_parts {w:World} {x:Value} {Z:Int} (h:IsInt w x Z):∃s p n m,x=.agg #[.bool s,.slice p n m]/\Hid (IsInt w (.agg #[.bool s,.slice p n m]) Z):=by
 obtain⟨s,I,A,rfl,E,H⟩:=h
 obtain⟨p,n,m,B,rfl,G⟩:=E
 exact⟨s,p,n,m,rfl,s,_,A,rfl,⟨p,n,m,B,rfl,G⟩,H⟩
theorem At.off {k:IntKind} {w A:World} {p:Option Addr} {n r:Nat} {f:Nat->Nat} (h:At k w p n f) (L:∀o x,w.cell? ⟨r,o,none⟩≠some (.int k x)) (R:w.heap.size<=A.heap.size) (H:∀b o,b≠r->A.cell? ⟨b,o,none⟩=w.cell? ⟨b,o,none⟩):At k A p n f:=by
 rcases h with h | ⟨m,Y,rfl,I,B⟩
 ·exact .inl h
 ·by_cases O:n=0
  ·exact .inl O
  ·have E:m≠r:=by
    intro G;subst G
    exact L _ _ (B 0 (by omega))
   exact .inr ⟨m,Y,rfl,zn I R,fun U J=>(H m _ E).trans (B U J)⟩
theorem Num.off {w m:World} {v:Value} {N r:Nat} (h:Num w v N) (J:∀o x,w.cell? ⟨r,o,none⟩≠some (.int .u64 x)) (L:w.heap.size<=m.heap.size) (I:∀b o,b≠r->m.cell? ⟨b,o,none⟩=w.cell? ⟨b,o,none⟩):Num m v N:=by
 obtain⟨R,O,A,B,rfl,E,G,H,r⟩:=h
 exact⟨R,O,A,B,rfl,E,G,H.off J L I,r⟩
theorem Ka {w:World} {r:Nat} {b0:Bool} {T:TypeId} {q:Option Addr} {l c:Nat} (m:w.heap[r]? = some (.cells #[.bool b0,.slice q l c] T (0,0))) (k:IntKind):∀o x,w.cell? ⟨r,o,none⟩≠some (.int k x):=by
 intro o x h
 rw [hZ w r o _ T (0,0) m] at h
 match o,h with
 | 0,h=>simp at h
 | 1,h=>simp at h
 | o+2,h=>simp at h
theorem GD {w W w3:World} {r:Nat} {b0:Bool} {T:TypeId} {s:Bool} {p:Option Addr} {n c:Nat} {Z:Int} (A:W.heap[r]? = some (.cells #[.bool b0,.slice none 0 0] T (0,0))) (E:W.grownBy w3 none) (hx:IsInt w3 (.agg #[.bool s,.slice p n c]) Z)
  (J:w.grownBy W none) (Y:w.heap.size<=r):
  A6 Z w (.returned (.agg #[.bool s,.slice p n c])) ((w3.setCell ⟨r,0,none⟩ (.bool s)).setCell ⟨r,1,none⟩ (.slice p n c)):=by
 have ak:=(Array.getElem?_eq_some_iff.1 A).1
 have I:=(E.block r ak (by simp)).trans A
 refine⟨_,rfl,?_,bj (FM (dF (aa J E)) Y (pM (pM (ad _ _) _) _))⟩
 obtain⟨s',v',G,R,U,L,O⟩:=hx
 refine⟨s',v',G,R,U.off (Ka I _) (by simp [World.setCell]) (fun m ao B=>?_),L,O⟩
 have H:((w3.setCell ⟨r,0,none⟩ (.bool s)).setCell ⟨r,1,none⟩ (.slice p n c)).heap[m]? = w3.heap[m]? := by
  rw [Below.heap_setCell _ _ _ _ (by simpa using B),Below.heap_setCell _ _ _ _ (by simpa using B)]
 exact cell?_of_block (w:=w3) H
theorem zf {W w3:World} {r:Nat} {b0:Bool} {T:TypeId} {s:Bool} {p:Option Addr} {n c:Nat} (A:W.heap[r]? = some (.cells #[.bool b0,.slice none 0 0] T (0,0))) (G:W.grownBy w3 none):
  (w3.setCell ⟨r,0,none⟩ (.bool s)).cell? ⟨r,0,none⟩=some (.bool s)/\((w3.setCell ⟨r,0,none⟩ (.bool s)).setCell ⟨r,1,none⟩ (.slice p n c)).cell? ⟨r,1,none⟩=some (.slice p n c):=by
 have H:=(Array.getElem?_eq_some_iff.1 A).1
 have B:=(G.block r H (by simp)).trans A
 have m:(w3.setCell ⟨r,0,none⟩ (.bool s)).heap[r]? = some (.cells #[.bool s,.slice none 0 0] T (0,0)):=by
  simp only [World.setCell,Array.getElem?_modify,B,if_true,Option.map_some];rfl
 have E:((w3.setCell ⟨r,0,none⟩ (.bool s)).setCell ⟨r,1,none⟩ (.slice p n c)).heap[r]? = some (.cells #[.bool s,.slice p n c] T (0,0)):=by
  rw [World.setCell]
  simp only [Array.getElem?_modify,m,if_true,Option.map_some];rfl
 exact⟨by rw [hZ _ r 0 _ T (0,0) m];rfl,by rw [hZ _ r 1 _ T (0,0) E];rfl⟩
open Go.RowKit Mx List Nat Go.World
theorem OW (p:Option Addr) (n m:Nat) (f:Nat->Nat) (w:World) (G:At .u64 w p n f) (H:∀j,j<n->f j<Bw) (A:n=0\/f (n - 1)≠0) (E:0<n) (I:V Bw f 0 n<Lim):Calls Tryz.prog 101 #[.slice p n m] w (Bb (V Bw f 0 n) w):=by
 have B:=RN A I
 unfold xN at B
 exact tb p n m f w B G H A E
theorem Na {N:Nat} (h:N<Lim):nd N<=6400000:=by
 rcases Nat.lt_or_ge 6400000 (nd N) with hlt | m
 ·exfalso
  have B:N≠0:=by intro A;subst A;rw [nd,dif_pos rfl] at hlt;omega
  have E:=TC N B
  have G:2 ^ (nd N - 1)<=10 ^ (nd N - 1):=Nat.pow_le_pow_left (by omega) _
  have H:Lim=2 ^ (64*xN):=by unfold Lim;rw [Nat.pow_mul,show(2:Nat) ^ 64=Bw from rfl]
  have I:2 ^ (64*xN)<=2 ^ (nd N - 1):=Nat.pow_le_pow_right (by omega) (by unfold xN;omega)
  omega
 ·exact m
theorem nR (N:Nat):(oJ N).length=nd N:=by simp [oJ]
theorem Ys (N j:Nat):dig N j<10:=mod_lt _ (by omega)
theorem vS (N j:Nat) (h:j<(oJ N).length):(oJ N)[j].toNat=48+dig N (nd N - 1 - j):=by
 have:=Ys N (nd N - 1 - j)
 simp [oJ]
 omega
theorem Gm {N:Nat} (h:N≠0):txtL (N:Int)=oJ N:=by
 unfold txtL
 rw [if_neg (by omega),if_neg (by omega)];simp
theorem Hh {N:Nat} (h:N≠0):txtL (-(N:Int))=45::oJ N:=by
 unfold txtL
 rw [if_neg (by omega),if_pos (by omega)];simp
theorem CW (w:World) (base g m n:Nat) (f:Nat->Nat) (l:List UInt8) (h:Own .u8 5 w base (.slice (some ⟨g,0,none⟩) n m) n f) (E:l.length=n) (B:∀j (A:j<l.length),l[j].toNat=f j):
  (convert 94 9 (.slice (some ⟨g,0,none⟩) n m)).run Tryz.prog w=.ok (.string ⟨l.toArray⟩) w:=by
 have:=run_convert_bytes_back (P:=Tryz.prog) w 94 9 5 ⟨g,0,none⟩ m l Tryz.underlying94 Tryz.underlying5 Tryz.underlying9 (fun j A=>by
  rw [addr_add,Nat.zero_add,h.cell (by omega),B j A])
 rwa [E] at this
theorem Jw {N:Nat} {m:Nat->Nat} (B:∀j,j<nd N->m j=48+dig N j):∀j (A:j<(45::oJ N).length),(45::oJ N)[j].toNat=upd m (nd N) 45 (nd N+1 - 1 - j):=by
 intro j A
 rw [hJ,nR] at A
 match j with
 | 0=>simp [upd]
 | j+1=>
   rw [upd_ne (by omega),getElem_cons_succ,vS,B _ (by omega)]
   congr 2;omega
theorem String_c (x:Value) (ak:Int) (w:World) (h:IsInt w x ak) (R:ak.natAbs<Lim):Calls Tryz.prog 68 #[x] w (bp (txt ak) w):=by
 obtain⟨E,au,B,ao,J,rfl,h1,h2,h3,h4,h5,h6,rfl⟩:=Ok h
 have U:=qn w (.cells #[.bool E,.slice au B ao] 58) none
 have aq:(sgn E (V Bw J 0 B)).natAbs=V Bw J 0 B:=by cases E<;>simp [sgn]
 rw [aq] at R
 by_cases hn:B=0
 ·subst hn
  have hz:sgn E (V Bw J 0 0)=0:=by cases E<;>simp [sgn,V]
  rw [hz]
  have dA:bp (txt 0) w (.returned (.string ⟨#[48]⟩)) (w.alloc (.cells #[.bool E,.slice au 0 ao] 58)):=⟨rfl,U⟩
  have gQ:=zh dA
  clear dA h h3 h4 h5 h6 U hz aq R
  go_enter Tryz.func68,Tryz.ntmps68
  go_wp2
  go_ret
  exact gQ
 ·have hv:=(Gl h5).1 (by omega)
  have bc:=yi (B:Int) 0
  have HD:=zh (OW au B ao J _ (h3.grown U (by simp)) h4 h5 (by omega) R)
  have YS:=zh (Na R)
  have HV:=zh hv
  have HG:=zh U
  generalize V Bw J 0 B=m at *
  clear h h3 h4 h5 h6 U aq R hv
  cases E
  ·go_enter Tryz.func68,Tryz.ntmps68
   go_wp2_with (first
    | (go_at_call 101;refine HD.mono ?_;rintro e w2 ⟨Z,Y,fd,rfl,O,L,A⟩;have I:=zh O;have HF:=zh L;have bF:=zh A;obtain⟨aL,nW⟩:=H6 A;have av:=A.size;clear O L A)
    | (go_at_call 102;refine(zM Z Y (nd m) fd _ _ I (by have:=YS.out;omega)).mono ?_;rintro e w3 ⟨rfl,Vn,Y8⟩;have aX:=CW w3 _ Z Y (nd m) _ (oJ m) Vn (nR m) (by intro a1 hj;rw [vS];rw [nR] at hj;exact(HF _ (by omega)).symm);have gA:=zh Y8;clear Vn Y8))
   go_ret
   refine⟨?_,Aw (aa HG bF) I (by simp) gA⟩
   have:txt (sgn false (m:Int).toNat)=.string ⟨(oJ m).toArray⟩:=by
    show Value.string ⟨(txtL ((m:Int).toNat:Int)).toArray⟩=_
    rw [Int.toNat_natCast,Gm HV.out]
   rw [Int.toNat_natCast] at this
   rw [this];rfl
  ·go_enter Tryz.func68,Tryz.ntmps68
   go_wp2_with (first
    | (go_at_call 101;refine HD.mono ?_;rintro e w2 ⟨Z,Y,fd,rfl,O,L,A⟩;have I:=zh O;have HF:=zh L;have bF:=zh A;obtain⟨aL,nW⟩:=H6 A;have av:=A.size;have a0:=YS.out;clear O L A)
    | (at_builtin;refine nj (k:=.u8) (t:=94) (e:=5) (bytes:=1) Tryz.underlying94 Uh (by omega) rfl _ _ rfl _ (.slice (some ⟨Z,0,none⟩) (nd m) Y) (nd m) fd _ 45 rfl rfl I rfl (by omega) av ?_))
   intro v' w3 ap ax
   obtain⟨H,G,rfl,K4,RG,aO,uo⟩:∃H G,v'=.slice (some ⟨H,0,none⟩) (nd m+1) G/\_<=H/\H<w3.heap.size/\nd m+1<=G/\G<=maxLen:=by
    rcases ap.shape with ⟨_,h⟩ | h
    ·omega
    ·exact h
   have Zk:=zh ap;have QK:=zh (Aw (aa HG bF) I (by simp) ax)
   clear ap ax aL nW aO uo
   go_wp2_with (go_at_call 102;refine(zM H G (nd m+1) _ _ _ Zk (by omega)).mono ?_;rintro e w4 ⟨rfl,aJ,ay⟩;have aX:=CW w4 _ H G (nd m+1) _ (45::oJ m) aJ (by rw [hJ,nR]) (Jw HF);have ir:=zh ay;clear aJ ay)
   go_ret
   refine⟨?_,Aw QK Zk (by simp) ir⟩
   have:txt (sgn true (m:Int).toNat)=.string ⟨(45::oJ m).toArray⟩:=by
    show Value.string ⟨(txtL (-((m:Int).toNat:Int))).toArray⟩=_
    rw [Int.toNat_natCast,Hh HV.out]
   rw [Int.toNat_natCast] at this
   rw [this];rfl
open Go.RowKit Mx List
def plain (l:List UInt8):Bool:=(l.all fun m=>decide (48<=m.toNat/\m.toNat<=57)) && (decide (l = [48]) || (decide (l≠[]) && decide (l.head?≠some 48)))
theorem AW (s:ByteArray) (k b:Nat) (h:k<s.data.toList.length) (A:(s.data.toList[k]).toNat=b):∀w:World,(Instr.index 9 (.string s) (.int .i64 (k:Int))).run Tryz.prog w=.ok (.int .u8 (b:Int)) w:=by
 intro w
 have B:s.data.toList.length=s.size:=Array.length_toList
 rw [run_index_string w 9 s .i64 k Tryz.underlying9,dif_pos ⟨by omega,by omega⟩]
 have m:(s[((k:Int)).toNat]'(by omega)).toNat=b:=by
  rw [<-A];simp [ByteArray.getElem_eq_getElem_data]
 rw [m]
theorem toList_data (s:ByteArray):s.toList=s.data.toList:=ByteArray.toList_eq s
theorem Qe (x:UInt8):x.toNat<256:=x.toNat_lt
theorem QJ (s:ByteArray) (w:World) (hs:s.data.toList.length<=1000):Calls Tryz.prog 124 #[.string s] w (fun O w'=>O=.returned (.bool (plain s.data.toList))/\w'=w):=by
 obtain⟨L,U⟩:=zx s.data.toList.length
 have fG:s.size=L:=by rw [<-U];exact(Array.length_toList).symm
 rw [U] at hs
 have H:=zh U
 clear U
 go_enter Tryz.func124,Tryz.ntmps124
 go_wp2
 go_loopw [6] (fun ak wr=>∃A:Nat,A<=L/\ak=.int .i64 A/\Hid (∀B (I:B<s.data.toList.length),B<A->48<=(s.data.toList[B]).toNat/\(s.data.toList[B]).toNat<=57)/\wr=w) (fun ak _=>L - (intOf ak).toNat)
 case atStart=>exact⟨0,by omega,rfl,fun B _ h=>by omega,rfl⟩
 case round=>
  obtain⟨A,hk,rfl,HD,rfl⟩:=hrel
  by_cases hlt:A<L
  ·obtain⟨m,R⟩:∃m:Nat,(s.data.toList[A]'(by rw [H.out];exact hlt)).toNat=m:=⟨_,rfl⟩
   have cB:m<256:=by rw [<-R];exact Qe _
   have ap:=AW s A m (by rw [H.out];exact hlt) R
   have HB:=zh R
   clear R
   have rj:(m<48\/57<m)->plain s.data.toList=false:=by
    intro h
    unfold plain
    have:(s.data.toList.all fun m=>decide (48<=m.toNat/\m.toNat<=57))=false:=by
     rw [all_eq_false]
     exact⟨_,getElem_mem (by rw [H.out];exact hlt),by rw [HB.out];simp;omega⟩
    rw [this];rfl
   have yG:=zh rj
   clear rj
   by_cases h1:m<48
   ·have d1:=zE ((m:Int)<48)
    go_wp2
    go_ret
    exact⟨congrArg (fun m=>Ending.returned (.bool m)) (yG (.inl h1)).symm,rfl⟩
   ·have d1:=zX ((m:Int)<48)
    by_cases h2:57<m
    ·have d2:=zE ((57:Int)<m)
     go_wp2
     go_ret
     exact⟨congrArg (fun m=>Ending.returned (.bool m)) (yG (.inr h2)).symm,rfl⟩
    ·have d2:=zX ((57:Int)<m)
     go_wp2
     go_roundw
     case rel=>
      refine⟨A+1,by omega,by go_num,fun B I h=>?_,by first | rfl | trivial⟩
      rcases Nat.lt_or_ge B A with h | h
      ·exact HD B I h
      ·obtain rfl:B=A:=by omega
       rw [HB.out];omega
     case measure=>simp [intOf];omega
  ·obtain rfl:A=L:=by omega
   have yo:(s.data.toList.all fun m=>decide (48<=m.toNat/\m.toNat<=57))=true:=by
    rw [all_eq_true]
    intro ao J
    obtain⟨B,I,rfl⟩:=getElem_of_mem J
    exact zd (HD B I (by rw [<-H.out];exact I))
   have hp:plain s.data.toList=(decide (s.data.toList = [48]) || (decide (s.data.toList≠[]) && decide (s.data.toList.head?≠some 48))):=by
    unfold plain;rw [yo];rfl
   have Y:=zh hp
   clear yo hp
   by_cases G:s.data.toList = [48]
   ·have c1:(s.toList == [48])=true:=by rw [toList_data,G];rfl
    have Z:=zh G
    clear G
    go_wp2
    go_ret
    exact⟨congrArg (fun m=>Ending.returned (.bool m)) (show true=plain s.data.toList by rw [Y.out,Z.out];rfl),by first | rfl | trivial⟩
   ·have c1:(s.toList == [48])=false:=by rw [toList_data];exact xz.2 G
    by_cases h0:A=0
    ·subst h0
     have E:s.data.toList = []:=fb H
     have c2:s.toList.isEmpty=true:=by rw [toList_data,E];rfl
     have Z:=zh E
     clear G E
     go_wp2
     go_ret
     exact⟨congrArg (fun m=>Ending.returned (.bool m)) (show false=plain s.data.toList by rw [Y.out,Z.out];rfl),by first | rfl | trivial⟩
    ·have BT:0<s.data.toList.length:=by rw [H.out];omega
     have E:s.data.toList≠[]:=ne_nil_of_length_pos BT
     have c2:s.toList.isEmpty=false:=by rw [toList_data];simpa using E
     have Qj:∀h:0<s.size,((((s[0]'h).toNat:Nat):Int) != 48)=plain s.data.toList:=by
      intro h
      have O:s[0]'h=s.data.toList[0]'BT:=by simp [ByteArray.getElem_eq_getElem_data]
      rw [O,Y.out,VW G,zd E,Bool.false_or,Bool.true_and,head?_eq_getElem?,QS BT]
      generalize s.data.toList[0]=ao
      by_cases J:ao=48
      ·subst J;decide
      ·rw [zd (by simpa using J)]
       exact bne_iff_ne.2 (fun O=>J (UInt8.toNat_inj.1 (by
         have:ao.toNat=48:=by omega
         rw [this];rfl)))
     have PN:=zh Qj
     clear G E Qj
     go_wp2
     go_ret
     exact⟨congrArg (fun m=>Ending.returned (.bool m)) (PN _),by first | rfl | trivial⟩
open Go.RowKit Mx List Go.World
def minus (l:List UInt8):Bool:=Lib.hasPrefix l [45]
def digs (l:List UInt8):List UInt8:=Lib.trimPrefix l [45]
def mH (l:List UInt8):Nat:=l.foldl (fun m A=>10*m+(A.toNat - 48)) 0
def parseE (l:List UInt8):Int:=if 60<(digs l).length then 11 else if plain (digs l)=false\/(minus l=true/\digs l = [48]) then 10 else 0
def parseV (l:List UInt8):Int:=if parseE l=0 then sgn (minus l) (mH (digs l)) else 0
def ParsePost (l:List UInt8) (w:World) (e:Ending) (G:World):Prop:=∃m,e=.returned (.tuple #[m,.int .i64 (parseE l)])/\IsInt G m (parseV l)/\w.grownBy G none/\∀I E B H,m=.agg #[.bool I,.slice E B H]->0<B->∃A,E=some A/\w.heap.size<=A.block
theorem sm {l:List UInt8} (h:plain l=true) (j:Nat) (m:j<l.length):48<=l[j].toNat/\l[j].toNat<=57:=by
 unfold plain at h
 rw [Bool.and_eq_true,all_eq_true] at h
 exact of_decide_eq_true (h.1 _ (getElem_mem m))
theorem sD {l:List UInt8} {k:Nat} (m:k<l.length):mH (l.take (k+1))=10*mH (l.take k)+(l[k].toNat - 48):=by
 rw [take_add_one,QS m]
 unfold mH
 rw [foldl_append];rfl
theorem aax (s:ByteArray) (w:World):Calls Tryz.prog 123 #[.string s,.string ⟨#[45]⟩] w fun m A=>m=.returned (.tuple #[.string ⟨(digs s.data.toList).toArray⟩,.bool (minus s.data.toList)])/\A=w:=
 Tryz.strings_CutPrefix s ⟨#[45]⟩ w
theorem Ox (w:World):IsInt w (.agg #[.bool false,.slice none 0 0]) 0:=
 ⟨false,_,0,rfl,⟨none,0,0,fun _=>0,rfl,Nat.le_refl _,by omega,.inl rfl,fun m h=>by omega,.inl rfl,rfl⟩,by simp,rfl⟩
theorem sw {l:List UInt8} {w:World} {E:Int} (m:parseE l=E) (h:E≠0):ParsePost l w (.returned (.tuple #[.agg #[.bool false,.slice none 0 0],.int .i64 E])) (w.alloc (.cells #[.bool false,.slice none 0 0] 58)):=
 ⟨_,by rw [m],by unfold parseV;rw [m,if_neg h];exact Ox _,af (ad w none) _,fun I H G A h B=>by simp at h;omega⟩
theorem B8 {w:World} {s:Bool} {p:Option Addr} {n c:Nat} {Z:Int} (h:IsInt w (.agg #[.bool s,.slice p n c]) Z) (J:0<n):∃a,p=some a/\a.block<w.heap.size:=by
 obtain⟨U,Y,E,m,⟨R,L,G,H,rfl,_,_,B,_⟩,_⟩:=h
 simp at m
 obtain⟨rfl,rfl,rfl,rfl⟩:=m
 rcases B with h | ⟨I,O,rfl,A,_⟩
 ·omega
 ·exact⟨_,rfl,A⟩
def Gy (p:Option Addr) (Z:Int) (w:World) (e:Ending) (E:World):Prop:=∃B p3 m A,e=.returned (.agg #[.bool B,.slice p3 m A])/\IsInt E (.agg #[.bool B,.slice p3 m A]) Z/\w.grownBy E none/\(0<m->p3=p)
theorem Hl {b s:Bool} {p B:Option Addr} {m E:Nat} {Z:Int} {w G:World} (h:A6 Z w (.returned (.agg #[.bool (s && b),.slice B m E])) G) (J:0<m->B=p):Gy p Z w (.returned (.agg #[.bool (s && b),.slice B m E])) G:=by
 obtain⟨L,A,H,I⟩:=h
 injection A with A
 subst A
 exact⟨_,_,_,_,rfl,H,I,J⟩
theorem Df (s:Bool) (p:Option Addr) (n H:Nat) (f:Nat->Nat) (w:World) (hn:n<=H) (U:H<=maxLen) (h:At .u64 w p n f) (hf:∀j,j<n->f j<Bw):
  Calls Tryz.prog 126 #[.bool s,.slice p n H] w (Gy p (sgn s (V Bw f 0 n)) w):=by
 have HT:=zh (fun I (hg:w.grownBy I none)=>Bn p n H f I hn U (h.grown hg (by simp)))
 have HH:=zh h;have HF:=zh hf
 clear h hf
 cases s
 ·go_enter Tryz.func126,Tryz.ntmps126
  go_wp2_with (go_at_call 129;refine(HT _ ?_).mono ?_;(exact qn w _ none);rintro ak I ⟨m,Y,O,rfl,q1,q2,q3,q4,E,Z,G,rfl⟩;have J:=zh q4;have L:=zh E;have A:=zh G;clear q4 E Z G)
  have B:=Hl (wH (s:=false) q1 q2 (Nat.le_trans q3 U) HH HF J.out L.out A.out) A.out
  have R:=zh B
  clear B
  exact bodyPost_ret (v:=.agg #[.bool (false && decide (0<m)),.slice Y m O]) (by simp [results,Tryz.results126,go_sem]) rfl R
 ·go_enter Tryz.func126,Tryz.ntmps126
  go_wp2_with (go_at_call 129;refine(HT _ ?_).mono ?_;(exact qn w _ none);rintro ak I ⟨m,Y,O,rfl,q1,q2,q3,q4,E,Z,G,rfl⟩;have J:=zh q4;have L:=zh E;have A:=zh G;clear q4 E Z G)
  have B:=Hl (wH (s:=true) q1 q2 (Nat.le_trans q3 U) HH HF J.out L.out A.out) A.out
  have R:=zh B
  clear B
  exact bodyPost_ret (v:=.agg #[.bool (true && decide (0<m)),.slice Y m O]) (by simp [results,Tryz.results126,go_sem]) rfl R
def V2 (l:List UInt8) (w:World) (k:Nat) (v:Value) (wr:World):Prop:=
 ∃(m:Nat) (A:Nat->Nat),m<=k/\Own .u64 182 wr (w.heap.size+1) v m A/\(∀B,B<m->A B<Bw)/\V Bw A 0 m=mH (l.take k)/\Below (w.heap.size+1) (w.alloc (.cells #[.bool false,.slice none 0 0] 58)) wr
theorem Parse_c (s:ByteArray) (w:World):Calls Tryz.prog 99 #[.string s] w (ParsePost s.data.toList w):=by
 obtain⟨O,hd⟩:∃O:ByteArray,O=⟨(digs s.data.toList).toArray⟩:=⟨_,rfl⟩
 have WQ:O.data.toList=digs s.data.toList:=by rw [hd]
 have rP:O.size=(digs s.data.toList).length:=by rw [<-WQ];exact(Array.length_toList).symm
 obtain⟨ap,hm⟩:=zx (minus s.data.toList)
 obtain⟨n,hn⟩:=zx (digs s.data.toList).length
 rw [hn] at rP
 have HD:=zh WQ;have HM:=zh hm;have P2:=zh hn
 have hcut:∀w,Calls Tryz.prog 123 #[.string s,.string ⟨#[45]⟩] w fun A w'=>A=.returned (.tuple #[.string O,.bool ap])/\w'=w:=by
  intro w;rw [hd,<-hm];exact aax s w
 have L9:=zh hcut
 clear hcut hd WQ hm hn
 by_cases SE:60<n
 ·have d1:=zE ((60:Int)<n)
  have E:parseE s.data.toList=11:=by unfold parseE;rw [P2.out,if_pos SE]
  have Y:=zh E
  clear E
  go_enter Tryz.func99,Tryz.ntmps99
  go_wp2_with (go_at_call 123;refine(L9 _).mono ?_;rintro A w1 ⟨rfl,rfl⟩)
  exact bodyPost_ret (v:=.tuple #[.agg #[.bool false,.slice none 0 0],.int .i64 11]) (by simp [results,Tryz.results99,go_sem]) rfl (sw Y (by decide))
 ·have d1:=zX ((60:Int)<n)
  obtain⟨pb,KR⟩:=zx (plain (digs s.data.toList))
  have jI:=zh KR
  have Qj:∀w,Calls Tryz.prog 124 #[.string O] w (fun A w'=>A=.returned (.bool pb)/\w'=w):=by
   intro w
   have:=QJ O w (by rw [HD.out,P2.out];omega)
   rwa [HD.out,KR] at this
  have PN:=zh Qj
  have E:parseE s.data.toList=if pb=false\/(ap=true/\digs s.data.toList = [48]) then 10 else 0:=by unfold parseE;rw [P2.out,if_neg SE,KR,HM.out]
  have Y:=zh E
  clear E Qj KR
  cases pb
  ·have E:parseE s.data.toList=10:=by rw [Y.out,if_pos (.inl rfl)]
   have Y:=zh E
   clear E
   go_enter Tryz.func99,Tryz.ntmps99
   go_wp2_with (first
    | (go_at_call 123;refine(L9 _).mono ?_;rintro A w1 ⟨rfl,rfl⟩)
    | (go_at_call 124;refine(PN _).mono ?_;rintro A w1 ⟨rfl,rfl⟩))
   exact bodyPost_ret (v:=.tuple #[.agg #[.bool false,.slice none 0 0],.int .i64 10]) (by simp [results,Tryz.results99,go_sem]) rfl (sw Y (by decide))
  ·by_cases B:ap=true/\digs s.data.toList = [48]
   ·obtain⟨lu,B⟩:=B
    have E:parseE s.data.toList=10:=by rw [Y.out,if_pos (.inr ⟨lu,B⟩)]
    subst lu
    have Ee:=zh E
    have c1:(O.toList == [48])=true:=by rw [toList_data,HD.out,B];rfl
    clear E B Y
    go_enter Tryz.func99,Tryz.ntmps99
    go_wp2_with (first
     | (go_at_call 123;refine(L9 _).mono ?_;rintro A w1 ⟨rfl,rfl⟩)
     | (go_at_call 124;refine(PN _).mono ?_;rintro A w1 ⟨rfl,rfl⟩))
    exact bodyPost_ret (v:=.tuple #[.agg #[.bool false,.slice none 0 0],.int .i64 10]) (by simp [results,Tryz.results99,go_sem]) rfl (sw Ee (by decide))
   ·have E:parseE s.data.toList=0:=by rw [Y.out,if_neg (by
     rintro(h | h);· cases h
     ·exact B h)]
    have Ee:=zh E
    have es:plain (digs s.data.toList)=true:=jI.out
    have QN:=sm es
    have ax:=zh QN
    have M2:V2 (digs s.data.toList) w 0 (.slice none 0 0) (w.alloc (.cells #[.bool false,.slice none 0 0] 58)):=
     ⟨0,fun _=>0,Nat.le_refl _,⟨rfl,.inl ⟨rfl,rfl⟩⟩,fun a1 h=>by omega,by simp [V,mH],Below.refl _ _⟩
    have ku:=zh M2
    clear E Y es QN M2
    cases ap
    ·clear B
     go_enter Tryz.func99,Tryz.ntmps99
     go_wp2_with (first
      | (go_at_call 123;refine(L9 _).mono ?_;rintro A w1 ⟨rfl,rfl⟩)
      | (go_at_call 124;refine(PN _).mono ?_;rintro A w1 ⟨rfl,rfl⟩))
     go_loopw [6,30] (fun v ao wr=>∃m:Nat,m<=n/\ao=.int .i64 m/\Hid (V2 (digs s.data.toList) w m v wr)) (fun _ ao _=>n - (intOf ao).toNat)
     case atStart=>exact⟨0,by omega,rfl,ku⟩
     case round=>
      clear ku
      obtain⟨m,hk,rfl,HR⟩:=hrel
      by_cases hlt:m<n
      ·obtain⟨U,ak,h1,I,R,J,L⟩:=HR.out
       have dU:m<(digs s.data.toList).length:=by rw [P2.out];exact hlt
       obtain⟨G,Z⟩:∃G:Nat,((digs s.data.toList)[m]'dU).toNat=G:=⟨_,rfl⟩
       have aO:=AW O m G (by rw [HD.out];exact dU) (by rw [<-Z];simp only [HD.out])
       have hb:=ax m dU
       rw [Z] at hb
       have hv:=sD dU
       rw [Z,<-J] at hv
       have fG:=L.size
       have PW:=zh (tN (w.heap.size+1) u6 U 10 (G - 48) ak wr I R (by unfold Bw;omega) (by unfold Bw;omega) (by omega) (by simpa using fG))
       have HV:=zh hv;have HB:=zh L
       have I1:IntKind.u8.wrap ((G:Int) - 48)=((G - 48:Nat):Int):=by rw [IntKind.wrap_u8];omega
       clear I R J L hv Z dU fG
       go_wp2_with (go_at_call 125;refine PW.mono ?_;rintro A w2 ⟨v',m',f',rfl,o1,o2,o3,o4,o5⟩;have O1:=zh o1;have O3:=zh o3;have O4:=zh o4;have O5:=zh o5;clear o1 o3 o4 o5)
       go_roundw
       case rel=>exact⟨m+1,by omega,by go_num,m',f',by omega,O1.out,O3.out,by rw [O4.out,HV.out],HB.trans O5.out⟩
       case measure=>simp [intOf];omega
      ·obtain rfl:m=n:=by omega
       obtain⟨U,ak,h1,I,R,J,L⟩:=HR.out
       obtain⟨p,H,rfl,aq,xu,Ze⟩:∃p H,u6=.slice p U H/\U<=H/\H<=maxLen/\∀a,p=some a->w.heap.size+1<=a.block:=by
        rcases I.shape with ⟨rfl,rfl⟩ | ⟨aL,H,rfl,Wl,_,zC,xu⟩
        ·exact⟨_,_,rfl,by omega,by omega,fun a h=>by cases h⟩
        ·exact⟨_,_,rfl,zC,xu,fun a h=>by cases h;exact Wl⟩
       rw [V7 (by rw [P2.out];omega)] at J
       have Zf:=zh (Df false p U H ak wr aq xu I.at.2 R)
       have HV:=zh J;have HB:=zh L
       clear I R J L HR
       go_wp2_with (go_at_call 126;refine Zf.mono ?_;rintro A w3 ⟨s3,p3,n3,c3,rfl,hx,hg,jL⟩;have HX:=zh hx;have My:=zh jL;clear jL;have ns:=aa (bj (row:=none) (a:=w.alloc (.cells #[.bool false,.slice none 0 0] 58)) (by simpa using HB.out)) hg;have gA:=zh ns;obtain⟨ay,aJ⟩:=H6 ns;have aX:w.heap.size<w3.heap.size:=(by have:=ns.size;simp at this;omega);clear hx hg ns)
       have hb:=aaw w (.cells #[.bool false,.slice none 0 0] 58)
       obtain⟨a0,e1,e2,e3⟩:=GD hb gA HX (af (ad w none) _) (Nat.le_refl _)
       injection e1 with e1;subst e1
       obtain⟨au,av⟩:=zf (s:=s3) (p:=p3) (n:=n3) (c:=c3) hb gA
       refine bodyPost_ret (v:=.tuple #[.agg #[.bool s3,.slice p3 n3 c3],.int .i64 0]) (by simp [results,Tryz.results99,go_sem,au,av]) rfl ⟨_,by rw [Ee.out],?_,e3,?_⟩
       ·unfold parseV
        rw [if_pos Ee.out,HM.out,<-HV.out];exact e2
       ·intro s p' n c h B
        simp at h
        obtain⟨rfl,rfl,rfl,rfl⟩:=h
        obtain⟨a,ha,_⟩:=B8 e2 B
        refine⟨a,ha,?_⟩
        have:=Ze a (by rw [<-My.out B];exact ha)
        omega
    ·have c1:(O.toList == [48])=false:=by rw [toList_data,HD.out];exact xz.2 (fun h=>B ⟨rfl,h⟩)
     clear B
     go_enter Tryz.func99,Tryz.ntmps99
     go_wp2_with (first
      | (go_at_call 123;refine(L9 _).mono ?_;rintro A w1 ⟨rfl,rfl⟩)
      | (go_at_call 124;refine(PN _).mono ?_;rintro A w1 ⟨rfl,rfl⟩))
     go_loopw [6,30] (fun v ao wr=>∃m:Nat,m<=n/\ao=.int .i64 m/\Hid (V2 (digs s.data.toList) w m v wr)) (fun _ ao _=>n - (intOf ao).toNat)
     case atStart=>exact⟨0,by omega,rfl,ku⟩
     case round=>
      clear ku
      obtain⟨m,hk,rfl,HR⟩:=hrel
      by_cases hlt:m<n
      ·obtain⟨U,ak,h1,I,R,J,L⟩:=HR.out
       have dU:m<(digs s.data.toList).length:=by rw [P2.out];exact hlt
       obtain⟨G,Z⟩:∃G:Nat,((digs s.data.toList)[m]'dU).toNat=G:=⟨_,rfl⟩
       have aO:=AW O m G (by rw [HD.out];exact dU) (by rw [<-Z];simp only [HD.out])
       have hb:=ax m dU
       rw [Z] at hb
       have hv:=sD dU
       rw [Z,<-J] at hv
       have fG:=L.size
       have PW:=zh (tN (w.heap.size+1) u6 U 10 (G - 48) ak wr I R (by unfold Bw;omega) (by unfold Bw;omega) (by omega) (by simpa using fG))
       have HV:=zh hv;have HB:=zh L
       have I1:IntKind.u8.wrap ((G:Int) - 48)=((G - 48:Nat):Int):=by rw [IntKind.wrap_u8];omega
       clear I R J L hv Z dU fG
       go_wp2_with (go_at_call 125;refine PW.mono ?_;rintro A w2 ⟨v',m',f',rfl,o1,o2,o3,o4,o5⟩;have O1:=zh o1;have O3:=zh o3;have O4:=zh o4;have O5:=zh o5;clear o1 o3 o4 o5)
       go_roundw
       case rel=>exact⟨m+1,by omega,by go_num,m',f',by omega,O1.out,O3.out,by rw [O4.out,HV.out],HB.trans O5.out⟩
       case measure=>simp [intOf];omega
      ·obtain rfl:m=n:=by omega
       obtain⟨U,ak,h1,I,R,J,L⟩:=HR.out
       obtain⟨p,H,rfl,aq,xu,Ze⟩:∃p H,u6=.slice p U H/\U<=H/\H<=maxLen/\∀a,p=some a->w.heap.size+1<=a.block:=by
        rcases I.shape with ⟨rfl,rfl⟩ | ⟨aL,H,rfl,Wl,_,zC,xu⟩
        ·exact⟨_,_,rfl,by omega,by omega,fun a h=>by cases h⟩
        ·exact⟨_,_,rfl,zC,xu,fun a h=>by cases h;exact Wl⟩
       rw [V7 (by rw [P2.out];omega)] at J
       have Zf:=zh (Df true p U H ak wr aq xu I.at.2 R)
       have HV:=zh J;have HB:=zh L
       clear I R J L HR
       go_wp2_with (go_at_call 126;refine Zf.mono ?_;rintro A w3 ⟨s3,p3,n3,c3,rfl,hx,hg,jL⟩;have HX:=zh hx;have My:=zh jL;clear jL;have ns:=aa (bj (row:=none) (a:=w.alloc (.cells #[.bool false,.slice none 0 0] 58)) (by simpa using HB.out)) hg;have gA:=zh ns;obtain⟨ay,aJ⟩:=H6 ns;have aX:w.heap.size<w3.heap.size:=(by have:=ns.size;simp at this;omega);clear hx hg ns)
       have hb:=aaw w (.cells #[.bool false,.slice none 0 0] 58)
       obtain⟨a0,e1,e2,e3⟩:=GD hb gA HX (af (ad w none) _) (Nat.le_refl _)
       injection e1 with e1;subst e1
       obtain⟨au,av⟩:=zf (s:=s3) (p:=p3) (n:=n3) (c:=c3) hb gA
       refine bodyPost_ret (v:=.tuple #[.agg #[.bool s3,.slice p3 n3 c3],.int .i64 0]) (by simp [results,Tryz.results99,go_sem,au,av]) rfl ⟨_,by rw [Ee.out],?_,e3,?_⟩
       ·unfold parseV
        rw [if_pos Ee.out,HM.out,<-HV.out];exact e2
       ·intro s p' n c h B
        simp at h
        obtain⟨rfl,rfl,rfl,rfl⟩:=h
        obtain⟨a,ha,_⟩:=B8 e2 B
        refine⟨a,ha,?_⟩
        have:=Ze a (by rw [<-My.out B];exact ha)
        omega
end Go.Proofs.YtpkipghjohomcaaGreatDoor.Zd
