/- Lemmas. -/
import Derived.Test.YtjbgnopnehgbaaaGreatDoorP10
set_option linter.unusedVariables false
set_option linter.unusedSimpArgs false
set_option maxHeartbeats 2000000
namespace Go.Proofs.YtjbgnopnehgbaaaGreatDoor.Zd
open Go.RowKit Mx
def Fu (g cap n:Nat) (f:Nat→Nat) (base:Nat) (w:World) (e:Ending) (w':World):Prop:=
 e=.returned (.tuple #[])∧Own .u8 5 w' base (.slice (some ⟨g,0,none⟩) n cap) n (fun j=>f (n - 1 - j))∧w.grownBy w' (some g)
def rv (f:Nat→Nat) (n k:Nat):Nat→Nat:=fun j=>if j<k∨n≤j+k then f (n - 1 - j) else f j
theorem QE {f:Nat→Nat} {n k:Nat} (h:2*k+1<n):∀j,j<n→upd (upd (rv f n k) k (f (n - 1 - k))) (n - 1 - k) (f k) j=rv f n (k+1) j:=by
 intro j hj
 unfold upd rv
 split
 ·subst_vars
  rw [if_pos (by omega)]
  congr 1;omega
 ·split
  ·subst_vars;rw [if_pos (by omega)]
  ·by_cases h1:j<k∨n≤j+k
   ·rw [if_pos h1,if_pos (by omega)]
   ·rw [if_neg h1,if_neg (by omega)]
theorem xE (g cap n:Nat) (f:Nat→Nat) (base:Nat) (w:World) (h:Own .u8 5 w base (.slice (some ⟨g,0,none⟩) n cap) n f) (hn:n≤1000000000):
  Calls Tryz.prog 65 #[.slice (some ⟨g,0,none⟩) n cap] w (Fu g cap n f base w):=by
 have HO:=zh h
 clear h
 go_enter Tryz.func65,Tryz.ntmps65
 go_wp2
 go_loopw [2,3] (fun i j wr=>∃k:Nat,2*k≤n+1∧i=.int .i64 k∧j=.int .i64 ((n:Int) - 1 - k)∧Hid (Own .u8 5 wr base (.slice (some ⟨g,0,none⟩) n cap) n (rv f n k))∧Hid (w.grownBy wr (some g))) (fun i _ _=>n - (intOf i).toNat)
 case atStart=>exact⟨0,by omega,rfl,by simp,HO.out.congr (fun j hj=>by simp [rv];omega),ad _ _⟩
 case round=>
  obtain⟨k,hk,rfl,rfl,HK,HG⟩:=hrel
  by_cases hlt:2*k+1<n
  ·have c1:=HK.out.cell (j:=k) (by omega)
   have c2:=HK.out.cell (j:=n - 1 - k) (by omega)
   have f1:=HK.out.free (j:=k)
   have f2:=HK.out.free (j:=n - 1 - k)
   have e1:rv f n k k=f k:=by unfold rv;rw [if_neg (by omega)]
   have e2:rv f n k (n - 1 - k)=f (n - 1 - k):=by unfold rv;rw [if_neg (by omega)]
   rw [e1] at c1;rw [e2] at c2
   obtain⟨x,hx⟩:∃x,f k=x:=⟨_,rfl⟩
   obtain⟨y,hy⟩:∃y,f (n - 1 - k)=y:=⟨_,rfl⟩
   rw [hx] at c1;rw [hy] at c2
   have Uf:=zh (((HK.out.set (j:=k) (x:=y) (by omega)).set (j:=n - 1 - k) (x:=x) (by omega)).congr (f2:=rv f n (k+1)) (by rw [←hx,←hy];exact QE hlt))
   obtain⟨l,hl⟩:∃l,n - 1 - k=l:=⟨_,rfl⟩
   have hli:(n:Int) - 1 - k=(l:Int):=by omega
   rw [hl] at c2 f2 Uf
   rw [hli]
   have i1:(k:Int)<l:=by omega
   have i2:(l:Int)<n:=by omega
   have jo:k<l:=by omega
   have hln:l<n:=by omega
   have HL:=zh hl
   have ajL:(wr.setCell ⟨g,k,none⟩ (.int .u8 y)).frozen? ⟨g,l,none⟩=false:=(HK.out.set (j:=k) (x:=y) (by omega)).free
   have aeU:=(HK.out.set (j:=k) (x:=y) (by omega)).cell (j:=l) (by omega)
   have e3:rv f n k l=y:=by rw [←hl,e2];exact hy
   rw [upd_ne (by omega),e3] at aeU
   clear e1 e2 e3 hx hy hl hli
   go_wp2
   go_region
   all_goals go_wp2
   go_roundw
   case rel=>exact⟨k+1,by omega,by go_num,qJ (by have:=HL.out;omega),Uf.out,aF (nX (nX HG.out _) _)⟩
   case measure=>simp [intOf];omega
  ·have bF:Fu g cap n f base w (.returned (.tuple #[])) wr:=⟨rfl,HK.out.congr (fun j hj=>by
    unfold rv
    by_cases h:j<k∨n≤j+k
    ·rw [if_pos h]
    ·rw [if_neg h];congr 1;omega),HG.out⟩
   have ec:=zh bF
   have i1:¬((k:Int)<(n:Int) - 1 - k):=by omega
   clear bF
   go_wp2
   go_end0
   exact ec.out
theorem Ht {A F c P m r s x c2 B:Nat} (h:A+c*P=m*F+r) (hs:s+c2*B=x*m+c):A+s*P+c2*(P*B)=m*(F+x*P)+r:=by
 have e:A+s*P+c2*(P*B)=A+(s+c2*B)*P:=by grind
 rw [e,hs]
 have e2:A+(x*m+c)*P=(A+c*P)+x*m*P:=by grind
 rw [e2,h];grind
def Oc (base:Nat) (n m r:Nat) (f:Nat→Nat) (w:World) (e:Ending) (w':World):Prop:=
 ∃v' n' f',e=.returned v'∧Own .u64 93 w' base v' n' f'∧n'≤n+1∧(∀j,j<n'→f' j<Bw)∧V Bw f' 0 n'=m*V Bw f 0 n+r∧Below base w w'
theorem J4 {m x c hi lo s ov:Nat} (hm:m<Bw) (hx:x<Bw) (hc:c<Bw) (LC:hi*Bw+lo=x*m) (h1:s+ov*Bw=lo+c+0) (hs:s<Bw):hi+ov<Bw∧s+(hi+ov)*Bw=x*m+c:=by
 have:=O8 hx hm
 generalize x*m=P at *
 unfold Bw at *
 omega
theorem rB (base:Nat) (v:Value) (n m r:Nat) (f:Nat→Nat) (w:World) (hO:Own .u64 93 w base v n f) (hf:∀j,j<n→f j<Bw) (hm:m<Bw) (hr:r<Bw) (hn:n≤100000) (gq:base≤w.heap.size):
  Calls Tryz.prog 31 #[v,.int .u64 m,.int .u64 r] w (Oc base n m r f w):=by
 obtain⟨p,cap,rfl,hp⟩:∃p cap,v=.slice p n cap∧(0<n→∃g,p=some ⟨g,0,none⟩∧base≤g∧g<w.heap.size):=by
  rcases hO.shape with ⟨rfl,rfl⟩ | ⟨g,cap,rfl,VP,zy,BC,wk⟩
  ·exact⟨_,_,rfl,fun h=>by omega⟩
  ·exact⟨_,_,rfl,fun _=>⟨g,rfl,VP,zy⟩⟩
 have HS:=zh hO;have HF:=zh hf;have HM:=zh hm;have HR:=zh hr
 clear hO hf hm hr
 go_enter Tryz.func31,Tryz.ntmps31
 go_wp2
 go_loopw [2,14] (fun c i wr=>∃(k c':Nat) (fk:Nat→Nat),k≤n∧i=.int .i64 k∧c=.int .u64 c'∧Hid (c'<Bw)∧Hid (Own .u64 93 wr base (.slice p n cap) n fk)∧Hid (∀j,j<n→fk j<Bw)∧Hid (∀j,k≤j→j<n→fk j=f j)∧
   Hid (V Bw fk 0 k+c'*Bw ^ k=m*V Bw f 0 k+r)∧Hid (Below base w wr)) (fun _ i _=>n - (intOf i).toNat)
 case atStart=>exact⟨0,r,f,by omega,rfl,rfl,HR,HS,HF,fun _ _ _=>rfl,by simp [Hid,V],Below.refl _ _⟩
 case round=>
  clear HS HF HR
  obtain⟨k,c',fk,hk,rfl,rfl,HC,HO,HF,HE,HV,HB⟩:=hrel
  by_cases hlt:k<n
  ·obtain⟨g,rfl,VP,zy⟩:=hp (by omega)
   have zT:=HO.out.cell hlt
   have kM:=HO.out.free (j:=k)
   obtain⟨hi,lo,aan,hhi,FY,LC⟩:=Qp (fk k) m (HF.out k hlt) HM.out
   obtain⟨s,ov,pj,hs,hov,RK⟩:=I3 lo c' 0 (by omega) FY HC.out
   obtain⟨TJ,har⟩:=J4 HM.out (HF.out k hlt) HC.out LC RK hs
   have vw:∀w,(callFunc 62 #[.int .u64 lo,.int .u64 c',.int .u64 0]).run Tryz.prog w=.ok (.value (.tuple #[.int .u64 s,.int .u64 ov])) w:=pj
   have afu:=zh aan
   have H2:Hid (V Bw (upd fk k s) 0 (k+1)+(hi+ov)*Bw ^ (k+1)=m*V Bw f 0 (k+1)+r):=by
    show _=_
    rw [gZ,gZ,Nat.zero_add,zm,qS (by omega),Nat.pow_succ,←HE.out k (Nat.le_refl _) hlt]
    exact Ht HV.out har
   have HCN:=zh TJ
   have ajX:hi+ov<18446744073709551616:=TJ
   have Cy:=zh hs
   clear pj aan LC RK TJ har hs hhi FY
   go_wp2_with (go_at_call 61;refine(afu.out _).mono ?_;rintro e w' ⟨rfl,rfl⟩)
   go_roundw
   case rel=>exact⟨k+1,hi+ov,upd fk k s,by omega,by go_num,by go_num,HCN,HO.out.set hlt,LO HF.out Cy.out,(fun j h1 h2=>by rw [upd_ne (by omega)];exact HE.out j (by omega) h2),H2,HB.out.setCell VP _⟩
   case measure=>simp [intOf];omega
  ·obtain rfl:k=n:=by omega
   by_cases h0:c'=0
   ·subst h0
    have bF:Oc base k m r f w (.returned (.slice p k cap)) wr:=⟨_,k,fk,rfl,HO.out,by omega,HF.out,by have:=HV.out;rwa [Nat.zero_mul,Nat.add_zero] at this,HB.out⟩
    have ec:=zh bF
    clear bF
    go_wp2
    go_ret
    exact ec.out
   ·have vp:((c':Int) == 0)=false:=beq_eq_false_iff_ne.2 (by omega)
    have Lo:base≤wr.heap.size:=Nat.le_trans gq HB.out.size
    have tN:=zh HO.out.far
    clear hp
    go_wp2_with (at_builtin;refine ma (k:=.u64) (t:=25) (e:=93) (bytes:=8) Tryz.underlying25 Lc (by omega) rfl _ _ rfl base (.slice p k cap) k fk _ c' rfl rfl HO.out rfl (by omega) (by omega) ?_)
    intro v' w' hO' hG'
    have YO:=zh hO';have PG:=zh hG'
    clear hO' hG'
    go_wp2_with fail
    go_ret
    refine⟨v',k+1,_,rfl,YO.out,by omega,fun j hj=>?_,?_,HB.out.grown PG.out Lo tN.out⟩
    ·unfold upd;split
     ·exact HC.out
     ·exact HF.out j (by omega)
    ·rw [gZ,Nat.zero_add,zm,qS (by omega)];exact HV.out
def IsInt (w:World) (x:Value) (Z:Int):Prop:=∃(s:Bool) (v:Value) (N:Nat),x=.agg #[.bool s,v]∧Num w v N∧(s=true→N≠0)∧Z=if s then -(N:Int) else N
theorem IsInt.kept {w w':World} {x:Value} {Z:Int} (h:IsInt w x Z) (hg:w.grownBy w' none):IsInt w' x Z:=by
 obtain⟨s,v,N,rfl,hn,r⟩:=h
 exact⟨s,v,N,rfl,hn.kept hg,r⟩
def yZ (Z:Int) (w:World) (e:Ending) (w':World):Prop:=∃x,e=.returned x∧IsInt w' x Z∧w.grownBy w' none
def sgn (s:Bool) (N:Nat):Int:=if s then -(N:Int) else N
theorem yp {n:Nat} {f:Nat→Nat} (t:n=0∨f (n - 1)≠0):0<n↔V Bw f 0 n≠0:=by
 constructor
 ·intro h
  rcases wS (b:=Bw) (f:=f) (o:=0) (n:=n) (by simpa using t) with e | e
  ·omega
  ·have:=Nat.pow_pos (n:=n - 1) tg;omega
 ·intro h
  exact FN h
theorem uK {s:Bool} {p p':Option Addr} {n m bH:Nat} {f:Nat→Nat} {w:World} (q1:m≤n) (q2:m≤bH) (q3:bH≤maxLen) (h:At .u64 w p n f) (hf:∀j,j<n→f j<Bw)
  (q4:m=0∨f (m - 1)≠0) (q5:∀j,m≤j→j<n→f j=0) (q7:0<m→p'=p):
  yZ (sgn s (V Bw f 0 n)) w (.returned (.agg #[.bool (s && decide (0<m)),.slice p' m bH])) (w.alloc (.cells #[.bool (s && decide (0<m)),.slice p' m bH] 27)):=by
 have hg:=World.grownBy_alloc w (.cells #[.bool (s && decide (0<m)),.slice p' m bH] 27) none
 have hv:V Bw f 0 n=V Bw f 0 m:=Ty (fun j h1 h2=>by simpa using q5 j h1 h2) q1
 refine⟨_,rfl,⟨s && decide (0<m),.slice p' m bH,V Bw f 0 n,rfl,⟨p',m,bH,f,rfl,q2,q3,?_,fun j hj=>hf j (by omega),q4,hv.symm⟩,fun h=>?_,?_⟩,hg⟩
 ·by_cases e:m=0
  ·exact .inl e
  ·have h2:=(h.pre q1).grown hg (by simp)
   rw [←q7 (by omega)] at h2;exact h2
 ·rw [hv];exact(yp q4).1 (by simp at h;exact h.2)
 ·rw [hv]
  by_cases e:0<m
  ·cases s<;>simp [sgn,e]
  ·obtain rfl:m=0:=by omega
   cases s<;>simp [sgn,V]
def aR (v:Value) (w:World) (e:Ending) (w':World):Prop:=e=.returned v∧w.grownBy w' none
theorem ub {w:World} {x:Value} {Z:Int} (h:IsInt w x Z):∃s p n cap f,x=.agg #[.bool s,.slice p n cap]∧n≤cap∧cap≤maxLen∧At .u64 w p n f∧(∀j,j<n→f j<Bw)∧(n=0∨f (n - 1)≠0)∧(s=true→0<n)∧Z=sgn s (V Bw f 0 n):=by
 obtain⟨s,v,N,rfl,⟨p,n,cap,f,rfl,h1,h2,h3,h4,h5,rfl⟩,h6,h7⟩:=h
 exact⟨s,p,n,cap,f,rfl,h1,h2,h3,h4,h5,fun e=>FN (h6 e),h7⟩
theorem aae (w:World) (o1:Obj):(w.alloc o1).heap[w.heap.size]? = some o1:=heap_alloc_new w o1
theorem int_parts {w:World} {x:Value} {Z:Int} (h:IsInt w x Z):∃s p n cap,x=.agg #[.bool s,.slice p n cap]∧Hid (IsInt w (.agg #[.bool s,.slice p n cap]) Z):=by
 obtain⟨s,v,N,rfl,hn,r⟩:=h
 obtain⟨p,n,cap,f,rfl,q⟩:=hn
 exact⟨s,p,n,cap,rfl,s,_,N,rfl,⟨p,n,cap,f,rfl,q⟩,r⟩
theorem At.off {k:IntKind} {w w':World} {p:Option Addr} {n r:Nat} {f:Nat→Nat} (h:At k w p n f) (hn:∀o x,w.cell? ⟨r,o,none⟩≠some (.int k x)) (hs:w.heap.size≤w'.heap.size) (hc:∀b o,b≠r→w'.cell? ⟨b,o,none⟩=w.cell? ⟨b,o,none⟩):At k w' p n f:=by
 rcases h with h | ⟨g,off,rfl,hg,fD⟩
 ·exact .inl h
 ·by_cases wv:n=0
  ·exact .inl wv
  ·have OH:g≠r:=by
    intro e;subst e
    exact hn _ _ (fD 0 (by omega))
   exact .inr ⟨g,off,rfl,zn hg hs,fun j hj=>(hc g _ OH).trans (fD j hj)⟩
theorem Num.off {w w':World} {v:Value} {N r:Nat} (h:Num w v N) (hn:∀o x,w.cell? ⟨r,o,none⟩≠some (.int .u64 x)) (hs:w.heap.size≤w'.heap.size) (hc:∀b o,b≠r→w'.cell? ⟨b,o,none⟩=w.cell? ⟨b,o,none⟩):Num w' v N:=by
 obtain⟨p,n,cap,f,rfl,h1,h2,h3,r⟩:=h
 exact⟨p,n,cap,f,rfl,h1,h2,h3.off hn hs hc,r⟩
theorem IF {w:World} {r:Nat} {b0:Bool} {T:TypeId} {q:Option Addr} {l c:Nat} (hb:w.heap[r]? = some (.cells #[.bool b0,.slice q l c] T (0,0))) (k:IntKind):∀o x,w.cell? ⟨r,o,none⟩≠some (.int k x):=by
 intro o x h
 rw [cell_of_row w r o _ T (0,0) hb] at h
 match o,h with
 | 0,h=>simp at h
 | 1,h=>simp at h
 | o+2,h=>simp at h
theorem Fa {w W w3:World} {r:Nat} {b0:Bool} {T:TypeId} {s:Bool} {p:Option Addr} {n c:Nat} {Z:Int} (hb:W.heap[r]? = some (.cells #[.bool b0,.slice none 0 0] T (0,0))) (hg:W.grownBy w3 none) (hx:IsInt w3 (.agg #[.bool s,.slice p n c]) Z)
  (h0:w.grownBy W none) (hr:w.heap.size≤r):
  yZ Z w (.returned (.agg #[.bool s,.slice p n c])) ((w3.setCell ⟨r,0,none⟩ (.bool s)).setCell ⟨r,1,none⟩ (.slice p n c)):=by
 have hrW:=(Array.getElem?_eq_some_iff.1 hb).1
 have ig:=(hg.block r hrW (by simp)).trans hb
 refine⟨_,rfl,?_,bz (D3 (df (aa h0 hg)) hr (nX (nX (ad _ _) _) _))⟩
 obtain⟨s',v',N,he,hn,h1,h2⟩:=hx
 refine⟨s',v',N,he,hn.off (IF ig _) (by simp [World.setCell]) (fun b o hbr=>?_),h1,h2⟩
 have e1:((w3.setCell ⟨r,0,none⟩ (.bool s)).setCell ⟨r,1,none⟩ (.slice p n c)).heap[b]? = w3.heap[b]? := by
  rw [Below.heap_setCell _ _ _ _ (by simpa using hbr),Below.heap_setCell _ _ _ _ (by simpa using hbr)]
 exact World.cell?_of_block (w:=w3) e1
theorem wG {W w3:World} {r:Nat} {b0:Bool} {T:TypeId} {s:Bool} {p:Option Addr} {n c:Nat} (hb:W.heap[r]? = some (.cells #[.bool b0,.slice none 0 0] T (0,0))) (hg:W.grownBy w3 none):
  (w3.setCell ⟨r,0,none⟩ (.bool s)).cell? ⟨r,0,none⟩=some (.bool s)∧((w3.setCell ⟨r,0,none⟩ (.bool s)).setCell ⟨r,1,none⟩ (.slice p n c)).cell? ⟨r,1,none⟩=some (.slice p n c):=by
 have hrW:=(Array.getElem?_eq_some_iff.1 hb).1
 have ig:=(hg.block r hrW (by simp)).trans hb
 have h1:(w3.setCell ⟨r,0,none⟩ (.bool s)).heap[r]? = some (.cells #[.bool s,.slice none 0 0] T (0,0)):=by
  simp only [World.setCell,Array.getElem?_modify,ig,if_true,Option.map_some];rfl
 have h2:((w3.setCell ⟨r,0,none⟩ (.bool s)).setCell ⟨r,1,none⟩ (.slice p n c)).heap[r]? = some (.cells #[.bool s,.slice p n c] T (0,0)):=by
  rw [World.setCell]
  simp only [Array.getElem?_modify,h1,if_true,Option.map_some];rfl
 exact⟨by rw [cell_of_row _ r 0 _ T (0,0) h1];rfl,by rw [cell_of_row _ r 1 _ T (0,0) h2];rfl⟩
theorem NA (p:Option Addr) (n cap:Nat) (f:Nat→Nat) (w:World) (h3:At .u64 w p n f) (h4:∀j,j<n→f j<Bw) (h5:n=0∨f (n - 1)≠0) (h0:0<n) (hL:V Bw f 0 n<Lim):Calls Tryz.prog 64 #[.slice p n cap] w (ze (V Bw f 0 n) w):=by
 have hn:=Fe h5 hL
 unfold tj at hn
 exact qQ p n cap f w hn h3 h4 h5 h0
theorem LQ {N:Nat} (h:N<Lim):nd N≤6400000:=by
 rcases Nat.lt_or_ge 6400000 (nd N) with hlt | Da
 ·exfalso
  have hN:N≠0:=by intro e;subst e;rw [nd,dif_pos rfl] at hlt;omega
  have h1:=nd_le N hN
  have h2:2 ^ (nd N - 1)≤10 ^ (nd N - 1):=Nat.pow_le_pow_left (by omega) _
  have h3:Lim=2 ^ (64*tj):=by unfold Lim;rw [Nat.pow_mul,show(2:Nat) ^ 64=Bw from rfl]
  have h4:2 ^ (64*tj)≤2 ^ (nd N - 1):=Nat.pow_le_pow_right (by omega) (by unfold tj;omega)
  omega
 ·exact Da
theorem iH (N:Nat):(decL N).length=nd N:=by simp [decL]
theorem El (N j:Nat):dig N j<10:=Nat.mod_lt _ (by omega)
theorem tU (N j:Nat) (h:j<(decL N).length):(decL N)[j].toNat=48+dig N (nd N - 1 - j):=by
 have:=El N (nd N - 1 - j)
 simp [decL]
 omega
theorem EH {N:Nat} (h:N≠0):txtL (N:Int)=decL N:=by
 unfold txtL
 rw [if_neg (by omega),if_neg (by omega)];simp
theorem FJ {N:Nat} (h:N≠0):txtL (-(N:Int))=45::decL N:=by
 unfold txtL
 rw [if_neg (by omega),if_pos (by omega)];simp
theorem Bb (w:World) (base g cap n:Nat) (f:Nat→Nat) (l:List UInt8) (h:Own .u8 5 w base (.slice (some ⟨g,0,none⟩) n cap) n f) (hl:l.length=n) (hf:∀j (hj:j<l.length),l[j].toNat=f j):
  (convert 78 9 (.slice (some ⟨g,0,none⟩) n cap)).run Tryz.prog w=.ok (.string ⟨l.toArray⟩) w:=by
 have:=run_convert_bytes_back (P:=Tryz.prog) w 78 9 5 ⟨g,0,none⟩ cap l Tryz.underlying78 Tryz.underlying5 Tryz.underlying9 (fun j hj=>by
  rw [addr_add,Nat.zero_add,h.cell (by omega),hf j hj])
 rwa [hl] at this
theorem Hs {N:Nat} {fd:Nat→Nat} (hF:∀j,j<nd N→fd j=48+dig N j):∀j (hj:j<(45::decL N).length),(45::decL N)[j].toNat=upd fd (nd N) 45 (nd N+1 - 1 - j):=by
 intro j hj
 rw [List.length_cons,iH] at hj
 match j with
 | 0=>simp [upd]
 | j+1=>
   rw [upd_ne (by omega),List.getElem_cons_succ,tU,hF _ (by omega)]
   congr 2;omega
theorem String_c (x:Value) (Z:Int) (w:World) (h:IsInt w x Z) (hZ:Z.natAbs<Lim):Calls Tryz.prog 33 #[x] w (aR (txt Z) w):=by
 obtain⟨s,p,n,cap,f,rfl,h1,h2,h3,h4,h5,h6,rfl⟩:=ub h
 have hg:=World.grownBy_alloc w (.cells #[.bool s,.slice p n cap] 27) none
 have Rr:(sgn s (V Bw f 0 n)).natAbs=V Bw f 0 n:=by cases s<;>simp [sgn]
 rw [Rr] at hZ
 by_cases hn:n=0
 ·subst hn
  have hz:sgn s (V Bw f 0 0)=0:=by cases s<;>simp [sgn,V]
  rw [hz]
  have bF:aR (txt 0) w (.returned (.string ⟨#[48]⟩)) (w.alloc (.cells #[.bool s,.slice p 0 cap] 27)):=⟨rfl,hg⟩
  have ec:=zh bF
  clear bF h h3 h4 h5 h6 hg hz Rr hZ
  go_enter Tryz.func33,Tryz.ntmps33
  go_wp2
  go_ret
  exact ec.out
 ·have hv:=(yp h5).1 (by omega)
  have bl:((n:Int) == 0)=false:=beq_eq_false_iff_ne.2 (by omega)
  have HD:=zh (NA p n cap f _ (h3.grown hg (by simp)) h4 h5 (by omega) hZ)
  have Vi:=zh (LQ hZ)
  have HV:=zh hv
  have HG:=zh hg
  generalize V Bw f 0 n=N at *
  clear h h3 h4 h5 h6 hg Rr hZ hv
  cases s
  ·go_enter Tryz.func33,Tryz.ntmps33
   go_wp2_with (first
    | (go_at_call 64;refine HD.out.mono ?_;rintro e w2 ⟨g,cp,fd,rfl,hO,hF,bT⟩;have HO:=zh hO;have HF:=zh hF;have cz:=zh bT;obtain⟨Uy,Et⟩:=FZ bT;have aaJ:=bT.size;clear hO hF bT)
    | (go_at_call 65;refine(xE g cp (nd N) fd _ _ HO.out (by have:=Vi.out;omega)).mono ?_;rintro e w3 ⟨rfl,hO3,YA⟩;have hcv:=Bb w3 _ g cp (nd N) _ (decL N) hO3 (iH N) (by intro j hj;rw [tU];rw [iH] at hj;exact(HF.out _ (by omega)).symm);have eg:=zh YA;clear hO3 YA))
   go_ret
   refine⟨?_,yw (aa HG.out cz.out) HO.out (by simp) eg.out⟩
   have:txt (sgn false (N:Int).toNat)=.string ⟨(decL N).toArray⟩:=by
    show Value.string ⟨(txtL ((N:Int).toNat:Int)).toArray⟩=_
    rw [Int.toNat_natCast,EH HV.out]
   rw [Int.toNat_natCast] at this
   rw [this];rfl
  ·go_enter Tryz.func33,Tryz.ntmps33
   go_wp2_with (first
    | (go_at_call 64;refine HD.out.mono ?_;rintro e w2 ⟨g,cp,fd,rfl,hO,hF,bT⟩;have HO:=zh hO;have HF:=zh hF;have cz:=zh bT;obtain⟨Uy,Et⟩:=FZ bT;have aaJ:=bT.size;have hND:=Vi.out;clear hO hF bT)
    | (at_builtin;refine ma (k:=.u8) (t:=78) (e:=5) (bytes:=1) Tryz.underlying78 TA (by omega) rfl _ _ rfl _ (.slice (some ⟨g,0,none⟩) (nd N) cp) (nd N) fd _ 45 rfl rfl HO.out rfl (by omega) aaJ ?_))
   intro v' w3 hO' hG'
   obtain⟨g',Yo,rfl,MZ,QJ,hc',vG⟩:∃g' Yo,v'=.slice (some ⟨g',0,none⟩) (nd N+1) Yo∧_≤g'∧g'<w3.heap.size∧nd N+1≤Yo∧Yo≤maxLen:=by
    rcases hO'.shape with ⟨_,h⟩ | h
    ·omega
    ·exact h
   have YO:=zh hO';have PG:=zh (yw (aa HG.out cz.out) HO.out (by simp) hG')
   clear hO' hG' Uy Et hc' vG
   go_wp2_with (go_at_call 65;refine(xE g' Yo (nd N+1) _ _ _ YO.out (by omega)).mono ?_;rintro e w4 ⟨rfl,hO4,hG4⟩;have hcv:=Bb w4 _ g' Yo (nd N+1) _ (45::decL N) hO4 (by rw [List.length_cons,iH]) (Hs HF.out);have lw:=zh hG4;clear hO4 hG4)
   go_ret
   refine⟨?_,yw PG.out YO.out (by simp) lw.out⟩
   have:txt (sgn true (N:Int).toNat)=.string ⟨(45::decL N).toArray⟩:=by
    show Value.string ⟨(txtL (-((N:Int).toNat:Int))).toArray⟩=_
    rw [Int.toNat_natCast,FJ HV.out]
   rw [Int.toNat_natCast] at this
   rw [this];rfl
def plain (l:List UInt8):Bool:=(l.all fun b=>decide (48≤b.toNat∧b.toNat≤57)) && (decide (l = [48]) || (decide (l≠[]) && decide (l.head?≠some 48)))
theorem yU (s:ByteArray) (k b:Nat) (h:k<s.data.toList.length) (hb:(s.data.toList[k]).toNat=b):∀w:World,(Instr.index 9 (.string s) (.int .i64 (k:Int))).run Tryz.prog w=.ok (.int .u8 (b:Int)) w:=by
 intro w
 have hs:s.data.toList.length=s.size:=Array.length_toList
 rw [run_index_string w 9 s .i64 k Tryz.underlying9,dif_pos ⟨by omega,by omega⟩]
 have e:(s[((k:Int)).toNat]'(by omega)).toNat=b:=by
  rw [←hb];simp [ByteArray.getElem_eq_getElem_data]
 rw [e]
theorem toList_data (s:ByteArray):s.toList=s.data.toList:=ByteArray.toList_eq s
theorem O2 (x:UInt8):x.toNat<256:=x.toNat_lt
theorem PF (s:ByteArray) (w:World) (hs:s.data.toList.length≤1000):Calls Tryz.prog 30 #[.string s] w (fun e w'=>e=.returned (.bool (plain s.data.toList))∧w'=w):=by
 obtain⟨n,hn⟩:∃n,s.data.toList.length=n:=⟨_,rfl⟩
 have db:s.size=n:=by rw [←hn];exact(Array.length_toList).symm
 rw [hn] at hs
 have HN:=zh hn
 clear hn
 go_enter Tryz.func30,Tryz.ntmps30
 go_wp2
 go_loopw [6] (fun i wr=>∃k:Nat,k≤n∧i=.int .i64 k∧Hid (∀j (hj:j<s.data.toList.length),j<k→48≤(s.data.toList[j]).toNat∧(s.data.toList[j]).toNat≤57)∧wr=w) (fun i _=>n - (intOf i).toNat)
 case atStart=>exact⟨0,by omega,rfl,fun j _ h=>by omega,rfl⟩
 case round=>
  obtain⟨k,hk,rfl,HD,rfl⟩:=hrel
  by_cases hlt:k<n
  ·obtain⟨b,hb⟩:∃b:Nat,(s.data.toList[k]'(by rw [HN.out];exact hlt)).toNat=b:=⟨_,rfl⟩
   have dC:b<256:=by rw [←hb];exact O2 _
   have hix:=yU s k b (by rw [HN.out];exact hlt) hb
   have HB:=zh hb
   clear hb
   have pq:(b<48∨57<b)→plain s.data.toList=false:=by
    intro h
    unfold plain
    have:(s.data.toList.all fun b=>decide (48≤b.toNat∧b.toNat≤57))=false:=by
     rw [List.all_eq_false]
     exact⟨_,List.getElem_mem (by rw [HN.out];exact hlt),by rw [HB.out];simp;omega⟩
    rw [this];rfl
   have lm:=zh pq
   clear pq
   by_cases h1:b<48
   ·have d1:decide ((b:Int)<48)=true:=zd (by omega)
    go_wp2
    go_ret
    exact⟨congrArg (fun b=>Ending.returned (.bool b)) (lm.out (.inl h1)).symm,rfl⟩
   ·have d1:decide ((b:Int)<48)=false:=decide_eq_false (by omega)
    by_cases h2:57<b
    ·have d2:decide ((57:Int)<b)=true:=zd (by omega)
     go_wp2
     go_ret
     exact⟨congrArg (fun b=>Ending.returned (.bool b)) (lm.out (.inr h2)).symm,rfl⟩
    ·have d2:decide ((57:Int)<b)=false:=decide_eq_false (by omega)
     go_wp2
     go_roundw
     case rel=>
      refine⟨k+1,by omega,by go_num,fun j hj h=>?_,by first | rfl | trivial⟩
      rcases Nat.lt_or_ge j k with h | h
      ·exact HD.out j hj h
      ·obtain rfl:j=k:=by omega
       rw [HB.out];omega
     case measure=>simp [intOf];omega
  ·obtain rfl:k=n:=by omega
   have k9:(s.data.toList.all fun b=>decide (48≤b.toNat∧b.toNat≤57))=true:=by
    rw [List.all_eq_true]
    intro x hx
    obtain⟨j,hj,rfl⟩:=List.getElem_of_mem hx
    exact zd (HD.out j hj (by rw [←HN.out];exact hj))
   have hp:plain s.data.toList=(decide (s.data.toList = [48]) || (decide (s.data.toList≠[]) && decide (s.data.toList.head?≠some 48))):=by
    unfold plain;rw [k9];rfl
   have HP:=zh hp
   clear k9 hp
   by_cases hz:s.data.toList = [48]
   ·have c1:(s.toList == [48])=true:=by rw [toList_data,hz];rfl
    have HZ:=zh hz
    clear hz
    go_wp2
    go_ret
    exact⟨congrArg (fun b=>Ending.returned (.bool b)) (show true=plain s.data.toList by rw [HP.out,HZ.out];rfl),by first | rfl | trivial⟩
   ·have c1:(s.toList == [48])=false:=by rw [toList_data];exact beq_eq_false_iff_ne.2 hz
    by_cases h0:k=0
    ·subst h0
     have D6:s.data.toList = []:=List.eq_nil_of_length_eq_zero HN.out
     have c2:s.toList.isEmpty=true:=by rw [toList_data,D6];rfl
     have HZ:=zh D6
     clear hz D6
     go_wp2
     go_ret
     exact⟨congrArg (fun b=>Ending.returned (.bool b)) (show false=plain s.data.toList by rw [HP.out,HZ.out];rfl),by first | rfl | trivial⟩
    ·have zW:0<s.data.toList.length:=by rw [HN.out];omega
     have D6:s.data.toList≠[]:=List.ne_nil_of_length_pos zW
     have c2:s.toList.isEmpty=false:=by rw [toList_data];simpa using D6
     have SL:∀h:0<s.size,((((s[0]'h).toNat:Nat):Int) != 48)=plain s.data.toList:=by
      intro h
      have e:s[0]'h=s.data.toList[0]'zW:=by simp [ByteArray.getElem_eq_getElem_data]
      rw [e,HP.out,decide_eq_false hz,zd D6,Bool.false_or,Bool.true_and,List.head?_eq_getElem?,List.getElem?_eq_getElem zW]
      generalize s.data.toList[0]=x
      by_cases hx:x=48
      ·subst hx;decide
      ·rw [zd (by simpa using hx)]
       exact bne_iff_ne.2 (fun e=>hx (UInt8.toNat_inj.1 (by
         have:x.toNat=48:=by omega
         rw [this];rfl)))
     have Yk:=zh SL
     clear hz D6 SL
     go_wp2
     go_ret
     exact⟨congrArg (fun b=>Ending.returned (.bool b)) (Yk.out _),by first | rfl | trivial⟩
end Go.Proofs.YtjbgnopnehgbaaaGreatDoor.Zd
