/- Lemmas. -/
import Derived.Test.YtpkipghjohomcaaGreatDoorP18
import Derived.Test.YtpkipghjohomcaaGreatDoorP29
set_option linter.unusedVariables false
set_option linter.unusedSimpArgs false
namespace Go.Proofs.YtpkipghjohomcaaGreatDoor
open Go.RowKit List
theorem eq {S F:Nat->Prop} {s:Nat} {w E:World} {p:Option Addr} {m:List (List Value)} {α : Type} {l:List α} (B:m.length=l.length) (h:GAt s w p m) (I:l≠[]->∃a,p=some a/\F a.block) (R:Fr2 S w E) (L:∀k,F k->¬S k):GAt s E p m:=
 h.keptS R (fun H a O=>by
  obtain⟨U,A,J⟩:=I (fun G=>H (by rw [G] at B;exact fb B))
  rw [O] at A;cases A;exact L _ J)
theorem Dq {F:Nat->Prop} {w:World}:∀ {l:List Fx} {r:List (List Value)},eZ F w l r->eZ (fun m=>F m/\m<w.heap.size) w l r
 | [],r,h=>by simp only [eZ] at h ⊢;exact h
 | x::l,r,h=>by
   simp only [eZ] at h ⊢
   obtain⟨G,H,A,B,E⟩:=h
   exact⟨G,H,A,PAt.bound B,Dq E⟩
theorem DAt.same {F S:Nat->Prop} {w G:World} {d:Dx} {q:List Value} (A:Fr2 S w G) (m:∀k,F k->¬S k) (h:DAt F w d q):DAt F G d q:=by
 obtain⟨pp,np,I,J,pc,Z,H,qb,L,O,R,U,Y,B,E⟩:=h
 exact⟨pp,np,I,J,pc,Z,H,qb,L,PAt.same A m O,EAt.same A m R,U,eq (pB B) Y E A m,od A m B,E⟩
theorem DAt.mono {F F':Nat->Prop} {w:World} {d:Dx} {q:List Value} (m:∀k,F k->F' k) (h:DAt F w d q):DAt F' w d q:=by
 obtain⟨pp,np,E,G,pc,nc,B,qb,I,J,L,O,R,U,Y⟩:=h
 exact⟨pp,np,E,G,pc,nc,B,qb,I,PAt.mono m J,EAt.mono m L,O,R,qI m U,fun H=>by obtain⟨A,ha,Z⟩:=Y H;exact⟨A,ha,m _ Z⟩⟩
theorem DAt.kept {F:Nat->Prop} {w m:World} {d:Dx} {q:List Value} (h:DAt F w d q) (A:w.grownBy m none):DAt F m d q:=DAt.same (S:=fun _=>False) (Fr2.none A) (fun _ _ h=>h) h
theorem DAt.bound {F:Nat->Prop} {w:World} {d:Dx} {q:List Value} (h:DAt F w d q):DAt (fun I=>F I/\I<w.heap.size) w d q:=by
 obtain⟨pp,np,L,R,pc,nc,J,qb,U,Y,Z,h4,B,E,h7⟩:=h
 refine⟨pp,np,L,R,pc,nc,J,qb,U,PAt.bound Y,EAt.bound Z,h4,B,Dq E,fun A=>?_⟩
 obtain⟨m,G,h8⟩:=h7 A
 have H:=pB E
 exact⟨m,G,h8,GAt.blk B (fun O=>by rw [O] at H;exact A (fb H.symm)) m G⟩
theorem DAt.fift {F:Nat->Prop} {w:World} {d:Dx} {q:List Value} (h:DAt F w d q):q.length=15/\(∀u∈q,u.oneCell'=true)/\∃B E O R U Y Z a7 a8 a9 G H I J L,q = [B,E,O,R,U,Y,Z,a7,a8,a9,G,H,I,J,L]:=by
 obtain⟨pp,np,cp,eJ,pc,nc,cc,qb,rfl,h2,A,-⟩:=h
 obtain⟨eg,cB⟩:=A.one
 obtain⟨e0,e1,e2,e3,e4,e5,e6,e7,rfl⟩:=A.eight
 refine⟨rfl,fun u m=>?_,_,_,_,_,_,_,_,_,_,_,_,_,_,_,_,rfl⟩
 rcases mem_append.1 m with m | m
 ·rcases mem_append.1 m with m | m
  ·simp at m;rcases m with rfl | rfl | rfl | rfl | rfl<;>rfl
  ·exact cB u m
 ·simp at m;rcases m with rfl | rfl<;>rfl
def dG (F:Nat->Prop) (w:World):List Dx->List (List Value)->Prop
 | [],r=>r = []
 | x::l,r=>∃m A,r=m::A/\DAt F w x m/\dG F w l A
theorem mp {F:Nat->Prop} {w:World}:∀ {l:List Dx} {r:List (List Value)},dG F w l r->r.length=l.length
 | [],r,h=>by simp only [dG] at h;rw [h];rfl
 | x::l,r,h=>by
   simp only [dG] at h
   obtain⟨A,B,rfl,-,m⟩:=h
   rw [hJ,mp m];rfl
theorem AL {F:Nat->Prop} {w:World} {x:Dx} {q:List Value} (m:DAt F w x q):∀ {l:List Dx} {r:List (List Value)},dG F w l r->dG F w (l++[x]) (r++[q])
 | [],r,h=>by simp only [dG] at h;subst h;simp only [nil_append,dG];exact⟨q,[],rfl,m,rfl⟩
 | y::l,r,h=>by
   simp only [dG] at h
   obtain⟨E,G,rfl,A,B⟩:=h
   simp only [cons_append,dG]
   exact⟨E,_,rfl,A,AL m B⟩
theorem qM {F S:Nat->Prop} {w B:World} (A:Fr2 S w B) (m:∀k,F k->¬S k):∀ {l:List Dx} {r:List (List Value)},dG F w l r->dG F B l r
 | [],r,h=>by simp only [dG] at h ⊢;exact h
 | x::l,r,h=>by
   simp only [dG] at h ⊢
   obtain⟨I,J,E,G,H⟩:=h
   exact⟨I,J,E,DAt.same A m G,qM A m H⟩
theorem lU {F F':Nat->Prop} {w:World} (m:∀k,F k->F' k):∀ {l:List Dx} {r:List (List Value)},dG F w l r->dG F' w l r
 | [],r,h=>by simp only [dG] at h ⊢;exact h
 | x::l,r,h=>by
   simp only [dG] at h ⊢
   obtain⟨G,H,A,B,E⟩:=h
   exact⟨G,H,A,DAt.mono m B,lU m E⟩
theorem ol {F:Nat->Prop} {w m:World} {l:List Dx} {r:List (List Value)} (h:dG F w l r) (A:w.grownBy m none):dG F m l r:=qM (S:=fun _=>False) (Fr2.none A) (fun _ _ h=>h) h
theorem wq {F:Nat->Prop} {w:World}:∀ {l:List Dx} {r:List (List Value)},dG F w l r->dG (fun m=>F m/\m<w.heap.size) w l r
 | [],r,h=>by simp only [dG] at h ⊢;exact h
 | x::l,r,h=>by
   simp only [dG] at h ⊢
   obtain⟨G,H,A,B,E⟩:=h
   exact⟨G,H,A,DAt.bound B,wq E⟩
theorem AG {F:Nat->Prop} {w:World}:∀ {l:List Dx} {r:List (List Value)} {j:Nat} {x:Dx},dG F w l r->l[j]? = some x->∃q,r[j]? = some q/\DAt F w x q
 | [],r,j,x,h,hj=>by simp at hj
 | y::l,r,j,x,h,hj=>by
   simp only [dG] at h
   obtain⟨q,G,rfl,m,A⟩:=h
   match j,hj with
   | 0,hj=>simp at hj;subst hj;exact⟨q,rfl,m⟩
   | j+1,hj=>
     obtain⟨q2,B,E⟩:=AG A (show l[j]? = some x by simpa using hj)
     exact⟨q2,by simpa using B,E⟩
theorem FY {F:Nat->Prop} {w:World}:∀ {l:List Fx} {r:List (List Value)} {j:Nat} {x:Fx},eZ F w l r->l[j]? = some x->∃q,r[j]? = some q/\PAt F w x q
 | [],r,j,x,h,hj=>by simp at hj
 | y::l,r,j,x,h,hj=>by
   simp only [eZ] at h
   obtain⟨q,G,rfl,m,A⟩:=h
   match j,hj with
   | 0,hj=>simp at hj;subst hj;exact⟨q,rfl,m⟩
   | j+1,hj=>
     obtain⟨q2,B,E⟩:=FY A (show l[j]? = some x by simpa using hj)
     exact⟨q2,by simpa using B,E⟩
def iK (x:List UInt8×Nat):List Value:=[aD x.1,.int .i64 (x.2:Int)]
def gq (F:Nat->Prop) (w:World) (P:Px) (q:List Value):Prop:=∃B H A G E,q = [.slice B P.imps.length H,.slice A P.defs.length G]/\GAt 2 w B (P.imps.map iK)/\GAt 15 w A E/\dG F w P.defs E/\(P.imps≠[]->∃m,B=some m/\F m.block)/\(P.defs≠[]->∃m,A=some m/\F m.block)
theorem gq.same {F S:Nat->Prop} {w H:World} {P:Px} {q:List Value} (A:Fr2 S w H) (m:∀k,F k->¬S k) (h:gq F w P q):gq F H P q:=by
 obtain⟨Z,J,Y,I,L,O,R,U,B,E,G⟩:=h
 exact⟨Z,J,Y,I,L,O,eq (length_map _) R E A m,eq (mp B) U G A m,qM A m B,E,G⟩
theorem gq.mono {F F':Nat->Prop} {w:World} {P:Px} {q:List Value} (E:∀k,F k->F' k) (h:gq F w P q):gq F' w P q:=by
 obtain⟨pi,I,pd,H,J,L,O,R,U,Y,Z⟩:=h
 exact⟨pi,I,pd,H,J,L,O,R,lU E U,fun A=>by obtain⟨m,G,B⟩:=Y A;exact⟨m,G,E _ B⟩,fun A=>by obtain⟨m,G,B⟩:=Z A;exact⟨m,G,E _ B⟩⟩
theorem gq.kept {F:Nat->Prop} {w m:World} {P:Px} {q:List Value} (h:gq F w P q) (A:w.grownBy m none):gq F m P q:=gq.same (S:=fun _=>False) (Fr2.none A) (fun _ _ h=>h) h
theorem gq.bound {F:Nat->Prop} {w:World} {P:Px} {q:List Value} (h:gq F w P q):gq (fun O=>F O/\O<w.heap.size) w P q:=by
 obtain⟨pi,U,pd,R,Y,Z,H,I,J,h5,h6⟩:=h
 refine⟨pi,U,pd,R,Y,Z,H,I,wq J,fun A=>?_,fun A=>?_⟩
 ·obtain⟨m,B,G⟩:=h5 A
  exact⟨m,B,G,GAt.blk H (fun E=>A (map_eq_nil_iff.1 E)) m B⟩
 ·obtain⟨m,B,G⟩:=h6 A
  have L:=mp J
  exact⟨m,B,G,GAt.blk I (fun E=>by rw [E] at L;exact A (fb L.symm)) m B⟩
def AZ (x:Px) (w:World) (e:Ending) (A:World):Prop:=w.grownBy A none/\∃m,e=.returned (.agg m.toArray)/\gq (fun B=>w.heap.size<=B) A x m
def Wr3 (b:Nat) (A m:Value) (k:Nat):Prop:=k=b\/A.ownBlock=some k\/m.ownBlock=some k
theorem GY {X E:Nat->Prop} {B:Nat} {w A:World} {l:List Dx} {r:List (List Value)} (G:Fr2 X w A) (H:∀k,k<w.heap.size->¬X k->¬E k) (h:dG (fun k=>B<=k/\k<w.heap.size/\¬X k) w l r):dG (fun k=>B<=k/\k<A.heap.size/\¬E k) A l r:=
 lU (fun k m=>⟨m.1,zn m.2.1 G.size,H k m.2.1 m.2.2⟩) (qM G (fun k m=>m.2.2) h)
theorem OO {wr w7 wa R:World} {B b j base I H nd G O n9 ak:Nat} {L J:Option Addr} {aq Y:List (List Value)} {q:List Value} {ks:List Dx} {x:Dx} {u:Value} (hB:B<=wr.heap.size) (hb:b<base) (au:b<wr.heap.size)
  (ap:ag 2 98 wr base (.slice L I H) aq) (ao:ag 15 62 wr base (.slice J nd G) Y)
  (kZ:dG (fun m=>B<=m/\m<wr.heap.size/\¬Wr3 b (.slice L I H) (.slice J nd G) m) wr ks Y) (dV:wr.grownBy w7 none) (hq:DAt (fun m=>wr.heap.size<=m) w7 x q) (dz:w7.grownBy wa none) (av:wa.heap.size=w7.heap.size+1)
  (Z:wa.grownBy R (Value.slice J nd G).ownBlock) (el:(Value.slice J nd G).ownBlock=some O\/O=w7.heap.size+1):
  dG (fun m=>B<=m/\m<(R.setCell ⟨b,j,none⟩ u).heap.size/\¬Wr3 b (.slice L I H) (.slice (some ⟨O,0,none⟩) n9 ak) m) (R.setCell ⟨b,j,none⟩ u) (ks++[x]) (Y++[q]):=by
 have Zj:=ag.at ap
 have YY:=ag.at ao
 have s7:=dV.size
 have s9:=Z.size
 have U:Fr2 (Wr3 b (.slice L I H) (.slice J nd G)) w7 (R.setCell ⟨b,j,none⟩ u):=
  (Fr2.none dz).trans ((Fr2.of Z (fun m A=>.inr (.inr A))).trans (Fr2.setCell (Fr2.refl _ _) (.inl rfl) u))
 have sH:∀m,m<w7.heap.size->¬Wr3 b (.slice L I H) (.slice J nd G) m->¬Wr3 b (.slice L I H) (.slice (some ⟨O,0,none⟩) n9 ak) m:=fun m E h A=>by
  rcases A with A | A | A
  ·exact h (.inl A)
  ·exact h (.inr (.inl A))
  ·have A:O=m:=Option.some.inj (show some O=some m from A)
   rcases el with h9 | h9
   ·exact h (.inr (.inr (by rw [h9,A])))
   ·omega
 have oF:∀m,wr.heap.size<=m->¬Wr3 b (.slice L I H) (.slice J nd G) m:=fun m E A=>by
  rcases A with A | A | A
  ·omega
  ·have:=Zj _ A;omega
  ·have:=YY _ A;omega
 refine AL ?_ ?_
 ·exact DAt.mono (fun m E=>⟨Nat.le_trans hB E.1,zn E.2 U.size,sH m E.2 (oF m E.1)⟩) (DAt.same U (fun m E=>oF m E.1) hq.bound)
 ·refine GY (X:=Wr3 b (.slice L I H) (.slice J nd G)) ((Fr2.none dV).trans U) (fun m E=>sH m (zn E s7)) kZ
theorem ON {wr w7 wa O:World} {B b j H E nd J G n9 ak:Nat} {I L:Option Addr} {Y:List (List Value)} {ks:List Dx} {u:Value}
  (kZ:dG (fun A=>B<=A/\A<wr.heap.size/\¬Wr3 b (.slice I H E) (.slice L nd J) A) wr ks Y) (R:wr.grownBy w7 none) (dz:w7.grownBy wa none) (ao:w7.heap.size<=wa.heap.size)
  (Z:wa.grownBy O (Value.slice I H E).ownBlock) (el:(Value.slice I H E).ownBlock=some G\/w7.heap.size<=G):
  dG (fun A=>B<=A/\A<(O.setCell ⟨b,j,none⟩ u).heap.size/\¬Wr3 b (.slice (some ⟨G,0,none⟩) n9 ak) (.slice L nd J) A) (O.setCell ⟨b,j,none⟩ u) ks Y:=by
 have s7:=R.size
 have fr:Fr2 (Wr3 b (.slice I H E) (.slice L nd J)) w7 (O.setCell ⟨b,j,none⟩ u):=
  (Fr2.none dz).trans ((Fr2.of Z (fun A m=>.inr (.inl m))).trans (Fr2.setCell (Fr2.refl _ _) (.inl rfl) u))
 refine GY (X:=Wr3 b (.slice I H E) (.slice L nd J)) ((Fr2.none R).trans fr) (fun A hk h m=>?_) kZ
 rcases m with m | m | m
 ·exact h (.inl m)
 ·have m:G=A:=Option.some.inj (show some G=some A from m)
  rcases el with U | U
  ·exact h (.inr (.inl (by rw [U,m])))
  ·omega
 ·exact h (.inr (.inr m))
theorem qK {a b:Value} {g n c H:Nat} (h:Sep a b) (G:∀k,b.ownBlock=some k->k<H) (I:a.ownBlock=some g\/g=H):Sep (.slice (some ⟨g,0,none⟩) n c) b:=fun k E m=>by
 have B:g=k:=Option.some.inj (show some g=some k from E)
 rcases I with A | A
 ·exact h k (by rw [A,B]) m
 ·have:=G k m;omega
theorem NX:(Tryz.prog.info? 62).map (fun m=>(m.zero,m.size,m.bytes))=some (some (.agg #[.bool false,.string ⟨#[]⟩,.slice none 0 0,.int .i64 0,.slice none 0 0,.int .i64 0,.string ⟨#[]⟩,.string ⟨#[]⟩,.bool false,.slice none 0 0,.bool false,.slice none 0 0,.int .i64 0,.int .i64 0,.int .i64 0]),15,208):=by kernel_rfl
theorem MW:(Tryz.prog.info? 98).map (fun m=>(m.zero,m.size,m.bytes))=some (some (.agg #[.string ⟨#[]⟩,.int .i64 0]),2,24):=by kernel_rfl
theorem zA (T:List Tok) {l:List Tr} {j:Nat} {t:Tr} (h:l[j]? = some t):(bg T (l.take (j+1))).imps=(bg T (l.take j)).imps++(if aU t=2 then [Cf T (eI t)] else [])/\(bg T (l.take (j+1))).defs=(bg T (l.take j)).defs++(if aU t=3 then [lG T (eI t)] else []):=by
 unfold bg
 rw [gR h]
 simp only [filter_append,map_append]
 refine⟨?_,?_⟩
 ·congr 1
  by_cases m:aU t=2
  ·simp [m]
  ·simp [m]
 ·congr 1
  by_cases m:aU t=3
  ·simp [m]
  ·simp [m]
theorem Dn (T:List Tok) (l:List Tr):(bg T l).imps.length<=l.length/\(bg T l).defs.length<=l.length:=by
 unfold bg
 simp only [length_map]
 exact⟨length_filter_le _ _,length_filter_le _ _⟩
def OkP (T:List Tok) (t:Tr):Prop:=(∀A,t=.nd 2 A->∃B E m,A = [.lf B,.lf E,.lf m])/\(∀A,t=.nd 3 A->ShD T (.nd 3 A))
theorem Xl {T:List Tok} {l:List Tr} (h:Lf T l):∀t∈l,OkP T t:=by
 obtain⟨is,L,A,rfl,G,H⟩:=h
 intro t B
 simp only [mem_append] at B
 rcases B with (B | B) | B
 ·have E:=G t B
  cases E with
  | mk I J m O=>exact⟨fun l A=>by injection A with _ A;exact⟨I,J,m,A.symm⟩,fun l A=>by injection A with A;omega⟩
 ·have E:=H t B
  refine⟨fun l A=>?_,fun l A=>by rw [<-A];exact E⟩
  rw [A] at E;cases E
 ·simp at B;subst B
  exact⟨fun l A=>(by cases A),fun l A=>(by cases A)⟩
end Go.Proofs.YtpkipghjohomcaaGreatDoor
