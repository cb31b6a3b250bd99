/- Lemmas. -/
import Derived.Test.YtpkipghjohomcaaGreatDoorP23
import Derived.Test.YtpkipghjohomcaaGreatDoorP6
set_option linter.unusedVariables false
set_option linter.unusedSimpArgs false
namespace Go.Proofs.YtpkipghjohomcaaGreatDoor
open Go.RowKit
def toI (t:Tok):fN:=⟨(t.kind:Int),t.lead,t.text,(t.pos:Int)⟩
theorem bo (a b:ByteArray):(a++b).data.toList=a.data.toList++b.data.toList:=by rw [ByteArray.data_append,Array.toList_append]
theorem aV {a:ByteArray} {l:List UInt8} (h:a.data.toList=l):a.size=l.length:=by rw [<-aQ,h]
def mb (N:List Nd) (b:Nat) (P:List Nd):Prop:=∀(m:Nat) (A:Nd),P[m]? = some A->N[b+m]? = some A
theorem mb.left {N:List Nd} {b:Nat} {P Q:List Nd} (h:mb N b (P++Q)):mb N b P:=fun A B m=>h A B (by rw [List.getElem?_append_left (Q4.1 m).1];exact m)
theorem mb.right {N:List Nd} {b:Nat} {P Q:List Nd} (h:mb N b (P++Q)):mb N (b+P.length) Q:=fun A B m=>by
 have:=h (P.length+A) B (by rw [List.getElem?_append_right (by omega),Nat.add_sub_cancel_left];exact m)
 rw [Nat.add_assoc];exact this
theorem Kd (N:List Nd):mb N 0 N:=fun A B m=>by rw [Nat.zero_add];exact m
open Go.RowKit List Nat Go.World
def ff (F:Nat->Prop) (w:World) (B:Nat) (A:List UInt8) (s:Bool) (p:Option Addr) (n c:Nat):Prop:=
 if B=1 then Zd.IsInt w (.agg #[.bool s,.slice p n c]) (Zd.parseV A)/\Zd.parseE A=0/\(0<n->∃m,p=some m/\F m.block) else s=false/\p=none/\n=0/\c=0
mutual
def EAt (F:Nat->Prop) (w:World):Ex->List Value->Prop
 | .mk op nm md nu ys ks ps,q=>∃I G E B m J H,q = [.int .i64 (op:Int),aD nm,aD md,.bool I,.slice G E B,.bool ys,.slice m ks.length J,.int .i64 (ps:Int)]/\ff F w op nu I G E B/\GAt 8 w m H/\LsE F w ks H/\(ks≠[]->∃A,m=some A/\F A.block)
def LsE (F:Nat->Prop) (w:World):List Ex->List (List Value)->Prop
 | [],r=>r = []
 | x::l,r=>∃m A,r=m::A/\EAt F w x m/\LsE F w l A
end
theorem Cl {S:Nat->Prop} {w H:World} {s:Bool} {p:Option Addr} {n c:Nat} {Z:Int} (h:Zd.IsInt w (.agg #[.bool s,.slice p n c]) Z) (E:Fr2 S w H) (Y:0<n->∀a,p=some a->¬S a.block):Zd.IsInt H (.agg #[.bool s,.slice p n c]) Z:=by
 obtain⟨s',aq,I,B,⟨p',n',c',J,rfl,L,O,R,U⟩,ap⟩:=h
 simp only [Value.agg.injEq,Array.mk.injEq,List.cons.injEq,Value.bool.injEq,Value.slice.injEq,and_true] at B
 obtain⟨rfl,rfl,rfl,rfl⟩:=B
 refine⟨s,_,I,rfl,⟨p,n,c,J,rfl,L,O,?_,U⟩,ap⟩
 rcases eq_zero_or_pos n with m | m
 ·exact .inl m
 ·obtain⟨A,ao,rfl,G,hc⟩:=Or.resolve_left R (by omega)
  exact .inr ⟨A,ao,rfl,zn G E.size,fun ak hj=>by rw [cell?_of_block (w:=w) (E.block A G (Y m _ rfl))];exact hc ak hj⟩
theorem ff.same {F S:Nat->Prop} {w G:World} {E:Nat} {B:List UInt8} {s:Bool} {p:Option Addr} {n c:Nat} (h:ff F w E B s p n c) (O:Fr2 S w G) (J:∀k,F k->¬S k):ff F G E B s p n c:=by
 unfold ff at h ⊢
 split
 ·rename_i A
  rw [if_pos A] at h
  exact⟨Cl h.1 O (fun H R L=>by obtain⟨U,m,I⟩:=h.2.2 H;rw [L] at m;injection m with m;subst m;exact J _ I),h.2⟩
 ·rename_i A
  rw [if_neg A] at h;exact h
theorem ff.mono {F F':Nat->Prop} {w:World} {B:Nat} {A:List UInt8} {s:Bool} {p:Option Addr} {n c:Nat} (h:ff F w B A s p n c) (I:∀k,F k->F' k):ff F' w B A s p n c:=by
 unfold ff at h ⊢
 split
 ·rename_i m
  rw [if_pos m] at h
  exact⟨h.1,h.2.1,fun G=>by obtain⟨E,J,H⟩:=h.2.2 G;exact⟨E,J,I _ H⟩⟩
 ·rename_i m
  rw [if_neg m] at h;exact h
theorem jk {F:Nat->Prop} {w:World}:∀ {l:List Ex} {r:List (List Value)},LsE F w l r->r.length=l.length
 | [],r,h=>by simp only [LsE] at h;rw [h];rfl
 | x::l,r,h=>by
   simp only [LsE] at h
   obtain⟨A,B,rfl,-,m⟩:=h
   rw [hJ,jk m];rfl
theorem wT {F:Nat->Prop} {w:World}:∀ {l:List Ex} {r:List (List Value)} {j:Nat} {x:Ex},LsE F w l r->l[j]? = some x->∃q,r[j]? = some q/\EAt F w x q
 | [],r,j,x,h,hx=>by simp at hx
 | y::l,r,j,x,h,hx=>by
   simp only [LsE] at h
   obtain⟨q,H,rfl,m,A⟩:=h
   match j,hx with
   | 0,hx=>simp at hx;subst hx;exact⟨q,rfl,m⟩
   | j+1,hx=>
     obtain⟨G,B,E⟩:=wT A (j:=j) (by simpa using hx)
     exact⟨G,by simpa using B,E⟩
theorem Gq {F:Nat->Prop} {w:World} {x:Ex} {q:List Value} (m:EAt F w x q):∀ {l:List Ex} {r:List (List Value)},LsE F w l r->LsE F w (l++[x]) (r++[q])
 | [],r,h=>by simp only [LsE] at h;subst h;simp only [nil_append,LsE];exact⟨q,[],rfl,m,rfl⟩
 | y::l,r,h=>by
   simp only [LsE] at h
   obtain⟨E,G,rfl,A,B⟩:=h
   simp only [cons_append,LsE]
   exact⟨E,_,rfl,A,Gq m B⟩
theorem nP {S F:Nat->Prop} {w B:World} {p:Option Addr} {A:List (List Value)} {n:Nat} (R:A.length=n) (h:GAt 8 w p A) (H:0<n->∃a,p=some a/\F a.block) (L:Fr2 S w B) (I:∀k,F k->¬S k):GAt 8 B p A:=
 h.keptS L (fun E a J=>by
  obtain⟨O,m,G⟩:=H (by have:=length_pos_iff.2 E;omega)
  rw [J] at m;injection m with m;subst m;exact I _ G)
mutual
theorem EAt.same {F S:Nat->Prop} {w G:World} (A:Fr2 S w G) (m:∀k,F k->¬S k):∀ {x:Ex} {q:List Value},EAt F w x q->EAt F G x q
 | .mk op nm md nu ys ks ps,q,h=>by
   simp only [EAt] at h ⊢
   obtain⟨ao,Z,U,I,Y,H,ak,L,O,R,B,E⟩:=h
   exact⟨ao,Z,U,I,Y,H,ak,L,O.same A m,nP (jk B) R (fun J=>E (length_pos_iff.1 J)) A m,LsE.same A m B,E⟩
theorem LsE.same {F S:Nat->Prop} {w B:World} (A:Fr2 S w B) (m:∀k,F k->¬S k):∀ {l:List Ex} {r:List (List Value)},LsE F w l r->LsE F B l r
 | [],r,h=>by simp only [LsE] at h ⊢;exact h
 | x::l,r,h=>by
   simp only [LsE] at h ⊢
   obtain⟨I,J,E,G,H⟩:=h
   exact⟨I,J,E,EAt.same A m G,LsE.same A m H⟩
end
mutual
theorem EAt.mono {F F':Nat->Prop} {w:World} (m:∀k,F k->F' k):∀ {x:Ex} {q:List Value},EAt F w x q->EAt F' w x q
 | .mk op nm md nu ys ks ps,q,h=>by
   simp only [EAt] at h ⊢
   obtain⟨ao,pw,Y,E,Z,B,ak,H,I,J,L,O⟩:=h
   exact⟨ao,pw,Y,E,Z,B,ak,H,I.mono m,J,LsE.mono m L,fun G=>by obtain⟨A,U,R⟩:=O G;exact⟨A,U,m _ R⟩⟩
theorem LsE.mono {F F':Nat->Prop} {w:World} (m:∀k,F k->F' k):∀ {l:List Ex} {r:List (List Value)},LsE F w l r->LsE F' w l r
 | [],r,h=>by simp only [LsE] at h ⊢;exact h
 | x::l,r,h=>by
   simp only [LsE] at h ⊢
   obtain⟨G,H,A,B,E⟩:=h
   exact⟨G,H,A,EAt.mono m B,LsE.mono m E⟩
end
theorem EAt.kept {F:Nat->Prop} {w m:World} {x:Ex} {q:List Value} (h:EAt F w x q) (A:w.grownBy m none):EAt F m x q:=EAt.same (S:=fun _=>False) (Fr2.none A) (fun _ _ h=>h) h
theorem LsE.kept {F:Nat->Prop} {w m:World} {l:List Ex} {r:List (List Value)} (h:LsE F w l r) (A:w.grownBy m none):LsE F m l r:=LsE.same (S:=fun _=>False) (Fr2.none A) (fun _ _ h=>h) h
def Mb (x:Ex) (w:World) (e:Ending) (A:World):Prop:=w.grownBy A none/\∃m,e=.returned (.agg m.toArray)/\EAt (fun B=>w.heap.size<=B) A x m
theorem GG {b:UInt8} (h:fy b=true):48<=b.toNat/\b.toNat<=57:=by
 unfold fy at h
 rw [Bool.and_eq_true] at h
 exact⟨UInt8.le_iff_toNat_le.1 (of_decide_eq_true h.1),UInt8.le_iff_toNat_le.1 (of_decide_eq_true h.2)⟩
theorem yV {t:List UInt8} (h:Ds t):Zd.parseE t=0/\Zd.txtL (Zd.parseV t)=t:=by
 obtain⟨A,U,E,R⟩:=h
 have H:Zd.minus t=false/\Zd.digs t=t:=Zd.mdne A (by have:=GG (E _ (getElem_mem A));omega)
 have O:Zd.plain t=true:=by
  unfold Zd.plain
  rw [Bool.and_eq_true,all_eq_true]
  refine⟨fun I L=>zd (GG (E I L)),?_⟩
  rw [Bool.or_eq_true,Bool.and_eq_true]
  by_cases J:1<t.length
  ·exact .inr ⟨zd (length_pos_iff.1 A),zd (R J)⟩
  ·obtain⟨m,rfl⟩:∃m,t = [m]:=length_eq_one_iff.1 (by omega)
   by_cases B:m=48
   ·subst B;exact .inl rfl
   ·exact .inr ⟨rfl,zd (by simpa using B)⟩
 have G:Zd.parseE t=0:=by
  unfold Zd.parseE
  rw [H.1,H.2,if_neg (by omega),if_neg (by rw [O];simp)]
 exact⟨G,Zd.txtL_parse G⟩
def ug (N:List Nd) (k:Int) (t:Tr):Prop:=∃m:Nat,k=((m+szR t - 1:Nat):Int)/\mb N m (post m t)
def KT (N:List Nd) (n:Nat) (ks:List Int) (l:List Tr):Prop:=ks.length=l.length/\∀(A:Nat) (B:Tr),l[A]? = some B->∃m:Nat,ks[A]? = some (m:Int)/\ug N m B/\m<n
theorem ug.lf {N:List Nd} {k:Int} {i:Nat} (h:ug N k (.lf i)):∃n:Nat,k=(n:Int)/\N[n]? = some ⟨19,(i:Int),[]⟩:=by
 obtain⟨m,rfl,h⟩:=h
 have:=h 0 ⟨19,(i:Int),[]⟩ (by simp [post])
 exact⟨m,by simp only [szR];omega,by simpa using this⟩
theorem Cb {N:List Nd}:∀(l:List Tr) (b n:Nat),b+bK l<=n->mb N b (eR b l)->KT N n (jB b l) l
 | [],b,n,_,_=>⟨by simp [jB],fun A B J=>by simp at J⟩
 | B::l,b,n,hn,h=>by
   simp only [eR] at h
   simp only [bK] at hn
   have E:=h.right
   rw [kh] at E
   have G:=Cb l (b+szR B) n (by omega) E
   have R:=iR B
   refine⟨by simp only [jB,hJ];rw [G.1],fun A O m=>?_⟩
   match A,m with
   | 0,m=>
     simp at m;subst m
     exact⟨b+szR B - 1,by simp [jB],⟨b,rfl,h.left⟩,by omega⟩
   | A+1,m=>
     obtain⟨L,H,I⟩:=G.2 A O (by simpa using m)
     exact⟨L,by simpa [jB] using H,I⟩
theorem ug.nd {N:List Nd} {k:Int} {m:Nat} {l:List Tr} (h:ug N k (.nd m l)):∃(n:Nat) (ks:List Int),k=(n:Int)/\N[n]? = some ⟨(m:Int),-1,ks⟩/\KT N n ks l:=by
 obtain⟨A,rfl,h⟩:=h
 simp only [post] at h
 have B:=h.right 0 ⟨(m:Int),-1,jB A l⟩ (by simp)
 rw [ia] at B
 refine⟨A+bK l,jB A l,by simp only [szR];omega,by simpa using B,Cb l A _ (Nat.le_refl _) h.left⟩
theorem ug.root (t:Tr):ug (post 0 t) ((szR t - 1:Nat):Int) t:=⟨0,by rw [Nat.zero_add],Kd _⟩
set_option maxHeartbeats 8000000
set_option maxRecDepth 100000
open Go.RowKit List Go.World
theorem LE {W:World} {B:Nat} {T:TypeId} {O E A m:Value} (G:W.heap[B]? = some (.cells #[O,E,A,m] T (0,0))) (a b c d:Value):((((W.setCell ⟨B,0,none⟩ a).setCell ⟨B,1,none⟩ b).setCell ⟨B,2,none⟩ c).setCell ⟨B,3,none⟩ d).heap[B]? = some (.cells #[a,b,c,d] T (0,0))/\Fr2 (dm B) W ((((W.setCell ⟨B,0,none⟩ a).setCell ⟨B,1,none⟩ b).setCell ⟨B,2,none⟩ c).setCell ⟨B,3,none⟩ d):=by
 have H:(W.setCell ⟨B,0,none⟩ a).heap[B]? = some (.cells #[a,E,A,m] T (0,0)):=ab (i:=0) (u:=a) G
 have I:((W.setCell ⟨B,0,none⟩ a).setCell ⟨B,1,none⟩ b).heap[B]? = some (.cells #[a,b,A,m] T (0,0)):=ab (i:=1) (u:=b) H
 have J:(((W.setCell ⟨B,0,none⟩ a).setCell ⟨B,1,none⟩ b).setCell ⟨B,2,none⟩ c).heap[B]? = some (.cells #[a,b,c,m] T (0,0)):=ab (i:=2) (u:=c) I
 have L:((((W.setCell ⟨B,0,none⟩ a).setCell ⟨B,1,none⟩ b).setCell ⟨B,2,none⟩ c).setCell ⟨B,3,none⟩ d).heap[B]? = some (.cells #[a,b,c,d] T (0,0)):=ab (i:=3) (u:=d) J
 exact⟨L,(Fr2.setCell (Fr2.setCell (Fr2.setCell (Fr2.setCell (Fr2.refl (dm B) W) (g:=B) (j:=0) (aK B) a) (g:=B) (j:=1) (aK B) b) (g:=B) (j:=2) (aK B) c) (g:=B) (j:=3) (aK B) d)⟩
theorem mY {W:World} {B:Nat} {T:TypeId} {x0 J I H G E A m:Value} (L:W.heap[B]? = some (.cells #[x0,J,I,H,G,E,A,m] T (0,0))) (a b c d e f g h:Value):((((((((W.setCell ⟨B,0,none⟩ a).setCell ⟨B,1,none⟩ b).setCell ⟨B,2,none⟩ c).setCell ⟨B,3,none⟩ d).setCell ⟨B,4,none⟩ e).setCell ⟨B,5,none⟩ f).setCell ⟨B,6,none⟩ g).setCell ⟨B,7,none⟩ h).heap[B]? = some (.cells #[a,b,c,d,e,f,g,h] T (0,0))/\Fr2 (dm B) W ((((((((W.setCell ⟨B,0,none⟩ a).setCell ⟨B,1,none⟩ b).setCell ⟨B,2,none⟩ c).setCell ⟨B,3,none⟩ d).setCell ⟨B,4,none⟩ e).setCell ⟨B,5,none⟩ f).setCell ⟨B,6,none⟩ g).setCell ⟨B,7,none⟩ h):=by
 have O:(W.setCell ⟨B,0,none⟩ a).heap[B]? = some (.cells #[a,J,I,H,G,E,A,m] T (0,0)):=ab (i:=0) (u:=a) L
 have R:((W.setCell ⟨B,0,none⟩ a).setCell ⟨B,1,none⟩ b).heap[B]? = some (.cells #[a,b,I,H,G,E,A,m] T (0,0)):=ab (i:=1) (u:=b) O
 have U:(((W.setCell ⟨B,0,none⟩ a).setCell ⟨B,1,none⟩ b).setCell ⟨B,2,none⟩ c).heap[B]? = some (.cells #[a,b,c,H,G,E,A,m] T (0,0)):=ab (i:=2) (u:=c) R
 have Y:((((W.setCell ⟨B,0,none⟩ a).setCell ⟨B,1,none⟩ b).setCell ⟨B,2,none⟩ c).setCell ⟨B,3,none⟩ d).heap[B]? = some (.cells #[a,b,c,d,G,E,A,m] T (0,0)):=ab (i:=3) (u:=d) U
 have Z:(((((W.setCell ⟨B,0,none⟩ a).setCell ⟨B,1,none⟩ b).setCell ⟨B,2,none⟩ c).setCell ⟨B,3,none⟩ d).setCell ⟨B,4,none⟩ e).heap[B]? = some (.cells #[a,b,c,d,e,E,A,m] T (0,0)):=ab (i:=4) (u:=e) Y
 have h6:((((((W.setCell ⟨B,0,none⟩ a).setCell ⟨B,1,none⟩ b).setCell ⟨B,2,none⟩ c).setCell ⟨B,3,none⟩ d).setCell ⟨B,4,none⟩ e).setCell ⟨B,5,none⟩ f).heap[B]? = some (.cells #[a,b,c,d,e,f,A,m] T (0,0)):=ab (i:=5) (u:=f) Z
 have h7:(((((((W.setCell ⟨B,0,none⟩ a).setCell ⟨B,1,none⟩ b).setCell ⟨B,2,none⟩ c).setCell ⟨B,3,none⟩ d).setCell ⟨B,4,none⟩ e).setCell ⟨B,5,none⟩ f).setCell ⟨B,6,none⟩ g).heap[B]? = some (.cells #[a,b,c,d,e,f,g,m] T (0,0)):=ab (i:=6) (u:=g) h6
 have h8:((((((((W.setCell ⟨B,0,none⟩ a).setCell ⟨B,1,none⟩ b).setCell ⟨B,2,none⟩ c).setCell ⟨B,3,none⟩ d).setCell ⟨B,4,none⟩ e).setCell ⟨B,5,none⟩ f).setCell ⟨B,6,none⟩ g).setCell ⟨B,7,none⟩ h).heap[B]? = some (.cells #[a,b,c,d,e,f,g,h] T (0,0)):=ab (i:=7) (u:=h) h7
 exact⟨h8,(Fr2.setCell (Fr2.setCell (Fr2.setCell (Fr2.setCell (Fr2.setCell (Fr2.setCell (Fr2.setCell (Fr2.setCell (Fr2.refl (dm B) W) (g:=B) (j:=0) (aK B) a) (g:=B) (j:=1) (aK B) b) (g:=B) (j:=2) (aK B) c) (g:=B) (j:=3) (aK B) d) (g:=B) (j:=4) (aK B) e) (g:=B) (j:=5) (aK B) f) (g:=B) (j:=6) (aK B) g) (g:=B) (j:=7) (aK B) h)⟩
theorem bJ {w:World} {r:Nat} {a b c d e f g h:Value} {T:TypeId} (m:w.heap[r]? = some (.cells #[a,b,c,d,e,f,g,h] T (0,0))):w.cell? ⟨r,0,none⟩=some a/\w.cell? ⟨r,1,none⟩=some b/\w.cell? ⟨r,2,none⟩=some c/\w.cell? ⟨r,3,none⟩=some d/\w.cell? ⟨r,4,none⟩=some e/\w.cell? ⟨r,5,none⟩=some f/\w.cell? ⟨r,6,none⟩=some g/\w.cell? ⟨r,7,none⟩=some h/\∀o,w.frozen? ⟨r,o,none⟩=false:=
 ⟨by rw [hZ w r 0 _ T (0,0) m];rfl,by rw [hZ w r 1 _ T (0,0) m];rfl,by rw [hZ w r 2 _ T (0,0) m];rfl,by rw [hZ w r 3 _ T (0,0) m];rfl,by rw [hZ w r 4 _ T (0,0) m];rfl,by rw [hZ w r 5 _ T (0,0) m];rfl,by rw [hZ w r 6 _ T (0,0) m];rfl,by rw [hZ w r 7 _ T (0,0) m];rfl,fun o=>by simp [World.frozen?,m]⟩
theorem vK {N:List Nd} {K:Kf} (G:N.length<=150000) {n:Nat} {x:Nd} (A:N[n]? = some x) (pt pn:Option Addr) (H ct cn:Nat) (w:World) (h:al w pn N K):
  Calls Tryz.prog 54 #[.agg #[.slice pt H ct,.slice pn N.length cn],.int .i64 (n:Int)] w (bp (.int .i64 x.kind) w):=by
 obtain⟨U,Y,rfl,J,L,O,R⟩:=bZ h A
 have E:=(Q4.1 A).1
 obtain⟨m,B⟩:=zx N.length
 rw [B] at G E ⊢
 have Z:(0:Int)<=(n:Int):=by omega
 have I:(n:Int)<(m:Int):=by omega
 have x3:decide (n<m)=true:=zd E
 have x4:decide ((n:Int)<(m:Int))=true:=zd I
 clear h A B
 go_enter Tryz.func54,Tryz.ntmps54
 go_wp2_with fail
 go_ret
 exact⟨rfl,qn w _ none⟩
theorem sJ {N:List Nd} {K:Kf} (G:N.length<=150000) {n:Nat} {x:Nd} (A:N[n]? = some x) (pt pn:Option Addr) (H ct cn:Nat) (w:World) (h:al w pn N K):
  Calls Tryz.prog 37 #[.agg #[.slice pt H ct,.slice pn N.length cn],.int .i64 (n:Int)] w (bp (.slice (K n).1 x.kids.length (K n).2) w):=by
 obtain⟨Y,Z,rfl,J,L,O,R⟩:=bZ h A
 have E:=(Q4.1 A).1
 obtain⟨m,B⟩:=zx N.length
 rw [B] at G E ⊢
 have x1:(0:Int)<=(n:Int):=by omega
 have I:(n:Int)<(m:Int):=by omega
 have x3:decide (n<m)=true:=zd E
 have x4:decide ((n:Int)<(m:Int))=true:=zd I
 generalize (K n).1=pk at *
 generalize (K n).2=U at *
 clear h A B
 go_enter Tryz.func37,Tryz.ntmps37
 go_wp2_with fail
 go_ret
 exact⟨rfl,qn w _ none⟩
theorem cF {w:World} {p:Option Addr} {T:List Tok} (h:TAt w p T) {i:Nat} (A:i<T.length):∃g m,p=some ⟨g,m,none⟩/\g<w.heap.size/\w.cell? ⟨g,m+i*4,none⟩=some (.int .i64 ((tkT T i).kind:Int))/\w.cell? ⟨g,m+i*4+1,none⟩=some (aD (tkT T i).lead)/\w.cell? ⟨g,m+i*4+2,none⟩=some (aD (tkT T i).text)/\w.cell? ⟨g,m+i*4+3,none⟩=some (.int .i64 ((tkT T i).pos:Int)):=by
 have H:T[i]? = some (tkT T i):=by unfold tkT;rw [QS A];rfl
 obtain⟨g,m,rfl,G,E⟩:=h.resolve_left (fun B=>by rw [B] at A;simp at A)
 exact⟨g,m,rfl,G,E i _ H⟩
def wJ (t:Tok):Value:=.agg #[.int .i64 (t.kind:Int),aD t.lead,aD t.text,.int .i64 (t.pos:Int)]
theorem Bs {T:List Tok} {N:List Nd} {K:Kf} (hT:T.length<=150000) (hN:N.length<=150000) {n i:Nat} (hx:N[n]? = some ⟨19,(i:Int),[]⟩) (hi:i<T.length) (pt pn:Option Addr) (ct cn:Nat) (w:World) (ht:TAt w pt T) (h:al w pn N K):
  Calls Tryz.prog 90 #[.agg #[.slice pt T.length ct,.slice pn N.length cn],.int .i64 (n:Int)] w (bp (wJ (tkT T i)) w):=by
 obtain⟨I,L,rfl,bN,c0,Y,c2⟩:=bZ h hx
 obtain⟨J,H,rfl,av,t0,O,R,t3⟩:=cF ht hi
 have hn:=(Q4.1 hx).1
 obtain⟨A,hM⟩:=zx N.length
 obtain⟨m,hm⟩:=zx T.length
 rw [hM] at hN hn ⊢
 rw [hm] at hT hi ⊢
 have x1:(0:Int)<=(n:Int):=by omega
 have x2:(n:Int)<(A:Int):=by omega
 have x3:decide (n<A)=true:=zd hn
 have x4:decide ((n:Int)<(A:Int))=true:=zd x2
 have y1:(0:Int)<=(i:Int):=by omega
 have y2:(i:Int)<(m:Int):=by omega
 have y3:decide (i<m)=true:=zd hi
 have y4:decide ((i:Int)<(m:Int))=true:=zd y2
 unfold wJ
 unfold aD at O R ⊢
 generalize (⟨(tkT T i).lead.toArray⟩:ByteArray)=le at *
 generalize (⟨(tkT T i).text.toArray⟩:ByteArray)=te at *
 generalize (tkT T i).kind=ak at *
 generalize (tkT T i).pos=ao at *
 clear h hx hM ht hm c0 c2
 go_enter Tryz.func90,Tryz.ntmps90
 go_wp2_with fail
 have Z:=YK w (.cells #[.slice (some ⟨J,H,none⟩) m ct,.slice (some ⟨I,L,none⟩) A cn] 82)
 have kt:=qn w (.cells #[.slice (some ⟨J,H,none⟩) m ct,.slice (some ⟨I,L,none⟩) A cn] 82) none
 have rW:(w.alloc (.cells #[.slice (some ⟨J,H,none⟩) m ct,.slice (some ⟨I,L,none⟩) A cn] 82)).heap.size=w.heap.size+1:=by simp
 generalize (w.alloc (.cells #[.slice (some ⟨J,H,none⟩) m ct,.slice (some ⟨I,L,none⟩) A cn] 82))=U at *
 have E:=YK U (.cells #[.int .i64 0,.string ⟨#[]⟩,.string ⟨#[]⟩,.int .i64 0] 91)
 have mD:=qn U (.cells #[.int .i64 0,.string ⟨#[]⟩,.string ⟨#[]⟩,.int .i64 0] 91) none
 rw [rW] at E
 generalize (U.alloc (.cells #[.int .i64 0,.string ⟨#[]⟩,.string ⟨#[]⟩,.int .i64 0] 91))=W at *
 obtain⟨ap,hb⟩:=zx w.heap.size
 have ik:=zh hb
 rw [hb] at Z E ⊢
 obtain⟨B,eg⟩:=zx (ap+1)
 rw [eg] at E ⊢
 have hlt:ap<B:=by omega
 have YE:=bx mD Z
 obtain⟨a0,a1,a2⟩:=ac YE
 have G:=zh (aa kt mD)
 have Y:=G.cell Y (by simp)
 have t0:=G.cell t0 (by simp)
 have O:=G.cell O (by simp)
 have R:=G.cell R (by simp)
 have t3:=G.cell t3 (by simp)
 have HB:=zh E
 obtain⟨r0,r1,r2,r3,r4⟩:=iT E
 clear Z YE E kt mD rW hb eg
 go_region
 all_goals
  obtain⟨rX,aq⟩:=LE HB (.int .i64 (ak:Int)) (.string le) (.string te) (.int .i64 (ao:Int))
  have Eo:=zh aq
  obtain⟨k0,k1,k2,k3,-⟩:=iT rX
  clear a0 a1 a2 r0 r1 r2 r3 r4 Y t0 O R t3 HB rX aq
  generalize ((((W.setCell ⟨B,0,none⟩ (.int .i64 (ak:Int))).setCell ⟨B,1,none⟩ (.string le)).setCell ⟨B,2,none⟩ (.string te)).setCell ⟨B,3,none⟩ (.int .i64 (ao:Int)))=W5 at *
  go_wp2_with fail
  refine bodyPost_ret (v:=.agg #[.int .i64 (ak:Int),.string le,.string te,.int .i64 (ao:Int)]) (by simp [results,Tryz.results90,go_sem,k0,k1,k2,k3]) rfl ⟨rfl,Fr2.after G (CP Eo) (fun au hj=>by have ax:au=B:=hj;rw [ik.out];omega)⟩
theorem Rt (x:ByteArray) (w:World):Calls Tryz.prog 97 #[.string x] w (bp (.int .i64 (unE x.data.toList:Nat)) w):=by
 have A:x.toList=x.data.toList:=ByteArray.toList_eq x
 by_cases h:x.data.toList = [45]
 ·have m:unE x.data.toList=5:=by unfold unE;rw [if_pos h]
  have B:(x.toList == [45])=true:=by rw [A];simpa using h
  rw [m]
  clear A h m
  go_enter Tryz.func97,Tryz.ntmps97
  go_wp2_with fail
  go_ret
  exact⟨rfl,ad _ _⟩
 ·have m:unE x.data.toList=6:=by unfold unE;rw [if_neg h]
  have B:(x.toList == [45])=false:=by rw [A];simpa using h
  rw [m]
  clear A h m
  go_enter Tryz.func97,Tryz.ntmps97
  go_wp2_with fail
  go_ret
  exact⟨rfl,ad _ _⟩
theorem Oi (T:List Tok) (p:Option Addr) (c:Nat) (w:World) (O:T.length<=150000) (L:1<T.length) (G:(tkT T 1).text = [46]->2<T.length) (H:TAt w p T):
  Calls Tryz.prog 98 #[.slice p T.length c] w (fun Y w'=>Y=.returned (.tuple #[aD (if (tkT T 1).text = [46] then (tkT T 0).text else []),aD (if (tkT T 1).text = [46] then (tkT T 2).text else (tkT T 0).text)])/\w.grownBy w' none):=by
 obtain⟨ao,ap,rfl,bN,-,-,t2,-⟩:=cF H (i:=0) (by omega)
 obtain⟨g1,dR,E,-,-,-,u2,-⟩:=cF H (i:=1) L
 injection E with E;injection E with E U;subst E U
 have J:(⟨(tkT T 1).text.toArray⟩:ByteArray).toList=(tkT T 1).text:=by rw [ByteArray.toList_eq]
 unfold aD at t2 u2 ⊢
 obtain⟨m,B⟩:=zx T.length
 have y0:=zE ((0:Int)<(m:Int))
 have y1:=zE ((1:Int)<(m:Int))
 have z0:=zE (0<m)
 have z1:=zE (1<m)
 by_cases A:(tkT T 1).text = [46]
 ·obtain⟨g3,ak,I,-,-,-,v2,-⟩:=cF H (i:=2) (G A)
  injection I with I;injection I with I R;subst I R
  unfold aD at v2
  have G:=G A
  have y2:=zE ((2:Int)<(m:Int))
  have z2:=zE (2<m)
  have Z:((⟨(tkT T 1).text.toArray⟩:ByteArray).toList == [46])=true:=by rw [J];simpa using A
  rw [if_pos A,if_pos A,B]
  generalize (⟨(tkT T 1).text.toArray⟩:ByteArray)=x1 at *
  generalize (⟨(tkT T 0).text.toArray⟩:ByteArray)=x0 at *
  generalize (⟨(tkT T 2).text.toArray⟩:ByteArray)=x2 at *
  rw [B] at O L G
  clear J H A B
  go_enter Tryz.func98,Tryz.ntmps98
  go_wp2_with fail
  go_quiet (fail)
  go_wp2_with fail
  go_ret2
  exact⟨rfl,am (ad _ _) _⟩
 ·have Z:((⟨(tkT T 1).text.toArray⟩:ByteArray).toList == [46])=false:=by rw [J];simpa using A
  rw [if_neg A,if_neg A,B]
  generalize (⟨(tkT T 1).text.toArray⟩:ByteArray)=x1 at *
  generalize (⟨(tkT T 0).text.toArray⟩:ByteArray)=x0 at *
  rw [B] at O L
  clear J H A B G
  go_enter Tryz.func98,Tryz.ntmps98
  go_wp2_with fail
  go_quiet (fail)
  go_wp2_with fail
  go_ret2
  exact⟨rfl,am (ad _ _) _⟩
theorem kO:∀a b:List Tr,ba (a++b)=ba a++ba b
 | [],b=>rfl
 | .lf i::a,b=>by simp [ba,kO a b]
 | .nd k l::a,b=>by simp [ba,kO a b]
theorem qO:∀l:List Tr,(ba l).length<=l.length
 | []=>Nat.le_refl _
 | .lf i::a=>by have:=qO a;simp only [ba,hJ];omega
 | .nd k l::a=>by have:=qO a;simp only [ba,hJ];omega
theorem gR {α : Type} {l:List α} {j:Nat} {t : α} (h:l[j]? = some t):l.take (j+1)=l.take j++[t]:=by
 rw [take_add_one,h];rfl
theorem Sq {l:List Tr} {j i:Nat} (h:l[j]? = some (.lf i)):ba (l.take (j+1))=ba (l.take j)++[i]:=by
 rw [gR h,kO];rfl
theorem QD {l:List Tr} {j k:Nat} {m:List Tr} (h:l[j]? = some (.nd k m)):ba (l.take (j+1))=ba (l.take j):=by
 rw [gR h,kO];simp [ba]
theorem qi:∀ {l:List Tr} {j i:Nat},l[j]? = some (.lf i)->i∈cg l
 | [],j,i,h=>by simp at h
 | t::l,j,i,h=>by
   simp only [cg,mem_append]
   match j,h with
   | 0,h=>simp at h;subst h;left;simp [lvT]
   | j+1,h=>right;exact qi (by simpa using h)
theorem da:∀ {l:List Tr} {j:Nat} {t:Tr},fj l->l[j]? = some t->kOk t
 | [],j,t,_,h=>by simp at h
 | u::l,j,t,hk,h=>by
   simp only [fj] at hk
   match j,h with
   | 0,h=>simp at h;subst h;exact hk.1
   | j+1,h=>exact da hk.2 (by simpa using h)
def NY (T:List Tok) (l:List Tr) (w:World) (e:Ending) (A:World):Prop:=
 w.grownBy A none/\∃m B,e=.returned (.slice m (ba l).length B)/\TAt A m ((ba l).map (tkT T))
theorem sg {T:List Tok} {N:List Nd} {K:Kf} (hT:T.length<=150000) (hN:N.length<=150000) {n:Nat} {kd:Int} {tk:Int} {ks:List Int} {l:List Tr} (I:N[n]? = some ⟨kd,tk,ks⟩) (dL:KT N n ks l) (dx:fj l) (eB:∀i∈cg l,i<T.length) (xS:l.length<=150000) (pt pn:Option Addr) (ct cn:Nat) (w:World) (B:TAt w pt T) (h:al w pn N K):
  Calls Tryz.prog 55 #[.agg #[.slice pt T.length ct,.slice pn N.length cn],.int .i64 (n:Int)] w (NY T l w):=by
 have kt:=qn w (.cells #[.slice pt T.length ct,.slice pn N.length cn] 82) none
 have A:=YK w (.cells #[.slice pt T.length ct,.slice pn N.length cn] 82)
 have jm:=zh (fun (n:Nat) (aX:Nd) W (I:N[n]? = some aX) h=>vK (K:=K) hN I pt pn T.length ct cn W h)
 have bM:=zh (fun W h=>sJ (K:=K) hN I pt pn T.length ct cn W h)
 have jw:=zh (fun (n i:Nat) W (I:N[n]? = some ⟨19,(i:Int),[]⟩) (hi:i<T.length) L O=>Bs (K:=K) hT hN I hi pt pn ct cn W L O)
 have Cz:=zh (fun W (h:al W pn N K)=>(h.2 n _ I))
 have HT:=zh (B.kept kt);have Y:=zh (h.kept kt);have kA:=zh dL;have sE:=zh dx;have lY:=zh eB
 have dU:=dL.1
 obtain⟨a5,hb⟩:=zx w.heap.size
 have ik:=zh hb
 rw [hb] at A
 obtain⟨W,hW⟩:=zx (w.alloc (.cells #[.slice pt T.length ct,.slice pn N.length cn] 82))
 rw [hW] at A kt HT Y
 obtain⟨mt,wu⟩:=zx T.length
 obtain⟨mn,zo⟩:=zx N.length
 obtain⟨E,hM⟩:=zx ks.length
 have HM:=zh hM
 rw [wu] at A hW jm bM jw ⊢
 rw [zo] at A hW jm bM jw ⊢
 rw [hM] at bM dU
 have a7:E<=150000:=by omega
 have lH:=zh dU
 have HA:=zh A;have xC:=zh kt
 have nQ:=zh wu
 obtain⟨a0,a1,a2⟩:=ac A
 have YT:Hid (K n=((K n).1,(K n).2)):=zh rfl
 generalize (K n).1=pk at *
 generalize (K n).2=ck at *
 clear B h dL dx eB I A kt wu zo hM hT hN dU xS
 go_enter Tryz.func55,Tryz.ntmps55
 go_wp2_with fail
 try rw [hb]
 clear hb hW
 refine(bM _ Y).mono ?_
 rintro ao R ⟨rfl,Z⟩
 have fu:=zh Z
 have HT:=zh (HT.kept Z);have Y:=zh (Y.kept Z)
 have HA:=zh (bx Z HA)
 have A:=HA.out
 obtain⟨a0,a1,a2⟩:=ac A
 clear A Z
 go_wp2_with fail
 go_loopw [5,12] (fun ov iv wr=>∃m:Nat,m<=E/\iv=.int .i64 (m:Int)/\Hid (pH 91 wr R.heap.size ov ((ba (l.take m)).map (tkT T)))/\Hid (Below R.heap.size R wr)) (fun _ iv _=>E - (intOf iv).toNat)
 case atStart=>exact⟨0,zero_le _,rfl,zh (by simpa [ba] using pH.nil _ _ _),Below.refl _ _⟩
 case round=>
  obtain⟨m,hj,rfl,HO,U⟩:=hrel
  have bm:Hid (R.grownBy wr none):=zh (bj U)
  have aq:=zh (bx bm HA)
  have av:=aq.out
  obtain⟨a0,a1,a2⟩:=ac av
  have mv:=zh (Y.kept bm);have rV:=zh (HT.kept bm)
  clear av
  by_cases hlt:m<E
  ·obtain⟨t,B⟩:∃t,l[m]? = some t:=⟨l[m]'(by have:=lH.out;omega),QS _⟩
   obtain⟨ak,hk,H,gW⟩:=kA.2 m t B
   obtain⟨a6,a8,rfl,bN,jx⟩:=bO (Cz _ mv) hk
   have fP:=zh (qO (l.take m))
   have y1:(0:Int)<=(m:Int):=by omega
   have y2:(m:Int)<(E:Int):=by omega
   have y3:decide (m<E)=true:=zd hlt
   have y4:decide ((m:Int)<(E:Int))=true:=zd y2
   cases t with
   | lf i=>
     obtain⟨n',eC,J⟩:=H.lf
     have eC:ak=n':=by omega
     subst eC
     have Zb:=lY i (qi B)
     rw [nQ.out] at Zb
     have jM:=zh (jm ak _ wr J mv)
     have BK:=zh (fun W L O=>jw ak i W J Zb L O)
     have Ed:=zh (Sq B)
     clear B hk H gW J Zb
     go_wp2_with fail
     refine jM.mono ?_
     rintro ao w2 ⟨rfl,G⟩
     have YE:=bx G aq
     have Ly:=zh YE
     obtain⟨a0,a1,a2⟩:=ac YE
     have bF:=zh G
     have mK:=zh (rV.kept G);have mz:=zh (mv.kept G)
     clear YE G jM
     go_wp2_with fail
     refine(BK _ mK mz).mono ?_
     rintro ao w3 ⟨rfl,iU⟩
     have gA:=zh (aa bF iU)
     have aL:=zh (HO.kept gA)
     have ie:=zh (Below.trans2 U (Below.gb gA U.size))
     clear iU BK
     unfold wJ
     have GA:Hid (oK (tkT T i) = [.int .i64 ((tkT T i).kind:Int),aD (tkT T i).lead,aD (tkT T i).text,.int .i64 ((tkT T i).pos:Int)]):=zh rfl
     unfold aD at GA ⊢
     have Us:Hid (((ba (l.take m)).map (tkT T)).length<=1000000):=zh (by have L:=fP.out;have O:=length_take (i:=m) (l:=l);rw [length_map];omega)
     go_wp2_with (at_builtin;go_loud (refine nT (t:=23) Tryz.underlying23 Ln rfl (by decide) rfl _ _ rfl R.heap.size ((ba (l.take m)).map (tkT T)) (tkT T i) _ _ _ _ GA u5 rfl aL _ rfl rfl Us ie.size ?_))
     intro g' cP w4 ay ax
     have aO:Hid (pH 91 w4 R.heap.size (.slice (some ⟨g',0,none⟩) ((ba (l.take m)).length+1) cP) ((ba (l.take (m+1))).map (tkT T))):=zh (by rw [Ed.out,map_append];exact ay)
     have C6:=zh (Below.trans2 ie ax)
     clear ay ax
     go_wp2_with fail
     go_roundw
     case rel=>exact⟨m+1,by omega,by go_num,aO,C6⟩
     case measure=>simp [intOf];omega
   | nd aJ a9=>
     obtain⟨n',mE,eC,J,-⟩:=H.nd
     have eC:ak=n':=by omega
     subst eC
     have ln:=da sE B
     simp only [kOk] at ln
     have bc:=yi (aJ:Int) 19
     have a4:=yi aJ 19
     have jM:=zh (jm ak _ wr J mv)
     have Ed:=zh (QD B)
     clear B hk H gW J ln
     go_wp2_with fail
     refine jM.mono ?_
     rintro ao w2 ⟨rfl,G⟩
     have bF:=zh G
     clear G jM
     go_wp2_with fail
     go_roundw
     case rel=>exact⟨m+1,by omega,by go_num,zh (by rw [Ed.out];exact HO.kept bF),zh (Below.trans2 U (Below.gb bF U.size))⟩
     case measure=>simp [intOf];omega
  ·obtain rfl:m=E:=by omega
   have hO:=HO.out
   rw [V7 (by have:=lH.out;omega)] at hO
   obtain⟨ap,au,rfl,H,-,-,-⟩:=hO.is
   have rN:=zh H
   have ur:Hid (((ba l).map (tkT T)).length=(ba l).length):=zh (length_map _)
   rw [ur.out]
   have Z2:=zh (aa (aa xC fu) bm)
   have PX:Hid (∀w',w.grownBy w' none->TAt w' ap ((ba l).map (tkT T))->NY T l w (.returned (.slice ap (ba l).length au)) w'):=zh (fun w' L O=>⟨L,ap,au,rfl,O⟩)
   generalize (ba l).length=a3 at *
   clear H hO
   go_wp2_with fail
   go_ret
   exact PX _ Z2 rN
set_option maxHeartbeats 4000000
open Go.RowKit List Nat
def gF (w:World):Prop:=∀m A,(bf.map aD)[m]? = some A->w.cell? ⟨0,m,none⟩=some A
theorem gF.kept {w m:World} (h:gF w) (A:w.grownBy m none):gF m:=fun E G B=>A.cell (h E G B) (by simp)
theorem Vy:(Tryz.prog.info? 177).map (·.size)=some (bf.map aD).length:=by kernel_rfl
theorem Xw {L:List (List UInt8)} {k:Nat} {x:List UInt8} (m:L[k]? = some x) (A:∀j y,j<k->L[j]? = some y->y≠x):L.idxOf x=k:=by
 induction L generalizing k with
 | nil=>simp at m
 | cons B L I=>
   match k,m,A with
   | 0,m,_=>simp at m;subst m;simp
   | k+1,m,A=>
     have E:B≠x:=A 0 B (by omega) rfl
     have G:(B == x)=false:=by simpa using E
     rw [idxOf_cons,G,cond_false,I (k:=k) (by simpa using m) (fun j y J H=>A (j+1) y (by omega) (by simpa using H))]
theorem Rl {k:Nat} {x:List UInt8} (m:bf[k]? = some x) (A:∀j y,j<k->bf[j]? = some y->y≠x):kE x=7+k:=by
 unfold kE
 rw [Xw m A,if_pos (by have:=(Q4.1 m).1;exact this)]
theorem I6 {x:List UInt8} (B:∀j y,j<14->bf[j]? = some y->y≠x):kE x=0:=by
 unfold kE
 rw [if_neg]
 intro h
 have m:bf.idxOf x<bf.length:=h
 have A:=getElem_idxOf m
 exact B _ _ h (QS m) A
theorem Ob (s:ByteArray) (w:World) (h:gF w):Calls Tryz.prog 96 #[.string s] w (bp (.int .i64 (kE s.data.toList:Nat)) w):=by
 have hr:w.rangeAt 0 0 (bf.map aD):=fun A ao H=>by rw [Nat.zero_add];exact h A ao H
 have pP:=zh hr
 clear hr h
 have PR:=zh (toList_data s)
 go_enter Tryz.func96,Tryz.ntmps96
 go_wp2_with (refine wpList_load_mid rfl 177 _ rfl 0 0 rfl (bf.map aD) _ pP Tryz.underlying177 rfl Vy ?_)
 have HA:Hid (Cg (.agg (bf.map aD).toArray) bf):=zh rfl
 generalize Value.agg (bf.map aD).toArray=ap at *
 go_wp2
 go_loopw [6] (fun Z wr=>∃m:Nat,m<=14/\Z=.int .i64 m/\Hid (∀A B,A<m->bf[A]? = some B->B≠s.data.toList)/\wr=w) (fun Z _=>14 - (intOf Z).toNat)
 case atStart=>exact⟨0,zero_le _,rfl,zh (fun A B H=>by omega),rfl⟩
 case round=>
  obtain⟨m,hk,rfl,U,rfl⟩:=hrel
  by_cases hlt:m<14
  ·have d1:=zE ((m:Int)<14)
   have ml:decide (m<14)=true:=zd hlt
   obtain⟨L,I⟩:∃L,bf[m]? = some L:=⟨bf[m]'hlt,QS _⟩
   have ri:=HA.run (t:=177) (n:=14) Tryz.underlying177 rfl I
   obtain⟨B,O⟩:∃B:ByteArray,(⟨L.toArray⟩:ByteArray)=B:=⟨_,rfl⟩
   have R:B.toList=L:=by rw [toList_data,<-O]
   rw [O] at ri
   have hw:IntKind.i64.wrap (7+(m:Int))=((7+m:Nat):Int):=by rw [IntWalk.i64_in _ (by omega)];omega
   by_cases E:L=s.data.toList
   ·have d2:(s.toList == B.toList)=true:=by rw [R,PR.out,E];simp
    have G:Hid (kE s.data.toList=7+m):=zh (by rw [<-E];exact Rl I (fun A ak H J=>by rw [E];exact U A ak H J))
    clear I E R O
    go_wp2
    go_ret
    exact⟨by rw [G.out];show Ending.returned (.int .i64 (7+(m:Int)))=_;rw [show(((7+m:Nat)):Int)=7+(m:Int) by omega],ad _ _⟩
   ·have d2:(s.toList == B.toList)=false:=by rw [R,PR.out];simpa using fun Y=>E Y.symm
    have G:Hid (∀A B,A<m+1->bf[A]? = some B->B≠s.data.toList):=zh (fun A ak H J=>by
     by_cases Y:A=m
     ·subst Y;rw [I] at J;cases J;exact E
     ·exact U A ak (by omega) J)
    clear I E R O
    go_wp2
    go_roundw
    case rel=>exact⟨m+1,by omega,by go_num,G,by first | rfl | trivial⟩
    case measure=>(simp [intOf]<;>omega)
  ·obtain rfl:m=14:=by omega
   have G:Hid (kE s.data.toList=0):=zh (I6 U)
   go_wp2
   go_ret
   exact⟨by rw [G.out];rfl,ad _ _⟩
end Go.Proofs.YtpkipghjohomcaaGreatDoor
