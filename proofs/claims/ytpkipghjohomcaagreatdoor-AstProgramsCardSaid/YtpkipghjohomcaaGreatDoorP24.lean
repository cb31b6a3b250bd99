/- Lemmas. -/
import Derived.Test.YtpkipghjohomcaaGreatDoorP23
import Derived.Test.YtpkipghjohomcaaGreatDoorP6
set_option linter.unusedVariables false
set_option linter.unusedSimpArgs false
set_option maxHeartbeats 4000000
set_option maxRecDepth 100000
namespace Go.Proofs.YtpkipghjohomcaaGreatDoor
open Go.RowKit List Nat
theorem cR {w:World} {r:Nat} {a b c d e f g h i j:Value} {T:TypeId} (m:w.heap[r]? = some (.cells #[a,b,c,d,e,f,g,h,i,j] T (0,0))):w.cell? ⟨r,0,none⟩=some a/\w.cell? ⟨r,1,none⟩=some b/\w.cell? ⟨r,2,none⟩=some c/\w.cell? ⟨r,3,none⟩=some d/\w.cell? ⟨r,4,none⟩=some e/\w.cell? ⟨r,5,none⟩=some f/\w.cell? ⟨r,6,none⟩=some g/\w.cell? ⟨r,7,none⟩=some h/\w.cell? ⟨r,8,none⟩=some i/\w.cell? ⟨r,9,none⟩=some j/\∀o,w.frozen? ⟨r,o,none⟩=false:=
 ⟨by rw [hZ w r 0 _ T (0,0) m];rfl,by rw [hZ w r 1 _ T (0,0) m];rfl,by rw [hZ w r 2 _ T (0,0) m];rfl,by rw [hZ w r 3 _ T (0,0) m];rfl,by rw [hZ w r 4 _ T (0,0) m];rfl,by rw [hZ w r 5 _ T (0,0) m];rfl,by rw [hZ w r 6 _ T (0,0) m];rfl,by rw [hZ w r 7 _ T (0,0) m];rfl,by rw [hZ w r 8 _ T (0,0) m];rfl,by rw [hZ w r 9 _ T (0,0) m];rfl,fun o=>by simp [World.frozen?,m]⟩
def Tn (b bb:Nat) (vn:Value):Nat->Prop:=fun m=>m=b\/m=bb\/vn.ownBlock=some m
structure Step (b bb:Nat) (vn:Value) (w:World) (cC:Value) (w':World):Prop where
 fr:Fr2 (Tn b bb vn) w w'
 own:∀k,cC.ownBlock=some k->vn.ownBlock=some k\/w.heap.size<=k
theorem Step.refl (b bb:Nat) (vn:Value) (w:World):Step b bb vn w vn w:=⟨Fr2.refl _ _,fun _ h=>.inl h⟩
theorem Step.of {b bb:Nat} {vn:Value} {w w':World} (h:w.grownBy w' none):Step b bb vn w vn w':=⟨Fr2.none h,fun _ h=>.inl h⟩
theorem Step.trans {b bb:Nat} {J L O:Value} {R U Y:World} (m:Step b bb J R L U) (B:Step b bb L U O Y):Step b bb J R O Y:=by
 refine⟨⟨B.fr.os.trans m.fr.os,B.fr.tape.trans m.fr.tape,B.fr.output.trans m.fr.output,Nat.le_trans m.fr.size B.fr.size,fun E H I=>?_⟩,fun E H=>?_⟩
 ·rw [B.fr.block E (zn H m.fr.size) ?_,m.fr.block E H I]
  rintro(G | G | G)
  ·exact I (.inl G)
  ·exact I (.inr (.inl G))
  ·rcases m.own E G with h | h
   ·exact I (.inr (.inr h))
   ·omega
 ·rcases B.own E H with h | h
  ·exact m.own E h
  ·exact .inr (Nat.le_trans m.fr.size h)
structure XAt (w:World) (b bb:Nat) (T:List Tok) (D n:Nat) (s:St) (u:Nat) (N:List Nd) (vn:Value) (A:Nat->Prop):Prop where
 box:w.heap[b]? = some (.cells #[.pointer (some ⟨bb,0,none⟩),.int .i64 ((az T s).kind:Int),aD (az T s).lead,aD (az T s).text,.int .i64 ((az T s).pos:Int),.int .i64 (D:Int),.int .i64 (n:Int),.bool s.inn,.int .i64 (s.e:Int),.int .i64 (s.pos:Int)] 117 (0,0))
 bld:mc w bb T u N vn A
 far:∀k,A k->b<k
 new:∀k,w.heap.size<=k->A k
 lt:bb<b
 own:∀k,vn.ownBlock=some k->b<k/\k<w.heap.size
 ok:s.i<T.length
 few:N.length<=2*u
section
variable {w w':World} {b bb:Nat} {T:List Tok} {D n:Nat} {s:St} {u:Nat} {N:List Nd} {vn:Value} {A:Nat->Prop}
theorem XAt.kept (h:XAt w b bb T D n s u N vn A) (m:w.grownBy w' none):XAt w' b bb T D n s u N vn A:=
 ⟨bx m h.box,h.bld.kept m,h.far,fun B G=>h.new B (Nat.le_trans m.size G),h.lt,fun B E=>⟨(h.own B E).1,zn (h.own B E).2 m.size⟩,h.ok,h.few⟩
theorem XAt.lt' (h:XAt w b bb T D n s u N vn A):b<w.heap.size:=jJ h.box
theorem XAt.turn {H:Nat} {s':St} (h:XAt w b bb T D n s u N vn A) (G:Fr2 (dm b) w w') (J:w'.heap[b]? = some (.cells #[.pointer (some ⟨bb,0,none⟩),.int .i64 ((az T s').kind:Int),aD (az T s').lead,aD (az T s').text,.int .i64 ((az T s').pos:Int),.int .i64 (D:Int),.int .i64 (H:Int),.bool s'.inn,.int .i64 (s'.e:Int),.int .i64 (s'.pos:Int)] 117 (0,0))) (L:s'.i<T.length):XAt w' b bb T D H s' u N vn A:=
 ⟨J,h.bld.keptF G (fun m E B=>by have:=h.lt;unfold dm at B;omega) (fun m B I=>by have:=(h.own m B).1;unfold dm at I;omega) (fun m E B=>by have:=h.far m E;unfold dm at B;omega) (fun _ _ h=>h),h.far,fun m E=>h.new m (Nat.le_trans G.size E),h.lt,fun m B=>⟨(h.own m B).1,zn (h.own m B).2 G.size⟩,L,h.few⟩
theorem Step.self (h:Fr2 (dm b) w w'):Step b bb vn w vn w':=⟨⟨h.os,h.tape,h.output,h.size,fun G B E=>h.block G B (fun m=>E (.inl m))⟩,fun _ h=>.inl h⟩
end
def BD (w:World) (v:Value) (ws:List (List UInt8)):Prop:=∃m,v=.slice (some ⟨m,0,none⟩) ws.length ws.length/\∀(B:Nat) (E:List UInt8),ws[B]? = some E->w.cell? ⟨m,B,none⟩=some (aD E)
def Hk (x:List UInt8) (ws:List (List UInt8)) (w:World) (e:Ending) (w':World):Prop:=(∃m:Int,e=.returned (.int .i64 m)/\decide (0<=m)=decide (x∈ws))/\w.grownBy w' none
theorem Mi (g:Nat) (x:List UInt8) (ws:List (List UInt8)) (w:World) (hn:ws.length<=100) (h:∀(j:Nat) (x:List UInt8),ws[j]? = some x->w.cell? ⟨g,j,none⟩=some (aD x)):
  Calls Tryz.prog 136 #[.slice (some ⟨g,0,none⟩) ws.length ws.length,aD x] w (Hk x ws w):=by
 have HH:=zh h
 clear h
 obtain⟨m,U⟩:=zx ws.length
 have HM:=zh U
 unfold aD
 obtain⟨xb,J⟩:∃xb:ByteArray,(⟨x.toArray⟩:ByteArray)=xb:=⟨_,rfl⟩
 have HX:=zh J
 have HP:Hid (∀(B:Int) (w':World),decide (0<=B)=decide (x∈ws)->w.grownBy w' none->Hk x ws w (.returned (.int .i64 B)) w'):=zh (fun B w' h1 h2=>⟨⟨B,rfl,h1⟩,h2⟩)
 rw [U] at hn ⊢
 rw [J]
 clear U J
 go_enter Tryz.func136,Tryz.ntmps136
 go_wp2_with fail
 go_loopw [8] (fun Z wr=>∃B:Nat,B<=m/\Z=.int .i64 B/\wr=w/\Hid (∀j,j<B->ws[j]?≠some x)) (fun Z _=>m - (intOf Z).toNat)
 case atStart=>exact⟨0,zero_le _,rfl,rfl,zh (fun j h=>by omega)⟩
 case round=>
  obtain⟨B,hk,rfl,rfl,H⟩:=hrel
  by_cases hlt:B<m
  ·have d1:=zE ((B:Int)<(m:Int))
   have ml:decide (B<m)=true:=zd hlt
   obtain⟨E,Y⟩:∃E,ws[B]? = some E:=⟨ws[B]'(by rw [HM.out];exact hlt),QS _⟩
   have c0:=HH B E Y
   unfold aD at c0
   obtain⟨yb,L⟩:∃yb:ByteArray,(⟨E.toArray⟩:ByteArray)=yb:=⟨_,rfl⟩
   have e8:(xb.toList == yb.toList)=decide (x=E):=by
    rw [<-L,<-HX.out,toList_data,toList_data]
    by_cases I:x=E
    ·rw [I];simp
    ·simp [I]
   rw [L] at c0
   have HY:=zh Y
   clear L Y
   by_cases G:x=E
   ·rw [zd G] at e8
    have O:Hid (decide (0<=(B:Int))=decide (x∈ws)):=zh (by rw [zd (show(0:Int)<=(B:Int) by omega),zd (by rw [G];exact gn HY)])
    clear G H
    go_wp2_with fail
    go_ret
    exact HP _ _ O (ad _ _)
   ·rw [VW G] at e8
    have mz:Hid (∀j,j<B+1->ws[j]?≠some x):=zh (fun j R=>by
     rcases Nat.lt_or_ge j B with h | h
     ·exact H j h
     ·obtain rfl:j=B:=by omega
      rw [HY.out];exact fun I=>G (Option.some.inj I).symm)
    clear G H
    go_wp2_with fail
    go_roundw
    case rel=>exact⟨B+1,by omega,by go_num,by first | rfl | trivial,mz⟩
    case measure=>(simp [intOf]<;>omega)
  ·obtain rfl:B=m:=by omega
   have O:Hid (decide (0<=(-1:Int))=decide (x∈ws)):=zh (by
    rw [VW (show ¬(0:Int)<=(-1:Int) by omega),VW]
    intro hx
    obtain⟨j,R⟩:=getElem?_of_mem hx
    exact H j (by rw [<-HM.out];exact(Q4.1 R).1) R)
   clear H
   go_wp2_with fail
   go_ret
   exact HP _ _ O (ad _ _)
theorem CA (g:Nat) (x:List UInt8) (ws:List (List UInt8)) (w:World) (I:ws.length<=100) (h:∀(j:Nat) (x:List UInt8),ws[j]? = some x->w.cell? ⟨g,j,none⟩=some (aD x)):
  Calls Tryz.prog 113 #[.slice (some ⟨g,0,none⟩) ws.length ws.length,aD x] w (bp (.bool (decide (x∈ws))) w):=by
 have B:=zh (Mi g x ws w I h)
 obtain⟨m,H⟩:=zx ws.length
 obtain⟨Y,J⟩:=zx (aD x)
 rw [H,J] at B ⊢
 clear H J h I
 go_enter Tryz.func113,Tryz.ntmps113
 go_wp2_with fail
 refine B.mono ?_
 rintro R Z ⟨⟨U,rfl,G⟩,E⟩
 have L:=zh E;have O:=zh G
 clear E B G
 go_wp2_with fail
 go_ret
 exact⟨by rw [<-O.out];rfl,L⟩
def atQ (T:List Tok) (ws:List (List UInt8)) (s:St):Bool:=decide (s.e=0) && decide ((az T s).text∈ws)
section
variable (b bb:Nat) (T:List Tok) (D n:Nat)
theorem abp (s:St) (u:Nat) (N:List Nd) (vn v:Value) (A:Nat->Prop) (ws:List (List UInt8)) (w:World) (R:ws.length<=100) (h:XAt w b bb T D n s u N vn A) (hv:BD w v ws):
  Calls Tryz.prog 76 #[.pointer (some ⟨b,0,none⟩),v] w (bp (.bool (atQ T ws s)) w):=by
 obtain⟨d0,d1,d2,Z,d4,d5,d6,d7,d8,d9,j0⟩:=cR h.box
 obtain⟨ak,rfl,L⟩:=hv
 have m:=zh (CA ak (az T s).text ws w R L)
 have G:Hid (atQ T ws s=(decide (s.e=0) && decide ((az T s).text∈ws))):=zh rfl
 obtain⟨ap,H⟩:=zx ws.length
 obtain⟨aq,I⟩:=zx (aD (az T s).text)
 rw [I] at Z
 rw [H,I] at m
 rw [H]
 obtain⟨E,J⟩:=zx s.e
 rw [J] at d8 G
 clear L h R H I J
 by_cases B:E=0
 ·subst B
  go_enter Tryz.func76,Tryz.ntmps76
  go_wp2_with fail
  refine m.mono ?_
  rintro ao w1 ⟨rfl,O⟩
  have Y:=zh O
  clear O m
  go_wp2_with fail
  go_ret
  exact⟨by rw [G.out];simp,Y⟩
 ·have e2:(E == 0)=false:=xz.2 B
  have Fn:=yi (E:Int) 0
  have U:=zh B
  clear B m
  go_enter Tryz.func76,Tryz.ntmps76
  go_wp2_with fail
  go_ret
  exact⟨by rw [G.out,VW U.out];rfl,ad _ _⟩
theorem uY (s:St) (u:Nat) (N:List Nd) (vn:Value) (A:Nat->Prop) (k:Nat) (w:World) (h:XAt w b bb T D n s u N vn A):
  Calls Tryz.prog 85 #[.pointer (some ⟨b,0,none⟩),.int .i64 (k:Int)] w (bp (.bool (decide (s.e=0/\(az T s).kind=k))) w):=by
 obtain⟨R,L,U,Y,Z,d5,d6,d7,O,d9,j0⟩:=cR h.box
 obtain⟨m,J⟩:=zx (az T s).kind
 rw [J] at L ⊢
 obtain⟨E,I⟩:=zx s.e
 rw [I] at O ⊢
 clear h J I
 by_cases G:E=0
 ·subst G
  have e1:((m:Int) == (k:Int))=decide (m=k):=by
   by_cases B:m=k
   ·subst B;simp
   ·rw [VW B];exact xz.2 (by omega)
  have uw:(m == k)=decide (m=k):=by by_cases B:m=k<;>simp [B]
  have H:Hid (decide ((0:Nat)=0/\m=k)=decide (m=k)):=zh (by simp)
  rw [H.out]
  go_enter Tryz.func85,Tryz.ntmps85
  go_wp2_with fail
  go_ret
  exact⟨by first | rfl | simp,ad _ _⟩
 ·have e2:(E == 0)=false:=xz.2 G
  have Fn:=yi (E:Int) 0
  have H:Hid (decide (E=0/\m=k)=false):=zh (VW (fun B=>G B.1))
  rw [H.out]
  clear G
  go_enter Tryz.func85,Tryz.ntmps85
  go_wp2_with fail
  go_ret
  exact⟨rfl,ad _ _⟩
def abq (b bb:Nat) (T:List Tok) (D n:Nat) (s:St) (u:Nat) (N:List Nd) (vn:Value) (A:Nat->Prop) (w:World) (e:Ending) (w':World):Prop:=e=.returned (.int .i64 (-1))/\XAt w' b bb T D n s u N vn A/\Step b bb vn w vn w'
theorem kR (m:Nat) (s:St) (u:Nat) (N:List Nd) (vn:Value) (A:Nat->Prop) (w:World) (h:XAt w b bb T D n s u N vn A):
  Calls Tryz.prog 77 #[.pointer (some ⟨b,0,none⟩),.int .i64 (m:Int)] w (abq b bb T D n (aH T m s) u N vn A w):=by
 obtain⟨d0,d1,d2,d3,O,d5,d6,d7,R,d9,j0⟩:=cR h.box
 have E:=zh h
 by_cases B:s.e=0
 ·have G:Hid (aH T m s={ s with e:=m,pos:=(az T s).pos }):=zh (by unfold aH;rw [if_pos B])
  have L:=zh (fun (Z v2:Value)=>ab (i:=9) (u:=v2) (ab (i:=8) (u:=Z) h.box))
  obtain⟨U,H⟩:=zx (az T s).pos
  have Y:=zh H
  rw [H] at O
  rw [B] at R
  clear h B H
  go_enter Tryz.func77,Tryz.ntmps77
  go_wp2_with fail
  go_ret
  have I:Fr2 (dm b) w ((w.setCell ⟨b,8,none⟩ (.int .i64 (m:Int))).setCell ⟨b,9,none⟩ (.int .i64 (U:Int))):=((Fr2.refl _ _).setCell (aK b) _).setCell (aK b) _
  refine⟨rfl,?_,Step.self I⟩
  rw [G.out]
  have J:=Y.out
  subst J
  exact E.turn I ((L _ _).trans rfl) E.ok
 ·have Ah:=yi (s.e:Int) 0
  have ak:(s.e == 0)=false:=xz.2 B
  have G:Hid (aH T m s=s):=zh (ic T B)
  clear h B
  go_enter Tryz.func77,Tryz.ntmps77
  go_wp2_with fail
  go_ret
  exact⟨rfl,by rw [G.out];exact E.out,Step.refl _ _ _ _⟩
end
end Go.Proofs.YtpkipghjohomcaaGreatDoor
namespace Go.Proofs.YtpkipghjohomcaaGreatDoor
open Go.RowKit List
def ek (b bb:Nat) (T:List Tok) (D n k:Nat) (s:St) (r:RT) (N:List Nd) (vn:Value) (A:Nat->Prop) (w:World) (e:Ending) (G:World):Prop:=
 ∃(E:Int) (m:List Nd) (B:Value),e=.returned (.int .i64 E)/\XAt G b bb T D n r.2 r.2.i m B A/\Step b bb vn w B G/\aZ k N s r m [E]/\(s.e≠0->r.2.e≠0)
theorem ek.eqv {b bb:Nat} {T:List Tok} {D n k:Nat} {s:St} {r r':RT} {N:List Nd} {vn:Value} {A:Nat->Prop} {w:World} {e:Ending} {B:World} (h:ek b bb T D n k s r N vn A w e B) (m:Eqv r r'):ek b bb T D n k s r' N vn A w e B:=by
 obtain⟨R,E,G,H,I,J,L,O⟩:=h
 exact⟨R,E,G,H,m.1▸I,J,L.eqv m,fun h=>by rw [<-m.1];exact O h⟩
theorem ek.weak {b bb:Nat} {T:List Tok} {D n k j:Nat} {s:St} {r:RT} {N:List Nd} {vn:Value} {A:Nat->Prop} {w:World} {e:Ending} {m:World} (h:ek b bb T D n k s r N vn A w e m) (O:j<=k):ek b bb T D n j s r N vn A w e m:=by
 obtain⟨R,B,E,G,H,I,J,L⟩:=h
 exact⟨R,B,E,G,H,I,J.weak O,L⟩
theorem ek.after {b bb:Nat} {T:List Tok} {D n k:Nat} {s:St} {r:RT} {N:List Nd} {vn:Value} {A:Nat->Prop} {B w:World} {e:Ending} {m:World} (h:ek b bb T D n k s r N vn A w e m) (R:Step b bb vn B vn w):ek b bb T D n k s r N vn A B e m:=by
 obtain⟨U,E,G,H,I,J,L,O⟩:=h
 exact⟨U,E,G,H,I,R.trans J,L,O⟩
theorem XAt.bump {w G:World} {b bb:Nat} {T:List Tok} {D n:Nat} {s:St} {u L:Nat} {N H:List Nd} {vn E:Value} {A:Nat->Prop} (h:XAt w b bb T D n s u N vn A) (O:mc G bb T L H E A) (B:Fr2 (ub bb vn) w G) (R:∀k,E.ownBlock=some k->vn.ownBlock=some k\/w.heap.size<=k) (Y:H.length<=2*L):XAt G b bb T D n s L H E A/\Step b bb vn w E G:=by
 have hw:=h.lt'
 refine⟨⟨B.keep h.box (fun m=>?_),O,h.far,fun k J=>h.new k (Nat.le_trans B.size J),h.lt,fun k m=>⟨?_,?_⟩,h.ok,Y⟩,⟨⟨B.os,B.tape,B.output,B.size,fun k J Z=>B.block k J (fun m=>Z (m.elim (fun h=>.inr (.inl h)) (fun h=>.inr (.inr h))))⟩,R⟩⟩
 ·have I:=h.lt
  rcases m with m | m
  ·omega
  ·have:=(h.own _ m).1;omega
 ·rcases R k m with I | I
  ·exact(h.own k I).1
  ·omega
 ·obtain⟨pt,ct,ak,U,-⟩:=O
  exact(U.turn k m).2
section
variable (b bb:Nat) (T:List Tok) (D n:Nat)
variable (hT:T.length<=40000) (hS:vR T) (hE:vC T)
include hT hS hE
def LY (b bb:Nat) (T:List Tok) (D n:Nat) (s:St) (N:List Nd) (vn:Value) (A:Nat->Prop) (w:World) (e:Ending) (B:World):Prop:=
 ∃m:Value,e=.returned (.int .i64 (N.length:Int))/\XAt B b bb T D n (ae T s).2 (s.i+1) (N++[⟨19,(s.i:Int),[]⟩]) m A/\Step b bb vn w m B
theorem OL (s:St) (N:List Nd) (vn:Value) (A:Nat->Prop) (w:World) (h:XAt w b bb T D n s s.i N vn A):
  Calls Tryz.prog 79 #[.pointer (some ⟨b,0,none⟩)] w (LY b bb T D n s N vn A w):=by
 obtain⟨d0,d1,d2,d3,d4,d5,d6,d7,d8,d9,j0⟩:=cR h.box
 have Wy:=h.few
 have Z:=h.ok
 have HL:=zh (Ls A bb T s.i N vn w (by omega) Z (by omega) h.bld)
 have C5:T[s.i]? = some (az T s):=by unfold az;rw [QS Z];rfl
 have R:=hE _ _ C5
 have m:(ae T s).2.i=min (s.i+1) (T.length - 1)/\(ae T s).2.inn=s.inn/\(ae T s).2.e=s.e/\(ae T s).2.pos=s.pos:=by
  show(aS T s).2.i=_/\(aS T s).2.inn=_/\(aS T s).2.e=_/\(aS T s).2.pos=_
  unfold aS
  by_cases H:(az T s).kind=5
  ·rw [if_pos H]
   have:=R.1 H
   exact⟨by show s.i=_;omega,rfl,rfl,rfl⟩
  ·rw [if_neg H]
   have:s.i+1≠T.length:=fun E=>H (R.2 E)
   exact⟨by show s.i+1=_;omega,rfl,rfl,rfl⟩
 obtain⟨G,O⟩:=zx (ae T s).2
 rw [O] at m
 have ak:T[min (s.i+1) (T.length - 1)]? = some (az T G):=by
  rw [<-m.1];unfold az;rw [QS (by rw [m.1];omega)];rfl
 have Mn:=zh (fun (N':List Nd) (B:Value) (w1:World) (hb:uq w1 bb T (s.i+1) N' B)=>FD bb T (s.i+1) N' B (az T G) w1 (by omega) (by omega) hS ak hb)
 have HX:=zh h
 have KQ:N.length+1<=2*(s.i+1):=by omega
 have ur:=zh KQ
 have L:=zh m
 have ao:Hid (G.i<T.length):=zh (by rw [m.1];omega)
 have PW:Hid (LY b bb T D n s N vn A w=fun E w'=>∃B:Value,E=.returned (.int .i64 (N.length:Int))/\XAt w' b bb T D n G (s.i+1) (N++[⟨19,(s.i:Int),[]⟩]) B A/\Step b bb vn w B w'):=zh (by unfold LY;rw [O])
 rw [PW.out]
 clear h Wy Z C5 R O m ak KQ hT hS hE PW
 go_enter Tryz.func79,Tryz.ntmps79
 go_wp2_with fail
 refine HL.mono ?_
 rintro E w1 ⟨rfl,xM,eg,mL,BJ⟩
 obtain⟨U,Zy⟩:=HX.bump eg mL BJ (by rw [Q2];exact ur)
 have Ki:=zh U;have aq:=zh Zy
 obtain⟨d0,d1,d2,d3,d4,d5,d6,d7,d8,d9,j0⟩:=cR U.box
 clear eg mL BJ U Zy HL
 go_wp2_with fail
 refine(Mn _ _ _ Ki.bld.bld).mono ?_
 rintro E w2 ⟨rfl,Y⟩
 have J:=zh (Ki.kept Y);have ap:=zh (aq.trans (Step.of (b:=b) (bb:=bb) (vn:=xM) Y))
 obtain⟨d0,d1,d2,d3,d4,d5,d6,d7,d8,d9,j0⟩:=cR J.box
 clear Y Mn
 have bP:=zh (fun (v1 v2 v3 v4:Value)=>ab (i:=4) (u:=v4) (ab (i:=3) (u:=v3) (ab (i:=2) (u:=v2) (ab (i:=1) (u:=v1) J.box))))
 obtain⟨I,ht⟩:=zx (az T G)
 have jw:=zh ht
 rw [ht]
 unfold J5 aD
 obtain⟨xl,rQ⟩:∃xl:ByteArray,(⟨I.lead.toArray⟩:ByteArray)=xl:=⟨_,rfl⟩
 obtain⟨xt,xB⟩:∃xt:ByteArray,(⟨I.text.toArray⟩:ByteArray)=xt:=⟨_,rfl⟩
 have Yi:=zh rQ;have TU:=zh xB
 rw [rQ,xB]
 obtain⟨tk,rm⟩:=zx I.kind
 obtain⟨tp,tY⟩:=zx I.pos
 have jm:=zh rm;have PT:=zh tY
 rw [rm,tY]
 clear ht rQ xB rm tY
 go_wp2_with fail
 go_ret
 have hf:Fr2 (dm b) w2 ((((w2.setCell ⟨b,1,none⟩ (.int .i64 (tk:Int))).setCell ⟨b,2,none⟩ (.string xl)).setCell ⟨b,3,none⟩ (.string xt)).setCell ⟨b,4,none⟩ (.int .i64 (tp:Int))):=((((Fr2.refl _ _).setCell (aK b) _).setCell (aK b) _).setCell (aK b) _).setCell (aK b) _
 refine⟨xM,rfl,J.turn hf ((bP _ _ _ _).trans ?_) ao,ap.trans (Step.self hf)⟩
 rw [jw.out,L.2.1,L.2.2.1,L.2.2.2]
 unfold aD
 rw [Yi.out,TU.out,jm.out,PT.out]
 rfl
theorem Fi (s:St) (N:List Nd) (vn:Value) (A:Nat->Prop) (w:World) (B:(az T s).kind≠5) (m:s.e=0) (h:XAt w b bb T D n s s.i N vn A):
  Calls Tryz.prog 79 #[.pointer (some ⟨b,0,none⟩)] w (ek b bb T D n 1 s (ae T s) N vn A w):=by
 refine(OL b bb T D n hT hS hE s N vn A w h).mono ?_
 rintro I J ⟨E,rfl,G,H⟩
 exact⟨_,_,E,rfl,by rw [sZ B];exact G,H,aZ.leaf B m,fun h=>absurd m h⟩
def oO (T:List Tok) (ws:List (List UInt8)) (s:St):RT:=if atQ T ws s=true then ae T s else ([],aH T 22 s)
def TM (T:List Tok) (ws:List (List UInt8)):Prop:=∀m,atQ T ws m=true->(az T m).kind≠5/\m.e=0
theorem abD (ws:List (List UInt8)) (Z:ws.length<=100) (L:TM T ws) (s:St) (N:List Nd) (vn v:Value) (A:Nat->Prop) (w:World) (h:XAt w b bb T D n s s.i N vn A) (hv:BD w v ws):
  Calls Tryz.prog 78 #[.pointer (some ⟨b,0,none⟩),v] w (ek b bb T D n 1 s (oO T ws s) N vn A w):=by
 have E:=zh (abp b bb T D n s s.i N vn v A ws w Z h hv)
 have HF:=zh (fun w h=>kR b bb T D n 22 s s.i N vn A w h)
 have HX:=zh h
 obtain⟨ao,I⟩:=zx (atQ T ws s)
 have G:=zh I
 have jw:=zh (fun w (Y:atQ T ws s=true) h=>Fi b bb T D n hT hS hE s N vn A w (L s Y).1 (L s Y).2 h)
 rw [I] at E
 clear h hv Z L I hT hS hE
 go_enter Tryz.func78,Tryz.ntmps78
 go_wp2_with fail
 refine E.mono ?_
 rintro m w1 ⟨rfl,J⟩
 have R:=zh (HX.kept J);have O:=zh J
 clear J E
 cases ao
 ·go_wp2_with fail
  refine(HF _ R).mono ?_
  rintro m B ⟨rfl,U,ak⟩
  have H:Hid (ek b bb T D n 1 s (oO T ws s) N vn A w (.returned (.int .i64 (-1))) B):=zh (by
   have m:oO T ws s=([],aH T 22 s):=by unfold oO;rw [if_neg (by rw [G.out];decide)]
   rw [m]
   refine⟨-1,N,vn,rfl,?_,(Step.of O).trans ak,aZ.fail (by decide) [],fun h=>by show(aH T 22 s).e≠0;rw [ic T h];exact h⟩
   show XAt B b bb T D n (aH T 22 s) (aH T 22 s).i N vn A
   rw [lc];exact U)
  clear U ak
  go_wp2_with fail
  go_ret
  exact H
 ·go_wp2_with fail
  refine(jw _ G R).mono ?_
  rintro m B hp
  have H:Hid (ek b bb T D n 1 s (oO T ws s) N vn A w m B):=zh (by
   have m:oO T ws s=ae T s:=by unfold oO;rw [if_pos G.out]
   rw [m]
   exact hp.after (Step.of O))
  obtain⟨v,N',cC,rfl,-⟩:=hp
  go_wp2_with fail
  go_ret
  exact H
theorem SL (k:Nat) (Z:k≠5) (s:St) (N:List Nd) (vn:Value) (A:Nat->Prop) (w:World) (h:XAt w b bb T D n s s.i N vn A):
  Calls Tryz.prog 51 #[.pointer (some ⟨b,0,none⟩),.int .i64 (k:Int)] w (ek b bb T D n 1 s (aM T k s) N vn A w):=by
 have E:=zh (uY b bb T D n s s.i N vn A k w h)
 have HF:=zh (fun w h=>kR b bb T D n 22 s s.i N vn A w h)
 have R:=zh h
 have G:Hid (aM T k s=if s.e=0/\(az T s).kind=k then ae T s else ([],aH T 22 s)):=zh rfl
 have jw:=zh (fun w (Y:s.e=0/\(az T s).kind=k) h=>Fi b bb T D n hT hS hE s N vn A w (by rw [Y.2];exact Z) Y.1 h)
 clear h Z hT hS hE
 by_cases m:s.e=0/\(az T s).kind=k
 ·rw [zd m] at E
  rw [if_pos m] at G
  have HC:=zh m
  rw [G.out]
  clear m
  go_enter Tryz.func51,Tryz.ntmps51
  go_wp2_with fail
  refine E.mono ?_
  rintro L w1 ⟨rfl,B⟩
  have J:=zh (R.kept B);have H:=zh B
  clear B E
  go_wp2_with fail
  refine(jw _ HC J).mono ?_
  rintro L O hp
  have I:=zh (hp.after (Step.of H))
  obtain⟨ao,N',cC,rfl,-⟩:=hp
  go_wp2_with fail
  go_ret
  exact I
 ·rw [VW m] at E
  rw [if_neg m] at G
  rw [G.out]
  clear m
  go_enter Tryz.func51,Tryz.ntmps51
  go_wp2_with fail
  refine E.mono ?_
  rintro L w1 ⟨rfl,B⟩
  have J:=zh (R.kept B);have H:=zh B
  clear B E
  go_wp2_with fail
  refine(HF _ J).mono ?_
  rintro L O ⟨rfl,U,ak⟩
  have I:Hid (ek b bb T D n 1 s ([],aH T 22 s) N vn A w (.returned (.int .i64 (-1))) O):=zh (by
   refine⟨-1,N,vn,rfl,?_,(Step.of H).trans ak,aZ.fail (by decide) [],fun h=>by show(aH T 22 s).e≠0;rw [ic T h];exact h⟩
   show XAt O b bb T D n (aH T 22 s) (aH T 22 s).i N vn A
   rw [lc];exact U)
  clear U ak
  go_wp2_with fail
  go_ret
  exact I
end
end Go.Proofs.YtpkipghjohomcaaGreatDoor
namespace Go.Proofs.YtpkipghjohomcaaGreatDoor
open Go.RowKit List Go.World
inductive Th where
 | strs (ws:List (List UInt8))
 | ints (l:List Int)
 | box (x:Value)
def MB (w:World) (b:Nat) (v:Value):Th->Prop
 | .strs B=>BD w v B
 | .ints A=>iG w (b+1) v A
 | .box E=>∃m,v=.slice (some ⟨m,0,none⟩) 1 1/\w.cell? ⟨m,0,none⟩=some E
def Apart (w0 w:World) (b:Nat) (vn:Value) (A:Nat->Prop) (p:Value×Th):Prop:=
 MB w b p.1 p.2/\∀m,p.1.ownBlock=some m->w0.heap.size<=m/\b<m/\m<w.heap.size/\vn.ownBlock≠some m/\¬A m
def aaL (p q:Value×Th):Prop:=∀m,p.1.ownBlock=some m->q.1.ownBlock≠some m
def KX (b bb:Nat) (T:List Tok) (D n:Nat) (A0:Nat->Prop) (bt:Value) (w0 w:World) (s:St) (u:Nat) (N:List Nd) (vn:Value) (L:List (Value×Th)):Prop:=
 ∃A:Nat->Prop,XAt w b bb T D n s u N vn A/\(∀B,A B->A0 B)/\(∀E∈L,Apart w0 w b vn A E)/\Step b bb bt w0 vn w/\(∀m,A0 m->b<m)/\(∀m,w0.heap.size<=m->A0 m)/\b<w0.heap.size/\L.Pairwise aaL
theorem MB.keptF {S:Nat->Prop} {w w':World} {b:Nat} {v:Value} {t:Th} (h:MB w b v t) (G:Fr2 S w w') (H:∀k,v.ownBlock=some k->k<w.heap.size/\¬S k):MB w' b v t:=by
 cases t with
 | strs U=>
   obtain⟨m,A,E⟩:=h
   have B:=H m (by rw [A];rfl)
   exact⟨m,A,fun I J O=>(cell?_of_block (a:=⟨m,I,none⟩) (G.block m B.1 B.2)).trans (E I J O)⟩
 | ints R=>exact ag.keptF h G fun k A=>(H k A).2
 | box J=>
   obtain⟨m,A,E⟩:=h
   have B:=H m (by rw [A];rfl)
   exact⟨m,A,(cell?_of_block (a:=⟨m,0,none⟩) (G.block m B.1 B.2)).trans E⟩
section
variable {b bb:Nat} {T:List Tok} {D n:Nat} {A0:Nat->Prop} {bt:Value} {w0 w w':World} {s:St} {u:Nat} {N:List Nd} {vn:Value} {L:List (Value×Th)}
theorem XAt.wide {A m:Nat->Prop} (h:XAt w b bb T D n s u N vn A) (O:∀j,A j->m j) (R:∀k,m k->b<k) (B:∀k,w.heap.size<=k->m k):XAt w b bb T D n s u N vn m:=by
 obtain⟨pt,H,E,I,J⟩:=h.bld
 exact⟨h.box,⟨pt,H,E,I,fun Y ak U B G Z=>O _ (J Y ak U B G Z)⟩,R,B,h.lt,h.own,h.ok,h.few⟩
theorem KX.start {A:Nat->Prop} (h:XAt w b bb T D n s u N vn A):KX b bb T D n A vn w w s u N vn []:=
 ⟨A,h,fun _ h=>h,fun B m=>by simp at m,Step.refl _ _ _ _,h.far,h.new,h.lt',List.Pairwise.nil⟩
theorem KX.done (h:KX b bb T D n A0 bt w0 w s u N vn L):XAt w b bb T D n s u N vn A0/\Step b bb bt w0 vn w:=by
 obtain⟨A,B,E,-,m,G,H,-⟩:=h
 exact⟨B.wide E G fun J I=>H J (Nat.le_trans m.fr.size I),m⟩
theorem KX.kept (h:KX b bb T D n A0 bt w0 w s u N vn L) (G:w.grownBy w' none):KX b bb T D n A0 bt w0 w' s u N vn L:=by
 obtain⟨A,H,I,J,O,R,U,Y⟩:=h
 refine⟨A,H.kept G,I,fun ak Z=>?_,O.trans (Step.of G),R,U,Y⟩
 obtain⟨ao,E⟩:=J ak Z
 exact⟨ao.keptF (S:=fun _=>False) (Fr2.none G) fun B m=>⟨(E B m).2.2.1,fun h=>h⟩,fun B m=>⟨(E B m).1,(E B m).2.1,zn (E B m).2.2.1 G.size,(E B m).2.2.2⟩⟩
theorem KX.drew (h:KX b bb T D n A0 bt w0 w s u N vn L):KX b bb T D n A0 bt w0 w.drew s u N vn L:=h.kept (aC (ad _ _))
theorem KX.alloc (h:KX b bb T D n A0 bt w0 w s u N vn L) (o:Obj):KX b bb T D n A0 bt w0 (w.alloc o) s u N vn L:=h.kept (af (ad _ _) _)
theorem KX.few (h:KX b bb T D n A0 bt w0 w s u N vn L) {L':List (Value×Th)} (m:L'.Sublist L):KX b bb T D n A0 bt w0 w s u N vn L':=by
 obtain⟨A,B,E,G,H,I,J,O,R⟩:=h
 exact⟨A,B,E,fun Y U=>G Y (m.subset U),H,I,J,O,R.sublist m⟩
theorem KX.nils (h:KX b bb T D n A0 bt w0 w s u N vn L):KX b bb T D n A0 bt w0 w s u N vn []:=h.few (nil_sublist _)
theorem KX.innc (h:KX b bb T D n A0 bt w0 w s u N vn L):w.cell? ⟨b,7,none⟩=some (.bool s.inn):=by
 obtain⟨A,m,-⟩:=h
 exact(cR m.box).2.2.2.2.2.2.2.1
theorem KX.cell (h:KX b bb T D n A0 bt w0 w s u N vn L):w.cell? ⟨b,0,none⟩=some (.pointer (some ⟨bb,0,none⟩)):=by
 obtain⟨A,m,-⟩:=h
 exact(cR m.box).1
theorem KX.ok (h:KX b bb T D n A0 bt w0 w s u N vn L):s.i<T.length:=by
 obtain⟨A,m,-⟩:=h
 exact m.ok
theorem KX.fresh (h:KX b bb T D n A0 bt w0 w s u N vn L) {o:Obj} {v:Value} {t:Th} (ht:MB (w.alloc o) b v t) (hv:v.ownBlock=some w.heap.size):KX b bb T D n A0 bt w0 (w.alloc o) s u N vn ((v,t)::L):=by
 obtain⟨ak,E,h2,Y,Z,h5,h6,h7,h8⟩:=h
 have hb:=E.lt'
 have hs:(w.alloc o).heap.size=w.heap.size+1:=by simp
 have J:=qn w o none
 have h0:=Z.fr.size
 have I:=E.kept J
 refine⟨fun B=>ak B/\B≠w.heap.size,⟨I.box,E.bld.keptF (S:=fun _=>False) (Fr2.none J) (fun _ _ h=>h) (fun _ _ h=>h) (fun _ _ h=>h) (fun m G ha=>⟨ha,by omega⟩),fun m G=>E.far m G.1,fun m G=>⟨E.new m (by omega),by omega⟩,I.lt,I.own,I.ok,I.few⟩,fun B hj=>h2 B hj.1,fun U H=>?_,Z.trans (Step.of J),h5,h6,h7,pairwise_cons.2 ⟨fun U H m A O=>?_,h8⟩⟩
 ·rcases mem_cons.1 H with rfl | H
  ·refine⟨ht,fun m A=>?_⟩
   have G:w.heap.size=m:=by rw [hv] at A;exact Option.some.inj A
   subst G
   exact⟨h0,hb,by omega,fun O=>by have:=(E.own _ O).2;omega,fun R=>R.2 rfl⟩
  ·obtain⟨t,m⟩:=Y U H
   exact⟨t.keptF (S:=fun _=>False) (Fr2.none J) fun B A=>⟨(m B A).2.2.1,fun h=>h⟩,fun B A=>⟨(m B A).1,(m B A).2.1,by have:=(m B A).2.2.1;omega,(m B A).2.2.2.1,fun R=>(m B A).2.2.2.2 R.1⟩⟩
 ·have G:w.heap.size=m:=by rw [hv] at A;exact Option.some.inj A
  have:=((Y U H).2 m O).2.2.1
  omega
theorem KX.strs (h:KX b bb T D n A0 bt w0 w s u N vn L) (xs:List ByteArray) (G:TypeId):KX b bb T D n A0 bt w0 (w.alloc (.cells (xs.map Value.string).toArray G)) s u N vn ((.slice (some ⟨w.heap.size,0,none⟩) xs.length xs.length,.strs (xs.map fun A=>A.data.toList))::L):=by
 refine h.fresh ⟨w.heap.size,by simp,fun E A m=>?_⟩ rfl
 rw [hZ _ _ E _ _ (0,0) (YK w _)]
 rw [getElem?_map] at m
 rw [Q7,getElem?_map]
 cases B:xs[E]? with
 | none=>rw [B] at m;cases m
 | some H=>
   rw [B] at m
   obtain rfl:H.data.toList=A:=Option.some.inj m
   rfl
theorem KX.strs1 (h:KX b bb T D n A0 bt w0 w s u N vn L) (x:ByteArray) (m:TypeId):KX b bb T D n A0 bt w0 (w.alloc (.cells #[.string x] m)) s u N vn ((.slice (some ⟨w.heap.size,0,none⟩) 1 1,.strs [x.data.toList])::L):=h.strs [x] m
theorem KX.strs2 (h:KX b bb T D n A0 bt w0 w s u N vn L) (x y:ByteArray) (m:TypeId):KX b bb T D n A0 bt w0 (w.alloc (.cells #[.string x,.string y] m)) s u N vn ((.slice (some ⟨w.heap.size,0,none⟩) 2 2,.strs [x.data.toList,y.data.toList])::L):=h.strs [x,y] m
theorem KX.boxed (h:KX b bb T D n A0 bt w0 w s u N vn L) (x:Value) (m:TypeId):KX b bb T D n A0 bt w0 (w.alloc (.cells #[x] m)) s u N vn ((.slice (some ⟨w.heap.size,0,none⟩) 1 1,.box x)::L):=
 h.fresh ⟨w.heap.size,rfl,by rw [hZ _ _ 0 _ _ (0,0) (YK w _)];rfl⟩ rfl
theorem KX.nilS (h:KX b bb T D n A0 bt w0 w s u N vn L):KX b bb T D n A0 bt w0 w s u N vn ((.slice none 0 0,.ints [])::L):=by
 obtain⟨A,G,H,I,J,O,R,U,Y⟩:=h
 refine⟨A,G,H,fun E m=>?_,J,O,R,U,pairwise_cons.2 ⟨fun E m Z B=>(by cases B),Y⟩⟩
 rcases mem_cons.1 m with rfl | m
 ·exact⟨iG.nil _ _,fun Z B=>by cases B⟩
 ·exact I E m
theorem iG.newL (w:World) (base:Nat) (m:List Int) (B:m≠[]) (E:m.length<=1000000) (A:base<=w.heap.size):iG (w.alloc (.cells (ar m).toArray 3)) base (.slice (some ⟨w.heap.size,0,none⟩) m.length m.length) m:=by
 refine⟨?_,lS (gX _)⟩
 rw [dM,lI,bh]
 exact⟨by simp [ar],.inr ⟨_,m.length,_,rfl,A,YK w _,by simp,by unfold maxLen;omega,by simp [ar],by rw [V7 (by simp [ar])]⟩⟩
theorem KX.ints (h:KX b bb T D n A0 bt w0 w s u N vn L) (m:List Int) (B:m≠[]) (G:m.length<=1000000):KX b bb T D n A0 bt w0 (w.alloc (.cells (ar m).toArray 3)) s u N vn ((.slice (some ⟨w.heap.size,0,none⟩) m.length m.length,.ints m)::L):=by
 refine h.fresh (iG.newL w (b+1) m B G ?_) rfl
 obtain⟨A,E,-⟩:=h
 exact E.lt'
theorem KX.go {A:Nat->Prop} {s':St} {H:Nat} {G:List Nd} {B:Value} (I:∀j,A j->A0 j) (J:∀p∈L,Apart w0 w b vn A p) (O:Step b bb bt w0 vn w) (R:(∀k,A0 k->b<k)/\(∀k,w0.heap.size<=k->A0 k)/\b<w0.heap.size/\L.Pairwise aaL) (qj:bb<b) (Y:XAt w' b bb T D n s' H G B A) (m:Step b bb vn w B w'):KX b bb T D n A0 bt w0 w' s' H G B L:=by
 refine⟨A,Y,I,fun p U=>?_,O.trans m,R⟩
 obtain⟨Z,k⟩:=J p U
 refine⟨Z.keptF m.fr fun j E=>?_,fun j E=>?_⟩
 ·obtain⟨k1,k2,k3,k4,-⟩:=k j E
  exact⟨k3,fun h=>by rcases h with h | h | h;omega;omega;exact k4 h⟩
 ·obtain⟨k1,k2,k3,k4,k5⟩:=k j E
  refine⟨k1,k2,zn k3 m.fr.size,fun h=>?_,k5⟩
  rcases m.own j h with h | h
  ·exact k4 h
  ·omega
theorem KX.call {P:Program} {f k:Nat} {E:Array Value} {r:RT} (hk:KX b bb T D n A0 bt w0 w s s.i N vn L) (C:∀A,XAt w b bb T D n s s.i N vn A->Calls P f E w (ek b bb T D n k s r N vn A w)):
  Calls P f E w fun G w'=>∃(v:Int) (m:List Nd) (B:Value),G=.returned (.int .i64 v)/\KX b bb T D n A0 bt w0 w' r.2 r.2.i m B L/\aZ k N s r m [v]/\(s.e≠0->r.2.e≠0):=by
 obtain⟨A,H,U,Y,Z,h5⟩:=hk
 refine(C A H).mono ?_
 rintro G w' ⟨v,m,B,rfl,I,J,O,R⟩
 exact⟨v,m,B,rfl,KX.go U Y Z h5 H.lt I J,O,R⟩
theorem KX.val {P:Program} {f:Nat} {m:Array Value} {v:Value} (E:KX b bb T D n A0 bt w0 w s u N vn L) (C:∀A,XAt w b bb T D n s u N vn A->Calls P f m w (bp v w)):
  Calls P f m w fun B w'=>B=.returned v/\KX b bb T D n A0 bt w0 w' s u N vn L:=by
 obtain⟨A,G,-⟩:=id E
 refine(C A G).mono ?_
 rintro B w' ⟨rfl,H⟩
 exact⟨rfl,E.kept H⟩
theorem KX.appended {v1 v':Value} {l1 l:List Int} (G:KX b bb T D n A0 bt w0 w s u N vn L) {L2:List (Value×Th)} (Z:((v1,Th.ints l1)::L2).Sublist L) (ho:iG w' (b+1) v' l) (hg:w.grownBy w' v1.ownBlock) (Y:∀k,v'.ownBlock=some k->v1.ownBlock=some k\/w.heap.size<=k):KX b bb T D n A0 bt w0 w' s u N vn ((v',.ints l)::L2):=by
 obtain⟨ak,B,h2,h3,J,h5,h6,h7,h8⟩:=G
 obtain⟨-,I⟩:=h3 _ (Z.subset (Yu ..))
 obtain⟨es,cI⟩:=pairwise_cons.1 (h8.sublist Z)
 have E:Fr2 (fun k=>v1.ownBlock=some k) w w':=Fr2.of hg (fun k m=>m)
 have qU:=fun k m=>ag.at ho k m
 have hlt:=B.lt
 have Ep:=B.lt'
 refine⟨fun A=>ak A/\v'.ownBlock≠some A,⟨E.keep B.box (fun m=>by have:=(I _ m).2.1;omega),B.bld.keptF E (fun k G m=>by have:=(I _ m).2.1;omega) (fun k m H=>(I _ H).2.2.2.1 m) (fun k U m=>(I _ m).2.2.2.2 U) (fun k G U=>⟨U,fun m=>?_⟩),fun k G=>B.far k G.1,fun k G=>⟨B.new k (Nat.le_trans E.size G),fun m=>by have:=(qU k m).2;omega⟩,B.lt,fun k m=>⟨(B.own k m).1,zn (B.own k m).2 E.size⟩,B.ok,B.few⟩,fun A hj=>h2 A hj.1,fun R O=>?_,⟨⟨E.os.trans J.fr.os,E.tape.trans J.fr.tape,E.output.trans J.fr.output,Nat.le_trans J.fr.size E.size,fun k G hn=>?_⟩,J.own⟩,h5,h6,h7,pairwise_cons.2 ⟨fun R O k m H=>?_,cI⟩⟩
 ·rcases Y k m with h | h
  ·exact(I _ h).2.2.2.2 U
  ·omega
 ·rcases mem_cons.1 O with rfl | O
  rotate_left
  ·obtain⟨ao,k⟩:=h3 R (Z.subset (Q1 _ O))
   refine⟨ao.keptF E fun A m=>⟨(k A m).2.2.1,fun H=>es R O A H m⟩,fun A m=>⟨(k A m).1,(k A m).2.1,zn (k A m).2.2.1 E.size,(k A m).2.2.2.1,fun hA=>(k A m).2.2.2.2 hA.1⟩⟩
  refine⟨ho,fun k m=>⟨?_,?_,(qU k m).2,fun H=>?_,fun hA=>hA.2 m⟩⟩
  ·rcases Y k m with h | h
   ·exact(I _ h).1
   ·exact Nat.le_trans J.fr.size h
  ·have:=(qU k m).1;omega
  ·rcases Y k m with h | h
   ·exact(I _ h).2.2.2.1 H
   ·have:=(B.own _ H).2;omega
 ·rw [E.block k (zn G J.fr.size) (fun m=>by have:=(I _ m).1;omega),J.fr.block k G hn]
 ·rcases Y k m with h | h
  ·exact es R O k h H
  ·have:=((h3 R (Z.subset (Q1 _ O))).2 k H).2.2.1
   omega
theorem KX.list {v:Value} {l:List Int} (I:KX b bb T D n A0 bt w0 w s u N vn L) (J:(v,Th.ints l)∈L):∃p c,v=.slice p l.length c/\VAt w p (ar l)/\l.length<=c/\iG w (b+1) v l:=by
 obtain⟨A,O,R,H,-⟩:=I
 obtain⟨m,-⟩:=H _ J
 obtain⟨p,c,B,E,G,-⟩:=iG.parts m
 exact⟨p,c,B,E,G,m⟩
theorem KX.str {v:Value} {ws:List (List UInt8)} (B:KX b bb T D n A0 bt w0 w s u N vn L) (E:(v,Th.strs ws)∈L):BD w v ws:=by
 obtain⟨A,G,H,m,-⟩:=B
 exact(m _ E).1
theorem T3 {o:Oper} {a:Act} {K:Act->World->Prop} {Q:Exit->Act->World->Prop} (os R:Operand) (Z:o.op=.call { callee:=.builtin .append,args:=#[os,R],argTypes:=#[52,52] })
  {A l2:List Int} {B:Value} {q:Option Addr} {m c:Nat} {U:List (Value×Th)} (E:KX b bb T D n A0 bt w0 w s u N vn L) (O:((B,Th.ints A)::U).Sublist L) (hs:a.eval os=B) (hx:a.eval R=.slice q m c) (G:l2.length=m) (hy:VAt w q (ar l2)) (h1:A.length<=1000000) (h2:l2.length<=1000000)
  (h:∀v' w',KX b bb T D n A0 bt w0 w' s u N vn ((v',.ints (A++l2))::U)->K (a.put o.dst v') w'):o.wp Tryz.prog a w K Q:=by
 obtain⟨p1,c1,-,-,-,eF⟩:=E.list (O.subset (Yu ..))
 have H:=eF.1
 rw [dM,lI,bh] at H
 obtain⟨i0,Y,ao,ap,aq⟩:=info_parts NS
 have Ep:b+1<=w.heap.size:=by
  obtain⟨aJ,g1,-⟩:=id E
  exact g1.lt'
 by_cases J:l2 = []
 ·subst J
  obtain rfl:m=0:=G.symm
  have ri:=mx (P:=Tryz.prog) (w:=w) (b+1) 52 o.type 3 i0 1 Tryz.underlying52 Y B A.length (ar A) H q c
  have h3:=h B w (by rw [append_nil];exact E.few O)
  unfold Oper.wp
  simp [execOp,Z,resolve,invoke,builtin,hs,hx,ri,Result.andThen]
  exact h3
 ·obtain⟨ak,ax,rfl,hg,hc⟩:=hy.resolve_left (fun I=>J (length_eq_zero_iff.1 (by have:=congrArg List.length I;rwa [bh] at this)))
  refine wp_append_lies w os R 52 Z (b+1) 3 i0 (.int .i64 0) 1 8 Tryz.underlying52 Y ao ap aq rfl (by decide) B A.length (ar A) hs H ⟨ak,ax,none⟩ m c (ar l2) hx (by rw [bh,G,Nat.mul_one]) (fun au ay hj=>by rw [Addr.add_lit];exact hc au ay hj) (gX _) (by rw [<-G];exact length_pos_iff.2 J) (by unfold maxLen;omega) (by omega) Ep w.heap.size rfl ?_
  intro g' cP w' k1 k2 k3 k4
  refine h _ _ (E.appended O ⟨?_,lS (gX _)⟩ k2 (fun av I=>?_))
  ·rw [dM,lI,fs,Q2,bh,bh,G];exact k1
  ·have Ve:g'=av:=by simpa [Value.ownBlock] using I
   subst Ve
   exact k3.imp id fun h=>by omega
theorem bD {H:Array Oper} {rest:List Oper} {o:Oper} {a:Act} {Q:Exit->Act->World->Prop} (J:o.guard=none) (os E:Operand) (ho:o.op=.call { callee:=.builtin .append,args:=#[os,E],argTypes:=#[52,52] })
  {B l2:List Int} {I:Value} {q:Option Addr} {m c:Nat} {G:List (Value×Th)} (Z:KX b bb T D n A0 bt w0 w s u N vn L) (hm:((I,Th.ints B)::G).Sublist L) (hs:a.eval os=I) (hx:a.eval E=.slice q m c) (hl:l2.length=m) (hy:VAt w q (ar l2)) (O:B.length<=1000000) (R:l2.length<=1000000)
  (h:∀A w',KX b bb T D n A0 bt w0 w' s u N vn ((A,.ints (B++l2))::G)->wpList Tryz.prog H Q rest (a.put o.dst A) w'):wpList Tryz.prog H Q (o::rest) a w:=
 wpList_plain J fun _ Y=>T3 os E ho Z hm hs hx hl hy O R fun A w' U=>Y _ _ (h A w' U)
theorem oy {H:Array Oper} {o:Oper} {a:Act} {K:Act->World->Prop} {Q:Exit->Act->World->Prop} {E:Prop} (O:o.guard=none) (os B:Operand) (ho:o.op=.call { callee:=.builtin .append,args:=#[os,B],argTypes:=#[52,52] })
  {A l2:List Int} {J:Value} {q:Option Addr} {m c:Nat} {G:List (Value×Th)} (Y:KX b bb T D n A0 bt w0 w s u N vn L) (hm:((J,Th.ints A)::G).Sublist L) (hs:a.eval os=J) (hx:a.eval B=.slice q m c) (Z:l2.length=m) (hy:VAt w q (ar l2)) (R:A.length<=1000000) (U:l2.length<=1000000)
  (h:∀I w',KX b bb T D n A0 bt w0 w' s u N vn ((I,.ints (A++l2))::G)->K (a.put o.dst I) w'):if Region.wanted o (yielded H a.tmps)=true then Oper.wp Tryz.prog o a w K Q else E:=by
 have hw:Region.wanted o (yielded H a.tmps)=true:=by simp [Region.wanted,O]
 rw [if_pos hw]
 exact T3 os B ho Y hm hs hx Z hy R U h
theorem KX.node {k kind:Nat} {v:Value} {A:List Int} {B:List Nd} {H:St} {r:RT} (O:KX b bb T D n A0 bt w0 w s s.i N vn L) (hm:(v,Th.ints A)∈L) (hT:T.length<=40000) (E:aZ (k+1) B H r N A) (hr:r.2=s) (hN:B.length<=2*H.i) (hl:A.length<=30000):
  Calls Tryz.prog 50 #[.pointer (some ⟨bb,0,none⟩),.int .i64 (kind:Int),v] w fun J w'=>∃(x:Int) (R:List Nd) (I:Value),J=.returned (.int .i64 x)/\KX b bb T D n A0 bt w0 w' s s.i R I L/\aZ k B H ([.nd kind r.1],r.2) R [x]:=by
 obtain⟨ak,Y,rfl,Z,-,-⟩:=O.list hm
 have IU:=O
 obtain⟨ao,m,h2,h3,h4,h5⟩:=O
 have Wy:=m.few
 have eM:=m.ok
 by_cases G:r.2.e=0
 ·have U:=E.node (kind:=kind) G
  have hb:=U.out.2
  refine(CZ ao bb T s.i N vn (kind:Int) A ak Y w (by omega) (by omega) m.bld m.new Z (E.ok G)).mono ?_
  rintro J w' ⟨rfl,I,g1,g2,g3⟩
  obtain⟨hx,Pb⟩:=m.bump g1 g2 g3 (by
   rw [<-hr]
   have cB:(N++[(⟨(kind:Int),-1,A⟩:Nd)]).length+2*H.i<=B.length+2*r.2.i:=hb
   omega)
  exact⟨_,_,I,rfl,KX.go h2 h3 h4 h5 m.lt hx Pb,U⟩
 ·refine(yI bb T s.i N vn (kind:Int) A ak Y w (by omega) (by omega) m.bld.bld Z (E.no G)).mono ?_
  rintro J w' ⟨rfl,hg⟩
  exact⟨-1,N,vn,rfl,IU.kept hg,E.none G⟩
end
end Go.Proofs.YtpkipghjohomcaaGreatDoor
