/- Lemmas. -/
import Derived.Test.YtpkipghjohomcaaGreatDoorP11
import Derived.Test.YtpkipghjohomcaaGreatDoorP51
set_option linter.unusedVariables false
set_option linter.unusedSimpArgs false
set_option maxHeartbeats 16000000
set_option maxRecDepth 100000
namespace Go.Proofs.YtpkipghjohomcaaGreatDoor
open Go.RowKit List Go.World
mutual
def cL:Ex->List UInt8
 | .mk G B A E I m H=>fU (.mk G B A E I m H)++jl m++[93]
def jl:List Ex->List UInt8
 | []=>[]
 | k::l=>32::cL k++jl l
end
def stD (s:List UInt8) (x:Ex) (d:Nat):List UInt8:=s++((if d=0 then fU x else [])++(if d=(be x).length then [93] else [32]))
mutual
theorem EB:∀(x:Ex) (s:List UInt8),uy stD x s=s++cL x
 | .mk op nm md nu ys ks ps,s=>by
   simp only [uy,cL]
   have h:=Pn (.mk op nm md nu ys ks ps) 0 ks (s++fU (.mk op nm md nu ys ks ps)) (by simp [be])
   have A:stD s (.mk op nm md nu ys ks ps) 0=s++fU (.mk op nm md nu ys ks ps)++(if ks = [] then [93] else [32]):=by
    unfold stD;rw [if_pos rfl]
    show s++(_++(if 0=ks.length then [93] else [32]))=_
    rw [append_assoc]
    by_cases m:ks = []
    ·subst m;rfl
    ·rw [if_neg m,if_neg (by intro B;exact m (fb B.symm))]
   rw [A,h];simp
theorem Pn (x:Ex):∀(j:Nat) (l:List Ex) (s:List UInt8),j+l.length=(be x).length->tq stD x j l (s++(if l = [] then [93] else [32]))=s++jl l++[93]
 | j,[],s,h=>by simp [tq,jl]
 | j,k::l,s,h=>by
   simp only [tq,jl]
   rw [if_neg (by simp),EB k]
   have A:j+1+l.length=(be x).length:=by simp at h;omega
   have B:stD (s++[32]++cL k) x (j+1)=(s++32::cL k)++(if l = [] then [93] else [32]):=by
    unfold stD
    rw [if_neg (by omega)]
    by_cases m:l = []
    ·subst m
     rw [if_pos rfl,if_pos (by simpa using A)];simp
    ·have:0<l.length:=length_pos_iff.2 m
     rw [if_neg m,if_neg (by omega)];simp
   rw [B,Pn x (j+1) l _ A];simp
end
mutual
def iL:Ex->Prop
 | .mk G B A E I m H=>nM (.mk G B A E I m H)/\ny m
def ny:List Ex->Prop
 | []=>True
 | k::l=>iL k/\ny l
end
theorem th:∀ {l:List Ex} {k:Ex},ny l->k∈l->iL k
 | [],k,_,h=>by cases h
 | y::l,k,hs,h=>by
   simp only [ny] at hs
   rcases mem_cons.1 h with h | h
   ·subst h;exact hs.1
   ·exact th hs.2 h
theorem Dr {x k:Ex} (h:iL x) (m:k∈be x):iL k:=by
 cases x with
 | mk H E B G J A I=>simp only [iL] at h;exact th h.2 m
theorem E8 {x:Ex} (h:iL x):nM x:=by
 cases x with
 | mk G B A E I m H=>simp only [iL] at h;exact h.1
def PD (B b:Nat) (s:List UInt8) (w:World):Prop:=Lib.IsBuilder 96 5 B b (Lib.byteCells s) w/\B<=w.heap.size
def LD (s:List UInt8):Prop:=s.length<=1000000
theorem PD.gb {B b:Nat} {s:List UInt8} {w A:World} (h:PD B b s w) (m:w.grownBy A none):PD B b s A:=⟨Ch h.1 m,Nat.le_trans h.2 m.size⟩
theorem R3 (F:Nat->Prop) (B b:Nat) (hF:∀k,F k->k<B) (s:List UInt8) (f:Fm) (w:World) (hp:PD B b s w) (hx:jq F w f.g f.o f.x) (hd:f.d<=(be f.x).length) (hq:iL f.x) (hl:LD (stD s f.x f.d)):
  Calls Tryz.prog 40 #[.pointer (some ⟨f.g,f.o,none⟩),.int .i64 (f.d:Int),.pointer (some ⟨b,0,none⟩)] w (fun G J=>G=.returned (.tuple #[])/\PD B b (stD s f.x f.d) J/\Below B w J/\bU b w J):=by
 have SP:=zh (S9 F f.x f.g f.o w hx (E8 hq))
 obtain⟨pk,ck,Z,-⟩:=hx.kids
 have bN:=hx.2.1
 have Yb:Hid (f.g<B):=zh (hF _ hx.1)
 have HP:=zh hp;have HL:=zh hl
 obtain⟨fg,rT⟩:=zx f.g
 obtain⟨fo,TQ⟩:=zx f.o
 obtain⟨m,zW⟩:=zx f.d
 obtain⟨A,gW⟩:=zx (be f.x).length
 obtain⟨L,ap⟩:=zx f.x
 rw [rT,TQ] at SP Z
 rw [rT] at bN Yb
 rw [gW] at Z hd
 rw [zW] at HL hd
 rw [rT,TQ,zW]
 rw [ap] at SP HL gW ⊢
 have yd:=zh Z
 have Hz:=zh bN
 have ik:Hid (B<=w.heap.size):=zh hp.2
 have HE:Hid (stD s L m=s++((if m=0 then fU L else [])++(if m=A then [93] else [32]))):=zh (by unfold stD;rw [gW])
 clear hx hq hp hl hF rT TQ zW gW ap
 have fP:Hid (s.length+(if m=0 then fU L else []).length+1<=1000000):=zh (by
  have h:=HL.out
  rw [HE.out] at h
  unfold LD at h
  simp only [Q2] at h
  have h3:(if m=A then [93] else [32]:List UInt8).length=1:=by split<;>rfl
  omega)
 have Ia:∀(ak:List UInt8) (W:World),Hid (PD B b ak W)->Hid (ak.length+1<=1000000)->∀(O:UInt8),Hid (Calls Tryz.prog 27 #[.pointer (some ⟨b,0,none⟩),.string ⟨#[O]⟩] W (fun G J=>G=.returned (.tuple #[.int .i64 1,.nilIface])/\PD B b (ak++[O]) J/\Below B W J/\bU b W J)):=fun ak W h1 h2 O=>zh ((gG B b _ ⟨#[O]⟩ W h1.out.1 (by rw [Lib.byteCells_length];show ak.length+1<=_;have:=h2.out;omega) h1.out.2).mono (by
  rintro G J ⟨rfl,⟨h3,h4⟩,h5⟩
  refine⟨rfl,⟨.inr (by rw [Lib.byteCells_append];exact h3),Nat.le_trans h1.out.2 h4.size⟩,h4,h5⟩))
 go_enter Tryz.func40,Tryz.ntmps40
 by_cases I:m=0
 ·have e1:((m:Int) == 0)=true:=by rw [I];rfl
  have uw:(m == 0)=true:=by rw [I];rfl
  have NO:Hid (s.length+(fU L).length+1<=1000000):=zh (by have h:=fP.out;rw [if_pos I] at h;exact h)
  have Ee:Hid (stD s L m=s++fU L++(if m=A then [93] else [32])):=zh (by rw [HE.out,if_pos I,append_assoc])
  clear I HE fP
  go_wp2_with fail
  refine SP.mono ?_
  rintro G w1 ⟨⟨aq,rfl,hy⟩,cJ⟩
  have HY:=zh hy;have fu:=zh cJ
  have kw:=aV hy
  have au:Hid (aq.size<=1000000):=zh (by rw [kw];have:=NO.out;omega)
  have Eh:=zh (HP.gb cJ)
  have ZJ:=zh (gG B b _ aq w1 Eh.1 (by rw [Lib.byteCells_length,kw];have:=NO.out;omega) Eh.2)
  have Z:=cJ.cell Z (by simp)
  have bN:=zn bN cJ.size
  clear hy cJ SP kw
  go_wp2_with fail
  refine ZJ.mono ?_
  rintro G w2 ⟨rfl,⟨cB,D6⟩,ao⟩
  have KN:Hid (PD B b (s++fU L) w2):=zh ⟨.inr (by rw [<-HY.out,Lib.byteCells_append];exact cB),Nat.le_trans Eh.2 D6.size⟩
  have uv:=zh (Below.trans2 (Below.gb fu ik) D6)
  have QC:=zh (bU.trans (bU.none fu) ao)
  have Z:=(cell?_of_block (a:=⟨fg,fo+6,none⟩) (D6.block fg Yb)).trans Z
  have bN:=zn bN D6.size
  have H:=fun O=>Ia _ _ KN (zh (by rw [Q2];exact NO)) O
  clear cB D6 ao ZJ Ia
  by_cases E:m=A
  ·have e2:((m:Int) == (A:Int))=true:=beq_iff_eq.2 (by omega)
   have Fn:(m == A)=true:=beq_iff_eq.2 E
   have R:=zh E
   have Y:=H 93
   clear E H
   go_wp2_with fail
   refine Y.mono ?_
   rintro G w3 ⟨rfl,jL,fa,U⟩
   go_wp2_with fail
   refine bodyPost_end (results_none rfl _ _ _) rfl ?_
   exact⟨rfl,by rw [Ee.out,if_pos R.out];exact jL,Below.trans2 uv fa,bU.trans QC U⟩
  ·have e2:=yi (m:Int) (A:Int)
   have Fn:(m == A)=false:=xz.2 E
   have R:=zh E
   have Y:=H 32
   clear E H
   go_wp2_with fail
   refine Y.mono ?_
   rintro G w3 ⟨rfl,jL,fa,U⟩
   go_wp2_with fail
   refine bodyPost_end (results_none rfl _ _ _) rfl ?_
   exact⟨rfl,by rw [Ee.out,if_neg R.out];exact jL,Below.trans2 uv fa,bU.trans QC U⟩
 ·have e1:=yi (m:Int) 0
  have uw:(m == 0)=false:=xz.2 I
  have NO:Hid (s.length+1<=1000000):=zh (by have h:=fP.out;omega)
  have Ee:Hid (stD s L m=s++(if m=A then [93] else [32])):=zh (by rw [HE.out,if_neg I];rfl)
  have H:=fun O=>Ia _ _ HP NO O
  clear I HE fP SP Ia
  by_cases E:m=A
  ·have e2:((m:Int) == (A:Int))=true:=beq_iff_eq.2 (by omega)
   have Fn:(m == A)=true:=beq_iff_eq.2 E
   have R:=zh E
   have Y:=H 93
   clear E H
   go_wp2_with fail
   refine Y.mono ?_
   rintro G w3 ⟨rfl,jL,fa,U⟩
   go_wp2_with fail
   refine bodyPost_end (results_none rfl _ _ _) rfl ?_
   exact⟨rfl,by rw [Ee.out,if_pos R.out];exact jL,fa,U⟩
  ·have e2:=yi (m:Int) (A:Int)
   have Fn:(m == A)=false:=xz.2 E
   have R:=zh E
   have Y:=H 32
   clear E H
   go_wp2_with fail
   refine Y.mono ?_
   rintro G w3 ⟨rfl,jL,fa,U⟩
   go_wp2_with fail
   refine bodyPost_end (results_none rfl _ _ _) rfl ?_
   exact⟨rfl,by rw [Ee.out,if_neg R.out];exact jL,fa,U⟩
theorem acZ (F:Nat->Prop) (B:Nat) (E:∀k,F k->k<B):Mq stD 40 B B F (PD B B) LD iL where
 below:=E
 box:=Nat.le_refl _
 tell:=fun A H w R _ Y J U O=>R3 F B B E A H w R Y J U O
 mono:=fun A ak ao h=>by unfold LD stD at h;unfold LD;rw [Q2] at h;omega
 kids:=fun ak k h L=>Dr h L
 grown:=fun A w Z h m=>h.gb m
 placed:=fun A w Z ap cs h m I G=>⟨IC h.1 m I (by decide) G,Nat.le_trans h.2 m.size⟩
theorem EAt.box {F:Nat->Prop} {w:World} {x:Ex} {q:List Value} (h:EAt F w x q):jq (fun m=>m<=w.heap.size) (w.alloc (.cells q.toArray 60)) w.heap.size 0 x:=
 ⟨Nat.le_refl _,by simp,q,h.len,fun E G A=>by
  rw [Nat.zero_add];unfold World.cell?;rw [show(⟨w.heap.size,E,none⟩:Addr).block=w.heap.size from rfl,YK w];simpa using A,
  (h.bound.mono (fun m B=>Nat.le_of_lt B.2)).kept (qn w _ none)⟩
theorem AD (F:Nat->Prop) (x:Ex) (q:List Value) (w:World) (hx:EAt F w x q) (hs:iL x) (hc:mF x<=1000000) (hD:(cL x).length<=1000000):
  Calls Tryz.prog 19 #[.agg q.toArray] w (pq (cL x) w):=by
 have R:=hx.box
 have HS:=zh hs;have HC:=zh hc;have HD:=zh hD
 obtain⟨A,B,E,G,H,I,J,L,rfl⟩:∃A B E G H I J L,q = [A,B,E,G,H,I,J,L]:=by
  have:=hx.len
  match q,this with
  | [A,B,E,G,H,I,J,L],_=>exact⟨_,_,_,_,_,_,_,_,rfl⟩
 have hA:=qn w (.cells #[A,B,E,G,H,I,J,L] 60) none
 clear hx hs hc hD
 go_enter Tryz.func19,Tryz.ntmps19
 go_wp2_with fail
 change jq _ (w.alloc (.cells #[A,B,E,G,H,I,J,L] 60)) _ _ _ at R
 obtain⟨m,Y⟩:=zx w.heap.size
 have fG:(w.alloc (.cells #[A,B,E,G,H,I,J,L] 60)).heap.size=m+1:=by simp [Y]
 generalize (w.alloc (.cells #[A,B,E,G,H,I,J,L] 60))=O at *
 have Z:=GP O (m+1) (by omega)
 have mD:=qn O (.cells #[.pointer none,.slice none 0 0] 96) none
 have PP:(O.alloc (.cells #[.pointer none,.slice none 0 0] 96)).heap.size=m+2:=by simp [fG]
 generalize (O.alloc (.cells #[.pointer none,.slice none 0 0] 96))=WB at *
 rw [fG] at Z
 rw [Y] at R ⊢
 have cB:=(R.same (S:=fun _=>False) (Fr2.none mD) (fun _ _ h=>h))
 have HW:=zh (Ik _ (.inr rfl) stD (m+1) (m+1) _ (PD (m+1) (m+1)) LD iL (acZ (fun ak=>ak<=m) (m+1) (fun ak hk=>by omega)) x m 0 [] WB ⟨Z,by omega⟩ cB (by omega) HC (by rw [EB];exact HD) HS)
 have HG:Hid (w.grownBy WB none):=zh (aa hA mD)
 have bS:Hid (w.heap.size=m):=zh Y
 have aq:Hid (WB.heap.size=m+2):=zh PP
 clear R cB Z PP mD fG hA Y
 refine HW.mono ?_
 rintro ap W3 ⟨rfl,U,DB⟩
 rw [EB,nil_append] at U
 have Ov:=zh (Tryz.Builder_String_any_k (m+1) (m+1) _ W3 (Lib.IsBuilderF.of U.1) U.2)
 have ao:=zh DB
 clear U DB HW
 go_wp2_with fail
 refine Ov.mono ?_
 rintro ap w7 ⟨rfl,-,Dy,-⟩
 have cG:Hid (w.grownBy w7 none):=zh (bj (Below.mono (Below.trans2 (Below.gb HG (by rw [bS.out];exact Nat.le_refl _)) ((Below.trans2 ao Dy).mono (by omega))) (by rw [bS.out];exact Nat.le_refl _)))
 clear Dy
 go_wp2_with fail
 go_ret
 exact⟨⟨_,rfl,rfl⟩,cG⟩
open Go.RowKit Go.World
mutual
def cY:Ex->Nat
 | .mk _ _ _ _ _ m _=>1+iI m
def iI:List Ex->Nat
 | []=>0
 | k::l=>cY k+iI l
end
def stS (n:Nat) (_:Ex) (d:Nat):Nat:=if d=0 then n+1 else n
mutual
theorem Fl:∀(x:Ex) (n:Nat),uy stS x n=n+cY x
 | .mk op nm md nu ys ks ps,n=>by
   simp only [uy,cY]
   rw [show stS n (.mk op nm md nu ys ks ps) 0=n+1 from rfl,M5 _ 0 ks];omega
theorem M5 (x:Ex):∀(j:Nat) (l:List Ex) (n:Nat),tq stS x j l n=n+iI l
 | j,[],n=>by simp [tq,iI]
 | j,k::l,n=>by
   simp only [tq,iI]
   rw [Fl k,show stS (n+cY k) x (j+1)=n+cY k from rfl,M5 x (j+1) l];omega
end
def PS (b n:Nat) (w:World):Prop:=w.heap[b]? = some (.cells #[.int .i64 (n:Int)] 3 (0,0))
def LS (n:Nat):Prop:=n<=1000000
theorem PS.set {b n:Nat} {w:World} (h:PS b n w) (m:Nat):PS b m (w.setCell ⟨b,0,none⟩ (.int .i64 (m:Int))):=by
 unfold PS at h ⊢
 simp only [World.setCell,Array.getElem?_modify,h];simp
theorem Rz (b:Nat) (n:Nat) (d:Nat) (G:Value) (w:World) (A:PS b n w) (B:LS (if d=0 then n+1 else n)):
  Calls Tryz.prog 42 #[G,.int .i64 (d:Int),.pointer (some ⟨b,0,none⟩)] w (fun H E=>H=.returned (.tuple #[])/\PS b (if d=0 then n+1 else n) E/\Below b w E/\bU b w E):=by
 have R:=jJ A
 have Z:w.cell? ⟨b,0,none⟩=some (.int .i64 (n:Int)):=by unfold World.cell?;unfold PS at A;simp [A]
 have Y:w.frozen? ⟨b,0,none⟩=false:=by unfold PS at A;simp [World.frozen?,A]
 go_enter Tryz.func42,Tryz.ntmps42
 by_cases m:d=0
 ·have I:((d:Int) == 0)=true:=by rw [m];rfl
  have O:(d == 0)=true:=by rw [m];rfl
  rw [if_pos m] at B ⊢
  have ao:IntKind.i64.wrap ((n:Int)+1)=((n+1:Nat):Int):=by unfold LS at B;rw [IntWalk.i64_in _ (by omega)];omega
  clear m
  go_wp2_with fail
  refine bodyPost_end (results_none rfl _ _ _) rfl ?_
  exact⟨rfl,A.set (n+1),(Below.refl b w).setCell (Nat.le_refl _) _,fun ak cs U J _ L=>by rw [Below.heap_setCell _ _ _ _ (by exact L)];exact J⟩
 ·have I:=yi (d:Int) 0
  have O:(d == 0)=false:=xz.2 m
  rw [if_neg m] at B ⊢
  clear m
  go_wp2_with fail
  refine bodyPost_end (results_none rfl _ _ _) rfl ?_
  exact⟨rfl,A,Below.refl b w,fun _ _ _ h _ _=>h⟩
theorem Z7 (F:Nat->Prop) (B:Nat) (I:∀k,F k->k<B):Mq stS 42 B B F (PS B) LS (fun _=>True) where
 below:=I
 box:=Nat.le_refl _
 tell:=fun m H w L _ hx hd hq J=>Rz B m H.d _ w L J
 mono:=fun m ak U h=>by unfold LS stS at h;unfold LS;split at h<;>omega
 kids:=fun _ _ _ _=>trivial
 grown:=fun m w O h E=>by unfold PS at h ⊢;exact bx E h
 placed:=fun m w O Y R h E Z G=>by unfold PS at h ⊢;rw [E.block B (jJ h) (fun A=>G (by injection A with A;exact A.symm))];exact h
theorem Xv (F:Nat->Prop) (x:Ex) (q:List Value) (w:World) (hx:EAt F w x q) (hc:mF x<=1000000) (hD:cY x<=1000000):
  Calls Tryz.prog 20 #[.agg q.toArray] w (fun ak w'=>ak=.returned (.int .i64 (cY x:Int))/\w.grownBy w' none):=by
 have U:=hx.box
 have HC:=zh hc;have HD:=zh hD
 obtain⟨A,B,E,G,H,I,J,L,rfl⟩:∃A B E G H I J L,q = [A,B,E,G,H,I,J,L]:=by
  have:=hx.len
  match q,this with
  | [A,B,E,G,H,I,J,L],_=>exact⟨_,_,_,_,_,_,_,_,rfl⟩
 have hA:=qn w (.cells #[A,B,E,G,H,I,J,L] 60) none
 obtain⟨ap,hn⟩:=zx (cY x)
 rw [hn]
 have HN:=zh hn
 clear hx hc hD hn
 go_enter Tryz.func20,Tryz.ntmps20
 go_wp2_with fail
 change jq _ (w.alloc (.cells #[A,B,E,G,H,I,J,L] 60)) _ _ _ at U
 obtain⟨m,Y⟩:=zx w.heap.size
 have fG:(w.alloc (.cells #[A,B,E,G,H,I,J,L] 60)).heap.size=m+1:=by simp [Y]
 generalize (w.alloc (.cells #[A,B,E,G,H,I,J,L] 60))=R at *
 have Z:PS (m+1) 0 (R.alloc (.cells #[.int .i64 0] 3)):=by unfold PS;rw [<-fG];exact YK R _
 have mD:=qn R (.cells #[.int .i64 0] 3) none
 have PP:(R.alloc (.cells #[.int .i64 0] 3)).heap.size=m+2:=by simp [fG]
 generalize (R.alloc (.cells #[.int .i64 0] 3))=WB at *
 rw [Y] at U ⊢
 have cB:=(U.same (S:=fun _=>False) (Fr2.none mD) (fun _ _ h=>h))
 have HW:=zh (Ik _ (.inl rfl) stS (m+1) (m+1) _ (PS (m+1)) LS (fun _=>True) (Z7 (fun ao=>ao<=m) (m+1) (fun ao hk=>by omega)) x m 0 0 WB Z cB (by omega) HC (by rw [Fl,Nat.zero_add];exact HD) trivial)
 have HG:Hid (w.grownBy WB none):=zh (aa hA mD)
 have bS:Hid (w.heap.size=m):=zh Y
 clear U cB Z PP mD fG hA Y
 refine HW.mono ?_
 rintro ak W3 ⟨rfl,O,DB⟩
 rw [Fl,Nat.zero_add] at O
 rw [HN.out] at O
 have Z:=jJ O
 have c0:W3.cell? ⟨m+1,0,none⟩=some (.int .i64 (ap:Int)):=by unfold World.cell?;unfold PS at O;simp [O]
 have cG:Hid (w.grownBy W3 none):=zh (bj (Below.mono (Below.trans2 (Below.gb HG (by rw [bS.out];exact Nat.le_refl _)) (DB.mono (by omega))) (by rw [bS.out];exact Nat.le_refl _)))
 clear DB HW O
 go_wp2_with fail
 go_ret
 exact⟨rfl,cG⟩
open Go.RowKit List Nat Go.World
mutual
def ja:Ex->List Int
 | .mk _ _ _ _ _ m A=>(A:Int)::ix m
def ix:List Ex->List Int
 | []=>[]
 | k::l=>ja k++ix l
end
theorem sU:∀ {l:List Ex} {j:Nat} {k:Ex},l[j]? = some k->ix (l.take (j+1))=ix (l.take j)++ja k
 | [],j,k,h=>by simp at h
 | y::l,0,k,h=>by simp at h;subst h;simp [ix]
 | y::l,j+1,k,h=>by
   have m:=sU (l:=l) (j:=j) (k:=k) (by simpa using h)
   rw [take_succ_cons,take_succ_cons];simp only [ix];rw [m,append_assoc]
theorem kS:∀(l:List Ex) (j:Nat),(ix (l.take j)).length<=(ix l).length
 | [],j=>by simp
 | y::l,0=>by simp [ix]
 | y::l,j+1=>by
   have:=kS l j
   rw [take_succ_cons];simp only [ix,Q2];omega
theorem re:∀ {l:List Ex} {j:Nat} {k:Ex},l[j]? = some k->cY k<=iI l
 | [],j,k,h=>by simp at h
 | y::l,0,k,h=>by simp at h;subst h;simp [iI]
 | y::l,j+1,k,h=>by
   have:=re (l:=l) (j:=j) (k:=k) (by simpa using h)
   simp only [iI];omega
theorem CX:ix [] = []:=by simp [ix]
mutual
theorem kf:∀x:Ex,(ja x).length=cY x
 | .mk G B A E I m H=>by simp only [ja,cY,hJ];rw [qF m];omega
theorem qF:∀l:List Ex,(ix l).length=iI l
 | []=>by simp [ix,iI]
 | k::l=>by simp only [ix,iI,Q2];rw [kf k,qF l]
end
theorem Nq (x:Ex):1<=cY x:=by cases x;simp only [cY];omega
theorem vJ:∀l:List Ex,l.length<=iI l
 | []=>zero_le _
 | k::l=>by have:=vJ l;have:=Nq k;simp only [iI,hJ];omega
def iV (l:List Int) (w:World) (e:Ending) (A:World):Prop:=w.grownBy A none/\∃m B,e=.returned (.slice m l.length B)/\VAt A m (ar l)
theorem Wd:∀(n:Nat) (x:Ex),cY x<=n->∀(F:Nat->Prop) (q:List Value) (w:World),EAt F w x q->(ja x).length<=1000000->
  Calls Tryz.prog 15 #[.agg q.toArray] w (iV (ja x) w):=by
 intro n
 induction n with
 | zero=>intro x Y;cases x;simp [cY] at Y
 | succ n ih=>
   intro x Y F q w I hl
   cases x with
   | mk op nm md nu ys B A=>
     simp only [EAt] at I
     obtain⟨s,pw,nw,cw,pk,ck,bd,rfl,-,hg,eh,-⟩:=I
     unfold aD
     generalize (⟨nm.toArray⟩:ByteArray)=ao at *
     generalize (⟨md.toArray⟩:ByteArray)=ap at *
     obtain⟨G,dU⟩:=zx B.length
     have lH:=zh dU
     have HG:=zh hg;have fc:=zh eh;have HN:=zh Y;have HL:=zh hl;have IH:=zh ih
     have uH:G<=1000000:=by
      have h1:=vJ B
      rw [<-qF] at h1
      simp only [ja,hJ] at hl
      omega
     obtain⟨AT,Wa⟩:=zx (ja (Ex.mk op nm md nu ys B A))
     have ay:=zh Wa
     rw [dU,Wa]
     clear hg eh Y hl ih dU Wa
     go_enter Tryz.func15,Tryz.ntmps15
     go_wp2_with fail
     have kt:=qn w (.cells #[.int .i64 (op:Int),.string ao,.string ap,.bool s,.slice pw nw cw,.bool ys,.slice pk G ck,.int .i64 (A:Int)] 60) none
     have rW:(w.alloc (.cells #[.int .i64 (op:Int),.string ao,.string ap,.bool s,.slice pw nw cw,.bool ys,.slice pk G ck,.int .i64 (A:Int)] 60)).heap.size=w.heap.size+1:=by simp
     generalize (w.alloc (.cells #[.int .i64 (op:Int),.string ao,.string ap,.bool s,.slice pw nw cw,.bool ys,.slice pk G ck,.int .i64 (A:Int)] 60))=J at *
     have hO:=iG.new J (w.heap.size+1) (A:Int) (w.heap.size+1) rW (Nat.le_refl _)
     have mD:=qn J (.cells #[.int .i64 (A:Int)] 3) none
     generalize (J.alloc (.cells #[.int .i64 (A:Int)] 3))=WB at *
     obtain⟨H,hb⟩:=zx w.heap.size
     rw [hb] at rW hO ⊢
     have py:=zh rW;have xC:=zh kt;have Yb:=zh mD
     have SH:Hid (ag 1 3 WB (H+1) (.slice (some ⟨H+1,0,none⟩) 1 1) (one (ar ((A:Int)::ix (B.take 0))))):=zh (by rw [take_zero,CX];exact hO)
     clear kt rW hO mD hb
     go_loopw [3,12] (fun ak L wr=>∃m:Nat,m<=G/\L=.int .i64 m/\Hid (ag 1 3 wr (H+1) ak (one (ar ((A:Int)::ix (B.take m)))))/\Hid (J.grownBy wr none)) (fun _ L _=>G - (intOf L).toNat)
     case atStart=>exact⟨0,zero_le _,rfl,SH,Yb⟩
     case round=>
      clear SH
      obtain⟨m,hk,rfl,O,ij⟩:=hrel
      have R:Hid (w.grownBy wr none):=zh (aa xC ij)
      by_cases hlt:m<G
      ·have d3:=zE ((m:Int)<(G:Int))
       have Yv:decide (m<G)=true:=zd hlt
       obtain⟨x,I⟩:∃x,B[m]? = some x:=⟨B[m]'(by rw [lH.out];exact hlt),QS _⟩
       obtain⟨qx,pY,ML⟩:=wT fc I
       have cu:=zh (sU I)
       have qv:Hid (cY x<=n):=zh (by have:=re I;have:=HN.out;simp only [cY] at this;omega)
       have uu:=zh (ML.kept R)
       obtain⟨a5,a8,rfl,bN,E⟩:=HG.resolve_left (fun aq=>by rw [aq] at pY;simp at pY)
       have Z:Hid ((ja x).length<=1000000/\(one (ar ((A:Int)::ix (B.take m)))).length<=1000000):=zh (by
        have h1:=HL.out
        have h2:=kS B (m+1)
        rw [cu.out,Q2] at h2
        simp only [ja,hJ] at h1
        rw [dM,bh,hJ];omega)
       have Ec:=zh (fun W h=>IH.out x qv (fun m=>F m) qx W h Z.1)
       cases x with
       | mk a0 av au aX a2 mE a1=>
         simp only [EAt] at ML
         obtain⟨s',bc,a7,a4,a9,a3,bi,rfl,-⟩:=ML
         unfold aD at *
         generalize (⟨av.toArray⟩:ByteArray)=y' at *
         generalize (⟨au.toArray⟩:ByteArray)=z' at *
         generalize aL:mE.length=a6 at *
         have E:=fun L ak h=>R.cell (E m _ pY L ak h) (by simp)
         have c0:=E 0 _ rfl
         have c1:=E 1 _ rfl
         have c2:=E 2 _ rfl
         have c3:=E 3 _ rfl
         have c4:=E 4 _ rfl
         have c5:=E 5 _ rfl
         have c6:=E 6 _ rfl
         have c7:=E 7 _ rfl
         rw [Nat.add_zero] at c0
         have bN:=zn bN R.size
         obtain⟨ax,B1⟩:=zx (ja (Ex.mk a0 av au aX a2 mE a1))
         rw [B1] at Z cu Ec
         clear I pY E aL B1
         go_wp2_with fail
         refine(Ec _ (uu.kept (qn wr _ none))).mono ?_
         rintro aq w7 ⟨dV,p7,VA,rfl,xI⟩
         have U:Hid (wr.grownBy w7 none):=zh (aa (qn wr _ none) dV)
         have Z0:=zh xI
         have fh:Hid (ag 1 3 w7 (H+1) u3 (one (ar ((A:Int)::ix (B.take m))))):=zh (O.kept U)
         have tQ:Hid (H+1<=w7.heap.size):=zh (by have:=U.size;have:=ij.size;have:=py.out;omega)
         clear dV xI Ec c0 c1 c2 c3 c4 c5 c6 c7 bN O
         go_wp2_with (at_builtin;go_loud (refine jA (s:=1) (t:=52) (T:=3) (by decide) Tryz.underlying52 zm rfl (by omega) rfl _ _ rfl (H+1) (one (ar ((A:Int)::ix (B.take m)))) (one (ar ax)) (lS (gX _)) u3 rfl fh p7 ax.length VA rfl (by rw [dM,bh]) (FP Z0) Z.2 Z.1 tQ.out ?_))
         intro p9 n9 aJ w9 aO fM uJ _
         have jN:Hid (ag 1 3 w9 (H+1) (.slice p9 n9 aJ) (one (ar ((A:Int)::ix (B.take (m+1)))))):=zh (by rw [cu.out,<-cons_append,fs,jY];exact fM)
         have bF:Hid (J.grownBy w9 none):=zh (bj (Below.trans2 (dF (aa ij U)) (by rw [py.out];exact uJ)))
         clear fM uJ U Z0 tQ aO fh
         go_wp2_with fail
         go_roundw
         case rel=>exact⟨m+1,by omega,by go_num,jN,bF⟩
         case measure=>(simp [intOf]<;>omega)
      ·obtain rfl:m=G:=by omega
       have qU:(A:Int)::ix (B.take m)=AT:=by
        rw [<-ay.out,V7 (by rw [lH.out];exact Nat.le_refl _)];simp only [ja]
       obtain⟨p9,c9,e9,xP,-⟩:=O.is
       rw [dM,bh,qU] at e9
       rw [qU] at xP
       subst e9
       have WF:=zh (xg xP)
       clear xP qU O
       go_wp2_with fail
       go_ret
       exact⟨R,_,_,rfl,WF⟩
open Go.RowKit List
mutual
def RAt (F:Nat->Prop) (w:World):Ex->List Value->Prop
 | .mk op nm md nu ys ks ps,q=>∃m E B,q = [.int .i64 (op:Int),aD nm,aD md,aD nu,.bool ys,.slice m ks.length E,.int .i64 (ps:Int)]/\GAt 7 w m B/\LsR F w ks B/\(ks≠[]->∃A,m=some A/\F A.block)
def LsR (F:Nat->Prop) (w:World):List Ex->List (List Value)->Prop
 | [],r=>r = []
 | x::l,r=>∃m A,r=m::A/\RAt F w x m/\LsR F w l A
end
theorem qa {F:Nat->Prop} {w:World}:∀ {l:List Ex} {r:List (List Value)},LsR F w l r->r.length=l.length
 | [],r,h=>by simp only [LsR] at h;rw [h];rfl
 | x::l,r,h=>by
   simp only [LsR] at h
   obtain⟨A,B,rfl,-,m⟩:=h
   rw [hJ,qa m];rfl
theorem Bj {F:Nat->Prop} {w:World}:∀ {l:List Ex} {r:List (List Value)} {j:Nat} {x:Ex},LsR F w l r->l[j]? = some x->∃q,r[j]? = some q/\RAt F w x q
 | [],r,j,x,h,hx=>by simp at hx
 | y::l,r,j,x,h,hx=>by
   simp only [LsR] at h
   obtain⟨q,H,rfl,m,A⟩:=h
   match j,hx with
   | 0,hx=>simp at hx;subst hx;exact⟨q,rfl,m⟩
   | j+1,hx=>
     obtain⟨G,B,E⟩:=Bj A (j:=j) (by simpa using hx)
     exact⟨G,by simpa using B,E⟩
theorem Hs {F:Nat->Prop} {w:World} {x:Ex} {q:List Value} (m:RAt F w x q):∀ {l:List Ex} {r:List (List Value)},LsR F w l r->LsR F w (l++[x]) (r++[q])
 | [],r,h=>by simp only [LsR] at h;subst h;simp only [nil_append,LsR];exact⟨q,[],rfl,m,rfl⟩
 | y::l,r,h=>by
   simp only [LsR] at h
   obtain⟨E,G,rfl,A,B⟩:=h
   simp only [cons_append,LsR]
   exact⟨E,_,rfl,A,Hs m B⟩
theorem zY {S F:Nat->Prop} {w B:World} {p:Option Addr} {A:List (List Value)} {n:Nat} (R:A.length=n) (h:GAt 7 w p A) (H:0<n->∃a,p=some a/\F a.block) (L:Fr2 S w B) (I:∀k,F k->¬S k):GAt 7 B p A:=
 h.keptS L (fun E a J=>by
  obtain⟨O,m,G⟩:=H (by have:=length_pos_iff.2 E;omega)
  rw [J] at m;injection m with m;subst m;exact I _ G)
mutual
theorem RAt.same {F S:Nat->Prop} {w G:World} (E:Fr2 S w G) (B:∀k,F k->¬S k):∀ {x:Ex} {q:List Value},RAt F w x q->RAt F G x q
 | .mk op nm md nu ys ks ps,q,h=>by
   simp only [RAt] at h ⊢
   obtain⟨O,H,R,J,L,m,A⟩:=h
   exact⟨O,H,R,J,zY (qa m) L (fun I=>A (length_pos_iff.1 I)) E B,LsR.same E B m,A⟩
theorem LsR.same {F S:Nat->Prop} {w B:World} (A:Fr2 S w B) (m:∀k,F k->¬S k):∀ {l:List Ex} {r:List (List Value)},LsR F w l r->LsR F B l r
 | [],r,h=>by simp only [LsR] at h ⊢;exact h
 | x::l,r,h=>by
   simp only [LsR] at h ⊢
   obtain⟨I,J,E,G,H⟩:=h
   exact⟨I,J,E,RAt.same A m G,LsR.same A m H⟩
end
mutual
theorem RAt.mono {F F':Nat->Prop} {w:World} (m:∀k,F k->F' k):∀ {x:Ex} {q:List Value},RAt F w x q->RAt F' w x q
 | .mk op nm md nu ys ks ps,q,h=>by
   simp only [RAt] at h ⊢
   obtain⟨R,B,U,G,H,I,J⟩:=h
   exact⟨R,B,U,G,H,LsR.mono m I,fun E=>by obtain⟨A,O,L⟩:=J E;exact⟨A,O,m _ L⟩⟩
theorem LsR.mono {F F':Nat->Prop} {w:World} (m:∀k,F k->F' k):∀ {l:List Ex} {r:List (List Value)},LsR F w l r->LsR F' w l r
 | [],r,h=>by simp only [LsR] at h ⊢;exact h
 | x::l,r,h=>by
   simp only [LsR] at h ⊢
   obtain⟨G,H,A,B,E⟩:=h
   exact⟨G,H,A,RAt.mono m B,LsR.mono m E⟩
end
theorem RAt.kept {F:Nat->Prop} {w m:World} {x:Ex} {q:List Value} (h:RAt F w x q) (A:w.grownBy m none):RAt F m x q:=RAt.same (S:=fun _=>False) (Fr2.none A) (fun _ _ h=>h) h
theorem LsR.kept {F:Nat->Prop} {w m:World} {l:List Ex} {r:List (List Value)} (h:LsR F w l r) (A:w.grownBy m none):LsR F m l r:=LsR.same (S:=fun _=>False) (Fr2.none A) (fun _ _ h=>h) h
mutual
theorem RAt.bound {F:Nat->Prop} {w:World}:∀ {x:Ex} {q:List Value},RAt F w x q->RAt (fun I=>F I/\I<w.heap.size) w x q
 | .mk op nm md nu ys ks ps,q,h=>by
   simp only [RAt] at h ⊢
   obtain⟨Y,J,Z,O,B,E,R⟩:=h
   refine⟨Y,J,Z,O,B,LsR.bound E,fun A=>?_⟩
   obtain⟨m,G,U⟩:=R A
   have H:=qa E
   exact⟨m,G,U,GAt.blk B (fun L=>by rw [L] at H;exact A (fb H.symm)) m G⟩
theorem LsR.bound {F:Nat->Prop} {w:World}:∀ {l:List Ex} {r:List (List Value)},LsR F w l r->LsR (fun m=>F m/\m<w.heap.size) w l r
 | [],r,h=>by simp only [LsR] at h ⊢;exact h
 | x::l,r,h=>by
   simp only [LsR] at h ⊢
   obtain⟨G,H,A,B,E⟩:=h
   exact⟨G,H,A,RAt.bound B,LsR.bound E⟩
end
theorem RAt.len {F:Nat->Prop} {w:World} {x:Ex} {q:List Value} (h:RAt F w x q):q.length=7:=by
 cases x with
 | mk H E B G O A J=>
   simp only [RAt] at h
   obtain⟨I,m,L,rfl,-⟩:=h
   rfl
theorem RAt.one {F:Nat->Prop} {w:World} {x:Ex} {q:List Value} (h:RAt F w x q):q.length=7/\∀u∈q,u.oneCell'=true:=by
 cases x with
 | mk I G E H R B L=>
   simp only [RAt] at h
   obtain⟨J,A,O,rfl,-⟩:=h
   exact⟨rfl,fun u m=>by simp at m;rcases m with rfl | rfl | rfl | rfl | rfl | rfl | rfl<;>rfl⟩
set_option maxHeartbeats 8000000
open Go.RowKit
theorem uK (W:World) (H:Nat) (Y:Int) (x:UInt8) (E:(x.toNat:Int)=Y) (m:W.heap[H]? = some (.cells #[.int .u8 Y] 5 (0,0))):(convert 94 9 (.slice (some ⟨H,0,none⟩) 1 1)).run Tryz.prog W=.ok (.string ⟨#[x]⟩) W:=by
 subst E
 have:=run_convert_bytes_back (P:=Tryz.prog) W 94 9 5 ⟨H,0,none⟩ 1 [x] Tryz.underlying94 Tryz.underlying5 Tryz.underlying9 (fun G A=>by
  have B:G=0:=by simp at A;omega
  subst B
  rw [Addr.add_lit,hZ _ H (0+0) _ 5 (0,0) m]
  simp)
 exact this
def Fz (l:List UInt8) (w:World) (e:Ending) (m:World):Prop:=w.grownBy m none/\e=.returned (.string ⟨l.toArray⟩)
theorem CH (k:Nat) (m:k<10) (w:World):Calls Tryz.prog 61 #[.int .i64 (k:Int)] w (Fz (eK k) w):=by
 have B:=zE ((k:Int)<10)
 have G:decide (k<10)=true:=zd m
 have E:=uK (w.alloc (.cells #[.int .u8 (48+(k:Int))] 5)) w.heap.size (48+(k:Int)) (UInt8.ofNat (48+k)) (by rw [UInt8.toNat_ofNat'];omega) (YK _ _)
 have A:Hid (eK k = [UInt8.ofNat (48+k)]):=zh (by unfold eK;rw [if_pos m])
 generalize UInt8.ofNat (48+k)=H at *
 go_enter Tryz.func61,Tryz.ntmps61
 go_wp2_with fail
 go_ret
 exact⟨af (ad _ _) _,by rw [A.out];rfl⟩
theorem CF (k:Nat) (h1:k<100) (w:World):Calls Tryz.prog 61 #[.int .i64 (k:Int)] w (Fz (eK k) w):=by
 by_cases J:k<10
 ·exact CH k J w
 ·have d1:=zX ((k:Int)<10)
  have ml:decide (k<10)=false:=VW J
  obtain⟨A,U⟩:=zx (k / 10)
  have hq:(k:Int).tdiv 10=(A:Int):=by rw [Int.tdiv_eq_ediv_of_nonneg (by omega)];omega
  have Z:A<10:=by omega
  obtain⟨m,Y⟩:=zx (k % 10)
  have hr:(k:Int).tmod 10=(m:Int):=by rw [Int.tmod_eq_emod_of_nonneg (by omega)];omega
  have aq:m<10:=by omega
  have ay:IntKind.i64.wrap (48+(m:Int))=48+(m:Int):=IntWalk.i64_in _ (by omega)
  have aJ:IntKind.u8.wrap (48+(m:Int))=48+(m:Int):=by rw [IntKind.wrap_u8];omega
  have aL:IntKind.i64.wrap (A:Int)=(A:Int):=IntWalk.i64_in _ (by omega)
  obtain⟨B,L⟩:=zx (UInt8.ofNat (48+m))
  have Wf:(B.toNat:Int)=48+(m:Int):=by rw [<-L,UInt8.toNat_ofNat'];omega
  obtain⟨R,O⟩:=zx (UInt8.ofNat (48+A))
  have HD:Hid (eK k = [R,B]):=zh (by unfold eK;rw [if_neg J,U,Y,L,O])
  have ao:Hid (eK A = [R]):=zh (by unfold eK;rw [if_pos Z,O])
  have ak:=zh (fun W H hb=>uK W H (48+(m:Int)) B Wf hb)
  have H1:=zh (fun W=>(show Calls Tryz.prog 61 #[.int .i64 (A:Int)] W (Fz [R] W) from by rw [<-ao.out];exact CH A Z W))
  have Uw:=uK (w.alloc (.cells #[.int .u8 (48+(m:Int))] 5)).drew w.heap.size (48+(m:Int)) B Wf (YK w _)
  have ap:=zh Wf
  clear L Wf Y U O
  go_enter Tryz.func61,Tryz.ntmps61
  go_wp2_with fail
  go_region_with (go_at_call 61;refine(H1 _).mono ?_;rintro au E ⟨I,rfl⟩;have G:=zh I;have av:=uK (E.alloc (.cells #[.int .u8 (48+(m:Int))] 5)) E.heap.size (48+(m:Int)) B ap (YK E _);try (have ax:=ak E w.heap.size (bx I (YK w _)));clear I)
  all_goals
   go_wp2_with fail
   go_ret
   refine⟨?_,by rw [HD.out];rfl⟩
   first
    | exact af (aa (aC (ad _ _)) G) _
    | exact aa (aC (af (ad _ _) _)) G
    | exact aa (af (aC (ad _ _)) _) G
open Go.RowKit List Nat
def lV (b bb:Nat) (T:List Tok) (D n k:Nat) (A0:Nat->Prop) (bt:Value) (w0:World) (s:St) (r:RT) (N:List Nd) (L:List (Value×Th)) (e:Ending) (w':World):Prop:=
 ∃(B:Value) (m:List Int) (A:List Nd) (E:Value),e=.returned B/\KX b bb T D n A0 bt w0 w' r.2 r.2.i A E ((B,.ints m)::L)/\cD k N s r A m/\(s.e≠0->r.2.e≠0)/\m.length<=300
theorem lV.eqv {b bb:Nat} {T:List Tok} {D n k:Nat} {A0:Nat->Prop} {bt:Value} {w0:World} {s:St} {r r':RT} {N:List Nd} {L:List (Value×Th)} {e:Ending} {w':World} (h:lV b bb T D n k A0 bt w0 s r N L e w') (m:Eqv r r'):lV b bb T D n k A0 bt w0 s r' N L e w':=by
 obtain⟨O,R,A,B,E,G,H,I,J⟩:=h
 exact⟨O,R,A,B,E,m.1▸G,H.eqv m,fun h=>by rw [<-m.1];exact I h,J⟩
def nG (g:Nat):Value:=.slice (some ⟨g,0,none⟩) 1 1
def pL (b:Nat):Th:=.box (.pointer (some ⟨b,0,none⟩))
def QO (b bb:Nat) (T:List Tok) (D n:Nat) (P:St->Prop) (f:Nat) (sub:St->RT):Prop:=
 ∀(A0:Nat->Prop) (bt:Value) (w0 w:World) (s:St) (N:List Nd) (vn:Value) (L:List (Value×Th)) (m:Nat),P s->KX b bb T D n A0 bt w0 w s s.i N vn L->(nG m,pL b)∈L->Calls Tryz.prog f #[.pointer (some ⟨m,0,none⟩)] w (jX b bb T D n 0 A0 bt w0 s (sub s) N L)
section
variable {b bb:Nat} {T:List Tok} {D n:Nat} {A0:Nat->Prop} {bt:Value} {w0 w w':World} {s:St} {u:Nat} {N:List Nd} {vn:Value} {L:List (Value×Th)}
theorem KX.room (h:KX b bb T D n A0 bt w0 w s u N vn L):N.length<=2*u:=by
 obtain⟨A,m,-⟩:=h
 exact m.few
theorem KX.boxc {g:Nat} {x:Value} (h:KX b bb T D n A0 bt w0 w s u N vn L) (H:(nG g,Th.box x)∈L):w.cell? ⟨g,0,none⟩=some x:=by
 obtain⟨A,R,U,E,-⟩:=h
 obtain⟨O,B,G⟩:=(E _ H).1
 unfold nG at B
 injection B with m I J
 injection m with m
 injection m with m
 rw [m];exact G
theorem qh (w:World) (x:Int):VAt (w.alloc (.cells #[.int .i64 x] 3)) (some ⟨w.heap.size,0,none⟩) (ar [x]):=by
 refine .inr ⟨w.heap.size,0,rfl,by simp,fun A B m=>?_⟩
 rw [Nat.zero_add,hZ _ _ A _ _ (0,0) (YK w _)]
 simpa [ar] using m
end
section
variable (b bb:Nat) (T:List Tok) (D n:Nat)
theorem zB (hC:dC T) (sub:St->RT) (hS:QO b bb T D n (fun s=>s.inn=false) 175 sub) (hI:∀s,s.inn=false->(sub s).2.inn=false) {A0:Nat->Prop} {bt:Value} {w0 w:World} {s:St} {N:List Nd} {vn:Value} {L:List (Value×Th)} {g:Nat} (U:KX b bb T D n A0 bt w0 w s s.i N vn L) (hm:(nG g,pL b)∈L) (hi:s.inn=false):
  Calls Tryz.prog 115 #[.pointer (some ⟨b,0,none⟩),.func (.func 175) #[] #[.pointer (some ⟨g,0,none⟩)]] w (lV b bb T D n 0 A0 bt w0 s (fi T sub s) N L):=by
 have aJ:=zh hC;have HS:=zh hS;have HI:=zh hI;have HM:=zh hm;have O:=zh hi
 have A:=zh U
 obtain⟨ak,hR⟩:=zx (fi T sub s)
 have Kg:Hid (isQ T [41] s=true->ak=([],s)):=zh (fun h=>by rw [<-hR];unfold fi;rw [if_pos h])
 have ay:Hid (isQ T [41] s=false->iz T sub 8 ([],s)=ak):=zh (fun h=>by rw [<-hR];unfold fi;rw [if_neg (by rw [h];decide)])
 rw [hR]
 clear hC hS hI hm U hi hR
 go_enter Tryz.func115,Tryz.ntmps115
 go_wp2_with fail
 refine(KX.at (ws:=[[41]]) (A.strs1 _ _) (Yu ..) (by decide)).mono ?_
 rintro Z w1 ⟨rfl,U⟩
 have A:=zh (U.few (vi _ _))
 obtain⟨ap,R⟩:=zx (isQ T [41] s)
 rw [at_one aJ.out (by decide),R]
 have HV:=zh R
 clear U R
 cases ap
 ·have E:=zh (ay HV)
  go_wp2_with fail
  go_loopw [5,9] (fun kv jv wr=>∃(B:Nat) (m:RT) (N':List Nd) (cC:Value) (J:List Int),B<=8/\jv=.int .i64 B/\Hid (KX b bb T D n A0 bt w0 wr m.2 m.2.i N' cC ((kv,.ints J)::L))/\Hid (cD 0 N s m N' J)/\Hid (iz T sub (8 - B) m=ak)/\Hid (J.length<=2*B)/\Hid (s.e≠0->m.2.e≠0)/\Hid (m.2.inn=false)) (fun _ jv _=>8 - (intOf jv).toNat)
  case atStart=>exact⟨0,([],s),N,vn,[],zero_le _,rfl,zh A.nilS,zh (cD.nil N s),E,zh (Nat.le_refl _),zh (fun h=>h),O⟩
  case round=>
   clear A E
   obtain⟨B,m,N',cC,J,hj,rfl,A,G,E,I,H,O⟩:=hrel
   by_cases hlt:B<8
   ·have d1:=zE ((B:Int)<8)
    have ml:decide (B<8)=true:=zd hlt
    obtain⟨ao,hm⟩:∃ao,8 - B=ao+1:=⟨7 - B,by omega⟩
    have Ei:=zh hm
    have Jv:Hid (iz T sub (8 - B) m=if isQ T [44] (sub m.2).2=true then iz T sub ao (m.1++(sub m.2).1++(ae T (sub m.2).2).1,(ae T (sub m.2).2).2) else (m.1++(sub m.2).1,(sub m.2).2)):=zh (by rw [hm,iz])
    rw [Jv.out] at E
    clear hm Jv
    go_wp2_with fail
    refine(HS _ _ _ _ _ _ _ _ g O A (Q1 _ HM)).mono ?_
    rintro Z w2 ⟨v9,N9,dj,rfl,aq,au,Y⟩
    have A:=zh aq;have G:=zh (G.app au.out Y);have H:=zh (fun h=>Y (H h));have O:=zh (HI _ O)
    clear aq au Y
    go_wp2_with (at_builtin;go_loud (refine bD rfl _ _ rfl (A.ints1 v9) (vi _ _) rfl rfl (l2:=[v9]) rfl (qh _ _) (by have:=I.out;omega) (by simp) ?_))
    intro aL w3 KW
    have A:=zh KW;have I:Hid ((J++[v9]).length<=2*B+1):=zh (by have:=I.out;rw [Q2];show J.length+1<=_;omega)
    clear KW
    go_wp2_with fail
    refine(KX.at (ws:=[[44]]) (A.strs1 _ _) (Yu ..) (by decide)).mono ?_
    rintro Z w4 ⟨rfl,U⟩
    have A:=zh (U.few (vi _ _))
    obtain⟨ap,R⟩:=zx (isQ T [44] (sub m.2).2)
    rw [at_one aJ.out (by decide),R]
    rw [R] at E
    have HV:=zh R
    clear U R
    cases ap
    ·rw [if_neg (by decide)] at E
     go_wp2_with fail
     go_ret
     rw [<-E.out]
     exact⟨_,_,_,_,rfl,A,G.weak (zero_le _),H,by have:=I.out;omega⟩
    ·rw [if_pos rfl] at E
     have aX:=zh (ah HV)
     go_wp2_with fail
     refine(A.take aJ aX.1 aX.2).mono ?_
     rintro Z w5 ⟨v8,N8,YO,rfl,yC,TB,Wq⟩
     have A:=zh yC;have G:=zh (G.app TB.out Wq);have H:=zh (fun h=>Wq (H h));have O:=zh ((aA T aX.2).inn.trans O)
     clear yC TB Wq
     go_wp2_with (at_builtin;go_loud (refine bD rfl _ _ rfl (A.ints1 v8) (vi _ _) rfl rfl (l2:=[v8]) rfl (qh _ _) (by have:=I.out;omega) (by simp) ?_))
     intro aO w6 my
     have A:=zh my;have I:Hid ((J++[v9,v8]).length<=2*(B+1)):=zh (by have:=I.out;rw [Q2] at this ⊢;simp only [hJ,length_nil] at this ⊢;omega)
     clear my
     have av:Hid (8 - (B+1)=ao):=zh (by have:=Ei.out;omega)
     go_wp2_with fail
     go_roundw
     case rel=>exact⟨B+1,(m.1++(sub m.2).1++(ae T (sub m.2).2).1,(ae T (sub m.2).2).2),N8,YO,J++[v9,v8],by omega,by go_num,A,zh (by have h9:=G.weak (zero_le _);rw [append_assoc J] at h9;exact h9),zh (by rw [av.out];exact E),I,H,O⟩
     case measure=>(simp [intOf]<;>omega)
   ·obtain rfl:B=8:=by omega
    have d1:decide (((8:Nat):Int)<8)=false:=by decide
    have ax:Hid (ak=(m.1,aH T 15 m.2)):=zh (by rw [<-E.out];rfl)
    go_wp2_with fail
    refine(A.fail 15 (by decide)).mono ?_
    rintro Z w2 ⟨v9,N9,dj,rfl,aq,au,Y⟩
    have A:=zh aq;have G:=zh (G.app au.out Y);have H:=zh (fun h=>Y (H h))
    clear aq au Y
    go_wp2_with fail
    go_ret
    rw [ax.out]
    exact⟨_,_,_,_,rfl,A,⟨fun Z=>absurd Z (df T (by decide) _),G.2⟩,H,by have:=I.out;omega⟩
 ·go_wp2_with fail
  go_ret
  rw [Kg.out HV.out]
  exact⟨_,[],N,vn,rfl,A.nilS,cD.nil N s,fun h=>h,by simp⟩
theorem CS (hC:dC T) (sub:St->RT) (hS:QO b bb T D n (fun s=>s.inn=false) 116 sub) (hI:∀s,s.inn=false->(sub s).2.inn=false) {A0:Nat->Prop} {bt:Value} {w0 w:World} {s:St} {N:List Nd} {vn:Value} {L:List (Value×Th)} {g:Nat} (U:KX b bb T D n A0 bt w0 w s s.i N vn L) (hm:(nG g,pL b)∈L) (hi:s.inn=false):
  Calls Tryz.prog 115 #[.pointer (some ⟨b,0,none⟩),.func (.func 116) #[] #[.pointer (some ⟨g,0,none⟩)]] w (lV b bb T D n 0 A0 bt w0 s (fi T sub s) N L):=by
 have aJ:=zh hC;have HS:=zh hS;have HI:=zh hI;have HM:=zh hm;have O:=zh hi
 have A:=zh U
 obtain⟨ak,hR⟩:=zx (fi T sub s)
 have Kg:Hid (isQ T [41] s=true->ak=([],s)):=zh (fun h=>by rw [<-hR];unfold fi;rw [if_pos h])
 have ay:Hid (isQ T [41] s=false->iz T sub 8 ([],s)=ak):=zh (fun h=>by rw [<-hR];unfold fi;rw [if_neg (by rw [h];decide)])
 rw [hR]
 clear hC hS hI hm U hi hR
 go_enter Tryz.func115,Tryz.ntmps115
 go_wp2_with fail
 refine(KX.at (ws:=[[41]]) (A.strs1 _ _) (Yu ..) (by decide)).mono ?_
 rintro Z w1 ⟨rfl,U⟩
 have A:=zh (U.few (vi _ _))
 obtain⟨ap,R⟩:=zx (isQ T [41] s)
 rw [at_one aJ.out (by decide),R]
 have HV:=zh R
 clear U R
 cases ap
 ·have E:=zh (ay HV)
  go_wp2_with fail
  go_loopw [5,9] (fun kv jv wr=>∃(B:Nat) (m:RT) (N':List Nd) (cC:Value) (J:List Int),B<=8/\jv=.int .i64 B/\Hid (KX b bb T D n A0 bt w0 wr m.2 m.2.i N' cC ((kv,.ints J)::L))/\Hid (cD 0 N s m N' J)/\Hid (iz T sub (8 - B) m=ak)/\Hid (J.length<=2*B)/\Hid (s.e≠0->m.2.e≠0)/\Hid (m.2.inn=false)) (fun _ jv _=>8 - (intOf jv).toNat)
  case atStart=>exact⟨0,([],s),N,vn,[],zero_le _,rfl,zh A.nilS,zh (cD.nil N s),E,zh (Nat.le_refl _),zh (fun h=>h),O⟩
  case round=>
   clear A E
   obtain⟨B,m,N',cC,J,hj,rfl,A,G,E,I,H,O⟩:=hrel
   by_cases hlt:B<8
   ·have d1:=zE ((B:Int)<8)
    have ml:decide (B<8)=true:=zd hlt
    obtain⟨ao,hm⟩:∃ao,8 - B=ao+1:=⟨7 - B,by omega⟩
    have Ei:=zh hm
    have Jv:Hid (iz T sub (8 - B) m=if isQ T [44] (sub m.2).2=true then iz T sub ao (m.1++(sub m.2).1++(ae T (sub m.2).2).1,(ae T (sub m.2).2).2) else (m.1++(sub m.2).1,(sub m.2).2)):=zh (by rw [hm,iz])
    rw [Jv.out] at E
    clear hm Jv
    go_wp2_with fail
    refine(HS _ _ _ _ _ _ _ _ g O A (Q1 _ HM)).mono ?_
    rintro Z w2 ⟨v9,N9,dj,rfl,aq,au,Y⟩
    have A:=zh aq;have G:=zh (G.app au.out Y);have H:=zh (fun h=>Y (H h));have O:=zh (HI _ O)
    clear aq au Y
    go_wp2_with (at_builtin;go_loud (refine bD rfl _ _ rfl (A.ints1 v9) (vi _ _) rfl rfl (l2:=[v9]) rfl (qh _ _) (by have:=I.out;omega) (by simp) ?_))
    intro aL w3 KW
    have A:=zh KW;have I:Hid ((J++[v9]).length<=2*B+1):=zh (by have:=I.out;rw [Q2];show J.length+1<=_;omega)
    clear KW
    go_wp2_with fail
    refine(KX.at (ws:=[[44]]) (A.strs1 _ _) (Yu ..) (by decide)).mono ?_
    rintro Z w4 ⟨rfl,U⟩
    have A:=zh (U.few (vi _ _))
    obtain⟨ap,R⟩:=zx (isQ T [44] (sub m.2).2)
    rw [at_one aJ.out (by decide),R]
    rw [R] at E
    have HV:=zh R
    clear U R
    cases ap
    ·rw [if_neg (by decide)] at E
     go_wp2_with fail
     go_ret
     rw [<-E.out]
     exact⟨_,_,_,_,rfl,A,G.weak (zero_le _),H,by have:=I.out;omega⟩
    ·rw [if_pos rfl] at E
     have aX:=zh (ah HV)
     go_wp2_with fail
     refine(A.take aJ aX.1 aX.2).mono ?_
     rintro Z w5 ⟨v8,N8,YO,rfl,yC,TB,Wq⟩
     have A:=zh yC;have G:=zh (G.app TB.out Wq);have H:=zh (fun h=>Wq (H h));have O:=zh ((aA T aX.2).inn.trans O)
     clear yC TB Wq
     go_wp2_with (at_builtin;go_loud (refine bD rfl _ _ rfl (A.ints1 v8) (vi _ _) rfl rfl (l2:=[v8]) rfl (qh _ _) (by have:=I.out;omega) (by simp) ?_))
     intro aO w6 my
     have A:=zh my;have I:Hid ((J++[v9,v8]).length<=2*(B+1)):=zh (by have:=I.out;rw [Q2] at this ⊢;simp only [hJ,length_nil] at this ⊢;omega)
     clear my
     have av:Hid (8 - (B+1)=ao):=zh (by have:=Ei.out;omega)
     go_wp2_with fail
     go_roundw
     case rel=>exact⟨B+1,(m.1++(sub m.2).1++(ae T (sub m.2).2).1,(ae T (sub m.2).2).2),N8,YO,J++[v9,v8],by omega,by go_num,A,zh (by have h9:=G.weak (zero_le _);rw [append_assoc J] at h9;exact h9),zh (by rw [av.out];exact E),I,H,O⟩
     case measure=>(simp [intOf]<;>omega)
   ·obtain rfl:B=8:=by omega
    have d1:decide (((8:Nat):Int)<8)=false:=by decide
    have ax:Hid (ak=(m.1,aH T 15 m.2)):=zh (by rw [<-E.out];rfl)
    go_wp2_with fail
    refine(A.fail 15 (by decide)).mono ?_
    rintro Z w2 ⟨v9,N9,dj,rfl,aq,au,Y⟩
    have A:=zh aq;have G:=zh (G.app au.out Y);have H:=zh (fun h=>Y (H h))
    clear aq au Y
    go_wp2_with fail
    go_ret
    rw [ax.out]
    exact⟨_,_,_,_,rfl,A,⟨fun Z=>absurd Z (df T (by decide) _),G.2⟩,H,by have:=I.out;omega⟩
 ·go_wp2_with fail
  go_ret
  rw [Kg.out HV.out]
  exact⟨_,[],N,vn,rfl,A.nilS,cD.nil N s,fun h=>h,by simp⟩
end
end Go.Proofs.YtpkipghjohomcaaGreatDoor
set_option maxHeartbeats 4000000
namespace Go.Proofs.YtpkipghjohomcaaGreatDoor
open Go.RowKit List
section
variable (b bb:Nat) (T:List Tok) (D n:Nat)
theorem FK (hC:dC T) (hD:D<=200) (hn:n<=D) (hA:cO b bb T D n (fun _=>True) 150 (DW T D n (NT T D n))) (hB:n<D->cO b bb T D (n+1) (fun _=>True) 137 (gp T D (n+1) (NT T D (n+1)))):cO b bb T D n (fun _=>True) 137 (gp T D n (NT T D n)):=by
 intro I ak vn A w hP h
 have J:=zh hC;have uF:=zh hP
 have py:=zh hA
 have qP:=zh (tZ b bb T D n hD hn (fun _=>True) _ hB)
 have Pc:=zh (fun I U=>DK T hn (sub:=gp T D (n+1) (NT T D (n+1))) (sub':=(NT T D n).nots) (fun hlt=>by rw [ro T hlt]) I U)
 have m:=zh (KX.start h)
 have dQ:=zh h.few
 have L:=zh (cD.nil ak I)
 clear h hC hP hD hn hA hB
 go_enter Tryz.func137,Tryz.ntmps137
 go_wp2_with fail
 refine(KX.at (ws:=[[110,111,116]]) (m.strs1 _ _) (Yu ..) (by decide)).mono ?_
 rintro R w1 ⟨rfl,U⟩
 have m:=zh (U.nils)
 obtain⟨b1,hb⟩:=zx (isQ T [110,111,116] I)
 rw [at_one J.out (by decide),hb]
 have lk:=zh hb
 clear U hb
 cases b1
 ·skip
  go_wp2_with fail
  refine(m.sub py trivial).mono ?_
  rintro R w9 ⟨v9,Z,dj,rfl,B,E,G⟩
  have Y:=zh (KX.fin E B G (r':=(gp T D n (NT T D n)) I) (by rw [Qx lk.out];exact Eqv.refl _))
  clear B E G
  go_wp2_with fail
  go_ret
  exact Y
 ·skip
  have H:=zh (ah lk)
  go_wp2_with fail
  have m:=zh m.drew
  go_region_held3 (fun w'=>w'.cell? ⟨b,0,none⟩=some (.pointer (some ⟨bb,0,none⟩))) (with_reducible first | exact m.out.cell | exact(m.out.alloc _).cell | exact((m.out.alloc _).alloc _).cell | exact(((m.out.alloc _).alloc _).alloc _).cell)
   (first
    | (go_at_call 79;(with_reducible first | refine(m.out.take J.out H.out.1 H.out.2).mono ?_ | refine((m.out.strs1 _ _).take J.out H.out.1 H.out.2).mono ?_ | refine(((m.out.strs1 _ _).strs1 _ _).take J.out H.out.1 H.out.2).mono ?_);rintro R w9 ⟨v9,Z,dj,rfl,B,E,G⟩;have m:=zh B;have O:=zh (aZ.app L.out E G);have L:=zh O.out.out;clear B E G)
    | (go_at_call 64;(with_reducible first | refine(m.out.call (fun A h=>qP.out _ _ _ A _ trivial h)).mono ?_ | refine((m.out.strs1 _ _).call (fun A h=>qP.out _ _ _ A _ trivial h)).mono ?_ | refine(((m.out.strs1 _ _).strs1 _ _).call (fun A h=>qP.out _ _ _ A _ trivial h)).mono ?_);rintro R w9 ⟨v9,Z,dj,rfl,B,E,G⟩;have m:=zh B;have O:=zh (aZ.app L.out E G);have L:=zh O.out.out;clear B E G)
    | (go_at_call 50;have lR:=zh (O.weak (j:=0+1) (by decide));refine(KX.node (k:=0) (kind:=11) (m.ints2 _ _ ) ?_ J.len lR.out ?_ dQ.out ?_).mono ?_;exact Yu ..;rfl;simp;rintro R w9 ⟨v9,Z,dj,rfl,B,E⟩;have m:=zh B;have HZ:=zh E;clear B E))
  all_goals
   have Y:=zh (KX.fin HZ m (fun he=>absurd H.2 he) (r':=(gp T D n (NT T D n)) I) (by rw [show gp T D n (NT T D n) I=gL T D n (NT T D n).nots I from if_pos lk.out];exact Pc _ H.2))
   go_wp2_with fail
   go_ret
   exact Y
end
end Go.Proofs.YtpkipghjohomcaaGreatDoor
set_option maxHeartbeats 8000000
namespace Go.Proofs.YtpkipghjohomcaaGreatDoor
open Go.RowKit List Nat Go.World
def Td (l:List Tok) (N:List Nd) (w:World) (e:Ending) (E:World):Prop:=
 w.grownBy E none/\∃B H A I G,e=.returned (.agg #[.slice B l.length H,.slice A N.length I])/\TAt E B l/\l.length<=H/\al E A N G/\(l≠[]->∀m,B=some m->w.heap.size<=m.block)/\(N≠[]->∀m,A=some m->w.heap.size<=m.block)/\Am N G (fun J=>w.heap.size<=J)
theorem CD (b:Nat) (l:List Tok) (u:Nat) (N:List Nd) (vn:Value) (w:World) (hl:l.length<=100000) (hs:vR l) (hN:N.length<=100000) (dU:∀x∈N,x.kids.length<=100000) (h:uq w b l u N vn):
  Calls Tryz.prog 46 #[.pointer (some ⟨b,0,none⟩)] w (Td l N w):=by
 obtain⟨pt,ct,ay,h⟩:=h
 have fA:=h.box
 have HT:=zh (fun W h=>tD l pt ct W hl hs h)
 have rN:=zh h.toks
 obtain⟨pv,cv,e1,lL,-,-,-⟩:=h.own.is
 rw [jD] at e1
 have xF:Hid (al w pv N ay):=zh ⟨lL,h.kids⟩
 have Bf:Hid (∀v w' ao,ag 4 91 w' ao v (nD l)->∃p c,v=.slice p l.length c/\TAt w' p l/\l.length<=c/\(l≠[]->∀A,p=some A->ao<=A.block)):=zh (fun v w' ao ho=>by
  obtain⟨p',c',J,ht,I,-,h2⟩:=ho.is
  rw [lA] at J I
  exact⟨p',c',J,EJ ht,I,fun H=>h2 (fun h3=>H (map_eq_nil_iff.1 h3))⟩)
 have lH:=zh dU
 obtain⟨av,hm⟩:=zx l.length
 obtain⟨ak,hM⟩:=zx N.length
 have Y:=zh hM;have Us:=zh hm
 rw [hM] at e1 hN
 rw [hm,e1] at fA
 rw [hm] at HT
 have vD:=zh fA
 obtain⟨d0,d1,d2,d3⟩:=eO fA
 have Ep:=jJ fA
 clear fA hm hM h lL dU e1 hs
 go_enter Tryz.func46,Tryz.ntmps46
 go_wp2_with fail
 have hR:=YK w (.cells #[.slice none 0 0,.slice none 0 0] 26)
 have P3:=qn w (.cells #[.slice none 0 0,.slice none 0 0] 26) none
 have au:(w.alloc (.cells #[.slice none 0 0,.slice none 0 0] 26)).heap.size=w.heap.size+1:=by simp
 generalize (w.alloc (.cells #[.slice none 0 0,.slice none 0 0] 26))=W at *
 obtain⟨B,hB⟩:=zx w.heap.size
 have ik:=zh hB
 rw [hB] at hR au Ep ⊢
 have HR:=zh hR;have ij:=zh P3;have Zq:=zh au
 clear hR P3 hB au d0 d1 d2 d3
 go_loopw [3,11] (fun ov iv wr=>∃(m:Nat) (Z:Kf),m<=ak/\iv=.int .i64 m/\Hid (Cn wr (B+1) ov (N.take m) Z)/\Hid (Below (B+1) W wr)) (fun _ v _=>ak - (intOf v).toNat)
 case atStart=>exact⟨0,fun _=>(none,0),zero_le _,rfl,zh ⟨ag.nil _ _ _ _,fun i x G=>by simp at G,fun i x G=>by simp at G⟩,zh (Below.refl _ _)⟩
 case round=>
  obtain⟨m,Z,hk,rfl,R,HB⟩:=hrel
  have U:Hid (w.grownBy wr none):=zh (bj (Below.trans2 (Below.gb ij (Nat.le_refl _)) (HB.mono (by rw [ik.out];omega))))
  have aL:B+1<=wr.heap.size:=by have:=HB.size;have:=Zq.out;omega
  by_cases hlt:m<ak
  ·have d1:=zE ((m:Int)<(ak:Int))
   have ml:decide (m<ak)=true:=zd hlt
   obtain⟨x,G⟩:∃x,N[m]? = some x:=⟨N[m]'(by rw [Y.out];exact hlt),QS _⟩
   obtain⟨g,a2,rfl,bN,c0,c1,L⟩:=bZ xF G
   have c0:=U.cell c0 (by simp)
   have c1:=U.cell c1 (by simp)
   have L:=U.cell L (by simp)
   have iE:=zh (xF.2 m x G)
   have jw:Hid (N.take (m+1)=N.take m++[x]):=zh (by rw [take_add_one,G];rfl)
   have nQ:Hid ((iZ Z (N.take m)).length=m):=zh (by rw [jD,length_take,Y.out];omega)
   have ur:Hid ((iZ Z (N.take m)).length<=1000000):=zh (by rw [nQ.out];omega)
   have UK:=zh (fun W a0 c h=>zp x.kind x.tok x.kids a0 c W (lH x (gn G)) h)
   obtain⟨xk,zF⟩:=zx x.kind
   obtain⟨xt,xB⟩:=zx x.tok
   obtain⟨kl,dU⟩:=zx x.kids.length
   have K6:=zh zF;have TU:=zh xB;have Yi:=zh dU
   rw [zF] at c0 UK
   rw [xB] at c1 UK
   rw [dU] at L UK
   clear G zF xB dU
   generalize ay m=kk at *
   obtain⟨kq,kc⟩:=kk
   simp only at L iE
   have oT:=qn wr (.cells #[.int .i64 xk,.int .i64 xt,.slice kq kl kc] 92) none
   have aO:=zh oT
   have BI:g<wr.heap.size:=zn bN U.size
   clear oT
   go_wp2_with fail
   refine(UK _ kq kc (iE.kept (aa U aO))).mono ?_
   rintro J O ⟨bL,p2,ap,rfl,K1,-,cB⟩
   rw [Yi.out]
   have oY:=zh K1
   have bF:=zh (aa aO bL)
   have mz:=zh (R.kept bF)
   have bP:Hid (x.kids≠[]->∀A,p2=some A->B+1<=A.block/\u3.ownBlock≠some A.block):=zh (fun hn A E=>by
    have I:=(cB hn A E).1
    simp at I
    refine⟨by omega,fun J=>?_⟩
    have h2:=(ag.at R.own _ J).2
    omega)
   have KY:=zh (Below.trans2 HB (Below.gb bF aL))
   have ec:B+1<=O.heap.size:=Nat.le_trans aL bF.size
   clear bL K1 cB R HB aO c0 c1 L
   go_wp2_with (at_builtin;go_loud (refine gm (s:=3) (t:=24) (T:=92) (by decide) Tryz.underlying24 OU rfl (by omega) rfl _ _ rfl (B+1) (iZ Z (N.take m)) [.int .i64 xk,.int .i64 xt,.slice p2 kl ap] rfl (fun u hu=>by simp at hu;rcases hu with rfl | rfl | rfl<;>rfl) u3 rfl (ag.kept mz.own (qn O _ none)) O.heap.size _ rfl (YK O _) rfl ur (by simp;omega) (O.heap.size+1) (by simp) ?_))
   intro g9 a1 w9 fM bH el
   obtain⟨K9,aq⟩:=Cn.add (mz.kept (qn O (.cells #[.int .i64 xk,.int .i64 xt,.slice p2 kl ap] 92) none)) bH (x:=x) (p:=p2) (c:=ap) (by rw [K6.out,TU.out,Yi.out];exact fM) (oY.kept (qn O _ none)) bP (el.imp id (fun h=>by simp;omega))
   rw [<-jw.out] at aq
   have ax:=zh aq
   have fW:=zh ((Below.trans2 KY (Below.gb (qn O _ none) ec)).grown bH (by simp;omega) (fun m J=>(ag.at mz.own m J).1))
   rw [nQ.out] at ax ⊢
   clear fM bH el aq mz KY
   go_wp2_with fail
   go_roundw
   case rel=>exact⟨m+1,K9,by omega,by go_num,ax,fW⟩
   case measure=>(simp [intOf]<;>omega)
  ·obtain rfl:m=ak:=by omega
   rw [V7 (l:=N) (i:=m) (by rw [Y.out];exact Nat.le_refl _)] at R
   obtain⟨pn,cn,en,aX,-,-,-⟩:=R.own.is
   rw [jD,Y.out] at en
   subst en
   have P2:Hid (al wr pn N Z):=zh ⟨aX,R.kids⟩
   have jI:Hid (∀A,pn=some A->m≠0->B+1<=A.block):=zh (fun A E H=>by
    obtain⟨a',I,h2,-⟩:=ag.lt R.own rfl (p:=pn) (n:=m) (c:=cn) (by omega)
    rw [E] at I;cases I;exact h2)
   obtain⟨d0,d1,d2,d3⟩:=eO (bx U vD)
   have LP:=zh ((HB.block B (by omega)).trans HR)
   clear aX
   go_wp2_with fail
   refine(HT wr (rN.kept U)).mono ?_
   rintro J O ⟨v,rfl,ho,hg⟩
   obtain⟨p2,L,rfl,Fp,tA,ZE⟩:=Bf _ _ _ ho
   have mK:=zh Fp;have Xr:=zh tA;have aJ:=zh ZE
   have bF:=zh hg
   rw [Us.out]
   have xE:=zh (bx hg LP)
   obtain⟨f0,f1,f2⟩:=ac xE
   have PK:=zh (ab (i:=1) (u:=.slice pn m cn) (ab (i:=0) (u:=.slice p2 av L) xE))
   have oM:=zh ((Fr2.setCell (S:=fun m=>m=B) (Fr2.refl _ O) (g:=B) (j:=0) rfl (.slice p2 av L)).setCell (g:=B) (j:=1) rfl (.slice pn m cn))
   clear ho Fp tA ZE hg d0 d1 d2 d3
   go_wp2_with fail
   obtain⟨k0,k1,-⟩:=ac PK
   refine bodyPost_ret (v:=.agg #[.slice p2 av L,.slice pn m cn]) (by simp [results,Tryz.results46,go_sem,k0,k1]) rfl ⟨Fr2.after (aa U bF) oM (fun j hj=>by rw [ik.out];omega),p2,L,pn,cn,Z,by rw [Us.out,Y.out],mK.keptF oM (fun H A E J=>by have:=aJ H A E;omega),Xr,⟨?_,fun i x G=>?_⟩,fun H A E=>by have I:=aJ H A E;have h2:=ik.out;have h3:=U.size;omega,fun H A E=>by have I:=jI A E (fun e0=>H (length_eq_zero_iff.1 (by rw [Y.out];exact e0)));have h2:=ik.out;omega,fun i x G hn A E=>by have I:=(R.khi i x G hn A E).1;have h2:=ik.out;omega⟩
   ·refine GAt.keptS (P2.1.kept bF) oM fun H A E J=>?_
    have I:=jI A E (fun e0=>H (length_eq_zero_iff.1 (by rw [jD,Y.out];exact e0)))
    omega
   ·refine((P2.2 i x G).kept bF).keptF oM fun H A E J=>?_
    have I:=(R.khi i x G (ez H) A E).1
    omega
end Go.Proofs.YtpkipghjohomcaaGreatDoor
