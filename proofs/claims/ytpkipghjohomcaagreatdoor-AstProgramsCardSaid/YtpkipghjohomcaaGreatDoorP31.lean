/- Lemmas. -/
import Derived.Test.YtpkipghjohomcaaGreatDoorP22
import Derived.Test.YtpkipghjohomcaaGreatDoorP30
set_option linter.unusedVariables false
set_option linter.unusedSimpArgs false
set_option maxHeartbeats 8000000
set_option maxRecDepth 100000
namespace Go.Proofs.YtpkipghjohomcaaGreatDoor
open Go.RowKit List Nat Go.World
def cZ (l:List fN):List UInt8:=l.flatMap fun m=>m.lead++m.text
theorem oV (l r:List fN):cZ (l++r)=cZ l++cZ r:=by unfold cZ;rw [flatMap_append]
theorem DO {l:List fN} {k:Nat} {t:fN} (h:l[k]? = some t):cZ (l.take (k+1))=cZ (l.take k)++t.lead++t.text:=by
 rw [take_add_one,h,oV];simp [cZ]
theorem tL (l:List fN) (k:Nat):(cZ (l.take k)).length<=(cZ l).length:=by
 have m:cZ l=cZ (l.take k)++cZ (l.drop k):=by rw [<-oV,take_append_drop]
 rw [m,Q2];omega
theorem Pz (q:Option Addr) (c:Nat) (l:List fN) (w:World) (hl:l.length<=1000000) (Z:(cZ l).length<=1000000) (h:bl w q l):Calls Tryz.prog 86 #[.slice q l.length c] w (pq (cZ l) w):=by
 obtain⟨m,hm⟩:=zx l.length
 have HM:=zh hm;have HA:=zh h;have HL:=zh Z
 rw [hm] at hl ⊢
 clear hm h Z
 go_enter Tryz.func86,Tryz.ntmps86
 go_wp2_with fail
 have En:=GP w w.heap.size (Nat.le_refl _)
 have O:=qn w (.cells #[.pointer none,.slice none 0 0] 96) none
 generalize (w.alloc (.cells #[.pointer none,.slice none 0 0] 96))=W at *
 obtain⟨E,hb⟩:=zx w.heap.size
 have L:=zh hb
 rw [hb] at En ⊢
 have I:=zh En;have xC:=zh O
 clear En O hb
 go_loopw [8] (fun ak wr=>∃A:Nat,A<=m/\ak=.int .i64 A/\Hid (Lib.IsBuilder 96 5 E E (Lib.byteCells (cZ (l.take A))) wr)/\Hid (w.grownBy wr none)) (fun ak _=>m - (intOf ak).toNat)
 case atStart=>exact⟨0,zero_le _,rfl,I,xC⟩
 case round=>
  clear I xC
  obtain⟨A,hk,rfl,I,J⟩:=hrel
  by_cases hlt:A<m
  ·have d1:=zE ((A:Int)<(m:Int))
   have ml:decide (A<m)=true:=zd hlt
   obtain⟨B,ht⟩:∃B,l[A]? = some B:=⟨l[A]'(by rw [HM.out];exact hlt),QS _⟩
   obtain⟨av,ax,rfl,bN,c0,R,U,c3⟩:=vv HA ht
   have c0:=J.cell c0 (by simp)
   have R:=J.cell R (by simp)
   have U:=J.cell U (by simp)
   have c3:=J.cell c3 (by simp)
   have dO:=DO ht
   have au:=tL l A
   have XJ:=tL l (A+1)
   have Z:=HL.out
   rw [dO] at XJ
   simp only [Q2] at XJ
   obtain⟨G,hx⟩:∃G:ByteArray,(⟨B.lead.toArray⟩:ByteArray)=G:=⟨_,rfl⟩
   obtain⟨H,hy⟩:∃H:ByteArray,(⟨B.text.toArray⟩:ByteArray)=H:=⟨_,rfl⟩
   have rQ:G.data.toList=B.lead:=by rw [<-hx]
   have pf:H.data.toList=B.text:=by rw [<-hy]
   have Xu:G.size=B.lead.length:=by rw [<-aQ,rQ]
   have kw:H.size=B.text.length:=by rw [<-aQ,pf]
   unfold aD at R U
   rw [hx] at R
   rw [hy] at U
   have cu:Hid (Lib.byteCells (cZ (l.take (A+1)))=Lib.byteCells (cZ (l.take A))++Lib.strCells G++Lib.strCells H):=zh (by
    rw [dO,Lib.byteCells_append,Lib.byteCells_append,<-tV B.lead,<-tV B.text,hx,hy])
   have aq:Hid ((Lib.byteCells (cZ (l.take A))).length+G.size<=140737488355328):=zh (by rw [Lib.byteCells_length];omega)
   have XW:Hid ((Lib.byteCells (cZ (l.take A))++Lib.strCells G).length+H.size<=140737488355328):=zh (by rw [Q2,Lib.byteCells_length,Lib.strCells_length];omega)
   have vD:=zh (YK wr (.cells #[.int .i64 B.kind,.string G,.string H,.int .i64 B.pos] 91))
   have O:=qn wr (.cells #[.int .i64 B.kind,.string G,.string H,.int .i64 B.pos] 91) none
   have bP:=zh (Ch I O)
   have bF:=zh (aa J O)
   have JD:Hid (E<wr.heap.size):=zh (by
    rcases I.out with h | h
    ·exact h.lt
    ·exact h.lt)
   obtain⟨b0,b1,b2,b3,b4⟩:=cx vD
   generalize B.kind=tk at *
   generalize B.pos=tp at *
   clear bN ht dO au XJ Z hx hy rQ pf Xu kw O I J b4
   go_wp2_with fail
   refine(gG E E _ G _ bP aq (by have:=bF.size;rw [L.out] at this;exact this)).mono ?_
   rintro ao w2 ⟨rfl,⟨cB,D6⟩,ap⟩
   have ie:=zh cB
   have Y:w.grownBy w2 none:=bj (Below.trans2 (dF bF) (by rw [L.out];exact D6))
   have gA:=zh Y
   have ZD:=ap _ _ _ vD (by decide) (by have:=JD.out;omega)
   obtain⟨e0,e1,e2,e3,e4⟩:=cx ZD
   clear cB D6 ap Y ZD b0 b1 b2 b3 c0 R U c3 bP e4
   go_wp2_with fail
   refine(gG E E _ H _ (.inr ie.out) XW (by have:=gA.size;rw [L.out] at this;exact this)).mono ?_
   rintro ao w3 ⟨rfl,⟨fa,DB⟩,-⟩
   rw [<-cu.out] at fa
   have C6:Hid (Lib.IsBuilder 96 5 E E (Lib.byteCells (cZ (l.take (A+1)))) w3):=zh (.inr fa)
   have Y:w.grownBy w3 none:=bj (Below.trans2 (dF gA) (by rw [L.out];exact DB))
   have ir:=zh Y
   clear fa DB Y ie bF gA e0 e1 e2 e3
   go_wp2_with fail
   go_roundw
   case rel=>exact⟨A+1,by omega,by go_num,C6,ir⟩
   case measure=>(simp [intOf]<;>omega)
  ·obtain rfl:A=m:=by omega
   rw [V7 (by rw [HM.out];exact Nat.le_refl _)] at I
   have Ov:=zh (Tryz.Builder_String_any_k E E _ wr (Lib.IsBuilderF.of I) (by have:=J.size;rw [L.out] at this;exact this))
   go_wp2_with fail
   refine Ov.mono ?_
   rintro ao w7 ⟨rfl,-,Dy,-⟩
   have cG:Hid (w.grownBy w7 none):=zh (bj (Below.trans2 (dF J) (by rw [L.out];exact Dy)))
   clear Dy
   go_wp2_with fail
   go_ret
   exact⟨⟨_,rfl,rfl⟩,cG⟩
theorem H8 (l:List fN) (pt pn:Option Addr) (ct M cn:Nat) (w:World) (H:l.length<=1000000) (E:(cZ l).length<=1000000) (h:bl w pt l):
  Calls Tryz.prog 52 #[.agg #[.slice pt l.length ct,.slice pn M cn]] w (pq (cZ l) w):=by
 have B:=zh (fun W (h:bl W pt l)=>Pz pt ct l W H E h)
 have R:=zh h
 obtain⟨m,I⟩:=zx l.length
 rw [I] at B ⊢
 clear I h H E
 go_enter Tryz.func52,Tryz.ntmps52
 go_wp2_with fail
 have A:=qn w (.cells #[.slice pt m ct,.slice pn M cn] 26) none
 refine(B _ (R.kept A)).mono ?_
 rintro Y Z ⟨⟨U,rfl,J⟩,G⟩
 have O:=zh J
 have L:=zh (aa A G)
 clear A G J
 go_wp2_with fail
 go_ret
 exact⟨⟨U,rfl,O⟩,L⟩
theorem vp (l:List Tok):cZ (l.map toI)=cq l:=by unfold cZ cq;rw [flatMap_map];rfl
open Go.RowKit List Nat
structure vB (l:List UInt8) (D:Int) (f:Bool):Prop where
 d1:1<=D
 d2:D<=200
 lex:(ai l).2.1=0
 ok:(aR (ai l).1 D.toNat f).2.e=0
 same:aR (ai l).1 200 f=aR (ai l).1 D.toNat f
 nodes:aw l 200 f=aw l D f
 ans:(eE l 200 f).2.1=0
theorem pZ {l:List UInt8} {D:Int} {f:Bool} (J:l.length<=30000) (h:(eE l D f).2.1=0):vB l D f:=by
 have I:¬(D<1\/200<D):=fun A=>by
  unfold eE at h;rw [if_pos A] at h;cases h
 have B:(ai l).2.1=0:=by
  rcases eq_zero_or_pos (ai l).2.1 with m | m
  ·exact m
  ·rw [A7 I (by omega) (by omega)] at h
   have h:(ai l).2.1=0:=h
   omega
 have G:(aR (ai l).1 D.toNat f).2.e=0:=by
  have m:=rl (f:=f) I (by omega) B
  rcases eq_zero_or_pos (aR (ai l).1 D.toNat f).2.e with H | H
  ·exact H
  ·rw [if_neg (by omega)] at m
   rw [m] at h
   have h:(aR (ai l).1 D.toNat f).2.e=0:=h
   omega
 have E:aR (ai l).1 200 f=aR (ai l).1 D.toNat f:=by
  rcases Ap B (D:=D.toNat) (D':=200) (by omega) (by omega) f with A | ⟨A,-⟩
  ·exact A.symm
  ·rw [G] at A;cases A
 refine⟨by omega,by omega,B,G,E,?_,?_⟩
 ·unfold aw
  rw [show((200:Int)).toNat=200 from rfl,E]
 ·have m:=rl (D:=200) (f:=f) (by omega) (by omega) B
  rw [show((200:Int)).toNat=200 from rfl,E,if_pos G] at m
  rw [m]
theorem KJ {l:List UInt8} {D:Int} (h:vB l D true):∃t i,(aR (ai l).1 D.toNat true).1 = [t,.lf i]/\isN t=true/\WE (ai l).1 t:=by
 have m:=h.ok
 unfold aR at m ⊢
 rw [if_pos rfl] at m ⊢
 obtain⟨k1,-,k3⟩:=pG (ai l).1 (k:=5) (s:=((nxT (ai l).1 D.toNat D.toNat).expr (setIn true aI)).2) m
 have G:=Xy (ai l).1 (Gu l) D.toNat D.toNat (Nat.le_refl _)
 obtain⟨t,E,A,B⟩:=G.expr (setIn true aI) k3
 refine⟨t,((nxT (ai l).1 D.toNat D.toNat).expr (setIn true aI)).2.i,?_,A,B⟩
 show((nxT (ai l).1 D.toNat D.toNat).expr (setIn true aI)).1++(aM (ai l).1 5 ((nxT (ai l).1 D.toNat D.toNat).expr (setIn true aI)).2).1=_
 rw [E,k1];rfl
theorem m8 {l:List UInt8} {D:Int} {f:Bool} (E:(aw l D f).length<=150000):∀(i:Nat) (x:Nd),(aw l D f)[i]? = some x->x.kids.length<=150000:=fun i x m=>by
 have A:=sB (.nd (fx f) (aR (ai l).1 D.toNat f).1) 0 x (gn m)
 have B:(aw l D f).length=(post 0 (.nd (fx f) (aR (ai l).1 D.toNat f).1)).length:=rfl
 omega
def oU (l:List UInt8) (D:Int):Ex:=(bQ (ai l).1 (aR (ai l).1 D.toNat true).1).headD pW
def D7 (x:Ex) (w:World) (e:Ending) (A:World):Prop:=w.grownBy A none/\∃m,e=.returned (.tuple #[.agg m.toArray,.int .i64 0])/\EAt (fun B=>w.heap.size<=B) A x m
theorem Jg {l:List UInt8} {D:Int} (h:vB l D true):∃(t:Tr) (ks:List Int) (A:Nat),(aw l D true)[(aw l D true).length - 1]? = some ⟨18,-1,ks⟩/\ks[0]? = some (A:Int)/\kQ (ai l).1 (aw l D true) (A:Int) t/\axT (ai l).1 t=oU l D/\szR t<=(aw l D true).length:=by
 obtain⟨t,ak,m,J,U⟩:=KJ h
 have Z:=ug.root (.nd 18 (aR (ai l).1 D.toNat true).1)
 have G:aw l D true=post 0 (.nd 18 (aR (ai l).1 D.toNat true).1):=rfl
 obtain⟨ap,ks,hn,E,H⟩:=Z.nd
 have O:(aw l D true).length=szR (.nd 18 (aR (ai l).1 D.toNat true).1):=by rw [G,kh]
 have R:ap=(aw l D true).length - 1:=by omega
 rw [<-G] at E H
 rw [R] at E
 obtain⟨A,oh,L,-⟩:=H.2 0 t (by rw [m];rfl)
 have B:=He (ai l).1 D.toNat true
 have I:=nC h.lex D.toNat true h.ok
 rw [KO,m] at B
 rw [m] at I
 simp only [fj] at B
 refine⟨t,ks,A,E,oh,⟨J,U,B.1,fun ao Y=>?_,L⟩,?_,?_⟩
 ·have:ao∈cg [t,.lf ak]:=by simp only [cg,mem_append];exact .inl Y
  rw [I] at this
  exact mem_range.1 this
 ·unfold oU
  rw [m]
  rw [bQ,if_pos J];rfl
 ·rw [O,m]
  simp only [szR,bK];omega
open Go.RowKit List Go.World
theorem vw (w:World) (A:Obj):∃(W:World) (b0:Nat),W=w.alloc A/\w.heap.size=b0/\W.heap[b0]? = some A/\w.grownBy W none:=
 ⟨_,_,rfl,rfl,YK w A,qn w A none⟩
def gK (T:List fN) (N:List Nd) (l:List UInt8) (f:Bool):Prop:=(eE l 200 f).2.1=0/\T=(ai l).1.map toI/\N=aw l 200 f
def nB (T:List fN) (N:List Nd) (l:List UInt8) (f:Bool) (w:World) (e:Ending) (m:World):Prop:=
 w.grownBy m none/\((gK T N l f/\∃E H B G A,e=.returned (.tuple #[.agg #[.slice E (ai l).1.length H,.slice B (aw l 200 f).length G],.int .i64 0])/\TAt m E (ai l).1/\al m B (aw l 200 f) A/\(aw l 200 f).length<=2*(ai l).1.length/\Am (aw l 200 f) A (fun I=>w.heap.size<=I))\/
  (¬gK T N l f/\e=.returned (.tuple #[.agg #[.slice none 0 0,.slice none 0 0],.int .i64 10])))
theorem qD {w:World} {p:Option Addr} {T:List Tok} (h:TAt w p T):bl w p (T.map toI):=by
 rcases h with h | ⟨G,Y,rfl,R,O⟩
 ·subst h;exact .inl rfl
 ·refine .inr ⟨G,Y,rfl,R,fun E ak A U ao m=>?_⟩
  unfold mu at A
  rw [getElem?_map,getElem?_map] at A
  cases B:T[E]? with
  | none=>rw [B] at A;cases A
  | some Z=>
    rw [B] at A
    injection A with A
    subst A
    obtain⟨H,I,J,L⟩:=O E Z B
    match U,m with
    | 0,m=>injection m with m;subst m;exact H
    | 1,m=>injection m with m;subst m;exact I
    | 2,m=>injection m with m;subst m;exact J
    | 3,m=>injection m with m;subst m;exact L
    | k+4,m=>simp [rz,toI] at m
theorem zT:∀T:List Tok,(T.map (fun m=>m.text.length)).sum<=(cq T).length
 | []=>by simp [cq]
 | m::T=>by
   have:=zT T
   unfold cq at this ⊢
   simp only [List.map_cons,List.sum_cons,List.flatMap_cons,Q2]
   omega
theorem Ck (T:List Tok):gt T (List.range T.length)=(T.map (fun A=>A.text.length)).sum:=by
 unfold gt
 congr 1
 apply List.ext_getElem
 ·simp
 ·intro E m B
  simp only [List.length_map,List.length_range] at m
  simp [tkT,m]
theorem Hv:∀ {L:List Nat} {a:Nat},a∈L->a<=L.sum
 | [],a,h=>by simp at h
 | b::L,a,h=>by
   rw [List.sum_cons]
   rcases List.mem_cons.1 h with rfl | h
   ·omega
   ·have:=Hv h;omega
set_option maxHeartbeats 16000000
theorem Wv:∀(n:Nat) (x:Ex),cY x<=n->∀(F:Nat->Prop) (q:List Value) (w:World),RAt F w x q->(ja x).length<=1000000->
  Calls Tryz.prog 16 #[.agg q.toArray] w (iV (ja x) w):=by
 intro n
 induction n with
 | zero=>intro x hn;cases x;simp [cY] at hn
 | succ n ih=>
   intro x hn F q w I hl
   cases x with
   | mk U nm md nu Z B A=>
     simp only [RAt] at I
     obtain⟨Y,L,bc,rfl,hg,eh,-⟩:=I
     unfold aD
     generalize (⟨nm.toArray⟩:ByteArray)=ao at *
     generalize (⟨md.toArray⟩:ByteArray)=ap at *
     generalize (⟨nu.toArray⟩:ByteArray)=ak at *
     obtain⟨E,dU⟩:=zx B.length
     have lH:=zh dU
     have HG:=zh hg;have fc:=zh eh;have HN:=zh hn;have HL:=zh hl;have IH:=zh ih
     have uH:E<=1000000:=by
      have h1:=vJ B
      rw [<-qF] at h1
      simp only [ja,hJ] at hl
      omega
     obtain⟨AT,Wa⟩:=zx (ja (Ex.mk U nm md nu Z B A))
     have aO:=zh Wa
     rw [dU,Wa]
     clear hg eh hn hl ih dU Wa
     go_enter Tryz.func16,Tryz.ntmps16
     go_wp2_with fail
     have kt:=qn w (.cells #[.int .i64 (U:Int),.string ao,.string ap,.string ak,.bool Z,.slice Y E L,.int .i64 (A:Int)] 68) none
     have rW:(w.alloc (.cells #[.int .i64 (U:Int),.string ao,.string ap,.string ak,.bool Z,.slice Y E L,.int .i64 (A:Int)] 68)).heap.size=w.heap.size+1:=by simp
     have hA:=YK w (.cells #[.int .i64 (U:Int),.string ao,.string ap,.string ak,.bool Z,.slice Y E L,.int .i64 (A:Int)] 68)
     generalize (w.alloc (.cells #[.int .i64 (U:Int),.string ao,.string ap,.string ak,.bool Z,.slice Y E L,.int .i64 (A:Int)] 68))=J at *
     have hO:=iG.new J (w.heap.size+1) (A:Int) (w.heap.size+1) rW (Nat.le_refl _)
     have mD:=qn J (.cells #[.int .i64 (A:Int)] 3) none
     generalize (J.alloc (.cells #[.int .i64 (A:Int)] 3))=WB at *
     obtain⟨G,hb⟩:=zx w.heap.size
     rw [hb] at rW hO hA ⊢
     have au:=zh hA
     have py:=zh rW;have xC:=zh kt;have Yb:=zh mD
     have SH:Hid (ag 1 3 WB (G+1) (.slice (some ⟨G+1,0,none⟩) 1 1) (one (ar ((A:Int)::ix (B.take 0))))):=zh (by rw [take_zero,CX];exact hO)
     clear kt rW hO mD hb hA
     go_loopw [3,4] (fun aq O wr=>∃m:Nat,m<=E/\O=.int .i64 m/\Hid (ag 1 3 wr (G+1) aq (one (ar ((A:Int)::ix (B.take m)))))/\Hid (J.grownBy wr none)) (fun _ O _=>E - (intOf O).toNat)
     case atStart=>exact⟨0,zero_le _,rfl,SH,Yb⟩
     case round=>
      clear SH
      obtain⟨m,hk,rfl,HO,R⟩:=hrel
      have e5:wr.cell? ⟨G,5,none⟩=some (.slice Y E L):=by rw [hZ wr G 5 _ _ (0,0) (bx R au)];rfl
      have Ep:G<wr.heap.size:=jJ (bx R au)
      have bm:Hid (w.grownBy wr none):=zh (aa xC R)
      by_cases hlt:m<E
      ·have d3:=zE ((m:Int)<(E:Int))
       have Yv:decide (m<E)=true:=zd hlt
       obtain⟨x,I⟩:∃x,B[m]? = some x:=⟨B[m]'(by rw [lH.out];exact hlt),QS _⟩
       obtain⟨qx,pY,ML⟩:=Bj fc I
       have cu:=zh (sU I)
       have qv:Hid (cY x<=n):=zh (by have:=re I;have:=HN.out;simp only [cY] at this;omega)
       have uu:=zh (ML.kept bm)
       obtain⟨a6,a8,rfl,bN,H⟩:=HG.resolve_left (fun av=>by rw [av] at pY;simp at pY)
       have oA:Hid ((ja x).length<=1000000/\(one (ar ((A:Int)::ix (B.take m)))).length<=1000000):=zh (by
        have h1:=HL.out
        have h2:=kS B (m+1)
        rw [cu.out,Q2] at h2
        simp only [ja,hJ] at h1
        rw [dM,bh,hJ];omega)
       have Ec:=zh (fun W h=>IH.out x qv (fun m=>F m) qx W h oA.1)
       cases x with
       | mk a2 aJ ay aL a4 mE a3=>
         simp only [RAt] at ML
         obtain⟨a9,a5,bd,rfl,-⟩:=ML
         unfold aD at *
         generalize (⟨aJ.toArray⟩:ByteArray)=y' at *
         generalize (⟨ay.toArray⟩:ByteArray)=z' at *
         generalize (⟨aL.toArray⟩:ByteArray)=u' at *
         generalize a0:mE.length=a7 at *
         have H:=fun O aq h=>bm.cell (H m _ pY O aq h) (by simp)
         have c0:=H 0 _ rfl
         have c1:=H 1 _ rfl
         have c2:=H 2 _ rfl
         have c3:=H 3 _ rfl
         have c4:=H 4 _ rfl
         have c5:=H 5 _ rfl
         have c6:=H 6 _ rfl
         rw [Nat.add_zero] at c0
         have bN:=zn bN bm.size
         obtain⟨ax,B1⟩:=zx (ja (Ex.mk a2 aJ ay aL a4 mE a3))
         rw [B1] at oA cu Ec
         clear I pY H a0 B1
         go_wp2_with fail
         refine(Ec _ uu).mono ?_
         rintro av w7 ⟨dV,p7,VA,rfl,xI⟩
         have cG:Hid (wr.grownBy w7 none):=zh dV
         have Z0:=zh xI
         have fh:Hid (ag 1 3 w7 (G+1) u3 (one (ar ((A:Int)::ix (B.take m))))):=zh (HO.kept cG)
         have tQ:Hid (G+1<=w7.heap.size):=zh (by have:=cG.size;have:=R.size;have:=py.out;omega)
         clear dV xI Ec c0 c1 c2 c3 c4 c5 c6 bN HO
         go_wp2_with (at_builtin;go_loud (refine jA (s:=1) (t:=52) (T:=3) (by decide) Tryz.underlying52 zm rfl (by omega) rfl _ _ rfl (G+1) (one (ar ((A:Int)::ix (B.take m)))) (one (ar ax)) (lS (gX _)) u3 rfl fh p7 ax.length VA rfl (by rw [dM,bh]) (FP Z0) oA.2 oA.1 tQ.out ?_))
         intro p9 n9 aX w9 a1 fM uJ _
         have jN:Hid (ag 1 3 w9 (G+1) (.slice p9 n9 aX) (one (ar ((A:Int)::ix (B.take (m+1)))))):=zh (by rw [cu.out,<-cons_append,fs,jY];exact fM)
         have bF:Hid (J.grownBy w9 none):=zh (bj (Below.trans2 (dF (aa R cG)) (by rw [py.out];exact uJ)))
         clear fM uJ cG Z0 tQ a1 fh
         go_wp2_with fail
         go_roundw
         case rel=>exact⟨m+1,by omega,by go_num,jN,bF⟩
         case measure=>(simp [intOf]<;>omega)
      ·obtain rfl:m=E:=by omega
       have qU:(A:Int)::ix (B.take m)=AT:=by
        rw [<-aO.out,V7 (by rw [lH.out];exact Nat.le_refl _)];simp only [ja]
       obtain⟨p9,c9,e9,xP,-⟩:=HO.is
       rw [dM,bh,qU] at e9
       rw [qU] at xP
       subst e9
       have WF:=zh (xg xP)
       clear xP qU HO
       go_wp2_with fail
       go_ret
       exact⟨bm,_,_,rfl,WF⟩
open Go.RowKit List
theorem yc (T:List fN) (N:List Nd) (K:Kf) (s:ByteArray) (hs:s.size<=25000) (hw:cZ T=s.data.toList) (hT:T.length<=100000) (hN:N.length<=150000) (hk:∀(i:Nat) (x:Nd),N[i]? = some x->x.kids.length<=150000) (pt pn:Option Addr) (ct cn:Nat) (w:World) (gP:fJ w) (ht:bl w pt T) (hn:al w pn N K):
  Calls Tryz.prog 23 #[.agg #[.slice pt T.length ct,.slice pn N.length cn],.func (.func 17) #[] #[]] w (nB T N s.data.toList true w):=by
 have Dz:s.data.toList.length=s.size:=aQ s
 have HP:=zh (fun W h=>zG s 200 W hs h)
 have qm:=zh (fun (W:World) h=>H8 T pt pn ct N.length cn W (by omega) (by rw [hw];omega) h)
 rw [hw] at qm
 have K0:=zh hw
 have PR:Hid (s.data.toList=s.data.toList):=zh rfl
 obtain⟨l,hl⟩:=zx s.data.toList
 rw [hl] at HP qm Dz ⊢
 have fc:=zh hl
 have HT:=zh ht;have HN:=zh hn;have iF:=zh gP;have nQ:=zh hT;have xx:=zh hN;have HK:=zh hk;have ZT:=zh Dz;have mR:=zh hs
 clear ht hn gP hN hs Dz hl hw hk hT
 obtain⟨aL,hm⟩:=zx T.length
 obtain⟨av,hM⟩:=zx N.length
 have Hm:=zh hm;have HM:=zh hM
 rw [hm,hM] at qm ⊢
 clear hm hM
 go_enter Tryz.func23,Tryz.ntmps23
 go_wp2_with fail
 obtain⟨W,b0,m,hW,e0,e1,cS,dq,dp,lu⟩:=two w (.cells #[.slice pt aL ct,.slice pn av cn] 26) (.cells #[.slice none 0 0,.slice none 0 0] 82)
 have bB:=zh cS;have bS:=zh dq;have bm:=zh dp;have gj:=zh e0
 clear cS dq dp
 try rw [<-hW]
 try rw [e1]
 try rw [e0]
 clear e0 e1 hW
 refine(qm _ (HT.kept bm)).mono ?_
 rintro A w1 ⟨⟨ak,rfl,Z⟩,cJ⟩
 have kw:ak=s:=ByteArray.ext (Array.toList_inj.1 (Z.trans fc.symm))
 subst kw
 have fu:=zh (aa bm cJ)
 have xJ:=zh (bx cJ bB);have lJ:=zh (bx cJ bS)
 clear cJ Z qm
 go_wp2_with fail
 refine(HP _ (iF.kept fu)).mono ?_
 rintro A w2 ⟨R,he⟩
 by_cases J:(eE l 200 true).2.1≠0
 ·rw [if_pos J] at he
  subst he
  have yG:Hid (¬gK T N l true):=zh (fun h=>J h.1)
  unfold fT
  obtain⟨ao,hE⟩:=zx (eE l 200 true).2.1
  obtain⟨ax,hP⟩:=zx (eE l 200 true).2.2
  rw [hE] at J
  rw [hE,hP]
  have e1:((ao:Int) != 0)=true:=bne_iff_ne.2 (by omega)
  have uw:(ao != 0)=true:=bne_iff_ne.2 J
  have e2:=yi (ao:Int) 0
  have Fn:(ao == 0)=false:=xz.2 J
  have bF:=zh (aa fu R)
  have gH:=zh (bx R lJ)
  clear R hE hP J HP
  obtain⟨c0,c1,c2⟩:=ac gH
  have eg:m<w2.heap.size:=hlt gH
  go_wp2_with fail
  have L:Fr2 (dm m) w2 ((w2.setCell ⟨m,0,none⟩ (.slice none 0 0)).setCell ⟨m,1,none⟩ (.slice none 0 0)):=((Fr2.refl _ _).setCell (aK m) _).setCell (aK m) _
  have rT:=Fr2.after bF L (fun aq hj=>by have A:aq=m:=hj;have:=gj.out;omega)
  have hc:=ab (i:=1) (u:=.slice none 0 0) (ab (i:=0) (u:=.slice none 0 0) gH)
  have tA:=bx (af (af (ad _ none) (.cells #[.slice none 0 0,.slice none 0 0] 26)) (.cells #[.int .i64 (ao:Int),.int .i64 (ax:Int)] 29)) (show((w2.setCell ⟨m,0,none⟩ (.slice none 0 0)).setCell ⟨m,1,none⟩ (.slice none 0 0)).heap[m]? = some (Obj.cells #[.slice none 0 0,.slice none 0 0] 82) from hc)
  obtain⟨k0,k1,-⟩:=ac tA
  refine bodyPost_ret (v:=.tuple #[.agg #[.slice none 0 0,.slice none 0 0],.int .i64 10]) (by simp [results,Tryz.results23,go_sem,k0,k1]) rfl (show nB T N l true w _ _ from⟨af (af rT _) _,.inr ⟨yG,rfl⟩⟩)
 ·rw [if_neg J] at he
  obtain⟨G,H,B,I,K',rfl,dK,-,lL,mL,pR,qo,BL⟩:=he
  have eM:(eE l 200 true).2.1=0:=by omega
  have hR:=pZ (l:=l) (by have:=ZT.out;have:=mR.out;omega) eM
  have dS:=jG hR.lex
  have qk:=zh eM;have mz:=zh BL
  have YV:(ai l).1.length<=30000:=by have:=ZT.out;have:=mR.out;omega
  have z7:=zh (fun (G B:Option Addr) (H I:Nat) (K':Kf) W h1 h2 h3 h4=>tR T ((ai l).1.map toI) N (aw l 200 true) K K' (by have:=nQ.out;omega) (by rw [length_map];omega) xx (by omega) HK (m8 (by omega)) pt G pn B ct H cn I W h1 h2 h3 h4)
  rw [length_map] at z7
  obtain⟨ap,hL⟩:=zx (ai l).1
  obtain⟨O,hQ⟩:=zx (aw l 200 true)
  have rg:Hid (gK T N l true↔T=ap.map toI/\N=O):=zh ⟨fun h=>by rw [<-hL,<-hQ];exact⟨h.2.1,h.2.2⟩,fun h=>⟨qk,by rw [hL];exact h.1,by rw [hQ];exact h.2⟩⟩
  have PT:Hid (∀A w',w.grownBy w' none/\((gK T N l true/\∃pt ct pn cn K,A=.returned (.tuple #[.agg #[.slice pt ap.length ct,.slice pn O.length cn],.int .i64 0])/\TAt w' pt ap/\al w' pn O K/\O.length<=2*ap.length/\Am O K (fun aJ=>w.heap.size<=aJ))\/(¬gK T N l true/\A=.returned (.tuple #[.agg #[.slice none 0 0,.slice none 0 0],.int .i64 10])))->nB T N l true w A w'):=zh (fun A w' h=>by unfold nB;rw [hL,hQ];exact h)
  rw [hL] at z7 mz dK mL ⊢
  rw [hQ] at z7 mz lL pR qo ⊢
  have xX:=zh mL;have lr:=zh pR;have oM:=zh qo
  have rN:=zh dK;have xF:=zh lL
  clear hR eM J hL hQ dS YV dK lL mL pR qo BL
  obtain⟨m',uo⟩:=zx ap.length
  obtain⟨M',Wo⟩:=zx O.length
  have au:=zh uo;have F5:=zh Wo
  have qg:Hid (m<w1.heap.size):=zh (hlt lJ)
  rw [uo,Wo] at z7 ⊢
  rw [Hm.out,HM.out] at z7
  have bF:=zh (aa fu R)
  have pD:=zh (bx R xJ);have gH:=zh (bx R lJ)
  clear R HP xJ lJ bB bS uo Wo
  obtain⟨a0,a1,a2⟩:=ac pD
  have dZ:b0<w2.heap.size:=hlt pD
  go_wp2_with fail
  obtain⟨W3,b2,b3,xj,e2,e3,ec,yJ,j7,JZ⟩:=two w2 (.cells #[.slice G m' H,.slice B M' I] 26) (.cells #[.int .i64 0,.int .i64 0] 29)
  have bP:=zh ec;have ie:=zh yJ;have mq:=zh j7
  have Su:m<b2:=by have:=hlt gH.out;omega
  clear ec yJ j7
  try rw [<-xj]
  try rw [e3]
  try rw [e2]
  clear e2 e3 xj
  have gA:=zh (aa bF mq)
  refine(z7 G B H I K' _ (HT.kept gA) (qD (rN.kept mq)) (HN.kept gA) (xF.kept mq)).mono ?_
  rintro A w4 ⟨lO,ay,rfl,hb⟩
  have dP:=zh hb
  have ir:=zh (aa gA lO)
  have ns:=aa mq lO
  have XF:=zh (rN.kept ns);have OR:=zh (xF.kept ns)
  have sN:=zh (bx ns gH)
  obtain⟨c0,c1,c2⟩:=ac (bx lO bP)
  obtain⟨d0,d1,d2⟩:=ac sN
  have aO:m<w4.heap.size:=hlt sN
  clear lO ns z7 hb
  cases ay
  ·have yG:Hid (¬gK T N l true):=zh (fun h=>by have:=dP.2 (rg.1 h);cases this)
   go_wp2_with fail
   have L:Fr2 (dm m) w4 ((w4.setCell ⟨m,0,none⟩ (.slice none 0 0)).setCell ⟨m,1,none⟩ (.slice none 0 0)):=((Fr2.refl _ _).setCell (aK m) _).setCell (aK m) _
   have rT:=Fr2.after ir L (fun aq hj=>by have A:aq=m:=hj;have:=gj.out;omega)
   have hc:=ab (i:=1) (u:=.slice none 0 0) (ab (i:=0) (u:=.slice none 0 0) sN)
   obtain⟨k0,k1,-⟩:=ac (show((w4.setCell ⟨m,0,none⟩ (.slice none 0 0)).setCell ⟨m,1,none⟩ (.slice none 0 0)).heap[m]? = some (Obj.cells #[.slice none 0 0,.slice none 0 0] 82 (0,0)) from hc)
   refine bodyPost_ret (v:=.tuple #[.agg #[.slice none 0 0,.slice none 0 0],.int .i64 10]) (by simp [results,Tryz.results23,go_sem,k0,k1]) rfl (PT _ _ ⟨rT,.inr ⟨yG,rfl⟩⟩)
  ·go_wp2_with fail
   have L:Fr2 (dm m) w4 ((w4.setCell ⟨m,0,none⟩ (.slice G m' H)).setCell ⟨m,1,none⟩ (.slice B M' I)):=((Fr2.refl _ _).setCell (aK m) _).setCell (aK m) _
   have rT:=Fr2.after ir L (fun aq hj=>by have A:aq=m:=hj;have:=gj.out;omega)
   have hc:=ab (i:=1) (u:=.slice B M' I) (ab (i:=0) (u:=.slice G m' H) sN)
   obtain⟨k0,k1,-⟩:=ac (show((w4.setCell ⟨m,0,none⟩ (.slice G m' H)).setCell ⟨m,1,none⟩ (.slice B M' I)).heap[m]? = some (Obj.cells #[.slice G m' H,.slice B M' I] 82 (0,0)) from hc)
   have VB:=XF.keptF L (fun U E Y A=>by have A:E.block=m:=A;have h1:=xX U E Y;have h2:=qg.out;omega)
   have Yr:al _ B O K':=⟨GAt.keptB OR.1 L (fun U E Y A=>by have A:E.block=m:=A;have h1:=lr (fun h=>U (by rw [h];rfl)) E Y;have h2:=qg.out;omega),fun i ak Z=>(OR.2 i ak Z).keptF L (fun U E Y A=>by have A:E.block=m:=A;have h1:=oM i ak Z (ez U) E Y;have h2:=qg.out;omega)⟩
   refine bodyPost_ret (v:=.tuple #[.agg #[.slice G m' H,.slice B M' I],.int .i64 0]) (by simp [results,Tryz.results23,go_sem,k0,k1]) rfl (PT _ _ ⟨rT,.inl ⟨rg.2 (dP.1 (by simp)),G,H,B,I,K',by rw [au.out,F5.out],VB,Yr,mz,fun i ak Z U E Y=>Nat.le_trans fu.size (oM i ak Z U E Y)⟩⟩)
end Go.Proofs.YtpkipghjohomcaaGreatDoor
