/- Lemmas. -/
import Derived.Test.YtpkipghjohomcaaGreatDoorP29
set_option linter.unusedVariables false
set_option linter.unusedSimpArgs false
set_option maxHeartbeats 8000000
set_option maxRecDepth 100000
namespace Go.Proofs.YtpkipghjohomcaaGreatDoor
open Go.RowKit List Nat Go.World
def eE (l:List UInt8) (D:Int) (f:Bool):List UInt8×Nat×Nat:=if D<1\/200<D then ([],12,0) else AX l D.toNat f
def fx (f:Bool):Nat:=if f=true then 18 else 1
def aw (l:List UInt8) (D:Int) (f:Bool):List Nd:=post 0 (.nd (fx f) (aR (ai l).1 D.toNat f).1)
def fT (e p:Nat):Value:=.tuple #[.agg #[.slice none 0 0,.slice none 0 0],.agg #[.int .i64 (e:Int),.int .i64 (p:Int)]]
def fX (l:List UInt8) (D:Int) (f:Bool) (w:World) (e:Ending) (E:World):Prop:=
 w.grownBy E none/\if (eE l D f).2.1≠0 then e=.returned (fT (eE l D f).2.1 (eE l D f).2.2)
  else ∃B H A I G,e=.returned (.tuple #[.agg #[.slice B (ai l).1.length H,.slice A (aw l D f).length I],.agg #[.int .i64 0,.int .i64 0]])/\TAt E B (ai l).1/\(ai l).1.length<=H/\al E A (aw l D f) G/\((ai l).1≠[]->∀m,B=some m->w.heap.size<=m.block)/\(aw l D f≠[]->∀m,A=some m->w.heap.size<=m.block)/\Am (aw l D f) G (fun J=>w.heap.size<=J)/\(aw l D f).length<=2*(ai l).1.length
theorem yD {X:World} {B:Nat} {A E:TypeId} {J L O R:Value} (H:X.heap[B]? = some (.cells #[J,L] A (0,0))) (G:X.heap[B+1]? = some (.cells #[O,R] E (0,0))) (a b c d:Value):
  ((((X.setCell ⟨B,0,none⟩ a).setCell ⟨B,1,none⟩ b).setCell ⟨B+1,0,none⟩ c).setCell ⟨B+1,1,none⟩ d).heap[B]? = some (.cells #[a,b] A (0,0))/\((((X.setCell ⟨B,0,none⟩ a).setCell ⟨B,1,none⟩ b).setCell ⟨B+1,0,none⟩ c).setCell ⟨B+1,1,none⟩ d).heap[B+1]? = some (.cells #[c,d] E (0,0))/\Fr2 (fun m=>m=B\/m=B+1) X ((((X.setCell ⟨B,0,none⟩ a).setCell ⟨B,1,none⟩ b).setCell ⟨B+1,0,none⟩ c).setCell ⟨B+1,1,none⟩ d):=by
 have I:=(Fr2.setCell (S:=fun m=>m=B) (Fr2.refl _ X) (g:=B) (j:=0) rfl a).setCell (g:=B) (j:=1) rfl b
 have q1:=(Fr2.setCell (S:=fun m=>m=B+1) (Fr2.refl _ ((X.setCell ⟨B,0,none⟩ a).setCell ⟨B,1,none⟩ b)) (g:=B+1) (j:=0) rfl c).setCell (g:=B+1) (j:=1) rfl d
 refine⟨q1.keep (ab (i:=1) (u:=b) (ab (i:=0) (u:=a) H)) (by omega),ab (i:=1) (u:=d) (ab (i:=0) (u:=c) (I.keep G (by omega))),?_⟩
 exact((((Fr2.refl _ X).setCell (.inl rfl) a).setCell (.inl rfl) b).setCell (.inr rfl) c).setCell (.inr rfl) d
theorem XAt.init {T:List Tok} {D:Nat} {G w3:World} {b bb:Nat} {J L O R:Value} (hb:G.heap.size=b) (U:uq G bb T 0 [] (.slice none 0 0)) (qj:bb<b) (j3:0<T.length) (I:(G.alloc (.cells #[.pointer (some ⟨bb,0,none⟩),J,L,O,R,.int .i64 (D:Int),.int .i64 0,.bool false,.int .i64 0,.int .i64 0] 117)).grownBy w3 none):
  XAt ((((w3.setCell ⟨b,1,none⟩ (.int .i64 ((az T aI).kind:Int))).setCell ⟨b,2,none⟩ (aD (az T aI).lead)).setCell ⟨b,3,none⟩ (aD (az T aI).text)).setCell ⟨b,4,none⟩ (.int .i64 ((az T aI).pos:Int))) b bb T D 0 aI 0 [] (.slice none 0 0) (fun m=>b<m)/\Fr2 (dm b) w3 ((((w3.setCell ⟨b,1,none⟩ (.int .i64 ((az T aI).kind:Int))).setCell ⟨b,2,none⟩ (aD (az T aI).lead)).setCell ⟨b,3,none⟩ (aD (az T aI).text)).setCell ⟨b,4,none⟩ (.int .i64 ((az T aI).pos:Int))):=by
 have H:Fr2 (dm b) w3 ((((w3.setCell ⟨b,1,none⟩ (.int .i64 ((az T aI).kind:Int))).setCell ⟨b,2,none⟩ (aD (az T aI).lead)).setCell ⟨b,3,none⟩ (aD (az T aI).text)).setCell ⟨b,4,none⟩ (.int .i64 ((az T aI).pos:Int))):=((((Fr2.refl _ _).setCell (aK b) _).setCell (aK b) _).setCell (aK b) _).setCell (aK b) _
 have B:=YK G (.cells #[.pointer (some ⟨bb,0,none⟩),J,L,O,R,.int .i64 (D:Int),.int .i64 0,.bool false,.int .i64 0,.int .i64 0] 117)
 rw [hb] at B
 have B:=bx I B
 have hlt:=jJ B
 have Z:=ab (i:=4) (u:=.int .i64 ((az T aI).pos:Int)) (ab (i:=3) (u:=aD (az T aI).text) (ab (i:=2) (u:=aD (az T aI).lead) (ab (i:=1) (u:=.int .i64 ((az T aI).kind:Int)) B)))
 obtain⟨pt,ct,Y,hB⟩:=(U.kept (qn G _ none)).kept I
 have vL:mc w3 bb T 0 [] (.slice none 0 0) (fun m=>b<m):=⟨pt,ct,Y,hB,fun i ak hx=>by simp at hx⟩
 refine⟨⟨Z.trans rfl,vL.keptF H (fun m E A=>by unfold dm at A;omega) (fun m A=>(by cases A)) (fun m E A=>by unfold dm at A;omega) (fun _ _ h=>h),fun m E=>E,fun m E=>?_,qj,fun m A=>(by cases A),j3,zero_le _⟩,H⟩
 exact zn (zn hlt H.size) E
theorem GAt.keptB {s:Nat} {S:Nat->Prop} {w m:World} {p:Option Addr} {l:List (List Value)} (h:GAt s w p l) (B:Fr2 S w m) (A:l≠[]->∀a,p=some a->¬S a.block):GAt s m p l:=GAt.keptS h B A
theorem nK {l:List UInt8} {D:Int} {f:Bool} {w m:World} {n p:Nat} (h:(eE l D f).2=(n,p)) (B:n≠0) (A:w.grownBy m none):fX l D f w (.returned (fT n p)) m:=by
 refine⟨A,?_⟩
 rw [h,if_pos B]
theorem rl {l:List UInt8} {D:Int} {f:Bool} (m:¬(D<1\/200<D)) (A:l.length<=65536) (h:(ai l).2.1=0):(eE l D f).2=if (aR (ai l).1 D.toNat f).2.e=0 then (0,0) else ((aR (ai l).1 D.toNat f).2.e,(aR (ai l).1 D.toNat f).2.pos):=by
 unfold eE
 rw [if_neg m,EU A h]
 split<;>rfl
theorem A7 {l:List UInt8} {D:Int} {f:Bool} (m:¬(D<1\/200<D)) (A:l.length<=65536) (h:(ai l).2.1≠0):(eE l D f).2=((ai l).2.1,(ai l).2.2):=by
 unfold eE AX
 rw [if_neg m,if_neg (by omega),if_pos h]
theorem sB (t:Tr):∀(b:Nat) (x:Nd),x∈post b t->x.kids.length<=(post b t).length:=by
 have I:∀B:Nat,(∀t:Tr,szR t<=B->∀b x,x∈post b t->x.kids.length<=szR t)/\(∀A:List Tr,bK A<=B->∀b x,x∈eR b A->x.kids.length<=bK A):=by
  intro B
  induction B with
  | zero=>
    refine⟨fun t h=>absurd (iR t) (by omega),fun A h b x m=>?_⟩
    cases A with
    | nil=>simp [eR] at m
    | cons t A=>have:=iR t;simp only [bK] at h;omega
  | succ B H=>
    have E:∀t:Tr,szR t<=B+1->∀b x,x∈post b t->x.kids.length<=szR t:=by
     intro t h b x m
     cases t with
     | lf L=>simp [post] at m;subst m;simp
     | nd O A=>
       simp only [szR] at h ⊢
       simp only [post,mem_append,mem_singleton] at m
       have J:A.length<=bK A:=by
        clear h m
        induction A with
        | nil=>exact Nat.le_refl _
        | cons t A G=>have:=iR t;simp only [bK,hJ];omega
       rcases m with m | rfl
       ·have:=H.2 A (by omega) b x m;omega
       ·rw [CY];omega
    refine⟨E,fun A=>?_⟩
    induction A with
    | nil=>intro h b x m;simp [eR] at m
    | cons t A G=>
      intro h b x m
      simp only [bK] at h ⊢
      simp only [eR,mem_append] at m
      rcases m with m | m
      ·have:=E t (by omega) b x m;omega
      ·have:=G (by omega) (b+szR t) x m;omega
 intro b x m
 rw [kh]
 exact(I (szR t)).1 t (Nat.le_refl _) b x m
theorem AY (s:ByteArray) (D:Int) (w:World) (hs:s.size<=25000) (gP:fJ w):Calls Tryz.prog 21 #[.string s,.int .i64 D,.func (.func 22) #[] #[]] w (fX s.data.toList D false w):=by
 have WY:=zh (YK w (.cells #[.slice none 0 0,.slice none 0 0] 26))
 obtain⟨B,hB⟩:=zx w.heap.size
 have HB:=zh hB
 have kD:Hid (w.grownBy ((w.alloc (.cells #[.slice none 0 0,.slice none 0 0] 26)).alloc (.cells #[.int .i64 0,.int .i64 0] 29)) none):=zh (af (af (ad _ _) _) _)
 have UX:((w.alloc (.cells #[.slice none 0 0,.slice none 0 0] 26)).alloc (.cells #[.int .i64 0,.int .i64 0] 29)).heap[B]? = some (.cells #[.slice none 0 0,.slice none 0 0] 26 (0,0)):=by rw [<-hB];exact bx (qn _ _ none) (YK w _)
 have Yy:((w.alloc (.cells #[.slice none 0 0,.slice none 0 0] 26)).alloc (.cells #[.int .i64 0,.int .i64 0] 29)).heap[B+1]? = some (.cells #[.int .i64 0,.int .i64 0] 29 (0,0)):=by
  have h9:=YK (w.alloc (.cells #[.slice none 0 0,.slice none 0 0] 26)) (.cells #[.int .i64 0,.int .i64 0] 29)
  rw [show(w.alloc (.cells #[.slice none 0 0,.slice none 0 0] 26)).heap.size=B+1 by simp [hB]] at h9
  exact h9
 obtain⟨t0,t1,t2⟩:=ac UX
 obtain⟨f0,f1,f2⟩:=ac Yy
 have lN:=zh UX;have xX:=zh Yy
 have aO:((w.alloc (.cells #[.slice none 0 0,.slice none 0 0] 26)).alloc (.cells #[.int .i64 0,.int .i64 0] 29)).heap.size=B+2:=by simp [hB]
 have lj:=zh aO
 clear UX Yy WY aO
 obtain⟨m,hl⟩:=zx s.data.toList
 have fP:Hid (m.length<=25000):=zh (by rw [<-hl,aQ];exact hs)
 by_cases rj:D<1\/200<D
 ·have HA:Hid ((eE m D false).2=(12,0)):=zh (by unfold eE;rw [if_pos rj])
  have jI:Hid (∀L,w.grownBy L none->fX m D false w (.returned (fT 12 0)) L):=zh (fun L hg=>nK HA (by decide) hg)
  rw [hl]
  clear hs gP hl hB t0 t1 t2 f0 f1 f2
  by_cases I:D<1
  ·have e1:decide (D<1)=true:=zd I
   clear rj I
   go_enter Tryz.func21,Tryz.ntmps21
   go_wp2_with fail
   refine bodyPost_ret (v:=fT 12 0) (by simp [results,Tryz.results21,go_sem,fT]) rfl ?_
   exact jI _ (af (af (ad _ _) _) _)
  ·have e1:decide (D<1)=false:=VW I
   have e2:=zE (200<D)
   clear rj I
   go_enter Tryz.func21,Tryz.ntmps21
   go_wp2_with fail
   refine bodyPost_ret (v:=fT 12 0) (by simp [results,Tryz.results21,go_sem,fT]) rfl ?_
   exact jI _ (af (af (ad _ _) _) _)
 ·obtain⟨A,rfl⟩:∃A:Nat,D=(A:Int):=⟨D.toNat,by omega⟩
  have e1:=zX (A<1)
  have uw:=zX ((A:Int)<1)
  have e2:=zX (200<A)
  have Fn:=zX ((200:Int)<(A:Int))
  have pP:=zh rj
  have HD:Hid (A<=200):=zh (by omega)
  have oA:=zh (fun W (h:fJ W)=>Ui s W (by omega) h)
  have iF:=zh (gP.kept kD)
  rw [hl] at oA ⊢
  clear hs gP hl rj
  go_enter Tryz.func21,Tryz.ntmps21
  go_wp2_with fail
  try rw [hB]
  refine(oA _ iF).mono ?_
  rintro G Z ⟨cJ,he⟩
  rw [if_neg (by have:=fP.out;omega)] at he
  have fu:=zh (aa kD cJ)
  have lN:=zh (bx cJ lN);have xX:=zh (bx cJ xX)
  have Lz:Hid (B+2<=Z.heap.size):=zh (by have I:=cJ.size;have R:=lj.out;omega)
  clear cJ oA iF kD t0 t1 t2 f0 f1 f2 hB
  by_cases aq:(ai m).2.1≠0
  ·rw [if_pos aq] at he
   subst he
   have HA:Hid ((eE m (A:Int) false).2=((ai m).2.1,(ai m).2.2)):=zh (A7 pP (by have:=fP.out;omega) aq)
   have jI:Hid (∀L,w.grownBy L none->fX m (A:Int) false w (.returned (fT (ai m).2.1 (ai m).2.2)) L):=zh (fun L hg=>nK HA aq hg)
   obtain⟨E,hE⟩:=zx (ai m).2.1
   obtain⟨ak,hP⟩:=zx (ai m).2.2
   rw [hE] at aq
   rw [hE,hP] at jI ⊢
   have e3:(E != 0)=true:=bne_iff_ne.2 aq
   have Wp:((E:Int) != 0)=true:=bne_iff_ne.2 (by omega)
   obtain⟨t0,t1,t2⟩:=ac (bx (qn Z (.cells #[.int .i64 (E:Int),.int .i64 (ak:Int)] 29) none) lN)
   obtain⟨f0,f1,f2⟩:=ac (bx (qn Z (.cells #[.int .i64 (E:Int),.int .i64 (ak:Int)] 29) none) xX)
   have JA:=ac (YK Z (.cells #[.int .i64 (E:Int),.int .i64 (ak:Int)] 29))
   have Yw:=Lz.out
   clear hE hP aq HA
   go_wp2_with fail
   go_region
   all_goals
    obtain⟨es,cI,kz⟩:=yD (bx (qn Z (.cells #[.int .i64 (E:Int),.int .i64 (ak:Int)] 29) none) lN) (bx (qn Z (.cells #[.int .i64 (E:Int),.int .i64 (ak:Int)] 29) none) xX) (.slice none 0 0) (.slice none 0 0) (.int .i64 (E:Int)) (.int .i64 (ak:Int))
    obtain⟨k0,k1,-⟩:=ac (bx (aC (ad _ none)) es)
    obtain⟨m0,m1,-⟩:=ac (bx (aC (ad _ none)) cI)
    have Z2:=zh (aC (Fr2.after (af fu _) kz (fun au hj=>by have:=HB.out;rcases hj with h | h<;>omega)))
    clear es cI kz t0 t1 t2 f0 f1 f2 JA Yw
    go_wp2_with fail
    refine bodyPost_ret (v:=fT E ak) (by simp [results,Tryz.results21,go_sem,k0,k1,m0,m1,fT]) rfl (jI _ Z2)
  ·rw [if_neg aq] at he
   have qH:(ai m).2.1=0:=by omega
   obtain⟨a6,a4,rfl,hT,OK,-⟩:=he
   have uf:=zh (Dh qH (by have:=fP.out;omega))
   have BC:=rl (f:=false) pP (by have:=fP.out;omega) qH
   rw [Int.toNat_natCast] at BC
   have bc:=(qZ qH).2
   have uN:Hid (∀L pt ct pn cn ao,(aR (ai m).1 A false).2.e=0->w.grownBy L none->TAt L pt (ai m).1->(ai m).1.length<=ct->al L pn (post 0 (.nd (fx false) (aR (ai m).1 A false).1)) ao->((ai m).1≠[]->∀J,pt=some J->w.heap.size<=J.block)->(post 0 (.nd (fx false) (aR (ai m).1 A false).1)≠[]->∀J,pn=some J->w.heap.size<=J.block)->Am (post 0 (.nd (fx false) (aR (ai m).1 A false).1)) ao (fun U=>w.heap.size<=U)->(post 0 (.nd (fx false) (aR (ai m).1 A false).1)).length<=2*(ai m).1.length->fX m (A:Int) false w (.returned (.tuple #[.agg #[.slice pt (ai m).1.length ct,.slice pn (post 0 (.nd (fx false) (aR (ai m).1 A false).1)).length cn],.agg #[.int .i64 0,.int .i64 0]])) L):=zh (fun L pt ct pn cn ao I R h3 h4 h5 h6 h7 h8 h9=>by
    refine⟨R,?_⟩
    rw [BC,if_pos I,if_neg (by decide)]
    exact⟨pt,ct,pn,cn,ao,rfl,h3,h4,h5,h6,h7,h8,h9⟩)
   have jI:Hid (∀L,(aR (ai m).1 A false).2.e≠0->w.grownBy L none->fX m (A:Int) false w (.returned (fT (aR (ai m).1 A false).2.e (aR (ai m).1 A false).2.pos)) L):=zh (fun L I R=>nK (by rw [BC,if_neg I]) I R)
   obtain⟨H,aX⟩:=zx (ai m).1
   rw [aX] at uN jI uf hT bc OK ⊢
   have j3:0<H.length:=length_pos_iff.2 bc
   have Vp:=zh j3
   have C5:H[0]? = some (az H aI):=by
    unfold az
    show H[0]? = some (H[0]?.getD _)
    rw [QS j3];rfl
   have rN:=zh hT;have Bc:=zh bc
   have qP:=zh (fun W h=>qt H a6 a4 W (by have:=uf.len;omega) uf.short h)
   have Mn:=zh (fun (O:Nat) W h=>FD O H 0 [] (.slice none 0 0) (az H aI) W (by have:=uf.len;omega) (zero_le _) uf.short (by rw [Nat.zero_min];exact C5) h)
   have P5:=zh (fun (ap O:Nat) (W:World) h=>yj ap O H A uf HD aI [] (.slice none 0 0) (fun U=>ap<U) W rfl h)
   have NU:=zh (fun (O aJ:Nat) (a3:List Nd) (vn:Value) W I R h3=>CD O H aJ a3 vn W (by have:=uf.len;omega) uf.short I R h3)
   have Fs:Hid (aR H A false=bE H (NT H A 0).expr aI):=zh (by unfold aR;(first | rfl | (simp;rfl)))
   rw [Fs.out] at uN jI
   obtain⟨Y,hr⟩:=zx (bE H (NT H A 0).expr aI)
   rw [hr] at uN jI P5
   obtain⟨a5,hm⟩:=zx H.length
   have xY:=zh hm
   rw [hm] at uN qP ⊢
   have mK:=zh (bx (qn Z (.cells #[.int .i64 0,.int .i64 0] 29) none) lN)
   have lr:=zh (bx (qn Z (.cells #[.int .i64 0,.int .i64 0] 29) none) xX)
   have bF:=zh (af fu (.cells #[.int .i64 0,.int .i64 0] 29))
   have JA:=ac (YK Z (.cells #[.int .i64 0,.int .i64 0] 29))
   clear BC aq qH aX hT OK bc j3 hr hm Fs C5
   go_wp2_with fail
   refine(qP _ (rN.kept (qn Z _ none))).mono ?_
   rintro G w2 ⟨O,rfl,qj,AH,bL⟩
   have gA:=zh (aa bF bL)
   have RM:=zh (bx bL mK);have oM:=zh (bx bL lr)
   have EA:=zh AH
   obtain⟨ap,Qq⟩:=zx w2.heap.size
   have Xp:=zh Qq
   have LQ:O<ap:=by
    obtain⟨pt,ct,ao,hB⟩:=AH
    rw [<-Qq];exact jJ hB.box
   have dP:=zh LQ
   have sy:Hid (B+2<=O):=zh (by
     have I:=Lz.out;have R:(Z.alloc (.cells #[.int .i64 0,.int .i64 0] 29)).heap.size=Z.heap.size+1:=by simp
     omega)
   obtain⟨d0,d1,d2,d3,d4,d5,d6,d7,d8,d9,j0⟩:=cR (show(w2.alloc (.cells #[.pointer (some ⟨O,0,none⟩),.int .i64 0,.string ⟨#[]⟩,.string ⟨#[]⟩,.int .i64 0,.int .i64 (A:Int),.int .i64 0,.bool false,.int .i64 0,.int .i64 0] 117)).heap[ap]? = some (.cells #[.pointer (some ⟨O,0,none⟩),.int .i64 0,.string ⟨#[]⟩,.string ⟨#[]⟩,.int .i64 0,.int .i64 (A:Int),.int .i64 0,.bool false,.int .i64 0,.int .i64 0] 117 (0,0)) from by rw [<-Qq];exact YK w2 _)
   clear JA qP qj AH bL LQ Qq
   go_wp2_with fail
   try rw [Xp.out]
   refine(Mn O _ (EA.kept (qn w2 _ none))).mono ?_
   rintro G w3 ⟨rfl,iU⟩
   have mS:=fun (v1 v2 v3 v4:Value) (h:(w2.alloc (.cells #[.pointer (some ⟨O,0,none⟩),v1,v2,v3,v4,.int .i64 (A:Int),.int .i64 0,.bool false,.int .i64 0,.int .i64 0] 117)).grownBy w3 none)=>XAt.init Xp EA dP Vp h
   have mS:=mS _ _ _ _ iU
   have ir:=zh (aa (af gA _) iU)
   have IY:=zh (bx iU (bx (qn w2 _ none) RM));have TD:=zh (bx iU (bx (qn w2 _ none) oM))
   have d0:=iU.cell d0 (by simp);have d1:=iU.cell d1 (by simp);have d2:=iU.cell d2 (by simp);have d3:=iU.cell d3 (by simp);have d4:=iU.cell d4 (by simp)
   have Nt:=bx iU (show(w2.alloc (.cells #[.pointer (some ⟨O,0,none⟩),.int .i64 0,.string ⟨#[]⟩,.string ⟨#[]⟩,.int .i64 0,.int .i64 (A:Int),.int .i64 0,.bool false,.int .i64 0,.int .i64 0] 117)).heap[ap]? = some (.cells #[.pointer (some ⟨O,0,none⟩),.int .i64 0,.string ⟨#[]⟩,.string ⟨#[]⟩,.int .i64 0,.int .i64 (A:Int),.int .i64 0,.bool false,.int .i64 0,.int .i64 0] 117 (0,0)) from by rw [<-Xp.out];exact YK w2 _)
   obtain⟨d0,d1,d2,d3,d4,d5,d6,d7,d8,d9,j0⟩:=cR Nt
   obtain⟨ay,ht⟩:=zx (az H aI)
   rw [ht] at mS ⊢
   unfold J5
   unfold aD at mS ⊢
   obtain⟨xl,rQ⟩:∃xl:ByteArray,(⟨ay.lead.toArray⟩:ByteArray)=xl:=⟨_,rfl⟩
   obtain⟨xt,xB⟩:∃xt:ByteArray,(⟨ay.text.toArray⟩:ByteArray)=xt:=⟨_,rfl⟩
   rw [rQ,xB] at mS ⊢
   obtain⟨tk,rm⟩:=zx ay.kind
   obtain⟨tp,tY⟩:=zx ay.pos
   rw [rm,tY] at mS ⊢
   have xh:=zh mS
   clear mS iU Nt Mn EA ht rQ xB rm tY
   go_wp2_with fail
   refine(P5 _ _ _ xh.1).mono ?_
   rintro G w5 ⟨a7,aJ,N',cC,rfl,Xo,Fw,a1,a0⟩
   have UW:=zh Xo;have aL:=zh a1;have YG:=zh a0
   have vL:∀U,U<w3.heap.size->U≠ap->U≠O->w5.heap[U]? = w3.heap[U]? := fun U I R h3=>by
    rw [Fw.fr.block U (zn I xh.2.size) (by rintro(G | G | G);exact R G;exact h3 G;cases G),xh.2.block U I (fun G=>R G)]
   have Uj:=zh ((vL B (jJ IY) (by have:=dP.out;have:=sy.out;omega) (by have:=sy.out;omega)).trans IY)
   have Eo:=zh ((vL (B+1) (jJ TD) (by have:=dP.out;have:=sy.out;omega) (by have:=sy.out;omega)).trans TD)
   have ef:Hid (w.grownBy w5 none):=zh (Fr2.after (Fr2.after ir xh.2 (fun au hj=>by have I:au=ap:=hj;have:=dP.out;have:=sy.out;have:=HB.out;omega)) Fw.fr (fun au hj=>by have:=dP.out;have:=sy.out;have:=HB.out;rcases hj with h | h | h;omega;omega;cases h))
   obtain⟨d0,d1,d2,d3,d4,d5,d6,d7,d8,d9,j0⟩:=cR Xo.box
   clear Xo Fw a1 a0 vL xh P5
   by_cases xG:Y.2.e=0
   ·have e3:((Y.2.e:Int) != 0)=false:=by rw [xG];rfl
    have Wp:(Y.2.e != 0)=false:=by rw [xG];rfl
    have Vx:Hid (N'=post 0 (.nd (fx false) Y.1)):=zh (by rw [YG.out xG];simp [eR,fx])
    have KU:=zh xG
    have dS:N'.length<=100000:=by have I:=UW.few;have R:=aL.out;have h3:=uf.len;omega
    have bX:=zh (NU O aJ N' cC w5 dS (fun av hy=>by rw [Vx.out] at hy dS;exact Nat.le_trans (sB _ _ _ hy) dS) UW.bld.bld)
    rw [xG] at d8
    clear xG dS NU
    go_wp2_with fail
    refine bX.mono ?_
    rintro G w6 ⟨ej,pt,ct,pn,cn,ao,rfl,dK,Ir,lL,mL,pR,qo⟩
    have YA:=zh (bx ej Uj);have Pt:=zh (bx ej Eo)
    have dD:=zh (aa ef ej)
    rw [Vx.out] at lL pR qo ⊢
    obtain⟨es,cI,kz⟩:=yD YA Pt (.slice pt H.length ct) (.slice pn (post 0 (.nd (fx false) Y.1)).length cn) (.int .i64 0) (.int .i64 0)
    have yr:B+2<=w5.heap.size:=by have:=jJ Eo.out;omega
    have NW:=dK.keptF kz (fun h0 J ha G=>by have:=mL h0 J ha;rcases G with G | G<;>omega)
    have PA:al ((((w6.setCell ⟨B,0,none⟩ (.slice pt H.length ct)).setCell ⟨B,1,none⟩ (.slice pn (post 0 (.nd (fx false) Y.1)).length cn)).setCell ⟨B+1,0,none⟩ (.int .i64 0)).setCell ⟨B+1,1,none⟩ (.int .i64 0)) pn (post 0 (.nd (fx false) Y.1)) ao:=⟨GAt.keptB lL.1 kz (fun h0 J ha G=>by have:=pR (fun h=>h0 (by rw [h];rfl)) J ha;rcases G with G | G<;>omega),fun ax av hy=>(lL.2 ax av hy).keptF kz (fun h0 J ha G=>by have:=qo ax av hy (ez h0) J ha;rcases G with G | G<;>omega)⟩
    have HQ:=zh (uN _ pt ct pn cn ao KU (Fr2.after dD kz (fun au hj=>by have:=HB.out;rcases hj with h | h<;>omega)) NW (by rw [<-xY.out];exact Ir) PA (fun h0 J ha=>Nat.le_trans ef.size (mL h0 J ha)) (fun h0 J ha=>Nat.le_trans ef.size (pR h0 J ha)) (fun ax av hy hn J ha=>Nat.le_trans ef.size (qo ax av hy hn J ha)) (by rw [<-Vx.out,<-xY.out];have I:=UW.few;have R:=aL.out;omega))
    obtain⟨t0,t1,t2⟩:=ac YA
    obtain⟨f0,f1,f2⟩:=ac Pt
    obtain⟨k0,k1,-⟩:=ac es
    obtain⟨m0,m1,-⟩:=ac cI
    rw [xY.out] at k0 k1 m0 m1 HQ ⊢
    clear es cI kz dK Ir lL mL pR qo NW PA ej d0 d1 d2 d3 d4 d5 d6 d7 d8 d9 j0 yr
    go_wp2_with fail
    refine bodyPost_ret (v:=.tuple #[.agg #[.slice pt a5 ct,.slice pn (post 0 (.nd (fx false) Y.1)).length cn],.agg #[.int .i64 0,.int .i64 0]]) (by simp [results,Tryz.results21,go_sem,k0,k1,m0,m1]) rfl HQ
   ·have e3:((Y.2.e:Int) != 0)=true:=bne_iff_ne.2 (by omega)
    have Wp:(Y.2.e != 0)=true:=bne_iff_ne.2 xG
    have KU:=zh xG
    obtain⟨E,hE⟩:=zx Y.2.e
    obtain⟨ak,hP⟩:=zx Y.2.pos
    rw [hE] at e3 Wp d8
    rw [hP] at d9
    rw [hE,hP] at jI
    obtain⟨t0,t1,t2⟩:=ac Uj
    obtain⟨f0,f1,f2⟩:=ac Eo
    have a2:Hid (E≠0):=zh (by rw [<-hE];exact xG)
    clear xG KU hE hP d0 d1 d2 d3 d4 d5 d6 d7 NU uN
    go_wp2_with fail
    go_region
    all_goals
     obtain⟨es,cI,kz⟩:=yD Uj Eo (.slice none 0 0) (.slice none 0 0) (.int .i64 (E:Int)) (.int .i64 (ak:Int))
     obtain⟨k0,k1,-⟩:=ac (bx (aC (ad _ none)) es)
     obtain⟨m0,m1,-⟩:=ac (bx (aC (ad _ none)) cI)
     have HQ:=zh (jI _ a2 (aC (Fr2.after ef kz (fun au hj=>by have:=HB.out;rcases hj with h | h<;>omega))))
     clear es cI kz t0 t1 t2 f0 f1 f2 d8 d9 j0
     go_wp2_with fail
     refine bodyPost_ret (v:=fT E ak) (by simp [results,Tryz.results21,go_sem,k0,k1,m0,m1,fT]) rfl HQ
theorem Fj (s:ByteArray) (D:Int) (w:World) (hs:s.size<=25000) (gP:fJ w):Calls Tryz.prog 21 #[.string s,.int .i64 D,.func (.func 35) #[] #[]] w (fX s.data.toList D true w):=by
 have WY:=zh (YK w (.cells #[.slice none 0 0,.slice none 0 0] 26))
 obtain⟨B,hB⟩:=zx w.heap.size
 have HB:=zh hB
 have kD:Hid (w.grownBy ((w.alloc (.cells #[.slice none 0 0,.slice none 0 0] 26)).alloc (.cells #[.int .i64 0,.int .i64 0] 29)) none):=zh (af (af (ad _ _) _) _)
 have UX:((w.alloc (.cells #[.slice none 0 0,.slice none 0 0] 26)).alloc (.cells #[.int .i64 0,.int .i64 0] 29)).heap[B]? = some (.cells #[.slice none 0 0,.slice none 0 0] 26 (0,0)):=by rw [<-hB];exact bx (qn _ _ none) (YK w _)
 have Yy:((w.alloc (.cells #[.slice none 0 0,.slice none 0 0] 26)).alloc (.cells #[.int .i64 0,.int .i64 0] 29)).heap[B+1]? = some (.cells #[.int .i64 0,.int .i64 0] 29 (0,0)):=by
  have h9:=YK (w.alloc (.cells #[.slice none 0 0,.slice none 0 0] 26)) (.cells #[.int .i64 0,.int .i64 0] 29)
  rw [show(w.alloc (.cells #[.slice none 0 0,.slice none 0 0] 26)).heap.size=B+1 by simp [hB]] at h9
  exact h9
 obtain⟨t0,t1,t2⟩:=ac UX
 obtain⟨f0,f1,f2⟩:=ac Yy
 have lN:=zh UX;have xX:=zh Yy
 have aO:((w.alloc (.cells #[.slice none 0 0,.slice none 0 0] 26)).alloc (.cells #[.int .i64 0,.int .i64 0] 29)).heap.size=B+2:=by simp [hB]
 have lj:=zh aO
 clear UX Yy WY aO
 obtain⟨m,hl⟩:=zx s.data.toList
 have fP:Hid (m.length<=25000):=zh (by rw [<-hl,aQ];exact hs)
 by_cases rj:D<1\/200<D
 ·have HA:Hid ((eE m D true).2=(12,0)):=zh (by unfold eE;rw [if_pos rj])
  have jI:Hid (∀L,w.grownBy L none->fX m D true w (.returned (fT 12 0)) L):=zh (fun L hg=>nK HA (by decide) hg)
  rw [hl]
  clear hs gP hl hB t0 t1 t2 f0 f1 f2
  by_cases I:D<1
  ·have e1:decide (D<1)=true:=zd I
   clear rj I
   go_enter Tryz.func21,Tryz.ntmps21
   go_wp2_with fail
   refine bodyPost_ret (v:=fT 12 0) (by simp [results,Tryz.results21,go_sem,fT]) rfl ?_
   exact jI _ (af (af (ad _ _) _) _)
  ·have e1:decide (D<1)=false:=VW I
   have e2:=zE (200<D)
   clear rj I
   go_enter Tryz.func21,Tryz.ntmps21
   go_wp2_with fail
   refine bodyPost_ret (v:=fT 12 0) (by simp [results,Tryz.results21,go_sem,fT]) rfl ?_
   exact jI _ (af (af (ad _ _) _) _)
 ·obtain⟨A,rfl⟩:∃A:Nat,D=(A:Int):=⟨D.toNat,by omega⟩
  have e1:=zX (A<1)
  have uw:=zX ((A:Int)<1)
  have e2:=zX (200<A)
  have Fn:=zX ((200:Int)<(A:Int))
  have pP:=zh rj
  have HD:Hid (A<=200):=zh (by omega)
  have oA:=zh (fun W (h:fJ W)=>Ui s W (by omega) h)
  have iF:=zh (gP.kept kD)
  rw [hl] at oA ⊢
  clear hs gP hl rj
  go_enter Tryz.func21,Tryz.ntmps21
  go_wp2_with fail
  try rw [hB]
  refine(oA _ iF).mono ?_
  rintro G Z ⟨cJ,he⟩
  rw [if_neg (by have:=fP.out;omega)] at he
  have fu:=zh (aa kD cJ)
  have lN:=zh (bx cJ lN);have xX:=zh (bx cJ xX)
  have Lz:Hid (B+2<=Z.heap.size):=zh (by have I:=cJ.size;have R:=lj.out;omega)
  clear cJ oA iF kD t0 t1 t2 f0 f1 f2 hB
  by_cases aq:(ai m).2.1≠0
  ·rw [if_pos aq] at he
   subst he
   have HA:Hid ((eE m (A:Int) true).2=((ai m).2.1,(ai m).2.2)):=zh (A7 pP (by have:=fP.out;omega) aq)
   have jI:Hid (∀L,w.grownBy L none->fX m (A:Int) true w (.returned (fT (ai m).2.1 (ai m).2.2)) L):=zh (fun L hg=>nK HA aq hg)
   obtain⟨E,hE⟩:=zx (ai m).2.1
   obtain⟨ak,hP⟩:=zx (ai m).2.2
   rw [hE] at aq
   rw [hE,hP] at jI ⊢
   have e3:(E != 0)=true:=bne_iff_ne.2 aq
   have Wp:((E:Int) != 0)=true:=bne_iff_ne.2 (by omega)
   obtain⟨t0,t1,t2⟩:=ac (bx (qn Z (.cells #[.int .i64 (E:Int),.int .i64 (ak:Int)] 29) none) lN)
   obtain⟨f0,f1,f2⟩:=ac (bx (qn Z (.cells #[.int .i64 (E:Int),.int .i64 (ak:Int)] 29) none) xX)
   have JA:=ac (YK Z (.cells #[.int .i64 (E:Int),.int .i64 (ak:Int)] 29))
   have Yw:=Lz.out
   clear hE hP aq HA
   go_wp2_with fail
   go_region
   all_goals
    obtain⟨es,cI,kz⟩:=yD (bx (qn Z (.cells #[.int .i64 (E:Int),.int .i64 (ak:Int)] 29) none) lN) (bx (qn Z (.cells #[.int .i64 (E:Int),.int .i64 (ak:Int)] 29) none) xX) (.slice none 0 0) (.slice none 0 0) (.int .i64 (E:Int)) (.int .i64 (ak:Int))
    obtain⟨k0,k1,-⟩:=ac (bx (aC (ad _ none)) es)
    obtain⟨m0,m1,-⟩:=ac (bx (aC (ad _ none)) cI)
    have Z2:=zh (aC (Fr2.after (af fu _) kz (fun au hj=>by have:=HB.out;rcases hj with h | h<;>omega)))
    clear es cI kz t0 t1 t2 f0 f1 f2 JA Yw
    go_wp2_with fail
    refine bodyPost_ret (v:=fT E ak) (by simp [results,Tryz.results21,go_sem,k0,k1,m0,m1,fT]) rfl (jI _ Z2)
  ·rw [if_neg aq] at he
   have qH:(ai m).2.1=0:=by omega
   obtain⟨a6,a4,rfl,hT,OK,-⟩:=he
   have uf:=zh (Dh qH (by have:=fP.out;omega))
   have BC:=rl (f:=true) pP (by have:=fP.out;omega) qH
   rw [Int.toNat_natCast] at BC
   have bc:=(qZ qH).2
   have uN:Hid (∀L pt ct pn cn ao,(aR (ai m).1 A true).2.e=0->w.grownBy L none->TAt L pt (ai m).1->(ai m).1.length<=ct->al L pn (post 0 (.nd (fx true) (aR (ai m).1 A true).1)) ao->((ai m).1≠[]->∀J,pt=some J->w.heap.size<=J.block)->(post 0 (.nd (fx true) (aR (ai m).1 A true).1)≠[]->∀J,pn=some J->w.heap.size<=J.block)->Am (post 0 (.nd (fx true) (aR (ai m).1 A true).1)) ao (fun U=>w.heap.size<=U)->(post 0 (.nd (fx true) (aR (ai m).1 A true).1)).length<=2*(ai m).1.length->fX m (A:Int) true w (.returned (.tuple #[.agg #[.slice pt (ai m).1.length ct,.slice pn (post 0 (.nd (fx true) (aR (ai m).1 A true).1)).length cn],.agg #[.int .i64 0,.int .i64 0]])) L):=zh (fun L pt ct pn cn ao I R h3 h4 h5 h6 h7 h8 h9=>by
    refine⟨R,?_⟩
    rw [BC,if_pos I,if_neg (by decide)]
    exact⟨pt,ct,pn,cn,ao,rfl,h3,h4,h5,h6,h7,h8,h9⟩)
   have jI:Hid (∀L,(aR (ai m).1 A true).2.e≠0->w.grownBy L none->fX m (A:Int) true w (.returned (fT (aR (ai m).1 A true).2.e (aR (ai m).1 A true).2.pos)) L):=zh (fun L I R=>nK (by rw [BC,if_neg I]) I R)
   obtain⟨H,aX⟩:=zx (ai m).1
   rw [aX] at uN jI uf hT bc OK ⊢
   have j3:0<H.length:=length_pos_iff.2 bc
   have Vp:=zh j3
   have C5:H[0]? = some (az H aI):=by
    unfold az
    show H[0]? = some (H[0]?.getD _)
    rw [QS j3];rfl
   have rN:=zh hT;have Bc:=zh bc
   have qP:=zh (fun W h=>qt H a6 a4 W (by have:=uf.len;omega) uf.short h)
   have Mn:=zh (fun (O:Nat) W h=>FD O H 0 [] (.slice none 0 0) (az H aI) W (by have:=uf.len;omega) (zero_le _) uf.short (by rw [Nat.zero_min];exact C5) h)
   have P5:=zh (fun (ap O:Nat) (W:World) h=>Cj ap O H A uf HD aI [] (.slice none 0 0) (fun U=>ap<U) W h)
   have NU:=zh (fun (O aJ:Nat) (a3:List Nd) (vn:Value) W I R h3=>CD O H aJ a3 vn W (by have:=uf.len;omega) uf.short I R h3)
   have Fs:Hid (aR H A true=dY H (NT H A 0).expr aI):=zh (by unfold aR;(first | rfl | (simp;rfl)))
   rw [Fs.out] at uN jI
   obtain⟨Y,hr⟩:=zx (dY H (NT H A 0).expr aI)
   rw [hr] at uN jI P5
   obtain⟨a5,hm⟩:=zx H.length
   have xY:=zh hm
   rw [hm] at uN qP ⊢
   have mK:=zh (bx (qn Z (.cells #[.int .i64 0,.int .i64 0] 29) none) lN)
   have lr:=zh (bx (qn Z (.cells #[.int .i64 0,.int .i64 0] 29) none) xX)
   have bF:=zh (af fu (.cells #[.int .i64 0,.int .i64 0] 29))
   have JA:=ac (YK Z (.cells #[.int .i64 0,.int .i64 0] 29))
   clear BC aq qH aX hT OK bc j3 hr hm Fs C5
   go_wp2_with fail
   refine(qP _ (rN.kept (qn Z _ none))).mono ?_
   rintro G w2 ⟨O,rfl,qj,AH,bL⟩
   have gA:=zh (aa bF bL)
   have RM:=zh (bx bL mK);have oM:=zh (bx bL lr)
   have EA:=zh AH
   obtain⟨ap,Qq⟩:=zx w2.heap.size
   have Xp:=zh Qq
   have LQ:O<ap:=by
    obtain⟨pt,ct,ao,hB⟩:=AH
    rw [<-Qq];exact jJ hB.box
   have dP:=zh LQ
   have sy:Hid (B+2<=O):=zh (by
     have I:=Lz.out;have R:(Z.alloc (.cells #[.int .i64 0,.int .i64 0] 29)).heap.size=Z.heap.size+1:=by simp
     omega)
   obtain⟨d0,d1,d2,d3,d4,d5,d6,d7,d8,d9,j0⟩:=cR (show(w2.alloc (.cells #[.pointer (some ⟨O,0,none⟩),.int .i64 0,.string ⟨#[]⟩,.string ⟨#[]⟩,.int .i64 0,.int .i64 (A:Int),.int .i64 0,.bool false,.int .i64 0,.int .i64 0] 117)).heap[ap]? = some (.cells #[.pointer (some ⟨O,0,none⟩),.int .i64 0,.string ⟨#[]⟩,.string ⟨#[]⟩,.int .i64 0,.int .i64 (A:Int),.int .i64 0,.bool false,.int .i64 0,.int .i64 0] 117 (0,0)) from by rw [<-Qq];exact YK w2 _)
   clear JA qP qj AH bL LQ Qq
   go_wp2_with fail
   try rw [Xp.out]
   refine(Mn O _ (EA.kept (qn w2 _ none))).mono ?_
   rintro G w3 ⟨rfl,iU⟩
   have mS:=fun (v1 v2 v3 v4:Value) (h:(w2.alloc (.cells #[.pointer (some ⟨O,0,none⟩),v1,v2,v3,v4,.int .i64 (A:Int),.int .i64 0,.bool false,.int .i64 0,.int .i64 0] 117)).grownBy w3 none)=>XAt.init Xp EA dP Vp h
   have mS:=mS _ _ _ _ iU
   have ir:=zh (aa (af gA _) iU)
   have IY:=zh (bx iU (bx (qn w2 _ none) RM));have TD:=zh (bx iU (bx (qn w2 _ none) oM))
   have d0:=iU.cell d0 (by simp);have d1:=iU.cell d1 (by simp);have d2:=iU.cell d2 (by simp);have d3:=iU.cell d3 (by simp);have d4:=iU.cell d4 (by simp)
   have Nt:=bx iU (show(w2.alloc (.cells #[.pointer (some ⟨O,0,none⟩),.int .i64 0,.string ⟨#[]⟩,.string ⟨#[]⟩,.int .i64 0,.int .i64 (A:Int),.int .i64 0,.bool false,.int .i64 0,.int .i64 0] 117)).heap[ap]? = some (.cells #[.pointer (some ⟨O,0,none⟩),.int .i64 0,.string ⟨#[]⟩,.string ⟨#[]⟩,.int .i64 0,.int .i64 (A:Int),.int .i64 0,.bool false,.int .i64 0,.int .i64 0] 117 (0,0)) from by rw [<-Xp.out];exact YK w2 _)
   obtain⟨d0,d1,d2,d3,d4,d5,d6,d7,d8,d9,j0⟩:=cR Nt
   obtain⟨ay,ht⟩:=zx (az H aI)
   rw [ht] at mS ⊢
   unfold J5
   unfold aD at mS ⊢
   obtain⟨xl,rQ⟩:∃xl:ByteArray,(⟨ay.lead.toArray⟩:ByteArray)=xl:=⟨_,rfl⟩
   obtain⟨xt,xB⟩:∃xt:ByteArray,(⟨ay.text.toArray⟩:ByteArray)=xt:=⟨_,rfl⟩
   rw [rQ,xB] at mS ⊢
   obtain⟨tk,rm⟩:=zx ay.kind
   obtain⟨tp,tY⟩:=zx ay.pos
   rw [rm,tY] at mS ⊢
   have xh:=zh mS
   clear mS iU Nt Mn EA ht rQ xB rm tY
   go_wp2_with fail
   refine(P5 _ _ _ xh.1).mono ?_
   rintro G w5 ⟨a7,aJ,N',cC,rfl,Xo,Fw,a1,a0⟩
   have UW:=zh Xo;have aL:=zh a1;have YG:=zh a0
   have vL:∀U,U<w3.heap.size->U≠ap->U≠O->w5.heap[U]? = w3.heap[U]? := fun U I R h3=>by
    rw [Fw.fr.block U (zn I xh.2.size) (by rintro(G | G | G);exact R G;exact h3 G;cases G),xh.2.block U I (fun G=>R G)]
   have Uj:=zh ((vL B (jJ IY) (by have:=dP.out;have:=sy.out;omega) (by have:=sy.out;omega)).trans IY)
   have Eo:=zh ((vL (B+1) (jJ TD) (by have:=dP.out;have:=sy.out;omega) (by have:=sy.out;omega)).trans TD)
   have ef:Hid (w.grownBy w5 none):=zh (Fr2.after (Fr2.after ir xh.2 (fun au hj=>by have I:au=ap:=hj;have:=dP.out;have:=sy.out;have:=HB.out;omega)) Fw.fr (fun au hj=>by have:=dP.out;have:=sy.out;have:=HB.out;rcases hj with h | h | h;omega;omega;cases h))
   obtain⟨d0,d1,d2,d3,d4,d5,d6,d7,d8,d9,j0⟩:=cR Xo.box
   clear Xo Fw a1 a0 vL xh P5
   by_cases xG:Y.2.e=0
   ·have e3:((Y.2.e:Int) != 0)=false:=by rw [xG];rfl
    have Wp:(Y.2.e != 0)=false:=by rw [xG];rfl
    have Vx:Hid (N'=post 0 (.nd (fx true) Y.1)):=zh (by rw [YG.out xG];simp [eR,fx])
    have KU:=zh xG
    have dS:N'.length<=100000:=by have I:=UW.few;have R:=aL.out;have h3:=uf.len;omega
    have bX:=zh (NU O aJ N' cC w5 dS (fun av hy=>by rw [Vx.out] at hy dS;exact Nat.le_trans (sB _ _ _ hy) dS) UW.bld.bld)
    rw [xG] at d8
    clear xG dS NU
    go_wp2_with fail
    refine bX.mono ?_
    rintro G w6 ⟨ej,pt,ct,pn,cn,ao,rfl,dK,Ir,lL,mL,pR,qo⟩
    have YA:=zh (bx ej Uj);have Pt:=zh (bx ej Eo)
    have dD:=zh (aa ef ej)
    rw [Vx.out] at lL pR qo ⊢
    obtain⟨es,cI,kz⟩:=yD YA Pt (.slice pt H.length ct) (.slice pn (post 0 (.nd (fx true) Y.1)).length cn) (.int .i64 0) (.int .i64 0)
    have yr:B+2<=w5.heap.size:=by have:=jJ Eo.out;omega
    have NW:=dK.keptF kz (fun h0 J ha G=>by have:=mL h0 J ha;rcases G with G | G<;>omega)
    have PA:al ((((w6.setCell ⟨B,0,none⟩ (.slice pt H.length ct)).setCell ⟨B,1,none⟩ (.slice pn (post 0 (.nd (fx true) Y.1)).length cn)).setCell ⟨B+1,0,none⟩ (.int .i64 0)).setCell ⟨B+1,1,none⟩ (.int .i64 0)) pn (post 0 (.nd (fx true) Y.1)) ao:=⟨GAt.keptB lL.1 kz (fun h0 J ha G=>by have:=pR (fun h=>h0 (by rw [h];rfl)) J ha;rcases G with G | G<;>omega),fun ax av hy=>(lL.2 ax av hy).keptF kz (fun h0 J ha G=>by have:=qo ax av hy (ez h0) J ha;rcases G with G | G<;>omega)⟩
    have HQ:=zh (uN _ pt ct pn cn ao KU (Fr2.after dD kz (fun au hj=>by have:=HB.out;rcases hj with h | h<;>omega)) NW (by rw [<-xY.out];exact Ir) PA (fun h0 J ha=>Nat.le_trans ef.size (mL h0 J ha)) (fun h0 J ha=>Nat.le_trans ef.size (pR h0 J ha)) (fun ax av hy hn J ha=>Nat.le_trans ef.size (qo ax av hy hn J ha)) (by rw [<-Vx.out,<-xY.out];have I:=UW.few;have R:=aL.out;omega))
    obtain⟨t0,t1,t2⟩:=ac YA
    obtain⟨f0,f1,f2⟩:=ac Pt
    obtain⟨k0,k1,-⟩:=ac es
    obtain⟨m0,m1,-⟩:=ac cI
    rw [xY.out] at k0 k1 m0 m1 HQ ⊢
    clear es cI kz dK Ir lL mL pR qo NW PA ej d0 d1 d2 d3 d4 d5 d6 d7 d8 d9 j0 yr
    go_wp2_with fail
    refine bodyPost_ret (v:=.tuple #[.agg #[.slice pt a5 ct,.slice pn (post 0 (.nd (fx true) Y.1)).length cn],.agg #[.int .i64 0,.int .i64 0]]) (by simp [results,Tryz.results21,go_sem,k0,k1,m0,m1]) rfl HQ
   ·have e3:((Y.2.e:Int) != 0)=true:=bne_iff_ne.2 (by omega)
    have Wp:(Y.2.e != 0)=true:=bne_iff_ne.2 xG
    have KU:=zh xG
    obtain⟨E,hE⟩:=zx Y.2.e
    obtain⟨ak,hP⟩:=zx Y.2.pos
    rw [hE] at e3 Wp d8
    rw [hP] at d9
    rw [hE,hP] at jI
    obtain⟨t0,t1,t2⟩:=ac Uj
    obtain⟨f0,f1,f2⟩:=ac Eo
    have a2:Hid (E≠0):=zh (by rw [<-hE];exact xG)
    clear xG KU hE hP d0 d1 d2 d3 d4 d5 d6 d7 NU uN
    go_wp2_with fail
    go_region
    all_goals
     obtain⟨es,cI,kz⟩:=yD Uj Eo (.slice none 0 0) (.slice none 0 0) (.int .i64 (E:Int)) (.int .i64 (ak:Int))
     obtain⟨k0,k1,-⟩:=ac (bx (aC (ad _ none)) es)
     obtain⟨m0,m1,-⟩:=ac (bx (aC (ad _ none)) cI)
     have HQ:=zh (jI _ a2 (aC (Fr2.after ef kz (fun au hj=>by have:=HB.out;rcases hj with h | h<;>omega))))
     clear es cI kz t0 t1 t2 f0 f1 f2 d8 d9 j0
     go_wp2_with fail
     refine bodyPost_ret (v:=fT E ak) (by simp [results,Tryz.results21,go_sem,k0,k1,m0,m1,fT]) rfl HQ
theorem GV (s:ByteArray) (D:Int) (w:World) (hs:s.size<=25000) (gP:fJ w):Calls Tryz.prog 5 #[.string s,.int .i64 D] w (fX s.data.toList D false w):=by
 obtain⟨B,L⟩:=zx w.heap.size
 have HB:=zh L
 have kD:Hid (w.grownBy ((w.alloc (.cells #[.slice none 0 0,.slice none 0 0] 26)).alloc (.cells #[.int .i64 0,.int .i64 0] 29)) none):=zh (af (af (ad _ _) _) _)
 have lN:Hid (((w.alloc (.cells #[.slice none 0 0,.slice none 0 0] 26)).alloc (.cells #[.int .i64 0,.int .i64 0] 29)).heap[B]? = some (.cells #[.slice none 0 0,.slice none 0 0] 26 (0,0))):=zh (by rw [<-L];exact bx (qn _ _ none) (YK w _))
 have xX:Hid (((w.alloc (.cells #[.slice none 0 0,.slice none 0 0] 26)).alloc (.cells #[.int .i64 0,.int .i64 0] 29)).heap[B+1]? = some (.cells #[.int .i64 0,.int .i64 0] 29 (0,0))):=zh (by
  have h9:=YK (w.alloc (.cells #[.slice none 0 0,.slice none 0 0] 26)) (.cells #[.int .i64 0,.int .i64 0] 29)
  rw [show(w.alloc (.cells #[.slice none 0 0,.slice none 0 0] 26)).heap.size=B+1 by simp [L]] at h9
  exact h9)
 have lj:Hid (((w.alloc (.cells #[.slice none 0 0,.slice none 0 0] 26)).alloc (.cells #[.int .i64 0,.int .i64 0] 29)).heap.size=B+2):=zh (by simp [L])
 have Cc:=zh (fun W h=>AY s D W hs h)
 have iF:=zh (gP.kept kD)
 obtain⟨m,hl⟩:=zx s.data.toList
 rw [hl] at Cc ⊢
 clear hs gP hl
 go_enter Tryz.func5,Tryz.ntmps5
 go_wp2_with fail
 try rw [L]
 refine(Cc _ iF).mono ?_
 rintro A w1 ⟨cJ,he⟩
 have mK:=zh (bx cJ lN);have lr:=zh (bx cJ xX)
 have fu:=zh (aa kD cJ)
 obtain⟨t0,t1,t2⟩:=ac mK
 obtain⟨f0,f1,f2⟩:=ac lr
 clear cJ Cc iF L
 by_cases J:(eE m D false).2.1≠0
 ·rw [if_pos J] at he
  subst he
  have jI:Hid (∀w',w.grownBy w' none->fX m D false w (.returned (fT (eE m D false).2.1 (eE m D false).2.2)) w'):=zh (fun w' hg=>nK rfl J hg)
  obtain⟨ap,hE⟩:=zx (eE m D false).2.1
  obtain⟨aq,hP⟩:=zx (eE m D false).2.2
  rw [hE,hP] at jI ⊢
  unfold fT
  obtain⟨Y,O,I⟩:=yD mK lr (.slice none 0 0) (.slice none 0 0) (.int .i64 (ap:Int)) (.int .i64 (aq:Int))
  obtain⟨k0,k1,-⟩:=ac Y
  obtain⟨m0,m1,-⟩:=ac O
  have HQ:=zh (jI _ (Fr2.after fu I (fun ay hj=>by have:=HB.out;rcases hj with h | h<;>omega)))
  clear Y O I hE hP J
  go_wp2_with fail
  refine bodyPost_ret (v:=fT ap aq) (by simp [results,Tryz.results5,go_sem,k0,k1,m0,m1,fT]) rfl HQ
 ·rw [if_neg J] at he
  obtain⟨pt,U,Z,R,av,rfl,dK,Ir,lL,mL,pR,qo,au⟩:=he
  obtain⟨Y,O,I⟩:=yD mK lr (.slice pt (ai m).1.length U) (.slice Z (aw m D false).length R) (.int .i64 0) (.int .i64 0)
  have fG:=lj.out
  have FQ:=Fr2.after fu I (fun ay hj=>by have:=HB.out;rcases hj with h | h<;>omega)
  have hq:fX m D false w (.returned (.tuple #[.agg #[.slice pt (ai m).1.length U,.slice Z (aw m D false).length R],.agg #[.int .i64 0,.int .i64 0]])) ((((w1.setCell ⟨B,0,none⟩ (.slice pt (ai m).1.length U)).setCell ⟨B,1,none⟩ (.slice Z (aw m D false).length R)).setCell ⟨B+1,0,none⟩ (.int .i64 0)).setCell ⟨B+1,1,none⟩ (.int .i64 0)):=by
   refine⟨FQ,?_⟩
   rw [if_neg J]
   have hb:=HB.out
   exact⟨pt,U,Z,R,av,rfl,dK.keptF I (fun H E G A=>by have:=mL H E G;rcases A with A | A<;>omega),Ir,⟨GAt.keptB lL.1 I (fun H E G A=>by have:=pR (fun h=>H (by rw [h];rfl)) E G;rcases A with A | A<;>omega),fun ak ao hy=>(lL.2 ak ao hy).keptF I (fun H E G A=>by have:=qo ak ao hy (ez H) E G;rcases A with A | A<;>omega)⟩,fun H E G=>by have:=mL H E G;omega,fun H E G=>by have:=pR H E G;omega,fun ak ao hy hn E G=>by have:=qo ak ao hy hn E G;omega,au⟩
  obtain⟨k0,k1,-⟩:=ac Y
  obtain⟨m0,m1,-⟩:=ac O
  have HQ:=zh hq
  clear Y O I fG FQ hq dK Ir lL mL pR qo au J
  obtain⟨aJ,hm⟩:=zx (ai m).1.length
  obtain⟨ax,hM⟩:=zx (aw m D false).length
  rw [hm,hM] at k0 k1 m0 m1 HQ ⊢
  clear hm hM
  go_wp2_with fail
  refine bodyPost_ret (v:=.tuple #[.agg #[.slice pt aJ U,.slice Z ax R],.agg #[.int .i64 0,.int .i64 0]]) (by simp [results,Tryz.results5,go_sem,k0,k1,m0,m1]) rfl HQ
theorem zG (s:ByteArray) (D:Int) (w:World) (hs:s.size<=25000) (gP:fJ w):Calls Tryz.prog 17 #[.string s,.int .i64 D] w (fX s.data.toList D true w):=by
 obtain⟨B,L⟩:=zx w.heap.size
 have HB:=zh L
 have kD:Hid (w.grownBy ((w.alloc (.cells #[.slice none 0 0,.slice none 0 0] 26)).alloc (.cells #[.int .i64 0,.int .i64 0] 29)) none):=zh (af (af (ad _ _) _) _)
 have lN:Hid (((w.alloc (.cells #[.slice none 0 0,.slice none 0 0] 26)).alloc (.cells #[.int .i64 0,.int .i64 0] 29)).heap[B]? = some (.cells #[.slice none 0 0,.slice none 0 0] 26 (0,0))):=zh (by rw [<-L];exact bx (qn _ _ none) (YK w _))
 have xX:Hid (((w.alloc (.cells #[.slice none 0 0,.slice none 0 0] 26)).alloc (.cells #[.int .i64 0,.int .i64 0] 29)).heap[B+1]? = some (.cells #[.int .i64 0,.int .i64 0] 29 (0,0))):=zh (by
  have h9:=YK (w.alloc (.cells #[.slice none 0 0,.slice none 0 0] 26)) (.cells #[.int .i64 0,.int .i64 0] 29)
  rw [show(w.alloc (.cells #[.slice none 0 0,.slice none 0 0] 26)).heap.size=B+1 by simp [L]] at h9
  exact h9)
 have lj:Hid (((w.alloc (.cells #[.slice none 0 0,.slice none 0 0] 26)).alloc (.cells #[.int .i64 0,.int .i64 0] 29)).heap.size=B+2):=zh (by simp [L])
 have Cc:=zh (fun W h=>Fj s D W hs h)
 have iF:=zh (gP.kept kD)
 obtain⟨m,hl⟩:=zx s.data.toList
 rw [hl] at Cc ⊢
 clear hs gP hl
 go_enter Tryz.func17,Tryz.ntmps17
 go_wp2_with fail
 try rw [L]
 refine(Cc _ iF).mono ?_
 rintro A w1 ⟨cJ,he⟩
 have mK:=zh (bx cJ lN);have lr:=zh (bx cJ xX)
 have fu:=zh (aa kD cJ)
 obtain⟨t0,t1,t2⟩:=ac mK
 obtain⟨f0,f1,f2⟩:=ac lr
 clear cJ Cc iF L
 by_cases J:(eE m D true).2.1≠0
 ·rw [if_pos J] at he
  subst he
  have jI:Hid (∀w',w.grownBy w' none->fX m D true w (.returned (fT (eE m D true).2.1 (eE m D true).2.2)) w'):=zh (fun w' hg=>nK rfl J hg)
  obtain⟨ap,hE⟩:=zx (eE m D true).2.1
  obtain⟨aq,hP⟩:=zx (eE m D true).2.2
  rw [hE,hP] at jI ⊢
  unfold fT
  obtain⟨Y,O,I⟩:=yD mK lr (.slice none 0 0) (.slice none 0 0) (.int .i64 (ap:Int)) (.int .i64 (aq:Int))
  obtain⟨k0,k1,-⟩:=ac Y
  obtain⟨m0,m1,-⟩:=ac O
  have HQ:=zh (jI _ (Fr2.after fu I (fun ay hj=>by have:=HB.out;rcases hj with h | h<;>omega)))
  clear Y O I hE hP J
  go_wp2_with fail
  refine bodyPost_ret (v:=fT ap aq) (by simp [results,Tryz.results17,go_sem,k0,k1,m0,m1,fT]) rfl HQ
 ·rw [if_neg J] at he
  obtain⟨pt,U,Z,R,av,rfl,dK,Ir,lL,mL,pR,qo,au⟩:=he
  obtain⟨Y,O,I⟩:=yD mK lr (.slice pt (ai m).1.length U) (.slice Z (aw m D true).length R) (.int .i64 0) (.int .i64 0)
  have fG:=lj.out
  have FQ:=Fr2.after fu I (fun ay hj=>by have:=HB.out;rcases hj with h | h<;>omega)
  have hq:fX m D true w (.returned (.tuple #[.agg #[.slice pt (ai m).1.length U,.slice Z (aw m D true).length R],.agg #[.int .i64 0,.int .i64 0]])) ((((w1.setCell ⟨B,0,none⟩ (.slice pt (ai m).1.length U)).setCell ⟨B,1,none⟩ (.slice Z (aw m D true).length R)).setCell ⟨B+1,0,none⟩ (.int .i64 0)).setCell ⟨B+1,1,none⟩ (.int .i64 0)):=by
   refine⟨FQ,?_⟩
   rw [if_neg J]
   have hb:=HB.out
   exact⟨pt,U,Z,R,av,rfl,dK.keptF I (fun H E G A=>by have:=mL H E G;rcases A with A | A<;>omega),Ir,⟨GAt.keptB lL.1 I (fun H E G A=>by have:=pR (fun h=>H (by rw [h];rfl)) E G;rcases A with A | A<;>omega),fun ak ao hy=>(lL.2 ak ao hy).keptF I (fun H E G A=>by have:=qo ak ao hy (ez H) E G;rcases A with A | A<;>omega)⟩,fun H E G=>by have:=mL H E G;omega,fun H E G=>by have:=pR H E G;omega,fun ak ao hy hn E G=>by have:=qo ak ao hy hn E G;omega,au⟩
  obtain⟨k0,k1,-⟩:=ac Y
  obtain⟨m0,m1,-⟩:=ac O
  have HQ:=zh hq
  clear Y O I fG FQ hq dK Ir lL mL pR qo au J
  obtain⟨aJ,hm⟩:=zx (ai m).1.length
  obtain⟨ax,hM⟩:=zx (aw m D true).length
  rw [hm,hM] at k0 k1 m0 m1 HQ ⊢
  clear hm hM
  go_wp2_with fail
  refine bodyPost_ret (v:=.tuple #[.agg #[.slice pt aJ U,.slice Z ax R],.agg #[.int .i64 0,.int .i64 0]]) (by simp [results,Tryz.results17,go_sem,k0,k1,m0,m1]) rfl HQ
end Go.Proofs.YtpkipghjohomcaaGreatDoor
