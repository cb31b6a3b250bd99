/- Lemmas. -/
import Derived.Deep.CutBlock
import Derived.Deep.DeepCutAuto
import Derived.StillTailTactics
import Derived.Test.YtpkipghjohomcaaGreatDoorP3
set_option linter.unusedVariables false
set_option linter.unusedSimpArgs false
namespace Go.Proofs.YtpkipghjohomcaaGreatDoor
theorem sK (l:List UInt8) (p:Nat):(bI l p).lead++(bI l p).text=l.take (f9 l):=by
 unfold bI f9;rw [List.take_add]
theorem kF (t:Tok) (l:List Tok):cq (t::l)=t.lead++t.text++cq l:=rfl
theorem zS {l:List UInt8} {p:Nat} (A:(bI l p).kind=5):f9 l=l.length/\(bI l p).text = []:=by
 have m:=((tB (l.drop (sk false l))).2).1 A
 have B:l.length<=sk false l:=by
  have:=congrArg List.length m;rw [List.length_drop,List.length_nil] at this;omega
 have E:=tU l false
 constructor
 ·unfold f9;rw [m];simp [cy];omega
 ·unfold bI;rw [m];rfl
theorem PE {l:List UInt8} {p:Nat} (h:cK (bI l p).kind (bI l p).text=0) (G:(bI l p).kind≠5):(bI l p).text≠[]:=by
 have A:(cy (l.drop (sk false l))).1≠0:=fun m=>by
  unfold cK at h
  rw [if_pos (.inl m)] at h;cases h
 have H:=pI G A
 have B:=ot (l.drop (sk false l))
 intro m
 have E:((l.drop (sk false l)).take (cy (l.drop (sk false l))).2).length=([]:List UInt8).length:=congrArg List.length m
 rw [List.length_take,List.length_nil,Nat.min_eq_left B] at E
 omega
theorem wO:∀(f:Nat) (l:List UInt8) (p:Nat),l.length<f->(kg f l p).2.1=0->cq (kg f l p).1=l
 | 0,l,p,h,_=>by omega
 | f+1,l,p,h,h0=>by
   by_cases m:cK (bI l p).kind (bI l p).text=0
   ·by_cases A:(bI l p).kind=5
    ·rw [rs m A,kF,sK,(zS A).1,List.take_length];simp [cq]
    ·rw [n5 m A] at h0 ⊢
     have B:=sd m A
     have E:=vH l
     rw [kF,sK,wO f (l.drop (f9 l)) _ (by rw [List.length_drop];omega) h0,List.take_append_drop]
   ·rw [me m] at h0
    exact absurd h0 m
theorem jP {l:List UInt8} (h:(ai l).2.1=0):cq (ai l).1=l:=wO _ l 0 (by omega) h
def Lo (p:Nat) (L:List Tok):Prop:=∀A m,L[A]? = some m->m.pos=p+(cq (L.take A)).length+m.lead.length/\(m.kind=5↔A+1=L.length)/\(m.text = []↔m.kind=5)
theorem vP:∀(f:Nat) (l:List UInt8) (p:Nat),l.length<f->(kg f l p).2.1=0->Lo p (kg f l p).1/\(kg f l p).1≠[]
 | 0,l,p,h,_=>by omega
 | f+1,l,p,h,h0=>by
   by_cases B:cK (bI l p).kind (bI l p).text=0
   ·have G:(bI l p).lead.length=sk false l:=by
     unfold bI;simp only [List.length_take];have:=tU l false;omega
    by_cases A:(bI l p).kind=5
    ·rw [rs B A]
     refine⟨fun E H m=>?_,by simp⟩
     match E,m with
     | 0,m=>
       simp at m;subst m
       refine⟨?_,by simp [A],by simp [A,(zS A).2]⟩
       rw [G];simp [cq];rfl
    ·rw [n5 B A] at h0 ⊢
     have h1:=sd B A
     have U:=vH l
     obtain⟨Z,O⟩:=vP f (l.drop (f9 l)) (p+f9 l) (by rw [List.length_drop];omega) h0
     refine⟨fun E H m=>?_,by simp⟩
     match E,m with
     | 0,m=>
       simp at m;subst m
       have Y:=PE B A
       refine⟨?_,?_,by simp [A,Y]⟩
       ·rw [G];simp [cq];rfl
       ·simp [A]
        intro R;exact O R
     | E+1,m=>
       obtain⟨I,J,L⟩:=Z E H (by simpa using m)
       refine⟨?_,by rw [J];simp,L⟩
       rw [I,List.take_succ_cons,kF,sK,Q2,List.length_take,Nat.min_eq_left U]
       omega
   ·rw [me B] at h0
    exact absurd h0 B
theorem ly {l:List UInt8} (h:(ai l).2.1=0):Lo 0 (ai l).1/\(ai l).1≠[]:=vP _ l 0 (by omega) h
theorem jG {l:List UInt8} (h:(ai l).2.1=0):(ai l).1.length<=l.length+1:=by
 have R:=(ly h).1
 have U:∀(L:List Tok),(∀B m,L[B]? = some m->(m.text = []↔B+1=L.length))->L.length<=(cq L).length+1:=by
  intro L Z
  have ak:∀(L:List Tok),(∀m∈L,m.text≠[])->L.length<=(cq L).length:=by
   intro L
   induction L with
   | nil=>intro _;exact Nat.le_refl _
   | cons m L ih=>
     intro J
     have G:=ih (fun m E=>J m (Q1 _ E))
     have H:=List.length_pos_iff.2 (J m (Yu ..))
     rw [kF];simp only [hJ,Q2];omega
  have Y:=ak (L.take (L.length - 1)) (fun m E=>by
   obtain⟨B,A⟩:=List.getElem?_of_mem E
   rw [List.getElem?_take] at A
   split at A
   ·rename_i hlt
    intro O
    have:=(Z B m A).1 O
    omega
   ·cases A)
  have h4:=kP L (L.length - 1)
  rw [List.length_take] at Y
  omega
 have I:=U (ai l).1 (fun B m A=>by obtain⟨_,G,H⟩:=R B m A;rw [H,G])
 rw [jP h] at I;exact I
end Go.Proofs.YtpkipghjohomcaaGreatDoor
set_option maxHeartbeats 1000000
set_option maxRecDepth 100000
namespace Go.Proofs.YtpkipghjohomcaaGreatDoor.Zd
open Go.RowKit Mx Nat
def ra (E G y:Nat) (w:World) (e:Ending) (H:World):Prop:=
 ∃A B:Nat,e=.returned (.tuple #[.int .u64 A,.int .u64 B])/\A<Bw/\B<y/\A*y+B=E*Bw+G/\∃m,H=w.drewN m
theorem F8 (m y:Nat) (w:World) (E:0<y) (G:y<Bw) (A:m<Bw):
  Calls Tryz.prog 145 #[.int .u64 0,.int .u64 m,.int .u64 y] w (ra 0 m y w):=by
 have H:=yi (y:Int) 0
 have I:(1:Int)<=y:=by omega
 have J:(y:Int)<=18446744073709551615:=by unfold Bw at G;omega
 have L:(m:Int)<=18446744073709551615:=by unfold Bw at A;omega
 have O:(0:Int)<=m:=by omega
 go_enter Tryz.func145,Tryz.ntmps145
 go_wp2
 go_region
 all_goals go_wp2
 all_goals exact bodyPost_ret (v:=.tuple #[.int .u64 (IntKind.u64.wrap (↑m / ↑y)),.int .u64 (↑m % ↑y)]) (by simp [results,Tryz.results145,go_sem]) rfl (by
  have B:IntKind.u64.wrap ((m:Int) / (y:Int))=((m / y:Nat):Int):=by
   rw [IntKind.wrap_u64,<-Int.natCast_ediv]
   have:m / y<=m:=div_le_self _ _
   unfold Bw at A
   generalize m / y=R at *
   omega
  refine⟨m / y,m % y,?_,Nat.lt_of_le_of_lt (div_le_self _ _) A,mod_lt _ E,?_,1,rfl⟩
  ·rw [B,<-Int.natCast_emod]
  ·rw [Nat.zero_mul,Nat.zero_add,Nat.mul_comm];exact div_add_mod m y)
theorem Kb (A m y s:Nat) (hs:s<=63) (hy:A<y) (Z:m<Bw) (I:y*2 ^ s<18446744073709551616) (av:9223372036854775808<=y*2 ^ s):
  ∃Y O R U L H E:Nat,IntKind.u64.wrap ((y:Int)*2 ^ s)=(Y:Int)/\(Y:Int) / 4294967296=(O:Int)/\bits .and .u64 (Y:Int) 4294967295=(R:Int)/\
   bits .or .u64 (IntKind.u64.wrap ((A:Int)*2 ^ s)) ((m:Int) / 2 ^ (64 - s))=(U:Int)/\IntKind.u64.wrap ((m:Int)*2 ^ s)=(L:Int)/\(L:Int) / 4294967296=(H:Int)/\bits .and .u64 (L:Int) 4294967295=(E:Int)/\
   l8 U H Y O R/\E<4294967296/\Y=y*2 ^ s/\(A*Bw+m)*2 ^ s=(U*4294967296+H)*4294967296+E/\Y<18446744073709551616/\U<18446744073709551616:=by
 unfold Bw at *
 have hp:0<2 ^ s:=Nat.pow_pos (by omega)
 have J:0<2 ^ (64 - s):=Nat.pow_pos (by omega)
 have G:2 ^ s*2 ^ (64 - s)=18446744073709551616:=by rw [<-Nat.pow_add,show s+(64 - s)=64 from by omega]
 have h1:(A+1)*2 ^ s<=y*2 ^ s:=mul_le_mul_right _ hy
 have ak:m / 2 ^ (64 - s)<2 ^ s:=by rw [div_lt_iff_lt_mul J,G];exact Z
 have hU:A*2 ^ s+m / 2 ^ (64 - s)<y*2 ^ s:=by rw [Nat.add_mul] at h1;omega
 have ao:A*2 ^ s ||| m / 2 ^ (64 - s)=A*2 ^ s+m / 2 ^ (64 - s):=by
  rw [Nat.mul_comm];exact(two_pow_add_eq_or_of_lt ak A).symm
 have hL:m*2 ^ s=m / 2 ^ (64 - s)*18446744073709551616+m % 2 ^ (64 - s)*2 ^ s:=by
  have:=div_add_mod m (2 ^ (64 - s))
  generalize m / 2 ^ (64 - s)=ap at *
  generalize m % 2 ^ (64 - s)=aq at *
  rw [<-this,<-G];grind
 have hb:m % 2 ^ (64 - s)*2 ^ s<18446744073709551616:=by
  rw [<-G,Nat.mul_comm (2 ^ s)]
  exact Nat.mul_lt_mul_of_pos_right (mod_lt _ J) hp
 have au:m*2 ^ s % 18446744073709551616=m % 2 ^ (64 - s)*2 ^ s:=by omega
 refine⟨y*2 ^ s,y*2 ^ s / 4294967296,y*2 ^ s % 4294967296,A*2 ^ s+m / 2 ^ (64 - s),m*2 ^ s % 18446744073709551616,m*2 ^ s % 18446744073709551616 / 4294967296,m*2 ^ s % 18446744073709551616 % 4294967296,
  ?_,by omega,Mul64.maskN _ I,?_,?_,by omega,Mul64.maskN _ (by omega),⟨by omega,by omega,by omega,by omega,hU,by omega⟩,by omega,rfl,?_,I,by omega⟩
 ·have B:((y:Int)*2 ^ s)=((y*2 ^ s:Nat):Int):=by simp
  rw [B];exact Mul64.wrapN _ I
 ·have B:((A:Int)*2 ^ s)=((A*2 ^ s:Nat):Int):=by simp
  have e2:((m:Int) / 2 ^ (64 - s))=((m / 2 ^ (64 - s):Nat):Int):=by simp
  rw [B,Mul64.wrapN _ (by omega),e2,bits_or_u64_nat _ _ (by omega) (by omega),ao]
 ·have B:((m:Int)*2 ^ s)=((m*2 ^ s:Nat):Int):=by simp
  rw [B];exact Mul64.wrapM _
 ·have B:(A*18446744073709551616+m)*2 ^ s=A*2 ^ s*18446744073709551616+m*2 ^ s:=by grind
  rw [B];omega
theorem aeR (y:Nat) (B:0<y) (h:y<Bw):∃s:Nat,s<=63/\(∀w,Calls Tryz.prog 156 #[.int .u64 y] w fun m A=>m=.returned (.int .i64 s)/\w=A)/\y*2 ^ s<18446744073709551616/\9223372036854775808<=y*2 ^ s:=by
 obtain⟨s,E,I,G,H⟩:=Nj y B h
 refine⟨s,E,fun w=>(Tryz.bits_LeadingZeros64 (y:Int) w (by omega) (by unfold Bw at h;omega)).mono ?_,G,H⟩
 rintro m A ⟨rfl,rfl⟩
 refine⟨?_,rfl⟩
 have:(64 - (Go.Lib.bitLen (y:Int).toNat:Int))=(s:Int):=by rw [Int.toNat_natCast];omega
 rw [this]
theorem lg {k:IntKind} {a b:Int} (h:a=b):Value.int k a=Value.int k b:=by rw [h]
theorem half_start {u d Y m I:Nat} (h:l8 u d Y m I) (H:u<18446744073709551616):∃q r:Nat,IntKind.u64.wrap ((u:Int) / (m:Int))=(q:Int)/\IntKind.u64.wrap ((u:Int) - IntKind.u64.wrap ((q:Int)*(m:Int)))=(r:Int)/\q*m+r=u/\(u*4294967296+d) / Y<=q/\q<=4294967297/\r<4294967296:=by
 obtain⟨A,B,E,G,L⟩:=h.start
 refine⟨u / m,u % m,?_,?_,A,B,E,G⟩
 ·rw [Mul64.wrapN _ H |> fun _=>IntKind.wrap_u64,<-Int.natCast_ediv]
  generalize u / m=q at *
  omega
 ·rw [<-Int.natCast_mul]
  generalize u / m*m=J at *
  generalize u % m=R at *
  rw [IntKind.wrap_u64,IntKind.wrap_u64]
  omega
theorem zk {u d Y B E:Nat} (h:l8 u d Y B E) (H:Y<18446744073709551616) (I:u<18446744073709551616):∃q r:Nat,q=(u*4294967296+d) / Y/\q<4294967296/\q*Y+r=u*4294967296+d/\r<Y/\
  IntKind.u64.wrap (IntKind.u64.wrap (IntKind.u64.wrap ((u:Int)*4294967296)+(d:Int)) - IntKind.u64.wrap ((q:Int)*(Y:Int)))=(r:Int):=by
 obtain⟨m,A⟩:=h.rest
 have:=h.lt
 refine⟨_,_,rfl,this,A,m,?_⟩
 rw [<-Int.natCast_mul]
 generalize (u*4294967296+d) / Y*Y=G at *
 generalize (u*4294967296+d) % Y=R at *
 simp only [IntKind.wrap_u64]
 omega
theorem RD {H I y s Y U O E m G A B:Nat} (w:World) (Z:Y=y*2 ^ s) (hN:(H*Bw+I)*2 ^ s=(U*4294967296+O)*4294967296+E) (h1:m*Y+G=U*4294967296+O) (h2:A*Y+B=G*4294967296+E)
  (qq:m<4294967296) (qp:A<4294967296) (hr:B<Y):
  ra H I y w (.returned (.tuple #[.int .u64 ((m:Int)*4294967296+(A:Int)),.int .u64 ((B:Int) / 2 ^ s)])) w:=by
 have L:0<2 ^ s:=Nat.pow_pos (by omega)
 have R:(H*Bw+I)*2 ^ s=(m*4294967296+A)*y*2 ^ s+B:=by
  rw [hN,<-h1]
  have:(m*Y+G)*4294967296+E=m*4294967296*Y+(G*4294967296+E):=by grind
  rw [this,<-h2,Z];grind
 unfold ra
 generalize H*Bw+I=J at *
 have hq:(m*4294967296+A)*y<=J:=Nat.le_of_mul_le_mul_right (by rw [R];omega) L
 have e2:(J - (m*4294967296+A)*y)*2 ^ s=B:=by rw [Nat.sub_mul,R];omega
 have e3:B / 2 ^ s=J - (m*4294967296+A)*y:=by rw [<-e2];exact Nat.mul_div_cancel _ L
 have hlt:B / 2 ^ s<y:=by rw [div_lt_iff_lt_mul L,<-Z];exact hr
 refine⟨m*4294967296+A,B / 2 ^ s,?_,by unfold Bw;omega,hlt,by rw [e3];omega,0,rfl⟩
 simp
theorem Ke (hi lo y:Nat) (w:World) (hh:0<hi) (hy:hi<y) (bc:y<Bw) (H5:lo<Bw):
  Calls Tryz.prog 145 #[.int .u64 hi,.int .u64 lo,.int .u64 y] w (ra hi lo y w):=by
 have bW:=yi (y:Int) 0
 have bX:(1:Int)<=y:=by omega
 have h3:(y:Int)<=18446744073709551615:=by unfold Bw at bc;omega
 have h4:(lo:Int)<=18446744073709551615:=by unfold Bw at H5;omega
 have h5:(0:Int)<=lo:=by omega
 have h6:=yi (hi:Int) 0
 have h7:(hi:Int)<y:=by omega
 obtain⟨bN,bB,HL,bH,bL⟩:=aeR y (by omega) bc
 have HL:=zh HL
 go_enter Tryz.func145,Tryz.ntmps145
 obtain⟨bq,A,I,ap,bP,Qb,IA,a4,aX,aO,a3,a0,BM,tr,R,bM,a9,hN,a8,a7⟩:=Kb hi lo y bN bB hy H5 bH bL
 have bm:=zh a4;have ll:=zh aX;have gj:=zh aO;have bi:=zh a3;have bd:=zh a0;have BW:=zh BM;have lC:=zh tr
 have bn:=zh a9;have HN:=zh hN
 clear a4 aX aO a3 a0 BM tr a9 hN
 go_upto_region 15 with (go_at_call 156;refine(HL _).mono ?_;rintro bV w' ⟨rfl,rfl⟩)
 simp only [bm.out,ll.out,gj.out,bi.out,bd.out,BW.out,lC.out]
 clear HL
 have vt:=R.h1
 have g1:(1:Int)<=A:=by omega
 have g2:=yi (A:Int) 0
 obtain⟨q0,r0,b1,b2,a1,a2,A3,A4⟩:=half_start R a7
 have A1:=zh a1;have XS:=zh R
 have b3:=R.h2
 obtain⟨U,R1,aq,bu,a5,bF,bs⟩:=zk R a8 a7
 have rp:=zh aq;have LP:=zh a5
 rw [<-aq] at a2
 have ao:l8 R1 IA bq A I:=⟨R.hY,R.h0,R.h1,R.h2,bF,bM⟩
 have A2:=zh a2
 clear a1 a2 R aq a5
 go_upto_block 0 with fail
 clear b1 b2
 go_cut [15] (fun aL wx=>aL=.int .u64 (U:Nat)/\wx=w)
 case first=>
  go_wp2_with fail
  go_loop [15,16] (fun ak ax=>∃m B:Nat,ak=.int .u64 m/\ax=.int .u64 B/\Hid (m*A+B=ap)/\Hid (U<=m)/\m<=4294967297/\B<4294967296) (fun ak _=>(intOf ak).toNat)
  case atStart=>exact⟨q0,r0,rfl,rfl,A1.out,A2.out,A3,A4⟩
  case round=>
   obtain⟨m,B,rfl,rfl,J,E2,Pa,av⟩:=hrel
   by_cases t1:4294967296<=m
   ·have ay:(4294967296:Int)<=m:=by omega
    have Z:U<m:=by rw [rp.out];exact XS.more J.out (.inl t1)
    have HM:=zh Z
    have O:Hid ((m - 1)*A+(B+A)=ap):=by have:=J.out;rw [Nat.sub_mul];show _=_;have:1*A<=m*A:=mul_le_mul_right _ (by omega);omega
    have L:Hid (U<=m - 1):=by show _<=_;omega
    clear Z
    by_cases G:4294967296<=B+A
    ·have V4:(4294967296:Int)<=B+A:=by omega
     have E:m - 1=U:=by rw [rp.out];exact XS.brk O.out (by rw [<-rp.out];exact L.out) G (by omega)
     have H:=zh E
     clear E
     go_wp2
     go_meet
     exact⟨lg (by have:=H.out;omega),rfl⟩
    ·have V4:=zX ((4294967296:Int)<=(B:Int)+(A:Int))
     have mK:=zh G
     clear G
     go_wp2
     go_round
     case rel=>exact⟨m - 1,B+A,lg (by omega),by go_num,O,L,by omega,by have:=mK.out;omega⟩
     case measure=>simp [intOf];omega
   ·have ay:=zX ((4294967296:Int)<=(m:Int))
    have Y2:=zh Pa;have PK:=zh av;have lN:=zh t1
    have eg:m*I<=4294967295*4294967295:=Nat.mul_le_mul (by omega) (by have:=XS.h0;omega)
    have cB:(m:Int)*I<=18446744065119617025:=by rw [<-Int.natCast_mul];omega
    have fa:(0:Int)<=(m:Int)*I:=by rw [<-Int.natCast_mul];omega
    have wU:=XS.hd
    by_cases t3:4294967296*B+Qb<m*I
    ·have aJ:(4294967296:Int)*B+Qb<(m:Int)*I:=by rw [<-Int.natCast_mul];omega
     have Z:U<m:=by rw [rp.out];exact XS.more J.out (.inr t3)
     have Za:1<=m:=by omega
     have O:Hid ((m - 1)*A+(B+A)=ap):=by have:=J.out;rw [Nat.sub_mul];show _=_;have:1*A<=m*A:=mul_le_mul_right _ (by omega);omega
     have L:Hid (U<=m - 1):=by show _<=_;omega
     clear Z eg t3
     by_cases G:4294967296<=B+A
     ·have V4:(4294967296:Int)<=B+A:=by omega
      have E:m - 1=U:=by rw [rp.out];exact XS.brk O.out (by rw [<-rp.out];exact L.out) G (by omega)
      have H:=zh E
      clear E
      go_wp2
      go_meet
      exact⟨lg (by have:=H.out;omega),rfl⟩
     ·have V4:=zX ((4294967296:Int)<=(B:Int)+(A:Int))
      have mK:=zh G
      clear G
      go_wp2
      go_round
      case rel=>exact⟨m - 1,B+A,lg (by omega),by go_num,O,L,by omega,by have:=mK.out;omega⟩
      case measure=>simp [intOf];omega
    ·have aJ:(m:Int)*I<=(4294967296:Int)*B+Qb:=by rw [<-Int.natCast_mul];omega
     have E:m=U:=by rw [rp.out];exact XS.stop J.out (by rw [<-rp.out];exact E2.out) (by omega)
     have H:=zh E
     clear E eg t3
     go_wp2
     go_meet
     exact⟨lg (by have:=H.out;omega),rfl⟩
 case rest=>
  obtain⟨rfl,Y9⟩:=hcut;obtain rfl:w=_:=Y9.symm
  obtain⟨q1,r1,b1,b2,a1,a2,C3,C4⟩:=half_start ao (by omega)
  obtain⟨Y,R2,au,bt,a6,bw,bS⟩:=zk ao a8 (by omega)
  have C1:=zh a1;have Ya:=zh ao
  have Ut:=zh au;have xE:=zh a6
  rw [<-au] at a2
  have C2:=zh a2
  clear a1 a2 ao au a6
  go_upto_block 2 with fail
  clear b1 b2 bs
  go_cut [18] (fun aL wx=>aL=.int .u64 (Y:Nat)/\wx=w)
  case first=>
   go_wp2_with fail
   go_loop [18,16] (fun ak ax=>∃m B:Nat,ak=.int .u64 m/\ax=.int .u64 B/\Hid (m*A+B=R1)/\Hid (Y<=m)/\m<=4294967297/\B<4294967296) (fun ak _=>(intOf ak).toNat)
   case atStart=>exact⟨q1,r1,rfl,rfl,C1.out,C2.out,C3,C4⟩
   case round=>
    obtain⟨m,B,rfl,rfl,J,E2,Pa,av⟩:=hrel
    by_cases t1:4294967296<=m
    ·have ay:(4294967296:Int)<=m:=by omega
     have Z:Y<m:=by rw [Ut.out];exact Ya.more J.out (.inl t1)
     have HM:=zh Z
     have O:Hid ((m - 1)*A+(B+A)=R1):=by have:=J.out;rw [Nat.sub_mul];show _=_;have:1*A<=m*A:=mul_le_mul_right _ (by omega);omega
     have L:Hid (Y<=m - 1):=by show _<=_;omega
     clear Z
     by_cases G:4294967296<=B+A
     ·have V4:(4294967296:Int)<=B+A:=by omega
      have E:m - 1=Y:=by rw [Ut.out];exact Ya.brk O.out (by rw [<-Ut.out];exact L.out) G (by omega)
      have H:=zh E
      clear E
      go_wp2
      go_meet
      exact⟨lg (by have:=H.out;omega),rfl⟩
     ·have V4:=zX ((4294967296:Int)<=(B:Int)+(A:Int))
      have mK:=zh G
      clear G
      go_wp2
      go_round
      case rel=>exact⟨m - 1,B+A,lg (by omega),by go_num,O,L,by omega,by have:=mK.out;omega⟩
      case measure=>simp [intOf];omega
    ·have ay:=zX ((4294967296:Int)<=(m:Int))
     have Y2:=zh Pa;have PK:=zh av;have lN:=zh t1
     have eg:m*I<=4294967295*4294967295:=Nat.mul_le_mul (by omega) (by have:=Ya.h0;omega)
     have cB:(m:Int)*I<=18446744065119617025:=by rw [<-Int.natCast_mul];omega
     have fa:(0:Int)<=(m:Int)*I:=by rw [<-Int.natCast_mul];omega
     have wU:=Ya.hd
     by_cases t3:4294967296*B+IA<m*I
     ·have aJ:(4294967296:Int)*B+IA<(m:Int)*I:=by rw [<-Int.natCast_mul];omega
      have Z:Y<m:=by rw [Ut.out];exact Ya.more J.out (.inr t3)
      have Za:1<=m:=by omega
      have O:Hid ((m - 1)*A+(B+A)=R1):=by have:=J.out;rw [Nat.sub_mul];show _=_;have:1*A<=m*A:=mul_le_mul_right _ (by omega);omega
      have L:Hid (Y<=m - 1):=by show _<=_;omega
      clear Z eg t3
      by_cases G:4294967296<=B+A
      ·have V4:(4294967296:Int)<=B+A:=by omega
       have E:m - 1=Y:=by rw [Ut.out];exact Ya.brk O.out (by rw [<-Ut.out];exact L.out) G (by omega)
       have H:=zh E
       clear E
       go_wp2
       go_meet
       exact⟨lg (by have:=H.out;omega),rfl⟩
      ·have V4:=zX ((4294967296:Int)<=(B:Int)+(A:Int))
       have mK:=zh G
       clear G
       go_wp2
       go_round
       case rel=>exact⟨m - 1,B+A,lg (by omega),by go_num,O,L,by omega,by have:=mK.out;omega⟩
       case measure=>simp [intOf];omega
     ·have aJ:(m:Int)*I<=(4294967296:Int)*B+IA:=by rw [<-Int.natCast_mul];omega
      have E:m=Y:=by rw [Ut.out];exact Ya.stop J.out (by rw [<-Ut.out];exact E2.out) (by omega)
      have H:=zh E
      clear E eg t3
      go_wp2
      go_meet
      exact⟨lg (by have:=H.out;omega),rfl⟩
  case rest=>
   obtain⟨rfl,Y9⟩:=hcut;obtain rfl:w=_:=Y9.symm
   have E:=RD w bn HN LP xE bu bt bw
   have H:=zh E
   clear E
   go_wp2
   go_ret2
   exact H
theorem QV (m A y:Nat) (w:World) (E:m<y) (G:y<Bw) (B:A<Bw):
  Calls Tryz.prog 145 #[.int .u64 m,.int .u64 A,.int .u64 y] w (ra m A y w):=by
 by_cases h:m=0
 ·subst h;exact F8 A y w E G B
 ·exact Ke m A y w (by omega) E G B
set_option maxHeartbeats 400000
open Go.RowKit Mx
theorem M9 {f:Nat->Nat} {M k s B:Nat} (h:∀j,j<M->f j<B) (A:s<B):∀j,j<M->upd f k s j<B:=by
 intro j m;unfold upd;split<;>first | exact A | exact h j m
def uR (g E B M:Nat) (f I:Nat->Nat) (J:Nat) (w:World) (e:Ending) (H:World):Prop:=
 ∃(G:Nat) (A:Nat->Nat),e=.returned (.int .u64 G)/\G<=1/\Blk .u64 H g M A/\(∀m,m<M->A m<Bw)/\(∀m,(m<E\/E+B<=m)->A m=f m)/\
  V Bw A E B+G*Bw ^ B=V Bw f E B+V Bw I 0 J/\w.grownBy H (some g)
theorem Qi {q x:Nat} (m:q<Bw) (A:x<Bw):q*x<=340282366920938463426481119284349108225:=by
 have:q*x<=18446744073709551615*18446744073709551615:=Nat.mul_le_mul (by unfold Bw at m;omega) (by unfold Bw at A;omega)
 omega
def vV (p:Option Addr) (n G:Nat) (f:Nat->Nat) (w:World) (e:Ending) (H:World):Prop:=
 ∃m E A,e=.returned (.slice E m A)/\m<=n/\m<=A/\A<=G/\(m=0\/f (m - 1)≠0)/\(∀B,m<=B->B<n->f B=0)/\(m=0->E=none)/\(0<m->E=p)/\w=H
theorem Bn (p:Option Addr) (n A:Nat) (f:Nat->Nat) (w:World) (hn:n<=A) (hc:A<=maxLen) (h:At .u64 w p n f):
  Calls Tryz.prog 129 #[.slice p n A] w (vV p n A f w):=by
 unfold maxLen at hc
 go_enter Tryz.func129,Tryz.ntmps129
 go_wp2
 go_loop [3] (fun L=>∃m:Nat,m<=n/\L=.int .i64 m/\Hid (∀B,m<=B->B<n->f B=0)) (fun L=>(intOf L).toNat)
 case atStart=>exact⟨n,Nat.le_refl _,rfl,fun B h1 R=>by omega⟩
 case round=>
  obtain⟨m,hm,rfl,H⟩:=hrel
  by_cases h0:0<m
  ·rcases h with h | ⟨O,Y,rfl,hg,U⟩
   ·omega
   have hk:=U (m - 1) (by omega)
   clear U
   have hi:(0:Int)<(m:Int):=by omega
   by_cases G:f (m - 1)=0
   ·rw [G] at hk
    have Z:=zh G
    clear G
    go_wp2
    go_round
    case rel=>exact⟨m - 1,by omega,sS (by omega),fun B h1 R=>by
     by_cases I:B=m - 1
     ·subst I;exact Z
     ·exact H B (by omega) R⟩
    case measure=>simp [intOf];omega
   ·have E:vV (some ⟨O,Y,none⟩) n A f w (.returned (.slice (some ⟨O,Y,none⟩) m A)) w:=⟨m,_,A,rfl,hm,by omega,by omega,.inr G,H,fun I=>by omega,fun _=>rfl,rfl⟩
    have J:=zh E
    have ak:=yi (f (m - 1):Int) 0
    have K1:=yi (m:Int) 0
    clear E
    go_wp2
    go_ret
    exact J
  ·obtain rfl:m=0:=by omega
   have E:vV p n A f w (.returned (.slice none 0 0)) w:=⟨0,none,0,rfl,by omega,by omega,by omega,.inl rfl,H,fun _=>rfl,fun I=>by omega,rfl⟩
   have J:=zh E
   clear E
   go_wp2
   go_ret
   exact J
theorem MH:(Tryz.prog.info? 182).map (fun m=>(m.zero,m.size,m.bytes))=some (some (.int .u64 0),1,8):=by kernel_rfl
theorem Mr (w:World) (n:Nat) (T:TypeId):Blk .u64 (w.alloc (.cells (madeCells #[.int .u64 0] n) T)) w.heap.size n (fun _=>0):=by
 refine⟨_,T,YK w _,size_madeCells _ _,fun A m=>?_⟩
 rw [<-Array.getElem?_toList,toList_madeCells_one]
 simp [m]
theorem Fu (n:Nat) (m:n<=1099511627776) (w:World):(Instr.makeSlice 56 (.int .i64 (n:Int)) (.int .i64 (n:Int))).run Tryz.prog w=.ok (.slice (some ⟨w.heap.size,0,none⟩) n n) (w.alloc (.cells (madeCells #[.int .u64 0] n) 182)):=
 run_make_row' 56 182 (.int .u64 0) 8 Tryz.underlying56 MH rfl .i64 .i64 n (by omega) (by omega) w
def zK (g B n M d:Nat) (f:Nat->Nat) (w:World) (e:Ending) (G:World):Prop:=
 ∃(E:Nat) (A:Nat->Nat),e=.returned (.int .u64 E)/\E<d/\Blk .u64 G g M A/\(∀m,m<M->A m<Bw)/\(∀m,(m<B\/B+n<=m)->A m=f m)/\V Bw A B n*d+E=V Bw f B n/\w.grownBy G (some g)
theorem KG {A F d B q r r2 x:Nat} (m:A*d+r=F) (G:q*d+r2=r*B+x):(q+B*A)*d+r2=x+B*F:=by
 rw [<-m]
 have E:(q+B*A)*d+r2=(q*d+r2)+B*(A*d):=by grind
 rw [E,G];grind
theorem Fq {f B:Nat->Nat} {A n k d q r r2:Nat} (O:k<n) (E:∀j,(j<A+(k+1)\/A+n<=j)->B j=f j) (G:V Bw B (A+(k+1)) (n - (k+1))*d+r=V Bw f (A+(k+1)) (n - (k+1)))
  (J:q*d+r2=r*Bw+B (A+k)):
  (∀j,(j<A+k\/A+n<=j)->upd B (A+k) q j=f j)/\V Bw (upd B (A+k) q) (A+k) (n - k)*d+r2=V Bw f (A+k) (n - k):=by
 refine⟨fun j L=>?_,?_⟩
 ·rw [upd_ne (by omega)];exact E j (by omega)
 ·obtain⟨m,rfl⟩:∃m,n=k+1+m:=⟨n - (k+1),by omega⟩
  have H:k+1+m - k=m+1:=by omega
  have I:k+1+m - (k+1)=m:=by omega
  rw [I] at G
  rw [H,uQ,uQ,Bk,tg (by omega),Nat.add_assoc A k 1,<-E (A+k) (by omega)]
  exact KG G J
theorem Kw {w m:World} (h:m.heap=w.heap) (a:Addr):m.cell? a=w.cell? a:=by simp [World.cell?,h]
theorem Cs {w m:World} (h:m.heap=w.heap) (a:Addr):m.frozen? a=w.frozen? a:=by simp [World.frozen?,h]
theorem NA {k:IntKind} {w m:World} {g M:Nat} {f:Nat->Nat} (h:m.heap=w.heap) (A:Blk k w g M f):Blk k m g M f:=by
 unfold Blk;rw [h];exact A
theorem ud (g A n aq M d:Nat) (f:Nat->Nat) (w:World) (J:Blk .u64 w g M f) (hl:A+n<=M) (hM:M<=1099511627776) (L:∀j,j<M->f j<Bw) (hd:0<d) (au:d<Bw):
  Calls Tryz.prog 128 #[.slice (some ⟨g,A,none⟩) n aq,.int .u64 d] w (zK g A n M d f w):=by
 go_enter Tryz.func128,Tryz.ntmps128
 go_wp2
 go_loopw [5,6] (fun av R wr=>∃(m E:Nat) (B:Nat->Nat),m<=n/\R=.int .i64 ((m:Int) - 1)/\av=.int .u64 E/\E<d/\Hid (Blk .u64 wr g M B)/\Hid (∀j,j<M->B j<Bw)/\Hid (∀j,(j<A+m\/A+n<=j)->B j=f j)/\
   Hid (V Bw B (A+m) (n - m)*d+E=V Bw f (A+m) (n - m))/\Hid (w.grownBy wr (some g)))
  (fun _ R _=>(intOf R+1).toNat)
 case atStart=>exact⟨n,0,f,by omega,rfl,rfl,hd,J,L,fun _ _=>rfl,by simp [Hid,V],ad _ _⟩
 case round=>
  obtain⟨k1,E,B,eD,rfl,rfl,hr,G,H,Y,Z,U⟩:=hrel
  by_cases h0:0<k1
  ·obtain⟨m,rfl⟩:∃m,k1=m+1:=⟨k1 - 1,by omega⟩
   have uG:=G.cell (j:=A+m) (by omega)
   have mL:=G.free (A+m)
   have hx:=H (A+m) (by omega)
   have ku:=zh (fun q r2 h=>Fq (q:=q) (r2:=r2) (show m<n by omega) Y Z h)
   have ap:=zh (fun w=>QV E (B (A+m)) d w hr au hx)
   have zW:=H.out
   have TW:=zh zW
   have ao:((m+1:Nat):Int) - 1=(m:Int):=by omega
   rw [ao]
   clear L J zW hx ao
   go_wp2_with (go_at_call 145;refine(ap _).mono ?_;rintro ax w1 ⟨q,r2,rfl,hq,Nw,ak,ay,O⟩;(have I:w1.heap=wr.heap:=by rw [O];rfl);(have cJ:wr.grownBy w1 none:=by rw [O];exact am (ad _ _) _);clear O;have HQ:=zh hq;have bX:=zh ak;have HH:=zh I;have fu:=zh cJ;have pR:=(Cs I _).trans mL;have tA:=(Kw I _).trans uG;clear hq ak I cJ mL uG)
   go_roundw
   case rel=>exact⟨m,r2,_,by omega,rfl,rfl,Nw,(NA HH G).set q,M9 H HQ,(ku q r2 bX).1,(ku q r2 bX).2,pM (aa U (bj (dF fu))) _⟩
   case measure=>simp [intOf]
  ·obtain rfl:k1=0:=by omega
   have dA:zK g A n M d f w (.returned (.int .u64 E)) wr:=⟨E,B,rfl,hr,G,H,Y,Z,U⟩
   have gQ:=zh dA
   clear dA L J
   go_wp2
   go_ret
   exact gQ
open Go.RowKit Mx List
def Num (w:World) (v:Value) (N:Nat):Prop:=
 ∃G m B A,v=.slice G m B/\m<=B/\B<=maxLen/\At .u64 w G m A/\(∀E,E<m->A E<Bw)/\(m=0\/A (m - 1)≠0)/\V Bw A 0 m=N
theorem Num.kept {w m:World} {v:Value} {N:Nat} (h:Num w v N) (I:w.grownBy m none):Num m v N:=by
 obtain⟨L,J,A,B,rfl,E,G,H,O⟩:=h
 exact⟨L,J,A,B,rfl,E,G,H.grown I (by simp),O⟩
def xN:Nat:=100000
def Lim:Nat:=Bw ^ xN
theorem RN {n:Nat} {f:Nat->Nat} (t:n=0\/f (n - 1)≠0) (h:V Bw f 0 n<Lim):n<=xN:=by
 rcases zu (b:=Bw) (f:=f) (o:=0) (n:=n) (by simpa using t) with m | m
 ·omega
 ·by_cases A:n<=xN
  ·exact A
  ·have:Bw ^ xN<=Bw ^ (n - 1):=Nat.pow_le_pow_right uZ (by omega)
   unfold Lim at h
   omega
theorem addr_add (g o j:Nat):(⟨g,o,none⟩:Addr).add j=⟨g,o+j,none⟩:=by unfold Addr.add;split<;>simp_all
theorem Mp (w:World) (g M:Nat) (Y f:Nat->Nat) (p:Option Addr) (n U:Nat) (Z:Blk .u64 w g M Y) (h:At .u64 w p n f) (hn:n<=M):
  ∃R,(Builtin.copy_ #[56,56] 3 #[.slice (some ⟨g,0,none⟩) M M,.slice p n U]).run Tryz.prog w=.ok (.int .i64 n) R/\Blk .u64 R g M (fun m=>if m<n then f m else Y m)/\w.grownBy R (some g):=by
 by_cases h0:n=0
 ·subst h0
  refine⟨w,?_,by simpa using Z,ad _ _⟩
  exact run_copy_none w 56 56 3 182 _ _ _ _ _ _ Tryz.underlying56 (by kernel_rfl) (by simp)
 ·rcases h with h | ⟨gb,ob,rfl,hg,hc⟩
  ·omega
  obtain⟨H,G,ns,hs,ao⟩:=Z
  obtain⟨L,E,I⟩:∃L:List Value,L.length=n/\∀m,m<n->L[m]? = some (.int .u64 (f m)):=⟨(List.range n).map fun m=>Value.int .u64 (f m),by simp,fun m A=>by simp [A]⟩
  have ak:∀O∈L,O.oneCell'=true:=by
   intro O hv
   obtain⟨m,A,rfl⟩:=getElem_of_mem hv
   have:=I m (by omega)
   rw [QS A] at this
   injection this with this
   rw [this];rfl
  have J:=run_copy_row (P:=Tryz.prog) w 56 56 3 182 g 0 M M ⟨gb,ob,none⟩ n U H G L Tryz.underlying56 (by kernel_rfl) ns
   (by rw [E];exact(Nat.min_eq_left hn).symm) (fun m O A=>by
    have B:m<n:=by rw [<-E];exact(Q4.1 A).1
    rw [I m B] at A
    injection A with A
    rw [addr_add,<-A];exact hc m B) (by omega) ak
  refine⟨w.setRow g (H.toList.take 0++L++H.toList.drop (0+L.length)).toArray,?_,?_,?_⟩
  ·rw [J,E];rfl
  ·refine⟨_,G,setRow_heap w g _ _ G _ ns,by simp;omega,fun m A=>?_⟩
   rw [Q7,take_zero,nil_append,Nat.zero_add,E,getElem?_append,E]
   by_cases B:m<n
   ·rw [if_pos B];simp only [B,if_true];exact I m B
   ·rw [if_neg B,getElem?_drop,Array.getElem?_toList,show n+(m - n)=m from by omega]
    simp only [B,if_false]
    exact ao m A
  ·exact⟨rfl,rfl,rfl,by simp [World.setRow],fun aq _ J=>setRow_other w g aq _ (by intro ap;apply J;rw [ap])⟩
theorem yq {w:World} {G:Array Oper} {rest:List Oper} {o:Oper} {a:Act} {Q:Exit->Act->World->Prop} (I:o.guard=none) (d s:Operand)
  (Z:o.op=.call { callee:=.builtin .copy,args:=#[d,s],argTypes:=#[56,56] }) (H:o.type=3)
  (g M n E:Nat) (p:Option Addr) (A f:Nat->Nat) (U:a.eval d=.slice (some ⟨g,0,none⟩) M M) (hs:a.eval s=.slice p n E) (O:Blk .u64 w g M A) (h:At .u64 w p n f) (Y:n<=M)
  (K:∀m,Hid (Blk .u64 m g M (fun B=>if B<n then f B else A B))->Hid (w.grownBy m (some g))->wpList Tryz.prog G Q rest (a.put o.dst (.int .i64 n)) m):
  wpList Tryz.prog G Q (o::rest) a w:=by
 refine wpList_plain I fun K' R=>?_
 obtain⟨m,ri,J,L⟩:=Mp w g M A f p n E O h Y
 unfold Oper.wp
 simp [execOp,Z,resolve,invoke,builtin,U,hs,H,ri,Result.andThen]
 exact R _ _ (K m J L)
open Go.RowKit Mx List Nat Go.World
def lst (k:IntKind) (n:Nat) (f:Nat->Nat):List Value:=(List.range n).map fun m=>Value.int k (f m)
theorem Aj {k:IntKind} {n:Nat} {f:Nat->Nat}:(lst k n f).length=n:=by simp [lst]
theorem rA {k:IntKind} {n:Nat} {f:Nat->Nat} {j:Nat} (h:j<n):(lst k n f)[j]? = some (.int k (f j)):=by simp [lst,h]
theorem Ny {k:IntKind} {n:Nat} {f:Nat->Nat} {y:Nat}:lst k (n+1) (upd f n y)=lst k n f++[.int k y]:=by
 unfold lst
 rw [range_succ,map_append]
 congr 1
 ·apply map_congr_left
  intro A m
  rw [upd_ne (by simp at m;omega)]
 ·simp [upd]
theorem Lr {k:IntKind} {n m:Nat} {f:Nat->Nat} (h:m<=n):(lst k n f).take m=lst k m f:=by
 unfold lst
 rw [<-map_take,take_range,Nat.min_eq_left h]
def Own (k:IntKind) (e:TypeId) (w:World) (base:Nat) (v:Value) (n:Nat) (f:Nat->Nat):Prop:=w.ownsRow base e 1 v n (lst k n f)
section
variable {k:IntKind} {e:TypeId} {w w':World} {base:Nat} {v:Value} {n:Nat} {f:Nat->Nat}
theorem Own.shape (h:Own k e w base v n f):(v=.slice none 0 0/\n=0)\/∃g m,v=.slice (some ⟨g,0,none⟩) n m/\base<=g/\g<w.heap.size/\n<=m/\m<=maxLen:=by
 rcases h.2 with A | ⟨g,m,J,I,B,G,H,E,_⟩
 ·exact .inl A
 ·exact .inr ⟨g,m,I,B,(Array.getElem?_eq_some_iff.1 G).1,H,E⟩
theorem Own.at {p:Option Addr} {m B:Nat} (h:Own k e w base (.slice p m B) n f):m=n/\At k w p n f:=by
 rcases h.2 with ⟨H,A⟩ | ⟨g,cP,L,H,R,I,A,U,Z,ak⟩
 ·injection H with E G;subst E;subst G;exact⟨A.symm,.inl A⟩
 ·injection H with E G O;subst E;subst G;subst O
  refine⟨rfl,.inr ⟨g,0,rfl,(Array.getElem?_eq_some_iff.1 I).1,fun J Y=>?_⟩⟩
  have:=World.ownsRow.cells (w:=w) (base:=base) (e:=e) (size:=1) (v:=.slice (some ⟨g,0,none⟩) m B) (n:=m) (xs:=lst k m f) ⟨by simp [lst],.inr ⟨g,B,L,rfl,R,I,A,U,Z,ak⟩⟩ (g:=g) rfl J (.int k (f J)) (rA Y)
  rwa [addr_add] at this
theorem Own.kept {row:Option Nat} (h:Own k e w base v n f) (A:w.grownBy w' row) (m:v.ownBlock=none\/v.ownBlock≠row):Own k e w' base v n f:=World.ownsRow.kept h A m
theorem Own.cut {g B m:Nat} (h:Own k e w base (.slice (some ⟨g,0,none⟩) n B) n f) (G:m<=n):Own k e w base (.slice (some ⟨g,0,none⟩) m B) m f:=by
 rcases h.2 with ⟨E,_⟩ | ⟨Z,Y,I,E,L,R,hn,O,U,H⟩
 ·cases E
 ·injection E with A h2 J
  injection A with A
  injection A with A
  subst A;subst J
  refine⟨by simp [lst],.inr ⟨g,B,I,rfl,L,R,by omega,O,U,?_⟩⟩
  rw [Nat.mul_one] at H ⊢
  rw [<-Lr G,<-H,take_take,Nat.min_eq_left G]
theorem Own.far (h:Own k e w base v n f):∀g,v.ownBlock=some g->base<=g:=by
 intro g m
 rcases h.shape with ⟨rfl,_⟩ | ⟨B,A,rfl,E,_⟩
 ·cases m
 ·simp [Value.ownBlock] at m;omega
theorem Own.mono {m:Nat} (h:Own k e w base v n f) (J:m<=base):Own k e w m v n f:=by
 refine⟨h.1,?_⟩
 rcases h.2 with G | ⟨E,A,B,H,L,I⟩
 ·exact .inl G
 ·exact .inr ⟨E,A,B,H,by omega,I⟩
theorem Aw {a:World} (h:a.grownBy w none) (G:Own k e w base v n f) (H:a.heap.size<=base) (m:w.grownBy w' v.ownBlock):a.grownBy w' none:=by
 have E:=G.far
 exact⟨m.os.trans h.os,m.tape.trans h.tape,m.output.trans h.output,Nat.le_trans h.size m.size,fun A B _=>(m.block A (zn B h.size) (fun e=>by have:=E A e.symm;omega)).trans (h.block A B (by simp))⟩
theorem Own.nil:Own k e w base (.slice none 0 0) 0 f:=ownsRow_nil w base e 1
theorem Own.congr {f2:Nat->Nat} (h:Own k e w base v n f) (m:∀j,j<n->f j=f2 j):Own k e w base v n f2:=by
 have:lst k n f2=lst k n f:=by
  unfold lst
  apply map_congr_left
  intro j A
  rw [m j (by simpa using A)]
 unfold Own
 rw [this];exact h
theorem Own.set {g A j x:Nat} (h:Own k e w base (.slice (some ⟨g,0,none⟩) n A) n f) (H:j<n):Own k e (w.setCell ⟨g,j,none⟩ (.int k x)) base (.slice (some ⟨g,0,none⟩) n A) n (upd f j x):=by
 have B:=(World.ownsRow.stored h j (.int k x)).1
 have e:(lst k n f).set j (.int k x)=lst k n (upd f j x):=by
  apply ext_getElem?
  intro G
  rw [getElem?_set,Aj]
  by_cases m:G<n
  ·rw [rA m]
   by_cases E:j=G
   ·subst E;rw [rA m,Bk];simp [m]
   ·rw [if_neg E,rA m,upd_ne (by omega)]
  ·rw [if_neg (by omega),getElem?_eq_none (by rw [Aj];omega),getElem?_eq_none (by rw [Aj];omega)]
 rw [e] at B
 exact B
theorem Own.cell {g m j:Nat} (h:Own k e w base (.slice (some ⟨g,0,none⟩) n m) n f) (A:j<n):w.cell? ⟨g,j,none⟩=some (.int k (f j)):=by
 rw [World.ownsRow.cellAt h j (by omega)];exact rA A
theorem Own.free {g m j:Nat} (h:Own k e w base (.slice (some ⟨g,0,none⟩) n m) n f):w.frozen? ⟨g,j,none⟩=false:=World.ownsRow.frozenAt h j
end
theorem nj {k:IntKind} {t e:TypeId} {bytes:Nat} (ht:Tryz.prog.underlying t=some (.slice e)) (ao:(Tryz.prog.info? e).map (fun H=>(H.zero,H.size,H.bytes))=some (some (.int k 0),1,bytes)) (ak:bytes<=8)
  {m:World} {J:Array Oper} {rest:List Oper} {o:Oper} {a:Act} {Q:Exit->Act->World->Prop} (Z:o.guard=none) (s x:Operand) (ho:o.op=.call { callee:=.builtin .append,args:=#[s,x],argTypes:=#[t,t] })
  (base:Nat) (v:Value) (n:Nat) (f:Nat->Nat) (Y:Int) (y:Nat) (hY:Y=(y:Int)) (hs:a.eval s=v) (U:Own k e m base v n f) (hx:a.eval x=.slice (some ⟨m.heap.size,0,none⟩) 1 1) (hn:n<=1000000000) (gu:base<=m.heap.size)
  (K:∀G w',Own k e w' base G (n+1) (upd f n y)->m.grownBy w' v.ownBlock->wpList Tryz.prog J Q rest (a.put o.dst G) w'):
  wpList Tryz.prog J Q (o::rest) a (m.alloc (.cells #[.int k Y] e)):=by
 subst hY
 obtain⟨i0,hi,O,R,L⟩:=info_parts ao
 refine wpList_append_own (P:=Tryz.prog) _ Z s x t ho base e i0 (.int k 0) 1 bytes ht hi O R L rfl (by decide) v n (lst k n f) hs (U.alloc _) ⟨m.heap.size,0,none⟩ 1 1 [.int k y] hx rfl ?_ ?_ (by unfold maxLen;omega) ?_ (by simp;omega) ?_
 ·intro E ap A
  match E,A with
  | 0,A=>simp at A;subst A;simp [Addr.add]
 ·intro ap I;simp at I;subst I;rfl
 ·have:(n+1)*bytes<=(n+1)*8:=mul_le_mul_left _ ak
  omega
 ·intro G w' h1 B _
  refine K G w' ?_ ⟨B.os,B.tape,B.output,Nat.le_trans (by simp) B.size,fun E A hr=>(B.block E (by simp;omega) hr).trans (Below.heap_alloc m _ E A)⟩
  unfold Own
  rw [Ny];exact h1
theorem own_below {w m A:World} (h:Below w.heap.size w m) {o:Obj} (B:(m.alloc o).grownBy A (some m.heap.size)):w.grownBy A none:=
 bj (FM (h.alloc h.size o) h.size B)
theorem Vg {f:Nat->Nat} {n M:Nat} (h:∀j,j<n->f j<Bw):∀j,j<M->(fun j=>if j<n then f j else 0) j<Bw:=by
 intro j _
 show(if j<n then f j else 0)<Bw
 split
 ·exact h j ‹_›
 ·exact uZ
theorem Ho {n:Nat} {f:Nat->Nat} (m:V Bw f 0 n≠0):0<n:=by
 rcases eq_zero_or_pos n with h | h
 ·subst h;exact absurd rfl m
 ·exact h
end Go.Proofs.YtpkipghjohomcaaGreatDoor.Zd
set_option maxHeartbeats 2000000
namespace Go.Proofs.YtpkipghjohomcaaGreatDoor.Zd
open Go.RowKit Mx Nat Go.World
def nd (N:Nat):Nat:=if h:N=0 then 0 else nd (N / 10)+1
termination_by N
decreasing_by omega
theorem aao (N:Nat):N<10 ^ nd N:=by
 induction N using nd.induct with
 | case1=>simp [nd]
 | case2 N h ih=>rw [nd,dif_neg h,Nat.pow_succ];omega
theorem TC (N:Nat) (h:N≠0):10 ^ (nd N - 1)<=N:=by
 induction N using nd.induct with
 | case1=>exact absurd rfl h
 | case2 N h ih=>
   rw [nd,dif_neg h,Nat.add_sub_cancel]
   by_cases m:N / 10=0
   ·rw [m,nd,dif_pos rfl];simp;omega
   ·have:=ih m
    have A:10 ^ nd (N / 10)=10 ^ (nd (N / 10) - 1)*10:=by
     rw [<-Nat.pow_succ];congr 1
     have:nd (N / 10)≠0:=by rw [nd,dif_neg m];omega
     omega
    omega
theorem aa5 {N n:Nat} (E:N<10 ^ n) (G:10 ^ (n - 1)<=N) (H:0<n):n=nd N:=by
 have m:N≠0:=by have:=Nat.pow_pos (n:=n - 1) (show 0<10 by omega);omega
 have A:=aao N
 have B:=TC N m
 rcases Nat.lt_trichotomy n (nd N) with h | h | h
 ·have:10 ^ n<=10 ^ (nd N - 1):=Nat.pow_le_pow_right (by omega) (by omega);omega
 ·exact h
 ·have:10 ^ nd N<=10 ^ (n - 1):=Nat.pow_le_pow_right (by omega) (by omega);omega
def dig (N j:Nat):Nat:=N / 10 ^ j % 10
theorem zP {f:Nat->Nat} {n N:Nat} (B:∀j,j<n->f j<10) (E:0<n) (G:f (n - 1)≠0) (A:V 10 f 0 n=N):n=nd N/\∀j,j<n->f j=dig N j:=by
 refine⟨aa5 ?_ ?_ E,fun j m=>?_⟩
 ·rw [<-A];exact We (fun j m=>by rw [Nat.zero_add];exact B j m)
 ·rcases zu (b:=10) (f:=f) (o:=0) (n:=n) (.inr (by simpa using G)) with h | h
  ·omega
  ·rw [<-A];exact h
 ·have:=Tl (b:=10) (f:=f) (o:=0) (n:=n) (by omega) (fun j m=>by rw [Nat.zero_add];exact B j m) m
  rw [Nat.zero_add] at this
  rw [<-this,<-A];rfl
def oJ (N:Nat):List UInt8:=(List.range (nd N)).map fun m=>UInt8.ofNat (48+dig N (nd N - 1 - m))
def txtL (Z:Int):List UInt8:=if Z=0 then [48] else if Z<0 then 45::oJ Z.natAbs else oJ Z.natAbs
def txt (Z:Int):Value:=.string ⟨(txtL Z).toArray⟩
def Bb (N:Nat) (w:World) (e:Ending) (G:World):Prop:=
 ∃E A B,e=.returned (.slice (some ⟨E,0,none⟩) ((nd N:Nat)) A)/\Own .u8 5 G w.heap.size (.slice (some ⟨E,0,none⟩) (nd N) A) (nd N) B/\(∀m,m<nd N->B m=48+dig N m)/\w.grownBy G none
theorem Uh:(Tryz.prog.info? 5).map (fun m=>(m.zero,m.size,m.bytes))=some (some (.int .u8 0),1,1):=by kernel_rfl
def ms:Nat:=10000000000000000000
def dv (f:Nat->Nat):Nat->Nat:=fun m=>f m - 48
def WP (w:World) (N I:Nat) (g:Nat) (L O:Value) (wr:World):Prop:=
 ∃m J H E G B,L=.slice J m H/\m<=H/\H<=maxLen/\m<=I/\(0<m->J=some ⟨w.heap.size,0,none⟩)/\Blk .u64 wr w.heap.size I E/\(∀A,A<I->E A<Bw)/\(m=0\/E (m - 1)≠0)/\V Bw E 0 m=g/\
  Own .u8 5 wr (w.heap.size+1) O G B/\(∀A,A<G->48<=B A/\B A<58)/\V 10 (dv B) 0 G+10 ^ G*g=N/\w.grownBy wr none
def aaG (w J:World) (G:Nat) (E B:Nat->Nat) (n I:Nat) (r A:Nat) (H:Value) (wr:World):Prop:=
 ∃SW,Blk .u64 wr w.heap.size G E/\Own .u8 5 wr (w.heap.size+1) H (n+r) SW/\(∀m,m<n+r->48<=SW m/\SW m<58)/\A<10 ^ (19 - r)/\V 10 (dv SW) 0 (n+r)+10 ^ (n+r)*A=V 10 (dv B) 0 n+10 ^ n*I/\w.grownBy wr none
theorem XM {f:Nat->Nat} {n y:Nat}:V 10 (dv (upd f n y)) 0 (n+1)=V 10 (dv f) 0 n+(y - 48)*10 ^ n:=by
 rw [jn,Nat.zero_add]
 congr 1
 ·exact uO (fun A m=>by unfold dv;rw [upd_ne (by omega)])
 ·simp [dv,upd]
theorem FI {f:Nat->Nat} {m A T:Nat} (h:V 10 (dv f) 0 m+10 ^ m*A=T):V 10 (dv (upd f m (48+A % 10))) 0 (m+1)+10 ^ (m+1)*(A / 10)=T:=by
 rw [XM,Nat.add_sub_cancel_left,Nat.pow_succ,<-h]
 have:=div_add_mod A 10
 generalize A / 10=B at *
 generalize A % 10=E at *
 rw [<-this];grind
theorem J2 {f:Nat->Nat} {m A:Nat} (h:∀j,j<m->48<=f j/\f j<58):∀j,j<m+1->48<=upd f m (48+A % 10) j/\upd f m (48+A % 10) j<58:=by
 intro j B
 unfold upd
 split
 ·omega
 ·exact h j (by omega)
theorem KB {n X g N m:Nat} (h:X+10 ^ n*g=N) (E:0<g) (I:N<Bw ^ m):n<64*m:=by
 have G:10 ^ n*1<=10 ^ n*g:=mul_le_mul_left _ E
 have H:2 ^ n<=10 ^ n:=Nat.pow_le_pow_left (by omega) n
 have A:Bw ^ m=2 ^ (64*m):=by rw [Nat.pow_mul];rfl
 have B:2 ^ n<2 ^ (64*m):=by rw [<-A];omega
 exact(Nat.pow_lt_pow_iff_right (by omega)).1 B
theorem tb (pa:Option Addr) (A aO:Nat) (f:Nat->Nat) (w:World) (lL:A<=100000) (ha:At .u64 w pa A f) (hf:∀j,j<A->f j<Bw) (t:A=0\/f (A - 1)≠0) (h0:0<A):
  Calls Tryz.prog 101 #[.slice pa A aO] w (Bb (V Bw f 0 A) w):=by
 have Uq:∀w,(Instr.makeSlice 56 (.int .i64 (A:Int)) (.int .i64 (A:Int))).run Tryz.prog w=.ok (.slice (some ⟨w.heap.size,0,none⟩) A A) (w.alloc (.cells (madeCells #[.int .u64 0] A) 182)):=
  fun w=>Fu A (by omega) w
 have HA:=zh ha;have HF:=zh hf;have HT:=zh t
 have a2:V Bw f 0 A≠0:=by
  rcases zu (b:=Bw) (f:=f) (o:=0) (n:=A) (by simpa using t) with e | e
  ·omega
  ·have:=Nat.pow_pos (n:=A - 1) uZ;omega
 have au:=zh a2
 clear ha hf t a2
 go_enter Tryz.func101,Tryz.ntmps101
 go_wp2_with (with_reducible refine yq rfl _ _ rfl rfl w.heap.size A A aO pa (fun _=>0) f rfl rfl (Mr _ _ _) (HA.out.grown (qn _ _ none) (by simp)) (by omega) ?_)
 intro w2 bP bF
 have aJ:=zh (own_below (Below.refl _ _) bF)
 have lj:=bP.lt
 have lr:=zh (Vg HF (M:=A))
 clear Uq bF HA
 have ay:V Bw f 0 A<Bw ^ A:=We (fun j U=>by rw [Nat.zero_add];exact HF j U)
 have xx:=zh ay
 have HS:Hid (WP w (V Bw f 0 A) A (V Bw f 0 A) (.slice (some ⟨w.heap.size,0,none⟩) A A) (.slice none 0 0) w2):=
  ⟨A,_,A,_,0,fun _=>0,rfl,Nat.le_refl _,by unfold maxLen;omega,Nat.le_refl _,fun _=>rfl,bP,lr,by have:=HT.out;rcases this with h | h;exact .inl h;exact .inr (by rw [if_pos (by omega)];exact h),uO (fun j U=>by simp [U]),Own.nil,fun j U=>by omega,by simp [V],aJ⟩
 clear ay bP aJ lr lj
 go_wp2_with fail
 go_loopg [3,4] (V Bw f 0 A) (fun I bB ak wr=>WP w (V Bw f 0 A) A I bB ak wr)
 case atStart=>exact HS
 case round=>
  clear HS
  obtain⟨R,bW,cl,fl,n,H,rfl,q1,q2,q3,q4,q5,q6,q7,q8,q9,mQ,O,mN⟩:=hrel
  by_cases bu:0<R
  ·obtain rfl:=q4 bu
   have sP:0<gk:=by
    rw [<-q8]
    rcases zu (b:=Bw) (f:=fl) (o:=0) (n:=R) (by simpa using q7) with e | e
    ·omega
    ·have:=Nat.pow_pos (n:=R - 1) uZ;omega
   have dS:=KB O sP xx
   have EO:=zh q5;have XR:=zh q6;have a8:=zh q8;have J:=zh q9;have Y:=zh mQ;have HE:=zh O;have HW:=zh mN
   have ax:0<ms:=by unfold ms;omega
   have UN:ms<Bw:=by unfold ms Bw;omega
   have lN:=zh ax;have mK:=zh UN
   have bm:=zh sP
   clear q4 q5 q6 q7 q8 q9 mQ O mN ax UN sP
   go_wp2_with (go_at_call 128;rw [show(10000000000000000000:Int)=((ms:Nat):Int) from rfl];refine(ud w.heap.size 0 R _ A ms fl _ EO (by omega) (by omega) XR lN mK).mono ?_;rintro e w3 ⟨r0,E,rfl,hr,yJ,a0,Vn,a4,Y8⟩;have ie:=zh yJ;have oM:=zh a0;have FF:=zh a4;have gA:=zh Y8;have HR:=zh hr;clear yJ a0 Vn a4 Y8 hr)
   refine(Bn _ R cl E _ q1 q2 (ie.at0.pre q3)).mono ?_
   rintro e w4 ⟨m,p',cP,rfl,hm,Zt,bS,ht,hz,UU,a5,rfl⟩
   have a7:=zh ht;have J0:=zh hz;have Tf:=zh a5
   clear ht hz UU a5
   have bd:=J.far
   have ma:=J.kept gA (by
    rcases J.shape with ⟨e,_⟩ | ⟨g',c',e,hb,_⟩
    ·subst e;exact .inl rfl
    ·subst e;exact .inr (by simp [Value.ownBlock];omega))
   have aq:=zh ma
   have YW:=zh (bj (row:=none) (FM (dF HW) (Nat.le_refl _) gA))
   have B2:Hid (aaG w w A E H n r0 0 r0 u4 w3):=⟨H,ie,aq,Y,by have:=HR.out;unfold ms at this;omega,rfl,YW⟩
   clear ma bd aq YW EO gA HW J
   go_wp2_with fail
   go_loopg [4,5,19] 19 (fun I ak grp bw wr=>∃B G:Nat,I=19 - B/\B<=19/\bw=.int .i64 B/\grp=.int .u64 G/\aaG w w A E H n r0 B G ak wr)
   case atStart=>exact⟨0,r0,rfl,by omega,rfl,rfl,B2⟩
   case round=>
    clear B2
    obtain⟨B,G,rfl,bV,rfl,rfl,SW,g1,g2,g3,g4,Z,g6⟩:=hrel
    by_cases hlt:B<19
    ·have i1:(0:Int)<=(G:Int) % 10:=by omega
     have i2:(G:Int) % 10<10:=by omega
     have i3:(0:Int)<=G:=by omega
     have i4:(G:Int)<=18446744073709551615:=by
      have:10 ^ (19 - B)<=10 ^ 19:=Nat.pow_le_pow_right (by omega) (by omega)
      omega
     have G1:=zh g1;have G2:=zh g2;have G3:=zh g3;have G4:=zh g4;have G5:=zh Z;have G6:=zh g6
     have fG:=G6.out.size
     have hL:=G1.out.lt
     clear g1 g2 g3 g4 Z g6
     go_wp2_with (at_builtin;refine nj (k:=.u8) (t:=94) (e:=5) (bytes:=1) Tryz.underlying94 Uh (by omega) rfl _ _ rfl (w.heap.size+1) u4 (n+B) SW _ (48+G % 10) (by omega) rfl G2.out rfl (by omega) (by omega) ?_)
     intro v' w' a3 a1
     have Zk:=zh a3;have QK:=zh a1
     clear a3 a1
     go_wp2_with fail
     have bL:G / 10<10 ^ (19 - (B+1)):=by
      have e:10 ^ (19 - B)=10 ^ (19 - (B+1))*10:=by rw [<-Nat.pow_succ];congr 1;omega
      have:=G4.out
      omega
     have bN:w.heap.size≠w.heap.size+1:=by omega
     have bn:Blk .u64 w' w.heap.size A E:=by
      refine G1.out.kept QK.out ?_
      intro e
      have:=G2.out.far _ e.symm
      omega
     go_roundg (19 - (B+1))
     case measure=>omega
     case rel=>exact⟨B+1,G / 10,rfl,by omega,by go_num,sS (by omega),upd SW (n+B) (48+G % 10),bn,Zk,J2 G3.out,bL,FI G5.out,Aw G6.out G2.out (by omega) QK⟩
    ·obtain rfl:B=19:=by omega
     have hz:G=0:=by have:G<10 ^ 0:=g4;simpa using this
     rw [hz,Nat.mul_zero,Nat.add_zero] at Z
     have a6:V Bw E 0 m=V Bw E 0 R:=(Ue (fun j h1 h2=>by simpa using J0.out j h1 h2) hm).symm
     have Qc:gk=V Bw E 0 m*ms+r0:=by rw [a6,FF.out];exact a8.symm
     have aL:V Bw E 0 m<gk:=by
      have h1:=lN.out
      have h2:=bm.out
      have h3:V Bw E 0 m*2<=V Bw E 0 m*ms:=mul_le_mul_left _ (by unfold ms;omega)
      omega
     have aX:V 10 (dv SW) 0 (n+19)+10 ^ (n+19)*V Bw E 0 m=V Bw f 0 A:=by
      rw [Z,<-HE.out,Qc,Nat.pow_add]
      have e:ms=10 ^ 19:=by unfold ms;rfl
      rw [e];generalize (10:Nat) ^ 19=t;grind
     have HH:=zh (show WP w (V Bw f 0 A) A (V Bw E 0 m) (.slice p' m cP) u4 wr from⟨m,p',cP,E,n+19,SW,rfl,Zt,by omega,by omega,Tf,g1,oM,a7,rfl,g2,g3,aX,g6⟩)
     have bi:=zh aL
     clear aX Qc a6 hz g1 g2 g3 g4 Z g6 aL
     go_wp2_with fail
     go_roundg (V Bw E 0 m)
     case measure=>exact bi
     case rel=>exact HH
  ·obtain rfl:R=0:=by omega
   have hg:gk=0:=q8.symm
   rw [hg,Nat.mul_zero,Nat.add_zero] at O
   have bt:0<n:=by
    rcases eq_zero_or_pos n with h | h
    ·subst h;exact absurd O.symm au.out
    ·exact h
   obtain⟨ap,L,rfl,bH,bM,Y8,bq⟩:∃I L,u4=.slice (some ⟨I,0,none⟩) n L/\w.heap.size+1<=I/\I<wr.heap.size/\n<=L/\L<=maxLen:=by
    rcases q9.shape with ⟨_,h⟩ | h
    ·omega
    ·exact h
   have J:=zh q9;have Y:=zh mQ;have HE:=zh O;have HW:=zh mN
   clear q4 q5 q6 q7 q8 q9 mQ O mN hg HT HF
   go_wp2_with fail
   go_loopg [4] n (fun I ak wx=>∃m:Nat,I=m/\0<m/\m<=n/\ak=.slice (some ⟨ap,0,none⟩) m L/\Hid (V 10 (dv H) 0 m=V Bw f 0 A)/\wr=wx)
   case atStart=>exact⟨n,rfl,bt,Nat.le_refl _,rfl,HE,rfl⟩
   case round=>
    obtain⟨m,Zn,UU,zo,rfl,HM,rfl⟩:=hrel
    obtain rfl:m=_:=Zn.symm
    have j4:=J.cell (j:=m - 1) (by omega)
    have av:=Y (m - 1) (by omega)
    unfold maxLen at bq
    have i1:(0:Int)<=(m:Int) - 1:=by omega
    have i2:(m:Int) - 1<m:=by omega
    by_cases hx:H (m - 1)=48
    ·rw [hx] at j4
     have ao:V 10 (dv H) 0 (m - 1)=V Bw f 0 A:=by
      have:=HM.out
      obtain⟨t,rfl⟩:∃t,m=t+1:=⟨m - 1,by omega⟩
      rw [jn,Nat.zero_add] at this
      simp only [Nat.add_sub_cancel] at hx ⊢
      have e:dv H t=0:=by unfold dv;rw [hx]
      rw [e,Nat.zero_mul,Nat.add_zero] at this
      exact this
     have bs:0<m - 1:=by
      rcases eq_zero_or_pos (m - 1) with h | h
      ·rw [h] at ao;exact absurd ao.symm au.out
      ·exact h
     have a9:=zh ao
     clear ao hx av
     go_wp2_with fail
     go_roundg (m - 1)
     case measure=>omega
     case rel=>exact⟨m - 1,rfl,bs,by omega,rfl,a9,rfl⟩
    ·have hd:=zP (f:=dv H) (n:=m) (N:=V Bw f 0 A) (fun j U=>by have:=Y j (by omega);unfold dv;omega) UU (by unfold dv;omega) HM
     have dA:Bb (V Bw f 0 A) w (.returned (.slice (some ⟨ap,0,none⟩) m L)) wr:=by
      refine⟨ap,L,H,by rw [<-hd.1],?_,fun j U=>?_,HW⟩
      ·rw [<-hd.1];exact(J.cut zo).mono (by omega)
      ·have h1:=Y j (by omega)
       have h2:=hd.2 j (by omega)
       unfold dv at h2
       omega
     have gQ:=zh dA
     have bc:=yi (H (m - 1):Int) 48
     clear dA hd av hx
     go_wp2_with fail
     go_ret
     exact gQ
end Go.Proofs.YtpkipghjohomcaaGreatDoor.Zd
