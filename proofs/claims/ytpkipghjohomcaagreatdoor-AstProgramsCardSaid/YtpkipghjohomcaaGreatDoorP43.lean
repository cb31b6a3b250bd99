/- Lemmas. -/
import Derived.Test.YtpkipghjohomcaaGreatDoorP35
import Derived.Test.YtpkipghjohomcaaGreatDoorP40
import Derived.Test.YtpkipghjohomcaaGreatDoorP47
set_option linter.unusedVariables false
set_option linter.unusedSimpArgs false
namespace Go.Proofs.YtpkipghjohomcaaGreatDoor
def flB (z:Int):List Int:=if z = -1 then [] else [z]
def dt (d:Dx):List Int:=d.ps.map (fun m=>m.bare)++[d.res.bare]
def gf (d:Dx):List Int:=(dt d).flatMap flB
def MD (P:Px):List Int:=P.defs.flatMap gf
theorem TH:flB (-1) = []:=rfl
theorem TE {z:Int} (h:z≠-1):flB z = [z]:=if_neg h
theorem mj {α : Type} (f : α->List Int) {l:List α} {j:Nat} {x : α} (h:l[j]? = some x):(l.take (j+1)).flatMap f=(l.take j).flatMap f++f x:=by
 rw [List.take_add_one,h,List.flatMap_append];simp
theorem mh {α : Type} (f : α->List Int) (l:List α) (j:Nat):((l.take j).flatMap f).length<=(l.flatMap f).length:=by
 have h:l.flatMap f=(l.take j).flatMap f++(l.drop j).flatMap f:=by rw [<-List.flatMap_append,List.take_append_drop]
 rw [h,Q2];omega
theorem lD (d:Dx):(dt d).length=d.ps.length+1:=by unfold dt;simp
theorem zL {d:Dx} {k:Nat} {f:Fx} (h:d.ps[k]? = some f):(dt d)[k]? = some f.bare:=by
 have m:=(Q4.1 h).1
 unfold dt
 rw [List.getElem?_append_left (by simpa using m),List.getElem?_map,h];rfl
theorem z6 (d:Dx):(dt d)[d.ps.length]? = some d.res.bare:=by
 unfold dt
 rw [List.getElem?_append_right (by simp)];simp
theorem S8 (z:Int):(flB z).length<=1:=by unfold flB;split<;>simp
theorem Mo (d:Dx):(gf d).length<=d.ps.length+1:=by
 rw [<-lD]
 unfold gf
 generalize dt d=m
 induction m with
 | nil=>simp
 | cons A m B=>have:=S8 A;rw [List.flatMap_cons,Q2,hJ];omega
structure Gi (P:Px):Prop where
 ok:∀d∈P.defs,∀z∈dt d,z = -1\/0<=z
 len:(P.defs.flatMap gf).length<=100000
theorem IX {T:List Tok} {f:Fx} (t:Tr) (h:f.bare = -1\/0<=f.bare):(gT T f t).bare = -1\/0<=(gT T f t).bare:=by
 cases t with
 | lf m=>simp only [gT];split<;>exact h
 | nd A B=>
   simp only [gT]
   split
   ·right;exact Int.natCast_nonneg _
   split
   ·left;rfl
   ·exact h
theorem wR (T:List Tok) (l:List Tr):(cm T l).bare = -1\/0<=(cm T l).bare:=by
 unfold cm
 have m:(⟨[],0,[],0,0⟩:Fx).bare = -1\/0<=(⟨[],0,[],0,0⟩:Fx).bare:=.inr (Int.le_refl 0)
 revert m
 generalize (⟨[],0,[],0,0⟩:Fx)=B
 intro m
 induction l generalizing B with
 | nil=>exact m
 | cons A l E=>rw [List.foldl_cons];exact E _ (IX A m)
theorem Fd {T:List Tok} {l:List Tr} (h:bK l<=4000):Gi (bg T l):=by
 refine⟨fun G I O B=>?_,?_⟩
 ·obtain⟨m,-,rfl⟩:=List.mem_map.1 (show G∈(l.filter (fun m=>aU m == 3)).map (fun m=>lG T (eI m)) from I)
  unfold dt at B
  rcases List.mem_append.1 B with B | B
  ·obtain⟨H,J,rfl⟩:=List.mem_map.1 B
   obtain⟨ap,-,rfl⟩:=List.mem_map.1 (show H∈bA T (eI m) from J)
   exact wR T _
  ·have B:O=(cm T (eI m)).bare:=List.mem_singleton.1 B
   rw [B];exact wR T _
 ·have L:∀l:List Tr,(((l.filter (fun m=>aU m == 3)).map (fun m=>lG T (eI m))).flatMap gf).length<=bK l:=fun l=>by
   induction l with
   | nil=>simp
   | cons A l ih=>
     have hs:bK (A::l)=szR A+bK l:=by simp only [bK]
     rw [List.filter_cons]
     split
     ·rw [List.map_cons,List.flatMap_cons,Q2]
      have R:=Mo (lG T (eI A))
      have U:(lG T (eI A)).ps.length<=(eI A).length:=by
       show(bA T (eI A)).length<=_
       unfold bA
       rw [List.length_map]
       exact List.length_filter_le _ _
      have Y:(eI A).length+1<=szR A:=by
       cases A with
       | lf ak=>simp [eI,szR]
       | nd ao E=>
         have:E.length<=bK E:=fw E
         simp only [eI,szR];omega
      omega
     ·omega
  have Z:=L l
  show(((l.filter (fun m=>aU m == 3)).map (fun m=>lG T (eI m))).flatMap gf).length<=100000
  omega
theorem Fk {l:List UInt8} {D:Int} (h:vB l D false) (E:l.length<=1500) (B:(aw l D false).length<=2*(ai l).1.length):Gi (oZ l D):=by
 refine Fd ?_
 have m:=jG h.lex
 obtain⟨_,_,_,_,_,A,_⟩:=oa h
 omega
set_option maxHeartbeats 16000000
set_option maxRecDepth 100000
open Go.RowKit List Nat Go.World
theorem EY {s:Nat} {T A:TypeId} {w:World} {base b:Nat} {v:Value} {l:List (List Value)} {c:Array Value} (h:ag s T w base v l) (m:w.heap[b]? = some (.cells c A (0,0))) (J:A≠T):v.ownBlock≠some b:=by
 rcases h.1.2 with ⟨B,Z⟩ | ⟨H,U,Y,E,R,O,ak⟩
 ·rw [B];simp [Value.ownBlock]
 ·rw [E];intro L
  have G:H=b:=Option.some.inj L
  subst G
  rw [O] at m
  injection m with m
  injection m with B I
  exact J I.symm
theorem aeY:(70:TypeId)≠3:=by decide
theorem Rq (F:Nat->Prop) (P:Px) (q:List Value) (w:World) (J:jb F w P q) (hb:Gi P) (hn:PBd P):
  Calls Tryz.prog 14 #[.agg q.toArray] w (iV (MD P) w):=by
 replace J:=J.bound
 obtain⟨pi,ci,pd,cd,fH,rfl,-,fe,rP,-,PL⟩:=J
 have jI:=zh hn;have aL:=zh hb
 have bM:=zh (fun (W:World) (hg:w.grownBy W none)=>(show GAt 14 W pd fH/\RDs (fun B=>F B/\B<w.heap.size) W P.defs fH from⟨eq (S:=fun _=>False) (F:=fun B=>F B/\B<w.heap.size) (kG rP) fe PL (Fr2.none hg) (fun _ _ h=>h),nU rP hg⟩))
 obtain⟨bs,Hn⟩:=zx P.imps.length
 obtain⟨m,hm⟩:=zx P.defs.length
 have HM:=zh hm
 have hd:m<=10000:=by rw [<-hm];exact hn.fewd
 obtain⟨a4,hL⟩:=zx (MD P)
 have HL:Hid (P.defs.flatMap gf=a4):=zh hL
 rw [Hn,hm,hL]
 clear fe rP PL hb hn Hn hm hL
 go_enter Tryz.func14,Tryz.ntmps14
 go_wp2_with fail
 obtain⟨W,b0,hW,dZ,cS,dp⟩:=Pq w (.cells #[.slice pi bs ci,.slice pd m cd] 41)
 have bB:=zh cS;have bm:=zh dp
 obtain⟨ak,hB⟩:=zx W.heap.size
 have HB:=zh hB
 try rw [<-hW]
 try rw [dZ]
 clear cS dp dZ hW hB
 go_loopw [3,4] (fun ap iv wr=>∃G:Nat,G<=m/\iv=.int .i64 (G:Int)/\Hid (ag 1 3 wr ak ap (one (ar ((P.defs.take G).flatMap gf))))/\Hid (W.grownBy wr none)) (fun _ iv _=>m - (intOf iv).toNat)
 case atStart=>exact⟨0,zero_le _,rfl,zh (by rw [take_zero,flatMap_nil];exact ag.nil _ _ _ _),zh (ad _ _)⟩
 case round=>
  obtain⟨G,hj,rfl,R,L⟩:=hrel
  have cW:Hid (w.grownBy wr none):=zh (aa bm L)
  have bV:=zh (bx L bB)
  obtain⟨a0,a1,a2⟩:=ac bV
  have dZ:b0<wr.heap.size:=hlt bV
  by_cases a5:G<m
  ·obtain⟨E,J⟩:∃ay,P.defs[G]? = some ay:=⟨P.defs[G]'(by rw [HM.out];exact a5),QS _⟩
   obtain⟨pp,cp,eJ,pc,cc,op,xa,xb,xc,xy,pk,nk,ck,Ip,bi,bt,rfl,bN,NQ,qr,O2,pg,c0,yY⟩:=sv (bM w (ad _ _)).1 (bM w (ad _ _)).2 J
   have c0:=cW.cell c0 (by simp)
   have bN:=zn bN cW.size
   have cu:Hid ((P.defs.take (G+1)).flatMap gf=(P.defs.take G).flatMap gf++gf E):=zh (mj gf J)
   have yM:=jI.defs E (gn J)
   have bc:=zh (aL.ok E (gn J))
   have oA:Hid (((P.defs.take G).flatMap gf++gf E).length<=100000):=zh (by
    have h1:=mh gf P.defs (G+1)
    have h2:=aL.len
    rw [cu.out] at h1
    omega)
   obtain⟨yn,vt⟩:∃aJ:ByteArray,(⟨E.res.nm.toArray⟩:ByteArray)=aJ:=⟨_,rfl⟩
   obtain⟨H,tK⟩:=zx E.ps.length
   have Lc:=zh tK
   have Wi:H<=10000:=by rw [<-tK];exact yM.few
   obtain⟨KZ,Cp⟩:=zx E.res.cl.length
   rw [vt,Cp,tK] at yY
   have uN:=zh NQ;have BN:=zh qr;have pP:Hid (wr.rangeAt _ _ _):=zh (fun bq ap h=>cW.cell (yY bq ap h) (by simp))
   obtain⟨rb,WK⟩:=zx E.res.bare
   have a7:Hid ((dt E)[H]? = some rb):=zh (by rw [<-tK,<-WK];exact z6 E)
   rw [WK] at pP
   have i3:decide (G<m)=true:=zd a5
   have i4:=zE ((G:Int)<(m:Int))
   have i2:(G:Int)<(m:Int):=by omega
   clear J vt yM tK Cp NQ qr O2 pg yY WK
   go_upto_region 5 with fail
   go_cut [5] (fun t5 Z=>Hid (∃U,t5=.pointer (some ⟨U,0,none⟩)/\Z.heap[U]? = some (.cells #[.bool E.pub,.slice pp H cp,.string yn,.int .i64 (E.res.base:Int),.slice pc KZ cc,.int .i64 (E.res.ps:Int),.int .i64 rb,.int .i64 op,.string xa,.string xb,.string xc,.bool xy,.slice pk nk ck,.int .i64 Ip] 70 (0,0))/\wr.heap.size<=U/\wr.grownBy Z none))
   case first=>
    go_wp2_with (refine wpList_load_mid rfl 70 _ rfl bi (bt+G*14) rfl [.bool E.pub,.slice pp H cp,.string yn,.int .i64 (E.res.base:Int),.slice pc KZ cc,.int .i64 (E.res.ps:Int),.int .i64 rb,.int .i64 op,.string xa,.string xb,.string xc,.bool xy,.slice pk nk ck,.int .i64 Ip] _ pP Tryz.underlying70 rfl AJ ?_)
    go_meet
    exact zh ⟨_,rfl,YK wr _,Nat.le_refl _,qn wr _ none⟩
   case rest=>
    obtain⟨U,rfl,yr,rX,dw⟩:=hcut.out
    have uz:=zh yr
    have a3:=zh (R.kept dw)
    have BP:Hid (W.grownBy wc none):=zh (aa L dw)
    have ef:=zh dw
    obtain⟨A,hA⟩:=zx ((P.defs.take G).flatMap gf)
    rw [hA] at a3 cu oA
    clear hcut yr rX dw c0 a0 a1 a2 dZ i2 i3 i4 pP bV bN hA R cW L ef
    go_wp2_with fail
    go_loopw [3,6] (fun ap iv ax=>∃B:Nat,B<=H+1/\iv=.int .i64 (B:Int)/\Hid (ag 1 3 ax ak ap (one (ar (A++((dt E).take B).flatMap flB))))/\Hid (W.grownBy ax none)/\Hid (ax.heap[U]? = some (.cells #[.bool E.pub,.slice pp H cp,.string yn,.int .i64 (E.res.base:Int),.slice pc KZ cc,.int .i64 (E.res.ps:Int),.int .i64 rb,.int .i64 op,.string xa,.string xb,.string xc,.bool xy,.slice pk nk ck,.int .i64 Ip] 70 (0,0)))) (fun _ iv _=>H+1 - (intOf iv).toNat)
    case atStart=>exact⟨0,zero_le _,rfl,zh (by rw [take_zero,flatMap_nil,append_nil];exact a3),BP,uz⟩
    case round=>
     obtain⟨B,hk,rfl,R,L,Jx⟩:=hrel
     obtain⟨e0,e1,e2,e3,e4,e5,e6,e7,e8,e9,qC,rG,qR,rh,rS⟩:=bk Jx
     have Qh:U<wr.heap.size:=hlt Jx
     have cW:Hid (w.grownBy wr none):=zh (aa bm L)
     by_cases bn:B<=H
     ·have eD:B<(dt E).length:=by rw [lD,Lc.out];omega
      obtain⟨I,hz⟩:∃I,(dt E)[B]? = some I:=⟨(dt E)[B],QS eD⟩
      have HZ:=zh hz
      have a8:=zh (bc I (gn hz))
      have aX:Hid (((dt E).take (B+1)).flatMap flB=((dt E).take B).flatMap flB++flB I):=zh (mj flB hz)
      have Y5:Hid ((one (ar (A++((dt E).take B).flatMap flB))).length<=1000000):=zh (by
       have h1:=mh flB (dt E) B
       have h2:=oA.out
       have h3:gf E=(dt E).flatMap flB:=rfl
       rw [h3,Q2] at h2
       rw [dM,bh,Q2]
       omega)
      have i3:decide (B<=H)=true:=zd bn
      have i4:=zE ((B:Int)<=(H:Int))
      have i2:(B:Int)<=(H:Int):=by omega
      clear hz eD
      go_upto_region 9 with fail
      go_cut [7] (fun t7 Z=>Hid (∃O,t7=.pointer (some ⟨O,0,none⟩)/\Z.heap[O]? = some (.cells #[.string yn,.int .i64 (E.res.base:Int),.slice pc KZ cc,.int .i64 (E.res.ps:Int),.int .i64 rb] 66 (0,0))/\wr.heap.size<=O/\wr.grownBy Z none))
      case first=>
       go_wp2_with fail
       go_meet
       exact zh ⟨_,rfl,YK wr _,Nat.le_refl _,qn wr _ none⟩
      case rest=>
       obtain⟨O,rfl,vY,lP,Y⟩:=hcut.out
       have i8:=zh vY;have cG:=zh Y;have au:=zh lP
       have Kt:=zh (bx Y Jx)
       clear hcut vY lP Y e0 e1 e2 e3 e4 e5 e6 e7 e8 e9 qC rG qR rh rS Qh
       obtain⟨e0,e1,e2,e3,e4,e5,e6,e7,e8,e9,qC,rG,qR,rh,rS⟩:=bk Kt
       have Qh:U<wc.heap.size:=hlt Kt
       obtain⟨f0,f1,f2,f3,f4,f5⟩:=bC i8
       have Z3:O<wc.heap.size:=hlt i8
       have qj:U<O:=by have:=hlt Jx.out;have:=au.out;omega
       go_upto_if 33 with fail
       go_cut [] (fun Z=>Hid (∃x0 x1 x2 x3,Z.heap[O]? = some (.cells #[x0,x1,x2,x3,.int .i64 I] 66 (0,0))/\wr.grownBy Z none))
       case first=>
        by_cases gW:B<H
        ·obtain⟨ao,J⟩:∃ay,E.ps[B]? = some ay:=⟨E.ps[B]'(by rw [Lc.out];exact gW),QS _⟩
         obtain⟨zz,cz,g5,Ym,rfl,bN,-,c0,c1,c2,c3,c4⟩:=sj uN BN J
         have To:ao.bare=I:=Option.some.inj ((zL J).symm.trans HZ)
         rw [To] at c4
         have dX:=aa cW cG
         have c0:=dX.cell c0 (by simp);have c1:=dX.cell c1 (by simp);have c2:=dX.cell c2 (by simp);have c3:=dX.cell c3 (by simp);have c4:=dX.cell c4 (by simp)
         have bN:=zn bN dX.size
         obtain⟨yf,nZ⟩:∃aJ:ByteArray,(⟨ao.nm.toArray⟩:ByteArray)=aJ:=⟨_,rfl⟩
         obtain⟨TG,sq⟩:=zx ao.cl.length
         rw [nZ] at c0
         rw [sq] at c2
         have i5:decide (B<H)=true:=zd gW
         have i6:=zE ((B:Int)<(H:Int))
         have i7:(B:Int)<(H:Int):=by omega
         clear J To nZ sq dX
         go_wp2_with fail
         go_meet
         obtain⟨hp,hf⟩:=Gz i8 (.string yf) (.int .i64 (ao.base:Int)) (.slice zz TG cz) (.int .i64 (ao.ps:Int)) (.int .i64 I)
         exact zh ⟨_,_,_,_,hp,Fr2.after cG hf (fun G hj=>by have aq:G=O:=hj;have:=au.out;omega)⟩
        ·obtain rfl:B=H:=by omega
         have To:rb=I:=Option.some.inj (a7.symm.trans HZ)
         subst To
         have i5:=zX (B<B)
         have i6:=zX ((B:Int)<(B:Int))
         go_wp2_with fail
         go_meet
         exact zh ⟨_,_,_,_,i8,cG⟩
       case rest=>
        obtain⟨x0,x1,x2,x3,vY,Y⟩:=hcut.out
        have i8:=zh vY;have aO:=zh Y
        have Kt:=zh (bx Y Jx)
        have UM:=zh (R.kept Y)
        clear hcut vY Y e0 e1 e2 e3 e4 e5 e6 e7 e8 e9 qC rG qR rh rS Qh f0 f1 f2 f3 f4 f5 Z3 Jx R cG au i2 i3 i4
        obtain⟨f0,f1,f2,f3,f4,f5⟩:=bC i8
        have Z3:O<wc.heap.size:=hlt i8
        have Jh:Hid (ak<=wc.heap.size):=zh (by rw [<-HB.out];exact Nat.le_trans L.size aO.size)
        by_cases av:I = -1
        ·subst av
         have ZH:Hid (W.grownBy wc none):=zh (aa L aO)
         have jN:Hid (ag 1 3 wc ak u3 (one (ar (A++((dt E).take (B+1)).flatMap flB)))):=zh (by rw [aX.out,TH,append_nil];exact UM)
         go_wp2_with fail
         go_roundw
         case rel=>exact⟨B+1,by omega,by go_num,jN,ZH,Kt⟩
         case measure=>(simp [intOf]<;>omega)
        ·have UC:0<=I:=by rcases a8.out with h | h<;>omega
         have XO:decide (0<=I)=true:=zd UC
         have a6:Hid (flB I = [I]):=zh (TE av)
         clear av
         go_wp2_with (at_builtin;go_loud (refine gm (s:=1) (t:=52) (T:=3) (by decide) Tryz.underlying52 zm rfl (by omega) rfl _ _ rfl ak (one (ar (A++((dt E).take B).flatMap flB))) [.int .i64 I] rfl (by simp [Value.oneCell']) u3 rfl (UM.kept (qn wc _ none)) wc.heap.size _ rfl (YK wc _) rfl Y5 (Nat.le_trans Jh (qn wc _ none).size) (wc.heap.size+1) (by simp) ?_))
         intro g9 bd w9 fM bH el
         have dz:=aa aO (qn wc (.cells #[.int .i64 I] 3) none)
         have nW:=Fr2.of (S:=fun B=>u3.ownBlock=some B) bH (fun _ aq=>aq)
         have bF:Hid (W.grownBy w9 none):=zh (Fr2.after (aa L dz) nW (fun G aq=>by rw [HB.out];exact(ag.at UM G aq).1))
         have a9:=zh (nW.keep (bx (qn wc (.cells #[.int .i64 I] 3) none) Kt) (EY UM Kt aeY))
         have jN:Hid (ag 1 3 w9 ak (.slice (some ⟨g9,0,none⟩) ((one (ar (A++((dt E).take B).flatMap flB))).length+1) bd) (one (ar (A++((dt E).take (B+1)).flatMap flB)))):=zh (by rw [aX.out,a6.out,<-append_assoc,fs (A++_),jY];exact fM)
         clear fM bH el dz nW
         go_wp2_with fail
         go_roundw
         case rel=>exact⟨B+1,by omega,by go_num,jN,bF,a9⟩
         case measure=>(simp [intOf]<;>omega)
     ·obtain rfl:B=H+1:=by omega
      have i3:=zX (H+1<=H)
      have i4:=zX (((H+1:Nat):Int)<=(H:Int))
      have jN:Hid (ag 1 3 wr ak u3 (one (ar ((P.defs.take (G+1)).flatMap gf)))):=zh (by
       rw [cu.out]
       have h:=R.out
       rw [V7 (by rw [lD,Lc.out];exact Nat.le_refl _)] at h
       exact h)
      go_wp2_with fail
      go_roundw
      case rel=>exact⟨G+1,by omega,by go_num,jN,L⟩
      case measure=>(simp [intOf]<;>omega)
  ·obtain rfl:G=m:=by omega
   have qU:(P.defs.take G).flatMap gf=a4:=by rw [<-HL.out,V7 (by rw [HM.out];exact Nat.le_refl _)]
   obtain⟨p9,c9,e9,xP,-⟩:=R.is
   rw [dM,bh,qU] at e9
   rw [qU] at xP
   subst e9
   have WF:=zh (xg xP)
   clear xP qU R
   go_wp2_with fail
   go_ret
   exact⟨cW,_,_,rfl,WF⟩
open Go.RowKit List
theorem DC {X E:Nat->Prop} {B:Nat} {w A:World} {l:List Dx} {r:List (List Value)} (G:Fr2 X w A) (H:∀k,k<w.heap.size->¬X k->¬E k) (h:RDs (fun k=>B<=k/\k<w.heap.size/\¬X k) w l r):RDs (fun k=>B<=k/\k<A.heap.size/\¬E k) A l r:=
 qW (fun k m=>⟨m.1,zn m.2.1 G.size,H k m.2.1 m.2.2⟩) (rJ G (fun k m=>m.2.2) h)
theorem Iw {wr w7 wa R:World} {B b j base I H nd G O n9 ak:Nat} {L J:Option Addr} {aq Y:List (List Value)} {q:List Value} {ks:List Dx} {x:Dx} {u:Value} (hB:B<=wr.heap.size) (hb:b<base) (au:b<wr.heap.size)
  (ap:ag 1 9 wr base (.slice L I H) aq) (ao:ag 14 70 wr base (.slice J nd G) Y)
  (kZ:RDs (fun m=>B<=m/\m<wr.heap.size/\¬Wr3 b (.slice L I H) (.slice J nd G) m) wr ks Y) (dV:wr.grownBy w7 none) (hq:ig (fun m=>wr.heap.size<=m) w7 x q) (dz:w7.grownBy wa none) (av:wa.heap.size=w7.heap.size+1)
  (Z:wa.grownBy R (Value.slice J nd G).ownBlock) (el:(Value.slice J nd G).ownBlock=some O\/O=w7.heap.size+1):
  RDs (fun m=>B<=m/\m<(R.setCell ⟨b,j,none⟩ u).heap.size/\¬Wr3 b (.slice L I H) (.slice (some ⟨O,0,none⟩) n9 ak) m) (R.setCell ⟨b,j,none⟩ u) (ks++[x]) (Y++[q]):=by
 have Zj:=ag.at ap
 have YY:=ag.at ao
 have s7:=dV.size
 have s9:=Z.size
 have U:Fr2 (Wr3 b (.slice L I H) (.slice J nd G)) w7 (R.setCell ⟨b,j,none⟩ u):=
  (Fr2.none dz).trans ((Fr2.of Z (fun m A=>.inr (.inr A))).trans (Fr2.setCell (Fr2.refl _ _) (.inl rfl) u))
 have sH:∀m,m<w7.heap.size->¬Wr3 b (.slice L I H) (.slice J nd G) m->¬Wr3 b (.slice L I H) (.slice (some ⟨O,0,none⟩) n9 ak) m:=fun m E h A=>by
  rcases A with A | A | A
  ·exact h (.inl A)
  ·exact h (.inr (.inl A))
  ·have A:O=m:=Option.some.inj (show some O=some m from A)
   rcases el with h9 | h9
   ·exact h (.inr (.inr (by rw [h9,A])))
   ·omega
 have oF:∀m,wr.heap.size<=m->¬Wr3 b (.slice L I H) (.slice J nd G) m:=fun m E A=>by
  rcases A with A | A | A
  ·omega
  ·have:=Zj _ A;omega
  ·have:=YY _ A;omega
 refine D2 ?_ ?_
 ·exact ig.mono (fun m E=>⟨Nat.le_trans hB E.1,zn E.2 U.size,sH m E.2 (oF m E.1)⟩) (ig.same U (fun m E=>oF m E.1) hq.bound)
 ·refine DC (X:=Wr3 b (.slice L I H) (.slice J nd G)) ((Fr2.none dV).trans U) (fun m E=>sH m (zn E s7)) kZ
theorem Jo {wr w7 wa O:World} {B b j H E nd J G n9 ak:Nat} {I L:Option Addr} {Y:List (List Value)} {ks:List Dx} {u:Value}
  (kZ:RDs (fun A=>B<=A/\A<wr.heap.size/\¬Wr3 b (.slice I H E) (.slice L nd J) A) wr ks Y) (R:wr.grownBy w7 none) (dz:w7.grownBy wa none) (ao:w7.heap.size<=wa.heap.size)
  (Z:wa.grownBy O (Value.slice I H E).ownBlock) (el:(Value.slice I H E).ownBlock=some G\/w7.heap.size<=G):
  RDs (fun A=>B<=A/\A<(O.setCell ⟨b,j,none⟩ u).heap.size/\¬Wr3 b (.slice (some ⟨G,0,none⟩) n9 ak) (.slice L nd J) A) (O.setCell ⟨b,j,none⟩ u) ks Y:=by
 have s7:=R.size
 have fr:Fr2 (Wr3 b (.slice I H E) (.slice L nd J)) w7 (O.setCell ⟨b,j,none⟩ u):=
  (Fr2.none dz).trans ((Fr2.of Z (fun A m=>.inr (.inl m))).trans (Fr2.setCell (Fr2.refl _ _) (.inl rfl) u))
 refine DC (X:=Wr3 b (.slice I H E) (.slice L nd J)) ((Fr2.none R).trans fr) (fun A hk h m=>?_) kZ
 rcases m with m | m | m
 ·exact h (.inl m)
 ·have m:G=A:=Option.some.inj (show some G=some A from m)
  rcases el with U | U
  ·exact h (.inr (.inl (by rw [U,m])))
  ·omega
 ·exact h (.inr (.inr m))
theorem Va:(Tryz.prog.info? 70).map (fun m=>(m.zero,m.size,m.bytes))=some (some (.agg #[.bool false,.slice none 0 0,.string ⟨#[]⟩,.int .i64 0,.slice none 0 0,.int .i64 0,.int .i64 0,.int .i64 0,.string ⟨#[]⟩,.string ⟨#[]⟩,.string ⟨#[]⟩,.bool false,.slice none 0 0,.int .i64 0]),14,192):=by kernel_rfl
theorem Tv:(Tryz.prog.info? 9).map (fun m=>(m.zero,m.size,m.bytes))=some (some (.string ⟨#[]⟩),1,16):=by kernel_rfl
theorem Ld {w L wr:World} {m J ni G nd E:Nat} {I H:Option Addr} {P:Px} {ak:List (List Value)} {x0 x1:Value} {X:Nat->Prop} (JZ:m<J) (hw:w.heap.size<=m) (h9:J<L.heap.size) (ao:w.grownBy wr none) (ec:wr.heap[m]? = some (.cells #[x0,x1] 41 (0,0)))
  (aq:ag 1 9 wr L.heap.size (.slice I ni G) (P.imps.map rx)) (ap:ag 14 70 wr L.heap.size (.slice H nd E) ak) (Z:RDs (fun A=>J+1<=A/\A<wr.heap.size/\¬X A) wr P.defs ak):
  vc P w (.returned (.agg #[.slice I ni G,.slice H nd E])) ((wr.setCell ⟨m,0,none⟩ (.slice I ni G)).setCell ⟨m,1,none⟩ (.slice H nd E)):=by
 obtain⟨Hn,gi,bi⟩:=aq.rows
 obtain⟨K3,gd,bd⟩:=ap.rows
 rw [length_map] at Hn
 rw [kG Z] at K3
 subst Hn;subst K3
 have hf:Fr2 (dm m) wr ((wr.setCell ⟨m,0,none⟩ (.slice I P.imps.length G)).setCell ⟨m,1,none⟩ (.slice H P.defs.length E)):=((Fr2.refl _ _).setCell (aK m) _).setCell (aK m) _
 have hP:jb (fun A=>J+1<=A) wr P [.slice I P.imps.length G,.slice H P.defs.length E]:=⟨I,G,H,E,ak,rfl,gi,gd,qW (fun A Y=>Y.1) Z,fun R=>by
  obtain⟨O,U,h1⟩:=bi (fun B=>R (map_eq_nil_iff.1 B));exact⟨O,U,by omega⟩,fun R=>by
  obtain⟨O,U,h1⟩:=bd (fun B=>R (by have:=kG Z;rw [B] at this;exact fb this.symm));exact⟨O,U,by omega⟩⟩
 exact⟨Fr2.after ao hf (fun au hj=>by have B:au=m:=hj;omega),_,rfl,jb.mono (fun A Y=>by omega) (jb.same hf (fun A Y B=>by have B:A=m:=B;omega) hP)⟩
set_option maxHeartbeats 64000000
open Go.RowKit List Go.World
theorem Ra (T:List Tok) (N:List Nd) (K:Nat->Option Addr×Nat) (pt pn:Option Addr) (ct cn ay:Nat) (av:RIH T N K pt pn ct cn ay) (hT:T.length<=40000) (hN:N.length<=150000)
  (n:Nat) (ks:List Int) (kd:Nat) (l:List Tr) (R:N[n]? = some ⟨(kd:Int),-1,ks⟩) (dL:KT N n ks l) (hm:bK l<=ay) (mA:l.length<=150000) (dx:fj l) (eB:∀z∈cg l,z<T.length) (lx:WEs T l) (hs:ShE T kd l) (m:kd=7)
  (w:World) (ht:bl w pt (T.map toI)) (hw:al w pn N K):
  Calls Tryz.prog 58 #[.agg #[.slice pt T.length ct,.slice pn N.length cn],.int .i64 (n:Int)] w (iq (axT T (.nd kd l)) w):=by
 have HM:=zh (fun (op ps:Nat) W H O=>pz T N K pt pn ct cn ay av hT hN n ks (kd:Int) l R dL hm mA dx (gU lx dx eB) op ps W H O)
 have Gt:=zh av;have kA:=zh dL;have sE:=zh dx;have lY:=zh eB;have K0:=zh lx;have qm:=zh hs;have lj:=zh hm;have nQ:=zh hT;have xx:=zh hN
 obtain⟨k0,ak,y1,y2,ap,oh,yO,tr⟩:=gN (K:=K) (pt:=pt) (pn:=pn) (ct:=ct) (cn:=cn) hT hN dL dx eB (by cases hs<;>simp)
 have Ai:=zh yO
 have lC:=zh tr
 obtain⟨kI,se⟩:∃kI:Int,(kd:Int)=kI:=⟨_,rfl⟩
 have jm:=zh se
 rw [se] at R
 obtain⟨g,au,rfl,bN,c0,c1,c2⟩:=bZ hw R
 have iE:=zh (hw.2 n _ R)
 have hn:n<N.length:=(Q4.1 R).1
 have HW:=zh hw;have HT:=zh ht
 have lH:=zh dL.1
 obtain⟨ao,hM⟩:=zx N.length
 obtain⟨tm,kK⟩:=zx T.length
 obtain⟨J,ge⟩:=zx ks.length
 have Qy:0<J:=by rw [<-ge,lH.out];cases hs<;>simp
 have Ei:=zh hM;have ue:=zh kK;have uL:=zh ge
 simp only at c0 c1 c2
 rw [hM] at hn hN HM lC ⊢
 rw [kK] at hT HM lC ⊢
 rw [ge] at c2
 obtain⟨kq,kV⟩:=zx (K n).1
 obtain⟨kc,px⟩:=zx (K n).2
 have iE:Hid (VAt w kq (ar ks)):=zh (by rw [<-kV];exact iE)
 rw [kV,px] at c2
 have d1:decide (n<ao)=true:=zd hn
 have ml:=zE ((n:Int)<(ao:Int))
 have mR:Hid (g<w.heap.size):=zh bN
 obtain⟨Z,dR,rfl,je,v0⟩:=bO iE oh
 have mJ:Hid (Z<w.heap.size):=zh je
 rw [Nat.add_zero] at v0
 have xA:=zh v0
 have z0:(0:Int)<(J:Int):=by omega
 have yF:decide ((0:Int)<(J:Int))=true:=zd z0
 have EK:=zE (0<J)
 obtain⟨a4,hX⟩:=zx (axT T (.nd kd l))
 have HX:=zh hX
 rw [hX]
 clear R hw ht av hM kK ge kV px dx hm mA eB lx tr oh dL v0 hT hN hs se yO hX
 have jo:=af (af (qn w (.cells #[.slice pt tm ct,.slice (some ⟨g,au,none⟩) ao cn] 46) none) (.cells #[.int .i64 0,.string ⟨#[]⟩,.string ⟨#[]⟩,.string ⟨#[]⟩,.bool false,.slice none 0 0,.int .i64 0] 68)) (.cells #[.int .i64 kI,.int .i64 (-1),.slice (some ⟨Z,dR,none⟩) J kc] 86)
 have c0:=jo.cell c0 (by simp)
 have c1:=jo.cell c1 (by simp)
 have c2:=jo.cell c2 (by simp)
 go_enter Tryz.func58,Tryz.ntmps58
 go_wp2_with fail
 obtain⟨W,b0,L,b2,hW,e0,e1,e2,cS,dq,ec,dp,lu,oR⟩:=three w (.cells #[.slice pt tm ct,.slice (some ⟨g,au,none⟩) ao cn] 46) (.cells #[.int .i64 0,.string ⟨#[]⟩,.string ⟨#[]⟩,.string ⟨#[]⟩,.bool false,.slice none 0 0,.int .i64 0] 68) (.cells #[.int .i64 kI,.int .i64 (-1),.slice (some ⟨Z,dR,none⟩) J kc] 86)
 have ky:W.heap.size=b2+1:=by rw [hW];simp;omega
 have B:=zh cS;have G:=zh dq;have E:=zh ec;have bm:=zh dp;have gj:=zh e0;have ll:=zh e1;have uh:=zh ky
 clear cS dq ec dp c2 jo c0 c1
 try rw [<-hW]
 try rw [e2]
 try rw [e1]
 try rw [e0]
 clear e0 e1 e2 hW ky
 obtain⟨a0,a1,a2⟩:=ac B
 obtain⟨n0,n1,n2,n3⟩:=cells3 E
 have v0:=bm.cell xA (by simp)
 have dZ:b0<W.heap.size:=hlt B
 have cB:b2<W.heap.size:=hlt E
 have kB:Z<W.heap.size:=zn mJ bm.size
 go_cut [6] (fun t6 wx=>Hid (kr W b2 ak y1 y2 ap t6 wx))
 case first=>
  go_region_held3 (fun w'=>w'.cell? ⟨b0,0,none⟩=some (.slice pt tm ct)/\w'.cell? ⟨b0,1,none⟩=some (.slice (some ⟨g,au,none⟩) ao cn)/\w'.cell? ⟨b2,2,none⟩=some (.slice (some ⟨Z,dR,none⟩) J kc)/\w'.cell? ⟨Z,dR,none⟩=some (.int .i64 (k0:Int)))
   (first | with_reducible exact⟨a0,a1,n2,v0⟩ | with_reducible exact⟨di a0 (by omega),di a1 (by omega),di n2 (by omega),di v0 (by omega)⟩ | go_keep)
   (first | (go_at_call 25;refine(lC _ (HT.kept (aa bm gbx)) (HW.kept (aa bm gbx))).mono ?_;rintro Y w2 ⟨rfl,bL⟩;(try (have mB:=bx bL (YK W (.cells #[.int .i64 0,.string ⟨#[]⟩,.string ⟨#[]⟩,.int .i64 0] 88))));(try (have xR:=cx mB;obtain⟨q0,q1,q2,q3,q4⟩:=xR));have bF:=zh (aa (show W.grownBy _ none from gbx) bL);obtain⟨a0,a1,a2⟩:=ac (bx bF B);obtain⟨n0,n1,n2,n3⟩:=cells3 (bx bF E);have v0:=bF.cell v0 (by simp);clear bL))
  all_goals
   have s2:W.heap.size<=w2.heap.size:=bF.size
   go_wp2_with fail
   go_meet
   first
    | (with_reducible refine zh (jH bF.out ?_)
       omega)
    | (with_reducible refine zh (jz bF.out (Nat.le_refl _) cB mB))
 case rest=>
  obtain⟨b3,rfl,fa,JZ,dX⟩:=hcut.out
  have gh:=zh (aa bm dX)
  have B:=zh (bx dX B);have G:=zh (bx dX G);have E:=zh (bx dX E);have ie:=zh fa
  have HT:=zh (HT.kept gh);have HW:=zh (HW.kept gh)
  have ll:Hid (w.heap.size<=L/\L<b2):=zh (by have:=ll.out;omega)
  obtain⟨a0,a1,a2⟩:=ac B
  obtain⟨n0,n1,n2,n3⟩:=cells3 E
  obtain⟨t0,t1,t2,t3,t4⟩:=cx ie
  have dZ:b0<wc.heap.size:=hlt B
  have eg:L<wc.heap.size:=hlt G
  have Sc:Hid (L<wc.heap.size):=zh eg
  have cB:b2<wc.heap.size:=hlt E
  have fa:b3<wc.heap.size:=hlt ie
  have kB:Z<wc.heap.size:=zn mJ gh.size
  clear hcut dX
  have hs:=qm.out
  cases hs with
  | let_ i j k' m' aq aJ H O=>
    clear m
    obtain rfl:kI=7:=by rw [<-jm.out];rfl
    obtain⟨hy,jy⟩:=Ai i rfl
    have HY:=zh hy
    have R:=HX.symm.trans (ax7 T i j _)
    rw [<-jy] at R
    obtain⟨k1,a6,a8,K5,Un,eD,aL,DN,BM⟩:=fV (K:=K) (pt:=pt) (pn:=some ⟨g,au,none⟩) (ct:=ct) (cn:=cn) nQ xx kA (j:=1) (i:=j) rfl (lY j (by simp [cg,lvT]))
    rw [ue.out,Ei.out] at BM
    have BW:=zh BM;have Wk:=zh aL
    obtain⟨g',nS,fQ,-,v1⟩:=bO iE eD
    injection fQ with fQ;injection fQ with es cI;subst es cI
    have lk:=zh v1
    have v1:=gh.cell lk (by simp)
    have dU:=lH.out
    rw [uL.out] at dU
    simp only [hJ,length_nil] at dU
    have z1:(1:Int)<(J:Int):=by omega
    have Vs:decide ((1:Int)<(J:Int))=true:=zd z1
    have Vc:=zE (1<J)
    clear dU
    subst R
    clear HX jy hy eD aL DN BM
    go_wp2_with fail
    refine(HM 22 ap _ HT HW).mono ?_
    rintro Y w5 ⟨dw,a7,rfl,hq⟩
    obtain⟨pk,nk,ck,rfl,qp⟩:=hq.plain
    have HQ:=zh qp
    have TI:=zh dw.size
    have BB:=zh dw
    have ef:=zh (aa gh dw)
    have hB:=bx dw G
    obtain⟨f0,f1,f2,f3,f4,f5,f6,f7⟩:=aN hB
    have G:=zh hB
    clear hq qp dw HM hB
    have NV:Hid (L<w5.heap.size):=zh (hlt G)
    clear t0 t1 t2 t3 t4 fa
    obtain⟨t0,t1,t2,t3,t4⟩:=cx (bx BB ie)
    have fa:b3<w5.heap.size:=zn (hlt ie) BB.size
    go_wp2_with fail
    obtain⟨U,A,C7,e7,vY,nL,V9⟩:=Jb w5 (.cells #[.int .i64 22,.string ⟨#[]⟩,.string ⟨#[]⟩,.string ⟨#[]⟩,.bool false,.slice pk nk ck,.int .i64 (ap:Int)] 68)
    have pJ:Hid (A=w5.heap.size):=zh e7.symm
    have dD:=zh (aa ef nL)
    have yd:=zh (aa BB nL)
    have a3:=zh nL
    have Fy:=B;have IM:=E
    have i8:=zh vY
    have G:=zh (bx nL G)
    have B:=zh (bx yd B);have E:=zh (bx yd E);have ie:=zh (bx yd ie)
    have HT:=zh (HT.kept yd);have HW:=zh (HW.kept yd)
    clear a0 a1 a2 n0 n1 n2 n3 t0 t1 t2 t3 t4 f0 f1 f2 f3 f4 f5 f6 f7 dZ eg cB fa vY nL V9
    obtain⟨a0,a1,a2⟩:=ac B
    obtain⟨n0,n1,n2,n3⟩:=cells3 E
    obtain⟨t0,t1,t2,t3,t4⟩:=cx ie
    obtain⟨l0,l1,l2,l3,l4,l5,l6,l7⟩:=aN i8
    obtain⟨f0,f1,f2,f3,f4,f5,f6,f7⟩:=aN G
    have dZ:b0<U.heap.size:=hlt B
    have eg:L<U.heap.size:=hlt G
    have cB:b2<U.heap.size:=hlt E
    have fa:b3<U.heap.size:=hlt ie
    have lP:A<U.heap.size:=hlt i8
    have kB:Z<U.heap.size:=zn mJ dD.size
    have Gj:Hid (L<A):=zh (by have H:=pJ.out;have O:=NV.out;omega)
    have v1:=dD.cell lk (by simp)
    try rw [<-C7]
    try rw [e7]
    clear C7 e7
    have zW:=lK
    go_still_tail 5,(by kernel_rfl)
    try (change wpList _ _ _ _ _ U.drew)
    go_wp2_with fail
    refine(BW _ (HT.kept gbx) (HW.kept gbx)).mono ?_
    rintro Y w7 ⟨rfl,dV⟩
    have cG:=zh (aa (show U.grownBy _ none from gbx) dV)
    have IE:=zh (bx cG i8);have JR:=zh (bx cG G)
    obtain⟨l0,l1,l2,l3,l4,l5,l6,l7⟩:=aN IE
    obtain⟨f0,f1,f2,f3,f4,f5,f6,f7⟩:=aN JR
    have eg:L<w7.heap.size:=zn eg cG.size
    have lP:A<w7.heap.size:=zn lP cG.size
    clear dV
    have a5:L<A:=Gj.out
    go_wp2_with fail
    have aX:=(HQ (tkT T j).text []).bound
    have ax:Fr2 (fun I=>I=A) w7 (w7.setCell ⟨A,1,none⟩ (.string K5)):=Fr2.setCell (S:=fun I=>I=A) (Fr2.refl _ _) (g:=A) (j:=1) rfl _
    have Pj:=ax.keep (bx cG G) (by have:=Gj.out;omega)
    have R0:=RAt.same ax (fun I (m:wc.heap.size<=I/\I<w5.heap.size) Y=>by have Y:I=A:=Y;have:=pJ.out;omega) (RAt.kept aX (aa a3 cG))
    rw [<-Wk.out] at R0
    have aO:w.grownBy (w7.setCell ⟨A,1,none⟩ (.string K5)) none:=Fr2.after (aa dD cG) ax (fun I Y=>by have H:=pJ.out;have O:=ef.size;have Y:I=A:=Y;omega)
    have HP:=zh (fp (w:=w) aO ll.1 Pj R0 (fun I m=>by have O:=gh.size;have h3:=Gj.out;have m:wc.heap.size<=I/\I<w5.heap.size:=m;have h4:=pJ.out;exact⟨by omega,by have:=Sc.out;omega⟩))
    obtain⟨hp,-⟩:=ju Pj (.int .i64 22) (.string K5) (.string ⟨#[]⟩) (.string ⟨#[]⟩) (.bool false) (.slice pk nk ck) (.int .i64 (ap:Int))
    obtain⟨r0,r1,r2,r3,r4,r5,r6,-⟩:=aN hp
    refine bodyPost_ret (v:=.agg #[(.int .i64 22),(.string K5),(.string ⟨#[]⟩),(.string ⟨#[]⟩),(.bool false),(.slice pk nk ck),(.int .i64 (ap:Int))]) (by simp [results,Tryz.results58,go_sem,r0,r1,r2,r3,r4,r5,r6]) rfl HP
  | if_ i j k' aq aJ v H O h3=>exact absurd m (by decide)
  | assert_ i j aq aJ H O=>exact absurd m (by decide)
  | bin i aq aJ H O h3=>exact absurd m (by decide)
  | una i aq H O=>exact absurd m (by decide)
  | grp i j aq H=>exact absurd m (by decide)
  | call i j l' H=>exact absurd m (by decide)
  | callm i j k3 l' H=>exact absurd m (by decide)
  | nam i=>exact absurd m (by decide)
  | num i H=>exact absurd m (by decide)
  | tru i=>exact absurd m (by decide)
  | res i=>exact absurd m (by decide)
theorem Nm (T:List Tok) (N:List Nd) (K:Nat->Option Addr×Nat) (pt pn:Option Addr) (ct cn ay:Nat) (ax:RIH T N K pt pn ct cn ay) (hT:T.length<=40000) (hN:N.length<=150000)
  (n:Nat) (ks:List Int) (R:Nat) (l:List Tr) (H:N[n]? = some ⟨(R:Int),-1,ks⟩) (dL:KT N n ks l) (hm:bK l<=ay) (mA:l.length<=150000) (dx:fj l) (eB:∀z∈cg l,z<T.length) (lx:WEs T l) (hs:ShE T R l) (m:R=12)
  (w:World) (ht:bl w pt (T.map toI)) (hw:al w pn N K):
  Calls Tryz.prog 58 #[.agg #[.slice pt T.length ct,.slice pn N.length cn],.int .i64 (n:Int)] w (iq (axT T (.nd R l)) w):=by
 have HM:=zh (fun (op ps:Nat) W A G=>pz T N K pt pn ct cn ay ax hT hN n ks (R:Int) l H dL hm mA dx (gU lx dx eB) op ps W A G)
 have Gt:=zh ax;have kA:=zh dL;have sE:=zh dx;have lY:=zh eB;have K0:=zh lx;have qm:=zh hs;have lj:=zh hm;have nQ:=zh hT;have xx:=zh hN
 obtain⟨k0,ak,y1,y2,ap,oh,yO,tr⟩:=gN (K:=K) (pt:=pt) (pn:=pn) (ct:=ct) (cn:=cn) hT hN dL dx eB (by cases hs<;>simp)
 have Ai:=zh yO
 have lC:=zh tr
 obtain⟨kI,se⟩:∃kI:Int,(R:Int)=kI:=⟨_,rfl⟩
 have jm:=zh se
 rw [se] at H
 obtain⟨av,aJ,rfl,bN,c0,c1,Z⟩:=bZ hw H
 have iE:=zh (hw.2 n _ H)
 have hn:n<N.length:=(Q4.1 H).1
 have HW:=zh hw;have HT:=zh ht
 have lH:=zh dL.1
 obtain⟨au,hM⟩:=zx N.length
 obtain⟨tm,kK⟩:=zx T.length
 obtain⟨E,ge⟩:=zx ks.length
 have Qy:0<E:=by rw [<-ge,lH.out];cases hs<;>simp
 have Ei:=zh hM;have ue:=zh kK;have uL:=zh ge
 simp only at c0 c1 Z
 rw [hM] at hn hN HM lC ⊢
 rw [kK] at hT HM lC ⊢
 rw [ge] at Z
 obtain⟨kq,kV⟩:=zx (K n).1
 obtain⟨kc,px⟩:=zx (K n).2
 have iE:Hid (VAt w kq (ar ks)):=zh (by rw [<-kV];exact iE)
 rw [kV,px] at Z
 have d1:decide (n<au)=true:=zd hn
 have ml:=zE ((n:Int)<(au:Int))
 have mR:Hid (av<w.heap.size):=zh bN
 obtain⟨O,dR,rfl,je,I⟩:=bO iE oh
 have mJ:Hid (O<w.heap.size):=zh je
 rw [Nat.add_zero] at I
 have xA:=zh I
 have z0:(0:Int)<(E:Int):=by omega
 have yF:decide ((0:Int)<(E:Int))=true:=zd z0
 have EK:=zE (0<E)
 obtain⟨a4,hX⟩:=zx (axT T (.nd R l))
 have HX:=zh hX
 rw [hX]
 clear H hw ht ax hM kK ge kV px dx hm mA eB lx tr oh dL I hT hN hs se yO hX
 have jo:=af (af (qn w (.cells #[.slice pt tm ct,.slice (some ⟨av,aJ,none⟩) au cn] 46) none) (.cells #[.int .i64 0,.string ⟨#[]⟩,.string ⟨#[]⟩,.string ⟨#[]⟩,.bool false,.slice none 0 0,.int .i64 0] 68)) (.cells #[.int .i64 kI,.int .i64 (-1),.slice (some ⟨O,dR,none⟩) E kc] 86)
 have c0:=jo.cell c0 (by simp)
 have c1:=jo.cell c1 (by simp)
 have Z:=jo.cell Z (by simp)
 go_enter Tryz.func58,Tryz.ntmps58
 go_wp2_with fail
 obtain⟨W,b0,b1,U,hW,e0,e1,e2,cS,dq,ec,dp,lu,oR⟩:=three w (.cells #[.slice pt tm ct,.slice (some ⟨av,aJ,none⟩) au cn] 46) (.cells #[.int .i64 0,.string ⟨#[]⟩,.string ⟨#[]⟩,.string ⟨#[]⟩,.bool false,.slice none 0 0,.int .i64 0] 68) (.cells #[.int .i64 kI,.int .i64 (-1),.slice (some ⟨O,dR,none⟩) E kc] 86)
 have ky:W.heap.size=U+1:=by rw [hW];simp;omega
 have J:=zh cS;have bS:=zh dq;have L:=zh ec;have bm:=zh dp;have gj:=zh e0;have ll:=zh e1;have uh:=zh ky
 clear cS dq ec dp Z jo c0 c1
 try rw [<-hW]
 try rw [e2]
 try rw [e1]
 try rw [e0]
 clear e0 e1 e2 hW ky
 obtain⟨a0,a1,a2⟩:=ac J
 obtain⟨n0,n1,n2,n3⟩:=cells3 L
 have I:=bm.cell xA (by simp)
 have dZ:b0<W.heap.size:=hlt J
 have cB:U<W.heap.size:=hlt L
 have kB:O<W.heap.size:=zn mJ bm.size
 go_cut [6] (fun t6 wx=>Hid (kr W U ak y1 y2 ap t6 wx))
 case first=>
  go_region_held3 (fun w'=>w'.cell? ⟨b0,0,none⟩=some (.slice pt tm ct)/\w'.cell? ⟨b0,1,none⟩=some (.slice (some ⟨av,aJ,none⟩) au cn)/\w'.cell? ⟨U,2,none⟩=some (.slice (some ⟨O,dR,none⟩) E kc)/\w'.cell? ⟨O,dR,none⟩=some (.int .i64 (k0:Int)))
   (first | with_reducible exact⟨a0,a1,n2,I⟩ | with_reducible exact⟨di a0 (by omega),di a1 (by omega),di n2 (by omega),di I (by omega)⟩ | go_keep)
   (first | (go_at_call 25;refine(lC _ (HT.kept (aa bm gbx)) (HW.kept (aa bm gbx))).mono ?_;rintro aO w2 ⟨rfl,bL⟩;(try (have mB:=bx bL (YK W (.cells #[.int .i64 0,.string ⟨#[]⟩,.string ⟨#[]⟩,.int .i64 0] 88))));(try (have xR:=cx mB;obtain⟨q0,q1,q2,q3,q4⟩:=xR));have Y:=zh (aa (show W.grownBy _ none from gbx) bL);obtain⟨a0,a1,a2⟩:=ac (bx Y J);obtain⟨n0,n1,n2,n3⟩:=cells3 (bx Y L);have I:=Y.cell I (by simp);clear bL))
  all_goals
   have s2:W.heap.size<=w2.heap.size:=Y.size
   go_wp2_with fail
   go_meet
   first
    | (with_reducible refine zh (jH Y.out ?_)
       omega)
    | (with_reducible refine zh (jz Y.out (Nat.le_refl _) cB mB))
 case rest=>
  obtain⟨b3,rfl,fa,JZ,dX⟩:=hcut.out
  have gh:=zh (aa bm dX)
  have J:=zh (bx dX J);have bS:=zh (bx dX bS);have L:=zh (bx dX L);have ie:=zh fa
  have HT:=zh (HT.kept gh);have HW:=zh (HW.kept gh)
  have ll:Hid (w.heap.size<=b1/\b1<U):=zh (by have:=ll.out;omega)
  obtain⟨a0,a1,a2⟩:=ac J
  obtain⟨n0,n1,n2,n3⟩:=cells3 L
  obtain⟨t0,t1,t2,t3,t4⟩:=cx ie
  have dZ:b0<wc.heap.size:=hlt J
  have eg:b1<wc.heap.size:=hlt bS
  have Sc:Hid (b1<wc.heap.size):=zh eg
  have cB:U<wc.heap.size:=hlt L
  have fa:b3<wc.heap.size:=hlt ie
  have kB:O<wc.heap.size:=zn mJ gh.size
  clear hcut dX
  have hs:=qm.out
  cases hs with
  | let_ B ao k' m' aq u A G=>exact absurd m (by decide)
  | if_ B ao k' aq u v A G h3=>exact absurd m (by decide)
  | assert_ B ao aq u A G=>exact absurd m (by decide)
  | bin B aq u A G h3=>exact absurd m (by decide)
  | una B aq A G=>exact absurd m (by decide)
  | grp B ao aq A=>
    cases aq with
    | lf _=>simp [isN] at A
    | nd m1 q1=>
      obtain⟨PZ,uG,ZL,-⟩:=kA.2 1 (.nd m1 q1) rfl
      have Gt:=zh (fun W A G=>Gt (.nd m1 q1) PZ W (by have:=lj.out;simp only [bK] at this;omega) ((gU K0 sE lY) (.nd m1 q1) (by simp) rfl PZ ZL) A G)
      rw [ue.out,Ei.out] at Gt
      obtain⟨g',nS,fQ,-,aL⟩:=bO iE uG
      injection fQ with fQ;injection fQ with es cI;subst es cI
      have aL:=gh.cell aL (by simp)
      clear uG ZL
      clear m
      obtain rfl:kI=12:=by rw [<-jm.out];rfl
      obtain⟨hy,jy⟩:=Ai B rfl
      have HY:=zh hy
      have H:=HX.symm.trans (NG T B ao (u:=.nd m1 q1) rfl)
      have dU:=lH.out
      rw [uL.out] at dU
      simp only [hJ,length_nil] at dU
      have a3:(1:Int)<(E:Int):=by omega
      have a6:decide ((1:Int)<(E:Int))=true:=zd a3
      have a5:=zE (1<E)
      clear dU
      subst H
      clear HX jy hy
      go_wp2_with fail
      go_still_tail 5,(by kernel_rfl)
      try (change wpList _ _ _ _ _ wc.drew)
      go_wp2_with fail
      refine(Gt _ (HT.kept gbx) (HW.kept gbx)).mono ?_
      rintro aO w5 ⟨dw,a7,rfl,hq⟩
      obtain⟨o0,s1,s2,s3,u4,p5,l5,k5,o6,rfl⟩:=hq.form
      have ef:=zh (aa (show wc.grownBy _ none from gbx) dw)
      have ik:=zh (bx ef bS)
      obtain⟨f0,f1,f2,f3,f4,f5,f6,f7⟩:=aN ik
      have eg:b1<w5.heap.size:=hlt ik
      have HQ:=zh hq
      clear dw hq
      go_wp2_with fail
      have HP:=zh (fp (w:=w) (aa gh ef) ll.1 ik HQ (fun aX m=>by have G:=gh.size;have h3:=hlt bS.out;have m:wc.heap.size<=aX:=m;exact⟨by omega,by omega⟩))
      obtain⟨hp,-⟩:=ju ik (.int .i64 o0) (.string s1) (.string s2) (.string s3) (.bool u4) (.slice p5 l5 k5) (.int .i64 o6)
      obtain⟨r0,r1,r2,r3,r4,r5,r6,-⟩:=aN hp
      refine bodyPost_ret (v:=.agg #[(.int .i64 o0),(.string s1),(.string s2),(.string s3),(.bool u4),(.slice p5 l5 k5),(.int .i64 o6)]) (by simp [results,Tryz.results58,go_sem,r0,r1,r2,r3,r4,r5,r6]) rfl HP
  | call B ao l' A=>exact absurd m (by decide)
  | callm B ao k3 l' A=>exact absurd m (by decide)
  | nam B=>exact absurd m (by decide)
  | num B A=>exact absurd m (by decide)
  | tru B=>exact absurd m (by decide)
  | res B=>exact absurd m (by decide)
open Go.RowKit
theorem Sh (T:List Tok) (N:List Nd) (K:Nat->Option Addr×Nat) (pt pn:Option Addr) (ct cn:Nat) (U:T.length<=40000) (R:N.length<=150000):∀m,m<=150000->RIH T N K pt pn ct cn m:=by
 intro m
 induction m with
 | zero=>intro _ ak G w h;have:=iR ak;omega
 | succ m E=>
   intro hm ak G w fG fe Y Z
   have E:=E (by omega)
   obtain⟨aq,Qf,Uk,H,au⟩:=fe
   cases ak with
   | lf av=>simp [isN] at aq
   | nd A B=>
     obtain⟨ap,ks,hn,hx,L⟩:=au.nd
     have hn:G=ap:=by omega
     subst hn
     simp only [WE] at Qf
     simp only [kOk] at Uk
     simp only [lvT] at H
     simp only [szR] at fG
     obtain⟨I,lx⟩:=Qf
     have O:=Uk.2.2
     have mA:B.length<=150000:=by have:=fw B;omega
     have J:bK B<=m:=by omega
     have ao:A=7\/(A=8\/A=9)\/A=10\/A=11\/A=12\/A=13\/(A=14\/A=15\/A=16\/A=17):=by cases I<;>simp
     rcases ao with h | h | h | h | h | h | h
     ·exact Ra T N K pt pn ct cn m E U R G ks A B hx L J mA O H lx I h w Y Z
     ·exact Ql T N K pt pn ct cn m E U R G ks A B hx L J mA O H lx I h w Y Z
     ·exact ND T N K pt pn ct cn m E U R G ks A B hx L J mA O H lx I h w Y Z
     ·exact OT T N K pt pn ct cn m E U R G ks A B hx L J mA O H lx I h w Y Z
     ·exact Nm T N K pt pn ct cn m E U R G ks A B hx L J mA O H lx I h w Y Z
     ·exact LX T N K pt pn ct cn m E U R G ks A B hx L J mA O H lx I h w Y Z
     ·exact LG T N K pt pn ct cn m E U R G ks A B hx L J mA O H lx I h w Y Z
end Go.Proofs.YtpkipghjohomcaaGreatDoor
