/- Lemmas. -/
import Derived.Test.YtpkipghjohomcaaGreatDoorP37
import Derived.Test.YtpkipghjohomcaaGreatDoorP46
set_option linter.unusedVariables false
set_option linter.unusedSimpArgs false
set_option maxHeartbeats 64000000
set_option maxRecDepth 100000
namespace Go.Proofs.YtpkipghjohomcaaGreatDoor
open Go.RowKit Go.World
theorem OT (T:List Tok) (N:List Nd) (K:Nat->Option Addr×Nat) (pt pn:Option Addr) (ct cn ay:Nat) (av:RIH T N K pt pn ct cn ay) (hT:T.length<=40000) (hN:N.length<=150000)
  (n:Nat) (ks:List Int) (kd:Nat) (l:List Tr) (B:N[n]? = some ⟨(kd:Int),-1,ks⟩) (dL:KT N n ks l) (hm:bK l<=ay) (mA:l.length<=150000) (dx:fj l) (eB:∀z∈cg l,z<T.length) (lx:WEs T l) (hs:ShE T kd l) (m:kd=11)
  (w:World) (ht:bl w pt (T.map toI)) (hw:al w pn N K):
  Calls Tryz.prog 58 #[.agg #[.slice pt T.length ct,.slice pn N.length cn],.int .i64 (n:Int)] w (iq (axT T (.nd kd l)) w):=by
 have HM:=zh (fun (op ps:Nat) W H I=>pz T N K pt pn ct cn ay av hT hN n ks (kd:Int) l B dL hm mA dx (gU lx dx eB) op ps W H I)
 have Gt:=zh av;have kA:=zh dL;have sE:=zh dx;have lY:=zh eB;have K0:=zh lx;have qm:=zh hs;have lj:=zh hm;have nQ:=zh hT;have xx:=zh hN
 obtain⟨k0,ak,y1,y2,L,oh,yO,tr⟩:=gN (K:=K) (pt:=pt) (pn:=pn) (ct:=ct) (cn:=cn) hT hN dL dx eB (by cases hs<;>simp)
 have Ai:=zh yO
 have lC:=zh tr
 obtain⟨kI,se⟩:∃kI:Int,(kd:Int)=kI:=⟨_,rfl⟩
 have jm:=zh se
 rw [se] at B
 obtain⟨au,aJ,rfl,bN,c0,c1,c2⟩:=bZ hw B
 have iE:=zh (hw.2 n _ B)
 have hn:n<N.length:=(Q4.1 B).1
 have HW:=zh hw;have HT:=zh ht
 have lH:=zh dL.1
 obtain⟨ao,hM⟩:=zx N.length
 obtain⟨tm,kK⟩:=zx T.length
 obtain⟨kl,ge⟩:=zx ks.length
 have Qy:0<kl:=by rw [<-ge,lH.out];cases hs<;>simp
 have Ei:=zh hM;have ue:=zh kK;have uL:=zh ge
 simp only at c0 c1 c2
 rw [hM] at hn hN HM lC ⊢
 rw [kK] at hT HM lC ⊢
 rw [ge] at c2
 obtain⟨kq,kV⟩:=zx (K n).1
 obtain⟨kc,px⟩:=zx (K n).2
 have iE:Hid (VAt w kq (ar ks)):=zh (by rw [<-kV];exact iE)
 rw [kV,px] at c2
 have d1:decide (n<ao)=true:=zd hn
 have ml:=zE ((n:Int)<(ao:Int))
 have mR:Hid (au<w.heap.size):=zh bN
 obtain⟨U,dR,rfl,je,J⟩:=bO iE oh
 have mJ:Hid (U<w.heap.size):=zh je
 rw [Nat.add_zero] at J
 have xA:=zh J
 have z0:(0:Int)<(kl:Int):=by omega
 have yF:decide ((0:Int)<(kl:Int))=true:=zd z0
 have EK:=zE (0<kl)
 obtain⟨a3,hX⟩:=zx (axT T (.nd kd l))
 have HX:=zh hX
 rw [hX]
 clear B hw ht av hM kK ge kV px dx hm mA eB lx tr oh dL J hT hN hs se yO hX
 have jo:=af (af (qn w (.cells #[.slice pt tm ct,.slice (some ⟨au,aJ,none⟩) ao cn] 46) none) (.cells #[.int .i64 0,.string ⟨#[]⟩,.string ⟨#[]⟩,.string ⟨#[]⟩,.bool false,.slice none 0 0,.int .i64 0] 68)) (.cells #[.int .i64 kI,.int .i64 (-1),.slice (some ⟨U,dR,none⟩) kl kc] 86)
 have c0:=jo.cell c0 (by simp)
 have c1:=jo.cell c1 (by simp)
 have c2:=jo.cell c2 (by simp)
 go_enter Tryz.func58,Tryz.ntmps58
 go_wp2_with fail
 obtain⟨W,b0,b1,b2,hW,e0,e1,e2,cS,dq,ec,dp,lu,oR⟩:=three w (.cells #[.slice pt tm ct,.slice (some ⟨au,aJ,none⟩) ao cn] 46) (.cells #[.int .i64 0,.string ⟨#[]⟩,.string ⟨#[]⟩,.string ⟨#[]⟩,.bool false,.slice none 0 0,.int .i64 0] 68) (.cells #[.int .i64 kI,.int .i64 (-1),.slice (some ⟨U,dR,none⟩) kl kc] 86)
 have ky:W.heap.size=b2+1:=by rw [hW];simp;omega
 have O:=zh cS;have E:=zh dq;have R:=zh ec;have bm:=zh dp;have gj:=zh e0;have ll:=zh e1;have uh:=zh ky
 clear cS dq ec dp c2 jo c0 c1
 try rw [<-hW]
 try rw [e2]
 try rw [e1]
 try rw [e0]
 clear e0 e1 e2 hW ky
 obtain⟨a0,a1,a2⟩:=ac O
 obtain⟨n0,n1,n2,n3⟩:=cells3 R
 have J:=bm.cell xA (by simp)
 have dZ:b0<W.heap.size:=hlt O
 have cB:b2<W.heap.size:=hlt R
 have kB:U<W.heap.size:=zn mJ bm.size
 go_cut [6] (fun t6 wx=>Hid (kr W b2 ak y1 y2 L t6 wx))
 case first=>
  go_region_held3 (fun w'=>w'.cell? ⟨b0,0,none⟩=some (.slice pt tm ct)/\w'.cell? ⟨b0,1,none⟩=some (.slice (some ⟨au,aJ,none⟩) ao cn)/\w'.cell? ⟨b2,2,none⟩=some (.slice (some ⟨U,dR,none⟩) kl kc)/\w'.cell? ⟨U,dR,none⟩=some (.int .i64 (k0:Int)))
   (first | with_reducible exact⟨a0,a1,n2,J⟩ | with_reducible exact⟨di a0 (by omega),di a1 (by omega),di n2 (by omega),di J (by omega)⟩ | go_keep)
   (first | (go_at_call 25;refine(lC _ (HT.kept (aa bm gbx)) (HW.kept (aa bm gbx))).mono ?_;rintro aO w2 ⟨rfl,bL⟩;(try (have mB:=bx bL (YK W (.cells #[.int .i64 0,.string ⟨#[]⟩,.string ⟨#[]⟩,.int .i64 0] 88))));(try (have xR:=cx mB;obtain⟨q0,q1,q2,q3,q4⟩:=xR));have bF:=zh (aa (show W.grownBy _ none from gbx) bL);obtain⟨a0,a1,a2⟩:=ac (bx bF O);obtain⟨n0,n1,n2,n3⟩:=cells3 (bx bF R);have J:=bF.cell J (by simp);clear bL))
  all_goals
   have s2:W.heap.size<=w2.heap.size:=bF.size
   go_wp2_with fail
   go_meet
   first
    | (with_reducible refine zh (jH bF.out ?_)
       omega)
    | (with_reducible refine zh (jz bF.out (Nat.le_refl _) cB mB))
 case rest=>
  obtain⟨b3,rfl,fa,JZ,dX⟩:=hcut.out
  have Y:=zh (aa bm dX)
  have O:=zh (bx dX O);have E:=zh (bx dX E);have R:=zh (bx dX R);have ie:=zh fa
  have HT:=zh (HT.kept Y);have HW:=zh (HW.kept Y)
  have ll:Hid (w.heap.size<=b1/\b1<b2):=zh (by have:=ll.out;omega)
  obtain⟨a0,a1,a2⟩:=ac O
  obtain⟨n0,n1,n2,n3⟩:=cells3 R
  obtain⟨t0,t1,t2,t3,t4⟩:=cx ie
  have dZ:b0<wc.heap.size:=hlt O
  have eg:b1<wc.heap.size:=hlt E
  have Sc:Hid (b1<wc.heap.size):=zh eg
  have cB:b2<wc.heap.size:=hlt R
  have fa:b3<wc.heap.size:=hlt ie
  have kB:U<wc.heap.size:=zn mJ Y.size
  clear hcut dX
  have hs:=qm.out
  cases hs with
  | let_ A ap k' m' aq aL H I=>exact absurd m (by decide)
  | if_ A ap k' aq aL v H I h3=>exact absurd m (by decide)
  | assert_ A ap aq aL H I=>exact absurd m (by decide)
  | bin A aq aL H I h3=>exact absurd m (by decide)
  | una A aq H I=>
    rcases I with RI | RI
    ·clear m
     obtain rfl:kI=11:=by rw [<-jm.out];rfl
     obtain⟨hy,jy⟩:=Ai A rfl
     have HY:=zh hy
     have B:=HX.symm.trans (abE T A _ RI)
     rw [<-jy] at B
     have e1:(y2.toList == [110,111,116])=false:=by rw [toList_data,HY.out,RI];rfl
     subst B
     clear HX jy hy
     go_wp2_with fail
     refine(HM 5 L _ HT HW).mono ?_
     rintro aO w5 ⟨G,aX,rfl,hq⟩
     obtain⟨pk,nk,ck,rfl,qp⟩:=hq.plain
     have HQ:=zh qp
     have TI:=zh G.size
     have BB:=zh G
     have ef:=zh (aa Y G)
     have Z:=bx G E
     obtain⟨f0,f1,f2,f3,f4,f5,f6,f7⟩:=aN Z
     have E:=zh Z
     clear hq qp G HM Z
     go_wp2_with fail
     have HP:=zh (fp (w:=w) ef ll.1 E (HQ.out [] []) (fun ax m=>by have I:=Y.size;have m:wc.heap.size<=ax:=m;exact⟨by omega,by omega⟩))
     obtain⟨hp,-⟩:=ju E (.int .i64 5) (.string ⟨#[]⟩) (.string ⟨#[]⟩) (.string ⟨#[]⟩) (.bool false) (.slice pk nk ck) (.int .i64 (L:Int))
     obtain⟨r0,r1,r2,r3,r4,r5,r6,-⟩:=aN hp
     refine bodyPost_ret (v:=.agg #[(.int .i64 5),(.string ⟨#[]⟩),(.string ⟨#[]⟩),(.string ⟨#[]⟩),(.bool false),(.slice pk nk ck),(.int .i64 (L:Int))]) (by simp [results,Tryz.results58,go_sem,r0,r1,r2,r3,r4,r5,r6]) rfl HP
    ·clear m
     obtain rfl:kI=11:=by rw [<-jm.out];rfl
     obtain⟨hy,jy⟩:=Ai A rfl
     have HY:=zh hy
     have B:=HX.symm.trans (ZF T A _ RI)
     rw [<-jy] at B
     have e1:(y2.toList == [110,111,116])=true:=by rw [toList_data,HY.out,RI];rfl
     subst B
     clear HX jy hy
     go_wp2_with fail
     refine(HM 6 L _ HT HW).mono ?_
     rintro aO w5 ⟨G,aX,rfl,hq⟩
     obtain⟨pk,nk,ck,rfl,qp⟩:=hq.plain
     have HQ:=zh qp
     have TI:=zh G.size
     have BB:=zh G
     have ef:=zh (aa Y G)
     have Z:=bx G E
     obtain⟨f0,f1,f2,f3,f4,f5,f6,f7⟩:=aN Z
     have E:=zh Z
     clear hq qp G HM Z
     go_wp2_with fail
     have HP:=zh (fp (w:=w) ef ll.1 E (HQ.out [] []) (fun ax m=>by have I:=Y.size;have m:wc.heap.size<=ax:=m;exact⟨by omega,by omega⟩))
     obtain⟨hp,-⟩:=ju E (.int .i64 6) (.string ⟨#[]⟩) (.string ⟨#[]⟩) (.string ⟨#[]⟩) (.bool false) (.slice pk nk ck) (.int .i64 (L:Int))
     obtain⟨r0,r1,r2,r3,r4,r5,r6,-⟩:=aN hp
     refine bodyPost_ret (v:=.agg #[(.int .i64 6),(.string ⟨#[]⟩),(.string ⟨#[]⟩),(.string ⟨#[]⟩),(.bool false),(.slice pk nk ck),(.int .i64 (L:Int))]) (by simp [results,Tryz.results58,go_sem,r0,r1,r2,r3,r4,r5,r6]) rfl HP
  | grp A ap aq H=>exact absurd m (by decide)
  | call A ap l' H=>exact absurd m (by decide)
  | callm A ap k3 l' H=>exact absurd m (by decide)
  | nam A=>exact absurd m (by decide)
  | num A H=>exact absurd m (by decide)
  | tru A=>exact absurd m (by decide)
  | res A=>exact absurd m (by decide)
theorem LG (T:List Tok) (N:List Nd) (K:Nat->Option Addr×Nat) (pt pn:Option Addr) (ct cn aJ:Nat) (ay:RIH T N K pt pn ct cn aJ) (hT:T.length<=40000) (hN:N.length<=150000)
  (n:Nat) (ks:List Int) (O:Nat) (l:List Tr) (E:N[n]? = some ⟨(O:Int),-1,ks⟩) (dL:KT N n ks l) (hm:bK l<=aJ) (mA:l.length<=150000) (dx:fj l) (eB:∀z∈cg l,z<T.length) (lx:WEs T l) (hs:ShE T O l) (A:O=14\/O=15\/O=16\/O=17)
  (w:World) (ht:bl w pt (T.map toI)) (hw:al w pn N K):
  Calls Tryz.prog 58 #[.agg #[.slice pt T.length ct,.slice pn N.length cn],.int .i64 (n:Int)] w (iq (axT T (.nd O l)) w):=by
 have HM:=zh (fun (op ps:Nat) W L h2=>pz T N K pt pn ct cn aJ ay hT hN n ks (O:Int) l E dL hm mA dx (gU lx dx eB) op ps W L h2)
 have Gt:=zh ay;have kA:=zh dL;have sE:=zh dx;have lY:=zh eB;have K0:=zh lx;have qm:=zh hs;have lj:=zh hm;have nQ:=zh hT;have xx:=zh hN
 obtain⟨k0,ak,y1,y2,B,oh,yO,tr⟩:=gN (K:=K) (pt:=pt) (pn:=pn) (ct:=ct) (cn:=cn) hT hN dL dx eB (by cases hs<;>simp)
 have Ai:=zh yO
 have lC:=zh tr
 obtain⟨Z,se⟩:∃Z:Int,(O:Int)=Z:=⟨_,rfl⟩
 have jm:=zh se
 rw [se] at E
 obtain⟨au,aL,rfl,bN,c0,c1,c2⟩:=bZ hw E
 have iE:=zh (hw.2 n _ E)
 have hn:n<N.length:=(Q4.1 E).1
 have HW:=zh hw;have HT:=zh ht
 have lH:=zh dL.1
 obtain⟨ao,hM⟩:=zx N.length
 obtain⟨tm,kK⟩:=zx T.length
 obtain⟨kl,ge⟩:=zx ks.length
 have Qy:0<kl:=by rw [<-ge,lH.out];cases hs<;>simp
 have Ei:=zh hM;have ue:=zh kK;have uL:=zh ge
 simp only at c0 c1 c2
 rw [hM] at hn hN HM lC ⊢
 rw [kK] at hT HM lC ⊢
 rw [ge] at c2
 obtain⟨kq,kV⟩:=zx (K n).1
 obtain⟨kc,px⟩:=zx (K n).2
 have iE:Hid (VAt w kq (ar ks)):=zh (by rw [<-kV];exact iE)
 rw [kV,px] at c2
 have d1:decide (n<ao)=true:=zd hn
 have ml:=zE ((n:Int)<(ao:Int))
 have mR:Hid (au<w.heap.size):=zh bN
 obtain⟨g1,dR,rfl,je,v0⟩:=bO iE oh
 have mJ:Hid (g1<w.heap.size):=zh je
 rw [Nat.add_zero] at v0
 have xA:=zh v0
 have z0:(0:Int)<(kl:Int):=by omega
 have yF:decide ((0:Int)<(kl:Int))=true:=zd z0
 have EK:=zE (0<kl)
 obtain⟨aX,hX⟩:=zx (axT T (.nd O l))
 have J:=zh hX
 rw [hX]
 clear E hw ht ay hM kK ge kV px dx hm mA eB lx tr oh dL v0 hT hN hs se yO hX
 have jo:=af (af (qn w (.cells #[.slice pt tm ct,.slice (some ⟨au,aL,none⟩) ao cn] 46) none) (.cells #[.int .i64 0,.string ⟨#[]⟩,.string ⟨#[]⟩,.string ⟨#[]⟩,.bool false,.slice none 0 0,.int .i64 0] 68)) (.cells #[.int .i64 Z,.int .i64 (-1),.slice (some ⟨g1,dR,none⟩) kl kc] 86)
 have c0:=jo.cell c0 (by simp)
 have c1:=jo.cell c1 (by simp)
 have c2:=jo.cell c2 (by simp)
 go_enter Tryz.func58,Tryz.ntmps58
 go_wp2_with fail
 obtain⟨W,b0,b1,b2,hW,e0,e1,e2,cS,dq,ec,dp,lu,oR⟩:=three w (.cells #[.slice pt tm ct,.slice (some ⟨au,aL,none⟩) ao cn] 46) (.cells #[.int .i64 0,.string ⟨#[]⟩,.string ⟨#[]⟩,.string ⟨#[]⟩,.bool false,.slice none 0 0,.int .i64 0] 68) (.cells #[.int .i64 Z,.int .i64 (-1),.slice (some ⟨g1,dR,none⟩) kl kc] 86)
 have ky:W.heap.size=b2+1:=by rw [hW];simp;omega
 have bB:=zh cS;have G:=zh dq;have bP:=zh ec;have bm:=zh dp;have gj:=zh e0;have ll:=zh e1;have uh:=zh ky
 clear cS dq ec dp c2 jo c0 c1
 try rw [<-hW]
 try rw [e2]
 try rw [e1]
 try rw [e0]
 clear e0 e1 e2 hW ky
 obtain⟨a0,a1,a2⟩:=ac bB
 obtain⟨n0,n1,n2,n3⟩:=cells3 bP
 have v0:=bm.cell xA (by simp)
 have dZ:b0<W.heap.size:=hlt bB
 have cB:b2<W.heap.size:=hlt bP
 have kB:g1<W.heap.size:=zn mJ bm.size
 go_cut [6] (fun t6 wx=>Hid (kr W b2 ak y1 y2 B t6 wx))
 case first=>
  go_region_held3 (fun w'=>w'.cell? ⟨b0,0,none⟩=some (.slice pt tm ct)/\w'.cell? ⟨b0,1,none⟩=some (.slice (some ⟨au,aL,none⟩) ao cn)/\w'.cell? ⟨b2,2,none⟩=some (.slice (some ⟨g1,dR,none⟩) kl kc)/\w'.cell? ⟨g1,dR,none⟩=some (.int .i64 (k0:Int)))
   (first | with_reducible exact⟨a0,a1,n2,v0⟩ | with_reducible exact⟨di a0 (by omega),di a1 (by omega),di n2 (by omega),di v0 (by omega)⟩ | go_keep)
   (first | (go_at_call 25;refine(lC _ (HT.kept (aa bm gbx)) (HW.kept (aa bm gbx))).mono ?_;rintro a3 w2 ⟨rfl,bL⟩;(try (have mB:=bx bL (YK W (.cells #[.int .i64 0,.string ⟨#[]⟩,.string ⟨#[]⟩,.int .i64 0] 88))));(try (have xR:=cx mB;obtain⟨q0,q1,q2,q3,q4⟩:=xR));have bF:=zh (aa (show W.grownBy _ none from gbx) bL);obtain⟨a0,a1,a2⟩:=ac (bx bF bB);obtain⟨n0,n1,n2,n3⟩:=cells3 (bx bF bP);have v0:=bF.cell v0 (by simp);clear bL))
  all_goals
   have s2:W.heap.size<=w2.heap.size:=bF.size
   go_wp2_with fail
   go_meet
   first
    | (with_reducible refine zh (jH bF.out ?_)
       omega)
    | (with_reducible refine zh (jz bF.out (Nat.le_refl _) cB mB))
 case rest=>
  obtain⟨b3,rfl,fa,JZ,dX⟩:=hcut.out
  have gh:=zh (aa bm dX)
  have bB:=zh (bx dX bB);have G:=zh (bx dX G);have bP:=zh (bx dX bP);have ie:=zh fa
  have HT:=zh (HT.kept gh);have HW:=zh (HW.kept gh)
  have ll:Hid (w.heap.size<=b1/\b1<b2):=zh (by have:=ll.out;omega)
  obtain⟨a0,a1,a2⟩:=ac bB
  obtain⟨n0,n1,n2,n3⟩:=cells3 bP
  obtain⟨t0,t1,t2,t3,t4⟩:=cx ie
  have dZ:b0<wc.heap.size:=hlt bB
  have eg:b1<wc.heap.size:=hlt G
  have Sc:Hid (b1<wc.heap.size):=zh eg
  have cB:b2<wc.heap.size:=hlt bP
  have fa:b3<wc.heap.size:=hlt ie
  have kB:g1<wc.heap.size:=zn mJ gh.size
  clear hcut dX
  have hs:=qm.out
  cases hs with
  | let_ m ap k' m' aq aO L h2=>exact absurd A (by decide)
  | if_ m ap k' aq aO v L h2 h3=>exact absurd A (by decide)
  | assert_ m ap aq aO L h2=>exact absurd A (by decide)
  | bin m aq aO L h2 h3=>exact absurd A (by decide)
  | una m aq L h2=>exact absurd A (by decide)
  | grp m ap aq L=>exact absurd A (by decide)
  | call m ap l' L=>exact absurd A (by decide)
  | callm m ap k3 l' L=>exact absurd A (by decide)
  | nam m=>
    clear A
    obtain rfl:Z=14:=by rw [<-jm.out];rfl
    obtain⟨H,I⟩:=Ai m rfl
    have HY:=zh H
    have E:=J.symm.trans (afa T m)
    rw [<-I] at E
    subst E
    clear J I H
    have U:Hid (RAt (fun _=>False) wc _ [(.int .i64 3),(.string y2),(.string ⟨#[]⟩),(.string ⟨#[]⟩),(.bool false),(.slice none 0 0),(.int .i64 (B:Int))]):=zh (by rw [HY.out];exact RAt.none_ 3 B (tkT T m).text [] false)
    obtain⟨f0,f1,f2,f3,f4,f5,f6,f7⟩:=aN G
    go_wp2_with fail
    have R:=zh (fp (w:=w) gh ll.1 G U (fun ax A=>A.elim))
    obtain⟨Y,-⟩:=ju G (.int .i64 3) (.string y2) (.string ⟨#[]⟩) (.string ⟨#[]⟩) (.bool false) (.slice none 0 0) (.int .i64 (B:Int))
    obtain⟨r0,r1,r2,r3,r4,r5,r6,-⟩:=aN Y
    refine bodyPost_ret (v:=.agg #[(.int .i64 3),(.string y2),(.string ⟨#[]⟩),(.string ⟨#[]⟩),(.bool false),(.slice none 0 0),(.int .i64 (B:Int))]) (by simp [results,Tryz.results58,go_sem,r0,r1,r2,r3,r4,r5,r6]) rfl R
  | num m L=>
    clear A
    obtain rfl:Z=15:=by rw [<-jm.out];rfl
    obtain⟨H,I⟩:=Ai m rfl
    have HY:=zh H
    have E:=J.symm.trans (aeb T m)
    rw [<-I] at E
    subst E
    clear J I H
    have U:Hid (RAt (fun _=>False) wc _ [(.int .i64 1),(.string ⟨#[]⟩),(.string ⟨#[]⟩),(.string y2),(.bool false),(.slice none 0 0),(.int .i64 (B:Int))]):=zh (by rw [HY.out];exact RAt.none_ 1 B [] (tkT T m).text false)
    obtain⟨f0,f1,f2,f3,f4,f5,f6,f7⟩:=aN G
    go_wp2_with fail
    have R:=zh (fp (w:=w) gh ll.1 G U (fun ax A=>A.elim))
    obtain⟨Y,-⟩:=ju G (.int .i64 1) (.string ⟨#[]⟩) (.string ⟨#[]⟩) (.string y2) (.bool false) (.slice none 0 0) (.int .i64 (B:Int))
    obtain⟨r0,r1,r2,r3,r4,r5,r6,-⟩:=aN Y
    refine bodyPost_ret (v:=.agg #[(.int .i64 1),(.string ⟨#[]⟩),(.string ⟨#[]⟩),(.string y2),(.bool false),(.slice none 0 0),(.int .i64 (B:Int))]) (by simp [results,Tryz.results58,go_sem,r0,r1,r2,r3,r4,r5,r6]) rfl R
  | tru m=>
    by_cases av:(tkT T m).text = [116,114,117,101]
    ·clear A
     obtain rfl:Z=16:=by rw [<-jm.out];rfl
     obtain⟨H,I⟩:=Ai m rfl
     have HY:=zh H
     have E:=J.symm.trans (acO T m av)
     rw [<-I] at E
     have e1:(y2.toList == [116,114,117,101])=true:=by rw [toList_data,HY.out];rw [av];rfl
     subst E
     clear J I H
     have U:Hid (RAt (fun _=>False) wc _ [(.int .i64 2),(.string ⟨#[]⟩),(.string ⟨#[]⟩),(.string ⟨#[]⟩),(.bool true),(.slice none 0 0),(.int .i64 (B:Int))]):=zh (by exact RAt.none_ 2 B [] [] true)
     obtain⟨f0,f1,f2,f3,f4,f5,f6,f7⟩:=aN G
     go_wp2_with fail
     have R:=zh (fp (w:=w) gh ll.1 G U (fun ax A=>A.elim))
     obtain⟨Y,-⟩:=ju G (.int .i64 2) (.string ⟨#[]⟩) (.string ⟨#[]⟩) (.string ⟨#[]⟩) (.bool true) (.slice none 0 0) (.int .i64 (B:Int))
     obtain⟨r0,r1,r2,r3,r4,r5,r6,-⟩:=aN Y
     refine bodyPost_ret (v:=.agg #[(.int .i64 2),(.string ⟨#[]⟩),(.string ⟨#[]⟩),(.string ⟨#[]⟩),(.bool true),(.slice none 0 0),(.int .i64 (B:Int))]) (by simp [results,Tryz.results58,go_sem,r0,r1,r2,r3,r4,r5,r6]) rfl R
    ·clear A
     obtain rfl:Z=16:=by rw [<-jm.out];rfl
     obtain⟨H,I⟩:=Ai m rfl
     have HY:=zh H
     have E:=J.symm.trans (abj T m av)
     rw [<-I] at E
     have e1:(y2.toList == [116,114,117,101])=false:=by rw [toList_data,HY.out];exact xz.2 av
     subst E
     clear J I H
     have U:Hid (RAt (fun _=>False) wc _ [(.int .i64 2),(.string ⟨#[]⟩),(.string ⟨#[]⟩),(.string ⟨#[]⟩),(.bool false),(.slice none 0 0),(.int .i64 (B:Int))]):=zh (by exact RAt.none_ 2 B [] [] false)
     obtain⟨f0,f1,f2,f3,f4,f5,f6,f7⟩:=aN G
     go_wp2_with fail
     have R:=zh (fp (w:=w) gh ll.1 G U (fun ax A=>A.elim))
     obtain⟨Y,-⟩:=ju G (.int .i64 2) (.string ⟨#[]⟩) (.string ⟨#[]⟩) (.string ⟨#[]⟩) (.bool false) (.slice none 0 0) (.int .i64 (B:Int))
     obtain⟨r0,r1,r2,r3,r4,r5,r6,-⟩:=aN Y
     refine bodyPost_ret (v:=.agg #[(.int .i64 2),(.string ⟨#[]⟩),(.string ⟨#[]⟩),(.string ⟨#[]⟩),(.bool false),(.slice none 0 0),(.int .i64 (B:Int))]) (by simp [results,Tryz.results58,go_sem,r0,r1,r2,r3,r4,r5,r6]) rfl R
  | res m=>
    clear A
    obtain rfl:Z=17:=by rw [<-jm.out];rfl
    obtain⟨H,I⟩:=Ai m rfl
    have HY:=zh H
    have E:=J.symm.trans (afJ T m)
    rw [<-I] at E
    subst E
    clear J I H
    have U:Hid (RAt (fun _=>False) wc _ [(.int .i64 4),(.string ⟨#[]⟩),(.string ⟨#[]⟩),(.string ⟨#[]⟩),(.bool false),(.slice none 0 0),(.int .i64 (B:Int))]):=zh (by exact RAt.none_ 4 B [] [] false)
    obtain⟨f0,f1,f2,f3,f4,f5,f6,f7⟩:=aN G
    go_wp2_with fail
    have R:=zh (fp (w:=w) gh ll.1 G U (fun ax A=>A.elim))
    obtain⟨Y,-⟩:=ju G (.int .i64 4) (.string ⟨#[]⟩) (.string ⟨#[]⟩) (.string ⟨#[]⟩) (.bool false) (.slice none 0 0) (.int .i64 (B:Int))
    obtain⟨r0,r1,r2,r3,r4,r5,r6,-⟩:=aN Y
    refine bodyPost_ret (v:=.agg #[(.int .i64 4),(.string ⟨#[]⟩),(.string ⟨#[]⟩),(.string ⟨#[]⟩),(.bool false),(.slice none 0 0),(.int .i64 (B:Int))]) (by simp [results,Tryz.results58,go_sem,r0,r1,r2,r3,r4,r5,r6]) rfl R
set_option maxHeartbeats 16000000
open Go.RowKit
def Mv (T:List fN) (N:List Nd) (l:List UInt8) (w:World) (e:Ending) (A:World):Prop:=
 w.grownBy A none/\((gK T N l false/\∃m,e=.returned (.tuple #[.agg m.toArray,.int .i64 0])/\gq (fun B=>w.heap.size<=B) A (oZ l 200) m)\/(¬gK T N l false/\e=.returned (.tuple #[.agg #[.slice none 0 0,.slice none 0 0],.int .i64 10])))
theorem O6 (T:List fN) (N:List Nd) (K:Kf) (s:ByteArray) (hs:s.size<=25000) (hw:cZ T=s.data.toList) (hT:T.length<=100000) (hN:N.length<=150000) (J:∀(i:Nat) (x:Nd),N[i]? = some x->x.kids.length<=150000) (pt pn:Option Addr) (ct cn:Nat) (w:World) (gP:fJ w) (eh:gF w) (ht:bl w pt T) (hn:al w pn N K):
  Calls Tryz.prog 6 #[.agg #[.slice pt T.length ct,.slice pn N.length cn]] w (Mv T N s.data.toList w):=by
 have Dz:s.data.toList.length=s.size:=aQ s
 have Te:=zh (fun W L O R=>yx T N K s hs hw hT hN J pt pn ct cn W L O R)
 obtain⟨l,hl⟩:=zx s.data.toList
 rw [hl] at Te Dz ⊢
 have ak:=zh (fun (hg:gK T N l false) (Z:(aw l 200 false).length<=2*(ai l).1.length) (K:Kf) (pt pn:Option Addr) (ct cn:Nat) W L O R=>It (l:=l) (D:=200) (by omega) (pZ (by omega) hg.1) Z (K:=K) pt pn ct cn W L O R)
 have HT:=zh ht;have HN:=zh hn;have iF:=zh gP;have fc:=zh eh
 clear ht hn gP eh hN hs Dz hl hw J hT
 obtain⟨av,hm⟩:=zx T.length
 obtain⟨au,hM⟩:=zx N.length
 rw [hm,hM] at Te ⊢
 clear hm hM
 go_enter Tryz.func6,Tryz.ntmps6
 go_wp2_with fail
 obtain⟨W,b0,m,hW,e0,e1,cS,dq,dp,lu⟩:=two w (.cells #[.slice pt av ct,.slice pn au cn] 26) (.cells #[.slice none 0 0,.slice none 0 0] 35)
 have bS:=zh dq;have bm:=zh dp;have gj:=zh e0
 clear cS dq dp
 try rw [<-hW]
 try rw [e1]
 try rw [e0]
 clear e0 e1 hW
 refine(Te _ (iF.kept bm) (HT.kept bm) (HN.kept bm)).mono ?_
 rintro I U ⟨cJ,he⟩
 have fu:=zh (aa bm cJ)
 have lJ:=zh (bx cJ bS)
 clear cJ Te
 rcases he with ⟨fe,kC,kX,jK,lh,K',rfl,dK,lL,Z,-⟩ | ⟨iS,rfl⟩
 ·have rg:=zh fe
  have Cc:=zh (fun W L O R=>ak fe Z K' kC jK kX lh W L O R)
  have rN:=zh dK;have xF:=zh lL
  generalize (ai l).1.length=m' at *
  generalize (aw l 200 false).length=M' at *
  clear dK lL ak fe Z
  go_wp2_with fail
  obtain⟨W3,b2,xj,e2,ec,j7⟩:=vw U (.cells #[.slice kC m' kX,.slice jK M' lh] 82)
  have gA:=zh (aa fu j7)
  have MR:=zh (bx j7 lJ)
  have mq:=zh j7
  clear j7
  try rw [<-xj]
  try rw [e2]
  clear e2 xj ec
  refine(Cc _ (rN.kept mq) (xF.kept mq) (fc.kept gA)).mono ?_
  rintro I Y ⟨lO,ax,rfl,hq⟩
  obtain⟨G,H,B,E,nd,A,rfl⟩:∃(G:Option Addr) (H B:Nat) (E:Option Addr) (nd A:Nat),ax = [.slice G H B,.slice E nd A]:=by
   obtain⟨G,B,E,A,fH,rfl,-⟩:=hq
   exact⟨_,_,_,_,_,_,rfl⟩
  have ir:=zh (aa gA lO)
  have aq:Hid (m<W3.heap.size/\w.heap.size<=W3.heap.size):=zh ⟨hlt MR,gA.size⟩
  have sN:=zh (bx lO MR)
  obtain⟨c0,c1,c2⟩:=ac sN
  have eg:m<Y.heap.size:=hlt sN
  have HQ:=zh hq
  clear lO hq Cc
  go_wp2_with fail
  have hf:Fr2 (dm m) Y ((Y.setCell ⟨m,0,none⟩ (.slice G H B)).setCell ⟨m,1,none⟩ (.slice E nd A)):=((Fr2.refl _ _).setCell (aK m) _).setCell (aK m) _
  have rT:=Fr2.after ir hf (fun ao hj=>by have I:ao=m:=hj;have:=gj.out;omega)
  have hc:=ab (i:=1) (u:=.slice E nd A) (ab (i:=0) (u:=.slice G H B) sN)
  obtain⟨k0,k1,-⟩:=ac (show((Y.setCell ⟨m,0,none⟩ (.slice G H B)).setCell ⟨m,1,none⟩ (.slice E nd A)).heap[m]? = some (Obj.cells #[.slice G H B,.slice E nd A] 35 (0,0)) from hc)
  have HP:Hid (Mv T N l w (.returned (.tuple #[.agg #[.slice G H B,.slice E nd A],.int .i64 0])) ((Y.setCell ⟨m,0,none⟩ (.slice G H B)).setCell ⟨m,1,none⟩ (.slice E nd A))):=zh ⟨rT,.inl ⟨rg,_,rfl,gq.mono (fun ap J=>Nat.le_trans aq.2 J) (gq.same hf (fun ap J I=>by have I:ap=m:=I;have:=aq.1;have h:W3.heap.size<=ap:=J;omega) HQ)⟩⟩
  refine bodyPost_ret (v:=.tuple #[.agg #[.slice G H B,.slice E nd A],.int .i64 0]) (by simp [results,Tryz.results6,go_sem,k0,k1]) rfl HP
 ·have Gr:=zh iS
  obtain⟨c0,c1,c2⟩:=ac lJ
  have eg:m<U.heap.size:=hlt lJ
  clear iS ak
  go_wp2_with fail
  have hf:Fr2 (dm m) U ((U.setCell ⟨m,0,none⟩ (.slice none 0 0)).setCell ⟨m,1,none⟩ (.slice none 0 0)):=((Fr2.refl _ _).setCell (aK m) _).setCell (aK m) _
  have rT:=Fr2.after fu hf (fun ao hj=>by have I:ao=m:=hj;have:=gj.out;omega)
  have hc:=ab (i:=1) (u:=.slice none 0 0) (ab (i:=0) (u:=.slice none 0 0) lJ)
  have tA:=bx (af (ad _ none) (.cells #[.slice none 0 0,.slice none 0 0] 82)) (show((U.setCell ⟨m,0,none⟩ (.slice none 0 0)).setCell ⟨m,1,none⟩ (.slice none 0 0)).heap[m]? = some (Obj.cells #[.slice none 0 0,.slice none 0 0] 35) from hc)
  obtain⟨k0,k1,-⟩:=ac tA
  refine bodyPost_ret (v:=.tuple #[.agg #[.slice none 0 0,.slice none 0 0],.int .i64 10]) (by simp [results,Tryz.results6,go_sem,k0,k1]) rfl (show Mv T N l w _ _ from⟨af rT _,.inr ⟨Gr,rfl⟩⟩)
def acY:List UInt8:=[40,120,41,43,49]
def ye:Ex:=.mk 7 [] [] [] false [.mk 3 [120] [] [] false [] 1,.mk 1 [] [] [49] false [] 4] 3
theorem Tq:(eE acY 9 true).2.1=0:=by kernel_rfl
theorem Iv:oU acY 9=ye:=by kernel_rfl
theorem Aa:cL ye = [91,55,32,91,51,32,120,93,32,91,49,32,49,93,93]:=by kernel_rfl
theorem y6:cY ye=3:=by kernel_rfl
theorem Cr:mF ye<=1000000:=by decide +kernel
theorem FL:iL ye:=by
 simp [ye,iL,ny,nM]
theorem Jm (w:World) (R:fJ w) (eh:gF w):Calls Tryz.prog 4 #[] w (bp (.bool true) w):=by
 have Eh:=zh (zG ⟨#[40,120,41,43,49]⟩ 9 w (by decide) R)
 have O:(eE (⟨#[40,120,41,43,49]⟩:ByteArray).data.toList 9 true).2.1=0:=Tq
 have iF:=zh R;have fc:=zh eh
 clear R eh
 go_enter Tryz.func4,Tryz.ntmps4
 go_wp2_with fail
 refine Eh.mono ?_
 rintro J w1 ⟨cJ,he⟩
 rw [if_neg (by rw [O];decide)] at he
 obtain⟨pt,ct,pn,cn,au,rfl,dK,Ir,lL,-,-,-,hN⟩:=he
 have B:=zh (fun W h1 h2 h3 h4=>C9 ⟨#[40,120,41,43,49]⟩ 9 (by decide) O pt pn ct cn au W h1 h2 h3 h4 hN)
 have ap:oU (⟨#[40,120,41,43,49]⟩:ByteArray).data.toList 9=ye:=Iv
 rw [ap] at B
 have rN:=zh dK;have xF:=zh lL;have E:=zh cJ
 obtain⟨aO,hm⟩:=zx (ai (⟨#[40,120,41,43,49]⟩:ByteArray).data.toList).1.length
 obtain⟨av,hM⟩:=zx (aw (⟨#[40,120,41,43,49]⟩:ByteArray).data.toList 9 true).length
 rw [hm,hM] at B ⊢
 obtain⟨W,b0,b1,hW,e0,L,cS,dq,dp,lu⟩:=two w1 (.cells #[.slice pt aO ct,.slice pn av cn] 26) (.cells #[.int .i64 0,.int .i64 0] 29)
 have bB:=zh cS;have m:=zh dp
 clear hm hM hN Ir dK lL cJ O ap Eh cS dq dp
 go_wp2_with fail
 try rw [<-hW]
 try rw [L]
 try rw [e0]
 clear e0 L hW
 refine(B _ (iF.kept (aa E m)) (fc.kept (aa E m)) (rN.kept m) (xF.kept m)).mono ?_
 rintro J G ⟨bL,a1,rfl,A⟩
 have bF:=zh (aa (aa E m) bL)
 obtain⟨ax,ao,s8,pw,Y,I,Z,nk,H,rfl⟩:∃(ay aJ:ByteArray) (aq:Bool) (a0:Option Addr) (aX aL:Nat) (p':Option Addr) (n' c':Nat),a1 = [.int .i64 7,.string ay,.string aJ,.bool aq,.slice a0 aX aL,.bool false,.slice p' n' c',.int .i64 3]:=by
  unfold ye at A
  simp only [EAt] at A
  obtain⟨aq,pw,Y,I,Z,H,a3,rfl,-⟩:=A
  exact⟨_,_,_,_,_,_,_,_,_,rfl⟩
 have MT:=zh (fun W (h:G.grownBy W none)=>AD _ ye _ W (A.kept h) FL Cr (by rw [Aa];decide))
 have ak:=zh (fun W (h:G.grownBy W none)=>Xv _ ye _ W (A.kept h) Cr (by rw [y6];decide))
 clear bL A B iF fc rN xF m bB E
 go_wp2_with fail
 have sP:=qn G (.cells #[.int .i64 7,.string ax,.string ao,.bool s8,.slice pw Y I,.bool false,.slice Z nk H,.int .i64 3] 60) none
 have HB:=zh (YK G (.cells #[.int .i64 7,.string ax,.string ao,.bool s8,.slice pw Y I,.bool false,.slice Z nk H,.int .i64 3] 60))
 have kD:=zh sP
 clear sP
 refine(MT _ kD).mono ?_
 rintro J w3 ⟨⟨a2,rfl,hy⟩,U⟩
 have L:(a2.toList == [91,55,32,91,51,32,120,93,32,91,49,32,49,93,93])=true:=by rw [toList_data,hy,Aa];rfl
 have ie:=zh (bx U HB)
 have gA:=zh (aa kD U)
 obtain⟨c0,c1,c2,c3,c4,c5,c6,c7,c8⟩:=bJ ie
 clear U hy MT HB
 go_wp2_with fail
 refine(ak _ gA).mono ?_
 rintro J w4 ⟨rfl,lO⟩
 rw [y6]
 have ir:=zh (aa bF (aa gA lO))
 clear lO ak
 go_wp2_with fail
 go_ret
 exact⟨rfl,ir⟩
end Go.Proofs.YtpkipghjohomcaaGreatDoor
