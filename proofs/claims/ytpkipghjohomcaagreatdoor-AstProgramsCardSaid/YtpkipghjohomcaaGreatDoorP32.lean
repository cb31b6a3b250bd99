/- Lemmas. -/
import Derived.Test.YtpkipghjohomcaaGreatDoorP19
import Derived.Test.YtpkipghjohomcaaGreatDoorP31
set_option linter.unusedVariables false
set_option linter.unusedSimpArgs false
set_option maxHeartbeats 16000000
set_option maxRecDepth 100000
namespace Go.Proofs.YtpkipghjohomcaaGreatDoor
open Go.RowKit List Nat Go.World
def oQ (f:Fx):Fx:={ f with cl:=[],bare:=f.bare }
def oG (d:Dx):Dx:=⟨d.pub,d.ps.map oQ,oQ d.res,d.body⟩
def un (P:Px):Px:=⟨P.imps,P.defs.map oG⟩
def ld (f:Fx):List Value:=[aD f.nm,.int .i64 (f.base:Int),.slice none 0 0,.int .i64 (f.ps:Int),.int .i64 f.bare]
theorem Hc (F:Nat->Prop) (w:World) (f:Fx):PAt F w (oQ f) (ld f):=⟨none,0,[],rfl,.inl rfl,by simp only [oQ,LsE],fun h=>absurd rfl h⟩
theorem DE (F:Nat->Prop) (w:World):∀l:List Fx,eZ F w (l.map oQ) (l.map ld)
 | []=>by simp [eZ]
 | f::l=>by simp only [map_cons,eZ];exact⟨_,_,rfl,Hc F w f,DE F w l⟩
def GC (F:Nat->Prop) (d:Dx) (w:World) (e:Ending) (B:World):Prop:=w.grownBy B none/\∃A,e=.returned (.agg A.toArray)/\DAt (fun m=>F m\/w.heap.size<=m) B (oG d) A
theorem D0 {W:World} {B:Nat} {T:TypeId} {I x1 x2 J x4 U Y Z x8 x9 O R L G H:Value} (h0:W.heap[B]? = some (.cells #[I,x1,x2,J,x4,U,Y,Z,x8,x9,O,R,L,G,H] T (0,0))) (m A E a b c d e f g h:Value):
  (((((((((((W.setCell ⟨B,1,none⟩ m).setCell ⟨B,2,none⟩ A).setCell ⟨B,4,none⟩ E).setCell ⟨B,5,none⟩ a).setCell ⟨B,6,none⟩ b).setCell ⟨B,7,none⟩ c).setCell ⟨B,8,none⟩ d).setCell ⟨B,9,none⟩ e).setCell ⟨B,10,none⟩ f).setCell ⟨B,11,none⟩ g).setCell ⟨B,12,none⟩ h).heap[B]? = some (.cells #[I,m,A,J,E,a,b,c,d,e,f,g,h,G,H] T (0,0))/\
  Fr2 (dm B) W (((((((((((W.setCell ⟨B,1,none⟩ m).setCell ⟨B,2,none⟩ A).setCell ⟨B,4,none⟩ E).setCell ⟨B,5,none⟩ a).setCell ⟨B,6,none⟩ b).setCell ⟨B,7,none⟩ c).setCell ⟨B,8,none⟩ d).setCell ⟨B,9,none⟩ e).setCell ⟨B,10,none⟩ f).setCell ⟨B,11,none⟩ g).setCell ⟨B,12,none⟩ h):=by
 have h1:(W.setCell ⟨B,1,none⟩ m).heap[B]? = some (.cells #[I,m,x2,J,x4,U,Y,Z,x8,x9,O,R,L,G,H] T (0,0)):=ab (i:=1) (u:=m) h0
 have h2:((W.setCell ⟨B,1,none⟩ m).setCell ⟨B,2,none⟩ A).heap[B]? = some (.cells #[I,m,A,J,x4,U,Y,Z,x8,x9,O,R,L,G,H] T (0,0)):=ab (i:=2) (u:=A) h1
 have h3:(((W.setCell ⟨B,1,none⟩ m).setCell ⟨B,2,none⟩ A).setCell ⟨B,4,none⟩ E).heap[B]? = some (.cells #[I,m,A,J,E,U,Y,Z,x8,x9,O,R,L,G,H] T (0,0)):=ab (i:=4) (u:=E) h2
 have h4:=TK h3 a b c d e f g h
 exact⟨h4.1,((((Fr2.setCell (Fr2.refl (dm B) W) (g:=B) (j:=1) (aK B) m).setCell (g:=B) (j:=2) (aK B) A).setCell (g:=B) (j:=4) (aK B) E).trans h4.2)⟩
theorem Lt {S:Nat->Prop} {s B n c:Nat} {T:TypeId} {w E:World} {p:Option Addr} {l:List (List Value)} (h:ag s T w B (.slice p n c) l) (J:Fr2 S w E) (L:∀k,(Value.slice p n c).ownBlock=some k->¬S k):ag s T E B (.slice p n c) l:=
 ⟨⟨h.1.1,h.1.2.imp id fun ⟨k,G,I,m,H,A,O⟩=>⟨k,G,I,m,H,(J.block k (hlt A) (L k (by rw [m];rfl))).trans A,O⟩⟩,h.2⟩
theorem Qo {F:Nat->Prop} {d:Dx} {w w3 WE:World} {b0 b1 ak j G Z R H I:Nat} {p2 z8 J:Option Addr} {yn L O:ByteArray} {s8 y8:Bool} {o8 p8:Int} (YF:w.grownBy WE none) (QM:Fr2 (fun m=>m=b0\/m=b1) w3 WE)
  (hO:ag 5 73 w3 ak (.slice p2 j G) ((d.ps.take j).map ld)) (hn:d.ps.length=j) (h0:w.heap.size=b0) (h1:b1=w.heap.size+1) (hB:w.heap.size+2=ak)
  (hq:EAt (fun m=>(F m/\m<w.heap.size)\/w.heap.size+2<=m) w3 d.body [.int .i64 o8,.string L,.string O,.bool s8,.slice z8 Z R,.bool y8,.slice J H I,.int .i64 p8]) (hy:(⟨d.res.nm.toArray⟩:ByteArray)=yn):
  GC F d w (.returned (.agg #[.bool d.pub,.string yn,.slice p2 j G,.int .i64 (d.res.base:Int),.slice none 0 0,.int .i64 o8,.string L,.string O,.bool s8,.slice z8 Z R,.bool y8,.slice J H I,.int .i64 p8,.int .i64 (d.res.ps:Int),.int .i64 d.res.bare])) WE:=by
 have Y:=Lt hO QM (fun m A B=>by have E:=(ag.at hO m A).1;rcases B with B | B<;>omega)
 have aq:=(EAt.same QM (fun m A B=>by
  rcases A with A | A
  ·have E:=A.2
   rcases B with B | B<;>omega
  ·rcases B with B | B<;>omega) hq).mono (F':=fun m=>F m\/w.heap.size<=m) (fun m A=>by
  rcases A with A | A
  ·exact .inl A.1
  ·exact .inr (by omega))
 rw [V7 (by omega)] at Y
 obtain⟨p5,c5,ap,ao,-⟩:=Y.is
 injection ap with e1 e2 e3
 subst e1
 refine⟨YF,_,rfl,p2,j,G,d.ps.map ld,none,0,0,[.int .i64 o8,.string L,.string O,.bool s8,.slice z8 Z R,.bool y8,.slice J H I,.int .i64 p8],?_,Hc _ _ _,aq,?_,ao,DE _ _ _,fun h9=>?_⟩
 ·subst hy;rfl
 ·rw [show(oG d).ps=d.ps.map oQ from rfl,length_map,hn]
 ·rcases Y.1.2 with ⟨E,U⟩ | ⟨m,au,ep,E,U,-⟩
  ·rw [length_map] at U
   exact absurd (map_eq_nil_iff.2 (fb U)) h9
  ·injection E with E h4 h5
   exact⟨_,E,.inr (by show w.heap.size<=m;omega)⟩
theorem OX {s B g n c:Nat} {T:TypeId} {w E:World} {p:Option Addr} {l:List (List Value)} (h:ag s T w B (.slice p n c) l) (J:Fr2 (fun k=>k=g) w E) (L:∀k,(Value.slice p n c).ownBlock=some k->k≠g):ag s T E B (.slice p n c) l:=
 ⟨⟨h.1.1,h.1.2.imp id fun ⟨k,G,I,m,H,A,O⟩=>⟨k,G,I,m,H,(J.block k (hlt A) (L k (by rw [m];rfl))).trans A,O⟩⟩,h.2⟩
theorem IZ {F:Nat->Prop} {w:World} {G:Option Addr} {I:List (List Value)} {H:List Fx} (U:GAt 5 w G I) (O:eZ F w H I) {j:Nat} {f:Fx} (Y:H[j]? = some f):
  ∃(z:Option Addr) (n c g m:Nat),G=some ⟨g,m,none⟩/\g<w.heap.size/\
   w.cell? ⟨g,m+j*5,none⟩=some (.string ⟨f.nm.toArray⟩)/\w.cell? ⟨g,m+j*5+1,none⟩=some (.int .i64 (f.base:Int))/\w.cell? ⟨g,m+j*5+2,none⟩=some (.slice z n c)/\w.cell? ⟨g,m+j*5+3,none⟩=some (.int .i64 (f.ps:Int))/\w.cell? ⟨g,m+j*5+4,none⟩=some (.int .i64 f.bare):=by
 obtain⟨Z,B,R⟩:=FY O Y
 obtain⟨g,m,rfl,J,A⟩:=U.resolve_left (fun L=>by rw [L] at B;simp at B)
 obtain⟨z,n,c,rfl⟩:=R.form
 have A:=A j _ B
 have E:=A 0 _ rfl
 rw [Nat.add_zero] at E
 exact⟨z,n,c,g,m,rfl,J,E,A 1 _ rfl,A 2 _ rfl,A 3 _ rfl,A 4 _ rfl⟩
theorem S7 (F:Nat->Prop) (d:Dx) (q:List Value) (w:World) (hx:DAt F w d q) (fG:cY d.body<=1000000) (Cy:iL d.body) (a0:d.res.nm.length<=1000000) (qr:d.ps.length<=1000000) (a1:∀f∈d.ps,f.nm.length<=1000000):
  Calls Tryz.prog 33 #[.agg q.toArray] w (GC F d w):=by
 obtain⟨pp,np,cp,eJ,pc,nc,cc,qb,rfl,hR,hE,tK,dz,aJ,-⟩:=hx
 obtain⟨o9,p9,a9,b9,s9,y9,z9,uP,n9,c9,uc,ut,rfl⟩:=hE.form
 subst tK
 have HE:=zh hE;have xC:=zh dz;have BN:=zh aJ;have a3:=zh a1
 have CT:=zh (fun (ao:List UInt8) (W:World) (h:ao.length<=1000000)=>n6 ⟨ao.toArray⟩ W (by rw [<-aQ];show ao.length<=_;omega))
 have UO:=zh (fun W (h:w.grownBy W none) (hs:w.heap.size+2<=W.heap.size)=>(aaZ (fun m=>F m/\m<w.heap.size) d.body _ W (hE.bound.kept h) fG Cy).mono (R':=fun H w'=>W.grownBy w' none/\∃q,H=.returned (.agg q.toArray)/\EAt (fun m=>(F m/\m<w.heap.size)\/w.heap.size+2<=m) w' d.body q) (by
  rintro H w' ⟨h1,q,h2,h3⟩
  exact⟨h1,q,h2,h3.mono (fun m G=>G.imp id (fun h=>Nat.le_trans hs h))⟩))
 have xx:=zh a0
 obtain⟨I,hn⟩:=zx d.ps.length
 have HN:=zh hn
 simp only [cons_append,nil_append]
 unfold aD
 obtain⟨yn,vt⟩:∃ap:ByteArray,(⟨d.res.nm.toArray⟩:ByteArray)=ap:=⟨_,rfl⟩
 have Xg:=zh vt
 rw [vt]
 have ay:=zh (fun W=>CT d.res.nm W xx)
 rw [vt] at ay
 rw [hn] at qr ⊢
 clear hR hE dz aJ fG Cy a0 hn a1 vt
 go_enter Tryz.func33,Tryz.ntmps33
 go_wp2_with fail
 obtain⟨W,E,b1,hW,e0,e1,cS,dq,dp,lu⟩:=two w (.cells #[.bool d.pub,.string yn,.slice pp I cp,.int .i64 (d.res.base:Int),.slice pc nc cc,.int .i64 o9,.string a9,.string b9,.bool s9,.slice z9 n9 c9,.bool y9,.slice uP uc ut,.int .i64 p9,.int .i64 (d.res.ps:Int),.int .i64 d.res.bare] 62) (.cells #[.bool false,.string ⟨#[]⟩,.slice none 0 0,.int .i64 0,.slice none 0 0,.int .i64 0,.string ⟨#[]⟩,.string ⟨#[]⟩,.bool false,.slice none 0 0,.bool false,.slice none 0 0,.int .i64 0,.int .i64 0,.int .i64 0] 62)
 have ky:W.heap.size=b1+1:=by rw [hW];simp;omega
 have bB:=zh cS;have bS:=zh dq;have bm:=zh dp;have gj:=zh e0
 try rw [<-hW]
 try rw [e1]
 try rw [e0]
 obtain⟨B,hB⟩:=zx W.heap.size
 have Rx:=zh hB
 have dP:Hid (E<B/\b1<B/\w.heap.size<=B):=zh (by omega)
 have bP:Hid (w.heap.size+2=B/\b1=w.heap.size+1):=zh (by omega)
 clear cS dq dp e0 e1 hW ky hB
 go_loopg [3,9] I (fun gk av iv wr=>∃A:Nat,A<=I/\iv=.int .i64 (A:Int)/\I - A<=gk/\gk<=I/\Hid (ag 5 73 wr B av ((d.ps.take A).map ld))/\Hid (Fr2 (fun m=>B<=m) W wr))
 case atStart=>exact⟨0,zero_le _,rfl,by omega,Nat.le_refl _,zh (ag.nil _ _ _ _),zh (Fr2.refl _ _)⟩
 case round=>
  obtain⟨A,hj,rfl,Qc,Zn,HO,HF⟩:=hrel
  have U:Hid (w.grownBy wr none):=zh (Fr2.after bm HF (fun m G=>Nat.le_trans dP.2.2 G))
  have bV:=zh (HF.keep bB (by have:=dP.out;omega));have iN:=zh (HF.keep bS (by have:=dP.out;omega))
  have nz:Hid (B<=wr.heap.size):=zh (by have:=HF.size;have:=Rx.out;omega)
  by_cases aX:A<I
  ·obtain⟨f,hf⟩:∃f,d.ps[A]? = some f:=⟨d.ps[A]'(by rw [HN.out];exact aX),QS _⟩
   obtain⟨a6,zq,zc,au,bi,rfl,bN,c0,c1,c2,c3,c4⟩:=IZ xC BN hf
   have jw:Hid (d.ps.take (A+1)=d.ps.take A++[f]):=zh (by rw [take_add_one,hf];rfl)
   have c0:=U.cell c0 (by simp);have c1:=U.cell c1 (by simp);have c2:=U.cell c2 (by simp);have c3:=U.cell c3 (by simp);have c4:=U.cell c4 (by simp)
   have bN:au<wr.heap.size:=zn bN U.size
   have ax:=zh (fun W=>CT f.nm W (a3 f (gn hf)))
   obtain⟨Z,nZ⟩:∃ap:ByteArray,(⟨f.nm.toArray⟩:ByteArray)=ap:=⟨_,rfl⟩
   have Fc:=zh nZ
   rw [nZ] at c0 ax
   obtain⟨p2,J,rfl,-⟩:=HO.is
   obtain⟨LS,kZ⟩:=zx ((d.ps.take A).map ld)
   have fc:=zh kZ
   have hO:=HO.out
   rw [kZ] at hO ⊢
   obtain⟨n2,ak⟩:=zx LS.length
   have mz:=zh ak
   have qP:Hid (n2<=1000000):=zh (by rw [<-ak,<-kZ,length_map,length_take,HN.out];omega)
   rw [ak] at hO ⊢
   have Y:=zh hO
   have i1:(0:Int)<=(A:Int):=by omega
   have i2:(A:Int)<(I:Int):=by omega
   have i3:decide (A<I)=true:=zd aX
   have i4:decide ((A:Int)<(I:Int))=true:=zd i2
   clear hf kZ hO ak HO nZ
   go_wp2_with fail
   obtain⟨WX,O,Ow,e5,yr,oT⟩:=vw wr (.cells #[.string Z,.int .i64 (f.base:Int),.slice a6 zq zc,.int .i64 (f.ps:Int),.int .i64 f.bare] 73)
   have uz:=zh yr;have aO:=zh oT;have Ef:=zh e5
   clear yr oT
   try rw [<-Ow]
   try rw [e5]
   clear e5 Ow
   refine(ax.out WX).mono ?_
   rintro H L ⟨rfl,bL⟩
   have R:=zh (aa aO bL)
   have Xm:=zh (bx bL uz)
   obtain⟨r0,r1,r2,r3,r4,r5⟩:=bC Xm
   have rX:O<L.heap.size:=hlt Xm
   clear bL c0 c1 c2 c3 c4
   have bc:au≠O:=by have:=Ef.out;omega
   obtain⟨W3,xj⟩:=zx ((L.setCell ⟨O,0,none⟩ (.string Z)).setCell ⟨O,2,none⟩ (.slice none 0 0))
   have qo:Fr2 (fun m=>m=O) L W3:=by rw [<-xj];exact(js L O 0 _).trans (js _ O 2 _)
   have yJ:W3.heap[O]? = some (.cells #[.string Z,.int .i64 (f.base:Int),.slice none 0 0,.int .i64 (f.ps:Int),.int .i64 f.bare] 73 (0,0)):=by
    rw [<-xj];exact ab (i:=2) (u:=.slice none 0 0) (ab (i:=0) (u:=.string Z) Xm)
   have Vn:ag 5 73 W3 B (.slice p2 n2 J) LS:=OX (Y.kept R) qo (fun m G=>by have h1:=(ag.at Y m G).2;have:=Ef.out;omega)
   have YW:=zh xj;have oM:=zh qo;have ie:=zh yJ;have aq:=zh Vn
   have a4:Hid (B<=W3.heap.size):=zh (Nat.le_trans nz (Nat.le_trans R.size qo.size))
   clear xj qo yJ Vn Y
   go_wp2_with (at_builtin;go_loud (refine qz (s:=5) (t:=54) (T:=73) (by decide) Tryz.underlying54 Ht rfl (by omega) rfl _ _ rfl B LS [.string Z,.int .i64 (f.base:Int),.slice none 0 0,.int .i64 (f.ps:Int),.int .i64 f.bare] rfl (fun u hu=>by simp at hu;rcases hu with rfl | rfl | rfl | rfl | rfl<;>rfl) (.slice p2 n2 J) rfl (by rw [YW.out];exact aq) L.heap.size (by simp) rfl (by rw [mz.out];exact qP) (by rw [YW.out];exact a4) _ rfl ?_))
   intro g9 a5 w9 fM bH
   rw [YW.out] at bH
   have Cy:=qn W3 (.cells #[.string Z,.int .i64 (f.base:Int),.slice none 0 0,.int .i64 (f.ps:Int),.int .i64 f.bare] 73) none
   have ua:Fr2 (fun i=>(Value.slice p2 n2 J).ownBlock=some i) (W3.alloc (.cells #[.string Z,.int .i64 (f.base:Int),.slice none 0 0,.int .i64 (f.ps:Int),.int .i64 f.bare] 73)) w9:=Fr2.of bH (fun i H=>H)
   have P1:Hid (Fr2 (fun m=>B<=m) W w9):=zh ((HF.trans (Fr2.none R)).trans (((oM.trans (Fr2.none Cy)).mono (fun m G=>by have H:m=O:=G;have:=Ef.out;have:=nz.out;show B<=m;omega)).trans (ua.mono (fun m G=>(ag.at aq m G).1))))
   have ji:Hid (ag 5 73 w9 B (.slice (some ⟨g9,0,none⟩) (n2+1) a5) ((d.ps.take (A+1)).map ld)):=zh (by
    have h9:=fM
    rw [mz.out] at h9
    rw [jw.out,map_append,fc.out]
    have H : [f].map ld = [[.string Z,.int .i64 (f.base:Int),.slice none 0 0,.int .i64 (f.ps:Int),.int .i64 f.bare]]:=by
     simp only [map_cons,map_nil,ld,aD,Fc.out]
    rw [H];exact h9)
   rw [mz.out]
   have Wg:I<=1000000:=qr
   have bd:IntKind.i64.wrap ((A:Int)+1)=((A+1:Nat):Int):=by rw [IntWalk.i64_in _ (by omega)];omega
   clear Cy ua fM bH r0 r1 r2 r3 r4 r5 rX
   go_wp2_with fail
   go_roundg (I - (A+1))
   case measure=>omega
   case rel=>exact⟨A+1,by omega,by first | rfl | go_num,Nat.le_refl _,by omega,ji,P1⟩
  ·obtain rfl:A=I:=by omega
   obtain⟨p2,J,rfl,-⟩:=HO.is
   have dS:((d.ps.take A).map ld).length=A:=by rw [length_map,length_take,HN.out];omega
   have Y:=HO.out
   rw [dS] at Y ⊢
   have Y:=zh Y
   obtain⟨r0,r1,r2,r3,r4,r5,r6,r7,r8,r9,wM,vG,ve,wE,yh,FJ⟩:=br bV
   have dZ:E<wr.heap.size:=hlt bV
   have YM:∀m,wr.frozen? ⟨E,m,none⟩=false:=fun m=>kN bV m
   clear dS
   go_wp2_with fail
   go_region_law (first
    | (go_simp;go_at_call 32;refine(ay.out _).mono ?_;rintro H L ⟨rfl,bL⟩;have R:=zh (aa (show wr.grownBy _ none from(by repeat (with_reducible first | exact ad _ _ | refine aC ?_ | refine am ?_ _))) bL);have pD:=zh (bx R.out bV.out);obtain⟨r0,r1,r2,r3,r4,r5,r6,r7,r8,r9,wM,vG,ve,wE,yh,FJ⟩:=br pD.out;have dZ:E<L.heap.size:=hlt pD.out;clear bL)
    | (go_simp;go_at_call 63;refine(UO.out _ (aa U.out (aa R.out (show L.grownBy _ none from(by repeat (with_reducible first | exact ad _ _ | refine aC ?_ | refine am ?_ _))))) (show w.heap.size+2<=L.heap.size by have h1:=R.out.size;have h2:=nz.out;have h3:=bP.out.1;omega)).mono ?_;rintro H w3 ⟨iU,q3,rfl,Pa⟩;obtain⟨o8,p8,a8,b8,s8,y8,z8,Qd,n8,c8,PM,PV,rfl⟩:=Pa.form;have Y2:=zh Pa;have gA:=zh (aa R.out (aa (show L.grownBy _ none from(by repeat (with_reducible first | exact ad _ _ | refine aC ?_ | refine am ?_ _))) iU));have VM:=zh (bx gA.out bV.out);obtain⟨r0,r1,r2,r3,r4,r5,r6,r7,r8,r9,wM,vG,ve,wE,yh,FJ⟩:=br VM.out;have dZ:E<w3.heap.size:=hlt VM.out;clear iU Pa))
   all_goals
    obtain⟨DM,qL⟩:=D0 VM (.string yn) (.slice p2 A J) (.slice none 0 0) (.int .i64 o8) (.string a8) (.string b8) (.bool s8) (.slice z8 n8 c8) (.bool y8) (.slice Qd PM PV) (.int .i64 p8)
    obtain⟨WS,TF⟩:=zx ((((((((((((w3.setCell ⟨E,1,none⟩ (.string yn)).setCell ⟨E,2,none⟩ (.slice p2 A J)).setCell ⟨E,4,none⟩ (.slice none 0 0)).setCell ⟨E,5,none⟩ (.int .i64 o8)).setCell ⟨E,6,none⟩ (.string a8)).setCell ⟨E,7,none⟩ (.string b8)).setCell ⟨E,8,none⟩ (.bool s8)).setCell ⟨E,9,none⟩ (.slice z8 n8 c8)).setCell ⟨E,10,none⟩ (.bool y8)).setCell ⟨E,11,none⟩ (.slice Qd PM PV)).setCell ⟨E,12,none⟩ (.int .i64 p8)))
    rw [TF] at DM qL ⊢
    have oL:=qL.keep (bx gA iN) (fun H=>by have H:b1=E:=H;omega)
    have a2:=zh qL;have qg:=zh oL
    have pP:=zh (wP (cs:=[.bool d.pub,.string yn,.slice p2 A J,.int .i64 (d.res.base:Int),.slice none 0 0,.int .i64 o8,.string a8,.string b8,.bool s8,.slice z8 n8 c8,.bool y8,.slice Qd PM PV,.int .i64 p8,.int .i64 (d.res.ps:Int),.int .i64 d.res.bare]) DM)
    clear TF r0 r1 r2 r3 r4 r5 r6 r7 r8 r9 wM vG ve wE yh FJ
    obtain⟨g0,g1,g2,g3,g4,g5,g6,g7,g8,g9,Y1,YZ,Zg,YN,Zh,a7⟩:=br oL
    have eg:b1<WS.heap.size:=hlt oL
    clear qL DM oL
    go_wp2_with (refine wpList_load_mid rfl 62 _ rfl E 0 rfl [.bool d.pub,.string yn,.slice p2 A J,.int .i64 (d.res.base:Int),.slice none 0 0,.int .i64 o8,.string a8,.string b8,.bool s8,.slice z8 n8 c8,.bool y8,.slice Qd PM PV,.int .i64 p8,.int .i64 (d.res.ps:Int),.int .i64 d.res.bare] _ pP Tryz.underlying62 rfl GO ?_)
    obtain⟨hp,aL⟩:=EG qg (.bool d.pub) (.string yn) (.slice p2 A J) (.int .i64 (d.res.base:Int)) (.slice none 0 0) (.int .i64 o8) (.string a8) (.string b8) (.bool s8) (.slice z8 n8 c8) (.bool y8) (.slice Qd PM PV) (.int .i64 p8) (.int .i64 (d.res.ps:Int)) (.int .i64 d.res.bare)
    obtain⟨r0,r1,r2,r3,r4,r5,r6,r7,r8,r9,wM,vG,ve,wE,yh,-⟩:=br hp
    have QM:Fr2 (fun m=>m=E\/m=b1) w3 _:=(a2.mono (fun m G=>.inl G)).trans (aL.mono (fun m G=>.inr G))
    have YF:=Fr2.after (aa U gA) QM (fun m G=>by have:=gj.out;rcases G with rfl | rfl<;>omega)
    have hP:=Qo (F:=F) (d:=d) YF QM (Y.kept gA) HN gj bP.2 bP.1 Y2 Xg
    have HP:=zh hP
    clear hP YF QM aL hp
    refine bodyPost_ret (v:=.agg #[.bool d.pub,.string yn,.slice p2 A J,.int .i64 (d.res.base:Int),.slice none 0 0,.int .i64 o8,.string a8,.string b8,.bool s8,.slice z8 n8 c8,.bool y8,.slice Qd PM PV,.int .i64 p8,.int .i64 (d.res.ps:Int),.int .i64 d.res.bare]) (by simp [results,Tryz.results33,go_sem,r0,r1,r2,r3,r4,r5,r6,r7,r8,r9,wM,vG,ve,wE,yh]) rfl HP
end Go.Proofs.YtpkipghjohomcaaGreatDoor
