/- Lemmas. -/
import Derived.Test.YtpkipghjohomcaaGreatDoorP43
set_option linter.unusedVariables false
set_option linter.unusedSimpArgs false
set_option maxHeartbeats 16000000
set_option maxRecDepth 100000
namespace Go.Proofs.YtpkipghjohomcaaGreatDoor
open Go.RowKit List Nat Go.World
def abY (c:Nat) (w E:World):Prop:=∀A B m,w.heap[A]? = some (.cells B m (0,0))->m≠3->A≠c->E.heap[A]? = some (.cells B m (0,0))
def xK (c:Nat) (A:List Int) (w:World):Prop:=∃m,w.heap[c]? = some (.cells #[m] 52 (0,0))/\ag 1 3 w (c+1) m (one (ar A))
theorem xK.gb {c:Nat} {m:List Int} {w B:World} (h:xK c m w) (A:w.grownBy B none):xK c m B:=by
 obtain⟨H,E,G⟩:=h
 exact⟨H,bx A E,G.kept A⟩
def O9 (c:Nat) (A:List Int) (w:World) (e:Ending) (m:World):Prop:=e=.returned (.tuple #[])/\xK c A m/\Below c w m/\abY c w m
theorem A9 {w:World} {r:Nat} {a:Value} {T:TypeId} (m:w.heap[r]? = some (.cells #[a] T (0,0))):w.cell? ⟨r,0,none⟩=some a/\∀o,w.frozen? ⟨r,o,none⟩=false:=
 ⟨by rw [hZ w r 0 _ T (0,0) m];rfl,fun o=>by simp [World.frozen?,m]⟩
theorem agV:(52:TypeId)≠3:=by decide
theorem agA:(62:TypeId)≠3:=by decide
theorem M4 (c:Nat) (A:List Int) (z:Int) (w:World) (hp:xK c A w) (hl:A.length<=100000):
  Calls Tryz.prog 34 #[.int .i64 z,.pointer (some ⟨c,0,none⟩)] w (O9 c (A++flB z) w):=by
 have HP:=zh hp
 obtain⟨Z,G,ho⟩:=hp
 obtain⟨c0,c1⟩:=A9 G
 have yv:c<w.heap.size:=hlt G
 have HC:=zh G;have E:=zh ho
 have Y5:Hid ((one (ar A)).length<=1000000):=zh (by rw [dM,bh];omega)
 have CT:Hid (c+1<=w.heap.size):=zh yv
 clear G ho hl
 go_enter Tryz.func34,Tryz.ntmps34
 by_cases H:z = -1
 ·subst H
  go_wp2_with fail
  refine bodyPost_end (results_none rfl _ _ _) rfl ?_
  exact⟨rfl,by rw [TH,append_nil];exact HP.out,Below.refl c w,fun _ _ _ h _ _=>h⟩
 ·have ak:Hid (flB z = [z]):=zh (TE H)
  have e1:(z != -1)=true:=by simp [H]
  have e2:(!(z == -1))=true:=by simp [H]
  go_wp2_with (at_builtin;go_loud (refine gm (s:=1) (t:=52) (T:=3) (by decide) Tryz.underlying52 zm rfl (by omega) rfl _ _ rfl (c+1) (one (ar A)) [.int .i64 z] rfl (by simp [Value.oneCell']) Z rfl (E.kept (qn w _ none)) w.heap.size _ rfl (YK w _) rfl Y5 (Nat.le_trans CT (qn w _ none).size) (w.heap.size+1) (by simp) ?_))
  intro U O I fM bH el
  have R:=qn w (.cells #[.int .i64 z] 3) none
  have Y:=Fr2.of (S:=fun B=>Z.ownBlock=some B) bH (fun _ m=>m)
  have J:=zh (Y.keep (bx R HC) (EY E HC agV))
  have KH:Hid (Fr2 (fun B=>Z.ownBlock=some B) w I):=zh ((Fr2.none R).trans Y)
  have ji:Hid (ag 1 3 I (c+1) (.slice (some ⟨U,0,none⟩) ((one (ar A)).length+1) O) (one (ar (A++flB z)))):=zh (by rw [ak.out,fs,jY];exact fM)
  obtain⟨c0,c1⟩:=A9 J
  have yv:c<I.heap.size:=hlt J
  clear R Y fM bH el
  go_wp2_with fail
  refine bodyPost_end (results_none rfl _ _ _) rfl ?_
  have L:=Fr2.setCell (Fr2.refl (dm c) I) (g:=c) (j:=0) (aK c) (.slice (some ⟨U,0,none⟩) ((one (ar A)).length+1) O)
  refine⟨rfl,⟨_,ab (i:=0) (u:=.slice (some ⟨U,0,none⟩) ((one (ar A)).length+1) O) J,ji.keptS L (fun g hg m=>by have m:g=c:=m;omega)⟩,?_,fun g ep T hh hT dX=>?_⟩
  ·exact Below.trans2 (KH.below (by have:=CT.out;omega) (fun B m=>by have:=(ag.at E B m).1;omega)) (L.below (by omega) (fun B m=>by have m:B=c:=m;omega))
  ·exact L.keep (KH.keep hh (EY E hh hT)) (fun m=>dX m)
theorem yQ {F:Nat->Prop} {w:World} {pd:Option Addr} {ak:List (List Value)} {ds:List Dx} (hg:GAt 15 w pd ak) (eh:dG F w ds ak) {j:Nat} {d:Dx} (hk:ds[j]? = some d):
  ∃(yn:ByteArray) (O:Option Addr) (cp:Nat) (G:List (List Value)) (pc:Option Addr) (nc cc:Nat) (J:Int) (A B:ByteArray) (R:Bool) (z9:Option Addr) (I E:Nat) (y9:Bool) (U:Option Addr) (Y Z:Nat) (L:Int) (g m:Nat),pd=some ⟨g,m,none⟩/\g<w.heap.size/\GAt 5 w O G/\eZ F w d.ps G/\
   EAt F w d.body [.int .i64 J,.string A,.string B,.bool R,.slice z9 I E,.bool y9,.slice U Y Z,.int .i64 L]/\
   w.cell? ⟨g,m+j*15,none⟩=some (.bool d.pub)/\w.rangeAt g (m+j*15) [.bool d.pub,.string yn,.slice O d.ps.length cp,.int .i64 (d.res.base:Int),.slice pc nc cc,.int .i64 J,.string A,.string B,.bool R,.slice z9 I E,.bool y9,.slice U Y Z,.int .i64 L,.int .i64 (d.res.ps:Int),.int .i64 d.res.bare]:=by
 obtain⟨au,hq,he⟩:=AG eh hk
 obtain⟨g,m,rfl,bN,H⟩:=hg.resolve_left (fun ao=>by rw [ao] at hq;simp at hq)
 obtain⟨O,np,cp,G,pc,nc,cc,qb,rfl,-,hE,rfl,h5,h6,-⟩:=he
 obtain⟨J,L,A,B,R,y9,z9,U,I,E,Y,Z,rfl⟩:=hE.form
 have H:=H j _ hq
 have c0:=H 0 _ rfl
 rw [Nat.add_zero] at c0
 exact⟨_,O,cp,G,pc,nc,cc,J,A,B,R,z9,I,E,y9,U,Y,Z,L,g,m,rfl,bN,h5,h6,hE,c0,fun ap aq hv=>H ap aq hv⟩
theorem Ct:(Tryz.prog.info? 62).map (·.size)=some 15:=by kernel_rfl
theorem Vu (F:Nat->Prop) (P:Px) (q:List Value) (w:World) (J:gq F w P q) (hb:Gi P) (hn:PBd P):
  Calls Tryz.prog 13 #[.agg q.toArray] w (iV (MD P) w):=by
 replace J:=J.bound
 obtain⟨pi,ci,pd,cd,fH,rfl,-,fe,rP,-,PL⟩:=J
 have jI:=zh hn;have a5:=zh hb
 have bM:=zh (show GAt 15 w pd fH/\dG (fun B=>F B/\B<w.heap.size) w P.defs fH from⟨fe,rP⟩)
 obtain⟨bi,Hn⟩:=zx P.imps.length
 obtain⟨m,hm⟩:=zx P.defs.length
 have HM:=zh hm
 have hd:m<=10000:=by rw [<-hm];exact hn.fewd
 obtain⟨a1,hL⟩:=zx (MD P)
 have HL:Hid (P.defs.flatMap gf=a1):=zh hL
 rw [Hn,hm,hL]
 clear fe rP PL hb hn Hn hm hL
 go_enter Tryz.func13,Tryz.ntmps13
 go_wp2_with fail
 obtain⟨W,b0,G,hW,Y,e1,cS,dq,dp,lu⟩:=two w (.cells #[.slice pi bi ci,.slice pd m cd] 35) (.cells #[.slice none 0 0] 52)
 have bB:=zh cS;have bm:=zh dp
 have aX:Hid (xK G ((P.defs.take 0).flatMap gf) W):=zh ⟨_,dq,by rw [take_zero,flatMap_nil];exact ag.nil _ _ _ _⟩
 have dP:Hid (b0<G/\w.heap.size=b0):=zh ⟨lu,Y⟩
 try rw [<-hW]
 try rw [e1]
 try rw [Y]
 clear cS dq dp Y e1 hW lu
 have bq:(0:Nat)<=m:=zero_le _
 go_loopw [13] (fun Z wr=>∃E:Nat,E<=m/\Z=.int .i64 (E:Int)/\Hid (xK G ((P.defs.take E).flatMap gf) wr)/\Hid (Below G W wr)) (fun Z _=>m - (intOf Z).toNat)
 case atStart=>exact⟨0,zero_le _,rfl,aX,zh (Below.refl _ _)⟩
 case round=>
  clear aX
  obtain⟨E,hj,rfl,R,nz⟩:=hrel
  have I:Hid (w.grownBy wr none):=zh (bj (Below.trans2 (Below.gb bm (Nat.le_refl _)) (Below.mono nz (by have:=dP.out;omega))))
  have ik:Hid (G+1<=wr.heap.size):=zh (by obtain⟨ax,hv,-⟩:=R.out;exact hlt hv)
  by_cases ao:E<m
  ·obtain⟨A,J⟩:∃aJ,P.defs[E]? = some aJ:=⟨P.defs[E]'(by rw [HM.out];exact ao),QS _⟩
   obtain⟨yn,pp,cp,eJ,pc,nc,cc,o9,a9,b9,s9,z9,n9,c9,y9,uP,uc,ut,p9,a2,a4,rfl,U,NQ,qr,-,L,yY⟩:=yQ bM.1 bM.2 J
   have L:=I.cell L (by simp)
   have U:=zn U I.size
   have cu:Hid ((P.defs.take (E+1)).flatMap gf=(P.defs.take E).flatMap gf++gf A):=zh (mj gf J)
   have yM:=jI.defs A (gn J)
   have oA:Hid (((P.defs.take E).flatMap gf++gf A).length<=100000):=zh (by
    have h1:=mh gf P.defs (E+1)
    have h2:=a5.len
    rw [cu.out] at h1
    omega)
   obtain⟨H,tK⟩:=zx A.ps.length
   have Lc:=zh tK
   have Wi:H<=10000:=by rw [<-tK];exact yM.few
   rw [tK] at yY
   have uN:=zh NQ;have BN:=zh qr
   obtain⟨rb,WK⟩:=zx A.res.bare
   have a7:Hid ((dt A)[H]? = some rb):=zh (by rw [<-tK,<-WK];exact z6 A)
   rw [WK] at yY
   have pP:Hid (wr.rangeAt a2 (a4+E*15) [.bool A.pub,.string yn,.slice pp H cp,.int .i64 (A.res.base:Int),.slice pc nc cc,.int .i64 o9,.string a9,.string b9,.bool s9,.slice z9 n9 c9,.bool y9,.slice uP uc ut,.int .i64 p9,.int .i64 (A.res.ps:Int),.int .i64 rb]):=zh (fun bd ax h=>I.cell (yY bd ax h) (by simp))
   have i3:decide (E<m)=true:=zd ao
   have i4:=zE ((E:Int)<(m:Int))
   have i2:(E:Int)<(m:Int):=by omega
   clear J yM tK NQ qr yY WK
   go_upto_region 5 with fail
   go_cut [6] (fun t6 wx=>Hid (∃O,t6=.pointer (some ⟨O,0,none⟩)/\wx.heap[O]? = some (.cells #[.bool A.pub,.string yn,.slice pp H cp,.int .i64 (A.res.base:Int),.slice pc nc cc,.int .i64 o9,.string a9,.string b9,.bool s9,.slice z9 n9 c9,.bool y9,.slice uP uc ut,.int .i64 p9,.int .i64 (A.res.ps:Int),.int .i64 rb] 62 (0,0))/\wr.heap.size<=O/\wr.grownBy wx none))
   case first=>
    go_wp2_with (refine wpList_load_mid rfl 62 _ rfl a2 (a4+E*15) rfl [.bool A.pub,.string yn,.slice pp H cp,.int .i64 (A.res.base:Int),.slice pc nc cc,.int .i64 o9,.string a9,.string b9,.bool s9,.slice z9 n9 c9,.bool y9,.slice uP uc ut,.int .i64 p9,.int .i64 (A.res.ps:Int),.int .i64 rb] _ pP Tryz.underlying62 rfl Ct ?_)
    go_meet
    exact zh ⟨_,rfl,YK wr _,Nat.le_refl _,qn wr _ none⟩
   case rest=>
    obtain⟨O,rfl,Gb,P9,ej⟩:=hcut.out
    have Eu:=zh Gb
    have a0:=zh (R.gb ej)
    have a6:Hid (Below G W wc):=zh (Below.trans2 nz (Below.gb ej (by have:=ik.out;omega)))
    have aL:Hid (G<O):=zh (by have:=ik.out;omega)
    obtain⟨ap,hA⟩:=zx ((P.defs.take E).flatMap gf)
    rw [hA] at a0 cu oA
    have bs:E<m:=ao
    clear hcut Gb P9 ej L i2 i3 i4 pP U hA R nz I ik ao
    obtain⟨Y,e1,e2,e3,e4,e5,e6,e7,e8,e9,qC,rG,qR,rh,rS,PO⟩:=br Eu
    have Vm:O<wc.heap.size:=hlt Eu
    go_wp2_with fail
    clear Y e1 e2 e3 e4 e5 e6 e7 e8 e9 qC rG qR rh rS PO Vm
    go_loopw [20] (fun Z ay=>∃B:Nat,B<=H/\Z=.int .i64 (B:Int)/\Hid (xK G (ap++((dt A).take B).flatMap flB) ay)/\Hid (Below G W ay)/\Hid (ay.heap[O]? = some (.cells #[.bool A.pub,.string yn,.slice pp H cp,.int .i64 (A.res.base:Int),.slice pc nc cc,.int .i64 o9,.string a9,.string b9,.bool s9,.slice z9 n9 c9,.bool y9,.slice uP uc ut,.int .i64 p9,.int .i64 (A.res.ps:Int),.int .i64 rb] 62 (0,0)))) (fun Z _=>H - (intOf Z).toNat)
    case atStart=>exact⟨0,zero_le _,rfl,zh (by rw [take_zero,flatMap_nil,append_nil];exact a0),a6,Eu⟩
    case round=>
     obtain⟨B,hk,rfl,R,nz,QE⟩:=hrel
     have I:Hid (w.grownBy wr none):=zh (bj (Below.trans2 (Below.gb bm (Nat.le_refl _)) (Below.mono nz (by have:=dP.out;omega))))
     have ik:Hid (G<=wr.heap.size):=zh (by have:=hlt QE.out;have:=aL.out;omega)
     have eD:B<(dt A).length:=by rw [lD,Lc.out];omega
     obtain⟨ak,hz⟩:∃ak,(dt A)[B]? = some ak:=⟨(dt A)[B],QS eD⟩
     have HZ:=zh hz
     have aO:Hid (((dt A).take (B+1)).flatMap flB=((dt A).take B).flatMap flB++flB ak):=zh (mj flB hz)
     have Y5:Hid ((ap++((dt A).take B).flatMap flB).length<=100000):=zh (by
      have h1:=mh flB (dt A) B
      have h2:=oA.out
      have h3:gf A=(dt A).flatMap flB:=rfl
      rw [h3,Q2] at h2
      rw [Q2]
      omega)
     clear hz eD
     by_cases a3:B<H
     ·obtain⟨av,J⟩:∃aJ,A.ps[B]? = some aJ:=⟨A.ps[B]'(by rw [Lc.out];exact a3),QS _⟩
      obtain⟨zz,cz,g5,Ym,cr,rfl,U,-,-,-,L,c1,c2,c3,c4⟩:=pK uN BN J
      have To:av.bare=ak:=Option.some.inj ((zL J).symm.trans HZ)
      rw [To] at c4
      have L:=I.cell L (by simp);have c1:=I.cell c1 (by simp);have c2:=I.cell c2 (by simp);have c3:=I.cell c3 (by simp);have c4:=I.cell c4 (by simp)
      have U:=zn U I.size
      obtain⟨yf,nZ⟩:∃bn:ByteArray,(⟨av.nm.toArray⟩:ByteArray)=bn:=⟨_,rfl⟩
      obtain⟨TG,sq⟩:=zx av.cl.length
      rw [nZ] at L
      rw [sq] at c2
      have i5:decide (B<H)=true:=zd a3
      have i6:=zE ((B:Int)<(H:Int))
      have i7:(B:Int)<(H:Int):=by omega
      clear J To nZ sq
      go_wp2_with fail
      refine(M4 G _ ak _ (R.gb (qn wr _ none)) Y5).mono ?_
      rintro bc w9 ⟨rfl,KM,iJ,aq⟩
      have au:Hid (xK G (ap++((dt A).take (B+1)).flatMap flB) w9):=zh (by rw [aO.out,<-append_assoc];exact KM)
      have fW:Hid (Below G W w9):=zh (Below.trans2 nz (Below.trans2 (Below.gb (qn wr _ none) ik) iJ))
      have a8:=zh (aq _ _ _ (bx (qn wr _ none) QE) agA (by have:=aL.out;omega))
      clear KM iJ aq L c1 c2 c3 c4 i5 i6 U
      go_wp2_with fail
      go_roundw
      case rel=>exact⟨B+1,by omega,by go_num,au,fW,a8⟩
      case measure=>(simp [intOf]<;>omega)
     ·obtain rfl:B=H:=by omega
      have To:rb=ak:=Option.some.inj (a7.symm.trans HZ)
      subst To
      obtain⟨Y,e1,e2,e3,e4,e5,e6,e7,e8,e9,qC,rG,qR,rh,rS,PO⟩:=br QE
      have Vm:O<wr.heap.size:=hlt QE
      have i5:=zX (B<B)
      have i6:=zX ((B:Int)<(B:Int))
      go_wp2_with fail
      refine(M4 G _ rb _ R Y5).mono ?_
      rintro bc w9 ⟨rfl,KM,iJ,aq⟩
      have au:Hid (xK G ((P.defs.take (E+1)).flatMap gf) w9):=zh (by
       have h:=aO.out
       rw [V7 (by rw [lD,Lc.out];exact Nat.le_refl _)] at h
       rw [cu.out,show gf A=_ from h,<-append_assoc];exact KM)
      have fW:Hid (Below G W w9):=zh (Below.trans2 nz iJ)
      clear KM iJ aq Y e1 e2 e3 e4 e5 e6 e7 e8 e9 qC rG qR rh rS PO Vm i5 i6
      go_wp2_with fail
      go_roundw
      case rel=>exact⟨E+1,by omega,by go_num,au,fW⟩
      case measure=>(simp [intOf]<;>omega)
  ·obtain rfl:E=m:=by omega
   have qU:(P.defs.take E).flatMap gf=a1:=by rw [<-HL.out,V7 (by rw [HM.out];exact Nat.le_refl _)]
   obtain⟨ax,hv,ho⟩:=R.out
   obtain⟨p9,c9,e9,xP,-⟩:=ho.is
   rw [dM,bh,qU] at e9
   rw [qU] at xP
   subst e9
   have WF:=zh (xg xP)
   obtain⟨L,c1⟩:=A9 hv
   have En:=hlt hv
   have i5:=zX (E<E)
   have i6:=zX ((E:Int)<(E:Int))
   clear xP qU ho hv R
   go_wp2_with fail
   go_ret
   exact⟨I,_,_,rfl,WF⟩
end Go.Proofs.YtpkipghjohomcaaGreatDoor
