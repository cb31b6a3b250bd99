/- Lemmas. -/
import Derived.Test.YtpkipghjohomcaaGreatDoorP15
set_option linter.unusedVariables false
set_option linter.unusedSimpArgs false
set_option maxHeartbeats 16000000
set_option maxRecDepth 100000
namespace Go.Proofs.YtpkipghjohomcaaGreatDoor
open Go.RowKit List Nat Go.World
def Hg (F:Nat->Prop) (x:Ex) (w:World) (e:Ending) (B:World):Prop:=w.grownBy B none/\∃A,e=.returned (.agg A.toArray)/\EAt (fun m=>F m\/w.heap.size<=m) B x A
theorem RU {F:Nat->Prop} {base k:Nat} (h:FB F base k):k≠base+1:=by
 rcases h with h | h
 ·have:=h.2;omega
 ·exact h.2
theorem Pp {F:Nat->Prop} {base k:Nat} (h:FB F base k):F k\/base<=k:=by
 rcases h with h | h
 ·exact .inl h.1
 ·exact .inr h.1
theorem ED (l:List Pd):l = []\/∃m p,l=m++[p]:=by
 rcases eq_nil_or_concat l with h | ⟨m,p,h⟩
 ·exact .inl h
 ·exact .inr ⟨m,p,by simpa using h⟩
theorem VK (w:World) (A B C:Obj):∃W:World,W=((w.alloc A).alloc B).alloc C/\W.heap[w.heap.size]? = some A/\W.heap[w.heap.size+1]? = some B/\W.heap[w.heap.size+1+1]? = some C/\w.grownBy W none/\W.heap.size=w.heap.size+3:=by
 have I:=YK w A
 have G:=YK (w.alloc A) B
 have H:=YK ((w.alloc A).alloc B) C
 have E:=qn (w.alloc A) B none
 have m:=qn ((w.alloc A).alloc B) C none
 simp only [size_alloc] at G H
 exact⟨_,rfl,bx (aa E m) I,bx m G,H,aa (qn w A none) (aa E m),by simp⟩
theorem Gx {s B g n c:Nat} {T H:TypeId} {w I:World} {p:Option Addr} {l:List (List Value)} {cs:Array Value} (h:ag s T w B (.slice p n c) l) (R:Fr2 (fun E=>E=g) w I) (m:w.heap[g]? = some (.cells cs H (0,0))) (U:T≠H):ag s T I B (.slice p n c) l:=
 ⟨⟨h.1.1,h.1.2.imp id fun ⟨E,J,O,A,L,G,Y⟩=>⟨E,J,O,A,L,(R.block E (hlt G) (fun A=>by have A:E=g:=A;subst A;rw [G] at m;injection m with m;injection m with _ m;exact U m)).trans G,Y⟩⟩,h.2⟩
theorem ES {w:World} {g i j:Nat} {u v:Value} (h:j≠i) (A:w.cell? ⟨g,j,none⟩=some v):(w.setCell ⟨g,i,none⟩ u).cell? ⟨g,j,none⟩=some v:=by
 rw [cell?_setCell_other _ _ _ _ (fun m=>h (by simp at m))];exact A
theorem Q6 {base g o:Nat} {a b:World} {u v:Value} (E:a.grownBy b none) (B:IsD base a g) (H:a.cell? ⟨g,o+1,none⟩=some u) (I:a.cell? ⟨g,o+2,none⟩=some v):
  Agr base (fun _ _=>False) a ((b.setCell ⟨g,o+1,none⟩ u).setCell ⟨g,o+2,none⟩ v)/\Fr2 (fun O=>O=g) a ((b.setCell ⟨g,o+1,none⟩ u).setCell ⟨g,o+2,none⟩ v):=by
 have A:=Agr.gb (base:=base) (fun _ _=>False) E
 have G:=DQ (i:=o+1) (u:=u) (A.isd _ B) (E.cell H (by simp))
 have L:=uM (i:=o+1) (u:=u) (A.isd _ B) _ (A.isd _ B)
 have J:=DQ (i:=o+2) (u:=v) L (G.cell _ _ _ (A.isd _ B) (fun m=>m) (E.cell I (by simp)))
 exact⟨(A.trans G _ (fun _ _ _ m=>m) (fun _ _ _ m=>m)).trans J _ (fun _ _ _ m=>m) (fun _ _ _ m=>m),((Fr2.none E).trans (js b g (o+1) u)).trans (js _ g (o+2) v)⟩
theorem aaZ (F:Nat->Prop) (x:Ex) (q:List Value) (w:World) (hx:EAt F w x q) (fG:cY x<=1000000) (Cy:iL x):
  Calls Tryz.prog 63 #[.agg q.toArray] w (Hg F x w):=by
 have iS:EAt (yp F w.heap.size) w x q:=hx.bound.mono (fun U h=>h)
 obtain⟨o9,p9,a9,b9,s9,y9,z9,uP,n9,c9,uc,ut,rfl⟩:=hx.form
 have Gr:=zh iS;have lj:=zh fG
 have CT:=zh (fun (H:ByteArray) (W:World) h=>n6 H W h)
 have bX:=zh Cy
 clear hx iS fG Cy
 obtain⟨base,gu⟩:=zx w.heap.size
 have xH:=zh gu
 rw [gu] at Gr
 clear gu
 go_enter Tryz.func63,Tryz.ntmps63
 go_wp2_with fail
 have ZW:=zh (ag.new (s:=1) (T:=110) ((w.alloc (.cells #[.int .i64 o9,.string a9,.string b9,.bool s9,.slice z9 n9 c9,.bool y9,.slice uP uc ut,.int .i64 p9] 60)).alloc (.cells #[.int .i64 0,.string ⟨#[]⟩,.string ⟨#[]⟩,.bool false,.slice none 0 0,.bool false,.slice none 0 0,.int .i64 0] 60)) (base+2) [.pointer (some ⟨w.heap.size,0,none⟩)] rfl (fun u hu=>by simp at hu;subst hu;rfl) (by simp;have:=xH.out;omega))
 obtain⟨W,hW,dq,ec,yJ,dp,ky⟩:=VK w (.cells #[.int .i64 o9,.string a9,.string b9,.bool s9,.slice z9 n9 c9,.bool y9,.slice uP uc ut,.int .i64 p9] 60) (.cells #[.int .i64 0,.string ⟨#[]⟩,.string ⟨#[]⟩,.bool false,.slice none 0 0,.bool false,.slice none 0 0,.int .i64 0] 60) (.cells #[.pointer (some ⟨w.heap.size,0,none⟩)] 110)
 have UO:Hid (ag 1 110 W (base+2) (.slice (some ⟨base+1+1,0,none⟩) 1 1) ([(base,0,x)].map jt)):=zh (by
  have:=ZW.out
  simp only [size_alloc] at this
  rw [hW]
  rw [xH.out] at this ⊢
  exact this)
 rw [<-hW]
 rw [xH.out] at dq ec yJ ky ⊢
 have bm:=zh dp
 have b3:Hid (CpI F base base x [(base,0,x)] W):=zh (CpI.start (Nat.le_refl _) dq (Gr.kept dp))
 have bP:=zh ec
 have uh:=zh ky
 clear hW dq ec yJ dp ky ZW Gr
 go_loopg [3] (szP [(base,0,x)]) (fun gk av wr=>∃ap:List Pd,szP ap<=gk/\gk<=1000000/\Hid (ag 1 110 wr (base+2) av (ap.map jt))/\Hid (CpI F base base x ap wr)/\Hid (∀R∈ap,iL R.2.2/\R.1≠base+1)/\Hid (w.grownBy wr none)/\Hid (wr.heap[base+1]? = some (.cells #[.int .i64 0,.string ⟨#[]⟩,.string ⟨#[]⟩,.bool false,.slice none 0 0,.bool false,.slice none 0 0,.int .i64 0] 60 (0,0)))/\Hid (base+2<=wr.heap.size))
 case atStart=>exact⟨[(base,0,x)],Nat.le_refl _,by simp only [szP];have:=lj.out;omega,UO,b3,zh (fun R hp=>by simp at hp;subst hp;exact⟨bX,by simp only;omega⟩),bm,bP,zh (by have:=uh.out;omega)⟩
 case round=>
  obtain⟨ap,QU,Qc,HO,HC,Yo,HG,xE,Jh⟩:=hrel
  rcases ED ap with rfl | ⟨I,⟨A,G,H⟩,rfl⟩
  ·have hv:∃R ak,u3=.slice R 0 ak:=by
    obtain⟨R,ak,B,-⟩:=HO.is
    exact⟨R,ak,B⟩
   obtain⟨R,ak,rfl⟩:=hv
   obtain⟨-,YV,q,co,Z,Zr⟩:=HC.done
   obtain⟨o0,p0,a0,b0,s0,y0,z0,yF,n0,c0,bi,a6,rfl⟩:=Zr.form
   have Pc:=zh Zr
   have d0:=Z 0 _ rfl
   have d1:=Z 1 _ rfl
   have d2:=Z 2 _ rfl
   have d3:=Z 3 _ rfl
   have d4:=Z 4 _ rfl
   have d5:=Z 5 _ rfl
   have d6:=Z 6 _ rfl
   have d7:=Z 7 _ rfl
   simp only [Nat.zero_add] at d0 d1 d2 d3 d4 d5 d6 d7
   obtain⟨r0,r1,r2,r3,r4,r5,r6,r7,r8⟩:=bJ xE
   have cB:base+1<wr.heap.size:=hlt xE
   clear Z co Zr QU
   go_wp2_with fail
   obtain⟨cf,QM⟩:=mY xE (.int .i64 o0) (.string a0) (.string b0) (.bool s0) (.slice z0 n0 c0) (.bool y0) (.slice yF bi a6) (.int .i64 p0)
   obtain⟨k0,k1,k2,k3,k4,k5,k6,k7,-⟩:=bJ cf
   have YF:=Fr2.after HG QM (fun m hj=>by have B:m=base+1:=hj;have:=xH.out;omega)
   have ce:=(EAt.same QM (fun U hk B=>RU hk B) Pc).mono (F':=fun U=>F U\/w.heap.size<=U) (fun U hk=>by rw [xH.out];exact Pp hk)
   have HP:Hid (Hg F x w (.returned (.agg #[.int .i64 o0,.string a0,.string b0,.bool s0,.slice z0 n0 c0,.bool y0,.slice yF bi a6,.int .i64 p0])) _):=zh ⟨YF,_,rfl,ce⟩
   refine bodyPost_ret (v:=.agg #[.int .i64 o0,.string a0,.string b0,.bool s0,.slice z0 n0 c0,.bool y0,.slice yF bi a6,.int .i64 p0]) (by simp [results,Tryz.results63,go_sem,k0,k1,k2,k3,k4,k5,k6,k7]) rfl HP
  ·have hO:ag 1 110 wr (base+2) u3 (I.map jt++[jt (A,G,H)]):=by have:=HO.out;rwa [map_append] at this
   obtain⟨L,hL⟩:=zx (I.map jt).length
   obtain⟨R,ak,rfl,dz,zC,xu,-⟩:=hO.is
   obtain⟨-,FO,ga,rfl⟩:=hO.pop
   obtain⟨g2,o2,cI,bN,Eg⟩:=dz.resolve_left (by simp)
   injection cI with cI;injection cI with cI jL;subst cI jL
   have a0:wr.cell? ⟨ga,L,none⟩=some (.pointer (some ⟨A,G,none⟩)):=by
    have:=Eg L (jt (A,G,H)) (by rw [<-hL];simp) 0 _ rfl
    simpa using this
   have dS:(I.map jt++[jt (A,G,H)]).length=L+1:=by rw [Q2,hL];rfl
   rw [dS] at zC ⊢
   rw [hL] at FO
   have XH:Hid (I.length=L):=zh (by rw [<-hL,length_map])
   have bB:L+1<=1000000:=by
    have h1:=uD (I++[(A,G,H)])
    rw [Q2,length_singleton] at h1
    have h2:=XH.out
    omega
   have bt:szP I+cY H<=gk:=by rw [wQ] at QU;simp only [szP] at QU;omega
   have S5:=zh bt
   obtain⟨ay,aX,pk,ck,a4,c1,O,c6,hD,AR,eh,Nc⟩:=wF HC
   obtain⟨aq,SU⟩:=Yo (A,G,H) (by simp)
   have HD:=zh hD;have ij:=zh AR;have fc:=zh eh;have aO:=zh Nc;have b1:=zh aq;have Xb:=zh SU
   have F3:A<wr.heap.size:=hD.lt
   have Sm:ay.size<=1000000/\aX.size<=1000000:=by
    obtain⟨-,q,-,Z,Zr⟩:=HC.pend (A,G,H) (by simp)
    cases H with
    | mk op nm md nu ys E ps=>
      simp only [EAt] at Zr
      obtain⟨s,pw,nw,cw,cJ,cz,cu,rfl,-⟩:=Zr
      have e1:=Z 1 _ rfl
      have e2:=Z 2 _ rfl
      rw [show wr.cell? ⟨(A,G,Ex.mk op nm md nu ys E ps).1,(A,G,Ex.mk op nm md nu ys E ps).2.1+1,none⟩=wr.cell? ⟨A,G+1,none⟩ from rfl,c1] at e1
      rw [show wr.cell? ⟨(A,G,Ex.mk op nm md nu ys E ps).1,(A,G,Ex.mk op nm md nu ys E ps).2.1+2,none⟩=wr.cell? ⟨A,G+2,none⟩ from rfl,O] at e2
      injection e1 with e1;injection e1 with e1
      injection e2 with e2;injection e2 with e2
      simp only [iL,nM] at aq
      have h1:=aq.1.2.1;have h2:=aq.1.2.2.1
      rw [e1,e2,<-aQ,<-aQ]
      exact⟨h1,h2⟩
   have Rm:Hid (ay.size<=281474976710656/\aX.size<=281474976710656):=zh (by omega)
   have Ph:=zh (And.intro c1 O)
   obtain⟨bs,a1,yM⟩:=hD
   have Y:=zh yM;have JB:=zh bs
   obtain⟨n1,bd⟩:=zx (L+1)
   have xD:=zh bd
   have cC:IntKind.i64.wrap ((n1:Int) - 1)=(L:Int):=by rw [IntWalk.i64_in _ (by omega)];omega
   have x1:(0:Int)<=(L:Int):=by omega
   have x2:(L:Int)<(n1:Int):=by omega
   have x3:=zE (L<n1)
   have x4:decide ((L:Int)<(n1:Int))=true:=zd x2
   have x5:=zE ((0:Int)<(n1:Int))
   have x6:=zE (0<n1)
   have x7:(n1:Int)<=(ak:Int):=by omega
   have x8:n1<=ak:=by omega
   have x9:L<=ak:=by omega
   have gE:(L:Int)<=(ak:Int):=by omega
   have Vh:=zh FO;have cp:=zh bB
   rw [bd]
   clear hO FO dz Eg dS hL bd xu HO yM bs AR eh Nc aq SU Sm bB bt QU zC
   go_wp2_with fail
   go_cut [] (fun wx=>Hid (Agr base (fun _ _=>False) wr wx/\Fr2 (fun U=>U=A) wr wx))
   case first=>
    go_region_held3 (fun w'=>w'.cell? ⟨A,G+1,none⟩=some (.string ay)/\w'.cell? ⟨A,G+2,none⟩=some (.string aX))
     (first | with_reducible exact⟨c1,O⟩ | exact⟨vO c1,ES (by omega) O⟩ | exact⟨ES (by omega) (vO c1),vO (ES (by omega) O)⟩ | go_keep)
     (first
      | (go_at_call 32;have xC:=bF;refine(CT.out _ _ (by with_reducible exact Rm.out.2)).mono ?_;rintro B w3 ⟨rfl,iU⟩;have gA:=zh (aa bF.out (aa (show w2.grownBy _ none from(by repeat (with_reducible first | exact ad _ _ | refine aC ?_))) iU));have c1:=gA.out.cell Ph.out.1 (by simp);have O:=gA.out.cell Ph.out.2 (by simp);have YM:∀m,w3.frozen? ⟨A,m,none⟩=false:=fun m=>kN (bx gA.out Y.out) m;have cv:A<w3.heap.size:=hlt (bx gA.out Y.out);clear iU)
      | (go_at_call 32;refine(CT.out _ _ (by with_reducible exact Rm.out.1)).mono ?_;rintro B w2 ⟨rfl,bL⟩;have bF:=zh (aa (show wr.grownBy _ none from(by repeat (with_reducible first | exact ad _ _ | refine aC ?_))) bL);have c1:=bF.out.cell c1 (by simp);have O:=bF.out.cell O (by simp);clear bL))
    all_goals
     go_wp2_with fail
     go_meet
     exact zh (Q6 gA ⟨JB,_,Y⟩ Ph.1 Ph.2)
   case rest=>
    obtain⟨Tm,nW⟩:=hcut.out
    have a5:=zh (HC.keep Tm)
    have gh:=zh (Fr2.after HG nW (fun m hj=>by have B:m=A:=hj;have:=xH.out;have:=JB.out;omega))
    have Yn:Hid (wc.heap[base+1]? = some (.cells #[.int .i64 0,.string ⟨#[]⟩,.string ⟨#[]⟩,.bool false,.slice none 0 0,.bool false,.slice none 0 0,.int .i64 0] 60 (0,0))):=zh ((nW.block _ (hlt xE) (fun B=>Xb (show A=base+1 from B.symm))).trans xE)
    have R5:Hid (base+2<=wc.heap.size):=zh (Nat.le_trans Jh nW.size)
    have bq:Hid (ag 1 110 wc (base+2) (.slice (some ⟨ga,0,none⟩) L ak) (I.map jt)):=zh (Gx Vh nW Y (by decide))
    clear hcut Tm nW c1 O c6 a0 HC HG xE Jh Vh Ph Y ij fc aO Rm HD
    obtain⟨ay,aX,pk,ck,a4,c1,O,c6,hD,AR,eh,Nc⟩:=wF a5
    obtain⟨kn,gW⟩:=zx (be H).length
    rw [gW] at c6
    have uL:=zh gW
    have F3:A<wc.heap.size:=hD.lt
    obtain⟨-,a1,yM⟩:=hD
    have YM:∀m,wc.frozen? ⟨A,m,none⟩=false:=fun m=>kN yM m
    have Y:=zh yM;have ij:=zh AR;have fc:=zh eh;have aO:=zh Nc
    have Cd:a4.length=kn:=by rw [jk eh,gW]
    have uH:kn<=1000000:=by
     have h1:=uD (dE 0 (be H))
     rw [ou,vj,gW] at h1
     have h2:=sF H;have h3:=S5.out
     omega
    have lH:Hid (kn<=1000000/\a4.length=kn):=zh ⟨uH,Cd⟩
    have ik:Hid (base<=wc.heap.size):=zh (by have:=R5.out;omega)
    have bn:=zh (ag.nil 8 60 wc wc.heap.size)
    clear yM AR eh Nc gW Cd uH c1 O
    go_wp2_with (at_builtin;go_loud (refine jA (s:=8) (t:=55) (T:=60) (by decide) Tryz.underlying55 Mu rfl (by omega) rfl _ _ rfl wc.heap.size [] a4 aO (.slice none 0 0) rfl bn pk kn ck rfl lH.2 ij (by simp) lH.1 (Nat.le_refl _) ?_))
    intro ph J ch w5 bV bM cd dw
    have dw:wc.grownBy w5 none:=dw
    obtain⟨E,YH⟩:=zx (be H)
    have YG:Hid (J=kn):=zh (by simpa using bV)
    have Qa:J=kn:=YG.out
    subst Qa
    obtain⟨h,bW,bS⟩:=LJ a5 Xb R5 dw (by simpa using bM) fc ⟨JB,a1,Y⟩ c6 uL.symm
    have aJ:=zh bW;have VD:=zh bS
    have bu:=dw.cell c6 (by simp)
    have b8:∀m,w5.frozen? ⟨A,m,none⟩=false:=fun m=>kN (bx dw Y) m
    have cb:A<w5.heap.size:=hlt (bx dw Y)
    have ef:=zh dw
    clear bW bS bV bM cd dw c6 YM F3
    go_wp2_with fail
    obtain⟨W6,C7⟩:=zx (w5.setCell ⟨A,G+6,none⟩ (.slice ph J ch))
    have Lw:=js w5 A (G+6) (.slice ph J ch)
    have a7:=uM (i:=G+6) (u:=.slice ph J ch) (base:=base) ⟨JB,a1,bx ef Y⟩ A ⟨JB,a1,bx ef Y⟩
    have QB:=vO (u:=.slice ph J ch) bu
    have a8:=Gx (bq.kept ef) Lw (bx ef Y) (by decide)
    rw [C7] at VD Lw a7 QB a8 ⊢
    have dD:=zh (Fr2.after (aa gh ef) Lw (fun m hj=>by have B:m=A:=hj;have:=xH.out;have:=JB.out;omega))
    have Y4:Hid (W6.heap[base+1]? = some (.cells #[.int .i64 0,.string ⟨#[]⟩,.string ⟨#[]⟩,.bool false,.slice none 0 0,.bool false,.slice none 0 0,.int .i64 0] 60 (0,0))):=zh ((Lw.block _ (hlt (bx ef Yn)) (fun B=>Xb (show A=base+1 from B.symm))).trans (bx ef Yn))
    have b4:=zh (And.intro a7 QB);have b6:=zh a8
    have aL:Hid (base+2<=W6.heap.size/\(be H≠[]->h<W6.heap.size/\wc.heap.size<=h)):=zh ⟨Nat.le_trans R5 (Nat.le_trans ef.size Lw.size),fun h0=>⟨zn (aJ h0).2.2 Lw.size,(aJ h0).2.1⟩⟩
    rw [YH] at uL VD aJ aL
    have YT:=zh YH
    clear C7 Lw a7 QB a8 bu b8 cb YH a5 gh Yn bq ef Y ij fc aO ik bn
    go_loopg [3,50] J (fun bw av iv ao=>∃m:Nat,m<=J/\iv=.int .i64 (m:Int)/\J - m<=bw/\bw<=J/\Hid (ag 1 110 ao (base+2) av ((I++(dE h E).take m).map jt))/\Hid (CpI F base base x (I++dE h E) ao)/\Hid (w.grownBy ao none)/\Hid (ao.heap[base+1]? = some (.cells #[.int .i64 0,.string ⟨#[]⟩,.string ⟨#[]⟩,.bool false,.slice none 0 0,.bool false,.slice none 0 0,.int .i64 0] 60 (0,0)))/\Hid (IsD base ao A/\ao.cell? ⟨A,G+6,none⟩=some (.slice ph J ch))/\Hid (base+2<=ao.heap.size/\(E≠[]->h<ao.heap.size)))
    case atStart=>exact⟨0,zero_le _,rfl,by omega,Nat.le_refl _,zh (by rw [take_zero,append_nil];exact b6),VD,dD,Y4,b4,zh ⟨aL.1,fun h0=>(aL.2 h0).1⟩⟩
    case round=>
     obtain⟨m,hj,rfl,Zx,cr,jN,Xr,bF,Tb,SJ,nE⟩:=hrel
     by_cases cl:m<J
     ·have a3:m<E.length:=by have:=uL.out;omega
      obtain⟨U,hk⟩:=zx (E[m])
      have jw:Hid ((dE h E).take (m+1)=(dE h E).take m++[(h,m*8,U)]):=zh (by rw [FV a3,hk])
      have bc:E≠[]:=fun B=>by rw [B] at a3;simp at a3
      obtain⟨rfl,-,-⟩:=aJ bc
      obtain⟨p2,O,rfl,-⟩:=jN.is
      obtain⟨LS,kZ⟩:=zx ((I++(dE h E).take m).map jt)
      have AK:=zh kZ
      have UT:=jN.out
      rw [kZ] at UT ⊢
      obtain⟨n2,au⟩:=zx LS.length
      have Xh:n2<=1000000:=by
       have h1:=uD (dE h E)
       rw [ou,vj] at h1
       have h2:=sF H;have h3:=S5.out
       rw [YT.out] at h2
       have h4:=XH.out;have h5:=uD I
       rw [<-au,<-kZ,length_map,Q2,length_take,ou]
       omega
      have qP:=zh Xh;have mz:=zh au
      have F3:A<wr.heap.size:=SJ.1.lt
      have ci:h<wr.heap.size:=nE.2 bc
      have c6:=SJ.2
      have i1:(0:Int)<=(m:Int):=by omega
      have i2:(m:Int)<(J:Int):=by omega
      have i3:decide (m<J)=true:=zd cl
      have i4:decide ((m:Int)<(J:Int))=true:=zd i2
      rw [au]
      have VV:Hid (ag 1 110 wr (base+2) (.slice p2 n2 O) LS):=zh (by rw [au] at UT;exact UT)
      clear a3 hk bc Xh au jN UT kZ
      go_wp2_with (at_builtin;go_loud (refine qz (s:=1) (t:=162) (T:=110) (by decide) Tryz.underlying162 Wt rfl (by omega) rfl _ _ rfl (base+2) LS (jt (h,m*8,U)) rfl (fun u hu=>by simp [jt] at hu;subst hu;rfl) (.slice p2 n2 O) rfl VV _ rfl rfl (by rw [mz.out];exact qP) nE.1 _ rfl ?_))
      intro g9 cc w9 fM bH
      have Cy:=qn wr (.cells (jt (h,m*8,U)).toArray 110) none
      have a2:=VV.kept Cy
      have Tm:=(Agr.gb (base:=base) (fun _ _=>False) Cy).trans (QF a2 (by omega) (by decide) bH) (fun _ _=>False) (fun _ _ _ B=>B) (fun _ _ _ B=>B)
      have b2:=zh (Xr.keep Tm)
      have ua:Fr2 (fun i=>(Value.slice p2 n2 O).ownBlock=some i) (wr.alloc (.cells (jt (h,m*8,U)).toArray 110)) w9:=Fr2.of bH (fun i B=>B)
      have fR:=zh (Fr2.after (aa bF Cy) ua (fun i hi=>by have:=(AB a2 i hi).1;have:=xH.out;omega))
      have b7:Hid (w9.heap[base+1]? = some (.cells #[.int .i64 0,.string ⟨#[]⟩,.string ⟨#[]⟩,.bool false,.slice none 0 0,.bool false,.slice none 0 0,.int .i64 0] 60 (0,0))):=zh ((ua.block _ (hlt (bx Cy Tb)) (fun B=>by have:=(AB a2 _ B).1;omega)).trans (bx Cy Tb))
      have b5:=zh (And.intro (Tm.isd _ SJ.1) (Tm.cell _ _ _ SJ.1 (fun B=>B) SJ.2))
      have AQ:Hid (base+2<=w9.heap.size/\(E≠[]->h<w9.heap.size)):=zh ⟨Nat.le_trans nE.1 Tm.size,fun h0=>zn (nE.2 h0) Tm.size⟩
      have ji:Hid (ag 1 110 w9 (base+2) (.slice (some ⟨g9,0,none⟩) (n2+1) cc) ((I++(dE h E).take (m+1)).map jt)):=zh (by
       have h9:=fM
       rw [mz.out] at h9
       rw [jw.out,<-append_assoc,map_append,AK.out]
       exact h9)
      rw [mz.out]
      have Wg:=lH.1
      have cG:IntKind.i64.wrap ((m:Int)+1)=((m+1:Nat):Int):=by rw [IntWalk.i64_in _ (by omega)];omega
      clear Cy a2 Tm ua fM bH Xr bF Tb SJ VV c6 F3 ci
      go_wp2_with fail
      go_roundg (J - (m+1))
      case measure=>omega
      case rel=>exact⟨m+1,by omega,by first | rfl | go_num,Nat.le_refl _,by omega,ji,b2,fR,b7,b5,AQ⟩
     ·obtain rfl:m=J:=by omega
      have dL:(dE h E).take m=dE h E:=V7 (by rw [ou];have:=uL.out;omega)
      have ax:=jN.out
      rw [dL] at ax
      have ax:=zh ax
      have Zz:Hid (szP (I++dE h E)<szP I+cY H):=zh (by
       have h2:=sF H
       rw [YT.out] at h2
       rw [wQ,vj];omega)
      have ca:Hid (∀R∈I++dE h E,iL R.2.2/\R.1≠base+1):=zh (fun R hp=>by
       rcases mem_append.1 hp with hp | hp
       ·exact Yo R (mem_append_left _ hp)
       ·obtain⟨j',U,hk,rfl⟩:=sW hp
        have bc:E≠[]:=fun B=>by rw [B] at hk;simp at hk
        refine⟨Dr b1 (by rw [YT.out];exact gn hk),?_⟩
        have h1:=(aL.2 bc).2;have h2:=R5.out
        show h≠base+1
        omega)
      clear dL
      go_wp2_with fail
      go_roundg (szP (I++dE h E))
      case measure=>exact zn Zz S5
      case rel=>exact⟨I++dE h E,Nat.le_refl _,by have:=Zz.out;have:=S5.out;omega,ax,Xr,ca,bF,Tb,zh nE.1⟩
theorem wh {p:Prop} {w m:World} {b:Bool} (A:w.grownBy m none) (h:b=true↔p):pV p w (.returned (.bool b)) m:=⟨A,b,rfl,h⟩
theorem wn {α : Type} {l A:List α} {m:Nat} (E:l.length=m) (G:A.length=m) (h:∀i,i<m->l[i]? = A[i]?):l=A:=by
 refine ext_getElem? fun i=>?_
 rcases Nat.lt_or_ge i m with B | B
 ·exact h i B
 ·rw [getElem?_eq_none (by omega),getElem?_eq_none (by omega)]
theorem DT {a b:List UInt8} (h:a≠b):((⟨a.toArray⟩:ByteArray).toList == (⟨b.toArray⟩:ByteArray).toList)=false:=by
 rw [toList_data,toList_data];exact xz.2 h
theorem Ce {a b:List UInt8} (h:a=b):((⟨a.toArray⟩:ByteArray).toList == (⟨b.toArray⟩:ByteArray).toList)=true:=by rw [h];exact beq_self_eq_true _
theorem JP (T E:List fN) (hT:T.length<=150000) (Y3:E.length<=150000) (p p':Option Addr) (c c':Nat) (w:World) (h:bl w p T) (h':bl w p' E):
  Calls Tryz.prog 87 #[.slice p T.length c,.slice p' E.length c'] w (pV (T=E) w):=by
 have HA:=zh h;have HB:=zh h'
 obtain⟨m,hm⟩:=zx T.length
 obtain⟨m',uo⟩:=zx E.length
 have HM:=zh hm;have F5:=zh uo
 rw [hm] at hT ⊢
 rw [uo] at Y3 ⊢
 clear h h' hm uo
 by_cases ak:m=m'
 ·subst ak
  go_enter Tryz.func87,Tryz.ntmps87
  go_wp2_with fail
  go_loopw [13] (fun iv wr=>∃A:Nat,A<=m/\iv=.int .i64 (A:Int)/\Hid (w.grownBy wr none)/\Hid (∀G,G<A->T[G]? = E[G]?)) (fun iv _=>m - (intOf iv).toNat)
  case atStart=>exact⟨0,zero_le _,rfl,ad _ _,zh (fun G hi=>by omega)⟩
  case round=>
   obtain⟨A,hj,rfl,I,HE⟩:=hrel
   by_cases hlt:A<m
   ·obtain⟨O,J⟩:∃O,T[A]? = some O:=⟨T[A]'(by rw [HM.out];exact hlt),QS _⟩
    obtain⟨Y,hu⟩:∃Y,E[A]? = some Y:=⟨E[A]'(by rw [F5.out];exact hlt),QS _⟩
    obtain⟨av,ax,rfl,bN,t0,t1,t2,t3⟩:=vv (HA.kept I) J
    obtain⟨g',nS,rfl,au,u0,u1,u2,u3⟩:=vv (HB.kept I) hu
    have y1:(0:Int)<=(A:Int):=by omega
    have y2:(A:Int)<(m:Int):=by omega
    have y3:decide (A<m)=true:=zd hlt
    have y4:decide ((A:Int)<(m:Int))=true:=zd y2
    have aq:Hid (T[A]? = some O/\E[A]? = some Y):=zh ⟨J,hu⟩
    have Bc:Hid (O≠Y->¬T=E):=zh (fun bc B=>by rw [B,hu] at J;injection J with J;exact bc J.symm)
    have Pc:Hid (O=Y->∀G,G<A+1->T[G]? = E[G]?):=zh (fun B G hi=>by
     rcases Nat.lt_or_ge G A with h1 | h1
     ·exact HE G h1
     ·obtain rfl:G=A:=by omega
      rw [J,hu,B])
    clear J hu
    obtain⟨tk,R,U,tp⟩:=O
    obtain⟨uk,Z,ux,up⟩:=Y
    unfold aD at t1 t2 u1 u2
    simp only at t0 t1 t2 t3 u0 u1 u2 u3
    by_cases L:tk=uk
    ·have q0:(tk == uk)=true:=beq_iff_eq.2 L
     by_cases k1:R=Z
     ·have q1:=Ce k1
      by_cases k2:U=ux
      ·have q2:=Ce k2
       by_cases k3:tp=up
       ·have q3:(tp == up)=true:=beq_iff_eq.2 k3
        have H:=zh (Pc (by rw [L,k1,k2,k3]))
        clear L k1 k2 k3
        generalize (⟨R.toArray⟩:ByteArray)=le at *
        generalize (⟨U.toArray⟩:ByteArray)=te at *
        generalize (⟨Z.toArray⟩:ByteArray)=ao at *
        generalize (⟨ux.toArray⟩:ByteArray)=ap at *
        go_wp2_with fail
        go_quiet (fail)
        go_wp2_with fail
        go_roundw
        case rel=>exact⟨A+1,by omega,by go_num,zh (am I _),H⟩
        case measure=>simp [intOf];omega
       ·have q3:(tp == up)=false:=xz.2 k3
        have H:=zh (Bc (fun B=>by injection B;contradiction))
        clear L k1 k2 k3
        generalize (⟨R.toArray⟩:ByteArray)=le at *
        generalize (⟨U.toArray⟩:ByteArray)=te at *
        generalize (⟨Z.toArray⟩:ByteArray)=ao at *
        generalize (⟨ux.toArray⟩:ByteArray)=ap at *
        go_wp2_with fail
        go_quiet (fail)
        go_wp2_with fail
        go_ret
        exact er (am I _) H
      ·have q2:=DT k2
       have H:=zh (Bc (fun B=>by injection B;contradiction))
       clear L k1 k2
       generalize (⟨R.toArray⟩:ByteArray)=le at *
       generalize (⟨U.toArray⟩:ByteArray)=te at *
       generalize (⟨Z.toArray⟩:ByteArray)=ao at *
       generalize (⟨ux.toArray⟩:ByteArray)=ap at *
       go_wp2_with fail
       go_quiet (fail)
       go_wp2_with fail
       go_ret
       exact er (am I _) H
     ·have q1:=DT k1
      have H:=zh (Bc (fun B=>by injection B;contradiction))
      clear L k1
      generalize (⟨R.toArray⟩:ByteArray)=le at *
      generalize (⟨U.toArray⟩:ByteArray)=te at *
      generalize (⟨Z.toArray⟩:ByteArray)=ao at *
      generalize (⟨ux.toArray⟩:ByteArray)=ap at *
      go_wp2_with fail
      go_quiet (fail)
      go_wp2_with fail
      go_ret
      exact er (am I _) H
    ·have q0:(tk == uk)=false:=xz.2 L
     have H:=zh (Bc (fun B=>by injection B;contradiction))
     clear L
     generalize (⟨R.toArray⟩:ByteArray)=le at *
     generalize (⟨U.toArray⟩:ByteArray)=te at *
     generalize (⟨Z.toArray⟩:ByteArray)=ao at *
     generalize (⟨ux.toArray⟩:ByteArray)=ap at *
     go_wp2_with fail
     go_quiet (fail)
     go_wp2_with fail
     go_ret
     exact er (am I _) H
   ·obtain rfl:A=m:=by omega
    go_wp2_with fail
    go_ret
    exact wh I ⟨fun _=>wn HM F5 HE,fun _=>rfl⟩
 ·have d1:((m:Int) != (m':Int))=true:=bne_iff_ne.2 (by omega)
  have d2:(m != m')=true:=bne_iff_ne.2 ak
  have d3:=yi (m:Int) (m':Int)
  have d4:(m == m')=false:=xz.2 ak
  have H:Hid (¬T=E):=zh (fun B=>ak (by rw [<-HM.out,<-F5.out,B]))
  clear ak
  go_enter Tryz.func87,Tryz.ntmps87
  go_wp2_with fail
  go_ret
  exact er (ad _ _) H
theorem Kl (l E:List Int) (hl:l.length<=150000) (ao:E.length<=150000) (p p':Option Addr) (c c':Nat) (w:World) (h:VAt w p (ar l)) (h':VAt w p' (ar E)):
  Calls Tryz.prog 119 #[.slice p l.length c,.slice p' E.length c'] w (pV (l=E) w):=by
 have HA:=zh h;have HB:=zh h'
 obtain⟨m,hm⟩:=zx l.length
 obtain⟨Y,uo⟩:=zx E.length
 have HM:=zh hm;have Z:=zh uo
 rw [hm] at hl ⊢
 rw [uo] at ao ⊢
 clear h h' hm uo
 by_cases R:m=Y
 ·subst R
  go_enter Tryz.func119,Tryz.ntmps119
  go_wp2_with fail
  go_loopw [13] (fun iv wr=>∃A:Nat,A<=m/\iv=.int .i64 (A:Int)/\Hid (w.grownBy wr none)/\Hid (∀B,B<A->l[B]? = E[B]?)) (fun iv _=>m - (intOf iv).toNat)
  case atStart=>exact⟨0,zero_le _,rfl,ad _ _,zh (fun B hi=>by omega)⟩
  case round=>
   obtain⟨A,hj,rfl,L,HE⟩:=hrel
   by_cases hlt:A<m
   ·obtain⟨I,G⟩:∃I,l[A]? = some I:=⟨l[A]'(by rw [HM.out];exact hlt),QS _⟩
    obtain⟨J,U⟩:∃J,E[A]? = some J:=⟨E[A]'(by rw [Z.out];exact hlt),QS _⟩
    obtain⟨aq,au,rfl,bN,t0⟩:=bO (HA.kept L) G
    obtain⟨g',nS,rfl,ap,u0⟩:=bO (HB.kept L) U
    have y1:(0:Int)<=(A:Int):=by omega
    have y2:(A:Int)<(m:Int):=by omega
    have y3:decide (A<m)=true:=zd hlt
    have y4:decide ((A:Int)<(m:Int))=true:=zd y2
    by_cases H:I=J
    ·have q0:(I == J)=true:=beq_iff_eq.2 H
     have q1:(I != J)=false:=by rw [bne,q0];rfl
     have O:Hid (∀B,B<A+1->l[B]? = E[B]?):=zh (fun B hi=>by
      rcases Nat.lt_or_ge B A with h1 | h1
      ·exact HE B h1
      ·obtain rfl:B=A:=by omega
       rw [G,U,H])
     clear H G U
     go_wp2_with fail
     go_quiet (fail)
     go_wp2_with fail
     go_roundw
     case rel=>exact⟨A+1,by omega,by go_num,zh (am L _),O⟩
     case measure=>simp [intOf];omega
    ·have q0:(I == J)=false:=xz.2 H
     have q1:(I != J)=true:=bne_iff_ne.2 H
     have O:Hid (¬l=E):=zh (fun ak=>by rw [ak,U] at G;injection G with G;exact H G.symm)
     clear H G U
     go_wp2_with fail
     go_quiet (fail)
     go_wp2_with fail
     go_ret
     exact er (am L _) O
   ·obtain rfl:A=m:=by omega
    go_wp2_with fail
    go_ret
    exact wh L ⟨fun _=>wn HM Z HE,fun _=>rfl⟩
 ·have d1:((m:Int) != (Y:Int))=true:=bne_iff_ne.2 (by omega)
  have d2:(m != Y)=true:=bne_iff_ne.2 R
  have d3:=yi (m:Int) (Y:Int)
  have d4:(m == Y)=false:=xz.2 R
  have O:Hid (¬l=E):=zh (fun ak=>R (by rw [<-HM.out,<-Z.out,ak]))
  clear R
  go_enter Tryz.func119,Tryz.ntmps119
  go_wp2_with fail
  go_ret
  exact er (ad _ _) O
theorem D1 (k t m B:Int) (l A:List Int) (Y:l.length<=150000) (Z:A.length<=150000) (p H:Option Addr) (c J:Nat) (w:World) (h:VAt w p (ar l)) (R:VAt w H (ar A)):
  Calls Tryz.prog 89 #[.agg #[.int .i64 k,.int .i64 t,.slice p l.length c],.agg #[.int .i64 m,.int .i64 B,.slice H A.length J]] w (pV (k=m/\t=B/\l=A) w):=by
 have I:=zh (fun W h1 h2=>Kl l A Y Z p H c J W h1 h2)
 have HA:=zh h;have HB:=zh R
 generalize l.length=ap at *
 generalize A.length=m' at *
 clear h R Y Z
 by_cases E:k=m
 ·have q0:(k == m)=true:=beq_iff_eq.2 E
  by_cases k1:t=B
  ·have q1:(t == B)=true:=beq_iff_eq.2 k1
   have G:Hid (k=m/\t=B):=zh ⟨E,k1⟩
   clear E k1
   go_enter Tryz.func89,Tryz.ntmps89
   go_wp2_with fail
   refine(I _ (HA.kept (af (af (ad _ _) _) _)) (HB.kept (af (af (ad _ _) _) _))).mono ?_
   rintro ao w1 ⟨L,ak,rfl,U⟩
   have fu:=zh (aa (af (af (ad w _) _) _) L)
   have O:=zh U
   clear L I U
   go_wp2_with fail
   go_ret
   exact wh fu ⟨fun h=>⟨G.1,G.2,O.1 h⟩,fun h=>O.2 h.2.2⟩
  ·have q1:(t == B)=false:=xz.2 k1
   have G:Hid (¬(k=m/\t=B/\l=A)):=zh (fun h=>k1 h.2.1)
   clear E k1
   go_enter Tryz.func89,Tryz.ntmps89
   go_wp2_with fail
   go_ret
   exact er (af (af (ad _ _) _) _) G
 ·have q0:(k == m)=false:=xz.2 E
  have G:Hid (¬(k=m/\t=B/\l=A)):=zh (fun h=>E h.1)
  clear E
  go_enter Tryz.func89,Tryz.ntmps89
  go_wp2_with fail
  go_ret
  exact er (af (af (ad _ _) _) _) G
theorem aa1 {x y:Nd} (h:x.kind=y.kind/\x.tok=y.tok/\x.kids=y.kids):x=y:=by
 obtain⟨m,B,G⟩:=x;obtain⟨A,E,H⟩:=y
 simp only at h
 obtain⟨rfl,rfl,rfl⟩:=h;rfl
theorem FN (N B:List Nd) (K I:Kf) (hN:N.length<=150000) (au:B.length<=150000) (hk:∀(i:Nat) (x:Nd),N[i]? = some x->x.kids.length<=150000) (Ve:∀(i:Nat) (x:Nd),B[i]? = some x->x.kids.length<=150000) (p p':Option Addr) (c c':Nat) (w:World) (h:al w p N K) (h':al w p' B I):
  Calls Tryz.prog 88 #[.slice p N.length c,.slice p' B.length c',.func (.func 89) #[] #[]] w (pV (N=B) w):=by
 have HA:=zh h;have HB:=zh h';have HK:=zh hk;have ao:=zh Ve
 obtain⟨m,hm⟩:=zx N.length
 obtain⟨L,uo⟩:=zx B.length
 have HM:=zh hm;have Z:=zh uo
 rw [hm] at hN ⊢
 rw [uo] at au ⊢
 clear h h' hm uo hk Ve
 by_cases J:m=L
 ·subst J
  go_enter Tryz.func88,Tryz.ntmps88
  go_wp2_with fail
  go_loopw [17] (fun iv wr=>∃A:Nat,A<=m/\iv=.int .i64 (A:Int)/\Hid (w.grownBy wr none)/\Hid (∀i,i<A->N[i]? = B[i]?)) (fun iv _=>m - (intOf iv).toNat)
  case atStart=>exact⟨0,zero_le _,rfl,ad _ _,zh (fun i hi=>by omega)⟩
  case round=>
   obtain⟨A,hj,rfl,O,HE⟩:=hrel
   by_cases hlt:A<m
   ·obtain⟨x,E⟩:∃x,N[A]? = some x:=⟨N[A]'(by rw [HM.out];exact hlt),QS _⟩
    obtain⟨y,H⟩:∃y,B[A]? = some y:=⟨B[A]'(by rw [Z.out];exact hlt),QS _⟩
    have ak:=zh (HA.kept O);have nz:=zh (HB.kept O)
    obtain⟨ay,aL,rfl,bN,t0,t1,t2⟩:=bZ ak E
    obtain⟨g',nS,rfl,av,u0,u1,u2⟩:=bZ nz H
    have y1:(0:Int)<=(A:Int):=by omega
    have y2:(A:Int)<(m:Int):=by omega
    have y3:decide (A<m)=true:=zd hlt
    have y4:decide ((A:Int)<(m:Int))=true:=zd y2
    have HS:=zh (fun W U h2=>D1 x.kind x.tok y.kind y.tok x.kids y.kids (HK A x E) (ao A y H) (K A).1 (I A).1 (K A).2 (I A).2 W U h2)
    have HV:=zh (ak.2 A x E);have ap:=zh (nz.2 A y H)
    obtain⟨R,Y⟩:∃R:Prop,(x.kind=y.kind/\x.tok=y.tok/\x.kids=y.kids)=R:=⟨_,rfl⟩
    have Bc:Hid (¬R->¬N=B):=zh (fun bc G=>bc (by rw [G,H] at E;injection E with E;rw [<-Y,E];exact⟨rfl,rfl,rfl⟩))
    have Pc:Hid (R->∀i,i<A+1->N[i]? = B[i]?):=zh (fun G i hi=>by
     rcases Nat.lt_or_ge i A with U | U
     ·exact HE i U
     ·obtain rfl:i=A:=by omega
      rw [E,H,aa1 (x:=x) (y:=y) (by rw [Y];exact G)])
    rw [Y] at HS
    clear E H Y
    generalize (K A).1=pk at *
    generalize (K A).2=ck at *
    generalize (I A).1=aO at *
    generalize (I A).2=ax at *
    generalize x.kids.length=kl at *
    generalize y.kids.length=aJ at *
    generalize x.kind=xk at *
    generalize x.tok=xt at *
    generalize y.kind=yk at *
    generalize y.tok=yt at *
    have v0:=(qn wr (.cells #[.int .i64 xk,.int .i64 xt,.slice pk kl ck] 92) none).cell u0 (by simp)
    have v1:=(qn wr (.cells #[.int .i64 xk,.int .i64 xt,.slice pk kl ck] 92) none).cell u1 (by simp)
    have v2:=(qn wr (.cells #[.int .i64 xk,.int .i64 xt,.slice pk kl ck] 92) none).cell u2 (by simp)
    go_wp2_with fail
    refine(HS _ (HV.kept (af (af (ad _ _) _) _)) (ap.kept (af (af (ad _ _) _) _))).mono ?_
    rintro G w1 ⟨cJ,aq,rfl,hb⟩
    have fu:=zh (aa O (aa (af (af (ad wr _) _) _) cJ))
    have dP:=zh hb
    clear cJ HS hb
    cases aq
    ·go_wp2_with fail
     go_ret
     exact er fu (Bc (fun h=>by have:=dP.2 h;cases this))
    ·go_wp2_with fail
     go_roundw
     case rel=>exact⟨A+1,by omega,by go_num,fu,zh (Pc (dP.1 (by simp)))⟩
     case measure=>simp [intOf];omega
   ·obtain rfl:A=m:=by omega
    go_wp2_with fail
    go_ret
    exact wh O ⟨fun _=>wn HM Z HE,fun _=>rfl⟩
 ·have d1:((m:Int) != (L:Int))=true:=bne_iff_ne.2 (by omega)
  have d2:(m != L)=true:=bne_iff_ne.2 J
  have d3:=yi (m:Int) (L:Int)
  have d4:(m == L)=false:=xz.2 J
  have HJ:Hid (¬N=B):=zh (fun G=>J (by rw [<-HM.out,<-Z.out,G]))
  clear J
  go_enter Tryz.func88,Tryz.ntmps88
  go_wp2_with fail
  go_ret
  exact er (ad _ _) HJ
theorem tR (T A:List fN) (N m:List Nd) (K K':Kf) (hT:T.length<=150000) (Y3:A.length<=150000) (hN:N.length<=150000) (av:m.length<=150000) (hk:∀(i:Nat) (x:Nd),N[i]? = some x->x.kids.length<=150000) (Ve:∀(i:Nat) (x:Nd),m[i]? = some x->x.kids.length<=150000) (pt H pn G:Option Addr) (ct J cn L:Nat) (w:World) (ht:bl w pt T) (ap:bl w H A) (h:al w pn N K) (h':al w G m K'):
  Calls Tryz.prog 53 #[.agg #[.slice pt T.length ct,.slice pn N.length cn],.agg #[.slice H A.length J,.slice G m.length L]] w (pV (T=A/\N=m) w):=by
 have Y:=zh (fun W R U=>JP T A hT Y3 pt H ct J W R U)
 have Z:=zh (fun W R U=>FN N m K K' hN av hk Ve pn G cn L W R U)
 have HA:=zh ht;have HB:=zh ap;have HC:=zh h;have HD:=zh h'
 generalize T.length=aq at *
 generalize N.length=ak at *
 generalize A.length=m' at *
 generalize m.length=M' at *
 clear h h' ht ap hk Ve
 have O:Hid (w.grownBy ((w.alloc (.cells #[.slice pt aq ct,.slice pn ak cn] 26)).alloc (.cells #[.slice H m' J,.slice G M' L] 26)) none):=zh (af (af (ad _ _) _) _)
 go_enter Tryz.func53,Tryz.ntmps53
 go_wp2_with fail
 refine(Y _ (HA.kept O) (HB.kept O)).mono ?_
 rintro au w1 ⟨B,ao,rfl,E⟩
 have I:=zh (aa O B)
 obtain⟨W0,b0,b1,hW,e0,e1,cS,dq,-,-⟩:=two w (.cells #[.slice pt aq ct,.slice pn ak cn] 26) (.cells #[.slice H m' J,.slice G M' L] 26)
 rw [<-hW] at B
 obtain⟨a0,a1,a2⟩:=ac (bx B cS)
 obtain⟨c0,c1,c2⟩:=ac (bx B dq)
 rw [<-e0] at a0 a1 a2
 rw [<-e1] at c0 c1 c2
 have dP:=zh E
 clear B Y cS dq hW e0 e1 E
 cases ao
 ·go_wp2_with fail
  go_ret
  exact er I (fun h=>by have:=dP.2 h.1;cases this)
 ·go_wp2_with fail
  refine(Z _ (HC.kept I) (HD.kept I)).mono ?_
  rintro au w2 ⟨bL,ao,rfl,E⟩
  have bF:=zh (aa I bL)
  have bP:=zh E
  clear bL Z E
  go_wp2_with fail
  go_ret
  exact wh bF ⟨fun h=>⟨dP.1 (by simp),bP.1 h⟩,fun h=>bP.2 h.2⟩
end Go.Proofs.YtpkipghjohomcaaGreatDoor
