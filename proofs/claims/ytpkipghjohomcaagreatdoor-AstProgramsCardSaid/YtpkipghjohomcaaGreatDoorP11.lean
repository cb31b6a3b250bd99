/- Lemmas. -/
import Derived.Test.YtpkipghjohomcaaGreatDoorP21
set_option linter.unusedVariables false
set_option linter.unusedSimpArgs false
set_option maxHeartbeats 16000000
set_option maxRecDepth 100000
namespace Go.Proofs.YtpkipghjohomcaaGreatDoor
open Go.RowKit List Nat Go.World
theorem Ik (fn:Nat) (cf:fn=42\/fn=40) {σ : Type} (R : σ->Ex->Nat->σ) (b ak:Nat) (F:Nat->Prop) (P : σ->World->Prop) (LL : σ->Prop) (QQ:Ex->Prop) (ax:Mq R fn b ak F P LL QQ) (x:Ex) (g o:Nat) (s : σ) (w:World) (hs:P s w) (hx:jq F w g o x) (hB:b<w.heap.size) (hc:mF x<=1000000) (hL:LL (uy R x s)) (hQ:QQ x):
  Calls Tryz.prog 39 #[.pointer (some ⟨g,o,none⟩),.func (.func fn) #[] #[.pointer (some ⟨b,0,none⟩)]] w (fun H w'=>H=.returned (.tuple #[])/\P (uy R x s) w'/\Below ak w w'):=by
 rcases cf with rfl | rfl
 all_goals
  have Z:=zh ax;have HP:=zh hs;have HX:=zh hx
  have nQ:=zh ax.tell
  obtain⟨aJ,dA⟩:=zx (uy R x s)
  have Vo:=zh dA
  rw [dA] at hL
  have JT:=zh hL
  have b3:=zh hQ
  have R8:=zh ax.box
  rw [dA]
  have ik:Hid (ak<=w.heap.size):=zh (by have:=ax.box;omega)
  have HC:=zh hc
  have bW:=zh hc
  have SH:=zh (ag.new (s:=2) (T:=135) w w.heap.size [.pointer (some ⟨g,o,none⟩),.int .i64 0] rfl (fun u hu=>by simp at hu;rcases hu with rfl | rfl<;>rfl) (Nat.le_refl _))
  have kD:=zh (qn w (.cells #[.pointer (some ⟨g,o,none⟩),.int .i64 0] 135) none)
  obtain⟨Y,gu⟩:=zx w.heap.size
  have xH:=zh gu
  have dP:Hid (b<Y):=zh (by omega)
  rw [gu] at SH
  clear ax hs hx hc dA hB gu hL hQ
  go_enter Tryz.func39,Tryz.ntmps39
  go_wp2_with fail
  try rw [xH.out]
  have Zp:=zh (Z.grown _ _ _ HP kD)
  have b4:=zh (Z.at HX (Below.gb kD ik))
  have b9:Hid (Below ak w (w.alloc (.cells #[.pointer (some ⟨g,o,none⟩),.int .i64 0] 135))):=zh (Below.gb kD ik)
  have SS:Hid (Y<(w.alloc (.cells #[.pointer (some ⟨g,o,none⟩),.int .i64 0] 135)).heap.size):=zh (by simp;have:=xH.out;omega)
  have UO:Hid (ag 2 135 (w.alloc (.cells #[.pointer (some ⟨g,o,none⟩),.int .i64 0] 135)) Y (.slice (some ⟨Y,0,none⟩) 1 1) [[.pointer (some ⟨g,o,none⟩),.int .i64 0]]):=zh SH.out
  have b1:Hid (sA R [⟨x,0,g,o⟩] s=aJ):=zh (by
   have H:sA R [⟨x,0,g,o⟩] s=rsF R ⟨x,0,g,o⟩ s:=by simp [sA]
   rw [H,<-Gf];exact Vo)
  have bV:Hid (oH [⟨x,0,g,o⟩]<=1000000):=zh (by
   have H:oH [⟨x,0,g,o⟩]=cntF ⟨x,0,g,o⟩:=by simp [oH]
   rw [H,<-GU];exact HC)
  generalize (w.alloc (.cells #[.pointer (some ⟨g,o,none⟩),.int .i64 0] 135))=W at *
  clear SH kD HP HX Vo HC
  go_loopg [4] (oH [⟨x,0,g,o⟩]) (fun gk av wr=>∃(au:List Fm) (s' : σ),oH au<=gk/\gk<=1000000/\Hid (ag 2 135 wr Y av (au.map m4))/\Hid (P s' wr)/\Hid (sA R au s'=aJ)/\Hid (∀m∈au,jq F W m.g m.o m.x/\m.d<=(be m.x).length/\mF m.x<=1000000/\QQ m.x)/\Hid (Below ak W wr)/\Hid (Y<=wr.heap.size))
  case atStart=>exact⟨[⟨x,0,g,o⟩],s,Nat.le_refl _,bV,UO,Zp,b1,zh (fun m hf=>by simp at hf;subst hf;exact⟨b4,zero_le _,bW,b3⟩),zh (Below.refl _ _),zh (Nat.le_of_lt SS)⟩
  case round=>
   obtain⟨au,s',Zo,Qc,HO,BN,ay,XK,KY,Zq⟩:=hrel
   rcases E7 au with rfl | ⟨A,m,rfl⟩
   ·have hv:∃aO ao,u4=.slice aO 0 ao:=by
     obtain⟨aO,ao,H,-⟩:=HO.is
     exact⟨aO,ao,H⟩
    obtain⟨aO,ao,rfl⟩:=hv
    have bX:Hid (s'=aJ):=zh ay.out
    have bS:=zh (Below.trans2 b9 KY)
    go_wp2_with fail
    go_end0
    exact⟨rfl,by rw [<-bX.out];exact BN.out,bS⟩
   ·have hO:ag 2 135 wr Y u4 (A.map m4++[m4 m]):=by have:=HO.out;rwa [map_append] at this
    obtain⟨L,hL⟩:=zx (A.map m4).length
    obtain⟨aO,ao,rfl,dz,zC,xu,-⟩:=hO.is
    obtain⟨-,FO,B,rfl⟩:=hO.pop
    have FQ:=hO.blk
    obtain⟨g2,o2,cI,bN,Eg⟩:=dz.resolve_left (by simp)
    injection cI with cI;injection cI with cI jL;subst cI jL
    have a0:=Eg L (m4 m) (by rw [<-hL];simp) 0 _ rfl
    have a1:=Eg L (m4 m) (by rw [<-hL];simp) 1 _ rfl
    rw [Nat.zero_add,Nat.add_zero] at a0
    rw [Nat.zero_add] at a1
    have dS:(A.map m4++[m4 m]).length=L+1:=by rw [Q2,hL];rfl
    rw [dS] at hO zC ⊢
    rw [hL] at FO
    have XH:Hid (A.length=L):=zh (by rw [<-hL,length_map])
    have cr:L+1<=1000000:=by
     have h1:=B9 (A++[m])
     rw [Q2,length_singleton] at h1
     have h2:=XH.out
     omega
    obtain⟨kz,a3,bw,TJ⟩:=XK m (by simp)
    have Ot:=Z.at kz KY
    have bn:=zh Ot
    obtain⟨pk,ck,c6,-⟩:=Ot.kids
    have Ed:=zh (fun W (h:wr.grownBy W none)=>nQ s' m W (Z.grown _ _ _ BN h) (by have:=dP.out;have:=R8.out;have:=Zq.out;have:=h.size;omega) (Ot.same (Fr2.none (S:=fun _=>False) h) (fun _ _ h=>h)) a3 TJ (IW Z.mono (by rw [ay.out];exact JT)))
    have VC:Hid (ak<=wr.heap.size):=zh (by have:=dP.out;have:=R8.out;have:=Zq.out;omega)
    have zV:=zh hO;have Yb:=zh FQ;have Vh:=zh FO;have S4:=zh kz;have V6:=zh a3;have a4:=zh bw;have bd:=zh TJ
    have Cv:m.g<wr.heap.size:=Ot.2.1
    obtain⟨n1,a7⟩:=zx (L+1)
    have xD:=zh a7
    have cv:IntKind.i64.wrap ((n1:Int) - 1)=(L:Int):=by rw [IntWalk.i64_in _ (by omega)];omega
    have x1:(0:Int)<=(L:Int):=by omega
    have x2:(L:Int)<(n1:Int):=by omega
    have x3:=zE (L<n1)
    have x4:decide ((L:Int)<(n1:Int))=true:=zd x2
    have x5:=zE ((0:Int)<(n1:Int))
    have x6:=zE (0<n1)
    rw [a7] at zV ⊢
    clear bw TJ
    obtain⟨fg,rT⟩:=zx m.g
    obtain⟨fo,TQ⟩:=zx m.o
    obtain⟨E,zW⟩:=zx m.d
    obtain⟨kn,gW⟩:=zx (be m.x).length
    have X0:=zh rT;have NH:=zh TQ;have TW:=zh zW;have uL:=zh gW
    rw [rT,TQ] at a0 Ed
    rw [zW] at a1 Ed a3
    rw [rT,TQ,gW] at c6
    rw [rT] at Cv
    rw [gW] at a3
    clear hO FO FQ dz Eg kz Ot dS hL a7 rT TQ zW gW HO xu
    go_wp2_with fail
    go_region_with (first | ((first | go_at_call 42 | go_at_call 40);refine(Ed.out _ (by repeat (with_reducible first | exact ad _ _ | refine aC ?_))).mono ?_;rintro H w2 ⟨rfl,cI,cB,Jp⟩;have KN:=zh cI;have bP:Hid (Below ak wr w2):=zh (Below.trans2 (Below.gb (show wr.grownBy _ none from(by repeat (with_reducible first | exact ad _ _ | refine aC ?_))) VC.out) cB);have jN:Hid (bU b wr w2):=zh ((bU.none (show wr.grownBy _ none from(by repeat (with_reducible first | exact ad _ _ | refine aC ?_)))).trans Jp);clear cI cB Jp))
    all_goals
     clear a0 a1 c6 Ed Cv
     have eM:=zV.okept jN (by decide) dP
     have qk:=zh eM
     obtain⟨a0,a1,a2,F3,ce,-⟩:=ag.top2 eM
     have Qy:(A.map m4).length=L:=by rw [length_map];exact XH
     rw [Qy] at a0 a1 ce
     rw [X0.out,NH.out] at a0
     rw [TW.out] at a1
     have Tw:=Z.at bn bP
     have NP:=zh Tw
     obtain⟨bM,cc,c6,-⟩:=Tw.kids
     have Cv:=Tw.2.1
     rw [X0.out,NH.out,uL.out] at c6
     rw [X0.out] at Cv
     have uv:=zh (Below.trans2 KY bP)
     have ui:Hid (Y<=w2.heap.size):=zh (Nat.le_trans Zq bP.size)
     have x7:(n1:Int)<=(ao:Int):=by have:=xD.out;omega
     have x8:n1<=ao:=by have:=xD.out;omega
     have x9:L<=ao:=by omega
     clear eM Tw Qy zV bn KY Zq BN jN bP VC
     go_wp2_with fail
     go_quiet (fail)
     have fe:=am (ad w2 none) nq
     have qk:=zh (qk.kept fe);have KN:=zh (Z.grown _ _ _ KN fe)
     have NP:Hid (jq F (w2.drewN nq) m.g m.o m.x):=zh (NP.same (Fr2.none (S:=fun _=>False) fe) (fun _ _ h=>h))
     have uv:=zh (Below.trans2 uv (Below.gb fe (by have:=dP.out;have:=R8.out;have:=ui.out;omega)))
     have ui:Hid (Y<=(w2.drewN nq).heap.size):=zh ui.out
     have a0:(w2.drewN nq).cell? ⟨B,L*2,none⟩=some (.pointer (some ⟨fg,fo,none⟩)):=a0
     have a1:(w2.drewN nq).cell? ⟨B,L*2+1,none⟩=some (.int .i64 (E:Int)):=a1
     have a2:∀a8,(w2.drewN nq).frozen? ⟨B,a8,none⟩=false:=a2
     have F3:B<(w2.drewN nq).heap.size:=F3
     have Cv:fg<(w2.drewN nq).heap.size:=Cv
     have c6:(w2.drewN nq).cell? ⟨fg,fo+6,none⟩=some (.slice bM kn cc):=c6
     clear fe
     generalize w2.drewN nq=w3 at *
     by_cases hd:E=kn
     ·have e1:(E == kn)=true:=by rw [hd];simp
      have uw:((E:Int) == (kn:Int))=true:=by rw [hd];simp
      have NU:=zh hd
      clear hd
      have Od:=qk.pop.2.1
      have mA:(A.map m4).length=L:=by rw [length_map];exact XH
      rw [mA] at Od
      have b6:=zh Od
      have zW:m.d=(be m.x).length:=by rw [TW.out,uL.out];exact NU
      have xE:Hid (sA R A (R s' m.x E)=aJ):=zh (by
       have h:=ay.out
       rw [lq,(Cx R zW _).1] at h
       rw [<-TW.out];exact h)
      have YU:Hid (oH A+1<=gk):=zh (by
       have h:=oq A m
       rw [(Cx R zW s').2] at h;omega)
      clear Od mA zW qk ay a0 a1 a2 c6
      go_wp2_with fail
      go_roundg (oH A)
      case measure=>have:=YU.out;omega
      case rel=>exact⟨A,_,Nat.le_refl _,by have:=YU.out;omega,b6,KN,xE,zh (fun f' a6=>XK f' (mem_append_left _ a6)),uv,ui⟩
     ·have e1:(E == kn)=false:=xz.2 hd
      have uw:=yi (E:Int) (kn:Int)
      have hlt:E<kn:=by omega
      clear hd
      obtain⟨O,aL⟩:∃O,(be m.x)[m.d]? = some O:=⟨(be m.x)[m.d]'(by rw [uL.out,TW.out];exact hlt),QS _⟩
      obtain⟨cl,cd,bt,bs⟩:=(S4.out).kids
      obtain⟨co,cp,aX,bm⟩:=NP.kids
      rw [X0.out,NH.out,uL.out] at aX
      have bB:co=bM:=by
       have h:=aX.symm.trans c6
       injection h with h;injection h with h1 h2 h3
      obtain⟨I,a9,BO,Y7⟩:=bm m.d O aL
      have XI:jq F W I (a9+m.d*8) O:=by
       obtain⟨g9,o9,KM,aq⟩:=bs m.d O aL
       have cu:=(S4.out).kids
       have c9:w3.cell? ⟨m.g,m.o+6,none⟩=some (.slice cl (be m.x).length cd):=by
        rw [cell?_of_block (w:=W) (uv.block m.g (Z.below _ (S4.out).1))];exact bt
       rw [X0.out,NH.out,uL.out] at c9
       have h:=c9.symm.trans aX
       injection h with h;injection h with h1 h2 h3
       rw [h1,BO] at KM
       injection KM with KM;injection KM with KM ch
       subst KM;subst ch
       exact aq
      rw [bB] at BO
      subst BO
      rw [TW.out] at XI
      have y2:(E:Int)<(kn:Int):=by omega
      have y3:decide (E<kn)=true:=zd hlt
      have y4:decide ((E:Int)<(kn:Int))=true:=zd y2
      have y1:(0:Int)<=(E:Int):=by omega
      have dU:kn<=1000000:=by
       have h1:=uT (be m.x)
       have h2:sX (be m.x)<=mF m.x:=by cases m.x with | mk op nm md nu ys ks ps=>simp only [mF,be];omega
       have h3:=a4.out
       rw [<-uL.out];omega
      have Sy:mF O<=1000000:=by
       have h1:=Dv _ _ _ aL
       have h2:sX (be m.x)<=mF m.x:=by cases m.x with | mk op nm md nu ys ks ps=>simp only [mF,be];omega
       have h3:=a4.out
       omega
      have b8:=zh Sy;have TZ:=zh aL
      clear Sy aL
      have ci:IntKind.i64.wrap ((E:Int)+1)=((E+1:Nat):Int):=by rw [IntWalk.i64_in _ (by omega)];omega
      have iE:=zh XI
      clear bs bm bt aX bB Y7 XI
      go_wp2_with fail
      go_quiet (fail)
      have fe:=am (ad w3 none) nq
      have qk:=zh (qk.kept fe);have KN:=zh (Z.grown _ _ _ KN fe)
      have NP:Hid (jq F (w3.drewN nq) m.g m.o m.x):=zh (NP.same (Fr2.none (S:=fun _=>False) fe) (fun _ _ h=>h))
      have uv:=zh (Below.trans2 uv (Below.gb fe (by have:=dP.out;have:=R8.out;have:=ui.out;omega)))
      have ui:Hid (Y<=(w3.drewN nq).heap.size):=zh ui.out
      have a0:(w3.drewN nq).cell? ⟨B,L*2,none⟩=some (.pointer (some ⟨fg,fo,none⟩)):=a0
      have a1:(w3.drewN nq).cell? ⟨B,L*2+1,none⟩=some (.int .i64 (E:Int)):=a1
      have a2:∀a8,(w3.drewN nq).frozen? ⟨B,a8,none⟩=false:=a2
      have F3:B<(w3.drewN nq).heap.size:=F3
      have Cv:fg<(w3.drewN nq).heap.size:=Cv
      clear fe c6
      generalize w3.drewN nq=U at *
      have h5:=ag.last2 (u:=.int .i64 ((E+1:Nat):Int)) rfl qk
      have mA:(A.map m4).length=L:=by rw [length_map];exact XH
      rw [mA] at h5
      rw [X0.out,NH.out] at h5
      have YQ:=zh h5.1;have ef:=zh h5.2
      have a5:Hid (P (R s' m.x E) (U.setCell ⟨B,L*2+1,none⟩ (.int .i64 ((E+1:Nat):Int)))):=zh (by
       obtain⟨SU,cs,Eg⟩:=qk.blk
       exact Z.placed _ _ _ B cs KN h5.2 Eg (by have:=dP.out;omega))
      have Bf:Hid ((A.map m4++[[Value.pointer (some ⟨fg,fo,none⟩),Value.int .i64 ((E+1:Nat):Int)]]).length=n1):=zh (by rw [Q2,mA];exact xD)
      have Us:Hid ((A.map m4++[[Value.pointer (some ⟨fg,fo,none⟩),Value.int .i64 ((E+1:Nat):Int)]]).length<=1000000):=zh (by rw [Bf.out];have:=xD.out;omega)
      obtain⟨G,XE⟩:=zx (E+1)
      have Xa:=zh XE
      rw [XE] at ci YQ ef a5 Bf Us
      clear h5 mA XE
      have bq:Hid (jq F W I (a9+E*8) O):=iE
      obtain⟨J,dx⟩:=zx (a9+E*8)
      rw [dx] at bq ⊢
      clear dx iE
      have z7:Hid ((U.setCell ⟨B,L*2+1,none⟩ (.int .i64 (G:Int))).heap.size=U.heap.size):=zh (by simp [World.setCell])
      have bc:Hid (((U.setCell ⟨B,L*2+1,none⟩ (.int .i64 (G:Int))).alloc (.cells #[.pointer (some ⟨I,J,none⟩),.int .i64 0] 135)).heap[U.heap.size]? = some (.cells #[.pointer (some ⟨I,J,none⟩),.int .i64 0] 135 (0,0))):=zh (by
       have h:=YK (U.setCell ⟨B,L*2+1,none⟩ (.int .i64 (G:Int))) (.cells #[.pointer (some ⟨I,J,none⟩),.int .i64 0] 135)
       rw [z7.out] at h;exact h)
      have py:Hid (((U.setCell ⟨B,L*2+1,none⟩ (.int .i64 (G:Int))).alloc (.cells #[.pointer (some ⟨I,J,none⟩),.int .i64 0] 135)).heap.size=U.heap.size+1):=zh (by
       have h:=z7.out
       simp [h])
      go_wp2_with (at_builtin;go_loud (refine gm (s:=2) (t:=136) (T:=135) (by decide) Tryz.underlying136 Z6 rfl (by omega) rfl _ _ rfl Y (A.map m4++[[Value.pointer (some ⟨fg,fo,none⟩),Value.int .i64 (G:Int)]]) [.pointer (some ⟨I,J,none⟩),.int .i64 0] rfl (fun u hu=>by simp at hu;rcases hu with rfl | rfl<;>rfl) (.slice (some ⟨B,0,none⟩) n1 ao) rfl (ag.kept YQ (qn _ _ none)) U.heap.size _ rfl bc rfl Us (by rw [py.out];have:=ui.out;omega) (U.heap.size+1) py.out ?_))
      intro g9 cb w9 fM bH el
      have bL:U.grownBy (U.setCell ⟨B,L*2+1,none⟩ (.int .i64 (G:Int))) (some B):=ef.out
      have b7:Y<=B:=qk.blk.1
      have iJ:Below ak U w9:=by
       have h1:Below ak U (U.setCell ⟨B,L*2+1,none⟩ (.int .i64 (G:Int))):=(Fr2.of bL (S:=fun ap=>B=ap) (fun ap H=>by injection H)).below (by have:=dP.out;have:=R8.out;have:=ui.out;omega) (fun ap H=>by have:=dP.out;have:=R8.out;omega)
       have h2:Below ak (U.setCell ⟨B,L*2+1,none⟩ (.int .i64 (G:Int))) ((U.setCell ⟨B,L*2+1,none⟩ (.int .i64 (G:Int))).alloc (.cells #[.pointer (some ⟨I,J,none⟩),.int .i64 0] 135)):=Below.gb (qn _ _ none) (by rw [z7.out];have:=dP.out;have:=R8.out;have:=ui.out;omega)
       exact Below.trans2 h1 (Below.trans2 h2 ((Fr2.of bH (S:=fun ap=>(Value.slice (some ⟨B,0,none⟩) n1 ao).ownBlock=some ap) (fun ap H=>H)).below (by rw [py.out];have:=dP.out;have:=R8.out;have:=ui.out;omega) (fun ap H=>by have H:B=ap:=Option.some.inj (show some B=some ap from H);have:=dP.out;have:=R8.out;omega)))
      have bu:P (R s' m.x E) w9:=by
       obtain⟨SU,cs,Eg⟩:=YQ.blk
       exact Z.placed _ _ _ B cs (Z.grown _ _ _ a5 (qn _ _ none)) (show _ from bH) (bx (qn _ _ none) Eg) (by have:=dP.out;omega)
      have bF:Y<=w9.heap.size:=by have h1:=bH.size;rw [py.out] at h1;have:=ui.out;omega
      have fW:=zh (Below.trans2 uv iJ);have b2:=zh bu;have AQ:=zh bF
      have ji:Hid (ag 2 135 w9 Y (.slice (some ⟨g9,0,none⟩) (A.length+1+1) cb) ((A++[{ m with d:=G },⟨O,0,I,J⟩]).map m4)):=zh (by
       rw [map_append]
       have H : [{ m with d:=G },(⟨O,0,I,J⟩:Fm)].map m4 = [[Value.pointer (some ⟨fg,fo,none⟩),Value.int .i64 (G:Int)],[Value.pointer (some ⟨I,J,none⟩),Value.int .i64 0]]:=by
        simp only [map_cons,map_nil,m4]
        rw [X0.out,NH.out];rfl
       rw [H];exact fM)
      have Y6:=SI R TZ s' I J
      have ca:Hid (sA R (A++[{ m with d:=G },⟨O,0,I,J⟩]) (R s' m.x E)=aJ):=zh (by
       have h:=ay.out
       rw [lq,Y6.1] at h
       have H:A++[{ m with d:=G },(⟨O,0,I,J⟩:Fm)]=(A++[{ m with d:=G }])++[⟨O,0,I,J⟩]:=by simp
       rw [H,lq,lq,<-Xa.out,<-TW.out];exact h)
      have bi:Hid (oH (A++[{ m with d:=G },⟨O,0,I,J⟩])+1<=gk):=zh (by
       have h1:=oq A m
       rw [Y6.2] at h1
       have H:A++[{ m with d:=G },(⟨O,0,I,J⟩:Fm)]=(A++[{ m with d:=G }])++[⟨O,0,I,J⟩]:=by simp
       have h2:=oq (A++[{ m with d:=G }]) ⟨O,0,I,J⟩
       have h3:=oq A { m with d:=G }
       rw [H,h2,h3]
       rw [TW.out,Xa.out] at h1
       omega)
      have b5:Hid (∀f'∈A++[{ m with d:=G },⟨O,0,I,J⟩],jq F W f'.g f'.o f'.x/\f'.d<=(be f'.x).length/\mF f'.x<=1000000/\QQ f'.x):=zh (fun f' a6=>by
       rcases mem_append.1 a6 with h | h
       ·exact XK f' (mem_append_left _ h)
       ·rcases mem_cons.1 h with h | h
        ·subst h
         exact⟨S4,by show G<=(be m.x).length;rw [uL.out,<-Xa.out];omega,a4,bd⟩
        ·rcases mem_cons.1 h with h | h
         ·subst h;exact⟨bq,zero_le _,b8,Z.kids _ _ bd (gn TZ)⟩
         ·cases h)
      clear fM bH el bL b7 iJ bu bF Y6 YQ ef a5 Bf Us bc py z7 a0 a1 a2
      go_wp2_with fail
      go_roundg (oH (A++[{ m with d:=G },⟨O,0,I,J⟩]))
      case measure=>have:=bi.out;omega
      case rel=>exact⟨_,_,Nat.le_refl _,by have:=bi.out;omega,ji,b2,ca,b5,fW,AQ⟩
end Go.Proofs.YtpkipghjohomcaaGreatDoor
