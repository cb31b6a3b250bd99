/- Lemmas. -/
import Derived.Test.YtpkipghjohomcaaGreatDoorP33
set_option linter.unusedVariables false
set_option linter.unusedSimpArgs false
set_option maxHeartbeats 16000000
set_option maxRecDepth 100000
namespace Go.Proofs.YtpkipghjohomcaaGreatDoor
open Go.RowKit List Nat Go.World
structure DBd (d:Dx):Prop where
 size:cY d.body<=1000000
 small:iL d.body
 name:d.res.nm.length<=1000000
 pars:d.ps.length<=1000000
 names:∀f∈d.ps,f.nm.length<=1000000
def Ib (F:Nat->Prop) (P:Px) (w:World) (e:Ending) (B:World):Prop:=w.grownBy B none/\∃A,e=.returned (.agg A.toArray)/\gq (fun m=>F m\/w.heap.size<=m) B (un P) A
theorem J4 {w:World} {G:Option Addr} {l:List (List UInt8×Nat)} (h:GAt 2 w G (l.map iK)) {j:Nat} {x:List UInt8×Nat} (J:l[j]? = some x):∃g m,G=some ⟨g,m,none⟩/\g<w.heap.size/\w.cell? ⟨g,m+j*2,none⟩=some (.string ⟨x.1.toArray⟩)/\w.cell? ⟨g,m+j*2+1,none⟩=some (.int .i64 (x.2:Int)):=by
 have B:(l.map iK)[j]? = some (iK x):=by rw [getElem?_map,J];rfl
 obtain⟨g,m,rfl,H,A⟩:=h.resolve_left (fun I=>by rw [I] at B;simp at B)
 have A:=A j _ B
 have E:=A 0 _ rfl
 rw [Nat.add_zero] at E
 exact⟨g,m,rfl,H,E,A 1 _ rfl⟩
theorem Ti {F X:Nat->Prop} {P:Px} {w wr:World} {b0 m B J H L I:Nat} {p2 p3:Option Addr} {ak:List (List Value)} {y0 y1:Value} (hw:w.heap.size=b0) (lu:b0<m) (au:m<B) (hG:w.grownBy wr none) (dq:wr.heap[m]? = some (.cells #[y0,y1] 35 (0,0)))
  (ap:ag 2 98 wr B (.slice p2 J H) (P.imps.map iK)) (ao:ag 15 62 wr B (.slice p3 L I) ak) (kZ:dG (vZ F b0 B wr X) wr (P.defs.map oG) ak):
  Ib F P w (.returned (.agg #[.slice p2 J H,.slice p3 L I])) ((wr.setCell ⟨m,0,none⟩ (.slice p2 J H)).setCell ⟨m,1,none⟩ (.slice p3 L I)):=by
 obtain⟨Hn,gi,bi⟩:=ap.rows
 obtain⟨K3,gd,bd⟩:=ao.rows
 rw [length_map] at Hn
 have O:=mp kZ
 have hf:Fr2 (fun E=>E=m) wr ((wr.setCell ⟨m,0,none⟩ (.slice p2 J H)).setCell ⟨m,1,none⟩ (.slice p3 L I)):=(js wr m 0 _).trans (js _ m 1 _)
 have hP:gq (fun E=>(F E/\E<b0)\/B<=E) wr (un P) [.slice p2 J H,.slice p3 L I]:=⟨p2,H,p3,I,ak,by rw [Hn,K3,O];rfl,gi,gd,lU (fun E A=>A.imp id (fun h=>h.1)) kZ,fun U=>by
  obtain⟨R,Z,Y⟩:=bi (fun G=>U (map_eq_nil_iff.1 G));exact⟨R,Z,.inr Y.1⟩,fun U=>by
  obtain⟨R,Z,Y⟩:=bd (fun G=>U (by rw [G] at O;exact fb O.symm));exact⟨R,Z,.inr Y.1⟩⟩
 refine⟨Fr2.after hG hf (fun aq hj=>by have G:aq=m:=hj;omega),_,rfl,gq.mono (fun E A=>?_) (gq.same hf (fun E A G=>?_) hP)⟩
 ·rcases A with A | A
  ·exact .inl A.1
  ·exact .inr (by omega)
 ·have G:E=m:=G
  rcases A with A | A
  ·have:=A.2;omega
  ·omega
theorem Tz (F:Nat->Prop) (P:Px) (q:List Value) (w:World) (hx:gq F w P q) (hi:P.imps.length<=1000000) (aL:∀x∈P.imps,x.1.length<=1000000) (hd:P.defs.length<=1000000) (yM:∀d∈P.defs,DBd d):
  Calls Tryz.prog 11 #[.agg q.toArray] w (Ib F P w):=by
 obtain⟨pi,ci,pd,cd,fH,rfl,Uu,fe,rP,-,-⟩:=hx
 have a4:=zh Uu;have rg:=zh fe;have a2:=zh (wq rP);have cU:=zh aL;have mf:=zh yM
 have CT:=zh (fun (av:List UInt8) (W:World) (h:av.length<=1000000)=>n6 ⟨av.toArray⟩ W (by rw [<-aQ];show av.length<=_;omega))
 obtain⟨ao,hn⟩:=zx P.imps.length
 obtain⟨ak,hm⟩:=zx P.defs.length
 have HN:=zh hn;have HM:=zh hm
 rw [hn] at hi ⊢
 rw [hm] at hd ⊢
 clear Uu fe rP aL yM hn hm
 go_enter Tryz.func11,Tryz.ntmps11
 go_wp2_with fail
 obtain⟨W,b0,b1,m,hW,e0,e1,e2,cS,dq,ec,dp,lu,oR⟩:=three w (.cells #[.slice pi ao ci,.slice pd ak cd] 35) (.cells #[.slice none 0 0,.slice none 0 0] 35) (.cells #[.slice none 0 0,.slice none 0 0] 35)
 have ky:W.heap.size=m+1:=by rw [hW];simp;omega
 have bB:=zh cS;have bS:=zh dq;have bP:=zh ec;have bm:=zh dp;have gj:=zh e0
 try rw [<-hW]
 try rw [e2]
 try rw [e1]
 try rw [e0]
 obtain⟨B,hB⟩:=zx W.heap.size
 have Rx:=zh hB
 have Y:Hid (b0<b1/\b1<m/\m<B/\w.heap.size=b0):=zh (by omega)
 clear cS dq ec dp e0 e1 e2 hW ky hB
 go_loopg [11] ao (fun gk iv wr=>∃(G:Nat) (p2:Option Addr) (O U:Nat),G<=ao/\iv=.int .i64 (G:Int)/\ao - G<=gk/\gk<=ao/\Hid (wr.heap[m]? = some (.cells #[.slice p2 O U,.slice none 0 0] 35 (0,0)))/\Hid (ag 2 98 wr B (.slice p2 O U) ((P.imps.take G).map iK))/\Hid (Fr2 (fun E=>E=m\/B<=E) W wr))
 case atStart=>exact⟨0,none,0,0,zero_le _,rfl,by omega,Nat.le_refl _,bP,zh (ag.nil _ _ _ _),zh (Fr2.refl _ _)⟩
 case round=>
  obtain⟨G,p2,O,U,hj,rfl,Qc,Zn,bW,HO,HF⟩:=hrel
  have cW:Hid (w.grownBy wr none):=zh (Fr2.after bm HF (fun E hk=>by have:=Y.out;rcases hk with rfl | hk<;>omega))
  have bV:=zh (HF.keep bB (fun A=>by have:=Y.out;rcases A with A | A<;>omega));have iN:=zh (HF.keep bS (fun A=>by have:=Y.out;rcases A with A | A<;>omega))
  have nz:Hid (B<=wr.heap.size):=zh (by have:=HF.size;have:=Rx.out;omega)
  by_cases aX:G<ao
  ·obtain⟨x,hx⟩:∃x,P.imps[G]? = some x:=⟨P.imps[G]'(by rw [HN.out];exact aX),QS _⟩
   obtain⟨ap,bs,rfl,bN,c0,c1⟩:=J4 a4 hx
   have jw:Hid (P.imps.take (G+1)=P.imps.take G++[x]):=zh (by rw [take_add_one,hx];rfl)
   have c0:=cW.cell c0 (by simp);have c1:=cW.cell c1 (by simp)
   have bN:ap<wr.heap.size:=zn bN cW.size
   have ay:=zh (fun W=>CT x.1 W (cU x (gn hx)))
   obtain⟨yf,nZ⟩:∃ax:ByteArray,(⟨x.1.toArray⟩:ByteArray)=ax:=⟨_,rfl⟩
   obtain⟨xp,YP⟩:=zx x.2
   have xL:Hid (iK x = [.string yf,.int .i64 (xp:Int)]):=zh (by unfold iK aD;rw [nZ,YP])
   rw [nZ] at c0 ay
   rw [YP] at c1
   obtain⟨LS,kZ⟩:=zx ((P.imps.take G).map iK)
   have fc:=zh kZ
   have hO:=HO.out
   rw [kZ] at hO
   obtain⟨bt,bn,DR,-⟩:=hO.is
   have a0:O=LS.length:=by injection DR
   have mz:=zh a0
   have qP:Hid (LS.length<=1000000):=zh (by rw [<-kZ,length_map,length_take,HN.out];omega)
   have jN:=zh hO
   have i1:(0:Int)<=(G:Int):=by omega
   have i2:(G:Int)<(ao:Int):=by omega
   have i3:decide (G<ao)=true:=zd aX
   have i4:decide ((G:Int)<(ao:Int))=true:=zd i2
   obtain⟨d0,d1,d2⟩:=ac bW
   have cB:m<wr.heap.size:=hlt bW
   clear hx kZ hO HO nZ DR a0 YP
   go_wp2_with fail
   obtain⟨WX,b5,Ow,e5,yr,oT⟩:=vw wr (.cells #[.string yf,.int .i64 (xp:Int)] 98)
   have uz:=zh yr;have aO:=zh oT;have Ef:=zh e5
   have KD:=zh (bx oT bW)
   have UM:=zh (jN.kept oT)
   have vD:Hid (B<=WX.heap.size):=zh (Nat.le_trans nz oT.size)
   clear yr oT c0 c1 d0 d1 d2 cB bN
   try rw [<-Ow]
   try rw [e5]
   clear e5 Ow
   obtain⟨r0,r1,r2⟩:=ac uz
   obtain⟨d0,d1,d2⟩:=ac KD
   have rX:b5<WX.heap.size:=hlt uz
   have cB:m<WX.heap.size:=hlt KD
   go_region_law (first
    | (refine eG (s:=2) (t:=32) (T:=98) (by decide) Tryz.underlying32 MW rfl (by omega) rfl _ _ rfl B LS [.string yf,.int .i64 (xp:Int)] rfl (fun u hu=>by simp at hu;rcases hu with rfl | rfl<;>rfl) (.slice p2 O U) rfl (ag.kept fh gby) w7.heap.size _ rfl (by exact iH) rfl qP (by have:=gO.out;simp;omega) (w7.heap.size+1) (by simp) ?_;intro L J R fM bH el;have iJ:=(bH.block m (by simp;omega) (fun A=>by have:=(ag.at fh m A.symm).1;have:=Y.out;omega)).trans (show _=_ from bx (show w7.grownBy _ none from gby) jC);obtain⟨z0,z1,z2⟩:=ac iJ;have fW:=zh iJ;have ji:=zh fM;have ii:=zh bH;have cB:m<R.heap.size:=hlt iJ;clear iJ fM bH el)
    | (go_simp;go_at_call 32;refine(ay.out _).mono ?_;rintro A w7 ⟨rfl,dV⟩;have cG:=zh (aa (show WX.grownBy _ none from gby) dV);have fh:=zh (UM.kept cG);have jC:=zh (bx cG KD);have WV:=zh (bx cG uz);obtain⟨r0,r1,r2⟩:=ac WV.out;obtain⟨d0,d1,d2⟩:=ac jC.out;have rX:b5<w7.heap.size:=hlt WV.out;have cB:m<w7.heap.size:=hlt jC.out;have gO:Hid (B<=w7.heap.size):=zh (Nat.le_trans vD cG.size);have iH:=zh (YK w7 (.cells #[.string yf,.int .i64 (xp:Int)] 98));clear dV))
   all_goals
    have dz:w7.grownBy (w7.alloc (.cells #[.string yf,.int .i64 (xp:Int)] 98)) none:=qn _ _ _
    have ua:Fr2 (fun i=>(Value.slice p2 O U).ownBlock=some i) (w7.alloc (.cells #[.string yf,.int .i64 (xp:Int)] 98)) R:=Fr2.of ii (fun i A=>A)
    have gB:Hid (Fr2 (fun E=>E=m\/B<=E) W (R.setCell ⟨m,0,none⟩ (.slice (some ⟨L,0,none⟩) (LS.length+1) J))):=zh ((((HF.trans (Fr2.none aO)).trans (Fr2.none cG)).trans (Fr2.none dz)).trans ((ua.mono (fun E hk=>.inr (ag.at fh E hk).1)).trans ((js R m 0 _).mono (fun E hk=>.inl hk))))
    have fq:Hid ((R.setCell ⟨m,0,none⟩ (.slice (some ⟨L,0,none⟩) (LS.length+1) J)).heap[m]? = some (.cells #[.slice (some ⟨L,0,none⟩) (LS.length+1) J,.slice none 0 0] 35 (0,0))):=zh (ab (i:=0) (u:=.slice (some ⟨L,0,none⟩) (LS.length+1) J) fW)
    have iQ:Hid (ag 2 98 (R.setCell ⟨m,0,none⟩ (.slice (some ⟨L,0,none⟩) (LS.length+1) J)) B (.slice (some ⟨L,0,none⟩) (LS.length+1) J) ((P.imps.take (G+1)).map iK)):=zh (by
     rw [jw.out,map_append,fc.out]
     have A : [x].map iK = [[.string yf,.int .i64 (xp:Int)]]:=by rw [map_cons,map_nil,xL.out]
     rw [A]
     exact ji.keptS (js R m 0 _) (fun ap hg A=>by have A:ap=m:=A;have:=Y.out;omega))
    have Wg:ao<=1000000:=hi
    have a6:IntKind.i64.wrap ((G:Int)+1)=((G+1:Nat):Int):=by rw [IntWalk.i64_in _ (by omega)];omega
    clear dz ua ji fW ii iH fh jC WV r0 r1 r2 d0 d1 d2 z0 z1 z2 rX cB
    go_wp2_with fail
    go_roundg (ao - (G+1))
    case measure=>omega
    case rel=>exact⟨G+1,some ⟨L,0,none⟩,LS.length+1,J,by omega,by first | rfl | go_num,Nat.le_refl _,by omega,fq,iQ,gB⟩
  ·obtain rfl:G=ao:=by omega
   obtain⟨d0,d1,d2⟩:=ac bW
   obtain⟨r0,r1,r2⟩:=ac bV
   have dZ:b0<wr.heap.size:=hlt bV
   have cB:m<wr.heap.size:=hlt bW
   have a5:Hid (ag 2 98 wr B (.slice p2 O U) (P.imps.map iK)):=zh (by
    have:=HO.out
    rw [V7 (by have:=HN.out;omega)] at this;exact this)
   have Vo:=HF
   clear HO HF
   go_wp2_with fail
   clear d0 d1 d2 r0 r1 r2 dZ cB
   go_loopg [30] ak (fun gk iv wr=>∃(H:Nat) (I:List (List Value)) (p3:Option Addr) (n3 c3:Nat),H<=ak/\iv=.int .i64 (H:Int)/\ak - H<=gk/\gk<=ak/\Hid (wr.heap[m]? = some (.cells #[.slice p2 O U,.slice p3 n3 c3] 35 (0,0)))/\Hid (ag 2 98 wr B (.slice p2 O U) (P.imps.map iK))/\Hid (ag 15 62 wr B (.slice p3 n3 c3) I)/\Hid (Sep (.slice p2 O U) (.slice p3 n3 c3))/\Hid (dG (vZ F b0 B wr (Wr3 m (.slice p2 O U) (.slice p3 n3 c3))) wr ((P.defs.take H).map oG) I)/\Hid (Fr2 (fun E=>E=m\/B<=E) W wr))
   case atStart=>exact⟨0,[],none,0,0,zero_le _,rfl,by omega,Nat.le_refl _,bW,a5,zh (ag.nil _ _ _ _),zh (fun E _ h=>by cases h),zh (by simp [dG]),Vo⟩
   case round=>
    obtain⟨H,I,p3,n3,c3,ZC,rfl,Zx,bc,NJ,qs,tS,Er,aq,YL⟩:=hrel
    have Z:Hid (w.grownBy wr none):=zh (Fr2.after bm YL (fun E hk=>by have:=Y.out;rcases hk with rfl | hk<;>omega))
    have QW:=zh (YL.keep bB (fun A=>by have:=Y.out;rcases A with A | A<;>omega));have SO:=zh (YL.keep bS (fun A=>by have:=Y.out;rcases A with A | A<;>omega))
    have Zs:Hid (B<=wr.heap.size):=zh (by have:=YL.size;have:=Rx.out;omega)
    by_cases xS:H<ak
    ·obtain⟨d,P4⟩:∃d,P.defs[H]? = some d:=⟨P.defs[H]'(by rw [HM.out];exact xS),QS _⟩
     obtain⟨qd,OV,Km⟩:=AG a2 P4
     have WJ:=Km
     obtain⟨pp,np,cp,eJ,pc,nc,cc,qb,rfl,-,aJ,-,-⟩:=WJ
     obtain⟨o9,p9,a9,b9,s9,y9,z9,uP,n9,c9,uc,ut,rfl⟩:=aJ.form
     simp only [cons_append,nil_append] at Km OV
     clear aJ
     obtain⟨gd,bd,rfl,R7,mC⟩:=rg.resolve_left (fun A=>by rw [A] at OV;simp at OV)
     have mC:=mC H _ OV
     have e0:=Z.cell (mC 0 _ rfl) (by simp)
     have e1:=Z.cell (mC 1 _ rfl) (by simp)
     have e2:=Z.cell (mC 2 _ rfl) (by simp)
     have e3:=Z.cell (mC 3 _ rfl) (by simp)
     have e4:=Z.cell (mC 4 _ rfl) (by simp)
     have e5:=Z.cell (mC 5 _ rfl) (by simp)
     have e6:=Z.cell (mC 6 _ rfl) (by simp)
     have e7:=Z.cell (mC 7 _ rfl) (by simp)
     have e8:=Z.cell (mC 8 _ rfl) (by simp)
     have e9:=Z.cell (mC 9 _ rfl) (by simp)
     have qC:=Z.cell (mC 10 _ rfl) (by simp)
     have rG:=Z.cell (mC 11 _ rfl) (by simp)
     have qR:=Z.cell (mC 12 _ rfl) (by simp)
     have rh:=Z.cell (mC 13 _ rfl) (by simp)
     have rS:=Z.cell (mC 14 _ rfl) (by simp)
     rw [Nat.add_zero] at e0
     obtain⟨yn,vt⟩:∃ax:ByteArray,(⟨d.res.nm.toArray⟩:ByteArray)=ax:=⟨_,rfl⟩
     unfold aD at e1 Km
     rw [vt] at e1 Km
     have R7:gd<wr.heap.size:=zn R7 Z.size
     have iS:=mf d (gn P4)
     have jw:Hid ((P.defs.take (H+1)).map oG=(P.defs.take H).map oG++[oG d]):=zh (by rw [take_add_one,P4,map_append];rfl)
     have a3:=zh (fun W (h:w.grownBy W none)=>S7 (fun E=>F E/\E<w.heap.size) d _ W (Km.kept h) iS.size iS.small iS.name iS.pars iS.names)
     have H3:Hid (I.length<=1000000):=zh (by have h1:=mp aq.out;rw [length_map,length_take] at h1;omega)
     obtain⟨bu,bq,DR,-⟩:=tS.is
     have a1:n3=I.length:=by injection DR
     have a8:=zh a1
     have i1:(0:Int)<=(H:Int):=by omega
     have i2:(H:Int)<(ak:Int):=by omega
     have i3:decide (H<ak)=true:=zd xS
     have i4:decide ((H:Int)<(ak:Int))=true:=zd i2
     clear P4 OV Km mC iS DR a1 vt
     go_wp2_with fail
     obtain⟨WX,b7,Ow,eX,vY,oT⟩:=vw wr (.cells #[.bool d.pub,.string yn,.slice pp np cp,.int .i64 (d.res.base:Int),.slice pc nc cc,.int .i64 o9,.string a9,.string b9,.bool s9,.slice z9 n9 c9,.bool y9,.slice uP uc ut,.int .i64 p9,.int .i64 (d.res.ps:Int),.int .i64 d.res.bare] 62)
     have i8:=zh vY;have aO:=zh oT;have pJ:=zh eX
     have KD:=zh (bx oT NJ)
     have bi:=zh (tS.kept oT)
     have vD:Hid (B<=WX.heap.size):=zh (Nat.le_trans Zs oT.size)
     clear vY oT e0 e1 e2 e3 e4 e5 e6 e7 e8 e9 qC rG qR rh rS R7
     try rw [<-Ow]
     try rw [eX]
     clear eX Ow
     obtain⟨x0,x1,x2,x3,x4,x5,x6,x7,x8,x9,gE,gw,fS,fv,kU,a7⟩:=br i8
     obtain⟨d0,d1,d2⟩:=ac KD
     have lP:b7<WX.heap.size:=hlt i8
     have cB:m<WX.heap.size:=hlt KD
     go_region_law (first
      | (refine eG (s:=15) (t:=33) (T:=62) (by decide) Tryz.underlying33 NX rfl (by omega) rfl _ _ rfl B I [q0,q1,q2,q3,q4,q5,q6,q7,q8,q9,mQ,mr,mN,ql,BV] rfl rp (.slice p3 n3 c3) rfl (ag.kept fh gby) w7.heap.size _ rfl (by exact iH) rfl H3 (by have:=gO.out;simp;omega) (w7.heap.size+1) (by simp) ?_;intro L J R fM bH el;have iJ:=(bH.block m (by simp;omega) (fun A=>by have:=(ag.at fh m A.symm).1;have:=Y.out;omega)).trans (show _=_ from bx (show w7.grownBy _ none from gby) jC);obtain⟨y0,y1,y2⟩:=ac iJ;have fW:=zh iJ;have ji:=zh fM;have ii:=zh bH;have oC:=zh el;have cB:m<R.heap.size:=hlt iJ;clear iJ fM bH el)
      | (go_simp;go_at_call 33;refine(a3 _ (aa Z (aa aO (show WX.grownBy _ none from gby)))).mono ?_;rintro A w7 ⟨dV,q,rfl,hq⟩;obtain⟨-,qq,q0,q1,q2,q3,q4,q5,q6,q7,q8,q9,mQ,mr,mN,ql,BV,rfl⟩:=hq.fift;have rp:=zh qq;have HQ:=zh hq;have cG:=zh (aa (aa aO (show WX.grownBy _ none from gby)) dV);have fh:=zh (tS.kept cG);have jC:=zh (bx cG NJ);obtain⟨d0,d1,d2⟩:=ac jC.out;have cB:m<w7.heap.size:=hlt jC.out;have gO:Hid (B<=w7.heap.size):=zh (Nat.le_trans Zs cG.size);have iH:=zh (YK w7 (.cells #[q0,q1,q2,q3,q4,q5,q6,q7,q8,q9,mQ,mr,mN,ql,BV] 62));clear dV hq qq))
     all_goals
      have dz:w7.grownBy (w7.alloc (.cells #[q0,q1,q2,q3,q4,q5,q6,q7,q8,q9,mQ,mr,mN,ql,BV] 62)) none:=qn _ _ _
      have ua:Fr2 (fun i=>(Value.slice p3 n3 c3).ownBlock=some i) (w7.alloc (.cells #[q0,q1,q2,q3,q4,q5,q6,q7,q8,q9,mQ,mr,mN,ql,BV] 62)) R:=Fr2.of ii (fun i A=>A)
      have oW:Hid (dG (vZ F b0 B (R.setCell ⟨m,1,none⟩ (.slice (some ⟨L,0,none⟩) (I.length+1) J)) (Wr3 m (.slice p2 O U) (.slice (some ⟨L,0,none⟩) (I.length+1) J))) (R.setCell ⟨m,1,none⟩ (.slice (some ⟨L,0,none⟩) (I.length+1) J)) ((P.defs.take (H+1)).map oG) (I++[[q0,q1,q2,q3,q4,q5,q6,q7,q8,q9,mQ,mr,mN,ql,BV]])):=zh (by
       rw [jw.out]
       exact I9 (w7:=w7) (wa:=w7.alloc (.cells #[q0,q1,q2,q3,q4,q5,q6,q7,q8,q9,mQ,mr,mN,ql,BV] 62)) (by have:=Y.out;omega) (by have:=Y.out;omega) Zs (by have:=Y.out;omega) (hlt NJ) qs tS aq cG (DAt.mono (fun E hk=>hk.imp (fun h=>⟨h.1,by have:=Y.out;have:=h.2;omega⟩) (fun h=>Nat.le_trans aO.size h)) HQ) dz (by simp) ii oC)
      have fq:Hid ((R.setCell ⟨m,1,none⟩ (.slice (some ⟨L,0,none⟩) (I.length+1) J)).heap[m]? = some (.cells #[.slice p2 O U,(.slice (some ⟨L,0,none⟩) (I.length+1) J)] 35 (0,0))):=zh (ab (i:=1) (u:=(.slice (some ⟨L,0,none⟩) (I.length+1) J)) fW)
      have iQ:Hid (ag 15 62 (R.setCell ⟨m,1,none⟩ (.slice (some ⟨L,0,none⟩) (I.length+1) J)) B (.slice (some ⟨L,0,none⟩) (I.length+1) J) (I++[[q0,q1,q2,q3,q4,q5,q6,q7,q8,q9,mQ,mr,mN,ql,BV]])):=zh (ji.keptS (js R m 1 _) (fun ap hg A=>by have A:ap=m:=A;have:=Y.out;omega))
      have LH:Hid (ag 2 98 (R.setCell ⟨m,1,none⟩ (.slice (some ⟨L,0,none⟩) (I.length+1) J)) B (.slice p2 O U) (P.imps.map iK)):=zh ((ag.keptR (ag.kept qs (aa cG dz)) ii (fun E h1 h2=>Er E h1 h2)).keptS (js R m 1 _) (fun ap hg A=>by have A:ap=m:=A;have:=Y.out;omega))
      have ru:Hid (Sep (.slice p2 O U) (.slice (some ⟨L,0,none⟩) (I.length+1) J)):=zh (Sep.symm (qK (Sep.symm Er) (fun E A=>by have h1:=(ag.at qs E A).2;have h2:=cG.size;omega) oC))
      have gB:Hid (Fr2 (fun E=>E=m\/B<=E) W (R.setCell ⟨m,1,none⟩ (.slice (some ⟨L,0,none⟩) (I.length+1) J))):=zh (((YL.trans (Fr2.none cG)).trans (Fr2.none dz)).trans ((ua.mono (fun E hk=>.inr (ag.at fh E hk).1)).trans ((js R m 1 _).mono (fun E hk=>.inl hk))))
      have Wg:ak<=1000000:=hd
      have a6:IntKind.i64.wrap ((H:Int)+1)=((H+1:Nat):Int):=by rw [IntWalk.i64_in _ (by omega)];omega
      clear dz ua ji fW ii oC iH HQ rp fh jC x0 x1 x2 x3 x4 x5 x6 x7 x8 x9 gE gw fS fv kU a7 d0 d1 d2 y0 y1 y2 lP cB aq qs tS YL
      go_wp2_with fail
      go_roundg (ak - (H+1))
      case measure=>omega
      case rel=>exact⟨H+1,I++[[q0,q1,q2,q3,q4,q5,q6,q7,q8,q9,mQ,mr,mN,ql,BV]],some ⟨L,0,none⟩,I.length+1,J,by omega,by first | rfl | go_num,Nat.le_refl _,by omega,fq,LH,iQ,ru,oW,gB⟩
    ·obtain rfl:H=ak:=by omega
     have au:=aq.out
     rw [V7 (by have:=HM.out;omega)] at au
     obtain⟨d0,d1,d2⟩:=ac NJ
     obtain⟨r0,r1,r2⟩:=ac SO
     have eg:b1<wr.heap.size:=hlt SO
     have cB:m<wr.heap.size:=hlt NJ
     have HP:=zh (Ti (P:=P) Y.2.2.2 Y.1 (by have:=Y.out;omega) Z SO qs tS au)
     clear au
     go_wp2_with fail
     obtain⟨k0,k1,-⟩:=ac (show((wr.setCell ⟨b1,0,none⟩ (.slice p2 O U)).setCell ⟨b1,1,none⟩ (.slice p3 n3 c3)).heap[b1]? = some (Obj.cells #[.slice p2 O U,.slice p3 n3 c3] 35 (0,0)) from ab (i:=1) (u:=.slice p3 n3 c3) (ab (i:=0) (u:=.slice p2 O U) SO))
     refine bodyPost_ret (v:=.agg #[.slice p2 O U,.slice p3 n3 c3]) (by simp [results,Tryz.results11,go_sem,k0,k1]) rfl HP
end Go.Proofs.YtpkipghjohomcaaGreatDoor
