/- Lemmas. -/
import Derived.Test.YtjbgnopnehgbaaaGreatDoorP19
set_option linter.unusedVariables false
set_option linter.unusedSimpArgs false
set_option maxHeartbeats 32000000
set_option maxRecDepth 100000
namespace Go.Proofs.YtjbgnopnehgbaaaGreatDoor
open Go.RowKit
theorem Gc {T:List Tok} {N:List Nd} {K:Kf} (hT:T.length≤150000) (hN:N.length≤150000) {n kd:Nat} {ks:List Int} {l:List Tr} (hx:N[n]? = some ⟨(kd:Int),-1,ks⟩) (jX:KT N n ks l) (lJ:ix l) (lH:∀i∈eo l,i<T.length) (db:dI l≤150000) (dp:∀t∈l,OkK T t) (vo:∀i,(tkT T i).pos≤1000000∧(tkT T i).text.length≤1000000) (pt pn:Option Addr) (ct cn:Nat) (w:World) (ht:TAt w pt T) (hn:aE w pn N K) (cg:fy w):
  Calls Tryz.prog 92 #[.agg #[.slice pt T.length ct,.slice pn N.length cn],.int .i64 (n:Int)] w (Fl (eH T l) w):=by
 have ET:l.length≤150000:=Nat.le_trans (jk l) db
 have rh:=zh (fun (n:Nat) (x:Nd) W (hx:N[n]? = some x) h=>tL (K:=K) hN hx pt pn T.length ct cn W h)
 have bP:=zh (fun (n:Nat) (x:Nd) W (hx:N[n]? = some x) h=>qz (K:=K) hN hx pt pn T.length ct cn W h)
 have kA:=zh (fun (n i:Nat) W (hx:N[n]? = some ⟨19,(i:Int),[]⟩) (hi:i<T.length) h1 h2=>zx (K:=K) hT hN hx hi pt pn ct cn W h1 h2)
 have IL:=zh (fun (n:Nat) (k:Nat) (ks:List Int) (l:List Tr) W (hx:N[n]? = some ⟨(k:Int),-1,ks⟩) (jX:KT N n ks l) (lJ:ix l) (lH:∀i∈eo l,i<T.length) (ET:l.length≤150000) h1 h2=>pW (K:=K) hT hN hx jX lJ lH ET pt pn ct cn W h1 h2)
 have xz:=zh (fun (t:Tr) (kx:Int) W (hs:szR t≤150000) (hg:rH T N kx t) h1 h2 h3=>Dm (K:=K) hT hN pt pn ct cn (szR t) t kx W hs (Nat.le_refl _) hg h1 h2 h3)
 have HX:=zh hx;have sD:=zh jX;have Js:=zh lJ;have vB:=zh lH;have pO:=zh db;have vu:=zh dp;have Jn:=zh vo
 have HT:=zh ht;have HN:=zh hn;have gf:=zh cg
 have xN:=zh (fun W h=>bP.out n _ W hx h)
 have C6:Hid (∀W,aE W pn N K→VAt W (K n).1 (bo ks)):=zh (fun W h=>h.2 n _ hx)
 obtain⟨mt,vM⟩:∃mt,T.length=mt:=⟨_,rfl⟩
 obtain⟨mn,sM⟩:∃mn,N.length=mn:=⟨_,rfl⟩
 obtain⟨M,hM⟩:∃M,ks.length=M:=⟨_,rfl⟩
 have R3:M=l.length:=by rw [←hM];exact jX.1
 have zA:=zh R3
 have hMm:M≤150000:=by omega
 rw [vM,sM] at rh bP kA IL xz xN ⊢
 have xN:Hid (∀W,aE W pn N K→Calls Tryz.prog 49 #[.agg #[.slice pt mt ct,.slice pn mn cn],.int .i64 (n:Int)] W (aR (.slice (K n).1 M (K n).2) W)):=zh (fun W h=>by rw [←hM];exact xN.out W h)
 have AZ:=zh vM
 generalize (K n).1=pk at *
 generalize (K n).2=ck at *
 clear ht hn cg hx jX lJ lH db dp vo hT hN vM sM hM R3 ET
 go_enter Tryz.func92,Tryz.ntmps92
 go_wp2_with fail
 obtain⟨W,b0,b1,b2,hW,e0,e1,e2,ge,ik,gS,jC,zR,zX⟩:=three w (.cells #[.slice pt mt ct,.slice pn mn cn] 73) (.cells #[.string ⟨#[]⟩,.int .i64 0,.slice none 0 0,.int .i64 0,.int .i64 0] 168) (.cells #[.string ⟨#[]⟩,.int .i64 0,.slice none 0 0,.int .i64 0,.int .i64 0] 168)
 have ZK:W.heap.size=b2+1:=by rw [hW];simp;omega
 have f9:=zh ge;have iV:=zh ik;have fu:=zh gS;have da:=zh jC;have kD:=zh e0;have HE1:=zh e1;have Yu:=zh ZK
 clear ge ik gS jC
 try rw [←hW]
 try rw [e2]
 try rw [e1]
 try rw [e0]
 clear e0 e1 e2 hW ZK
 refine(xN.out _ (HN.out.kept da.out)).mono ?_
 rintro e w5 ⟨rfl,jI⟩
 have iD:=zh (aa da.out jI)
 have Qd:=zh (bx jI f9.out);have Ut:=zh (bx jI iV.out);have P0:=zh (bx jI fu.out)
 have HS5:Hid (b2+1≤w5.heap.size):=zh (by have:=Yu.out;have:=jI.size;omega)
 clear jI
 go_wp2_with fail
 go_loopw [14] (fun iv wr=>∃(j:Nat) (q:List Value),j≤M∧iv=.int .i64 (j:Int)∧Hid (wr.heap[b2]? = some (.cells q.toArray 168 (0,0)))∧Hid (PAt (fun k=>b2+1≤k∧k<wr.heap.size) wr (eH T (l.take j)) q)∧Hid (Fr2 (fun k=>k=b2) w5 wr)) (fun iv _=>M - (intOf iv).toNat)
 case atStart=>exact⟨0,_,Nat.zero_le _,rfl,P0,zh ⟨none,0,[],rfl,GAt.nil,by simp [eH,LsE],fun h=>absurd rfl h⟩,zh (Fr2.refl _ _)⟩
 case round=>
  obtain⟨j,q,hj,rfl,eM,UM,HF⟩:=hrel
  have j4:Hid (w.grownBy wr none):=zh (Fr2.after iD.out HF.out (fun i hi=>by have:=kD.out;omega))
  have lu:=zh (HN.out.kept j4.out);have Bv:=zh (HT.out.kept j4.out);have JD:=zh (gf.out.kept j4.out)
  have iw:=zh (HF.out.keep Qd.out (by omega));have n5:=zh (HF.out.keep Ut.out (by omega))
  have JU:Hid (b2+1≤wr.heap.size):=zh (Nat.le_trans HS5.out HF.out.size)
  obtain⟨a0,a1,a2⟩:=ah iw.out
  have jK:b0<wr.heap.size:=hlt iw.out
  obtain⟨F,hF⟩:∃F,eH T (l.take j)=F:=⟨_,rfl⟩
  have HFJ:=zh hF
  rw [hF] at UM
  clear hF
  obtain⟨pc,nc,cc,rfl⟩:=UM.out.form
  by_cases hlj:j<M
  ·obtain⟨u,hu⟩:∃u,l[j]? = some u:=⟨l[j]'(by have:=zA.out;omega),List.getElem?_eq_getElem _⟩
   obtain⟨k1,iP,eU,lz⟩:=sD.out.2 j u hu
   obtain⟨g,off,rfl,gc,SO⟩:=gW (C6.out _ lu.out) iP
   have y1:(0:Int)≤(j:Int):=by omega
   have y2:(j:Int)<(M:Int):=by omega
   have y3:decide (j<M)=true:=zd hlj
   have y4:decide ((j:Int)<(M:Int))=true:=zd y2
   have ue:=zh (vu.out u (List.mem_of_getElem? hu))
   have ir:=zh (AG T hu)
   rw [HFJ.out] at ir
   cases u with
   | lf i=>
     obtain⟨n',j5,jb⟩:=eU.lf
     have j5:k1=n':=by omega
     subst j5
     have hi:i<mt:=by rw [←AZ.out];exact vB.out i (zM hu)
     have iS:=zh (rh.out k1 _ wr jb lu.out)
     have Kd:=zh (fun W h1 h2=>kA.out k1 i W jb hi h1 h2)
     unfold uN at Kd
     obtain⟨tk,qK⟩:∃tk,(tkT T i).kind=tk:=⟨_,rfl⟩
     obtain⟨tp,rR⟩:∃tp,(tkT T i).pos=tp:=⟨_,rfl⟩
     obtain⟨y9,S3⟩:∃y:ByteArray,(⟨(tkT T i).lead.toArray⟩:ByteArray)=y:=⟨_,rfl⟩
     obtain⟨yt,CB⟩:∃y:ByteArray,(⟨(tkT T i).text.toArray⟩:ByteArray)=y:=⟨_,rfl⟩
     have HYT:=zh CB
     unfold aw at Kd
     rw [qK,rR,S3,CB] at Kd
     have ir:Hid (eH T (l.take (j+1))=if tk=1 then { F with nm:=(tkT T i).text,ps:=tp } else F):=zh (by rw [ir.out,wy,qK,rR])
     clear hu iP eU lz jb hi qK rR S3 CB ue
     go_wp2_with fail
     refine iS.out.mono ?_
     rintro e w6 ⟨rfl,dk⟩
     have dQ:=zh dk
     obtain⟨a0,a1,a2⟩:=ah (bx dk iw.out)
     have jK:b0<w6.heap.size:=zn jK dk.size
     clear dk iS
     go_wp2_with fail
     refine(Kd.out _ (Bv.out.kept dQ.out) (lu.out.kept dQ.out)).mono ?_
     rintro e w7 ⟨rfl,iG⟩
     have gT:=zh (aa dQ.out iG)
     obtain⟨f0,f1,f2,f3,f4,f5⟩:=fj (bx gT.out eM.out)
     have dC:b2<w7.heap.size:=hlt (bx gT.out eM.out)
     clear iG Kd
     by_cases h1:tk=1
     ·have q1:((tk:Int) == 1)=true:=by rw [h1];rfl
      rw [if_pos h1] at ir
      clear h1
      go_wp2_with fail
      obtain⟨W8,b8,OR,e8,hB8,Mb,zC⟩:=Vn w7 (.cells #[.int .i64 (tk:Int),.string y9,.string yt,.int .i64 (tp:Int)] 105)
      have jl:=zh (aa gT.out Mb)
      have BN:=zh (bx jl.out eM.out)
      clear f0 f1 f2 f3 f4 f5
      obtain⟨t0,t1,t2,t3,t4⟩:=sW hB8
      obtain⟨f0,f1,f2,f3,f4,f5⟩:=fj BN.out
      have akf:b2<b8:=by rw [←e8];exact dC
      have dC:b2<W8.heap.size:=hlt BN.out
      have ZU:b8<W8.heap.size:=hlt hB8
      try rw [←OR]
      try rw [e8]
      clear OR e8 hB8 Mb zC
      go_region
      all_goals
       go_wp2_with fail
       have eO:wr.grownBy W8.drew none:=aF jl.out
       have hf:Fr2 (fun k=>k=b2) W8.drew ((W8.drew.setCell ⟨b2,0,none⟩ (.string yt)).setCell ⟨b2,3,none⟩ (.int .i64 (tp:Int))):=Fr2.setCell (S:=fun k=>k=b2) (Fr2.setCell (S:=fun k=>k=b2) (Fr2.refl _ _) (g:=b2) (j:=0) rfl _) (g:=b2) (j:=3) rfl _
       have HBn:=zh (ab (i:=3) (u:=.int .i64 (tp:Int)) (ab (i:=0) (u:=.string yt) (bx (aF (ad W8 none)) BN.out)))
       have Yw:=zh (PAt.mono (F':=fun k=>b2+1≤k∧k<((W8.drew.setCell ⟨b2,0,none⟩ (.string yt)).setCell ⟨b2,3,none⟩ (.int .i64 (tp:Int))).heap.size) (fun k hk=>⟨hk.1,zn hk.2 (Nat.le_trans eO.size hf.size)⟩) (PAt.same hf (fun k hk e=>by have e:k=b2:=e;have:=hk.1;omega) (PAt.turn (UM.out.kept eO) (tkT T i).text F.base tp F.bare)))
       rw [HYT.out] at Yw
       have Zx:=zh ((HF.out.trans (Fr2.none eO)).trans hf)
       clear eO hf
       go_roundw
       case rel=>exact⟨j+1,_,by omega,by go_num,HBn,zh (by rw [ir.out];exact Yw.out),Zx⟩
       case measure=>simp [intOf];omega
     ·have q1:((tk:Int) == 1)=false:=beq_eq_false_iff_ne.2 (by omega)
      rw [if_neg h1] at ir
      clear h1
      go_wp2_with fail
      go_roundw
      case rel=>exact⟨j+1,_,by omega,by go_num,zh (bx (ae gT.out _) eM.out),zh (by rw [ir.out];exact PAt.mono (fun k hk=>⟨hk.1,zn hk.2 (ae gT.out _).size⟩) (UM.out.kept (ae gT.out _))),zh (HF.out.trans (Fr2.none (ae gT.out _)))⟩
      case measure=>simp [intOf];omega
   | nd k' l'=>
     obtain⟨n',Ik,j5,jb,oh⟩:=eU.nd
     have j5:k1=n':=by omega
     subst j5
     have sx:=fB Js.out hu
     simp only [kOk] at sx
     have NB:=sx.2.2
     have NI:∀z∈eo l',z<T.length:=fun z hz=>vB.out z (gE hu z (by simp only [lvT];exact hz))
     have WZ:dI l'+1≤150000:=by have h9:=je hu;have h8:=pO.out;simp only [szR] at h9;omega
     have q19:((k':Int) == 19)=false:=beq_eq_false_iff_ne.2 (by omega)
     have iS:=zh (rh.out k1 _ wr jb lu.out)
     by_cases h5:k'=5
     ·obtain⟨b,rfl⟩:=ue.out.1 h5
      have q5:((k':Int) == 5)=true:=by rw [h5];rfl
      have Pw:=zh (fun W h1 h2=>IL.out k1 k' Ik [.lf b] W jb oh NB (fun z hz=>by have:=NI z hz;rw [AZ.out] at this;exact this) (by simp) h1 h2)
      obtain⟨tk,qK⟩:∃tk,(tkT T b).kind=tk:=⟨_,rfl⟩
      obtain⟨tp,rR⟩:∃tp,(tkT T b).pos=tp:=⟨_,rfl⟩
      obtain⟨y9,S3⟩:∃y:ByteArray,(⟨(tkT T b).lead.toArray⟩:ByteArray)=y:=⟨_,rfl⟩
      obtain⟨yt,CB⟩:∃y:ByteArray,(⟨(tkT T b).text.toArray⟩:ByteArray)=y:=⟨_,rfl⟩
      have HYT:=zh CB
      have lL:yt.data.toList=(tkT T b).text:=by rw [←CB]
      have jL:yt.size=(tkT T b).text.length:=by rw [←aM,lL]
      have vo:=Jn.out b
      rw [rR,←jL] at vo
      have rC:IntKind.i64.wrap ((tp:Int)+(yt.size:Int))=((tp+yt.size:Nat):Int):=by rw [IntWalk.i64_in _ (by omega)];simp
      have nK:=zh (fun W=>XT yt W)
      rw [lL] at nK
      have ir:Hid (eH T (l.take (j+1))={ F with base:=rd (tkT T b).text,bare:=((tp+yt.size:Nat):Int) }):=zh (by rw [ir.out,wy,if_pos h5,jL,←rR];rfl)
      obtain⟨bn,hbn⟩:∃bn,rd (tkT T b).text=bn:=⟨_,rfl⟩
      rw [hbn] at nK ir
      have rW:Hid (∀(W:World) (p:Option Addr),TAt W p ((aX [Tr.lf b]).map (tkT T))→∃g off,p=some ⟨g,off,none⟩∧g<W.heap.size∧W.cell? ⟨g,off,none⟩=some (.int .i64 (tk:Int))∧W.cell? ⟨g,off+1,none⟩=some (.string y9)∧W.cell? ⟨g,off+2,none⟩=some (.string yt)∧W.cell? ⟨g,off+3,none⟩=some (.int .i64 (tp:Int))):=zh (fun W p h=>by
       obtain⟨g2,Be,ee,vA,c0,c1,c2,c3⟩:=bQ h (i:=0) (by simp [aX])
       have e0:tkT ((aX [Tr.lf b]).map (tkT T)) 0=tkT T b:=by simp [tkT,aX]
       rw [e0,Nat.zero_mul,Nat.add_zero] at c0 c1 c2 c3
       unfold aw at c1 c2
       rw [qK] at c0;rw [S3] at c1;rw [CB] at c2;rw [rR] at c3
       exact⟨g2,Be,ee,vA,c0,c1,c2,c3⟩)
      have Pw:Hid (∀W,TAt W pt T→aE W pn N K→Calls Tryz.prog 52 #[.agg #[.slice pt mt ct,.slice pn mn cn],.int .i64 (k1:Int)] W (fun e w'=>W.grownBy w' none∧∃p c,e=.returned (.slice p 1 c)∧TAt w' p ((aX [Tr.lf b]).map (tkT T)))):=Pw
      clear hu iP eU lz jb sx NB NI WZ ue h5 oh qK rR S3 CB lL jL hbn
      go_wp2_with fail
      refine iS.out.mono ?_
      rintro e w6 ⟨rfl,dk⟩
      have dQ:=zh dk
      obtain⟨a0,a1,a2⟩:=ah (bx dk iw.out)
      have jK:b0<w6.heap.size:=zn jK dk.size
      clear dk iS
      go_wp2_with fail
      refine(Pw.out _ (Bv.out.kept dQ.out) (lu.out.kept dQ.out)).mono ?_
      rintro e w7 ⟨iG,pr,cr,rfl,Zr⟩
      obtain⟨gr,aem,rfl,OH,r0,r1,r2,r3⟩:=rW.out _ _ Zr
      have gT:=zh (aa dQ.out iG)
      obtain⟨f0,f1,f2,f3,f4,f5⟩:=fj (bx gT.out eM.out)
      have dC:b2<w7.heap.size:=hlt (bx gT.out eM.out)
      clear iG Pw Zr rW
      go_wp2_with fail
      obtain⟨W8,b9,OR,e8,Wc,Mb,zC⟩:=Vn w7 (.cells #[.int .i64 (tk:Int),.string y9,.string yt,.int .i64 (tp:Int)] 105)
      have jl:=zh (aa gT.out Mb)
      have BN:=zh (bx jl.out eM.out);have rf:=zh Wc
      clear f0 f1 f2 f3 f4 f5 r0 r1 r2 r3
      obtain⟨t0,t1,t2,t3,t4⟩:=sW rf.out
      obtain⟨f0,f1,f2,f3,f4,f5⟩:=fj BN.out
      have ajA:b2<b9:=by rw [←e8];exact dC
      have ahf:b2≠b9:=by omega
      have dC:b2<W8.heap.size:=hlt BN.out
      have kJ:b9<W8.heap.size:=hlt rf.out
      try rw [←OR]
      try rw [e8]
      clear OR e8 Wc Mb zC
      go_region_held3 (fun w'=>w'.cell? ⟨b9,2,none⟩=some (.string yt)∧w'.cell? ⟨b9,3,none⟩=some (.int .i64 (tp:Int)))
       (first | with_reducible exact⟨t2,t3⟩ | go_keep)
       (first | (go_at_call 123;refine(nK.out _).mono ?_;rintro e w9 ⟨rfl,eu⟩;have rr:=zh (aa (show W8.grownBy _ none from gbx) eu);obtain⟨t0,t1,t2,t3,t4⟩:=sW (bx rr.out rf.out);obtain⟨f0,f1,f2,f3,f4,f5⟩:=fj (bx rr.out BN.out);have dC:b2<w9.heap.size:=zn dC rr.out.size;clear eu))
      all_goals
       go_wp2_with fail
       have eO:wr.grownBy w9 none:=aa jl.out rr.out
       have hf:Fr2 (fun k=>k=b2) w9 ((w9.setCell ⟨b2,1,none⟩ (.int .i64 (bn:Int))).setCell ⟨b2,4,none⟩ (.int .i64 ((tp+yt.size:Nat):Int))):=Fr2.setCell (S:=fun k=>k=b2) (Fr2.setCell (S:=fun k=>k=b2) (Fr2.refl _ _) (g:=b2) (j:=1) rfl _) (g:=b2) (j:=4) rfl _
       have HBn:=zh (ab (i:=4) (u:=.int .i64 ((tp+yt.size:Nat):Int)) (ab (i:=1) (u:=.int .i64 (bn:Int)) (bx rr.out BN.out)))
       have Yw:=zh (PAt.mono (F':=fun k=>b2+1≤k∧k<((w9.setCell ⟨b2,1,none⟩ (.int .i64 (bn:Int))).setCell ⟨b2,4,none⟩ (.int .i64 ((tp+yt.size:Nat):Int))).heap.size) (fun k hk=>⟨hk.1,zn hk.2 (Nat.le_trans eO.size hf.size)⟩) (PAt.same hf (fun k hk e=>by have e:k=b2:=e;have:=hk.1;omega) (PAt.turn (UM.out.kept eO) F.nm bn F.ps ((tp+yt.size:Nat):Int))))
       have Zx:=zh ((HF.out.trans (Fr2.none eO)).trans hf)
       clear eO hf
       go_roundw
       case rel=>exact⟨j+1,_,by omega,by go_num,HBn,zh (by rw [ir.out];exact Yw.out),Zx⟩
       case measure=>simp [intOf];omega
     ·by_cases h6:k'=6
      ·obtain⟨i6,e6,j6,rfl,he1,Lk⟩:=ue.out.2 h6
       have q5:((k':Int) == 5)=false:=beq_eq_false_iff_ne.2 (by omega)
       have q6:((k':Int) == 6)=true:=by rw [h6];rfl
       obtain⟨ke,hke,hte,-⟩:=oh.2 1 e6 rfl
       have Da:rH T N (ke:Int) e6:=⟨he1,Lk,fB NB (j:=1) (t:=e6) rfl,fun z hz=>NI z (gE (j:=1) (t:=e6) rfl z hz),hte⟩
       have HEE:=zh (fun W h1 h2 h3=>xz.out e6 (ke:Int) W (by have h9:=je (l:=[Tr.lf i6,e6,Tr.lf j6]) (j:=1) (t:=e6) rfl;omega) Da h1 h2 h3)
       have Jp:=zh (fun W h=>bP.out k1 _ W jb h)
       obtain⟨g6,aee,hp6,TI,ce⟩:=gW (HN.out.2 k1 _ jb) hke
       have akn:b2≠g6:=by have:=kD.out;omega
       have SD:b2≠b0:=by omega
       have ce:=j4.out.cell ce (by simp)
       have TI:g6<wr.heap.size:=zn TI j4.out.size
       simp only at Jp
       rw [hp6] at Jp
       have Jt:Ik.length=3:=oh.1
       rw [Jt] at Jp
       generalize (K k1).2=ck6 at Jp
       have O9:(bR T [Tr.lf i6,e6,Tr.lf j6]).headD MV=axT T e6:=by rw [bR,if_neg (by simp [isN]),bR,if_pos he1];rfl
       have ir:Hid (eH T (l.take (j+1))={ F with cl:=[axT T e6],bare:=-1 }):=zh (by rw [ir.out,wy,if_neg h5,if_pos h6,O9])
       have HC6:=zh ce
       clear hu iP eU lz jb sx NB NI WZ ue h5 h6 oh hke hte Da hp6 Jt O9 he1 Lk
       go_wp2_with fail
       refine iS.out.mono ?_
       rintro e w6 ⟨rfl,dk⟩
       have dQ:=zh dk
       obtain⟨a0,a1,a2⟩:=ah (bx dk iw.out)
       obtain⟨f0,f1,f2,f3,f4,f5⟩:=fj (bx dk eM.out)
       have jK:b0<w6.heap.size:=zn jK dk.size
       have dC:b2<w6.heap.size:=hlt (bx dk eM.out)
       have ce:=dk.cell ce (by simp)
       have TI:g6<w6.heap.size:=zn TI dk.size
       clear dk iS
       go_wp2_with fail
       have Zj:=zh TI
       go_region_held3 (fun w'=>w'.cell? ⟨b0,0,none⟩=some (.slice pt mt ct)∧w'.cell? ⟨b0,1,none⟩=some (.slice pn mn cn)∧w'.cell? ⟨g6,aee+1,none⟩=some (.int .i64 (ke:Int)))
        (first | with_reducible exact⟨a0,a1,ce⟩ | go_keep)
        (first
         | (go_at_call 49;refine(Jp.out _ (lu.out.kept (aa dQ.out gbx))).mono ?_;rintro e w7 ⟨rfl,iG⟩;have gT:=zh (aa dQ.out (aa (show w6.grownBy _ none from gbx) iG));obtain⟨a0,a1,a2⟩:=ah (bx gT.out iw.out);obtain⟨f0,f1,f2,f3,f4,f5⟩:=fj (bx gT.out eM.out);have ce:=gT.out.cell HC6.out (by simp);have dC:b2<w7.heap.size:=hlt (bx gT.out eM.out);have TI:g6<w7.heap.size:=zn Zj.out (aa (show w6.grownBy _ none from gbx) iG).size;clear iG)
         | (go_at_call 58;refine(HEE.out _ (Bv.out.kept (aa gT.out gbx)) (lu.out.kept (aa gT.out gbx)) (JD.out.kept (aa gT.out gbx))).mono ?_;rintro e w8 ⟨zi,qe,rfl,hq⟩;obtain⟨q0,q1,q2,q3,q4,Y4,YG,q7,rfl⟩:=hq.eight;have HQ:=zh hq;have s78:w7.heap.size≤w8.heap.size:=(aa (show w7.grownBy _ none from gbx) zi).size;have jl:=zh (aa gT.out (aa (show w7.grownBy _ none from gbx) zi));have TI:g6<w8.heap.size:=zn TI s78;obtain⟨a0,a1,a2⟩:=ah (bx jl.out iw.out);obtain⟨f0,f1,f2,f3,f4,f5⟩:=fj (bx jl.out eM.out);have ce:=jl.out.cell HC6.out (by simp);have dC:b2<w8.heap.size:=hlt (bx jl.out eM.out);clear zi hq))
       all_goals
        go_wp2_with fail
        have hf:Fr2 (fun k=>k=b2) w8 ((w8.setCell ⟨b2,2,none⟩ (.slice (some ⟨w8.heap.size,0,none⟩) 1 1)).setCell ⟨b2,4,none⟩ (.int .i64 (-1))):=Fr2.setCell (S:=fun k=>k=b2) (Fr2.setCell (S:=fun k=>k=b2) (Fr2.refl _ _) (g:=b2) (j:=2) rfl _) (g:=b2) (j:=4) rfl _
        have zC:((w8.setCell ⟨b2,2,none⟩ (.slice (some ⟨w8.heap.size,0,none⟩) 1 1)).setCell ⟨b2,4,none⟩ (.int .i64 (-1))).heap.size=w8.heap.size:=by simp [World.setCell]
        have dG:=World.grownBy_alloc ((w8.setCell ⟨b2,2,none⟩ (.slice (some ⟨w8.heap.size,0,none⟩) 1 1)).setCell ⟨b2,4,none⟩ (.int .i64 (-1))) (.cells #[q0,q1,q2,q3,q4,Y4,YG,q7] 30) none
        have hA:=heap_alloc_new ((w8.setCell ⟨b2,2,none⟩ (.slice (some ⟨w8.heap.size,0,none⟩) 1 1)).setCell ⟨b2,4,none⟩ (.int .i64 (-1))) (.cells #[q0,q1,q2,q3,q4,Y4,YG,q7] 30)
        rw [zC] at hA
        have UT:(((w8.setCell ⟨b2,2,none⟩ (.slice (some ⟨w8.heap.size,0,none⟩) 1 1)).setCell ⟨b2,4,none⟩ (.int .i64 (-1))).alloc (.cells #[q0,q1,q2,q3,q4,Y4,YG,q7] 30)).heap.size=w8.heap.size+1:=by rw [←zC];simp
        have HBn:=zh (bx dG (ab (i:=4) (u:=.int .i64 (-1)) (ab (i:=2) (u:=.slice (some ⟨w8.heap.size,0,none⟩) 1 1) (bx jl.out eM.out))))
        have aa5:b2<w7.heap.size:=by have h1:=JU.out;have h2:=gT.out.size;omega
        have vE:=(EAt.same hf (fun k hk e=>by have e:k=b2:=e;have h1:w7.heap.size≤k:=hk.1;omega) HQ.out.bound).kept dG
        have Yw:Hid (PAt (fun k=>b2+1≤k∧k<(((w8.setCell ⟨b2,2,none⟩ (.slice (some ⟨w8.heap.size,0,none⟩) 1 1)).setCell ⟨b2,4,none⟩ (.int .i64 (-1))).alloc (.cells #[q0,q1,q2,q3,q4,Y4,YG,q7] 30)).heap.size) (((w8.setCell ⟨b2,2,none⟩ (.slice (some ⟨w8.heap.size,0,none⟩) 1 1)).setCell ⟨b2,4,none⟩ (.int .i64 (-1))).alloc (.cells #[q0,q1,q2,q3,q4,Y4,YG,q7] 30)) { F with cl:=[axT T e6],bare:=-1 } [.string ⟨F.nm.toArray⟩,.int .i64 (F.base:Int),.slice (some ⟨w8.heap.size,0,none⟩) 1 1,.int .i64 (F.ps:Int),.int .i64 (-1)]):=zh ⟨_,1,[[q0,q1,q2,q3,q4,Y4,YG,q7]],rfl,Qc hA,by
         simp only [LsE]
         exact⟨_,[],rfl,EAt.mono (fun k hk=>by have h1:w7.heap.size≤k:=hk.1;have h2:=hk.2;rw [UT];omega) vE,rfl⟩,fun _=>⟨_,rfl,by rw [UT];have h2:=hlt (bx jl.out eM.out);simp only;omega⟩⟩
        have Zx:=zh (((HF.out.trans (Fr2.none jl.out)).trans hf).trans (Fr2.none dG))
        clear hf zC dG hA UT vE
        go_roundw
        case rel=>exact⟨j+1,_,by omega,by go_num,HBn,zh (by rw [ir.out];exact Yw.out),Zx⟩
        case measure=>simp [intOf];omega
      ·have q5:((k':Int) == 5)=false:=beq_eq_false_iff_ne.2 (by omega)
       have q6:((k':Int) == 6)=false:=beq_eq_false_iff_ne.2 (by omega)
       have ir:Hid (eH T (l.take (j+1))=F):=zh (by rw [ir.out,wy,if_neg h5,if_neg h6])
       clear hu iP eU lz jb sx NB NI WZ ue h5 h6 oh
       go_wp2_with fail
       refine iS.out.mono ?_
       rintro e w6 ⟨rfl,dk⟩
       have dQ:=zh dk
       clear dk iS
       go_wp2_with fail
       go_roundw
       case rel=>exact⟨j+1,_,by omega,by go_num,zh (bx dQ.out eM.out),zh (by rw [ir.out];exact PAt.mono (fun k hk=>⟨hk.1,zn hk.2 dQ.out.size⟩) (UM.out.kept dQ.out)),zh (HF.out.trans (Fr2.none dQ.out))⟩
       case measure=>simp [intOf];omega
  ·obtain rfl:j=M:=by omega
   have Ys:eH T l=F:=by rw [←HFJ.out,List.take_of_length_le (by have:=zA.out;omega)]
   have wb:=zh Ys
   obtain⟨f0,f1,f2,f3,f4,f5⟩:=fj eM.out
   obtain⟨g0,g1,g2,g3,g4,g5⟩:=fj n5.out
   have fw:b1<wr.heap.size:=hlt n5.out
   have dC:b2<wr.heap.size:=hlt eM.out
   clear Ys
   go_wp2_with fail
   obtain⟨hp,hf⟩:=Td n5.out (.string ⟨F.nm.toArray⟩) (.int .i64 (F.base:Int)) (.slice pc nc cc) (.int .i64 (F.ps:Int)) (.int .i64 F.bare)
   obtain⟨r0,r1,r2,r3,r4,-⟩:=fj hp
   have HP:Hid (Fl F w (.returned (.agg #[.string ⟨F.nm.toArray⟩,.int .i64 (F.base:Int),.slice pc nc cc,.int .i64 (F.ps:Int),.int .i64 F.bare])) _):=zh ⟨Fr2.after j4.out hf (fun k e=>by have e:k=b1:=e;have:=kD.out;have:=HE1.out;omega),_,rfl,PAt.mono (fun k hk=>by have:=kD.out;have:=hk.1;omega) (PAt.same hf (fun k hk e=>by have e:k=b1:=e;have:=hk.1;omega) UM.out)⟩
   refine bodyPost_ret (v:=.agg #[.string ⟨F.nm.toArray⟩,.int .i64 (F.base:Int),.slice pc nc cc,.int .i64 (F.ps:Int),.int .i64 F.bare]) (by simp [results,Tryz.results92,go_sem,r0,r1,r2,r3,r4]) rfl (by rw [wb.out];exact HP.out)
end Go.Proofs.YtjbgnopnehgbaaaGreatDoor
