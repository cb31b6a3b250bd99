/- Lemmas. -/
import Derived.Test.YtpkipghjohomcaaGreatDoorP15
set_option linter.unusedVariables false
set_option linter.unusedSimpArgs false
set_option maxHeartbeats 16000000
set_option maxRecDepth 100000
namespace Go.Proofs.YtpkipghjohomcaaGreatDoor
open Go.RowKit List Nat Go.World
theorem pz (T:List Tok) (N:List Nd) (K:Nat->Option Addr×Nat) (pt pn:Option Addr) (ct cn ao:Nat) (ap:RIH T N K pt pn ct cn ao) (hT:T.length<=40000) (hN:N.length<=150000)
  (n:Nat) (ks:List Int) (kd:Int) (l:List Tr) (hx:N[n]? = some ⟨kd,-1,ks⟩) (Z:KT N n ks l) (hm:bK l<=ao) (mA:l.length<=150000) (dx:fj l) (hl:∀t∈l,isN t=true->∀k:Int,ug N k t->kQ T N k t)
  (J L:Nat) (w:World) (ht:bl w pt (T.map toI)) (hw:al w pn N K):
  Calls Tryz.prog 92 #[.agg #[.slice pt T.length ct,.slice pn N.length cn],.int .i64 (n:Int),.int .i64 (J:Int),.int .i64 (L:Int)] w (iq (.mk J [] [] [] false (bQ T l) L) w):=by
 obtain⟨g,ak,rfl,bN,c0,c1,c2⟩:=bZ hw hx
 have iE:=zh (hw.2 n _ hx)
 have hn:n<N.length:=(Q4.1 hx).1
 have HW:=zh hw;have HT:=zh ht;have Ec:=zh ap;have HL:=zh hl;have kA:=zh Z;have sE:=zh dx;have lj:=zh hm
 obtain⟨Y,hM⟩:=zx N.length
 obtain⟨tm,kK⟩:=zx T.length
 obtain⟨R,dU⟩:=zx ks.length
 have fP:Hid (R=l.length):=zh (by rw [<-dU];exact Z.1)
 have HM:=zh hM;have ue:=zh kK
 have Bo:R<=150000:=by have:=fP.out;omega
 simp only at c0 c1 c2
 rw [hM] at hn hN ⊢
 rw [kK] at hT ⊢
 rw [dU] at c2
 have Ec:Hid (∀(t:Tr) (k:Nat) (w:World),szR t<=ao->kQ T N (k:Int) t->bl w pt (T.map toI)->al w (some ⟨g,ak,none⟩) N K->Calls Tryz.prog 58 #[.agg #[.slice pt tm ct,.slice (some ⟨g,ak,none⟩) Y cn],.int .i64 (k:Int)] w (iq (axT T t) w)):=zh (by rw [<-hM,<-kK];exact Ec)
 obtain⟨kq,kV⟩:=zx (K n).1
 obtain⟨kc,px⟩:=zx (K n).2
 have iE:Hid (VAt w kq (ar ks)):=zh (by rw [<-kV];exact iE)
 rw [kV,px] at c2
 have d1:decide (n<Y)=true:=zd hn
 have ml:=zE ((n:Int)<(Y:Int))
 have mR:Hid (g<w.heap.size):=zh bN
 clear hx hw ht ap hl Z hM kK dU kV px dx hm mA
 have jo:=af (af (qn w (.cells #[.slice pt tm ct,.slice (some ⟨g,ak,none⟩) Y cn] 46) none) (.cells #[.int .i64 0,.string ⟨#[]⟩,.string ⟨#[]⟩,.string ⟨#[]⟩,.bool false,.slice none 0 0,.int .i64 0] 68)) (.cells #[.int .i64 (J:Int),.string ⟨#[]⟩,.string ⟨#[]⟩,.string ⟨#[]⟩,.bool false,.slice none 0 0,.int .i64 (L:Int)] 68)
 have c2:=jo.cell c2 (by simp)
 go_enter Tryz.func92,Tryz.ntmps92
 go_wp2_with fail
 obtain⟨W,b0,b1,m,hW,e0,e1,e2,cS,dq,ec,dp,lu,oR⟩:=three w (.cells #[.slice pt tm ct,.slice (some ⟨g,ak,none⟩) Y cn] 46) (.cells #[.int .i64 0,.string ⟨#[]⟩,.string ⟨#[]⟩,.string ⟨#[]⟩,.bool false,.slice none 0 0,.int .i64 0] 68) (.cells #[.int .i64 (J:Int),.string ⟨#[]⟩,.string ⟨#[]⟩,.string ⟨#[]⟩,.bool false,.slice none 0 0,.int .i64 (L:Int)] 68)
 have ky:W.heap.size=m+1:=by rw [hW];simp;omega
 have bB:=zh cS;have bS:=zh dq;have bP:=zh ec;have bm:=zh dp;have gj:=zh e0;have ll:=zh e1;have uh:=zh ky
 clear cS dq ec dp c2 jo c0 c1
 try rw [<-hW]
 try rw [e2]
 try rw [e1]
 try rw [e0]
 clear e0 e1 e2 hW ky
 go_loopw [11] (fun iv wr=>∃(j:Nat) (A:List (List Value)) (G:Option Addr) (B E:Nat),j<=R/\iv=.int .i64 (j:Int)/\Hid (wr.heap[m]? = some (.cells #[.int .i64 (J:Int),.string ⟨#[]⟩,.string ⟨#[]⟩,.string ⟨#[]⟩,.bool false,.slice G B E,.int .i64 (L:Int)] 68 (0,0)))/\Hid (ag 7 68 wr (m+1) (.slice G B E) A)/\Hid (LsR (fun k=>m+1<=k/\k<wr.heap.size/\k≠m/\(Value.slice G B E).ownBlock≠some k) wr (bQ T (l.take j)) A)/\Hid (Fr2 (fun k=>k=m) W wr)) (fun iv _=>R - (intOf iv).toNat)
 case atStart=>exact⟨0,[],none,0,0,zero_le _,rfl,bP,zh (ag.nil _ _ _ _),zh (by simp [bQ,LsR]),zh (Fr2.refl _ _)⟩
 case round=>
  obtain⟨j,A,G,B,E,hj,rfl,bW,HO,fc,U⟩:=hrel
  have cW:Hid (w.grownBy wr none):=zh (Fr2.after bm U (fun i hi=>by have:=gj.out;omega))
  have CJ:=zh (HW.kept cW)
  have rV:=zh (HT.kept cW)
  have bV:=zh (U.keep bB (by omega))
  have iN:=zh (U.keep bS (by omega))
  have Ez:Hid (m+1<=wr.heap.size):=zh (by rw [<-uh.out];exact U.size)
  have AR:g<wr.heap.size:=zn mR cW.size
  obtain⟨a0,a1,a2⟩:=ac bV
  obtain⟨f0,f1,f2,f3,f4,f5,f6,f7⟩:=aN bW
  have ay:b0<wr.heap.size:=hlt bV
  have JQ:m<wr.heap.size:=hlt bW
  by_cases hlt:j<R
  ·obtain⟨u,hu⟩:∃u,l[j]? = some u:=⟨l[j]'(by have:=fP.out;omega),QS _⟩
   obtain⟨k1,eD,dK,gW⟩:=kA.2 j u hu
   obtain⟨g1,dR,rfl,je,jx⟩:=bO iE eD
   have jx:=cW.cell jx (by simp)
   have je:g1<wr.heap.size:=zn je cW.size
   have y1:(0:Int)<=(j:Int):=by omega
   have y2:(j:Int)<(R:Int):=by omega
   have y3:decide (j<R)=true:=zd hlt
   have y4:decide ((j:Int)<(R:Int))=true:=zd y2
   have x1:(0:Int)<=(k1:Int):=by omega
   have x2:(k1:Int)<(Y:Int):=by omega
   have x3:=zE (k1<Y)
   have x4:decide ((k1:Int)<(Y:Int))=true:=zd x2
   cases u with
   | lf i=>
     obtain⟨n',eC,dO⟩:=dK.lf
     have eC:k1=n':=by omega
     subst eC
     obtain⟨g',nS,fQ,-,e0,-,-⟩:=bZ CJ dO
     injection fQ with fQ;injection fQ with es cI;subst es cI
     have Ed:=zh (Gv T hu)
     clear hu eD dK gW dO
     go_wp2_with fail
     go_quiet (fail)
     go_wp2_with fail
     go_roundw
     case rel=>exact⟨j+1,A,G,B,E,by omega,by go_num,zh (bx (am (ad _ _) _) bW),zh (HO.kept (am (ad _ _) _)),zh (by rw [Ed.out];exact fc.kept (am (ad _ _) _)),zh (U.trans (Fr2.none (am (ad _ _) _)))⟩
     case measure=>simp [intOf];omega
   | nd m' q'=>
     obtain⟨n',mE,eC,dO,-⟩:=dK.nd
     have eC:k1=n':=by omega
     subst eC
     obtain⟨g',nS,fQ,-,e0,-,-⟩:=bZ CJ dO
     injection fQ with fQ;injection fQ with es cI;subst es cI
     have ln:=da sE hu
     simp only [kOk] at ln
     have bc:((m':Int) != 19)=true:=bne_iff_ne.2 (by omega)
     have ax:(m' != 19)=true:=bne_iff_ne.2 (by omega)
     have Ed:=zh (GI T hu rfl)
     have aq:=zh (HL _ (gn hu) rfl (k1:Int) dK)
     have Gt:=zh (fun W h1 h2=>Ec (.nd m' q') k1 W (Nat.le_trans (eU hu) lj) aq h1 h2)
     have H3:Hid (A.length<=1000000):=zh (by have h1:=qa fc.out;have h2:=vz T (l.take j);have h3:=length_take (i:=j) (l:=l);omega)
     obtain⟨aO,aL,DR,-⟩:=HO.is
     have vF:B=A.length:=by injection DR
     have au:=zh vF
     clear hu eD dK gW dO ln DR vF
     go_wp2_with fail
     go_quiet (fail)
     go_wp2_with fail
     go_region_law (first
      | (refine eG (s:=7) (t:=64) (T:=68) (by decide) Tryz.underlying64 XD rfl (by omega) rfl _ _ rfl (m+1) A [q0,q1,q2,q3,q4,q5,q6] rfl rp (.slice G B E) rfl (ag.kept fh gby) w7.heap.size _ rfl (by exact iH) rfl H3 (by have:=gO.out;simp;omega) (w7.heap.size+1) (by simp) ?_;intro I H w9 fM bH el;have iJ:=(bH.block m (by simp;omega) (fun O=>by have:=(ag.at fh m O.symm).1;omega)).trans (show _=_ from bx (show w7.grownBy _ none from gby) jC);obtain⟨d0,d1,d2,d3,d4,d5,d6,d7⟩:=aN iJ;have fW:=zh iJ;have ji:=zh fM;have fR:=zh bH;have oC:=zh el;clear iJ fM bH el)
      | (go_simp;go_at_call 58;refine(Gt _ (rV.kept gby) (CJ.kept gby)).mono ?_;rintro O w7 ⟨dV,aX,rfl,hq⟩;obtain⟨q0,q1,q2,q3,q4,q5,q6,rfl⟩:=hq.seven;have rp:=zh hq.one.2;have HQ:Hid (RAt (fun k=>wr.heap.size<=k) w7 _ [q0,q1,q2,q3,q4,q5,q6]):=zh hq;have cG:=zh (aa (show wr.grownBy _ none from gby) dV);have fh:=zh (HO.kept cG);have jC:=zh (bx cG bW);obtain⟨h0,h1,h2,h3,h4,h5,h6,h7⟩:=aN jC.out;have av:m<w7.heap.size:=_root_.Go.Proofs.YtpkipghjohomcaaGreatDoor.hlt jC.out;have gO:Hid (m+1<=w7.heap.size):=zh (Nat.le_trans Ez cG.size);have iH:=zh (YK w7 (.cells #[q0,q1,q2,q3,q4,q5,q6] 68));clear dV hq))
     all_goals
      have dz:w7.grownBy (w7.alloc (.cells #[q0,q1,q2,q3,q4,q5,q6] 68)) none:=qn _ _ _
      have AK:Hid (LsR (fun k=>m+1<=k/\k<(w9.setCell ⟨m,5,none⟩ (.slice (some ⟨I,0,none⟩) (A.length+1) H)).heap.size/\k≠m/\(Value.slice (some ⟨I,0,none⟩) (A.length+1) H).ownBlock≠some k) (w9.setCell ⟨m,5,none⟩ (.slice (some ⟨I,0,none⟩) (A.length+1) H)) (bQ T (l.take (j+1))) (A++[[q0,q1,q2,q3,q4,q5,q6]])):=zh (by
       rw [Ed.out]
       exact JE (w7:=w7) (wa:=w7.alloc (.cells #[q0,q1,q2,q3,q4,q5,q6] 68)) Ez HO (by omega) JQ fc cG HQ dz (by simp) fR oC (ad _ _))
      have fq:Hid ((w9.setCell ⟨m,5,none⟩ (.slice (some ⟨I,0,none⟩) (A.length+1) H)).heap[m]? = some (.cells #[.int .i64 (J:Int),.string ⟨#[]⟩,.string ⟨#[]⟩,.string ⟨#[]⟩,.bool false,.slice (some ⟨I,0,none⟩) (A.length+1) H,.int .i64 (L:Int)] 68 (0,0))):=zh (ab (i:=5) (u:=.slice (some ⟨I,0,none⟩) (A.length+1) H) fW)
      have iQ:Hid (ag 7 68 (w9.setCell ⟨m,5,none⟩ (.slice (some ⟨I,0,none⟩) (A.length+1) H)) (m+1) (.slice (some ⟨I,0,none⟩) (A.length+1) H) (A++[[q0,q1,q2,q3,q4,q5,q6]])):=zh (ji.keptS (Fr2.setCell (S:=fun k=>k=m) (Fr2.refl _ _) (g:=m) (j:=5) rfl _) (fun g hg O=>by omega))
      have gB:Hid (Fr2 (fun k=>k=m) W (w9.setCell ⟨m,5,none⟩ (.slice (some ⟨I,0,none⟩) (A.length+1) H))):=zh ((U.low (Below.trans2 (Below.gb cG U.size) (Below.trans2 (Below.gb dz (by have:=gO.out;have:=uh.out;omega)) ((Fr2.of fR (S:=fun k=>(Value.slice G B E).ownBlock=some k) (fun k O=>O)).below (by have:=gO.out;have:=uh.out;simp;omega) (fun k O=>by rw [uh.out];exact(ag.at fh k O).1))))).setCell rfl _)
      clear dz ji fW fR oC iH HQ rp fh jC d0 d1 d2 d3 d4 d5 d6 d7 h0 h1 h2 h3 h4 h5 h6 h7 fc HO U
      go_wp2_with fail
      go_roundw
      case rel=>exact⟨j+1,A++[[q0,q1,q2,q3,q4,q5,q6]],some ⟨I,0,none⟩,A.length+1,H,by omega,by go_num,fq,iQ,AK,gB⟩
      case measure=>simp [intOf];omega
  ·obtain rfl:j=R:=by omega
   have eh:=fc.out
   rw [V7 (by have:=fP.out;omega)] at eh
   obtain⟨SK,pX,ma⟩:=HO.rows
   have Cd:=qa eh
   have uu:Hid (RAt (fun k=>m+1<=k) wr (.mk J [] [] [] false (bQ T l) L) [.int .i64 (J:Int),.string ⟨#[]⟩,.string ⟨#[]⟩,.string ⟨#[]⟩,.bool false,.slice G B E,.int .i64 (L:Int)]):=zh (by
    have hl:B=(bQ T l).length:=SK.trans Cd
    subst hl
    simp only [RAt]
    refine⟨G,E,A,rfl,pX,LsR.mono (fun k Z=>Z.1) eh,fun h0=>?_⟩
    obtain⟨a',pS,K4,-⟩:=ma (fun O=>by rw [O] at Cd;exact h0 (fb Cd.symm))
    exact⟨a',pS,K4⟩)
   obtain⟨g0,g1,g2,g3,g4,g5,g6,g7⟩:=aN iN
   have aJ:b1<wr.heap.size:=_root_.Go.Proofs.YtpkipghjohomcaaGreatDoor.hlt iN
   have HP:=zh (fp (w:=w) cW (by have:=ll.out;omega) iN uu (fun k Z=>by have h1:=ll.out;have Z:m+1<=k:=Z;exact⟨by omega,by omega⟩))
   clear eh SK pX ma Cd
   go_wp2_with fail
   obtain⟨hp,-⟩:=ju iN (.int .i64 (J:Int)) (.string ⟨#[]⟩) (.string ⟨#[]⟩) (.string ⟨#[]⟩) (.bool false) (.slice G B E) (.int .i64 (L:Int))
   obtain⟨r0,r1,r2,r3,r4,r5,r6,-⟩:=aN hp
   refine bodyPost_ret (v:=.agg #[.int .i64 (J:Int),.string ⟨#[]⟩,.string ⟨#[]⟩,.string ⟨#[]⟩,.bool false,.slice G B E,.int .i64 (L:Int)]) (by simp [results,Tryz.results92,go_sem,r0,r1,r2,r3,r4,r5,r6]) rfl HP
end Go.Proofs.YtpkipghjohomcaaGreatDoor
