/- Lemmas. -/
import Derived.Test.YtjbgnopnehgbaaaGreatDoorP43
set_option linter.unusedVariables false
set_option linter.unusedSimpArgs false
set_option maxHeartbeats 16000000
set_option maxRecDepth 100000
namespace Go.Proofs.YtjbgnopnehgbaaaGreatDoor
open Go.RowKit
theorem bm {w:World} {r:Nat} {a b c d e f g h:Value} {T:TypeId} (h0:w.heap[r]? = some (.cells #[a,b,c,d,e,f,g,h] T (0,0))):w.cell? ⟨r,0,none⟩=some a∧w.cell? ⟨r,1,none⟩=some b∧w.cell? ⟨r,2,none⟩=some c∧w.cell? ⟨r,3,none⟩=some d∧w.cell? ⟨r,4,none⟩=some e∧w.cell? ⟨r,5,none⟩=some f∧w.cell? ⟨r,6,none⟩=some g∧w.cell? ⟨r,7,none⟩=some h:=
 ⟨by rw [cell_of_row w r 0 _ T (0,0) h0];rfl,by rw [cell_of_row w r 1 _ T (0,0) h0];rfl,by rw [cell_of_row w r 2 _ T (0,0) h0];rfl,by rw [cell_of_row w r 3 _ T (0,0) h0];rfl,by rw [cell_of_row w r 4 _ T (0,0) h0];rfl,by rw [cell_of_row w r 5 _ T (0,0) h0];rfl,by rw [cell_of_row w r 6 _ T (0,0) h0];rfl,by rw [cell_of_row w r 7 _ T (0,0) h0];rfl⟩
theorem oc {w2:World} {B gg j:Nat} {v a b c d e f g:Value} (h:w2.cell? ⟨gg,j,none⟩=some v) (bl:gg≠B):(((((((w2.setCell ⟨B,0,none⟩ a).setCell ⟨B,1,none⟩ b).setCell ⟨B,2,none⟩ c).setCell ⟨B,3,none⟩ d).setCell ⟨B,4,none⟩ e).setCell ⟨B,5,none⟩ f).setCell ⟨B,6,none⟩ g).cell? ⟨gg,j,none⟩=some v:=by
 rw [World.cell?_setCell_far _ _ _ _ (fun e=>bl e.symm),World.cell?_setCell_far _ _ _ _ (fun e=>bl e.symm),World.cell?_setCell_far _ _ _ _ (fun e=>bl e.symm),World.cell?_setCell_far _ _ _ _ (fun e=>bl e.symm),World.cell?_setCell_far _ _ _ _ (fun e=>bl e.symm),World.cell?_setCell_far _ _ _ _ (fun e=>bl e.symm),World.cell?_setCell_far _ _ _ _ (fun e=>bl e.symm)]
 exact h
theorem CZ {l:List Sx} {j:Nat} {x:Sx} (h:l[j]? = some x):l.take (j+1)=l.take j++[x]:=by rw [List.take_add_one,h];rfl
theorem QN:∀(n:Nat) (x:Sx),bw x≤n→∀(F:Nat→Prop) (q:List Value) (w:World),SAt F w x q→okS x→n≤1000000→
  Calls Tryz.prog 14 #[.agg q.toArray] w (Fy x w):=by
 intro n
 induction n with
 | zero=>intro x hn;have:=gz x;omega
 | succ n ih=>
   intro x hn F q w hx dp WH
   cases x with
   | mk op nm md nu ys ks ps=>
     simp only [SAt] at hx
     obtain⟨s,pw,nw,cw,pk,ck,ag6,rfl,hi,YV,ZL,i7,hkF⟩:=hx
     simp only [okS] at dp
     obtain⟨⟨-,-,hZ⟩,hoks⟩:=dp
     simp only [bw] at hn
     have HIH:=zh (fun x h F q w h1 h2=>ih x h F q w h1 h2 (by omega))
     have tY:=zh (fun W (h:w.grownBy W none)=>Zd.String_c _ nu W (hi.kept h) hZ)
     obtain⟨u,hu⟩:∃u:ByteArray,(⟨(Zd.txtL nu).toArray⟩:ByteArray)=u:=⟨_,rfl⟩
     have HU:=zh hu
     have HV:Hid (Zd.txt nu=.string u):=zh (by unfold Zd.txt;rw [hu])
     obtain⟨kl,jo⟩:∃kl,ks.length=kl:=⟨_,rfl⟩
     have aar:kl≤1000000:=by have:=qX ks;omega
     have JB:=zh jo;have jl:=zh ZL;have afo:=zh i7;have HN:=zh hn;have Iv:=zh hoks;have HKB:=zh aar
     unfold aw
     generalize Qr:(⟨nm.toArray⟩:ByteArray)=sn
     generalize Rt:(⟨md.toArray⟩:ByteArray)=sm
     have HSN:=zh Qr;have OD:=zh Rt
     rw [jo]
     show Calls Tryz.prog 14 #[.agg #[.int .i64 op,.string sn,.string sm,.bool s,.slice pw nw cw,.bool ys,.slice pk kl ck,.int .i64 ps]] w _
     clear hi YV ZL i7 hkF hZ hoks hn jo hu Qr Rt ih WH aar
     have vl:=heap_alloc_new w (.cells #[.int .i64 op,.string sn,.string sm,.bool s,.slice pw nw cw,.bool ys,.slice pk kl ck,.int .i64 ps] 30)
     have lF:=World.grownBy_alloc w (.cells #[.int .i64 op,.string sn,.string sm,.bool s,.slice pw nw cw,.bool ys,.slice pk kl ck,.int .i64 ps] 30) none
     have kK:=heap_alloc_new (w.alloc (.cells #[.int .i64 op,.string sn,.string sm,.bool s,.slice pw nw cw,.bool ys,.slice pk kl ck,.int .i64 ps] 30)) (.cells #[.int .i64 0,.string ⟨#[]⟩,.string ⟨#[]⟩,.string ⟨#[]⟩,.bool false,.slice none 0 0,.int .i64 0] 33)
     have oZ:=World.grownBy_alloc (w.alloc (.cells #[.int .i64 op,.string sn,.string sm,.bool s,.slice pw nw cw,.bool ys,.slice pk kl ck,.int .i64 ps] 30)) (.cells #[.int .i64 0,.string ⟨#[]⟩,.string ⟨#[]⟩,.string ⟨#[]⟩,.bool false,.slice none 0 0,.int .i64 0] 33) none
     have BI:(w.alloc (.cells #[.int .i64 op,.string sn,.string sm,.bool s,.slice pw nw cw,.bool ys,.slice pk kl ck,.int .i64 ps] 30)).heap.size=w.heap.size+1:=by simp
     rw [BI] at kK
     have vl:=bx oZ vl
     have hg:=aa lF oZ
     have EE:((w.alloc (.cells #[.int .i64 op,.string sn,.string sm,.bool s,.slice pw nw cw,.bool ys,.slice pk kl ck,.int .i64 ps] 30)).alloc (.cells #[.int .i64 0,.string ⟨#[]⟩,.string ⟨#[]⟩,.string ⟨#[]⟩,.bool false,.slice none 0 0,.int .i64 0] 33)).heap.size=w.heap.size+2:=by simp
     go_enter Tryz.func14,Tryz.ntmps14
     go_upto_region 1 with fail
     generalize ((w.alloc (.cells #[.int .i64 op,.string sn,.string sm,.bool s,.slice pw nw cw,.bool ys,.slice pk kl ck,.int .i64 ps] 30)).alloc (.cells #[.int .i64 0,.string ⟨#[]⟩,.string ⟨#[]⟩,.string ⟨#[]⟩,.bool false,.slice none 0 0,.int .i64 0] 33))=W at *
     obtain⟨b0,jK⟩:∃b0,w.heap.size=b0:=⟨_,rfl⟩
     rw [jK] at vl kK EE ⊢
     have f9:=zh jK;have nK:=zh vl;have fL:=zh kK;have da:=zh hg;have Cy:=zh EE
     clear lF oZ BI vl kK hg EE jK
     obtain⟨c0,c1,c2,c3,c4,c5,c6,c7⟩:=bm nK.out
     go_cut [3] (fun t3 wx=>Hid (Me W (.int .i64 op) (.string sn) (.string sm) (.string u) (.bool ys) (.slice none 0 0) (.int .i64 ps) t3 wx))
     case first=>
      have ZR:b0<W.heap.size:=hlt nK.out
      go_region_held3 (fun w'=>w'.cell? ⟨b0,0,none⟩=some (.int .i64 op)∧w'.cell? ⟨b0,1,none⟩=some (.string sn)∧w'.cell? ⟨b0,2,none⟩=some (.string sm)∧w'.cell? ⟨b0,3,none⟩=some (.bool s)∧w'.cell? ⟨b0,4,none⟩=some (.slice pw nw cw)∧w'.cell? ⟨b0,5,none⟩=some (.bool ys)∧w'.cell? ⟨b0,7,none⟩=some (.int .i64 ps))
       (first | with_reducible exact⟨c0,c1,c2,c3,c4,c5,c7⟩ | with_reducible exact⟨oc c0 (by omega),oc c1 (by omega),oc c2 (by omega),oc c3 (by omega),oc c4 (by omega),oc c5 (by omega),oc c7 (by omega)⟩ | go_keep)
       (first | (go_at_call 33;refine(tY.out _ (aa da.out gbx)).mono ?_;rintro e w2 ⟨rfl,bT⟩;rw [HV.out];(try (have Lk:=bx bT (heap_alloc_new W (.cells #[.int .i64 0,.string ⟨#[]⟩,.string ⟨#[]⟩,.string ⟨#[]⟩,.bool false,.slice none 0 0,.int .i64 0] 33));have hc7:=dn Lk;obtain⟨q0,q1,q2,q3,q4,q5,q6,q7⟩:=hc7));have cz:=zh (aa (show W.grownBy _ none from gbx) bT);obtain⟨c0,c1,c2,c3,c4,c5,c6,c7⟩:=bm (bx cz.out nK.out);clear bT))
      all_goals
       go_wp2_with fail
       go_meet
       first
        | (with_reducible exact zh (Ku cz.out))
        | (with_reducible exact zh (Kq cz.out (Nat.le_refl _) Lk))
     case rest=>
      obtain⟨b2,rfl,dC,h2W,pJ⟩:=hcut.out
      have HGC:=zh (aa da.out pJ)
      have nK:=zh (bx pJ nK.out);have fL:=zh (bx pJ fL.out);have fu:=zh dC
      obtain⟨c0,c1,c2,c3,c4,c5,c6,c7⟩:=bm nK.out
      have pO:Hid (b0+1<b2∧b2<wc.heap.size):=zh (by have:=Cy.out;have:=hlt dC;omega)
      clear dC h2W pJ hcut tY
      obtain⟨Bz,hBz⟩:∃Bz,wc.heap.size=Bz:=⟨_,rfl⟩
      have Tc:=zh hBz
      rw [hBz] at pO
      clear hBz
      have ady:b2<Bz:=pO.out.2
      go_wp2_with fail
      go_loopw [23] (fun iv wr=>∃(j:Nat) (rows:List (List Value)) (pv:Option Addr) (nv cv:Nat),j≤kl∧iv=.int .i64 (j:Int)∧Hid (wr.heap[b2]? = some (.cells #[.int .i64 op,.string sn,.string sm,.string u,.bool ys,.slice pv nv cv,.int .i64 ps] 33 (0,0)))∧Hid (ak 7 33 wr Bz (.slice pv nv cv) rows)∧Hid (LsU (fun k=>Bz≤k∧k<wr.heap.size∧k≠b2∧(Value.slice pv nv cv).ownBlock≠some k) wr (ks.take j) rows)∧Hid (Fr2 (fun k=>k=b2) wc wr)) (fun iv _=>kl - (intOf iv).toNat)
      case atStart=>exact⟨0,[],none,0,0,Nat.zero_le _,rfl,fu,zh (ak.nil _ _ _ _),zh (by simp [LsU]),zh (Fr2.refl _ _)⟩
      case round=>
       obtain⟨j,rows,pv,nv,cv,hj,rfl,eM,HO,ip,HF⟩:=hrel
       have j4:Hid (w.grownBy wr none):=zh (gy HGC.out HF.out (fun i hi=>by have:=pO.out;have:=f9.out;omega))
       have JU:Hid (Bz≤wr.heap.size):=zh (by rw [←Tc.out];exact HF.out.size)
       have DF:b2<wr.heap.size:=hlt eM.out
       by_cases j3:j<kl
       ·obtain⟨kx,BZ⟩:∃kx,ks[j]? = some kx:=⟨ks[j]'(by rw [JB.out];exact j3),List.getElem?_eq_getElem _⟩
        obtain⟨qx,M0,S9⟩:=afo.out.get BZ
        have HOX:=zh (tQ Iv.out BZ)
        have sy:Hid (bw kx≤n):=zh (by have:=jd BZ;have:=HN.out;omega)
        have EC:=zh (CZ BZ)
        have xz:=zh (S9.kept j4.out)
        obtain⟨g8,o8,rfl,zi,LT⟩:=jl.out.resolve_left (fun e=>by rw [e] at M0;simp at M0)
        have LT:=fun i v h=>j4.out.cell (LT j _ M0 i v h) (by simp)
        have zi:=zn zi j4.out.size
        have HIX:=zh (fun W q h=>HIH.out kx sy.out F q W h HOX.out)
        have XJ:Hid (rows.length≤1000000):=zh (by have h1:=ip.out.len;have h3:=List.length_take (i:=j) (l:=ks);have h4:=HKB.out;omega)
        obtain⟨pv',cv',T0,-⟩:=HO.out.is
        have AV:nv=rows.length:=by injection T0
        have Xg:=zh AV
        have y1':(0:Int)≤(j:Int):=by omega
        have y2':(j:Int)<(kl:Int):=by omega
        have y3':decide (j<kl)=true:=zd j3
        have y4':decide ((j:Int)<(kl:Int))=true:=zd y2'
        have hwj:IntKind.i64.wrap ((j:Int)+1)=(j:Int)+1:=IntWalk.i64_in _ (by have:=HKB.out;omega)
        cases kx with
        | mk op1 nm1 md1 nu1 ys1 ks1 ps1=>
          simp only [SAt] at S9
          obtain⟨s1,zj,zb,yI,yq,yy,S4,rfl,-⟩:=S9
          unfold aw at *
          generalize (⟨nm1.toArray⟩:ByteArray)=y1 at *
          generalize (⟨md1.toArray⟩:ByteArray)=z1 at *
          generalize hkl1:ks1.length=kl1 at *
          have k0:=LT 0 _ rfl
          have k1:=LT 1 _ rfl
          have k2:=LT 2 _ rfl
          have k3:=LT 3 _ rfl
          have k4:=LT 4 _ rfl
          have k5:=LT 5 _ rfl
          have k6:=LT 6 _ rfl
          have k7:=LT 7 _ rfl
          rw [Nat.add_zero] at k0
          have Ez:=heap_alloc_new wr (.cells #[.int .i64 op1,.string y1,.string z1,.bool s1,.slice zj zb yI,.bool ys1,.slice yq kl1 yy,.int .i64 ps1] 30)
          have Se:=World.grownBy_alloc wr (.cells #[.int .i64 op1,.string y1,.string z1,.bool s1,.slice zj zb yI,.bool ys1,.slice yq kl1 yy,.int .i64 ps1] 30) none
          clear BZ M0 LT T0 AV hkl1
          go_upto_region 5 with fail
          have eM:=zh (bx Se eM.out)
          have HO:=zh (HO.out.kept Se)
          have ip:=zh (LsU.mono (F':=fun k=>Bz≤k∧k<(wr.alloc (.cells #[.int .i64 op1,.string y1,.string z1,.bool s1,.slice zj zb yI,.bool ys1,.slice yq kl1 yy,.int .i64 ps1] 30)).heap.size∧k≠b2∧(Value.slice pv nv cv).ownBlock≠some k) (fun k hk=>⟨hk.1,zn hk.2.1 Se.size,hk.2.2.1,hk.2.2.2⟩) (ip.out.kept Se))
          have HF:=zh (HF.out.trans (Fr2.none Se))
          have JU:Hid (Bz≤(wr.alloc (.cells #[.int .i64 op1,.string y1,.string z1,.bool s1,.slice zj zb yI,.bool ys1,.slice yq kl1 yy,.int .i64 ps1] 30)).heap.size):=zh (Nat.le_trans JU.out Se.size)
          have xz:=zh (xz.out.kept Se)
          have DF:b2<(wr.alloc (.cells #[.int .i64 op1,.string y1,.string z1,.bool s1,.slice zj zb yI,.bool ys1,.slice yq kl1 yy,.int .i64 ps1] 30)).heap.size:=zn DF Se.size
          clear j4 k0 k1 k2 k3 k4 k5 k6 k7 zi y1' y2' y3' y4'
          generalize (wr.alloc (.cells #[.int .i64 op1,.string y1,.string z1,.bool s1,.slice zj zb yI,.bool ys1,.slice yq kl1 yy,.int .i64 ps1] 30))=W1 at *
          obtain⟨bq,aay⟩:∃bq,wr.heap.size=bq:=⟨_,rfl⟩
          rw [aay] at Ez ⊢
          obtain⟨e0,e1,e2,e3,e4,e5,e6,e7⟩:=bm Ez
          obtain⟨f0,f1,f2,f3,f4,f5,f6,f7⟩:=dn eM.out
          have aiP:bq<W1.heap.size:=hlt Ez
          clear Ez Se aay
          go_region_law (first
           | (refine fc (s:=7) (t:=31) (T:=33) (by decide) Tryz.underlying31 X0 rfl (by omega) rfl _ _ rfl Bz rows [q0,q1,q2,q3,q4,q5,q6] rfl vK.out (.slice pv nv cv) rfl (ak.kept vO.out gby) w7.heap.size _ rfl (by exact lT.out) rfl XJ.out (by have:=n6.out;simp;omega) (w7.heap.size+1) (by simp) ?_;intro g9 cap9 w9 ii eu ef;have kJ:=(eu.block b2 (by simp;omega) (fun e=>by have:=(ak.at vO.out b2 e.symm).1;omega)).trans (show _=_ from bx (show w7.grownBy _ none from gby) yT.out);obtain⟨d0,d1,d2,d3,d4,d5,d6,d7⟩:=dn kJ;have rf:=zh kJ;have ss:=zh ii;have rr:=zh eu;have zw:=zh ef;clear kJ ii eu ef)
           | (go_simp;go_at_call 14;refine(HIX.out _ _ (xz.out.kept gby)).mono ?_;rintro e w7 ⟨iG,q,rfl,hq⟩;obtain⟨q0,q1,q2,q3,q4,q5,q6,rfl⟩:=hq.seven;have vK:=zh hq.one.2;have HQ:Hid (RSt (fun k=>W1.heap.size≤k) w7 _ [q0,q1,q2,q3,q4,q5,q6]):=zh (RSt.mono (fun k (hk:_≤k)=>Nat.le_trans (show W1.grownBy _ none from gby).size hk) hq);have gT:=zh (aa (show W1.grownBy _ none from gby) iG);have vO:=zh (HO.out.kept gT.out);have yT:=zh (bx gT.out eM.out);obtain⟨h0,h1,h2,h3,h4,h5,h6,h7⟩:=dn yT.out;have aa5:b2<w7.heap.size:=hlt yT.out;have n6:Hid (Bz≤w7.heap.size):=zh (Nat.le_trans JU.out gT.out.size);have lT:=zh (heap_alloc_new w7 (.cells #[q0,q1,q2,q3,q4,q5,q6] 33));clear iG hq))
          all_goals
           have dG:w7.grownBy (w7.alloc (.cells #[q0,q1,q2,q3,q4,q5,q6] 33)) none:=World.grownBy_alloc _ _ _
           have Lw:Hid (LsU (fun k=>Bz≤k∧k<(w9.setCell ⟨b2,5,none⟩ (.slice (some ⟨g9,0,none⟩) (rows.length+1) cap9)).heap.size∧k≠b2∧(Value.slice (some ⟨g9,0,none⟩) (rows.length+1) cap9).ownBlock≠some k) (w9.setCell ⟨b2,5,none⟩ (.slice (some ⟨g9,0,none⟩) (rows.length+1) cap9)) (ks.take (j+1)) (rows++[[q0,q1,q2,q3,q4,q5,q6]])):=zh (by
            rw [EC.out]
            exact XD (w7:=w7) (wa:=w7.alloc (.cells #[q0,q1,q2,q3,q4,q5,q6] 33)) JU.out HO.out ady DF ip.out gT.out HQ.out dG (by simp) rr.out zw.out (ad _ _))
           have qv:Hid ((w9.setCell ⟨b2,5,none⟩ (.slice (some ⟨g9,0,none⟩) (rows.length+1) cap9)).heap[b2]? = some (.cells #[.int .i64 op,.string sn,.string sm,.string u,.bool ys,.slice (some ⟨g9,0,none⟩) (rows.length+1) cap9,.int .i64 ps] 33 (0,0))):=zh (ab (i:=5) (u:=.slice (some ⟨g9,0,none⟩) (rows.length+1) cap9) rf.out)
           have sq:Hid (ak 7 33 (w9.setCell ⟨b2,5,none⟩ (.slice (some ⟨g9,0,none⟩) (rows.length+1) cap9)) Bz (.slice (some ⟨g9,0,none⟩) (rows.length+1) cap9) (rows++[[q0,q1,q2,q3,q4,q5,q6]])):=zh (ss.out.keptS (Fr2.setCell (S:=fun k=>k=b2) (Fr2.refl _ _) (g:=b2) (j:=5) rfl _) (fun g hg e=>by omega))
           have nj:Hid (Fr2 (fun k=>k=b2) wc (w9.setCell ⟨b2,5,none⟩ (.slice (some ⟨g9,0,none⟩) (rows.length+1) cap9))):=zh ((HF.out.low (Below.trans2 (Below.gb gT.out HF.out.size) (Below.trans2 (Below.gb dG (by have:=n6.out;have:=Tc.out;omega)) ((Fr2.of rr.out (S:=fun k=>(Value.slice pv nv cv).ownBlock=some k) (fun k e=>e)).below (by have:=n6.out;have:=Tc.out;simp;omega) (fun k e=>by rw [Tc.out];exact(ak.at vO.out k e).1))))).setCell rfl _)
           clear dG ss rf rr zw lT HQ vK vO yT d0 d1 d2 d3 d4 d5 d6 d7 h0 h1 h2 h3 h4 h5 h6 h7 ip HO HF
           go_wp2_with fail
           go_roundw
           case rel=>exact⟨j+1,rows++[[q0,q1,q2,q3,q4,q5,q6]],some ⟨g9,0,none⟩,rows.length+1,cap9,by omega,by go_num,qv,sq,Lw,nj⟩
           case measure=>simp [intOf];omega
       ·obtain rfl:j=kl:=by omega
        have i7:=ip.out
        rw [List.take_of_length_le (by rw [JB.out];exact Nat.le_refl _)] at i7
        obtain⟨D2,pz,lB⟩:=ak.rowsU HO.out
        have nA:=i7.len
        have xz:Hid (RSt (fun k=>Bz≤k) wr (.mk op nm md nu ys ks ps) [.int .i64 op,.string sn,.string sm,.string u,.bool ys,.slice pv nv cv,.int .i64 ps]):=zh (by
         have hl:nv=ks.length:=D2.trans nA
         subst hl
         simp only [RSt]
         refine⟨pv,cv,rows,by rw [←HSN.out,←OD.out,←HU.out];rfl,pz,LsU.mono (fun k hk=>hk.1) i7,fun h0=>?_⟩
         obtain⟨a',jE,MZ,-⟩:=lB (fun e=>by rw [e] at nA;exact h0 (List.eq_nil_of_length_eq_zero nA.symm))
         exact⟨a',jE,MZ⟩)
        have n5:Hid (wr.heap[b0+1]? = some (.cells #[.int .i64 0,.string ⟨#[]⟩,.string ⟨#[]⟩,.string ⟨#[]⟩,.bool false,.slice none 0 0,.int .i64 0] 33 (0,0))):=zh (HF.out.keep fL.out (by have:=pO.out;omega))
        have y3':decide ((j:Int)<(j:Int))=false:=decide_eq_false (by omega)
        obtain⟨f0,f1,f2,f3,f4,f5,f6,f7⟩:=dn eM.out
        obtain⟨g0,g1,g2,g3,g4,g5,g6,g7⟩:=dn n5.out
        have alc:b0+1<wr.heap.size:=hlt n5.out
        have HP:=zh (QD (w:=w) j4.out (by have:=f9.out;omega) n5.out xz.out (fun k hk=>by have h1:=f9.out;have h2:=pO.out;have hk:Bz≤k:=hk;exact⟨by omega,by omega⟩))
        clear i7 D2 pz lB nA
        go_wp2_with fail
        obtain⟨hp,-⟩:=Fq n5.out (.int .i64 op) (.string sn) (.string sm) (.string u) (.bool ys) (.slice pv nv cv) (.int .i64 ps)
        obtain⟨r0,r1,r2,r3,r4,r5,r6,-⟩:=dn hp
        refine bodyPost_ret (v:=.agg #[.int .i64 op,.string sn,.string sm,.string u,.bool ys,.slice pv nv cv,.int .i64 ps]) (by simp [results,Tryz.results14,go_sem,r0,r1,r2,r3,r4,r5,r6]) rfl HP.out
end Go.Proofs.YtjbgnopnehgbaaaGreatDoor
