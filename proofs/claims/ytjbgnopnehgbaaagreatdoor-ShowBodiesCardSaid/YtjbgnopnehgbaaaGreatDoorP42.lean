/- Lemmas. -/
import Derived.Test.YtjbgnopnehgbaaaGreatDoorP44
set_option linter.unusedVariables false
set_option linter.unusedSimpArgs false
set_option maxHeartbeats 16000000
set_option maxRecDepth 100000
namespace Go.Proofs.YtjbgnopnehgbaaaGreatDoor
open Go.RowKit
def oR (c:Cl):List Value:=[.int .i64 c.op,.int .i64 c.kids,aw c.nm,aw c.md,aw c.nu,.bool c.ys]
def z8:Array Value:=#[.int .i64 0,.string ⟨#[]⟩,.string ⟨#[]⟩,.bool false,.slice none 0 0,.bool false,.slice none 0 0,.int .i64 0]
def z7:Array Value:=#[.int .i64 0,.string ⟨#[]⟩,.string ⟨#[]⟩,.string ⟨#[]⟩,.bool false,.slice none 0 0,.int .i64 0]
def ve (l:List Cl) (w:World) (e:Ending) (w':World):Prop:=w.grownBy w' none∧
 match eY l with
 | none=>e=.returned (.tuple #[.agg z8,.agg z7,.bool false])
 | some x=>∃q r:List Value,e=.returned (.tuple #[.agg q.toArray,.agg r.toArray,.bool true])∧SAt (fun k=>w.heap.size≤k∧k<w'.heap.size) w' x q∧RSt (fun k=>w.heap.size≤k∧k<w'.heap.size) w' x r
theorem kC {l:List Cl} {w w':World} (h:eY l=none) (hg:w.grownBy w' none):ve l w (.returned (.tuple #[.agg z8,.agg z7,.bool false])) w':=⟨hg,by rw [h]⟩
theorem To {W:World} {B:Nat} {T:TypeId} {x0 x1 x2 x3 x4 x5 x6 x7:Value} (h0:W.heap[B]? = some (.cells #[x0,x1,x2,x3,x4,x5,x6,x7] T (0,0))) (a0 a1 a2 a3 a4 a5 a6 a7:Value):((((((((W.setCell ⟨B,0,none⟩ a0).setCell ⟨B,1,none⟩ a1).setCell ⟨B,2,none⟩ a2).setCell ⟨B,3,none⟩ a3).setCell ⟨B,4,none⟩ a4).setCell ⟨B,5,none⟩ a5).setCell ⟨B,6,none⟩ a6).setCell ⟨B,7,none⟩ a7).heap[B]? = some (.cells #[a0,a1,a2,a3,a4,a5,a6,a7] T (0,0))∧Fr2 (fun k=>k=B) W ((((((((W.setCell ⟨B,0,none⟩ a0).setCell ⟨B,1,none⟩ a1).setCell ⟨B,2,none⟩ a2).setCell ⟨B,3,none⟩ a3).setCell ⟨B,4,none⟩ a4).setCell ⟨B,5,none⟩ a5).setCell ⟨B,6,none⟩ a6).setCell ⟨B,7,none⟩ a7):=by
 have g0:(W.setCell ⟨B,0,none⟩ a0).heap[B]? = some (.cells #[a0,x1,x2,x3,x4,x5,x6,x7] T (0,0)):=ab (i:=0) (u:=a0) h0
 have g1:((W.setCell ⟨B,0,none⟩ a0).setCell ⟨B,1,none⟩ a1).heap[B]? = some (.cells #[a0,a1,x2,x3,x4,x5,x6,x7] T (0,0)):=ab (i:=1) (u:=a1) g0
 have g2:(((W.setCell ⟨B,0,none⟩ a0).setCell ⟨B,1,none⟩ a1).setCell ⟨B,2,none⟩ a2).heap[B]? = some (.cells #[a0,a1,a2,x3,x4,x5,x6,x7] T (0,0)):=ab (i:=2) (u:=a2) g1
 have g3:((((W.setCell ⟨B,0,none⟩ a0).setCell ⟨B,1,none⟩ a1).setCell ⟨B,2,none⟩ a2).setCell ⟨B,3,none⟩ a3).heap[B]? = some (.cells #[a0,a1,a2,a3,x4,x5,x6,x7] T (0,0)):=ab (i:=3) (u:=a3) g2
 have g4:(((((W.setCell ⟨B,0,none⟩ a0).setCell ⟨B,1,none⟩ a1).setCell ⟨B,2,none⟩ a2).setCell ⟨B,3,none⟩ a3).setCell ⟨B,4,none⟩ a4).heap[B]? = some (.cells #[a0,a1,a2,a3,a4,x5,x6,x7] T (0,0)):=ab (i:=4) (u:=a4) g3
 have g5:((((((W.setCell ⟨B,0,none⟩ a0).setCell ⟨B,1,none⟩ a1).setCell ⟨B,2,none⟩ a2).setCell ⟨B,3,none⟩ a3).setCell ⟨B,4,none⟩ a4).setCell ⟨B,5,none⟩ a5).heap[B]? = some (.cells #[a0,a1,a2,a3,a4,a5,x6,x7] T (0,0)):=ab (i:=5) (u:=a5) g4
 have g6:(((((((W.setCell ⟨B,0,none⟩ a0).setCell ⟨B,1,none⟩ a1).setCell ⟨B,2,none⟩ a2).setCell ⟨B,3,none⟩ a3).setCell ⟨B,4,none⟩ a4).setCell ⟨B,5,none⟩ a5).setCell ⟨B,6,none⟩ a6).heap[B]? = some (.cells #[a0,a1,a2,a3,a4,a5,a6,x7] T (0,0)):=ab (i:=6) (u:=a6) g5
 have g7:((((((((W.setCell ⟨B,0,none⟩ a0).setCell ⟨B,1,none⟩ a1).setCell ⟨B,2,none⟩ a2).setCell ⟨B,3,none⟩ a3).setCell ⟨B,4,none⟩ a4).setCell ⟨B,5,none⟩ a5).setCell ⟨B,6,none⟩ a6).setCell ⟨B,7,none⟩ a7).heap[B]? = some (.cells #[a0,a1,a2,a3,a4,a5,a6,a7] T (0,0)):=ab (i:=7) (u:=a7) g6
 have hs:(fun k=>k=B) B:=rfl
 exact⟨g7,((((((((Fr2.refl (fun k=>k=B) W).setCell hs a0).setCell hs a1).setCell hs a2).setCell hs a3).setCell hs a4).setCell hs a5).setCell hs a6).setCell hs a7⟩
theorem pV {W w:World} {b:Nat} {T8 T7:TypeId} {x0 x1 x2 x3 x4 x5 x6 x7 y0 y1 y2 y3 y4 y5 y6:Value} (h0:W.heap[b]? = some (.cells #[x0,x1,x2,x3,x4,x5,x6,x7] T8 (0,0))) (h1:W.heap[b+1]? = some (.cells #[y0,y1,y2,y3,y4,y5,y6] T7 (0,0))) (hg:w.grownBy W none) (hb:w.heap.size=b) (a0 a1 a2 a3 a4 a5 a6 a7 e0 e1 e2 e3 e4 e5 e6:Value):
  (((((((((((((((W.setCell ⟨b,0,none⟩ a0).setCell ⟨b,1,none⟩ a1).setCell ⟨b,2,none⟩ a2).setCell ⟨b,3,none⟩ a3).setCell ⟨b,4,none⟩ a4).setCell ⟨b,5,none⟩ a5).setCell ⟨b,6,none⟩ a6).setCell ⟨b,7,none⟩ a7).setCell ⟨(b+1),0,none⟩ e0).setCell ⟨(b+1),1,none⟩ e1).setCell ⟨(b+1),2,none⟩ e2).setCell ⟨(b+1),3,none⟩ e3).setCell ⟨(b+1),4,none⟩ e4).setCell ⟨(b+1),5,none⟩ e5).setCell ⟨(b+1),6,none⟩ e6).heap[b]? = some (.cells #[a0,a1,a2,a3,a4,a5,a6,a7] T8 (0,0))∧(((((((((((((((W.setCell ⟨b,0,none⟩ a0).setCell ⟨b,1,none⟩ a1).setCell ⟨b,2,none⟩ a2).setCell ⟨b,3,none⟩ a3).setCell ⟨b,4,none⟩ a4).setCell ⟨b,5,none⟩ a5).setCell ⟨b,6,none⟩ a6).setCell ⟨b,7,none⟩ a7).setCell ⟨(b+1),0,none⟩ e0).setCell ⟨(b+1),1,none⟩ e1).setCell ⟨(b+1),2,none⟩ e2).setCell ⟨(b+1),3,none⟩ e3).setCell ⟨(b+1),4,none⟩ e4).setCell ⟨(b+1),5,none⟩ e5).setCell ⟨(b+1),6,none⟩ e6).heap[b+1]? = some (.cells #[e0,e1,e2,e3,e4,e5,e6] T7 (0,0))∧w.grownBy (((((((((((((((W.setCell ⟨b,0,none⟩ a0).setCell ⟨b,1,none⟩ a1).setCell ⟨b,2,none⟩ a2).setCell ⟨b,3,none⟩ a3).setCell ⟨b,4,none⟩ a4).setCell ⟨b,5,none⟩ a5).setCell ⟨b,6,none⟩ a6).setCell ⟨b,7,none⟩ a7).setCell ⟨(b+1),0,none⟩ e0).setCell ⟨(b+1),1,none⟩ e1).setCell ⟨(b+1),2,none⟩ e2).setCell ⟨(b+1),3,none⟩ e3).setCell ⟨(b+1),4,none⟩ e4).setCell ⟨(b+1),5,none⟩ e5).setCell ⟨(b+1),6,none⟩ e6) none∧Fr2 (fun k=>k=b∨k=b+1) W (((((((((((((((W.setCell ⟨b,0,none⟩ a0).setCell ⟨b,1,none⟩ a1).setCell ⟨b,2,none⟩ a2).setCell ⟨b,3,none⟩ a3).setCell ⟨b,4,none⟩ a4).setCell ⟨b,5,none⟩ a5).setCell ⟨b,6,none⟩ a6).setCell ⟨b,7,none⟩ a7).setCell ⟨(b+1),0,none⟩ e0).setCell ⟨(b+1),1,none⟩ e1).setCell ⟨(b+1),2,none⟩ e2).setCell ⟨(b+1),3,none⟩ e3).setCell ⟨(b+1),4,none⟩ e4).setCell ⟨(b+1),5,none⟩ e5).setCell ⟨(b+1),6,none⟩ e6):=by
 obtain⟨k1,f1⟩:=To h0 a0 a1 a2 a3 a4 a5 a6 a7
 have h2:=f1.keep h1 (by omega)
 obtain⟨k2,f2⟩:=Fq h2 e0 e1 e2 e3 e4 e5 e6
 have f3:=(f1.mono (S':=fun k=>k=b∨k=b+1) (fun k e=>.inl e)).trans (f2.mono (fun k e=>.inr e))
 exact⟨f2.keep k1 (by omega),k2,gy hg f3 (fun i hi=>by omega),f3⟩
theorem frz {W:World} {r:Nat} {cs:Array Value} {T:TypeId} (h:W.heap[r]? = some (.cells cs T (0,0))) (o:Nat):W.frozen? ⟨r,o,none⟩=false:=by simp [World.frozen?,h]
theorem sA {w:World} {r:Nat} {a b c d e f:Value} {T:TypeId} (h0:w.heap[r]? = some (.cells #[a,b,c,d,e,f] T (0,0))):w.cell? ⟨r,0,none⟩=some a∧w.cell? ⟨r,1,none⟩=some b∧w.cell? ⟨r,2,none⟩=some c∧w.cell? ⟨r,3,none⟩=some d∧w.cell? ⟨r,4,none⟩=some e∧w.cell? ⟨r,5,none⟩=some f:=
 ⟨by rw [cell_of_row w r 0 _ T (0,0) h0];rfl,by rw [cell_of_row w r 1 _ T (0,0) h0];rfl,by rw [cell_of_row w r 2 _ T (0,0) h0];rfl,by rw [cell_of_row w r 3 _ T (0,0) h0];rfl,by rw [cell_of_row w r 4 _ T (0,0) h0];rfl,by rw [cell_of_row w r 5 _ T (0,0) h0];rfl⟩
theorem LF {l:List Cl} {x:Sx} {Q8 Q7:List Value} {F0:Nat→Prop} {w wr w7 W9:World} {b N:Nat} (hx:SAt F0 wr x Q8) (hF:∀k,F0 k→b+2≤k∧k<wr.heap.size) (iG:wr.grownBy w7 none) (hr:RSt (fun k=>N≤k∧k<w7.heap.size) w7 x Q7) (hN:b+2≤N) (hf:Fr2 (fun k=>k=b∨k=b+1) w7 W9) (hg:w.grownBy W9 none) (h:eY l=some x) (hb:w.heap.size=b):
  ve l w (.returned (.tuple #[.agg Q8.toArray,.agg Q7.toArray,.bool true])) W9:=by
 have s1:=iG.size
 have s2:=hf.size
 refine⟨hg,?_⟩
 rw [h]
 refine⟨Q8,Q7,rfl,SAt.mono (fun k hk=>?_) (SAt.same hf (fun k hk e=>?_) (hx.kept iG)),RSt.mono (fun k hk=>?_) (RSt.same hf (fun k hk e=>?_) hr)⟩
 ·have:=hF k hk;omega
 ·have:=hF k hk;omega
 ·omega
 ·omega
theorem Uq (l:List Cl) (pt:Option Addr) (ct:Nat) (w:World) (hT:GAt 6 w pt (l.map oR)) (hk:∀c∈l,-9223372036854775808≤c.kids∧c.kids<9223372036854775808):
  Calls Tryz.prog 5 #[.slice pt l.length ct] w (ve l w):=by
 obtain⟨m,hm⟩:∃m,l.length=m:=⟨_,rfl⟩
 have HT:=zh hT;have HK:=zh hk;have HM:=zh hm
 rw [hm]
 clear hT hk hm
 have vl:=heap_alloc_new w (.cells z8 30)
 have lF:=World.grownBy_alloc w (.cells z8 30) none
 have kK:=heap_alloc_new (w.alloc (.cells z8 30)) (.cells z7 33)
 have oZ:=World.grownBy_alloc (w.alloc (.cells z8 30)) (.cells z7 33) none
 have BI:(w.alloc (.cells z8 30)).heap.size=w.heap.size+1:=by simp
 rw [BI] at kK
 have vl:=bx oZ vl
 have hg:=aa lF oZ
 have EE:((w.alloc (.cells z8 30)).alloc (.cells z7 33)).heap.size=w.heap.size+2:=by simp
 unfold z8 z7 at vl kK hg EE
 go_enter Tryz.func5,Tryz.ntmps5
 go_upto_region 1 with fail
 generalize ((w.alloc (.cells #[.int .i64 0,.string ⟨#[]⟩,.string ⟨#[]⟩,.bool false,.slice none 0 0,.bool false,.slice none 0 0,.int .i64 0] 30)).alloc (.cells #[.int .i64 0,.string ⟨#[]⟩,.string ⟨#[]⟩,.string ⟨#[]⟩,.bool false,.slice none 0 0,.int .i64 0] 33))=W at *
 obtain⟨b0,jK⟩:∃b0,w.heap.size=b0:=⟨_,rfl⟩
 rw [jK] at vl kK EE ⊢
 have f9:=zh jK;have nK:=zh vl;have fL:=zh kK;have da:=zh hg;have Cy:=zh EE
 clear lF oZ BI vl kK hg EE jK
 obtain⟨c0,c1,c2,c3,c4,c5,c6,c7⟩:=bm nK.out
 obtain⟨d0,d1,d2,d3,d4,d5,d6,d7⟩:=dn fL.out
 have fz:=frz nK.out
 have mV:b0<W.heap.size:=hlt nK.out
 have zG:b0+1<W.heap.size:=hlt fL.out
 by_cases h30:30<m
 ·have HN:Hid (eY l=none):=zh (by unfold eY;rw [if_pos (by rw [HM.out];exact h30)])
  have x1:decide (30<m)=true:=zd h30
  have x2:decide ((30:Int)<(m:Int))=true:=zd (by omega)
  clear h30
  go_wp2_with fail
  obtain⟨p1,p2,p3,-⟩:=pV nK.out fL.out da.out f9.out (.int .i64 0) (.string ⟨#[]⟩) (.string ⟨#[]⟩) (.bool false) (.slice none 0 0) (.bool false) (.slice none 0 0) (.int .i64 0) (.int .i64 0) (.string ⟨#[]⟩) (.string ⟨#[]⟩) (.string ⟨#[]⟩) (.bool false) (.slice none 0 0) (.int .i64 0)
  obtain⟨r0,r1,r2,r3,r4,r5,r6,r7⟩:=bm p1
  obtain⟨s0,s1,s2,s3,s4,s5,s6,-⟩:=dn p2
  refine bodyPost_ret (v:=.tuple #[.agg z8,.agg z7,.bool false]) (by simp [results,Tryz.results5,go_sem,r0,r1,r2,r3,r4,r5,r6,r7,s0,s1,s2,s3,s4,s5,s6,z8,z7]) rfl (kC HN.out p3)
 ·have x1:decide (30<m)=false:=decide_eq_false h30
  have x2:decide ((30:Int)<(m:Int))=false:=decide_eq_false (by omega)
  have abU:m≤30:=by omega
  have adN:Hid (kB (b0+2) W (.slice none 0 0) (cA (l.take 0)) []):=zh ⟨ak.nil _ _ _ _,by rw [List.take_zero];exact LsS.nil,by have:=Cy.out;omega⟩
  clear h30
  go_wp2_with fail
  clear x1 x2 c0 c1 c2 c3 c4 c5 c6 c7 d0 d1 d2 d3 d4 d5 d6 d7 fz mV zG
  go_loopg [5,18] m (fun gk ov iv wr=>∃(j:Nat) (rows:List (List Value)) (pv:Option Addr) (nv cv:Nat),j≤m∧iv=.int .i64 (j:Int)∧ov=.slice pv nv cv∧m - j≤gk∧gk≤m∧Hid (kB (b0+2) wr (.slice pv nv cv) (cA (l.take j)) rows)∧Hid ((l.take j).all jw=true)∧Hid (W.grownBy wr none))
  case atStart=>exact⟨0,[],none,0,0,Nat.zero_le _,rfl,rfl,by omega,Nat.le_refl _,adN,zh rfl,zh (ad _ _)⟩
  case round=>
   obtain⟨j,rows,pv,nv,cv,hj,rfl,rfl,MB,JI,gM,Z8,j4⟩:=hrel
   have qO:=zh (bx j4.out nK.out);have uH:=zh (bx j4.out fL.out);have CK:=zh (aa da.out j4.out)
   have mV:b0<wr.heap.size:=hlt qO.out
   have zG:b0+1<wr.heap.size:=hlt uH.out
   by_cases j3:j<m
   ·have y3:decide ((j:Int)<(m:Int))=true:=zd (by omega)
    have y4:decide (j<m)=true:=zd j3
    have y5:(0:Int)≤(j:Int):=by omega
    have y6:(j:Int)<(m:Int):=by omega
    obtain⟨c,hc⟩:∃c,l[j]? = some c:=⟨l[j]'(by rw [HM.out];exact j3),List.getElem?_eq_getElem _⟩
    have Uy:(l.map oR)[j]? = some (oR c):=by rw [List.getElem?_map,hc];rfl
    obtain⟨g,off,rfl,gc,iA⟩:=HT.out.resolve_left (fun e=>by rw [e] at Uy;simp at Uy)
    have iA:=fun i v h=>CK.out.cell (iA j _ Uy i v h) (by simp)
    have HC:=zh hc
    have HKC:=zh (HK.out c (List.mem_of_getElem? hc))
    obtain⟨op,kids,nm,md,nu,ys⟩:=c
    unfold oR aw at iA
    simp only at iA
    obtain⟨sn,Qr⟩:∃s:ByteArray,(⟨nm.toArray⟩:ByteArray)=s:=⟨_,rfl⟩
    obtain⟨sm,Rt⟩:∃s:ByteArray,(⟨md.toArray⟩:ByteArray)=s:=⟨_,rfl⟩
    obtain⟨su,hsu⟩:∃s:ByteArray,(⟨nu.toArray⟩:ByteArray)=s:=⟨_,rfl⟩
    have YJ:nm.length=sn.size:=by rw [←Qr];rfl
    have vA:md.length=sm.size:=by rw [←Rt];rfl
    have JC:nu.length=su.size:=by rw [←hsu];rfl
    rw [Qr,Rt,hsu] at iA
    have HSN:=zh Qr;have OD:=zh Rt;have HSU:=zh hsu
    have k0:=iA 0 _ rfl
    have k1:=iA 1 _ rfl
    have k2:=iA 2 _ rfl
    have k3:=iA 3 _ rfl
    have k4:=iA 4 _ rfl
    have k5:=iA 5 _ rfl
    rw [Nat.add_zero] at k0
    have gc:=zn gc CK.out.size
    have lm:Hid (jw ⟨op,kids,nm,md,nu,ys⟩=false→eY l=none):=zh (fun h=>by
     unfold eY
     rw [if_neg (by rw [HM.out];omega),if_neg (fun e=>by
      have:=List.all_eq_true.1 e _ (List.mem_of_getElem? hc)
      rw [h] at this;cases this)])
    have yH:jw ⟨op,kids,nm,md,nu,ys⟩=(decide (sn.size≤60) && decide (sm.size≤60) && decide (su.size≤80)):=by rw [←YJ,←vA,←JC];rfl
    rw [yH] at lm
    have JN:=zh yH
    have NS:60<sn.size∨(sn.size≤60∧60<sm.size)∨(sn.size≤60∧sm.size≤60∧80<su.size)∨(sn.size≤60∧sm.size≤60∧su.size≤80):=by omega
    clear Uy iA hc Qr Rt hsu YJ vA JC yH
    go_upto_region 7 with fail
    have hzw:b0+2≤wr.heap.size:=by have h1:=Cy.out;have h2:=j4.out.size;omega
    have dG:=World.grownBy_alloc wr (.cells #[.int .i64 op,.int .i64 kids,.string sn,.string sm,.string su,.bool ys] 61) none
    have hbc:=heap_alloc_new wr (.cells #[.int .i64 op,.int .i64 kids,.string sn,.string sm,.string su,.bool ys] 61)
    have qO:=zh (bx dG qO.out);have uH:=zh (bx dG uH.out);have CK:=zh (aa CK.out dG);have j4:=zh (aa j4.out dG)
    have gM:=zh (gM.out.kept dG)
    clear k0 k1 k2 k3 k4 k5 gc mV zG y3 y4 y5 y6
    generalize (wr.alloc (.cells #[.int .i64 op,.int .i64 kids,.string sn,.string sm,.string su,.bool ys] 61))=W1 at *
    obtain⟨bc,WR⟩:∃bc,wr.heap.size=bc:=⟨_,rfl⟩
    rw [WR] at hbc ⊢
    have HBC:=zh hbc
    have HZC:Hid (b0+2≤bc):=zh (by rw [←WR];exact hzw)
    clear dG hbc WR hzw
    obtain⟨t0,t1,t2,t3,t4,t5⟩:=sA HBC.out
    obtain⟨c0,c1,c2,c3,c4,c5,c6,c7⟩:=bm qO.out
    obtain⟨d0,d1,d2,d3,d4,d5,d6,d7⟩:=dn uH.out
    have fz:=frz qO.out
    have mV:b0<W1.heap.size:=hlt qO.out
    have zG:b0+1<W1.heap.size:=hlt uH.out
    have yj:bc<W1.heap.size:=hlt HBC.out
    rcases NS with DZ | ⟨DZ,h61⟩ | ⟨DZ,h61,h80⟩ | ⟨DZ,h61,h80⟩
    focus
     have v1:decide (60<sn.size)=true:=zd (by omega);have v1i:decide ((60:Int)<(sn.size:Int))=true:=zd (by omega)
     have HN:Hid (eY l=none):=zh (lm.out (by rw [decide_eq_false (by omega:¬sn.size≤60)];rfl))
     clear MB JI lm JN
     go_wp2_with fail
     obtain⟨p1,p2,p3,-⟩:=pV qO.out uH.out CK.out f9.out (.int .i64 0) (.string ⟨#[]⟩) (.string ⟨#[]⟩) (.bool false) (.slice none 0 0) (.bool false) (.slice none 0 0) (.int .i64 0) (.int .i64 0) (.string ⟨#[]⟩) (.string ⟨#[]⟩) (.string ⟨#[]⟩) (.bool false) (.slice none 0 0) (.int .i64 0)
     obtain⟨r0,r1,r2,r3,r4,r5,r6,r7⟩:=bm p1
     obtain⟨s0,s1,s2,s3,s4,s5,s6,-⟩:=dn p2
     refine bodyPost_ret (v:=.tuple #[.agg z8,.agg z7,.bool false]) (by simp [results,Tryz.results5,go_sem,r0,r1,r2,r3,r4,r5,r6,r7,s0,s1,s2,s3,s4,s5,s6,z8,z7]) rfl (kC HN.out p3)
    focus
     have v1:decide (60<sn.size)=false:=decide_eq_false (by omega);have v1i:decide ((60:Int)<(sn.size:Int))=false:=decide_eq_false (by omega)
     have v2:decide (60<sm.size)=true:=zd (by omega);have v2i:decide ((60:Int)<(sm.size:Int))=true:=zd (by omega)
     have HN:Hid (eY l=none):=zh (lm.out (by rw [decide_eq_false (by omega:¬sm.size≤60)];simp))
     clear MB JI lm JN
     go_wp2_with fail
     obtain⟨p1,p2,p3,-⟩:=pV qO.out uH.out CK.out f9.out (.int .i64 0) (.string ⟨#[]⟩) (.string ⟨#[]⟩) (.bool false) (.slice none 0 0) (.bool false) (.slice none 0 0) (.int .i64 0) (.int .i64 0) (.string ⟨#[]⟩) (.string ⟨#[]⟩) (.string ⟨#[]⟩) (.bool false) (.slice none 0 0) (.int .i64 0)
     obtain⟨r0,r1,r2,r3,r4,r5,r6,r7⟩:=bm p1
     obtain⟨s0,s1,s2,s3,s4,s5,s6,-⟩:=dn p2
     refine bodyPost_ret (v:=.tuple #[.agg z8,.agg z7,.bool false]) (by simp [results,Tryz.results5,go_sem,r0,r1,r2,r3,r4,r5,r6,r7,s0,s1,s2,s3,s4,s5,s6,z8,z7]) rfl (kC HN.out p3)
    focus
     have v1:decide (60<sn.size)=false:=decide_eq_false (by omega);have v1i:decide ((60:Int)<(sn.size:Int))=false:=decide_eq_false (by omega)
     have v2:decide (60<sm.size)=false:=decide_eq_false (by omega);have v2i:decide ((60:Int)<(sm.size:Int))=false:=decide_eq_false (by omega)
     have v3:decide (80<su.size)=true:=zd (by omega);have v3i:decide ((80:Int)<(su.size:Int))=true:=zd (by omega)
     have HN:Hid (eY l=none):=zh (lm.out (by rw [decide_eq_false (by omega:¬su.size≤80)];simp))
     clear MB JI lm JN
     go_wp2_with fail
     obtain⟨p1,p2,p3,-⟩:=pV qO.out uH.out CK.out f9.out (.int .i64 0) (.string ⟨#[]⟩) (.string ⟨#[]⟩) (.bool false) (.slice none 0 0) (.bool false) (.slice none 0 0) (.int .i64 0) (.int .i64 0) (.string ⟨#[]⟩) (.string ⟨#[]⟩) (.string ⟨#[]⟩) (.bool false) (.slice none 0 0) (.int .i64 0)
     obtain⟨r0,r1,r2,r3,r4,r5,r6,r7⟩:=bm p1
     obtain⟨s0,s1,s2,s3,s4,s5,s6,-⟩:=dn p2
     refine bodyPost_ret (v:=.tuple #[.agg z8,.agg z7,.bool false]) (by simp [results,Tryz.results5,go_sem,r0,r1,r2,r3,r4,r5,r6,r7,s0,s1,s2,s3,s4,s5,s6,z8,z7]) rfl (kC HN.out p3)
    focus
     have v1:decide (60<sn.size)=false:=decide_eq_false (by omega);have v1i:decide ((60:Int)<(sn.size:Int))=false:=decide_eq_false (by omega)
     have v2:decide (60<sm.size)=false:=decide_eq_false (by omega);have v2i:decide ((60:Int)<(sm.size:Int))=false:=decide_eq_false (by omega)
     have v3:decide (80<su.size)=false:=decide_eq_false (by omega);have v3i:decide ((80:Int)<(su.size:Int))=false:=decide_eq_false (by omega)
     have HFC:Hid (jw ⟨op,kids,nm,md,nu,ys⟩=true):=zh (by rw [JN.out,zd DZ,zd h61,zd h80];rfl)
     clear lm JN DZ h61 h80
     go_upto_region 9 with fail
     go_upto_region 10 with fail
     have dG:=World.grownBy_alloc W1 (.cells #[.int .i64 op,.string sn,.string sm,.bool false,.slice none 0 0,.bool ys,.slice none 0 0,.int .i64 0] 30) none
     have Yy:=heap_alloc_new W1 (.cells #[.int .i64 op,.string sn,.string sm,.bool false,.slice none 0 0,.bool ys,.slice none 0 0,.int .i64 0] 30)
     generalize (W1.alloc (.cells #[.int .i64 op,.string sn,.string sm,.bool false,.slice none 0 0,.bool ys,.slice none 0 0,.int .i64 0] 30))=W2 at *
     obtain⟨be,Pj⟩:∃be,W1.heap.size=be:=⟨_,rfl⟩
     rw [Pj] at Yy ⊢
     have CA:=zh Yy;have Bo:=zh dG
     have aau:=zh Pj
     have HZE:Hid (bc<be):=zh (by rw [←Pj];exact yj)
     have GK:=zh (bx dG HBC.out)
     clear dG Yy Pj t0 t1 t2 t3 t4 t5 c0 c1 c2 c3 c4 c5 c6 c7 d0 d1 d2 d3 d4 d5 d6 d7 fz mV zG yj
     obtain⟨t0,t1,t2,t3,t4,t5⟩:=sA GK.out
     obtain⟨c0,c1,c2,c3,c4,c5,c6,c7⟩:=bm CA.out
     have fz:=frz CA.out
     have Ea:be<W2.heap.size:=hlt CA.out
     have yj:bc<W2.heap.size:=hlt GK.out
     have AD:=zh (Zd.Parse_c su W2)
     by_cases h1:op=1
     focus
      have h1b:(op == 1)=true:=by rw [h1];rfl
      have h1n:rQ ⟨op,kids,nm,md,nu,ys⟩=Zd.parseV su.data.toList:=by rw [←HSU.out];unfold rQ;rw [if_pos h1]
      have H1N:=zh h1n
      clear h1 h1n
      go_wp2_with fail
      refine AD.out.mono ?_
      rintro e W3 ⟨xv,rfl,hiv,fM,QL⟩
      obtain⟨s,v,Nn,rfl,⟨pw,nw,cw,ff,rfl,vw⟩,tP⟩:=id hiv
      have QL:=QL s pw nw cw rfl
      have S8:=fun h0=>Zd.int_some hiv h0
      have ig:=bx fM CA.out
      obtain⟨t0,t1,t2,t3,t4,t5⟩:=sA (bx fM GK.out)
      obtain⟨c0,c1,c2,c3,c4,c5,c6,c7⟩:=bm ig
      have fz:=frz ig
      have Ea:be<W3.heap.size:=hlt ig
      have yj:bc<W3.heap.size:=zn yj fM.size
      have rz:Hid (∃s,W3.heap[be]? = some s):=zh ⟨_,ig⟩
      have hs4:(((W3.setCell ⟨be,3,none⟩ (.bool s)).setCell ⟨be,4,none⟩ (.slice pw nw cw))).heap[be]? = some (.cells #[.int .i64 op,.string sn,.string sm,.bool s,.slice pw nw cw,.bool ys,.slice none 0 0,.int .i64 0] 30 (0,0)):=ab (i:=4) (u:=.slice pw nw cw) (ab (i:=3) (u:=.bool s) ig)
      have Zn:Fr2 (fun k=>k=be) W3 ((W3.setCell ⟨be,3,none⟩ (.bool s)).setCell ⟨be,4,none⟩ (.slice pw nw cw)):=((Fr2.refl (fun k=>k=be) W3).setCell (rfl:(fun k=>k=be) be) _).setCell (rfl:(fun k=>k=be) be) _
      have hzb:W1.heap.size≤be:=Nat.le_of_eq aau.out
      have eg:Hid (W1.grownBy ((W3.setCell ⟨be,3,none⟩ (.bool s)).setCell ⟨be,4,none⟩ (.slice pw nw cw)) none):=zh (gy (aa Bo.out fM) Zn (fun i hi=>by have hi:i=be:=hi;omega))
      have bl:0<nw→∀a,pw=some a→a.block≠be:=fun h0 a ha e=>by
       obtain⟨a',jE,MZ⟩:=QL h0
       rw [ha] at jE;injection jE with jE;subst jE
       have:=hlt CA.out;omega
      have HI:Hid (Zd.IsInt ((W3.setCell ⟨be,3,none⟩ (.bool s)).setCell ⟨be,4,none⟩ (.slice pw nw cw)) (.agg #[.bool s,.slice pw nw cw]) (rQ ⟨op,kids,nm,md,nu,ys⟩)):=zh (by
       rw [H1N.out]
       exact qN hiv Zn (fun h0 a ha e=>bl h0 a ha e))
      have HIF:Hid (0<nw→∃a,pw=some a∧be<a.block∧a.block<(((W3.setCell ⟨be,3,none⟩ (.bool s)).setCell ⟨be,4,none⟩ (.slice pw nw cw))).heap.size):=zh (fun h0=>by
       obtain⟨a,ha,MZ⟩:=QL h0
       obtain⟨a',jE,Yp⟩:=S8 h0
       rw [ha] at jE;injection jE with jE;subst jE
       exact⟨a,ha,by have:=hlt CA.out;have:=HZE.out;omega,zn Yp Zn.size⟩)
      have J0:=zh (Zn.keep (bx fM GK.out) (by have:=HZE.out;omega))
      have Ju:=zh hs4
      clear hiv QL S8 vw tP hs4 Zn bl ig fM
      go_upto_region 12 with fail
      clear t0 t1 t2 t3 t4 t5 c0 c1 c2 c3 c4 c5 c6 c7 fz Ea yj hzb rz h1b AD H1N
      generalize ((W3.setCell ⟨be,3,none⟩ (.bool s)).setCell ⟨be,4,none⟩ (.slice pw nw cw))=W4 at *
     rotate_left 1
     focus
      have h1b:(op == 1)=false:=beq_eq_false_iff_ne.2 h1
      have h1n:rQ ⟨op,kids,nm,md,nu,ys⟩=0:=by unfold rQ;rw [if_neg h1]
      obtain⟨s,hse⟩:∃s:Bool,false=s:=⟨_,rfl⟩
      obtain⟨pw,hpw⟩:∃p:Option Addr,none=p:=⟨_,rfl⟩
      obtain⟨nw,hnw⟩:∃n:Nat,0=n:=⟨_,rfl⟩
      obtain⟨cw,tC⟩:∃n:Nat,0=n:=⟨_,rfl⟩
      have HI:Hid (Zd.IsInt W2 (.agg #[.bool s,.slice pw nw cw]) (rQ ⟨op,kids,nm,md,nu,ys⟩)):=zh (by rw [h1n,←hse,←hpw,←hnw,←tC];exact Zd.zero_int _)
      have HIF:Hid (0<nw→∃a,pw=some a∧be<a.block∧a.block<W2.heap.size):=zh (fun h0=>by omega)
      have Ju:Hid (W2.heap[be]? = some (.cells #[.int .i64 op,.string sn,.string sm,.bool s,.slice pw nw cw,.bool ys,.slice none 0 0,.int .i64 0] 30 (0,0))):=zh (by rw [←hse,←hpw,←hnw,←tC];exact CA.out)
      have eg:=Bo;have J0:=GK
      clear h1 h1n hse hpw hnw tC
      go_upto_region 12 with fail
      clear t0 t1 t2 t3 t4 t5 c0 c1 c2 c3 c4 c5 c6 c7 fz Ea yj h1b AD
      clear Bo GK CA
      generalize W2=W4 at *
     rotate_left 1
     all_goals
      obtain⟨T,hT⟩:∃T,ft ⟨op,kids,nm,md,nu,ys⟩=T:=⟨_,rfl⟩
      have hT9:T≤9:=by rw [←hT];exact Hr _
      have kA:Hid (∀W,Calls Tryz.prog 13 #[.agg #[.int .i64 op,.int .i64 kids,.string sn,.string sm,.string su,.bool ys]] W (sO (T:Int) W)):=zh (fun W=>by
       have:=R7 ⟨op,kids,nm,md,nu,ys⟩ W HKC.out
       unfold XW aw at this
       rw [hT] at this
       simp only at this
       rw [HSN.out,OD.out,HSU.out] at this
       exact this)
      have V1:=zh (gM.out.kept eg.out)
      have D2:nv=rows.length:=by obtain⟨p',c',e,-⟩:=V1.out.1.is;injection e
      have nA:rows.length=(cA (l.take j)).length:=V1.out.2.1.len
      have Bq:rows.length≤30:=by rw [nA];have h1:=uS (l.take j);rw [List.length_take] at h1;omega
      obtain⟨nk,R5⟩:∃nk,min T nv=nk:=⟨_,rfl⟩
      have agG:min (T:Int) (nv:Int)=(nk:Int):=by omega
      have aka:nk≤nv:=by omega
      have akl:nk≤9:=by omega
      have OK:=zh hT;have Xg:=zh D2;have XJ:=zh nA;have aaO:=zh Bq;have HNK:=zh R5
      clear hT hT9 D2 nA Bq R5
      obtain⟨t0,t1,t2,t3,t4,t5⟩:=sA J0.out
      have yj:bc<W4.heap.size:=hlt J0.out
      go_wp2_with fail
      refine(kA.out W4).mono ?_
      rintro e W5 ⟨rfl,jI⟩
      have SQ:=zh (bx jI Ju.out);have ajK:=zh (bx jI J0.out);have iD:=zh (aa eg.out jI)
      have HI5:=zh (HI.out.kept jI)
      have ad4:Hid (0<nw→∃a,pw=some a∧be<a.block∧a.block<W5.heap.size):=zh (fun h0=>by obtain⟨a,ha,h1,h2⟩:=HIF.out h0;exact⟨a,ha,h1,zn h2 jI.size⟩)
      have WC:=zh (gM.out.kept iD.out)
      clear jI t0 t1 t2 t3 t4 t5 yj kA HI HIF Ju J0 V1
      go_upto_region 13 with fail
      have hcv:nv≤cv:=by
       obtain⟨p',c',e,-,h2,-⟩:=WC.out.1.is
       injection e with e1 e2 e3
       have:=Xg.out;omega
      obtain⟨nd,JA⟩:∃nd,nv - nk=nd:=⟨_,rfl⟩
      have rC:IntKind.i64.wrap ((nv:Int) - (nk:Int))=(nd:Int):=by rw [IntWalk.i64_in _ (by have:=Xg.out;have:=aaO.out;omega)];omega
      have q1:(0:Int)≤(nd:Int):=by omega
      have q2:(nd:Int)≤(nv:Int):=by omega
      have q3:nd≤nv:=by omega
      have q4:(nv:Int)≤(cv:Int):=by omega
      have q5:¬(nv:Int)<(nd:Int):=by omega
      have q6:nv - nd=nk:=by omega
      have q7:nd≤cv:=by omega
      have Vi:=zh JA
      clear JA
      obtain⟨c0,c1,c2,c3,c4,c5,c6,c7⟩:=bm SQ.out
      have fz:=frz SQ.out
      have Ea:be<W5.heap.size:=hlt SQ.out
      have aaz:Hid (∃o1 o2 r1 r2,cA (l.take j)=o1++o2∧rows=r1++r2∧r1.length=nd∧o1.length=nd∧r2.length=nk∧cA (l.take (j+1))=o1++[.mk op nm md (rQ ⟨op,kids,nm,md,nu,ys⟩) ys o2 0]):=zh (by
       have h1:=XJ.out
       have h2:=Xg.out;have h3:=Vi.out;have h4:=HNK.out
       refine⟨(cA (l.take j)).take nd,(cA (l.take j)).drop nd,rows.take nd,rows.drop nd,(List.take_append_drop _ _).symm,(List.take_append_drop _ _).symm,by rw [List.length_take];omega,by rw [List.length_take];omega,by rw [List.length_drop];omega,?_⟩
       rw [List.take_add_one,HC.out]
       show cA (l.take j++[_])=_
       rw [Ar]
       unfold iF
       rw [OK.out,show(cA (l.take j)).length - T=nd by omega])
      obtain⟨o1,o2,r1,r2,ho,hr,vw,rg,tP,si⟩:=aaz.out
      have ad8:=zh si
      have Te:=WC.out
      rw [ho,hr] at Te
      have Y2:=zh Te
      have WG:=gM.out
      rw [ho,hr] at WG
      have Qe:=zh (fun (pk:Option Addr) (nk' ck:Nat) (W7:World) h7 h8=>Py (B:=b0+2) (pk:=pk) (nk:=nk') (ck:=ck) (W7:=W7) (op:=op) (ys:=ys) HSN.out OD.out WG vw rg HI5.out ad4.out SQ.out aau.out iD.out (by have:=HZC.out;have:=HZE.out;omega) h7 h8)
      have hpv:(pv=none∧r2 = [])∨∃ga,pv=some ⟨ga,0,none⟩:=by
       rcases Te.1.1.2 with ⟨e,h0⟩ | ⟨ga,cap,fp,e,-⟩
       ·injection e with e1
        left
        refine⟨e1,?_⟩
        have h1:(r1++r2).length=0:=h0
        rw [List.length_append] at h1
        exact List.eq_nil_of_length_eq_zero (by omega)
       ·injection e with e1
        exact .inr ⟨ga,e1⟩
      have Gv:=zh vw;have ot:=zh rg;have IO:=zh tP
      have kL:Hid (Wid 8 r2):=zh (fun q hq=>Te.1.2 q (List.mem_append_right _ hq))
      clear ho hr vw rg tP si Te WG aaz gM WC
      have agD:∃pS:Option Addr,(match pv with | none=>pS=none | some a=>(cv=nd∧pS=some a∧True)∨(cv≠nd∧∃ga,a=⟨ga,0,none⟩∧pS=some ⟨ga,nd*8,none⟩))∧Hid (∀W6,W5.grownBy W6 none→GAt 8 W6 pS r2):=by
       rcases hpv with ⟨rfl,tP⟩ | ⟨ga,rfl⟩
       ·exact⟨none,rfl,zh (fun W6 _=>.inl tP)⟩
       ·by_cases hcd:cv=nd
        ·refine⟨_,.inl ⟨hcd,rfl,trivial⟩,zh (fun W6 _=>.inl (List.eq_nil_of_length_eq_zero (by have:=IO.out;omega)))⟩
        ·exact⟨_,.inr ⟨hcd,ga,rfl,rfl⟩,zh (fun W6 h6=>(MQ Y2.out.1 Gv.out).kept h6)⟩
      obtain⟨pS,hpS,afL⟩:=agD
      refine wp_region_lit ?_
      refine wpList_plain rfl (fun K hK=>?_)
      go_simp
      refine hK _ _ ?_
      clear hK
      refine wpList_plain rfl (fun K hK=>?_)
      go_simp
      refine hK _ _ ?_
      clear hK
      refine wpList_plain rfl (fun K hK=>?_)
      go_simp
      refine hK _ _ ?_
      clear hK
      refine wpList_plain rfl (fun K hK=>?_)
      go_simp
      refine hK _ _ ?_
      clear hK
      refine wpList_plain rfl (fun K hK=>?_)
      go_simp
      refine hK _ _ ?_
      clear hK
      refine wpList_plain rfl (fun K hK=>?_)
      go_simp
      refine hK _ _ ?_
      clear hK
      have T9:ak 8 30 (W5.alloc (.cells #[] 30)) W5.heap.size (.slice (some ⟨W5.heap.size,0,none⟩) 0 0) []:=⟨World.ownsRow_made W5 #[] 0 (Nat.le_refl _) (by unfold maxLen;omega) rfl,fun q hq=>by cases hq⟩
      have dk:=World.grownBy_alloc W5 (.cells #[] 30) none
      have aex:(W5.alloc (.cells #[] 30)).heap.size=W5.heap.size+1:=by simp
      have hw:(pv=none∧pS=none)∨(∃a,pv=some a∧cv=nd∧pS=some a)∨(∃ga,pv=some ⟨ga,0,none⟩∧cv≠nd∧pS=some ⟨ga,nd*8,none⟩):=by
       cases pv with
       | none=>exact .inl ⟨rfl,hpS⟩
       | some a=>
         rcases hpS with ⟨h1,h2,-⟩ | ⟨h1,ga,h2,h3⟩
         ·exact .inr (.inl ⟨a,rfl,h1,h2⟩)
         ·exact .inr (.inr ⟨ga,by rw [h2],h1,h3⟩)
      have HPV:=zh hpv
      clear hpS hpv
      rcases hw with ⟨rfl,rfl⟩ | ⟨a,rfl,hcd,rfl⟩ | ⟨ga,rfl,hcd,rfl⟩
      focus
       refine wpList_plain rfl (fun K hK=>?_)
       go_simp
       refine hK _ _ ?_
       clear hK
      rotate_left 1
      focus
       have ad9:=hcd.symm
       clear hcd
       subst ad9
       refine wpList_plain rfl (fun K hK=>?_)
       go_simp
       refine hK _ _ ?_
       clear hK
      rotate_left 1
      focus
       refine wpList_plain rfl (fun K hK=>?_)
       go_simp
       refine hK _ _ ?_
       clear hK
      rotate_left 1
      all_goals
       refine oG (s:=8) (t:=28) (T:=30) (by decide) Tryz.underlying28 pB rfl (by omega) rfl (Operand.tmp 64) (Operand.tmp 70) rfl W5.heap.size [] r2 kL.out (.slice (some ⟨W5.heap.size,0,none⟩) 0 0) rfl T9 _ nk _ rfl IO.out (afL.out _ dk) (by simp) (by omega) (by omega) ?_
       intro pk nk' ck W7 hnn hO7 hbl7 iG
       obtain⟨CD,ZU,zi,GG,hx8,ZP⟩:=Qe.out pk nk' ck W7 hO7 iG
       have HB8:=zh ZU;have jl:=zh zi;have PU:=zh GG;have HX8:=zh hx8;have IL:=zh ZP
       obtain⟨c0,c1,c2,c3,c4,c5,c6,c7⟩:=bm CD
       have fz:=frz CD
       have Ea:be<W7.heap.size:=hlt CD
       clear CD ZU zi GG hx8 ZP hnn hO7 hbl7 iG T9 dk aex
       go_upto_region 14 with fail
       clear c0 c1 c2 c3 c4 c5 c6 c7 fz Ea
       generalize (W7.setCell ⟨be,6,none⟩ (.slice pk nk' ck))=W8 at *
       obtain⟨c0,c1,c2,c3,c4,c5,c6,c7⟩:=bm HB8.out
       have Ea:be<W8.heap.size:=hlt HB8.out
       have VY:=zh HX8.out.eight.2
       have lT:=zh (heap_alloc_new W8 (.cells #[.int .i64 op,.string sn,.string sm,.bool s,.slice pw nw cw,.bool ys,.slice pk nk' ck,.int .i64 0] 30))
       have XZ:Hid (r1.length≤1000000):=zh (by have:=Gv.out;have:=Xg.out;have:=aaO.out;omega)
       have Tc:Hid (b0+2≤W8.heap.size):=zh PU.out.2.2
       have afW:Hid ((l.take (j+1)).all jw=true):=zh (by rw [List.take_add_one,HC.out,List.all_append,Z8.out];simp [HFC.out])
       go_region_law (first | (refine fc (s:=8) (t:=28) (T:=30) (by decide) Tryz.underlying28 pB rfl (by omega) rfl _ _ rfl (b0+2) r1 [.int .i64 op,.string sn,.string sm,.bool s,.slice pw nw cw,.bool ys,.slice pk nk' ck,.int .i64 0] rfl VY.out (.slice none nd cv) rfl (ak.kept IL.out gby) W8.heap.size _ rfl (by exact lT.out) rfl XZ.out (by have:=Tc.out;simp;omega) (W8.heap.size+1) (by simp) ?_;intro g9 cap9 w9 ii eu ef;have gN:=tI (W:=W) PU.out Gv.out ot.out HX8.out (show W8.grownBy _ none from gby) ii eu ef (by simp) (aa j4.out jl.out) (by have:=Cy.out;omega);have Sp:=zh gN.1;have rr:=zh gN.2;clear gN ii eu ef) | (refine fc (s:=8) (t:=28) (T:=30) (by decide) Tryz.underlying28 pB rfl (by omega) rfl _ _ rfl (b0+2) r1 [.int .i64 op,.string sn,.string sm,.bool s,.slice pw nw cw,.bool ys,.slice pk nk' ck,.int .i64 0] rfl VY.out (.slice (some a) nd nd) rfl (ak.kept IL.out gby) W8.heap.size _ rfl (by exact lT.out) rfl XZ.out (by have:=Tc.out;simp;omega) (W8.heap.size+1) (by simp) ?_;intro g9 cap9 w9 ii eu ef;have gN:=tI (W:=W) PU.out Gv.out ot.out HX8.out (show W8.grownBy _ none from gby) ii eu ef (by simp) (aa j4.out jl.out) (by have:=Cy.out;omega);have Sp:=zh gN.1;have rr:=zh gN.2;clear gN ii eu ef) | (refine fc (s:=8) (t:=28) (T:=30) (by decide) Tryz.underlying28 pB rfl (by omega) rfl _ _ rfl (b0+2) r1 [.int .i64 op,.string sn,.string sm,.bool s,.slice pw nw cw,.bool ys,.slice pk nk' ck,.int .i64 0] rfl VY.out (.slice (some ⟨ga,0,none⟩) nd cv) rfl (ak.kept IL.out gby) W8.heap.size _ rfl (by exact lT.out) rfl XZ.out (by have:=Tc.out;simp;omega) (W8.heap.size+1) (by simp) ?_;intro g9 cap9 w9 ii eu ef;have gN:=tI (W:=W) PU.out Gv.out ot.out HX8.out (show W8.grownBy _ none from gby) ii eu ef (by simp) (aa j4.out jl.out) (by have:=Cy.out;omega);have Sp:=zh gN.1;have rr:=zh gN.2;clear gN ii eu ef))
       all_goals
        go_wp2_with fail
        rw [←ad8.out] at Sp
        have hgm:m - (j+1)<gk:=by omega
        go_roundg (m - (j+1))
        case rel=>exact⟨j+1,_,_,_,_,by omega,by go_num,rfl,Nat.le_refl _,by omega,Sp,afW,rr⟩
        case measure=>omega
   ·obtain rfl:j=m:=by omega
    have y3:decide ((j:Int)<(j:Int))=false:=decide_eq_false (by omega)
    have T2:l.take j=l:=List.take_of_length_le (by rw [HM.out];exact Nat.le_refl _)
    rw [T2] at gM Z8
    have Xn:Hid (eY l=(cA l).getLast?):=zh (by
     unfold eY
     rw [if_neg (by rw [HM.out];omega),if_pos Z8.out])
    have D2:nv=rows.length:=by obtain⟨p',c',e,-⟩:=gM.out.1.is;injection e
    have nA:rows.length=(cA l).length:=gM.out.2.1.len
    have Bq:rows.length≤30:=by rw [nA];have h1:=uS l;have h2:=HM.out;omega
    clear T2
    rcases ju (cA l) with ho | ⟨o1,x,ho⟩
    ·have HN:Hid (eY l=none):=zh (by rw [Xn.out,ho];rfl)
     have agF:nv=0:=by rw [D2,nA,ho];rfl
     subst agF
     obtain⟨c0,c1,c2,c3,c4,c5,c6,c7⟩:=bm qO.out
     obtain⟨d0,d1,d2,d3,d4,d5,d6,d7⟩:=dn uH.out
     have fz:=frz qO.out
     clear D2 nA Bq ho hj MB JI abU
     go_wp2_with fail
     obtain⟨p1,p2,p3,-⟩:=pV qO.out uH.out CK.out f9.out (.int .i64 0) (.string ⟨#[]⟩) (.string ⟨#[]⟩) (.bool false) (.slice none 0 0) (.bool false) (.slice none 0 0) (.int .i64 0) (.int .i64 0) (.string ⟨#[]⟩) (.string ⟨#[]⟩) (.string ⟨#[]⟩) (.bool false) (.slice none 0 0) (.int .i64 0)
     obtain⟨r0,r1,r2,r3,r4,r5,r6,r7⟩:=bm p1
     obtain⟨s0,s1,s2,s3,s4,s5,s6,-⟩:=dn p2
     refine bodyPost_ret (v:=.tuple #[.agg z8,.agg z7,.bool false]) (by simp [results,Tryz.results5,go_sem,r0,r1,r2,r3,r4,r5,r6,r7,s0,s1,s2,s3,s4,s5,s6,z8,z7]) rfl (kC HN.out p3)
    ·have Mq:Hid (eY l=some x):=zh (by rw [Xn.out,ho,List.getLast?_append];rfl)
     have si:=gM.out
     rw [ho] at si
     obtain⟨r1,r2,rfl,YJ,vA⟩:=LsS.split si.2.1
     simp only [LsS] at vA
     obtain⟨q,r',rfl,hx,rfl⟩:=vA
     have vw:r1.length+1=nv:=by rw [D2];simp
     obtain⟨L,hL⟩:∃L,r1.length=L:=⟨_,rfl⟩
     obtain⟨-,-,ga,rfl⟩:=si.1.popS
     have fD:=fun i v hi=>si.1.cellS (j:=r1.length) (i:=i) (q:=q) (v:=v) (by simp) hi
     have dG:ga<wr.heap.size:=(si.1.at ga rfl).2
     cases x with
     | mk op1 nm1 md1 nu1 ys1 ks1 ps1=>
       have OS:=hx
       simp only [SAt] at OS
       obtain⟨s1,zj,zb,yI,yq,yy,S4,rfl,-⟩:=OS
       have HX:=zh hx
       unfold aw at *
       generalize TZ:(⟨nm1.toArray⟩:ByteArray)=y1 at *
       generalize hz1:(⟨md1.toArray⟩:ByteArray)=z1 at *
       generalize iP:ks1.length=kl1 at *
       rw [hL] at fD vw
       have k0:=fD 0 _ rfl
       have k1:=fD 1 _ rfl
       have k2:=fD 2 _ rfl
       have k3:=fD 3 _ rfl
       have k4:=fD 4 _ rfl
       have k5:=fD 5 _ rfl
       have k6:=fD 6 _ rfl
       have k7:=fD 7 _ rfl
       rw [Nat.add_zero] at k0
       have hwL:IntKind.i64.wrap ((nv:Int) - 1)=(L:Int):=by rw [IntWalk.i64_in _ (by omega)];omega
       have n0:((nv:Int) == 0)=false:=beq_eq_false_iff_ne.2 (by omega)
       have n0':¬nv=0:=by omega
       have n1:(0:Int)≤(L:Int):=by omega
       have n2:(L:Int)<(nv:Int):=by omega
       have n3:decide (L<nv)=true:=zd (by omega)
       have Gv:=zh vw
       clear D2 nA Bq ho si YJ fD hj MB JI abU Xn gM TZ hz1 iP hx vw hL
       have PQ:=World.grownBy_alloc wr (.cells #[.int .i64 op1,.string y1,.string z1,.bool s1,.slice zj zb yI,.bool ys1,.slice yq kl1 yy,.int .i64 ps1] 30) none
       have hbt:=heap_alloc_new wr (.cells #[.int .i64 op1,.string y1,.string z1,.bool s1,.slice zj zb yI,.bool ys1,.slice yq kl1 yy,.int .i64 ps1] 30)
       have Bs:=zh (fun W (h:wr.grownBy W none)=>QN 30 _ (wL Mq.out) _ _ W (HX.out.kept h) (BD Mq.out) (by omega))
       go_upto_region 19 with fail
       generalize (wr.alloc (.cells #[.int .i64 op1,.string y1,.string z1,.bool s1,.slice zj zb yI,.bool ys1,.slice yq kl1 yy,.int .i64 ps1] 30))=WT at *
       obtain⟨bt,agA⟩:∃bt,wr.heap.size=bt:=⟨_,rfl⟩
       rw [agA] at hbt ⊢
       have HGT:=zh PQ;have HBT:=zh hbt
       have Gr:=zh (bx PQ qO.out);have QU:=zh (bx PQ uH.out)
       clear PQ hbt k0 k1 k2 k3 k4 k5 k6 k7 dG mV zG
       obtain⟨t0,t1,t2,t3,t4,t5,t6,t7⟩:=bm HBT.out
       obtain⟨c0,c1,c2,c3,c4,c5,c6,c7⟩:=bm Gr.out
       obtain⟨d0,d1,d2,d3,d4,d5,d6,d7⟩:=dn QU.out
       have fz:=frz Gr.out
       have aaL:bt<WT.heap.size:=hlt HBT.out
       have mV:b0<WT.heap.size:=hlt Gr.out
       have zG:b0+1<WT.heap.size:=hlt QU.out
       have pO:Hid (b0+2≤WT.heap.size):=zh (by omega)
       go_region_law (first | (go_simp;go_at_call 14;refine(Bs.out _ (aa HGT.out gby)).mono ?_;rintro e w7 ⟨iG,r,rfl,hr⟩;have tP:=hr;simp only [RSt] at tP;obtain⟨SP,UZ,aa9,rfl,-⟩:=tP;unfold aw at *;have gT:=zh (aa (show WT.grownBy _ none from gby) iG);have HR7:=zh hr.bound;have vK:=zh hr.one.2;obtain⟨t0,t1,t2,t3,t4,t5,t6,t7⟩:=bm (bx gT.out HBT.out);obtain⟨c0,c1,c2,c3,c4,c5,c6,c7⟩:=bm (bx gT.out Gr.out);obtain⟨d0,d1,d2,d3,d4,d5,d6,d7⟩:=dn (bx gT.out QU.out);have fz:=frz (bx gT.out Gr.out);have aaL:bt<w7.heap.size:=zn aaL gT.out.size;have mV:b0<w7.heap.size:=zn mV gT.out.size;have zG:b0+1<w7.heap.size:=zn zG gT.out.size;clear iG hr))
       all_goals
        go_wp2_with fail
        obtain⟨p1,p2,p3,p4⟩:=pV (bx gT.out Gr.out) (bx gT.out QU.out) (aa (aa CK.out HGT.out) gT.out) f9.out (.int .i64 op1) (.string y1) (.string z1) (.bool s1) (.slice zj zb yI) (.bool ys1) (.slice yq kl1 yy) (.int .i64 ps1) (.int .i64 op1) (.string ⟨nm1.toArray⟩) (.string ⟨md1.toArray⟩) (.string ⟨(Zd.txtL nu1).toArray⟩) (.bool ys1) (.slice SP ks1.length UZ) (.int .i64 ps1)
        obtain⟨r0,r1',r2,r3,r4,r5,r6,r7⟩:=bm p1
        obtain⟨s0,s1',s2,s3,s4,s5,s6,-⟩:=dn p2
        have Vw:=zh (LF HX.out (fun k hk=>⟨hk.1,hk.2.1⟩) (aa HGT.out gT.out) HR7.out pO.out p4 p3 Mq.out f9.out)
        refine bodyPost_ret (v:=.tuple #[.agg #[.int .i64 op1,.string y1,.string z1,.bool s1,.slice zj zb yI,.bool ys1,.slice yq kl1 yy,.int .i64 ps1],.agg #[.int .i64 op1,.string ⟨nm1.toArray⟩,.string ⟨md1.toArray⟩,.string ⟨(Zd.txtL nu1).toArray⟩,.bool ys1,.slice SP ks1.length UZ,.int .i64 ps1],.bool true]) (by simp [results,Tryz.results5,go_sem,r0,r1',r2,r3,r4,r5,r6,r7,s0,s1',s2,s3,s4,s5,s6]) rfl Vw.out
end Go.Proofs.YtjbgnopnehgbaaaGreatDoor
