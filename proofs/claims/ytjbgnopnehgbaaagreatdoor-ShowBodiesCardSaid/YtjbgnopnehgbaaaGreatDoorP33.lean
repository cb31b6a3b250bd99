/- Lemmas. -/
import Derived.Test.YtjbgnopnehgbaaaGreatDoorP14
import Derived.Test.YtjbgnopnehgbaaaGreatDoorP25
import Derived.Test.YtjbgnopnehgbaaaGreatDoorP45
import Derived.Test.YtjbgnopnehgbaaaGreatDoorP46
set_option linter.unusedVariables false
set_option linter.unusedSimpArgs false
set_option maxHeartbeats 16000000
set_option maxRecDepth 100000
namespace Go.Proofs.YtjbgnopnehgbaaaGreatDoor
open Go.RowKit
theorem iH (N:Nat):(Zd.decL N).length=Zd.nd N:=by simp [Zd.decL]
theorem Hn {Z:Int} (h0:0≤Z) (h:(Zd.txtL Z).length≤60):Z.natAbs<10 ^ 60:=by
 by_cases hz:Z=0
 ·subst hz;exact Nat.pow_pos (by omega)
 ·have e:Zd.txtL Z=Zd.decL Z.natAbs:=by unfold Zd.txtL;rw [if_neg hz,if_neg (by omega)]
  rw [e,iH] at h
  exact zn (Zd.nd_lt _) (Nat.pow_le_pow_right (by omega) h)
theorem PI:10 ^ 60≤2 ^ 200:=by decide
theorem CQ {N n:Nat} (h:N<10 ^ 60) (h2:2 ^ (n - 1)≤N):n≤240:=by
 have h3:2 ^ (n - 1)<2 ^ 200:=Nat.lt_of_le_of_lt h2 (zn h PI)
 have h4:=(Nat.pow_lt_pow_iff_right (by omega:1<2)).1 h3
 omega
theorem RW (Z:Int):(Zd.sg Z == 0)=decide (Z=0):=by
 unfold Zd.sg
 by_cases h:Z=0
 ·subst h;rfl
 ·rw [decide_eq_false h]
  split
  ·rfl
  ·rfl
theorem Wr (Z:Int):decide (0≤Zd.sg Z)=decide (0≤Z):=by
 unfold Zd.sg
 by_cases h:Z<0
 ·rw [if_pos h,decide_eq_false (by omega:¬ 0≤Z)];rfl
 ·rw [if_neg h,zd (by omega:0≤Z)];split<;>rfl
theorem Hc (op:Int) (sJ:op≠1) (g off:Nat) (nu:Int) (s:Bool) (pw:Option Addr) (nw cw:Nat) (w:World) (c0:w.cell? ⟨g,off,none⟩=some (.int .i64 op)) (c3:w.cell? ⟨g,off+3,none⟩=some (.bool s)) (c4:w.cell? ⟨g,off+4,none⟩=some (.slice pw nw cw)) (hi:Zd.IsInt w (.agg #[.bool s,.slice pw nw cw]) nu):
  Calls Tryz.prog 102 #[.pointer (some ⟨g,off,none⟩)] w (dY (decide (nu=0)) w):=by
 have HS:=zh (Zd.Sign_c _ nu w hi)
 have d1:(op == 1)=false:=beq_eq_false_iff_ne.2 sJ
 have uR:(op != 1)=true:=by rw [bne,d1];rfl
 have c4':w.cell? ⟨g,off+3+1,none⟩=some (.slice pw nw cw):=c4
 have HZ:=zh (RW nu)
 clear hi sJ
 go_enter Tryz.func102,Tryz.ntmps102
 go_wp2_with fail
 refine HS.out.mono ?_
 rintro e w1 ⟨rfl,hg⟩
 have HG:=zh hg
 clear hg
 go_wp2_with fail
 go_ret
 exact⟨by rw [←HZ.out];rfl,HG.out⟩
theorem P6 (g off:Nat) (nu:Int) (s:Bool) (pw:Option Addr) (nw cw:Nat) (w:World) (c0:w.cell? ⟨g,off,none⟩=some (.int .i64 1)) (c3:w.cell? ⟨g,off+3,none⟩=some (.bool s)) (c4:w.cell? ⟨g,off+4,none⟩=some (.slice pw nw cw)) (hi:Zd.IsInt w (.agg #[.bool s,.slice pw nw cw]) nu) (hZ:nu.natAbs<Zd.Lim):
  Calls Tryz.prog 102 #[.pointer (some ⟨g,off,none⟩)] w (dY (decide (0≤nu) && decide ((Zd.txtL nu).length≤60)) w):=by
 have HS:=zh (Zd.Sign_c _ nu w hi)
 have HB:=zh (fun W (h:w.grownBy W none)=>Zd.Bits_c _ nu W (hi.kept h) hZ)
 have HT:=zh (fun W (h:w.grownBy W none)=>Zd.String_c _ nu W (hi.kept h) hZ)
 have HP:=zh (Wr nu)
 have OD:=zh (fun h0 h=>@Hn nu h0 h)
 have c4':w.cell? ⟨g,off+3+1,none⟩=some (.slice pw nw cw):=c4
 have HC3:=zh c3
 have YS:=zh c4'
 have HX0:=zh c0
 clear hi hZ
 by_cases h0:0≤nu
 ·have d0:decide (0≤Zd.sg nu)=true:=by rw [HP.out];exact zd h0
  rw [zd h0]
  have HH0:=zh h0
  obtain⟨sz,db⟩:∃z,Zd.sg nu=z:=⟨_,rfl⟩
  rw [db] at HS d0
  obtain⟨TX,Tm⟩:∃z,Zd.txtL nu=z:=⟨_,rfl⟩
  have E9:=zh Tm
  have HV:Hid (Zd.txt nu=.string ⟨TX.toArray⟩):=zh (by unfold Zd.txt;rw [Tm])
  rw [Tm] at OD ⊢
  clear h0 db HP Tm
  go_enter Tryz.func102,Tryz.ntmps102
  go_wp2_with fail
  refine HS.out.mono ?_
  rintro e w1 ⟨rfl,hg⟩
  have HG:=zh hg
  have c3:=hg.cell HC3.out (by simp)
  have c4:=hg.cell YS.out (by simp)
  clear hg
  go_wp2_with fail
  refine(HB.out _ HG.out).mono ?_
  rintro e w2 ⟨n,rfl,wv,qC,bT⟩
  have cz:=zh (aa HG.out bT)
  have c3:=cz.out.cell HC3.out (by simp)
  have c4:=cz.out.cell YS.out (by simp)
  have HN0:=zh wv;have rz:=zh qC
  clear bT wv qC
  by_cases hn:n≤240
  ·have e1:decide ((n:Int)≤240)=true:=zd (by omega)
   have e2:decide (n≤240)=true:=zd hn
   clear hn
   go_wp2_with fail
   refine(HT.out _ cz.out).mono ?_
   rintro e w3 ⟨rfl,fM⟩
   have eg:=zh (aa cz.out fM)
   rw [HV.out]
   clear fM
   have HL:Hid (decide ((TX.length:Int)≤60)=decide (TX.length≤60)):=zh (EQ TX.length 60)
   go_wp2_with fail
   go_ret
   exact⟨by rw [Bool.true_and,←HL.out];rfl,eg.out⟩
  ·have e1:decide ((n:Int)≤240)=false:=decide_eq_false (by omega)
   have e2:decide (n≤240)=false:=decide_eq_false hn
   have hb:decide (TX.length≤60)=false:=decide_eq_false (fun h=>by
    have h1:=OD.out HH0.out h
    by_cases hz:nu=0
    ·have:=HN0.out hz;omega
    ·exact hn (CQ h1 (rz.out hz).1))
   have HBF:=zh hb
   clear hn hb
   go_wp2_with fail
   go_ret
   exact⟨by rw [HBF.out];simp,cz.out⟩
 ·have d0:decide (0≤Zd.sg nu)=false:=by rw [HP.out];exact decide_eq_false h0
  rw [decide_eq_false h0]
  obtain⟨sz,db⟩:∃z,Zd.sg nu=z:=⟨_,rfl⟩
  rw [db] at HS d0
  clear h0 db HP
  go_enter Tryz.func102,Tryz.ntmps102
  go_wp2_with fail
  refine HS.out.mono ?_
  rintro e w1 ⟨rfl,hg⟩
  have HG:=zh hg
  clear hg
  go_wp2_with fail
  go_ret
  exact⟨by simp,HG.out⟩
theorem vW (F:Nat→Prop) (a:Addr) (op:Int) (nm md:List UInt8) (nu:Int) (ys:Bool) (ks:List Sx) (ps:Int) (q:List Value) (w:World) (hc:CAt w a q) (hx:SAt F w (.mk op nm md nu ys ks ps) q) (hZ:nu.natAbs<Zd.Lim):
  Calls Tryz.prog 102 #[.pointer (some a)] w (dY (B9 op nu) w):=by
 simp only [SAt] at hx
 obtain⟨s,pw,nw,cw,pk,ck,rows,rfl,hi,-⟩:=hx
 obtain⟨g,off,rfl,hg,hc⟩:=hc
 have c0:=hc 0 _ rfl
 have c3:=hc 3 _ rfl
 have c4:=hc 4 _ rfl
 rw [Nat.add_zero] at c0
 unfold B9
 by_cases h1:op=1
 ·subst h1;rw [if_pos rfl];exact P6 g off nu s pw nw cw w c0 c3 c4 hi hZ
 ·rw [if_neg h1];exact Hc op h1 g off nu s pw nw cw w c0 c3 c4 hi
def fbT (ys:Bool):List UInt8:=if ys then [116,114,117,101] else [102,97,108,115,101]
theorem Oh (S:Nat→Prop) (B b:Nat) (rows:List (List Value)) (fg fo:Nat) (nu:Int) (s:Bool) (pw:Option Addr) (nw cw:Nat) (w:World) (h:bj S B b w rows) (hl:rows.length≤700000)
  (c0:w.cell? ⟨fg,fo,none⟩=some (.int .i64 1)) (c3:w.cell? ⟨fg,fo+3,none⟩=some (.bool s)) (c4:w.cell? ⟨fg,fo+4,none⟩=some (.slice pw nw cw)) (hi:Zd.IsInt w (.agg #[.bool s,.slice pw nw cw]) nu) (hZ:nu.natAbs<Zd.Lim):
  Calls Tryz.prog 104 #[.pointer (some ⟨b,0,none⟩),.pointer (some ⟨fg,fo,none⟩)] w (dy S B b (rows++[jt (Zd.txtL nu)]) w):=by
 have ow:=zh (fun rows s W h h2=>kW S B b rows s W h h2)
 have HT:=zh (Zd.String_c _ nu w hi hZ)
 have HW:=zh h;have HL:=zh hl
 have c4':w.cell? ⟨fg,fo+3+1,none⟩=some (.slice pw nw cw):=c4
 obtain⟨TX,Tm⟩:∃z,Zd.txtL nu=z:=⟨_,rfl⟩
 have HV:Hid (Zd.txt nu=.string ⟨TX.toArray⟩):=zh (by unfold Zd.txt;rw [Tm])
 rw [Tm]
 clear h hl hi hZ Tm
 go_enter Tryz.func104,Tryz.ntmps104
 go_wp2_with fail
 refine HT.out.mono ?_
 rintro e w1 ⟨rfl,hg⟩
 rw [HV.out]
 have HG:=zh hg
 clear hg
 go_wp2_with fail
 refine(ow.out _ _ w1 (HW.out.kept HG.out) (by have:=HL.out;omega)).mono ?_
 rintro e w2 ⟨rfl,eE,dK⟩
 have kL:=zh eE;have es:=zh ((Fr2.none HG.out).trans dK)
 clear eE dK
 go_wp2_with fail
 go_end0
 exact⟨rfl,kL.out,es.out⟩
theorem Ds (S:Nat→Prop) (B b:Nat) (rows:List (List Value)) (fg fo:Nat) (ys:Bool) (w:World) (h:bj S B b w rows) (hl:rows.length≤700000)
  (c0:w.cell? ⟨fg,fo,none⟩=some (.int .i64 2)) (c5:w.cell? ⟨fg,fo+5,none⟩=some (.bool ys)):
  Calls Tryz.prog 104 #[.pointer (some ⟨b,0,none⟩),.pointer (some ⟨fg,fo,none⟩)] w (dy S B b (rows++[jt (fbT ys)]) w):=by
 have HP:=zh (kW S B b rows ⟨(fbT ys).toArray⟩ w h (by omega))
 have OE:Hid (Calls Tryz.prog 56 #[.bool ys] w fun e w'=>e=.returned (.string ⟨(fbT ys).toArray⟩)∧w'=w):=zh (by
  have h:=Tryz.strconv_FormatBool ys w
  have e:Lib.formatBool ys=fbT ys:=by cases ys<;>rfl
  rw [e] at h;exact h)
 clear h hl
 go_enter Tryz.func104,Tryz.ntmps104
 go_wp2_with fail
 refine OE.out.mono ?_
 rintro e w1 ⟨rfl,rfl⟩
 go_wp2_with fail
 refine HP.out.mono ?_
 rintro e w2 ⟨rfl,eE,dK⟩
 have kL:=zh eE;have es:=zh dK
 clear eE dK
 go_wp2_with fail
 go_end0
 exact⟨rfl,kL.out,es.out⟩
theorem wN (S:Nat→Prop) (B b:Nat) (rows:List (List Value)) (fg fo:Nat) (nm:List UInt8) (op:Int) (sJ:op=3∨op=4) (w:World) (h:bj S B b w rows) (hl:rows.length≤700000)
  (c0:w.cell? ⟨fg,fo,none⟩=some (.int .i64 op)) (c1:w.cell? ⟨fg,fo+1,none⟩=some (.string ⟨nm.toArray⟩)):
  Calls Tryz.prog 104 #[.pointer (some ⟨b,0,none⟩),.pointer (some ⟨fg,fo,none⟩)] w (dy S B b (rows++[jt (if op=3 then nm else [114,101,115])]) w):=by
 have HP:=zh (fun s=>kW S B b rows s w h (by omega))
 clear h hl
 rcases sJ with rfl | rfl
 all_goals
  go_enter Tryz.func104,Tryz.ntmps104
  go_wp2_with fail
  refine(HP.out _).mono ?_
  rintro e w2 ⟨rfl,eE,dK⟩
  have kL:=zh eE;have es:=zh dK
  clear eE dK
  go_wp2_with fail
  go_end0
  exact⟨rfl,kL.out,es.out⟩
theorem Lh (S:Nat→Prop) (B b:Nat) (rows:List (List Value)) (fg fo gk ok ck:Nat) (op:Int) (sJ:op=5∨op=6) (w:World) (h:bj S B b w rows) (hl:rows.length≤700000) (hSf:S fg)
  (c0:w.cell? ⟨fg,fo,none⟩=some (.int .i64 op)) (c6:w.cell? ⟨fg,fo+6,none⟩=some (.slice (some ⟨gk,ok,none⟩) 1 ck)):
  Calls Tryz.prog 104 #[.pointer (some ⟨b,0,none⟩),.pointer (some ⟨fg,fo,none⟩)] w (dy S B b (rows++[jt (if op=5 then [45] else [110,111,116,32]),jx gk ok (if op=5 then 9 else 4)]) w):=by
 have HP:=zh (fun s=>kW S B b rows s w h (by omega))
 have Bs:=zh (fun rows a (l:Int) W h h2=>oJ S B b rows a l W h h2)
 have kf:fg<w.heap.size:=by obtain⟨v,-,-,-,-,-,-,hh⟩:=h;exact hh _ hSf
 have CF:Hid (∀W',Fr2 (fun k=>¬S k) w W'→W'.cell? ⟨fg,fo+6,none⟩=some (.slice (some ⟨gk,ok,none⟩) 1 ck)∧fg<W'.heap.size):=zh (fun W' hf=>
  ⟨by rw [World.cell?_of_block (w:=w) (hf.block fg kf (fun e=>e hSf))];exact c6,zn kf hf.size⟩)
 have HL:=zh hl
 clear h hl hSf
 rcases sJ with rfl | rfl
 all_goals
  go_enter Tryz.func104,Tryz.ntmps104
  go_wp2_with fail
  refine(HP.out _).mono ?_
  rintro e w2 ⟨rfl,eE,dK⟩
  have kL:=zh eE;have es:=zh dK
  obtain⟨c6,hfw⟩:=CF.out _ es.out
  clear eE dK
  go_wp2_with fail
  refine(Bs.out _ _ _ w2 kL.out (by have h:=HL.out;simp only [List.length_append,List.length_cons,List.length_nil];omega)).mono ?_
  rintro e w3 ⟨rfl,mO,fI⟩
  simp only [List.append_assoc,List.cons_append,List.nil_append] at mO
  have tA:=zh mO;have jp:=zh (es.out.trans fI)
  clear mO fI
  go_wp2_with fail
  go_end0
  exact⟨rfl,tA.out,jp.out⟩
theorem Iy (S:Nat→Prop) (B b:Nat) (rows:List (List Value)) (fg fo gk ok n ck:Nat) (pk:Option Addr) (nm md:List UInt8) (w:World) (h:bj S B b w rows) (hl:rows.length≤700000) (hn:n≤8) (hnl:nm.length≤60000) (LC:md.length≤60000) (hSf:S fg) (nF:0<n→pk=some ⟨gk,ok,none⟩)
  (c0:w.cell? ⟨fg,fo,none⟩=some (.int .i64 24)) (c1:w.cell? ⟨fg,fo+1,none⟩=some (.string ⟨nm.toArray⟩)) (c2:w.cell? ⟨fg,fo+2,none⟩=some (.string ⟨md.toArray⟩)) (c6:w.cell? ⟨fg,fo+6,none⟩=some (.slice pk n ck)):
  Calls Tryz.prog 104 #[.pointer (some ⟨b,0,none⟩),.pointer (some ⟨fg,fo,none⟩)] w (dy S B b (rows++EP nm md gk ok n) w):=by
 have HC:=zh (Pa S B b rows fg fo gk ok n ck pk nm md w h (by omega) hn hnl LC hSf nF c1 c2 c6)
 clear h hl hn hnl LC hSf nF c1 c2 c6
 go_enter Tryz.func104,Tryz.ntmps104
 go_wp2_with fail
 refine HC.out.mono ?_
 rintro e w2 ⟨rfl,eE,dK⟩
 have kL:=zh eE;have es:=zh dK
 clear eE dK
 go_wp2_with fail
 go_end0
 exact⟨rfl,kL.out,es.out⟩
theorem Ai (S:Nat→Prop) (B b:Nat) (rows:List (List Value)) (fg fo gk ok ck j:Nat) (sg:List UInt8) (w:World) (h:bj S B b w rows) (hl:rows.length≤700000) (hj:lk[j]? = some sg) (hSf:S fg) (hSg:S 5) (cg:fW w)
  (c0:w.cell? ⟨fg,fo,none⟩=some (.int .i64 ((7+j:Nat):Int))) (c6:w.cell? ⟨fg,fo+6,none⟩=some (.slice (some ⟨gk,ok,none⟩) 2 ck)):
  Calls Tryz.prog 104 #[.pointer (some ⟨b,0,none⟩),.pointer (some ⟨fg,fo,none⟩)] w (dy S B b (rows++[jx gk ok (iu (aV ((7+j:Nat):Int)):Nat),jt ([32]++sg++[32]),jx gk (ok+8) (iT (aV ((7+j:Nat):Int)):Nat)]) w):=by
 have UU:j<14:=(List.getElem?_eq_some_iff.1 hj).1
 have HC:=zh (Ib S B b rows fg fo gk ok ck j sg w h (by omega) hj hSf hSg cg c0 c6)
 obtain⟨op,sJ⟩:∃op:Int,((7+j:Nat):Int)=op:=⟨_,rfl⟩
 rw [sJ] at c0 HC ⊢
 have e1:(op == 1)=false:=beq_eq_false_iff_ne.2 (by omega)
 have e2:(op == 2)=false:=beq_eq_false_iff_ne.2 (by omega)
 have e3:(op == 3)=false:=beq_eq_false_iff_ne.2 (by omega)
 have e4:(op == 4)=false:=beq_eq_false_iff_ne.2 (by omega)
 have e5:(op == 5)=false:=beq_eq_false_iff_ne.2 (by omega)
 have e6:(op == 6)=false:=beq_eq_false_iff_ne.2 (by omega)
 have e7:(op == 21)=false:=beq_eq_false_iff_ne.2 (by omega)
 have e8:(op == 22)=false:=beq_eq_false_iff_ne.2 (by omega)
 have e9:(op == 23)=false:=beq_eq_false_iff_ne.2 (by omega)
 have e10:(op == 24)=false:=beq_eq_false_iff_ne.2 (by omega)
 clear h hl hj hSf hSg cg c6 UU sJ
 go_enter Tryz.func104,Tryz.ntmps104
 go_wp2_with fail
 refine HC.out.mono ?_
 rintro e w2 ⟨rfl,eE,dK⟩
 have kL:=zh eE;have es:=zh dK
 clear eE dK
 go_wp2_with fail
 go_end0
 exact⟨rfl,kL.out,es.out⟩
theorem qU (S:Nat→Prop) (B b:Nat) (rows:List (List Value)) (fg fo gk ok kn ck m cs:Nat) (A:List (List UInt8)) (vs:Array Value) (w:World) (h:bj S B b w rows) (hl:rows.length≤700000) (hA:A.length=m) (hm:m≤kn) (hk:kn≤1000000) (Ow:m≤9) (hvs:vs=(A.map aw).toArray)
  (c6:w.cell? ⟨fg,fo+6,none⟩=some (.slice (some ⟨gk,ok,none⟩) kn ck)) (hSf:S fg):
  Calls Tryz.prog 133 #[.pointer (some ⟨b,0,none⟩),.pointer (some ⟨fg,fo,none⟩),.slice (some ⟨w.heap.size,0,none⟩) m cs] (w.alloc (.cells vs 9)) (dy S B b (rows++eR gk ok 0 A) w):=by
 have hHS:∀k,S k→k<w.heap.size:=by obtain⟨v,-,-,-,-,-,-,hh⟩:=h;exact hh
 have hg:=World.grownBy_alloc w (.cells vs 9) none
 have hA0:=heap_alloc_new w (.cells vs 9)
 have db:(w.alloc (.cells vs 9)).heap.size=w.heap.size+1:=by simp
 have hW:=h.more hg (Nat.le_refl _) (by rw [db];omega)
 have d6:=hg.cell c6 (by have:=hHS _ hSf;simp)
 generalize (w.alloc (.cells vs 9))=W at *
 refine(NV (fun k=>S k∨k=w.heap.size) B b rows fg fo gk ok kn ck w.heap.size 0 m cs A W hW (by omega) hA hm hk Ow d6 (.inl hSf) (.inr rfl) (fun i l hi=>?_)).mono ?_
 ·rw [cell_of_row W w.heap.size (0+i) _ _ (0,0) hA0,hvs]
  simp [hi]
 ·rintro e w2 ⟨rfl,eE,dK⟩
  exact⟨rfl,eE.less,(Fr2.none hg).trans (dK.mono (fun k hk e=>hk (.inl e)))⟩
theorem Sf (S:Nat→Prop) (B b:Nat) (rows:List (List Value)) (fg fo gk ok ck:Nat) (w:World) (h:bj S B b w rows) (hl:rows.length≤700000) (hSf:S fg)
  (c0:w.cell? ⟨fg,fo,none⟩=some (.int .i64 21)) (c6:w.cell? ⟨fg,fo+6,none⟩=some (.slice (some ⟨gk,ok,none⟩) 3 ck)):
  Calls Tryz.prog 104 #[.pointer (some ⟨b,0,none⟩),.pointer (some ⟨fg,fo,none⟩)] w (dy S B b (rows++eR gk ok 0 [[105,102,32],[32,116,104,101,110,32],[32,101,108,115,101,32]]) w):=by
 have HP:=zh (qU S B b rows fg fo gk ok 3 ck 3 3 [[105,102,32],[32,116,104,101,110,32],[32,101,108,115,101,32]] _ w h hl rfl (by omega) (by omega) (by omega) rfl c6 hSf)
 clear h hl hSf c6
 go_enter Tryz.func104,Tryz.ntmps104
 go_wp2_with fail
 refine HP.out.mono ?_
 rintro e w2 ⟨rfl,eE,dK⟩
 have kL:=zh eE;have es:=zh dK
 clear eE dK
 go_wp2_with fail
 go_end0
 exact⟨rfl,kL.out,es.out⟩
theorem Af (S:Nat→Prop) (B b:Nat) (rows:List (List Value)) (fg fo gk ok ck:Nat) (w:World) (h:bj S B b w rows) (hl:rows.length≤700000) (hSf:S fg)
  (c0:w.cell? ⟨fg,fo,none⟩=some (.int .i64 23)) (c6:w.cell? ⟨fg,fo+6,none⟩=some (.slice (some ⟨gk,ok,none⟩) 2 ck)):
  Calls Tryz.prog 104 #[.pointer (some ⟨b,0,none⟩),.pointer (some ⟨fg,fo,none⟩)] w (dy S B b (rows++eR gk ok 0 [[97,115,115,101,114,116,32],[32,105,110,32]]) w):=by
 have HP:=zh (qU S B b rows fg fo gk ok 2 ck 2 2 [[97,115,115,101,114,116,32],[32,105,110,32]] _ w h hl rfl (by omega) (by omega) (by omega) rfl c6 hSf)
 clear h hl hSf c6
 go_enter Tryz.func104,Tryz.ntmps104
 go_wp2_with fail
 refine HP.out.mono ?_
 rintro e w2 ⟨rfl,eE,dK⟩
 have kL:=zh eE;have es:=zh dK
 clear eE dK
 go_wp2_with fail
 go_end0
 exact⟨rfl,kL.out,es.out⟩
theorem O7 (l:List UInt8):((⟨#[108,101,116,32]⟩:ByteArray)++(⟨l.toArray⟩:ByteArray)++(⟨#[32,61,32]⟩:ByteArray))=⟨([108,101,116,32]++l++[32,61,32]).toArray⟩:=by
 apply ByteArray.ext
 rw [ByteArray.data_append,ByteArray.data_append]
 apply Array.toList_inj.1
 simp
theorem J3 (S:Nat→Prop) (B b:Nat) (rows:List (List Value)) (fg fo gk ok ck:Nat) (nm:List UInt8) (w:World) (h:bj S B b w rows) (hl:rows.length≤700000) (hnl:nm.length≤60000) (hSf:S fg)
  (c0:w.cell? ⟨fg,fo,none⟩=some (.int .i64 22)) (c1:w.cell? ⟨fg,fo+1,none⟩=some (.string ⟨nm.toArray⟩)) (c6:w.cell? ⟨fg,fo+6,none⟩=some (.slice (some ⟨gk,ok,none⟩) 2 ck)):
  Calls Tryz.prog 104 #[.pointer (some ⟨b,0,none⟩),.pointer (some ⟨fg,fo,none⟩)] w (dy S B b (rows++eR gk ok 0 [[108,101,116,32]++nm++[32,61,32],[32,105,110,32]]) w):=by
 have HP:=zh (qU S B b rows fg fo gk ok 2 ck 2 2 [[108,101,116,32]++nm++[32,61,32],[32,105,110,32]] #[.string ((⟨#[108,101,116,32]⟩:ByteArray)++(⟨nm.toArray⟩:ByteArray)++(⟨#[32,61,32]⟩:ByteArray)),.string ⟨#[32,105,110,32]⟩] w h hl rfl (by omega) (by omega) (by omega) (by rw [O7];rfl) c6 hSf)
 have z4:¬ 9223372036854775807<4+nm.length:=by omega
 have z5:¬ 9223372036854775807<4+nm.length+3:=by omega
 have z6:¬ 9223372036854775807<nm.length+4:=by omega
 have z7:¬ 9223372036854775807<nm.length+4+3:=by omega
 have z8:¬ 9223372036854775807<nm.length+7:=by omega
 clear h hl hSf c6 hnl
 go_enter Tryz.func104,Tryz.ntmps104
 go_wp2_with fail
 refine HP.out.mono ?_
 rintro e w2 ⟨rfl,eE,dK⟩
 have kL:=zh eE;have es:=zh dK
 clear eE dK
 go_wp2_with fail
 go_end0
 exact⟨rfl,kL.out,es.out⟩
set_option maxHeartbeats 8000000
def cu (l:List iN):List UInt8:=l.flatMap fun t=>t.lead++t.text
theorem nB (l r:List iN):cu (l++r)=cu l++cu r:=by unfold cu;rw [List.flatMap_append]
theorem B7 {l:List iN} {k:Nat} {t:iN} (h:l[k]? = some t):cu (l.take (k+1))=cu (l.take k)++t.lead++t.text:=by
 rw [List.take_add_one,h,nB];simp [cu]
theorem ry (l:List iN) (k:Nat):(cu (l.take k)).length≤(cu l).length:=by
 have h1:cu l=cu (l.take k)++cu (l.drop k):=by rw [←nB,List.take_append_drop]
 rw [h1,List.length_append];omega
theorem Of (q:Option Addr) (c:Nat) (l:List iN) (w:World) (hl:l.length≤1000000) (hL:(cu l).length≤1000000) (h:eQ w q l):Calls Tryz.prog 87 #[.slice q l.length c] w (uW (cu l) w):=by
 obtain⟨m,hm⟩:∃m,l.length=m:=⟨_,rfl⟩
 have HM:=zh hm;have HA:=zh h;have HL:=zh hL
 rw [hm] at hl ⊢
 clear hm h hL
 go_enter Tryz.func87,Tryz.ntmps87
 go_wp2_with fail
 have vm:=yR w w.heap.size (Nat.le_refl _)
 have dG:=World.grownBy_alloc w (.cells #[.pointer none,.slice none 0 0] 80) none
 generalize (w.alloc (.cells #[.pointer none,.slice none 0 0] 80))=W at *
 obtain⟨b,hb⟩:∃b,w.heap.size=b:=⟨_,rfl⟩
 have fL:=zh hb
 rw [hb] at vm ⊢
 have Cx:=zh vm;have Bo:=zh dG
 clear vm dG hb
 go_loopw [8] (fun i wr=>∃k:Nat,k≤m∧i=.int .i64 k∧Hid (Lib.IsBuilder 80 5 b b (Lib.byteCells (cu (l.take k))) wr)∧Hid (w.grownBy wr none)) (fun i _=>m - (intOf i).toNat)
 case atStart=>exact⟨0,Nat.zero_le _,rfl,Cx,Bo⟩
 case round=>
  clear Cx Bo
  obtain⟨k,hk,rfl,Cx,HG⟩:=hrel
  by_cases hlt:k<m
  ·have d1:decide ((k:Int)<(m:Int))=true:=zd (by omega)
   have uR:decide (k<m)=true:=zd hlt
   obtain⟨t,ht⟩:∃t,l[k]? = some t:=⟨l[k]'(by rw [HM.out];exact hlt),List.getElem?_eq_getElem _⟩
   obtain⟨g,off,rfl,gc,c0,c1,c2,c3⟩:=De HA.out ht
   have c0:=HG.out.cell c0 (by simp)
   have c1:=HG.out.cell c1 (by simp)
   have c2:=HG.out.cell c2 (by simp)
   have c3:=HG.out.cell c3 (by simp)
   have jb:=B7 ht
   have agL:=ry l k
   have Xm:=ry l (k+1)
   have hL:=HL.out
   rw [jb] at Xm
   simp only [List.length_append] at Xm
   obtain⟨x,hx⟩:∃x:ByteArray,(⟨t.lead.toArray⟩:ByteArray)=x:=⟨_,rfl⟩
   obtain⟨y,hy⟩:∃y:ByteArray,(⟨t.text.toArray⟩:ByteArray)=y:=⟨_,rfl⟩
   have zS:x.data.toList=t.lead:=by rw [←hx]
   have lL:y.data.toList=t.text:=by rw [←hy]
   have OS:x.size=t.lead.length:=by rw [←aM,zS]
   have jL:y.size=t.text.length:=by rw [←aM,lL]
   unfold aw at c1 c2
   rw [hx] at c1
   rw [hy] at c2
   have ir:Hid (Lib.byteCells (cu (l.take (k+1)))=Lib.byteCells (cu (l.take k))++Lib.strCells x++Lib.strCells y):=zh (by
    rw [jb,Lib.byteCells_append,Lib.byteCells_append,←rK t.lead,←rK t.text,hx,hy])
   have HZ1:Hid ((Lib.byteCells (cu (l.take k))).length+x.size≤140737488355328):=zh (by rw [Lib.byteCells_length];omega)
   have T1:Hid ((Lib.byteCells (cu (l.take k))++Lib.strCells x).length+y.size≤140737488355328):=zh (by rw [List.length_append,Lib.byteCells_length,Lib.strCells_length];omega)
   have Jq:=zh (heap_alloc_new wr (.cells #[.int .i64 t.kind,.string x,.string y,.int .i64 t.pos] 105))
   have dG:=World.grownBy_alloc wr (.cells #[.int .i64 t.kind,.string x,.string y,.int .i64 t.pos] 105) none
   have fu:=zh (An Cx.out dG)
   have cz:=zh (aa HG.out dG)
   have Hw:Hid (b<wr.heap.size):=zh (by
    rcases Cx.out with h | h
    ·exact h.lt
    ·exact h.lt)
   obtain⟨b0,b1,b2,b3,b4⟩:=sW Jq.out
   generalize t.kind=tk at *
   generalize t.pos=tp at *
   clear gc ht jb agL Xm hL hx hy zS lL OS jL dG Cx HG b4
   go_wp2_with fail
   refine(fA b b _ x _ fu.out HZ1.out (by have:=cz.out.size;rw [fL.out] at this;exact this)).mono ?_
   rintro e w2 ⟨rfl,⟨dC,Cq⟩,hok2⟩
   have wP:=zh dC
   have mc:w.grownBy w2 none:=bz (Below.trans2 (df cz.out) (by rw [fL.out];exact Cq))
   have eg:=zh mc
   have Zi:=hok2 _ _ _ Jq.out (by decide) (by have:=Hw.out;omega)
   obtain⟨e0,e1,e2,e3,e4⟩:=sW Zi
   clear dC Cq hok2 mc Zi b0 b1 b2 b3 c0 c1 c2 c3 fu e4
   go_wp2_with fail
   refine(fA b b _ y _ (.inr wP.out) T1.out (by have:=eg.out.size;rw [fL.out] at this;exact this)).mono ?_
   rintro e w3 ⟨rfl,⟨ig,Np⟩,-⟩
   rw [←ir.out] at ig
   have Ju:Hid (Lib.IsBuilder 80 5 b b (Lib.byteCells (cu (l.take (k+1)))) w3):=zh (.inr ig)
   have mc:w.grownBy w3 none:=bz (Below.trans2 (df eg.out) (by rw [fL.out];exact Np))
   have lw:=zh mc
   clear ig Np mc wP cz eg e0 e1 e2 e3
   go_wp2_with fail
   go_roundw
   case rel=>exact⟨k+1,by omega,by go_num,Ju,lw⟩
   case measure=>(simp [intOf]<;>omega)
  ·obtain rfl:k=m:=by omega
   rw [List.take_of_length_le (by rw [HM.out];exact Nat.le_refl _)] at Cx
   have MM:=zh (Tryz.Builder_String_any_k b b _ wr (Lib.IsBuilderF.of Cx.out) (by have:=HG.out.size;rw [fL.out] at this;exact this))
   go_wp2_with fail
   refine MM.out.mono ?_
   rintro e w7 ⟨rfl,-,BP,-⟩
   have gT:Hid (w.grownBy w7 none):=zh (bz (Below.trans2 (df HG.out) (by rw [fL.out];exact BP)))
   clear BP
   go_wp2_with fail
   go_ret
   exact⟨⟨_,rfl,rfl⟩,gT.out⟩
theorem F2 (l:List iN) (pt pn:Option Addr) (ct M cn:Nat) (w:World) (hl:l.length≤1000000) (hL:(cu l).length≤1000000) (h:eQ w pt l):
  Calls Tryz.prog 47 #[.agg #[.slice pt l.length ct,.slice pn M cn]] w (uW (cu l) w):=by
 have OO:=zh (fun W (h:eQ W pt l)=>Of pt ct l W hl hL h)
 have HT:=zh h
 obtain⟨m,hm⟩:∃m,l.length=m:=⟨_,rfl⟩
 rw [hm] at OO ⊢
 clear hm h hl hL
 go_enter Tryz.func47,Tryz.ntmps47
 go_wp2_with fail
 have lF:=World.grownBy_alloc w (.cells #[.slice pt m ct,.slice pn M cn] 42) none
 refine(OO.out _ (HT.out.kept lF)).mono ?_
 rintro e w1 ⟨⟨s,rfl,hs⟩,hg⟩
 have HS:=zh hs
 have HG:=zh (aa lF hg)
 clear lF hg hs
 go_wp2_with fail
 go_ret
 exact⟨⟨s,rfl,HS.out⟩,HG.out⟩
theorem tt (l:List Tok):cu (l.map toI)=bV l:=by unfold cu bV;rw [List.flatMap_map];rfl
set_option maxHeartbeats 4000000
section
variable (b bb:Nat) (T:List Tok) (D n:Nat)
theorem PV (hC:cN T) (hD:D≤200) (hn:n≤D) (hB:n<D→bX b bb T D (n+1) (fun _=>True) 96 (ay T D (n+1) (NT T D (n+1)))) (hE:n<D→bX b bb T D (n+1) (fun s=>s.inn=false) 83 (fG T D (n+1) (NT T D (n+1)))):bX b bb T D n (fun s=>isQ T [40] s=true) 180 (LZ T (NT T D n)):=by
 intro s N vn A w hP h
 have aC:=zh hC;have sK:=zh hP
 have sF:=zh (gK b bb T D n hD hn (fun _=>True) _ hB)
 have DP:=zh (gJ b bb T D n hD hn (fun s=>s.inn=false) _ hE)
 have Il:=zh (fun (s:St) (N:List Nd) (vn:Value) (A:Nat→Prop) (w:World) (hi:s.inn=true) h=>(sF.out s N vn A w trivial h).mono (fun e w' hp=>hp.eqv (ql T hn s hi)))
 have Zb:=zh (fun (s:St) (N:List Nd) (vn:Value) (A:Nat→Prop) (w:World) (hi:s.inn=false) h=>(DP.out s N vn A w hi h).mono (fun e w' hp=>hp.eqv (qw T hn s hi)))
 have aP:=zh (af hP)
 have dD:Hid ([41]∈KS):=zh (by decide)
 have HK:=zh (KX.start h)
 have cW:=zh h.few
 have HA:=zh (bU.nil N s)
 have d0:=HK.out.cell
 have d7:=HK.out.innc
 obtain⟨I,hI⟩:∃I,s.inn=I:=⟨_,rfl⟩
 have HI:=zh hI
 rw [hI] at d7
 clear hI
 clear h hC hP hD hn hB hE
 go_enter Tryz.func180,Tryz.ntmps180
 cases I
 ·skip
  go_wp2_with fail
  have bP:=HK
  have HK:=zh HK.out.drew
  go_region_held3 (fun w'=>w'.cell? ⟨b,0,none⟩=some (.pointer (some ⟨bb,0,none⟩))) (first | with_reducible exact HK.out.cell | with_reducible exact(HK.out.alloc _).cell | with_reducible exact(bP.out.alloc _).drew.cell | with_reducible exact((HK.out.alloc _).alloc _).cell | with_reducible exact((bP.out.alloc _).alloc _).drew.cell | with_reducible exact(((HK.out.alloc _).alloc _).alloc _).cell)
   (first
    | (go_at_call 79;(first | with_reducible refine(HK.out.take aC.out aP.out.1 aP.out.2).mono ?_ | with_reducible refine((HK.out.strs1 _ _).take aC.out aP.out.1 aP.out.2).mono ?_ | with_reducible refine((bP.out.strs1 _ _).drew.take aC.out aP.out.1 aP.out.2).mono ?_ | with_reducible refine(((HK.out.strs1 _ _).strs1 _ _).take aC.out aP.out.1 aP.out.2).mono ?_ | with_reducible refine(((bP.out.strs1 _ _).strs1 _ _).drew.take aC.out aP.out.1 aP.out.2).mono ?_);rintro e w9 ⟨v9,N9,cD,rfl,al,am,aG⟩;have HK:=zh al;have HD:=zh (aQ.app HA.out am aG);have HA:=zh HD.out.out;clear al am aG)
    | (go_at_call 82;(first | with_reducible refine(HK.out.call (fun A h=>Zb.out _ _ _ A _ ((aq T aP.out.2).inn.trans HI.out) h)).mono ?_ | with_reducible refine((HK.out.strs1 _ _).call (fun A h=>Zb.out _ _ _ A _ ((aq T aP.out.2).inn.trans HI.out) h)).mono ?_ | with_reducible refine((bP.out.strs1 _ _).drew.call (fun A h=>Zb.out _ _ _ A _ ((aq T aP.out.2).inn.trans HI.out) h)).mono ?_ | with_reducible refine(((HK.out.strs1 _ _).strs1 _ _).call (fun A h=>Zb.out _ _ _ A _ ((aq T aP.out.2).inn.trans HI.out) h)).mono ?_ | with_reducible refine(((bP.out.strs1 _ _).strs1 _ _).drew.call (fun A h=>Zb.out _ _ _ A _ ((aq T aP.out.2).inn.trans HI.out) h)).mono ?_);rintro e w9 ⟨v9,N9,cD,rfl,al,am,aG⟩;have HK:=zh al;have HD:=zh (aQ.app HA.out am aG);have HA:=zh HD.out.out;clear al am aG)
    | (go_at_call 78;(first | with_reducible refine(KX.one1 [41] HK.out aC.out dD.out ?_).mono ?_ | with_reducible refine(KX.one1 [41] (HK.out.strs1 _ _) aC.out dD.out ?_).mono ?_ | with_reducible refine(KX.one1 [41] (bP.out.strs1 _ _).drew aC.out dD.out ?_).mono ?_ | with_reducible refine(KX.one1 [41] ((HK.out.strs1 _ _).strs1 _ _) aC.out dD.out ?_).mono ?_ | with_reducible refine(KX.one1 [41] ((bP.out.strs1 _ _).strs1 _ _).drew aC.out dD.out ?_).mono ?_);(first | exact⟨_,(by first | rfl | simp),List.mem_cons_self ..⟩ | exact⟨_,(by first | rfl | simp),List.mem_cons_of_mem _ (List.mem_cons_self ..)⟩ | exact⟨_,(by first | rfl | simp),List.mem_cons_of_mem _ (List.mem_cons_of_mem _ (List.mem_cons_self ..))⟩);rintro e w9 ⟨v9,N9,cD,rfl,al,am,aG⟩;have HK:=zh al;have HD:=zh (aQ.app HA.out am aG);have HA:=zh HD.out.out;clear al am aG)
    | (go_at_call 45;have kO:=zh (HD.out.weak (j:=0+1) (by decide));refine(KX.node (k:=0) (kind:=12) (HK.out.ints3 _ _ _ ) ?_ aC.out.len kO.out ?_ cW.out ?_).mono ?_;exact List.mem_cons_self ..;rfl;simp;rintro e w9 ⟨v9,N9,cD,rfl,al,am⟩;have HK:=zh al;have HZ:=zh am;clear al am))
  all_goals
   have HQ:=zh (KX.fin HZ.out HK.out (fun he=>absurd aP.out.2 he) (r':=(LZ T (NT T D n)) s) (Eqv.refl _))
   go_wp2_with fail
   go_ret
   exact HQ.out
 ·skip
  go_wp2_with fail
  have bP:=HK
  have HK:=zh HK.out.drew
  go_region_held3 (fun w'=>w'.cell? ⟨b,0,none⟩=some (.pointer (some ⟨bb,0,none⟩))) (first | with_reducible exact HK.out.cell | with_reducible exact(HK.out.alloc _).cell | with_reducible exact(bP.out.alloc _).drew.cell | with_reducible exact((HK.out.alloc _).alloc _).cell | with_reducible exact((bP.out.alloc _).alloc _).drew.cell | with_reducible exact(((HK.out.alloc _).alloc _).alloc _).cell)
   (first
    | (go_at_call 79;(first | with_reducible refine(HK.out.take aC.out aP.out.1 aP.out.2).mono ?_ | with_reducible refine((HK.out.strs1 _ _).take aC.out aP.out.1 aP.out.2).mono ?_ | with_reducible refine((bP.out.strs1 _ _).drew.take aC.out aP.out.1 aP.out.2).mono ?_ | with_reducible refine(((HK.out.strs1 _ _).strs1 _ _).take aC.out aP.out.1 aP.out.2).mono ?_ | with_reducible refine(((bP.out.strs1 _ _).strs1 _ _).drew.take aC.out aP.out.1 aP.out.2).mono ?_);rintro e w9 ⟨v9,N9,cD,rfl,al,am,aG⟩;have HK:=zh al;have HD:=zh (aQ.app HA.out am aG);have HA:=zh HD.out.out;clear al am aG)
    | (go_at_call 82;(first | with_reducible refine(HK.out.call (fun A h=>Il.out _ _ _ A _ ((aq T aP.out.2).inn.trans HI.out) h)).mono ?_ | with_reducible refine((HK.out.strs1 _ _).call (fun A h=>Il.out _ _ _ A _ ((aq T aP.out.2).inn.trans HI.out) h)).mono ?_ | with_reducible refine((bP.out.strs1 _ _).drew.call (fun A h=>Il.out _ _ _ A _ ((aq T aP.out.2).inn.trans HI.out) h)).mono ?_ | with_reducible refine(((HK.out.strs1 _ _).strs1 _ _).call (fun A h=>Il.out _ _ _ A _ ((aq T aP.out.2).inn.trans HI.out) h)).mono ?_ | with_reducible refine(((bP.out.strs1 _ _).strs1 _ _).drew.call (fun A h=>Il.out _ _ _ A _ ((aq T aP.out.2).inn.trans HI.out) h)).mono ?_);rintro e w9 ⟨v9,N9,cD,rfl,al,am,aG⟩;have HK:=zh al;have HD:=zh (aQ.app HA.out am aG);have HA:=zh HD.out.out;clear al am aG)
    | (go_at_call 78;(first | with_reducible refine(KX.one1 [41] HK.out aC.out dD.out ?_).mono ?_ | with_reducible refine(KX.one1 [41] (HK.out.strs1 _ _) aC.out dD.out ?_).mono ?_ | with_reducible refine(KX.one1 [41] (bP.out.strs1 _ _).drew aC.out dD.out ?_).mono ?_ | with_reducible refine(KX.one1 [41] ((HK.out.strs1 _ _).strs1 _ _) aC.out dD.out ?_).mono ?_ | with_reducible refine(KX.one1 [41] ((bP.out.strs1 _ _).strs1 _ _).drew aC.out dD.out ?_).mono ?_);(first | exact⟨_,(by first | rfl | simp),List.mem_cons_self ..⟩ | exact⟨_,(by first | rfl | simp),List.mem_cons_of_mem _ (List.mem_cons_self ..)⟩ | exact⟨_,(by first | rfl | simp),List.mem_cons_of_mem _ (List.mem_cons_of_mem _ (List.mem_cons_self ..))⟩);rintro e w9 ⟨v9,N9,cD,rfl,al,am,aG⟩;have HK:=zh al;have HD:=zh (aQ.app HA.out am aG);have HA:=zh HD.out.out;clear al am aG)
    | (go_at_call 45;have kO:=zh (HD.out.weak (j:=0+1) (by decide));refine(KX.node (k:=0) (kind:=12) (HK.out.ints3 _ _ _ ) ?_ aC.out.len kO.out ?_ cW.out ?_).mono ?_;exact List.mem_cons_self ..;rfl;simp;rintro e w9 ⟨v9,N9,cD,rfl,al,am⟩;have HK:=zh al;have HZ:=zh am;clear al am))
  all_goals
   have HQ:=zh (KX.fin HZ.out HK.out (fun he=>absurd aP.out.2 he) (r':=(LZ T (NT T D n)) s) (Eqv.refl _))
   go_wp2_with fail
   go_ret
   exact HQ.out
end
end Go.Proofs.YtjbgnopnehgbaaaGreatDoor
set_option maxHeartbeats 8000000
namespace Go.Proofs.YtjbgnopnehgbaaaGreatDoor
open Go.RowKit
def Sl (l:List Tok) (N:List Nd) (w:World) (e:Ending) (w':World):Prop:=
 w.grownBy w' none∧∃pt ct pn cn K,e=.returned (.agg #[.slice pt l.length ct,.slice pn N.length cn])∧TAt w' pt l∧l.length≤ct∧aE w' pn N K∧(l≠[]→∀a,pt=some a→w.heap.size≤a.block)∧(N≠[]→∀a,pn=some a→w.heap.size≤a.block)∧yf N K (fun k=>w.heap.size≤k)
theorem AE (b:Nat) (l:List Tok) (u:Nat) (N:List Nd) (vn:Value) (w:World) (hl:l.length≤100000) (hs:tT l) (hN:N.length≤100000) (jo:∀x∈N,x.kids.length≤100000) (h:vI w b l u N vn):
  Calls Tryz.prog 41 #[.pointer (some ⟨b,0,none⟩)] w (Sl l N w):=by
 obtain⟨pt,ct,K,h⟩:=h
 have eN:=h.box
 have HT:=zh (fun W h=>rk l pt ct W hl hs h)
 have qY:=zh h.toks
 obtain⟨pv,cv,e1,kF,-,-,-⟩:=h.own.is
 rw [iX] at e1
 have zz:Hid (aE w pv N K):=zh ⟨kF,h.kids⟩
 have zg:Hid (∀v w' base,ak 4 105 w' base v (mo l)→∃p c,v=.slice p l.length c∧TAt w' p l∧l.length≤c∧(l≠[]→∀a,p=some a→base≤a.block)):=zh (fun v w' base ho=>by
  obtain⟨p',c',e,ht,h1,-,h2⟩:=ho.is
  rw [kh] at e h1
  exact⟨p',c',e,CV ht,h1,fun h0=>h2 (fun h3=>h0 (List.map_eq_nil_iff.1 h3))⟩)
 have JB:=zh jo
 obtain⟨m,hm⟩:∃m,l.length=m:=⟨_,rfl⟩
 obtain⟨M,hM⟩:∃M,N.length=M:=⟨_,rfl⟩
 have HM:=zh hM;have M1:=zh hm
 rw [hM] at e1 hN
 rw [hm,e1] at eN
 rw [hm] at HT
 have Jq:=zh eN
 obtain⟨d0,d1,d2,d3⟩:=dO eN
 have mV:=j3 eN
 clear eN hm hM h kF jo e1 hs
 go_enter Tryz.func41,Tryz.ntmps41
 go_wp2_with fail
 have hR:=heap_alloc_new w (.cells #[.slice none 0 0,.slice none 0 0] 42)
 have OM:=World.grownBy_alloc w (.cells #[.slice none 0 0,.slice none 0 0] 42) none
 have hsR:(w.alloc (.cells #[.slice none 0 0,.slice none 0 0] 42)).heap.size=w.heap.size+1:=by simp
 generalize (w.alloc (.cells #[.slice none 0 0,.slice none 0 0] 42))=W at *
 obtain⟨B,hB⟩:∃B,w.heap.size=B:=⟨_,rfl⟩
 have mD:=zh hB
 rw [hB] at hR hsR mV ⊢
 have HR:=zh hR;have CK:=zh OM;have Y0:=zh hsR
 clear hR OM hB hsR d0 d1 d2 d3
 go_loopw [3,11] (fun ov iv wr=>∃(k:Nat) (K':Kf),k≤M∧iv=.int .i64 k∧Hid (Aq wr (B+1) ov (N.take k) K')∧Hid (Below (B+1) W wr)) (fun _ v _=>M - (intOf v).toNat)
 case atStart=>exact⟨0,fun _=>(none,0),Nat.zero_le _,rfl,zh ⟨ak.nil _ _ _ _,fun i x hx=>by simp at hx,fun i x hx=>by simp at hx⟩,zh (Below.refl _ _)⟩
 case round=>
  obtain⟨k,K',hk,rfl,HO,HB⟩:=hrel
  have da:Hid (w.grownBy wr none):=zh (bz (Below.trans2 (Below.gb CK.out (Nat.le_refl _)) (HB.out.mono (by rw [mD.out];omega))))
  have hBr:B+1≤wr.heap.size:=by have:=HB.out.size;have:=Y0.out;omega
  by_cases hlt:k<M
  ·have d1:decide ((k:Int)<(M:Int))=true:=zd (by omega)
   have uR:decide (k<M)=true:=zd hlt
   obtain⟨x,hx⟩:∃x,N[k]? = some x:=⟨N[k]'(by rw [HM.out];exact hlt),List.getElem?_eq_getElem _⟩
   obtain⟨g,off,rfl,gc,c0,c1,c2⟩:=mY zz.out hx
   have c0:=da.out.cell c0 (by simp)
   have c1:=da.out.cell c1 (by simp)
   have c2:=da.out.cell c2 (by simp)
   have HKA:=zh (zz.out.2 k x hx)
   have kA:Hid (N.take (k+1)=N.take k++[x]):=zh (by rw [List.take_add_one,hx];rfl)
   have OY:Hid ((l8 K' (N.take k)).length=k):=zh (by rw [iX,List.length_take,HM.out];omega)
   have wZ:Hid ((l8 K' (N.take k)).length≤1000000):=zh (by rw [OY.out];omega)
   have T6:=zh (fun W q c h=>wQ x.kind x.tok x.kids q c W (JB.out x (List.mem_of_getElem? hx)) h)
   obtain⟨xk,RC⟩:∃xk,x.kind=xk:=⟨_,rfl⟩
   obtain⟨xt,Bj⟩:∃xt,x.tok=xt:=⟨_,rfl⟩
   obtain⟨kl,jo⟩:∃kl,x.kids.length=kl:=⟨_,rfl⟩
   have HXK:=zh RC;have Z6:=zh Bj;have HXL:=zh jo
   rw [RC] at c0 T6
   rw [Bj] at c1 T6
   rw [jo] at c2 T6
   clear hx RC Bj jo
   generalize K k=kk at *
   obtain⟨kq,kc⟩:=kk
   simp only at c2 HKA
   have Zh:=World.grownBy_alloc wr (.cells #[.int .i64 xk,.int .i64 xt,.slice kq kl kc] 152) none
   have HGX:=zh Zh
   have rP:g<wr.heap.size:=zn gc da.out.size
   clear Zh
   go_wp2_with fail
   refine(T6.out _ kq kc (HKA.out.kept (aa da.out HGX.out))).mono ?_
   rintro e w2 ⟨bT,p2,c2',rfl,Jz,-,dC⟩
   rw [HXL.out]
   have vv:=zh Jz
   have cz:=zh (aa HGX.out bT)
   have Cw:=zh (HO.out.kept cz.out)
   have fu:Hid (x.kids≠[]→∀a,p2=some a→B+1≤a.block∧u3.ownBlock≠some a.block):=zh (fun hn a ha=>by
    have h1:=(dC hn a ha).1
    simp at h1
    refine⟨by omega,fun e=>?_⟩
    have h2:=(ak.at HO.out.own _ e).2
    omega)
   have CA:=zh (Below.trans2 HB.out (Below.gb cz.out hBr))
   have gS:B+1≤w2.heap.size:=Nat.le_trans hBr cz.out.size
   clear bT Jz dC HO HB HGX c0 c1 c2
   go_wp2_with (at_builtin;go_loud (refine el (s:=3) (t:=40) (T:=152) (by decide) Tryz.underlying40 Ny rfl (by omega) rfl _ _ rfl (B+1) (l8 K' (N.take k)) [.int .i64 xk,.int .i64 xt,.slice p2 kl c2'] rfl (fun u hu=>by simp at hu;rcases hu with rfl | rfl | rfl<;>rfl) u3 rfl (ak.kept Cw.out.own (World.grownBy_alloc w2 _ none)) w2.heap.size _ rfl (heap_alloc_new w2 _) rfl wZ.out (by simp;omega) (w2.heap.size+1) (by simp) ?_))
   intro g9 cap9 w9 ii eu ef
   obtain⟨K9,hN9⟩:=Aq.add (Cw.out.kept (World.grownBy_alloc w2 (.cells #[.int .i64 xk,.int .i64 xt,.slice p2 kl c2'] 152) none)) eu (x:=x) (p:=p2) (c:=c2') (by rw [HXK.out,Z6.out,HXL.out];exact ii) (vv.out.kept (World.grownBy_alloc w2 _ none)) fu.out (ef.imp id (fun h=>by simp;omega))
   rw [←kA.out] at hN9
   have Z2:=zh hN9
   have rf:=zh ((Below.trans2 CA.out (Below.gb (World.grownBy_alloc w2 _ none) gS)).grown eu (by simp;omega) (fun k e=>(ak.at Cw.out.own k e).1))
   rw [OY.out] at Z2 ⊢
   clear ii eu ef hN9 Cw CA
   go_wp2_with fail
   go_roundw
   case rel=>exact⟨k+1,K9,by omega,by go_num,Z2,rf⟩
   case measure=>(simp [intOf]<;>omega)
  ·obtain rfl:k=M:=by omega
   rw [List.take_of_length_le (l:=N) (i:=k) (by rw [HM.out];exact Nat.le_refl _)] at HO
   obtain⟨pn,cn,en,hnn,-,-,-⟩:=HO.out.own.is
   rw [iX,HM.out] at en
   subst en
   have OJ:Hid (aE wr pn N K'):=zh ⟨hnn,HO.out.kids⟩
   have lM:Hid (∀a,pn=some a→k≠0→B+1≤a.block):=zh (fun a ha h0=>by
    obtain⟨a',h1,h2,-⟩:=ak.lt HO.out.own rfl (p:=pn) (n:=k) (c:=cn) (by omega)
    rw [ha] at h1;cases h1;exact h2)
   obtain⟨d0,d1,d2,d3⟩:=dO (bx da.out Jq.out)
   have Gv:=zh ((HB.out.block B (by omega)).trans HR.out)
   clear hnn
   go_wp2_with fail
   refine(HT.out wr (qY.out.kept da.out)).mono ?_
   rintro e w2 ⟨v,rfl,ho,hg⟩
   obtain⟨p2,c2,rfl,DE,sG,Zk⟩:=zg.out _ _ _ ho
   have ns:=zh DE;have TK:=zh sG;have aaj:=zh Zk
   have cz:=zh hg
   rw [M1.out]
   have IO:=zh (bx hg Gv.out)
   obtain⟨f0,f1,f2⟩:=ah IO.out
   have Y9:=zh (ab (i:=1) (u:=.slice pn k cn) (ab (i:=0) (u:=.slice p2 m c2) IO.out))
   have jp:=zh ((Fr2.setCell (S:=fun k=>k=B) (Fr2.refl _ w2) (g:=B) (j:=0) rfl (.slice p2 m c2)).setCell (g:=B) (j:=1) rfl (.slice pn k cn))
   clear ho DE sG Zk hg d0 d1 d2 d3
   go_wp2_with fail
   obtain⟨k0,k1,-⟩:=ah Y9.out
   refine bodyPost_ret (v:=.agg #[.slice p2 m c2,.slice pn k cn]) (by simp [results,Tryz.results41,go_sem,k0,k1]) rfl ⟨Fr2.after (aa da.out cz.out) jp.out (fun j hj=>by rw [mD.out];omega),p2,c2,pn,cn,K',by rw [M1.out,HM.out],ns.out.keptF jp.out (fun h0 a ha e=>by have:=aaj.out h0 a ha;omega),TK.out,⟨?_,fun i x hx=>?_⟩,fun h0 a ha=>by have h1:=aaj.out h0 a ha;have h2:=mD.out;have h3:=da.out.size;omega,fun h0 a ha=>by have h1:=lM.out a ha (fun e0=>h0 (List.length_eq_zero_iff.1 (by rw [HM.out];exact e0)));have h2:=mD.out;omega,fun i x hx hn a ha=>by have h1:=(HO.out.khi i x hx hn a ha).1;have h2:=mD.out;omega⟩
   ·refine GAt.keptS (OJ.out.1.kept cz.out) jp.out fun h0 a ha e=>?_
    have h1:=lM.out a ha (fun e0=>h0 (List.length_eq_zero_iff.1 (by rw [iX,HM.out];exact e0)))
    omega
   ·refine((OJ.out.2 i x hx).kept cz.out).keptF jp.out fun h0 a ha e=>?_
    have h1:=(HO.out.khi i x hx (eB h0) a ha).1
    omega
structure Fx where
 nm:List UInt8
 base:Nat
 cl:List Ex
 ps:Nat
 bare:Int
structure Dx where
 pub:Bool
 ps:List Fx
 res:Fx
 body:Ex
structure Px where
 imps:List (List UInt8×Nat)
 defs:List Dx
def P7:List UInt8:=[105,110,116]
def boolT:List UInt8:=[98,111,111,108]
def Ec:List UInt8:=[112,117,98]
def rd (t:List UInt8):Nat:=if t=P7 then 1 else 2
def xJ (T:List Tok) (l:List Tr):Tok:=tkT T ((aX l).getD 0 T.length)
def wy (T:List Tok) (f:Fx):Tr→Fx
 | .lf i=>if (tkT T i).kind=1 then { f with nm:=(tkT T i).text,ps:=(tkT T i).pos } else f
 | .nd k l=>if k=5 then { f with base:=rd (xJ T l).text,bare:=((xJ T l).pos+(xJ T l).text.length:Nat) } else if k=6 then { f with cl:=[(bR T l).headD MV],bare:=-1 } else f
def eH (T:List Tok) (l:List Tr):Fx:=l.foldl (wy T) ⟨[],0,[],0,0⟩
def xu:Tr→List Tr
 | .lf _=>[]
 | .nd _ l=>l
def dx:Tr→Nat
 | .lf _=>19
 | .nd k _=>k
def dS (T:List Tok) (l:List Tr):List Fx:=(l.filter (fun t=>dx t == 4)).map (fun t=>eH T (xu t))
def Dw (T:List Tok) (l:List Tr):Dx:=⟨decide ((xJ T l).text=Ec),dS T l,eH T l,axT T (l.getD (l.length - 2) (.lf 0))⟩
def Pu (T:List Tok) (l:List Tr):List UInt8×Nat:=((tkT T ((aX l).getD 1 T.length)).text,(tkT T ((aX l).getD 1 T.length)).pos)
def cO (T:List Tok) (l:List Tr):Px:=⟨(l.filter (fun t=>dx t == 2)).map (fun t=>Pu T (xu t)),(l.filter (fun t=>dx t == 3)).map (fun t=>Dw T (xu t))⟩
inductive ShC (T:List Tok):List Tr→Prop where
 | no:ShC T []
 | yes (i j:Nat) (e:Tr):isN e=true→WE T e→ShC T [.nd 6 [.lf i,e,.lf j]]
inductive ShT (T:List Tok):List Tr→Prop where
 | mk (c b:Nat) (cl:List Tr):(tkT T c).kind≠1→(tkT T b).text=P7∨(tkT T b).text=boolT→ShC T cl→ShT T (.lf c::.nd 5 [.lf b]::cl)
inductive ShP (T:List Tok):Tr→Prop where
 | mk (n:Nat) (l:List Tr):(tkT T n).kind=1→ShT T l→ShP T (.nd 4 (.lf n::l))
inductive sj (T:List Tok):List Tr→Prop where
 | one (p:Tr):ShP T p→sj T [p]
 | more (l:List Tr) (c:Nat) (p:Tr):sj T l→(tkT T c).kind≠1→ShP T p→sj T (l++[.lf c]++[p])
inductive ShD (T:List Tok):Tr→Prop where
 | mk (pb:List Tr) (f n o:Nat) (ps:List Tr) (c:Nat) (tl:List Tr) (q:Nat) (body:Tr) (m:Nat):(pb = []∨∃p,pb = [.lf p]∧(tkT T p).text=Ec∧(tkT T p).kind≠1)→(tkT T f).text = [102,117,110]→(tkT T f).kind≠1→(tkT T n).kind=1→(tkT T o).kind≠1→(ps = []∨sj T ps)→(tkT T c).kind≠1→ShT T tl→(tkT T q).kind≠1→isN body=true→WE T body→(tkT T m).kind≠1→
   ShD T (.nd 3 (pb++[.lf f,.lf n,.lf o]++ps++[.lf c]++tl++[.lf q]++[body]++[.lf m]))
inductive ShI (T:List Tok):Tr→Prop where
 | mk (i n m:Nat):(tkT T n).kind=1→ShI T (.nd 2 [.lf i,.lf n,.lf m])
def JJ (T:List Tok) (l:List Tr):Prop:=∃is ds e,l=is++ds++[.lf e]∧(∀t∈is,ShI T t)∧(∀t∈ds,ShD T t)
section
variable (T:List Tok)
theorem my {w:List UInt8} {s:St} (h:(aj T w s).2.e=0):∃i,(aj T w s).1 = [.lf i]∧(tkT T i).text=w∧(tkT T i).kind≠1∧s.e=0:=by
 obtain⟨h1,h2,h3,h4⟩:=kS T h
 exact⟨_,h1,h2,by omega,h4⟩
theorem RD {w:List UInt8} {s:St} (h:isQ T w s=true):(ac T s).1 = [.lf s.i]∧(tkT T s.i).text=w∧(tkT T s.i).kind≠1∧s.e=0:=by
 obtain⟨h1,h2,h3⟩:=m8 T h
 exact⟨rfl,h1,by omega,h3⟩
variable {et:St→RT} (hx:∀s,WO T (et s)) (hk:∀s,bM s (et s))
theorem XU {a:RT} (h:(gR T a).2.e=0):∃b,(gR T a).1=a.1++[.nd 5 [.lf b]]∧((tkT T b).text=P7∨(tkT T b).text=boolT)∧a.2.e=0:=by
 unfold gR at h ⊢
 split
 ·rename_i hc
  rcases hc with hc | hc
  ·exact⟨a.2.i,rfl,.inl (m8 T hc).1,(m8 T hc).2.2⟩
  ·exact⟨a.2.i,rfl,.inr (m8 T hc).1,(m8 T hc).2.2⟩
 ·rename_i hc
  rw [if_neg hc] at h
  exact absurd h (cC T (by decide) _)
include hx
theorem Fd {s:St} (h:(bA T et s).2.e=0):ShT T (bA T et s).1∧s.e=0:=by
 unfold bA at h ⊢
 have key:∀b:RT,(fY T et b).2.e=0→∃cl,(fY T et b).1=b.1++cl∧ShC T cl∧b.2.e=0:=fun b hb=>by
  unfold fY at hb ⊢
  split
  ·rename_i hc
   rw [if_pos hc] at hb
   obtain⟨j,hj,-,-,he⟩:=my T hb
   have he:(et (setIn true (ac T b.2).2)).2.e=0:=he
   obtain⟨u,hu,pM,pL⟩:=hx _ he
   simp only []
   rw [hj,hu]
   exact⟨_,rfl,ShC.yes _ _ u pM pL,(m8 T hc).2.2⟩
  ·rename_i hc
   rw [if_neg hc] at hb
   exact⟨[],by simp,ShC.no,hb⟩
 obtain⟨cl,h1,h2,h3⟩:=key _ h
 obtain⟨b,h4,h5,h6⟩:=XU T h3
 obtain⟨c,h7,-,h8,h9⟩:=my T h6
 rw [h1,h4,h7]
 exact⟨ShT.mk c b cl h8 h5 h2,h9⟩
theorem Tq {s:St} (h:(eF T et s).2.e=0):(∃p,(eF T et s).1 = [p]∧ShP T p)∧s.e=0:=by
 unfold eF at h ⊢
 obtain⟨h1,h2⟩:=Fd T hx h
 obtain⟨h3,h4,h5⟩:=nS T h2
 simp only []
 rw [h3]
 exact⟨⟨_,rfl,ShP.mk _ _ h4 h1⟩,h5⟩
theorem Fz:∀f k r,(r.2.e=0→sj T r.1)→(bk T (eF T et) f k r).2.e=0→sj T (bk T (eF T et) f k r).1
 | 0,k,r,h,he=>h he
 | f+1,k,r,h,he=>by
   unfold bk at he ⊢
   split
   ·rename_i iA
    rw [if_pos iA] at he
    refine Fz f _ _ (fun he=>?_) he
    have he:(eF T et (if k=8 then aB T 15 (ac T r.2).2 else (ac T r.2).2)).2.e=0:=he
    obtain⟨⟨p,hp,ee⟩,-⟩:=Tq T hx he
    show sj T (r.1++(ac T r.2).1++(eF T et (if k=8 then aB T 15 (ac T r.2).2 else (ac T r.2).2)).1)
    rw [hp,gB]
    exact sj.more _ _ _ (h (m8 T iA).2.2) (RD T iA).2.2.1 ee
   ·rename_i iA
    rw [if_neg iA] at he
    exact h he
theorem Lz {s:St} (h:(eI T et s).2.e=0):sj T (eI T et s).1:=by
 unfold eI at h ⊢
 refine Fz T hx _ _ _ (fun he=>?_) h
 obtain⟨⟨p,hp,ee⟩,-⟩:=Tq T hx he
 rw [hp];exact sj.one p ee
omit hx in
theorem Wd {p:RT} (h:(cK T p).2.e=0):∃f n o,(cK T p).1=p.1++[.lf f,.lf n,.lf o]∧(tkT T f).text = [102,117,110]∧(tkT T f).kind≠1∧(tkT T n).kind=1∧(tkT T o).kind≠1∧p.2.e=0:=by
 unfold cK at h ⊢
 simp only [] at h ⊢
 obtain⟨o,ho,-,dp,e7⟩:=my T h
 obtain⟨hn,R5,e8⟩:=nS T e7
 obtain⟨f,hf,Up,Wj,e9⟩:=my T e8
 rw [ho,hn,hf]
 exact⟨f,_,o,rfl,Up,Wj,R5,dp,e9⟩
theorem Vv {o:RT} (h:(du T et o).2.e=0):∃ps,(du T et o).1=o.1++ps∧(ps = []∨sj T ps)∧o.2.e=0:=by
 unfold du at h ⊢
 split
 ·rename_i iA
  rw [if_pos iA] at h
  exact⟨_,rfl,.inr (Lz T hx h),iA.1⟩
 ·rename_i iA
  rw [if_neg iA] at h
  exact⟨[],by simp,.inl rfl,h⟩
include hk
theorem V6 {r:RT} (h:(eL T et r).2.e=0):∃c tl q u m,(eL T et r).1=r.1++[.lf c]++tl++[.lf q]++[u]++[.lf m]∧(tkT T c).kind≠1∧ShT T tl∧(tkT T q).kind≠1∧isN u=true∧WE T u∧(tkT T m).kind≠1∧r.2.e=0:=by
 unfold eL at h ⊢
 simp only [] at h ⊢
 obtain⟨m,hm,-,YC,e1⟩:=my T h
 obtain⟨u,hu,pM,pL⟩:=hx _ e1
 have e2:=uo (hk _) e1
 obtain⟨q,hq,-,hqk,e3⟩:=my T e2
 obtain⟨ht,e4⟩:=Fd T hx e3
 obtain⟨c,hc,-,M3,e5⟩:=my T e4
 rw [hm,hu,hq,hc]
 exact⟨c,_,q,u,m,by simp only [List.append_assoc],M3,ht,hqk,pM,pL,YC,e5⟩
theorem ZC {s:St} (h:(gO T et s).2.e=0):∃d,(gO T et s).1 = [d]∧ShD T d:=by
 unfold gO at h ⊢
 simp only [] at h ⊢
 obtain⟨c,tl,q,u,m,h1,M3,ht,hqk,pM,pL,YC,e1⟩:=V6 T hx hk h
 obtain⟨ps,Y8,hpw,e2⟩:=Vv T hx e1
 obtain⟨f,n,o,hB,Up,Wj,R5,dp,e3⟩:=Wd T e2
 obtain⟨pb,QF,af1⟩:∃pb,(bW T s).1=pb∧(pb = []∨∃p,pb = [.lf p]∧(tkT T p).text=Ec∧(tkT T p).kind≠1):=by
  unfold bW
  split
  ·rename_i iA
   exact⟨_,rfl,.inr ⟨_,(RD T iA).1,(RD T iA).2.1,(RD T iA).2.2.1⟩⟩
  ·exact⟨[],rfl,.inl rfl⟩
 rw [h1,Y8,hB,QF]
 exact⟨_,rfl,ShD.mk pb f n o ps c tl q u m af1 Up Wj R5 dp hpw M3 ht hqk pM pL YC⟩
omit hx hk
theorem sY {c:St→Bool} {step:RT→RT} {most:Nat} {Q:Tr→Prop} (hs:∀r,c r.2=true→(step r).2.e=0→∃t,(step r).1=r.1++[t]∧Q t∧r.2.e=0):
  ∀f k (r:RT),(dr T c step most f k r).1=true→(dr T c step most f k r).2.2.e=0→∃l,(dr T c step most f k r).2.1=r.1++l∧(∀t∈l,Q t)∧r.2.e=0
 | 0,k,r,_,he=>⟨[],by simp [dr],fun t ht=>by simp at ht,he⟩
 | f+1,k,r,h1,he=>by
   unfold dr at h1 he ⊢
   split
   ·rename_i hc
    rw [if_pos hc] at h1 he
    split
    ·rename_i hk
     rw [if_pos hk] at h1;cases h1
    ·rename_i hk
     rw [if_neg hk] at h1 he
     obtain⟨l,h2,h3,h4⟩:=sY hs f _ _ h1 he
     obtain⟨t,h5,h6,h7⟩:=hs r hc h4
     refine⟨t::l,by rw [h2,h5];simp,fun u hu=>?_,h7⟩
     rcases List.mem_cons.1 hu with rfl | hu
     ·exact h6
     ·exact h3 u hu
   ·rename_i hc
    rw [if_neg hc] at h1 he
    exact⟨[],by simp,fun t ht=>by simp at ht,he⟩
end
theorem UJ {T:List Tok} (hT:uL T) {D:Nat} (he:(aH T D false).2.e=0):JJ T (aH T D false).1:=by
 have hw:=Xc T hT D D (Nat.le_refl _)
 have hk:=fi T D D
 have e0:aH T D false=aW T (nxT T D D).expr az:=rfl
 rw [e0] at he ⊢
 unfold aW at he ⊢
 by_cases h1:(au T ([],az)).1=false
 ·rw [if_pos h1] at he
  exact absurd he (gH T _ _ _ h1)
 ·have ON:(au T ([],az)).1=true:=by simpa using h1
  rw [if_neg h1] at he ⊢
  by_cases h2:(cj T (nxT T D D).expr (au T ([],az)).2).1=false
  ·rw [if_pos h2] at he
   exact absurd he (gH T _ _ _ h2)
  ·have h2':(cj T (nxT T D D).expr (au T ([],az)).2).1=true:=by simpa using h2
   rw [if_neg h2] at he ⊢
   obtain⟨k1,-,e1⟩:=nS T he
   obtain⟨ds,hd,YZ,e2⟩:=sY T (Q:=ShD T) (fun r hc hs=>by
    obtain⟨d,hd,YZ⟩:=ZC T hw.expr hk.expr (s:=r.2) hs
    refine⟨d,?_,YZ,?_⟩
    ·show r.1++(gO T (nxT T D D).expr r.2).1=_
     rw [hd]
    ·unfold fF at hc
     rcases Bool.or_eq_true_iff.1 hc with hc | hc<;>exact(m8 T hc).2.2) _ _ _ h2' e1
   obtain⟨is,hi,D5,-⟩:=sY T (Q:=ShI T) (fun r hc hs=>by
    unfold eC at hs ⊢
    simp only [] at hs ⊢
    obtain⟨m,hm,-,-,e3⟩:=my T hs
    obtain⟨hn,R5,e4⟩:=nS T e3
    refine⟨_,?_,ShI.mk r.2.i _ m R5,(m8 T hc).2.2⟩
    rw [hm,hn,gB];rfl) _ _ _ ON e2
   have hd':(cj T (nxT T D D).expr (au T ([],az)).2).2.1=(au T ([],az)).2.1++ds:=hd
   have hi':(au T ([],az)).2.1 = []++is:=hi
   refine⟨is,ds,(cj T (nxT T D D).expr (au T ([],az)).2).2.2.i,?_,D5,YZ⟩
   show(cj T (nxT T D D).expr (au T ([],az)).2).2.1++(aA T 5 (cj T (nxT T D D).expr (au T ([],az)).2).2.2).1=_
   rw [k1,hd',hi'];rfl
end Go.Proofs.YtjbgnopnehgbaaaGreatDoor
set_option maxHeartbeats 16000000
namespace Go.Proofs.YtjbgnopnehgbaaaGreatDoor
open Go.RowKit
mutual
def lU:Ex→List UInt8
 | .mk op nm md nu ys ks ps=>fq (.mk op nm md nu ys ks ps)++th ks++[93]
def th:List Ex→List UInt8
 | []=>[]
 | k::l=>32::lU k++th l
end
def stD (s:List UInt8) (x:Ex) (d:Nat):List UInt8:=s++((if d=0 then fq x else [])++(if d=(cV x).length then [93] else [32]))
mutual
theorem CO:∀(x:Ex) (s:List UInt8),vV stD x s=s++lU x
 | .mk op nm md nu ys ks ps,s=>by
   simp only [vV,lU]
   have h:=NQ (.mk op nm md nu ys ks ps) 0 ks (s++fq (.mk op nm md nu ys ks ps)) (by simp [cV])
   have e:stD s (.mk op nm md nu ys ks ps) 0=s++fq (.mk op nm md nu ys ks ps)++(if ks = [] then [93] else [32]):=by
    unfold stD;rw [if_pos rfl]
    show s++(_++(if 0=ks.length then [93] else [32]))=_
    rw [List.append_assoc]
    by_cases hk:ks = []
    ·subst hk;rfl
    ·rw [if_neg hk,if_neg (by intro h0;exact hk (List.eq_nil_of_length_eq_zero h0.symm))]
   rw [e,h];simp
theorem NQ (x:Ex):∀(j:Nat) (l:List Ex) (s:List UInt8),j+l.length=(cV x).length→vX stD x j l (s++(if l = [] then [93] else [32]))=s++th l++[93]
 | j,[],s,h=>by simp [vX,th]
 | j,k::l,s,h=>by
   simp only [vX,th]
   rw [if_neg (by simp),CO k]
   have h1:j+1+l.length=(cV x).length:=by simp at h;omega
   have e:stD (s++[32]++lU k) x (j+1)=(s++32::lU k)++(if l = [] then [93] else [32]):=by
    unfold stD
    rw [if_neg (by omega)]
    by_cases hl:l = []
    ·subst hl
     rw [if_pos rfl,if_pos (by simpa using h1)];simp
    ·have:0<l.length:=List.length_pos_iff.2 hl
     rw [if_neg hl,if_neg (by omega)];simp
   rw [e,NQ x (j+1) l _ h1];simp
end
mutual
def lA:Ex→Prop
 | .mk op nm md nu ys ks ps=>uI (.mk op nm md nu ys ks ps)∧nE ks
def nE:List Ex→Prop
 | []=>True
 | k::l=>lA k∧nE l
end
theorem xL:∀ {l:List Ex} {k:Ex},nE l→k∈l→lA k
 | [],k,_,h=>by cases h
 | y::l,k,hs,h=>by
   simp only [nE] at hs
   rcases List.mem_cons.1 h with h | h
   ·subst h;exact hs.1
   ·exact xL hs.2 h
theorem M8 {x k:Ex} (h:lA x) (hk:k∈cV x):lA k:=by
 cases x with
 | mk op nm md nu ys ks ps=>simp only [lA] at h;exact xL h.2 hk
theorem Dk {x:Ex} (h:lA x):uI x:=by
 cases x with
 | mk op nm md nu ys ks ps=>simp only [lA] at h;exact h.1
def PD (B b:Nat) (s:List UInt8) (w:World):Prop:=Lib.IsBuilder 80 5 B b (Lib.byteCells s) w∧B≤w.heap.size
def LD (s:List UInt8):Prop:=s.length≤1000000
theorem PD.gb {B b:Nat} {s:List UInt8} {w w':World} (h:PD B b s w) (hg:w.grownBy w' none):PD B b s w':=⟨An h.1 hg,Nat.le_trans h.2 hg.size⟩
theorem Ra (F:Nat→Prop) (B b:Nat) (hF:∀k,F k→k<B) (s:List UInt8) (f:Fm) (w:World) (hp:PD B b s w) (hx:kz F w f.g f.o f.x) (hd:f.d≤(cV f.x).length) (hq:lA f.x) (hl:LD (stD s f.x f.d)):
  Calls Tryz.prog 22 #[.pointer (some ⟨f.g,f.o,none⟩),.int .i64 (f.d:Int),.pointer (some ⟨b,0,none⟩)] w (fun e w'=>e=.returned (.tuple #[])∧PD B b (stD s f.x f.d) w'∧Below B w w'∧gU b w w'):=by
 have TM:=zh (Sg F f.x f.g f.o w hx (Dk hq))
 obtain⟨pk,ck,c6,-⟩:=hx.kids
 have gc:=hx.2.1
 have HGB:Hid (f.g<B):=zh (hF _ hx.1)
 have HP:=zh hp;have HL:=zh hl
 obtain⟨fg,nH⟩:∃fg,f.g=fg:=⟨_,rfl⟩
 obtain⟨fo,SZ⟩:∃fo,f.o=fo:=⟨_,rfl⟩
 obtain⟨fd,Ed⟩:∃fd,f.d=fd:=⟨_,rfl⟩
 obtain⟨kn,lz⟩:∃kn,(cV f.x).length=kn:=⟨_,rfl⟩
 obtain⟨x,hxx⟩:∃x,f.x=x:=⟨_,rfl⟩
 rw [nH,SZ] at TM c6
 rw [nH] at gc HGB
 rw [lz] at c6 hd
 rw [Ed] at HL hd
 rw [nH,SZ,Ed]
 rw [hxx] at TM HL lz ⊢
 have HC6:=zh c6
 have FW:=zh gc
 have mD:Hid (B≤w.heap.size):=zh hp.2
 have HE:Hid (stD s x fd=s++((if fd=0 then fq x else [])++(if fd=kn then [93] else [32]))):=zh (by unfold stD;rw [lz])
 clear hx hq hp hl hF nH SZ Ed lz hxx
 have ky:Hid (s.length+(if fd=0 then fq x else []).length+1≤1000000):=zh (by
  have h:=HL.out
  rw [HE.out] at h
  unfold LD at h
  simp only [List.length_append] at h
  have h3:(if fd=kn then [93] else [32]:List UInt8).length=1:=by split<;>rfl
  omega)
 have F5:∀(t:List UInt8) (W:World),Hid (PD B b t W)→Hid (t.length+1≤1000000)→∀(z:UInt8),Hid (Calls Tryz.prog 23 #[.pointer (some ⟨b,0,none⟩),.string ⟨#[z]⟩] W (fun e w'=>e=.returned (.tuple #[.int .i64 1,.nilIface])∧PD B b (t++[z]) w'∧Below B W w'∧gU b W w')):=fun t W h1 h2 z=>zh ((fA B b _ ⟨#[z]⟩ W h1.out.1 (by rw [Lib.byteCells_length];show t.length+1≤_;have:=h2.out;omega) h1.out.2).mono (by
  rintro e w' ⟨rfl,⟨h3,h4⟩,h5⟩
  refine⟨rfl,⟨.inr (by rw [Lib.byteCells_append];exact h3),Nat.le_trans h1.out.2 h4.size⟩,h4,h5⟩))
 go_enter Tryz.func22,Tryz.ntmps22
 by_cases h0:fd=0
 ·have e1:((fd:Int) == 0)=true:=by rw [h0];rfl
  have sl:(fd == 0)=true:=by rw [h0];rfl
  have Mm:Hid (s.length+(fq x).length+1≤1000000):=zh (by have h:=ky.out;rw [if_pos h0] at h;exact h)
  have C0:Hid (stD s x fd=s++fq x++(if fd=kn then [93] else [32])):=zh (by rw [HE.out,if_pos h0,List.append_assoc])
  clear h0 HE ky
  go_wp2_with fail
  refine TM.out.mono ?_
  rintro e w1 ⟨⟨y,rfl,hy⟩,bI⟩
  have HY:=zh hy;have cZ:=zh bI
  have jL:=io hy
  have Wm:Hid (y.size≤1000000):=zh (by rw [jL];have:=Mm.out;omega)
  have OG:=zh (HP.out.gb bI)
  have Zm:=zh (fA B b _ y w1 OG.out.1 (by rw [Lib.byteCells_length,jL];have:=Mm.out;omega) OG.out.2)
  have c6:=bI.cell c6 (by simp)
  have gc:=zn gc bI.size
  clear hy bI TM jL
  go_wp2_with fail
  refine Zm.out.mono ?_
  rintro e w2 ⟨rfl,⟨dC,Cq⟩,hok2⟩
  have Jm:Hid (PD B b (s++fq x) w2):=zh ⟨.inr (by rw [←HY.out,Lib.byteCells_append];exact dC),Nat.le_trans OG.out.2 Cq.size⟩
  have vP:=zh (Below.trans2 (Below.gb cZ.out mD.out) Cq)
  have Zt:=zh (gU.trans (gU.none cZ.out) hok2)
  have c6:=(World.cell?_of_block (a:=⟨fg,fo+6,none⟩) (Cq.block fg HGB.out)).trans c6
  have gc:=zn gc Cq.size
  have gf:=fun z=>F5 _ _ Jm (zh (by rw [List.length_append];exact Mm.out)) z
  clear dC Cq hok2 Zm F5
  by_cases hk:fd=kn
  ·have e2:((fd:Int) == (kn:Int))=true:=beq_iff_eq.2 (by omega)
   have DB:(fd == kn)=true:=beq_iff_eq.2 hk
   have HK:=zh hk
   have Ye:=gf 93
   clear hk gf
   go_wp2_with fail
   refine Ye.out.mono ?_
   rintro e w3 ⟨rfl,lr,ig,Ux⟩
   go_wp2_with fail
   refine bodyPost_end (results_none rfl _ _ _) rfl ?_
   exact⟨rfl,by rw [C0.out,if_pos HK.out];exact lr,Below.trans2 vP.out ig,gU.trans Zt.out Ux⟩
  ·have e2:((fd:Int) == (kn:Int))=false:=beq_eq_false_iff_ne.2 (by omega)
   have DB:(fd == kn)=false:=beq_eq_false_iff_ne.2 hk
   have HK:=zh hk
   have Ye:=gf 32
   clear hk gf
   go_wp2_with fail
   refine Ye.out.mono ?_
   rintro e w3 ⟨rfl,lr,ig,Ux⟩
   go_wp2_with fail
   refine bodyPost_end (results_none rfl _ _ _) rfl ?_
   exact⟨rfl,by rw [C0.out,if_neg HK.out];exact lr,Below.trans2 vP.out ig,gU.trans Zt.out Ux⟩
 ·have e1:((fd:Int) == 0)=false:=beq_eq_false_iff_ne.2 (by omega)
  have sl:(fd == 0)=false:=beq_eq_false_iff_ne.2 h0
  have Mm:Hid (s.length+1≤1000000):=zh (by have h:=ky.out;omega)
  have C0:Hid (stD s x fd=s++(if fd=kn then [93] else [32])):=zh (by rw [HE.out,if_neg h0];rfl)
  have gf:=fun z=>F5 _ _ HP Mm z
  clear h0 HE ky TM F5
  by_cases hk:fd=kn
  ·have e2:((fd:Int) == (kn:Int))=true:=beq_iff_eq.2 (by omega)
   have DB:(fd == kn)=true:=beq_iff_eq.2 hk
   have HK:=zh hk
   have Ye:=gf 93
   clear hk gf
   go_wp2_with fail
   refine Ye.out.mono ?_
   rintro e w3 ⟨rfl,lr,ig,Ux⟩
   go_wp2_with fail
   refine bodyPost_end (results_none rfl _ _ _) rfl ?_
   exact⟨rfl,by rw [C0.out,if_pos HK.out];exact lr,ig,Ux⟩
  ·have e2:((fd:Int) == (kn:Int))=false:=beq_eq_false_iff_ne.2 (by omega)
   have DB:(fd == kn)=false:=beq_eq_false_iff_ne.2 hk
   have HK:=zh hk
   have Ye:=gf 32
   clear hk gf
   go_wp2_with fail
   refine Ye.out.mono ?_
   rintro e w3 ⟨rfl,lr,ig,Ux⟩
   go_wp2_with fail
   refine bodyPost_end (results_none rfl _ _ _) rfl ?_
   exact⟨rfl,by rw [C0.out,if_neg HK.out];exact lr,ig,Ux⟩
theorem aci (F:Nat→Prop) (B:Nat) (hF:∀k,F k→k<B):PT stD 22 B B F (PD B B) LD lA where
 below:=hF
 box:=Nat.le_refl _
 tell:=fun s f w hp _ hx hd hq hl=>Ra F B B hF s f w hp hx hd hq hl
 mono:=fun s x d h=>by unfold LD stD at h;unfold LD;rw [List.length_append] at h;omega
 kids:=fun x k h hk=>M8 h hk
 grown:=fun s w w' h hg=>h.gb hg
 placed:=fun s w w' g cs h hg hc bl=>⟨Gs h.1 hg hc (by decide) bl,Nat.le_trans h.2 hg.size⟩
theorem EAt.box {F:Nat→Prop} {w:World} {x:Ex} {q:List Value} (h:EAt F w x q):kz (fun k=>k≤w.heap.size) (w.alloc (.cells q.toArray 30)) w.heap.size 0 x:=
 ⟨Nat.le_refl _,by simp,q,h.len,fun i v hi=>by
  rw [Nat.zero_add];unfold World.cell?;rw [show(⟨w.heap.size,i,none⟩:Addr).block=w.heap.size from rfl,heap_alloc_new w];simpa using hi,
  (h.bound.mono (fun k hk=>Nat.le_of_lt hk.2)).kept (World.grownBy_alloc w _ none)⟩
theorem EO (F:Nat→Prop) (x:Ex) (q:List Value) (w:World) (hx:EAt F w x q) (hs:lA x) (hc:kw x≤1000000) (hD:(lU x).length≤1000000):
  Calls Tryz.prog 9 #[.agg q.toArray] w (uW (lU x) w):=by
 have hb:=hx.box
 have HS:=zh hs;have HC:=zh hc;have HD:=zh hD
 obtain⟨v0,v1,v2,v3,v4,v5,v6,v7,rfl⟩:∃v0 v1 v2 v3 v4 v5 v6 v7,q = [v0,v1,v2,v3,v4,v5,v6,v7]:=by
  have:=hx.len
  match q,this with
  | [v0,v1,v2,v3,v4,v5,v6,v7],_=>exact⟨_,_,_,_,_,_,_,_,rfl⟩
 have hA:=World.grownBy_alloc w (.cells #[v0,v1,v2,v3,v4,v5,v6,v7] 30) none
 clear hx hs hc hD
 go_enter Tryz.func9,Tryz.ntmps9
 go_wp2_with fail
 change kz _ (w.alloc (.cells #[v0,v1,v2,v3,v4,v5,v6,v7] 30)) _ _ _ at hb
 obtain⟨b,As⟩:∃b,w.heap.size=b:=⟨_,rfl⟩
 have db:(w.alloc (.cells #[v0,v1,v2,v3,v4,v5,v6,v7] 30)).heap.size=b+1:=by simp [As]
 generalize (w.alloc (.cells #[v0,v1,v2,v3,v4,v5,v6,v7] 30))=WA at *
 have vm:=yR WA (b+1) (by omega)
 have oZ:=World.grownBy_alloc WA (.cells #[.pointer none,.slice none 0 0] 80) none
 have EE:(WA.alloc (.cells #[.pointer none,.slice none 0 0] 80)).heap.size=b+2:=by simp [db]
 generalize (WA.alloc (.cells #[.pointer none,.slice none 0 0] 80))=WB at *
 rw [db] at vm
 rw [As] at hb ⊢
 have dC:=(hb.same (S:=fun _=>False) (Fr2.none oZ) (fun _ _ h=>h))
 have HW:=zh (SB _ rfl stD (b+1) (b+1) _ (PD (b+1) (b+1)) LD lA (aci (fun k=>k≤b) (b+1) (fun k hk=>by omega)) x b 0 [] WB ⟨vm,by omega⟩ dC (by omega) HC.out (by rw [CO];exact HD.out) HS.out)
 have HG:Hid (w.grownBy WB none):=zh (aa hA oZ)
 have iV:Hid (w.heap.size=b):=zh As
 have HZB:Hid (WB.heap.size=b+2):=zh EE
 clear hb dC vm EE oZ db hA As
 refine HW.out.mono ?_
 rintro e W3 ⟨rfl,lr,Np⟩
 rw [CO,List.nil_append] at lr
 have MM:=zh (Tryz.Builder_String_any_k (b+1) (b+1) _ W3 (Lib.IsBuilderF.of lr.1) lr.2)
 have aei:=zh Np
 clear lr Np HW
 go_wp2_with fail
 refine MM.out.mono ?_
 rintro e w7 ⟨rfl,-,BP,-⟩
 have gT:Hid (w.grownBy w7 none):=zh (bz (Below.mono (Below.trans2 (Below.gb HG.out (by rw [iV.out];exact Nat.le_refl _)) ((Below.trans2 aei.out BP).mono (by omega))) (by rw [iV.out];exact Nat.le_refl _)))
 clear BP
 go_wp2_with fail
 go_ret
 exact⟨⟨_,rfl,rfl⟩,gT.out⟩
section
variable (T:List Tok)
end
theorem Vn (w:World) (A:Obj):∃(W:World) (b0:Nat),W=w.alloc A∧w.heap.size=b0∧W.heap[b0]? = some A∧w.grownBy W none∧W.heap.size=b0+1:=⟨_,_,rfl,rfl,heap_alloc_new w A,World.grownBy_alloc w A none,by simp⟩
end Go.Proofs.YtjbgnopnehgbaaaGreatDoor
