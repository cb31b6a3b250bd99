/- Lemmas. -/
import Derived.LaidMore
import Derived.Lay
import Derived.Test.YtjbgnopnehgbaaaGreatDoorCards
import Derived.Test.YtjbgnopnehgbaaaGreatDoorTie
import Derived.Test.YtjbgnopnehgbaaaGreatDoorP13
import Derived.Test.YtjbgnopnehgbaaaGreatDoorP37
set_option linter.unusedVariables false
set_option linter.unusedSimpArgs false
set_option maxHeartbeats 16000000
set_option maxRecDepth 100000
namespace Go.Proofs.YtjbgnopnehgbaaaGreatDoor
open Go.RowKit
theorem bj.kept {S:Nat→Prop} {B b:Nat} {w w2:World} {rows:List (List Value)} (h:bj S B b w rows) (hg:w.grownBy w2 none):bj S B b w2 rows:=by
 obtain⟨v,hb,hO,kK,hB,p8,pK,mp⟩:=h
 exact⟨v,bx hg hb,hO.kept hg,kK,Nat.le_trans hB hg.size,p8,pK,fun k hk=>zn (mp k hk) hg.size⟩
theorem bj.more {S:Nat→Prop} {B b c:Nat} {w w2:World} {rows:List (List Value)} (h:bj S B b w rows) (hg:w.grownBy w2 none) (hc:w.heap.size≤c) (sG:c<w2.heap.size):bj (fun k=>S k∨k=c) B b w2 rows:=by
 obtain⟨v,hb,hO,kK,hB,p8,pK,mp⟩:=h
 have mV:=hlt hb
 refine⟨v,bx hg hb,hO.kept hg,kK,Nat.le_trans hB hg.size,fun e=>?_,fun k hk e=>?_,fun k hk=>?_⟩
 ·rcases e with e | e
  ·exact p8 e
  ·omega
 ·have:=(hO.at k hk).2
  rcases e with e | e
  ·exact pK k hk e
  ·omega
 ·rcases hk with e | e
  ·exact zn (mp k e) hg.size
  ·omega
theorem bj.less {S:Nat→Prop} {B b c:Nat} {w:World} {rows:List (List Value)} (h:bj (fun k=>S k∨k=c) B b w rows):bj S B b w rows:=by
 obtain⟨v,hb,hO,kK,hB,p8,pK,mp⟩:=h
 exact⟨v,hb,hO,kK,hB,fun e=>p8 (.inl e),fun k hk e=>pK k hk (.inl e),fun k hk=>mp k (.inl hk)⟩
theorem Nw (l:List UInt8) (x:UInt8):((⟨l.toArray⟩:ByteArray)++(⟨#[x]⟩:ByteArray))=⟨(l++[x]).toArray⟩:=by
 apply ByteArray.ext
 rw [ByteArray.data_append]
 apply Array.toList_inj.1
 simp
theorem GJ (S:Nat→Prop) (B b:Nat) (rows:List (List Value)) (s:ByteArray) (p:Option Addr) (ck:Nat) (fv:Value) (w:World) (h:bj S B b w rows):
  Calls Tryz.prog 150 #[.pointer (some ⟨b,0,none⟩),.slice p 0 ck,.string s,fv] w (dy S B b rows w):=by
 have HW:=zh h
 clear h
 go_enter Tryz.func150,Tryz.ntmps150
 go_wp2_with fail
 go_loopw [11] (fun iv wr=>iv=.int .i64 0∧wr=w) (fun _ _=>0)
 case atStart=>exact⟨rfl,rfl⟩
 case round=>
  obtain⟨rfl,rfl⟩:=hrel
  go_wp2_with fail
  go_end0
  exact⟨rfl,HW.out,Fr2.refl _ _⟩
def EP (nm md:List UInt8) (gk ok n:Nat):List (List Value):=(if md = [] then [] else [jt (md++[46])])++[jt (nm++[40])]++iI [44,32] gk ok n++[jt [41]]
theorem Pa (S:Nat→Prop) (B b:Nat) (rows:List (List Value)) (fg fo gk ok n ck:Nat) (pk:Option Addr) (nm md:List UInt8) (w:World) (h:bj S B b w rows) (hl:rows.length≤800000) (hn:n≤8) (hnl:nm.length≤60000) (LC:md.length≤60000) (hSf:S fg) (nF:0<n→pk=some ⟨gk,ok,none⟩)
  (c1:w.cell? ⟨fg,fo+1,none⟩=some (.string ⟨nm.toArray⟩)) (c2:w.cell? ⟨fg,fo+2,none⟩=some (.string ⟨md.toArray⟩)) (c6:w.cell? ⟨fg,fo+6,none⟩=some (.slice pk n ck)):
  Calls Tryz.prog 134 #[.pointer (some ⟨b,0,none⟩),.pointer (some ⟨fg,fo,none⟩)] w (dy S B b (rows++EP nm md gk ok n) w):=by
 have kf:fg<w.heap.size:=by obtain⟨v,-,-,-,-,-,-,hh⟩:=h;exact hh _ hSf
 obtain⟨cb,hcb⟩:∃cb,w.heap.size=cb:=⟨_,rfl⟩
 have hg:=World.grownBy_alloc w (.cells #[.pointer (some ⟨b,0,none⟩)] 138) none
 have hA:=heap_alloc_new w (.cells #[.pointer (some ⟨b,0,none⟩)] 138)
 have db:(w.alloc (.cells #[.pointer (some ⟨b,0,none⟩)] 138)).heap.size=cb+1:=by simp [hcb]
 rw [hcb] at hA
 have hW:=h.more hg (Nat.le_of_eq hcb) (by rw [db];omega)
 have hHS:∀k,S k→k<w.heap.size:=by obtain⟨v,-,-,-,-,-,-,hh⟩:=h;exact hh
 have d1:=hg.cell c1 (by simp)
 have d2:=hg.cell c2 (by simp)
 have d6:=hg.cell c6 (by simp)
 go_enter Tryz.func134,Tryz.ntmps134
 clear c1 c2 c6
 go_upto_region 1 with fail
 try rw [hcb]
 generalize (w.alloc (.cells #[.pointer (some ⟨b,0,none⟩)] 138))=W at *
 have z1:¬ 9223372036854775807<md.length+1:=by omega
 have z2:¬ 9223372036854775807<nm.length+1:=by omega
 have q0:W.cell? ⟨cb,0,none⟩=some (.pointer (some ⟨b,0,none⟩)):=by rw [cell_of_row W cb 0 _ _ (0,0) hA];rfl
 have tC:cb<W.heap.size:=by omega
 have TP:fg<W.heap.size:=zn kf hg.size
 obtain⟨S2,rG⟩:∃S2:Nat→Prop,S2=fun k=>S k∨k=cb:=⟨_,rfl⟩
 have OL:S2 cb:=by rw [rG];exact .inr rfl
 have Qk:S2 fg:=by rw [rG];exact .inl hSf
 have Vw:Hid (∀rows' w',bj S2 B b w' rows'→Fr2 (fun k=>¬S2 k) W w'→dy S B b rows' w (.returned (.tuple #[])) w'):=zh (fun rows' w' h1 h2=>by
  rw [rG] at h1 h2
  exact⟨rfl,h1.less,(Fr2.none hg).trans (h2.mono (fun k hk e=>hk (.inl e)))⟩)
 rw [←rG] at hW
 have CF:Hid (∀W',Fr2 (fun k=>¬S2 k) W W'→W'.cell? ⟨cb,0,none⟩=some (.pointer (some ⟨b,0,none⟩))∧W'.cell? ⟨fg,fo+1,none⟩=some (.string ⟨nm.toArray⟩)∧W'.cell? ⟨fg,fo+2,none⟩=some (.string ⟨md.toArray⟩)∧W'.cell? ⟨fg,fo+6,none⟩=some (.slice pk n ck)∧cb<W'.heap.size∧fg<W'.heap.size):=zh (fun W' hf=>
  ⟨by rw [World.cell?_of_block (w:=W) (hf.block cb tC (fun e=>e OL))];exact q0,by rw [World.cell?_of_block (w:=W) (hf.block fg TP (fun e=>e Qk))];exact d1,by rw [World.cell?_of_block (w:=W) (hf.block fg TP (fun e=>e Qk))];exact d2,by rw [World.cell?_of_block (w:=W) (hf.block fg TP (fun e=>e Qk))];exact d6,zn tC hf.size,zn TP hf.size⟩)
 have ow:=zh (fun rows s W h h2=>kW S2 B b rows s W h h2)
 have FE:Hid (∀(R:List (List Value)) (W':World),bj S2 B b W' R→R.length≤900000→W'.cell? ⟨cb,0,none⟩=some (.pointer (some ⟨b,0,none⟩))→Calls Tryz.prog 150 #[.pointer (some ⟨b,0,none⟩),.slice pk n ck,.string ⟨#[44,32]⟩,.func (.func 151) #[] #[.pointer (some ⟨cb,0,none⟩)]] W' (dy S2 B b (R++iI [44,32] gk ok n) W')):=zh (fun R W' h1 h2 h3=>by
  rcases Nat.eq_zero_or_pos n with h0 | h0
  ·subst h0
   have:=GJ S2 B b R ⟨#[44,32]⟩ pk ck (.func (.func 151) #[] #[.pointer (some ⟨cb,0,none⟩)]) W' h1
   simpa [iI] using this
  ·rw [nF h0]
   exact Sb S2 B b cb R [44,32] gk ok n ck W' h1 h2 (by omega) OL h3)
 have HW0:=zh hW;have HL:=zh hl;have Jo:=zh nF;have HN:=zh hn
 clear rG OL Qk hW h hl hA db hHS hg hSf kf nF
 obtain⟨R0,hR0⟩:∃R0,rows++(if md = [] then [] else [jt (md++[46])])=R0:=⟨_,rfl⟩
 have Hx:=zh hR0
 clear hR0
 by_cases hm:md = []
 focus
  have e1:md.isEmpty=true:=by subst hm;rfl
  have kL:Hid (bj S2 B b W R0):=zh (by rw [←Hx.out,if_pos hm,List.append_nil];exact HW0.out)
  have OB:Hid (R0.length≤800001):=zh (by rw [←Hx.out,if_pos hm,List.append_nil];have:=HL.out;omega)
  clear hm
  go_wp2_with fail
  obtain⟨w2,eE⟩:∃w2,W=w2:=⟨W,rfl⟩
  have es:Hid (Fr2 (fun k=>¬S2 k) W w2):=zh (by rw [←eE];exact Fr2.refl _ _)
  rw [eE] at kL q0 d1 d2 d6 tC TP ⊢
  clear eE e1
 rotate_left 1
 focus
  have e1:md.isEmpty=false:=by rw [ph];exact decide_eq_false hm
  go_wp2_with fail
  go_region_held3 (fun w'=>w'.cell? ⟨cb,0,none⟩=some (.pointer (some ⟨b,0,none⟩))∧w'.cell? ⟨fg,fo+1,none⟩=some (.string ⟨nm.toArray⟩)∧w'.cell? ⟨fg,fo+2,none⟩=some (.string ⟨md.toArray⟩)∧w'.cell? ⟨fg,fo+6,none⟩=some (.slice pk n ck))
   (first | with_reducible exact⟨q0,d1,d2,d6⟩ | go_keep)
   (first | (go_at_call 105;refine(ow.out _ _ _ (HW0.out.kept gby) (by have:=HL.out;omega)).mono ?_;rintro e w2 ⟨rfl,eE,dK⟩;have kL:=zh eE;have es:=zh ((Fr2.none (show W.grownBy _ none from gby)).trans dK);obtain⟨q0,d1,d2,d6,tC,TP⟩:=CF.out _ es.out;clear eE dK))
  have OB:Hid (R0.length≤800001):=zh (by rw [←Hx.out,if_neg hm,List.length_append];have:=HL.out;simp;omega)
  have kL:Hid (bj S2 B b w2 R0):=zh (by
   have h:=kL.out
   rw [←Hx.out,if_neg hm]
   rw [Nw] at h
   exact h)
  clear hm e1
  go_wp2_with fail
 all_goals
  go_region_held3 (fun w'=>w'.cell? ⟨cb,0,none⟩=some (.pointer (some ⟨b,0,none⟩))∧w'.cell? ⟨fg,fo+1,none⟩=some (.string ⟨nm.toArray⟩)∧w'.cell? ⟨fg,fo+2,none⟩=some (.string ⟨md.toArray⟩)∧w'.cell? ⟨fg,fo+6,none⟩=some (.slice pk n ck))
   (first | with_reducible exact⟨q0,d1,d2,d6⟩ | go_keep)
   (first | (go_at_call 105;refine(ow.out _ _ _ (kL.out.kept gby) (by have:=OB.out;omega)).mono ?_;rintro e w3 ⟨rfl,mO,fI⟩;have tA:=zh mO;have jp:=zh (es.out.trans ((Fr2.none (show w2.grownBy _ none from gby)).trans fI));obtain⟨q0,d1,d2,d6,tC,TP⟩:=CF.out _ jp.out;clear mO fI))
  have tA:Hid (bj S2 B b w3 (R0++[jt (nm++[40])])):=zh (by
   have h:=tA.out
   rw [Nw] at h
   exact h)
  have Ou:Hid ((R0++[jt (nm++[40])]).length≤800002):=zh (by rw [List.length_append];have:=OB.out;simp;omega)
  clear kL
  go_wp2_with fail
  go_region_held3 (fun w'=>w'.cell? ⟨cb,0,none⟩=some (.pointer (some ⟨b,0,none⟩))∧w'.cell? ⟨fg,fo+1,none⟩=some (.string ⟨nm.toArray⟩)∧w'.cell? ⟨fg,fo+2,none⟩=some (.string ⟨md.toArray⟩)∧w'.cell? ⟨fg,fo+6,none⟩=some (.slice pk n ck))
   (first | with_reducible exact⟨q0,d1,d2,d6⟩ | go_keep)
   (first | (go_at_call 150;refine(FE.out _ _ (tA.out.kept gby) (by have:=Ou.out;omega) (by first | with_reducible exact q0 | go_keep)).mono ?_;rintro e w4 ⟨rfl,GX,qF⟩;have VK:=zh GX;have vj:=zh (jp.out.trans ((Fr2.none (show w3.grownBy _ none from gby)).trans qF));obtain⟨q0,d1,d2,d6,tC,TP⟩:=CF.out _ vj.out;clear GX qF))
  have HL4:Hid ((R0++[jt (nm++[40])]++iI [44,32] gk ok n).length≤800020):=zh (by rw [List.length_append];have:=Ou.out;have:=qd [44,32] gk ok n;have:=HN.out;omega)
  go_wp2_with fail
  refine(ow.out _ _ w4 VK.out (by have:=HL4.out;omega)).mono ?_
  rintro e w5 ⟨rfl,Pz,Hp⟩
  have zl:=zh (vj.out.trans Hp)
  have HW5:Hid (bj S2 B b w5 (rows++EP nm md gk ok n)):=zh (by
   unfold EP
   rw [←List.append_assoc,←List.append_assoc,←List.append_assoc,Hx.out]
   exact Pz)
  clear Pz Hp
  go_wp2_with fail
  go_end0
  exact Vw.out _ _ HW5.out zl.out
def lk:List (List UInt8):=[[43],[45],[42],[47],[37],[61],[60,62],[60],[60,61],[62],[62,61],[38,38],[124,124],[61,62]]
def fW (w:World):Prop:=∀(j:Nat) (l:List UInt8),lk[j]? = some l→w.cell? ⟨5,j,none⟩=some (.string ⟨l.toArray⟩)
theorem GI {j:Nat} {l:List UInt8} (h:lk[j]? = some l):eJ ((7+j:Nat):Int)=l:=by
 unfold eJ
 rw [show(((7+j:Nat):Int) - 7).toNat=j by omega]
 show lk.getD j []=l
 rw [List.getD_eq_getElem?_getD,h];rfl
theorem JL {j:Nat} {l:List UInt8} (h:lk[j]? = some l):l.length≤2:=by
 have h1:=List.mem_of_getElem? h
 revert h1
 have:∀x∈lk,x.length≤2:=by decide
 exact fun h1=>this l h1
theorem RB (l:List UInt8):((⟨#[32]⟩:ByteArray)++(⟨l.toArray⟩:ByteArray)++(⟨#[32]⟩:ByteArray))=⟨([32]++l++[32]).toArray⟩:=by
 apply ByteArray.ext
 rw [ByteArray.data_append,ByteArray.data_append]
 apply Array.toList_inj.1
 simp
theorem Ib (S:Nat→Prop) (B b:Nat) (rows:List (List Value)) (fg fo gk ok ck j:Nat) (sg:List UInt8) (w:World) (h:bj S B b w rows) (hl:rows.length≤800000) (hj:lk[j]? = some sg) (hSf:S fg) (hSg:S 5) (cg:fW w)
  (c0:w.cell? ⟨fg,fo,none⟩=some (.int .i64 ((7+j:Nat):Int))) (c6:w.cell? ⟨fg,fo+6,none⟩=some (.slice (some ⟨gk,ok,none⟩) 2 ck)):
  Calls Tryz.prog 135 #[.pointer (some ⟨b,0,none⟩),.pointer (some ⟨fg,fo,none⟩)] w (dy S B b (rows++[jx gk ok (iu (aV ((7+j:Nat):Int)):Nat),jt ([32]++sg++[32]),jx gk (ok+8) (iT (aV ((7+j:Nat):Int)):Nat)]) w):=by
 have UU:j<14:=(List.getElem?_eq_some_iff.1 hj).1
 have xw:=JL hj
 have vB:=zh (fun W=>EY ((7+j:Nat):Int) (by omega) (by omega) W)
 obtain⟨lv,lH⟩:∃lv,aV ((7+j:Nat):Int)=lv:=⟨_,rfl⟩
 have Z1:lv≤9:=by rw [←lH];unfold aV;repeat (first | omega | split)
 rw [lH] at vB ⊢
 have HSD:=zh (fun W=>RO lv Z1 W)
 obtain⟨sa,sd⟩:∃x,iu lv=x:=⟨_,rfl⟩
 obtain⟨sb,YM⟩:∃x,iT lv=x:=⟨_,rfl⟩
 rw [sd,YM] at HSD ⊢
 have Bs:=zh (fun rows a (l:Int) W h h2=>oJ S B b rows a l W h h2)
 have ow:=zh (fun rows s W h h2=>kW S B b rows s W h h2)
 have HHS:Hid (∀k,S k→k<w.heap.size):=zh (by obtain⟨v,-,-,-,-,-,-,hh⟩:=h;exact hh)
 have kf:fg<w.heap.size:=HHS.out _ hSf
 have rP:5<w.heap.size:=HHS.out _ hSg
 have cs:w.cell? ⟨5,j,none⟩=some (.string ⟨sg.toArray⟩):=cg j sg hj
 have CF:Hid (∀W',Fr2 (fun k=>¬S k) w W'→W'.cell? ⟨fg,fo,none⟩=some (.int .i64 ((7+j:Nat):Int))∧W'.cell? ⟨fg,fo+6,none⟩=some (.slice (some ⟨gk,ok,none⟩) 2 ck)∧W'.cell? ⟨5,j,none⟩=some (.string ⟨sg.toArray⟩)∧fg<W'.heap.size∧5<W'.heap.size):=zh (fun W' hf=>
  ⟨by rw [World.cell?_of_block (w:=w) (hf.block fg kf (fun e=>e hSf))];exact c0,by rw [World.cell?_of_block (w:=w) (hf.block fg kf (fun e=>e hSf))];exact c6,by rw [World.cell?_of_block (w:=w) (hf.block 5 rP (fun e=>e hSg))];exact cs,zn kf hf.size,zn rP hf.size⟩)
 have HW:=zh h;have HL:=zh hl
 have hw7:IntKind.i64.wrap (((7+j:Nat):Int) - 7)=(j:Int):=by rw [IntWalk.i64_in _ (by omega)];omega
 obtain⟨op,sJ⟩:∃op:Int,((7+j:Nat):Int)=op:=⟨_,rfl⟩
 rw [sJ] at hw7 c0 CF vB
 have z1:(0:Int)≤(j:Int):=by omega
 have z2:(j:Int)<14:=by omega
 have z3:decide (j<14)=true:=zd UU
 have z4:¬ 9223372036854775807<1+sg.length:=by omega
 have z5:¬ 9223372036854775807<1+sg.length+1:=by omega
 have z6:¬ 9223372036854775807<sg.length+1:=by omega
 have z7:¬ 9223372036854775807<sg.length+1+1:=by omega
 clear h hl cg hSf hSg kf rP lH Z1 sd YM hj xw sJ
 go_enter Tryz.func135,Tryz.ntmps135
 go_wp2_with fail
 refine(vB.out w).mono ?_
 rintro e w1 ⟨rfl,bI⟩
 have cZ:=zh bI
 clear bI
 go_wp2_with fail
 refine(HSD.out w1).mono ?_
 rintro e w2 ⟨rfl,bT⟩
 have cz:=zh (aa cZ.out bT)
 have kL:=zh (HW.out.kept cz.out)
 have es:Hid (Fr2 (fun k=>¬S k) w w2):=zh (Fr2.none cz.out)
 clear bT
 obtain⟨c0,c6,cs,hfw,rP⟩:=CF.out _ es.out
 go_wp2_with fail
 refine(Bs.out _ _ _ w2 kL.out (by have:=HL.out;omega)).mono ?_
 rintro e w3 ⟨rfl,mO,fI⟩
 have tA:=zh mO;have jp:=zh (es.out.trans fI)
 clear mO fI
 obtain⟨c0,c6,cs,hfw,rP⟩:=CF.out _ jp.out
 go_wp2_with fail
 refine(ow.out _ _ w3 tA.out (by have h:=HL.out;simp only [List.length_append,List.length_cons,List.length_nil];omega)).mono ?_
 rintro e w4 ⟨rfl,GX,qF⟩
 rw [RB] at GX
 have VK:=zh GX;have vj:=zh (jp.out.trans qF)
 clear GX qF
 obtain⟨c0,c6,cs,hfw,rP⟩:=CF.out _ vj.out
 go_wp2_with fail
 refine(Bs.out _ _ _ w4 VK.out (by have h:=HL.out;simp only [List.length_append,List.length_cons,List.length_nil];omega)).mono ?_
 rintro e w5 ⟨rfl,Pz,Hp⟩
 have zl:=zh (vj.out.trans Hp)
 have HW5:Hid (bj S B b w5 (rows++[jx gk ok (sa:Nat),jt ([32]++sg++[32]),jx gk (ok+8) (sb:Nat)])):=zh (by
  simp only [List.append_assoc,List.cons_append,List.nil_append] at Pz ⊢
  exact Pz)
 clear Pz Hp
 go_wp2_with fail
 go_end0
 exact⟨rfl,HW5.out,zl.out⟩
open Go.ChangeShapes Go.WideShapes Go.ChangeAt Go.RowKit Go.ChangeMaps
def rq:List (String×DataW Unit):=[("math/bits.deBruijn32tab",Rows.laid_math_bits_deBruijn32tab),("math/bits.deBruijn64tab",Rows.laid_math_bits_deBruijn64tab),("internal/strconv.uint64pow10",Rows.laid_internal_strconv_uint64pow10),("unicode/utf8.acceptRanges",Rows.laid_unicode_utf8_acceptRanges),("touchstone/lex.keys",Rows.laid_touchstone_lex_keys),("touchstone/lex.signs",Rows.laid_touchstone_lex_signs),("touchstone/ast.signs",Rows.laid_touchstone_ast_signs),("touchstone/show.signs",Rows.laid_touchstone_show_signs),("unicode/utf8.first",Rows.laid_unicode_utf8_first)]
theorem ij {H:Type} {enc:TypeId×Value→H} {P:Program} {w:World} {base:Nat} {sp:Nat→Bool} {held:Bool} {fuel:Nat} {t e:TypeId} {n:Nat} {cs:List Value} {zs:List (List UInt8)} {p:List MemPlace}
  (ht:P.underlying t=some (.array n e)) (he:P.underlying e=some .string) (hce:P.cellsOf e=1) (Gf:P.cellsOf t=n)
  (h:DataW.trod enc P w base sp held fuel t cs=some (.agg (zs.map fun z=>.lit (.string z)),p)):cs=zs.map aw:=by
 obtain⟨xs,m,rfl,hx,hl,zS,k9⟩:=DataW.trod_array ht h
 simp only [Prod.mk.injEq,DataW.agg.injEq] at hx
 have hzl:zs.length=n:=by
  have:=congrArg List.length hx.1
  simp at this;omega
 apply List.ext_getElem?
 intro i
 by_cases hi:i<n
 ·have h1:=k9 i hi
  rw [hce,Nat.mul_one] at h1
  have hxi:xs[i]? = some xs[i]:=List.getElem?_eq_getElem (by omega)
  rw [hxi] at h1
  obtain⟨s,hc,hs,_⟩:=DataW.trod_string he h1
  have h2:cs[i]? = some (.string s):=by
   have:=congrArg (·[0]?) hc
   simpa [List.getElem?_take,List.getElem?_drop] using this
  have h3:(xs.map (·.1))[i]? = some (DataW.lit (.string s.data.toList):DataW H):=by simp [hxi,hs]
  rw [←hx.1] at h3
  simp only [List.getElem?_map,Option.map_eq_some_iff,DataW.lit.injEq,Lit.string.injEq] at h3
  obtain⟨z,hz,hzs⟩:=h3
  rw [h2,List.getElem?_map,hz,hzs]
  rfl
 ·rw [List.getElem?_eq_none (by omega),List.getElem?_eq_none (by simp;omega)]
theorem aaS:(Tryz.prog.globals[0]?).map (·.type)=some 198:=by kernel_rfl
theorem V3:(Tryz.prog.globals[1]?).map (·.type)=some 199:=by kernel_rfl
theorem abP:Tryz.prog.globalNamed "touchstone/ast.signs" = some 2:=by kernel_rfl
theorem Wl:Tryz.prog.globalNamed "touchstone/show.signs" = some 5:=by kernel_rfl
theorem XI:(Tryz.prog.globals[5]?).map (·.type)=some 207:=by kernel_rfl
theorem abD:(Tryz.prog.globals[2]?).map (·.type)=some 207:=by kernel_rfl
theorem SS:Tryz.prog.cellsOf 207=14:=by kernel_rfl
theorem SI:Tryz.prog.cellsOf 9=1:=by kernel_rfl
theorem ZY:Tryz.prog.cellsOf 198=15:=by kernel_rfl
theorem UV:Tryz.prog.cellsOf 199=22:=by kernel_rfl
theorem Ro {W:World} (h:laidMetH Tryz.prog rq W):cM W∧fy W∧fW W:=by
 rw [MakeChecks.laidMetH_plain _ _ _ (by kernel_rfl)] at h
 obtain⟨ps,⟨g0,t0,cs0,f0,p0,q0,MF,ht0,hv0,YD,⟨g1,t1,cs1,f1,p1,q1,bI,Ct,hv1,pN,⟨g2,t2,cs2,f2,p2,q2,bT,DE,Jz,YZ,⟨g3,t3,cs3,f3,p3,q3,fM,ht3,hv3,hd3,⟨g4,t4,cs4,f4,p4,q4,nY,ht4,hv4,hd4,⟨g5,t5,cs5,f5,p5,q5,jI,ht5,hv5,hd5,⟨g6,t6,cs6,f6,p6,q6,dk,ht6,hv6,hd6,⟨g7,t7,cs7,f7,p7,q7,iG,ht7,Ac,xe,_,_⟩,_⟩,_⟩,_⟩,_⟩,_⟩,_⟩,_⟩,_,_⟩:=h
 obtain rfl:=Option.some.inj (abO.symm.trans nY)
 obtain rfl:=Option.some.inj (V9.symm.trans jI)
 obtain rfl:=Option.some.inj (abP.symm.trans dk)
 obtain rfl:=Option.some.inj (Wl.symm.trans iG)
 obtain rfl:=Option.some.inj (aaS.symm.trans ht4)
 obtain rfl:=Option.some.inj (V3.symm.trans ht5)
 obtain rfl:=Option.some.inj (abD.symm.trans ht6)
 obtain rfl:=Option.some.inj (XI.symm.trans ht7)
 have k1:=ij (zs:=eV) Tryz.underlying198 Tryz.underlying9 SI ZY hd4
 have k2:=ij (zs:=eZ) Tryz.underlying199 Tryz.underlying9 SI UV hd5
 have k3:=ij (zs:=cU) Tryz.underlying207 Tryz.underlying9 SI SS hd6
 have k4:=ij (zs:=lk) Tryz.underlying207 Tryz.underlying9 SI SS xe
 refine⟨⟨fun j v hj=>?_,fun j v hj=>?_⟩,fun j v hj=>?_,fun j l hj=>?_⟩
 ·rw [World.var?_cell nY hv4 j,←Array.getElem?_toList,k1];exact hj
 ·rw [World.var?_cell jI hv5 j,←Array.getElem?_toList,k2];exact hj
 ·rw [World.var?_cell dk hv6 j,←Array.getElem?_toList,k3];exact hj
 ·rw [World.var?_cell iG Ac j,←Array.getElem?_toList,k4,List.getElem?_map,hj];rfl
theorem laidOut:laidOutB Tryz.prog=true:=by kernel_rfl
theorem own:ownKnob Tryz.prog.godebug=none:=by kernel_rfl
theorem zt (os:Os) (args:Array Value):((World.laidAll Tryz.prog os rq).forCall (fun _ _=>0) ⟨#[],args,[]⟩).Shaped Tryz.prog:=World.shaped_of_ZipB (by kernel_rfl) (by kernel_rfl)
theorem G9 (os:Os) (args:Array Value):laidMetH Tryz.prog rq ((World.laidAll Tryz.prog os rq).forCall (fun _ _=>0) ⟨#[],args,[]⟩).memory:=by
 rw [MakeChecks.laidMetH_plain _ _ _ (by kernel_rfl)]
 exact laidMet_laidAll _ (by kernel_rfl) (by kernel_rfl)
end Go.Proofs.YtjbgnopnehgbaaaGreatDoor
