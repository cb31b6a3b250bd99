/- Lemmas. -/
import Derived.Test.YtjbgnopnehgbaaaGreatDoorP28
import Derived.Test.YtjbgnopnehgbaaaGreatDoorP35
set_option linter.unusedVariables false
set_option linter.unusedSimpArgs false
set_option maxHeartbeats 16000000
set_option maxRecDepth 100000
namespace Go.Proofs.YtjbgnopnehgbaaaGreatDoor
open Go.RowKit
theorem sS (n k:Nat):((n:Int) == (k:Int))=decide (n=k):=by
 by_cases h:n=k
 ·subst h;simp
 ·rw [decide_eq_false h];exact beq_eq_false_iff_ne.2 (by omega)
theorem EQ (n k:Nat):decide ((n:Int)≤(k:Int))=decide (n≤k):=by
 by_cases h:n≤k
 ·rw [zd h];exact zd (by omega)
 ·rw [decide_eq_false h];exact decide_eq_false (by omega)
def inB (op:Int) (n:Nat):Bool:=decide (1≤op) && decide (op≤24) && countB op n
theorem zp (op:Int) (n:Nat) (w:World):Calls Tryz.prog 100 #[.int .i64 op,.int .i64 n] w (dY (inB op n) w):=by
 by_cases hA:1≤op∧op≤4
 ·have hb:inB op n=((n:Int) == 0):=by
   rw [show(0:Int)=((0:Nat):Int) from rfl,sS];unfold inB countB
   rw [zd hA.1,zd (by omega:op≤24),if_pos hA.2];rfl
  rw [hb]
  have sJ:op=1∨op=2∨op=3∨op=4:=by omega
  clear hb hA
  rcases sJ with rfl | rfl | rfl | rfl
  all_goals
   go_enter Tryz.func100,Tryz.ntmps100
   go_wp2
   go_ret
   exact⟨rfl,ad _ _⟩
 by_cases hB:op=5∨op=6
 ·have hb:inB op n=((n:Int) == 1):=by
   rw [show(1:Int)=((1:Nat):Int) from rfl,sS];unfold inB countB
   rw [zd (by omega:1≤op),zd (by omega:op≤24),if_neg (by omega),if_pos (by omega)];rfl
  rw [hb]
  clear hb hA
  rcases hB with rfl | rfl
  all_goals
   go_enter Tryz.func100,Tryz.ntmps100
   go_wp2
   go_ret
   exact⟨rfl,ad _ _⟩
 by_cases hC:op=21
 ·subst hC
  have hb:inB 21 n=((n:Int) == 3):=by
   rw [show(3:Int)=((3:Nat):Int) from rfl,sS];rfl
  rw [hb]
  clear hb hA hB
  go_enter Tryz.func100,Tryz.ntmps100
  go_wp2
  go_ret
  exact⟨rfl,ad _ _⟩
 by_cases hD:op=24
 ·subst hD
  have hb:inB 24 n=decide ((n:Int)≤8):=by
   rw [show(8:Int)=((8:Nat):Int) from rfl,EQ];rfl
  rw [hb]
  clear hb hA hB hC
  go_enter Tryz.func100,Tryz.ntmps100
  go_wp2
  go_ret
  exact⟨rfl,ad _ _⟩
 have e1:(op == 1)=false:=beq_eq_false_iff_ne.2 (by omega)
 have e2:(op == 2)=false:=beq_eq_false_iff_ne.2 (by omega)
 have e3:(op == 3)=false:=beq_eq_false_iff_ne.2 (by omega)
 have e4:(op == 4)=false:=beq_eq_false_iff_ne.2 (by omega)
 have e5:(op == 5)=false:=beq_eq_false_iff_ne.2 (by omega)
 have e6:(op == 6)=false:=beq_eq_false_iff_ne.2 (by omega)
 have Do:(op == 21)=false:=beq_eq_false_iff_ne.2 hC
 have Dp:(op == 24)=false:=beq_eq_false_iff_ne.2 hD
 by_cases hE:6<op∧op<24
 ·have hb:inB op n=((n:Int) == 2):=by
   rw [show(2:Int)=((2:Nat):Int) from rfl,sS];unfold inB countB
   rw [zd (by omega:1≤op),zd (by omega:op≤24),if_neg (by omega),if_neg (by omega),if_pos (by omega)];rfl
  rw [hb]
  have d1:decide (6<op)=true:=zd hE.1
  have d2:decide (op<24)=true:=zd hE.2
  clear hb hA hB hC hD hE
  go_enter Tryz.func100,Tryz.ntmps100
  go_wp2
  go_ret
  exact⟨rfl,ad _ _⟩
 ·have hb:inB op n=false:=by
   unfold inB
   by_cases h1:1≤op
   ·rw [decide_eq_false (by omega:¬op≤24)];simp
   ·rw [decide_eq_false h1];rfl
  rw [hb]
  by_cases h6:6<op
  ·have d1:decide (6<op)=true:=zd h6
   have d2:decide (op<24)=false:=decide_eq_false (by omega)
   clear hb hA hB hC hD hE h6
   go_enter Tryz.func100,Tryz.ntmps100
   go_wp2
   go_ret
   exact⟨rfl,ad _ _⟩
  ·have d1:decide (6<op)=false:=decide_eq_false h6
   clear hb hA hB hC hD hE h6
   go_enter Tryz.func100,Tryz.ntmps100
   go_wp2
   go_ret
   exact⟨rfl,ad _ _⟩
def sO (n:Int) (w:World) (e:Ending) (w':World):Prop:=e=.returned (.int .i64 n)∧w.grownBy w' none
theorem Xk {op:Int} (h1:1≤op) (h2:op≤24):op=1∨op=2∨op=3∨op=4∨op=5∨op=6∨op=7∨op=8∨op=9∨op=10∨op=11∨op=12∨op=13∨op=14∨op=15∨op=16∨op=17∨op=18∨op=19∨op=20∨op=21∨op=22∨op=23∨op=24:=by omega
theorem EY (op:Int) (h1:1≤op) (h2:op≤24) (w:World):Calls Tryz.prog 103 #[.int .i64 op] w (sO (aV op) w):=by
 have h:=Xk h1 h2
 clear h1 h2
 rcases h with rfl | rfl | rfl | rfl | rfl | rfl | rfl | rfl | rfl | rfl | rfl | rfl | rfl | rfl | rfl | rfl | rfl | rfl | rfl | rfl | rfl | rfl | rfl | rfl
 all_goals
  go_enter Tryz.func103,Tryz.ntmps103
  go_wp2
  go_ret
  exact⟨rfl,ad _ _⟩
theorem RO (l:Nat) (hl:l≤9) (w:World):Calls Tryz.prog 152 #[.int .i64 (l:Int)] w (fun e w'=>e=.returned (.tuple #[.int .i64 (iu l:Nat),.int .i64 (iT l:Nat)])∧w.grownBy w' none):=by
 have h:l=0∨l=1∨l=2∨l=3∨l=4∨l=5∨l=6∨l=7∨l=8∨l=9:=by omega
 clear hl
 rcases h with rfl | rfl | rfl | rfl | rfl | rfl | rfl | rfl | rfl | rfl
 all_goals
  go_enter Tryz.func152,Tryz.ntmps152
  go_wp2
  go_ret2
  exact⟨rfl,ad _ _⟩
theorem ph (l:List UInt8):l.isEmpty=decide (l = []):=by cases l<;>simp
theorem BJ (op:Int) (sJ:op=3∨op=22) (a:Addr) (nm md:List UInt8) (w:World) (cg:cM w) (h0:w.cell? a=some (.int .i64 op)) (g off:Nat) (ha:a=⟨g,off,none⟩) (c1:w.cell? ⟨g,off+1,none⟩=some (.string ⟨nm.toArray⟩)) (c2:w.cell? ⟨g,off+2,none⟩=some (.string ⟨md.toArray⟩)) (h1:nm.length≤60000):
  Calls Tryz.prog 101 #[.pointer (some a)] w (dY (di nm && decide (md = [])) w):=by
 subst ha
 have HN:=zh (fun W h=>yM ⟨nm.toArray⟩ W (by show nm.length≤60000;exact h1) h)
 have gf:=zh cg
 have e1:=ph md
 obtain⟨b1,fw⟩:∃b,di nm=b:=⟨_,rfl⟩
 obtain⟨b2,dC⟩:∃b,decide (md = [])=b:=⟨_,rfl⟩
 have iV:=zh fw
 rw [dC] at e1
 rw [fw,dC]
 clear cg h1 fw dC
 have TK:=zh c2
 rcases sJ with rfl | rfl
 all_goals
  go_enter Tryz.func101,Tryz.ntmps101
  go_wp2_with (go_at_call 130;refine(HN.out _ gf.out).mono ?_;rintro e w1 ⟨rfl,hg⟩;have HG:=zh hg;have c2:=hg.cell TK.out (by simp);rw [iV.out];clear hg;cases b1)
  all_goals
   go_wp2_with fail
   go_ret
   exact⟨by simp,HG.out⟩
theorem Dv (a:Addr) (nm md:List UInt8) (w:World) (cg:cM w) (h0:w.cell? a=some (.int .i64 24)) (g off:Nat) (ha:a=⟨g,off,none⟩) (c1:w.cell? ⟨g,off+1,none⟩=some (.string ⟨nm.toArray⟩)) (c2:w.cell? ⟨g,off+2,none⟩=some (.string ⟨md.toArray⟩)) (h1:nm.length≤60000) (h2:md.length≤60000):
  Calls Tryz.prog 101 #[.pointer (some a)] w (dY (di nm && (decide (md = []) || di md)) w):=by
 subst ha
 have HN:=zh (fun W h=>yM ⟨nm.toArray⟩ W (by show nm.length≤60000;exact h1) h)
 have HM:=zh (fun W h=>yM ⟨md.toArray⟩ W (by show md.length≤60000;exact h2) h)
 have gf:=zh cg
 have e1:=ph md
 obtain⟨b1,fw⟩:∃b,di nm=b:=⟨_,rfl⟩
 obtain⟨b2,dC⟩:∃b,decide (md = [])=b:=⟨_,rfl⟩
 obtain⟨b3,ig⟩:∃b,di md=b:=⟨_,rfl⟩
 have iV:=zh fw
 have wP:=zh ig
 rw [dC] at e1
 rw [fw,dC,ig]
 clear cg h1 h2 fw dC ig
 have TK:=zh c2
 cases b2
 ·go_enter Tryz.func101,Tryz.ntmps101
  go_wp2_with fail
  refine(HN.out _ gf.out).mono ?_
  rintro e w1 ⟨rfl,hg⟩
  have HG:=zh hg
  have c2:=hg.cell TK.out (by simp)
  rw [iV.out]
  clear hg
  cases b1
  ·go_wp2_with fail
   go_ret
   exact⟨by simp,HG.out⟩
  ·go_wp2_with fail
   refine(HM.out _ (gf.out.kept HG.out)).mono ?_
   rintro e w2 ⟨rfl,bT⟩
   have cz:=zh bT
   rw [wP.out]
   clear bT
   go_wp2_with fail
   go_ret
   exact⟨by simp,aa HG.out cz.out⟩
 ·go_enter Tryz.func101,Tryz.ntmps101
  go_wp2_with fail
  refine(HN.out _ gf.out).mono ?_
  rintro e w1 ⟨rfl,hg⟩
  have HG:=zh hg
  have c2:=hg.cell TK.out (by simp)
  rw [iV.out]
  clear hg
  cases b1
  all_goals
   go_wp2_with fail
   go_ret
   exact⟨by simp,HG.out⟩
theorem Eg (op:Int) (sJ:op≠3∧op≠22∧op≠24) (a:Addr) (nm md:List UInt8) (w:World) (h0:w.cell? a=some (.int .i64 op)) (g off:Nat) (ha:a=⟨g,off,none⟩) (c1:w.cell? ⟨g,off+1,none⟩=some (.string ⟨nm.toArray⟩)) (c2:w.cell? ⟨g,off+2,none⟩=some (.string ⟨md.toArray⟩)):
  Calls Tryz.prog 101 #[.pointer (some a)] w (dY (decide (nm = []) && decide (md = [])) w):=by
 subst ha
 have e1:=ph md
 have e2:=ph nm
 obtain⟨b1,fw⟩:∃b,decide (nm = [])=b:=⟨_,rfl⟩
 obtain⟨b2,dC⟩:∃b,decide (md = [])=b:=⟨_,rfl⟩
 rw [dC] at e1
 rw [fw] at e2
 rw [fw,dC]
 have d3:(op == 3)=false:=beq_eq_false_iff_ne.2 sJ.1
 have d22:(op == 22)=false:=beq_eq_false_iff_ne.2 sJ.2.1
 have d24:(op == 24)=false:=beq_eq_false_iff_ne.2 sJ.2.2
 clear fw dC sJ
 cases b1
 all_goals
  go_enter Tryz.func101,Tryz.ntmps101
  go_wp2_with fail
  go_ret
  exact⟨by simp,ad _ _⟩
theorem yY (F:Nat→Prop) (a:Addr) (op:Int) (nm md:List UInt8) (nu:Int) (ys:Bool) (ks:List Sx) (ps:Int) (q:List Value) (w:World) (cg:cM w) (hc:CAt w a q) (hx:SAt F w (.mk op nm md nu ys ks ps) q) (h1:nm.length≤60000) (h2:md.length≤60000):
  Calls Tryz.prog 101 #[.pointer (some a)] w (dY (pZ op nm md) w):=by
 simp only [SAt] at hx
 obtain⟨s,pw,nw,cw,pk,ck,rows,rfl,-⟩:=hx
 obtain⟨g,off,rfl,hg,hc⟩:=hc
 have c0:=hc 0 _ rfl
 have c1:=hc 1 _ rfl
 have c2:=hc 2 _ rfl
 rw [Nat.add_zero] at c0
 unfold aw at *
 unfold pZ
 by_cases hA:op=3∨op=22
 ·rw [if_pos hA];exact BJ op hA _ nm md w cg c0 g off rfl c1 c2 h1
 ·rw [if_neg hA]
  by_cases hB:op=24
  ·rw [if_pos hB];subst hB;exact Dv _ nm md w cg c0 g off rfl c1 c2 h1 h2
  ·rw [if_neg hB];exact Eg op ⟨fun e=>hA (.inl e),fun e=>hA (.inr e),hB⟩ _ nm md w c0 g off rfl c1 c2
def LZ (T:List Tok) (nt:NxT) (s:St):RT:=([.nd 12 ((ac T s).1++(nt.expr (ac T s).2).1++(aj T [41] (nt.expr (ac T s).2).2).1)],(aj T [41] (nt.expr (ac T s).2).2).2)
section
variable {T:List Tok} {nt:NxT} {s:St}
theorem KU (h:s.e=0∧(an T s).kind=3):bC T nt s=([.nd 15 (ac T s).1],(ac T s).2):=by
 unfold bC;rw [if_neg (by omega),if_pos h.2]
theorem Kn:((isQ T [116,114,117,101] s || isQ T [102,97,108,115,101] s)=true)↔(isQ T [116,114,117,101] s=true∨isQ T [102,97,108,115,101] s=true):=Bool.or_eq_true_iff
theorem FV (h:(isQ T [116,114,117,101] s || isQ T [102,97,108,115,101] s)=false):¬(isQ T [116,114,117,101] s=true∨isQ T [102,97,108,115,101] s=true):=fun e=>by rw [Kn.2 e] at h;cases h
theorem CY (h1:¬(s.e=0∧(an T s).kind=3)) (h2:(isQ T [116,114,117,101] s || isQ T [102,97,108,115,101] s)=true) (he:s.e=0):bC T nt s=([.nd 16 (ac T s).1],(ac T s).2):=by
 unfold bC;rw [if_neg (by omega),if_neg (fun e=>h1 ⟨he,e⟩),if_pos (Kn.1 h2)]
theorem NR (he:s.e=0) (h1:¬(s.e=0∧(an T s).kind=3)) (h2:(isQ T [116,114,117,101] s || isQ T [102,97,108,115,101] s)=false) (h3:s.inn=true∧isQ T [114,101,115] s=true):bC T nt s=([.nd 17 (ac T s).1],(ac T s).2):=by
 unfold bC;rw [if_neg (by omega),if_neg (fun e=>h1 ⟨he,e⟩),if_neg (FV h2),if_pos h3]
theorem Ay (h1:¬(s.e=0∧(an T s).kind=3)) (h2:(isQ T [116,114,117,101] s || isQ T [102,97,108,115,101] s)=false) (h3:¬(s.inn=true∧isQ T [114,101,115] s=true)) (h4:isQ T [40] s=true):bC T nt s=LZ T nt s:=by
 have he:=(af h4).2
 unfold bC;rw [if_neg (by omega),if_neg (fun e=>h1 ⟨he,e⟩),if_neg (FV h2),if_neg h3,if_pos h4];rfl
theorem wW (he:s.e=0) (h1:¬(s.e=0∧(an T s).kind=3)) (h2:(isQ T [116,114,117,101] s || isQ T [102,97,108,115,101] s)=false) (h3:¬(s.inn=true∧isQ T [114,101,115] s=true)) (h4:isQ T [40] s=false) (h5:(an T s).kind=1):bC T nt s=dq T nt s:=by
 unfold bC;rw [if_neg (by omega),if_neg (fun e=>h1 ⟨he,e⟩),if_neg (FV h2),if_neg h3,if_neg (by rw [h4];decide),if_pos h5]
theorem xB (h1:¬(s.e=0∧(an T s).kind=3)) (h2:(isQ T [116,114,117,101] s || isQ T [102,97,108,115,101] s)=false) (h3:¬(s.inn=true∧isQ T [114,101,115] s=true)) (h4:isQ T [40] s=false) (h5:¬(s.e=0∧(an T s).kind=1)):Eqv ([],aB T 22 s) (bC T nt s):=by
 unfold bC
 by_cases he:s.e≠0
 ·rw [if_pos he,fX T he];exact Eqv.refl _
 ·have he0:s.e=0:=by omega
  rw [if_neg he,if_neg (fun e=>h1 ⟨he0,e⟩),if_neg (FV h2),if_neg h3,if_neg (by rw [h4];decide),if_neg (fun e=>h5 ⟨he0,e⟩)];exact Eqv.refl _
end
end Go.Proofs.YtjbgnopnehgbaaaGreatDoor
set_option maxHeartbeats 4000000
namespace Go.Proofs.YtjbgnopnehgbaaaGreatDoor
open Go.RowKit
section
variable (b bb:Nat) (T:List Tok) (D n:Nat)
theorem D1 (hC:cN T) (hD:D≤200) (hn:n≤D) (hA:bX b bb T D n (fun _=>True) 171 (Ci T D n (NT T D n))) (hB:n<D→bX b bb T D (n+1) (fun _=>True) 162 (dL T D (n+1) (NT T D (n+1)))):bX b bb T D n (fun _=>True) 162 (dL T D n (NT T D n)):=by
 intro s N vn A w hP h
 have aC:=zh hC;have sK:=zh hP
 have mG:=zh hA
 have sF:=zh (rS b bb T D n hD hn (fun _=>True) _ hB)
 have Sa:=zh (fun s hk=>B3 T hn (sub:=dL T D (n+1) (NT T D (n+1))) (sub':=(NT T D n).nots) (fun hlt=>by rw [py T hlt]) s hk)
 have HK:=zh (KX.start h)
 have cW:=zh h.few
 have HA:=zh (bU.nil N s)
 clear h hC hP hD hn hA hB
 go_enter Tryz.func162,Tryz.ntmps162
 go_wp2_with fail
 refine(KX.at (ws:=[[110,111,116]]) (HK.out.strs1 _ _) (List.mem_cons_self ..) (by decide)).mono ?_
 rintro e w1 ⟨rfl,hk⟩
 have HK:=zh (hk.nils)
 obtain⟨b1,hb⟩:∃b1,isQ T [110,111,116] s=b1:=⟨_,rfl⟩
 rw [at_one aC.out (by decide),hb]
 have nL:=zh hb
 clear hk hb
 cases b1
 ·skip
  go_wp2_with fail
  refine(HK.out.sub mG.out trivial).mono ?_
  rintro e w9 ⟨v9,N9,cD,rfl,al,am,aG⟩
  have HQ:=zh (KX.fin am al aG (r':=(dL T D n (NT T D n)) s) (by rw [Pm nL.out];exact Eqv.refl _))
  clear al am aG
  go_wp2_with fail
  go_ret
  exact HQ.out
 ·skip
  have aP:=zh (af nL.out)
  go_wp2_with fail
  have HK:=zh HK.out.drew
  go_region_held3 (fun w'=>w'.cell? ⟨b,0,none⟩=some (.pointer (some ⟨bb,0,none⟩))) (first | with_reducible exact HK.out.cell | with_reducible exact(HK.out.alloc _).cell | with_reducible exact((HK.out.alloc _).alloc _).cell | with_reducible exact(((HK.out.alloc _).alloc _).alloc _).cell)
   (first
    | (go_at_call 79;(first | with_reducible refine(HK.out.take aC.out aP.out.1 aP.out.2).mono ?_ | with_reducible refine((HK.out.strs1 _ _).take aC.out aP.out.1 aP.out.2).mono ?_ | with_reducible refine(((HK.out.strs1 _ _).strs1 _ _).take aC.out aP.out.1 aP.out.2).mono ?_);rintro e w9 ⟨v9,N9,cD,rfl,al,am,aG⟩;have HK:=zh al;have HD:=zh (aQ.app HA.out am aG);have HA:=zh HD.out.out;clear al am aG)
    | (go_at_call 82;(first | with_reducible refine(HK.out.call (fun A h=>sF.out _ _ _ A _ trivial h)).mono ?_ | with_reducible refine((HK.out.strs1 _ _).call (fun A h=>sF.out _ _ _ A _ trivial h)).mono ?_ | with_reducible refine(((HK.out.strs1 _ _).strs1 _ _).call (fun A h=>sF.out _ _ _ A _ trivial h)).mono ?_);rintro e w9 ⟨v9,N9,cD,rfl,al,am,aG⟩;have HK:=zh al;have HD:=zh (aQ.app HA.out am aG);have HA:=zh HD.out.out;clear al am aG)
    | (go_at_call 45;have kO:=zh (HD.out.weak (j:=0+1) (by decide));refine(KX.node (k:=0) (kind:=11) (HK.out.ints2 _ _ ) ?_ aC.out.len kO.out ?_ cW.out ?_).mono ?_;exact List.mem_cons_self ..;rfl;simp;rintro e w9 ⟨v9,N9,cD,rfl,al,am⟩;have HK:=zh al;have HZ:=zh am;clear al am))
  all_goals
   have HQ:=zh (KX.fin HZ.out HK.out (fun he=>absurd aP.out.2 he) (r':=(dL T D n (NT T D n)) s) (by rw [show dL T D n (NT T D n) s=fa T D n (NT T D n).nots s from if_pos nL.out];exact Sa.out _ aP.out.2))
   go_wp2_with fail
   go_ret
   exact HQ.out
end
end Go.Proofs.YtjbgnopnehgbaaaGreatDoor
