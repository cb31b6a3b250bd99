/- Lemmas. -/
import Derived.Test.YtjbgnopnehgbaaaGreatDoorP6
set_option linter.unusedVariables false
set_option linter.unusedSimpArgs false
set_option maxHeartbeats 16000000
set_option maxRecDepth 100000
namespace Go.Proofs.YtjbgnopnehgbaaaGreatDoor
open Go.RowKit
def DA (k:Nat):List UInt8:=if k<10 then [UInt8.ofNat (48+k)] else [UInt8.ofNat (48+k / 10),UInt8.ofNat (48+k % 10)]
theorem I0:∀k,k<100→Lib.decDigits k=DA k:=by
 intro k h
 unfold DA Lib.decDigits
 by_cases h1:k<10
 ·rw [dif_pos h1,if_pos h1]
 ·rw [dif_neg h1,if_neg h1]
  unfold Lib.decDigits
  rw [dif_pos (by omega)];rfl
def nmE:Ex→List UInt8
 | .mk _ nm md _ _ _ _=>if md≠[] then 32::(md++46::nm) else if nm≠[] then 32::nm else []
def lx:Ex→List UInt8
 | .mk op _ _ nu ys _ _=>if op=1 then 32::nu else if op=2 then 32::(if ys=true then [116,114,117,101] else [102,97,108,115,101]) else []
def fq:Ex→List UInt8
 | .mk op nm md nu ys ks ps=>91::DA op++nmE (.mk op nm md nu ys ks ps)++lx (.mk op nm md nu ys ks ps)
def uI:Ex→Prop
 | .mk op nm md nu _ _ _=>op<100∧nm.length≤1000000∧md.length≤1000000∧nu.length≤1000000
theorem Sg (F:Nat→Prop) (x:Ex) (g o:Nat) (w:World) (hx:kz F w g o x) (hs:uI x):
  Calls Tryz.prog 24 #[.pointer (some ⟨g,o,none⟩)] w (uW (fq x) w):=by
 cases x with
 | mk op nm md nu ys ks ps=>
   obtain⟨hF,gc,q,hq,hc,he⟩:=hx
   obtain⟨s1,s2,s3,s4⟩:=hs
   simp only [EAt] at he
   obtain⟨s,pw,nw,cw,pk,ck,rows,rfl,mw,-⟩:=he
   have c0:=hc 0 _ rfl
   have c1:=hc 1 _ rfl
   have c2:=hc 2 _ rfl
   have c3:=hc 3 _ rfl
   have c4:=hc 4 _ rfl
   have c5:=hc 5 _ rfl
   rw [Nat.add_zero] at c0
   obtain⟨y,hy⟩:∃y:ByteArray,(⟨nm.toArray⟩:ByteArray)=y:=⟨_,rfl⟩
   obtain⟨z,hz⟩:∃z:ByteArray,(⟨md.toArray⟩:ByteArray)=z:=⟨_,rfl⟩
   unfold aw at c1 c2
   rw [hy] at c1
   rw [hz] at c2
   have lL:y.data.toList=nm:=by rw [←hy]
   have hzl:z.data.toList=md:=by rw [←hz]
   have jL:=io lL
   have hzs:=io hzl
   have y1:y.size≤1000000:=by omega
   have z1:z.size≤1000000:=by omega
   have Sq:=zh (Tryz.strconv_Itoa_small op s1)
   have OE:=zh (Tryz.strconv_FormatBool ys)
   have tY:=zh mw
   have OC:=zh lL;have OV:=zh hzl
   have HD:Hid ((⟨(Lib.decDigits op).toArray⟩:ByteArray).data.toList=DA op):=zh (by rw [←I0 op s1])
   have Yr:(⟨(Lib.decDigits op).toArray⟩:ByteArray).size≤2:=by
    rw [io HD.out];unfold DA;split<;>simp
   generalize (⟨(Lib.decDigits op).toArray⟩:ByteArray)=dg at *
   clear hc hq hF mw hy hz lL hzl jL hzs
   have hze:z.toList.isEmpty=decide (md = []):=by
    rw [toList_data,OV.out];cases md<;>simp
   have hye:y.toList.isEmpty=decide (nm = []):=by
    rw [toList_data,OC.out];cases nm<;>simp
   go_enter Tryz.func24,Tryz.ntmps24
   go_wp2_with fail
   refine(Sq.out _).mono ?_
   rintro e w1 ⟨rfl,rfl⟩
   by_cases hm:md = []
   ·have f1:decide (md = [])=true:=zd hm
    by_cases wv:nm = []
    ·have f2:decide (nm = [])=true:=zd wv
     have Ks:=zh hm;have Xo:=zh wv
     clear hm wv
     by_cases h1:op=1
     ·have e1:((op:Int) == 1)=true:=by rw [h1];rfl
      have sl:(op == 1)=true:=by rw [h1];rfl
      have hn:=tY.out
      unfold dV at hn
      rw [if_pos h1] at hn
      have gM:=zh (fun W (h:w1.grownBy W none)=>Zd.String_c _ _ W (hn.1.kept h) (Zd.parseV_lim nu))
      have E9:Hid (Zd.txt (Zd.parseV nu)=.string ⟨nu.toArray⟩):=zh (by unfold Zd.txt;rw [Zd.txtL_parse hn.2.1])
      rw [E9.out] at gM
      obtain⟨v,hv⟩:∃v:ByteArray,(⟨nu.toArray⟩:ByteArray)=v:=⟨_,rfl⟩
      have xO:Hid (v.data.toList=nu):=zh (by rw [←hv])
      have v1:v.size≤1000000:=by rw [io xO.out];exact s4
      rw [hv] at gM
      have H1:=zh h1
      clear hn hv E9 h1
      go_wp2_with fail
      (try (go_quiet (fail);go_wp2_with fail))
      refine(gM.out _ (by repeat (first | with_reducible exact ad _ _ | with_reducible refine ap ?_ _))).mono ?_
      rintro e w2 ⟨rfl,bT⟩
      have cz:Hid (w1.grownBy w2 none):=zh (aa (by repeat (first | with_reducible exact ad _ _ | with_reducible refine ap ?_ _)) bT)
      clear bT
      go_wp2_with fail
      go_ret
      exact⟨⟨_,rfl,by simp [gC,fq,nmE,lx,HD.out,OC.out,OV.out,xO.out,H1.out,Ks.out,Xo.out]⟩,by repeat (first | with_reducible exact cz.out | with_reducible refine ap ?_ _)⟩
     ·have e1:((op:Int) == 1)=false:=beq_eq_false_iff_ne.2 (by omega)
      have sl:(op == 1)=false:=beq_eq_false_iff_ne.2 h1
      have H1:=zh h1
      by_cases h2:op=2
      ·have e2:((op:Int) == 2)=true:=by rw [h2];rfl
       have DB:(op == 2)=true:=by rw [h2];rfl
       have xO:Hid ((⟨(Lib.formatBool ys).toArray⟩:ByteArray).data.toList=if ys=true then [116,114,117,101] else [102,97,108,115,101]):=zh (by cases ys<;>rfl)
       obtain⟨v,hv⟩:∃v:ByteArray,(⟨(Lib.formatBool ys).toArray⟩:ByteArray)=v:=⟨_,rfl⟩
       rw [hv] at xO OE
       have v1:v.size≤1000000:=by rw [io xO.out];split<;>simp
       have H2:=zh h2
       clear hv h1 h2
       go_wp2_with fail
       (try (go_quiet (fail);go_wp2_with fail))
       refine(OE.out _).mono ?_
       rintro e w2 ⟨rfl,rfl⟩
       go_wp2_with fail
       go_ret
       exact⟨⟨_,rfl,by simp [gC,fq,nmE,lx,HD.out,OC.out,OV.out,xO.out,H2.out,Ks.out,Xo.out]⟩,by repeat (first | with_reducible exact ad _ _ | with_reducible refine ap ?_ _)⟩
      ·have e2:((op:Int) == 2)=false:=beq_eq_false_iff_ne.2 (by omega)
       have DB:(op == 2)=false:=beq_eq_false_iff_ne.2 h2
       have H2:=zh h2
       clear h1 h2
       go_wp2_with fail
       (try (go_quiet (fail);go_wp2_with fail))
       go_ret
       exact⟨⟨_,rfl,by simp [gC,fq,nmE,lx,HD.out,OC.out,OV.out,H1.out,H2.out,Ks.out,Xo.out]⟩,by repeat (first | with_reducible exact ad _ _ | with_reducible refine ap ?_ _)⟩
    ·have f2:decide (nm = [])=false:=decide_eq_false wv
     have Ks:=zh hm;have Xo:=zh wv
     clear hm wv
     by_cases h1:op=1
     ·have e1:((op:Int) == 1)=true:=by rw [h1];rfl
      have sl:(op == 1)=true:=by rw [h1];rfl
      have hn:=tY.out
      unfold dV at hn
      rw [if_pos h1] at hn
      have gM:=zh (fun W (h:w1.grownBy W none)=>Zd.String_c _ _ W (hn.1.kept h) (Zd.parseV_lim nu))
      have E9:Hid (Zd.txt (Zd.parseV nu)=.string ⟨nu.toArray⟩):=zh (by unfold Zd.txt;rw [Zd.txtL_parse hn.2.1])
      rw [E9.out] at gM
      obtain⟨v,hv⟩:∃v:ByteArray,(⟨nu.toArray⟩:ByteArray)=v:=⟨_,rfl⟩
      have xO:Hid (v.data.toList=nu):=zh (by rw [←hv])
      have v1:v.size≤1000000:=by rw [io xO.out];exact s4
      rw [hv] at gM
      have H1:=zh h1
      clear hn hv E9 h1
      go_wp2_with fail
      (try (go_quiet (fail);go_wp2_with fail))
      refine(gM.out _ (by repeat (first | with_reducible exact ad _ _ | with_reducible refine ap ?_ _))).mono ?_
      rintro e w2 ⟨rfl,bT⟩
      have cz:Hid (w1.grownBy w2 none):=zh (aa (by repeat (first | with_reducible exact ad _ _ | with_reducible refine ap ?_ _)) bT)
      clear bT
      go_wp2_with fail
      go_ret
      exact⟨⟨_,rfl,by simp [gC,fq,nmE,lx,HD.out,OC.out,OV.out,xO.out,H1.out,Ks.out,Xo.out]⟩,by repeat (first | with_reducible exact cz.out | with_reducible refine ap ?_ _)⟩
     ·have e1:((op:Int) == 1)=false:=beq_eq_false_iff_ne.2 (by omega)
      have sl:(op == 1)=false:=beq_eq_false_iff_ne.2 h1
      have H1:=zh h1
      by_cases h2:op=2
      ·have e2:((op:Int) == 2)=true:=by rw [h2];rfl
       have DB:(op == 2)=true:=by rw [h2];rfl
       have xO:Hid ((⟨(Lib.formatBool ys).toArray⟩:ByteArray).data.toList=if ys=true then [116,114,117,101] else [102,97,108,115,101]):=zh (by cases ys<;>rfl)
       obtain⟨v,hv⟩:∃v:ByteArray,(⟨(Lib.formatBool ys).toArray⟩:ByteArray)=v:=⟨_,rfl⟩
       rw [hv] at xO OE
       have v1:v.size≤1000000:=by rw [io xO.out];split<;>simp
       have H2:=zh h2
       clear hv h1 h2
       go_wp2_with fail
       (try (go_quiet (fail);go_wp2_with fail))
       refine(OE.out _).mono ?_
       rintro e w2 ⟨rfl,rfl⟩
       go_wp2_with fail
       go_ret
       exact⟨⟨_,rfl,by simp [gC,fq,nmE,lx,HD.out,OC.out,OV.out,xO.out,H2.out,Ks.out,Xo.out]⟩,by repeat (first | with_reducible exact ad _ _ | with_reducible refine ap ?_ _)⟩
      ·have e2:((op:Int) == 2)=false:=beq_eq_false_iff_ne.2 (by omega)
       have DB:(op == 2)=false:=beq_eq_false_iff_ne.2 h2
       have H2:=zh h2
       clear h1 h2
       go_wp2_with fail
       (try (go_quiet (fail);go_wp2_with fail))
       go_ret
       exact⟨⟨_,rfl,by simp [gC,fq,nmE,lx,HD.out,OC.out,OV.out,H1.out,H2.out,Ks.out,Xo.out]⟩,by repeat (first | with_reducible exact ad _ _ | with_reducible refine ap ?_ _)⟩
   ·have f1:decide (md = [])=false:=decide_eq_false hm
    have Ks:=zh hm
    clear hm
    by_cases h1:op=1
    ·have e1:((op:Int) == 1)=true:=by rw [h1];rfl
     have sl:(op == 1)=true:=by rw [h1];rfl
     have hn:=tY.out
     unfold dV at hn
     rw [if_pos h1] at hn
     have gM:=zh (fun W (h:w1.grownBy W none)=>Zd.String_c _ _ W (hn.1.kept h) (Zd.parseV_lim nu))
     have E9:Hid (Zd.txt (Zd.parseV nu)=.string ⟨nu.toArray⟩):=zh (by unfold Zd.txt;rw [Zd.txtL_parse hn.2.1])
     rw [E9.out] at gM
     obtain⟨v,hv⟩:∃v:ByteArray,(⟨nu.toArray⟩:ByteArray)=v:=⟨_,rfl⟩
     have xO:Hid (v.data.toList=nu):=zh (by rw [←hv])
     have v1:v.size≤1000000:=by rw [io xO.out];exact s4
     rw [hv] at gM
     have H1:=zh h1
     clear hn hv E9 h1
     go_wp2_with fail
     (try (go_quiet (fail);go_wp2_with fail))
     refine(gM.out _ (by repeat (first | with_reducible exact ad _ _ | with_reducible refine ap ?_ _))).mono ?_
     rintro e w2 ⟨rfl,bT⟩
     have cz:Hid (w1.grownBy w2 none):=zh (aa (by repeat (first | with_reducible exact ad _ _ | with_reducible refine ap ?_ _)) bT)
     clear bT
     go_wp2_with fail
     go_ret
     exact⟨⟨_,rfl,by simp [gC,fq,nmE,lx,HD.out,OC.out,OV.out,xO.out,H1.out,Ks.out]⟩,by repeat (first | with_reducible exact cz.out | with_reducible refine ap ?_ _)⟩
    ·have e1:((op:Int) == 1)=false:=beq_eq_false_iff_ne.2 (by omega)
     have sl:(op == 1)=false:=beq_eq_false_iff_ne.2 h1
     have H1:=zh h1
     by_cases h2:op=2
     ·have e2:((op:Int) == 2)=true:=by rw [h2];rfl
      have DB:(op == 2)=true:=by rw [h2];rfl
      have xO:Hid ((⟨(Lib.formatBool ys).toArray⟩:ByteArray).data.toList=if ys=true then [116,114,117,101] else [102,97,108,115,101]):=zh (by cases ys<;>rfl)
      obtain⟨v,hv⟩:∃v:ByteArray,(⟨(Lib.formatBool ys).toArray⟩:ByteArray)=v:=⟨_,rfl⟩
      rw [hv] at xO OE
      have v1:v.size≤1000000:=by rw [io xO.out];split<;>simp
      have H2:=zh h2
      clear hv h1 h2
      go_wp2_with fail
      (try (go_quiet (fail);go_wp2_with fail))
      refine(OE.out _).mono ?_
      rintro e w2 ⟨rfl,rfl⟩
      go_wp2_with fail
      go_ret
      exact⟨⟨_,rfl,by simp [gC,fq,nmE,lx,HD.out,OC.out,OV.out,xO.out,H2.out,Ks.out]⟩,by repeat (first | with_reducible exact ad _ _ | with_reducible refine ap ?_ _)⟩
     ·have e2:((op:Int) == 2)=false:=beq_eq_false_iff_ne.2 (by omega)
      have DB:(op == 2)=false:=beq_eq_false_iff_ne.2 h2
      have H2:=zh h2
      clear h1 h2
      go_wp2_with fail
      (try (go_quiet (fail);go_wp2_with fail))
      go_ret
      exact⟨⟨_,rfl,by simp [gC,fq,nmE,lx,HD.out,OC.out,OV.out,H1.out,H2.out,Ks.out]⟩,by repeat (first | with_reducible exact ad _ _ | with_reducible refine ap ?_ _)⟩
end Go.Proofs.YtjbgnopnehgbaaaGreatDoor
