/- Lemmas. -/
import Derived.ProofKit
import Derived.SevenTiedAt
import Derived.Test.YtpkipghjohomcaaGreatDoorCards
import Derived.Test.YtpkipghjohomcaaGreatDoorP21
set_option linter.unusedVariables false
set_option linter.unusedSimpArgs false
set_option maxHeartbeats 16000000
set_option maxRecDepth 100000
namespace Go.Proofs.YtpkipghjohomcaaGreatDoor
open Go.RowKit
def eK (k:Nat):List UInt8:=if k<10 then [UInt8.ofNat (48+k)] else [UInt8.ofNat (48+k / 10),UInt8.ofNat (48+k % 10)]
theorem zR:∀k,k<100->Lib.decDigits k=eK k:=by
 intro k h
 unfold eK Lib.decDigits
 by_cases m:k<10
 ·rw [dif_pos m,if_pos m]
 ·rw [dif_neg m,if_neg m]
  unfold Lib.decDigits
  rw [dif_pos (by omega)];rfl
def nmE:Ex->List UInt8
 | .mk _ m A _ _ _ _=>if A≠[] then 32::(A++46::m) else if m≠[] then 32::m else []
def jc:Ex->List UInt8
 | .mk m _ _ A B _ _=>if m=1 then 32::A else if m=2 then 32::(if B=true then [116,114,117,101] else [102,97,108,115,101]) else []
def fU:Ex->List UInt8
 | .mk m E B G I A H=>91::eK m++nmE (.mk m E B G I A H)++jc (.mk m E B G I A H)
def nM:Ex->Prop
 | .mk E A m B _ _ _=>E<100/\A.length<=1000000/\m.length<=1000000/\B.length<=1000000
theorem S9 (F:Nat->Prop) (x:Ex) (g o:Nat) (w:World) (hx:jq F w g o x) (hs:nM x):
  Calls Tryz.prog 41 #[.pointer (some ⟨g,o,none⟩)] w (pq (fU x) w):=by
 cases x with
 | mk m nm md J L ks ps=>
   obtain⟨hF,bN,ax,hq,hc,he⟩:=hx
   obtain⟨s1,s2,s3,s4⟩:=hs
   simp only [EAt] at he
   obtain⟨aJ,pw,nw,cw,pk,ck,ay,rfl,nH,-⟩:=he
   have c0:=hc 0 _ rfl
   have c1:=hc 1 _ rfl
   have c2:=hc 2 _ rfl
   have c3:=hc 3 _ rfl
   have c4:=hc 4 _ rfl
   have c5:=hc 5 _ rfl
   rw [Nat.add_zero] at c0
   obtain⟨ap,hy⟩:∃ap:ByteArray,(⟨nm.toArray⟩:ByteArray)=ap:=⟨_,rfl⟩
   obtain⟨aq,hz⟩:∃aq:ByteArray,(⟨md.toArray⟩:ByteArray)=aq:=⟨_,rfl⟩
   unfold aD at c1 c2
   rw [hy] at c1
   rw [hz] at c2
   have pf:ap.data.toList=nm:=by rw [<-hy]
   have FG:aq.data.toList=md:=by rw [<-hz]
   have kw:=aV pf
   have TT:=aV FG
   have y1:ap.size<=1000000:=by omega
   have z1:aq.size<=1000000:=by omega
   have Lb:=zh (Tryz.strconv_Itoa_small m s1)
   have GE:=zh (Tryz.strconv_FormatBool L)
   have C8:=zh nH
   have yZ:=zh pf;have Z:=zh FG
   have HD:Hid ((⟨(Lib.decDigits m).toArray⟩:ByteArray).data.toList=eK m):=zh (by rw [<-zR m s1])
   have rP:(⟨(Lib.decDigits m).toArray⟩:ByteArray).size<=2:=by
    rw [aV HD.out];unfold eK;split<;>simp
   generalize (⟨(Lib.decDigits m).toArray⟩:ByteArray)=dg at *
   clear hc hq hF nH hy hz pf FG kw TT
   have av:aq.toList.isEmpty=decide (md = []):=by
    rw [toList_data,Z.out];cases md<;>simp
   have au:ap.toList.isEmpty=decide (nm = []):=by
    rw [toList_data,yZ.out];cases nm<;>simp
   go_enter Tryz.func41,Tryz.ntmps41
   go_wp2_with fail
   refine(Lb _).mono ?_
   rintro ak w1 ⟨rfl,rfl⟩
   by_cases hm:md = []
   ·have f1:decide (md = [])=true:=zd hm
    by_cases ao:nm = []
    ·have f2:decide (nm = [])=true:=zd ao
     have U:=zh hm;have Kh:=zh ao
     clear hm ao
     by_cases A:m=1
     ·have e1:((m:Int) == 1)=true:=by rw [A];rfl
      have uw:(m == 1)=true:=by rw [A];rfl
      have I:=C8.out
      unfold ff at I
      rw [if_pos A] at I
      have Y:=zh (fun W (h:w1.grownBy W none)=>Zd.String_c _ _ W (I.1.kept h) (Zd.parseV_lim J))
      have T8:Hid (Zd.txt (Zd.parseV J)=.string ⟨J.toArray⟩):=zh (by unfold Zd.txt;rw [Zd.txtL_parse I.2.1])
      rw [T8.out] at Y
      obtain⟨B,G⟩:∃B:ByteArray,(⟨J.toArray⟩:ByteArray)=B:=⟨_,rfl⟩
      have H:Hid (B.data.toList=J):=zh (by rw [<-G])
      have v1:B.size<=1000000:=by rw [aV H.out];exact s4
      rw [G] at Y
      have O:=zh A
      clear I G T8 A
      go_wp2_with fail
      (try (go_quiet (fail);go_wp2_with fail))
      refine(Y.out _ (by repeat (with_reducible first | exact ad _ _ | refine am ?_ _))).mono ?_
      rintro ak w2 ⟨rfl,bL⟩
      have bF:Hid (w1.grownBy w2 none):=zh (aa (by repeat (with_reducible first | exact ad _ _ | refine am ?_ _)) bL)
      clear bL
      go_wp2_with fail
      go_ret
      exact⟨⟨_,rfl,by simp [bo,fU,nmE,jc,HD.out,yZ.out,Z.out,H.out,O.out,U.out,Kh.out]⟩,by repeat (with_reducible first | exact bF.out | refine am ?_ _)⟩
     ·have e1:=yi (m:Int) 1
      have uw:(m == 1)=false:=xz.2 A
      have O:=zh A
      by_cases E:m=2
      ·have e2:((m:Int) == 2)=true:=by rw [E];rfl
       have Fn:(m == 2)=true:=by rw [E];rfl
       have H:Hid ((⟨(Lib.formatBool L).toArray⟩:ByteArray).data.toList=if L=true then [116,114,117,101] else [102,97,108,115,101]):=zh (by cases L<;>rfl)
       obtain⟨B,G⟩:∃B:ByteArray,(⟨(Lib.formatBool L).toArray⟩:ByteArray)=B:=⟨_,rfl⟩
       rw [G] at H GE
       have v1:B.size<=1000000:=by rw [aV H.out];split<;>simp
       have R:=zh E
       clear G A E
       go_wp2_with fail
       (try (go_quiet (fail);go_wp2_with fail))
       refine(GE _).mono ?_
       rintro ak w2 ⟨rfl,rfl⟩
       go_wp2_with fail
       go_ret
       exact⟨⟨_,rfl,by simp [bo,fU,nmE,jc,HD.out,yZ.out,Z.out,H.out,R.out,U.out,Kh.out]⟩,by repeat (with_reducible first | exact ad _ _ | refine am ?_ _)⟩
      ·have e2:=yi (m:Int) 2
       have Fn:(m == 2)=false:=xz.2 E
       have R:=zh E
       clear A E
       go_wp2_with fail
       (try (go_quiet (fail);go_wp2_with fail))
       go_ret
       exact⟨⟨_,rfl,by simp [bo,fU,nmE,jc,HD.out,yZ.out,Z.out,O.out,R.out,U.out,Kh.out]⟩,by repeat (with_reducible first | exact ad _ _ | refine am ?_ _)⟩
    ·have f2:decide (nm = [])=false:=VW ao
     have U:=zh hm;have Kh:=zh ao
     clear hm ao
     by_cases A:m=1
     ·have e1:((m:Int) == 1)=true:=by rw [A];rfl
      have uw:(m == 1)=true:=by rw [A];rfl
      have I:=C8.out
      unfold ff at I
      rw [if_pos A] at I
      have Y:=zh (fun W (h:w1.grownBy W none)=>Zd.String_c _ _ W (I.1.kept h) (Zd.parseV_lim J))
      have T8:Hid (Zd.txt (Zd.parseV J)=.string ⟨J.toArray⟩):=zh (by unfold Zd.txt;rw [Zd.txtL_parse I.2.1])
      rw [T8.out] at Y
      obtain⟨B,G⟩:∃B:ByteArray,(⟨J.toArray⟩:ByteArray)=B:=⟨_,rfl⟩
      have H:Hid (B.data.toList=J):=zh (by rw [<-G])
      have v1:B.size<=1000000:=by rw [aV H.out];exact s4
      rw [G] at Y
      have O:=zh A
      clear I G T8 A
      go_wp2_with fail
      (try (go_quiet (fail);go_wp2_with fail))
      refine(Y.out _ (by repeat (with_reducible first | exact ad _ _ | refine am ?_ _))).mono ?_
      rintro ak w2 ⟨rfl,bL⟩
      have bF:Hid (w1.grownBy w2 none):=zh (aa (by repeat (with_reducible first | exact ad _ _ | refine am ?_ _)) bL)
      clear bL
      go_wp2_with fail
      go_ret
      exact⟨⟨_,rfl,by simp [bo,fU,nmE,jc,HD.out,yZ.out,Z.out,H.out,O.out,U.out,Kh.out]⟩,by repeat (with_reducible first | exact bF.out | refine am ?_ _)⟩
     ·have e1:=yi (m:Int) 1
      have uw:(m == 1)=false:=xz.2 A
      have O:=zh A
      by_cases E:m=2
      ·have e2:((m:Int) == 2)=true:=by rw [E];rfl
       have Fn:(m == 2)=true:=by rw [E];rfl
       have H:Hid ((⟨(Lib.formatBool L).toArray⟩:ByteArray).data.toList=if L=true then [116,114,117,101] else [102,97,108,115,101]):=zh (by cases L<;>rfl)
       obtain⟨B,G⟩:∃B:ByteArray,(⟨(Lib.formatBool L).toArray⟩:ByteArray)=B:=⟨_,rfl⟩
       rw [G] at H GE
       have v1:B.size<=1000000:=by rw [aV H.out];split<;>simp
       have R:=zh E
       clear G A E
       go_wp2_with fail
       (try (go_quiet (fail);go_wp2_with fail))
       refine(GE _).mono ?_
       rintro ak w2 ⟨rfl,rfl⟩
       go_wp2_with fail
       go_ret
       exact⟨⟨_,rfl,by simp [bo,fU,nmE,jc,HD.out,yZ.out,Z.out,H.out,R.out,U.out,Kh.out]⟩,by repeat (with_reducible first | exact ad _ _ | refine am ?_ _)⟩
      ·have e2:=yi (m:Int) 2
       have Fn:(m == 2)=false:=xz.2 E
       have R:=zh E
       clear A E
       go_wp2_with fail
       (try (go_quiet (fail);go_wp2_with fail))
       go_ret
       exact⟨⟨_,rfl,by simp [bo,fU,nmE,jc,HD.out,yZ.out,Z.out,O.out,R.out,U.out,Kh.out]⟩,by repeat (with_reducible first | exact ad _ _ | refine am ?_ _)⟩
   ·have f1:decide (md = [])=false:=VW hm
    have U:=zh hm
    clear hm
    by_cases A:m=1
    ·have e1:((m:Int) == 1)=true:=by rw [A];rfl
     have uw:(m == 1)=true:=by rw [A];rfl
     have I:=C8.out
     unfold ff at I
     rw [if_pos A] at I
     have Y:=zh (fun W (h:w1.grownBy W none)=>Zd.String_c _ _ W (I.1.kept h) (Zd.parseV_lim J))
     have T8:Hid (Zd.txt (Zd.parseV J)=.string ⟨J.toArray⟩):=zh (by unfold Zd.txt;rw [Zd.txtL_parse I.2.1])
     rw [T8.out] at Y
     obtain⟨B,G⟩:∃B:ByteArray,(⟨J.toArray⟩:ByteArray)=B:=⟨_,rfl⟩
     have H:Hid (B.data.toList=J):=zh (by rw [<-G])
     have v1:B.size<=1000000:=by rw [aV H.out];exact s4
     rw [G] at Y
     have O:=zh A
     clear I G T8 A
     go_wp2_with fail
     (try (go_quiet (fail);go_wp2_with fail))
     refine(Y.out _ (by repeat (with_reducible first | exact ad _ _ | refine am ?_ _))).mono ?_
     rintro ak w2 ⟨rfl,bL⟩
     have bF:Hid (w1.grownBy w2 none):=zh (aa (by repeat (with_reducible first | exact ad _ _ | refine am ?_ _)) bL)
     clear bL
     go_wp2_with fail
     go_ret
     exact⟨⟨_,rfl,by simp [bo,fU,nmE,jc,HD.out,yZ.out,Z.out,H.out,O.out,U.out]⟩,by repeat (with_reducible first | exact bF.out | refine am ?_ _)⟩
    ·have e1:=yi (m:Int) 1
     have uw:(m == 1)=false:=xz.2 A
     have O:=zh A
     by_cases E:m=2
     ·have e2:((m:Int) == 2)=true:=by rw [E];rfl
      have Fn:(m == 2)=true:=by rw [E];rfl
      have H:Hid ((⟨(Lib.formatBool L).toArray⟩:ByteArray).data.toList=if L=true then [116,114,117,101] else [102,97,108,115,101]):=zh (by cases L<;>rfl)
      obtain⟨B,G⟩:∃B:ByteArray,(⟨(Lib.formatBool L).toArray⟩:ByteArray)=B:=⟨_,rfl⟩
      rw [G] at H GE
      have v1:B.size<=1000000:=by rw [aV H.out];split<;>simp
      have R:=zh E
      clear G A E
      go_wp2_with fail
      (try (go_quiet (fail);go_wp2_with fail))
      refine(GE _).mono ?_
      rintro ak w2 ⟨rfl,rfl⟩
      go_wp2_with fail
      go_ret
      exact⟨⟨_,rfl,by simp [bo,fU,nmE,jc,HD.out,yZ.out,Z.out,H.out,R.out,U.out]⟩,by repeat (with_reducible first | exact ad _ _ | refine am ?_ _)⟩
     ·have e2:=yi (m:Int) 2
      have Fn:(m == 2)=false:=xz.2 E
      have R:=zh E
      clear A E
      go_wp2_with fail
      (try (go_quiet (fail);go_wp2_with fail))
      go_ret
      exact⟨⟨_,rfl,by simp [bo,fU,nmE,jc,HD.out,yZ.out,Z.out,O.out,R.out,U.out]⟩,by repeat (with_reducible first | exact ad _ _ | refine am ?_ _)⟩
end Go.Proofs.YtpkipghjohomcaaGreatDoor
namespace Go.Proofs.YtpkipghjohomcaaGreatDoor.astPrograms
open Go.ChangeShapes Go.WideShapes Go.ChangeAt Go.RowKit
theorem p1:Rows.astProgramsRow.wfByText (OpenSpec.ofChange Rows.astProgramsSpec)=true:=by kernel_rfl
theorem p2:Tryz.prog.mainIs=some (Rows.astProgramsCard.stood.harness.1,Rows.astProgramsCard.stood.harness.2.toList):=by kernel_rfl
theorem p3:false=Tryz.prog.looks []:=by kernel_rfl
theorem p4:false=Rows.astProgramsRow.goesBy Tryz.prog:=by kernel_rfl
end Go.Proofs.YtpkipghjohomcaaGreatDoor.astPrograms
