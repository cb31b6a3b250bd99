/- Lemmas. -/
import Derived.Test.YtjbgnopnehgbaaaGreatDoorP27
set_option linter.unusedVariables false
set_option linter.unusedSimpArgs false
set_option maxHeartbeats 8000000
set_option maxRecDepth 100000
namespace Go.Proofs.YtjbgnopnehgbaaaGreatDoor
open Go.RowKit
def uOf (w:World) (bb:Nat):Nat:=match w.cell? ⟨bb,1,none⟩ with
 | some (.int _ x)=>x.toNat
 | _=>0
theorem KX.used {b bb:Nat} {T:List Tok} {D n:Nat} {A0:Nat→Prop} {aZ:Value} {w0 w:World} {s:St} {u:Nat} {N:List Nd} {vn:Value} {L:List (Value×Th)} (h:KX b bb T D n A0 aZ w0 w s u N vn L):uOf w bb=u:=by
 obtain⟨A,h1,-⟩:=h
 obtain⟨pt,ct,K,hB,-⟩:=h1.bld
 unfold uOf;rw [(dO hB.box).2.1];rfl
def Ci (T:List Tok) (D n:Nat) (nt:NxT) (s:St):RT:=if fs T (cX T D n nt s).2=true then ([.nd 10 ((cX T D n nt s).1++(ac T (cX T D n nt s).2).1++(cX T D n nt (ac T (cX T D n nt s).2).2).1)],(cX T D n nt (ac T (cX T D n nt s).2).2).2) else cX T D n nt s
theorem Pm {T:List Tok} {D n:Nat} {nt:NxT} {s:St} (h:isQ T [110,111,116] s=false):dL T D n nt s=Ci T D n nt s:=by unfold dL Ci;rw [if_neg (by rw [h];decide)]
section
variable (b bb:Nat) (T:List Tok) (D n:Nat)
theorem oM (hC:cN T) (sub:St→RT) (hS:bX b bb T D n (fun _=>True) 147 sub) (hG:∀s,Good T s (sub s)) (ws:List (List UInt8)) (hn:ws.length≤100) (hw:∀x∈ws,x∈KS) {A0:Nat→Prop} {aZ:Value} {w0 w:World} {s:St} {N:List Nd} {vn v:Value} {L:List (Value×Th)} (hk:KX b bb T D n A0 aZ w0 w s s.i N vn L) (hm:(v,Th.strs ws)∈L) (hN:N.length≤2*s.i):
  Calls Tryz.prog 146 #[.pointer (some ⟨b,0,none⟩),.func (.func 147) #[] #[],v] w (jm b bb T D n 0 A0 aZ w0 s (rwT T (atQ T ws) sub (aT T (sub s).2) (sub s)) N L):=by
 have aC:=zh hC;have HS:=zh hS;have HG:=zh hG;have HM:=zh hm;have LN:=zh hn
 have DK:=zh (mU hC hw)
 have HK:=zh hk;have cW:=zh hN
 have gM:=zh (jg.start T (atQ T ws) sub s)
 obtain⟨R,hR⟩:∃R,rwT T (atQ T ws) sub (aT T (sub s).2) (sub s)=R:=⟨_,rfl⟩
 rw [hR] at gM ⊢
 clear hC hS hG hm hn hw hk hN hR
 go_enter Tryz.func146,Tryz.ntmps146
 go_wp2_with fail
 refine(HK.out.sub HS.out trivial).mono ?_
 rintro e w1 ⟨x1,N1,vt,rfl,iP,rg,pN⟩
 have iS:=zh iP;have ot:=zh rg;have pY:=zh pN
 clear iP rg pN HK
 go_wp2_with fail
 go_loopw [7] (fun xv wr=>∃(r:RT) (N':List Nd) (bY:Value) (x:Int),xv=.int .i64 x∧Hid (aQ 0 N s r N' [x])∧Hid (KX b bb T D n A0 aZ w0 wr r.2 r.2.i N' bY L)∧Hid (jg T (atQ T ws) sub R r)∧Hid (s.e≠0→r.2.e≠0)) (fun _ wr=>T.length - uOf wr bb)
 case atStart=>exact⟨_,_,_,_,rfl,ot,iS,gM,pY⟩
 case round=>
  clear iS ot pY gM
  obtain⟨r,N',bY,x,rfl,HO,HK,HL,bL⟩:=hrel
  have Bx:Hid (KX b bb T D n A0 aZ w0 wr r.2 r.2.i N' bY L):=HK
  go_wp2_with fail
  refine(KX.at HK.out HM.out LN.out).mono ?_
  rintro e w2 ⟨rfl,hk⟩
  have HK:=zh hk
  obtain⟨a,ha⟩:∃a,atQ T ws r.2=a:=⟨_,rfl⟩
  rw [ha]
  have HV:=zh ha
  clear hk ha
  cases a
  ·have HE:=zh (HL.out.stop HV.out)
   go_wp2_with fail
   go_ret
   rw [HE.out]
   exact⟨x,N',bY,rfl,HK.out,HO.out,bL.out⟩
  ·have aP:=zh (DK.out _ HV.out)
   have HA:=zh HO.out.out
   have ir:=zh (HL.out.next HV.out aP.out.1 HK.out.ok (HG.out _).mono)
   go_wp2_with fail
   have HK:=zh HK.out.drew
   go_region_held3 (fun w'=>w'.cell? ⟨b,0,none⟩=some (.pointer (some ⟨bb,0,none⟩))) (first | with_reducible exact HK.out.cell | with_reducible exact(HK.out.alloc _).cell | with_reducible exact((HK.out.alloc _).alloc _).cell | with_reducible exact(((HK.out.alloc _).alloc _).alloc _).cell)
    (first
     | (go_at_call 79;(first | with_reducible refine(HK.out.take aC.out aP.out.1 aP.out.2).mono ?_ | with_reducible refine((HK.out.strs1 _ _).take aC.out aP.out.1 aP.out.2).mono ?_ | with_reducible refine(((HK.out.strs1 _ _).strs1 _ _).take aC.out aP.out.1 aP.out.2).mono ?_);rintro e w9 ⟨v9,N9,cD,rfl,al,am,aG⟩;have HK:=zh al;have HD:=zh (aQ.app HA.out am aG);have HA:=zh HD.out.out;clear al am aG)
     | (go_at_call 147;(first | with_reducible refine(HK.out.sub HS.out trivial).mono ?_ | with_reducible refine((HK.out.strs1 _ _).sub HS.out trivial).mono ?_ | with_reducible refine(((HK.out.strs1 _ _).strs1 _ _).sub HS.out trivial).mono ?_);rintro e w9 ⟨v9,N9,cD,rfl,al,am,aG⟩;have HK:=zh al;have HD:=zh (aQ.app HA.out am aG);have HA:=zh HD.out.out;clear al am aG)
     | (go_at_call 45;have kO:=zh (HD.out.weak (j:=0+1) (by decide));refine(KX.node (k:=0) (kind:=10) (HK.out.ints3 _ _ _ ) ?_ aC.out.len kO.out ?_ cW.out ?_).mono ?_;exact List.mem_cons_self ..;rfl;simp;rintro e w9 ⟨v9,N9,cD,rfl,al,am⟩;have HK:=zh al;have HZ:=zh am;clear al am))
   all_goals
    have E3:Hid (T.length - uOf w9 bb<T.length - uOf wr bb):=zh (by rw [HK.out.used,Bx.out.used];have h5:r.2.i<(sub (ac T r.2).2).2.i:=ir.out.2;have h6:=Bx.out.ok;have h7:=HK.out.ok;omega)
    have UO:Hid (s.e≠0→(tr T sub r).2.e≠0):=zh (fun he=>absurd aP.out.2 (bL.out he))
    go_wp2_with fail
    go_roundw
    case rel=>exact⟨tr T sub r,_,_,_,rfl,HZ,zh (HK.out.few (List.sublist_cons_self _ _)),zh ir.out.1,UO⟩
    case measure=>exact E3.out
theorem tF (hC:cN T) (sub:St→RT) (hS:bX b bb T D n (fun _=>True) 162 sub) (hG:∀s,Good T s (sub s)) (ws:List (List UInt8)) (hn:ws.length≤100) (hw:∀x∈ws,x∈KS) {A0:Nat→Prop} {aZ:Value} {w0 w:World} {s:St} {N:List Nd} {vn v:Value} {L:List (Value×Th)} (hk:KX b bb T D n A0 aZ w0 w s s.i N vn L) (hm:(v,Th.strs ws)∈L) (hN:N.length≤2*s.i):
  Calls Tryz.prog 146 #[.pointer (some ⟨b,0,none⟩),.func (.func 162) #[] #[],v] w (jm b bb T D n 0 A0 aZ w0 s (rwT T (atQ T ws) sub (aT T (sub s).2) (sub s)) N L):=by
 have aC:=zh hC;have HS:=zh hS;have HG:=zh hG;have HM:=zh hm;have LN:=zh hn
 have DK:=zh (mU hC hw)
 have HK:=zh hk;have cW:=zh hN
 have gM:=zh (jg.start T (atQ T ws) sub s)
 obtain⟨R,hR⟩:∃R,rwT T (atQ T ws) sub (aT T (sub s).2) (sub s)=R:=⟨_,rfl⟩
 rw [hR] at gM ⊢
 clear hC hS hG hm hn hw hk hN hR
 go_enter Tryz.func146,Tryz.ntmps146
 go_wp2_with fail
 refine(HK.out.sub HS.out trivial).mono ?_
 rintro e w1 ⟨x1,N1,vt,rfl,iP,rg,pN⟩
 have iS:=zh iP;have ot:=zh rg;have pY:=zh pN
 clear iP rg pN HK
 go_wp2_with fail
 go_loopw [7] (fun xv wr=>∃(r:RT) (N':List Nd) (bY:Value) (x:Int),xv=.int .i64 x∧Hid (aQ 0 N s r N' [x])∧Hid (KX b bb T D n A0 aZ w0 wr r.2 r.2.i N' bY L)∧Hid (jg T (atQ T ws) sub R r)∧Hid (s.e≠0→r.2.e≠0)) (fun _ wr=>T.length - uOf wr bb)
 case atStart=>exact⟨_,_,_,_,rfl,ot,iS,gM,pY⟩
 case round=>
  clear iS ot pY gM
  obtain⟨r,N',bY,x,rfl,HO,HK,HL,bL⟩:=hrel
  have Bx:Hid (KX b bb T D n A0 aZ w0 wr r.2 r.2.i N' bY L):=HK
  go_wp2_with fail
  refine(KX.at HK.out HM.out LN.out).mono ?_
  rintro e w2 ⟨rfl,hk⟩
  have HK:=zh hk
  obtain⟨a,ha⟩:∃a,atQ T ws r.2=a:=⟨_,rfl⟩
  rw [ha]
  have HV:=zh ha
  clear hk ha
  cases a
  ·have HE:=zh (HL.out.stop HV.out)
   go_wp2_with fail
   go_ret
   rw [HE.out]
   exact⟨x,N',bY,rfl,HK.out,HO.out,bL.out⟩
  ·have aP:=zh (DK.out _ HV.out)
   have HA:=zh HO.out.out
   have ir:=zh (HL.out.next HV.out aP.out.1 HK.out.ok (HG.out _).mono)
   go_wp2_with fail
   have HK:=zh HK.out.drew
   go_region_held3 (fun w'=>w'.cell? ⟨b,0,none⟩=some (.pointer (some ⟨bb,0,none⟩))) (first | with_reducible exact HK.out.cell | with_reducible exact(HK.out.alloc _).cell | with_reducible exact((HK.out.alloc _).alloc _).cell | with_reducible exact(((HK.out.alloc _).alloc _).alloc _).cell)
    (first
     | (go_at_call 79;(first | with_reducible refine(HK.out.take aC.out aP.out.1 aP.out.2).mono ?_ | with_reducible refine((HK.out.strs1 _ _).take aC.out aP.out.1 aP.out.2).mono ?_ | with_reducible refine(((HK.out.strs1 _ _).strs1 _ _).take aC.out aP.out.1 aP.out.2).mono ?_);rintro e w9 ⟨v9,N9,cD,rfl,al,am,aG⟩;have HK:=zh al;have HD:=zh (aQ.app HA.out am aG);have HA:=zh HD.out.out;clear al am aG)
     | (go_at_call 162;(first | with_reducible refine(HK.out.sub HS.out trivial).mono ?_ | with_reducible refine((HK.out.strs1 _ _).sub HS.out trivial).mono ?_ | with_reducible refine(((HK.out.strs1 _ _).strs1 _ _).sub HS.out trivial).mono ?_);rintro e w9 ⟨v9,N9,cD,rfl,al,am,aG⟩;have HK:=zh al;have HD:=zh (aQ.app HA.out am aG);have HA:=zh HD.out.out;clear al am aG)
     | (go_at_call 45;have kO:=zh (HD.out.weak (j:=0+1) (by decide));refine(KX.node (k:=0) (kind:=10) (HK.out.ints3 _ _ _ ) ?_ aC.out.len kO.out ?_ cW.out ?_).mono ?_;exact List.mem_cons_self ..;rfl;simp;rintro e w9 ⟨v9,N9,cD,rfl,al,am⟩;have HK:=zh al;have HZ:=zh am;clear al am))
   all_goals
    have E3:Hid (T.length - uOf w9 bb<T.length - uOf wr bb):=zh (by rw [HK.out.used,Bx.out.used];have h5:r.2.i<(sub (ac T r.2).2).2.i:=ir.out.2;have h6:=Bx.out.ok;have h7:=HK.out.ok;omega)
    have UO:Hid (s.e≠0→(tr T sub r).2.e≠0):=zh (fun he=>absurd aP.out.2 (bL.out he))
    go_wp2_with fail
    go_roundw
    case rel=>exact⟨tr T sub r,_,_,_,rfl,HZ,zh (HK.out.few (List.sublist_cons_self _ _)),zh ir.out.1,UO⟩
    case measure=>exact E3.out
theorem vQ (hC:cN T) (sub:St→RT) (hS:bX b bb T D n (fun _=>True) 177 sub) (hG:∀s,Good T s (sub s)) (ws:List (List UInt8)) (hn:ws.length≤100) (hw:∀x∈ws,x∈KS) {A0:Nat→Prop} {aZ:Value} {w0 w:World} {s:St} {N:List Nd} {vn v:Value} {L:List (Value×Th)} (hk:KX b bb T D n A0 aZ w0 w s s.i N vn L) (hm:(v,Th.strs ws)∈L) (hN:N.length≤2*s.i):
  Calls Tryz.prog 146 #[.pointer (some ⟨b,0,none⟩),.func (.func 177) #[] #[],v] w (jm b bb T D n 0 A0 aZ w0 s (rwT T (atQ T ws) sub (aT T (sub s).2) (sub s)) N L):=by
 have aC:=zh hC;have HS:=zh hS;have HG:=zh hG;have HM:=zh hm;have LN:=zh hn
 have DK:=zh (mU hC hw)
 have HK:=zh hk;have cW:=zh hN
 have gM:=zh (jg.start T (atQ T ws) sub s)
 obtain⟨R,hR⟩:∃R,rwT T (atQ T ws) sub (aT T (sub s).2) (sub s)=R:=⟨_,rfl⟩
 rw [hR] at gM ⊢
 clear hC hS hG hm hn hw hk hN hR
 go_enter Tryz.func146,Tryz.ntmps146
 go_wp2_with fail
 refine(HK.out.sub HS.out trivial).mono ?_
 rintro e w1 ⟨x1,N1,vt,rfl,iP,rg,pN⟩
 have iS:=zh iP;have ot:=zh rg;have pY:=zh pN
 clear iP rg pN HK
 go_wp2_with fail
 go_loopw [7] (fun xv wr=>∃(r:RT) (N':List Nd) (bY:Value) (x:Int),xv=.int .i64 x∧Hid (aQ 0 N s r N' [x])∧Hid (KX b bb T D n A0 aZ w0 wr r.2 r.2.i N' bY L)∧Hid (jg T (atQ T ws) sub R r)∧Hid (s.e≠0→r.2.e≠0)) (fun _ wr=>T.length - uOf wr bb)
 case atStart=>exact⟨_,_,_,_,rfl,ot,iS,gM,pY⟩
 case round=>
  clear iS ot pY gM
  obtain⟨r,N',bY,x,rfl,HO,HK,HL,bL⟩:=hrel
  have Bx:Hid (KX b bb T D n A0 aZ w0 wr r.2 r.2.i N' bY L):=HK
  go_wp2_with fail
  refine(KX.at HK.out HM.out LN.out).mono ?_
  rintro e w2 ⟨rfl,hk⟩
  have HK:=zh hk
  obtain⟨a,ha⟩:∃a,atQ T ws r.2=a:=⟨_,rfl⟩
  rw [ha]
  have HV:=zh ha
  clear hk ha
  cases a
  ·have HE:=zh (HL.out.stop HV.out)
   go_wp2_with fail
   go_ret
   rw [HE.out]
   exact⟨x,N',bY,rfl,HK.out,HO.out,bL.out⟩
  ·have aP:=zh (DK.out _ HV.out)
   have HA:=zh HO.out.out
   have ir:=zh (HL.out.next HV.out aP.out.1 HK.out.ok (HG.out _).mono)
   go_wp2_with fail
   have HK:=zh HK.out.drew
   go_region_held3 (fun w'=>w'.cell? ⟨b,0,none⟩=some (.pointer (some ⟨bb,0,none⟩))) (first | with_reducible exact HK.out.cell | with_reducible exact(HK.out.alloc _).cell | with_reducible exact((HK.out.alloc _).alloc _).cell | with_reducible exact(((HK.out.alloc _).alloc _).alloc _).cell)
    (first
     | (go_at_call 79;(first | with_reducible refine(HK.out.take aC.out aP.out.1 aP.out.2).mono ?_ | with_reducible refine((HK.out.strs1 _ _).take aC.out aP.out.1 aP.out.2).mono ?_ | with_reducible refine(((HK.out.strs1 _ _).strs1 _ _).take aC.out aP.out.1 aP.out.2).mono ?_);rintro e w9 ⟨v9,N9,cD,rfl,al,am,aG⟩;have HK:=zh al;have HD:=zh (aQ.app HA.out am aG);have HA:=zh HD.out.out;clear al am aG)
     | (go_at_call 177;(first | with_reducible refine(HK.out.sub HS.out trivial).mono ?_ | with_reducible refine((HK.out.strs1 _ _).sub HS.out trivial).mono ?_ | with_reducible refine(((HK.out.strs1 _ _).strs1 _ _).sub HS.out trivial).mono ?_);rintro e w9 ⟨v9,N9,cD,rfl,al,am,aG⟩;have HK:=zh al;have HD:=zh (aQ.app HA.out am aG);have HA:=zh HD.out.out;clear al am aG)
     | (go_at_call 45;have kO:=zh (HD.out.weak (j:=0+1) (by decide));refine(KX.node (k:=0) (kind:=10) (HK.out.ints3 _ _ _ ) ?_ aC.out.len kO.out ?_ cW.out ?_).mono ?_;exact List.mem_cons_self ..;rfl;simp;rintro e w9 ⟨v9,N9,cD,rfl,al,am⟩;have HK:=zh al;have HZ:=zh am;clear al am))
   all_goals
    have E3:Hid (T.length - uOf w9 bb<T.length - uOf wr bb):=zh (by rw [HK.out.used,Bx.out.used];have h5:r.2.i<(sub (ac T r.2).2).2.i:=ir.out.2;have h6:=Bx.out.ok;have h7:=HK.out.ok;omega)
    have UO:Hid (s.e≠0→(tr T sub r).2.e≠0):=zh (fun he=>absurd aP.out.2 (bL.out he))
    go_wp2_with fail
    go_roundw
    case rel=>exact⟨tr T sub r,_,_,_,rfl,HZ,zh (HK.out.few (List.sublist_cons_self _ _)),zh ir.out.1,UO⟩
    case measure=>exact E3.out
theorem yv (hC:cN T) (sub:St→RT) (hS:bX b bb T D n (fun _=>True) 178 sub) (hG:∀s,Good T s (sub s)) (ws:List (List UInt8)) (hn:ws.length≤100) (hw:∀x∈ws,x∈KS) {A0:Nat→Prop} {aZ:Value} {w0 w:World} {s:St} {N:List Nd} {vn v:Value} {L:List (Value×Th)} (hk:KX b bb T D n A0 aZ w0 w s s.i N vn L) (hm:(v,Th.strs ws)∈L) (hN:N.length≤2*s.i):
  Calls Tryz.prog 146 #[.pointer (some ⟨b,0,none⟩),.func (.func 178) #[] #[],v] w (jm b bb T D n 0 A0 aZ w0 s (rwT T (atQ T ws) sub (aT T (sub s).2) (sub s)) N L):=by
 have aC:=zh hC;have HS:=zh hS;have HG:=zh hG;have HM:=zh hm;have LN:=zh hn
 have DK:=zh (mU hC hw)
 have HK:=zh hk;have cW:=zh hN
 have gM:=zh (jg.start T (atQ T ws) sub s)
 obtain⟨R,hR⟩:∃R,rwT T (atQ T ws) sub (aT T (sub s).2) (sub s)=R:=⟨_,rfl⟩
 rw [hR] at gM ⊢
 clear hC hS hG hm hn hw hk hN hR
 go_enter Tryz.func146,Tryz.ntmps146
 go_wp2_with fail
 refine(HK.out.sub HS.out trivial).mono ?_
 rintro e w1 ⟨x1,N1,vt,rfl,iP,rg,pN⟩
 have iS:=zh iP;have ot:=zh rg;have pY:=zh pN
 clear iP rg pN HK
 go_wp2_with fail
 go_loopw [7] (fun xv wr=>∃(r:RT) (N':List Nd) (bY:Value) (x:Int),xv=.int .i64 x∧Hid (aQ 0 N s r N' [x])∧Hid (KX b bb T D n A0 aZ w0 wr r.2 r.2.i N' bY L)∧Hid (jg T (atQ T ws) sub R r)∧Hid (s.e≠0→r.2.e≠0)) (fun _ wr=>T.length - uOf wr bb)
 case atStart=>exact⟨_,_,_,_,rfl,ot,iS,gM,pY⟩
 case round=>
  clear iS ot pY gM
  obtain⟨r,N',bY,x,rfl,HO,HK,HL,bL⟩:=hrel
  have Bx:Hid (KX b bb T D n A0 aZ w0 wr r.2 r.2.i N' bY L):=HK
  go_wp2_with fail
  refine(KX.at HK.out HM.out LN.out).mono ?_
  rintro e w2 ⟨rfl,hk⟩
  have HK:=zh hk
  obtain⟨a,ha⟩:∃a,atQ T ws r.2=a:=⟨_,rfl⟩
  rw [ha]
  have HV:=zh ha
  clear hk ha
  cases a
  ·have HE:=zh (HL.out.stop HV.out)
   go_wp2_with fail
   go_ret
   rw [HE.out]
   exact⟨x,N',bY,rfl,HK.out,HO.out,bL.out⟩
  ·have aP:=zh (DK.out _ HV.out)
   have HA:=zh HO.out.out
   have ir:=zh (HL.out.next HV.out aP.out.1 HK.out.ok (HG.out _).mono)
   go_wp2_with fail
   have HK:=zh HK.out.drew
   go_region_held3 (fun w'=>w'.cell? ⟨b,0,none⟩=some (.pointer (some ⟨bb,0,none⟩))) (first | with_reducible exact HK.out.cell | with_reducible exact(HK.out.alloc _).cell | with_reducible exact((HK.out.alloc _).alloc _).cell | with_reducible exact(((HK.out.alloc _).alloc _).alloc _).cell)
    (first
     | (go_at_call 79;(first | with_reducible refine(HK.out.take aC.out aP.out.1 aP.out.2).mono ?_ | with_reducible refine((HK.out.strs1 _ _).take aC.out aP.out.1 aP.out.2).mono ?_ | with_reducible refine(((HK.out.strs1 _ _).strs1 _ _).take aC.out aP.out.1 aP.out.2).mono ?_);rintro e w9 ⟨v9,N9,cD,rfl,al,am,aG⟩;have HK:=zh al;have HD:=zh (aQ.app HA.out am aG);have HA:=zh HD.out.out;clear al am aG)
     | (go_at_call 178;(first | with_reducible refine(HK.out.sub HS.out trivial).mono ?_ | with_reducible refine((HK.out.strs1 _ _).sub HS.out trivial).mono ?_ | with_reducible refine(((HK.out.strs1 _ _).strs1 _ _).sub HS.out trivial).mono ?_);rintro e w9 ⟨v9,N9,cD,rfl,al,am,aG⟩;have HK:=zh al;have HD:=zh (aQ.app HA.out am aG);have HA:=zh HD.out.out;clear al am aG)
     | (go_at_call 45;have kO:=zh (HD.out.weak (j:=0+1) (by decide));refine(KX.node (k:=0) (kind:=10) (HK.out.ints3 _ _ _ ) ?_ aC.out.len kO.out ?_ cW.out ?_).mono ?_;exact List.mem_cons_self ..;rfl;simp;rintro e w9 ⟨v9,N9,cD,rfl,al,am⟩;have HK:=zh al;have HZ:=zh am;clear al am))
   all_goals
    have E3:Hid (T.length - uOf w9 bb<T.length - uOf wr bb):=zh (by rw [HK.out.used,Bx.out.used];have h5:r.2.i<(sub (ac T r.2).2).2.i:=ir.out.2;have h6:=Bx.out.ok;have h7:=HK.out.ok;omega)
    have UO:Hid (s.e≠0→(tr T sub r).2.e≠0):=zh (fun he=>absurd aP.out.2 (bL.out he))
    go_wp2_with fail
    go_roundw
    case rel=>exact⟨tr T sub r,_,_,_,rfl,HZ,zh (HK.out.few (List.sublist_cons_self _ _)),zh ir.out.1,UO⟩
    case measure=>exact E3.out
theorem Hg (hC:cN T) (hA:bX b bb T D n (fun _=>True) 178 (aL T D n (NT T D n))):bX b bb T D n (fun _=>True) 177 (cJ T D n (NT T D n)):=by
 intro s N vn A w _ h
 have HG:Hid (∀s,Good T s (aL T D n (NT T D n) s)):=zh (fS T D n (dF T D (D - n)))
 have HE:Hid (atQ T [[42],[47],[37]]=jN T):=zh (funext fun s=>by rw [jh hC (by decide)];simp [jN,Bool.or_assoc])
 have aC:=zh hC;have mG:=zh hA;have cW:=zh h.few
 have HK:=zh (KX.start h)
 clear h hA hC
 go_enter Tryz.func177,Tryz.ntmps177
 go_wp2_with fail
 refine(yv b bb T D n aC.out _ mG.out HG.out [[42],[47],[37]] (by decide) (by decide) (HK.out.strs [⟨#[42]⟩,⟨#[47]⟩,⟨#[37]⟩] _) (List.mem_cons_self ..) cW.out).mono ?_
 rintro e w1 ⟨v9,N9,cD,rfl,al,am,aG⟩
 have HQ:=zh (KX.fin am al aG (r':=cJ T D n (NT T D n) s) (by rw [HE.out];exact Eqv.refl _))
 clear al am aG
 go_wp2_with fail
 go_ret
 exact HQ.out
theorem Y6 (hC:cN T) (hA:bX b bb T D n (fun _=>True) 177 (cJ T D n (NT T D n))):bX b bb T D n (fun _=>True) 176 (cX T D n (NT T D n)):=by
 intro s N vn A w _ h
 have HG:Hid (∀s,Good T s (cJ T D n (NT T D n) s)):=zh (kR T D n (dF T D (D - n)))
 have HE:Hid (atQ T [[43],[45]]=jT T):=zh (funext fun s=>by rw [jh hC (by decide)];simp [jT])
 have aC:=zh hC;have mG:=zh hA;have cW:=zh h.few
 have HK:=zh (KX.start h)
 clear h hA hC
 go_enter Tryz.func176,Tryz.ntmps176
 go_wp2_with fail
 refine(vQ b bb T D n aC.out _ mG.out HG.out [[43],[45]] (by decide) (by decide) (HK.out.strs [⟨#[43]⟩,⟨#[45]⟩] _) (List.mem_cons_self ..) cW.out).mono ?_
 rintro e w1 ⟨v9,N9,cD,rfl,al,am,aG⟩
 have HQ:=zh (KX.fin am al aG (r':=cX T D n (NT T D n) s) (by rw [HE.out];exact Eqv.refl _))
 clear al am aG
 go_wp2_with fail
 go_ret
 exact HQ.out
theorem vH (hC:cN T) (hA:bX b bb T D n (fun _=>True) 162 (dL T D n (NT T D n))):bX b bb T D n (fun _=>True) 147 (me T D n (NT T D n)):=by
 intro s N vn A w _ h
 have HG:Hid (∀s,Good T s (dL T D n (NT T D n) s)):=zh (kG T D n (dF T D (D - n)))
 have HE:Hid (atQ T [[38,38]]=isQ T [38,38]):=zh (funext fun s=>by rw [jh hC (by decide)];simp [])
 have aC:=zh hC;have mG:=zh hA;have cW:=zh h.few
 have HK:=zh (KX.start h)
 clear h hA hC
 go_enter Tryz.func147,Tryz.ntmps147
 go_wp2_with fail
 refine(tF b bb T D n aC.out _ mG.out HG.out [[38,38]] (by decide) (by decide) (HK.out.strs [⟨#[38,38]⟩] _) (List.mem_cons_self ..) cW.out).mono ?_
 rintro e w1 ⟨v9,N9,cD,rfl,al,am,aG⟩
 have HQ:=zh (KX.fin am al aG (r':=me T D n (NT T D n) s) (by rw [HE.out];exact Eqv.refl _))
 clear al am aG
 go_wp2_with fail
 go_ret
 exact HQ.out
theorem vR (hC:cN T) (hA:bX b bb T D n (fun _=>True) 147 (me T D n (NT T D n))):bX b bb T D n (fun _=>True) 125 (orT T D n (NT T D n)):=by
 intro s N vn A w _ h
 have HG:Hid (∀s,Good T s (me T D n (NT T D n) s)):=zh (uF T D n (dF T D (D - n)))
 have HE:Hid (atQ T [[124,124]]=isQ T [124,124]):=zh (funext fun s=>by rw [jh hC (by decide)];simp [])
 have aC:=zh hC;have mG:=zh hA;have cW:=zh h.few
 have HK:=zh (KX.start h)
 clear h hA hC
 go_enter Tryz.func125,Tryz.ntmps125
 go_wp2_with fail
 refine(oM b bb T D n aC.out _ mG.out HG.out [[124,124]] (by decide) (by decide) (HK.out.strs [⟨#[124,124]⟩] _) (List.mem_cons_self ..) cW.out).mono ?_
 rintro e w1 ⟨v9,N9,cD,rfl,al,am,aG⟩
 have HQ:=zh (KX.fin am al aG (r':=orT T D n (NT T D n) s) (by rw [HE.out];exact Eqv.refl _))
 clear al am aG
 go_wp2_with fail
 go_ret
 exact HQ.out
theorem zf (hC:cN T) (hA:bX b bb T D n (fun _=>True) 176 (cX T D n (NT T D n))):bX b bb T D n (fun _=>True) 171 (Ci T D n (NT T D n)):=by
 intro s N vn A w _ h
 have HE:Hid (atQ T [[61],[60,62],[60],[60,61],[62],[62,61]]=fs T):=zh (funext fun s=>by rw [jh hC (by decide)];simp [fs,Bool.or_assoc])
 have aC:=zh hC;have mG:=zh hA;have cW:=zh h.few
 have HK:=zh (KX.start h)
 clear h hA hC
 go_enter Tryz.func171,Tryz.ntmps171
 go_wp2_with fail
 refine(HK.out.sub mG.out trivial).mono ?_
 rintro e w1 ⟨x1,N1,vt,rfl,iP,rg,pN⟩
 have HK:=zh iP;have HO:=zh rg;have bL:=zh pN
 have HA:=zh rg.out
 clear iP rg pN
 go_wp2_with fail
 refine(KX.at (ws:=[[61],[60,62],[60],[60,61],[62],[62,61]]) (HK.out.strs [⟨#[61]⟩,⟨#[60,62]⟩,⟨#[60]⟩,⟨#[60,61]⟩,⟨#[62]⟩,⟨#[62,61]⟩] _) (List.mem_cons_self ..) (by decide)).mono ?_
 rintro e w2 ⟨rfl,hk⟩
 have HK:=zh (hk.nils)
 obtain⟨a,ha⟩:∃a,atQ T [[61],[60,62],[60],[60,61],[62],[62,61]] (cX T D n (NT T D n) s).2=a:=⟨_,rfl⟩
 rw [ha]
 have HV:=zh (show fs T (cX T D n (NT T D n) s).2=a from by rw [←HE.out];exact ha)
 clear hk ha
 cases a
 ·have HQ:=zh (KX.fin HO.out HK.out bL.out (r':=Ci T D n (NT T D n) s) (by unfold Ci;rw [if_neg (by rw [HV.out];decide)];exact Eqv.refl _))
  go_wp2_with fail
  go_ret
  exact HQ.out
 ·have aP:=zh (show(an T (cX T D n (NT T D n) s).2).kind≠5∧(cX T D n (NT T D n) s).2.e=0 from mU aC.out (ws:=[[61],[60,62],[60],[60,61],[62],[62,61]]) (by decide) _ (by rw [HE.out];exact HV.out))
  go_wp2_with fail
  have HK:=zh HK.out.drew
  go_region_held3 (fun w'=>w'.cell? ⟨b,0,none⟩=some (.pointer (some ⟨bb,0,none⟩))) (first | with_reducible exact HK.out.cell | with_reducible exact(HK.out.alloc _).cell | with_reducible exact((HK.out.alloc _).alloc _).cell | with_reducible exact(((HK.out.alloc _).alloc _).alloc _).cell)
   (first
    | (go_at_call 79;(first | with_reducible refine(HK.out.take aC.out aP.out.1 aP.out.2).mono ?_ | with_reducible refine((HK.out.strs1 _ _).take aC.out aP.out.1 aP.out.2).mono ?_ | with_reducible refine(((HK.out.strs1 _ _).strs1 _ _).take aC.out aP.out.1 aP.out.2).mono ?_);rintro e w9 ⟨v9,N9,cD,rfl,al,am,aG⟩;have HK:=zh al;have HD:=zh (aQ.app HA.out am aG);have HA:=zh HD.out.out;clear al am aG)
    | (go_at_call 176;(first | with_reducible refine(HK.out.sub mG.out trivial).mono ?_ | with_reducible refine((HK.out.strs1 _ _).sub mG.out trivial).mono ?_ | with_reducible refine(((HK.out.strs1 _ _).strs1 _ _).sub mG.out trivial).mono ?_);rintro e w9 ⟨v9,N9,cD,rfl,al,am,aG⟩;have HK:=zh al;have HD:=zh (aQ.app HA.out am aG);have HA:=zh HD.out.out;clear al am aG)
    | (go_at_call 45;have kO:=zh (HD.out.weak (j:=0+1) (by decide));refine(KX.node (k:=0) (kind:=10) (HK.out.ints3 _ _ _ ) ?_ aC.out.len kO.out ?_ cW.out ?_).mono ?_;exact List.mem_cons_self ..;rfl;simp;rintro e w9 ⟨v9,N9,cD,rfl,al,am⟩;have HK:=zh al;have HZ:=zh am;clear al am))
  all_goals
   have HQ:=zh (KX.fin HZ.out HK.out (fun he=>absurd aP.out.2 (bL.out he)) (r':=Ci T D n (NT T D n) s) (by rw [show Ci T D n (NT T D n) s=_ from if_pos HV.out];exact Eqv.refl _))
   go_wp2_with fail
   go_ret
   exact HQ.out
end
end Go.Proofs.YtjbgnopnehgbaaaGreatDoor
