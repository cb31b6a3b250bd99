/- Lemmas. -/
import Derived.Test.YtjbgnopnehgbaaaGreatDoorP13
set_option linter.unusedVariables false
set_option linter.unusedSimpArgs false
set_option maxHeartbeats 8000000
set_option maxRecDepth 100000
namespace Go.Proofs.YtjbgnopnehgbaaaGreatDoor
open Go.RowKit
def qg (b bb:Nat) (T:List Tok) (D n k:Nat) (A0:Nat→Prop) (aZ:Value) (w0:World) (s:St) (r:RT) (N:List Nd) (L:List (Value×Th)) (e:Ending) (w':World):Prop:=
 ∃(v:Value) (vs:List Int) (N':List Nd) (bY:Value),e=.returned v∧KX b bb T D n A0 aZ w0 w' r.2 r.2.i N' bY ((v,.ints vs)::L)∧bU k N s r N' vs∧(s.e≠0→r.2.e≠0)∧vs.length≤300
def mv (g:Nat):Value:=.slice (some ⟨g,0,none⟩) 1 1
def nW (b:Nat):Th:=.box (.pointer (some ⟨b,0,none⟩))
def PK (b bb:Nat) (T:List Tok) (D n:Nat) (P:St→Prop) (f:Nat) (sub:St→RT):Prop:=
 ∀(A0:Nat→Prop) (aZ:Value) (w0 w:World) (s:St) (N:List Nd) (vn:Value) (L:List (Value×Th)) (g:Nat),P s→KX b bb T D n A0 aZ w0 w s s.i N vn L→(mv g,nW b)∈L→Calls Tryz.prog f #[.pointer (some ⟨g,0,none⟩)] w (jm b bb T D n 0 A0 aZ w0 s (sub s) N L)
section
variable {b bb:Nat} {T:List Tok} {D n:Nat} {A0:Nat→Prop} {aZ:Value} {w0 w w':World} {s:St} {u:Nat} {N:List Nd} {vn:Value} {L:List (Value×Th)}
theorem KX.room (h:KX b bb T D n A0 aZ w0 w s u N vn L):N.length≤2*u:=by
 obtain⟨A,h1,-⟩:=h
 exact h1.few
theorem KX.boxc {g:Nat} {x:Value} (h:KX b bb T D n A0 aZ w0 w s u N vn L) (hm:(mv g,Th.box x)∈L):w.cell? ⟨g,0,none⟩=some x:=by
 obtain⟨A,h1,h2,h3,-⟩:=h
 obtain⟨g',e,hc⟩:=(h3 _ hm).1
 unfold mv at e
 injection e with e1 e2 e3
 injection e1 with e1
 injection e1 with e1
 rw [e1];exact hc
theorem ol (w:World) (x:Int):VAt (w.alloc (.cells #[.int .i64 x] 3)) (some ⟨w.heap.size,0,none⟩) (bo [x]):=by
 refine .inr ⟨w.heap.size,0,rfl,by simp,fun j v hj=>?_⟩
 rw [Nat.zero_add,cell_of_row _ _ j _ _ (0,0) (heap_alloc_new w _)]
 simpa [bo] using hj
end
section
variable (b bb:Nat) (T:List Tok) (D n:Nat)
theorem xg (hC:cN T) (sub:St→RT) (hS:PK b bb T D n (fun s=>s.inn=false) 182 sub) (hI:∀s,s.inn=false→(sub s).2.inn=false) {A0:Nat→Prop} {aZ:Value} {w0 w:World} {s:St} {N:List Nd} {vn:Value} {L:List (Value×Th)} {g:Nat} (hk:KX b bb T D n A0 aZ w0 w s s.i N vn L) (hm:(mv g,nW b)∈L) (hi:s.inn=false):
  Calls Tryz.prog 118 #[.pointer (some ⟨b,0,none⟩),.func (.func 182) #[] #[.pointer (some ⟨g,0,none⟩)]] w (qg b bb T D n 0 A0 aZ w0 s (ej T sub s) N L):=by
 have aC:=zh hC;have HS:=zh hS;have HI:=zh hI;have HM:=zh hm;have cy:=zh hi
 have HK:=zh hk
 obtain⟨R,hR⟩:∃R,ej T sub s=R:=⟨_,rfl⟩
 have IM:Hid (isQ T [41] s=true→R=([],s)):=zh (fun h=>by rw [←hR];unfold ej;rw [if_pos h])
 have HRN:Hid (isQ T [41] s=false→gD T sub 8 ([],s)=R):=zh (fun h=>by rw [←hR];unfold ej;rw [if_neg (by rw [h];decide)])
 rw [hR]
 clear hC hS hI hm hk hi hR
 go_enter Tryz.func118,Tryz.ntmps118
 go_wp2_with fail
 refine(KX.at (ws:=[[41]]) (HK.out.strs1 _ _) (List.mem_cons_self ..) (by decide)).mono ?_
 rintro e w1 ⟨rfl,hk⟩
 have HK:=zh (hk.few (List.sublist_cons_self _ _))
 obtain⟨a,ha⟩:∃a,isQ T [41] s=a:=⟨_,rfl⟩
 rw [at_one aC.out (by decide),ha]
 have HV:=zh ha
 clear hk ha
 cases a
 ·have HR:=zh (HRN.out HV.out)
  go_wp2_with fail
  go_loopw [5,9] (fun kv jv wr=>∃(j:Nat) (r:RT) (N':List Nd) (bY:Value) (vs:List Int),j≤8∧jv=.int .i64 j∧Hid (KX b bb T D n A0 aZ w0 wr r.2 r.2.i N' bY ((kv,.ints vs)::L))∧Hid (bU 0 N s r N' vs)∧Hid (gD T sub (8 - j) r=R)∧Hid (vs.length≤2*j)∧Hid (s.e≠0→r.2.e≠0)∧Hid (r.2.inn=false)) (fun _ jv _=>8 - (intOf jv).toNat)
  case atStart=>exact⟨0,([],s),N,vn,[],Nat.zero_le _,rfl,zh HK.out.nilS,zh (bU.nil N s),HR,zh (Nat.le_refl _),zh (fun h=>h),cy⟩
  case round=>
   clear HK HR
   obtain⟨j,r,N',bY,vs,hj,rfl,HK,HA,HR,kt,bL,cy⟩:=hrel
   by_cases hlt:j<8
   ·have d1:decide ((j:Int)<8)=true:=zd (by omega)
    have uR:decide (j<8)=true:=zd hlt
    obtain⟨m,hm⟩:∃m,8 - j=m+1:=⟨7 - j,by omega⟩
    have HMM:=zh hm
    have Tp:Hid (gD T sub (8 - j) r=if isQ T [44] (sub r.2).2=true then gD T sub m (r.1++(sub r.2).1++(ac T (sub r.2).2).1,(ac T (sub r.2).2).2) else (r.1++(sub r.2).1,(sub r.2).2)):=zh (by rw [hm,gD])
    rw [Tp.out] at HR
    clear hm Tp
    go_wp2_with fail
    refine(HS.out _ _ _ _ _ _ _ _ g cy.out HK.out (List.mem_cons_of_mem _ HM.out)).mono ?_
    rintro e w2 ⟨v9,N9,cD,rfl,al,am,aG⟩
    have HK:=zh al;have HA:=zh (HA.out.app am.out aG);have bL:=zh (fun h=>aG (bL.out h));have cy:=zh (HI.out _ cy.out)
    clear al am aG
    go_wp2_with (at_builtin;go_loud (refine ba rfl _ _ rfl (HK.out.ints1 v9) (List.sublist_cons_self _ _) rfl rfl (l2:=[v9]) rfl (ol _ _) (by have:=kt.out;omega) (by simp) ?_))
    intro kv2 w3 Jt
    have HK:=zh Jt;have kt:Hid ((vs++[v9]).length≤2*j+1):=zh (by have:=kt.out;rw [List.length_append];show vs.length+1≤_;omega)
    clear Jt
    go_wp2_with fail
    refine(KX.at (ws:=[[44]]) (HK.out.strs1 _ _) (List.mem_cons_self ..) (by decide)).mono ?_
    rintro e w4 ⟨rfl,hk⟩
    have HK:=zh (hk.few (List.sublist_cons_self _ _))
    obtain⟨a,ha⟩:∃a,isQ T [44] (sub r.2).2=a:=⟨_,rfl⟩
    rw [at_one aC.out (by decide),ha]
    rw [ha] at HR
    have HV:=zh ha
    clear hk ha
    cases a
    ·rw [if_neg (by decide)] at HR
     go_wp2_with fail
     go_ret
     rw [←HR.out]
     exact⟨_,_,_,_,rfl,HK.out,HA.out.weak (Nat.zero_le _),bL.out,by have:=kt.out;omega⟩
    ·rw [if_pos rfl] at HR
     have aP:=zh (af HV.out)
     go_wp2_with fail
     refine(HK.out.take aC.out aP.out.1 aP.out.2).mono ?_
     rintro e w5 ⟨v8,N8,Yq,rfl,qT,Y5,VV⟩
     have HK:=zh qT;have HA:=zh (HA.out.app Y5.out VV);have bL:=zh (fun h=>VV (bL.out h));have cy:=zh ((aq T aP.out.2).inn.trans cy.out)
     clear qT Y5 VV
     go_wp2_with (at_builtin;go_loud (refine ba rfl _ _ rfl (HK.out.ints1 v8) (List.sublist_cons_self _ _) rfl rfl (l2:=[v8]) rfl (ol _ _) (by have:=kt.out;omega) (by simp) ?_))
     intro kv3 w6 qG
     have HK:=zh qG;have kt:Hid ((vs++[v9,v8]).length≤2*(j+1)):=zh (by have:=kt.out;rw [List.length_append] at this ⊢;simp only [List.length_cons,List.length_nil] at this ⊢;omega)
     clear qG
     have ZX:Hid (8 - (j+1)=m):=zh (by have:=HMM.out;omega)
     go_wp2_with fail
     go_roundw
     case rel=>exact⟨j+1,(r.1++(sub r.2).1++(ac T (sub r.2).2).1,(ac T (sub r.2).2).2),N8,Yq,vs++[v9,v8],by omega,by go_num,HK,zh (by have h9:=HA.out.weak (Nat.zero_le _);rw [List.append_assoc vs] at h9;exact h9),zh (by rw [ZX.out];exact HR.out),kt,bL,cy⟩
     case measure=>(simp [intOf]<;>omega)
   ·obtain rfl:j=8:=by omega
    have d1:decide (((8:Nat):Int)<8)=false:=by decide
    have Ur:Hid (R=(r.1,aB T 15 r.2)):=zh (by rw [←HR.out];rfl)
    go_wp2_with fail
    refine(HK.out.fail 15 (by decide)).mono ?_
    rintro e w2 ⟨v9,N9,cD,rfl,al,am,aG⟩
    have HK:=zh al;have HA:=zh (HA.out.app am.out aG);have bL:=zh (fun h=>aG (bL.out h))
    clear al am aG
    go_wp2_with fail
    go_ret
    rw [Ur.out]
    exact⟨_,_,_,_,rfl,HK.out,⟨fun e=>absurd e (cC T (by decide) _),HA.out.2⟩,bL.out,by have:=kt.out;omega⟩
 ·go_wp2_with fail
  go_ret
  rw [IM.out HV.out]
  exact⟨_,[],N,vn,rfl,HK.out.nilS,bU.nil N s,fun h=>h,by simp⟩
theorem A8 (hC:cN T) (sub:St→RT) (hS:PK b bb T D n (fun s=>s.inn=false) 119 sub) (hI:∀s,s.inn=false→(sub s).2.inn=false) {A0:Nat→Prop} {aZ:Value} {w0 w:World} {s:St} {N:List Nd} {vn:Value} {L:List (Value×Th)} {g:Nat} (hk:KX b bb T D n A0 aZ w0 w s s.i N vn L) (hm:(mv g,nW b)∈L) (hi:s.inn=false):
  Calls Tryz.prog 118 #[.pointer (some ⟨b,0,none⟩),.func (.func 119) #[] #[.pointer (some ⟨g,0,none⟩)]] w (qg b bb T D n 0 A0 aZ w0 s (ej T sub s) N L):=by
 have aC:=zh hC;have HS:=zh hS;have HI:=zh hI;have HM:=zh hm;have cy:=zh hi
 have HK:=zh hk
 obtain⟨R,hR⟩:∃R,ej T sub s=R:=⟨_,rfl⟩
 have IM:Hid (isQ T [41] s=true→R=([],s)):=zh (fun h=>by rw [←hR];unfold ej;rw [if_pos h])
 have HRN:Hid (isQ T [41] s=false→gD T sub 8 ([],s)=R):=zh (fun h=>by rw [←hR];unfold ej;rw [if_neg (by rw [h];decide)])
 rw [hR]
 clear hC hS hI hm hk hi hR
 go_enter Tryz.func118,Tryz.ntmps118
 go_wp2_with fail
 refine(KX.at (ws:=[[41]]) (HK.out.strs1 _ _) (List.mem_cons_self ..) (by decide)).mono ?_
 rintro e w1 ⟨rfl,hk⟩
 have HK:=zh (hk.few (List.sublist_cons_self _ _))
 obtain⟨a,ha⟩:∃a,isQ T [41] s=a:=⟨_,rfl⟩
 rw [at_one aC.out (by decide),ha]
 have HV:=zh ha
 clear hk ha
 cases a
 ·have HR:=zh (HRN.out HV.out)
  go_wp2_with fail
  go_loopw [5,9] (fun kv jv wr=>∃(j:Nat) (r:RT) (N':List Nd) (bY:Value) (vs:List Int),j≤8∧jv=.int .i64 j∧Hid (KX b bb T D n A0 aZ w0 wr r.2 r.2.i N' bY ((kv,.ints vs)::L))∧Hid (bU 0 N s r N' vs)∧Hid (gD T sub (8 - j) r=R)∧Hid (vs.length≤2*j)∧Hid (s.e≠0→r.2.e≠0)∧Hid (r.2.inn=false)) (fun _ jv _=>8 - (intOf jv).toNat)
  case atStart=>exact⟨0,([],s),N,vn,[],Nat.zero_le _,rfl,zh HK.out.nilS,zh (bU.nil N s),HR,zh (Nat.le_refl _),zh (fun h=>h),cy⟩
  case round=>
   clear HK HR
   obtain⟨j,r,N',bY,vs,hj,rfl,HK,HA,HR,kt,bL,cy⟩:=hrel
   by_cases hlt:j<8
   ·have d1:decide ((j:Int)<8)=true:=zd (by omega)
    have uR:decide (j<8)=true:=zd hlt
    obtain⟨m,hm⟩:∃m,8 - j=m+1:=⟨7 - j,by omega⟩
    have HMM:=zh hm
    have Tp:Hid (gD T sub (8 - j) r=if isQ T [44] (sub r.2).2=true then gD T sub m (r.1++(sub r.2).1++(ac T (sub r.2).2).1,(ac T (sub r.2).2).2) else (r.1++(sub r.2).1,(sub r.2).2)):=zh (by rw [hm,gD])
    rw [Tp.out] at HR
    clear hm Tp
    go_wp2_with fail
    refine(HS.out _ _ _ _ _ _ _ _ g cy.out HK.out (List.mem_cons_of_mem _ HM.out)).mono ?_
    rintro e w2 ⟨v9,N9,cD,rfl,al,am,aG⟩
    have HK:=zh al;have HA:=zh (HA.out.app am.out aG);have bL:=zh (fun h=>aG (bL.out h));have cy:=zh (HI.out _ cy.out)
    clear al am aG
    go_wp2_with (at_builtin;go_loud (refine ba rfl _ _ rfl (HK.out.ints1 v9) (List.sublist_cons_self _ _) rfl rfl (l2:=[v9]) rfl (ol _ _) (by have:=kt.out;omega) (by simp) ?_))
    intro kv2 w3 Jt
    have HK:=zh Jt;have kt:Hid ((vs++[v9]).length≤2*j+1):=zh (by have:=kt.out;rw [List.length_append];show vs.length+1≤_;omega)
    clear Jt
    go_wp2_with fail
    refine(KX.at (ws:=[[44]]) (HK.out.strs1 _ _) (List.mem_cons_self ..) (by decide)).mono ?_
    rintro e w4 ⟨rfl,hk⟩
    have HK:=zh (hk.few (List.sublist_cons_self _ _))
    obtain⟨a,ha⟩:∃a,isQ T [44] (sub r.2).2=a:=⟨_,rfl⟩
    rw [at_one aC.out (by decide),ha]
    rw [ha] at HR
    have HV:=zh ha
    clear hk ha
    cases a
    ·rw [if_neg (by decide)] at HR
     go_wp2_with fail
     go_ret
     rw [←HR.out]
     exact⟨_,_,_,_,rfl,HK.out,HA.out.weak (Nat.zero_le _),bL.out,by have:=kt.out;omega⟩
    ·rw [if_pos rfl] at HR
     have aP:=zh (af HV.out)
     go_wp2_with fail
     refine(HK.out.take aC.out aP.out.1 aP.out.2).mono ?_
     rintro e w5 ⟨v8,N8,Yq,rfl,qT,Y5,VV⟩
     have HK:=zh qT;have HA:=zh (HA.out.app Y5.out VV);have bL:=zh (fun h=>VV (bL.out h));have cy:=zh ((aq T aP.out.2).inn.trans cy.out)
     clear qT Y5 VV
     go_wp2_with (at_builtin;go_loud (refine ba rfl _ _ rfl (HK.out.ints1 v8) (List.sublist_cons_self _ _) rfl rfl (l2:=[v8]) rfl (ol _ _) (by have:=kt.out;omega) (by simp) ?_))
     intro kv3 w6 qG
     have HK:=zh qG;have kt:Hid ((vs++[v9,v8]).length≤2*(j+1)):=zh (by have:=kt.out;rw [List.length_append] at this ⊢;simp only [List.length_cons,List.length_nil] at this ⊢;omega)
     clear qG
     have ZX:Hid (8 - (j+1)=m):=zh (by have:=HMM.out;omega)
     go_wp2_with fail
     go_roundw
     case rel=>exact⟨j+1,(r.1++(sub r.2).1++(ac T (sub r.2).2).1,(ac T (sub r.2).2).2),N8,Yq,vs++[v9,v8],by omega,by go_num,HK,zh (by have h9:=HA.out.weak (Nat.zero_le _);rw [List.append_assoc vs] at h9;exact h9),zh (by rw [ZX.out];exact HR.out),kt,bL,cy⟩
     case measure=>(simp [intOf]<;>omega)
   ·obtain rfl:j=8:=by omega
    have d1:decide (((8:Nat):Int)<8)=false:=by decide
    have Ur:Hid (R=(r.1,aB T 15 r.2)):=zh (by rw [←HR.out];rfl)
    go_wp2_with fail
    refine(HK.out.fail 15 (by decide)).mono ?_
    rintro e w2 ⟨v9,N9,cD,rfl,al,am,aG⟩
    have HK:=zh al;have HA:=zh (HA.out.app am.out aG);have bL:=zh (fun h=>aG (bL.out h))
    clear al am aG
    go_wp2_with fail
    go_ret
    rw [Ur.out]
    exact⟨_,_,_,_,rfl,HK.out,⟨fun e=>absurd e (cC T (by decide) _),HA.out.2⟩,bL.out,by have:=kt.out;omega⟩
 ·go_wp2_with fail
  go_ret
  rw [IM.out HV.out]
  exact⟨_,[],N,vn,rfl,HK.out.nilS,bU.nil N s,fun h=>h,by simp⟩
end
end Go.Proofs.YtjbgnopnehgbaaaGreatDoor
namespace Go.Proofs.YtjbgnopnehgbaaaGreatDoor
open Go.RowKit
section
variable {b bb:Nat} {T:List Tok} {D n:Nat} {A0:Nat→Prop} {aZ:Value} {w0 w w':World} {s:St} {u:Nat} {N:List Nd} {vn:Value} {L:List (Value×Th)}
theorem aeH (w:World) (x y:Int):VAt (w.alloc (.cells #[.int .i64 x,.int .i64 y] 3)) (some ⟨w.heap.size,0,none⟩) (bo [x,y]):=by
 refine .inr ⟨w.heap.size,0,rfl,by simp,fun j v hj=>?_⟩
 rw [Nat.zero_add,cell_of_row _ _ j _ _ (0,0) (heap_alloc_new w _)]
 simpa [bo] using hj
theorem Pp (w:World) (x y z:Int):VAt (w.alloc (.cells #[.int .i64 x,.int .i64 y,.int .i64 z] 3)) (some ⟨w.heap.size,0,none⟩) (bo [x,y,z]):=by
 refine .inr ⟨w.heap.size,0,rfl,by simp,fun j v hj=>?_⟩
 rw [Nat.zero_add,cell_of_row _ _ j _ _ (0,0) (heap_alloc_new w _)]
 simpa [bo] using hj
theorem Em (h:¬((ac T s).2.inn=true∨(isQ T [46] (ac T s).2=false∧isQ T [40] (ac T s).2=false))) {nt:NxT}:dq T nt s=gF T (bG T nt (bN T (bO T (ac T s)))):=by unfold dq;rw [if_neg h]
theorem xX (h:(ac T s).2.inn=true∨(isQ T [46] (ac T s).2=false∧isQ T [40] (ac T s).2=false)) {nt:NxT}:dq T nt s=([.nd 14 (ac T s).1],(ac T s).2):=by unfold dq;rw [if_pos h]
theorem BB {nt:NxT} {c d:RT} (h:Eqv d (ej T nt.expr c.2)) (he:Eqv (ej T nt.expr c.2) (if isQ T [41] c.2=true then ([],c.2) else jn T nt c.2)):
  Eqv ([.nd 13 (c.1++d.1++(aj T [41] d.2).1)],(aj T [41] d.2).2) (gF T (bG T nt c)):=by
 have h1:d.2=(bG T nt c).2∧((bG T nt c).2.e=0→c.1++d.1=(bG T nt c).1):=by
  unfold bG
  by_cases hq:isQ T [41] c.2=true
  ·rw [if_pos hq] at he
   rw [if_pos hq]
   exact⟨h.1.trans he.1,fun e=>by rw [h.2 (by rw [he.1];exact e),he.2 e,List.append_nil]⟩
  ·rw [if_neg hq] at he
   rw [if_neg hq]
   exact⟨h.1.trans he.1,fun e=>by rw [h.2 (by rw [he.1];exact e),he.2 e]⟩
 unfold gF
 rw [h1.1]
 refine⟨rfl,fun e=>?_⟩
 have h2:(bG T nt c).2.e=0:=by
  rcases Nat.eq_zero_or_pos (bG T nt c).2.e with h | h
  ·exact h
  ·exact absurd e (by show ¬(aj T [41] (bG T nt c).2).2.e=0;rw [(ar T [41] (bG T nt c).2).dead (by omega)];omega)
 show [Tr.nd 13 _] = [Tr.nd 13 _]
 rw [h1.2 h2]
end
section
variable (b bb:Nat) (T:List Tok) (D n:Nat)
theorem Xf (hX:bX b bb T D n (fun s=>s.inn=false) 121 (NT T D n).expr):PK b bb T D n (fun s=>s.inn=false) 182 (NT T D n).expr:=by
 intro A0 aZ w0 w s N vn L g hP hk hm
 have sy:=zh hX;have HK:=zh hk;have sK:=zh hP
 have c0:=hk.boxc hm
 clear hX hk hP hm
 go_enter Tryz.func182,Tryz.ntmps182
 go_wp2_with fail
 refine(HK.out.sub sy.out sK.out).mono ?_
 rintro e w9 ⟨v9,N9,cD,rfl,al,am,aG⟩
 have HQ:Hid (jm b bb T D n 0 A0 aZ w0 s ((NT T D n).expr s) N L (.returned (.int .i64 v9)) w9):=zh ⟨v9,N9,cD,rfl,al,am,aG⟩
 clear al am aG
 go_wp2_with fail
 go_ret
 exact HQ.out
theorem PX (hC:cN T) (hX:bX b bb T D n (fun s=>s.inn=false) 121 (NT T D n).expr):bX b bb T D n (fun s=>s.e=0∧(an T s).kind=1) 181 (dq T (NT T D n)):=by
 intro s N vn A w hP h
 have aC:=zh hC
 have aP:=zh (show(an T s).kind≠5∧s.e=0 from⟨by omega,hP.1⟩)
 have cW:=zh h.few
 have HSF:=zh (Xf b bb T D n hX)
 have Jp:=zh (fi T D (D - n)).expr
 have FE:=zh (fun (s:St) (hi:s.i≤T.length)=>tK T (dF T D (D - n)).expr (fun s he=>((fi T D (D - n)).expr s).dead he) s hi)
 obtain⟨g,hg⟩:∃g,w.heap.size=g:=⟨_,rfl⟩
 have HK:Hid (KX b bb T D n A vn w (w.alloc (.cells #[.pointer (some ⟨b,0,none⟩)] 71)) s s.i N vn [(mv g,nW b)]):=zh (by rw [←hg];exact(KX.start h).boxed _ _)
 have c0:=HK.out.boxc (List.mem_cons_self ..)
 have HA:=zh (bU.nil N s)
 clear h hX hC hP
 go_enter Tryz.func181,Tryz.ntmps181
 go_wp2_with fail
 try rw [hg]
 refine(HK.out.take aC.out aP.out.1 aP.out.2).mono ?_
 rintro e w1 ⟨v3,N1,vt,rfl,hk,ho,hd⟩
 have HK:=zh hk;have HO:=zh ho;have HA:=zh (HA.out.app ho.out hd);have bL:Hid (s.e≠0→(ac T s).2.e≠0):=zh hd
 have vB:=zh (mN T aP.out.2)
 clear hk ho hd c0 hg
 have c0:=HK.out.boxc (List.mem_cons_self ..)
 have d0:=HK.out.cell
 have d7:=HK.out.innc
 obtain⟨I,hI⟩:∃I,(ac T s).2.inn=I:=⟨_,rfl⟩
 have HI:=zh hI
 rw [hI] at d7
 clear hI
 cases I
 rotate_left
 ·go_wp2_with fail
  refine(KX.node (k:=0) (kind:=14) (HK.out.ints1 _) (List.mem_cons_self ..) aC.out.len HO.out rfl cW.out (by simp)).mono ?_
  rintro e w9 ⟨v9,N9,cD,rfl,al,am⟩
  have HQ:=zh (KX.fin am al bL.out (r':=dq T (NT T D n) s) (by rw [xX (.inl HI.out)];exact Eqv.refl _))
  clear al am
  go_wp2_with fail
  go_ret
  exact HQ.out
 ·go_wp2_with fail
  refine(KX.at (ws:=[[46],[40]]) (HK.out.strs2 _ _ _) (List.mem_cons_self ..) (by decide)).mono ?_
  rintro e w2 ⟨rfl,hk⟩
  have HK:=zh (hk.few (List.sublist_cons_self _ _))
  obtain⟨b2,hb⟩:∃b2,atQ T [[46],[40]] (ac T s).2=b2:=⟨_,rfl⟩
  rw [hb]
  have vv:Hid ((isQ T [46] (ac T s).2 || isQ T [40] (ac T s).2)=b2):=zh (by rw [←hb,jh aC.out (by decide)];simp)
  clear hk hb c0 d0 d7
  have c0:=HK.out.boxc (List.mem_cons_self ..)
  have d0:=HK.out.cell
  cases b2
  ·go_wp2_with fail
   refine(KX.node (k:=0) (kind:=14) (HK.out.ints1 _) (List.mem_cons_self ..) aC.out.len HO.out rfl cW.out (by simp)).mono ?_
   rintro e w9 ⟨v9,N9,cD,rfl,al,am⟩
   have HQ:=zh (KX.fin am al bL.out (r':=dq T (NT T D n) s) (by rw [xX (.inr (Bool.or_eq_false_iff.1 vv.out))];exact Eqv.refl _))
   clear al am
   go_wp2_with fail
   go_ret
   exact HQ.out
  ·have CC:=zh (Em (T:=T) (s:=s) (nt:=NT T D n) (fun e=>by
    rcases e with e | e
    ·rw [HI.out] at e;cases e
    ·have h9:=vv.out;rw [e.1,e.2] at h9;cases h9))
   have HK:=zh (HK.out.ints1 v3)
   clear c0 d0
   have c0:=HK.out.boxc (List.mem_cons_of_mem _ (List.mem_cons_self ..))
   go_wp2_with fail
   refine(KX.atx (ws:=[[46]]) (HK.out.strs1 _ _) ⟨_,by simp,List.mem_cons_self ..⟩ (by decide)).mono ?_
   rintro e w3 ⟨rfl,hk⟩
   have HK:=zh (hk.few (List.sublist_cons_self _ _))
   obtain⟨b3,hb⟩:∃b3,isQ T [46] (ac T s).2=b3:=⟨_,rfl⟩
   rw [at_one aC.out (by decide),hb]
   have DS:=zh hb
   clear hk hb c0
   cases b3
   ·obtain⟨a,vs,O6,HK,HA,kt,bL,cy⟩:∃(a:RT) (vs:List Int),Hid (bO T (ac T s)=a)∧Hid (KX b bb T D n A vn w w3 a.2 a.2.i N1 vt [(.slice (some ⟨w2.heap.size,0,none⟩) 1 1,.ints vs),(mv g,nW b)])∧Hid (bU 1 N s a N1 vs)∧Hid (vs.length≤3)∧Hid (s.e≠0→a.2.e≠0)∧Hid (a.2.inn=false):=
     ⟨ac T s,[v3],zh (by unfold bO;rw [if_neg (by rw [DS.out];decide)]),HK,zh HO.out.out,zh (by simp),bL,HI⟩
    have c0:=HK.out.boxc (List.mem_cons_of_mem _ (List.mem_cons_self ..))
    go_wp2_with fail
    refine(KX.one1 [40] (HK.out.strs1 _ _) aC.out (by decide) ⟨_,rfl,List.mem_cons_self ..⟩).mono ?_
    rintro e w5 ⟨v5,N5,XL,rfl,hk,ho,hd⟩
    have HK:=zh (hk.few (List.sublist_cons_self _ _));have cy:=zh ((ar T [40] a.2).inn.trans cy.out)
    obtain⟨l5,za⟩:∃l5,vs++[v5]=l5:=⟨_,rfl⟩
    have OA:Hid (l5.length≤4):=zh (by rw [←za,List.length_append];have:=kt.out;simp;omega)
    have HA:Hid (bU 1 N s (bN T a) N5 l5):=zh (by rw [←za];exact(HA.out.app ho.out hd).weak (by decide));have bL:Hid (s.e≠0→(bN T a).2.e≠0):=zh (fun h=>hd (bL.out h))
    have P1:=zh za
    clear hk ho hd c0 za
    go_wp2_with (at_builtin;go_loud (refine ba rfl _ _ rfl (HK.out.ints1 v5) (List.sublist_cons_self _ _) rfl rfl (l2:=[v5]) rfl (ol _ _) (by have:=kt.out;omega) (by simp) ?_))
    intro kv6 w6 qG
    rw [P1.out] at qG
    have HK:Hid (KX b bb T D n A vn w w6 (bN T a).2 (bN T a).2.i N5 XL [(kv6,.ints l5),(mv g,nW b)]):=zh qG
    have cy:Hid ((bN T a).2.inn=false):=cy
    obtain⟨c,hc⟩:∃c,bN T a=c:=⟨_,rfl⟩
    have HCE:=zh hc
    rw [hc] at HK HA bL cy
    have XC:Hid (c.2.i≤T.length):=zh (Nat.le_of_lt HK.out.ok)
    clear qG hc
    have c0:=HK.out.boxc (List.mem_cons_of_mem _ (List.mem_cons_self ..))
    go_wp2_with fail
    refine(xg b bb T D n aC.out _ HSF.out (fun s hs=>((Jp.out s).inn).trans hs) HK.out (List.mem_cons_of_mem _ (List.mem_cons_self ..)) cy.out).mono ?_
    rintro e w7 ⟨lv,ls,N7,PB,rfl,zO,Fh,xe,sB⟩
    obtain⟨q7,c7,rfl,Ac,-,-⟩:=zO.list (List.mem_cons_self ..)
    have HK:=zh zO;have xI:=zh Ac;have Ji:=zh sB
    obtain⟨l7,yc⟩:∃l7,l5++ls=l7:=⟨_,rfl⟩
    have P2:=zh yc
    have ky:Hid (l7.length≤310):=zh (by rw [←yc,List.length_append];have:=OA.out;omega)
    have HA:Hid (bU 1 N s (c.1++(ej T (NT T D n).expr c.2).1,(ej T (NT T D n).expr c.2).2) N7 l7):=zh (by rw [←yc];exact(HA.out.app Fh xe).weak (by decide));have bL:=zh (fun h=>xe (bL.out h))
    obtain⟨m7,KM⟩:∃m7,ls.length=m7:=⟨_,rfl⟩
    have HM7:=zh KM
    rw [KM] at HK ⊢
    clear zO Fh xe sB Ac yc KM c0
    go_wp2_with (at_builtin;go_loud (refine ba rfl _ _ rfl HK.out (List.sublist_cons_self _ _) rfl rfl (l2:=ls) HM7.out xI.out (by have:=OA.out;omega) (by have:=Ji.out;omega) ?_))
    intro kv8 w8 qT
    rw [P2.out] at qT
    have HK:=zh qT;have HBM:Hid ((mv g,nW b)∈[(kv8,Th.ints l7),(mv g,nW b)]):=zh (List.mem_cons_of_mem _ (List.mem_cons_self ..))
    clear qT
    go_wp2_with fail
    have bP:=HK
    have HK:=zh HK.out.drew
    have dD:Hid ([41]∈KS):=zh (by decide)
    go_region_held3 (fun w'=>w'.cell? ⟨g,0,none⟩=some (.pointer (some ⟨b,0,none⟩))∧w'.cell? ⟨b,0,none⟩=some (.pointer (some ⟨bb,0,none⟩))) (first | exact⟨HK.out.boxc (by first | exact(List.mem_cons_of_mem _ (List.mem_cons_self ..)) | exact(List.mem_cons_of_mem _ (List.mem_cons_of_mem _ (List.mem_cons_self ..)))),HK.out.cell⟩ | exact⟨(HK.out.alloc _).boxc (by first | exact(List.mem_cons_of_mem _ (List.mem_cons_self ..)) | exact(List.mem_cons_of_mem _ (List.mem_cons_of_mem _ (List.mem_cons_self ..)))),(HK.out.alloc _).cell⟩ | exact⟨(bP.out.alloc _).drew.boxc (by first | exact(List.mem_cons_of_mem _ (List.mem_cons_self ..)) | exact(List.mem_cons_of_mem _ (List.mem_cons_of_mem _ (List.mem_cons_self ..)))),(bP.out.alloc _).drew.cell⟩ | exact⟨((HK.out.alloc _).alloc _).boxc (by first | exact(List.mem_cons_of_mem _ (List.mem_cons_self ..)) | exact(List.mem_cons_of_mem _ (List.mem_cons_of_mem _ (List.mem_cons_self ..)))),((HK.out.alloc _).alloc _).cell⟩)
     (first
      | (refine mW rfl _ _ rfl ((HK.out.few (List.sublist_cons_self _ _)).ints1 _) (List.sublist_cons_self _ _) rfl rfl (l2:=[_]) rfl (ol _ _) (by have:=ky.out;omega) (by simp) ?_;intro v8 w9 al;have HK:=zh al;clear al)
      | (go_at_call 78;(first | with_reducible refine(KX.one1 [41] (HK.out.strs1 _ _) aC.out dD.out ?_).mono ?_ | with_reducible refine(KX.one1 [41] (bP.out.strs1 _ _).drew aC.out dD.out ?_).mono ?_);(refine⟨_,?_,List.mem_cons_self ..⟩;first | rfl | (simp;done));rintro e w9 ⟨v9,N9,cD,rfl,al,am,aG⟩;have HK:=zh al;have HD:=zh (aQ.app HA.out am aG);clear al am aG)
      | (go_at_call 45;have kO:=zh (HD.out.weak (j:=0+1) (by decide));refine(KX.node (k:=0) (kind:=13) HK.out ?_ aC.out.len kO.out ?_ cW.out ?_).mono ?_;exact List.mem_cons_self ..;rfl;(have:=ky.out;rw [List.length_append];simp;omega);rintro e w9 ⟨v9,N9,cD,rfl,al,am⟩;have HK:=zh al;have HZ:=zh am;clear al am))
    all_goals
     have HQ:=zh (KX.fin HZ.out HK.out (fun he=>absurd aP.out.2 he) (r':=dq T (NT T D n) s) (by rw [CC.out,O6.out,HCE.out];exact BB (Eqv.refl _) (FE.out c.2 XC.out)))
     go_wp2_with fail
     go_ret
     exact HQ.out
   ·have SW:=zh (af DS.out)
    go_wp2_with fail
    have bP:=HK
    have HK:=zh HK.out.drew
    have HA:=zh HO.out.out
    have HBM:Hid ((mv g,nW b)∈[(.slice (some ⟨w2.heap.size,0,none⟩) 1 1,Th.ints [v3]),(mv g,nW b)]):=zh (List.mem_cons_of_mem _ (List.mem_cons_self ..))
    go_region_held3 (fun w'=>w'.cell? ⟨g,0,none⟩=some (.pointer (some ⟨b,0,none⟩))) (first | exact HK.out.boxc (List.mem_cons_of_mem _ (List.mem_cons_self ..)) | exact(HK.out.alloc _).boxc (List.mem_cons_of_mem _ (List.mem_cons_self ..)))
     (first
      | (refine mW rfl _ _ rfl (HK.out.ints2 _ _) (List.sublist_cons_self _ _) rfl rfl (l2:=[_,_]) rfl (aeH _ _ _) (by simp) (by simp) ?_;intro kv4 w9 al;have HK:=zh al;clear al)
      | (go_at_call 79;(with_reducible refine(HK.out.take aC.out SW.out.1 SW.out.2).mono ?_);rintro e w9 ⟨v9,N9,cD,rfl,al,am,aG⟩;have HK:=zh al;have HA:=zh (HA.out.app am.out aG);clear al am aG)
      | (go_at_call 46;(with_reducible refine(HK.out.word aC.out).mono ?_);rintro e w9 ⟨v9,N9,cD,rfl,al,am,aG⟩;have HK:=zh al;have HA:=zh (HA.out.app am.out aG);clear al am aG))
    all_goals
     obtain⟨a,vs,O6,HK,HA,kt,bL,cy⟩:∃(a:RT) (vs:List Int),Hid (bO T (ac T s)=a)∧Hid (KX b bb T D n A vn w w9 a.2 a.2.i N9 cD [(kv4,.ints vs),(mv g,nW b)])∧Hid (bU 1 N s a N9 vs)∧Hid (vs.length≤3)∧Hid (s.e≠0→a.2.e≠0)∧Hid (a.2.inn=false):=
      ⟨((ac T s).1++(ac T (ac T s).2).1++(aA T 1 (ac T (ac T s).2).2).1,(aA T 1 (ac T (ac T s).2).2).2),_,zh (by unfold bO;rw [if_pos DS.out]),HK,zh (by have h9:=HA.out.weak (j:=1) (by decide);rw [List.append_assoc [v3]] at h9;exact h9),zh (by simp),zh (fun h=>absurd aP.out.2 h),zh ((bE T 1 _).inn.trans ((aq T SW.out.2).inn.trans HI.out))⟩
     have c0:=HK.out.boxc (List.mem_cons_of_mem _ (List.mem_cons_self ..))
     go_wp2_with fail
     refine(KX.one1 [40] (HK.out.strs1 _ _) aC.out (by decide) ⟨_,rfl,List.mem_cons_self ..⟩).mono ?_
     rintro e w5 ⟨v5,N5,XL,rfl,hk,ho,hd⟩
     have HK:=zh (hk.few (List.sublist_cons_self _ _));have cy:=zh ((ar T [40] a.2).inn.trans cy.out)
     obtain⟨l5,za⟩:∃l5,vs++[v5]=l5:=⟨_,rfl⟩
     have OA:Hid (l5.length≤4):=zh (by rw [←za,List.length_append];have:=kt.out;simp;omega)
     have HA:Hid (bU 1 N s (bN T a) N5 l5):=zh (by rw [←za];exact(HA.out.app ho.out hd).weak (by decide));have bL:Hid (s.e≠0→(bN T a).2.e≠0):=zh (fun h=>hd (bL.out h))
     have P1:=zh za
     clear hk ho hd c0 za
     go_wp2_with (at_builtin;go_loud (refine ba rfl _ _ rfl (HK.out.ints1 v5) (List.sublist_cons_self _ _) rfl rfl (l2:=[v5]) rfl (ol _ _) (by have:=kt.out;omega) (by simp) ?_))
     intro kv6 w6 qG
     rw [P1.out] at qG
     have HK:Hid (KX b bb T D n A vn w w6 (bN T a).2 (bN T a).2.i N5 XL [(kv6,.ints l5),(mv g,nW b)]):=zh qG
     have cy:Hid ((bN T a).2.inn=false):=cy
     obtain⟨c,hc⟩:∃c,bN T a=c:=⟨_,rfl⟩
     have HCE:=zh hc
     rw [hc] at HK HA bL cy
     have XC:Hid (c.2.i≤T.length):=zh (Nat.le_of_lt HK.out.ok)
     clear qG hc
     have c0:=HK.out.boxc (List.mem_cons_of_mem _ (List.mem_cons_self ..))
     go_wp2_with fail
     refine(xg b bb T D n aC.out _ HSF.out (fun s hs=>((Jp.out s).inn).trans hs) HK.out (List.mem_cons_of_mem _ (List.mem_cons_self ..)) cy.out).mono ?_
     rintro e w7 ⟨lv,ls,N7,PB,rfl,zO,Fh,xe,sB⟩
     obtain⟨q7,c7,rfl,Ac,-,-⟩:=zO.list (List.mem_cons_self ..)
     have HK:=zh zO;have xI:=zh Ac;have Ji:=zh sB
     obtain⟨l7,yc⟩:∃l7,l5++ls=l7:=⟨_,rfl⟩
     have P2:=zh yc
     have ky:Hid (l7.length≤310):=zh (by rw [←yc,List.length_append];have:=OA.out;omega)
     have HA:Hid (bU 1 N s (c.1++(ej T (NT T D n).expr c.2).1,(ej T (NT T D n).expr c.2).2) N7 l7):=zh (by rw [←yc];exact(HA.out.app Fh xe).weak (by decide));have bL:=zh (fun h=>xe (bL.out h))
     obtain⟨m7,KM⟩:∃m7,ls.length=m7:=⟨_,rfl⟩
     have HM7:=zh KM
     rw [KM] at HK ⊢
     clear zO Fh xe sB Ac yc KM c0
     go_wp2_with (at_builtin;go_loud (refine ba rfl _ _ rfl HK.out (List.sublist_cons_self _ _) rfl rfl (l2:=ls) HM7.out xI.out (by have:=OA.out;omega) (by have:=Ji.out;omega) ?_))
     intro kv8 w8 qT
     rw [P2.out] at qT
     have HK:=zh qT;have HBM:Hid ((mv g,nW b)∈[(kv8,Th.ints l7),(mv g,nW b)]):=zh (List.mem_cons_of_mem _ (List.mem_cons_self ..))
     clear qT
     go_wp2_with fail
     have bP:=HK
     have HK:=zh HK.out.drew
     have dD:Hid ([41]∈KS):=zh (by decide)
     go_region_held3 (fun w'=>w'.cell? ⟨g,0,none⟩=some (.pointer (some ⟨b,0,none⟩))∧w'.cell? ⟨b,0,none⟩=some (.pointer (some ⟨bb,0,none⟩))) (first | exact⟨HK.out.boxc (by first | exact(List.mem_cons_of_mem _ (List.mem_cons_self ..)) | exact(List.mem_cons_of_mem _ (List.mem_cons_of_mem _ (List.mem_cons_self ..)))),HK.out.cell⟩ | exact⟨(HK.out.alloc _).boxc (by first | exact(List.mem_cons_of_mem _ (List.mem_cons_self ..)) | exact(List.mem_cons_of_mem _ (List.mem_cons_of_mem _ (List.mem_cons_self ..)))),(HK.out.alloc _).cell⟩ | exact⟨(bP.out.alloc _).drew.boxc (by first | exact(List.mem_cons_of_mem _ (List.mem_cons_self ..)) | exact(List.mem_cons_of_mem _ (List.mem_cons_of_mem _ (List.mem_cons_self ..)))),(bP.out.alloc _).drew.cell⟩ | exact⟨((HK.out.alloc _).alloc _).boxc (by first | exact(List.mem_cons_of_mem _ (List.mem_cons_self ..)) | exact(List.mem_cons_of_mem _ (List.mem_cons_of_mem _ (List.mem_cons_self ..)))),((HK.out.alloc _).alloc _).cell⟩)
      (first
       | (refine mW rfl _ _ rfl ((HK.out.few (List.sublist_cons_self _ _)).ints1 _) (List.sublist_cons_self _ _) rfl rfl (l2:=[_]) rfl (ol _ _) (by have:=ky.out;omega) (by simp) ?_;intro v8 w9 al;have HK:=zh al;clear al)
       | (go_at_call 78;(first | with_reducible refine(KX.one1 [41] (HK.out.strs1 _ _) aC.out dD.out ?_).mono ?_ | with_reducible refine(KX.one1 [41] (bP.out.strs1 _ _).drew aC.out dD.out ?_).mono ?_);(refine⟨_,?_,List.mem_cons_self ..⟩;first | rfl | (simp;done));rintro e w9 ⟨v9,N9,cD,rfl,al,am,aG⟩;have HK:=zh al;have HD:=zh (aQ.app HA.out am aG);clear al am aG)
       | (go_at_call 45;have kO:=zh (HD.out.weak (j:=0+1) (by decide));refine(KX.node (k:=0) (kind:=13) HK.out ?_ aC.out.len kO.out ?_ cW.out ?_).mono ?_;exact List.mem_cons_self ..;rfl;(have:=ky.out;rw [List.length_append];simp;omega);rintro e w9 ⟨v9,N9,cD,rfl,al,am⟩;have HK:=zh al;have HZ:=zh am;clear al am))
     all_goals
      have HQ:=zh (KX.fin HZ.out HK.out (fun he=>absurd aP.out.2 he) (r':=dq T (NT T D n) s) (by rw [CC.out,O6.out,HCE.out];exact BB (Eqv.refl _) (FE.out c.2 XC.out)))
      go_wp2_with fail
      go_ret
      exact HQ.out
end
end Go.Proofs.YtjbgnopnehgbaaaGreatDoor
namespace Go.Proofs.YtjbgnopnehgbaaaGreatDoor
open Go.RowKit
section
variable {b bb:Nat} {T:List Tok} {D n:Nat} {A0:Nat→Prop} {aZ:Value} {w0 w w':World} {s:St} {u:Nat} {N:List Nd} {vn:Value} {L:List (Value×Th)}
theorem KX.setIn (hk:KX b bb T D n A0 aZ w0 w s u N vn L) (v:Bool):KX b bb T D n A0 aZ w0 (w.setCell ⟨b,7,none⟩ (.bool v)) (setIn v s) u N vn L:=by
 obtain⟨A,h1,h2,h3,h4,h5⟩:=hk
 have hf:Fr2 (ez b) w (w.setCell ⟨b,7,none⟩ (.bool v)):=(Fr2.refl _ _).setCell (bh b) _
 exact KX.go h2 h3 h4 h5 h1.lt (h1.turn (s':=Go.Proofs.YtjbgnopnehgbaaaGreatDoor.setIn v s) hf ((ab (i:=7) h1.box).trans rfl) h1.ok) (Step.self hf)
theorem KX.froz (hk:KX b bb T D n A0 aZ w0 w s u N vn L):∀o,w.frozen? ⟨b,o,none⟩=false:=by
 obtain⟨A,h1,-⟩:=hk
 exact(bZ h1.box).2.2.2.2.2.2.2.2.2.2
theorem KX.onex {v:Value} {ws:List (List UInt8)} (hk:KX b bb T D n A0 aZ w0 w s s.i N vn L) (hC:cN T) (hw:∀x∈ws,x∈KS) (hn:ws.length≤100) (hm:∃v',v'=v∧(v',Th.strs ws)∈L):Calls Tryz.prog 78 #[.pointer (some ⟨b,0,none⟩),v] w (jm b bb T D n 1 A0 aZ w0 s (ny T ws s) N L):=by
 obtain⟨v',rfl,hm⟩:=hm
 exact hk.one hC hm hn hw
theorem Db (v:Bool) (s:St):ac T (setIn v s)=((ac T s).1,setIn v (ac T s).2):=by
 unfold ac aI
 have e:an T (setIn v s)=an T s:=rfl
 rw [e]
 split<;>rfl
theorem tW (x:List UInt8) (v:Bool) (s:St):aj T x (setIn v s)=((aj T x s).1,setIn v (aj T x s).2):=by
 unfold aj
 have e:isQ T x (setIn v s)=isQ T x s:=rfl
 rw [e]
 split
 ·exact Db v s
 ·show(([]:List Tr),aB T 22 (setIn v s))=([],setIn v (aB T 22 s))
  unfold aB
  have e1:(setIn v s).e=s.e:=rfl
  rw [e1]
  split<;>rfl
end
def fO (T:List Tok) (et:St→RT) (s:St):RT:=
 ([.nd 6 ((ac T s).1++(et (setIn true (ac T s).2)).1++(aj T [125] (setIn false (et (setIn true (ac T s).2)).2)).1)],(aj T [125] (setIn false (et (setIn true (ac T s).2)).2)).2)
def oU (T:List Tok) (et:St→RT) (s:St):RT:=
 ([.nd 6 ((aj T [123] (setIn true s)).1++(et (aj T [123] (setIn true s)).2).1++(aj T [125] (et (aj T [123] (setIn true s)).2).2).1)],(aj T [125] (et (aj T [123] (setIn true s)).2).2).2)
theorem IR {T:List Tok} {et:St→RT} {s:St} (h:isQ T [123] s=true):((oU T et s).1,setIn false (oU T et s).2)=fO T et s:=by
 have e1:aj T [123] (setIn true s)=((ac T s).1,setIn true (ac T s).2):=by
  rw [tW]
  have:aj T [123] s=ac T s:=by unfold aj;rw [if_pos h]
  rw [this]
 unfold oU fO
 rw [e1,tW]
section
variable (b bb:Nat) (T:List Tok) (D:Nat)
theorem NH (hC:cN T) (hD:D≤200) (hB:0<D→bX b bb T D 1 (fun _=>True) 96 (ay T D 1 (NT T D 1))):bX b bb T D 0 (fun s=>s.inn=false∧isQ T [123] s=true) 120 (fO T (NT T D 0).expr):=by
 intro s N vn A w hP h
 have aC:=zh hC;have sK:=zh hP
 have Il:=zh (fun (s:St) (N:List Nd) (vn:Value) (A:Nat→Prop) (w:World) (hi:s.inn=true) h=>(gK b bb T D 0 hD (Nat.zero_le _) (fun _=>True) _ hB s N vn A w trivial h).mono (fun e w' hp=>hp.eqv (ql T (Nat.zero_le _) s hi)))
 have Sq:Hid ((aj T [123] (setIn true s)).2.inn=true):=zh (ar T [123] (setIn true s)).inn
 have dD:Hid ([123]∈KS):=zh (by decide)
 have fC:Hid ([125]∈KS):=zh (by decide)
 have cW:Hid (N.length≤2*(setIn true s).i):=zh h.few
 have HK:=zh (KX.start h)
 have d7:=HK.out.innc
 have d0:=HK.out.cell
 have lK:=HK.out.froz
 have HK:Hid (KX b bb T D 0 A vn w (w.setCell ⟨b,7,none⟩ (.bool true)) (setIn true s) (setIn true s).i N vn []):=zh (HK.out.setIn true)
 have HA:=zh (bU.nil N (setIn true s))
 clear h hC hP hD hB
 go_enter Tryz.func120,Tryz.ntmps120
 go_wp2_with fail
 clear d7 d0 lK
 generalize (w.setCell ⟨b,7,none⟩ (.bool true))=W1 at *
 have bP:=HK
 have HK:=zh HK.out.drew
 go_region_held3 (fun w'=>w'.cell? ⟨b,0,none⟩=some (.pointer (some ⟨bb,0,none⟩))) (first | with_reducible exact HK.out.cell | with_reducible exact(HK.out.alloc _).cell | with_reducible exact(bP.out.alloc _).drew.cell | with_reducible exact((HK.out.alloc _).alloc _).cell | with_reducible exact((bP.out.alloc _).alloc _).drew.cell | with_reducible exact(((HK.out.alloc _).alloc _).alloc _).cell)
  (first
   | (go_at_call 45;have kO:=zh (HD.out.weak (j:=0+1) (by decide));refine(KX.node (k:=0) (kind:=6) (HK.out.ints3 _ _ _ ) ?_ aC.out.len kO.out ?_ cW.out ?_).mono ?_;exact List.mem_cons_self ..;rfl;simp;rintro e w9 ⟨v9,N9,cD,rfl,al,am⟩;have HK:=zh al;have HZ:=zh am;clear al am)
   | (go_at_call 82;(first | with_reducible refine(HK.out.call (fun A h=>Il.out _ _ _ A _ Sq.out h)).mono ?_ | with_reducible refine((HK.out.strs1 _ _).call (fun A h=>Il.out _ _ _ A _ Sq.out h)).mono ?_ | with_reducible refine((bP.out.strs1 _ _).drew.call (fun A h=>Il.out _ _ _ A _ Sq.out h)).mono ?_ | with_reducible refine(((HK.out.strs1 _ _).strs1 _ _).call (fun A h=>Il.out _ _ _ A _ Sq.out h)).mono ?_ | with_reducible refine(((bP.out.strs1 _ _).strs1 _ _).drew.call (fun A h=>Il.out _ _ _ A _ Sq.out h)).mono ?_);rintro e w9 ⟨v9,N9,cD,rfl,al,am,aG⟩;have HK:=zh al;have HD:=zh (aQ.app HA.out am aG);have HA:=zh HD.out.out;clear al am aG)
   | (go_at_call 78;(first | with_reducible refine(KX.one1 [123] HK.out aC.out dD.out ?_).mono ?_ | with_reducible refine(KX.one1 [123] (HK.out.strs1 _ _) aC.out dD.out ?_).mono ?_ | with_reducible refine(KX.one1 [123] (bP.out.strs1 _ _).drew aC.out dD.out ?_).mono ?_ | with_reducible refine(KX.one1 [123] ((HK.out.strs1 _ _).strs1 _ _) aC.out dD.out ?_).mono ?_ | with_reducible refine(KX.one1 [123] ((bP.out.strs1 _ _).strs1 _ _).drew aC.out dD.out ?_).mono ?_);(first | (refine⟨_,?_,List.mem_cons_self ..⟩;focus (simp;done)) | (refine⟨_,?_,List.mem_cons_of_mem _ (List.mem_cons_self ..)⟩;focus (simp;done)) | (refine⟨_,?_,List.mem_cons_of_mem _ (List.mem_cons_of_mem _ (List.mem_cons_self ..))⟩;focus (simp;done)));rintro e w9 ⟨v9,N9,cD,rfl,al,am,aG⟩;have HK:=zh al;have HD:=zh (aQ.app HA.out am aG);have HA:=zh HD.out.out;clear al am aG)
   | (go_at_call 78;(first | with_reducible refine(KX.one1 [125] HK.out aC.out fC.out ?_).mono ?_ | with_reducible refine(KX.one1 [125] (HK.out.strs1 _ _) aC.out fC.out ?_).mono ?_ | with_reducible refine(KX.one1 [125] (bP.out.strs1 _ _).drew aC.out fC.out ?_).mono ?_ | with_reducible refine(KX.one1 [125] ((HK.out.strs1 _ _).strs1 _ _) aC.out fC.out ?_).mono ?_ | with_reducible refine(KX.one1 [125] ((bP.out.strs1 _ _).strs1 _ _).drew aC.out fC.out ?_).mono ?_);(first | (refine⟨_,?_,List.mem_cons_self ..⟩;focus (simp;done)) | (refine⟨_,?_,List.mem_cons_of_mem _ (List.mem_cons_self ..)⟩;focus (simp;done)) | (refine⟨_,?_,List.mem_cons_of_mem _ (List.mem_cons_of_mem _ (List.mem_cons_self ..))⟩;focus (simp;done)));rintro e w9 ⟨v9,N9,cD,rfl,al,am,aG⟩;have HK:=zh al;have HD:=zh (aQ.app HA.out am aG);have HA:=zh HD.out.out;clear al am aG))
 all_goals
  have T1:Hid (aQ 0 N s ((oU T (NT T D 0).expr s).1,setIn false (oU T (NT T D 0).expr s).2) N9 [v9]):=zh ⟨⟨HZ.out.out.1,HZ.out.out.2⟩,HZ.out.dead⟩
  have HQ:=zh (KX.fin T1.out (HK.out.setIn false) (fun he=>absurd (af sK.out.2).2 he) (r':=fO T (NT T D 0).expr s) (by rw [IR sK.out.2];exact Eqv.refl _))
  have d7:=HK.out.innc
  have lK:=HK.out.froz
  go_wp2_with fail
  go_ret
  exact HQ.out
def mC (b bb:Nat) (T:List Tok) (D n k:Nat) (A0:Nat→Prop) (aZ:Value) (w0:World) (s:St) (r:RT) (N:List Nd) (L:List (Value×Th)) (e:Ending) (w':World):Prop:=
 ∃(v:Value) (vs:List Int) (N':List Nd) (bY:Value),e=.returned v∧KX b bb T D n A0 aZ w0 w' r.2 r.2.i N' bY ((v,.ints vs)::L)∧aQ k N s r N' vs∧(s.e≠0→r.2.e≠0)∧vs.length≤300
theorem mC.eqv {b bb:Nat} {T:List Tok} {D n k:Nat} {A0:Nat→Prop} {aZ:Value} {w0:World} {s:St} {r r':RT} {N:List Nd} {L:List (Value×Th)} {e:Ending} {w':World} (h:mC b bb T D n k A0 aZ w0 s r N L e w') (he:Eqv r r'):mC b bb T D n k A0 aZ w0 s r' N L e w':=by
 obtain⟨v,vs,N',bY,h1,h2,h3,h4,h5⟩:=h
 exact⟨v,vs,N',bY,h1,he.1▸h2,h3.eqv he,fun h=>by rw [←he.1];exact h4 h,h5⟩
def iy (T:List Tok) (s:St):RT:=((aj T [58] s).1++[.nd 5 (ny T [[105,110,116],[98,111,111,108]] (aj T [58] s).2).1],(ny T [[105,110,116],[98,111,111,108]] (aj T [58] s).2).2)
theorem FF {T:List Tok} (hC:cN T) (s:St):Eqv (iy T s) (gR T (aj T [58] s)):=by
 unfold iy gR ny
 rw [jh hC (by decide)]
 by_cases h:isQ T [105,110,116] (aj T [58] s).2=true∨isQ T [98,111,111,108] (aj T [58] s).2=true
 ·rw [if_pos h,if_pos (by simpa using h)];exact Eqv.refl _
 ·rw [if_neg h,if_neg (by simpa using h)]
  exact⟨rfl,fun e=>absurd e (cC T (by decide) _)⟩
theorem NP {T:List Tok} {et:St→RT} (hC:cN T) {s:St} (h:isQ T [123] (iy T s).2=false):Eqv (iy T s) (bA T et s):=by
 have hb:=FF hC s
 unfold bA fY
 rw [if_neg (by rw [←hb.1,h];decide)]
 exact hb
theorem Gg {T:List Tok} {et:St→RT} (hC:cN T) {s:St} (h:isQ T [123] (iy T s).2=true):Eqv ((iy T s).1++(fO T et (iy T s).2).1,(fO T et (iy T s).2).2) (bA T et s):=by
 have hb:=FF hC s
 unfold bA fY
 rw [if_pos (by rw [←hb.1];exact h)]
 rw [hb.2 (by rw [←hb.1];exact(af h).2),hb.1]
 exact Eqv.refl _
theorem NF {T:List Tok} {s:St}:(iy T s).2.inn=s.inn:=by
 refine Eq.trans ?_ (ar T [58] s).inn
 show(ny T [[105,110,116],[98,111,111,108]] (aj T [58] s).2).2.inn=_
 unfold ny
 split
 ·exact(show(aI T (aj T [58] s).2).2.inn=_ from by unfold aI;split<;>rfl)
 ·exact(dU T 22 _ []).inn
theorem Fk (hC:cN T) (hX:bX b bb T D 0 (fun s=>s.inn=false∧isQ T [123] s=true) 120 (fO T (NT T D 0).expr)) {A0:Nat→Prop} {aZ:Value} {w0 w:World} {s:St} {N:List Nd} {vn:Value} {L:List (Value×Th)} (hk:KX b bb T D 0 A0 aZ w0 w s s.i N vn L) (hi:s.inn=false):
  Calls Tryz.prog 81 #[.pointer (some ⟨b,0,none⟩)] w (mC b bb T D 0 1 A0 aZ w0 s (bA T (NT T D 0).expr s) N L):=by
 have aC:=zh hC;have sy:=zh hX;have cy:=zh hi
 have dD:Hid ([58]∈KS):=zh (by decide)
 have fC:Hid (∀x∈([[105,110,116],[98,111,111,108]]:List (List UInt8)),x∈KS):=zh (by decide)
 have nZ:Hid (([[105,110,116],[98,111,111,108]]:List (List UInt8)).length≤100):=zh (by decide)
 have HK:=zh hk
 have HA:=zh (bU.nil N s)
 clear hC hX hk hi
 go_enter Tryz.func81,Tryz.ntmps81
 go_wp2_with fail
 have bP:=HK
 have HK:=zh HK.out.drew
 go_region_held3 (fun w'=>w'.cell? ⟨b,0,none⟩=some (.pointer (some ⟨bb,0,none⟩))) (first | with_reducible exact HK.out.cell | with_reducible exact(HK.out.alloc _).cell | with_reducible exact(bP.out.alloc _).drew.cell | with_reducible exact((HK.out.alloc _).alloc _).cell | with_reducible exact((bP.out.alloc _).alloc _).drew.cell)
  (first
   | (go_at_call 45;refine(KX.node (k:=0) (kind:=5) (HK.out.ints1 _) ?_ aC.out.len HB.out ?_ rz.out ?_).mono ?_;exact List.mem_cons_self ..;rfl;simp;rintro e w9 ⟨v7,N7,PB,rfl,al,am⟩;have HK:=zh al;have HZ:=zh am;clear al am)
   | (go_at_call 78;(first | with_reducible refine(KX.one1 [58] HK.out aC.out dD.out ?_).mono ?_ | with_reducible refine(KX.one1 [58] (HK.out.strs1 _ _) aC.out dD.out ?_).mono ?_ | with_reducible refine(KX.one1 [58] (bP.out.strs1 _ _).drew aC.out dD.out ?_).mono ?_ | with_reducible refine(KX.one1 [58] (HK.out.strs2 _ _ _) aC.out dD.out ?_).mono ?_ | with_reducible refine(KX.one1 [58] (bP.out.strs2 _ _ _).drew aC.out dD.out ?_).mono ?_ | with_reducible refine(KX.one1 [58] ((HK.out.strs1 _ _).strs2 _ _ _) aC.out dD.out ?_).mono ?_ | with_reducible refine(KX.one1 [58] ((bP.out.strs1 _ _).strs2 _ _ _).drew aC.out dD.out ?_).mono ?_ | with_reducible refine(KX.one1 [58] ((HK.out.strs2 _ _ _).strs1 _ _) aC.out dD.out ?_).mono ?_ | with_reducible refine(KX.one1 [58] ((bP.out.strs2 _ _ _).strs1 _ _).drew aC.out dD.out ?_).mono ?_);(first | (refine⟨_,?_,List.mem_cons_self ..⟩;focus (simp;done)) | (refine⟨_,?_,List.mem_cons_of_mem _ (List.mem_cons_self ..)⟩;focus (simp;done)) | (refine⟨_,?_,List.mem_cons_of_mem _ (List.mem_cons_of_mem _ (List.mem_cons_self ..))⟩;focus (simp;done)));rintro e w9 ⟨v9,N9,cD,rfl,al,am,aG⟩;have HK:=zh al;have HA:=zh (bU.app HA.out am.out aG);have rz:=zh al.room;clear al am aG)
   | (go_at_call 78;(first | with_reducible refine(KX.onex (ws:=[[105,110,116],[98,111,111,108]]) HK.out aC.out fC.out nZ.out ?_).mono ?_ | with_reducible refine(KX.onex (ws:=[[105,110,116],[98,111,111,108]]) (HK.out.strs1 _ _) aC.out fC.out nZ.out ?_).mono ?_ | with_reducible refine(KX.onex (ws:=[[105,110,116],[98,111,111,108]]) (bP.out.strs1 _ _).drew aC.out fC.out nZ.out ?_).mono ?_ | with_reducible refine(KX.onex (ws:=[[105,110,116],[98,111,111,108]]) (HK.out.strs2 _ _ _) aC.out fC.out nZ.out ?_).mono ?_ | with_reducible refine(KX.onex (ws:=[[105,110,116],[98,111,111,108]]) (bP.out.strs2 _ _ _).drew aC.out fC.out nZ.out ?_).mono ?_ | with_reducible refine(KX.onex (ws:=[[105,110,116],[98,111,111,108]]) ((HK.out.strs1 _ _).strs2 _ _ _) aC.out fC.out nZ.out ?_).mono ?_ | with_reducible refine(KX.onex (ws:=[[105,110,116],[98,111,111,108]]) ((bP.out.strs1 _ _).strs2 _ _ _).drew aC.out fC.out nZ.out ?_).mono ?_ | with_reducible refine(KX.onex (ws:=[[105,110,116],[98,111,111,108]]) ((HK.out.strs2 _ _ _).strs1 _ _) aC.out fC.out nZ.out ?_).mono ?_ | with_reducible refine(KX.onex (ws:=[[105,110,116],[98,111,111,108]]) ((bP.out.strs2 _ _ _).strs1 _ _).drew aC.out fC.out nZ.out ?_).mono ?_);(first | (refine⟨_,?_,List.mem_cons_self ..⟩;focus (simp;done)) | (refine⟨_,?_,List.mem_cons_of_mem _ (List.mem_cons_self ..)⟩;focus (simp;done)) | (refine⟨_,?_,List.mem_cons_of_mem _ (List.mem_cons_of_mem _ (List.mem_cons_self ..))⟩;focus (simp;done)));rintro e w9 ⟨v8,N8,Yq,rfl,al,am,aG⟩;have HK:=zh al;have HB:=zh am;have OQ:=zh aG;clear al am aG))
 all_goals
  have HK:Hid (KX b bb T D 0 A0 aZ w0 w9 (iy T s).2 (iy T s).2.i N7 PB L):=zh (HK.out.few (by repeat (first | exact List.Sublist.refl _ | refine List.Sublist.cons _ ?_)))
  have HO:Hid (aQ 1 N s (iy T s) N7 [v9,v7]):=zh ((aQ.app HA.out HZ.out OQ.out).weak (by decide))
  have bL:Hid (s.e≠0→(iy T s).2.e≠0):=zh (fun h=>OQ.out (by rw [(ar T [58] s).dead h];exact h))
  have HK:=zh (HK.out.ints2 v9 v7)
  clear HA HZ HB OQ
  go_wp2_with fail
  refine(KX.atx (ws:=[[123]]) (HK.out.strs1 _ _) ⟨_,by simp,List.mem_cons_self ..⟩ (by decide)).mono ?_
  rintro e w2 ⟨rfl,hk⟩
  have HK:=zh (hk.few (List.sublist_cons_self _ _))
  obtain⟨b1,hb⟩:∃b1,isQ T [123] (iy T s).2=b1:=⟨_,rfl⟩
  rw [at_one aC.out (by decide),hb]
  have nL:=zh hb
  clear hk hb
  cases b1
  ·have HQ:Hid (mC b bb T D 0 1 A0 aZ w0 s (bA T (NT T D 0).expr s) N L (.returned (.slice (some ⟨w9.heap.size,0,none⟩) 2 2)) w2):=zh (mC.eqv ⟨_,_,_,_,rfl,HK.out,HO.out,bL.out,by simp⟩ (NP aC.out nL.out))
   go_wp2_with fail
   go_ret
   exact HQ.out
  ·go_wp2_with fail
   refine(HK.out.sub sy.out ⟨NF.trans cy.out,nL.out⟩).mono ?_
   rintro e w3 ⟨v6,N6,vn6,rfl,al,am,aG⟩
   have HK:=zh al;have HO:=zh ((aQ.app HO.out.out am aG).weak (j:=1) (by decide));have bL:=zh (fun h=>aG (bL.out h))
   clear al am aG
   go_wp2_with (at_builtin;go_loud (refine ba rfl _ _ rfl (HK.out.ints1 v6) (List.sublist_cons_self _ _) rfl rfl (l2:=[v6]) rfl (ol _ _) (by simp) (by simp) ?_))
   intro kv6 w6 qG
   have HQ:Hid (mC b bb T D 0 1 A0 aZ w0 s (bA T (NT T D 0).expr s) N L (.returned kv6) w6):=zh (mC.eqv (r:=((iy T s).1++(fO T (NT T D 0).expr (iy T s).2).1,(fO T (NT T D 0).expr (iy T s).2).2)) ⟨_,_,_,_,rfl,qG,HO.out,bL.out,by simp⟩ (Gg aC.out nL.out))
   clear qG
   go_wp2_with fail
   go_ret
   exact HQ.out
end
end Go.Proofs.YtjbgnopnehgbaaaGreatDoor
set_option maxHeartbeats 4000000
namespace Go.Proofs.YtjbgnopnehgbaaaGreatDoor
open Go.RowKit
section
variable (b bb:Nat) (T:List Tok) (D n:Nat)
theorem V0 (hC:cN T) (hD:D≤200) (hn:n≤D) (hG:bX b bb T D n (fun s=>isQ T [40] s=true) 180 (LZ T (NT T D n))) (hM:bX b bb T D n (fun s=>s.e=0∧(an T s).kind=1) 181 (dq T (NT T D n))):bX b bb T D n (fun _=>True) 179 (bC T (NT T D n)):=by
 intro s N vn A w hP h
 have aC:=zh hC;have sK:=zh hP
 have RE:=zh hG
 have OD:=zh hM
 have HK:=zh (KX.start h)
 have cW:=zh h.few
 have HA:=zh (bU.nil N s)
 clear h hC hP hD hn hG hM
 go_enter Tryz.func179,Tryz.ntmps179
 go_wp2_with fail
 refine(HK.out.kind 3).mono ?_
 rintro e w1 ⟨rfl,hk⟩
 have HK:=zh hk
 by_cases zT:s.e=0∧(an T s).kind=3
 ·rw [zd zT]
  have aP:=zh (show(an T s).kind≠5∧s.e=0 from⟨by omega,zT.1⟩);have nL:=zh zT;clear zT hk
  go_wp2_with fail
  have bP:=HK
  have HK:=zh HK.out.drew
  go_region_held3 (fun w'=>w'.cell? ⟨b,0,none⟩=some (.pointer (some ⟨bb,0,none⟩))) (first | with_reducible exact HK.out.cell | with_reducible exact(HK.out.alloc _).cell | with_reducible exact(bP.out.alloc _).drew.cell | with_reducible exact((HK.out.alloc _).alloc _).cell | with_reducible exact((bP.out.alloc _).alloc _).drew.cell | with_reducible exact(((HK.out.alloc _).alloc _).alloc _).cell)
   (first
    | (go_at_call 79;(first | with_reducible refine(HK.out.take aC.out aP.out.1 aP.out.2).mono ?_ | with_reducible refine((HK.out.strs1 _ _).take aC.out aP.out.1 aP.out.2).mono ?_ | with_reducible refine((bP.out.strs1 _ _).drew.take aC.out aP.out.1 aP.out.2).mono ?_ | with_reducible refine(((HK.out.strs1 _ _).strs1 _ _).take aC.out aP.out.1 aP.out.2).mono ?_ | with_reducible refine(((bP.out.strs1 _ _).strs1 _ _).drew.take aC.out aP.out.1 aP.out.2).mono ?_);rintro e w9 ⟨v9,N9,cD,rfl,al,am,aG⟩;have HK:=zh al;have HD:=zh (aQ.app HA.out am aG);have HA:=zh HD.out.out;clear al am aG)
    | (go_at_call 45;have kO:=zh (HD.out.weak (j:=0+1) (by decide));refine(KX.node (k:=0) (kind:=15) (HK.out.ints1 _ ) ?_ aC.out.len kO.out ?_ cW.out ?_).mono ?_;exact List.mem_cons_self ..;rfl;simp;rintro e w9 ⟨v9,N9,cD,rfl,al,am⟩;have HK:=zh al;have HZ:=zh am;clear al am))
  all_goals
   have HQ:=zh (KX.fin HZ.out HK.out (fun he=>absurd aP.out.2 he) (r':=(bC T (NT T D n)) s) (by rw [KU nL.out];exact Eqv.refl _))
   go_wp2_with fail
   go_ret
   exact HQ.out
 ·rw [decide_eq_false zT]
  have nL:=zh zT;clear zT hk
  go_wp2_with fail
  refine(KX.at (ws:=[[116,114,117,101],[102,97,108,115,101]]) (HK.out.strs2 _ _ _) (List.mem_cons_self ..) (by decide)).mono ?_
  rintro e w2 ⟨rfl,hk⟩
  have HK:=zh hk.nils
  obtain⟨b2,hb⟩:∃b2,atQ T [[116,114,117,101],[102,97,108,115,101]] s=b2:=⟨_,rfl⟩
  rw [hb]
  have vv:Hid ((isQ T [116,114,117,101] s || isQ T [102,97,108,115,101] s)=b2):=zh (by rw [←hb,jh aC.out (by decide)];simp)
  clear hk hb
  cases b2
  ·skip
   have d0:=HK.out.cell;have d7:=HK.out.innc
   go_wp2_with fail
   refine(KX.at (ws:=[[114,101,115]]) (HK.out.strs1 _ _) (List.mem_cons_self ..) (by decide)).mono ?_
   rintro e w3 ⟨rfl,hk⟩
   have HK:=zh hk.nils
   obtain⟨b3,hb⟩:∃b3,isQ T [114,101,115] s=b3:=⟨_,rfl⟩
   rw [at_one aC.out (by decide),hb]
   have DS:=zh hb
   clear hk hb d0 d7
   have d7:=HK.out.innc
   obtain⟨I,hI⟩:∃I,s.inn=I:=⟨_,rfl⟩
   have HI:=zh hI
   rw [hI] at d7
   clear hI
   cases b3
   ·skip
    go_wp2_with fail
    refine(KX.at (ws:=[[40]]) (HK.out.strs1 _ _) (List.mem_cons_self ..) (by decide)).mono ?_
    rintro e w4 ⟨rfl,hk⟩
    have HK:=zh (hk.nils)
    obtain⟨b4,hb⟩:∃b4,isQ T [40] s=b4:=⟨_,rfl⟩
    rw [at_one aC.out (by decide),hb]
    have SG:=zh hb
    clear hk hb
    cases b4
    ·skip
     go_wp2_with fail
     refine(HK.out.kind 1).mono ?_
     rintro e w5 ⟨rfl,hk⟩
     have HK:=zh hk
     by_cases hc5:s.e=0∧(an T s).kind=1
     ·rw [zd hc5]
      have Lg:=zh hc5;clear hc5 hk
      go_wp2_with fail
      refine(HK.out.sub OD.out Lg.out).mono ?_
      rintro e w9 ⟨v9,N9,cD,rfl,al,am,aG⟩
      have HQ:=zh (KX.fin am al aG (r':=(bC T (NT T D n)) s) (by rw [wW Lg.out.1 nL.out vv.out (fun h=>by rw [DS.out] at h;cases h.2) SG.out Lg.out.2];exact Eqv.refl _))
      clear al am aG
      go_wp2_with fail
      go_ret
      exact HQ.out
     ·rw [decide_eq_false hc5]
      have Lg:=zh hc5;clear hc5 hk
      go_wp2_with fail
      refine(HK.out.fail 22 (by decide)).mono ?_
      rintro e w9 ⟨v9,N9,cD,rfl,al,am,aG⟩
      have HQ:=zh (KX.fin am al aG (r':=(bC T (NT T D n)) s) (xB nL.out vv.out (fun h=>by rw [DS.out] at h;cases h.2) SG.out Lg.out))
      clear al am aG
      go_wp2_with fail
      go_ret
      exact HQ.out
    ·skip
     go_wp2_with fail
     refine(HK.out.sub RE.out SG.out).mono ?_
     rintro e w9 ⟨v9,N9,cD,rfl,al,am,aG⟩
     have HQ:=zh (KX.fin am al aG (r':=(bC T (NT T D n)) s) (by rw [Ay nL.out vv.out (fun h=>by rw [DS.out] at h;cases h.2) SG.out];exact Eqv.refl _))
     clear al am aG
     go_wp2_with fail
     go_ret
     exact HQ.out
   ·cases I
    ·skip
     go_wp2_with fail
     refine(KX.at (ws:=[[40]]) (HK.out.strs1 _ _) (List.mem_cons_self ..) (by decide)).mono ?_
     rintro e w4 ⟨rfl,hk⟩
     have HK:=zh (hk.nils)
     obtain⟨b4,hb⟩:∃b4,isQ T [40] s=b4:=⟨_,rfl⟩
     rw [at_one aC.out (by decide),hb]
     have SG:=zh hb
     clear hk hb
     cases b4
     ·skip
      go_wp2_with fail
      refine(HK.out.kind 1).mono ?_
      rintro e w5 ⟨rfl,hk⟩
      have HK:=zh hk
      by_cases hc5:s.e=0∧(an T s).kind=1
      ·rw [zd hc5]
       have Lg:=zh hc5;clear hc5 hk
       go_wp2_with fail
       refine(HK.out.sub OD.out Lg.out).mono ?_
       rintro e w9 ⟨v9,N9,cD,rfl,al,am,aG⟩
       have HQ:=zh (KX.fin am al aG (r':=(bC T (NT T D n)) s) (by rw [wW Lg.out.1 nL.out vv.out (fun h=>by rw [HI.out] at h;cases h.1) SG.out Lg.out.2];exact Eqv.refl _))
       clear al am aG
       go_wp2_with fail
       go_ret
       exact HQ.out
      ·rw [decide_eq_false hc5]
       have Lg:=zh hc5;clear hc5 hk
       go_wp2_with fail
       refine(HK.out.fail 22 (by decide)).mono ?_
       rintro e w9 ⟨v9,N9,cD,rfl,al,am,aG⟩
       have HQ:=zh (KX.fin am al aG (r':=(bC T (NT T D n)) s) (xB nL.out vv.out (fun h=>by rw [HI.out] at h;cases h.1) SG.out Lg.out))
       clear al am aG
       go_wp2_with fail
       go_ret
       exact HQ.out
     ·skip
      go_wp2_with fail
      refine(HK.out.sub RE.out SG.out).mono ?_
      rintro e w9 ⟨v9,N9,cD,rfl,al,am,aG⟩
      have HQ:=zh (KX.fin am al aG (r':=(bC T (NT T D n)) s) (by rw [Ay nL.out vv.out (fun h=>by rw [HI.out] at h;cases h.1) SG.out];exact Eqv.refl _))
      clear al am aG
      go_wp2_with fail
      go_ret
      exact HQ.out
    ·skip
     have aP:=zh (af DS.out)
     go_wp2_with fail
     have bP:=HK
     have HK:=zh HK.out.drew
     go_region_held3 (fun w'=>w'.cell? ⟨b,0,none⟩=some (.pointer (some ⟨bb,0,none⟩))) (first | with_reducible exact HK.out.cell | with_reducible exact(HK.out.alloc _).cell | with_reducible exact(bP.out.alloc _).drew.cell | with_reducible exact((HK.out.alloc _).alloc _).cell | with_reducible exact((bP.out.alloc _).alloc _).drew.cell | with_reducible exact(((HK.out.alloc _).alloc _).alloc _).cell)
      (first
       | (go_at_call 79;(first | with_reducible refine(HK.out.take aC.out aP.out.1 aP.out.2).mono ?_ | with_reducible refine((HK.out.strs1 _ _).take aC.out aP.out.1 aP.out.2).mono ?_ | with_reducible refine((bP.out.strs1 _ _).drew.take aC.out aP.out.1 aP.out.2).mono ?_ | with_reducible refine(((HK.out.strs1 _ _).strs1 _ _).take aC.out aP.out.1 aP.out.2).mono ?_ | with_reducible refine(((bP.out.strs1 _ _).strs1 _ _).drew.take aC.out aP.out.1 aP.out.2).mono ?_);rintro e w9 ⟨v9,N9,cD,rfl,al,am,aG⟩;have HK:=zh al;have HD:=zh (aQ.app HA.out am aG);have HA:=zh HD.out.out;clear al am aG)
       | (go_at_call 45;have kO:=zh (HD.out.weak (j:=0+1) (by decide));refine(KX.node (k:=0) (kind:=17) (HK.out.ints1 _ ) ?_ aC.out.len kO.out ?_ cW.out ?_).mono ?_;exact List.mem_cons_self ..;rfl;simp;rintro e w9 ⟨v9,N9,cD,rfl,al,am⟩;have HK:=zh al;have HZ:=zh am;clear al am))
     all_goals
      have HQ:=zh (KX.fin HZ.out HK.out (fun he=>absurd aP.out.2 he) (r':=(bC T (NT T D n)) s) (by rw [NR aP.out.2 nL.out vv.out ⟨HI.out,DS.out⟩];exact Eqv.refl _))
      go_wp2_with fail
      go_ret
      exact HQ.out
  ·skip
   have aP:=zh (show(an T s).kind≠5∧s.e=0 from(by have h9:=vv.out;rcases Bool.or_eq_true_iff.1 h9 with h | h<;>exact af h))
   go_wp2_with fail
   have bP:=HK
   have HK:=zh HK.out.drew
   go_region_held3 (fun w'=>w'.cell? ⟨b,0,none⟩=some (.pointer (some ⟨bb,0,none⟩))) (first | with_reducible exact HK.out.cell | with_reducible exact(HK.out.alloc _).cell | with_reducible exact(bP.out.alloc _).drew.cell | with_reducible exact((HK.out.alloc _).alloc _).cell | with_reducible exact((bP.out.alloc _).alloc _).drew.cell | with_reducible exact(((HK.out.alloc _).alloc _).alloc _).cell)
    (first
     | (go_at_call 79;(first | with_reducible refine(HK.out.take aC.out aP.out.1 aP.out.2).mono ?_ | with_reducible refine((HK.out.strs1 _ _).take aC.out aP.out.1 aP.out.2).mono ?_ | with_reducible refine((bP.out.strs1 _ _).drew.take aC.out aP.out.1 aP.out.2).mono ?_ | with_reducible refine(((HK.out.strs1 _ _).strs1 _ _).take aC.out aP.out.1 aP.out.2).mono ?_ | with_reducible refine(((bP.out.strs1 _ _).strs1 _ _).drew.take aC.out aP.out.1 aP.out.2).mono ?_);rintro e w9 ⟨v9,N9,cD,rfl,al,am,aG⟩;have HK:=zh al;have HD:=zh (aQ.app HA.out am aG);have HA:=zh HD.out.out;clear al am aG)
     | (go_at_call 45;have kO:=zh (HD.out.weak (j:=0+1) (by decide));refine(KX.node (k:=0) (kind:=16) (HK.out.ints1 _ ) ?_ aC.out.len kO.out ?_ cW.out ?_).mono ?_;exact List.mem_cons_self ..;rfl;simp;rintro e w9 ⟨v9,N9,cD,rfl,al,am⟩;have HK:=zh al;have HZ:=zh am;clear al am))
   all_goals
    have HQ:=zh (KX.fin HZ.out HK.out (fun he=>absurd aP.out.2 he) (r':=(bC T (NT T D n)) s) (by rw [CY nL.out vv.out aP.out.2];exact Eqv.refl _))
    go_wp2_with fail
    go_ret
    exact HQ.out
end
end Go.Proofs.YtjbgnopnehgbaaaGreatDoor
