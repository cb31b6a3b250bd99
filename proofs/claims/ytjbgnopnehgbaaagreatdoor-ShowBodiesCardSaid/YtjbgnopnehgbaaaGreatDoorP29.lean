/- Lemmas. -/
import Derived.Test.YtjbgnopnehgbaaaGreatDoorP32
set_option linter.unusedVariables false
set_option linter.unusedSimpArgs false
set_option maxHeartbeats 8000000
set_option maxRecDepth 100000
namespace Go.Proofs.YtjbgnopnehgbaaaGreatDoor
open Go.RowKit
theorem m4 {T:List Tok} {D:Nat} (s:St) (h:s.inn=false):(bA T (NT T D 0).expr s).2.inn=false:=by
 unfold bA fY
 have hb:(gR T (aj T [58] s)).2.inn=false:=by
  unfold gR
  have h1:=(ar T [58] s).inn
  split
  ·rename_i hk
   have hl:(aj T [58] s).2.e=0:=by rcases hk with hk | hk<;>exact(af hk).2
   exact(aq T hl).inn.trans (h1.trans h)
  ·exact(dU T 22 (aj T [58] s).2 []).inn.trans (h1.trans h)
 split
 ·exact(ar T [125] _).inn
 ·exact hb
theorem uA {T:List Tok} {D:Nat} (s:St) (h:s.e≠0):(bA T (NT T D 0).expr s).2=s:=by
 have h1:=(ar T [58] s).dead h
 unfold bA fY gR
 have n1:∀x,isQ T x (aj T [58] s).2=false:=fun x=>lj (by rw [h1];exact h)
 have hb:¬(isQ T [105,110,116] (aj T [58] s).2=true∨isQ T [98,111,111,108] (aj T [58] s).2=true):=by rw [n1,n1];decide
 have hf:aB T 22 (aj T [58] s).2=s:=by rw [h1,fX T h]
 rw [if_neg hb]
 show(if isQ T [123] (aB T 22 (aj T [58] s).2)=true then _ else _:RT).2=s
 rw [hf,if_neg (by rw [lj h];decide)]
theorem oC {T:List Tok} {D:Nat} (s:St) (h:s.inn=false):(eF T (NT T D 0).expr s).2.inn=false:=m4 _ ((bE T 1 s).inn.trans h)
theorem oB {T:List Tok} {D:Nat} (s:St) (h:s.e≠0):(eF T (NT T D 0).expr s).2=s:=by
 have h1:=(bE T 1 s).dead h
 show(bA T (NT T D 0).expr (aA T 1 s).2).2=s
 rw [uA _ (by rw [h1];exact h),h1]
section
variable (b bb:Nat) (T:List Tok) (D:Nat)
theorem JO (hC:cN T) (hX:bX b bb T D 0 (fun s=>s.inn=false∧isQ T [123] s=true) 120 (fO T (NT T D 0).expr)):PK b bb T D 0 (fun s=>s.inn=false) 119 (eF T (NT T D 0).expr):=by
 intro A0 aZ w0 w s N vn L g hP hk hm
 have aC:=zh hC
 have HTY:=zh (fun (w:World) (s:St) (N:List Nd) (vn:Value) (L:List (Value×Th)) (hk:KX b bb T D 0 A0 aZ w0 w s s.i N vn L) (hi:s.inn=false)=>Fk b bb T D hC hX hk hi)
 have HK:=zh hk;have HM:=zh hm
 have cW:=zh hk.room
 have cy:Hid ((aA T 1 s).2.inn=false):=zh ((bE T 1 s).inn.trans hP)
 have HDT:Hid (s.e≠0→(eF T (NT T D 0).expr s).2.e≠0):=zh (fun h=>by rw [oB s h];exact h)
 have c0:=hk.boxc hm
 have HA:=zh (bU.nil N s)
 clear hC hX hk hP hm
 go_enter Tryz.func119,Tryz.ntmps119
 go_wp2_with fail
 have bP:=HK
 have HK:=zh HK.out.drew
 go_region_held3 (fun w'=>w'.cell? ⟨g,0,none⟩=some (.pointer (some ⟨b,0,none⟩))) (first | exact HK.out.boxc HM.out | exact HK.out.boxc (List.mem_cons_of_mem _ HM.out) | exact HK.out.boxc (List.mem_cons_of_mem _ (List.mem_cons_of_mem _ HM.out)) | exact(HK.out.alloc _).boxc HM.out | exact(HK.out.alloc _).boxc (List.mem_cons_of_mem _ HM.out))
  (first
   | (refine mW rfl _ _ rfl HK.out (List.sublist_cons_self _ _) rfl rfl (l2:=ls7) rfl xI.out (by simp) (by have:=Ji.out;omega) ?_;intro kv4 w9 al;have HK:=zh al;clear al)
   | (refine mW rfl _ _ rfl (HK.out.ints1 _) (List.Sublist.cons_cons _ (List.sublist_cons_self _ _)) rfl rfl (l2:=ls7) rfl (HVA.out _) (by simp) (by have:=Ji.out;omega) ?_;intro kv4 w9 al;have HK:=zh al;clear al)
   | (go_at_call 46;(with_reducible refine(HK.out.word aC.out).mono ?_);rintro e w9 ⟨v9,N9,cD,rfl,al,am,aG⟩;have HK:=zh al;have HA:=zh (HA.out.app am.out aG);clear al am aG)
   | (go_at_call 81;(first | with_reducible refine(HTY.out _ _ _ _ _ HK.out cy.out).mono ?_ | with_reducible refine(HTY.out _ _ _ _ _ (HK.out.ints1 _) cy.out).mono ?_);rintro e w9 ⟨lv,ls7,N8,Yq,rfl,al,am,aG,ef⟩;obtain⟨q7,c7,rfl,Ac,-,-⟩:=al.list (List.mem_cons_self ..);have HK:=zh al;have xI:=zh Ac;have HVA:=zh (fun o=>Ac.kept (ae (ad w9 none) o));have Ji:=zh ef;have HD:=zh (aQ.app HA.out am aG);clear al am aG ef Ac))
 all_goals
  obtain⟨l9,ef⟩:∃l9,[v9]++ls7=l9:=⟨_,rfl⟩
  have zg:Hid (l9.length≤310):=zh (by rw [←ef,List.length_append];have:=Ji.out;simp;omega)
  have HK:Hid (KX b bb T D 0 A0 aZ w0 w9 (bA T (NT T D 0).expr (aA T 1 s).2).2 (bA T (NT T D 0).expr (aA T 1 s).2).2.i N8 Yq ((kv4,.ints l9)::L)):=zh (by
   have h9:=HK.out.few (L':=(kv4,.ints ([v9]++ls7))::L) (by first | exact List.Sublist.refl _ | exact List.Sublist.cons_cons _ (List.sublist_cons_self _ _))
   rw [ef] at h9;exact h9)
  have HOL:Hid (aQ (0+1) N s ((aA T 1 s).1++(bA T (NT T D 0).expr (aA T 1 s).2).1,(bA T (NT T D 0).expr (aA T 1 s).2).2) N8 l9):=zh (by rw [←ef];exact HD.out.weak (by decide))
  clear ef HA HD
  have c0:=HK.out.boxc (List.mem_cons_of_mem _ HM.out)
  have d0:=HK.out.cell
  go_wp2_with fail
  refine(KX.node (k:=0) (kind:=4) HK.out (List.mem_cons_self ..) aC.out.len HOL.out rfl cW.out (by have:=zg.out;omega)).mono ?_
  rintro e w8 ⟨v6,N6,vn6,rfl,qG,ho6⟩
  have HQ:Hid (jm b bb T D 0 0 A0 aZ w0 s (eF T (NT T D 0).expr s) N L (.returned (.int .i64 v6)) w8):=zh ⟨v6,N6,vn6,rfl,qG.few (List.sublist_cons_self _ _),ho6,HDT.out⟩
  clear qG ho6 c0 d0
  go_wp2_with fail
  go_ret
  exact HQ.out
end
end Go.Proofs.YtjbgnopnehgbaaaGreatDoor
set_option maxHeartbeats 16000000
namespace Go.Proofs.YtjbgnopnehgbaaaGreatDoor
open Go.RowKit
theorem BU {T:List Tok} {sub:St→RT} (hI:∀s,s.inn=false→(sub s).2.inn=false):∀j (r:RT),r.2.inn=false→(gD T sub j r).2.inn=false
 | 0,r,h=>(dU T 15 r.2 r.1).inn.trans h
 | j+1,r,h=>by
   unfold gD
   split
   ·rename_i hc
    exact BU hI j _ ((aq T (af hc).2).inn.trans (hI _ h))
   ·exact hI _ h
theorem wu {T:List Tok} {sub:St→RT} (hI:∀s,s.inn=false→(sub s).2.inn=false) (s:St) (h:s.inn=false):(ej T sub s).2.inn=false:=by
 unfold ej
 split
 ·exact h
 ·exact BU hI 8 _ h
section
variable (T:List Tok) (D:Nat)
def nI (a:RT):RT:=(a.1++(ej T (eF T (NT T D 0).expr) a.2).1,(ej T (eF T (NT T D 0).expr) a.2).2)
def pD (a:RT):RT:=(a.1++(aj T [41] a.2).1,(aj T [41] a.2).2)
def pE (a:RT):RT:=(a.1++(bA T (NT T D 0).expr a.2).1,(bA T (NT T D 0).expr a.2).2)
def kp (a:RT):RT:=(a.1++((aj T [61] a.2).1++((NT T D 0).expr (aj T [61] a.2).2).1++(aj T [59] ((NT T D 0).expr (aj T [61] a.2).2).2).1),(aj T [59] ((NT T D 0).expr (aj T [61] a.2).2).2).2)
def Zl (s:St):RT:=([.nd 3 (kp T D (pE T D (pD T (nI T D (cK T (bW T s)))))).1],(kp T D (pE T D (pD T (nI T D (cK T (bW T s)))))).2)
theorem Fb (a:RT):kp T D (pE T D (pD T a))=eL T (NT T D 0).expr a:=by
 unfold kp pE pD eL
 simp only [List.append_assoc]
theorem I7 (a:RT) (h:a.2.e≠0):(kp T D (pE T D (pD T a))).2.e≠0:=by
 have h1:=(ar T [41] a.2).dead h
 have h2:(bA T (NT T D 0).expr (aj T [41] a.2).2).2=a.2:=by rw [h1];exact uA _ h
 show(aj T [59] ((NT T D 0).expr (aj T [61] (bA T (NT T D 0).expr (aj T [41] a.2).2).2).2).2).2.e≠0
 rw [h2]
 have h3:=(ar T [61] a.2).dead h
 rw [h3]
 have h4:=((fi T D (D - 0)).expr a.2).dead h
 show(aj T [59] ((nxT T D (D - 0)).expr a.2).2).2.e≠0
 rw [h4,(ar T [59] a.2).dead h]
 exact h
theorem MH (a:RT) (hi:a.2.i≤T.length):Eqv (nI T D a) (du T (NT T D 0).expr a):=by
 have h:=tK T (l0 T (dF T D (D - 0)).expr) (fun s h=>oB (D:=D) s h) a.2 hi
 unfold nI du
 by_cases he:a.2.e=0
 ·by_cases hq:isQ T [41] a.2=true
  ·rw [if_pos hq] at h
   rw [if_neg (by rw [hq];simp)]
   exact⟨h.1,fun e=>by
    have:=h.2 e
    show a.1++(ej T (eF T (NT T D 0).expr) a.2).1=a.1
    rw [show(ej T (eF T (NT T D 0).expr) a.2).1 = [] from this,List.append_nil]⟩
  ·rw [if_neg hq] at h
   rw [if_pos ⟨he,by simpa using hq⟩]
   exact⟨h.1,fun e=>by
    have:=h.2 e
    show a.1++(ej T (eF T (NT T D 0).expr) a.2).1=a.1++_
    rw [show(ej T (eF T (NT T D 0).expr) a.2).1=_ from this];rfl⟩
 ·rw [if_neg (fun e=>he e.1)]
  have hq:isQ T [41] a.2=false:=lj he
  rw [if_neg (by rw [hq];decide),oB (D:=D) _ he |> fun e=>jO (T:=T) (sub:=eF T (nxT T D (D - 0)).expr) (by rw [show(eF T (nxT T D (D - 0)).expr a.2).2=a.2 from e];exact lj he) _] at h
  exact⟨h.1.trans (oB (D:=D) _ he),fun e=>absurd e he⟩
theorem Cc (s:St) (hi:(cK T (bW T s)).2.i≤T.length):Eqv (Zl T D s) (gO T (NT T D 0).expr s):=by
 have h:=MH T D _ hi
 unfold Zl gO
 rw [Fb]
 have e1:(eL T (NT T D 0).expr (nI T D (cK T (bW T s)))).2=(eL T (NT T D 0).expr (du T (NT T D 0).expr (cK T (bW T s)))).2:=by
  unfold eL;rw [h.1]
 refine⟨e1,fun e=>?_⟩
 have ha:(du T (NT T D 0).expr (cK T (bW T s))).2.e=0:=by
  rcases Nat.eq_zero_or_pos (du T (NT T D 0).expr (cK T (bW T s))).2.e with h9 | h9
  ·exact h9
  ·have:=I7 T D (du T (NT T D 0).expr (cK T (bW T s))) (by omega)
   rw [Fb] at this
   exact absurd e this
 have e2:nI T D (cK T (bW T s))=du T (NT T D 0).expr (cK T (bW T s)):=Prod.ext (h.2 ha) h.1
 rw [e2]
end
section
variable (b bb:Nat) (T:List Tok) (D:Nat)
theorem yo (hC:cN T) (hX:bX b bb T D 0 (fun s=>s.inn=false∧isQ T [123] s=true) 120 (fO T (NT T D 0).expr)) {A0:Nat→Prop} {aZ:Value} {w0 w:World} {s:St} {N:List Nd} {vn:Value} {L:List (Value×Th)} (hk:KX b bb T D 0 A0 aZ w0 w s s.i N vn L) (hi:s.inn=false):
  Calls Tryz.prog 80 #[.pointer (some ⟨b,0,none⟩)] w (qg b bb T D 0 0 A0 aZ w0 s (ej T (eF T (NT T D 0).expr) s) N L):=by
 obtain⟨g,hg⟩:∃g,w.heap.size=g:=⟨_,rfl⟩
 have HK:Hid (KX b bb T D 0 A0 aZ w0 (w.alloc (.cells #[.pointer (some ⟨b,0,none⟩)] 71)) s s.i N vn ((mv g,nW b)::L)):=zh (by rw [←hg];exact hk.boxed _ _)
 have Tp:=zh (A8 b bb T D 0 hC _ (JO b bb T D hC hX) (fun s h=>oC (T:=T) (D:=D) s h) HK.out (List.mem_cons_self ..) hi)
 have c0:=HK.out.boxc (List.mem_cons_self ..)
 clear hC hX hk hi HK
 go_enter Tryz.func80,Tryz.ntmps80
 go_wp2_with fail
 try rw [hg]
 refine Tp.out.mono ?_
 rintro e w7 ⟨lv,ls,N7,PB,rfl,zO,Fh,xe,sB⟩
 have HQ:Hid (qg b bb T D 0 0 A0 aZ w0 s (ej T (eF T (NT T D 0).expr) s) N L (.returned lv) w7):=zh ⟨lv,ls,N7,PB,rfl,zO.few (List.Sublist.cons_cons _ (List.sublist_cons_self _ _)),Fh,xe,sB⟩
 clear zO Fh xe sB Tp c0 hg
 go_wp2_with fail
 go_ret
 exact HQ.out
theorem xZ (hC:cN T) (hD:D≤200) (hX:bX b bb T D 0 (fun s=>s.inn=false∧isQ T [123] s=true) 120 (fO T (NT T D 0).expr)) (hE:0<D→bX b bb T D 1 (fun s=>s.inn=false) 83 (fG T D 1 (NT T D 1))):bX b bb T D 0 (fun s=>s.inn=false) 44 (gO T (NT T D 0).expr):=by
 intro s N vn A w hP h
 have aC:=zh hC
 have HTY:=zh (fun (w1:World) (s:St) (N1:List Nd) (vt:Value) (L:List (Value×Th)) (hk:KX b bb T D 0 A vn w w1 s s.i N1 vt L) (hi:s.inn=false)=>Fk b bb T D hC hX hk hi)
 have AD:=zh (fun (w1:World) (s:St) (N1:List Nd) (vt:Value) (L:List (Value×Th)) (hk:KX b bb T D 0 A vn w w1 s s.i N1 vt L) (hi:s.inn=false)=>yo b bb T D hC hX hk hi)
 have DP:=zh (fun (s:St) (N:List Nd) (vn:Value) (A:Nat→Prop) (w:World) (hi:s.inn=false) h=>(gJ b bb T D 0 hD (Nat.zero_le _) (fun s=>s.inn=false) _ hE s N vn A w hi h).mono (fun e w' hp=>hp.eqv (qw T (Nat.zero_le _) s hi)))
 have cW:=zh h.few
 have sK:=zh hP
 have HK:=zh (KX.start h).nilS
 have OQ:Hid (∀a:RT,a.2.e≠0→(cK T a).2.e≠0):=zh (fun a h=>by
  show(aj T [40] (aA T 1 (aj T [102,117,110] a.2).2).2).2.e≠0
  rw [(ar T [102,117,110] a.2).dead h,(bE T 1 a.2).dead h,(ar T [40] a.2).dead h];exact h)
 clear h hC hX hE hP hD
 go_enter Tryz.func44,Tryz.ntmps44
 go_wp2_with fail
 refine(KX.at (ws:=[[112,117,98]]) (HK.out.strs1 _ _) (List.mem_cons_self ..) (by decide)).mono ?_
 rintro e w0 ⟨rfl,hk⟩
 have HK:=zh (hk.few (List.sublist_cons_self _ _))
 obtain⟨b0,hb⟩:∃b0,isQ T [112,117,98] s=b0:=⟨_,rfl⟩
 rw [at_one aC.out (by decide),hb]
 have Yz:=zh hb
 clear hk hb
 cases b0
 ·obtain⟨a,vs,O6,HK,HA,kt,bL,cy⟩:∃(a:RT) (vs:List Int),Hid (bW T s=a)∧Hid (KX b bb T D 0 A vn w w0 a.2 a.2.i N vn [(.slice none 0 0,.ints vs)])∧Hid (bU 0 N s a N vs)∧Hid (vs.length≤3)∧Hid (s.e≠0→a.2.e≠0)∧Hid (a.2.inn=false):=
   ⟨([],s),[],zh (by unfold bW;rw [if_neg (by rw [Yz.out];decide)]),HK,zh (bU.nil N s),zh (by simp),zh (fun h=>h),sK⟩
  have OQ:=zh (OQ.out a)
  go_wp2_with fail
  refine(KX.one1 [102,117,110] (HK.out.strs1 _ _) aC.out (by decide) ⟨_,by simp,List.mem_cons_self ..⟩).mono ?_
  rintro e w1 ⟨v1,N1,vt,rfl,hk,ho,hd⟩
  have HK:=zh (hk.few (List.sublist_cons_self _ _));have HT:=zh ho.out;have bL:=zh (fun h=>hd (bL.out h));have cy:=zh ((ar T [102,117,110] _).inn.trans cy.out)
  clear hk ho hd
  go_wp2_with fail
  refine(HK.out.word aC.out).mono ?_
  rintro e w2 ⟨v2,N2,vn2,rfl,hk,ho,hd⟩
  have HK:=zh hk;have HT:=zh (HT.out.app ho.out hd);have bL:=zh (fun h=>hd (bL.out h));have cy:=zh ((bE T 1 _).inn.trans cy.out)
  clear hk ho hd
  go_wp2_with fail
  refine(KX.one1 [40] (HK.out.strs1 _ _) aC.out (by decide) ⟨_,by simp,List.mem_cons_self ..⟩).mono ?_
  rintro e w3 ⟨v3,N3,vn3,rfl,hk,ho,hd⟩
  have HK:=zh (hk.few (List.sublist_cons_self _ _));have HT:=zh (HT.out.app ho.out hd);have bL:=zh (fun h=>hd (bL.out h));have cy:=zh ((ar T [40] _).inn.trans cy.out)
  obtain⟨l3,JC⟩:∃l3,vs++[v1,v2,v3]=l3:=⟨_,rfl⟩
  have Za:=zh JC;have Ou:Hid (l3.length≤10):=zh (by rw [←JC,List.length_append];have:=kt.out;simp;omega)
  have HA:Hid (bU 1 N s (cK T a) N3 l3):=zh (by rw [←JC];exact(bU.app HA.out HT.out OQ.out).weak (by decide))
  clear hk ho hd JC HT
  go_wp2_with (at_builtin;go_loud (refine ba rfl _ _ rfl (HK.out.ints3 v1 v2 v3) (List.sublist_cons_self _ _) rfl rfl (l2:=[v1,v2,v3]) rfl (Pp _ _ _ _) (by have:=kt.out;omega) (by simp) ?_))
  intro kv4 w4 hk4
  rw [Za.out] at hk4
  obtain⟨a1,Ir⟩:∃a1,cK T a=a1:=⟨_,rfl⟩
  have HA1:=zh Ir
  have HK:Hid (KX b bb T D 0 A vn w w4 a1.2 a1.2.i N3 vn3 [(kv4,.ints l3)]):=zh (by rw [←Ir];exact hk4)
  have bL:Hid (s.e≠0→a1.2.e≠0):=zh (by rw [←Ir];exact bL.out)
  have cy:Hid (a1.2.inn=false):=zh (by rw [←Ir];exact cy.out)
  rw [Ir] at HA
  have XC:=zh HK.out.ok
  clear hk4 Ir Za
  go_wp2_with fail
  refine(AD.out _ _ _ _ _ HK.out cy.out).mono ?_
  rintro e w5 ⟨lv,ls,N5,XL,rfl,zO,Fh,xe,sB⟩
  obtain⟨q5,c5,rfl,Ac,-,-⟩:=zO.list (List.mem_cons_self ..)
  have HK:=zh zO;have xI:=zh Ac;have OA:=zh sB;have bL:=zh (fun h=>xe (bL.out h));have cy:=zh (wu (T:=T) (sub:=eF T (NT T D 0).expr) (fun s h=>oC (T:=T) (D:=D) s h) _ cy.out)
  obtain⟨l5,za⟩:∃l5,l3++ls=l5:=⟨_,rfl⟩
  have P1:=zh za;have KA:Hid (l5.length≤320):=zh (by rw [←za,List.length_append];have:=Ou.out;omega)
  have HA:Hid (bU 1 N s (nI T D a1) N5 l5):=zh (by rw [←za];exact(HA.out.app Fh xe).weak (by decide))
  obtain⟨m5,Ad⟩:∃m5,ls.length=m5:=⟨_,rfl⟩
  have ZZ:=zh Ad
  rw [Ad] at HK ⊢
  clear zO Fh xe sB Ac za Ad
  go_wp2_with (at_builtin;go_loud (refine ba rfl _ _ rfl HK.out (List.sublist_cons_self _ _) rfl rfl (l2:=ls) ZZ.out xI.out (by have:=Ou.out;omega) (by have:=OA.out;omega) ?_))
  intro kv6 w6 qG
  rw [P1.out] at qG
  obtain⟨a2,Jj⟩:∃a2,nI T D a1=a2:=⟨_,rfl⟩
  have Ph:=zh Jj
  have HK:Hid (KX b bb T D 0 A vn w w6 a2.2 a2.2.i N5 XL [(kv6,.ints l5)]):=zh (by rw [←Jj];exact qG)
  have bL:Hid (s.e≠0→a2.2.e≠0):=zh (by rw [←Jj];exact bL.out)
  have cy:Hid (a2.2.inn=false):=zh (by rw [←Jj];exact cy.out)
  rw [Jj] at HA
  clear qG Jj P1 xI ZZ
  go_wp2_with fail
  refine(KX.one1 [41] (HK.out.strs1 _ _) aC.out (by decide) ⟨_,by simp,List.mem_cons_self ..⟩).mono ?_
  rintro e w7 ⟨v7,N7,PB,rfl,hk,ho,hd⟩
  have HK:=zh (hk.few (List.sublist_cons_self _ _));have bL:=zh (fun h=>hd (bL.out h));have cy:=zh ((ar T [41] _).inn.trans cy.out)
  obtain⟨l7,sB⟩:∃l7,l5++[v7]=l7:=⟨_,rfl⟩
  have P2:=zh sB;have Ji:Hid (l7.length≤321):=zh (by rw [←sB,List.length_append];have:=KA.out;simp;omega)
  have HA:Hid (bU 1 N s (pD T a2) N7 l7):=zh (by rw [←sB];exact(HA.out.app ho.out hd).weak (by decide))
  clear hk ho hd sB
  go_wp2_with (at_builtin;go_loud (refine ba rfl _ _ rfl (HK.out.ints1 v7) (List.sublist_cons_self _ _) rfl rfl (l2:=[v7]) rfl (ol _ _) (by have:=KA.out;omega) (by simp) ?_))
  intro kv8 w8 qT
  rw [P2.out] at qT
  obtain⟨a3,Gz⟩:∃a3,pD T a2=a3:=⟨_,rfl⟩
  have Ri:=zh Gz
  have HK:Hid (KX b bb T D 0 A vn w w8 a3.2 a3.2.i N7 PB [(kv8,.ints l7)]):=zh (by rw [←Gz];exact qT)
  have bL:Hid (s.e≠0→a3.2.e≠0):=zh (by rw [←Gz];exact bL.out)
  have cy:Hid (a3.2.inn=false):=zh (by rw [←Gz];exact cy.out)
  rw [Gz] at HA
  clear qT Gz P2
  go_wp2_with fail
  refine(HTY.out _ _ _ _ _ HK.out cy.out).mono ?_
  rintro e w9 ⟨lv,lt,N9,cD,rfl,al,am,aG,ef⟩
  obtain⟨q9,c9,rfl,ZF,-,-⟩:=al.list (List.mem_cons_self ..)
  have HK:=zh al;have xI:=zh ZF;have zw:=zh ef;have bL:=zh (fun h=>aG (bL.out h));have cy:=zh (m4 (T:=T) (D:=D) _ cy.out)
  obtain⟨l9,zF⟩:∃l9,l7++lt=l9:=⟨_,rfl⟩
  have R9:=zh zF;have Kg:Hid (l9.length≤630):=zh (by rw [←zF,List.length_append];have:=Ji.out;omega)
  have HA:Hid (bU 1 N s (pE T D a3) N9 l9):=zh (by rw [←zF];exact(HA.out.app am.out aG).weak (by decide))
  obtain⟨m9,Ow⟩:∃m9,lt.length=m9:=⟨_,rfl⟩
  have HM9:=zh Ow
  rw [Ow] at HK ⊢
  clear al am aG ef ZF zF Ow
  go_wp2_with (at_builtin;go_loud (refine ba rfl _ _ rfl HK.out (List.sublist_cons_self _ _) rfl rfl (l2:=lt) HM9.out xI.out (by have:=Ji.out;omega) (by have:=zw.out;omega) ?_))
  intro kv10 w10 hk10
  rw [R9.out] at hk10
  obtain⟨a4,Hl⟩:∃a4,pE T D a3=a4:=⟨_,rfl⟩
  have HA4:=zh Hl
  have HK:Hid (KX b bb T D 0 A vn w w10 a4.2 a4.2.i N9 cD [(kv10,.ints l9)]):=zh (by rw [←Hl];exact hk10)
  have bL:Hid (s.e≠0→a4.2.e≠0):=zh (by rw [←Hl];exact bL.out)
  have cy:Hid (a4.2.inn=false):=zh (by rw [←Hl];exact cy.out)
  rw [Hl] at HA
  clear hk10 Hl R9 xI HM9
  go_wp2_with fail
  refine(KX.one1 [61] (HK.out.strs1 _ _) aC.out (by decide) ⟨_,by simp,List.mem_cons_self ..⟩).mono ?_
  rintro e w11 ⟨UN,N11,agw,rfl,hk,ho,hd⟩
  have HK:=zh (hk.few (List.sublist_cons_self _ _));have HT:=zh ho.out;have pY:=zh hd;have cy:=zh ((ar T [61] _).inn.trans cy.out)
  clear hk ho hd
  go_wp2_with fail
  refine(HK.out.call (fun A h=>DP.out _ _ _ A _ cy.out h)).mono ?_
  rintro e w12 ⟨UD,N12,ae8,rfl,hk,ho,hd⟩
  have HK:=zh hk;have HT:=zh (HT.out.app ho.out hd);have pY:=zh (fun h=>hd (pY.out h))
  clear hk ho hd
  go_wp2_with fail
  refine(KX.one1 [59] (HK.out.strs1 _ _) aC.out (by decide) ⟨_,by simp,List.mem_cons_self ..⟩).mono ?_
  rintro e w13 ⟨Xt,N13,Wa,rfl,hk,ho,hd⟩
  have HK:=zh (hk.few (List.sublist_cons_self _ _));have Ni:=zh (aQ.app HT.out ho hd);have pY:=zh (fun h=>hd (pY.out h))
  obtain⟨Ma,ym⟩:∃Ma,l9++[UN,UD,Xt]=Ma:=⟨_,rfl⟩
  have LW:=zh ym;have VR:Hid (Ma.length≤640):=zh (by rw [←ym,List.length_append];have:=Kg.out;simp;omega)
  have HA:Hid (aQ (0+1) N s (kp T D a4) N13 Ma):=zh (by rw [←ym];exact(aQ.app HA.out Ni.out pY.out).weak (by decide))
  have bL:Hid (s.e≠0→(kp T D a4).2.e≠0):=zh (fun h=>pY.out (bL.out h))
  clear hk ho hd ym HT Ni
  go_wp2_with (at_builtin;go_loud (refine ba rfl _ _ rfl (HK.out.ints3 UN UD Xt) (List.sublist_cons_self _ _) rfl rfl (l2:=[UN,UD,Xt]) rfl (Pp _ _ _ _) (by have:=Kg.out;omega) (by simp) ?_))
  intro kv14 w14 hk14
  rw [LW.out] at hk14
  have HK:Hid (KX b bb T D 0 A vn w w14 (kp T D a4).2 (kp T D a4).2.i N13 Wa [(kv14,.ints Ma)]):=zh hk14
  have d0:=HK.out.cell
  clear hk14 LW
  go_wp2_with fail
  refine(KX.node (k:=0) (kind:=3) HK.out (List.mem_cons_self ..) aC.out.len HA.out rfl cW.out (by have:=VR.out;omega)).mono ?_
  rintro e w15 ⟨v15,N15,adY,rfl,Ml,Mh⟩
  have HQ:=zh (KX.fin Mh Ml bL.out (r':=gO T (NT T D 0).expr s) (by rw [←HA4.out,←Ri.out,←Ph.out,←HA1.out,←O6.out];exact Cc T D s (Nat.le_of_lt (by rw [O6.out,HA1.out];exact XC.out))))
  clear Ml Mh d0
  go_wp2_with fail
  go_ret
  exact HQ.out
 ·have SW:=zh (af Yz.out)
  go_wp2_with fail
  refine(HK.out.take aC.out SW.out.1 SW.out.2).mono ?_
  rintro e w1 ⟨v0,N0,aZ,rfl,hk,ho,hd⟩
  have HK:=zh hk;have HO:=zh ho.out
  clear hk ho hd
  go_wp2_with (at_builtin;go_loud (refine ba rfl _ _ rfl (HK.out.ints1 v0) (List.sublist_cons_self _ _) rfl rfl (l2:=[v0]) rfl (ol _ _) (by simp) (by simp) ?_))
  intro kv0 w2 Kw
  obtain⟨a,vs,O6,HK,HA,kt,bL,cy⟩:∃(a:RT) (vs:List Int),Hid (bW T s=a)∧Hid (KX b bb T D 0 A vn w w2 a.2 a.2.i N0 aZ [(kv0,.ints vs)])∧Hid (bU 0 N s a N0 vs)∧Hid (vs.length≤3)∧Hid (s.e≠0→a.2.e≠0)∧Hid (a.2.inn=false):=
   ⟨ac T s,[v0],zh (by unfold bW;rw [if_pos Yz.out]),zh Kw,zh (HO.out.weak (by decide)),zh (by simp),zh (fun h=>absurd SW.out.2 h),zh ((aq T SW.out.2).inn.trans sK.out)⟩
  have OQ:=zh (OQ.out a)
  clear Kw HO
  go_wp2_with fail
  refine(KX.one1 [102,117,110] (HK.out.strs1 _ _) aC.out (by decide) ⟨_,by simp,List.mem_cons_self ..⟩).mono ?_
  rintro e w1 ⟨v1,N1,vt,rfl,hk,ho,hd⟩
  have HK:=zh (hk.few (List.sublist_cons_self _ _));have HT:=zh ho.out;have bL:=zh (fun h=>hd (bL.out h));have cy:=zh ((ar T [102,117,110] _).inn.trans cy.out)
  clear hk ho hd
  go_wp2_with fail
  refine(HK.out.word aC.out).mono ?_
  rintro e w2 ⟨v2,N2,vn2,rfl,hk,ho,hd⟩
  have HK:=zh hk;have HT:=zh (HT.out.app ho.out hd);have bL:=zh (fun h=>hd (bL.out h));have cy:=zh ((bE T 1 _).inn.trans cy.out)
  clear hk ho hd
  go_wp2_with fail
  refine(KX.one1 [40] (HK.out.strs1 _ _) aC.out (by decide) ⟨_,by simp,List.mem_cons_self ..⟩).mono ?_
  rintro e w3 ⟨v3,N3,vn3,rfl,hk,ho,hd⟩
  have HK:=zh (hk.few (List.sublist_cons_self _ _));have HT:=zh (HT.out.app ho.out hd);have bL:=zh (fun h=>hd (bL.out h));have cy:=zh ((ar T [40] _).inn.trans cy.out)
  obtain⟨l3,JC⟩:∃l3,vs++[v1,v2,v3]=l3:=⟨_,rfl⟩
  have Za:=zh JC;have Ou:Hid (l3.length≤10):=zh (by rw [←JC,List.length_append];have:=kt.out;simp;omega)
  have HA:Hid (bU 1 N s (cK T a) N3 l3):=zh (by rw [←JC];exact(bU.app HA.out HT.out OQ.out).weak (by decide))
  clear hk ho hd JC HT
  go_wp2_with (at_builtin;go_loud (refine ba rfl _ _ rfl (HK.out.ints3 v1 v2 v3) (List.sublist_cons_self _ _) rfl rfl (l2:=[v1,v2,v3]) rfl (Pp _ _ _ _) (by have:=kt.out;omega) (by simp) ?_))
  intro kv4 w4 hk4
  rw [Za.out] at hk4
  obtain⟨a1,Ir⟩:∃a1,cK T a=a1:=⟨_,rfl⟩
  have HA1:=zh Ir
  have HK:Hid (KX b bb T D 0 A vn w w4 a1.2 a1.2.i N3 vn3 [(kv4,.ints l3)]):=zh (by rw [←Ir];exact hk4)
  have bL:Hid (s.e≠0→a1.2.e≠0):=zh (by rw [←Ir];exact bL.out)
  have cy:Hid (a1.2.inn=false):=zh (by rw [←Ir];exact cy.out)
  rw [Ir] at HA
  have XC:=zh HK.out.ok
  clear hk4 Ir Za
  go_wp2_with fail
  refine(AD.out _ _ _ _ _ HK.out cy.out).mono ?_
  rintro e w5 ⟨lv,ls,N5,XL,rfl,zO,Fh,xe,sB⟩
  obtain⟨q5,c5,rfl,Ac,-,-⟩:=zO.list (List.mem_cons_self ..)
  have HK:=zh zO;have xI:=zh Ac;have OA:=zh sB;have bL:=zh (fun h=>xe (bL.out h));have cy:=zh (wu (T:=T) (sub:=eF T (NT T D 0).expr) (fun s h=>oC (T:=T) (D:=D) s h) _ cy.out)
  obtain⟨l5,za⟩:∃l5,l3++ls=l5:=⟨_,rfl⟩
  have P1:=zh za;have KA:Hid (l5.length≤320):=zh (by rw [←za,List.length_append];have:=Ou.out;omega)
  have HA:Hid (bU 1 N s (nI T D a1) N5 l5):=zh (by rw [←za];exact(HA.out.app Fh xe).weak (by decide))
  obtain⟨m5,Ad⟩:∃m5,ls.length=m5:=⟨_,rfl⟩
  have ZZ:=zh Ad
  rw [Ad] at HK ⊢
  clear zO Fh xe sB Ac za Ad
  go_wp2_with (at_builtin;go_loud (refine ba rfl _ _ rfl HK.out (List.sublist_cons_self _ _) rfl rfl (l2:=ls) ZZ.out xI.out (by have:=Ou.out;omega) (by have:=OA.out;omega) ?_))
  intro kv6 w6 qG
  rw [P1.out] at qG
  obtain⟨a2,Jj⟩:∃a2,nI T D a1=a2:=⟨_,rfl⟩
  have Ph:=zh Jj
  have HK:Hid (KX b bb T D 0 A vn w w6 a2.2 a2.2.i N5 XL [(kv6,.ints l5)]):=zh (by rw [←Jj];exact qG)
  have bL:Hid (s.e≠0→a2.2.e≠0):=zh (by rw [←Jj];exact bL.out)
  have cy:Hid (a2.2.inn=false):=zh (by rw [←Jj];exact cy.out)
  rw [Jj] at HA
  clear qG Jj P1 xI ZZ
  go_wp2_with fail
  refine(KX.one1 [41] (HK.out.strs1 _ _) aC.out (by decide) ⟨_,by simp,List.mem_cons_self ..⟩).mono ?_
  rintro e w7 ⟨v7,N7,PB,rfl,hk,ho,hd⟩
  have HK:=zh (hk.few (List.sublist_cons_self _ _));have bL:=zh (fun h=>hd (bL.out h));have cy:=zh ((ar T [41] _).inn.trans cy.out)
  obtain⟨l7,sB⟩:∃l7,l5++[v7]=l7:=⟨_,rfl⟩
  have P2:=zh sB;have Ji:Hid (l7.length≤321):=zh (by rw [←sB,List.length_append];have:=KA.out;simp;omega)
  have HA:Hid (bU 1 N s (pD T a2) N7 l7):=zh (by rw [←sB];exact(HA.out.app ho.out hd).weak (by decide))
  clear hk ho hd sB
  go_wp2_with (at_builtin;go_loud (refine ba rfl _ _ rfl (HK.out.ints1 v7) (List.sublist_cons_self _ _) rfl rfl (l2:=[v7]) rfl (ol _ _) (by have:=KA.out;omega) (by simp) ?_))
  intro kv8 w8 qT
  rw [P2.out] at qT
  obtain⟨a3,Gz⟩:∃a3,pD T a2=a3:=⟨_,rfl⟩
  have Ri:=zh Gz
  have HK:Hid (KX b bb T D 0 A vn w w8 a3.2 a3.2.i N7 PB [(kv8,.ints l7)]):=zh (by rw [←Gz];exact qT)
  have bL:Hid (s.e≠0→a3.2.e≠0):=zh (by rw [←Gz];exact bL.out)
  have cy:Hid (a3.2.inn=false):=zh (by rw [←Gz];exact cy.out)
  rw [Gz] at HA
  clear qT Gz P2
  go_wp2_with fail
  refine(HTY.out _ _ _ _ _ HK.out cy.out).mono ?_
  rintro e w9 ⟨lv,lt,N9,cD,rfl,al,am,aG,ef⟩
  obtain⟨q9,c9,rfl,ZF,-,-⟩:=al.list (List.mem_cons_self ..)
  have HK:=zh al;have xI:=zh ZF;have zw:=zh ef;have bL:=zh (fun h=>aG (bL.out h));have cy:=zh (m4 (T:=T) (D:=D) _ cy.out)
  obtain⟨l9,zF⟩:∃l9,l7++lt=l9:=⟨_,rfl⟩
  have R9:=zh zF;have Kg:Hid (l9.length≤630):=zh (by rw [←zF,List.length_append];have:=Ji.out;omega)
  have HA:Hid (bU 1 N s (pE T D a3) N9 l9):=zh (by rw [←zF];exact(HA.out.app am.out aG).weak (by decide))
  obtain⟨m9,Ow⟩:∃m9,lt.length=m9:=⟨_,rfl⟩
  have HM9:=zh Ow
  rw [Ow] at HK ⊢
  clear al am aG ef ZF zF Ow
  go_wp2_with (at_builtin;go_loud (refine ba rfl _ _ rfl HK.out (List.sublist_cons_self _ _) rfl rfl (l2:=lt) HM9.out xI.out (by have:=Ji.out;omega) (by have:=zw.out;omega) ?_))
  intro kv10 w10 hk10
  rw [R9.out] at hk10
  obtain⟨a4,Hl⟩:∃a4,pE T D a3=a4:=⟨_,rfl⟩
  have HA4:=zh Hl
  have HK:Hid (KX b bb T D 0 A vn w w10 a4.2 a4.2.i N9 cD [(kv10,.ints l9)]):=zh (by rw [←Hl];exact hk10)
  have bL:Hid (s.e≠0→a4.2.e≠0):=zh (by rw [←Hl];exact bL.out)
  have cy:Hid (a4.2.inn=false):=zh (by rw [←Hl];exact cy.out)
  rw [Hl] at HA
  clear hk10 Hl R9 xI HM9
  go_wp2_with fail
  refine(KX.one1 [61] (HK.out.strs1 _ _) aC.out (by decide) ⟨_,by simp,List.mem_cons_self ..⟩).mono ?_
  rintro e w11 ⟨UN,N11,agw,rfl,hk,ho,hd⟩
  have HK:=zh (hk.few (List.sublist_cons_self _ _));have HT:=zh ho.out;have pY:=zh hd;have cy:=zh ((ar T [61] _).inn.trans cy.out)
  clear hk ho hd
  go_wp2_with fail
  refine(HK.out.call (fun A h=>DP.out _ _ _ A _ cy.out h)).mono ?_
  rintro e w12 ⟨UD,N12,ae8,rfl,hk,ho,hd⟩
  have HK:=zh hk;have HT:=zh (HT.out.app ho.out hd);have pY:=zh (fun h=>hd (pY.out h))
  clear hk ho hd
  go_wp2_with fail
  refine(KX.one1 [59] (HK.out.strs1 _ _) aC.out (by decide) ⟨_,by simp,List.mem_cons_self ..⟩).mono ?_
  rintro e w13 ⟨Xt,N13,Wa,rfl,hk,ho,hd⟩
  have HK:=zh (hk.few (List.sublist_cons_self _ _));have Ni:=zh (aQ.app HT.out ho hd);have pY:=zh (fun h=>hd (pY.out h))
  obtain⟨Ma,ym⟩:∃Ma,l9++[UN,UD,Xt]=Ma:=⟨_,rfl⟩
  have LW:=zh ym;have VR:Hid (Ma.length≤640):=zh (by rw [←ym,List.length_append];have:=Kg.out;simp;omega)
  have HA:Hid (aQ (0+1) N s (kp T D a4) N13 Ma):=zh (by rw [←ym];exact(aQ.app HA.out Ni.out pY.out).weak (by decide))
  have bL:Hid (s.e≠0→(kp T D a4).2.e≠0):=zh (fun h=>pY.out (bL.out h))
  clear hk ho hd ym HT Ni
  go_wp2_with (at_builtin;go_loud (refine ba rfl _ _ rfl (HK.out.ints3 UN UD Xt) (List.sublist_cons_self _ _) rfl rfl (l2:=[UN,UD,Xt]) rfl (Pp _ _ _ _) (by have:=Kg.out;omega) (by simp) ?_))
  intro kv14 w14 hk14
  rw [LW.out] at hk14
  have HK:Hid (KX b bb T D 0 A vn w w14 (kp T D a4).2 (kp T D a4).2.i N13 Wa [(kv14,.ints Ma)]):=zh hk14
  have d0:=HK.out.cell
  clear hk14 LW
  go_wp2_with fail
  refine(KX.node (k:=0) (kind:=3) HK.out (List.mem_cons_self ..) aC.out.len HA.out rfl cW.out (by have:=VR.out;omega)).mono ?_
  rintro e w15 ⟨v15,N15,adY,rfl,Ml,Mh⟩
  have HQ:=zh (KX.fin Mh Ml bL.out (r':=gO T (NT T D 0).expr s) (by rw [←HA4.out,←Ri.out,←Ph.out,←HA1.out,←O6.out];exact Cc T D s (Nat.le_of_lt (by rw [O6.out,HA1.out];exact XC.out))))
  clear Ml Mh d0
  go_wp2_with fail
  go_ret
  exact HQ.out
end
end Go.Proofs.YtjbgnopnehgbaaaGreatDoor
set_option maxHeartbeats 8000000
namespace Go.Proofs.YtjbgnopnehgbaaaGreatDoor
open Go.RowKit
def imT (T:List Tok) (s:St):RT:=([.nd 2 ((aj T [105,109,112,111,114,116] s).1++(aA T 1 (aj T [105,109,112,111,114,116] s).2).1++(aj T [59] (aA T 1 (aj T [105,109,112,111,114,116] s).2).2).1)],(aj T [59] (aA T 1 (aj T [105,109,112,111,114,116] s).2).2).2)
theorem Mt {T:List Tok} {r:RT} (h:isQ T [105,109,112,111,114,116] r.2=true):eC T r=(r.1++(imT T r.2).1,(imT T r.2).2):=by
 have e:aj T [105,109,112,111,114,116] r.2=ac T r.2:=by unfold aj;rw [if_pos h]
 unfold eC imT
 rw [e]
theorem JQ {T:List Tok} {s:St} (h:isQ T [105,109,112,111,114,116] s=true):s.i<(imT T s).2.i:=by
 have e:aj T [105,109,112,111,114,116] s=ac T s:=by unfold aj;rw [if_pos h]
 have h1:=qP (T:=T) (af h).1
 have h2:=(cY T 1 (ac T s).2).mono
 have h3:=(aN T [59] (aA T 1 (ac T s).2).2).mono
 show s.i<(aj T [59] (aA T 1 (aj T [105,109,112,111,114,116] s).2).2).2.i
 rw [e];omega
theorem Id {T:List Tok} {D:Nat} {s:St} (h:fF T s=true):s.i<(gO T (NT T D 0).expr s).2.i:=by
 have hx:=(dF T D (D - 0)).expr
 have hg:∀a:RT,Good T a.2 (eL T (NT T D 0).expr (du T (NT T D 0).expr a)):=fun a=>mX T hx (qM T hx (Good.self T a))
 have key:s.i<(cK T (bW T s)).2.i:=by
  unfold bW
  by_cases hp:isQ T [112,117,98] s=true
  ·rw [if_pos hp]
   have h1:=qP (T:=T) (af hp).1
   have h2:=(qL T (Good.self T (ac T s))).mono
   omega
  ·rw [if_neg hp]
   have hf:isQ T [102,117,110] s=true:=by
    unfold fF at h
    rcases Bool.or_eq_true_iff.1 h with h | h
    ·exact absurd h hp
    ·exact h
   have e:aj T [102,117,110] s=ac T s:=by unfold aj;rw [if_pos hf]
   have h1:=qP (T:=T) (af hf).1
   show s.i<(aj T [40] (aA T 1 (aj T [102,117,110] s).2).2).2.i
   rw [e]
   have h2:=(cY T 1 (ac T s).2).mono
   have h3:=(aN T [40] (aA T 1 (ac T s).2).2).mono
   omega
 have:=(hg (cK T (bW T s))).mono
 show s.i<(eL T (NT T D 0).expr (du T (NT T D 0).expr (cK T (bW T s)))).2.i
 omega
def rowP (T:List Tok) (c:St→Bool) (sub:St→RT) (most:Nat):Nat→Nat→RT→RT
 | 0,_,r=>r
 | f+1,k,r=>if c r.2=true then (if k=most then (r.1,aB T 15 r.2) else rowP T c sub most f (k+1) (r.1++(sub r.2).1,(sub r.2).2)) else r
theorem qj {T:List Tok} {c:St→Bool} {sub:St→RT} {step:RT→RT} {most:Nat} (hs:∀r,c r.2=true→step r=(r.1++(sub r.2).1,(sub r.2).2)):∀f k r,Eqv (rowP T c sub most f k r) (dr T c step most f k r).2
 | 0,k,r=>Eqv.refl _
 | f+1,k,r=>by
   unfold rowP dr
   split
   ·rename_i hc
    split
    ·exact⟨rfl,fun e=>absurd e (cC T (by decide) _)⟩
    ·rw [hs r hc];exact qj hs f _ _
   ·exact Eqv.refl _
theorem wR {T:List Tok} {c:St→Bool} {sub:St→RT} {most k:Nat} {r:RT} (hc:c r.2=false):∀f,rowP T c sub most f k r=r
 | 0=>rfl
 | f+1=>by unfold rowP;rw [hc];rfl
def l6 (T:List Tok) (c:St→Bool) (sub:St→RT) (most:Nat) (R:RT) (k:Nat) (r:RT):Prop:=∃f,T.length - r.2.i+1≤f∧rowP T c sub most f k r=R
theorem l6.stop {T:List Tok} {c:St→Bool} {sub:St→RT} {most k:Nat} {R r:RT} (h:l6 T c sub most R k r) (hc:c r.2=false):R=r:=by
 obtain⟨f,-,hf⟩:=h;rw [←hf,wR hc]
theorem l6.full {T:List Tok} {c:St→Bool} {sub:St→RT} {most:Nat} {R r:RT} (h:l6 T c sub most R most r) (hc:c r.2=true):R=(r.1,aB T 15 r.2):=by
 obtain⟨f,hf,hr⟩:=h
 obtain⟨g,rfl⟩:∃g,f=g+1:=⟨f - 1,by omega⟩
 unfold rowP at hr
 rw [if_pos hc,if_pos rfl] at hr
 exact hr.symm
theorem l6.next {T:List Tok} {c:St→Bool} {sub:St→RT} {most k:Nat} {R r:RT} (h:l6 T c sub most R k r) (hc:c r.2=true) (hk:k≠most) (hi:r.2.i<T.length) (hl:r.2.i<(sub r.2).2.i):l6 T c sub most R (k+1) (r.1++(sub r.2).1,(sub r.2).2):=by
 obtain⟨f,hf,hr⟩:=h
 obtain⟨g,rfl⟩:∃g,f=g+1:=⟨f - 1,by omega⟩
 refine⟨g,by show T.length - (sub r.2).2.i+1≤g;omega,?_⟩
 unfold rowP at hr
 rw [if_pos hc,if_neg hk] at hr
 exact hr
section
variable (b bb:Nat) (T:List Tok) (D n:Nat)
theorem D7 (hC:cN T):bX b bb T D n (fun s=>isQ T [105,109,112,111,114,116] s=true) 43 (imT T):=by
 intro s N vn A w hP h
 have aC:=zh hC
 have aP:=zh (af hP)
 have dD:Hid ([105,109,112,111,114,116]∈KS):=zh (by decide)
 have fC:Hid ([59]∈KS):=zh (by decide)
 have cW:=zh h.few
 have HK:=zh (KX.start h)
 have HA:=zh (bU.nil N s)
 clear h hC hP
 go_enter Tryz.func43,Tryz.ntmps43
 go_wp2_with fail
 have bP:=HK
 have HK:=zh HK.out.drew
 go_region_held3 (fun w'=>w'.cell? ⟨b,0,none⟩=some (.pointer (some ⟨bb,0,none⟩))) (first | with_reducible exact HK.out.cell | with_reducible exact(HK.out.alloc _).cell | with_reducible exact(bP.out.alloc _).drew.cell | with_reducible exact((HK.out.alloc _).alloc _).cell | with_reducible exact((bP.out.alloc _).alloc _).drew.cell | with_reducible exact(((HK.out.alloc _).alloc _).alloc _).cell)
  (first
   | (go_at_call 45;have kO:=zh (HD.out.weak (j:=0+1) (by decide));refine(KX.node (k:=0) (kind:=2) (HK.out.ints3 _ _ _ ) ?_ aC.out.len kO.out ?_ cW.out ?_).mono ?_;exact List.mem_cons_self ..;rfl;simp;rintro e w9 ⟨v9,N9,cD,rfl,al,am⟩;have HK:=zh al;have HZ:=zh am;clear al am)
   | (go_at_call 46;(first | with_reducible refine(HK.out.word aC.out).mono ?_ | with_reducible refine((HK.out.strs1 _ _).word aC.out).mono ?_ | with_reducible refine((bP.out.strs1 _ _).drew.word aC.out).mono ?_ | with_reducible refine(((HK.out.strs1 _ _).strs1 _ _).word aC.out).mono ?_ | with_reducible refine(((bP.out.strs1 _ _).strs1 _ _).drew.word aC.out).mono ?_);rintro e w9 ⟨v9,N9,cD,rfl,al,am,aG⟩;have HK:=zh al;have HD:=zh (aQ.app HA.out am aG);have HA:=zh HD.out.out;clear al am aG)
   | (go_at_call 78;(first | with_reducible refine(KX.one1 [105,109,112,111,114,116] HK.out aC.out dD.out ?_).mono ?_ | with_reducible refine(KX.one1 [105,109,112,111,114,116] (HK.out.strs1 _ _) aC.out dD.out ?_).mono ?_ | with_reducible refine(KX.one1 [105,109,112,111,114,116] (bP.out.strs1 _ _).drew aC.out dD.out ?_).mono ?_ | with_reducible refine(KX.one1 [105,109,112,111,114,116] ((HK.out.strs1 _ _).strs1 _ _) aC.out dD.out ?_).mono ?_ | with_reducible refine(KX.one1 [105,109,112,111,114,116] ((bP.out.strs1 _ _).strs1 _ _).drew aC.out dD.out ?_).mono ?_);(first | (refine⟨_,?_,List.mem_cons_self ..⟩;focus (simp;done)) | (refine⟨_,?_,List.mem_cons_of_mem _ (List.mem_cons_self ..)⟩;focus (simp;done)) | (refine⟨_,?_,List.mem_cons_of_mem _ (List.mem_cons_of_mem _ (List.mem_cons_self ..))⟩;focus (simp;done)));rintro e w9 ⟨v9,N9,cD,rfl,al,am,aG⟩;have HK:=zh al;have HD:=zh (aQ.app HA.out am aG);have HA:=zh HD.out.out;clear al am aG)
   | (go_at_call 78;(first | with_reducible refine(KX.one1 [59] HK.out aC.out fC.out ?_).mono ?_ | with_reducible refine(KX.one1 [59] (HK.out.strs1 _ _) aC.out fC.out ?_).mono ?_ | with_reducible refine(KX.one1 [59] (bP.out.strs1 _ _).drew aC.out fC.out ?_).mono ?_ | with_reducible refine(KX.one1 [59] ((HK.out.strs1 _ _).strs1 _ _) aC.out fC.out ?_).mono ?_ | with_reducible refine(KX.one1 [59] ((bP.out.strs1 _ _).strs1 _ _).drew aC.out fC.out ?_).mono ?_);(first | (refine⟨_,?_,List.mem_cons_self ..⟩;focus (simp;done)) | (refine⟨_,?_,List.mem_cons_of_mem _ (List.mem_cons_self ..)⟩;focus (simp;done)) | (refine⟨_,?_,List.mem_cons_of_mem _ (List.mem_cons_of_mem _ (List.mem_cons_self ..))⟩;focus (simp;done)));rintro e w9 ⟨v9,N9,cD,rfl,al,am,aG⟩;have HK:=zh al;have HD:=zh (aQ.app HA.out am aG);have HA:=zh HD.out.out;clear al am aG))
 all_goals
  have HQ:=zh (KX.fin HZ.out HK.out (fun he=>absurd aP.out.2 he) (r':=imT T s) (Eqv.refl _))
  go_wp2_with fail
  go_ret
  exact HQ.out
theorem zJ (hC:cN T) (P:St→Prop) (sub:St→RT) (most:Nat) (hmost:most≤100) (hS:bX b bb T D n P 43 sub) (hI:∀s,s.inn=false→(sub s).2.inn=false) (ws:List (List UInt8)) (hn:ws.length≤100) (hP:∀s,s.inn=false→atQ T ws s=true→P s) (hl:∀s,atQ T ws s=true→s.i<(sub s).2.i) {A0:Nat→Prop} {aZ:Value} {w0 w:World} {s:St} {N:List Nd} {vn v:Value} {L:List (Value×Th)} (hk:KX b bb T D n A0 aZ w0 w s s.i N vn L) (hm:(v,Th.strs ws)∈L) (hi:s.inn=false):
  Calls Tryz.prog 42 #[.pointer (some ⟨b,0,none⟩),.int .i64 (most:Int),.func (.func 43) #[] #[],v] w fun e w'=>qg b bb T D n 0 A0 aZ w0 s (rowP T (atQ T ws) sub most (aT T s) 0 ([],s)) N L e w'∧(rowP T (atQ T ws) sub most (aT T s) 0 ([],s)).2.inn=false:=by
 have aC:=zh hC;have HS:=zh hS;have HI:=zh hI;have HM:=zh hm;have LN:=zh hn;have sK:=zh hP;have ip:=zh hl;have UB:=zh hmost
 have HK:=zh hk
 have cy:=zh hi
 obtain⟨R,hR⟩:∃R,rowP T (atQ T ws) sub most (aT T s) 0 ([],s)=R:=⟨_,rfl⟩
 have gM:Hid (l6 T (atQ T ws) sub most R 0 ([],s)):=zh ⟨_,Nat.le_refl _,hR⟩
 rw [hR]
 clear hC hS hI hm hn hP hl hk hi hR
 go_enter Tryz.func42,Tryz.ntmps42
 go_wp2_with fail
 go_loopw [9] (fun kv wr=>∃(k:Nat) (r:RT) (N':List Nd) (bY:Value) (vs:List Int) (p:Option Addr) (c:Nat),kv=.slice p k c∧Hid (vs.length=k)∧Hid (k≤most)∧Hid (KX b bb T D n A0 aZ w0 wr r.2 r.2.i N' bY ((.slice p k c,.ints vs)::L))∧Hid (bU 0 N s r N' vs)∧Hid (l6 T (atQ T ws) sub most R k r)∧Hid (s.e≠0→r.2.e≠0)∧Hid (r.2.inn=false)) (fun _ wr=>T.length - uOf wr bb)
 case atStart=>exact⟨0,([],s),N,vn,[],none,0,rfl,zh rfl,zh (Nat.zero_le _),zh HK.out.nilS,zh (bU.nil N s),gM,zh (fun h=>h),cy⟩
 case round=>
  clear HK gM cy
  obtain⟨k,r,N',bY,vs,p,c,rfl,kt,QT,HK,HA,HL,bL,cy⟩:=hrel
  have Bx:Hid (KX b bb T D n A0 aZ w0 wr r.2 r.2.i N' bY ((.slice p k c,.ints vs)::L)):=HK
  go_wp2_with fail
  refine(KX.at HK.out (List.mem_cons_of_mem _ HM.out) LN.out).mono ?_
  rintro e w2 ⟨rfl,hk⟩
  have HK:=zh hk
  obtain⟨a,ha⟩:∃a,atQ T ws r.2=a:=⟨_,rfl⟩
  rw [ha]
  have HV:=zh ha
  clear hk ha
  cases a
  ·have HE:=zh (HL.out.stop HV.out)
   go_wp2_with fail
   go_ret
   rw [HE.out]
   exact⟨⟨_,vs,N',bY,rfl,HK.out,HA.out,bL.out,by have:=kt.out;have:=QT.out;have:=UB.out;omega⟩,cy.out⟩
  ·by_cases B6:k=most
   ·have d1:((k:Int) == (most:Int))=true:=by rw [B6];simp
    have uR:(k == most)=true:=by rw [B6];simp
    have HE:Hid (R=(r.1,aB T 15 r.2)):=zh (by have h9:=HL.out;rw [B6] at h9;exact h9.full HV.out)
    clear B6
    go_wp2_with fail
    refine(HK.out.fail 15 (by decide)).mono ?_
    rintro e w3 ⟨v9,N9,cD,rfl,al,am,aG⟩
    have HK:=zh al;have HA:=zh (HA.out.app am.out aG);have bL:=zh (fun h=>aG (bL.out h))
    clear al am aG
    go_wp2_with fail
    go_ret
    rw [HE.out]
    exact⟨⟨_,vs,N9,cD,rfl,HK.out,⟨fun e=>absurd e (cC T (by decide) _),HA.out.2⟩,bL.out,by have:=kt.out;have:=QT.out;have:=UB.out;omega⟩,(dU T 15 r.2 r.1).inn.trans cy.out⟩
   ·have d1:((k:Int) == (most:Int))=false:=beq_eq_false_iff_ne.2 (by omega)
    have uR:(k == most)=false:=beq_eq_false_iff_ne.2 B6
    have ir:=zh (HL.out.next HV.out B6 HK.out.ok (ip.out _ HV.out))
    have SV:Hid (k+1≤most):=zh (by have:=QT.out;omega)
    clear B6
    go_wp2_with fail
    refine(HK.out.sub HS.out (sK.out _ cy.out HV.out)).mono ?_
    rintro e w3 ⟨v9,N9,cD,rfl,al,am,aG⟩
    have HK:=zh al;have HA:=zh (HA.out.app am.out aG);have bL:=zh (fun h=>aG (bL.out h));have cy:=zh (HI.out _ cy.out)
    obtain⟨l9,ef⟩:∃l9,vs++[v9]=l9:=⟨_,rfl⟩
    have R9:=zh ef
    have zg:Hid (l9.length=k+1):=zh (by rw [←ef,List.length_append,kt.out];rfl)
    rw [ef] at HA
    clear al am aG ef
    go_wp2_with (at_builtin;go_loud (refine ba rfl _ _ rfl (HK.out.ints1 v9) (List.sublist_cons_self _ _) rfl rfl (l2:=[v9]) rfl (ol _ _) (by have:=kt.out;have:=QT.out;have:=UB.out;omega) (by simp) ?_))
    intro kv2 w4 hk4
    rw [R9.out] at hk4
    obtain⟨p2,c2,rfl,-,-,-⟩:=hk4.list (List.mem_cons_self ..)
    rw [zg.out] at hk4 ⊢
    have HK:=zh hk4
    have E3:Hid (T.length - uOf w4 bb<T.length - uOf wr bb):=zh (by rw [hk4.used,Bx.out.used];have h5:=ip.out _ HV.out;have h6:=Bx.out.ok;have h7:=hk4.ok;omega)
    clear hk4
    go_wp2_with fail
    go_roundw
    case rel=>exact⟨k+1,(r.1++(sub r.2).1,(sub r.2).2),N9,cD,l9,p2,c2,rfl,zg,SV,HK,zh HA.out,ir,bL,cy⟩
    case measure=>exact E3.out
theorem ug (hC:cN T) (P:St→Prop) (sub:St→RT) (most:Nat) (hmost:most≤100) (hS:bX b bb T D n P 44 sub) (hI:∀s,s.inn=false→(sub s).2.inn=false) (ws:List (List UInt8)) (hn:ws.length≤100) (hP:∀s,s.inn=false→atQ T ws s=true→P s) (hl:∀s,atQ T ws s=true→s.i<(sub s).2.i) {A0:Nat→Prop} {aZ:Value} {w0 w:World} {s:St} {N:List Nd} {vn v:Value} {L:List (Value×Th)} (hk:KX b bb T D n A0 aZ w0 w s s.i N vn L) (hm:(v,Th.strs ws)∈L) (hi:s.inn=false):
  Calls Tryz.prog 42 #[.pointer (some ⟨b,0,none⟩),.int .i64 (most:Int),.func (.func 44) #[] #[],v] w fun e w'=>qg b bb T D n 0 A0 aZ w0 s (rowP T (atQ T ws) sub most (aT T s) 0 ([],s)) N L e w'∧(rowP T (atQ T ws) sub most (aT T s) 0 ([],s)).2.inn=false:=by
 have aC:=zh hC;have HS:=zh hS;have HI:=zh hI;have HM:=zh hm;have LN:=zh hn;have sK:=zh hP;have ip:=zh hl;have UB:=zh hmost
 have HK:=zh hk
 have cy:=zh hi
 obtain⟨R,hR⟩:∃R,rowP T (atQ T ws) sub most (aT T s) 0 ([],s)=R:=⟨_,rfl⟩
 have gM:Hid (l6 T (atQ T ws) sub most R 0 ([],s)):=zh ⟨_,Nat.le_refl _,hR⟩
 rw [hR]
 clear hC hS hI hm hn hP hl hk hi hR
 go_enter Tryz.func42,Tryz.ntmps42
 go_wp2_with fail
 go_loopw [9] (fun kv wr=>∃(k:Nat) (r:RT) (N':List Nd) (bY:Value) (vs:List Int) (p:Option Addr) (c:Nat),kv=.slice p k c∧Hid (vs.length=k)∧Hid (k≤most)∧Hid (KX b bb T D n A0 aZ w0 wr r.2 r.2.i N' bY ((.slice p k c,.ints vs)::L))∧Hid (bU 0 N s r N' vs)∧Hid (l6 T (atQ T ws) sub most R k r)∧Hid (s.e≠0→r.2.e≠0)∧Hid (r.2.inn=false)) (fun _ wr=>T.length - uOf wr bb)
 case atStart=>exact⟨0,([],s),N,vn,[],none,0,rfl,zh rfl,zh (Nat.zero_le _),zh HK.out.nilS,zh (bU.nil N s),gM,zh (fun h=>h),cy⟩
 case round=>
  clear HK gM cy
  obtain⟨k,r,N',bY,vs,p,c,rfl,kt,QT,HK,HA,HL,bL,cy⟩:=hrel
  have Bx:Hid (KX b bb T D n A0 aZ w0 wr r.2 r.2.i N' bY ((.slice p k c,.ints vs)::L)):=HK
  go_wp2_with fail
  refine(KX.at HK.out (List.mem_cons_of_mem _ HM.out) LN.out).mono ?_
  rintro e w2 ⟨rfl,hk⟩
  have HK:=zh hk
  obtain⟨a,ha⟩:∃a,atQ T ws r.2=a:=⟨_,rfl⟩
  rw [ha]
  have HV:=zh ha
  clear hk ha
  cases a
  ·have HE:=zh (HL.out.stop HV.out)
   go_wp2_with fail
   go_ret
   rw [HE.out]
   exact⟨⟨_,vs,N',bY,rfl,HK.out,HA.out,bL.out,by have:=kt.out;have:=QT.out;have:=UB.out;omega⟩,cy.out⟩
  ·by_cases B6:k=most
   ·have d1:((k:Int) == (most:Int))=true:=by rw [B6];simp
    have uR:(k == most)=true:=by rw [B6];simp
    have HE:Hid (R=(r.1,aB T 15 r.2)):=zh (by have h9:=HL.out;rw [B6] at h9;exact h9.full HV.out)
    clear B6
    go_wp2_with fail
    refine(HK.out.fail 15 (by decide)).mono ?_
    rintro e w3 ⟨v9,N9,cD,rfl,al,am,aG⟩
    have HK:=zh al;have HA:=zh (HA.out.app am.out aG);have bL:=zh (fun h=>aG (bL.out h))
    clear al am aG
    go_wp2_with fail
    go_ret
    rw [HE.out]
    exact⟨⟨_,vs,N9,cD,rfl,HK.out,⟨fun e=>absurd e (cC T (by decide) _),HA.out.2⟩,bL.out,by have:=kt.out;have:=QT.out;have:=UB.out;omega⟩,(dU T 15 r.2 r.1).inn.trans cy.out⟩
   ·have d1:((k:Int) == (most:Int))=false:=beq_eq_false_iff_ne.2 (by omega)
    have uR:(k == most)=false:=beq_eq_false_iff_ne.2 B6
    have ir:=zh (HL.out.next HV.out B6 HK.out.ok (ip.out _ HV.out))
    have SV:Hid (k+1≤most):=zh (by have:=QT.out;omega)
    clear B6
    go_wp2_with fail
    refine(HK.out.sub HS.out (sK.out _ cy.out HV.out)).mono ?_
    rintro e w3 ⟨v9,N9,cD,rfl,al,am,aG⟩
    have HK:=zh al;have HA:=zh (HA.out.app am.out aG);have bL:=zh (fun h=>aG (bL.out h));have cy:=zh (HI.out _ cy.out)
    obtain⟨l9,ef⟩:∃l9,vs++[v9]=l9:=⟨_,rfl⟩
    have R9:=zh ef
    have zg:Hid (l9.length=k+1):=zh (by rw [←ef,List.length_append,kt.out];rfl)
    rw [ef] at HA
    clear al am aG ef
    go_wp2_with (at_builtin;go_loud (refine ba rfl _ _ rfl (HK.out.ints1 v9) (List.sublist_cons_self _ _) rfl rfl (l2:=[v9]) rfl (ol _ _) (by have:=kt.out;have:=QT.out;have:=UB.out;omega) (by simp) ?_))
    intro kv2 w4 hk4
    rw [R9.out] at hk4
    obtain⟨p2,c2,rfl,-,-,-⟩:=hk4.list (List.mem_cons_self ..)
    rw [zg.out] at hk4 ⊢
    have HK:=zh hk4
    have E3:Hid (T.length - uOf w4 bb<T.length - uOf wr bb):=zh (by rw [hk4.used,Bx.out.used];have h5:=ip.out _ HV.out;have h6:=Bx.out.ok;have h7:=hk4.ok;omega)
    clear hk4
    go_wp2_with fail
    go_roundw
    case rel=>exact⟨k+1,(r.1++(sub r.2).1,(sub r.2).2),N9,cD,l9,p2,c2,rfl,zg,SV,HK,zh HA.out,ir,bL,cy⟩
    case measure=>exact E3.out
end
end Go.Proofs.YtjbgnopnehgbaaaGreatDoor
namespace Go.Proofs.YtjbgnopnehgbaaaGreatDoor
open Go.RowKit
def LU (T:List Tok) (s:St) (N:List Nd) (v:Int) (u':Nat) (N':List Nd):Prop:=
 ((aA T 5 s).2.e=0→N'=N++[⟨19,(s.i:Int),[]⟩]∧v=(N.length:Int)∧u'=s.i+1∧(aA T 5 s).1 = [.lf s.i])∧((aA T 5 s).2.e≠0→v = -1∧N'=N∧u'=s.i)
def Kr (b bb:Nat) (T:List Tok) (D n:Nat) (s:St) (N:List Nd) (vn:Value) (A:Nat→Prop) (w:World) (e:Ending) (w':World):Prop:=
 ∃(v:Int) (u':Nat) (N':List Nd) (bY:Value),e=.returned (.int .i64 v)∧XAt w' b bb T D n (aA T 5 s).2 u' N' bY A∧Step b bb vn w bY w'∧LU T s N v u' N'
def mI (b bb:Nat) (T:List Tok) (D kind:Nat) (s:St) (r:RT) (N:List Nd) (vn:Value) (A:Nat→Prop) (w:World) (e:Ending) (w':World):Prop:=
 ∃(x:Int) (u:Nat) (N':List Nd) (bY:Value),e=.returned (.int .i64 x)∧XAt w' b bb T D 0 r.2 u N' bY A∧Step b bb vn w bY w'∧u≤T.length∧(r.2.e=0→N'=N++dT N.length [.nd kind r.1])
section
variable (b bb:Nat) (T:List Tok) (D n:Nat)
theorem PZ (hC:cN T) (s:St) (N:List Nd) (vn:Value) (A:Nat→Prop) (w:World) (h:XAt w b bb T D n s s.i N vn A):
  Calls Tryz.prog 46 #[.pointer (some ⟨b,0,none⟩),.int .i64 5] w (Kr b bb T D n s N vn A w):=by
 have HA:Hid (Calls Tryz.prog 86 #[.pointer (some ⟨b,0,none⟩),.int .i64 5] w (aR (.bool (decide (s.e=0∧(an T s).kind=5))) w)):=zh (td b bb T D n s s.i N vn A 5 w h)
 have HF:=zh (fun w h=>jU b bb T D n 22 s s.i N vn A w h)
 have HX:=zh h
 have sD:Hid (aA T 5 s=if s.e=0∧(an T s).kind=5 then ac T s else ([],aB T 22 s)):=zh rfl
 have kA:=zh (fun w h=>Nc b bb T D n hC.len hC.short hC.ends s N vn A w h)
 clear h hC
 by_cases hc:s.e=0∧(an T s).kind=5
 ·rw [zd hc] at HA
  rw [if_pos hc] at sD
  have HC:=zh hc
  clear hc
  go_enter Tryz.func46,Tryz.ntmps46
  go_wp2_with fail
  refine HA.out.mono ?_
  rintro e w1 ⟨rfl,hg⟩
  have IP:=zh (HX.out.kept hg);have HG:=zh hg
  clear hg HA
  go_wp2_with fail
  refine(kA.out _ IP.out).mono ?_
  rintro e w2 ⟨bY,rfl,h1,h2⟩
  have HZ:Hid (Kr b bb T D n s N vn A w (.returned (.int .i64 (N.length:Int))) w2):=zh (by
   refine⟨_,s.i+1,_,bY,rfl,by rw [sD.out];exact h1,(Step.of HG.out).trans h2,?_,?_⟩
   ·intro _;exact⟨rfl,rfl,rfl,by rw [sD.out];rfl⟩
   ·intro he;rw [sD.out] at he;exact absurd (mN T HC.out.1) he)
  clear h1 h2
  go_wp2_with fail
  go_ret
  exact HZ.out
 ·rw [decide_eq_false hc] at HA
  rw [if_neg hc] at sD
  clear hc
  go_enter Tryz.func46,Tryz.ntmps46
  go_wp2_with fail
  refine HA.out.mono ?_
  rintro e w1 ⟨rfl,hg⟩
  have IP:=zh (HX.out.kept hg);have HG:=zh hg
  clear hg HA
  go_wp2_with fail
  refine(HF.out _ IP.out).mono ?_
  rintro e w2 ⟨rfl,h2,st2⟩
  have HZ:Hid (Kr b bb T D n s N vn A w (.returned (.int .i64 (-1))) w2):=zh (by
   refine⟨-1,s.i,N,vn,rfl,by rw [sD.out];exact h2,(Step.of HG.out).trans st2,?_,?_⟩
   ·intro he;rw [sD.out] at he;exact absurd he (cC T (by decide) s)
   ·intro _;exact⟨rfl,rfl,rfl⟩)
  clear h2 st2
  go_wp2_with fail
  go_ret
  exact HZ.out
end
def Di (N0:List Nd) (r:RT) (N:List Nd) (vs:List Int):Prop:=(r.2.e=0→N=N0++dT N0.length r.1∧vs=iW N0.length r.1)∧(r.2.e≠0→(-1:Int)∈vs)
section
variable {b bb:Nat} {T:List Tok} {D n:Nat} {A0:Nat→Prop} {aZ:Value} {w0 w w':World} {s:St} {u:Nat} {N:List Nd} {vn:Value} {L:List (Value×Th)}
theorem Di.of {k:Nat} {N0 N':List Nd} {s0:St} {a:RT} {vs:List Int} {v:Int} {u':Nat} (h:bU k N0 s0 a N vs) (he:LU T a.2 N v u' N'):Di N0 (a.1++(aA T 5 a.2).1,(aA T 5 a.2).2) N' (vs++[v]):=by
 refine⟨fun e=>?_,fun e=>?_⟩
 ·have ea:a.2.e=0:=by
   rcases Nat.eq_zero_or_pos a.2.e with h9 | h9
   ·exact h9
   ·exact absurd e (by show ¬(aA T 5 a.2).2.e=0;rw [(bE T 5 a.2).dead (by omega)];omega)
  obtain⟨e1,e2,-⟩:=h.1 ea
  obtain⟨f1,f2,f3,f4⟩:=he.1 e
  have hl:N.length=N0.length+dI a.1:=by rw [e1,List.length_append,fV]
  rw [f4,oP,ri,f1,f2,←e2]
  refine⟨?_,?_⟩
  ·rw [←List.append_assoc,←e1];simp [dT,post]
  ·rw [hl];simp [iW,szR]
 ·rw [(he.2 e).1];exact List.mem_append_right _ (List.mem_singleton.2 rfl)
theorem KX.endOf (hk:KX b bb T D n A0 aZ w0 w s s.i N vn L) (hC:cN T):
  Calls Tryz.prog 46 #[.pointer (some ⟨b,0,none⟩),.int .i64 5] w fun e w'=>∃(v:Int) (u':Nat) (N':List Nd) (bY:Value),e=.returned (.int .i64 v)∧KX b bb T D n A0 aZ w0 w' (aA T 5 s).2 u' N' bY L∧LU T s N v u' N':=by
 obtain⟨A,h1,h2,h3,h4,h5⟩:=hk
 refine(PZ b bb T D n hC s N vn A w h1).mono ?_
 rintro e w' ⟨v,u',N',bY,rfl,g1,g2,g3⟩
 exact⟨v,u',N',bY,rfl,KX.go h2 h3 h4 h5 h1.lt g1 g2,g3⟩
theorem KX.nodeEnd {kind:Nat} {v:Value} {vs:List Int} {N0:List Nd} {r:RT} (hk:KX b bb T D n A0 aZ w0 w r.2 u N vn L) (hm:(v,Th.ints vs)∈L) (hT:T.length≤40000) (hu:u≤T.length) (hF:Di N0 r N vs) (hl:vs.length≤30000) (hr:r.2.e=0→N.length+1≤2*u):
  Calls Tryz.prog 45 #[.pointer (some ⟨bb,0,none⟩),.int .i64 (kind:Int),v] w fun e w'=>∃(x:Int) (N':List Nd) (bY:Value),e=.returned (.int .i64 x)∧KX b bb T D n A0 aZ w0 w' r.2 u N' bY L∧(r.2.e=0→N'=N0++dT N0.length [.nd kind r.1]):=by
 obtain⟨p,c,rfl,hv,-,-⟩:=hk.list hm
 have Kw:=hk
 obtain⟨A,h1,h2,h3,h4,h5⟩:=hk
 have V4:=h1.few
 by_cases he:r.2.e=0
 ·obtain⟨e1,e2⟩:=hF.1 he
  have dp:okB N.length vs=true:=uG fun j hj=>by
   rw [e2] at hj
   have:=yB _ _ _ hj
   rw [e1,List.length_append,fV];omega
  refine(Bd A bb T u N vn (kind:Int) vs p c w (by omega) (by omega) h1.bld h1.new hv dp).mono ?_
  rintro e w' ⟨rfl,bY,g1,g2,g3⟩
  obtain⟨hx,si⟩:=h1.bump g1 g2 g3 (by rw [List.length_append];exact hr he)
  refine⟨_,_,bY,rfl,KX.go h2 h3 h4 h5 h1.lt hx si,fun _=>?_⟩
  simp only [dT,post,List.append_nil]
  rw [←List.append_assoc,←e1,e2]
 ·have oS:okB N.length vs=false:=by
   obtain⟨j,hj⟩:=List.getElem?_of_mem (hF.2 he)
   exact mM hj (by omega)
  refine(wh bb T u N vn (kind:Int) vs p c w (by omega) (by omega) h1.bld.bld hv oS).mono ?_
  rintro e w' ⟨rfl,hg⟩
  exact⟨-1,N,vn,rfl,Kw.kept hg,fun e=>absurd e he⟩
end
theorem oe {T:List Tok} {c:St→Bool} {sub:St→RT} {most:Nat}:∀f k (l:List Tr) (s:St),rowP T c sub most f k (l,s)=(l++(rowP T c sub most f k ([],s)).1,(rowP T c sub most f k ([],s)).2)
 | 0,k,l,s=>by simp [rowP]
 | f+1,k,l,s=>by
   unfold rowP
   split
   ·split
    ·simp
    ·show rowP T c sub most f (k+1) (l++(sub s).1,(sub s).2)=_
     rw [oe f (k+1) (l++(sub s).1),show(([],s):RT).1++(sub s).1=(sub s).1 from rfl,oe f (k+1) (sub s).1]
     simp
   ·simp
theorem Gx {T:List Tok} (hC:cN T):atQ T [[105,109,112,111,114,116]]=isQ T [105,109,112,111,114,116]:=funext fun s=>at_one hC (by decide) s
theorem wz {T:List Tok} {sub:St→RT} (hI:∀s,s.inn=false→(sub s).2.inn=false):∀f k (r:RT),r.2.inn=false→(bk T sub f k r).2.inn=false
 | 0,k,r,h=>h
 | f+1,k,r,h=>by
   unfold bk
   split
   ·rename_i hc
    refine wz hI f _ _ ?_
    have hl:(ac T r.2).2.inn=false:=(aq T (af hc).2).inn.trans h
    show(sub (if k=8 then aB T 15 (ac T r.2).2 else (ac T r.2).2)).2.inn=false
    refine hI _ ?_
    split
    ·exact(dU T 15 (ac T r.2).2 []).inn.trans hl
    ·exact hl
   ·exact h
theorem Sv {T:List Tok} {D:Nat} (s:St) (h:s.inn=false):(gO T (NT T D 0).expr s).2.inn=false:=by
 have hA:(bW T s).2.inn=false:=by
  unfold bW
  split
  ·rename_i hc;exact(aq T (af hc).2).inn.trans h
  ·exact h
 have hB:(cK T (bW T s)).2.inn=false:=by
  show(aj T [40] (aA T 1 (aj T [102,117,110] (bW T s).2).2).2).2.inn=false
  rw [(ar T [40] _).inn,(bE T 1 _).inn,(ar T [102,117,110] _).inn];exact hA
 have hC:(du T (NT T D 0).expr (cK T (bW T s))).2.inn=false:=by
  generalize cK T (bW T s)=X at hB
  have hp:(eI T (NT T D 0).expr X.2).2.inn=false:=by
   unfold eI
   exact wz (T:=T) (sub:=eF T (NT T D 0).expr) (fun s h=>oC (T:=T) (D:=D) s h) (aT T (eF T (NT T D 0).expr X.2).2) 1 (eF T (NT T D 0).expr X.2) (oC (T:=T) (D:=D) X.2 hB)
  unfold du
  split
  ·exact hp
  ·exact hB
 generalize hg:du T (NT T D 0).expr (cK T (bW T s))=a at hC
 have e:(gO T (NT T D 0).expr s).2=(aj T [59] ((NT T D 0).expr (aj T [61] (bA T (NT T D 0).expr (aj T [41] a.2).2).2).2).2).2:=by rw [←hg];rfl
 rw [e,(ar T [59] _).inn,((fi T D (D - 0)).expr _).inn,(ar T [61] _).inn]
 refine m4 (T:=T) (D:=D) _ ?_
 rw [(ar T [41] _).inn];exact hC
theorem FC {T:List Tok} (hC:cN T):atQ T [[112,117,98],[102,117,110]]=fF T:=funext fun s=>by rw [jh hC (by decide)];simp [fF]
section
variable (T:List Tok) (D:Nat)
def gj (s:St):RT:=rowP T (isQ T [105,109,112,111,114,116]) (imT T) 16 (aT T s) 0 ([],s)
def gt (s:St):RT:=rowP T (fF T) (gO T (NT T D 0).expr) 64 (aT T s) 0 ([],s)
def rM (s:St):RT:=((gj T s).1++(gt T D (gj T s).2).1++(aA T 5 (gt T D (gj T s).2).2).1,(aA T 5 (gt T D (gj T s).2).2).2)
theorem un {s:St} (h:s.e≠0):fF T s=false:=by unfold fF;rw [lj h,lj h];rfl
theorem DM {s:St} (h:s.e≠0):gt T D s=([],s):=wR (un T h) _
theorem Hv (s:St):Eqv (rM T D s) (aW T (NT T D 0).expr s):=by
 have hA:Eqv (gj T s) (au T ([],s)).2:=qj (fun r h=>Mt h) _ _ _
 have hAb:=gH T (c:=isQ T [105,109,112,111,114,116]) (stepT:=eC T) (most:=16) (aT T s) 0 ([],s)
 have ae5:(au T ([],s)).1=false→(au T ([],s)).2.2.e≠0:=hAb
 unfold aW
 generalize au T ([],s)=I at *
 by_cases hd:I.2.2.e=0
 ·have hI:I.1=true:=by
   cases h:I.1
   ·exact absurd hd (ae5 h)
   ·rfl
  have eA:gj T s=I.2:=Prod.ext (hA.2 hd) hA.1
  have hDm:Eqv (rowP T (fF T) (gO T (NT T D 0).expr) 64 (aT T I.2.2) 0 I.2) (cj T (NT T D 0).expr I.2).2:=qj (fun r h=>rfl) _ _ _
  have hDb:(cj T (NT T D 0).expr I.2).1=false→(cj T (NT T D 0).expr I.2).2.2.e≠0:=gH T (c:=fF T) (stepT:=fE T (NT T D 0).expr) (most:=64) (aT T I.2.2) 0 I.2
  rw [show I.2=(I.2.1,I.2.2) from rfl,oe] at hDm
  unfold rM
  rw [eA,if_neg (by rw [hI];decide)]
  have PP:Eqv (I.2.1++(gt T D I.2.2).1,(gt T D I.2.2).2) (cj T (NT T D 0).expr I.2).2:=hDm
  by_cases hJ:(cj T (NT T D 0).expr I.2).1=false
  ·rw [if_pos hJ]
   have hdd:=hDb hJ
   refine⟨?_,fun e=>absurd e hdd⟩
   show(aA T 5 (gt T D I.2.2).2).2=_
   rw [(bE T 5 (gt T D I.2.2).2).dead (by rw [show(gt T D I.2.2).2=_ from PP.1];exact hdd)]
   exact PP.1
  ·rw [if_neg hJ]
   have e1:(gt T D I.2.2).2=(cj T (NT T D 0).expr I.2).2.2:=PP.1
   refine⟨by show(aA T 5 (gt T D I.2.2).2).2=_;rw [e1],fun e=>?_⟩
   have ed:(cj T (NT T D 0).expr I.2).2.2.e=0:=by
    rcases Nat.eq_zero_or_pos (cj T (NT T D 0).expr I.2).2.2.e with h9 | h9
    ·exact h9
    ·exact absurd e (by show ¬(aA T 5 (cj T (NT T D 0).expr I.2).2.2).2.e=0;rw [(bE T 5 _).dead (by omega)];omega)
   show I.2.1++(gt T D I.2.2).1++(aA T 5 (gt T D I.2.2).2).1=_
   rw [e1,show I.2.1++(gt T D I.2.2).1=_ from PP.2 ed]
 ·have e1:(gj T s).2=I.2.2:=hA.1
  have pN:(gj T s).2.e≠0:=by rw [e1];exact hd
  have e2:(rM T D s).2=I.2.2:=by
   unfold rM
   rw [DM T D pN]
   show(aA T 5 (gj T s).2).2=_
   rw [(bE T 5 _).dead pN,e1]
  by_cases hI:I.1=false
  ·rw [if_pos hI];exact⟨e2,fun e=>absurd e hd⟩
  ·rw [if_neg hI]
   have e3:cj T (NT T D 0).expr I.2=(true,I.2):=by
    unfold cj aT
    unfold dr
    rw [un T hd];rfl
   rw [e3]
   have e4:(aA T 5 I.2.2).2=I.2.2:=(bE T 5 _).dead hd
   refine⟨?_,fun e=>absurd e (by show(aA T 5 I.2.2).2.e≠0;rw [e4];exact hd)⟩
   show(rM T D s).2=(aA T 5 I.2.2).2
   rw [e2,e4]
end
section
variable (b bb:Nat) (T:List Tok) (D:Nat)
theorem H3 (hC:cN T) (hDf:bX b bb T D 0 (fun s=>s.inn=false) 44 (gO T (NT T D 0).expr)) (s:St) (N:List Nd) (vn:Value) (A:Nat→Prop) (w:World) (hP:s.inn=false) (h:XAt w b bb T D 0 s s.i N vn A):
  Calls Tryz.prog 18 #[.pointer (some ⟨b,0,none⟩)] w (mI b bb T D 1 s (aW T (NT T D 0).expr s) N vn A w):=by
 have aC:=zh hC
 have aah:Hid (∀s:St,s.inn=false→(imT T s).2.inn=false):=zh (fun s h=>(ar T [59] _).inn.trans ((bE T 1 _).inn.trans ((ar T [105,109,112,111,114,116] s).inn.trans h)))
 have ZB:Hid (∀s:St,s.inn=false→(gO T (NT T D 0).expr s).2.inn=false):=zh (fun s h=>Sv (T:=T) (D:=D) s h)
 have Jw:=zh (fun (w1:World) (s:St) (N1:List Nd) (vt v:Value) (L:List (Value×Th)) (hk:KX b bb T D 0 A vn w w1 s s.i N1 vt L) (hm:(v,Th.strs [[105,109,112,111,114,116]])∈L) (hi:s.inn=false)=>zJ b bb T D 0 hC (fun s=>isQ T [105,109,112,111,114,116] s=true) (imT T) 16 (by decide) (D7 b bb T D 0 hC) aah.out [[105,109,112,111,114,116]] (by decide) (fun s _ h=>by rw [at_one hC (by decide)] at h;exact h) (fun s h=>by rw [at_one hC (by decide)] at h;exact JQ h) hk hm hi)
 have zP:=zh (fun (w1:World) (s:St) (N1:List Nd) (vt v:Value) (L:List (Value×Th)) (hk:KX b bb T D 0 A vn w w1 s s.i N1 vt L) (hm:(v,Th.strs [[112,117,98],[102,117,110]])∈L) (hi:s.inn=false)=>ug b bb T D 0 hC (fun s=>s.inn=false) (gO T (NT T D 0).expr) 64 (by decide) hDf ZB.out [[112,117,98],[102,117,110]] (by decide) (fun s hs _=>hs) (fun s h=>by rw [FC hC] at h;exact Id h) hk hm hi)
 rw [Gx hC] at Jw
 rw [FC hC] at zP
 have HK:=zh (KX.start h)
 have sK:=zh hP
 clear h hC hP hDf aah ZB
 go_enter Tryz.func18,Tryz.ntmps18
 go_wp2_with fail
 refine(Jw.out _ _ _ _ _ _ (HK.out.strs1 _ _) (List.mem_cons_self ..) sK.out).mono ?_
 rintro e w1 ⟨⟨lv,vs,N1,vt,rfl,hk,ho,hd,hl⟩,hi⟩
 have HK:Hid (KX b bb T D 0 A vn w w1 (gj T s).2 (gj T s).2.i N1 vt [(lv,.ints vs)]):=zh (hk.few (List.Sublist.cons_cons _ (List.nil_sublist _)))
 have HA:Hid (bU 0 N s (gj T s) N1 vs):=zh ho
 have bL:=zh hd;have HL:=zh hl;have cy:Hid ((gj T s).2.inn=false):=zh hi
 clear hk ho hd hl hi
 go_wp2_with fail
 refine(zP.out _ _ _ _ _ _ (HK.out.strs2 _ _ _) (List.mem_cons_self ..) cy.out).mono ?_
 rintro e w2 ⟨⟨lv2,vs2,N2,vn2,rfl,hk,ho,hd,hl⟩,hi⟩
 obtain⟨q2,c2,rfl,Jz,-,-⟩:=hk.list (List.mem_cons_self ..)
 have HK:=zh (hk.few (L':=[(.slice q2 vs2.length c2,.ints vs2),(lv,.ints vs)]) (List.Sublist.cons_cons _ (List.sublist_cons_self _ _)))
 have xI:=zh Jz;have HL2:=zh hl
 obtain⟨l2,vA⟩:∃l2,vs++vs2=l2:=⟨_,rfl⟩
 have C0:=zh vA;have ky:Hid (l2.length≤600):=zh (by rw [←vA,List.length_append];have:=HL.out;omega)
 have HA:Hid (bU 0 N s ((gj T s).1++(gt T D (gj T s).2).1,(gt T D (gj T s).2).2) N2 l2):=zh (by rw [←vA];exact(HA.out.app ho hd).weak (by decide))
 obtain⟨m2,pP⟩:∃m2,vs2.length=m2:=⟨_,rfl⟩
 have HM2:=zh pP
 rw [pP] at HK ⊢
 clear hk ho hd hl hi Jz vA pP
 go_wp2_with (at_builtin;go_loud (refine ba rfl _ _ rfl HK.out (List.sublist_cons_self _ _) rfl rfl (l2:=vs2) HM2.out xI.out (by have:=HL.out;omega) (by have:=HL2.out;omega) ?_))
 intro kv3 w3 Jt
 rw [C0.out] at Jt
 have HK:Hid (KX b bb T D 0 A vn w w3 (gt T D (gj T s).2).2 (gt T D (gj T s).2).2.i N2 vn2 [(kv3,.ints l2)]):=zh Jt
 clear Jt xI HM2 C0
 go_wp2_with fail
 have bP:=HK
 have HK:=zh HK.out.drew
 go_region_held3 (fun w'=>w'.cell? ⟨b,0,none⟩=some (.pointer (some ⟨bb,0,none⟩))) (first | exact HK.out.cell | exact(HK.out.alloc _).cell)
  (first
   | (refine mW rfl _ _ rfl (HK.out.ints1 _) (List.sublist_cons_self _ _) rfl rfl (l2:=[_]) rfl (ol _ _) (by have:=ky.out;omega) (by simp) ?_;intro kv4 w9 al;have HK:=zh al;clear al)
   | (go_at_call 45;refine(KX.nodeEnd (kind:=1) (r:=rM T D s) HK.out ?_ aC.out.len HUU.out YR.out ?_ HRM.out).mono ?_;exact List.mem_cons_self ..;(have:=ky.out;rw [List.length_append];simp;omega);rintro e w9 ⟨x9,N9,cD,rfl,al,hz9⟩;have HK:=zh al;have HZ:=zh hz9;clear al hz9)
   | (go_at_call 46;have vu:=zh HK.out.ok;have HRO:=zh HK.out.room;(with_reducible refine(HK.out.endOf aC.out).mono ?_);rintro e w9 ⟨v9,u9,N9,cD,rfl,al,GL⟩;have HK:=zh al;have YR:Hid (Di N (rM T D s) N9 (l2++[v9])):=zh (Di.of HA.out GL);have HUU:Hid (u9≤T.length):=zh (by
     have h5:=vu.out
     by_cases hz:(aA T 5 (gt T D (gj T s).2).2).2.e=0
     ·rw [(GL.1 hz).2.2.1];omega
     ·rw [(GL.2 hz).2.2];omega);have HRM:Hid ((rM T D s).2.e=0→N9.length+1≤2*u9):=zh (fun hz=>by
     have h6:=HRO.out
     rw [(GL.1 hz).2.2.1,(GL.1 hz).1,List.length_append];show N2.length+1+1≤_;omega);clear al GL))
 all_goals
  have hx:=HK.out.done
  have HQ:Hid (mI b bb T D 1 s (aW T (NT T D 0).expr s) N vn A w (.returned (.int .i64 x9)) w9):=zh (by
   have he:=Hv T D s
   refine⟨x9,u9,N9,cD,rfl,by rw [←he.1];exact hx.1,hx.2,HUU.out,fun e=>?_⟩
   rw [←he.2 e]
   exact HZ.out (by rw [he.1];exact e))
  clear hx
  go_wp2_with fail
  go_ret
  exact HQ.out
end
end Go.Proofs.YtjbgnopnehgbaaaGreatDoor
