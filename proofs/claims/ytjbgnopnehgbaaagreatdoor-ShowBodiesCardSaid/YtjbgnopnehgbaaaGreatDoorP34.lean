/- Lemmas. -/
import Derived.Test.YtjbgnopnehgbaaaGreatDoorP29
import Derived.Test.YtjbgnopnehgbaaaGreatDoorP31
import Derived.Test.YtjbgnopnehgbaaaGreatDoorP33
set_option linter.unusedVariables false
set_option linter.unusedSimpArgs false
set_option maxHeartbeats 8000000
set_option maxRecDepth 100000
namespace Go.Proofs.YtjbgnopnehgbaaaGreatDoor
open Go.RowKit
section
variable (b bb:Nat) (T:List Tok) (D:Nat)
theorem Qz (hC:cN T) (hD:D≤200) (hB:0<D→bX b bb T D 1 (fun _=>True) 96 (ay T D 1 (NT T D 1))) (s:St) (N:List Nd) (vn:Value) (A:Nat→Prop) (w:World) (h:XAt w b bb T D 0 s s.i N vn A):
  Calls Tryz.prog 57 #[.pointer (some ⟨b,0,none⟩)] w (mI b bb T D 18 s (de T (NT T D 0).expr s) N vn A w):=by
 have aC:=zh hC
 have Il:=zh (fun (s:St) (N:List Nd) (vn:Value) (A:Nat→Prop) (w:World) (hi:s.inn=true) h=>(gK b bb T D 0 hD (Nat.zero_le _) (fun _=>True) _ hB s N vn A w trivial h).mono (fun e w' hp=>hp.eqv (ql T (Nat.zero_le _) s hi)))
 have Sq:Hid ((setIn true s).inn=true):=zh rfl
 have HK:=zh (KX.start h)
 have d7:=HK.out.innc
 have d0:=HK.out.cell
 have lK:=HK.out.froz
 have HK:Hid (KX b bb T D 0 A vn w (w.setCell ⟨b,7,none⟩ (.bool true)) (setIn true s) (setIn true s).i N vn []):=zh (HK.out.setIn true)
 have HA:=zh (bU.nil N (setIn true s))
 clear h hC hD hB
 go_enter Tryz.func57,Tryz.ntmps57
 go_wp2_with fail
 clear d7 d0 lK
 generalize (w.setCell ⟨b,7,none⟩ (.bool true))=W1 at *
 have HK:=zh HK.out.drew
 go_region_held3 (fun w'=>w'.cell? ⟨b,0,none⟩=some (.pointer (some ⟨bb,0,none⟩))) (first | with_reducible exact HK.out.cell | with_reducible exact(HK.out.alloc _).cell)
  (first
   | (go_at_call 45;refine(KX.nodeEnd (kind:=18) (r:=de T (NT T D 0).expr s) (HK.out.ints2 _ _) ?_ aC.out.len HUU.out YR.out ?_ HRM.out).mono ?_;exact List.mem_cons_self ..;simp;rintro e w9 ⟨x9,N9,cD,rfl,al,hz9⟩;have HK:=zh al;have HZ:=zh hz9;clear al hz9)
   | (go_at_call 82;(with_reducible refine(HK.out.call (fun A h=>Il.out _ _ _ A _ Sq.out h)).mono ?_);rintro e w9 ⟨v9,N9,cD,rfl,al,am,aG⟩;have HK:=zh al;have HA:=zh (bU.app HA.out am.out aG);clear al am aG)
   | (go_at_call 46;have vu:=zh HK.out.ok;have HRO:=zh HK.out.room;(with_reducible refine(HK.out.endOf aC.out).mono ?_);rintro e w9 ⟨v8,u9,N8,cD,rfl,al,GL⟩;have HK:=zh al;have YR:Hid (Di N (de T (NT T D 0).expr s) N8 ([v9]++[v8])):=zh (Di.of HA.out GL);have HUU:Hid (u9≤T.length):=zh (by
     have h5:=vu.out
     by_cases hz:(de T (NT T D 0).expr s).2.e=0
     ·rw [(GL.1 hz).2.2.1];omega
     ·rw [(GL.2 hz).2.2];omega);have HRM:Hid ((de T (NT T D 0).expr s).2.e=0→N8.length+1≤2*u9):=zh (fun hz=>by
     have h6:=HRO.out
     rw [(GL.1 hz).2.2.1,(GL.1 hz).1,List.length_append];show N9.length+1+1≤_;omega);clear al GL))
 all_goals
  have hx:=HK.out.done
  have HQ:Hid (mI b bb T D 18 s (de T (NT T D 0).expr s) N vn A w (.returned (.int .i64 x9)) w9):=zh ⟨x9,u9,_,cD,rfl,hx.1,hx.2,HUU.out,HZ.out⟩
  clear hx
  go_wp2_with fail
  go_ret
  exact HQ.out
structure PW (n:Nat):Prop where
 expr:bX b bb T D n (fun s=>s.inn=false) 83 (fG T D n (NT T D n))
 formula:bX b bb T D n (fun _=>True) 96 (ay T D n (NT T D n))
 nots:bX b bb T D n (fun _=>True) 162 (dL T D n (NT T D n))
 factor:bX b bb T D n (fun _=>True) 178 (aL T D n (NT T D n))
theorem vY (hC:cN T) (hD:D≤200) {n:Nat} (hn:n≤D) (hS:n<D→PW b bb T D (n+1)):PW b bb T D n:=by
 have TG:=VE b bb T D n hD hn (fun h=>(hS h).expr)
 have adZ:=PV b bb T D n hC hD hn (fun h=>(hS h).formula) (fun h=>(hS h).expr)
 have abq:=PX b bb T D n hC TG
 have ab6:=V0 b bb T D n hC hD hn adZ abq
 have abn:=KG b bb T D n hC hD hn ab6 (fun h=>(hS h).factor)
 have aaW:=Hg b bb T D n hC abn
 have RK:=Y6 b bb T D n hC aaW
 have aft:=zf b bb T D n hC RK
 have DT:=D1 b bb T D n hC hD hn aft (fun h=>(hS h).nots)
 have afd:=vH b bb T D n hC DT
 have adF:=vR b bb T D n hC afd
 have T5:=Hd b bb T D n hC hD hn adF (fun h=>(hS h).formula)
 exact⟨yd b bb T D n hC hD hn T5 TG,T5,DT,abn⟩
theorem ur (hC:cN T) (hD:D≤200):∀k n,k+n=D→PW b bb T D n
 | 0,n,h=>vY b bb T D hC hD (by omega) (fun h2=>by omega)
 | k+1,n,h=>vY b bb T D hC hD (by omega) (fun _=>ur hC hD k (n+1) (by omega))
theorem vJ (hC:cN T) (hD:D≤200) (s:St) (N:List Nd) (vn:Value) (A:Nat→Prop) (w:World) (hP:s.inn=false) (h:XAt w b bb T D 0 s s.i N vn A):
  Calls Tryz.prog 18 #[.pointer (some ⟨b,0,none⟩)] w (mI b bb T D 1 s (aW T (NT T D 0).expr s) N vn A w):=by
 have h1:0<D→PW b bb T D 1:=fun h=>ur b bb T D hC hD (D - 1) 1 (by omega)
 have hcl:=NH b bb T D hC hD (fun h=>(h1 h).formula)
 exact H3 b bb T D hC (xZ b bb T D hC hD hcl (fun h=>(h1 h).expr)) s N vn A w hP h
theorem Ao (hC:cN T) (hD:D≤200) (s:St) (N:List Nd) (vn:Value) (A:Nat→Prop) (w:World) (h:XAt w b bb T D 0 s s.i N vn A):
  Calls Tryz.prog 57 #[.pointer (some ⟨b,0,none⟩)] w (mI b bb T D 18 s (de T (NT T D 0).expr s) N vn A w):=
 Qz b bb T D hC hD (fun h=>(ur b bb T D hC hD (D - 1) 1 (by omega)).formula) s N vn A w h
end
end Go.Proofs.YtjbgnopnehgbaaaGreatDoor
