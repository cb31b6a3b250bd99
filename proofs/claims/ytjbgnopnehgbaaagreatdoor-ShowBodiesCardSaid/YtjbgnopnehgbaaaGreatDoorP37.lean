/- Lemmas. -/
import Derived.Test.YtjbgnopnehgbaaaGreatDoorP22
import Derived.Test.YtjbgnopnehgbaaaGreatDoorP28
set_option linter.unusedVariables false
set_option linter.unusedSimpArgs false
set_option maxHeartbeats 16000000
set_option maxRecDepth 100000
namespace Go.Proofs.YtjbgnopnehgbaaaGreatDoor
open Go.RowKit
def iI (sep:List UInt8) (g o:Nat):Nat→List (List Value)
 | 0=>[]
 | k+1=>iI sep g o k++(if k=0 then [] else [jt sep])++[jx g (o+k*8) 0]
theorem qd (sep:List UInt8) (g o:Nat):∀k,(iI sep g o k).length≤2*k
 | 0=>Nat.le_refl _
 | k+1=>by
   have:=qd sep g o k
   simp only [iI,List.length_append,List.length_singleton]
   split<;>simp<;>omega
theorem UF (S:Nat→Prop) (B b cb:Nat) (rows:List (List Value)) (a:Option Addr) (w:World) (h:bj S B b w rows) (hl:rows.length≤1000000) (OL:S cb) (cc:w.cell? ⟨cb,0,none⟩=some (.pointer (some ⟨b,0,none⟩))):
  Calls Tryz.prog 151 #[.pointer a,.pointer (some ⟨cb,0,none⟩)] w (dy S B b (rows++[[.string ⟨#[]⟩,.pointer a,.int .i64 0]]) w):=by
 have xz:=zh (oJ S B b rows a 0 w h hl)
 have tC:cb<w.heap.size:=by obtain⟨v,-,-,-,-,-,-,hh⟩:=h;exact hh _ OL
 clear h
 go_enter Tryz.func151,Tryz.ntmps151
 go_wp2_with fail
 refine xz.out.mono ?_
 rintro e w2 ⟨rfl,eE,dK⟩
 have kL:=zh eE;have es:=zh dK
 clear eE dK
 go_wp2_with fail
 go_end0
 exact⟨rfl,kL.out,es.out⟩
theorem Sb (S:Nat→Prop) (B b cb:Nat) (rows:List (List Value)) (sep:List UInt8) (gk ok n ck:Nat) (w:World) (h:bj S B b w rows) (hl:rows.length≤900000) (hn:n≤10) (OL:S cb) (cc:w.cell? ⟨cb,0,none⟩=some (.pointer (some ⟨b,0,none⟩))):
  Calls Tryz.prog 150 #[.pointer (some ⟨b,0,none⟩),.slice (some ⟨gk,ok,none⟩) n ck,.string ⟨sep.toArray⟩,.func (.func 151) #[] #[.pointer (some ⟨cb,0,none⟩)]] w (dy S B b (rows++iI sep gk ok n) w):=by
 have ow:=zh (fun rows s W h h2=>kW S B b rows s W h h2)
 have Qe:=zh (fun rows a W h h2 h3=>UF S B b cb rows a W h h2 OL h3)
 have HW:=zh h;have HL:=zh hl
 have tC:cb<w.heap.size:=by obtain⟨v,-,-,-,-,-,-,hh⟩:=h;exact hh _ OL
 have CF:Hid (∀W,Fr2 (fun k=>¬S k) w W→W.cell? ⟨cb,0,none⟩=some (.pointer (some ⟨b,0,none⟩))):=zh (fun W hf=>by rw [World.cell?_of_block (w:=w) (hf.block cb tC (fun e=>e OL))];exact cc)
 clear h hl cc OL tC
 go_enter Tryz.func150,Tryz.ntmps150
 go_wp2_with fail
 go_loopw [11] (fun iv wr=>∃k:Nat,k≤n∧iv=.int .i64 k∧Hid (bj S B b wr (rows++iI sep gk ok k))∧Hid (Fr2 (fun k=>¬S k) w wr)) (fun iv _=>n - (intOf iv).toNat)
 case atStart=>exact⟨0,Nat.zero_le _,rfl,zh (by simpa [iI] using HW.out),zh (Fr2.refl _ _)⟩
 case round=>
  obtain⟨k,B6,rfl,GS,HF⟩:=hrel
  by_cases hlt:k<n
  ·have y3:decide ((k:Int)<(n:Int))=true:=zd (by omega)
   have y4:decide (k<n)=true:=zd hlt
   have OB:Hid ((rows++iI sep gk ok k).length≤900020):=zh (by have:=qd sep gk ok k;rw [List.length_append];have:=HL.out;omega)
   have z1:(0:Int)≤(k:Int):=by omega
   have z2:(k:Int)<(n:Int):=by omega
   by_cases Fr:k=0
   ·subst Fr
    go_wp2_with fail
    refine(Qe.out _ _ wr GS.out (by have:=OB.out;omega) (CF.out wr HF.out)).mono ?_
    rintro e w3 ⟨rfl,mO,fI⟩
    have jp:=zh (HF.out.trans fI)
    have tA:Hid (bj S B b w3 (rows++iI sep gk ok (0+1))):=zh (by
     simpa [iI,jx] using mO)
    clear mO fI
    go_wp2_with fail
    go_roundw
    case rel=>exact⟨0+1,by omega,by go_num,tA,jp⟩
    case measure=>(simp [intOf]<;>omega)
   ·have x1:decide ((0:Int)<(k:Int))=true:=zd (by omega)
    have x2:decide (0<k)=true:=zd (by omega)
    have xN:=zh Fr
    clear Fr
    go_wp2_with fail
    refine(ow.out _ _ wr GS.out (by have:=OB.out;omega)).mono ?_
    rintro e w2 ⟨rfl,eE,dK⟩
    have kL:=zh eE;have es:=zh (HF.out.trans dK)
    clear eE dK
    go_wp2_with fail
    refine(Qe.out _ _ w2 kL.out (by have h:=OB.out;simp only [List.length_append,List.length_cons,List.length_nil] at h ⊢;omega) (CF.out w2 es.out)).mono ?_
    rintro e w3 ⟨rfl,mO,fI⟩
    have jp:=zh (es.out.trans fI)
    have tA:Hid (bj S B b w3 (rows++iI sep gk ok (k+1))):=zh (by
     simp only [iI,if_neg xN.out,jx,jt,aw,List.append_assoc,List.cons_append,List.nil_append] at mO ⊢
     exact mO)
    clear mO fI
    go_wp2_with fail
    go_roundw
    case rel=>exact⟨k+1,by omega,by go_num,tA,jp⟩
    case measure=>(simp [intOf]<;>omega)
  ·obtain rfl:k=n:=by omega
   go_wp2_with fail
   go_end0
   exact⟨rfl,GS.out,HF.out⟩
set_option maxHeartbeats 4000000
section
variable (b bb:Nat) (T:List Tok) (D n:Nat)
theorem Hd (hC:cN T) (hD:D≤200) (hn:n≤D) (hA:bX b bb T D n (fun _=>True) 125 (orT T D n (NT T D n))) (hB:n<D→bX b bb T D (n+1) (fun _=>True) 96 (ay T D (n+1) (NT T D (n+1)))):bX b bb T D n (fun _=>True) 96 (ay T D n (NT T D n)):=by
 intro s N vn A w hP h
 have aC:=zh hC;have sK:=zh hP
 have mG:=zh hA
 have sF:=zh (gK b bb T D n hD hn (fun _=>True) _ hB)
 have Sa:=zh (fun s hk=>Nq T hn (sub:=ay T D (n+1) (NT T D (n+1))) (nt:=NT T D n) (fun hlt=>by rw [py T hlt]) s hk)
 have HK:=zh (KX.start h)
 have cW:=zh h.few
 have HA:=zh (bU.nil N s)
 clear h hC hP hD hn hA hB
 go_enter Tryz.func96,Tryz.ntmps96
 go_wp2_with fail
 refine(HK.out.sub mG.out trivial).mono ?_
 rintro e w9 ⟨v9,N9,cD,rfl,al,am,aG⟩
 have HK:=zh al;have HO:=zh am;have HA:=zh am.out;have bL:=zh aG
 clear al am aG
 go_wp2_with fail
 refine(KX.at (ws:=[[61,62]]) (HK.out.strs1 _ _) (List.mem_cons_self ..) (by decide)).mono ?_
 rintro e w1 ⟨rfl,hk⟩
 have HK:=zh (hk.nils)
 obtain⟨b1,hb⟩:∃b1,isQ T [61,62] (orT T D n (NT T D n) s).2=b1:=⟨_,rfl⟩
 rw [at_one aC.out (by decide),hb]
 have nL:=zh hb
 clear hk hb
 cases b1
 ·have HQ:=zh (KX.fin HO.out HK.out bL.out (r':=ay T D n (NT T D n) s) (by rw [show ay T D n (NT T D n) s=orT T D n (NT T D n) s from if_neg (by rw [nL.out];decide)];exact Eqv.refl _))
  go_wp2_with fail
  go_ret
  exact HQ.out
 ·skip
  have aP:=zh (af nL.out)
  go_wp2_with fail
  have HK:=zh HK.out.drew
  go_region_held3 (fun w'=>w'.cell? ⟨b,0,none⟩=some (.pointer (some ⟨bb,0,none⟩))) (first | with_reducible exact HK.out.cell | with_reducible exact(HK.out.alloc _).cell | with_reducible exact((HK.out.alloc _).alloc _).cell | with_reducible exact(((HK.out.alloc _).alloc _).alloc _).cell)
   (first
    | (go_at_call 79;(first | with_reducible refine(HK.out.take aC.out aP.out.1 aP.out.2).mono ?_ | with_reducible refine((HK.out.strs1 _ _).take aC.out aP.out.1 aP.out.2).mono ?_ | with_reducible refine(((HK.out.strs1 _ _).strs1 _ _).take aC.out aP.out.1 aP.out.2).mono ?_);rintro e w9 ⟨v9,N9,cD,rfl,al,am,aG⟩;have HK:=zh al;have HD:=zh (aQ.app HA.out am aG);have HA:=zh HD.out.out;clear al am aG)
    | (go_at_call 82;(first | with_reducible refine(HK.out.call (fun A h=>sF.out _ _ _ A _ trivial h)).mono ?_ | with_reducible refine((HK.out.strs1 _ _).call (fun A h=>sF.out _ _ _ A _ trivial h)).mono ?_ | with_reducible refine(((HK.out.strs1 _ _).strs1 _ _).call (fun A h=>sF.out _ _ _ A _ trivial h)).mono ?_);rintro e w9 ⟨v9,N9,cD,rfl,al,am,aG⟩;have HK:=zh al;have HD:=zh (aQ.app HA.out am aG);have HA:=zh HD.out.out;clear al am aG)
    | (go_at_call 45;have kO:=zh (HD.out.weak (j:=0+1) (by decide));refine(KX.node (k:=0) (kind:=10) (HK.out.ints3 _ _ _ ) ?_ aC.out.len kO.out ?_ cW.out ?_).mono ?_;exact List.mem_cons_self ..;rfl;simp;rintro e w9 ⟨v9,N9,cD,rfl,al,am⟩;have HK:=zh al;have HZ:=zh am;clear al am))
  all_goals
   have HQ:=zh (KX.fin HZ.out HK.out (fun he=>absurd aP.out.2 (bL.out he)) (r':=(ay T D n (NT T D n)) s) (Sa.out _ nL.out))
   go_wp2_with fail
   go_ret
   exact HQ.out
end
end Go.Proofs.YtjbgnopnehgbaaaGreatDoor
namespace Go.Proofs.YtjbgnopnehgbaaaGreatDoor
open Go.RowKit
theorem EAt.form {F:Nat→Prop} {w:World} {x:Ex} {q:List Value} (h:EAt F w x q):∃(op ps:Int) (a b:ByteArray) (s y:Bool) (p p':Option Addr) (n c n' c':Nat),q = [.int .i64 op,.string a,.string b,.bool s,.slice p n c,.bool y,.slice p' n' c',.int .i64 ps]:=by
 cases x with
 | mk op nm md nu ys ks ps=>
   simp only [EAt] at h
   obtain⟨s,pw,nw,cw,pk,ck,rows,rfl,-⟩:=h
   exact⟨_,_,_,_,_,_,_,_,_,_,_,_,rfl⟩
end Go.Proofs.YtjbgnopnehgbaaaGreatDoor
