/- Lemmas. -/
import Derived.Test.YtjbgnopnehgbaaaGreatDoorP30
set_option linter.unusedVariables false
set_option linter.unusedSimpArgs false
set_option maxHeartbeats 4000000
set_option maxRecDepth 100000
namespace Go.Proofs.YtjbgnopnehgbaaaGreatDoor
open Go.RowKit
section
variable (b bb:Nat) (T:List Tok) (D n:Nat)
theorem yd (hC:cN T) (hD:D≤200) (hn:n≤D) (hA:bX b bb T D n (fun _=>True) 96 (ay T D n (NT T D n))) (hX:bX b bb T D n (fun s=>s.inn=false) 121 ((NT T D n).expr)):bX b bb T D n (fun s=>s.inn=false) 83 (fG T D n (NT T D n)):=by
 intro s N vn A w hP h
 have aC:=zh hC;have sK:=zh hP
 have mG:=zh hA
 have sy:=zh hX
 have Jp:=zh (fi T D (D - n)).expr
 have dD:Hid ([61]∈KS):=zh (by decide)
 have fC:Hid ([105,110]∈KS):=zh (by decide)
 have nZ:Hid ([116,104,101,110]∈KS):=zh (by decide)
 have Mk:Hid ([101,108,115,101]∈KS):=zh (by decide)
 have HK:=zh (KX.start h)
 have cW:=zh h.few
 have HA:=zh (bU.nil N s)
 clear h hC hP hD hn hA hX
 go_enter Tryz.func83,Tryz.ntmps83
 go_wp2_with fail
 refine(KX.at (ws:=[[108,101,116]]) (HK.out.strs1 _ _) (List.mem_cons_self ..) (by decide)).mono ?_
 rintro e w1 ⟨rfl,hk⟩
 have HK:=zh (hk.nils)
 obtain⟨b1,hb⟩:∃b1,isQ T [108,101,116] s=b1:=⟨_,rfl⟩
 rw [at_one aC.out (by decide),hb]
 have nL:=zh hb
 clear hk hb
 cases b1
 ·skip
  go_wp2_with fail
  refine(KX.at (ws:=[[105,102]]) (HK.out.strs1 _ _) (List.mem_cons_self ..) (by decide)).mono ?_
  rintro e w2 ⟨rfl,hk⟩
  have HK:=zh (hk.nils)
  obtain⟨b2,hb⟩:∃b2,isQ T [105,102] s=b2:=⟨_,rfl⟩
  rw [at_one aC.out (by decide),hb]
  have vv:=zh hb
  clear hk hb
  cases b2
  ·skip
   go_wp2_with fail
   refine(KX.at (ws:=[[97,115,115,101,114,116]]) (HK.out.strs1 _ _) (List.mem_cons_self ..) (by decide)).mono ?_
   rintro e w3 ⟨rfl,hk⟩
   have HK:=zh (hk.nils)
   obtain⟨b3,hb⟩:∃b3,isQ T [97,115,115,101,114,116] s=b3:=⟨_,rfl⟩
   rw [at_one aC.out (by decide),hb]
   have DS:=zh hb
   clear hk hb
   cases b3
   ·skip
    go_wp2_with fail
    refine(HK.out.sub mG.out trivial).mono ?_
    rintro e w9 ⟨v9,N9,cD,rfl,al,am,aG⟩
    have HQ:=zh (KX.fin am al aG (r':=(fG T D n (NT T D n)) s) (by rw [Yg nL.out vv.out DS.out];exact Eqv.refl _))
    clear al am aG
    go_wp2_with fail
    go_ret
    exact HQ.out
   ·skip
    have aP:=zh (af DS.out)
    go_wp2_with fail
    have bP:=HK
    have HK:=zh HK.out.drew
    go_region_held3 (fun w'=>w'.cell? ⟨b,0,none⟩=some (.pointer (some ⟨bb,0,none⟩))) (first | with_reducible exact HK.out.cell | with_reducible exact(HK.out.alloc _).cell | with_reducible exact(bP.out.alloc _).drew.cell | with_reducible exact((HK.out.alloc _).alloc _).cell | with_reducible exact((bP.out.alloc _).alloc _).drew.cell | with_reducible exact(((HK.out.alloc _).alloc _).alloc _).cell)
     (first
      | (go_at_call 45;have kO:=zh (HD.out.weak (j:=0+1) (by decide));refine(KX.node (k:=0) (kind:=9) (HK.out.ints4 _ _ _ _ ) ?_ aC.out.len kO.out ?_ cW.out ?_).mono ?_;exact List.mem_cons_self ..;rfl;simp;rintro e w9 ⟨v9,N9,cD,rfl,al,am⟩;have HK:=zh al;have HZ:=zh am;clear al am)
      | (go_at_call 79;(first | with_reducible refine(HK.out.take aC.out aP.out.1 aP.out.2).mono ?_ | with_reducible refine((HK.out.strs1 _ _).take aC.out aP.out.1 aP.out.2).mono ?_ | with_reducible refine((bP.out.strs1 _ _).drew.take aC.out aP.out.1 aP.out.2).mono ?_ | with_reducible refine(((HK.out.strs1 _ _).strs1 _ _).take aC.out aP.out.1 aP.out.2).mono ?_ | with_reducible refine(((bP.out.strs1 _ _).strs1 _ _).drew.take aC.out aP.out.1 aP.out.2).mono ?_);rintro e w9 ⟨v9,N9,cD,rfl,al,am,aG⟩;have HK:=zh al;have HD:=zh (aQ.app HA.out am aG);have HA:=zh HD.out.out;clear al am aG)
      | (go_at_call 78;(first | with_reducible refine(KX.one1 [105,110] HK.out aC.out fC.out ?_).mono ?_ | with_reducible refine(KX.one1 [105,110] (HK.out.strs1 _ _) aC.out fC.out ?_).mono ?_ | with_reducible refine(KX.one1 [105,110] (bP.out.strs1 _ _).drew aC.out fC.out ?_).mono ?_ | with_reducible refine(KX.one1 [105,110] ((HK.out.strs1 _ _).strs1 _ _) aC.out fC.out ?_).mono ?_ | with_reducible refine(KX.one1 [105,110] ((bP.out.strs1 _ _).strs1 _ _).drew aC.out fC.out ?_).mono ?_);(first | (refine⟨_,?_,List.mem_cons_self ..⟩;focus (simp;done)) | (refine⟨_,?_,List.mem_cons_of_mem _ (List.mem_cons_self ..)⟩;focus (simp;done)) | (refine⟨_,?_,List.mem_cons_of_mem _ (List.mem_cons_of_mem _ (List.mem_cons_self ..))⟩;focus (simp;done)));rintro e w9 ⟨v9,N9,cD,rfl,al,am,aG⟩;have HK:=zh al;have HD:=zh (aQ.app HA.out am aG);have HA:=zh HD.out.out;clear al am aG)
      | (go_at_call 121;(first | with_reducible refine((HK.out).sub sy.out ?_).mono ?_ | with_reducible refine(((HK.out.strs1 _ _)).sub sy.out ?_).mono ?_ | with_reducible refine(((bP.out.strs1 _ _).drew).sub sy.out ?_).mono ?_ | with_reducible refine((((HK.out.strs1 _ _).strs1 _ _)).sub sy.out ?_).mono ?_ | with_reducible refine((((bP.out.strs1 _ _).strs1 _ _).drew).sub sy.out ?_).mono ?_);(repeat (first | exact sK.out | refine(Jp.out _).inn.trans ?_ | refine(ar T _ _).inn.trans ?_ | refine(bE T _ _).inn.trans ?_ | refine(aq T aP.out.2).inn.trans ?_));rintro e w9 ⟨v9,N9,cD,rfl,al,am,aG⟩;have HK:=zh al;have HD:=zh (aQ.app HA.out am aG);have HA:=zh HD.out.out;clear al am aG))
    all_goals
     have HQ:=zh (KX.fin HZ.out HK.out (fun he=>absurd aP.out.2 he) (r':=(fG T D n (NT T D n)) s) (by rw [VI nL.out vv.out DS.out];exact Eqv.refl _))
     go_wp2_with fail
     go_ret
     exact HQ.out
  ·skip
   have aP:=zh (af vv.out)
   go_wp2_with fail
   have bP:=HK
   have HK:=zh HK.out.drew
   go_region_held3 (fun w'=>w'.cell? ⟨b,0,none⟩=some (.pointer (some ⟨bb,0,none⟩))) (first | with_reducible exact HK.out.cell | with_reducible exact(HK.out.alloc _).cell | with_reducible exact(bP.out.alloc _).drew.cell | with_reducible exact((HK.out.alloc _).alloc _).cell | with_reducible exact((bP.out.alloc _).alloc _).drew.cell | with_reducible exact(((HK.out.alloc _).alloc _).alloc _).cell)
    (first
     | (go_at_call 45;have kO:=zh (HD.out.weak (j:=0+1) (by decide));refine(KX.node (k:=0) (kind:=8) (HK.out.ints6 _ _ _ _ _ _ ) ?_ aC.out.len kO.out ?_ cW.out ?_).mono ?_;exact List.mem_cons_self ..;rfl;simp;rintro e w9 ⟨v9,N9,cD,rfl,al,am⟩;have HK:=zh al;have HZ:=zh am;clear al am)
     | (go_at_call 79;(first | with_reducible refine(HK.out.take aC.out aP.out.1 aP.out.2).mono ?_ | with_reducible refine((HK.out.strs1 _ _).take aC.out aP.out.1 aP.out.2).mono ?_ | with_reducible refine((bP.out.strs1 _ _).drew.take aC.out aP.out.1 aP.out.2).mono ?_ | with_reducible refine(((HK.out.strs1 _ _).strs1 _ _).take aC.out aP.out.1 aP.out.2).mono ?_ | with_reducible refine(((bP.out.strs1 _ _).strs1 _ _).drew.take aC.out aP.out.1 aP.out.2).mono ?_);rintro e w9 ⟨v9,N9,cD,rfl,al,am,aG⟩;have HK:=zh al;have HD:=zh (aQ.app HA.out am aG);have HA:=zh HD.out.out;clear al am aG)
     | (go_at_call 121;(first | with_reducible refine((HK.out).sub sy.out ?_).mono ?_ | with_reducible refine(((HK.out.strs1 _ _)).sub sy.out ?_).mono ?_ | with_reducible refine(((bP.out.strs1 _ _).drew).sub sy.out ?_).mono ?_ | with_reducible refine((((HK.out.strs1 _ _).strs1 _ _)).sub sy.out ?_).mono ?_ | with_reducible refine((((bP.out.strs1 _ _).strs1 _ _).drew).sub sy.out ?_).mono ?_);(repeat (first | exact sK.out | refine(Jp.out _).inn.trans ?_ | refine(ar T _ _).inn.trans ?_ | refine(bE T _ _).inn.trans ?_ | refine(aq T aP.out.2).inn.trans ?_));rintro e w9 ⟨v9,N9,cD,rfl,al,am,aG⟩;have HK:=zh al;have HD:=zh (aQ.app HA.out am aG);have HA:=zh HD.out.out;clear al am aG)
     | (go_at_call 78;(first | with_reducible refine(KX.one1 [116,104,101,110] HK.out aC.out nZ.out ?_).mono ?_ | with_reducible refine(KX.one1 [116,104,101,110] (HK.out.strs1 _ _) aC.out nZ.out ?_).mono ?_ | with_reducible refine(KX.one1 [116,104,101,110] (bP.out.strs1 _ _).drew aC.out nZ.out ?_).mono ?_ | with_reducible refine(KX.one1 [116,104,101,110] ((HK.out.strs1 _ _).strs1 _ _) aC.out nZ.out ?_).mono ?_ | with_reducible refine(KX.one1 [116,104,101,110] ((bP.out.strs1 _ _).strs1 _ _).drew aC.out nZ.out ?_).mono ?_);(first | (refine⟨_,?_,List.mem_cons_self ..⟩;focus (simp;done)) | (refine⟨_,?_,List.mem_cons_of_mem _ (List.mem_cons_self ..)⟩;focus (simp;done)) | (refine⟨_,?_,List.mem_cons_of_mem _ (List.mem_cons_of_mem _ (List.mem_cons_self ..))⟩;focus (simp;done)));rintro e w9 ⟨v9,N9,cD,rfl,al,am,aG⟩;have HK:=zh al;have HD:=zh (aQ.app HA.out am aG);have HA:=zh HD.out.out;clear al am aG)
     | (go_at_call 78;(first | with_reducible refine(KX.one1 [101,108,115,101] HK.out aC.out Mk.out ?_).mono ?_ | with_reducible refine(KX.one1 [101,108,115,101] (HK.out.strs1 _ _) aC.out Mk.out ?_).mono ?_ | with_reducible refine(KX.one1 [101,108,115,101] (bP.out.strs1 _ _).drew aC.out Mk.out ?_).mono ?_ | with_reducible refine(KX.one1 [101,108,115,101] ((HK.out.strs1 _ _).strs1 _ _) aC.out Mk.out ?_).mono ?_ | with_reducible refine(KX.one1 [101,108,115,101] ((bP.out.strs1 _ _).strs1 _ _).drew aC.out Mk.out ?_).mono ?_);(first | (refine⟨_,?_,List.mem_cons_self ..⟩;focus (simp;done)) | (refine⟨_,?_,List.mem_cons_of_mem _ (List.mem_cons_self ..)⟩;focus (simp;done)) | (refine⟨_,?_,List.mem_cons_of_mem _ (List.mem_cons_of_mem _ (List.mem_cons_self ..))⟩;focus (simp;done)));rintro e w9 ⟨v9,N9,cD,rfl,al,am,aG⟩;have HK:=zh al;have HD:=zh (aQ.app HA.out am aG);have HA:=zh HD.out.out;clear al am aG))
   all_goals
    have HQ:=zh (KX.fin HZ.out HK.out (fun he=>absurd aP.out.2 he) (r':=(fG T D n (NT T D n)) s) (by rw [Vs nL.out vv.out];exact Eqv.refl _))
    go_wp2_with fail
    go_ret
    exact HQ.out
 ·skip
  have aP:=zh (af nL.out)
  go_wp2_with fail
  have bP:=HK
  have HK:=zh HK.out.drew
  go_region_held3 (fun w'=>w'.cell? ⟨b,0,none⟩=some (.pointer (some ⟨bb,0,none⟩))) (first | with_reducible exact HK.out.cell | with_reducible exact(HK.out.alloc _).cell | with_reducible exact(bP.out.alloc _).drew.cell | with_reducible exact((HK.out.alloc _).alloc _).cell | with_reducible exact((bP.out.alloc _).alloc _).drew.cell | with_reducible exact(((HK.out.alloc _).alloc _).alloc _).cell)
   (first
    | (go_at_call 45;have kO:=zh (HD.out.weak (j:=0+1) (by decide));refine(KX.node (k:=0) (kind:=7) (HK.out.ints6 _ _ _ _ _ _ ) ?_ aC.out.len kO.out ?_ cW.out ?_).mono ?_;exact List.mem_cons_self ..;rfl;simp;rintro e w9 ⟨v9,N9,cD,rfl,al,am⟩;have HK:=zh al;have HZ:=zh am;clear al am)
    | (go_at_call 79;(first | with_reducible refine(HK.out.take aC.out aP.out.1 aP.out.2).mono ?_ | with_reducible refine((HK.out.strs1 _ _).take aC.out aP.out.1 aP.out.2).mono ?_ | with_reducible refine((bP.out.strs1 _ _).drew.take aC.out aP.out.1 aP.out.2).mono ?_ | with_reducible refine(((HK.out.strs1 _ _).strs1 _ _).take aC.out aP.out.1 aP.out.2).mono ?_ | with_reducible refine(((bP.out.strs1 _ _).strs1 _ _).drew.take aC.out aP.out.1 aP.out.2).mono ?_);rintro e w9 ⟨v9,N9,cD,rfl,al,am,aG⟩;have HK:=zh al;have HD:=zh (aQ.app HA.out am aG);have HA:=zh HD.out.out;clear al am aG)
    | (go_at_call 46;(first | with_reducible refine(HK.out.word aC.out).mono ?_ | with_reducible refine((HK.out.strs1 _ _).word aC.out).mono ?_ | with_reducible refine((bP.out.strs1 _ _).drew.word aC.out).mono ?_ | with_reducible refine(((HK.out.strs1 _ _).strs1 _ _).word aC.out).mono ?_ | with_reducible refine(((bP.out.strs1 _ _).strs1 _ _).drew.word aC.out).mono ?_);rintro e w9 ⟨v9,N9,cD,rfl,al,am,aG⟩;have HK:=zh al;have HD:=zh (aQ.app HA.out am aG);have HA:=zh HD.out.out;clear al am aG)
    | (go_at_call 121;(first | with_reducible refine((HK.out).sub sy.out ?_).mono ?_ | with_reducible refine(((HK.out.strs1 _ _)).sub sy.out ?_).mono ?_ | with_reducible refine(((bP.out.strs1 _ _).drew).sub sy.out ?_).mono ?_ | with_reducible refine((((HK.out.strs1 _ _).strs1 _ _)).sub sy.out ?_).mono ?_ | with_reducible refine((((bP.out.strs1 _ _).strs1 _ _).drew).sub sy.out ?_).mono ?_);(repeat (first | exact sK.out | refine(Jp.out _).inn.trans ?_ | refine(ar T _ _).inn.trans ?_ | refine(bE T _ _).inn.trans ?_ | refine(aq T aP.out.2).inn.trans ?_));rintro e w9 ⟨v9,N9,cD,rfl,al,am,aG⟩;have HK:=zh al;have HD:=zh (aQ.app HA.out am aG);have HA:=zh HD.out.out;clear al am aG)
    | (go_at_call 78;(first | with_reducible refine(KX.one1 [61] HK.out aC.out dD.out ?_).mono ?_ | with_reducible refine(KX.one1 [61] (HK.out.strs1 _ _) aC.out dD.out ?_).mono ?_ | with_reducible refine(KX.one1 [61] (bP.out.strs1 _ _).drew aC.out dD.out ?_).mono ?_ | with_reducible refine(KX.one1 [61] ((HK.out.strs1 _ _).strs1 _ _) aC.out dD.out ?_).mono ?_ | with_reducible refine(KX.one1 [61] ((bP.out.strs1 _ _).strs1 _ _).drew aC.out dD.out ?_).mono ?_);(first | (refine⟨_,?_,List.mem_cons_self ..⟩;focus (simp;done)) | (refine⟨_,?_,List.mem_cons_of_mem _ (List.mem_cons_self ..)⟩;focus (simp;done)) | (refine⟨_,?_,List.mem_cons_of_mem _ (List.mem_cons_of_mem _ (List.mem_cons_self ..))⟩;focus (simp;done)));rintro e w9 ⟨v9,N9,cD,rfl,al,am,aG⟩;have HK:=zh al;have HD:=zh (aQ.app HA.out am aG);have HA:=zh HD.out.out;clear al am aG)
    | (go_at_call 78;(first | with_reducible refine(KX.one1 [105,110] HK.out aC.out fC.out ?_).mono ?_ | with_reducible refine(KX.one1 [105,110] (HK.out.strs1 _ _) aC.out fC.out ?_).mono ?_ | with_reducible refine(KX.one1 [105,110] (bP.out.strs1 _ _).drew aC.out fC.out ?_).mono ?_ | with_reducible refine(KX.one1 [105,110] ((HK.out.strs1 _ _).strs1 _ _) aC.out fC.out ?_).mono ?_ | with_reducible refine(KX.one1 [105,110] ((bP.out.strs1 _ _).strs1 _ _).drew aC.out fC.out ?_).mono ?_);(first | (refine⟨_,?_,List.mem_cons_self ..⟩;focus (simp;done)) | (refine⟨_,?_,List.mem_cons_of_mem _ (List.mem_cons_self ..)⟩;focus (simp;done)) | (refine⟨_,?_,List.mem_cons_of_mem _ (List.mem_cons_of_mem _ (List.mem_cons_self ..))⟩;focus (simp;done)));rintro e w9 ⟨v9,N9,cD,rfl,al,am,aG⟩;have HK:=zh al;have HD:=zh (aQ.app HA.out am aG);have HA:=zh HD.out.out;clear al am aG))
  all_goals
   have HQ:=zh (KX.fin HZ.out HK.out (fun he=>absurd aP.out.2 he) (r':=(fG T D n (NT T D n)) s) (by rw [V7 nL.out];exact Eqv.refl _))
   go_wp2_with fail
   go_ret
   exact HQ.out
end
end Go.Proofs.YtjbgnopnehgbaaaGreatDoor
