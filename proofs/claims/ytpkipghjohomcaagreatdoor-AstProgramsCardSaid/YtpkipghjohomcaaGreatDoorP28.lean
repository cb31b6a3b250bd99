/- Lemmas. -/
import Derived.Test.YtpkipghjohomcaaGreatDoorP21
set_option linter.unusedVariables false
set_option linter.unusedSimpArgs false
set_option maxHeartbeats 4000000
set_option maxRecDepth 100000
namespace Go.Proofs.YtpkipghjohomcaaGreatDoor
open Go.RowKit List
section
variable (b bb:Nat) (T:List Tok) (D n:Nat)
theorem Al (hC:dC T) (hD:D<=200) (hn:n<=D) (hA:cO b bb T D n (fun _=>True) 65 (aP T D n (NT T D n))) (hX:cO b bb T D n (fun ak=>ak.inn=false) 118 ((NT T D n).expr)):cO b bb T D n (fun ak=>ak.inn=false) 82 (gJ T D n (NT T D n)):=by
 intro ak ao vn ap w hP h
 have A:=zh hC;have uF:=zh hP
 have py:=zh hA
 have Y:=zh hX
 have E0:=zh (gl T D (D - n)).expr
 have eu:Hid ([61]∈KS):=zh (by decide)
 have gI:Hid ([105,110]∈KS):=zh (by decide)
 have pO:Hid ([116,104,101,110]∈KS):=zh (by decide)
 have NL:Hid ([101,108,115,101]∈KS):=zh (by decide)
 have m:=zh (KX.start h)
 have dQ:=zh h.few
 have L:=zh (cD.nil ao ak)
 clear h hC hP hD hn hA hX
 go_enter Tryz.func82,Tryz.ntmps82
 go_wp2_with fail
 refine(KX.at (ws:=[[108,101,116]]) (m.strs1 _ _) (Yu ..) (by decide)).mono ?_
 rintro O w1 ⟨rfl,hk⟩
 have m:=zh (hk.nils)
 obtain⟨b1,hb⟩:=zx (isQ T [108,101,116] ak)
 rw [at_one A.out (by decide),hb]
 have lk:=zh hb
 clear hk hb
 cases b1
 ·skip
  go_wp2_with fail
  refine(KX.at (ws:=[[105,102]]) (m.strs1 _ _) (Yu ..) (by decide)).mono ?_
  rintro O w2 ⟨rfl,hk⟩
  have m:=zh (hk.nils)
  obtain⟨b2,hb⟩:=zx (isQ T [105,102] ak)
  rw [at_one A.out (by decide),hb]
  have oY:=zh hb
  clear hk hb
  cases b2
  ·skip
   go_wp2_with fail
   refine(KX.at (ws:=[[97,115,115,101,114,116]]) (m.strs1 _ _) (Yu ..) (by decide)).mono ?_
   rintro O w3 ⟨rfl,hk⟩
   have m:=zh (hk.nils)
   obtain⟨b3,hb⟩:=zx (isQ T [97,115,115,101,114,116] ak)
   rw [at_one A.out (by decide),hb]
   have FF:=zh hb
   clear hk hb
   cases b3
   ·skip
    go_wp2_with fail
    refine(m.sub py trivial).mono ?_
    rintro O w9 ⟨Z,R,U,rfl,B,E,G⟩
    have HQ:=zh (KX.fin E B G (r':=(gJ T D n (NT T D n)) ak) (by rw [Yx lk.out oY.out FF.out];exact Eqv.refl _))
    clear B E G
    go_wp2_with fail
    go_ret
    exact HQ
   ·skip
    have H:=zh (ah FF)
    go_wp2_with fail
    have I:=m
    have m:=zh m.drew
    go_region_held3 (fun w'=>w'.cell? ⟨b,0,none⟩=some (.pointer (some ⟨bb,0,none⟩))) (with_reducible first | exact m.out.cell | exact(m.out.alloc _).cell | exact(I.out.alloc _).drew.cell | exact((m.out.alloc _).alloc _).cell | exact((I.out.alloc _).alloc _).drew.cell | exact(((m.out.alloc _).alloc _).alloc _).cell)
     (first
      | (go_at_call 50;have lR:=zh (J.weak (j:=0+1) (by decide));refine(KX.node (k:=0) (kind:=9) (m.ints4 _ _ _ _ ) ?_ A.len lR.out ?_ dQ.out ?_).mono ?_;exact Yu ..;rfl;simp;rintro O w9 ⟨Z,R,U,rfl,B,E⟩;have m:=zh B;have HZ:=zh E;clear B E)
      | (go_at_call 79;(with_reducible first | refine(m.out.take A.out H.out.1 H.out.2).mono ?_ | refine((m.out.strs1 _ _).take A.out H.out.1 H.out.2).mono ?_ | refine((I.out.strs1 _ _).drew.take A.out H.out.1 H.out.2).mono ?_ | refine(((m.out.strs1 _ _).strs1 _ _).take A.out H.out.1 H.out.2).mono ?_ | refine(((I.out.strs1 _ _).strs1 _ _).drew.take A.out H.out.1 H.out.2).mono ?_);rintro O w9 ⟨Z,R,U,rfl,B,E,G⟩;have m:=zh B;have J:=zh (aZ.app L.out E G);have L:=zh J.out.out;clear B E G)
      | (go_at_call 78;(with_reducible first | refine(KX.one1 [105,110] m.out A.out gI.out ?_).mono ?_ | refine(KX.one1 [105,110] (m.out.strs1 _ _) A.out gI.out ?_).mono ?_ | refine(KX.one1 [105,110] (I.out.strs1 _ _).drew A.out gI.out ?_).mono ?_ | refine(KX.one1 [105,110] ((m.out.strs1 _ _).strs1 _ _) A.out gI.out ?_).mono ?_ | refine(KX.one1 [105,110] ((I.out.strs1 _ _).strs1 _ _).drew A.out gI.out ?_).mono ?_);(first | (refine⟨_,?_,Yu ..⟩;focus (simp;done)) | (refine⟨_,?_,Q1 _ (Yu ..)⟩;focus (simp;done)) | (refine⟨_,?_,Q1 _ (Q1 _ (Yu ..))⟩;focus (simp;done)));rintro O w9 ⟨Z,R,U,rfl,B,E,G⟩;have m:=zh B;have J:=zh (aZ.app L.out E G);have L:=zh J.out.out;clear B E G)
      | (go_at_call 118;(with_reducible first | refine((m.out).sub Y.out ?_).mono ?_ | refine(((m.out.strs1 _ _)).sub Y.out ?_).mono ?_ | refine(((I.out.strs1 _ _).drew).sub Y.out ?_).mono ?_ | refine((((m.out.strs1 _ _).strs1 _ _)).sub Y.out ?_).mono ?_ | refine((((I.out.strs1 _ _).strs1 _ _).drew).sub Y.out ?_).mono ?_);(repeat (first | exact uF.out | refine(E0.out _).inn.trans ?_ | refine(aB T _ _).inn.trans ?_ | refine(bY T _ _).inn.trans ?_ | refine(aA T H.out.2).inn.trans ?_));rintro O w9 ⟨Z,R,U,rfl,B,E,G⟩;have m:=zh B;have J:=zh (aZ.app L.out E G);have L:=zh J.out.out;clear B E G))
    all_goals
     have HQ:=zh (KX.fin HZ m (fun he=>absurd H.2 he) (r':=(gJ T D n (NT T D n)) ak) (by rw [Wc lk.out oY.out FF.out];exact Eqv.refl _))
     go_wp2_with fail
     go_ret
     exact HQ
  ·skip
   have H:=zh (ah oY)
   go_wp2_with fail
   have I:=m
   have m:=zh m.drew
   go_region_held3 (fun w'=>w'.cell? ⟨b,0,none⟩=some (.pointer (some ⟨bb,0,none⟩))) (with_reducible first | exact m.out.cell | exact(m.out.alloc _).cell | exact(I.out.alloc _).drew.cell | exact((m.out.alloc _).alloc _).cell | exact((I.out.alloc _).alloc _).drew.cell | exact(((m.out.alloc _).alloc _).alloc _).cell)
    (first
     | (go_at_call 50;have lR:=zh (J.weak (j:=0+1) (by decide));refine(KX.node (k:=0) (kind:=8) (m.ints6 _ _ _ _ _ _ ) ?_ A.len lR.out ?_ dQ.out ?_).mono ?_;exact Yu ..;rfl;simp;rintro O w9 ⟨Z,R,U,rfl,B,E⟩;have m:=zh B;have HZ:=zh E;clear B E)
     | (go_at_call 79;(with_reducible first | refine(m.out.take A.out H.out.1 H.out.2).mono ?_ | refine((m.out.strs1 _ _).take A.out H.out.1 H.out.2).mono ?_ | refine((I.out.strs1 _ _).drew.take A.out H.out.1 H.out.2).mono ?_ | refine(((m.out.strs1 _ _).strs1 _ _).take A.out H.out.1 H.out.2).mono ?_ | refine(((I.out.strs1 _ _).strs1 _ _).drew.take A.out H.out.1 H.out.2).mono ?_);rintro O w9 ⟨Z,R,U,rfl,B,E,G⟩;have m:=zh B;have J:=zh (aZ.app L.out E G);have L:=zh J.out.out;clear B E G)
     | (go_at_call 118;(with_reducible first | refine((m.out).sub Y.out ?_).mono ?_ | refine(((m.out.strs1 _ _)).sub Y.out ?_).mono ?_ | refine(((I.out.strs1 _ _).drew).sub Y.out ?_).mono ?_ | refine((((m.out.strs1 _ _).strs1 _ _)).sub Y.out ?_).mono ?_ | refine((((I.out.strs1 _ _).strs1 _ _).drew).sub Y.out ?_).mono ?_);(repeat (first | exact uF.out | refine(E0.out _).inn.trans ?_ | refine(aB T _ _).inn.trans ?_ | refine(bY T _ _).inn.trans ?_ | refine(aA T H.out.2).inn.trans ?_));rintro O w9 ⟨Z,R,U,rfl,B,E,G⟩;have m:=zh B;have J:=zh (aZ.app L.out E G);have L:=zh J.out.out;clear B E G)
     | (go_at_call 78;(with_reducible first | refine(KX.one1 [116,104,101,110] m.out A.out pO.out ?_).mono ?_ | refine(KX.one1 [116,104,101,110] (m.out.strs1 _ _) A.out pO.out ?_).mono ?_ | refine(KX.one1 [116,104,101,110] (I.out.strs1 _ _).drew A.out pO.out ?_).mono ?_ | refine(KX.one1 [116,104,101,110] ((m.out.strs1 _ _).strs1 _ _) A.out pO.out ?_).mono ?_ | refine(KX.one1 [116,104,101,110] ((I.out.strs1 _ _).strs1 _ _).drew A.out pO.out ?_).mono ?_);(first | (refine⟨_,?_,Yu ..⟩;focus (simp;done)) | (refine⟨_,?_,Q1 _ (Yu ..)⟩;focus (simp;done)) | (refine⟨_,?_,Q1 _ (Q1 _ (Yu ..))⟩;focus (simp;done)));rintro O w9 ⟨Z,R,U,rfl,B,E,G⟩;have m:=zh B;have J:=zh (aZ.app L.out E G);have L:=zh J.out.out;clear B E G)
     | (go_at_call 78;(with_reducible first | refine(KX.one1 [101,108,115,101] m.out A.out NL.out ?_).mono ?_ | refine(KX.one1 [101,108,115,101] (m.out.strs1 _ _) A.out NL.out ?_).mono ?_ | refine(KX.one1 [101,108,115,101] (I.out.strs1 _ _).drew A.out NL.out ?_).mono ?_ | refine(KX.one1 [101,108,115,101] ((m.out.strs1 _ _).strs1 _ _) A.out NL.out ?_).mono ?_ | refine(KX.one1 [101,108,115,101] ((I.out.strs1 _ _).strs1 _ _).drew A.out NL.out ?_).mono ?_);(first | (refine⟨_,?_,Yu ..⟩;focus (simp;done)) | (refine⟨_,?_,Q1 _ (Yu ..)⟩;focus (simp;done)) | (refine⟨_,?_,Q1 _ (Q1 _ (Yu ..))⟩;focus (simp;done)));rintro O w9 ⟨Z,R,U,rfl,B,E,G⟩;have m:=zh B;have J:=zh (aZ.app L.out E G);have L:=zh J.out.out;clear B E G))
   all_goals
    have HQ:=zh (KX.fin HZ m (fun he=>absurd H.2 he) (r':=(gJ T D n (NT T D n)) ak) (by rw [VZ lk.out oY.out];exact Eqv.refl _))
    go_wp2_with fail
    go_ret
    exact HQ
 ·skip
  have H:=zh (ah lk)
  go_wp2_with fail
  have I:=m
  have m:=zh m.drew
  go_region_held3 (fun w'=>w'.cell? ⟨b,0,none⟩=some (.pointer (some ⟨bb,0,none⟩))) (with_reducible first | exact m.out.cell | exact(m.out.alloc _).cell | exact(I.out.alloc _).drew.cell | exact((m.out.alloc _).alloc _).cell | exact((I.out.alloc _).alloc _).drew.cell | exact(((m.out.alloc _).alloc _).alloc _).cell)
   (first
    | (go_at_call 50;have lR:=zh (J.weak (j:=0+1) (by decide));refine(KX.node (k:=0) (kind:=7) (m.ints6 _ _ _ _ _ _ ) ?_ A.len lR.out ?_ dQ.out ?_).mono ?_;exact Yu ..;rfl;simp;rintro O w9 ⟨Z,R,U,rfl,B,E⟩;have m:=zh B;have HZ:=zh E;clear B E)
    | (go_at_call 79;(with_reducible first | refine(m.out.take A.out H.out.1 H.out.2).mono ?_ | refine((m.out.strs1 _ _).take A.out H.out.1 H.out.2).mono ?_ | refine((I.out.strs1 _ _).drew.take A.out H.out.1 H.out.2).mono ?_ | refine(((m.out.strs1 _ _).strs1 _ _).take A.out H.out.1 H.out.2).mono ?_ | refine(((I.out.strs1 _ _).strs1 _ _).drew.take A.out H.out.1 H.out.2).mono ?_);rintro O w9 ⟨Z,R,U,rfl,B,E,G⟩;have m:=zh B;have J:=zh (aZ.app L.out E G);have L:=zh J.out.out;clear B E G)
    | (go_at_call 51;(with_reducible first | refine(m.out.word A.out).mono ?_ | refine((m.out.strs1 _ _).word A.out).mono ?_ | refine((I.out.strs1 _ _).drew.word A.out).mono ?_ | refine(((m.out.strs1 _ _).strs1 _ _).word A.out).mono ?_ | refine(((I.out.strs1 _ _).strs1 _ _).drew.word A.out).mono ?_);rintro O w9 ⟨Z,R,U,rfl,B,E,G⟩;have m:=zh B;have J:=zh (aZ.app L.out E G);have L:=zh J.out.out;clear B E G)
    | (go_at_call 118;(with_reducible first | refine((m.out).sub Y.out ?_).mono ?_ | refine(((m.out.strs1 _ _)).sub Y.out ?_).mono ?_ | refine(((I.out.strs1 _ _).drew).sub Y.out ?_).mono ?_ | refine((((m.out.strs1 _ _).strs1 _ _)).sub Y.out ?_).mono ?_ | refine((((I.out.strs1 _ _).strs1 _ _).drew).sub Y.out ?_).mono ?_);(repeat (first | exact uF.out | refine(E0.out _).inn.trans ?_ | refine(aB T _ _).inn.trans ?_ | refine(bY T _ _).inn.trans ?_ | refine(aA T H.out.2).inn.trans ?_));rintro O w9 ⟨Z,R,U,rfl,B,E,G⟩;have m:=zh B;have J:=zh (aZ.app L.out E G);have L:=zh J.out.out;clear B E G)
    | (go_at_call 78;(with_reducible first | refine(KX.one1 [61] m.out A.out eu.out ?_).mono ?_ | refine(KX.one1 [61] (m.out.strs1 _ _) A.out eu.out ?_).mono ?_ | refine(KX.one1 [61] (I.out.strs1 _ _).drew A.out eu.out ?_).mono ?_ | refine(KX.one1 [61] ((m.out.strs1 _ _).strs1 _ _) A.out eu.out ?_).mono ?_ | refine(KX.one1 [61] ((I.out.strs1 _ _).strs1 _ _).drew A.out eu.out ?_).mono ?_);(first | (refine⟨_,?_,Yu ..⟩;focus (simp;done)) | (refine⟨_,?_,Q1 _ (Yu ..)⟩;focus (simp;done)) | (refine⟨_,?_,Q1 _ (Q1 _ (Yu ..))⟩;focus (simp;done)));rintro O w9 ⟨Z,R,U,rfl,B,E,G⟩;have m:=zh B;have J:=zh (aZ.app L.out E G);have L:=zh J.out.out;clear B E G)
    | (go_at_call 78;(with_reducible first | refine(KX.one1 [105,110] m.out A.out gI.out ?_).mono ?_ | refine(KX.one1 [105,110] (m.out.strs1 _ _) A.out gI.out ?_).mono ?_ | refine(KX.one1 [105,110] (I.out.strs1 _ _).drew A.out gI.out ?_).mono ?_ | refine(KX.one1 [105,110] ((m.out.strs1 _ _).strs1 _ _) A.out gI.out ?_).mono ?_ | refine(KX.one1 [105,110] ((I.out.strs1 _ _).strs1 _ _).drew A.out gI.out ?_).mono ?_);(first | (refine⟨_,?_,Yu ..⟩;focus (simp;done)) | (refine⟨_,?_,Q1 _ (Yu ..)⟩;focus (simp;done)) | (refine⟨_,?_,Q1 _ (Q1 _ (Yu ..))⟩;focus (simp;done)));rintro O w9 ⟨Z,R,U,rfl,B,E,G⟩;have m:=zh B;have J:=zh (aZ.app L.out E G);have L:=zh J.out.out;clear B E G))
  all_goals
   have HQ:=zh (KX.fin HZ m (fun he=>absurd H.2 he) (r':=(gJ T D n (NT T D n)) ak) (by rw [WG lk.out];exact Eqv.refl _))
   go_wp2_with fail
   go_ret
   exact HQ
end
end Go.Proofs.YtpkipghjohomcaaGreatDoor
