/- Lemmas. -/
import Derived.Test.YtddccnpohpaofaaGreatDoorP31
set_option linter.unusedVariables false
set_option linter.unusedSimpArgs false
namespace Go.Proofs.YtddccnpohpaofaaGreatDoor
open Go.RowKit

section
variable (b bb : Nat) (T : List Tok) (D n : Nat)

set_option maxRecDepth 100000 in
set_option maxHeartbeats 4000000 in
theorem expression_p (hC : TokC T) (hD : D ≤ 200) (hn : n ≤ D) (hA : SubI b bb T D n (fun _ => True) 44 (formulaT T D n (NT T D n))) (hX : SubI b bb T D n (fun s => s.inn = false) 168 ((NT T D n).expr)) : SubI b bb T D n (fun s => s.inn = false) 164 (bodyE T D n (NT T D n)) := by
  intro s N vn A w hP h
  have HCC := Lib.hid hC; have HPP := Lib.hid hP
  have HSA := Lib.hid hA
  have HSX := Lib.hid hX
  have HKE := Lib.hid (nx_keep T D (D - n)).expr
  have HKS1 : Hid ([61] ∈ KS) := Lib.hid (by decide)
  have HKS2 : Hid ([105, 110] ∈ KS) := Lib.hid (by decide)
  have HKS3 : Hid ([116, 104, 101, 110] ∈ KS) := Lib.hid (by decide)
  have HKS4 : Hid ([101, 108, 115, 101] ∈ KS) := Lib.hid (by decide)
  have HK := Lib.hid (KX.start h)
  have HFEW := Lib.hid h.few
  have HA := Lib.hid (OutL.nil N s)
  clear h hC hP hD hn hA hX
  go_enter Tryz.func164, Tryz.ntmps164
  go_wp2_with fail
  refine (KX.at (ws := [[108, 101, 116]]) (HK.out.strs1 _ _) (List.mem_cons_self ..) (by decide)).mono ?_
  rintro e w1 ⟨rfl, hk⟩
  have HK := Lib.hid (hk.nils)
  obtain ⟨b1, hb⟩ : ∃ b1, isQ T [108, 101, 116] s = b1 := ⟨_, rfl⟩
  rw [at_one HCC.out (by decide), hb]
  have HV1 := Lib.hid hb
  clear hk hb
  cases b1
  · skip
    go_wp2_with fail
    refine (KX.at (ws := [[105, 102]]) (HK.out.strs1 _ _) (List.mem_cons_self ..) (by decide)).mono ?_
    rintro e w2 ⟨rfl, hk⟩
    have HK := Lib.hid (hk.nils)
    obtain ⟨b2, hb⟩ : ∃ b2, isQ T [105, 102] s = b2 := ⟨_, rfl⟩
    rw [at_one HCC.out (by decide), hb]
    have HV2 := Lib.hid hb
    clear hk hb
    cases b2
    · skip
      go_wp2_with fail
      refine (KX.at (ws := [[97, 115, 115, 101, 114, 116]]) (HK.out.strs1 _ _) (List.mem_cons_self ..) (by decide)).mono ?_
      rintro e w3 ⟨rfl, hk⟩
      have HK := Lib.hid (hk.nils)
      obtain ⟨b3, hb⟩ : ∃ b3, isQ T [97, 115, 115, 101, 114, 116] s = b3 := ⟨_, rfl⟩
      rw [at_one HCC.out (by decide), hb]
      have HV3 := Lib.hid hb
      clear hk hb
      cases b3
      · skip
        go_wp2_with fail
        refine (HK.out.sub HSA.out trivial).mono ?_
        rintro e w9 ⟨v9, N9, vn9, rfl, hk9, ho9, hd9⟩
        have HQ := Lib.hid (KX.fin ho9 hk9 hd9 (r' := (bodyE T D n (NT T D n)) s) (by rw [body_f HV1.out HV2.out HV3.out]; exact Eqv.refl _))
        clear hk9 ho9 hd9
        go_wp2_with fail
        go_ret
        exact HQ.out
      · skip
        have HLI := Lib.hid (is_kind HV3.out)
        go_wp2_with fail
        have HKD := HK
        have HK := Lib.hid HK.out.drew
        go_region_held3 (fun w' => w'.cell? ⟨b, 0, none⟩ = some (.pointer (some ⟨bb, 0, none⟩))) (first | with_reducible exact HK.out.cell | with_reducible exact (HK.out.alloc _).cell | with_reducible exact (HKD.out.alloc _).drew.cell | with_reducible exact ((HK.out.alloc _).alloc _).cell | with_reducible exact ((HKD.out.alloc _).alloc _).drew.cell | with_reducible exact (((HK.out.alloc _).alloc _).alloc _).cell)
          (first
            | (go_at_call 42; have HDW := Lib.hid (HD.out.weak (j := 0 + 1) (by decide)); refine (KX.node (k := 0) (kind := 9) (HK.out.ints4 _ _ _ _ ) ?_ HCC.out.len HDW.out ?_ HFEW.out ?_).mono ?_; exact List.mem_cons_self ..; rfl; simp; rintro e w9 ⟨v9, N9, vn9, rfl, hk9, ho9⟩; have HK := Lib.hid hk9; have HZ := Lib.hid ho9; clear hk9 ho9)
            | (go_at_call 76; (first | with_reducible refine (HK.out.take HCC.out HLI.out.1 HLI.out.2).mono ?_ | with_reducible refine ((HK.out.strs1 _ _).take HCC.out HLI.out.1 HLI.out.2).mono ?_ | with_reducible refine ((HKD.out.strs1 _ _).drew.take HCC.out HLI.out.1 HLI.out.2).mono ?_ | with_reducible refine (((HK.out.strs1 _ _).strs1 _ _).take HCC.out HLI.out.1 HLI.out.2).mono ?_ | with_reducible refine (((HKD.out.strs1 _ _).strs1 _ _).drew.take HCC.out HLI.out.1 HLI.out.2).mono ?_); rintro e w9 ⟨v9, N9, vn9, rfl, hk9, ho9, hd9⟩; have HK := Lib.hid hk9; have HD := Lib.hid (OutD.app HA.out ho9 hd9); have HA := Lib.hid HD.out.out; clear hk9 ho9 hd9)
            | (go_at_call 165; (first | with_reducible refine (KX.one1 [105, 110] HK.out HCC.out HKS2.out ?_).mono ?_ | with_reducible refine (KX.one1 [105, 110] (HK.out.strs1 _ _) HCC.out HKS2.out ?_).mono ?_ | with_reducible refine (KX.one1 [105, 110] (HKD.out.strs1 _ _).drew HCC.out HKS2.out ?_).mono ?_ | with_reducible refine (KX.one1 [105, 110] ((HK.out.strs1 _ _).strs1 _ _) HCC.out HKS2.out ?_).mono ?_ | with_reducible refine (KX.one1 [105, 110] ((HKD.out.strs1 _ _).strs1 _ _).drew HCC.out HKS2.out ?_).mono ?_); (first | (refine ⟨_, ?_, List.mem_cons_self ..⟩; focus (simp; done)) | (refine ⟨_, ?_, List.mem_cons_of_mem _ (List.mem_cons_self ..)⟩; focus (simp; done)) | (refine ⟨_, ?_, List.mem_cons_of_mem _ (List.mem_cons_of_mem _ (List.mem_cons_self ..))⟩; focus (simp; done))); rintro e w9 ⟨v9, N9, vn9, rfl, hk9, ho9, hd9⟩; have HK := Lib.hid hk9; have HD := Lib.hid (OutD.app HA.out ho9 hd9); have HA := Lib.hid HD.out.out; clear hk9 ho9 hd9)
            | (go_at_call 168; (first | with_reducible refine ((HK.out).sub HSX.out ?_).mono ?_ | with_reducible refine (((HK.out.strs1 _ _)).sub HSX.out ?_).mono ?_ | with_reducible refine (((HKD.out.strs1 _ _).drew).sub HSX.out ?_).mono ?_ | with_reducible refine ((((HK.out.strs1 _ _).strs1 _ _)).sub HSX.out ?_).mono ?_ | with_reducible refine ((((HKD.out.strs1 _ _).strs1 _ _).drew).sub HSX.out ?_).mono ?_); (repeat (first | exact HPP.out | refine (HKE.out _).inn.trans ?_ | refine (must_keep T _ _).inn.trans ?_ | refine (kind_keep T _ _).inn.trans ?_ | refine (leaf_keep T HLI.out.2).inn.trans ?_)); rintro e w9 ⟨v9, N9, vn9, rfl, hk9, ho9, hd9⟩; have HK := Lib.hid hk9; have HD := Lib.hid (OutD.app HA.out ho9 hd9); have HA := Lib.hid HD.out.out; clear hk9 ho9 hd9))
        all_goals
          have HQ := Lib.hid (KX.fin HZ.out HK.out (fun he => absurd HLI.out.2 he) (r' := (bodyE T D n (NT T D n)) s) (by rw [body_a HV1.out HV2.out HV3.out]; exact Eqv.refl _))
          go_wp2_with fail
          go_ret
          exact HQ.out
    · skip
      have HLI := Lib.hid (is_kind HV2.out)
      go_wp2_with fail
      have HKD := HK
      have HK := Lib.hid HK.out.drew
      go_region_held3 (fun w' => w'.cell? ⟨b, 0, none⟩ = some (.pointer (some ⟨bb, 0, none⟩))) (first | with_reducible exact HK.out.cell | with_reducible exact (HK.out.alloc _).cell | with_reducible exact (HKD.out.alloc _).drew.cell | with_reducible exact ((HK.out.alloc _).alloc _).cell | with_reducible exact ((HKD.out.alloc _).alloc _).drew.cell | with_reducible exact (((HK.out.alloc _).alloc _).alloc _).cell)
        (first
          | (go_at_call 42; have HDW := Lib.hid (HD.out.weak (j := 0 + 1) (by decide)); refine (KX.node (k := 0) (kind := 8) (HK.out.ints6 _ _ _ _ _ _ ) ?_ HCC.out.len HDW.out ?_ HFEW.out ?_).mono ?_; exact List.mem_cons_self ..; rfl; simp; rintro e w9 ⟨v9, N9, vn9, rfl, hk9, ho9⟩; have HK := Lib.hid hk9; have HZ := Lib.hid ho9; clear hk9 ho9)
          | (go_at_call 76; (first | with_reducible refine (HK.out.take HCC.out HLI.out.1 HLI.out.2).mono ?_ | with_reducible refine ((HK.out.strs1 _ _).take HCC.out HLI.out.1 HLI.out.2).mono ?_ | with_reducible refine ((HKD.out.strs1 _ _).drew.take HCC.out HLI.out.1 HLI.out.2).mono ?_ | with_reducible refine (((HK.out.strs1 _ _).strs1 _ _).take HCC.out HLI.out.1 HLI.out.2).mono ?_ | with_reducible refine (((HKD.out.strs1 _ _).strs1 _ _).drew.take HCC.out HLI.out.1 HLI.out.2).mono ?_); rintro e w9 ⟨v9, N9, vn9, rfl, hk9, ho9, hd9⟩; have HK := Lib.hid hk9; have HD := Lib.hid (OutD.app HA.out ho9 hd9); have HA := Lib.hid HD.out.out; clear hk9 ho9 hd9)
          | (go_at_call 168; (first | with_reducible refine ((HK.out).sub HSX.out ?_).mono ?_ | with_reducible refine (((HK.out.strs1 _ _)).sub HSX.out ?_).mono ?_ | with_reducible refine (((HKD.out.strs1 _ _).drew).sub HSX.out ?_).mono ?_ | with_reducible refine ((((HK.out.strs1 _ _).strs1 _ _)).sub HSX.out ?_).mono ?_ | with_reducible refine ((((HKD.out.strs1 _ _).strs1 _ _).drew).sub HSX.out ?_).mono ?_); (repeat (first | exact HPP.out | refine (HKE.out _).inn.trans ?_ | refine (must_keep T _ _).inn.trans ?_ | refine (kind_keep T _ _).inn.trans ?_ | refine (leaf_keep T HLI.out.2).inn.trans ?_)); rintro e w9 ⟨v9, N9, vn9, rfl, hk9, ho9, hd9⟩; have HK := Lib.hid hk9; have HD := Lib.hid (OutD.app HA.out ho9 hd9); have HA := Lib.hid HD.out.out; clear hk9 ho9 hd9)
          | (go_at_call 165; (first | with_reducible refine (KX.one1 [116, 104, 101, 110] HK.out HCC.out HKS3.out ?_).mono ?_ | with_reducible refine (KX.one1 [116, 104, 101, 110] (HK.out.strs1 _ _) HCC.out HKS3.out ?_).mono ?_ | with_reducible refine (KX.one1 [116, 104, 101, 110] (HKD.out.strs1 _ _).drew HCC.out HKS3.out ?_).mono ?_ | with_reducible refine (KX.one1 [116, 104, 101, 110] ((HK.out.strs1 _ _).strs1 _ _) HCC.out HKS3.out ?_).mono ?_ | with_reducible refine (KX.one1 [116, 104, 101, 110] ((HKD.out.strs1 _ _).strs1 _ _).drew HCC.out HKS3.out ?_).mono ?_); (first | (refine ⟨_, ?_, List.mem_cons_self ..⟩; focus (simp; done)) | (refine ⟨_, ?_, List.mem_cons_of_mem _ (List.mem_cons_self ..)⟩; focus (simp; done)) | (refine ⟨_, ?_, List.mem_cons_of_mem _ (List.mem_cons_of_mem _ (List.mem_cons_self ..))⟩; focus (simp; done))); rintro e w9 ⟨v9, N9, vn9, rfl, hk9, ho9, hd9⟩; have HK := Lib.hid hk9; have HD := Lib.hid (OutD.app HA.out ho9 hd9); have HA := Lib.hid HD.out.out; clear hk9 ho9 hd9)
          | (go_at_call 165; (first | with_reducible refine (KX.one1 [101, 108, 115, 101] HK.out HCC.out HKS4.out ?_).mono ?_ | with_reducible refine (KX.one1 [101, 108, 115, 101] (HK.out.strs1 _ _) HCC.out HKS4.out ?_).mono ?_ | with_reducible refine (KX.one1 [101, 108, 115, 101] (HKD.out.strs1 _ _).drew HCC.out HKS4.out ?_).mono ?_ | with_reducible refine (KX.one1 [101, 108, 115, 101] ((HK.out.strs1 _ _).strs1 _ _) HCC.out HKS4.out ?_).mono ?_ | with_reducible refine (KX.one1 [101, 108, 115, 101] ((HKD.out.strs1 _ _).strs1 _ _).drew HCC.out HKS4.out ?_).mono ?_); (first | (refine ⟨_, ?_, List.mem_cons_self ..⟩; focus (simp; done)) | (refine ⟨_, ?_, List.mem_cons_of_mem _ (List.mem_cons_self ..)⟩; focus (simp; done)) | (refine ⟨_, ?_, List.mem_cons_of_mem _ (List.mem_cons_of_mem _ (List.mem_cons_self ..))⟩; focus (simp; done))); rintro e w9 ⟨v9, N9, vn9, rfl, hk9, ho9, hd9⟩; have HK := Lib.hid hk9; have HD := Lib.hid (OutD.app HA.out ho9 hd9); have HA := Lib.hid HD.out.out; clear hk9 ho9 hd9))
      all_goals
        have HQ := Lib.hid (KX.fin HZ.out HK.out (fun he => absurd HLI.out.2 he) (r' := (bodyE T D n (NT T D n)) s) (by rw [body_i HV1.out HV2.out]; exact Eqv.refl _))
        go_wp2_with fail
        go_ret
        exact HQ.out
  · skip
    have HLI := Lib.hid (is_kind HV1.out)
    go_wp2_with fail
    have HKD := HK
    have HK := Lib.hid HK.out.drew
    go_region_held3 (fun w' => w'.cell? ⟨b, 0, none⟩ = some (.pointer (some ⟨bb, 0, none⟩))) (first | with_reducible exact HK.out.cell | with_reducible exact (HK.out.alloc _).cell | with_reducible exact (HKD.out.alloc _).drew.cell | with_reducible exact ((HK.out.alloc _).alloc _).cell | with_reducible exact ((HKD.out.alloc _).alloc _).drew.cell | with_reducible exact (((HK.out.alloc _).alloc _).alloc _).cell)
      (first
        | (go_at_call 42; have HDW := Lib.hid (HD.out.weak (j := 0 + 1) (by decide)); refine (KX.node (k := 0) (kind := 7) (HK.out.ints6 _ _ _ _ _ _ ) ?_ HCC.out.len HDW.out ?_ HFEW.out ?_).mono ?_; exact List.mem_cons_self ..; rfl; simp; rintro e w9 ⟨v9, N9, vn9, rfl, hk9, ho9⟩; have HK := Lib.hid hk9; have HZ := Lib.hid ho9; clear hk9 ho9)
        | (go_at_call 76; (first | with_reducible refine (HK.out.take HCC.out HLI.out.1 HLI.out.2).mono ?_ | with_reducible refine ((HK.out.strs1 _ _).take HCC.out HLI.out.1 HLI.out.2).mono ?_ | with_reducible refine ((HKD.out.strs1 _ _).drew.take HCC.out HLI.out.1 HLI.out.2).mono ?_ | with_reducible refine (((HK.out.strs1 _ _).strs1 _ _).take HCC.out HLI.out.1 HLI.out.2).mono ?_ | with_reducible refine (((HKD.out.strs1 _ _).strs1 _ _).drew.take HCC.out HLI.out.1 HLI.out.2).mono ?_); rintro e w9 ⟨v9, N9, vn9, rfl, hk9, ho9, hd9⟩; have HK := Lib.hid hk9; have HD := Lib.hid (OutD.app HA.out ho9 hd9); have HA := Lib.hid HD.out.out; clear hk9 ho9 hd9)
        | (go_at_call 45; (first | with_reducible refine (HK.out.word HCC.out).mono ?_ | with_reducible refine ((HK.out.strs1 _ _).word HCC.out).mono ?_ | with_reducible refine ((HKD.out.strs1 _ _).drew.word HCC.out).mono ?_ | with_reducible refine (((HK.out.strs1 _ _).strs1 _ _).word HCC.out).mono ?_ | with_reducible refine (((HKD.out.strs1 _ _).strs1 _ _).drew.word HCC.out).mono ?_); rintro e w9 ⟨v9, N9, vn9, rfl, hk9, ho9, hd9⟩; have HK := Lib.hid hk9; have HD := Lib.hid (OutD.app HA.out ho9 hd9); have HA := Lib.hid HD.out.out; clear hk9 ho9 hd9)
        | (go_at_call 168; (first | with_reducible refine ((HK.out).sub HSX.out ?_).mono ?_ | with_reducible refine (((HK.out.strs1 _ _)).sub HSX.out ?_).mono ?_ | with_reducible refine (((HKD.out.strs1 _ _).drew).sub HSX.out ?_).mono ?_ | with_reducible refine ((((HK.out.strs1 _ _).strs1 _ _)).sub HSX.out ?_).mono ?_ | with_reducible refine ((((HKD.out.strs1 _ _).strs1 _ _).drew).sub HSX.out ?_).mono ?_); (repeat (first | exact HPP.out | refine (HKE.out _).inn.trans ?_ | refine (must_keep T _ _).inn.trans ?_ | refine (kind_keep T _ _).inn.trans ?_ | refine (leaf_keep T HLI.out.2).inn.trans ?_)); rintro e w9 ⟨v9, N9, vn9, rfl, hk9, ho9, hd9⟩; have HK := Lib.hid hk9; have HD := Lib.hid (OutD.app HA.out ho9 hd9); have HA := Lib.hid HD.out.out; clear hk9 ho9 hd9)
        | (go_at_call 165; (first | with_reducible refine (KX.one1 [61] HK.out HCC.out HKS1.out ?_).mono ?_ | with_reducible refine (KX.one1 [61] (HK.out.strs1 _ _) HCC.out HKS1.out ?_).mono ?_ | with_reducible refine (KX.one1 [61] (HKD.out.strs1 _ _).drew HCC.out HKS1.out ?_).mono ?_ | with_reducible refine (KX.one1 [61] ((HK.out.strs1 _ _).strs1 _ _) HCC.out HKS1.out ?_).mono ?_ | with_reducible refine (KX.one1 [61] ((HKD.out.strs1 _ _).strs1 _ _).drew HCC.out HKS1.out ?_).mono ?_); (first | (refine ⟨_, ?_, List.mem_cons_self ..⟩; focus (simp; done)) | (refine ⟨_, ?_, List.mem_cons_of_mem _ (List.mem_cons_self ..)⟩; focus (simp; done)) | (refine ⟨_, ?_, List.mem_cons_of_mem _ (List.mem_cons_of_mem _ (List.mem_cons_self ..))⟩; focus (simp; done))); rintro e w9 ⟨v9, N9, vn9, rfl, hk9, ho9, hd9⟩; have HK := Lib.hid hk9; have HD := Lib.hid (OutD.app HA.out ho9 hd9); have HA := Lib.hid HD.out.out; clear hk9 ho9 hd9)
        | (go_at_call 165; (first | with_reducible refine (KX.one1 [105, 110] HK.out HCC.out HKS2.out ?_).mono ?_ | with_reducible refine (KX.one1 [105, 110] (HK.out.strs1 _ _) HCC.out HKS2.out ?_).mono ?_ | with_reducible refine (KX.one1 [105, 110] (HKD.out.strs1 _ _).drew HCC.out HKS2.out ?_).mono ?_ | with_reducible refine (KX.one1 [105, 110] ((HK.out.strs1 _ _).strs1 _ _) HCC.out HKS2.out ?_).mono ?_ | with_reducible refine (KX.one1 [105, 110] ((HKD.out.strs1 _ _).strs1 _ _).drew HCC.out HKS2.out ?_).mono ?_); (first | (refine ⟨_, ?_, List.mem_cons_self ..⟩; focus (simp; done)) | (refine ⟨_, ?_, List.mem_cons_of_mem _ (List.mem_cons_self ..)⟩; focus (simp; done)) | (refine ⟨_, ?_, List.mem_cons_of_mem _ (List.mem_cons_of_mem _ (List.mem_cons_self ..))⟩; focus (simp; done))); rintro e w9 ⟨v9, N9, vn9, rfl, hk9, ho9, hd9⟩; have HK := Lib.hid hk9; have HD := Lib.hid (OutD.app HA.out ho9 hd9); have HA := Lib.hid HD.out.out; clear hk9 ho9 hd9))
    all_goals
      have HQ := Lib.hid (KX.fin HZ.out HK.out (fun he => absurd HLI.out.2 he) (r' := (bodyE T D n (NT T D n)) s) (by rw [body_l HV1.out]; exact Eqv.refl _))
      go_wp2_with fail
      go_ret
      exact HQ.out
end
end Go.Proofs.YtddccnpohpaofaaGreatDoor
