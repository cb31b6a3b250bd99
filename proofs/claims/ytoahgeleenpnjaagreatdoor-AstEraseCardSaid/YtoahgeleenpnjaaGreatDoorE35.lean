/- The program's parser: atoms. -/
import Derived.Deep.RegionHeld3
import Derived.Test.YtoahgeleenpnjaaGreatDoorE30
set_option linter.unusedVariables false
set_option linter.unusedSimpArgs false
namespace Go.Proofs.YtoahgeleenpnjaaGreatDoor
open Go.RowKit

section
variable (b bb : Nat) (T : List Tok) (D n : Nat)

set_option maxRecDepth 100000 in
set_option maxHeartbeats 4000000 in
theorem atom_p (hC : TokC T) (hD : D ≤ 200) (hn : n ≤ D) (hG : SubI b bb T D n (fun s => isQ T [40] s = true) 175 (grpT T (NT T D n))) (hM : SubI b bb T D n (fun s => s.e = 0 ∧ (tokQ T s).kind = 1) 176 (nameT T (NT T D n))) : SubI b bb T D n (fun _ => True) 174 (atomT T (NT T D n)) := by
  intro s N vn A w hP h
  have HCC := Lib.hid hC; have HPP := Lib.hid hP
  have HSG := Lib.hid hG
  have HSM := Lib.hid hM
  have HK := Lib.hid (KX.start h)
  have HFEW := Lib.hid h.few
  have HA := Lib.hid (OutL.nil N s)
  clear h hC hP hD hn hG hM
  go_enter Tryz.func174, Tryz.ntmps174
  go_wp2_with fail
  refine (HK.out.kind 3).mono ?_
  rintro e w1 ⟨rfl, hk⟩
  have HK := Lib.hid hk
  by_cases hc1 : s.e = 0 ∧ (tokQ T s).kind = 3
  · rw [decide_eq_true hc1]
    have HLI := Lib.hid (show (tokQ T s).kind ≠ 5 ∧ s.e = 0 from ⟨by omega, hc1.1⟩); have HV1 := Lib.hid hc1; clear hc1 hk
    go_wp2_with fail
    have HKD := HK
    have HK := Lib.hid HK.out.drew
    go_region_held3 (fun w' => w'.cell? ⟨b, 0, none⟩ = some (.pointer (some ⟨bb, 0, none⟩))) (first | with_reducible exact HK.out.cell | with_reducible exact (HK.out.alloc _).cell | with_reducible exact (HKD.out.alloc _).drew.cell | with_reducible exact ((HK.out.alloc _).alloc _).cell | with_reducible exact ((HKD.out.alloc _).alloc _).drew.cell | with_reducible exact (((HK.out.alloc _).alloc _).alloc _).cell)
      (first
        | (go_at_call 81; (first | with_reducible refine (HK.out.take HCC.out HLI.out.1 HLI.out.2).mono ?_ | with_reducible refine ((HK.out.strs1 _ _).take HCC.out HLI.out.1 HLI.out.2).mono ?_ | with_reducible refine ((HKD.out.strs1 _ _).drew.take HCC.out HLI.out.1 HLI.out.2).mono ?_ | with_reducible refine (((HK.out.strs1 _ _).strs1 _ _).take HCC.out HLI.out.1 HLI.out.2).mono ?_ | with_reducible refine (((HKD.out.strs1 _ _).strs1 _ _).drew.take HCC.out HLI.out.1 HLI.out.2).mono ?_); rintro e w9 ⟨v9, N9, vn9, rfl, hk9, ho9, hd9⟩; have HK := Lib.hid hk9; have HD := Lib.hid (OutD.app HA.out ho9 hd9); have HA := Lib.hid HD.out.out; clear hk9 ho9 hd9)
        | (go_at_call 52; have HDW := Lib.hid (HD.out.weak (j := 0 + 1) (by decide)); refine (KX.node (k := 0) (kind := 15) (HK.out.ints1 _ ) ?_ HCC.out.len HDW.out ?_ HFEW.out ?_).mono ?_; exact List.mem_cons_self ..; rfl; simp; rintro e w9 ⟨v9, N9, vn9, rfl, hk9, ho9⟩; have HK := Lib.hid hk9; have HZ := Lib.hid ho9; clear hk9 ho9))
    all_goals
      have HQ := Lib.hid (KX.fin HZ.out HK.out (fun he => absurd HLI.out.2 he) (r' := (atomT T (NT T D n)) s) (by rw [atom_num HV1.out]; exact Eqv.refl _))
      go_wp2_with fail
      go_ret
      exact HQ.out
  · rw [decide_eq_false hc1]
    have HV1 := Lib.hid hc1; clear hc1 hk
    go_wp2_with fail
    refine (KX.at (ws := [[116, 114, 117, 101], [102, 97, 108, 115, 101]]) (HK.out.strs2 _ _ _) (List.mem_cons_self ..) (by decide)).mono ?_
    rintro e w2 ⟨rfl, hk⟩
    have HK := Lib.hid hk.nils
    obtain ⟨b2, hb⟩ : ∃ b2, atQ T [[116, 114, 117, 101], [102, 97, 108, 115, 101]] s = b2 := ⟨_, rfl⟩
    rw [hb]
    have HV2 : Hid ((isQ T [116, 114, 117, 101] s || isQ T [102, 97, 108, 115, 101] s) = b2) := Lib.hid (by rw [← hb, at_any HCC.out (by decide)]; simp)
    clear hk hb
    cases b2
    · skip
      have d0 := HK.out.cell; have d7 := HK.out.innc
      go_wp2_with fail
      refine (KX.at (ws := [[114, 101, 115]]) (HK.out.strs1 _ _) (List.mem_cons_self ..) (by decide)).mono ?_
      rintro e w3 ⟨rfl, hk⟩
      have HK := Lib.hid hk.nils
      obtain ⟨b3, hb⟩ : ∃ b3, isQ T [114, 101, 115] s = b3 := ⟨_, rfl⟩
      rw [at_one HCC.out (by decide), hb]
      have HV3 := Lib.hid hb
      clear hk hb d0 d7
      have d7 := HK.out.innc
      obtain ⟨I, hI⟩ : ∃ I, s.inn = I := ⟨_, rfl⟩
      have HI := Lib.hid hI
      rw [hI] at d7
      clear hI
      cases b3
      · skip
        go_wp2_with fail
        refine (KX.at (ws := [[40]]) (HK.out.strs1 _ _) (List.mem_cons_self ..) (by decide)).mono ?_
        rintro e w4 ⟨rfl, hk⟩
        have HK := Lib.hid (hk.nils)
        obtain ⟨b4, hb⟩ : ∃ b4, isQ T [40] s = b4 := ⟨_, rfl⟩
        rw [at_one HCC.out (by decide), hb]
        have HV4 := Lib.hid hb
        clear hk hb
        cases b4
        · skip
          go_wp2_with fail
          refine (HK.out.kind 1).mono ?_
          rintro e w5 ⟨rfl, hk⟩
          have HK := Lib.hid hk
          by_cases hc5 : s.e = 0 ∧ (tokQ T s).kind = 1
          · rw [decide_eq_true hc5]
            have HV5 := Lib.hid hc5; clear hc5 hk
            go_wp2_with fail
            refine (HK.out.sub HSM.out HV5.out).mono ?_
            rintro e w9 ⟨v9, N9, vn9, rfl, hk9, ho9, hd9⟩
            have HQ := Lib.hid (KX.fin ho9 hk9 hd9 (r' := (atomT T (NT T D n)) s) (by rw [atom_name HV5.out.1 HV1.out HV2.out (fun h => by rw [HV3.out] at h; cases h.2) HV4.out HV5.out.2]; exact Eqv.refl _))
            clear hk9 ho9 hd9
            go_wp2_with fail
            go_ret
            exact HQ.out
          · rw [decide_eq_false hc5]
            have HV5 := Lib.hid hc5; clear hc5 hk
            go_wp2_with fail
            refine (HK.out.fail 22 (by decide)).mono ?_
            rintro e w9 ⟨v9, N9, vn9, rfl, hk9, ho9, hd9⟩
            have HQ := Lib.hid (KX.fin ho9 hk9 hd9 (r' := (atomT T (NT T D n)) s) (atom_none HV1.out HV2.out (fun h => by rw [HV3.out] at h; cases h.2) HV4.out HV5.out))
            clear hk9 ho9 hd9
            go_wp2_with fail
            go_ret
            exact HQ.out
        · skip
          go_wp2_with fail
          refine (HK.out.sub HSG.out HV4.out).mono ?_
          rintro e w9 ⟨v9, N9, vn9, rfl, hk9, ho9, hd9⟩
          have HQ := Lib.hid (KX.fin ho9 hk9 hd9 (r' := (atomT T (NT T D n)) s) (by rw [atom_grp HV1.out HV2.out (fun h => by rw [HV3.out] at h; cases h.2) HV4.out]; exact Eqv.refl _))
          clear hk9 ho9 hd9
          go_wp2_with fail
          go_ret
          exact HQ.out
      · cases I
        · skip
          go_wp2_with fail
          refine (KX.at (ws := [[40]]) (HK.out.strs1 _ _) (List.mem_cons_self ..) (by decide)).mono ?_
          rintro e w4 ⟨rfl, hk⟩
          have HK := Lib.hid (hk.nils)
          obtain ⟨b4, hb⟩ : ∃ b4, isQ T [40] s = b4 := ⟨_, rfl⟩
          rw [at_one HCC.out (by decide), hb]
          have HV4 := Lib.hid hb
          clear hk hb
          cases b4
          · skip
            go_wp2_with fail
            refine (HK.out.kind 1).mono ?_
            rintro e w5 ⟨rfl, hk⟩
            have HK := Lib.hid hk
            by_cases hc5 : s.e = 0 ∧ (tokQ T s).kind = 1
            · rw [decide_eq_true hc5]
              have HV5 := Lib.hid hc5; clear hc5 hk
              go_wp2_with fail
              refine (HK.out.sub HSM.out HV5.out).mono ?_
              rintro e w9 ⟨v9, N9, vn9, rfl, hk9, ho9, hd9⟩
              have HQ := Lib.hid (KX.fin ho9 hk9 hd9 (r' := (atomT T (NT T D n)) s) (by rw [atom_name HV5.out.1 HV1.out HV2.out (fun h => by rw [HI.out] at h; cases h.1) HV4.out HV5.out.2]; exact Eqv.refl _))
              clear hk9 ho9 hd9
              go_wp2_with fail
              go_ret
              exact HQ.out
            · rw [decide_eq_false hc5]
              have HV5 := Lib.hid hc5; clear hc5 hk
              go_wp2_with fail
              refine (HK.out.fail 22 (by decide)).mono ?_
              rintro e w9 ⟨v9, N9, vn9, rfl, hk9, ho9, hd9⟩
              have HQ := Lib.hid (KX.fin ho9 hk9 hd9 (r' := (atomT T (NT T D n)) s) (atom_none HV1.out HV2.out (fun h => by rw [HI.out] at h; cases h.1) HV4.out HV5.out))
              clear hk9 ho9 hd9
              go_wp2_with fail
              go_ret
              exact HQ.out
          · skip
            go_wp2_with fail
            refine (HK.out.sub HSG.out HV4.out).mono ?_
            rintro e w9 ⟨v9, N9, vn9, rfl, hk9, ho9, hd9⟩
            have HQ := Lib.hid (KX.fin ho9 hk9 hd9 (r' := (atomT T (NT T D n)) s) (by rw [atom_grp HV1.out HV2.out (fun h => by rw [HI.out] at h; cases h.1) HV4.out]; exact Eqv.refl _))
            clear hk9 ho9 hd9
            go_wp2_with fail
            go_ret
            exact HQ.out
        · skip
          have HLI := Lib.hid (is_kind HV3.out)
          go_wp2_with fail
          have HKD := HK
          have HK := Lib.hid HK.out.drew
          go_region_held3 (fun w' => w'.cell? ⟨b, 0, none⟩ = some (.pointer (some ⟨bb, 0, none⟩))) (first | with_reducible exact HK.out.cell | with_reducible exact (HK.out.alloc _).cell | with_reducible exact (HKD.out.alloc _).drew.cell | with_reducible exact ((HK.out.alloc _).alloc _).cell | with_reducible exact ((HKD.out.alloc _).alloc _).drew.cell | with_reducible exact (((HK.out.alloc _).alloc _).alloc _).cell)
            (first
              | (go_at_call 81; (first | with_reducible refine (HK.out.take HCC.out HLI.out.1 HLI.out.2).mono ?_ | with_reducible refine ((HK.out.strs1 _ _).take HCC.out HLI.out.1 HLI.out.2).mono ?_ | with_reducible refine ((HKD.out.strs1 _ _).drew.take HCC.out HLI.out.1 HLI.out.2).mono ?_ | with_reducible refine (((HK.out.strs1 _ _).strs1 _ _).take HCC.out HLI.out.1 HLI.out.2).mono ?_ | with_reducible refine (((HKD.out.strs1 _ _).strs1 _ _).drew.take HCC.out HLI.out.1 HLI.out.2).mono ?_); rintro e w9 ⟨v9, N9, vn9, rfl, hk9, ho9, hd9⟩; have HK := Lib.hid hk9; have HD := Lib.hid (OutD.app HA.out ho9 hd9); have HA := Lib.hid HD.out.out; clear hk9 ho9 hd9)
              | (go_at_call 52; have HDW := Lib.hid (HD.out.weak (j := 0 + 1) (by decide)); refine (KX.node (k := 0) (kind := 17) (HK.out.ints1 _ ) ?_ HCC.out.len HDW.out ?_ HFEW.out ?_).mono ?_; exact List.mem_cons_self ..; rfl; simp; rintro e w9 ⟨v9, N9, vn9, rfl, hk9, ho9⟩; have HK := Lib.hid hk9; have HZ := Lib.hid ho9; clear hk9 ho9))
          all_goals
            have HQ := Lib.hid (KX.fin HZ.out HK.out (fun he => absurd HLI.out.2 he) (r' := (atomT T (NT T D n)) s) (by rw [atom_res HLI.out.2 HV1.out HV2.out ⟨HI.out, HV3.out⟩]; exact Eqv.refl _))
            go_wp2_with fail
            go_ret
            exact HQ.out
    · skip
      have HLI := Lib.hid (show (tokQ T s).kind ≠ 5 ∧ s.e = 0 from (by have h9 := HV2.out; rcases Bool.or_eq_true_iff.1 h9 with h | h <;> exact is_kind h))
      go_wp2_with fail
      have HKD := HK
      have HK := Lib.hid HK.out.drew
      go_region_held3 (fun w' => w'.cell? ⟨b, 0, none⟩ = some (.pointer (some ⟨bb, 0, none⟩))) (first | with_reducible exact HK.out.cell | with_reducible exact (HK.out.alloc _).cell | with_reducible exact (HKD.out.alloc _).drew.cell | with_reducible exact ((HK.out.alloc _).alloc _).cell | with_reducible exact ((HKD.out.alloc _).alloc _).drew.cell | with_reducible exact (((HK.out.alloc _).alloc _).alloc _).cell)
        (first
          | (go_at_call 81; (first | with_reducible refine (HK.out.take HCC.out HLI.out.1 HLI.out.2).mono ?_ | with_reducible refine ((HK.out.strs1 _ _).take HCC.out HLI.out.1 HLI.out.2).mono ?_ | with_reducible refine ((HKD.out.strs1 _ _).drew.take HCC.out HLI.out.1 HLI.out.2).mono ?_ | with_reducible refine (((HK.out.strs1 _ _).strs1 _ _).take HCC.out HLI.out.1 HLI.out.2).mono ?_ | with_reducible refine (((HKD.out.strs1 _ _).strs1 _ _).drew.take HCC.out HLI.out.1 HLI.out.2).mono ?_); rintro e w9 ⟨v9, N9, vn9, rfl, hk9, ho9, hd9⟩; have HK := Lib.hid hk9; have HD := Lib.hid (OutD.app HA.out ho9 hd9); have HA := Lib.hid HD.out.out; clear hk9 ho9 hd9)
          | (go_at_call 52; have HDW := Lib.hid (HD.out.weak (j := 0 + 1) (by decide)); refine (KX.node (k := 0) (kind := 16) (HK.out.ints1 _ ) ?_ HCC.out.len HDW.out ?_ HFEW.out ?_).mono ?_; exact List.mem_cons_self ..; rfl; simp; rintro e w9 ⟨v9, N9, vn9, rfl, hk9, ho9⟩; have HK := Lib.hid hk9; have HZ := Lib.hid ho9; clear hk9 ho9))
      all_goals
        have HQ := Lib.hid (KX.fin HZ.out HK.out (fun he => absurd HLI.out.2 he) (r' := (atomT T (NT T D n)) s) (by rw [atom_truth HV1.out HV2.out HLI.out.2]; exact Eqv.refl _))
        go_wp2_with fail
        go_ret
        exact HQ.out
end
end Go.Proofs.YtoahgeleenpnjaaGreatDoor
