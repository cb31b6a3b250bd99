/- Lemmas. -/
import Derived.Deep.Upon
import Derived.Test.YtijpelkjeejjfaaGreatDoorP43
set_option linter.unusedVariables false
set_option linter.unusedSimpArgs false
namespace Go.Proofs.YtijpelkjeejjfaaGreatDoor
open Go.RowKit

section
variable (b bb : Nat) (T : List Tok) (D n : Nat)

set_option maxRecDepth 100000 in
set_option maxHeartbeats 4000000 in
theorem atom_p (hC : TokC T) (hD : D ≤ 200) (hn : n ≤ D) (hG : SubI b bb T D n (fun s => isQ T [40] s = true) 167 (grpT T (NT T D n))) (hM : SubI b bb T D n (fun s => s.e = 0 ∧ (tokQ T s).kind = 1) 168 (nameT T (NT T D n))) : SubI b bb T D n (fun _ => True) 166 (atomT T (NT T D n)) := by
  intro s N vn A w hP h
  have HCC := Lib.hid hC; have HPP := Lib.hid hP
  have HSG := Lib.hid hG
  have HSM := Lib.hid hM
  have HK := Lib.hid (KX.start h)
  have HFEW := Lib.hid h.few
  have HA := Lib.hid (OutL.nil N s)
  clear h hC hP hD hn hG hM
  go_enter Tryz.func166, Tryz.ntmps166
  go_wp2_with fail
  refine (HK.out.kind 3).mono ?_
  rintro e w1 ⟨rfl, hk⟩
  have HK := Lib.hid hk
  by_cases hc1 : s.e = 0 ∧ (tokQ T s).kind = 3
  · rw [decide_eq_true hc1]
    have HLI := Lib.hid (show (tokQ T s).kind ≠ 5 ∧ s.e = 0 from ⟨by omega, hc1.1⟩); have HV1 := Lib.hid hc1; clear hc1 hk
    go_wp2_with fail
    have HKD := HK
    have HK := Lib.hid HK.out.drew
    go_region_held3 (fun w' => w'.cell? ⟨b, 0, none⟩ = some (.pointer (some ⟨bb, 0, none⟩))) (first | with_reducible exact HK.out.cell | with_reducible exact (HK.out.alloc _).cell | with_reducible exact (HKD.out.alloc _).drew.cell | with_reducible exact ((HK.out.alloc _).alloc _).cell | with_reducible exact ((HKD.out.alloc _).alloc _).drew.cell | with_reducible exact (((HK.out.alloc _).alloc _).alloc _).cell)
      (first
        | (go_at_call 98; (first | with_reducible refine (HK.out.take HCC.out HLI.out.1 HLI.out.2).mono ?_ | with_reducible refine ((HK.out.strs1 _ _).take HCC.out HLI.out.1 HLI.out.2).mono ?_ | with_reducible refine ((HKD.out.strs1 _ _).drew.take HCC.out HLI.out.1 HLI.out.2).mono ?_ | with_reducible refine (((HK.out.strs1 _ _).strs1 _ _).take HCC.out HLI.out.1 HLI.out.2).mono ?_ | with_reducible refine (((HKD.out.strs1 _ _).strs1 _ _).drew.take HCC.out HLI.out.1 HLI.out.2).mono ?_); rintro e w9 ⟨v9, N9, vn9, rfl, hk9, ho9, hd9⟩; have HK := Lib.hid hk9; have HD := Lib.hid (OutD.app HA.out ho9 hd9); have HA := Lib.hid HD.out.out; clear hk9 ho9 hd9)
        | (go_at_call 67; have HDW := Lib.hid (HD.out.weak (j := 0 + 1) (by decide)); refine (KX.node (k := 0) (kind := 15) (HK.out.ints1 _ ) ?_ HCC.out.len HDW.out ?_ HFEW.out ?_).mono ?_; exact List.mem_cons_self ..; rfl; simp; rintro e w9 ⟨v9, N9, vn9, rfl, hk9, ho9⟩; have HK := Lib.hid hk9; have HZ := Lib.hid ho9; clear hk9 ho9))
    all_goals
      have HQ := Lib.hid (KX.fin HZ.out HK.out (fun he => absurd HLI.out.2 he) (r' := (atomT T (NT T D n)) s) (by rw [atom_num HV1.out]; exact Eqv.refl _))
      go_wp2_with fail
      go_ret
      exact HQ.out
  · rw [decide_eq_false hc1]
    have HV1 := Lib.hid hc1; clear hc1 hk
    go_wp2_with fail
    refine (KX.at (ws := [[116, 114, 117, 101], [102, 97, 108, 115, 101]]) (HK.out.strs2 _ _ _) (List.mem_cons_self ..) (by decide)).mono ?_
    rintro e w2 ⟨rfl, hk⟩
    have HK := Lib.hid hk.nils
    obtain ⟨b2, hb⟩ : ∃ b2, atQ T [[116, 114, 117, 101], [102, 97, 108, 115, 101]] s = b2 := ⟨_, rfl⟩
    rw [hb]
    have HV2 : Hid ((isQ T [116, 114, 117, 101] s || isQ T [102, 97, 108, 115, 101] s) = b2) := Lib.hid (by rw [← hb, at_any HCC.out (by decide)]; simp)
    clear hk hb
    cases b2
    · skip
      have d0 := HK.out.cell; have d7 := HK.out.innc
      go_wp2_with fail
      refine (KX.at (ws := [[114, 101, 115]]) (HK.out.strs1 _ _) (List.mem_cons_self ..) (by decide)).mono ?_
      rintro e w3 ⟨rfl, hk⟩
      have HK := Lib.hid hk.nils
      obtain ⟨b3, hb⟩ : ∃ b3, isQ T [114, 101, 115] s = b3 := ⟨_, rfl⟩
      rw [at_one HCC.out (by decide), hb]
      have HV3 := Lib.hid hb
      clear hk hb d0 d7
      have d7 := HK.out.innc
      obtain ⟨I, hI⟩ : ∃ I, s.inn = I := ⟨_, rfl⟩
      have HI := Lib.hid hI
      rw [hI] at d7
      clear hI
      cases b3
      · skip
        go_wp2_with fail
        refine (KX.at (ws := [[40]]) (HK.out.strs1 _ _) (List.mem_cons_self ..) (by decide)).mono ?_
        rintro e w4 ⟨rfl, hk⟩
        have HK := Lib.hid (hk.nils)
        obtain ⟨b4, hb⟩ : ∃ b4, isQ T [40] s = b4 := ⟨_, rfl⟩
        rw [at_one HCC.out (by decide), hb]
        have HV4 := Lib.hid hb
        clear hk hb
        cases b4
        · skip
          go_wp2_with fail
          refine (HK.out.kind 1).mono ?_
          rintro e w5 ⟨rfl, hk⟩
          have HK := Lib.hid hk
          by_cases hc5 : s.e = 0 ∧ (tokQ T s).kind = 1
          · rw [decide_eq_true hc5]
            have HV5 := Lib.hid hc5; clear hc5 hk
            go_wp2_with fail
            refine (HK.out.sub HSM.out HV5.out).mono ?_
            rintro e w9 ⟨v9, N9, vn9, rfl, hk9, ho9, hd9⟩
            have HQ := Lib.hid (KX.fin ho9 hk9 hd9 (r' := (atomT T (NT T D n)) s) (by rw [atom_name HV5.out.1 HV1.out HV2.out (fun h => by rw [HV3.out] at h; cases h.2) HV4.out HV5.out.2]; exact Eqv.refl _))
            clear hk9 ho9 hd9
            go_wp2_with fail
            go_ret
            exact HQ.out
          · rw [decide_eq_false hc5]
            have HV5 := Lib.hid hc5; clear hc5 hk
            go_wp2_with fail
            refine (HK.out.fail 22 (by decide)).mono ?_
            rintro e w9 ⟨v9, N9, vn9, rfl, hk9, ho9, hd9⟩
            have HQ := Lib.hid (KX.fin ho9 hk9 hd9 (r' := (atomT T (NT T D n)) s) (atom_none HV1.out HV2.out (fun h => by rw [HV3.out] at h; cases h.2) HV4.out HV5.out))
            clear hk9 ho9 hd9
            go_wp2_with fail
            go_ret
            exact HQ.out
        · skip
          go_wp2_with fail
          refine (HK.out.sub HSG.out HV4.out).mono ?_
          rintro e w9 ⟨v9, N9, vn9, rfl, hk9, ho9, hd9⟩
          have HQ := Lib.hid (KX.fin ho9 hk9 hd9 (r' := (atomT T (NT T D n)) s) (by rw [atom_grp HV1.out HV2.out (fun h => by rw [HV3.out] at h; cases h.2) HV4.out]; exact Eqv.refl _))
          clear hk9 ho9 hd9
          go_wp2_with fail
          go_ret
          exact HQ.out
      · cases I
        · skip
          go_wp2_with fail
          refine (KX.at (ws := [[40]]) (HK.out.strs1 _ _) (List.mem_cons_self ..) (by decide)).mono ?_
          rintro e w4 ⟨rfl, hk⟩
          have HK := Lib.hid (hk.nils)
          obtain ⟨b4, hb⟩ : ∃ b4, isQ T [40] s = b4 := ⟨_, rfl⟩
          rw [at_one HCC.out (by decide), hb]
          have HV4 := Lib.hid hb
          clear hk hb
          cases b4
          · skip
            go_wp2_with fail
            refine (HK.out.kind 1).mono ?_
            rintro e w5 ⟨rfl, hk⟩
            have HK := Lib.hid hk
            by_cases hc5 : s.e = 0 ∧ (tokQ T s).kind = 1
            · rw [decide_eq_true hc5]
              have HV5 := Lib.hid hc5; clear hc5 hk
              go_wp2_with fail
              refine (HK.out.sub HSM.out HV5.out).mono ?_
              rintro e w9 ⟨v9, N9, vn9, rfl, hk9, ho9, hd9⟩
              have HQ := Lib.hid (KX.fin ho9 hk9 hd9 (r' := (atomT T (NT T D n)) s) (by rw [atom_name HV5.out.1 HV1.out HV2.out (fun h => by rw [HI.out] at h; cases h.1) HV4.out HV5.out.2]; exact Eqv.refl _))
              clear hk9 ho9 hd9
              go_wp2_with fail
              go_ret
              exact HQ.out
            · rw [decide_eq_false hc5]
              have HV5 := Lib.hid hc5; clear hc5 hk
              go_wp2_with fail
              refine (HK.out.fail 22 (by decide)).mono ?_
              rintro e w9 ⟨v9, N9, vn9, rfl, hk9, ho9, hd9⟩
              have HQ := Lib.hid (KX.fin ho9 hk9 hd9 (r' := (atomT T (NT T D n)) s) (atom_none HV1.out HV2.out (fun h => by rw [HI.out] at h; cases h.1) HV4.out HV5.out))
              clear hk9 ho9 hd9
              go_wp2_with fail
              go_ret
              exact HQ.out
          · skip
            go_wp2_with fail
            refine (HK.out.sub HSG.out HV4.out).mono ?_
            rintro e w9 ⟨v9, N9, vn9, rfl, hk9, ho9, hd9⟩
            have HQ := Lib.hid (KX.fin ho9 hk9 hd9 (r' := (atomT T (NT T D n)) s) (by rw [atom_grp HV1.out HV2.out (fun h => by rw [HI.out] at h; cases h.1) HV4.out]; exact Eqv.refl _))
            clear hk9 ho9 hd9
            go_wp2_with fail
            go_ret
            exact HQ.out
        · skip
          have HLI := Lib.hid (is_kind HV3.out)
          go_wp2_with fail
          have HKD := HK
          have HK := Lib.hid HK.out.drew
          go_region_held3 (fun w' => w'.cell? ⟨b, 0, none⟩ = some (.pointer (some ⟨bb, 0, none⟩))) (first | with_reducible exact HK.out.cell | with_reducible exact (HK.out.alloc _).cell | with_reducible exact (HKD.out.alloc _).drew.cell | with_reducible exact ((HK.out.alloc _).alloc _).cell | with_reducible exact ((HKD.out.alloc _).alloc _).drew.cell | with_reducible exact (((HK.out.alloc _).alloc _).alloc _).cell)
            (first
              | (go_at_call 98; (first | with_reducible refine (HK.out.take HCC.out HLI.out.1 HLI.out.2).mono ?_ | with_reducible refine ((HK.out.strs1 _ _).take HCC.out HLI.out.1 HLI.out.2).mono ?_ | with_reducible refine ((HKD.out.strs1 _ _).drew.take HCC.out HLI.out.1 HLI.out.2).mono ?_ | with_reducible refine (((HK.out.strs1 _ _).strs1 _ _).take HCC.out HLI.out.1 HLI.out.2).mono ?_ | with_reducible refine (((HKD.out.strs1 _ _).strs1 _ _).drew.take HCC.out HLI.out.1 HLI.out.2).mono ?_); rintro e w9 ⟨v9, N9, vn9, rfl, hk9, ho9, hd9⟩; have HK := Lib.hid hk9; have HD := Lib.hid (OutD.app HA.out ho9 hd9); have HA := Lib.hid HD.out.out; clear hk9 ho9 hd9)
              | (go_at_call 67; have HDW := Lib.hid (HD.out.weak (j := 0 + 1) (by decide)); refine (KX.node (k := 0) (kind := 17) (HK.out.ints1 _ ) ?_ HCC.out.len HDW.out ?_ HFEW.out ?_).mono ?_; exact List.mem_cons_self ..; rfl; simp; rintro e w9 ⟨v9, N9, vn9, rfl, hk9, ho9⟩; have HK := Lib.hid hk9; have HZ := Lib.hid ho9; clear hk9 ho9))
          all_goals
            have HQ := Lib.hid (KX.fin HZ.out HK.out (fun he => absurd HLI.out.2 he) (r' := (atomT T (NT T D n)) s) (by rw [atom_res HLI.out.2 HV1.out HV2.out ⟨HI.out, HV3.out⟩]; exact Eqv.refl _))
            go_wp2_with fail
            go_ret
            exact HQ.out
    · skip
      have HLI := Lib.hid (show (tokQ T s).kind ≠ 5 ∧ s.e = 0 from (by have h9 := HV2.out; rcases Bool.or_eq_true_iff.1 h9 with h | h <;> exact is_kind h))
      go_wp2_with fail
      have HKD := HK
      have HK := Lib.hid HK.out.drew
      go_region_held3 (fun w' => w'.cell? ⟨b, 0, none⟩ = some (.pointer (some ⟨bb, 0, none⟩))) (first | with_reducible exact HK.out.cell | with_reducible exact (HK.out.alloc _).cell | with_reducible exact (HKD.out.alloc _).drew.cell | with_reducible exact ((HK.out.alloc _).alloc _).cell | with_reducible exact ((HKD.out.alloc _).alloc _).drew.cell | with_reducible exact (((HK.out.alloc _).alloc _).alloc _).cell)
        (first
          | (go_at_call 98; (first | with_reducible refine (HK.out.take HCC.out HLI.out.1 HLI.out.2).mono ?_ | with_reducible refine ((HK.out.strs1 _ _).take HCC.out HLI.out.1 HLI.out.2).mono ?_ | with_reducible refine ((HKD.out.strs1 _ _).drew.take HCC.out HLI.out.1 HLI.out.2).mono ?_ | with_reducible refine (((HK.out.strs1 _ _).strs1 _ _).take HCC.out HLI.out.1 HLI.out.2).mono ?_ | with_reducible refine (((HKD.out.strs1 _ _).strs1 _ _).drew.take HCC.out HLI.out.1 HLI.out.2).mono ?_); rintro e w9 ⟨v9, N9, vn9, rfl, hk9, ho9, hd9⟩; have HK := Lib.hid hk9; have HD := Lib.hid (OutD.app HA.out ho9 hd9); have HA := Lib.hid HD.out.out; clear hk9 ho9 hd9)
          | (go_at_call 67; have HDW := Lib.hid (HD.out.weak (j := 0 + 1) (by decide)); refine (KX.node (k := 0) (kind := 16) (HK.out.ints1 _ ) ?_ HCC.out.len HDW.out ?_ HFEW.out ?_).mono ?_; exact List.mem_cons_self ..; rfl; simp; rintro e w9 ⟨v9, N9, vn9, rfl, hk9, ho9⟩; have HK := Lib.hid hk9; have HZ := Lib.hid ho9; clear hk9 ho9))
      all_goals
        have HQ := Lib.hid (KX.fin HZ.out HK.out (fun he => absurd HLI.out.2 he) (r' := (atomT T (NT T D n)) s) (by rw [atom_truth HV1.out HV2.out HLI.out.2]; exact Eqv.refl _))
        go_wp2_with fail
        go_ret
        exact HQ.out
end
end Go.Proofs.YtijpelkjeejjfaaGreatDoor
namespace Go.Proofs.YtijpelkjeejjfaaGreatDoor
open Go.RowKit

section
variable (b bb : Nat) (T : List Tok) (D n : Nat)

set_option maxRecDepth 100000 in
set_option maxHeartbeats 4000000 in
theorem group_p (hC : TokC T) (hD : D ≤ 200) (hn : n ≤ D) (hB : n < D → SubI b bb T D (n + 1) (fun _ => True) 69 (formulaT T D (n + 1) (NT T D (n + 1)))) (hE : n < D → SubI b bb T D (n + 1) (fun s => s.inn = false) 169 (bodyE T D (n + 1) (NT T D (n + 1)))) : SubI b bb T D n (fun s => isQ T [40] s = true) 167 (grpT T (NT T D n)) := by
  intro s N vn A w hP h
  have HCC := Lib.hid hC; have HPP := Lib.hid hP
  have HNB := Lib.hid (nested_formula b bb T D n hD hn (fun _ => True) _ hB)
  have HNE := Lib.hid (nested_expression b bb T D n hD hn (fun s => s.inn = false) _ hE)
  have HXB := Lib.hid (fun (s : St) (N : List Nd) (vn : Value) (A : Nat → Prop) (w : World) (hi : s.inn = true) h => (HNB.out s N vn A w trivial h).mono (fun e w' hp => hp.eqv (form_nest T hn s hi)))
  have HXE := Lib.hid (fun (s : St) (N : List Nd) (vn : Value) (A : Nat → Prop) (w : World) (hi : s.inn = false) h => (HNE.out s N vn A w hi h).mono (fun e w' hp => hp.eqv (expr_nest T hn s hi)))
  have HLI := Lib.hid (is_kind hP)
  have HKS1 : Hid ([41] ∈ KS) := Lib.hid (by decide)
  have HK := Lib.hid (KX.start h)
  have HFEW := Lib.hid h.few
  have HA := Lib.hid (OutL.nil N s)
  have d0 := HK.out.cell
  have d7 := HK.out.innc
  obtain ⟨I, hI⟩ : ∃ I, s.inn = I := ⟨_, rfl⟩
  have HI := Lib.hid hI
  rw [hI] at d7
  clear hI
  clear h hC hP hD hn hB hE
  go_enter Tryz.func167, Tryz.ntmps167
  cases I
  · skip
    go_wp2_with fail
    have HKD := HK
    have HK := Lib.hid HK.out.drew
    go_region_held3 (fun w' => w'.cell? ⟨b, 0, none⟩ = some (.pointer (some ⟨bb, 0, none⟩))) (first | with_reducible exact HK.out.cell | with_reducible exact (HK.out.alloc _).cell | with_reducible exact (HKD.out.alloc _).drew.cell | with_reducible exact ((HK.out.alloc _).alloc _).cell | with_reducible exact ((HKD.out.alloc _).alloc _).drew.cell | with_reducible exact (((HK.out.alloc _).alloc _).alloc _).cell)
      (first
        | (go_at_call 98; (first | with_reducible refine (HK.out.take HCC.out HLI.out.1 HLI.out.2).mono ?_ | with_reducible refine ((HK.out.strs1 _ _).take HCC.out HLI.out.1 HLI.out.2).mono ?_ | with_reducible refine ((HKD.out.strs1 _ _).drew.take HCC.out HLI.out.1 HLI.out.2).mono ?_ | with_reducible refine (((HK.out.strs1 _ _).strs1 _ _).take HCC.out HLI.out.1 HLI.out.2).mono ?_ | with_reducible refine (((HKD.out.strs1 _ _).strs1 _ _).drew.take HCC.out HLI.out.1 HLI.out.2).mono ?_); rintro e w9 ⟨v9, N9, vn9, rfl, hk9, ho9, hd9⟩; have HK := Lib.hid hk9; have HD := Lib.hid (OutD.app HA.out ho9 hd9); have HA := Lib.hid HD.out.out; clear hk9 ho9 hd9)
        | (go_at_call 68; (first | with_reducible refine (HK.out.call (fun A h => HXE.out _ _ _ A _ ((leaf_keep T HLI.out.2).inn.trans HI.out) h)).mono ?_ | with_reducible refine ((HK.out.strs1 _ _).call (fun A h => HXE.out _ _ _ A _ ((leaf_keep T HLI.out.2).inn.trans HI.out) h)).mono ?_ | with_reducible refine ((HKD.out.strs1 _ _).drew.call (fun A h => HXE.out _ _ _ A _ ((leaf_keep T HLI.out.2).inn.trans HI.out) h)).mono ?_ | with_reducible refine (((HK.out.strs1 _ _).strs1 _ _).call (fun A h => HXE.out _ _ _ A _ ((leaf_keep T HLI.out.2).inn.trans HI.out) h)).mono ?_ | with_reducible refine (((HKD.out.strs1 _ _).strs1 _ _).drew.call (fun A h => HXE.out _ _ _ A _ ((leaf_keep T HLI.out.2).inn.trans HI.out) h)).mono ?_); rintro e w9 ⟨v9, N9, vn9, rfl, hk9, ho9, hd9⟩; have HK := Lib.hid hk9; have HD := Lib.hid (OutD.app HA.out ho9 hd9); have HA := Lib.hid HD.out.out; clear hk9 ho9 hd9)
        | (go_at_call 170; (first | with_reducible refine (KX.one1 [41] HK.out HCC.out HKS1.out ?_).mono ?_ | with_reducible refine (KX.one1 [41] (HK.out.strs1 _ _) HCC.out HKS1.out ?_).mono ?_ | with_reducible refine (KX.one1 [41] (HKD.out.strs1 _ _).drew HCC.out HKS1.out ?_).mono ?_ | with_reducible refine (KX.one1 [41] ((HK.out.strs1 _ _).strs1 _ _) HCC.out HKS1.out ?_).mono ?_ | with_reducible refine (KX.one1 [41] ((HKD.out.strs1 _ _).strs1 _ _).drew HCC.out HKS1.out ?_).mono ?_); (first | exact ⟨_, (by first | rfl | simp), List.mem_cons_self ..⟩ | exact ⟨_, (by first | rfl | simp), List.mem_cons_of_mem _ (List.mem_cons_self ..)⟩ | exact ⟨_, (by first | rfl | simp), List.mem_cons_of_mem _ (List.mem_cons_of_mem _ (List.mem_cons_self ..))⟩); rintro e w9 ⟨v9, N9, vn9, rfl, hk9, ho9, hd9⟩; have HK := Lib.hid hk9; have HD := Lib.hid (OutD.app HA.out ho9 hd9); have HA := Lib.hid HD.out.out; clear hk9 ho9 hd9)
        | (go_at_call 67; have HDW := Lib.hid (HD.out.weak (j := 0 + 1) (by decide)); refine (KX.node (k := 0) (kind := 12) (HK.out.ints3 _ _ _ ) ?_ HCC.out.len HDW.out ?_ HFEW.out ?_).mono ?_; exact List.mem_cons_self ..; rfl; simp; rintro e w9 ⟨v9, N9, vn9, rfl, hk9, ho9⟩; have HK := Lib.hid hk9; have HZ := Lib.hid ho9; clear hk9 ho9))
    all_goals
      have HQ := Lib.hid (KX.fin HZ.out HK.out (fun he => absurd HLI.out.2 he) (r' := (grpT T (NT T D n)) s) (Eqv.refl _))
      go_wp2_with fail
      go_ret
      exact HQ.out
  · skip
    go_wp2_with fail
    have HKD := HK
    have HK := Lib.hid HK.out.drew
    go_region_held3 (fun w' => w'.cell? ⟨b, 0, none⟩ = some (.pointer (some ⟨bb, 0, none⟩))) (first | with_reducible exact HK.out.cell | with_reducible exact (HK.out.alloc _).cell | with_reducible exact (HKD.out.alloc _).drew.cell | with_reducible exact ((HK.out.alloc _).alloc _).cell | with_reducible exact ((HKD.out.alloc _).alloc _).drew.cell | with_reducible exact (((HK.out.alloc _).alloc _).alloc _).cell)
      (first
        | (go_at_call 98; (first | with_reducible refine (HK.out.take HCC.out HLI.out.1 HLI.out.2).mono ?_ | with_reducible refine ((HK.out.strs1 _ _).take HCC.out HLI.out.1 HLI.out.2).mono ?_ | with_reducible refine ((HKD.out.strs1 _ _).drew.take HCC.out HLI.out.1 HLI.out.2).mono ?_ | with_reducible refine (((HK.out.strs1 _ _).strs1 _ _).take HCC.out HLI.out.1 HLI.out.2).mono ?_ | with_reducible refine (((HKD.out.strs1 _ _).strs1 _ _).drew.take HCC.out HLI.out.1 HLI.out.2).mono ?_); rintro e w9 ⟨v9, N9, vn9, rfl, hk9, ho9, hd9⟩; have HK := Lib.hid hk9; have HD := Lib.hid (OutD.app HA.out ho9 hd9); have HA := Lib.hid HD.out.out; clear hk9 ho9 hd9)
        | (go_at_call 68; (first | with_reducible refine (HK.out.call (fun A h => HXB.out _ _ _ A _ ((leaf_keep T HLI.out.2).inn.trans HI.out) h)).mono ?_ | with_reducible refine ((HK.out.strs1 _ _).call (fun A h => HXB.out _ _ _ A _ ((leaf_keep T HLI.out.2).inn.trans HI.out) h)).mono ?_ | with_reducible refine ((HKD.out.strs1 _ _).drew.call (fun A h => HXB.out _ _ _ A _ ((leaf_keep T HLI.out.2).inn.trans HI.out) h)).mono ?_ | with_reducible refine (((HK.out.strs1 _ _).strs1 _ _).call (fun A h => HXB.out _ _ _ A _ ((leaf_keep T HLI.out.2).inn.trans HI.out) h)).mono ?_ | with_reducible refine (((HKD.out.strs1 _ _).strs1 _ _).drew.call (fun A h => HXB.out _ _ _ A _ ((leaf_keep T HLI.out.2).inn.trans HI.out) h)).mono ?_); rintro e w9 ⟨v9, N9, vn9, rfl, hk9, ho9, hd9⟩; have HK := Lib.hid hk9; have HD := Lib.hid (OutD.app HA.out ho9 hd9); have HA := Lib.hid HD.out.out; clear hk9 ho9 hd9)
        | (go_at_call 170; (first | with_reducible refine (KX.one1 [41] HK.out HCC.out HKS1.out ?_).mono ?_ | with_reducible refine (KX.one1 [41] (HK.out.strs1 _ _) HCC.out HKS1.out ?_).mono ?_ | with_reducible refine (KX.one1 [41] (HKD.out.strs1 _ _).drew HCC.out HKS1.out ?_).mono ?_ | with_reducible refine (KX.one1 [41] ((HK.out.strs1 _ _).strs1 _ _) HCC.out HKS1.out ?_).mono ?_ | with_reducible refine (KX.one1 [41] ((HKD.out.strs1 _ _).strs1 _ _).drew HCC.out HKS1.out ?_).mono ?_); (first | exact ⟨_, (by first | rfl | simp), List.mem_cons_self ..⟩ | exact ⟨_, (by first | rfl | simp), List.mem_cons_of_mem _ (List.mem_cons_self ..)⟩ | exact ⟨_, (by first | rfl | simp), List.mem_cons_of_mem _ (List.mem_cons_of_mem _ (List.mem_cons_self ..))⟩); rintro e w9 ⟨v9, N9, vn9, rfl, hk9, ho9, hd9⟩; have HK := Lib.hid hk9; have HD := Lib.hid (OutD.app HA.out ho9 hd9); have HA := Lib.hid HD.out.out; clear hk9 ho9 hd9)
        | (go_at_call 67; have HDW := Lib.hid (HD.out.weak (j := 0 + 1) (by decide)); refine (KX.node (k := 0) (kind := 12) (HK.out.ints3 _ _ _ ) ?_ HCC.out.len HDW.out ?_ HFEW.out ?_).mono ?_; exact List.mem_cons_self ..; rfl; simp; rintro e w9 ⟨v9, N9, vn9, rfl, hk9, ho9⟩; have HK := Lib.hid hk9; have HZ := Lib.hid ho9; clear hk9 ho9))
    all_goals
      have HQ := Lib.hid (KX.fin HZ.out HK.out (fun he => absurd HLI.out.2 he) (r' := (grpT T (NT T D n)) s) (Eqv.refl _))
      go_wp2_with fail
      go_ret
      exact HQ.out
end
end Go.Proofs.YtijpelkjeejjfaaGreatDoor
namespace Go.Proofs.YtijpelkjeejjfaaGreatDoor
open Go.RowKit

def DoneFar (l : List Tok) (N : List Nd) (w : World) (e : Ending) (w' : World) : Prop :=
  w.grownBy w' none ∧ ∃ pt ct pn cn K, e = .returned (.agg #[.slice pt l.length ct, .slice pn N.length cn]) ∧ TAt w' pt l ∧ l.length ≤ ct ∧ NodesAt w' pn N K ∧ (l ≠ [] → ∀ a, pt = some a → w.heap.size ≤ a.block) ∧ (N ≠ [] → ∀ a, pn = some a → w.heap.size ≤ a.block) ∧ FarK N K (fun k => w.heap.size ≤ k)

set_option maxRecDepth 100000 in
set_option maxHeartbeats 8000000 in
theorem Done_far (b : Nat) (l : List Tok) (u : Nat) (N : List Nd) (vn : Value) (w : World) (hl : l.length ≤ 100000) (hs : Short l) (hN : N.length ≤ 100000) (hkl : ∀ x ∈ N, x.kids.length ≤ 100000) (h : BldV w b l u N vn) :
    Calls Tryz.prog 66 #[.pointer (some ⟨b, 0, none⟩)] w (DoneFar l N w) := by
  obtain ⟨pt, ct, K, h⟩ := h
  have hbox := h.box
  have HT := Lib.hid (fun W h => ownTokens_c l pt ct W hl hs h)
  have HTA := Lib.hid h.toks
  obtain ⟨pv, cv, e1, hna, -, -, -⟩ := h.own.is
  rw [nds_len] at e1
  have HNA : Hid (NodesAt w pv N K) := Lib.hid ⟨hna, h.kids⟩
  have HLN : Hid (∀ v w' base, OwnG 4 128 w' base v (rowT l) → ∃ p c, v = .slice p l.length c ∧ TAt w' p l ∧ l.length ≤ c ∧ (l ≠ [] → ∀ a, p = some a → base ≤ a.block)) := Lib.hid (fun v w' base ho => by
    obtain ⟨p', c', e, ht, h1, -, h2⟩ := ho.is
    rw [rowT_len] at e h1
    exact ⟨p', c', e, t_of_g ht, h1, fun h0 => h2 (fun h3 => h0 (List.map_eq_nil_iff.1 h3))⟩)
  have HKL := Lib.hid hkl
  obtain ⟨m, hm⟩ : ∃ m, l.length = m := ⟨_, rfl⟩
  obtain ⟨M, hM⟩ : ∃ M, N.length = M := ⟨_, rfl⟩
  have HM := Lib.hid hM; have HLM := Lib.hid hm
  rw [hM] at e1 hN
  rw [hm, e1] at hbox
  rw [hm] at HT
  have HBX := Lib.hid hbox
  obtain ⟨d0, d1, d2, d3⟩ := cells3' hbox
  have hbw := hlt' hbox
  clear hbox hm hM h hna hkl e1 hs
  go_enter Tryz.func66, Tryz.ntmps66
  go_wp2_with fail
  have hR := heap_alloc_new w (.cells #[.slice none 0 0, .slice none 0 0] 64)
  have hgR := World.grownBy_alloc w (.cells #[.slice none 0 0, .slice none 0 0] 64) none
  have hsR : (w.alloc (.cells #[.slice none 0 0, .slice none 0 0] 64)).heap.size = w.heap.size + 1 := by simp
  generalize (w.alloc (.cells #[.slice none 0 0, .slice none 0 0] 64)) = W at *
  obtain ⟨B, hB⟩ : ∃ B, w.heap.size = B := ⟨_, rfl⟩
  have HBW := Lib.hid hB
  rw [hB] at hR hsR hbw ⊢
  have HR := Lib.hid hR; have HGR := Lib.hid hgR; have HSR := Lib.hid hsR
  clear hR hgR hB hsR d0 d1 d2 d3
  go_loopw [3, 11] (fun ov iv wr => ∃ (k : Nat) (K' : Kf), k ≤ M ∧ iv = .int .i64 k ∧ Hid (Nown wr (B + 1) ov (N.take k) K') ∧ Hid (Below (B + 1) W wr)) (fun _ v _ => M - (intOf v).toNat)
  case atStart => exact ⟨0, fun _ => (none, 0), Nat.zero_le _, rfl, Lib.hid ⟨OwnG.nil _ _ _ _, fun i x hx => by simp at hx, fun i x hx => by simp at hx⟩, Lib.hid (Below.refl _ _)⟩
  case round =>
    obtain ⟨k, K', hk, rfl, HO, HB⟩ := hrel
    have HGW : Hid (w.grownBy wr none) := Lib.hid (below_gb (Below.trans2 (Below.gb HGR.out (Nat.le_refl _)) (HB.out.mono (by rw [HBW.out]; omega))))
    have hBr : B + 1 ≤ wr.heap.size := by have := HB.out.size; have := HSR.out; omega
    by_cases hlt : k < M
    · have d1 : decide ((k : Int) < (M : Int)) = true := decide_eq_true (by omega)
      have d1' : decide (k < M) = true := decide_eq_true hlt
      obtain ⟨x, hx⟩ : ∃ x, N[k]? = some x := ⟨N[k]'(by rw [HM.out]; exact hlt), List.getElem?_eq_getElem _⟩
      obtain ⟨g, off, rfl, hgl, c0, c1, c2⟩ := node_at HNA.out hx
      have c0 := HGW.out.cell c0 (by simp)
      have c1 := HGW.out.cell c1 (by simp)
      have c2 := HGW.out.cell c2 (by simp)
      have HKA := Lib.hid (HNA.out.2 k x hx)
      have HTK : Hid (N.take (k + 1) = N.take k ++ [x]) := Lib.hid (by rw [List.take_add_one, hx]; rfl)
      have HTL : Hid ((ndsV K' (N.take k)).length = k) := Lib.hid (by rw [nds_len, List.length_take, HM.out]; omega)
      have HLE : Hid ((ndsV K' (N.take k)).length ≤ 1000000) := Lib.hid (by rw [HTL.out]; omega)
      have HON := Lib.hid (fun W q c h => ownNode_c x.kind x.tok x.kids q c W (HKL.out x (List.mem_of_getElem? hx)) h)
      obtain ⟨xk, hxk⟩ : ∃ xk, x.kind = xk := ⟨_, rfl⟩
      obtain ⟨xt, hxt⟩ : ∃ xt, x.tok = xt := ⟨_, rfl⟩
      obtain ⟨kl, hkl⟩ : ∃ kl, x.kids.length = kl := ⟨_, rfl⟩
      have HXK := Lib.hid hxk; have HXT := Lib.hid hxt; have HXL := Lib.hid hkl
      rw [hxk] at c0 HON
      rw [hxt] at c1 HON
      rw [hkl] at c2 HON
      clear hx hxk hxt hkl
      generalize K k = kk at *
      obtain ⟨kq, kc⟩ := kk
      simp only at c2 HKA
      have hgX := World.grownBy_alloc wr (.cells #[.int .i64 xk, .int .i64 xt, .slice kq kl kc] 139) none
      have HGX := Lib.hid hgX
      have hgw : g < wr.heap.size := Nat.lt_of_lt_of_le hgl HGW.out.size
      clear hgX
      go_wp2_with fail
      refine (HON.out _ kq kc (HKA.out.kept (gb_trans HGW.out HGX.out))).mono ?_
      rintro e w2 ⟨hg2, p2, c2', rfl, hv2, -, hb2⟩
      rw [HXL.out]
      have HV2 := Lib.hid hv2
      have HG2 := Lib.hid (gb_trans HGX.out hg2)
      have HN2 := Lib.hid (HO.out.kept HG2.out)
      have HB2 : Hid (x.kids ≠ [] → ∀ a, p2 = some a → B + 1 ≤ a.block ∧ u3.ownBlock ≠ some a.block) := Lib.hid (fun hn a ha => by
        have h1 := (hb2 hn a ha).1
        simp at h1
        refine ⟨by omega, fun e => ?_⟩
        have h2 := (OwnG.at HO.out.own _ e).2
        omega)
      have HBE := Lib.hid (Below.trans2 HB.out (Below.gb HG2.out hBr))
      have hB2 : B + 1 ≤ w2.heap.size := Nat.le_trans hBr HG2.out.size
      clear hg2 hv2 hb2 HO HB HGX c0 c1 c2
      go_wp2_with (at_builtin; go_loud (refine wpList_appGl (s := 3) (t := 62) (T := 139) (by decide) Tryz.underlying62 infoTN rfl (by omega) rfl _ _ rfl (B + 1) (ndsV K' (N.take k)) [.int .i64 xk, .int .i64 xt, .slice p2 kl c2'] rfl (fun u hu => by simp at hu; rcases hu with rfl | rfl | rfl <;> rfl) u3 rfl (OwnG.kept HN2.out.own (World.grownBy_alloc w2 _ none)) w2.heap.size _ rfl (heap_alloc_new w2 _) rfl HLE.out (by simp; omega) (w2.heap.size + 1) (by simp) ?_))
      intro g9 cap9 w9 hO9 hg9 hl9
      obtain ⟨K9, hN9⟩ := Nown.add (HN2.out.kept (World.grownBy_alloc w2 (.cells #[.int .i64 xk, .int .i64 xt, .slice p2 kl c2'] 139) none)) hg9 (x := x) (p := p2) (c := c2') (by rw [HXK.out, HXT.out, HXL.out]; exact hO9) (HV2.out.kept (World.grownBy_alloc w2 _ none)) HB2.out (hl9.imp id (fun h => by simp; omega))
      rw [← HTK.out] at hN9
      have HN9 := Lib.hid hN9
      have HB9 := Lib.hid ((Below.trans2 HBE.out (Below.gb (World.grownBy_alloc w2 _ none) hB2)).grown hg9 (by simp; omega) (fun k e => (OwnG.at HN2.out.own k e).1))
      rw [HTL.out] at HN9 ⊢
      clear hO9 hg9 hl9 hN9 HN2 HBE
      go_wp2_with fail
      go_roundw
      case rel => exact ⟨k + 1, K9, by omega, by go_num, HN9, HB9⟩
      case measure => (simp [intOf] <;> omega)
    · obtain rfl : k = M := by omega
      rw [List.take_of_length_le (l := N) (i := k) (by rw [HM.out]; exact Nat.le_refl _)] at HO
      obtain ⟨pn, cn, en, hnn, -, -, -⟩ := HO.out.own.is
      rw [nds_len, HM.out] at en
      subst en
      have HNN : Hid (NodesAt wr pn N K') := Lib.hid ⟨hnn, HO.out.kids⟩
      have HPB : Hid (∀ a, pn = some a → k ≠ 0 → B + 1 ≤ a.block) := Lib.hid (fun a ha h0 => by
        obtain ⟨a', h1, h2, -⟩ := OwnG.lt HO.out.own rfl (p := pn) (n := k) (c := cn) (by omega)
        rw [ha] at h1; cases h1; exact h2)
      obtain ⟨d0, d1, d2, d3⟩ := cells3' (bx HGW.out HBX.out)
      have HR1 := Lib.hid ((HB.out.block B (by omega)).trans HR.out)
      clear hnn
      go_wp2_with fail
      refine (HT.out wr (HTA.out.kept HGW.out)).mono ?_
      rintro e w2 ⟨v, rfl, ho, hg⟩
      obtain ⟨p2, c2, rfl, ht2, hc2, hpb2⟩ := HLN.out _ _ _ ho
      have HT2 := Lib.hid ht2; have HC2 := Lib.hid hc2; have HPB2 := Lib.hid hpb2
      have HG2 := Lib.hid hg
      rw [HLM.out]
      have HR2 := Lib.hid (bx hg HR1.out)
      obtain ⟨f0, f1, f2⟩ := cells2 HR2.out
      have HR3 := Lib.hid (set_cells (i := 1) (u := .slice pn k cn) (set_cells (i := 0) (u := .slice p2 m c2) HR2.out))
      have HF3 := Lib.hid ((Fr2.setCell (S := fun k => k = B) (Fr2.refl _ w2) (g := B) (j := 0) rfl (.slice p2 m c2)).setCell (g := B) (j := 1) rfl (.slice pn k cn))
      clear ho ht2 hc2 hpb2 hg d0 d1 d2 d3
      go_wp2_with fail
      obtain ⟨k0, k1, -⟩ := cells2 HR3.out
      refine bodyPost_ret (v := .agg #[.slice p2 m c2, .slice pn k cn]) (by simp [results, Tryz.results66, go_sem, k0, k1]) rfl ⟨Fr2.after (gb_trans HGW.out HG2.out) HF3.out (fun j hj => by rw [HBW.out]; omega), p2, c2, pn, cn, K', by rw [HLM.out, HM.out], HT2.out.keptF HF3.out (fun h0 a ha e => by have := HPB2.out h0 a ha; omega), HC2.out, ⟨?_, fun i x hx => ?_⟩, fun h0 a ha => by have h1 := HPB2.out h0 a ha; have h2 := HBW.out; have h3 := HGW.out.size; omega, fun h0 a ha => by have h1 := HPB.out a ha (fun e0 => h0 (List.length_eq_zero_iff.1 (by rw [HM.out]; exact e0))); have h2 := HBW.out; omega, fun i x hx hn a ha => by have h1 := (HO.out.khi i x hx hn a ha).1; have h2 := HBW.out; omega⟩
      · refine GAt.keptS (HNN.out.1.kept HG2.out) HF3.out fun h0 a ha e => ?_
        have h1 := HPB.out a ha (fun e0 => h0 (List.length_eq_zero_iff.1 (by rw [nds_len, HM.out]; exact e0)))
        omega
      · refine ((HNN.out.2 i x hx).kept HG2.out).keptF HF3.out fun h0 a ha e => ?_
        have h1 := (HO.out.khi i x hx (intsV_ne h0) a ha).1
        omega

theorem OwnG.takeS {s c : Nat} {T : TypeId} {w : World} {B : Nat} {p : Option Addr} {l1 : List (List Value)} : ∀ (l2 : List (List Value)) (n : Nat), OwnG s T w B (.slice p n c) (l1 ++ l2) → OwnG s T w B (.slice p l1.length c) l1 := by
  intro l2
  obtain ⟨m, hm⟩ : ∃ m, l2.length = m := ⟨_, rfl⟩
  induction m generalizing l2 with
  | zero =>
    intro n h
    have := List.eq_nil_of_length_eq_zero hm
    subst this
    rw [List.append_nil] at h
    obtain ⟨p', c', e, -⟩ := h.is
    injection e with e1 e2 e3
    rw [← e2]; exact h
  | succ m ih =>
    intro n h
    rcases list_lastS l2 with rfl | ⟨l3, x, rfl⟩
    · simp at hm
    rw [← List.append_assoc] at h
    exact ih l3 (by simpa using hm) _ h.popS.2.1
/-- What lies in a stack's rows. -/
def StkAt (B : Nat) (w : World) (v : Value) (o : List Sx) (rows : List (List Value)) : Prop :=
  OwnG 8 31 w B v rows ∧ LsS (fun k => B ≤ k ∧ k < w.heap.size ∧ v.ownBlock ≠ some k) w o rows ∧ B ≤ w.heap.size
theorem StkAt.kept {B : Nat} {w w' : World} {v : Value} {o : List Sx} {rows : List (List Value)} (h : StkAt B w v o rows) (hg : w.grownBy w' none) : StkAt B w' v o rows :=
  ⟨h.1.kept hg, LsS.mono (fun k hk => ⟨hk.1, Nat.lt_of_lt_of_le hk.2.1 hg.size, hk.2.2⟩) (h.2.1.kept hg), Nat.le_trans h.2.2 hg.size⟩
theorem SAt.eight {F : Nat → Prop} {w : World} {x : Sx} {q : List Value} (h : SAt F w x q) : (∃ a0 a1 a2 a3 a4 a5 a6 a7, q = [a0, a1, a2, a3, a4, a5, a6, a7]) ∧ ∀ u ∈ q, u.oneCell' = true := by
  cases x with
  | mk op nm md nu ys ks ps =>
    simp only [SAt] at h
    obtain ⟨s, pw, nw, cw, pk, ck, rows, rfl, -⟩ := h
    refine ⟨⟨_, _, _, _, _, _, _, _, rfl⟩, fun u hu => ?_⟩
    simp only [List.mem_cons, List.not_mem_nil, or_false] at hu
    rcases hu with rfl | rfl | rfl | rfl | rfl | rfl | rfl | rfl <;> rfl
theorem LsS.split {F : Nat → Prop} {w : World} : ∀ {l1 l2 : List Sx} {r : List (List Value)}, LsS F w (l1 ++ l2) r → ∃ r1 r2, r = r1 ++ r2 ∧ LsS F w l1 r1 ∧ LsS F w l2 r2
  | [], l2, r, h => ⟨[], r, rfl, LsS.nil, h⟩
  | x :: l1, l2, r, h => by
    simp only [List.cons_append, LsS] at h
    obtain ⟨q, r', rfl, h1, h2⟩ := h
    obtain ⟨r1, r2, rfl, h3, h4⟩ := LsS.split h2
    exact ⟨q :: r1, r2, rfl, by simp only [LsS]; exact ⟨q, r1, rfl, h1, h3⟩, h4⟩
/-- An expression put together of what was taken off the stack: its kids' row lies in memory of its own. -/
theorem made_at {B : Nat} {w : World} {v : Value} {o : List Sx} {rows : List (List Value)} {op : Int} {nm md : List UInt8} {nu : Int} {ys : Bool} {s : Bool} {pw pk : Option Addr} {nw cw nk ck B2 : Nat} {F : Nat → Prop}
    (hi : Zd.IsInt w (.agg #[.bool s, .slice pw nw cw]) nu) (hiF : 0 < nw → ∃ a, pw = some a ∧ F a.block) (hO : OwnG 8 31 w B2 (.slice pk nk ck) rows) (hls : LsS F w o rows) (hF : ∀ k, B2 ≤ k → k < w.heap.size → F k) :
    SAt F w (.mk op nm md nu ys o 0) [.int .i64 op, strV nm, strV md, .bool s, .slice pw nw cw, .bool ys, .slice pk nk ck, .int .i64 0] := by
  obtain ⟨hn, hrow, hblk⟩ := OwnG.rowsU hO
  have hrl := hls.len
  simp only [SAt]
  refine ⟨s, pw, nw, cw, pk, ck, rows, by rw [hn, hrl], hi, hiF, hrow, hls, fun h0 => ?_⟩
  have hne : rows ≠ [] := fun e => by rw [e] at hrl; exact h0 (List.eq_nil_of_length_eq_zero hrl.symm)
  obtain ⟨a, ha, h1, h2⟩ := hblk hne
  rcases hO.1.2 with ⟨e, -⟩ | ⟨g, cap, cur, e, hb, hg, -⟩
  · injection e with e1; rw [ha] at e1; cases e1
  · injection e with e1
    rw [ha] at e1
    injection e1 with e1
    subst e1
    exact ⟨_, ha, hF _ h1 h2, _, _, hg⟩
theorem own_tail {w : World} {B ga n c nd : Nat} {r1 r2 : List (List Value)} (h : OwnG 8 31 w B (.slice (some ⟨ga, 0, none⟩) n c) (r1 ++ r2)) (hd : r1.length = nd) : GAt 8 w (some ⟨ga, nd * 8, none⟩) r2 := by
  have hga : ga < w.heap.size := (h.at ga rfl).2
  refine .inr ⟨ga, nd * 8, rfl, hga, fun j q hj i v hi => ?_⟩
  have := h.cellS (j := nd + j) (i := i) (q := q) (v := v) (by rw [List.getElem?_append_right (by omega), hd, show nd + j - nd = j by omega]; exact hj) hi
  rwa [Nat.add_mul] at this
/-- The stack with one more. -/
theorem StkAt.push {B n n9 c g' cap' H : Nat} {w w' : World} {p : Option Addr} {o1 o2 : List Sx} {r1 r2 : List (List Value)} {x : Sx} {q : List Value} (h : StkAt B w (.slice p n c) (o1 ++ o2) (r1 ++ r2)) (hr : r1.length = o1.length)
    (hx : SAt (fun k => B ≤ k ∧ k < w.heap.size ∧ (Value.slice p n c).ownBlock ≠ some k) w x q) (hO : OwnG 8 31 w' B (.slice (some ⟨g', 0, none⟩) n9 cap') (r1 ++ [q])) (hg : w.grownBy w' (Value.slice p r1.length c).ownBlock) (hH : (Value.slice p r1.length c).ownBlock = some g' ∨ g' = H) (hHw : w.heap.size ≤ H) :
    StkAt B w' (.slice (some ⟨g', 0, none⟩) n9 cap') (o1 ++ [x]) (r1 ++ [q]) := by
  have ho : (Value.slice p r1.length c).ownBlock = (Value.slice p n c).ownBlock := by cases p <;> rfl
  rw [ho] at hg hH
  have hf : Fr2 (fun k => (Value.slice p n c).ownBlock = some k) w w' := Fr2.of hg (fun k e => e)
  have hsz := hg.size
  have hk : ∀ k, (B ≤ k ∧ k < w.heap.size ∧ (Value.slice p n c).ownBlock ≠ some k) → B ≤ k ∧ k < w'.heap.size ∧ (Value.slice (some ⟨g', 0, none⟩) n9 cap').ownBlock ≠ some k := fun k hk => ⟨hk.1, Nat.lt_of_lt_of_le hk.2.1 hsz, fun e => by
    have e : g' = k := Option.some.inj (show some g' = some k from e)
    rcases hH with h2 | h2
    · exact hk.2.2 (by rw [h2, e])
    · have := hk.2.1; omega⟩
  refine ⟨hO, ?_, Nat.le_trans h.2.2 hsz⟩
  obtain ⟨a1, a2, e, h1, h2⟩ := LsS.split h.2.1
  have hl : a1.length = r1.length := by rw [h1.len, hr]
  have ha : a1 = r1 := (List.append_inj e hl.symm).1.symm
  subst ha
  exact LsS.snoc (SAt.mono hk (SAt.same hf (fun k hk e => hk.2.2 e) hx)) (LsS.mono hk (LsS.same hf (fun k hk e => hk.2.2 e) h1))

theorem kids_at {B be nv cv nd nk ck nw cw : Nat} {W1 W5 W7 : World} {pv pk pw : Option Addr} {o1 o2 : List Sx} {r1 r2 : List (List Value)} {op : Int} {nm md : List UInt8} {nu : Int} {s ys : Bool} {sn sm : ByteArray}
    (hsn : (⟨nm.toArray⟩ : ByteArray) = sn) (hsm : (⟨md.toArray⟩ : ByteArray) = sm)
    (hOW : StkAt B W1 (.slice pv nv cv) (o1 ++ o2) (r1 ++ r2)) (hr1 : r1.length = nd) (ho1 : o1.length = nd) (hI : Zd.IsInt W5 (.agg #[.bool s, .slice pw nw cw]) nu) (hIF : 0 < nw → ∃ a, pw = some a ∧ be < a.block ∧ a.block < W5.heap.size)
    (hbe : W5.heap[be]? = some (.cells #[.int .i64 op, .string sn, .string sm, .bool s, .slice pw nw cw, .bool ys, .slice none 0 0, .int .i64 0] 31 (0, 0))) (hz : W1.heap.size = be) (hg5 : W1.grownBy W5 none) (hB : B ≤ be)
    (hO7 : OwnG 8 31 W7 W5.heap.size (.slice pk nk ck) r2) (hg7 : (W5.alloc (.cells #[] 31)).grownBy W7 (some W5.heap.size)) :
    W7.heap[be]? = some (.cells #[.int .i64 op, .string sn, .string sm, .bool s, .slice pw nw cw, .bool ys, .slice none 0 0, .int .i64 0] 31 (0, 0)) ∧
    (W7.setCell ⟨be, 6, none⟩ (.slice pk nk ck)).heap[be]? = some (.cells #[.int .i64 op, .string sn, .string sm, .bool s, .slice pw nw cw, .bool ys, .slice pk nk ck, .int .i64 0] 31 (0, 0)) ∧
    W1.grownBy (W7.setCell ⟨be, 6, none⟩ (.slice pk nk ck)) none ∧ StkAt B (W7.setCell ⟨be, 6, none⟩ (.slice pk nk ck)) (.slice pv nv cv) (o1 ++ o2) (r1 ++ r2) ∧
    SAt (fun k => B ≤ k ∧ k < (W7.setCell ⟨be, 6, none⟩ (.slice pk nk ck)).heap.size ∧ (Value.slice pv nv cv).ownBlock ≠ some k) (W7.setCell ⟨be, 6, none⟩ (.slice pk nk ck)) (.mk op nm md nu ys o2 0) [.int .i64 op, .string sn, .string sm, .bool s, .slice pw nw cw, .bool ys, .slice pk nk ck, .int .i64 0] ∧
    OwnG 8 31 (W7.setCell ⟨be, 6, none⟩ (.slice pk nk ck)) B (.slice pv nd cv) r1 := by
  have hg6 := World.grownBy_alloc W5 (.cells #[] 31) none
  have hg57 : W5.grownBy W7 none := fr_after hg6 (Fr2.of (S := fun k => k = W5.heap.size) hg7 (fun k e => (Option.some.inj (show some W5.heap.size = some k from e)).symm)) (fun i hi => by have hi : i = W5.heap.size := hi; omega)
  have hb7 := bx hg57 hbe
  have hbe5 : be < W5.heap.size := hlt hbe
  have hs8 : (W7.setCell ⟨be, 6, none⟩ (.slice pk nk ck)).heap[be]? = some (.cells #[.int .i64 op, .string sn, .string sm, .bool s, .slice pw nw cw, .bool ys, .slice pk nk ck, .int .i64 0] 31 (0, 0)) := set_cells (i := 6) (u := .slice pk nk ck) hb7
  have hf8 : Fr2 (fun k => k = be) W7 (W7.setCell ⟨be, 6, none⟩ (.slice pk nk ck)) := (Fr2.refl (fun k => k = be) W7).setCell (rfl : (fun k => k = be) be) _
  have hg8 : W1.grownBy (W7.setCell ⟨be, 6, none⟩ (.slice pk nk ck)) none := fr_after (gb_trans hg5 hg57) hf8 (fun i hi => by have hi : i = be := hi; omega)
  have how8 := hOW.kept hg8
  have hsz8 : W7.heap.size ≤ (W7.setCell ⟨be, 6, none⟩ (.slice pk nk ck)).heap.size := hf8.size
  have hsz57 := hg57.size
  have hown : ∀ k, (Value.slice pv nv cv).ownBlock = some k → k < be := fun k e => by have := (OwnG.at hOW.1 k e).2; omega
  refine ⟨hb7, hs8, hg8, how8, ?_, by have := OwnG.takeS r2 _ how8.1; rwa [hr1] at this⟩
  have hx := made_at (B := 0) (v := .slice none 0 0) (F := fun k => B ≤ k ∧ k < (W7.setCell ⟨be, 6, none⟩ (.slice pk nk ck)).heap.size ∧ (Value.slice pv nv cv).ownBlock ≠ some k) (op := op) (nm := nm) (md := md) (nu := nu) (ys := ys) (s := s) (pw := pw) (nw := nw) (cw := cw) (o := o2) (rows := r2)
    (int_sameS (hI.kept hg57) hf8 (fun h0 a ha e => by obtain ⟨a', ha', h1, -⟩ := hIF h0; rw [ha] at ha'; injection ha' with ha'; subst ha'; have e : a.block = be := e; omega))
    (fun h0 => by
      obtain ⟨a, ha, h1, h2⟩ := hIF h0
      exact ⟨a, ha, by omega, by omega, fun e => by have := hown _ e; omega⟩)
    (OwnG.keptF hO7 hf8 (fun k e e2 => by have := (OwnG.at hO7 k e).1; have e2 : k = be := e2; omega))
    (by
      obtain ⟨x1, x2, e, h1, h2⟩ := LsS.split how8.2.1
      have hl : x1.length = r1.length := by rw [h1.len, ho1, hr1]
      have ha : x2 = r2 := (List.append_inj e hl.symm).2.symm
      subst ha
      exact h2)
    (fun k h1 h2 => ⟨by omega, h2, fun e => by have := hown _ e; omega⟩)
  unfold strV at hx
  rw [hsn, hsm] at hx
  exact hx
/-- The stack behind the push. -/
theorem push_fin {B n nd n9 c g' cap' H : Nat} {W W8 Wx w9 : World} {p : Option Addr} {o1 o2 : List Sx} {r1 r2 : List (List Value)} {x : Sx} {q : List Value} (h : StkAt B W8 (.slice p n c) (o1 ++ o2) (r1 ++ r2)) (hr1 : r1.length = nd) (ho1 : o1.length = nd)
    (hx : SAt (fun k => B ≤ k ∧ k < W8.heap.size ∧ (Value.slice p n c).ownBlock ≠ some k) W8 x q) (hgx : W8.grownBy Wx none) (hO : OwnG 8 31 w9 B (.slice (some ⟨g', 0, none⟩) n9 cap') (r1 ++ [q])) (hg : Wx.grownBy w9 (Value.slice p nd c).ownBlock) (hH : (Value.slice p nd c).ownBlock = some g' ∨ g' = H) (hHw : Wx.heap.size ≤ H) (hW : W.grownBy W8 none) (hWB : W.heap.size ≤ B) :
    StkAt B w9 (.slice (some ⟨g', 0, none⟩) n9 cap') (o1 ++ [x]) (r1 ++ [q]) ∧ W.grownBy w9 none := by
  subst hr1
  refine ⟨StkAt.push (h.kept hgx) ho1.symm (SAt.mono (fun k hk => ⟨hk.1, Nat.lt_of_lt_of_le hk.2.1 hgx.size, hk.2.2⟩) (hx.kept hgx)) hO hg hH hHw, ?_⟩
  exact fr_after (gb_trans hW hgx) (Fr2.of (S := fun k => (Value.slice p r1.length c).ownBlock = some k) hg (fun k e => e)) (fun i hi => by
    have e : (Value.slice p n c).ownBlock = some i := by cases p <;> exact hi
    have := (OwnG.at h.1 i e).1; omega)
theorem okSs_app : ∀ {a b : List Sx}, okSs (a ++ b) ↔ okSs a ∧ okSs b
  | [], b => by simp [okSs]
  | x :: a, b => by simp only [List.cons_append, okSs, okSs_app (a := a) (b := b), and_assoc]
theorem numC_lim (c : Cl) : (numC c).natAbs < Zd.Lim := by
  unfold numC
  split
  · exact Zd.parseV_lim _
  · unfold Zd.Lim; exact Nat.pow_pos (by unfold Zd.Bw; omega)
theorem stepC_ok {o : List Sx} {c : Cl} (h : okSs o) (hf : fitsC c = true) : okSs (stepC o c) := by
  unfold stepC
  have h2 := h
  rw [← List.take_append_drop (o.length - takesC c) o] at h2
  have h3 := okSs_app.1 h2
  refine okSs_app.2 ⟨h3.1, ?_⟩
  unfold fitsC at hf
  simp only [Bool.and_eq_true] at hf
  have h4 := of_decide_eq_true hf.1.1
  have h5 := of_decide_eq_true hf.1.2
  simp only [okSs, okS, and_true]
  exact ⟨⟨by omega, by omega, numC_lim c⟩, h3.2⟩
theorem foldC_ok : ∀ (l : List Cl) (o : List Sx), okSs o → l.all fitsC = true → okSs (l.foldl stepC o)
  | [], o, h, _ => h
  | c :: l, o, h, hf => by
    simp only [List.all_cons, Bool.and_eq_true] at hf
    exact foldC_ok l _ (stepC_ok h hf.1) hf.2
theorem stackC_ok {l : List Cl} (h : l.all fitsC = true) : okSs (stackC l) := foldC_ok l [] (by simp [okSs]) h
theorem bothC_ok {l : List Cl} {x : Sx} (h : bothC l = some x) : okS x := by
  unfold bothC at h
  split at h
  · cases h
  · split at h
    · rename_i hf
      have h1 := stackC_ok hf
      rcases list_lastS (stackC l) with ho | ⟨o1, y, ho⟩
      · rw [ho] at h; cases h
      · rw [ho] at h h1
        rw [List.getLast?_append] at h
        have : y = x := by simpa using h
        subst this
        have := (okSs_app.1 h1).2
        simp only [okSs, and_true] at this
        exact this
    · cases h
end Go.Proofs.YtijpelkjeejjfaaGreatDoor
