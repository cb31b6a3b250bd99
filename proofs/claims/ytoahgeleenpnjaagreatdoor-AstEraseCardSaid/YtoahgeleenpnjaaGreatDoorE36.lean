/- The program's parser: groups. -/
import Derived.Deep.RegionHeld3
import Derived.Test.YtoahgeleenpnjaaGreatDoorE30
set_option linter.unusedVariables false
set_option linter.unusedSimpArgs false
namespace Go.Proofs.YtoahgeleenpnjaaGreatDoor
open Go.RowKit

section
variable (b bb : Nat) (T : List Tok) (D n : Nat)

set_option maxRecDepth 100000 in
set_option maxHeartbeats 4000000 in
theorem group_p (hC : TokC T) (hD : D ≤ 200) (hn : n ≤ D) (hB : n < D → SubI b bb T D (n + 1) (fun _ => True) 67 (formulaT T D (n + 1) (NT T D (n + 1)))) (hE : n < D → SubI b bb T D (n + 1) (fun s => s.inn = false) 84 (bodyE T D (n + 1) (NT T D (n + 1)))) : SubI b bb T D n (fun s => isQ T [40] s = true) 175 (grpT T (NT T D n)) := by
  intro s N vn A w hP h
  have HCC := Lib.hid hC; have HPP := Lib.hid hP
  have HNB := Lib.hid (nested_formula b bb T D n hD hn (fun _ => True) _ hB)
  have HNE := Lib.hid (nested_expression b bb T D n hD hn (fun s => s.inn = false) _ hE)
  have HXB := Lib.hid (fun (s : St) (N : List Nd) (vn : Value) (A : Nat → Prop) (w : World) (hi : s.inn = true) h => (HNB.out s N vn A w trivial h).mono (fun e w' hp => hp.eqv (form_nest T hn s hi)))
  have HXE := Lib.hid (fun (s : St) (N : List Nd) (vn : Value) (A : Nat → Prop) (w : World) (hi : s.inn = false) h => (HNE.out s N vn A w hi h).mono (fun e w' hp => hp.eqv (expr_nest T hn s hi)))
  have HLI := Lib.hid (is_kind hP)
  have HKS1 : Hid ([41] ∈ KS) := Lib.hid (by decide)
  have HK := Lib.hid (KX.start h)
  have HFEW := Lib.hid h.few
  have HA := Lib.hid (OutL.nil N s)
  have d0 := HK.out.cell
  have d7 := HK.out.innc
  obtain ⟨I, hI⟩ : ∃ I, s.inn = I := ⟨_, rfl⟩
  have HI := Lib.hid hI
  rw [hI] at d7
  clear hI
  clear h hC hP hD hn hB hE
  go_enter Tryz.func175, Tryz.ntmps175
  cases I
  · skip
    go_wp2_with fail
    have HKD := HK
    have HK := Lib.hid HK.out.drew
    go_region_held3 (fun w' => w'.cell? ⟨b, 0, none⟩ = some (.pointer (some ⟨bb, 0, none⟩))) (first | with_reducible exact HK.out.cell | with_reducible exact (HK.out.alloc _).cell | with_reducible exact (HKD.out.alloc _).drew.cell | with_reducible exact ((HK.out.alloc _).alloc _).cell | with_reducible exact ((HKD.out.alloc _).alloc _).drew.cell | with_reducible exact (((HK.out.alloc _).alloc _).alloc _).cell)
      (first
        | (go_at_call 81; (first | with_reducible refine (HK.out.take HCC.out HLI.out.1 HLI.out.2).mono ?_ | with_reducible refine ((HK.out.strs1 _ _).take HCC.out HLI.out.1 HLI.out.2).mono ?_ | with_reducible refine ((HKD.out.strs1 _ _).drew.take HCC.out HLI.out.1 HLI.out.2).mono ?_ | with_reducible refine (((HK.out.strs1 _ _).strs1 _ _).take HCC.out HLI.out.1 HLI.out.2).mono ?_ | with_reducible refine (((HKD.out.strs1 _ _).strs1 _ _).drew.take HCC.out HLI.out.1 HLI.out.2).mono ?_); rintro e w9 ⟨v9, N9, vn9, rfl, hk9, ho9, hd9⟩; have HK := Lib.hid hk9; have HD := Lib.hid (OutD.app HA.out ho9 hd9); have HA := Lib.hid HD.out.out; clear hk9 ho9 hd9)
        | (go_at_call 66; (first | with_reducible refine (HK.out.call (fun A h => HXE.out _ _ _ A _ ((leaf_keep T HLI.out.2).inn.trans HI.out) h)).mono ?_ | with_reducible refine ((HK.out.strs1 _ _).call (fun A h => HXE.out _ _ _ A _ ((leaf_keep T HLI.out.2).inn.trans HI.out) h)).mono ?_ | with_reducible refine ((HKD.out.strs1 _ _).drew.call (fun A h => HXE.out _ _ _ A _ ((leaf_keep T HLI.out.2).inn.trans HI.out) h)).mono ?_ | with_reducible refine (((HK.out.strs1 _ _).strs1 _ _).call (fun A h => HXE.out _ _ _ A _ ((leaf_keep T HLI.out.2).inn.trans HI.out) h)).mono ?_ | with_reducible refine (((HKD.out.strs1 _ _).strs1 _ _).drew.call (fun A h => HXE.out _ _ _ A _ ((leaf_keep T HLI.out.2).inn.trans HI.out) h)).mono ?_); rintro e w9 ⟨v9, N9, vn9, rfl, hk9, ho9, hd9⟩; have HK := Lib.hid hk9; have HD := Lib.hid (OutD.app HA.out ho9 hd9); have HA := Lib.hid HD.out.out; clear hk9 ho9 hd9)
        | (go_at_call 80; (first | with_reducible refine (KX.one1 [41] HK.out HCC.out HKS1.out ?_).mono ?_ | with_reducible refine (KX.one1 [41] (HK.out.strs1 _ _) HCC.out HKS1.out ?_).mono ?_ | with_reducible refine (KX.one1 [41] (HKD.out.strs1 _ _).drew HCC.out HKS1.out ?_).mono ?_ | with_reducible refine (KX.one1 [41] ((HK.out.strs1 _ _).strs1 _ _) HCC.out HKS1.out ?_).mono ?_ | with_reducible refine (KX.one1 [41] ((HKD.out.strs1 _ _).strs1 _ _).drew HCC.out HKS1.out ?_).mono ?_); (first | exact ⟨_, (by first | rfl | simp), List.mem_cons_self ..⟩ | exact ⟨_, (by first | rfl | simp), List.mem_cons_of_mem _ (List.mem_cons_self ..)⟩ | exact ⟨_, (by first | rfl | simp), List.mem_cons_of_mem _ (List.mem_cons_of_mem _ (List.mem_cons_self ..))⟩); rintro e w9 ⟨v9, N9, vn9, rfl, hk9, ho9, hd9⟩; have HK := Lib.hid hk9; have HD := Lib.hid (OutD.app HA.out ho9 hd9); have HA := Lib.hid HD.out.out; clear hk9 ho9 hd9)
        | (go_at_call 52; have HDW := Lib.hid (HD.out.weak (j := 0 + 1) (by decide)); refine (KX.node (k := 0) (kind := 12) (HK.out.ints3 _ _ _ ) ?_ HCC.out.len HDW.out ?_ HFEW.out ?_).mono ?_; exact List.mem_cons_self ..; rfl; simp; rintro e w9 ⟨v9, N9, vn9, rfl, hk9, ho9⟩; have HK := Lib.hid hk9; have HZ := Lib.hid ho9; clear hk9 ho9))
    all_goals
      have HQ := Lib.hid (KX.fin HZ.out HK.out (fun he => absurd HLI.out.2 he) (r' := (grpT T (NT T D n)) s) (Eqv.refl _))
      go_wp2_with fail
      go_ret
      exact HQ.out
  · skip
    go_wp2_with fail
    have HKD := HK
    have HK := Lib.hid HK.out.drew
    go_region_held3 (fun w' => w'.cell? ⟨b, 0, none⟩ = some (.pointer (some ⟨bb, 0, none⟩))) (first | with_reducible exact HK.out.cell | with_reducible exact (HK.out.alloc _).cell | with_reducible exact (HKD.out.alloc _).drew.cell | with_reducible exact ((HK.out.alloc _).alloc _).cell | with_reducible exact ((HKD.out.alloc _).alloc _).drew.cell | with_reducible exact (((HK.out.alloc _).alloc _).alloc _).cell)
      (first
        | (go_at_call 81; (first | with_reducible refine (HK.out.take HCC.out HLI.out.1 HLI.out.2).mono ?_ | with_reducible refine ((HK.out.strs1 _ _).take HCC.out HLI.out.1 HLI.out.2).mono ?_ | with_reducible refine ((HKD.out.strs1 _ _).drew.take HCC.out HLI.out.1 HLI.out.2).mono ?_ | with_reducible refine (((HK.out.strs1 _ _).strs1 _ _).take HCC.out HLI.out.1 HLI.out.2).mono ?_ | with_reducible refine (((HKD.out.strs1 _ _).strs1 _ _).drew.take HCC.out HLI.out.1 HLI.out.2).mono ?_); rintro e w9 ⟨v9, N9, vn9, rfl, hk9, ho9, hd9⟩; have HK := Lib.hid hk9; have HD := Lib.hid (OutD.app HA.out ho9 hd9); have HA := Lib.hid HD.out.out; clear hk9 ho9 hd9)
        | (go_at_call 66; (first | with_reducible refine (HK.out.call (fun A h => HXB.out _ _ _ A _ ((leaf_keep T HLI.out.2).inn.trans HI.out) h)).mono ?_ | with_reducible refine ((HK.out.strs1 _ _).call (fun A h => HXB.out _ _ _ A _ ((leaf_keep T HLI.out.2).inn.trans HI.out) h)).mono ?_ | with_reducible refine ((HKD.out.strs1 _ _).drew.call (fun A h => HXB.out _ _ _ A _ ((leaf_keep T HLI.out.2).inn.trans HI.out) h)).mono ?_ | with_reducible refine (((HK.out.strs1 _ _).strs1 _ _).call (fun A h => HXB.out _ _ _ A _ ((leaf_keep T HLI.out.2).inn.trans HI.out) h)).mono ?_ | with_reducible refine (((HKD.out.strs1 _ _).strs1 _ _).drew.call (fun A h => HXB.out _ _ _ A _ ((leaf_keep T HLI.out.2).inn.trans HI.out) h)).mono ?_); rintro e w9 ⟨v9, N9, vn9, rfl, hk9, ho9, hd9⟩; have HK := Lib.hid hk9; have HD := Lib.hid (OutD.app HA.out ho9 hd9); have HA := Lib.hid HD.out.out; clear hk9 ho9 hd9)
        | (go_at_call 80; (first | with_reducible refine (KX.one1 [41] HK.out HCC.out HKS1.out ?_).mono ?_ | with_reducible refine (KX.one1 [41] (HK.out.strs1 _ _) HCC.out HKS1.out ?_).mono ?_ | with_reducible refine (KX.one1 [41] (HKD.out.strs1 _ _).drew HCC.out HKS1.out ?_).mono ?_ | with_reducible refine (KX.one1 [41] ((HK.out.strs1 _ _).strs1 _ _) HCC.out HKS1.out ?_).mono ?_ | with_reducible refine (KX.one1 [41] ((HKD.out.strs1 _ _).strs1 _ _).drew HCC.out HKS1.out ?_).mono ?_); (first | exact ⟨_, (by first | rfl | simp), List.mem_cons_self ..⟩ | exact ⟨_, (by first | rfl | simp), List.mem_cons_of_mem _ (List.mem_cons_self ..)⟩ | exact ⟨_, (by first | rfl | simp), List.mem_cons_of_mem _ (List.mem_cons_of_mem _ (List.mem_cons_self ..))⟩); rintro e w9 ⟨v9, N9, vn9, rfl, hk9, ho9, hd9⟩; have HK := Lib.hid hk9; have HD := Lib.hid (OutD.app HA.out ho9 hd9); have HA := Lib.hid HD.out.out; clear hk9 ho9 hd9)
        | (go_at_call 52; have HDW := Lib.hid (HD.out.weak (j := 0 + 1) (by decide)); refine (KX.node (k := 0) (kind := 12) (HK.out.ints3 _ _ _ ) ?_ HCC.out.len HDW.out ?_ HFEW.out ?_).mono ?_; exact List.mem_cons_self ..; rfl; simp; rintro e w9 ⟨v9, N9, vn9, rfl, hk9, ho9⟩; have HK := Lib.hid hk9; have HZ := Lib.hid ho9; clear hk9 ho9))
    all_goals
      have HQ := Lib.hid (KX.fin HZ.out HK.out (fun he => absurd HLI.out.2 he) (r' := (grpT T (NT T D n)) s) (Eqv.refl _))
      go_wp2_with fail
      go_ret
      exact HQ.out
end
end Go.Proofs.YtoahgeleenpnjaaGreatDoor
