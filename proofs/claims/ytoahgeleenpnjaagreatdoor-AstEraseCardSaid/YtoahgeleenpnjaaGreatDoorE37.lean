/- The program's parser: factors. -/
import Derived.Deep.RegionHeld3
import Derived.Test.YtoahgeleenpnjaaGreatDoorE28
import Derived.Test.YtoahgeleenpnjaaGreatDoorE29
import Derived.Test.YtoahgeleenpnjaaGreatDoorE33
import Derived.Test.YtoahgeleenpnjaaGreatDoorE34
import Derived.Test.YtoahgeleenpnjaaGreatDoorE35
import Derived.Test.YtoahgeleenpnjaaGreatDoorE36
import Derived.Test.YtoahgeleenpnjaaGreatDoorE3
import Derived.Test.YtoahgeleenpnjaaGreatDoorE26
import Derived.Test.YtoahgeleenpnjaaGreatDoorE8
set_option linter.unusedVariables false
set_option linter.unusedSimpArgs false
namespace Go.Proofs.YtoahgeleenpnjaaGreatDoor
open Go.RowKit

section
variable (b bb : Nat) (T : List Tok) (D n : Nat)

set_option maxRecDepth 100000 in
set_option maxHeartbeats 4000000 in
theorem factor_p (hC : TokC T) (hD : D ≤ 200) (hn : n ≤ D) (hA : SubI b bb T D n (fun _ => True) 174 (atomT T (NT T D n))) (hB : n < D → SubI b bb T D (n + 1) (fun _ => True) 173 (factorT T D (n + 1) (NT T D (n + 1)))) : SubI b bb T D n (fun _ => True) 173 (factorT T D n (NT T D n)) := by
  intro s N vn A w hP h
  have HCC := Lib.hid hC; have HPP := Lib.hid hP
  have HSA := Lib.hid hA
  have HNB := Lib.hid (nested_factor b bb T D n hD hn (fun _ => True) _ hB)
  have HEQ := Lib.hid (fun s hk => sign_eqv T hn (sub := factorT T D (n + 1) (NT T D (n + 1))) (sub' := (NT T D n).factor) (fun hlt => by rw [NT_succ T hlt]) s hk)
  have HK := Lib.hid (KX.start h)
  have HFEW := Lib.hid h.few
  have HA := Lib.hid (OutL.nil N s)
  clear h hC hP hD hn hA hB
  go_enter Tryz.func173, Tryz.ntmps173
  go_wp2_with fail
  refine (KX.at (ws := [[45]]) (HK.out.strs1 _ _) (List.mem_cons_self ..) (by decide)).mono ?_
  rintro e w1 ⟨rfl, hk⟩
  have HK := Lib.hid (hk.nils)
  obtain ⟨b1, hb⟩ : ∃ b1, isQ T [45] s = b1 := ⟨_, rfl⟩
  rw [at_one HCC.out (by decide), hb]
  have HV1 := Lib.hid hb
  clear hk hb
  cases b1
  · skip
    go_wp2_with fail
    refine (HK.out.sub HSA.out trivial).mono ?_
    rintro e w9 ⟨v9, N9, vn9, rfl, hk9, ho9, hd9⟩
    have HQ := Lib.hid (KX.fin ho9 hk9 hd9 (r' := (factorT T D n (NT T D n)) s) (by unfold factorT; rw [if_neg (by rw [HV1.out]; decide)]; exact Eqv.refl _))
    clear hk9 ho9 hd9
    go_wp2_with fail
    go_ret
    exact HQ.out
  · skip
    have HLI := Lib.hid (is_kind HV1.out)
    go_wp2_with fail
    have HK := Lib.hid HK.out.drew
    go_region_held3 (fun w' => w'.cell? ⟨b, 0, none⟩ = some (.pointer (some ⟨bb, 0, none⟩))) (first | with_reducible exact HK.out.cell | with_reducible exact (HK.out.alloc _).cell | with_reducible exact ((HK.out.alloc _).alloc _).cell | with_reducible exact (((HK.out.alloc _).alloc _).alloc _).cell)
      (first
        | (go_at_call 81; (first | with_reducible refine (HK.out.take HCC.out HLI.out.1 HLI.out.2).mono ?_ | with_reducible refine ((HK.out.strs1 _ _).take HCC.out HLI.out.1 HLI.out.2).mono ?_ | with_reducible refine (((HK.out.strs1 _ _).strs1 _ _).take HCC.out HLI.out.1 HLI.out.2).mono ?_); rintro e w9 ⟨v9, N9, vn9, rfl, hk9, ho9, hd9⟩; have HK := Lib.hid hk9; have HD := Lib.hid (OutD.app HA.out ho9 hd9); have HA := Lib.hid HD.out.out; clear hk9 ho9 hd9)
        | (go_at_call 66; (first | with_reducible refine (HK.out.call (fun A h => HNB.out _ _ _ A _ trivial h)).mono ?_ | with_reducible refine ((HK.out.strs1 _ _).call (fun A h => HNB.out _ _ _ A _ trivial h)).mono ?_ | with_reducible refine (((HK.out.strs1 _ _).strs1 _ _).call (fun A h => HNB.out _ _ _ A _ trivial h)).mono ?_); rintro e w9 ⟨v9, N9, vn9, rfl, hk9, ho9, hd9⟩; have HK := Lib.hid hk9; have HD := Lib.hid (OutD.app HA.out ho9 hd9); have HA := Lib.hid HD.out.out; clear hk9 ho9 hd9)
        | (go_at_call 52; have HDW := Lib.hid (HD.out.weak (j := 0 + 1) (by decide)); refine (KX.node (k := 0) (kind := 11) (HK.out.ints2 _ _ ) ?_ HCC.out.len HDW.out ?_ HFEW.out ?_).mono ?_; exact List.mem_cons_self ..; rfl; simp; rintro e w9 ⟨v9, N9, vn9, rfl, hk9, ho9⟩; have HK := Lib.hid hk9; have HZ := Lib.hid ho9; clear hk9 ho9))
    all_goals
      have HQ := Lib.hid (KX.fin HZ.out HK.out (fun he => absurd HLI.out.2 he) (r' := (factorT T D n (NT T D n)) s) (by rw [show factorT T D n (NT T D n) s = signT T D n (NT T D n).factor s from if_pos HV1.out]; exact HEQ.out _ HLI.out.2))
      go_wp2_with fail
      go_ret
      exact HQ.out
end
end Go.Proofs.YtoahgeleenpnjaaGreatDoor
namespace Go.Proofs.YtoahgeleenpnjaaGreatDoor
open Go.RowKit

section
variable (b bb : Nat) (T : List Tok) (D n : Nat)

set_option maxRecDepth 100000 in
set_option maxHeartbeats 4000000 in
theorem negation_p (hC : TokC T) (hD : D ≤ 200) (hn : n ≤ D) (hA : SubI b bb T D n (fun _ => True) 152 (cmpT T D n (NT T D n))) (hB : n < D → SubI b bb T D (n + 1) (fun _ => True) 139 (notT T D (n + 1) (NT T D (n + 1)))) : SubI b bb T D n (fun _ => True) 139 (notT T D n (NT T D n)) := by
  intro s N vn A w hP h
  have HCC := Lib.hid hC; have HPP := Lib.hid hP
  have HSA := Lib.hid hA
  have HNB := Lib.hid (nested_negation b bb T D n hD hn (fun _ => True) _ hB)
  have HEQ := Lib.hid (fun s hk => sign_eqv T hn (sub := notT T D (n + 1) (NT T D (n + 1))) (sub' := (NT T D n).nots) (fun hlt => by rw [NT_succ T hlt]) s hk)
  have HK := Lib.hid (KX.start h)
  have HFEW := Lib.hid h.few
  have HA := Lib.hid (OutL.nil N s)
  clear h hC hP hD hn hA hB
  go_enter Tryz.func139, Tryz.ntmps139
  go_wp2_with fail
  refine (KX.at (ws := [[110, 111, 116]]) (HK.out.strs1 _ _) (List.mem_cons_self ..) (by decide)).mono ?_
  rintro e w1 ⟨rfl, hk⟩
  have HK := Lib.hid (hk.nils)
  obtain ⟨b1, hb⟩ : ∃ b1, isQ T [110, 111, 116] s = b1 := ⟨_, rfl⟩
  rw [at_one HCC.out (by decide), hb]
  have HV1 := Lib.hid hb
  clear hk hb
  cases b1
  · skip
    go_wp2_with fail
    refine (HK.out.sub HSA.out trivial).mono ?_
    rintro e w9 ⟨v9, N9, vn9, rfl, hk9, ho9, hd9⟩
    have HQ := Lib.hid (KX.fin ho9 hk9 hd9 (r' := (notT T D n (NT T D n)) s) (by rw [not_cmp HV1.out]; exact Eqv.refl _))
    clear hk9 ho9 hd9
    go_wp2_with fail
    go_ret
    exact HQ.out
  · skip
    have HLI := Lib.hid (is_kind HV1.out)
    go_wp2_with fail
    have HK := Lib.hid HK.out.drew
    go_region_held3 (fun w' => w'.cell? ⟨b, 0, none⟩ = some (.pointer (some ⟨bb, 0, none⟩))) (first | with_reducible exact HK.out.cell | with_reducible exact (HK.out.alloc _).cell | with_reducible exact ((HK.out.alloc _).alloc _).cell | with_reducible exact (((HK.out.alloc _).alloc _).alloc _).cell)
      (first
        | (go_at_call 81; (first | with_reducible refine (HK.out.take HCC.out HLI.out.1 HLI.out.2).mono ?_ | with_reducible refine ((HK.out.strs1 _ _).take HCC.out HLI.out.1 HLI.out.2).mono ?_ | with_reducible refine (((HK.out.strs1 _ _).strs1 _ _).take HCC.out HLI.out.1 HLI.out.2).mono ?_); rintro e w9 ⟨v9, N9, vn9, rfl, hk9, ho9, hd9⟩; have HK := Lib.hid hk9; have HD := Lib.hid (OutD.app HA.out ho9 hd9); have HA := Lib.hid HD.out.out; clear hk9 ho9 hd9)
        | (go_at_call 66; (first | with_reducible refine (HK.out.call (fun A h => HNB.out _ _ _ A _ trivial h)).mono ?_ | with_reducible refine ((HK.out.strs1 _ _).call (fun A h => HNB.out _ _ _ A _ trivial h)).mono ?_ | with_reducible refine (((HK.out.strs1 _ _).strs1 _ _).call (fun A h => HNB.out _ _ _ A _ trivial h)).mono ?_); rintro e w9 ⟨v9, N9, vn9, rfl, hk9, ho9, hd9⟩; have HK := Lib.hid hk9; have HD := Lib.hid (OutD.app HA.out ho9 hd9); have HA := Lib.hid HD.out.out; clear hk9 ho9 hd9)
        | (go_at_call 52; have HDW := Lib.hid (HD.out.weak (j := 0 + 1) (by decide)); refine (KX.node (k := 0) (kind := 11) (HK.out.ints2 _ _ ) ?_ HCC.out.len HDW.out ?_ HFEW.out ?_).mono ?_; exact List.mem_cons_self ..; rfl; simp; rintro e w9 ⟨v9, N9, vn9, rfl, hk9, ho9⟩; have HK := Lib.hid hk9; have HZ := Lib.hid ho9; clear hk9 ho9))
    all_goals
      have HQ := Lib.hid (KX.fin HZ.out HK.out (fun he => absurd HLI.out.2 he) (r' := (notT T D n (NT T D n)) s) (by rw [show notT T D n (NT T D n) s = signT T D n (NT T D n).nots s from if_pos HV1.out]; exact HEQ.out _ HLI.out.2))
      go_wp2_with fail
      go_ret
      exact HQ.out
end
end Go.Proofs.YtoahgeleenpnjaaGreatDoor
namespace Go.Proofs.YtoahgeleenpnjaaGreatDoor
open Go.RowKit

section
variable (b bb : Nat) (T : List Tok) (D n : Nat)

set_option maxRecDepth 100000 in
set_option maxHeartbeats 4000000 in
theorem formula_p (hC : TokC T) (hD : D ≤ 200) (hn : n ≤ D) (hA : SubI b bb T D n (fun _ => True) 97 (orT T D n (NT T D n))) (hB : n < D → SubI b bb T D (n + 1) (fun _ => True) 67 (formulaT T D (n + 1) (NT T D (n + 1)))) : SubI b bb T D n (fun _ => True) 67 (formulaT T D n (NT T D n)) := by
  intro s N vn A w hP h
  have HCC := Lib.hid hC; have HPP := Lib.hid hP
  have HSA := Lib.hid hA
  have HNB := Lib.hid (nested_formula b bb T D n hD hn (fun _ => True) _ hB)
  have HEQ := Lib.hid (fun s hk => form_eqv T hn (sub := formulaT T D (n + 1) (NT T D (n + 1))) (nt := NT T D n) (fun hlt => by rw [NT_succ T hlt]) s hk)
  have HK := Lib.hid (KX.start h)
  have HFEW := Lib.hid h.few
  have HA := Lib.hid (OutL.nil N s)
  clear h hC hP hD hn hA hB
  go_enter Tryz.func67, Tryz.ntmps67
  go_wp2_with fail
  refine (HK.out.sub HSA.out trivial).mono ?_
  rintro e w9 ⟨v9, N9, vn9, rfl, hk9, ho9, hd9⟩
  have HK := Lib.hid hk9; have HO := Lib.hid ho9; have HA := Lib.hid ho9.out; have HDD := Lib.hid hd9
  clear hk9 ho9 hd9
  go_wp2_with fail
  refine (KX.at (ws := [[61, 62]]) (HK.out.strs1 _ _) (List.mem_cons_self ..) (by decide)).mono ?_
  rintro e w1 ⟨rfl, hk⟩
  have HK := Lib.hid (hk.nils)
  obtain ⟨b1, hb⟩ : ∃ b1, isQ T [61, 62] (orT T D n (NT T D n) s).2 = b1 := ⟨_, rfl⟩
  rw [at_one HCC.out (by decide), hb]
  have HV1 := Lib.hid hb
  clear hk hb
  cases b1
  · have HQ := Lib.hid (KX.fin HO.out HK.out HDD.out (r' := formulaT T D n (NT T D n) s) (by rw [show formulaT T D n (NT T D n) s = orT T D n (NT T D n) s from if_neg (by rw [HV1.out]; decide)]; exact Eqv.refl _))
    go_wp2_with fail
    go_ret
    exact HQ.out
  · skip
    have HLI := Lib.hid (is_kind HV1.out)
    go_wp2_with fail
    have HK := Lib.hid HK.out.drew
    go_region_held3 (fun w' => w'.cell? ⟨b, 0, none⟩ = some (.pointer (some ⟨bb, 0, none⟩))) (first | with_reducible exact HK.out.cell | with_reducible exact (HK.out.alloc _).cell | with_reducible exact ((HK.out.alloc _).alloc _).cell | with_reducible exact (((HK.out.alloc _).alloc _).alloc _).cell)
      (first
        | (go_at_call 81; (first | with_reducible refine (HK.out.take HCC.out HLI.out.1 HLI.out.2).mono ?_ | with_reducible refine ((HK.out.strs1 _ _).take HCC.out HLI.out.1 HLI.out.2).mono ?_ | with_reducible refine (((HK.out.strs1 _ _).strs1 _ _).take HCC.out HLI.out.1 HLI.out.2).mono ?_); rintro e w9 ⟨v9, N9, vn9, rfl, hk9, ho9, hd9⟩; have HK := Lib.hid hk9; have HD := Lib.hid (OutD.app HA.out ho9 hd9); have HA := Lib.hid HD.out.out; clear hk9 ho9 hd9)
        | (go_at_call 66; (first | with_reducible refine (HK.out.call (fun A h => HNB.out _ _ _ A _ trivial h)).mono ?_ | with_reducible refine ((HK.out.strs1 _ _).call (fun A h => HNB.out _ _ _ A _ trivial h)).mono ?_ | with_reducible refine (((HK.out.strs1 _ _).strs1 _ _).call (fun A h => HNB.out _ _ _ A _ trivial h)).mono ?_); rintro e w9 ⟨v9, N9, vn9, rfl, hk9, ho9, hd9⟩; have HK := Lib.hid hk9; have HD := Lib.hid (OutD.app HA.out ho9 hd9); have HA := Lib.hid HD.out.out; clear hk9 ho9 hd9)
        | (go_at_call 52; have HDW := Lib.hid (HD.out.weak (j := 0 + 1) (by decide)); refine (KX.node (k := 0) (kind := 10) (HK.out.ints3 _ _ _ ) ?_ HCC.out.len HDW.out ?_ HFEW.out ?_).mono ?_; exact List.mem_cons_self ..; rfl; simp; rintro e w9 ⟨v9, N9, vn9, rfl, hk9, ho9⟩; have HK := Lib.hid hk9; have HZ := Lib.hid ho9; clear hk9 ho9))
    all_goals
      have HQ := Lib.hid (KX.fin HZ.out HK.out (fun he => absurd HLI.out.2 (HDD.out he)) (r' := (formulaT T D n (NT T D n)) s) (HEQ.out _ HV1.out))
      go_wp2_with fail
      go_ret
      exact HQ.out
end
end Go.Proofs.YtoahgeleenpnjaaGreatDoor
namespace Go.Proofs.YtoahgeleenpnjaaGreatDoor
open Go.RowKit

section
variable (b bb : Nat) (T : List Tok) (D : Nat)

set_option maxRecDepth 100000 in
set_option maxHeartbeats 8000000 in
theorem alone_p (hC : TokC T) (hD : D ≤ 200) (hB : 0 < D → SubI b bb T D 1 (fun _ => True) 67 (formulaT T D 1 (NT T D 1))) (s : St) (N : List Nd) (vn : Value) (A : Nat → Prop) (w : World) (h : XAt w b bb T D 0 s s.i N vn A) :
    Calls Tryz.prog 37 #[.pointer (some ⟨b, 0, none⟩)] w (FinPost b bb T D 18 s (aloneT T (NT T D 0).expr s) N vn A w) := by
  have HCC := Lib.hid hC
  have HXB := Lib.hid (fun (s : St) (N : List Nd) (vn : Value) (A : Nat → Prop) (w : World) (hi : s.inn = true) h => (nested_formula b bb T D 0 hD (Nat.zero_le _) (fun _ => True) _ hB s N vn A w trivial h).mono (fun e w' hp => hp.eqv (form_nest T (Nat.zero_le _) s hi)))
  have HIT : Hid ((setIn true s).inn = true) := Lib.hid rfl
  have HK := Lib.hid (KX.start h)
  have d7 := HK.out.innc
  have d0 := HK.out.cell
  have d10 := HK.out.froz
  have HK : Hid (KX b bb T D 0 A vn w (w.setCell ⟨b, 7, none⟩ (.bool true)) (setIn true s) (setIn true s).i N vn []) := Lib.hid (HK.out.setIn true)
  have HA := Lib.hid (OutL.nil N (setIn true s))
  clear h hC hD hB
  go_enter Tryz.func37, Tryz.ntmps37
  go_wp2_with fail
  clear d7 d0 d10
  generalize (w.setCell ⟨b, 7, none⟩ (.bool true)) = W1 at *
  have HK := Lib.hid HK.out.drew
  go_region_held3 (fun w' => w'.cell? ⟨b, 0, none⟩ = some (.pointer (some ⟨bb, 0, none⟩))) (first | with_reducible exact HK.out.cell | with_reducible exact (HK.out.alloc _).cell)
    (first
      | (go_at_call 52; refine (KX.nodeEnd (kind := 18) (r := aloneT T (NT T D 0).expr s) (HK.out.ints2 _ _) ?_ HCC.out.len HUU.out HFL.out ?_ HRM.out).mono ?_; exact List.mem_cons_self ..; simp; rintro e w9 ⟨x9, N9, vn9, rfl, hk9, hz9⟩; have HK := Lib.hid hk9; have HZ := Lib.hid hz9; clear hk9 hz9)
      | (go_at_call 66; (with_reducible refine (HK.out.call (fun A h => HXB.out _ _ _ A _ HIT.out h)).mono ?_); rintro e w9 ⟨v9, N9, vn9, rfl, hk9, ho9, hd9⟩; have HK := Lib.hid hk9; have HA := Lib.hid (OutL.app HA.out ho9.out hd9); clear hk9 ho9 hd9)
      | (go_at_call 53; have HOK := Lib.hid HK.out.ok; have HRO := Lib.hid HK.out.room; (with_reducible refine (HK.out.endOf HCC.out).mono ?_); rintro e w9 ⟨v8, u9, N8, vn9, rfl, hk9, he9⟩; have HK := Lib.hid hk9; have HFL : Hid (FinL N (aloneT T (NT T D 0).expr s) N8 ([v9] ++ [v8])) := Lib.hid (FinL.of HA.out he9); have HUU : Hid (u9 ≤ T.length) := Lib.hid (by
          have h5 := HOK.out
          by_cases hz : (aloneT T (NT T D 0).expr s).2.e = 0
          · rw [(he9.1 hz).2.2.1]; omega
          · rw [(he9.2 hz).2.2]; omega); have HRM : Hid ((aloneT T (NT T D 0).expr s).2.e = 0 → N8.length + 1 ≤ 2 * u9) := Lib.hid (fun hz => by
          have h6 := HRO.out
          rw [(he9.1 hz).2.2.1, (he9.1 hz).1, List.length_append]; show N9.length + 1 + 1 ≤ _; omega); clear hk9 he9))
  all_goals
    have hx := HK.out.done
    have HQ : Hid (FinPost b bb T D 18 s (aloneT T (NT T D 0).expr s) N vn A w (.returned (.int .i64 x9)) w9) := Lib.hid ⟨x9, u9, _, vn9, rfl, hx.1, hx.2, HUU.out, HZ.out⟩
    clear hx
    go_wp2_with fail
    go_ret
    exact HQ.out

/-- All that is nested by n. -/
structure Subs (n : Nat) : Prop where
  expr : SubI b bb T D n (fun s => s.inn = false) 84 (bodyE T D n (NT T D n))
  formula : SubI b bb T D n (fun _ => True) 67 (formulaT T D n (NT T D n))
  nots : SubI b bb T D n (fun _ => True) 139 (notT T D n (NT T D n))
  factor : SubI b bb T D n (fun _ => True) 173 (factorT T D n (NT T D n))
theorem subs_step (hC : TokC T) (hD : D ≤ 200) {n : Nat} (hn : n ≤ D) (hS : n < D → Subs b bb T D (n + 1)) : Subs b bb T D n := by
  have hpart := part_c b bb T D n hD hn (fun h => (hS h).expr)
  have hgrp := group_p b bb T D n hC hD hn (fun h => (hS h).formula) (fun h => (hS h).expr)
  have hname := named_p b bb T D n hC hpart
  have hatom := atom_p b bb T D n hC hD hn hgrp hname
  have hfac := factor_p b bb T D n hC hD hn hatom (fun h => (hS h).factor)
  have hprod := product_p b bb T D n hC hfac
  have hsum := sum_p b bb T D n hC hprod
  have hcmp := comparison_p b bb T D n hC hsum
  have hneg := negation_p b bb T D n hC hD hn hcmp (fun h => (hS h).nots)
  have hcon := conjunction_p b bb T D n hC hneg
  have hdis := disjunction_p b bb T D n hC hcon
  have hform := formula_p b bb T D n hC hD hn hdis (fun h => (hS h).formula)
  exact ⟨expression_p b bb T D n hC hD hn hform hpart, hform, hneg, hfac⟩
theorem subs_all (hC : TokC T) (hD : D ≤ 200) : ∀ k n, k + n = D → Subs b bb T D n
  | 0, n, h => subs_step b bb T D hC hD (by omega) (fun h2 => by omega)
  | k + 1, n, h => subs_step b bb T D hC hD (by omega) (fun _ => subs_all hC hD k (n + 1) (by omega))
/-- Whole readings. -/
theorem whole_program (hC : TokC T) (hD : D ≤ 200) (s : St) (N : List Nd) (vn : Value) (A : Nat → Prop) (w : World) (hP : s.inn = false) (h : XAt w b bb T D 0 s s.i N vn A) :
    Calls Tryz.prog 24 #[.pointer (some ⟨b, 0, none⟩)] w (FinPost b bb T D 1 s (programT T (NT T D 0).expr s) N vn A w) := by
  have h1 : 0 < D → Subs b bb T D 1 := fun h => subs_all b bb T D hC hD (D - 1) 1 (by omega)
  have hcl := clause_p b bb T D hC hD (fun h => (h1 h).formula)
  exact program_p b bb T D hC (definition_p b bb T D hC hD hcl (fun h => (h1 h).expr)) s N vn A w hP h
theorem whole_alone (hC : TokC T) (hD : D ≤ 200) (s : St) (N : List Nd) (vn : Value) (A : Nat → Prop) (w : World) (h : XAt w b bb T D 0 s s.i N vn A) :
    Calls Tryz.prog 37 #[.pointer (some ⟨b, 0, none⟩)] w (FinPost b bb T D 18 s (aloneT T (NT T D 0).expr s) N vn A w) :=
  alone_p b bb T D hC hD (fun h => (subs_all b bb T D hC hD (D - 1) 1 (by omega)).formula) s N vn A w h
end
end Go.Proofs.YtoahgeleenpnjaaGreatDoor
namespace Go.Proofs.YtoahgeleenpnjaaGreatDoor

theorem tok_of : ∀ (f : Nat) (l : List UInt8) (p : Nat) (t : Tok), t ∈ (lexG f l p).1 → ∃ l' p', t = tokE l' p'
  | 0, l, p, t, h => by simp [lexG] at h
  | f + 1, l, p, t, h => by
    unfold lexG at h
    split at h
    · simp at h
    split at h
    · simp at h; exact ⟨l, p, h⟩
    · rcases List.mem_cons.1 h with rfl | h
      · exact ⟨l, p, rfl⟩
      · exact tok_of f _ _ t h
theorem ks_let : ∀ x ∈ KS, (x.head?.any isLet) = true → keysL.contains x = true := by decide
theorem ks_dig : ∀ x ∈ KS, (x.head?.any isDig) = false := by decide
theorem ks_nil : ([] : List UInt8) ∉ KS := by decide
theorem take_run (p : UInt8 → Bool) (a : UInt8) (r : List UInt8) (h : p a = true) : ((a :: r).take (runN p (a :: r))).head? = some a := by
  have : runN p (a :: r) = runN p r + 1 := by simp [runN, h]
  rw [this]; rfl
theorem first_keys (m : List UInt8) (h : m.take (firstE m).2 ∈ KS) : (firstE m).1 = 2 ∨ (firstE m).1 = 4 := by
  cases m with
  | nil => exact absurd h ks_nil
  | cons a r =>
    rw [firstE_cons] at h ⊢
    by_cases h1 : isLet a = true
    · rw [if_pos h1] at h ⊢
      have hw : inW a = true := by unfold inW; rw [h1]; rfl
      have hh := take_run inW a r hw
      have := ks_let _ h (by simp only [] at hh ⊢; rw [hh]; simpa using h1)
      simp only [] at this ⊢
      rw [if_pos this]; exact .inl rfl
    · rw [if_neg h1] at h ⊢
      by_cases h2 : isDig a = true
      · rw [if_pos h2] at h
        have hh := take_run isDig a r h2
        have := ks_dig _ h
        simp only [] at hh this
        rw [hh] at this
        simp [h2] at this
      · rw [if_neg h2] at h ⊢
        by_cases h3 : 0 < signN (a :: r)
        · rw [if_pos h3]; exact .inr rfl
        · rw [if_neg h3] at h
          exact absurd h ks_nil
theorem short_whole {L : List Tok} {n : Nat} (h : (wholeL L).length ≤ n) (hn : n ≤ 1000000) : Short L := fun t ht => by
  obtain ⟨k, hk⟩ := List.getElem?_of_mem ht
  have h1 := wholeL_next hk
  have h2 := wholeL_take L (k + 1)
  rw [h1, List.length_append, List.length_append] at h2
  omega
theorem tokC_all {l : List UInt8} (h : (allE l).2.1 = 0) (hl : l.length ≤ 30000) : TokC (allE l).1 := by
  have h1 := len_all h
  refine ⟨by omega, short_whole (n := 30000) (by rw [whole_all h]; exact hl) (by omega), (end_all h).1, fun i t ht hk => ?_⟩
  obtain ⟨l', p', rfl⟩ := tok_of _ _ _ t (List.mem_of_getElem? ht)
  exact first_keys _ hk
end Go.Proofs.YtoahgeleenpnjaaGreatDoor
namespace Go.Proofs.YtoahgeleenpnjaaGreatDoor
open Go.RowKit

def DoneFar (l : List Tok) (N : List Nd) (w : World) (e : Ending) (w' : World) : Prop :=
  w.grownBy w' none ∧ ∃ pt ct pn cn K, e = .returned (.agg #[.slice pt l.length ct, .slice pn N.length cn]) ∧ TAt w' pt l ∧ l.length ≤ ct ∧ NodesAt w' pn N K ∧ (l ≠ [] → ∀ a, pt = some a → w.heap.size ≤ a.block) ∧ (N ≠ [] → ∀ a, pn = some a → w.heap.size ≤ a.block) ∧ FarK N K (fun k => w.heap.size ≤ k)

set_option maxRecDepth 100000 in
set_option maxHeartbeats 8000000 in
theorem Done_far (b : Nat) (l : List Tok) (u : Nat) (N : List Nd) (vn : Value) (w : World) (hl : l.length ≤ 100000) (hs : Short l) (hN : N.length ≤ 100000) (hkl : ∀ x ∈ N, x.kids.length ≤ 100000) (h : BldV w b l u N vn) :
    Calls Tryz.prog 48 #[.pointer (some ⟨b, 0, none⟩)] w (DoneFar l N w) := by
  obtain ⟨pt, ct, K, h⟩ := h
  have hbox := h.box
  have HT := Lib.hid (fun W h => ownTokens_c l pt ct W hl hs h)
  have HTA := Lib.hid h.toks
  obtain ⟨pv, cv, e1, hna, -, -, -⟩ := h.own.is
  rw [nds_len] at e1
  have HNA : Hid (NodesAt w pv N K) := Lib.hid ⟨hna, h.kids⟩
  have HLN : Hid (∀ v w' base, OwnG 4 92 w' base v (rowT l) → ∃ p c, v = .slice p l.length c ∧ TAt w' p l ∧ l.length ≤ c ∧ (l ≠ [] → ∀ a, p = some a → base ≤ a.block)) := Lib.hid (fun v w' base ho => by
    obtain ⟨p', c', e, ht, h1, -, h2⟩ := ho.is
    rw [rowT_len] at e h1
    exact ⟨p', c', e, t_of_g ht, h1, fun h0 => h2 (fun h3 => h0 (List.map_eq_nil_iff.1 h3))⟩)
  have HKL := Lib.hid hkl
  obtain ⟨m, hm⟩ : ∃ m, l.length = m := ⟨_, rfl⟩
  obtain ⟨M, hM⟩ : ∃ M, N.length = M := ⟨_, rfl⟩
  have HM := Lib.hid hM; have HLM := Lib.hid hm
  rw [hM] at e1 hN
  rw [hm, e1] at hbox
  rw [hm] at HT
  have HBX := Lib.hid hbox
  obtain ⟨d0, d1, d2, d3⟩ := cells3' hbox
  have hbw := hlt' hbox
  clear hbox hm hM h hna hkl e1 hs
  go_enter Tryz.func48, Tryz.ntmps48
  go_wp2_with fail
  have hR := heap_alloc_new w (.cells #[.slice none 0 0, .slice none 0 0] 26)
  have hgR := World.grownBy_alloc w (.cells #[.slice none 0 0, .slice none 0 0] 26) none
  have hsR : (w.alloc (.cells #[.slice none 0 0, .slice none 0 0] 26)).heap.size = w.heap.size + 1 := by simp
  generalize (w.alloc (.cells #[.slice none 0 0, .slice none 0 0] 26)) = W at *
  obtain ⟨B, hB⟩ : ∃ B, w.heap.size = B := ⟨_, rfl⟩
  have HBW := Lib.hid hB
  rw [hB] at hR hsR hbw ⊢
  have HR := Lib.hid hR; have HGR := Lib.hid hgR; have HSR := Lib.hid hsR
  clear hR hgR hB hsR d0 d1 d2 d3
  go_loopw [3, 11] (fun ov iv wr => ∃ (k : Nat) (K' : Kf), k ≤ M ∧ iv = .int .i64 k ∧ Hid (Nown wr (B + 1) ov (N.take k) K') ∧ Hid (Below (B + 1) W wr)) (fun _ v _ => M - (intOf v).toNat)
  case atStart => exact ⟨0, fun _ => (none, 0), Nat.zero_le _, rfl, Lib.hid ⟨OwnG.nil _ _ _ _, fun i x hx => by simp at hx, fun i x hx => by simp at hx⟩, Lib.hid (Below.refl _ _)⟩
  case round =>
    obtain ⟨k, K', hk, rfl, HO, HB⟩ := hrel
    have HGW : Hid (w.grownBy wr none) := Lib.hid (below_gb (Below.trans2 (Below.gb HGR.out (Nat.le_refl _)) (HB.out.mono (by rw [HBW.out]; omega))))
    have hBr : B + 1 ≤ wr.heap.size := by have := HB.out.size; have := HSR.out; omega
    by_cases hlt : k < M
    · have d1 : decide ((k : Int) < (M : Int)) = true := decide_eq_true (by omega)
      have d1' : decide (k < M) = true := decide_eq_true hlt
      obtain ⟨x, hx⟩ : ∃ x, N[k]? = some x := ⟨N[k]'(by rw [HM.out]; exact hlt), List.getElem?_eq_getElem _⟩
      obtain ⟨g, off, rfl, hgl, c0, c1, c2⟩ := node_at HNA.out hx
      have c0 := HGW.out.cell c0 (by simp)
      have c1 := HGW.out.cell c1 (by simp)
      have c2 := HGW.out.cell c2 (by simp)
      have HKA := Lib.hid (HNA.out.2 k x hx)
      have HTK : Hid (N.take (k + 1) = N.take k ++ [x]) := Lib.hid (by rw [List.take_add_one, hx]; rfl)
      have HTL : Hid ((ndsV K' (N.take k)).length = k) := Lib.hid (by rw [nds_len, List.length_take, HM.out]; omega)
      have HLE : Hid ((ndsV K' (N.take k)).length ≤ 1000000) := Lib.hid (by rw [HTL.out]; omega)
      have HON := Lib.hid (fun W q c h => ownNode_c x.kind x.tok x.kids q c W (HKL.out x (List.mem_of_getElem? hx)) h)
      obtain ⟨xk, hxk⟩ : ∃ xk, x.kind = xk := ⟨_, rfl⟩
      obtain ⟨xt, hxt⟩ : ∃ xt, x.tok = xt := ⟨_, rfl⟩
      obtain ⟨kl, hkl⟩ : ∃ kl, x.kids.length = kl := ⟨_, rfl⟩
      have HXK := Lib.hid hxk; have HXT := Lib.hid hxt; have HXL := Lib.hid hkl
      rw [hxk] at c0 HON
      rw [hxt] at c1 HON
      rw [hkl] at c2 HON
      clear hx hxk hxt hkl
      generalize K k = kk at *
      obtain ⟨kq, kc⟩ := kk
      simp only at c2 HKA
      have hgX := World.grownBy_alloc wr (.cells #[.int .i64 xk, .int .i64 xt, .slice kq kl kc] 93) none
      have HGX := Lib.hid hgX
      have hgw : g < wr.heap.size := Nat.lt_of_lt_of_le hgl HGW.out.size
      clear hgX
      go_wp2_with fail
      refine (HON.out _ kq kc (HKA.out.kept (gb_trans HGW.out HGX.out))).mono ?_
      rintro e w2 ⟨hg2, p2, c2', rfl, hv2, -, hb2⟩
      rw [HXL.out]
      have HV2 := Lib.hid hv2
      have HG2 := Lib.hid (gb_trans HGX.out hg2)
      have HN2 := Lib.hid (HO.out.kept HG2.out)
      have HB2 : Hid (x.kids ≠ [] → ∀ a, p2 = some a → B + 1 ≤ a.block ∧ u3.ownBlock ≠ some a.block) := Lib.hid (fun hn a ha => by
        have h1 := (hb2 hn a ha).1
        simp at h1
        refine ⟨by omega, fun e => ?_⟩
        have h2 := (OwnG.at HO.out.own _ e).2
        omega)
      have HBE := Lib.hid (Below.trans2 HB.out (Below.gb HG2.out hBr))
      have hB2 : B + 1 ≤ w2.heap.size := Nat.le_trans hBr HG2.out.size
      clear hg2 hv2 hb2 HO HB HGX c0 c1 c2
      go_wp2_with (at_builtin; go_loud (refine wpList_appGl (s := 3) (t := 24) (T := 93) (by decide) Tryz.underlying24 infoTN rfl (by omega) rfl _ _ rfl (B + 1) (ndsV K' (N.take k)) [.int .i64 xk, .int .i64 xt, .slice p2 kl c2'] rfl (fun u hu => by simp at hu; rcases hu with rfl | rfl | rfl <;> rfl) u3 rfl (OwnG.kept HN2.out.own (World.grownBy_alloc w2 _ none)) w2.heap.size _ rfl (heap_alloc_new w2 _) rfl HLE.out (by simp; omega) (w2.heap.size + 1) (by simp) ?_))
      intro g9 cap9 w9 hO9 hg9 hl9
      obtain ⟨K9, hN9⟩ := Nown.add (HN2.out.kept (World.grownBy_alloc w2 (.cells #[.int .i64 xk, .int .i64 xt, .slice p2 kl c2'] 93) none)) hg9 (x := x) (p := p2) (c := c2') (by rw [HXK.out, HXT.out, HXL.out]; exact hO9) (HV2.out.kept (World.grownBy_alloc w2 _ none)) HB2.out (hl9.imp id (fun h => by simp; omega))
      rw [← HTK.out] at hN9
      have HN9 := Lib.hid hN9
      have HB9 := Lib.hid ((Below.trans2 HBE.out (Below.gb (World.grownBy_alloc w2 _ none) hB2)).grown hg9 (by simp; omega) (fun k e => (OwnG.at HN2.out.own k e).1))
      rw [HTL.out] at HN9 ⊢
      clear hO9 hg9 hl9 hN9 HN2 HBE
      go_wp2_with fail
      go_roundw
      case rel => exact ⟨k + 1, K9, by omega, by go_num, HN9, HB9⟩
      case measure => (simp [intOf] <;> omega)
    · obtain rfl : k = M := by omega
      rw [List.take_of_length_le (l := N) (i := k) (by rw [HM.out]; exact Nat.le_refl _)] at HO
      obtain ⟨pn, cn, en, hnn, -, -, -⟩ := HO.out.own.is
      rw [nds_len, HM.out] at en
      subst en
      have HNN : Hid (NodesAt wr pn N K') := Lib.hid ⟨hnn, HO.out.kids⟩
      have HPB : Hid (∀ a, pn = some a → k ≠ 0 → B + 1 ≤ a.block) := Lib.hid (fun a ha h0 => by
        obtain ⟨a', h1, h2, -⟩ := OwnG.lt HO.out.own rfl (p := pn) (n := k) (c := cn) (by omega)
        rw [ha] at h1; cases h1; exact h2)
      obtain ⟨d0, d1, d2, d3⟩ := cells3' (bx HGW.out HBX.out)
      have HR1 := Lib.hid ((HB.out.block B (by omega)).trans HR.out)
      clear hnn
      go_wp2_with fail
      refine (HT.out wr (HTA.out.kept HGW.out)).mono ?_
      rintro e w2 ⟨v, rfl, ho, hg⟩
      obtain ⟨p2, c2, rfl, ht2, hc2, hpb2⟩ := HLN.out _ _ _ ho
      have HT2 := Lib.hid ht2; have HC2 := Lib.hid hc2; have HPB2 := Lib.hid hpb2
      have HG2 := Lib.hid hg
      rw [HLM.out]
      have HR2 := Lib.hid (bx hg HR1.out)
      obtain ⟨f0, f1, f2⟩ := cells2 HR2.out
      have HR3 := Lib.hid (set_cells (i := 1) (u := .slice pn k cn) (set_cells (i := 0) (u := .slice p2 m c2) HR2.out))
      have HF3 := Lib.hid ((Fr2.setCell (S := fun k => k = B) (Fr2.refl _ w2) (g := B) (j := 0) rfl (.slice p2 m c2)).setCell (g := B) (j := 1) rfl (.slice pn k cn))
      clear ho ht2 hc2 hpb2 hg d0 d1 d2 d3
      go_wp2_with fail
      obtain ⟨k0, k1, -⟩ := cells2 HR3.out
      refine bodyPost_ret (v := .agg #[.slice p2 m c2, .slice pn k cn]) (by simp [results, Tryz.results48, go_sem, k0, k1]) rfl ⟨Fr2.after (gb_trans HGW.out HG2.out) HF3.out (fun j hj => by rw [HBW.out]; omega), p2, c2, pn, cn, K', by rw [HLM.out, HM.out], HT2.out.keptF HF3.out (fun h0 a ha e => by have := HPB2.out h0 a ha; omega), HC2.out, ⟨?_, fun i x hx => ?_⟩, fun h0 a ha => by have h1 := HPB2.out h0 a ha; have h2 := HBW.out; have h3 := HGW.out.size; omega, fun h0 a ha => by have h1 := HPB.out a ha (fun e0 => h0 (List.length_eq_zero_iff.1 (by rw [HM.out]; exact e0))); have h2 := HBW.out; omega, fun i x hx hn a ha => by have h1 := (HO.out.khi i x hx hn a ha).1; have h2 := HBW.out; omega⟩
      · refine GAt.keptS (HNN.out.1.kept HG2.out) HF3.out fun h0 a ha e => ?_
        have h1 := HPB.out a ha (fun e0 => h0 (List.length_eq_zero_iff.1 (by rw [nds_len, HM.out]; exact e0)))
        omega
      · refine ((HNN.out.2 i x hx).kept HG2.out).keptF HF3.out fun h0 a ha e => ?_
        have h1 := (HO.out.khi i x hx (intsV_ne h0) a ha).1
        omega
end Go.Proofs.YtoahgeleenpnjaaGreatDoor
