/- Lemmas. -/
import Derived.Test.YtddccnpohpaofaaGreatDoorP32
import Derived.Test.YtddccnpohpaofaaGreatDoorP34
set_option linter.unusedVariables false
set_option linter.unusedSimpArgs false
namespace Go.Proofs.YtddccnpohpaofaaGreatDoor
open Go.RowKit

section
variable (b bb : Nat) (T : List Tok) (D : Nat)

set_option maxRecDepth 100000 in
set_option maxHeartbeats 8000000 in
theorem alone_p (hC : TokC T) (hD : D ≤ 200) (hB : 0 < D → SubI b bb T D 1 (fun _ => True) 44 (formulaT T D 1 (NT T D 1))) (s : St) (N : List Nd) (vn : Value) (A : Nat → Prop) (w : World) (h : XAt w b bb T D 0 s s.i N vn A) :
    Calls Tryz.prog 18 #[.pointer (some ⟨b, 0, none⟩)] w (FinPost b bb T D 18 s (aloneT T (NT T D 0).expr s) N vn A w) := by
  have HCC := Lib.hid hC
  have HXB := Lib.hid (fun (s : St) (N : List Nd) (vn : Value) (A : Nat → Prop) (w : World) (hi : s.inn = true) h => (nested_formula b bb T D 0 hD (Nat.zero_le _) (fun _ => True) _ hB s N vn A w trivial h).mono (fun e w' hp => hp.eqv (form_nest T (Nat.zero_le _) s hi)))
  have HIT : Hid ((setIn true s).inn = true) := Lib.hid rfl
  have HK := Lib.hid (KX.start h)
  have d7 := HK.out.innc
  have d0 := HK.out.cell
  have d10 := HK.out.froz
  have HK : Hid (KX b bb T D 0 A vn w (w.setCell ⟨b, 7, none⟩ (.bool true)) (setIn true s) (setIn true s).i N vn []) := Lib.hid (HK.out.setIn true)
  have HA := Lib.hid (OutL.nil N (setIn true s))
  clear h hC hD hB
  go_enter Tryz.func18, Tryz.ntmps18
  go_wp2_with fail
  clear d7 d0 d10
  generalize (w.setCell ⟨b, 7, none⟩ (.bool true)) = W1 at *
  have HK := Lib.hid HK.out.drew
  go_region_held3 (fun w' => w'.cell? ⟨b, 0, none⟩ = some (.pointer (some ⟨bb, 0, none⟩))) (first | with_reducible exact HK.out.cell | with_reducible exact (HK.out.alloc _).cell)
    (first
      | (go_at_call 42; refine (KX.nodeEnd (kind := 18) (r := aloneT T (NT T D 0).expr s) (HK.out.ints2 _ _) ?_ HCC.out.len HUU.out HFL.out ?_ HRM.out).mono ?_; exact List.mem_cons_self ..; simp; rintro e w9 ⟨x9, N9, vn9, rfl, hk9, hz9⟩; have HK := Lib.hid hk9; have HZ := Lib.hid hz9; clear hk9 hz9)
      | (go_at_call 43; (with_reducible refine (HK.out.call (fun A h => HXB.out _ _ _ A _ HIT.out h)).mono ?_); rintro e w9 ⟨v9, N9, vn9, rfl, hk9, ho9, hd9⟩; have HK := Lib.hid hk9; have HA := Lib.hid (OutL.app HA.out ho9.out hd9); clear hk9 ho9 hd9)
      | (go_at_call 45; have HOK := Lib.hid HK.out.ok; have HRO := Lib.hid HK.out.room; (with_reducible refine (HK.out.endOf HCC.out).mono ?_); rintro e w9 ⟨v8, u9, N8, vn9, rfl, hk9, he9⟩; have HK := Lib.hid hk9; have HFL : Hid (FinL N (aloneT T (NT T D 0).expr s) N8 ([v9] ++ [v8])) := Lib.hid (FinL.of HA.out he9); have HUU : Hid (u9 ≤ T.length) := Lib.hid (by
          have h5 := HOK.out
          by_cases hz : (aloneT T (NT T D 0).expr s).2.e = 0
          · rw [(he9.1 hz).2.2.1]; omega
          · rw [(he9.2 hz).2.2]; omega); have HRM : Hid ((aloneT T (NT T D 0).expr s).2.e = 0 → N8.length + 1 ≤ 2 * u9) := Lib.hid (fun hz => by
          have h6 := HRO.out
          rw [(he9.1 hz).2.2.1, (he9.1 hz).1, List.length_append]; show N9.length + 1 + 1 ≤ _; omega); clear hk9 he9))
  all_goals
    have hx := HK.out.done
    have HQ : Hid (FinPost b bb T D 18 s (aloneT T (NT T D 0).expr s) N vn A w (.returned (.int .i64 x9)) w9) := Lib.hid ⟨x9, u9, _, vn9, rfl, hx.1, hx.2, HUU.out, HZ.out⟩
    clear hx
    go_wp2_with fail
    go_ret
    exact HQ.out

/-- All that is nested by n. -/
structure Subs (n : Nat) : Prop where
  expr : SubI b bb T D n (fun s => s.inn = false) 164 (bodyE T D n (NT T D n))
  formula : SubI b bb T D n (fun _ => True) 44 (formulaT T D n (NT T D n))
  nots : SubI b bb T D n (fun _ => True) 125 (notT T D n (NT T D n))
  factor : SubI b bb T D n (fun _ => True) 160 (factorT T D n (NT T D n))
theorem subs_step (hC : TokC T) (hD : D ≤ 200) {n : Nat} (hn : n ≤ D) (hS : n < D → Subs b bb T D (n + 1)) : Subs b bb T D n := by
  have hpart := part_c b bb T D n hD hn (fun h => (hS h).expr)
  have hgrp := group_p b bb T D n hC hD hn (fun h => (hS h).formula) (fun h => (hS h).expr)
  have hname := named_p b bb T D n hC hpart
  have hatom := atom_p b bb T D n hC hD hn hgrp hname
  have hfac := factor_p b bb T D n hC hD hn hatom (fun h => (hS h).factor)
  have hprod := product_p b bb T D n hC hfac
  have hsum := sum_p b bb T D n hC hprod
  have hcmp := comparison_p b bb T D n hC hsum
  have hneg := negation_p b bb T D n hC hD hn hcmp (fun h => (hS h).nots)
  have hcon := conjunction_p b bb T D n hC hneg
  have hdis := disjunction_p b bb T D n hC hcon
  have hform := formula_p b bb T D n hC hD hn hdis (fun h => (hS h).formula)
  exact ⟨expression_p b bb T D n hC hD hn hform hpart, hform, hneg, hfac⟩
theorem subs_all (hC : TokC T) (hD : D ≤ 200) : ∀ k n, k + n = D → Subs b bb T D n
  | 0, n, h => subs_step b bb T D hC hD (by omega) (fun h2 => by omega)
  | k + 1, n, h => subs_step b bb T D hC hD (by omega) (fun _ => subs_all hC hD k (n + 1) (by omega))
theorem whole_alone (hC : TokC T) (hD : D ≤ 200) (s : St) (N : List Nd) (vn : Value) (A : Nat → Prop) (w : World) (h : XAt w b bb T D 0 s s.i N vn A) :
    Calls Tryz.prog 18 #[.pointer (some ⟨b, 0, none⟩)] w (FinPost b bb T D 18 s (aloneT T (NT T D 0).expr s) N vn A w) :=
  alone_p b bb T D hC hD (fun h => (subs_all b bb T D hC hD (D - 1) 1 (by omega)).formula) s N vn A w h
end
end Go.Proofs.YtddccnpohpaofaaGreatDoor
