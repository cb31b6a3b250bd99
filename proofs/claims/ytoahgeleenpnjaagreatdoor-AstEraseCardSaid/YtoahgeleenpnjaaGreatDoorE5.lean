/- What the parser's parts leave as it was; what is nested, as the program goes at it. -/
import Derived.Test.YtoahgeleenpnjaaGreatDoorE4
import Derived.WalkSmall
set_option linter.unusedVariables false
set_option linter.unusedSimpArgs false
namespace Go.Proofs.YtoahgeleenpnjaaGreatDoor

structure Keep (s : St) (r : RT) : Prop where
  inn : r.2.inn = s.inn
  dead : s.e ≠ 0 → r.2 = s
theorem Keep.nil (s : St) : Keep s ([], s) := ⟨rfl, fun _ => rfl⟩
theorem Keep.app {s : St} {a b : RT} (h1 : Keep s a) (h2 : Keep a.2 b) {l : List Tr} : Keep s (l, b.2) := by
  refine ⟨h2.inn.trans h1.inn, fun e => ?_⟩
  have ha := h1.dead e
  show b.2 = s
  rw [h2.dead (by rw [ha]; exact e), ha]
theorem Keep.node {s : St} {a : RT} (h : Keep s a) {l : List Tr} : Keep s (l, a.2) := ⟨h.inn, h.dead⟩

section
variable (T : List Tok)
theorem fail_same {n : Nat} {s : St} (h : s.e ≠ 0) : failQ T n s = s := by unfold failQ; rw [if_neg h]
theorem fail_keep (n : Nat) (s : St) (l : List Tr) : Keep s (l, failQ T n s) := ⟨by show (failQ T n s).inn = s.inn; unfold failQ; split <;> rfl, fun h => fail_same T h⟩
theorem nest_same {D n : Nat} {s : St} (h : s.e ≠ 0) : nestQ T D n s = s := by unfold nestQ; split; exact fail_same T h; rfl
theorem nest_inn (D n : Nat) (s : St) : (nestQ T D n s).inn = s.inn := by unfold nestQ; split; exact (fail_keep T 23 s []).inn; rfl
theorem nest_keep {D n : Nat} {s : St} {r : RT} (h : Keep (nestQ T D n s) r) : Keep s r :=
  ⟨h.inn.trans (nest_inn T D n s), fun e => by have h1 := nest_same T (D := D) (n := n) e; rw [h.dead (by rw [h1]; exact e), h1]⟩
theorem leaf_keep {s : St} (h : s.e = 0) : Keep s (leafT T s) := ⟨by show (leafQ T s).2.inn = s.inn; unfold leafQ; split <;> rfl, fun e => absurd h e⟩
theorem must_keep (x : List UInt8) (s : St) : Keep s (mustT T x s) := by
  unfold mustT; split
  · rename_i h; exact leaf_keep T (is_kind h).2
  · exact fail_keep T 22 s []
theorem kind_keep (k : Nat) (s : St) : Keep s (kindT T k s) := by
  unfold kindT; split
  · rename_i h; exact leaf_keep T h.1
  · exact fail_keep T 22 s []
theorem row_keep {c : St → Bool} {sub : St → RT} (hc : ∀ s, c s = true → s.e = 0) (hs : ∀ s, Keep s (sub s)) {s : St} : ∀ f r, Keep s r → Keep s (rwT T c sub f r)
  | 0, r, h => h
  | f + 1, r, h => by
    unfold rwT
    split
    · rename_i hcc
      exact row_keep hc hs f _ ((h.app (leaf_keep T (hc _ hcc)) (l := [])).app (hs _))
    · exact h
theorem parts_keep {sub : St → RT} (hs : ∀ s, Keep s (sub s)) {s : St} : ∀ f k r, Keep s r → Keep s (partsT T sub f k r)
  | 0, k, r, h => h
  | f + 1, k, r, h => by
    unfold partsT
    split
    · rename_i hcc
      refine parts_keep hs f _ _ ?_
      refine (h.app (leaf_keep T (is_kind hcc).2) (l := [])).app ?_
      show Keep (leafT T r.2).2 _
      split
      · exact (fail_keep T 15 _ []).app (hs _)
      · exact hs _
    · exact h
structure NxK (nt : NxT) : Prop where
  expr : ∀ s, Keep s (nt.expr s)
  formula : ∀ s, Keep s (nt.formula s)
  nots : ∀ s, Keep s (nt.nots s)
  factor : ∀ s, Keep s (nt.factor s)
end

section
variable (T : List Tok) (D n : Nat) {nt : NxT} (h : NxK nt)
include h
theorem args_keep (s : St) : Keep s (argsT T nt s) := parts_keep T h.expr _ _ _ (h.expr s)
omit h in
theorem nameB_keep {s : St} {a : RT} (ha : Keep s a) : Keep s (nameBT T a) := by
  unfold nameBT; split
  · rename_i hc; exact (ha.app (leaf_keep T (is_kind hc).2) (l := [])).app (kind_keep T _ _)
  · exact ha
omit h in
theorem nameC_keep {s : St} {a : RT} (ha : Keep s a) : Keep s (nameCT T a) := ha.app (must_keep T _ _)
theorem nameD_keep {s : St} {a : RT} (ha : Keep s a) : Keep s (nameDT T nt a) := by
  unfold nameDT; split
  · exact ha
  · exact ha.app (args_keep T h _)
omit h in
theorem nameE_keep {s : St} {a : RT} (ha : Keep s a) : Keep s (nameET T a) := ha.app (must_keep T _ _)
theorem name_keep {s : St} (hk : s.e = 0) : Keep s (nameT T nt s) := by
  unfold nameT; split
  · exact (leaf_keep T hk).node
  · exact nameE_keep T (nameD_keep T h (nameC_keep T (nameB_keep T (leaf_keep T hk))))
theorem atom_keep (s : St) : Keep s (atomT T nt s) := by
  unfold atomT
  split
  · exact Keep.nil s
  rename_i he
  have he : s.e = 0 := by omega
  split
  · exact (leaf_keep T he).node
  split
  · exact (leaf_keep T he).node
  split
  · exact (leaf_keep T he).node
  split
  · exact ((leaf_keep T he).app (h.expr _) (l := [])).app (must_keep T _ _)
  split
  · exact name_keep T h he
  · exact fail_keep T 22 s []
omit h in
theorem sign_keep {sub : St → RT} (hs : ∀ s, Keep s (sub s)) {s : St} (hk : s.e = 0) : Keep s (signT T D n sub s) := by
  unfold signT
  simp only []
  split
  · exact (leaf_keep T hk).app (nest_keep T (Keep.nil _))
  · exact (leaf_keep T hk).app (nest_keep T (hs _))
theorem factor_keep (s : St) : Keep s (factorT T D n nt s) := by
  unfold factorT; split
  · rename_i hk; exact sign_keep T D n h.factor (is_kind hk).2
  · exact atom_keep T h s
theorem product_keep (s : St) : Keep s (productT T D n nt s) := row_keep T (fun _ hc => mul_e hc) (factor_keep T D n h) _ _ (factor_keep T D n h s)
theorem sum_keep (s : St) : Keep s (sumT T D n nt s) := row_keep T (fun _ hc => add_e hc) (product_keep T D n h) _ _ (product_keep T D n h s)
theorem not_keep (s : St) : Keep s (notT T D n nt s) := by
  unfold notT
  simp only []
  split
  · rename_i hk; exact sign_keep T D n h.nots (is_kind hk).2
  split
  · rename_i hk; exact ((sum_keep T D n h s).app (leaf_keep T (cmp_e hk)) (l := [])).app (sum_keep T D n h _)
  · exact sum_keep T D n h s
theorem and_keep (s : St) : Keep s (andT T D n nt s) := row_keep T (fun _ hc => (is_kind hc).2) (not_keep T D n h) _ _ (not_keep T D n h s)
theorem or_keep (s : St) : Keep s (orT T D n nt s) := row_keep T (fun _ hc => (is_kind hc).2) (and_keep T D n h) _ _ (and_keep T D n h s)
theorem formula_keep (s : St) : Keep s (formulaT T D n nt s) := by
  unfold formulaT
  simp only []
  split
  · rename_i hk
    split
    · exact ((or_keep T D n h s).app (leaf_keep T (is_kind hk).2) (l := [])).app (nest_keep T (Keep.nil _))
    · exact ((or_keep T D n h s).app (leaf_keep T (is_kind hk).2) (l := [])).app (nest_keep T (h.formula _))
  · exact or_keep T D n h s
theorem let_keep {s : St} (hk : s.e = 0) : Keep s (letT T nt s) :=
  (((((leaf_keep T hk).app (kind_keep T _ _) (l := [])).app (must_keep T _ _) (l := [])).app (h.expr _) (l := [])).app (must_keep T _ _) (l := [])).app (h.expr _)
theorem if_keep {s : St} (hk : s.e = 0) : Keep s (ifT T nt s) :=
  (((((leaf_keep T hk).app (h.expr _) (l := [])).app (must_keep T _ _) (l := [])).app (h.expr _) (l := [])).app (must_keep T _ _) (l := [])).app (h.expr _)
theorem assert_keep {s : St} (hk : s.e = 0) : Keep s (assertT T nt s) :=
  (((leaf_keep T hk).app (h.expr _) (l := [])).app (must_keep T _ _) (l := [])).app (h.expr _)
theorem expr_keep (s : St) : Keep s (exprT T D n nt s) := by
  unfold exprT
  simp only []
  split
  · exact nest_keep T (Keep.nil _)
  split
  · rename_i hk; exact nest_keep T (let_keep T h (is_kind hk.2).2)
  split
  · rename_i hk; exact nest_keep T (if_keep T h (is_kind hk.2).2)
  split
  · rename_i hk; exact nest_keep T (assert_keep T h (is_kind hk.2).2)
  · exact nest_keep T (formula_keep T D n h _)
end
theorem nx_keep (T : List Tok) (D : Nat) : ∀ d, NxK (nxT T D d)
  | 0 => ⟨fun s => nest_keep T (Keep.nil _), fun s => Keep.nil s, fun s => Keep.nil s, fun s => Keep.nil s⟩
  | d + 1 => ⟨expr_keep T D _ (nx_keep T D d), formula_keep T D _ (nx_keep T D d), not_keep T D _ (nx_keep T D d), factor_keep T D _ (nx_keep T D d)⟩

/-! ### What is nested -/

/-- What the program reads where nothing but an expression stands: no nesting is counted. -/
def bodyE (T : List Tok) (D n : Nat) (nt : NxT) (s : St) : RT :=
  if isQ T [108, 101, 116] s = true then letT T nt s
  else if isQ T [105, 102] s = true then ifT T nt s
  else if isQ T [97, 115, 115, 101, 114, 116] s = true then assertT T nt s
  else formulaT T D n nt s
theorem body_keep (T : List Tok) (D n : Nat) {nt : NxT} (h : NxK nt) (s : St) : Keep s (bodyE T D n nt s) := by
  unfold bodyE
  split
  · rename_i hk; exact let_keep T h (is_kind hk).2
  split
  · rename_i hk; exact if_keep T h (is_kind hk).2
  split
  · rename_i hk; exact assert_keep T h (is_kind hk).2
  · exact formula_keep T D n h s
/-- All that is nested by more than n. -/
abbrev NT (T : List Tok) (D n : Nat) : NxT := nxT T D (D - n)
def nestP (T : List Tok) (D n : Nat) (sub : St → RT) (s : St) : RT := if n = D then ([], failQ T 23 s) else sub s
theorem NT_succ (T : List Tok) {D n : Nat} (h : n < D) : NT T D n = { expr := exprT T D (n + 1) (NT T D (n + 1)), formula := formulaT T D (n + 1) (NT T D (n + 1)), nots := notT T D (n + 1) (NT T D (n + 1)), factor := factorT T D (n + 1) (NT T D (n + 1)) } := by
  show nxT T D (D - n) = _
  have h1 : D - n = (D - (n + 1)) + 1 := by omega
  have h2 : D - (D - (n + 1)) = n + 1 := by omega
  rw [h1]
  show { expr := exprT T D (D - (D - (n + 1))) _, formula := formulaT T D (D - (D - (n + 1))) _, nots := notT T D (D - (D - (n + 1))) _, factor := factorT T D (D - (D - (n + 1))) _ : NxT } = _
  rw [h2]
theorem nest_deep (T : List Tok) (D : Nat) (s : St) : nestQ T D (D + 1) s = failQ T 23 s := by unfold nestQ; rw [if_pos (by omega)]
theorem nest_flat (T : List Tok) {D n : Nat} (h : n < D) (s : St) : nestQ T D (n + 1) s = s := by unfold nestQ; rw [if_neg (by omega)]
theorem expr_nest (T : List Tok) {D n : Nat} (hn : n ≤ D) (s : St) (hi : s.inn = false) : Eqv (nestP T D n (bodyE T D (n + 1) (NT T D (n + 1))) s) ((NT T D n).expr s) := by
  unfold nestP
  split
  · rename_i h
    subst h
    have : (NT T n n).expr s = ([], nestQ T n (n + 1) s) := by unfold NT; rw [Nat.sub_self]; rfl
    rw [this, nest_deep]; exact Eqv.refl _
  · rename_i h
    have hlt : n < D := by omega
    rw [NT_succ T hlt]
    show Eqv (bodyE T D (n + 1) (NT T D (n + 1)) s) (exprT T D (n + 1) (NT T D (n + 1)) s)
    unfold exprT
    rw [nest_flat T hlt]
    simp only []
    by_cases he : s.e ≠ 0
    · rw [if_pos he]
      exact ⟨(body_keep T D (n + 1) (nx_keep T D _) s).dead he, fun e => absurd e he⟩
    · rw [if_neg he]
      unfold bodyE
      simp only [hi, true_and]
      exact Eqv.refl _
theorem form_nest (T : List Tok) {D n : Nat} (hn : n ≤ D) (s : St) (hi : s.inn = true) : Eqv (nestP T D n (formulaT T D (n + 1) (NT T D (n + 1))) s) ((NT T D n).expr s) := by
  unfold nestP
  split
  · rename_i h
    subst h
    have : (NT T n n).expr s = ([], nestQ T n (n + 1) s) := by unfold NT; rw [Nat.sub_self]; rfl
    rw [this, nest_deep]; exact Eqv.refl _
  · rename_i h
    have hlt : n < D := by omega
    rw [NT_succ T hlt]
    show Eqv (formulaT T D (n + 1) (NT T D (n + 1)) s) (exprT T D (n + 1) (NT T D (n + 1)) s)
    unfold exprT
    rw [nest_flat T hlt]
    simp only []
    by_cases he : s.e ≠ 0
    · rw [if_pos he]
      exact ⟨(formula_keep T D (n + 1) (nx_keep T D _) s).dead he, fun e => absurd e he⟩
    · rw [if_neg he]
      simp only [hi, Bool.true_eq_false, false_and, if_false]
      exact Eqv.refl _
theorem leaf_live (T : List Tok) {s : St} (h : s.e = 0) : (leafT T s).2.e = 0 := by show (leafQ T s).2.e = 0; unfold leafQ; split <;> exact h
/-- A sign, and what is nested behind it. -/
theorem sign_eqv (T : List Tok) {D n : Nat} (hn : n ≤ D) {sub sub' : St → RT} (hs : n < D → sub' = sub) (s : St) (hk : s.e = 0) :
    Eqv ([.nd 11 ((leafT T s).1 ++ (nestP T D n sub (leafT T s).2).1)], (nestP T D n sub (leafT T s).2).2) (signT T D n sub' s) := by
  unfold signT nestP
  simp only []
  by_cases h : n = D
  · subst h
    rw [if_pos rfl, nest_deep, if_pos (fail_e T (by decide) _)]
    exact ⟨rfl, fun e => absurd e (fail_e T (by decide) _)⟩
  · have hlt : n < D := by omega
    rw [if_neg h, nest_flat T hlt, hs hlt, if_neg (by rw [leaf_live T hk]; decide)]
    exact Eqv.refl _
/-- A formula with what is nested behind its sign. -/
theorem form_eqv (T : List Tok) {D n : Nat} (hn : n ≤ D) {sub : St → RT} {nt : NxT} (hs : n < D → nt.formula = sub) (s : St) (hk : isQ T [61, 62] (orT T D n nt s).2 = true) :
    Eqv ([.nd 10 ((orT T D n nt s).1 ++ (leafT T (orT T D n nt s).2).1 ++ (nestP T D n sub (leafT T (orT T D n nt s).2).2).1)], (nestP T D n sub (leafT T (orT T D n nt s).2).2).2) (formulaT T D n nt s) := by
  unfold formulaT nestP
  simp only []
  rw [if_pos hk]
  by_cases h : n = D
  · subst h
    rw [if_pos rfl, nest_deep, if_pos (fail_e T (by decide) _)]
    exact ⟨rfl, fun e => absurd e (fail_e T (by decide) _)⟩
  · have hlt : n < D := by omega
    rw [if_neg h, nest_flat T hlt, hs hlt, if_neg (by rw [leaf_live T (is_kind hk).2]; decide)]
    exact Eqv.refl _

/-! ### Loops -/

theorem rwT_stop {T : List Tok} {c : St → Bool} {sub : St → RT} {r : RT} (hc : c r.2 = false) : ∀ f, rwT T c sub f r = r
  | 0 => rfl
  | f + 1 => by unfold rwT; rw [hc]; rfl
def rowS (T : List Tok) (sub : St → RT) (r : RT) : RT := ([.nd 10 (r.1 ++ (leafT T r.2).1 ++ (sub (leafT T r.2).2).1)], (sub (leafT T r.2).2).2)
def LeftR (T : List Tok) (c : St → Bool) (sub : St → RT) (R r : RT) : Prop := ∃ f, T.length - r.2.i + 1 ≤ f ∧ rwT T c sub f r = R
theorem LeftR.start (T : List Tok) (c : St → Bool) (sub : St → RT) (s : St) : LeftR T c sub (rwT T c sub (fuelQ T (sub s).2) (sub s)) (sub s) := ⟨_, Nat.le_refl _, rfl⟩
theorem LeftR.stop {T : List Tok} {c : St → Bool} {sub : St → RT} {R r : RT} (h : LeftR T c sub R r) (hc : c r.2 = false) : R = r := by
  obtain ⟨f, -, hf⟩ := h; rw [← hf, rwT_stop hc]
theorem leaf_i {T : List Tok} {s : St} (hk : (tokQ T s).kind ≠ 5) : (leafT T s).2.i = s.i + 1 := (leaf_fits hk).2
theorem LeftR.next {T : List Tok} {c : St → Bool} {sub : St → RT} {R r : RT} (h : LeftR T c sub R r) (hc : c r.2 = true) (hk : (tokQ T r.2).kind ≠ 5) (hi : r.2.i < T.length) (hm : (leafT T r.2).2.i ≤ (sub (leafT T r.2).2).2.i) : LeftR T c sub R (rowS T sub r) ∧ r.2.i < (rowS T sub r).2.i := by
  obtain ⟨f, hf, hr⟩ := h
  have h1 := leaf_i hk
  have h2 : r.2.i < (rowS T sub r).2.i := by show r.2.i < (sub (leafT T r.2).2).2.i; omega
  refine ⟨⟨f - 1, by omega, ?_⟩, h2⟩
  obtain ⟨k, rfl⟩ : ∃ k, f = k + 1 := ⟨f - 1, by omega⟩
  unfold rwT at hr
  rw [if_pos hc] at hr
  exact hr

/-- Parts with commas, as the program goes at them: j rounds are left. -/
def loopP (T : List Tok) (sub : St → RT) : Nat → RT → RT
  | 0, r => (r.1, failQ T 15 r.2)
  | j + 1, r => if isQ T [44] (sub r.2).2 = true then loopP T sub j (r.1 ++ (sub r.2).1 ++ (leafT T (sub r.2).2).1, (leafT T (sub r.2).2).2) else (r.1 ++ (sub r.2).1, (sub r.2).2)
def listP (T : List Tok) (sub : St → RT) (s : St) : RT := if isQ T [41] s = true then ([], s) else loopP T sub 8 ([], s)
theorem parts_stopT {T : List Tok} {sub : St → RT} {r : RT} {k : Nat} (hc : isQ T [44] r.2 = false) : ∀ f, partsT T sub f k r = r
  | 0 => rfl
  | f + 1 => by unfold partsT; rw [hc]; rfl
theorem is_live {T : List Tok} {x : List UInt8} {s : St} (h : s.e ≠ 0) : isQ T x s = false := by unfold isQ; exact decide_eq_false (fun e => h e.1)
theorem loop_parts (T : List Tok) {sub : St → RT} (hs : ∀ s, Good T s (sub s)) (hk : ∀ s, s.e ≠ 0 → (sub s).2 = s) : ∀ (j f : Nat) (r : RT), j + 1 ≤ 8 → T.length - (sub r.2).2.i + 1 ≤ f → r.2.i ≤ T.length → Eqv (loopP T sub (j + 1) r) (partsT T sub f (8 - j) (r.1 ++ (sub r.2).1, (sub r.2).2)) := by
  intro j
  induction j with
  | zero =>
    intro f r _ hf hr
    unfold loopP
    by_cases hc : isQ T [44] (sub r.2).2 = true
    · obtain ⟨g, rfl⟩ : ∃ g, f = g + 1 := ⟨f - 1, by omega⟩
      rw [if_pos hc]
      unfold partsT
      rw [if_pos hc]
      simp only [Nat.sub_zero, if_true]
      have hd : (failQ T 15 (leafT T (sub r.2).2).2).e ≠ 0 := fail_e T (by decide) _
      have h2 := hk _ hd
      rw [h2, parts_stopT (is_live hd)]
      exact ⟨rfl, fun e => absurd e hd⟩
    · rw [if_neg hc, parts_stopT (by simpa using hc)]
      exact Eqv.refl _
  | succ j ih =>
    intro f r hj hf hr
    have e1 : loopP T sub (j + 1 + 1) r = if isQ T [44] (sub r.2).2 = true then loopP T sub (j + 1) (r.1 ++ (sub r.2).1 ++ (leafT T (sub r.2).2).1, (leafT T (sub r.2).2).2) else (r.1 ++ (sub r.2).1, (sub r.2).2) := by rw [loopP]
    rw [e1]
    by_cases hc : isQ T [44] (sub r.2).2 = true
    · obtain ⟨g, rfl⟩ : ∃ g, f = g + 1 := ⟨f - 1, by omega⟩
      rw [if_pos hc]
      unfold partsT
      rw [if_pos hc]
      simp only []
      rw [if_neg (show ¬ 8 - (j + 1) = 8 by omega), show 8 - (j + 1) + 1 = 8 - j by omega]
      have hki := (is_kind hc).1
      have hl := leaf_i (T := T) (s := (sub r.2).2) hki
      have hm := (hs (leafT T (sub r.2).2).2).mono
      have hlt : (sub r.2).2.i < T.length := by
        rcases Nat.lt_or_ge (sub r.2).2.i T.length with h | h
        · exact h
        · exact absurd (by unfold tokQ; rw [List.getElem?_eq_none h]; rfl) hki
      exact ih g (r.1 ++ (sub r.2).1 ++ (leafT T (sub r.2).2).1, (leafT T (sub r.2).2).2) (by omega) (by show T.length - (sub (leafT T (sub r.2).2).2).2.i + 1 ≤ g; omega) (by show (leafT T (sub r.2).2).2.i ≤ T.length; omega)
    · rw [if_neg hc, parts_stopT (by simpa using hc)]
      exact Eqv.refl _
/-- Parts, or none, up to a parenthesis. -/
theorem list_parts (T : List Tok) {sub : St → RT} (hs : ∀ s, Good T s (sub s)) (hk : ∀ s, s.e ≠ 0 → (sub s).2 = s) (s : St) (hi : s.i ≤ T.length) : Eqv (listP T sub s) (if isQ T [41] s = true then ([], s) else partsT T sub (fuelQ T (sub s).2) 1 (sub s)) := by
  unfold listP
  split
  · exact Eqv.refl _
  · have h := loop_parts T hs hk 7 (fuelQ T (sub s).2) ([], s) (by omega) (Nat.le_refl _) hi
    simpa using h
end Go.Proofs.YtoahgeleenpnjaaGreatDoor
namespace Go.Proofs.YtoahgeleenpnjaaGreatDoor

mutual
def kOk : Tr → Prop
  | .lf _ => True
  | .nd k l => 1 ≤ k ∧ k ≤ 18 ∧ kOks l
def kOks : List Tr → Prop
  | [] => True
  | t :: l => kOk t ∧ kOks l
end
theorem kOks_append {a b : List Tr} (h1 : kOks a) (h2 : kOks b) : kOks (a ++ b) := by
  induction a with
  | nil => exact h2
  | cons t a ih => simp only [List.cons_append, kOks] at h1 ⊢; exact ⟨h1.1, ih h1.2⟩
theorem kOks_nd {k : Nat} {l : List Tr} (h1 : 1 ≤ k) (h2 : k ≤ 18) (h : kOks l) : kOks [.nd k l] := by simp only [kOks, kOk]; exact ⟨⟨h1, h2, h⟩, trivial⟩
theorem kOks_nil : kOks [] := by simp [kOks]
abbrev KO (r : RT) : Prop := kOks r.1
section
variable (T : List Tok)
theorem leaf_ko (s : St) : KO (leafT T s) := by simp [KO, leafT, kOks, kOk]
theorem must_ko (w : List UInt8) (s : St) : KO (mustT T w s) := by unfold mustT; split; exact leaf_ko T s; exact kOks_nil
theorem kind_ko (k : Nat) (s : St) : KO (kindT T k s) := by unfold kindT; split; exact leaf_ko T s; exact kOks_nil
theorem row_ko {c : St → Bool} {sub : St → RT} (hs : ∀ s, KO (sub s)) : ∀ f r, KO r → KO (rwT T c sub f r)
  | 0, r, h => h
  | f + 1, r, h => by
    unfold rwT
    split
    · exact row_ko hs f _ (kOks_nd (by decide) (by decide) (kOks_append (kOks_append h (leaf_ko T _)) (hs _)))
    · exact h
theorem parts_ko {sub : St → RT} (hs : ∀ s, KO (sub s)) : ∀ f k r, KO r → KO (partsT T sub f k r)
  | 0, k, r, h => h
  | f + 1, k, r, h => by
    unfold partsT
    split
    · exact parts_ko hs f _ _ (kOks_append (kOks_append h (leaf_ko T _)) (hs _))
    · exact h
structure NxO (nt : NxT) : Prop where
  expr : ∀ s, KO (nt.expr s)
  formula : ∀ s, KO (nt.formula s)
  nots : ∀ s, KO (nt.nots s)
  factor : ∀ s, KO (nt.factor s)
end
section
variable (T : List Tok) (D n : Nat) {nt : NxT} (h : NxO nt)
include h
theorem args_ko (s : St) : KO (argsT T nt s) := parts_ko T h.expr _ _ _ (h.expr s)
omit h in
theorem nameB_ko {a : RT} (ha : KO a) : KO (nameBT T a) := by
  unfold nameBT; split
  · exact kOks_append (kOks_append ha (leaf_ko T _)) (kind_ko T _ _)
  · exact ha
omit h in
theorem nameC_ko {a : RT} (ha : KO a) : KO (nameCT T a) := kOks_append ha (must_ko T _ _)
theorem nameD_ko {a : RT} (ha : KO a) : KO (nameDT T nt a) := by
  unfold nameDT; split
  · exact ha
  · exact kOks_append ha (args_ko T h _)
omit h in
theorem nameE_ko {a : RT} (ha : KO a) : KO (nameET T a) := kOks_nd (by decide) (by decide) (kOks_append ha (must_ko T _ _))
theorem name_ko (s : St) : KO (nameT T nt s) := by
  unfold nameT; split
  · exact kOks_nd (by decide) (by decide) (leaf_ko T _)
  · exact nameE_ko T (nameD_ko T h (nameC_ko T (nameB_ko T (leaf_ko T _))))
theorem atom_ko (s : St) : KO (atomT T nt s) := by
  unfold atomT
  split
  · exact kOks_nil
  split
  · exact kOks_nd (by decide) (by decide) (leaf_ko T _)
  split
  · exact kOks_nd (by decide) (by decide) (leaf_ko T _)
  split
  · exact kOks_nd (by decide) (by decide) (leaf_ko T _)
  split
  · exact kOks_nd (by decide) (by decide) (kOks_append (kOks_append (leaf_ko T _) (h.expr _)) (must_ko T _ _))
  split
  · exact name_ko T h s
  · exact kOks_nil
omit h in
theorem sign_ko {sub : St → RT} (hs : ∀ s, KO (sub s)) (s : St) : KO (signT T D n sub s) := by
  unfold signT
  simp only []
  split
  · exact kOks_nil
  · exact kOks_nd (by decide) (by decide) (kOks_append (leaf_ko T _) (hs _))
theorem factor_ko (s : St) : KO (factorT T D n nt s) := by
  unfold factorT; split
  · exact sign_ko T D n h.factor s
  · exact atom_ko T h s
theorem product_ko (s : St) : KO (productT T D n nt s) := row_ko T (factor_ko T D n h) _ _ (factor_ko T D n h s)
theorem sum_ko (s : St) : KO (sumT T D n nt s) := row_ko T (product_ko T D n h) _ _ (product_ko T D n h s)
theorem not_ko (s : St) : KO (notT T D n nt s) := by
  unfold notT
  simp only []
  split
  · exact sign_ko T D n h.nots s
  split
  · exact kOks_nd (by decide) (by decide) (kOks_append (kOks_append (sum_ko T D n h s) (leaf_ko T _)) (sum_ko T D n h _))
  · exact sum_ko T D n h s
theorem and_ko (s : St) : KO (andT T D n nt s) := row_ko T (not_ko T D n h) _ _ (not_ko T D n h s)
theorem or_ko (s : St) : KO (orT T D n nt s) := row_ko T (and_ko T D n h) _ _ (and_ko T D n h s)
theorem formula_ko (s : St) : KO (formulaT T D n nt s) := by
  unfold formulaT
  simp only []
  split
  · split
    · exact kOks_nil
    · exact kOks_nd (by decide) (by decide) (kOks_append (kOks_append (or_ko T D n h s) (leaf_ko T _)) (h.formula _))
  · exact or_ko T D n h s
theorem let_ko (s : St) : KO (letT T nt s) :=
  kOks_nd (by decide) (by decide) (kOks_append (kOks_append (kOks_append (kOks_append (kOks_append (leaf_ko T _) (kind_ko T _ _)) (must_ko T _ _)) (h.expr _)) (must_ko T _ _)) (h.expr _))
theorem if_ko (s : St) : KO (ifT T nt s) :=
  kOks_nd (by decide) (by decide) (kOks_append (kOks_append (kOks_append (kOks_append (kOks_append (leaf_ko T _) (h.expr _)) (must_ko T _ _)) (h.expr _)) (must_ko T _ _)) (h.expr _))
theorem assert_ko (s : St) : KO (assertT T nt s) :=
  kOks_nd (by decide) (by decide) (kOks_append (kOks_append (kOks_append (leaf_ko T _) (h.expr _)) (must_ko T _ _)) (h.expr _))
theorem expr_ko (s : St) : KO (exprT T D n nt s) := by
  unfold exprT
  simp only []
  split
  · exact kOks_nil
  split
  · exact let_ko T h _
  split
  · exact if_ko T h _
  split
  · exact assert_ko T h _
  · exact formula_ko T D n h _
end
theorem nx_ko (T : List Tok) (D : Nat) : ∀ d, NxO (nxT T D d)
  | 0 => ⟨fun s => kOks_nil, fun s => kOks_nil, fun s => kOks_nil, fun s => kOks_nil⟩
  | d + 1 => ⟨expr_ko T D _ (nx_ko T D d), formula_ko T D _ (nx_ko T D d), not_ko T D _ (nx_ko T D d), factor_ko T D _ (nx_ko T D d)⟩
section
variable (T : List Tok) {et : St → RT} (h : ∀ s, KO (et s))
include h
omit h in
theorem typB_ko {a : RT} (ha : KO a) : KO (typBT T a) := by
  unfold typBT; split
  · exact kOks_append ha (kOks_nd (by decide) (by decide) (leaf_ko T _))
  · exact ha
theorem typC_ko {a : RT} (ha : KO a) : KO (typCT T et a) := by
  unfold typCT; split
  · exact kOks_append ha (kOks_nd (by decide) (by decide) (kOks_append (kOks_append (leaf_ko T _) (h _)) (must_ko T _ _)))
  · exact ha
theorem typed_ko (s : St) : KO (typedT T et s) := typC_ko T h (typB_ko T (must_ko T _ s))
theorem par_ko (s : St) : KO (parT T et s) := kOks_nd (by decide) (by decide) (kOks_append (kind_ko T _ s) (typed_ko T h _))
theorem params_ko (s : St) : KO (paramsT T et s) := parts_ko T (par_ko T h) _ _ _ (par_ko T h s)
omit h in
theorem defA_ko (s : St) : KO (defAT T s) := by unfold defAT; split; exact leaf_ko T s; exact kOks_nil
omit h in
theorem defB_ko {a : RT} (ha : KO a) : KO (defBT T a) := kOks_append ha (kOks_append (kOks_append (must_ko T _ _) (kind_ko T _ _)) (must_ko T _ _))
theorem defC_ko {a : RT} (ha : KO a) : KO (defCT T et a) := by
  unfold defCT; split
  · exact kOks_append ha (params_ko T h _)
  · exact ha
theorem defD_ko {a : RT} (ha : KO a) : KO (defDT T et a) :=
  kOks_append (kOks_append (kOks_append ha (kOks_append (kOks_append (must_ko T _ _) (typed_ko T h _)) (must_ko T _ _))) (h _)) (must_ko T _ _)
theorem def_ko (s : St) : KO (defT T et s) := kOks_nd (by decide) (by decide) (defD_ko T h (defC_ko T h (defB_ko T (defA_ko T s))))
omit h in
theorem imp_ko {r : RT} (hr : KO r) : KO (impStepT T r) := kOks_append hr (kOks_nd (by decide) (by decide) (kOks_append (kOks_append (leaf_ko T _) (kind_ko T _ _)) (must_ko T _ _)))
omit h in
theorem many_ko {c : St → Bool} {step : RT → RT} {most : Nat} (hs : ∀ r, KO r → KO (step r)) : ∀ f k r, KO r → KO (manyT T c step most f k r).2
  | 0, k, r, hr => hr
  | f + 1, k, r, hr => by
    unfold manyT
    split
    · split
      · exact kOks_nil
      · exact many_ko hs f _ _ (hs r hr)
    · exact hr
theorem program_ko (s : St) : KO (programT T et s) := by
  have h1 : KO (importsT T ([], s)).2 := many_ko T (fun r hr => imp_ko T hr) _ _ _ kOks_nil
  have h2 : KO (defsT T et (importsT T ([], s)).2).2 := many_ko T (fun r hr => kOks_append hr (def_ko T h _)) _ _ _ h1
  unfold programT
  split
  · exact h1
  split
  · exact h2
  · exact kOks_append h2 (kind_ko T _ _)
theorem alone_ko (s : St) : KO (aloneT T et s) := kOks_append (h _) (kind_ko T _ _)
end
theorem tree_ko (T : List Tok) (D : Nat) (f : Bool) : KO (treeT T D f) := by
  unfold treeT
  split
  · exact alone_ko T (nx_ko T D D).expr _
  · exact program_ko T (nx_ko T D D).expr _
end Go.Proofs.YtoahgeleenpnjaaGreatDoor
namespace Go.Proofs.YtoahgeleenpnjaaGreatDoor

/-- An expression: its Op, its name, its module, its number's digits, its truth, its kids, its place. -/
inductive Ex where
  | mk (op : Nat) (nm md nu : List UInt8) (ys : Bool) (ks : List Ex) (ps : Nat)
def nilE : Ex := .mk 0 [] [] [] false [] 0

def tkT (T : List Tok) (i : Nat) : Tok := T[i]?.getD ⟨5, [], [], 0⟩
def signs8 : List (List UInt8) := [[43], [45], [42], [47], [37], [61], [60, 62], [60], [60, 61], [62], [62, 61], [38, 38], [124, 124], [61, 62]]
def binE (s : List UInt8) : Nat := if signs8.idxOf s < 14 then 7 + signs8.idxOf s else 0
def unE (s : List UInt8) : Nat := if s = [45] then 5 else 6

/-- An expression of its node's kind, its own tokens and its kids. -/
def nodeE (k : Nat) (o : Nat → Tok) (ks : List Ex) : Ex :=
  if k = 7 then .mk 22 (o 1).text [] [] false ks (o 0).pos
  else if k = 8 then .mk 21 [] [] [] false ks (o 0).pos
  else if k = 9 then .mk 23 [] [] [] false ks (o 0).pos
  else if k = 10 then .mk (binE (o 0).text) [] [] [] false ks (o 0).pos
  else if k = 11 then .mk (unE (o 0).text) [] [] [] false ks (o 0).pos
  else if k = 13 then (if (o 1).text = [46] then .mk 24 (o 2).text (o 0).text [] false ks (o 0).pos else .mk 24 (o 0).text [] [] false ks (o 0).pos)
  else if k = 14 then .mk 3 (o 0).text [] [] false ks (o 0).pos
  else if k = 15 then .mk 1 [] [] (o 0).text false ks (o 0).pos
  else if k = 16 then .mk 2 [] [] [] (decide ((o 0).text = [116, 114, 117, 101])) ks (o 0).pos
  else .mk 4 [] [] [] false ks (o 0).pos

/-- The tokens of the leaves of a list. -/
def ownL : List Tr → List Nat
  | [] => []
  | .lf i :: l => i :: ownL l
  | .nd _ _ :: l => ownL l
def isN : Tr → Bool
  | .lf _ => false
  | .nd _ _ => true
mutual
def axT (T : List Tok) : Tr → Ex
  | .lf _ => nilE
  | .nd k l => if k = 12 then (axTs T l).headD nilE else nodeE k (fun j => tkT T ((ownL l).getD j T.length)) (axTs T l)
/-- Of the nodes of a list alone. -/
def axTs (T : List Tok) : List Tr → List Ex
  | [] => []
  | t :: l => if isN t = true then axT T t :: axTs T l else axTs T l
end

def numOk (t : List UInt8) : Prop := 0 < t.length ∧ t.length ≤ 60 ∧ (∀ b ∈ t, isDig b = true) ∧ (1 < t.length → t.head? ≠ some 48)
inductive ShE (T : List Tok) : Nat → List Tr → Prop
  | let_ (i j k m : Nat) (t u : Tr) : isN t = true → isN u = true → ShE T 7 [.lf i, .lf j, .lf k, t, .lf m, u]
  | if_ (i j k : Nat) (t u v : Tr) : isN t = true → isN u = true → isN v = true → ShE T 8 [.lf i, t, .lf j, u, .lf k, v]
  | assert_ (i j : Nat) (t u : Tr) : isN t = true → isN u = true → ShE T 9 [.lf i, t, .lf j, u]
  | bin (i : Nat) (t u : Tr) : isN t = true → isN u = true → (tkT T i).text ∈ signs8 → ShE T 10 [t, .lf i, u]
  | una (i : Nat) (t : Tr) : isN t = true → (tkT T i).text = [45] ∨ (tkT T i).text = [110, 111, 116] → ShE T 11 [.lf i, t]
  | grp (i j : Nat) (t : Tr) : isN t = true → ShE T 12 [.lf i, t, .lf j]
  | call (i j : Nat) (l : List Tr) : (tkT T j).text ≠ [46] → ShE T 13 (.lf i :: .lf j :: l)
  | callm (i j m : Nat) (l : List Tr) : (tkT T j).text = [46] → ShE T 13 (.lf i :: .lf j :: .lf m :: l)
  | nam (i : Nat) : ShE T 14 [.lf i]
  | num (i : Nat) : numOk (tkT T i).text → ShE T 15 [.lf i]
  | tru (i : Nat) : ShE T 16 [.lf i]
  | res (i : Nat) : ShE T 17 [.lf i]
mutual
/-- A tree of the form that an expression's has. -/
def WE (T : List Tok) : Tr → Prop
  | .lf _ => True
  | .nd k l => ShE T k l ∧ WEs T l
def WEs (T : List Tok) : List Tr → Prop
  | [] => True
  | t :: l => WE T t ∧ WEs T l
end
def One (T : List Tok) (l : List Tr) : Prop := ∃ t, l = [t] ∧ isN t = true ∧ WE T t
abbrev WO (T : List Tok) (r : RT) : Prop := r.2.e = 0 → One T r.1
abbrev WL (T : List Tok) (r : RT) : Prop := r.2.e = 0 → WEs T r.1
def NumTok (T : List Tok) : Prop := ∀ t ∈ T, t.kind = 3 → numOk t.text

theorem WEs_append {T : List Tok} {a b : List Tr} (h1 : WEs T a) (h2 : WEs T b) : WEs T (a ++ b) := by
  induction a with
  | nil => exact h2
  | cons t a ih => simp only [List.cons_append, WEs] at h1 ⊢; exact ⟨h1.1, ih h1.2⟩
theorem WEs_lf {T : List Tok} {i : Nat} {l : List Tr} (h : WEs T l) : WEs T (.lf i :: l) := by simp only [WEs, WE]; exact ⟨trivial, h⟩
theorem WEs_cons {T : List Tok} {t : Tr} {l : List Tr} (h1 : WE T t) (h : WEs T l) : WEs T (t :: l) := by simp only [WEs]; exact ⟨h1, h⟩
theorem WEs_nil {T : List Tok} : WEs T [] := by simp [WEs]
theorem One.nd {T : List Tok} {k : Nat} {l : List Tr} (h1 : ShE T k l) (h2 : WEs T l) : One T [.nd k l] := ⟨_, rfl, rfl, by simp only [WE]; exact ⟨h1, h2⟩⟩
theorem alive {s : St} {r : RT} (h : Keep s r) (he : r.2.e = 0) : s.e = 0 := by
  rcases Nat.eq_zero_or_pos s.e with h0 | h0
  · exact h0
  · have := h.dead (by omega); rw [this] at he; exact he

section
variable (T : List Tok)
theorem leaf_1 (s : St) : (leafT T s).1 = [.lf s.i] := rfl
theorem must_w {w : List UInt8} {s : St} (h : (mustT T w s).2.e = 0) : (mustT T w s).1 = [.lf s.i] ∧ (tkT T s.i).text = w ∧ ((tkT T s.i).kind = 2 ∨ (tkT T s.i).kind = 4) ∧ s.e = 0 := by
  unfold mustT at h ⊢
  split
  · rename_i hk
    unfold isQ at hk
    have hk := of_decide_eq_true hk
    exact ⟨rfl, hk.2.2, hk.2.1, hk.1⟩
  · rename_i hk
    rw [if_neg hk] at h
    exact absurd h (fail_e T (by decide) s)
theorem kind_w {k : Nat} {s : St} (h : (kindT T k s).2.e = 0) : (kindT T k s).1 = [.lf s.i] ∧ (tkT T s.i).kind = k ∧ s.e = 0 := by
  unfold kindT at h ⊢
  split
  · rename_i hk; exact ⟨rfl, hk.2, hk.1⟩
  · rename_i hk
    rw [if_neg hk] at h
    exact absurd h (fail_e T (by decide) s)
theorem is_w {w : List UInt8} {s : St} (h : isQ T w s = true) : (tkT T s.i).text = w ∧ ((tkT T s.i).kind = 2 ∨ (tkT T s.i).kind = 4) ∧ s.e = 0 := by
  unfold isQ at h
  have hk := of_decide_eq_true h
  exact ⟨hk.2.2, hk.2.1, hk.1⟩
theorem row_w {c : St → Bool} {sub : St → RT} (hc : ∀ s, c s = true → s.e = 0 ∧ (tkT T s.i).text ∈ signs8) (hk : ∀ s, Keep s (sub s)) (hs : ∀ s, WO T (sub s)) : ∀ f r, WO T r → WO T (rwT T c sub f r)
  | 0, r, h => h
  | f + 1, r, h => by
    unfold rwT
    split
    · rename_i hcc
      refine row_w hc hk hs f _ fun he => ?_
      have h1 := hc _ hcc
      obtain ⟨t, ht, ht1, ht2⟩ := h h1.1
      obtain ⟨u, hu, hu1, hu2⟩ := hs _ he
      show One T [.nd 10 (r.1 ++ (leafT T r.2).1 ++ (sub (leafT T r.2).2).1)]
      rw [ht, hu, leaf_1]
      exact One.nd (ShE.bin _ t u ht1 hu1 h1.2) (WEs_cons ht2 (WEs_lf (WEs_cons hu2 WEs_nil)))
    · exact h
theorem parts_w {sub : St → RT} (hk : ∀ s, Keep s (sub s)) (hs : ∀ s, WO T (sub s)) : ∀ f k r, WL T r → WL T (partsT T sub f k r)
  | 0, k, r, h => h
  | f + 1, k, r, h => by
    unfold partsT
    split
    · rename_i hcc
      refine parts_w hk hs f _ _ fun he => ?_
      obtain ⟨u, hu, hu1, hu2⟩ := hs _ he
      show WEs T (r.1 ++ (leafT T r.2).1 ++ (sub (if k = 8 then failQ T 15 (leafT T r.2).2 else (leafT T r.2).2)).1)
      rw [hu, leaf_1]
      exact WEs_append (WEs_append (h (is_w T hcc).2.2) (WEs_lf WEs_nil)) (WEs_cons hu2 WEs_nil)
    · exact h
structure NxW (D n : Nat) (nt : NxT) : Prop where
  expr : ∀ s, WO T (nt.expr s)
  formula : n < D → ∀ s, WO T (nt.formula s)
  nots : n < D → ∀ s, WO T (nt.nots s)
  factor : n < D → ∀ s, WO T (nt.factor s)
end

section
variable (T : List Tok) (hT : NumTok T) (D n : Nat) {nt : NxT} (h : NxW T D n nt) (hk : NxK nt)
include h hk
theorem args_w (s : St) : WL T (argsT T nt s) := parts_w T hk.expr h.expr _ _ _ fun he => by
  obtain ⟨t, ht, -, h2⟩ := h.expr s he
  rw [ht]; exact WEs_cons h2 WEs_nil
theorem name_w (s : St) (hs : s.e = 0) : WO T (nameT T nt s) := by
  unfold nameT
  split
  · intro _; exact One.nd (ShE.nam s.i) (WEs_lf WEs_nil)
  · intro he
    -- the end
    have e1 : (mustT T [41] (nameDT T nt (nameCT T (nameBT T (leafT T s)))).2).2.e = 0 := he
    obtain ⟨m1, -, -, d0⟩ := must_w T e1
    obtain ⟨rest, hr, hw, c0⟩ : ∃ rest, (nameDT T nt (nameCT T (nameBT T (leafT T s)))).1 = (nameCT T (nameBT T (leafT T s))).1 ++ rest ∧ WEs T rest ∧ (nameCT T (nameBT T (leafT T s))).2.e = 0 := by
      unfold nameDT at d0 ⊢
      split
      · rename_i hc
        exact ⟨[], by simp, WEs_nil, (is_w T hc).2.2⟩
      · rename_i hc
        rw [if_neg hc] at d0
        have d0 : (argsT T nt (nameCT T (nameBT T (leafT T s))).2).2.e = 0 := d0
        exact ⟨_, rfl, args_w T D n h hk _ d0, alive (args_keep T hk _) d0⟩
    have e2 : (mustT T [40] (nameBT T (leafT T s)).2).2.e = 0 := c0
    obtain ⟨m2, w2, -, b0⟩ := must_w T e2
    show One T [.nd 13 ((nameDT T nt (nameCT T (nameBT T (leafT T s)))).1 ++ (mustT T [41] (nameDT T nt (nameCT T (nameBT T (leafT T s)))).2).1)]
    rw [m1, hr]
    show One T [.nd 13 ((nameBT T (leafT T s)).1 ++ (mustT T [40] (nameBT T (leafT T s)).2).1 ++ rest ++ [.lf _])]
    rw [m2]
    unfold nameBT at b0 w2 ⊢
    by_cases hd : isQ T [46] (leafT T s).2 = true
    · rw [if_pos hd] at b0 w2 ⊢
      have b0 : (kindT T 1 (leafT T (leafT T s).2).2).2.e = 0 := b0
      obtain ⟨k1, -, -⟩ := kind_w T b0
      show One T [.nd 13 ((leafT T s).1 ++ (leafT T (leafT T s).2).1 ++ (kindT T 1 (leafT T (leafT T s).2).2).1 ++ [.lf _] ++ rest ++ [.lf _])]
      rw [k1, leaf_1, leaf_1]
      refine One.nd (ShE.callm _ _ _ _ (is_w T hd).1) ?_
      exact WEs_append (WEs_append (WEs_lf (WEs_lf (WEs_lf (WEs_lf WEs_nil)))) hw) (WEs_lf WEs_nil)
    · rw [if_neg hd] at b0 w2 ⊢
      rw [leaf_1]
      refine One.nd (ShE.call _ _ _ (by rw [w2]; decide)) ?_
      exact WEs_append (WEs_append (WEs_lf (WEs_lf WEs_nil)) hw) (WEs_lf WEs_nil)
include hT
theorem atom_w (s : St) : WO T (atomT T nt s) := by
  unfold atomT
  split
  · rename_i he; intro h9; exact absurd h9 he
  rename_i he
  have he : s.e = 0 := by omega
  split
  · rename_i h3
    intro _
    refine One.nd (ShE.num s.i ?_) (WEs_lf WEs_nil)
    have h4 : (tkT T s.i).kind = 3 := h3
    unfold tkT at h4 ⊢
    cases ht : T[s.i]? with
    | none => rw [ht] at h4; cases h4
    | some t => rw [ht] at h4; exact hT t (List.mem_of_getElem? ht) h4
  split
  · intro _; exact One.nd (ShE.tru s.i) (WEs_lf WEs_nil)
  split
  · intro _; exact One.nd (ShE.res s.i) (WEs_lf WEs_nil)
  split
  · intro h9
    obtain ⟨m1, -, -, b0⟩ := must_w T h9
    obtain ⟨u, hu, hu1, hu2⟩ := h.expr _ b0
    show One T [.nd 12 ((leafT T s).1 ++ (nt.expr (leafT T s).2).1 ++ (mustT T [41] (nt.expr (leafT T s).2).2).1)]
    rw [m1, hu, leaf_1]
    exact One.nd (ShE.grp _ _ u hu1) (WEs_lf (WEs_cons hu2 (WEs_lf WEs_nil)))
  split
  · exact name_w T D n h hk s he
  · intro h9; exact absurd h9 (fail_e T (by decide) s)
omit hT h hk in
theorem sign_w {sub : St → RT} (hs : n < D → ∀ s, WO T (sub s)) {s : St} (hw : (tkT T s.i).text = [45] ∨ (tkT T s.i).text = [110, 111, 116]) : WO T (signT T D n sub s) := by
  unfold signT
  simp only []
  split
  · rename_i he; intro h9; exact absurd h9 he
  · rename_i he
    intro h9
    have hn : n < D := by
      rcases Nat.lt_or_ge n D with h1 | h1
      · exact h1
      · exfalso; apply he
        unfold nestQ; rw [if_pos (by omega)]; exact fail_e T (by decide) _
    obtain ⟨u, hu, hu1, hu2⟩ := hs hn _ h9
    show One T [.nd 11 ((leafT T s).1 ++ (sub (nestQ T D (n + 1) (leafT T s).2)).1)]
    rw [hu, leaf_1]
    exact One.nd (ShE.una _ u hu1 hw) (WEs_lf (WEs_cons hu2 WEs_nil))
theorem factor_w (s : St) : WO T (factorT T D n nt s) := by
  unfold factorT; split
  · rename_i hc; exact sign_w T D n h.factor (.inl (is_w T hc).1)
  · exact atom_w T hT D n h hk s
omit hT h hk in
theorem mem_of_is {w : List UInt8} (hw : w ∈ signs8) {s : St} (h : isQ T w s = true) : s.e = 0 ∧ (tkT T s.i).text ∈ signs8 := ⟨(is_w T h).2.2, by rw [(is_w T h).1]; exact hw⟩
theorem product_w (s : St) : WO T (productT T D n nt s) := row_w T (fun s hc => by
  unfold isMul at hc
  simp only [Bool.or_eq_true] at hc
  rcases hc with (hc | hc) | hc <;> exact mem_of_is T (by decide) hc) (factor_keep T D n hk) (factor_w T hT D n h hk) _ _ (factor_w T hT D n h hk s)
theorem sum_w (s : St) : WO T (sumT T D n nt s) := row_w T (fun s hc => by
  unfold isAdd at hc
  simp only [Bool.or_eq_true] at hc
  rcases hc with hc | hc <;> exact mem_of_is T (by decide) hc) (product_keep T D n hk) (product_w T hT D n h hk) _ _ (product_w T hT D n h hk s)
theorem not_w (s : St) : WO T (notT T D n nt s) := by
  unfold notT
  simp only []
  split
  · rename_i hc; exact sign_w T D n h.nots (.inr (is_w T hc).1)
  split
  · rename_i hc
    intro h9
    have hm : (sumT T D n nt s).2.e = 0 ∧ (tkT T (sumT T D n nt s).2.i).text ∈ signs8 := by
      unfold isCmp at hc
      simp only [Bool.or_eq_true] at hc
      rcases hc with ((((hc | hc) | hc) | hc) | hc) | hc <;> exact mem_of_is T (by decide) hc
    obtain ⟨t, ht, ht1, ht2⟩ := sum_w T hT D n h hk s hm.1
    obtain ⟨u, hu, hu1, hu2⟩ := sum_w T hT D n h hk _ h9
    show One T [.nd 10 ((sumT T D n nt s).1 ++ (leafT T (sumT T D n nt s).2).1 ++ (sumT T D n nt (leafT T (sumT T D n nt s).2).2).1)]
    rw [ht, hu, leaf_1]
    exact One.nd (ShE.bin _ t u ht1 hu1 hm.2) (WEs_cons ht2 (WEs_lf (WEs_cons hu2 WEs_nil)))
  · exact sum_w T hT D n h hk s
theorem and_w (s : St) : WO T (andT T D n nt s) := row_w T (fun s hc => mem_of_is T (by decide) hc) (not_keep T D n hk) (not_w T hT D n h hk) _ _ (not_w T hT D n h hk s)
theorem or_w (s : St) : WO T (orT T D n nt s) := row_w T (fun s hc => mem_of_is T (by decide) hc) (and_keep T D n hk) (and_w T hT D n h hk) _ _ (and_w T hT D n h hk s)
theorem formula_w (s : St) : WO T (formulaT T D n nt s) := by
  unfold formulaT
  simp only []
  split
  · rename_i hc
    split
    · rename_i he; intro h9; exact absurd h9 he
    · rename_i he
      intro h9
      have hn : n < D := by
        rcases Nat.lt_or_ge n D with h1 | h1
        · exact h1
        · exfalso; apply he
          unfold nestQ; rw [if_pos (by omega)]; exact fail_e T (by decide) _
      have hm := mem_of_is T (by decide) hc
      obtain ⟨t, ht, ht1, ht2⟩ := or_w T hT D n h hk s hm.1
      obtain ⟨u, hu, hu1, hu2⟩ := h.formula hn _ h9
      show One T [.nd 10 ((orT T D n nt s).1 ++ (leafT T (orT T D n nt s).2).1 ++ (nt.formula (nestQ T D (n + 1) (leafT T (orT T D n nt s).2).2)).1)]
      rw [ht, hu, leaf_1]
      exact One.nd (ShE.bin _ t u ht1 hu1 hm.2) (WEs_cons ht2 (WEs_lf (WEs_cons hu2 WEs_nil)))
  · exact or_w T hT D n h hk s
omit hT
theorem let_w (s : St) : WO T (letT T nt s) := by
  intro h9
  obtain ⟨u, hu, hu1, hu2⟩ := h.expr _ h9
  have h8 := alive (hk.expr _) h9
  obtain ⟨m1, -, -, h7⟩ := must_w T h8
  obtain ⟨t, ht, ht1, ht2⟩ := h.expr _ h7
  have h6 := alive (hk.expr _) h7
  obtain ⟨m2, -, -, h5⟩ := must_w T h6
  obtain ⟨k1, -, -⟩ := kind_w T h5
  unfold letT
  simp only []
  rw [hu, m1, ht, m2, k1, leaf_1]
  exact One.nd (ShE.let_ _ _ _ _ t u ht1 hu1) (WEs_lf (WEs_lf (WEs_lf (WEs_cons ht2 (WEs_lf (WEs_cons hu2 WEs_nil))))))
theorem if_w (s : St) : WO T (ifT T nt s) := by
  intro h9
  obtain ⟨v, hv, hv1, hv2⟩ := h.expr _ h9
  have h8 := alive (hk.expr _) h9
  obtain ⟨m1, -, -, h7⟩ := must_w T h8
  obtain ⟨u, hu, hu1, hu2⟩ := h.expr _ h7
  have h6 := alive (hk.expr _) h7
  obtain ⟨m2, -, -, h5⟩ := must_w T h6
  obtain ⟨t, ht, ht1, ht2⟩ := h.expr _ h5
  unfold ifT
  simp only []
  rw [hv, m1, hu, m2, ht, leaf_1]
  exact One.nd (ShE.if_ _ _ _ t u v ht1 hu1 hv1) (WEs_lf (WEs_cons ht2 (WEs_lf (WEs_cons hu2 (WEs_lf (WEs_cons hv2 WEs_nil))))))
theorem assert_w (s : St) : WO T (assertT T nt s) := by
  intro h9
  obtain ⟨u, hu, hu1, hu2⟩ := h.expr _ h9
  have h8 := alive (hk.expr _) h9
  obtain ⟨m1, -, -, h7⟩ := must_w T h8
  obtain ⟨t, ht, ht1, ht2⟩ := h.expr _ h7
  unfold assertT
  simp only []
  rw [hu, m1, ht, leaf_1]
  exact One.nd (ShE.assert_ _ _ t u ht1 hu1) (WEs_lf (WEs_cons ht2 (WEs_lf (WEs_cons hu2 WEs_nil))))
include hT
theorem expr_w (s : St) : WO T (exprT T D n nt s) := by
  unfold exprT
  simp only []
  split
  · rename_i he; intro h9; exact absurd h9 he
  split
  · exact let_w T D n h hk _
  split
  · exact if_w T D n h hk _
  split
  · exact assert_w T D n h hk _
  · exact formula_w T hT D n h hk _
end
theorem nx_w (T : List Tok) (hT : NumTok T) (D : Nat) : ∀ d, d ≤ D → NxW T D (D - d) (nxT T D d)
  | 0, _ => ⟨fun s h9 => absurd h9 (by show (nestQ T D (D + 1) s).e ≠ 0; rw [nest_deep]; exact fail_e T (by decide) s), fun h => by omega, fun h => by omega, fun h => by omega⟩
  | d + 1, h => by
    have ih := nx_w T hT D d (by omega)
    have hk := nx_keep T D d
    exact ⟨expr_w T hT D _ ih hk, fun _ => formula_w T hT D _ ih hk, fun _ => not_w T hT D _ ih hk, fun _ => factor_w T hT D _ ih hk⟩

/-! ### Numbers' tokens -/

theorem runN_take (p : UInt8 → Bool) : ∀ (l : List UInt8), ∀ b ∈ l.take (runN p l), p b = true
  | [], b, h => by simp [runN] at h
  | a :: r, b, h => by
    by_cases ha : p a = true
    · have e : runN p (a :: r) = runN p r + 1 := by simp [runN, ha]
      rw [e, List.take_succ_cons, List.mem_cons] at h
      rcases h with rfl | h
      · exact ha
      · exact runN_take p r b h
    · have e : runN p (a :: r) = 0 := by simp [runN, ha]
      rw [e] at h; simp at h
theorem first_num {l : List UInt8} (h : (firstE l).1 = 3) : ∀ b ∈ l.take (firstE l).2, isDig b = true := by
  cases l with
  | nil => simp [firstE] at h
  | cons a r =>
    rw [firstE_cons] at h ⊢
    split at h
    · rename_i h1
      simp only at h
      split at h <;> cases h
    · rename_i h1
      rw [if_neg h1]
      split at h
      · rename_i h2
        rw [if_pos h2]
        exact runN_take isDig (a :: r)
      · split at h <;> cases h
theorem tok_num {l : List UInt8} {p : Nat} (hw : wrongE (tokE l p).kind (tokE l p).text = 0) (hk : (tokE l p).kind = 3) : numOk (tokE l p).text := by
  have h1 : (firstE (l.drop (sk false l))).1 = 3 := hk
  have h2 := firstE_pos (l := l.drop (sk false l)) (by omega) (by omega)
  have h3 := firstE_le (l.drop (sk false l))
  have h4 := first_num h1
  unfold wrongE at hw
  rw [if_neg (by rw [hk]; rintro (h | ⟨h, -⟩) <;> cases h)] at hw
  have h5 : ¬ ((tokE l p).kind = 3 ∧ (60 < (tokE l p).text.length ∨ 1 < (tokE l p).text.length ∧ (tokE l p).text.head? = some 48)) := fun e => by rw [if_pos e] at hw; cases hw
  have h6 : (tokE l p).text.length = (firstE (l.drop (sk false l))).2 := by
    show ((l.drop (sk false l)).take _).length = _
    rw [List.length_take]; omega
  refine ⟨by omega, ?_, h4, fun h7 h8 => h5 ⟨hk, .inr ⟨h7, h8⟩⟩⟩
  rcases Nat.lt_or_ge 60 (tokE l p).text.length with h | h
  · exact absurd ⟨hk, .inl h⟩ h5
  · exact h
theorem num_lexG : ∀ (f : Nat) (l : List UInt8) (p : Nat), NumTok (lexG f l p).1
  | 0, l, p => fun t ht => by simp [lexG] at ht
  | f + 1, l, p => by
    intro t ht hk
    by_cases hw : wrongE (tokE l p).kind (tokE l p).text ≠ 0
    · rw [lexG_fault hw] at ht; simp at ht
    · have hw : wrongE (tokE l p).kind (tokE l p).text = 0 := by omega
      by_cases h5 : (tokE l p).kind = 5
      · rw [lexG_end hw h5] at ht
        simp at ht; subst ht
        exact tok_num hw hk
      · rw [lexG_more hw h5] at ht
        rcases List.mem_cons.1 ht with rfl | ht
        · exact tok_num hw hk
        · exact num_lexG f _ _ t ht hk
theorem num_all (l : List UInt8) : NumTok (allE l).1 := num_lexG _ l 0
end Go.Proofs.YtoahgeleenpnjaaGreatDoor
namespace Go.Proofs.YtoahgeleenpnjaaGreatDoor
open Go.RowKit

section
variable {w w' : World} {g M : Nat} {f : Nat → Value}
end

set_option maxRecDepth 100000 in
theorem Root_c (pt pn : Option Addr) (mt ct M cn : Nat) (hM : 0 < M) (hM2 : M ≤ 1000000) (w : World) :
    Calls Tryz.prog 40 #[.agg #[.slice pt mt ct, .slice pn M cn]] w (ValPost (.int .i64 ((M - 1 : Nat) : Int)) w) := by
  have hw1 : IntKind.i64.wrap ((M : Int) - 1) = ((M - 1 : Nat) : Int) := by rw [IntWalk.i64_in _ (by omega)]; omega
  go_enter Tryz.func40, Tryz.ntmps40
  go_wp2_with fail
  go_ret
  exact ⟨rfl, World.grownBy_alloc w _ none⟩

end Go.Proofs.YtoahgeleenpnjaaGreatDoor
namespace Go.Proofs.YtoahgeleenpnjaaGreatDoor
open Go.RowKit

theorem OwnG.keptF {S : Nat → Prop} {s : Nat} {T : TypeId} {w w' : World} {base : Nat} {v : Value} {l : List (List Value)} (h : OwnG s T w base v l) (hf : Fr2 S w w') (hS : ∀ k, v.ownBlock = some k → ¬ S k) : OwnG s T w' base v l :=
  ⟨⟨h.1.1, h.1.2.imp id fun ⟨g, cap, cur, e, hb, hh, r⟩ => ⟨g, cap, cur, e, hb, hf.keep hh (hS g (by rw [e]; rfl)), r⟩⟩, h.2⟩
theorem OwnG.keptR {row : Option Nat} {s : Nat} {T : TypeId} {w w' : World} {base : Nat} {v : Value} {l : List (List Value)} (h : OwnG s T w base v l) (hf : w.grownBy w' row) (hS : ∀ k, v.ownBlock = some k → row ≠ some k) : OwnG s T w' base v l :=
  h.keptF (Fr2.of (S := fun k => row = some k) hf (fun _ e => e)) hS
theorem OwnG.at {s : Nat} {T : TypeId} {w : World} {base : Nat} {v : Value} {l : List (List Value)} (h : OwnG s T w base v l) : ∀ k, v.ownBlock = some k → base ≤ k ∧ k < w.heap.size := h.1.lt

def Sep (a b : Value) : Prop := ∀ k, a.ownBlock = some k → b.ownBlock ≠ some k
theorem Sep.symm {a b : Value} (h : Sep a b) : Sep b a := fun k h1 h2 => h k h2 h1

section
variable {s : Nat} {t T : TypeId} {z : Value} {by' : Nat}

/-- append of one struct: where the new slice lies. -/
theorem wpList_appGl (hs0 : 0 < s) (ht : Tryz.prog.underlying t = some (.slice T)) (hT : (Tryz.prog.info? T).map (fun i => (i.zero, i.size, i.bytes)) = some (some z, s, by')) (hz : z.cells.size = s) (hby : by' ≤ 1000)
    {W : World} {ops : Array Oper} {rest : List Oper} {o : Oper} {a : Act} {Q : Exit → Act → World → Prop} (hgd : o.guard = none) (os ox : Operand) (ho : o.op = .call { callee := .builtin .append, args := #[os, ox], argTypes := #[t, t] })
    (base : Nat) (l : List (List Value)) (y : List Value) (hys : y.length = s) (hy1 : ∀ u ∈ y, u.oneCell' = true) (v : Value) (hs : a.eval os = v) (hown : OwnG s T W base v l) (H : Nat) (arr : Array Value) (harr : arr = y.toArray) (hblk : W.heap[H]? = some (.cells arr T (0, 0))) (hx : a.eval ox = .slice (some ⟨H, 0, none⟩) 1 1) (hn : l.length ≤ 1000000) (hbase : base ≤ W.heap.size) (H' : Nat) (hH' : W.heap.size = H')
    (K : ∀ g' cap' w', OwnG s T w' base (.slice (some ⟨g', 0, none⟩) (l.length + 1) cap') (l ++ [y]) → W.grownBy w' v.ownBlock → (v.ownBlock = some g' ∨ g' = H') → wpList Tryz.prog ops Q rest (a.put o.dst (.slice (some ⟨g', 0, none⟩) (l.length + 1) cap')) w') :
    wpList Tryz.prog ops Q (o :: rest) a W := by
  subst harr
  obtain ⟨i0, hi, hi0, hi1, hi2⟩ := info_parts hT
  have hb : (l.length + 1) * by' ≤ 140737488355328 := by
    have : (l.length + 1) * by' ≤ (l.length + 1) * 1000 := Nat.mul_le_mul_left _ hby
    omega
  refine wpList_append_lies (P := Tryz.prog) W hgd os ox t ho base T i0 z s by' ht hi hi0 hi1 hi2 hz hs0 v l.length l.flatten hs hown.1 ⟨H, 0, none⟩ 1 1 y hx (by omega) ?_ hy1 (by omega) (by unfold maxLen; omega) hb hbase H' hH' ?_
  · intro j u hj
    rw [Addr.add_lit, cell_of_row _ H _ _ _ (0, 0) hblk]
    rw [Nat.zero_add, List.getElem?_toArray]; exact hj
  · intro g' cap' w' h3 h4 h5 _
    refine K g' cap' w' ⟨by simpa using h3, fun q hq => ?_⟩ h4 h5
    rcases List.mem_append.1 hq with hq | hq
    · exact hown.2 q hq
    · simp at hq; subst hq; exact ⟨hys, hy1⟩

/-- The same at a step of a region that draws its order. -/
theorem step_appGl (hs0 : 0 < s) (ht : Tryz.prog.underlying t = some (.slice T)) (hT : (Tryz.prog.info? T).map (fun i => (i.zero, i.size, i.bytes)) = some (some z, s, by')) (hz : z.cells.size = s) (hby : by' ≤ 1000)
    {W : World} {ops : Array Oper} {o : Oper} {a : Act} {K : Act → World → Prop} {Q : Exit → Act → World → Prop} {E : Prop} (hgd : o.guard = none) (os ox : Operand) (ho : o.op = .call { callee := .builtin .append, args := #[os, ox], argTypes := #[t, t] })
    (base : Nat) (l : List (List Value)) (y : List Value) (hys : y.length = s) (hy1 : ∀ u ∈ y, u.oneCell' = true) (v : Value) (hs : a.eval os = v) (hown : OwnG s T W base v l) (H : Nat) (arr : Array Value) (harr : arr = y.toArray) (hblk : W.heap[H]? = some (.cells arr T (0, 0))) (hx : a.eval ox = .slice (some ⟨H, 0, none⟩) 1 1) (hn : l.length ≤ 1000000) (hbase : base ≤ W.heap.size) (H' : Nat) (hH' : W.heap.size = H')
    (K' : ∀ g' cap' w', OwnG s T w' base (.slice (some ⟨g', 0, none⟩) (l.length + 1) cap') (l ++ [y]) → W.grownBy w' v.ownBlock → (v.ownBlock = some g' ∨ g' = H') → K (a.put o.dst (.slice (some ⟨g', 0, none⟩) (l.length + 1) cap')) w') :
    if Region.wanted o (yielded ops a.tmps) = true then Oper.wp Tryz.prog o a W K Q else E := by
  subst harr
  obtain ⟨i0, hi, hi0, hi1, hi2⟩ := info_parts hT
  have hb : (l.length + 1) * by' ≤ 140737488355328 := by
    have : (l.length + 1) * by' ≤ (l.length + 1) * 1000 := Nat.mul_le_mul_left _ hby
    omega
  refine step_append_lies (P := Tryz.prog) W hgd os ox t ho base T i0 z s by' ht hi hi0 hi1 hi2 hz hs0 v l.length l.flatten hs hown.1 ⟨H, 0, none⟩ 1 1 y hx (by omega) ?_ hy1 (by omega) (by unfold maxLen; omega) hb hbase H' hH' ?_
  · intro j u hj
    rw [Addr.add_lit, cell_of_row _ H _ _ _ (0, 0) hblk]
    rw [Nat.zero_add, List.getElem?_toArray]; exact hj
  · intro g' cap' w' h3 h4 h5 _
    refine K' g' cap' w' ⟨by simpa using h3, fun q hq => ?_⟩ h4 h5
    rcases List.mem_append.1 hq with hq | hq
    · exact hown.2 q hq
    · simp at hq; subst hq; exact ⟨hys, hy1⟩
end

/-- A list of ints of one's own. -/
def OwnL (w : World) (base : Nat) (v : Value) (l : List Int) : Prop := OwnG 1 3 w base v (one (intsV l))

theorem OwnL.parts {w : World} {base : Nat} {v : Value} {l : List Int} (h : OwnL w base v l) : ∃ p c, v = .slice p l.length c ∧ VAt w p (intsV l) ∧ l.length ≤ c ∧ c ≤ maxLen ∧ (l ≠ [] → ∀ a, p = some a → base ≤ a.block) := by
  obtain ⟨p, c, e, h1, h2, h3, h4⟩ := OwnG.is h
  rw [one_len, intsV_len] at e h2
  exact ⟨p, c, e, v_of_g h1, h2, h3, fun hl => h4 (fun h0 => hl (by
    have := congrArg List.length h0
    rw [one_len, intsV_len] at this
    exact List.length_eq_zero_iff.1 this))⟩

theorem OwnL.nil (w : World) (base : Nat) : OwnL w base (.slice none 0 0) [] := OwnG.nil _ _ _ _
end Go.Proofs.YtoahgeleenpnjaaGreatDoor
namespace Go.Proofs.YtoahgeleenpnjaaGreatDoor
open Go.RowKit

theorem info_int : (Tryz.prog.info? 3).map (fun i => (i.zero, i.size, i.bytes)) = some (some (.int .i64 0), 1, 8) := infoI

end Go.Proofs.YtoahgeleenpnjaaGreatDoor
