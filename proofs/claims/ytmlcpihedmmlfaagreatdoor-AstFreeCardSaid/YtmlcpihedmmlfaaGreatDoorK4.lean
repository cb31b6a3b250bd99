/- The leaves of the parser's trees: where no fault was, the tokens in their order. -/
import Derived.Test.YtmlcpihedmmlfaaGreatDoorK3
set_option linter.unusedVariables false
set_option linter.unusedSimpArgs false
namespace Go.Proofs.YtmlcpihedmmlfaaGreatDoor

mutual
def lvT : Tr → List Nat
  | .lf i => [i]
  | .nd _ l => lvTs l
def lvTs : List Tr → List Nat
  | [] => []
  | t :: l => lvT t ++ lvTs l
end
theorem lvTs_append (a b : List Tr) : lvTs (a ++ b) = lvTs a ++ lvTs b := by
  induction a with
  | nil => simp [lvTs]
  | cons t a ih => simp [lvTs, ih]
theorem lvTs_node (k : Nat) (l : List Tr) : lvTs [.nd k l] = lvTs l := by simp [lvTs, lvT]

/-- From a to z: what has come is what lies between. -/
def Run (s : St) (r : RT) : Prop := r.2.e = 0 → s.e = 0 ∧ s.i ≤ r.2.i ∧ lvTs r.1 = List.range' s.i (r.2.i - s.i)
theorem Run.nil (s : St) : Run s ([], s) := fun h => ⟨h, Nat.le_refl _, by simp [lvTs]⟩
theorem Run.bad {s t : St} {l : List Tr} (h : t.e ≠ 0) : Run s (l, t) := fun e => absurd e h
theorem Run.app {s : St} {a b : RT} (h1 : Run s a) (h2 : Run a.2 b) : Run s (a.1 ++ b.1, b.2) := fun e => by
  obtain ⟨e2, l2, r2⟩ := h2 e
  obtain ⟨e1, l1, r1⟩ := h1 e2
  refine ⟨e1, Nat.le_trans l1 l2, ?_⟩
  show lvTs (a.1 ++ b.1) = _
  rw [lvTs_append, r1, r2]
  have h3 : a.2.i = s.i + 1 * (a.2.i - s.i) := by omega
  have h4 : b.2.i - s.i = (a.2.i - s.i) + (b.2.i - a.2.i) := by omega
  show _ = List.range' s.i (b.2.i - s.i)
  rw [h4, ← List.range'_append, ← h3]
theorem Run.node {s : St} {l : List Tr} {t : St} (k : Nat) (h : Run s (l, t)) : Run s ([.nd k l], t) := fun e => by
  obtain ⟨h1, h2, h3⟩ := h e
  exact ⟨h1, h2, by show lvTs [.nd k l] = _; rw [lvTs_node]; exact h3⟩
theorem Run.same {s t : St} {r : RT} (h : Run t r) (he : t.e = 0 → s.e = 0) (hi : t.i = s.i) : Run s r := fun e => by
  obtain ⟨h1, h2, h3⟩ := h e
  exact ⟨he h1, by omega, by rw [← hi]; exact h3⟩

section
variable (T : List Tok)
theorem leaf_run {s : St} (h : (tokQ T s).kind ≠ 5) : Run s (leafT T s) := fun e => by
  have h1 := (leaf_fits h).2
  have h2 : (leafT T s).2.i = s.i + 1 := h1
  have h3 : s.e = 0 := by
    have : (leafT T s).2.e = s.e := by show (leafQ T s).2.e = s.e; unfold leafQ; rw [if_neg h]
    omega
  refine ⟨h3, by omega, ?_⟩
  rw [h2]
  show lvTs [.lf s.i] = _
  simp [lvTs, lvT]
theorem fail_run {n : Nat} (hn : n ≠ 0) (s t : St) (l : List Tr) : Run s (l, failQ T n t) := Run.bad (fail_e T hn t)
theorem must_run (w : List UInt8) (s : St) : Run s (mustT T w s) := by
  unfold mustT
  split
  · rename_i h; exact leaf_run T (is_kind h).1
  · exact fail_run T (by decide) s s []
theorem kind_run {k : Nat} (hk : k ≠ 5) (s : St) : Run s (kindT T k s) := by
  unfold kindT
  split
  · rename_i h; exact leaf_run T (by rw [h.2]; exact hk)
  · exact fail_run T (by decide) s s []
theorem nest_run {D n : Nat} {s : St} {r : RT} (h : Run (nestQ T D n s) r) : Run s r :=
  h.same (fun e => by
    unfold nestQ at e
    split at e
    · exact absurd e (fail_e T (by decide) s)
    · exact e) (nest_i T D n s)
theorem row_run {c : St → Bool} {sub : St → RT} (hc : ∀ s, c s = true → (tokQ T s).kind ≠ 5) (hs : ∀ s, Run s (sub s)) {s : St} : ∀ f r, Run s r → Run s (rwT T c sub f r)
  | 0, r, h => h
  | f + 1, r, h => by
    unfold rwT
    split
    · rename_i hcc
      refine row_run hc hs f _ (Run.node 10 ?_)
      exact (h.app (leaf_run T (hc _ hcc))).app (hs _)
    · exact h
theorem parts_run {sub : St → RT} (hs : ∀ s, Run s (sub s)) {s : St} : ∀ f k r, Run s r → Run s (partsT T sub f k r)
  | 0, k, r, h => h
  | f + 1, k, r, h => by
    unfold partsT
    split
    · rename_i hcc
      refine parts_run hs f _ _ ?_
      refine (h.app (leaf_run T (is_kind hcc).1)).app ?_
      refine (hs _).same ?_ ?_
      · intro e
        split at e
        · exact absurd e (fail_e T (by decide) _)
        · exact e
      · split
        · exact fail_i _ _ _
        · rfl
    · exact h

structure NxR (nt : NxT) : Prop where
  expr : ∀ s, Run s (nt.expr s)
  formula : ∀ s, Run s (nt.formula s)
  nots : ∀ s, Run s (nt.nots s)
  factor : ∀ s, Run s (nt.factor s)
end

section
variable (T : List Tok) (D n : Nat) {nt : NxT} (h : NxR nt)
include h
theorem args_run (s : St) : Run s (argsT T nt s) := parts_run T h.expr _ _ _ (h.expr s)
omit h in
theorem nameB_run {s : St} {a : RT} (ha : Run s a) : Run s (nameBT T a) := by
  unfold nameBT
  split
  · rename_i hc; exact (ha.app (leaf_run T (is_kind hc).1)).app (kind_run T (by decide) _)
  · exact ha
omit h in
theorem nameC_run {s : St} {a : RT} (ha : Run s a) : Run s (nameCT T a) := ha.app (must_run T _ _)
theorem nameD_run {s : St} {a : RT} (ha : Run s a) : Run s (nameDT T nt a) := by
  unfold nameDT
  split
  · exact ha
  · exact ha.app (args_run T h _)
omit h in
theorem nameE_run {s : St} {a : RT} (ha : Run s a) : Run s (nameET T a) := Run.node 13 (ha.app (must_run T _ _))
theorem name_run {s : St} (hk : (tokQ T s).kind ≠ 5) : Run s (nameT T nt s) := by
  unfold nameT
  split
  · exact Run.node 14 (leaf_run T hk)
  · exact nameE_run T (nameD_run T h (nameC_run T (nameB_run T (leaf_run T hk))))
theorem atom_run (s : St) : Run s (atomT T nt s) := by
  unfold atomT
  split
  · rename_i he; exact Run.bad he
  split
  · rename_i hk; exact Run.node 15 (leaf_run T (by rw [hk]; decide))
  split
  · rename_i hk; exact Run.node 16 (leaf_run T (by rcases hk with hk | hk <;> exact (is_kind hk).1))
  split
  · rename_i hk; exact Run.node 17 (leaf_run T (is_kind hk.2).1)
  split
  · rename_i hk; exact Run.node 12 (((leaf_run T (is_kind hk).1).app (h.expr _)).app (must_run T _ _))
  split
  · rename_i hk; exact name_run T h (by rw [hk]; decide)
  · exact fail_run T (by decide) s s []
omit h in
theorem sign_run {sub : St → RT} (hs : ∀ s, Run s (sub s)) {s : St} (hk : (tokQ T s).kind ≠ 5) : Run s (signT T D n sub s) := by
  unfold signT
  simp only []
  split
  · rename_i he; exact Run.bad he
  · exact Run.node 11 ((leaf_run T hk).app (nest_run T (hs _)))
theorem factor_run (s : St) : Run s (factorT T D n nt s) := by
  unfold factorT
  split
  · rename_i hk; exact sign_run T D n h.factor (is_kind hk).1
  · exact atom_run T h s
theorem product_run (s : St) : Run s (productT T D n nt s) := row_run T (fun _ hc => mul_kind hc) (factor_run T D n h) _ _ (factor_run T D n h s)
theorem sum_run (s : St) : Run s (sumT T D n nt s) := row_run T (fun _ hc => add_kind hc) (product_run T D n h) _ _ (product_run T D n h s)
theorem not_run (s : St) : Run s (notT T D n nt s) := by
  unfold notT
  simp only []
  split
  · rename_i hk; exact sign_run T D n h.nots (is_kind hk).1
  split
  · rename_i hk; exact Run.node 10 (((sum_run T D n h s).app (leaf_run T (cmp_kind hk))).app (sum_run T D n h _))
  · exact sum_run T D n h s
theorem and_run (s : St) : Run s (andT T D n nt s) := row_run T (fun _ hc => (is_kind hc).1) (not_run T D n h) _ _ (not_run T D n h s)
theorem or_run (s : St) : Run s (orT T D n nt s) := row_run T (fun _ hc => (is_kind hc).1) (and_run T D n h) _ _ (and_run T D n h s)
theorem formula_run (s : St) : Run s (formulaT T D n nt s) := by
  unfold formulaT
  simp only []
  split
  · rename_i hk
    split
    · rename_i he; exact Run.bad he
    · exact Run.node 10 (((or_run T D n h s).app (leaf_run T (is_kind hk).1)).app (nest_run T (h.formula _)))
  · exact or_run T D n h s
theorem let_run {s : St} (hk : (tokQ T s).kind ≠ 5) : Run s (letT T nt s) :=
  Run.node 7 ((((((leaf_run T hk).app (kind_run T (by decide) _)).app (must_run T _ _)).app (h.expr _)).app (must_run T _ _)).app (h.expr _))
theorem if_run {s : St} (hk : (tokQ T s).kind ≠ 5) : Run s (ifT T nt s) :=
  Run.node 8 ((((((leaf_run T hk).app (h.expr _)).app (must_run T _ _)).app (h.expr _)).app (must_run T _ _)).app (h.expr _))
theorem assert_run {s : St} (hk : (tokQ T s).kind ≠ 5) : Run s (assertT T nt s) :=
  Run.node 9 ((((leaf_run T hk).app (h.expr _)).app (must_run T _ _)).app (h.expr _))
theorem expr_run (s : St) : Run s (exprT T D n nt s) := by
  unfold exprT
  simp only []
  split
  · rename_i he; exact Run.bad he
  split
  · rename_i hk; exact nest_run T (let_run T h (is_kind hk.2).1)
  split
  · rename_i hk; exact nest_run T (if_run T h (is_kind hk.2).1)
  split
  · rename_i hk; exact nest_run T (assert_run T h (is_kind hk.2).1)
  · exact nest_run T (formula_run T D n h _)
end
theorem nx_run (T : List Tok) (D : Nat) : ∀ d, NxR (nxT T D d)
  | 0 => ⟨fun s => nest_run T (Run.nil _), fun s => Run.nil s, fun s => Run.nil s, fun s => Run.nil s⟩
  | d + 1 => ⟨expr_run T D _ (nx_run T D d), formula_run T D _ (nx_run T D d), not_run T D _ (nx_run T D d), factor_run T D _ (nx_run T D d)⟩

section
variable (T : List Tok) {et : St → RT} (h : ∀ s, Run s (et s))
include h
omit h in
theorem typB_run {s : St} {a : RT} (ha : Run s a) : Run s (typBT T a) := by
  unfold typBT
  split
  · rename_i hk; exact ha.app (Run.node 5 (leaf_run T (by rcases hk with hk | hk <;> exact (is_kind hk).1)))
  · exact fail_run T (by decide) s _ _
theorem typC_run {s : St} {a : RT} (ha : Run s a) : Run s (typCT T et a) := by
  unfold typCT
  split
  · rename_i hk
    refine ha.app (Run.node 6 (((leaf_run T (is_kind hk).1).app ?_).app ?_))
    · exact (h _).same (fun e => e) rfl
    · exact (must_run T _ _).same (fun e => e) rfl
  · exact ha
theorem typed_run (s : St) : Run s (typedT T et s) := typC_run T h (typB_run T (must_run T _ s))
theorem par_run (s : St) : Run s (parT T et s) := Run.node 4 ((kind_run T (by decide) s).app (typed_run T h _))
theorem params_run (s : St) : Run s (paramsT T et s) := parts_run T (par_run T h) _ _ _ (par_run T h s)
omit h in
theorem defA_run (s : St) : Run s (defAT T s) := by
  unfold defAT
  split
  · rename_i hk; exact leaf_run T (is_kind hk).1
  · exact Run.nil s
omit h in
theorem defB_run {s : St} {a : RT} (ha : Run s a) : Run s (defBT T a) := ha.app (((must_run T _ _).app (kind_run T (by decide) _)).app (must_run T _ _))
theorem defC_run {s : St} {a : RT} (ha : Run s a) : Run s (defCT T et a) := by
  unfold defCT
  split
  · exact ha.app (params_run T h _)
  · exact ha
theorem defD_run {s : St} {a : RT} (ha : Run s a) : Run s (defDT T et a) :=
  ((ha.app (((must_run T _ _).app (typed_run T h _)).app (must_run T _ _))).app (h _)).app (must_run T _ _)
theorem def_run (s : St) : Run s (defT T et s) := Run.node 3 (defD_run T h (defC_run T h (defB_run T (defA_run T s))))
omit h in
theorem impStep_run {s : St} {r : RT} (hr : Run s r) (hc : isQ T [105, 109, 112, 111, 114, 116] r.2 = true) : Run s (impStepT T r) :=
  hr.app (Run.node 2 (((leaf_run T (is_kind hc).1).app (kind_run T (by decide) _)).app (must_run T _ _)))
omit h in
theorem many_run {c : St → Bool} {step : RT → RT} {most : Nat} {s : St} (hs : ∀ r, c r.2 = true → Run s r → Run s (step r)) : ∀ f k r, Run s r → Run s (manyT T c step most f k r).2
  | 0, k, r, hr => hr
  | f + 1, k, r, hr => by
    unfold manyT
    split
    · rename_i hc
      split
      · exact fail_run T (by decide) s _ _
      · exact many_run hs f _ _ (hs r hc hr)
    · exact hr
omit h in
/-- The end comes: it is the last token. -/
theorem end_run {s : St} {r : RT} (hr : Run s r) (he : (kindT T 5 r.2).2.e = 0) : s.e = 0 ∧ (tokQ T r.2).kind = 5 ∧ s.i ≤ r.2.i ∧ lvTs (r.1 ++ (kindT T 5 r.2).1) = List.range' s.i (r.2.i + 1 - s.i) := by
  unfold kindT at he ⊢
  split at he
  · rename_i hk
    obtain ⟨h1, h2, h3⟩ := hr hk.1
    rw [if_pos hk]
    refine ⟨h1, hk.2, h2, ?_⟩
    rw [lvTs_append, h3]
    have h4 : r.2.i + 1 - s.i = (r.2.i - s.i) + 1 := by omega
    have h5 : r.2.i = s.i + 1 * (r.2.i - s.i) := by omega
    rw [h4, ← List.range'_append, ← h5]
    simp [leafT, lvTs, lvT]
  · exact absurd he (fail_e T (by decide) _)
omit h in
theorem end_place (hE : EndT T) {s : St} (hok : (kindT T 5 s).2.i < T.length) (hk : (tokQ T s).kind = 5) : s.i + 1 = T.length := by
  have e : (kindT T 5 s).2.i = s.i := by
    unfold kindT
    split
    · show (leafQ T s).2.i = s.i
      unfold leafQ; rw [if_pos hk]
    · exact fail_i T 22 s
  rw [e] at hok
  have ht : T[s.i]? = some (tokQ T s) := by unfold tokQ; rw [List.getElem?_eq_getElem hok]; rfl
  exact (hE _ _ ht).1 hk
/-- A program's leaves are all the tokens. -/
theorem program_run (hE : EndT T) {s : St} (hs : s.i = 0) (hok : (programT T et s).2.i < T.length) (he : (programT T et s).2.e = 0) : lvTs (programT T et s).1 = List.range T.length := by
  have hb1' : (importsT T ([], s)).1 = false → (importsT T ([], s)).2.2.e ≠ 0 := many_bad T _ _ _
  have hI : Run s (importsT T ([], s)).2 := many_run T (fun r hc hr => impStep_run T hr hc) _ _ _ (Run.nil s)
  have hb2' : (defsT T et (importsT T ([], s)).2).1 = false → (defsT T et (importsT T ([], s)).2).2.2.e ≠ 0 := many_bad T _ _ _
  have hD : Run s (defsT T et (importsT T ([], s)).2).2 := many_run T (fun r hc hr => hr.app (def_run T h _)) _ _ _ hI
  unfold programT at he hok ⊢
  split at he
  · rename_i hc; exact absurd he (hb1' hc)
  · rename_i hc1
    split at he
    · rename_i hc; exact absurd he (hb2' hc)
    · rename_i hc2
      rw [if_neg hc1, if_neg hc2]
      obtain ⟨-, hk, -, hl⟩ := end_run T hD he
      show lvTs (_ ++ _) = _
      rw [hl, hs]
      rw [if_neg hc1, if_neg hc2] at hok
      have hi := end_place T (s := (defsT T et (importsT T ([], s)).2).2.2) hE hok hk
      rw [hi, Nat.sub_zero, List.range_eq_range']
/-- So are a formula's. -/
theorem alone_run (hE : EndT T) {s : St} (hs : s.i = 0) (hok : (aloneT T et s).2.i < T.length) (he : (aloneT T et s).2.e = 0) : lvTs (aloneT T et s).1 = List.range T.length := by
  have hX : Run s (et (setIn true s)) := (h _).same (fun e => e) rfl
  unfold aloneT at he hok ⊢
  simp only [] at he hok ⊢
  obtain ⟨-, hk, -, hl⟩ := end_run T hX he
  rw [hl, hs, end_place T hE hok hk, Nat.sub_zero, List.range_eq_range']
end
end Go.Proofs.YtmlcpihedmmlfaaGreatDoor
namespace Go.Proofs.YtmlcpihedmmlfaaGreatDoor

structure Good (T : List Tok) (s : St) (r : RT) : Prop where
  stay : s.e ≠ 0 → r.2.e = s.e ∧ r.2.pos = s.pos ∧ r.2.i = s.i
  mono : s.i ≤ r.2.i
  place : s.e = 0 → r.2.e ≠ 0 → r.2.pos = (tokQ T r.2).pos
  inr : EndT T → s.i < T.length → r.2.i < T.length
theorem Good.nil (T : List Tok) (s : St) : Good T s ([], s) := ⟨fun _ => ⟨rfl, rfl, rfl⟩, Nat.le_refl _, fun h e => absurd h e, fun _ h => h⟩
theorem Good.self (T : List Tok) (r : RT) : Good T r.2 r := ⟨fun _ => ⟨rfl, rfl, rfl⟩, Nat.le_refl _, fun h e => absurd h e, fun _ h => h⟩
theorem Good.app {T : List Tok} {s : St} {a b : RT} (h1 : Good T s a) (h2 : Good T a.2 b) : Good T s (a.1 ++ b.1, b.2) := by
  refine ⟨fun e => ?_, Nat.le_trans h1.mono h2.mono, fun e eb => ?_, fun hE h => h2.inr hE (h1.inr hE h)⟩
  · obtain ⟨a1, a2, a3⟩ := h1.stay e
    obtain ⟨b1, b2, b3⟩ := h2.stay (by rw [a1]; exact e)
    exact ⟨b1.trans a1, b2.trans a2, b3.trans a3⟩
  · by_cases ea : a.2.e = 0
    · exact h2.place ea eb
    · obtain ⟨b1, b2, b3⟩ := h2.stay ea
      have := h1.place e ea
      show b.2.pos = (tokQ T b.2).pos
      have e2 : tokQ T b.2 = tokQ T a.2 := by unfold tokQ; rw [b3]
      rw [b2, e2]; exact this
theorem Good.state {T : List Tok} {s : St} {a b : RT} (h1 : Good T s a) (h2 : Good T a.2 b) {l : List Tr} : Good T s (l, b.2) :=
  ⟨(h1.app h2).stay, (h1.app h2).mono, (h1.app h2).place, (h1.app h2).inr⟩
theorem Good.node {T : List Tok} {s : St} {l : List Tr} {t : St} (k : Nat) (h : Good T s (l, t)) : Good T s ([.nd k l], t) := ⟨h.stay, h.mono, h.place, h.inr⟩
theorem Good.inn {T : List Tok} {s : St} {v : Bool} {r : RT} (h : Good T (setIn v s) r) : Good T s r := ⟨h.stay, h.mono, h.place, h.inr⟩
theorem mul_e {T : List Tok} {s : St} (h : isMul T s = true) : s.e = 0 := by
  unfold isMul at h; simp only [Bool.or_eq_true] at h; rcases h with (h | h) | h <;> exact (is_kind h).2
theorem add_e {T : List Tok} {s : St} (h : isAdd T s = true) : s.e = 0 := by
  unfold isAdd at h; simp only [Bool.or_eq_true] at h; rcases h with h | h <;> exact (is_kind h).2
theorem cmp_e {T : List Tok} {s : St} (h : isCmp T s = true) : s.e = 0 := by
  unfold isCmp at h; simp only [Bool.or_eq_true] at h; rcases h with ((((h | h) | h) | h) | h) | h <;> exact (is_kind h).2

section
variable (T : List Tok)
theorem leaf_good {s : St} (h : s.e = 0) : Good T s (leafT T s) := by
  have h1 : (leafT T s).2.e = 0 := by show (leafQ T s).2.e = 0; unfold leafQ; split <;> exact h
  refine ⟨fun e => absurd h e, ?_, fun _ e => absurd h1 e, fun hE hl => ?_⟩
  rotate_left
  · show (leafQ T s).2.i < T.length
    have ht : T[s.i]? = some (tokQ T s) := by unfold tokQ; rw [List.getElem?_eq_getElem hl]; rfl
    have := hE _ _ ht
    unfold leafQ; split
    · exact hl
    · show s.i + 1 < T.length; omega
  show s.i ≤ (leafQ T s).2.i
  unfold leafQ; split
  · exact Nat.le_refl _
  · exact Nat.le_succ _
theorem fail_good (n : Nat) (s : St) (l : List Tr) : Good T s (l, failQ T n s) := by
  refine ⟨fun e => ?_, ?_, fun e _ => ?_, fun _ hl => by show (failQ T n s).i < _; rw [fail_i]; exact hl⟩
  · have h : failQ T n s = s := by unfold failQ; rw [if_neg e]
    show (failQ T n s).e = s.e ∧ (failQ T n s).pos = s.pos ∧ (failQ T n s).i = s.i
    rw [h]; exact ⟨rfl, rfl, rfl⟩
  · show s.i ≤ (failQ T n s).i; rw [fail_i]; exact Nat.le_refl _
  · show (failQ T n s).pos = (tokQ T (failQ T n s)).pos; unfold failQ; rw [if_pos e]; rfl
theorem must_good (w : List UInt8) (s : St) : Good T s (mustT T w s) := by
  unfold mustT
  split
  · rename_i h; exact leaf_good T (is_kind h).2
  · exact fail_good T 22 s []
theorem kind_good (k : Nat) (s : St) : Good T s (kindT T k s) := by
  unfold kindT
  split
  · rename_i h; exact leaf_good T h.1
  · exact fail_good T 22 s []
theorem nest_good {D n : Nat} {s : St} {r : RT} (h : Good T (nestQ T D n s) r) : Good T s r := by
  have h0 : Good T s (([] : List Tr), nestQ T D n s) := by
    unfold nestQ; split
    · exact fail_good T 23 s []
    · exact Good.nil T s
  exact h0.app h
theorem row_good {c : St → Bool} {sub : St → RT} (hc : ∀ s, c s = true → s.e = 0) (hs : ∀ s, Good T s (sub s)) {s : St} : ∀ f r, Good T s r → Good T s (rwT T c sub f r)
  | 0, r, h => h
  | f + 1, r, h => by
    unfold rwT
    split
    · rename_i hcc
      refine row_good hc hs f _ (Good.node 10 ?_)
      exact (h.app (leaf_good T (hc _ hcc))).app (hs _)
    · exact h
theorem parts_good {sub : St → RT} (hs : ∀ s, Good T s (sub s)) {s : St} : ∀ f k r, Good T s r → Good T s (partsT T sub f k r)
  | 0, k, r, h => h
  | f + 1, k, r, h => by
    unfold partsT
    split
    · rename_i hcc
      refine parts_good hs f _ _ ?_
      refine (h.app (leaf_good T (is_kind hcc).2)).app ?_
      split
      · exact (fail_good T 15 _ []).app (hs _)
      · exact hs _
    · exact h

structure NxG (T : List Tok) (nt : NxT) : Prop where
  expr : ∀ s, Good T s (nt.expr s)
  formula : ∀ s, Good T s (nt.formula s)
  nots : ∀ s, Good T s (nt.nots s)
  factor : ∀ s, Good T s (nt.factor s)
end

section
variable (T : List Tok) (D n : Nat) {nt : NxT} (h : NxG T nt)
include h
theorem args_good (s : St) : Good T s (argsT T nt s) := parts_good T h.expr _ _ _ (h.expr s)
omit h in
theorem nameB_good {s : St} {a : RT} (ha : Good T s a) : Good T s (nameBT T a) := by
  unfold nameBT
  split
  · rename_i hc; exact (ha.app (leaf_good T (is_kind hc).2)).app (kind_good T _ _)
  · exact ha
omit h in
theorem nameC_good {s : St} {a : RT} (ha : Good T s a) : Good T s (nameCT T a) := ha.app (must_good T _ _)
theorem nameD_good {s : St} {a : RT} (ha : Good T s a) : Good T s (nameDT T nt a) := by
  unfold nameDT
  split
  · exact ha
  · exact ha.app (args_good T h _)
omit h in
theorem nameE_good {s : St} {a : RT} (ha : Good T s a) : Good T s (nameET T a) := Good.node 13 (ha.app (must_good T _ _))
theorem name_good {s : St} (hk : s.e = 0) : Good T s (nameT T nt s) := by
  unfold nameT
  split
  · exact Good.node 14 (leaf_good T hk)
  · exact nameE_good T (nameD_good T h (nameC_good T (nameB_good T (leaf_good T hk))))
theorem atom_good (s : St) : Good T s (atomT T nt s) := by
  unfold atomT
  split
  · exact Good.nil T s
  rename_i he
  have he : s.e = 0 := by omega
  split
  · exact Good.node 15 (leaf_good T he)
  split
  · exact Good.node 16 (leaf_good T he)
  split
  · exact Good.node 17 (leaf_good T he)
  split
  · exact Good.node 12 (((leaf_good T he).app (h.expr _)).app (must_good T _ _))
  split
  · exact name_good T h he
  · exact fail_good T 22 s []
omit h in
theorem sign_good {sub : St → RT} (hs : ∀ s, Good T s (sub s)) {s : St} (hk : s.e = 0) : Good T s (signT T D n sub s) := by
  unfold signT
  simp only []
  split
  · exact (leaf_good T hk).state (nest_good T (Good.nil T _))
  · exact Good.node 11 ((leaf_good T hk).app (nest_good T (hs _)))
theorem factor_good (s : St) : Good T s (factorT T D n nt s) := by
  unfold factorT
  split
  · rename_i hk; exact sign_good T D n h.factor (is_kind hk).2
  · exact atom_good T h s
theorem product_good (s : St) : Good T s (productT T D n nt s) := row_good T (fun _ hc => mul_e hc) (factor_good T D n h) _ _ (factor_good T D n h s)
theorem sum_good (s : St) : Good T s (sumT T D n nt s) := row_good T (fun _ hc => add_e hc) (product_good T D n h) _ _ (product_good T D n h s)
theorem not_good (s : St) : Good T s (notT T D n nt s) := by
  unfold notT
  simp only []
  split
  · rename_i hk; exact sign_good T D n h.nots (is_kind hk).2
  split
  · rename_i hk; exact Good.node 10 (((sum_good T D n h s).app (leaf_good T (cmp_e hk))).app (sum_good T D n h _))
  · exact sum_good T D n h s
theorem and_good (s : St) : Good T s (andT T D n nt s) := row_good T (fun _ hc => (is_kind hc).2) (not_good T D n h) _ _ (not_good T D n h s)
theorem or_good (s : St) : Good T s (orT T D n nt s) := row_good T (fun _ hc => (is_kind hc).2) (and_good T D n h) _ _ (and_good T D n h s)
theorem formula_good (s : St) : Good T s (formulaT T D n nt s) := by
  unfold formulaT
  simp only []
  split
  · rename_i hk
    split
    · exact ((or_good T D n h s).app (leaf_good T (is_kind hk).2)).state (nest_good T (Good.nil T _))
    · exact Good.node 10 (((or_good T D n h s).app (leaf_good T (is_kind hk).2)).app (nest_good T (h.formula _)))
  · exact or_good T D n h s
theorem let_good {s : St} (hk : s.e = 0) : Good T s (letT T nt s) :=
  Good.node 7 ((((((leaf_good T hk).app (kind_good T _ _)).app (must_good T _ _)).app (h.expr _)).app (must_good T _ _)).app (h.expr _))
theorem if_good {s : St} (hk : s.e = 0) : Good T s (ifT T nt s) :=
  Good.node 8 ((((((leaf_good T hk).app (h.expr _)).app (must_good T _ _)).app (h.expr _)).app (must_good T _ _)).app (h.expr _))
theorem assert_good {s : St} (hk : s.e = 0) : Good T s (assertT T nt s) :=
  Good.node 9 ((((leaf_good T hk).app (h.expr _)).app (must_good T _ _)).app (h.expr _))
theorem expr_good (s : St) : Good T s (exprT T D n nt s) := by
  unfold exprT
  simp only []
  split
  · exact nest_good T (Good.nil T _)
  split
  · rename_i hk; exact nest_good T (let_good T h (is_kind hk.2).2)
  split
  · rename_i hk; exact nest_good T (if_good T h (is_kind hk.2).2)
  split
  · rename_i hk; exact nest_good T (assert_good T h (is_kind hk.2).2)
  · exact nest_good T (formula_good T D n h _)
end
theorem nx_good (T : List Tok) (D : Nat) : ∀ d, NxG T (nxT T D d)
  | 0 => ⟨fun s => nest_good T (Good.nil T _), fun s => Good.nil T s, fun s => Good.nil T s, fun s => Good.nil T s⟩
  | d + 1 => ⟨expr_good T D _ (nx_good T D d), formula_good T D _ (nx_good T D d), not_good T D _ (nx_good T D d), factor_good T D _ (nx_good T D d)⟩

section
variable (T : List Tok) {et : St → RT} (h : ∀ s, Good T s (et s))
include h
omit h in
theorem typB_good {s : St} {a : RT} (ha : Good T s a) : Good T s (typBT T a) := by
  unfold typBT
  split
  · rename_i hk; exact ha.app (Good.node 5 (leaf_good T (by rcases hk with hk | hk <;> exact (is_kind hk).2)))
  · exact ha.state (fail_good T 22 _ [])
theorem typC_good {s : St} {a : RT} (ha : Good T s a) : Good T s (typCT T et a) := by
  unfold typCT
  split
  · rename_i hk
    refine ha.app (Good.node 6 (((leaf_good T (is_kind hk).2).app ?_).app ?_))
    · exact (h _).inn
    · exact (must_good T _ _).inn
  · exact ha
theorem typed_good (s : St) : Good T s (typedT T et s) := typC_good T h (typB_good T (must_good T _ s))
theorem par_good (s : St) : Good T s (parT T et s) := Good.node 4 ((kind_good T _ s).app (typed_good T h _))
theorem params_good (s : St) : Good T s (paramsT T et s) := parts_good T (par_good T h) _ _ _ (par_good T h s)
omit h in
theorem defA_good (s : St) : Good T s (defAT T s) := by
  unfold defAT
  split
  · rename_i hk; exact leaf_good T (is_kind hk).2
  · exact Good.nil T s
omit h in
theorem defB_good {s : St} {a : RT} (ha : Good T s a) : Good T s (defBT T a) := ha.app (((must_good T _ _).app (kind_good T _ _)).app (must_good T _ _))
theorem defC_good {s : St} {a : RT} (ha : Good T s a) : Good T s (defCT T et a) := by
  unfold defCT
  split
  · exact ha.app (params_good T h _)
  · exact ha
theorem defD_good {s : St} {a : RT} (ha : Good T s a) : Good T s (defDT T et a) :=
  ((ha.app (((must_good T _ _).app (typed_good T h _)).app (must_good T _ _))).app (h _)).app (must_good T _ _)
theorem def_good (s : St) : Good T s (defT T et s) := Good.node 3 (defD_good T h (defC_good T h (defB_good T (defA_good T s))))
omit h in
theorem impStep_good {s : St} {r : RT} (hr : Good T s r) (hc : isQ T [105, 109, 112, 111, 114, 116] r.2 = true) : Good T s (impStepT T r) :=
  hr.app (Good.node 2 (((leaf_good T (is_kind hc).2).app (kind_good T _ _)).app (must_good T _ _)))
omit h in
theorem many_good {c : St → Bool} {step : RT → RT} {most : Nat} {s : St} (hs : ∀ r, c r.2 = true → Good T s r → Good T s (step r)) : ∀ f k r, Good T s r → Good T s (manyT T c step most f k r).2
  | 0, k, r, hr => hr
  | f + 1, k, r, hr => by
    unfold manyT
    split
    · rename_i hc
      split
      · exact hr.state (fail_good T 15 _ [])
      · exact many_good hs f _ _ (hs r hc hr)
    · exact hr
end
end Go.Proofs.YtmlcpihedmmlfaaGreatDoor
namespace Go.Proofs.YtmlcpihedmmlfaaGreatDoor

/-- Places grow. -/
def Grow (T : List Tok) : Prop := ∀ s t : St, s.i ≤ t.i → t.i < T.length → (tokQ T s).pos ≤ (tokQ T t).pos
structure Bad (T : List Tok) (t t' : St) : Prop where
  deep : t.e = 23
  le : t.i ≤ t'.i
  late : t'.e = 23 → t.pos ≤ t'.pos
  place : t.pos = (tokQ T t).pos
  inr : t'.i < T.length
def RS (T : List Tok) (r r' : RT) : Prop := r = r' ∨ Bad T r.2 r'.2
/-- Two functions of which the first has the smaller depth. -/
structure RF (T : List Tok) (f f' : St → RT) : Prop where
  rel : ∀ s, s.i < T.length → RS T (f s) (f' s)
  one : ∀ s, Good T s (f s)
  two : ∀ s, Good T s (f' s)

section
variable {T : List Tok} (hE : EndT T) (hM : Grow T)
include hE hM
theorem Bad.go {t t' : St} (h : Bad T t t') {r r' : RT} (g : Good T t r) (g' : Good T t' r') : Bad T r.2 r'.2 := by
  obtain ⟨a1, a2, a3⟩ := g.stay (by rw [h.deep]; decide)
  have hin := g'.inr hE h.inr
  have hle := Nat.le_trans h.le g'.mono
  refine ⟨a1.trans h.deep, by rw [a3]; exact hle, fun e => ?_, ?_, hin⟩
  · rw [a2]
    by_cases e0 : t'.e = 0
    · rw [g'.place e0 (by rw [e]; decide), h.place]; exact hM _ _ hle hin
    · obtain ⟨b1, b2, -⟩ := g'.stay e0
      rw [b2]; exact h.late (b1.symm.trans e)
  · rw [a2, h.place]; unfold tokQ; rw [a3]
theorem RS.then {a a' : RT} (h : RS T a a') {g g' : RT → RT} (h1 : a = a' → RS T (g a) (g' a)) (g1 : Good T a.2 (g a)) (g2 : Good T a'.2 (g' a')) : RS T (g a) (g' a') := by
  rcases h with e | hb
  · rw [← e]; exact h1 e
  · exact .inr (hb.go hE hM g1 g2)
omit hE hM in
theorem RS.put {a a' : RT} (h : RS T a a') (k : List Tr → List Tr) : RS T (k a.1, a.2) (k a'.1, a'.2) := by
  rcases h with e | hb
  · rw [e]; exact .inl rfl
  · exact .inr hb
theorem RS.app {a a' : RT} (h : RS T a a') {f f' : St → RT} (hf : RF T f f') (ha : a.2.i < T.length) : RS T (a.1 ++ (f a.2).1, (f a.2).2) (a'.1 ++ (f' a'.2).1, (f' a'.2).2) := by
  rcases h with e | hb
  · rw [← e]; exact RS.put (hf.rel _ ha) (fun l => a.1 ++ l)
  · exact .inr (hb.go hE hM ((Good.self T a).app (hf.one _)) ((Good.self T a').app (hf.two _)))
omit hE hM in
theorem RF.same {f : St → RT} (h : ∀ s, Good T s (f s)) : RF T f f := ⟨fun _ _ => .inl rfl, h, h⟩
omit hE hM in
theorem must_rf (w : List UInt8) : RF T (mustT T w) (mustT T w) := RF.same (must_good T w)
omit hE hM in
theorem kind_rf (k : Nat) : RF T (kindT T k) (kindT T k) := RF.same (kind_good T k)
theorem row_rs {c : St → Bool} (hc : ∀ s, c s = true → s.e = 0) {sub sub' : St → RT} (hs : RF T sub sub') : ∀ f r, r.2.i < T.length → RS T (rwT T c sub f r) (rwT T c sub' f r)
  | 0, r, h => .inl rfl
  | f + 1, r, h => by
    unfold rwT
    split
    · rename_i hcc
      have hl := (leaf_good T (hc _ hcc)).inr hE h
      have h1 := hs.rel (leafT T r.2).2 hl
      have h2 : RS T ([.nd 10 (r.1 ++ (leafT T r.2).1 ++ (sub (leafT T r.2).2).1)], (sub (leafT T r.2).2).2) ([.nd 10 (r.1 ++ (leafT T r.2).1 ++ (sub' (leafT T r.2).2).1)], (sub' (leafT T r.2).2).2) := RS.put h1 (fun l => [.nd 10 (r.1 ++ (leafT T r.2).1 ++ l)])
      exact RS.then hE hM h2 (g := rwT T c sub f) (g' := rwT T c sub' f) (fun _ => row_rs hc hs f _ ((hs.one _).inr hE hl)) (row_good T hc hs.one f _ (Good.self T _)) (row_good T hc hs.two f _ (Good.self T _))
    · exact .inl rfl
theorem row_rf {c : St → Bool} (hc : ∀ s, c s = true → s.e = 0) {sub sub' : St → RT} (hs : RF T sub sub') : RF T (fun s => rwT T c sub (fuelQ T (sub s).2) (sub s)) (fun s => rwT T c sub' (fuelQ T (sub' s).2) (sub' s)) := by
  refine ⟨fun s h => ?_, fun s => row_good T hc hs.one _ _ (hs.one s), fun s => row_good T hc hs.two _ _ (hs.two s)⟩
  exact RS.then hE hM (hs.rel s h) (g := fun r => rwT T c sub (fuelQ T r.2) r) (g' := fun r => rwT T c sub' (fuelQ T r.2) r) (fun _ => row_rs hE hM hc hs _ _ ((hs.one s).inr hE h)) (row_good T hc hs.one _ _ (Good.self T _)) (row_good T hc hs.two _ _ (Good.self T _))
theorem parts_rs {sub sub' : St → RT} (hs : RF T sub sub') : ∀ f k r, r.2.i < T.length → RS T (partsT T sub f k r) (partsT T sub' f k r)
  | 0, k, r, h => .inl rfl
  | f + 1, k, r, h => by
    unfold partsT
    split
    · rename_i hcc
      have hl := (leaf_good T (is_kind hcc).2).inr hE h
      have hl2 : (if k = 8 then failQ T 15 (leafT T r.2).2 else (leafT T r.2).2).i < T.length := by split; rw [fail_i]; exact hl; exact hl
      have h1 := hs.rel _ hl2
      have h2 := RS.put h1 (fun l => r.1 ++ (leafT T r.2).1 ++ l)
      exact RS.then hE hM h2 (g := partsT T sub f (k + 1)) (g' := partsT T sub' f (k + 1)) (fun _ => parts_rs hs f _ _ ((hs.one _).inr hE hl2)) (parts_good T hs.one f _ _ (Good.self T _)) (parts_good T hs.two f _ _ (Good.self T _))
    · exact .inl rfl
theorem parts_rf {sub sub' : St → RT} (hs : RF T sub sub') : RF T (fun s => partsT T sub (fuelQ T (sub s).2) 1 (sub s)) (fun s => partsT T sub' (fuelQ T (sub' s).2) 1 (sub' s)) := by
  refine ⟨fun s h => ?_, fun s => parts_good T hs.one _ _ _ (hs.one s), fun s => parts_good T hs.two _ _ _ (hs.two s)⟩
  exact RS.then hE hM (hs.rel s h) (g := fun r => partsT T sub (fuelQ T r.2) 1 r) (g' := fun r => partsT T sub' (fuelQ T r.2) 1 r) (fun _ => parts_rs hE hM hs _ _ _ ((hs.one s).inr hE h)) (parts_good T hs.one _ _ _ (Good.self T _)) (parts_good T hs.two _ _ _ (Good.self T _))

variable {D D' : Nat} (hD : D ≤ D')
include hD
theorem nest_rs (m : Nat) {f f' : St → RT} (hf : m ≤ D → ∀ s, s.i < T.length → RS T (f s) (f' s)) (g' : ∀ s, s.e = 0 → Good T s (f' s)) (s : St) (hs : s.i < T.length) :
    RS T (if (nestQ T D m s).e ≠ 0 then ([], nestQ T D m s) else f (nestQ T D m s)) (if (nestQ T D' m s).e ≠ 0 then ([], nestQ T D' m s) else f' (nestQ T D' m s)) := by
  by_cases hm : m ≤ D
  · have e1 : nestQ T D m s = s := by unfold nestQ; rw [if_neg (by omega)]
    have e2 : nestQ T D' m s = s := by unfold nestQ; rw [if_neg (by omega)]
    rw [e1, e2]
    split
    · exact .inl rfl
    · exact hf hm s hs
  · have e1 : nestQ T D m s = failQ T 23 s := by unfold nestQ; rw [if_pos (by omega)]
    rw [e1, if_pos (fail_e T (by decide) s)]
    by_cases hm2 : m ≤ D'
    · have e2 : nestQ T D' m s = s := by unfold nestQ; rw [if_neg (by omega)]
      rw [e2]
      by_cases he : s.e = 0
      · rw [if_neg (by omega)]
        have hg := g' s he
        have e3 : failQ T 23 s = { s with e := 23, pos := (tokQ T s).pos } := by unfold failQ; rw [if_pos he]
        rw [e3]
        refine .inr ⟨rfl, hg.mono, fun e => ?_, rfl, hg.inr hE hs⟩
        show (tokQ T s).pos ≤ _
        rw [hg.place he (by rw [e]; decide)]
        exact hM _ _ hg.mono (hg.inr hE hs)
      · rw [if_pos he]
        have e3 : failQ T 23 s = s := by unfold failQ; rw [if_neg he]
        rw [e3]; exact .inl rfl
    · have e2 : nestQ T D' m s = failQ T 23 s := by unfold nestQ; rw [if_pos (by omega)]
      rw [e2, if_pos (fail_e T (by decide) s)]; exact .inl rfl

/-- The same of what is nested by one more: but expressions, only where there is room. -/
structure NxF (T : List Tok) (D n1 : Nat) (nt nt' : NxT) : Prop where
  one : NxG T nt
  two : NxG T nt'
  expr : ∀ s, s.i < T.length → RS T (nt.expr s) (nt'.expr s)
  formula : n1 ≤ D → ∀ s, s.i < T.length → RS T (nt.formula s) (nt'.formula s)
  nots : n1 ≤ D → ∀ s, s.i < T.length → RS T (nt.nots s) (nt'.nots s)
  factor : n1 ≤ D → ∀ s, s.i < T.length → RS T (nt.factor s) (nt'.factor s)

variable {n : Nat} {nt nt' : NxT} (h : NxF T D (n + 1) nt nt')
include h
omit hD in
theorem args_rf : RF T (argsT T nt) (argsT T nt') := parts_rf hE hM ⟨h.expr, h.one.expr, h.two.expr⟩
omit h in
theorem sign_rs {sub sub' : St → RT} (hs : n + 1 ≤ D → ∀ s, s.i < T.length → RS T (sub s) (sub' s)) (g' : ∀ s, Good T s (sub' s)) {s : St} (he : s.e = 0) (hl : s.i < T.length) : RS T (signT T D n sub s) (signT T D' n sub' s) := by
  unfold signT
  exact nest_rs hE hM hD (n + 1) (f := fun t => ([.nd 11 ((leafT T s).1 ++ (sub t).1)], (sub t).2)) (f' := fun t => ([.nd 11 ((leafT T s).1 ++ (sub' t).1)], (sub' t).2)) (fun hm t ht => RS.put (hs hm t ht) (fun l => [.nd 11 ((leafT T s).1 ++ l)])) (fun t _ => ⟨(g' t).stay, (g' t).mono, (g' t).place, (g' t).inr⟩) _ ((leaf_good T he).inr hE hl)
omit hD in
theorem nameD_rs (c : RT) (hc : c.2.i < T.length) : RS T (nameDT T nt c) (nameDT T nt' c) := by
  unfold nameDT
  split
  · exact .inl rfl
  · exact RS.put ((args_rf hE hM h).rel _ hc) (fun l => c.1 ++ l)
omit hD in
theorem name_rs {s : St} (he : s.e = 0) (hl : s.i < T.length) : RS T (nameT T nt s) (nameT T nt' s) := by
  unfold nameT
  split
  · exact .inl rfl
  · have g1 := nameC_good T (nameB_good T (leaf_good T he))
    exact RS.then hE hM (nameD_rs hE hM h _ (g1.inr hE hl)) (g := nameET T) (g' := nameET T) (fun e => by rw [e]; exact .inl rfl) (nameE_good T (Good.self T _)) (nameE_good T (Good.self T _))
omit hD in
theorem atom_rf : RF T (atomT T nt) (atomT T nt') := by
  refine ⟨fun s hl => ?_, atom_good T h.one, atom_good T h.two⟩
  unfold atomT
  split
  · exact .inl rfl
  rename_i he
  have he : s.e = 0 := by omega
  split
  · exact .inl rfl
  split
  · exact .inl rfl
  split
  · exact .inl rfl
  split
  · have l1 := (leaf_good T he).inr hE hl
    have h1 := RS.put (h.expr _ l1) (fun l => (leafT T s).1 ++ l)
    have h2 := RS.app hE hM h1 (must_rf [41]) ((h.one.expr _).inr hE l1)
    exact RS.put h2 (fun l => [.nd 12 l])
  split
  · exact name_rs hE hM h he hl
  · exact .inl rfl
theorem factor_rf : RF T (factorT T D n nt) (factorT T D' n nt') := by
  refine ⟨fun s hl => ?_, factor_good T D n h.one, factor_good T D' n h.two⟩
  unfold factorT
  split
  · rename_i hk; exact sign_rs hE hM hD h.factor h.two.factor (is_kind hk).2 hl
  · exact (atom_rf hE hM h).rel s hl
theorem product_rf : RF T (productT T D n nt) (productT T D' n nt') := row_rf hE hM (fun _ hc => mul_e hc) (factor_rf hE hM hD h)
theorem sum_rf : RF T (sumT T D n nt) (sumT T D' n nt') := row_rf hE hM (fun _ hc => add_e hc) (product_rf hE hM hD h)
theorem not_rf : RF T (notT T D n nt) (notT T D' n nt') := by
  refine ⟨fun s hl => ?_, not_good T D n h.one, not_good T D' n h.two⟩
  unfold notT
  split
  · rename_i hk; exact sign_rs hE hM hD h.nots h.two.nots (is_kind hk).2 hl
  · have hs := sum_rf hE hM hD h
    have key : ∀ a : RT, Good T a.2 (if isCmp T a.2 = true then ([.nd 10 (a.1 ++ (leafT T a.2).1 ++ (sumT T D n nt (leafT T a.2).2).1)], (sumT T D n nt (leafT T a.2).2).2) else a) := fun a => by
      split
      · rename_i hc; exact Good.node 10 (((Good.self T a).app (leaf_good T (cmp_e hc))).app (hs.one _))
      · exact Good.self T a
    have key' : ∀ a : RT, Good T a.2 (if isCmp T a.2 = true then ([.nd 10 (a.1 ++ (leafT T a.2).1 ++ (sumT T D' n nt' (leafT T a.2).2).1)], (sumT T D' n nt' (leafT T a.2).2).2) else a) := fun a => by
      split
      · rename_i hc; exact Good.node 10 (((Good.self T a).app (leaf_good T (cmp_e hc))).app (hs.two _))
      · exact Good.self T a
    refine RS.then hE hM (hs.rel s hl) (g := fun a => if isCmp T a.2 = true then ([.nd 10 (a.1 ++ (leafT T a.2).1 ++ (sumT T D n nt (leafT T a.2).2).1)], (sumT T D n nt (leafT T a.2).2).2) else a) (g' := fun a => if isCmp T a.2 = true then ([.nd 10 (a.1 ++ (leafT T a.2).1 ++ (sumT T D' n nt' (leafT T a.2).2).1)], (sumT T D' n nt' (leafT T a.2).2).2) else a) (fun _ => ?_) (key _) (key' _)
    show RS T (if isCmp T (sumT T D n nt s).2 = true then _ else _) (if isCmp T (sumT T D n nt s).2 = true then _ else _)
    split
    · rename_i hc
      exact RS.put (hs.rel _ ((leaf_good T (cmp_e hc)).inr hE ((hs.one s).inr hE hl))) (fun l => [.nd 10 ((sumT T D n nt s).1 ++ (leafT T (sumT T D n nt s).2).1 ++ l)])
    · exact .inl rfl
theorem and_rf : RF T (andT T D n nt) (andT T D' n nt') := row_rf hE hM (fun _ hc => (is_kind hc).2) (not_rf hE hM hD h)
theorem or_rf : RF T (orT T D n nt) (orT T D' n nt') := row_rf hE hM (fun _ hc => (is_kind hc).2) (and_rf hE hM hD h)
theorem formula_rf : RF T (formulaT T D n nt) (formulaT T D' n nt') := by
  refine ⟨fun s hl => ?_, formula_good T D n h.one, formula_good T D' n h.two⟩
  have hs := or_rf hE hM hD h
  have tail : ∀ (E : Nat) (nu : NxT) (hg : NxG T nu) (a : RT), Good T a.2 (if isQ T [61, 62] a.2 = true then (if (nestQ T E (n + 1) (leafT T a.2).2).e ≠ 0 then ([], nestQ T E (n + 1) (leafT T a.2).2) else ([.nd 10 (a.1 ++ (leafT T a.2).1 ++ (nu.formula (nestQ T E (n + 1) (leafT T a.2).2)).1)], (nu.formula (nestQ T E (n + 1) (leafT T a.2).2)).2)) else a) := fun E nu hg a => by
    split
    · rename_i hk
      split
      · exact (leaf_good T (is_kind hk).2).state (nest_good T (Good.nil T _))
      · exact Good.node 10 (((Good.self T a).app (leaf_good T (is_kind hk).2)).app (nest_good T (hg.formula _)))
    · exact Good.self T a
  refine RS.then hE hM (hs.rel s hl) (g := fun a => if isQ T [61, 62] a.2 = true then (if (nestQ T D (n + 1) (leafT T a.2).2).e ≠ 0 then ([], nestQ T D (n + 1) (leafT T a.2).2) else ([.nd 10 (a.1 ++ (leafT T a.2).1 ++ (nt.formula (nestQ T D (n + 1) (leafT T a.2).2)).1)], (nt.formula (nestQ T D (n + 1) (leafT T a.2).2)).2)) else a) (g' := fun a => if isQ T [61, 62] a.2 = true then (if (nestQ T D' (n + 1) (leafT T a.2).2).e ≠ 0 then ([], nestQ T D' (n + 1) (leafT T a.2).2) else ([.nd 10 (a.1 ++ (leafT T a.2).1 ++ (nt'.formula (nestQ T D' (n + 1) (leafT T a.2).2)).1)], (nt'.formula (nestQ T D' (n + 1) (leafT T a.2).2)).2)) else a) (fun _ => ?_) (tail D nt h.one _) (tail D' nt' h.two _)
  generalize ha : orT T D n nt s = a
  show RS T (if isQ T [61, 62] a.2 = true then _ else _) (if isQ T [61, 62] a.2 = true then _ else _)
  split
  · rename_i hk
    have hal : a.2.i < T.length := by rw [← ha]; exact (hs.one s).inr hE hl
    exact nest_rs hE hM hD (n + 1) (f := fun t => ([.nd 10 (a.1 ++ (leafT T a.2).1 ++ (nt.formula t).1)], (nt.formula t).2)) (f' := fun t => ([.nd 10 (a.1 ++ (leafT T a.2).1 ++ (nt'.formula t).1)], (nt'.formula t).2)) (fun hm t ht => RS.put (h.formula hm t ht) (fun l => [.nd 10 (a.1 ++ (leafT T a.2).1 ++ l)])) (fun t _ => ⟨(h.two.formula t).stay, (h.two.formula t).mono, (h.two.formula t).place, (h.two.formula t).inr⟩) _ ((leaf_good T (is_kind hk).2).inr hE hal)
  · exact .inl rfl
omit hD hE hM in
theorem expr_of : RF T nt.expr nt'.expr := ⟨h.expr, h.one.expr, h.two.expr⟩
omit hD in
theorem let_rs {s : St} (he : s.e = 0) (hl : s.i < T.length) : RS T (letT T nt s) (letT T nt' s) := by
  have xf := expr_of h
  have i0 := (leaf_good T he).inr hE hl
  have h1 := RS.app hE hM (a := leafT T s) (a' := leafT T s) (.inl rfl) (kind_rf 1) i0
  have i1 := (kind_good T 1 _).inr hE i0
  have h2 := RS.app hE hM h1 (must_rf [61]) i1
  have i2 := (must_good T [61] _).inr hE i1
  have h3 := RS.app hE hM h2 xf i2
  have i3 := (xf.one _).inr hE i2
  have h4 := RS.app hE hM h3 (must_rf [105, 110]) i3
  have i4 := (must_good T [105, 110] _).inr hE i3
  have h5 := RS.app hE hM h4 xf i4
  exact RS.put h5 (fun l => [.nd 7 l])
omit hD in
theorem if_rs {s : St} (he : s.e = 0) (hl : s.i < T.length) : RS T (ifT T nt s) (ifT T nt' s) := by
  have xf := expr_of h
  have i0 := (leaf_good T he).inr hE hl
  have h1 := RS.app hE hM (a := leafT T s) (a' := leafT T s) (.inl rfl) xf i0
  have i1 := (xf.one _).inr hE i0
  have h2 := RS.app hE hM h1 (must_rf [116, 104, 101, 110]) i1
  have i2 := (must_good T [116, 104, 101, 110] _).inr hE i1
  have h3 := RS.app hE hM h2 xf i2
  have i3 := (xf.one _).inr hE i2
  have h4 := RS.app hE hM h3 (must_rf [101, 108, 115, 101]) i3
  have i4 := (must_good T [101, 108, 115, 101] _).inr hE i3
  have h5 := RS.app hE hM h4 xf i4
  exact RS.put h5 (fun l => [.nd 8 l])
omit hD in
theorem assert_rs {s : St} (he : s.e = 0) (hl : s.i < T.length) : RS T (assertT T nt s) (assertT T nt' s) := by
  have xf := expr_of h
  have i0 := (leaf_good T he).inr hE hl
  have h1 := RS.app hE hM (a := leafT T s) (a' := leafT T s) (.inl rfl) xf i0
  have i1 := (xf.one _).inr hE i0
  have h2 := RS.app hE hM h1 (must_rf [105, 110]) i1
  have i2 := (must_good T [105, 110] _).inr hE i1
  have h3 := RS.app hE hM h2 xf i2
  exact RS.put h3 (fun l => [.nd 9 l])
/-- What stands behind the question how deep. -/
def bodyT (T : List Tok) (D n : Nat) (nt : NxT) (t : St) : RT :=
  if t.inn = false ∧ isQ T [108, 101, 116] t = true then letT T nt t
  else if t.inn = false ∧ isQ T [105, 102] t = true then ifT T nt t
  else if t.inn = false ∧ isQ T [97, 115, 115, 101, 114, 116] t = true then assertT T nt t
  else formulaT T D n nt t
omit hE hM hD h in
theorem body_good (hg : NxG T nt) (t : St) : Good T t (bodyT T D n nt t) := by
  unfold bodyT
  split
  · rename_i hk; exact let_good T hg (is_kind hk.2).2
  split
  · rename_i hk; exact if_good T hg (is_kind hk.2).2
  split
  · rename_i hk; exact assert_good T hg (is_kind hk.2).2
  · exact formula_good T D n hg t
theorem body_rs (t : St) (hl : t.i < T.length) : RS T (bodyT T D n nt t) (bodyT T D' n nt' t) := by
  unfold bodyT
  split
  · rename_i hk; exact let_rs hE hM h (is_kind hk.2).2 hl
  split
  · rename_i hk; exact if_rs hE hM h (is_kind hk.2).2 hl
  split
  · rename_i hk; exact assert_rs hE hM h (is_kind hk.2).2 hl
  · exact (formula_rf hE hM hD h).rel t hl
theorem expr_rs (s : St) (hl : s.i < T.length) : RS T (exprT T D n nt s) (exprT T D' n nt' s) :=
  nest_rs hE hM hD n (f := bodyT T D n nt) (f' := bodyT T D' n nt') (fun _ t ht => body_rs hE hM hD h t ht) (fun t _ => body_good h.two t) s hl
end

/-- Of one place in the nesting, with two depths. -/
theorem nx_rf {T : List Tok} (hE : EndT T) (hM : Grow T) {D D' : Nat} (hD : D ≤ D') : ∀ d d' n, n + d = D + 1 → n + d' = D' + 1 → NxF T D n (nxT T D d) (nxT T D' d')
  | 0, d', n, h1, h2 => by
    have g2 := nx_good T D' d'
    refine ⟨nx_good T D 0, g2, fun s hl => ?_, fun hn => absurd hn (by omega), fun hn => absurd hn (by omega), fun hn => absurd hn (by omega)⟩
    have hn : n = D + 1 := by omega
    subst hn
    cases d' with
    | zero =>
      have : D' = D := by omega
      subst this; exact .inl rfl
    | succ d' =>
      have e : D' - d' = D + 1 := by omega
      have key := nest_rs hE hM hD (D + 1) (f := fun t => (([] : List Tr), t)) (f' := bodyT T D' (D + 1) (nxT T D' d')) (fun hm => absurd hm (by omega)) (fun t _ => body_good (nx_good T D' d') t) s hl
      show RS T ([], nestQ T D (D + 1) s) (exprT T D' (D' - d') (nxT T D' d') s)
      rw [e]
      have e2 : (if (nestQ T D (D + 1) s).e ≠ 0 then (([] : List Tr), nestQ T D (D + 1) s) else ([], nestQ T D (D + 1) s)) = ([], nestQ T D (D + 1) s) := by split <;> rfl
      rw [e2] at key
      exact key
  | d + 1, 0, n, h1, h2 => absurd hD (by omega)
  | d + 1, d' + 1, n, h1, h2 => by
    have ih := nx_rf hE hM hD d d' (n + 1) (by omega) (by omega)
    have e : D - d = n := by omega
    have e' : D' - d' = n := by omega
    refine ⟨nx_good T D (d + 1), nx_good T D' (d' + 1), ?_, fun _ => ?_, fun _ => ?_, fun _ => ?_⟩
    · show ∀ s, s.i < T.length → RS T (exprT T D (D - d) (nxT T D d) s) (exprT T D' (D' - d') (nxT T D' d') s)
      rw [e, e']; exact expr_rs hE hM hD ih
    · show ∀ s, s.i < T.length → RS T (formulaT T D (D - d) (nxT T D d) s) (formulaT T D' (D' - d') (nxT T D' d') s)
      rw [e, e']; exact (formula_rf hE hM hD ih).rel
    · show ∀ s, s.i < T.length → RS T (notT T D (D - d) (nxT T D d) s) (notT T D' (D' - d') (nxT T D' d') s)
      rw [e, e']; exact (not_rf hE hM hD ih).rel
    · show ∀ s, s.i < T.length → RS T (factorT T D (D - d) (nxT T D d) s) (factorT T D' (D' - d') (nxT T D' d') s)
      rw [e, e']; exact (factor_rf hE hM hD ih).rel
end Go.Proofs.YtmlcpihedmmlfaaGreatDoor
namespace Go.Proofs.YtmlcpihedmmlfaaGreatDoor

section
variable {T : List Tok} (hE : EndT T) (hM : Grow T) {et et' : St → RT} (xf : RF T et et')
include hE hM xf
theorem typC_rs (b : RT) (hl : b.2.i < T.length) : RS T (typCT T et b) (typCT T et' b) := by
  unfold typCT
  split
  · rename_i hk
    have i0 := (leaf_good T (is_kind hk).2).inr hE hl
    have h1 := xf.rel (setIn true (leafT T b.2).2) i0
    have g1 : Good T (et (setIn true (leafT T b.2).2)).2 (mustT T [125] (setIn false (et (setIn true (leafT T b.2).2)).2)) := (must_good T _ _).inn
    have g2 : Good T (et' (setIn true (leafT T b.2).2)).2 (mustT T [125] (setIn false (et' (setIn true (leafT T b.2).2)).2)) := (must_good T _ _).inn
    exact RS.then hE hM h1
      (g := fun f => (b.1 ++ [.nd 6 ((leafT T b.2).1 ++ f.1 ++ (mustT T [125] (setIn false f.2)).1)], (mustT T [125] (setIn false f.2)).2))
      (g' := fun f => (b.1 ++ [.nd 6 ((leafT T b.2).1 ++ f.1 ++ (mustT T [125] (setIn false f.2)).1)], (mustT T [125] (setIn false f.2)).2))
      (fun e => by rw [e]; exact .inl rfl) ⟨g1.stay, g1.mono, g1.place, g1.inr⟩ ⟨g2.stay, g2.mono, g2.place, g2.inr⟩
  · exact .inl rfl
theorem typed_rf : RF T (typedT T et) (typedT T et') :=
  ⟨fun s hl => typC_rs hE hM xf _ ((typB_good T (must_good T [58] s)).inr hE hl), typed_good T xf.one, typed_good T xf.two⟩
theorem par_rf : RF T (parT T et) (parT T et') :=
  ⟨fun s hl => RS.put (RS.app hE hM (a := kindT T 1 s) (a' := kindT T 1 s) (.inl rfl) (typed_rf hE hM xf) ((kind_good T 1 s).inr hE hl)) (fun l => [.nd 4 l]), par_good T xf.one, par_good T xf.two⟩
theorem params_rf : RF T (paramsT T et) (paramsT T et') := parts_rf hE hM (par_rf hE hM xf)
theorem defC_rs (o : RT) (hl : o.2.i < T.length) : RS T (defCT T et o) (defCT T et' o) := by
  unfold defCT
  split
  · exact RS.put ((params_rf hE hM xf).rel _ hl) (fun l => o.1 ++ l)
  · exact .inl rfl
theorem defD_rs {r r' : RT} (h : RS T r r') (hl : r.2.i < T.length) : RS T (defDT T et r) (defDT T et' r') := by
  refine RS.then hE hM h (g := defDT T et) (g' := defDT T et') (fun e => ?_) (defD_good T xf.one (Good.self T r)) (defD_good T xf.two (Good.self T r'))
  subst e
  have i1 := (must_good T [41] r.2).inr hE hl
  have h1 := RS.app hE hM (a := mustT T [41] r.2) (a' := mustT T [41] r.2) (.inl rfl) (typed_rf hE hM xf) i1
  have i2 := (typed_good T xf.one _).inr hE i1
  have h2 := RS.app hE hM h1 (must_rf [61]) i2
  have i3 := (must_good T [61] _).inr hE i2
  have h3 := RS.put h2 (fun l => r.1 ++ l)
  have h4 := RS.app hE hM h3 xf i3
  have i4 := (xf.one _).inr hE i3
  exact RS.app hE hM h4 (must_rf [59]) i4
theorem def_rf : RF T (defT T et) (defT T et') := by
  refine ⟨fun s hl => ?_, def_good T xf.one, def_good T xf.two⟩
  have i1 := (defB_good T (defA_good T s)).inr hE hl
  have i2 := (defC_good T xf.one (Good.self T (defBT T (defAT T s)))).inr hE i1
  exact RS.put (defD_rs hE hM xf (defC_rs hE hM xf _ i1) i2) (fun l => [.nd 3 l])
omit xf in
/-- Many: the same, or the first was refused for its depth. -/
theorem many_rs {c : St → Bool} {step step' : RT → RT} {most : Nat}
    (hr : ∀ r, c r.2 = true → r.2.i < T.length → RS T (step r) (step' r)) (g : ∀ r, c r.2 = true → Good T r.2 (step r)) (g' : ∀ r, c r.2 = true → Good T r.2 (step' r)) :
    ∀ f k r, r.2.i < T.length → manyT T c step most f k r = manyT T c step' most f k r ∨ Bad T (manyT T c step most f k r).2.2 (manyT T c step' most f k r).2.2
  | 0, k, r, h => .inl rfl
  | f + 1, k, r, h => by
    unfold manyT
    split
    · rename_i hcc
      split
      · exact .inl rfl
      · rcases hr r hcc h with e | hb
        · rw [← e]; exact many_rs hr g g' f _ _ ((g r hcc).inr hE h)
        · have m1 := many_good T (c := c) (step := step) (most := most) (s := (step r).2) (fun r hc hr => hr.state (g r hc) (l := (step r).1)) f (k + 1) (step r) (Good.self T _)
          have m2 := many_good T (c := c) (step := step') (most := most) (s := (step' r).2) (fun r hc hr => hr.state (g' r hc) (l := (step' r).1)) f (k + 1) (step' r) (Good.self T _)
          exact .inr (hb.go hE hM m1 m2)
    · exact .inl rfl
theorem program_rs (s : St) (hl : s.i < T.length) : RS T (programT T et s) (programT T et' s) := by
  unfold programT
  have i1 : (importsT T ([], s)).2.2.i < T.length := (many_good T (fun r hc hr => impStep_good T hr hc) _ _ _ (Good.nil T s)).inr hE hl
  split
  · exact .inl rfl
  have hm := many_rs hE hM (c := isDef T) (step := defStepT T et) (step' := defStepT T et') (most := 64)
    (fun r _ hl => RS.put ((def_rf hE hM xf).rel r.2 hl) (fun l => r.1 ++ l))
    (fun r _ => (Good.self T r).app (def_good T xf.one _)) (fun r _ => (Good.self T r).app (def_good T xf.two _))
    (fuelQ T (importsT T ([], s)).2.2) 0 (importsT T ([], s)).2 i1
  have hm : defsT T et (importsT T ([], s)).2 = defsT T et' (importsT T ([], s)).2 ∨ Bad T (defsT T et (importsT T ([], s)).2).2.2 (defsT T et' (importsT T ([], s)).2).2.2 := hm
  rcases hm with e | hb
  · rw [e]; exact .inl rfl
  · have key : ∀ J : Bool × RT, Good T J.2.2 (if J.1 = false then J.2 else (J.2.1 ++ (kindT T 5 J.2.2).1, (kindT T 5 J.2.2).2)) := fun J => by
      split
      · exact Good.self T _
      · exact (Good.self T J.2).app (kind_good T 5 _)
    exact .inr (hb.go hE hM (key _) (key _))
theorem alone_rs (s : St) (hl : s.i < T.length) : RS T (aloneT T et s) (aloneT T et' s) :=
  RS.app hE hM (xf.rel (setIn true s) hl) (kind_rf 5) ((xf.one (setIn true s)).inr hE hl)
end

/-- A program with two depths. -/
theorem depths_rs {T : List Tok} (hE : EndT T) (hM : Grow T) {D D' : Nat} (hD : D ≤ D') (h1 : 1 ≤ D) (s : St) (hl : s.i < T.length) :
    RS T (programT T (nxT T D D).expr s) (programT T (nxT T D' D').expr s) ∧ RS T (aloneT T (nxT T D D).expr s) (aloneT T (nxT T D' D').expr s) := by
  have h := nx_rf hE hM hD D D' 1 (by omega) (by omega)
  have xf : RF T (nxT T D D).expr (nxT T D' D').expr := ⟨h.expr, h.one.expr, h.two.expr⟩
  exact ⟨program_rs hE hM xf s hl, alone_rs hE hM xf s hl⟩
end Go.Proofs.YtmlcpihedmmlfaaGreatDoor
