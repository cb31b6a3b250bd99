/- Lemmas. -/
import Derived.Test.YtddccnpohpaofaaGreatDoorP11
set_option linter.unusedVariables false
set_option linter.unusedSimpArgs false
namespace Go.Proofs.YtddccnpohpaofaaGreatDoor

mutual
def lvT : Tr → List Nat
  | .lf i => [i]
  | .nd _ l => lvTs l
def lvTs : List Tr → List Nat
  | [] => []
  | t :: l => lvT t ++ lvTs l
end
theorem lvTs_append (a b : List Tr) : lvTs (a ++ b) = lvTs a ++ lvTs b := by
  induction a with
  | nil => simp [lvTs]
  | cons t a ih => simp [lvTs, ih]
theorem lvTs_node (k : Nat) (l : List Tr) : lvTs [.nd k l] = lvTs l := by simp [lvTs, lvT]

/-- From a to z: what has come is what lies between. -/
def Run (s : St) (r : RT) : Prop := r.2.e = 0 → s.e = 0 ∧ s.i ≤ r.2.i ∧ lvTs r.1 = List.range' s.i (r.2.i - s.i)
theorem Run.nil (s : St) : Run s ([], s) := fun h => ⟨h, Nat.le_refl _, by simp [lvTs]⟩
theorem Run.bad {s t : St} {l : List Tr} (h : t.e ≠ 0) : Run s (l, t) := fun e => absurd e h
theorem Run.app {s : St} {a b : RT} (h1 : Run s a) (h2 : Run a.2 b) : Run s (a.1 ++ b.1, b.2) := fun e => by
  obtain ⟨e2, l2, r2⟩ := h2 e
  obtain ⟨e1, l1, r1⟩ := h1 e2
  refine ⟨e1, Nat.le_trans l1 l2, ?_⟩
  show lvTs (a.1 ++ b.1) = _
  rw [lvTs_append, r1, r2]
  have h3 : a.2.i = s.i + 1 * (a.2.i - s.i) := by omega
  have h4 : b.2.i - s.i = (a.2.i - s.i) + (b.2.i - a.2.i) := by omega
  show _ = List.range' s.i (b.2.i - s.i)
  rw [h4, ← List.range'_append, ← h3]
theorem Run.node {s : St} {l : List Tr} {t : St} (k : Nat) (h : Run s (l, t)) : Run s ([.nd k l], t) := fun e => by
  obtain ⟨h1, h2, h3⟩ := h e
  exact ⟨h1, h2, by show lvTs [.nd k l] = _; rw [lvTs_node]; exact h3⟩
theorem Run.same {s t : St} {r : RT} (h : Run t r) (he : t.e = 0 → s.e = 0) (hi : t.i = s.i) : Run s r := fun e => by
  obtain ⟨h1, h2, h3⟩ := h e
  exact ⟨he h1, by omega, by rw [← hi]; exact h3⟩

section
variable (T : List Tok)
theorem leaf_run {s : St} (h : (tokQ T s).kind ≠ 5) : Run s (leafT T s) := fun e => by
  have h1 := (leaf_fits h).2
  have h2 : (leafT T s).2.i = s.i + 1 := h1
  have h3 : s.e = 0 := by
    have : (leafT T s).2.e = s.e := by show (leafQ T s).2.e = s.e; unfold leafQ; rw [if_neg h]
    omega
  refine ⟨h3, by omega, ?_⟩
  rw [h2]
  show lvTs [.lf s.i] = _
  simp [lvTs, lvT]
theorem fail_run {n : Nat} (hn : n ≠ 0) (s t : St) (l : List Tr) : Run s (l, failQ T n t) := Run.bad (fail_e T hn t)
theorem must_run (w : List UInt8) (s : St) : Run s (mustT T w s) := by
  unfold mustT
  split
  · rename_i h; exact leaf_run T (is_kind h).1
  · exact fail_run T (by decide) s s []
theorem kind_run {k : Nat} (hk : k ≠ 5) (s : St) : Run s (kindT T k s) := by
  unfold kindT
  split
  · rename_i h; exact leaf_run T (by rw [h.2]; exact hk)
  · exact fail_run T (by decide) s s []
theorem nest_run {D n : Nat} {s : St} {r : RT} (h : Run (nestQ T D n s) r) : Run s r :=
  h.same (fun e => by
    unfold nestQ at e
    split at e
    · exact absurd e (fail_e T (by decide) s)
    · exact e) (nest_i T D n s)
theorem row_run {c : St → Bool} {sub : St → RT} (hc : ∀ s, c s = true → (tokQ T s).kind ≠ 5) (hs : ∀ s, Run s (sub s)) {s : St} : ∀ f r, Run s r → Run s (rwT T c sub f r)
  | 0, r, h => h
  | f + 1, r, h => by
    unfold rwT
    split
    · rename_i hcc
      refine row_run hc hs f _ (Run.node 10 ?_)
      exact (h.app (leaf_run T (hc _ hcc))).app (hs _)
    · exact h
theorem parts_run {sub : St → RT} (hs : ∀ s, Run s (sub s)) {s : St} : ∀ f k r, Run s r → Run s (partsT T sub f k r)
  | 0, k, r, h => h
  | f + 1, k, r, h => by
    unfold partsT
    split
    · rename_i hcc
      refine parts_run hs f _ _ ?_
      refine (h.app (leaf_run T (is_kind hcc).1)).app ?_
      refine (hs _).same ?_ ?_
      · intro e
        split at e
        · exact absurd e (fail_e T (by decide) _)
        · exact e
      · split
        · exact fail_i _ _ _
        · rfl
    · exact h

structure NxR (nt : NxT) : Prop where
  expr : ∀ s, Run s (nt.expr s)
  formula : ∀ s, Run s (nt.formula s)
  nots : ∀ s, Run s (nt.nots s)
  factor : ∀ s, Run s (nt.factor s)
end

section
variable (T : List Tok) (D n : Nat) {nt : NxT} (h : NxR nt)
include h
theorem args_run (s : St) : Run s (argsT T nt s) := parts_run T h.expr _ _ _ (h.expr s)
omit h in
theorem nameB_run {s : St} {a : RT} (ha : Run s a) : Run s (nameBT T a) := by
  unfold nameBT
  split
  · rename_i hc; exact (ha.app (leaf_run T (is_kind hc).1)).app (kind_run T (by decide) _)
  · exact ha
omit h in
theorem nameC_run {s : St} {a : RT} (ha : Run s a) : Run s (nameCT T a) := ha.app (must_run T _ _)
theorem nameD_run {s : St} {a : RT} (ha : Run s a) : Run s (nameDT T nt a) := by
  unfold nameDT
  split
  · exact ha
  · exact ha.app (args_run T h _)
omit h in
theorem nameE_run {s : St} {a : RT} (ha : Run s a) : Run s (nameET T a) := Run.node 13 (ha.app (must_run T _ _))
theorem name_run {s : St} (hk : (tokQ T s).kind ≠ 5) : Run s (nameT T nt s) := by
  unfold nameT
  split
  · exact Run.node 14 (leaf_run T hk)
  · exact nameE_run T (nameD_run T h (nameC_run T (nameB_run T (leaf_run T hk))))
theorem atom_run (s : St) : Run s (atomT T nt s) := by
  unfold atomT
  split
  · rename_i he; exact Run.bad he
  split
  · rename_i hk; exact Run.node 15 (leaf_run T (by rw [hk]; decide))
  split
  · rename_i hk; exact Run.node 16 (leaf_run T (by rcases hk with hk | hk <;> exact (is_kind hk).1))
  split
  · rename_i hk; exact Run.node 17 (leaf_run T (is_kind hk.2).1)
  split
  · rename_i hk; exact Run.node 12 (((leaf_run T (is_kind hk).1).app (h.expr _)).app (must_run T _ _))
  split
  · rename_i hk; exact name_run T h (by rw [hk]; decide)
  · exact fail_run T (by decide) s s []
omit h in
theorem sign_run {sub : St → RT} (hs : ∀ s, Run s (sub s)) {s : St} (hk : (tokQ T s).kind ≠ 5) : Run s (signT T D n sub s) := by
  unfold signT
  simp only []
  split
  · rename_i he; exact Run.bad he
  · exact Run.node 11 ((leaf_run T hk).app (nest_run T (hs _)))
theorem factor_run (s : St) : Run s (factorT T D n nt s) := by
  unfold factorT
  split
  · rename_i hk; exact sign_run T D n h.factor (is_kind hk).1
  · exact atom_run T h s
theorem product_run (s : St) : Run s (productT T D n nt s) := row_run T (fun _ hc => mul_kind hc) (factor_run T D n h) _ _ (factor_run T D n h s)
theorem sum_run (s : St) : Run s (sumT T D n nt s) := row_run T (fun _ hc => add_kind hc) (product_run T D n h) _ _ (product_run T D n h s)
theorem not_run (s : St) : Run s (notT T D n nt s) := by
  unfold notT
  simp only []
  split
  · rename_i hk; exact sign_run T D n h.nots (is_kind hk).1
  split
  · rename_i hk; exact Run.node 10 (((sum_run T D n h s).app (leaf_run T (cmp_kind hk))).app (sum_run T D n h _))
  · exact sum_run T D n h s
theorem and_run (s : St) : Run s (andT T D n nt s) := row_run T (fun _ hc => (is_kind hc).1) (not_run T D n h) _ _ (not_run T D n h s)
theorem or_run (s : St) : Run s (orT T D n nt s) := row_run T (fun _ hc => (is_kind hc).1) (and_run T D n h) _ _ (and_run T D n h s)
theorem formula_run (s : St) : Run s (formulaT T D n nt s) := by
  unfold formulaT
  simp only []
  split
  · rename_i hk
    split
    · rename_i he; exact Run.bad he
    · exact Run.node 10 (((or_run T D n h s).app (leaf_run T (is_kind hk).1)).app (nest_run T (h.formula _)))
  · exact or_run T D n h s
theorem let_run {s : St} (hk : (tokQ T s).kind ≠ 5) : Run s (letT T nt s) :=
  Run.node 7 ((((((leaf_run T hk).app (kind_run T (by decide) _)).app (must_run T _ _)).app (h.expr _)).app (must_run T _ _)).app (h.expr _))
theorem if_run {s : St} (hk : (tokQ T s).kind ≠ 5) : Run s (ifT T nt s) :=
  Run.node 8 ((((((leaf_run T hk).app (h.expr _)).app (must_run T _ _)).app (h.expr _)).app (must_run T _ _)).app (h.expr _))
theorem assert_run {s : St} (hk : (tokQ T s).kind ≠ 5) : Run s (assertT T nt s) :=
  Run.node 9 ((((leaf_run T hk).app (h.expr _)).app (must_run T _ _)).app (h.expr _))
theorem expr_run (s : St) : Run s (exprT T D n nt s) := by
  unfold exprT
  simp only []
  split
  · rename_i he; exact Run.bad he
  split
  · rename_i hk; exact nest_run T (let_run T h (is_kind hk.2).1)
  split
  · rename_i hk; exact nest_run T (if_run T h (is_kind hk.2).1)
  split
  · rename_i hk; exact nest_run T (assert_run T h (is_kind hk.2).1)
  · exact nest_run T (formula_run T D n h _)
end
theorem nx_run (T : List Tok) (D : Nat) : ∀ d, NxR (nxT T D d)
  | 0 => ⟨fun s => nest_run T (Run.nil _), fun s => Run.nil s, fun s => Run.nil s, fun s => Run.nil s⟩
  | d + 1 => ⟨expr_run T D _ (nx_run T D d), formula_run T D _ (nx_run T D d), not_run T D _ (nx_run T D d), factor_run T D _ (nx_run T D d)⟩

section
variable (T : List Tok) {et : St → RT} (h : ∀ s, Run s (et s))
include h
omit h in
theorem typB_run {s : St} {a : RT} (ha : Run s a) : Run s (typBT T a) := by
  unfold typBT
  split
  · rename_i hk; exact ha.app (Run.node 5 (leaf_run T (by rcases hk with hk | hk <;> exact (is_kind hk).1)))
  · exact fail_run T (by decide) s _ _
theorem typC_run {s : St} {a : RT} (ha : Run s a) : Run s (typCT T et a) := by
  unfold typCT
  split
  · rename_i hk
    refine ha.app (Run.node 6 (((leaf_run T (is_kind hk).1).app ?_).app ?_))
    · exact (h _).same (fun e => e) rfl
    · exact (must_run T _ _).same (fun e => e) rfl
  · exact ha
theorem typed_run (s : St) : Run s (typedT T et s) := typC_run T h (typB_run T (must_run T _ s))
theorem par_run (s : St) : Run s (parT T et s) := Run.node 4 ((kind_run T (by decide) s).app (typed_run T h _))
theorem params_run (s : St) : Run s (paramsT T et s) := parts_run T (par_run T h) _ _ _ (par_run T h s)
omit h in
theorem defA_run (s : St) : Run s (defAT T s) := by
  unfold defAT
  split
  · rename_i hk; exact leaf_run T (is_kind hk).1
  · exact Run.nil s
omit h in
theorem defB_run {s : St} {a : RT} (ha : Run s a) : Run s (defBT T a) := ha.app (((must_run T _ _).app (kind_run T (by decide) _)).app (must_run T _ _))
theorem defC_run {s : St} {a : RT} (ha : Run s a) : Run s (defCT T et a) := by
  unfold defCT
  split
  · exact ha.app (params_run T h _)
  · exact ha
theorem defD_run {s : St} {a : RT} (ha : Run s a) : Run s (defDT T et a) :=
  ((ha.app (((must_run T _ _).app (typed_run T h _)).app (must_run T _ _))).app (h _)).app (must_run T _ _)
theorem def_run (s : St) : Run s (defT T et s) := Run.node 3 (defD_run T h (defC_run T h (defB_run T (defA_run T s))))
omit h in
theorem impStep_run {s : St} {r : RT} (hr : Run s r) (hc : isQ T [105, 109, 112, 111, 114, 116] r.2 = true) : Run s (impStepT T r) :=
  hr.app (Run.node 2 (((leaf_run T (is_kind hc).1).app (kind_run T (by decide) _)).app (must_run T _ _)))
omit h in
theorem many_run {c : St → Bool} {step : RT → RT} {most : Nat} {s : St} (hs : ∀ r, c r.2 = true → Run s r → Run s (step r)) : ∀ f k r, Run s r → Run s (manyT T c step most f k r).2
  | 0, k, r, hr => hr
  | f + 1, k, r, hr => by
    unfold manyT
    split
    · rename_i hc
      split
      · exact fail_run T (by decide) s _ _
      · exact many_run hs f _ _ (hs r hc hr)
    · exact hr
omit h in
/-- The end comes: it is the last token. -/
theorem end_run {s : St} {r : RT} (hr : Run s r) (he : (kindT T 5 r.2).2.e = 0) : s.e = 0 ∧ (tokQ T r.2).kind = 5 ∧ s.i ≤ r.2.i ∧ lvTs (r.1 ++ (kindT T 5 r.2).1) = List.range' s.i (r.2.i + 1 - s.i) := by
  unfold kindT at he ⊢
  split at he
  · rename_i hk
    obtain ⟨h1, h2, h3⟩ := hr hk.1
    rw [if_pos hk]
    refine ⟨h1, hk.2, h2, ?_⟩
    rw [lvTs_append, h3]
    have h4 : r.2.i + 1 - s.i = (r.2.i - s.i) + 1 := by omega
    have h5 : r.2.i = s.i + 1 * (r.2.i - s.i) := by omega
    rw [h4, ← List.range'_append, ← h5]
    simp [leafT, lvTs, lvT]
  · exact absurd he (fail_e T (by decide) _)
omit h in
theorem end_place (hE : EndT T) {s : St} (hok : (kindT T 5 s).2.i < T.length) (hk : (tokQ T s).kind = 5) : s.i + 1 = T.length := by
  have e : (kindT T 5 s).2.i = s.i := by
    unfold kindT
    split
    · show (leafQ T s).2.i = s.i
      unfold leafQ; rw [if_pos hk]
    · exact fail_i T 22 s
  rw [e] at hok
  have ht : T[s.i]? = some (tokQ T s) := by unfold tokQ; rw [List.getElem?_eq_getElem hok]; rfl
  exact (hE _ _ ht).1 hk
/-- A program's leaves are all the tokens. -/
theorem program_run (hE : EndT T) {s : St} (hs : s.i = 0) (hok : (programT T et s).2.i < T.length) (he : (programT T et s).2.e = 0) : lvTs (programT T et s).1 = List.range T.length := by
  have hb1' : (importsT T ([], s)).1 = false → (importsT T ([], s)).2.2.e ≠ 0 := many_bad T _ _ _
  have hI : Run s (importsT T ([], s)).2 := many_run T (fun r hc hr => impStep_run T hr hc) _ _ _ (Run.nil s)
  have hb2' : (defsT T et (importsT T ([], s)).2).1 = false → (defsT T et (importsT T ([], s)).2).2.2.e ≠ 0 := many_bad T _ _ _
  have hD : Run s (defsT T et (importsT T ([], s)).2).2 := many_run T (fun r hc hr => hr.app (def_run T h _)) _ _ _ hI
  unfold programT at he hok ⊢
  split at he
  · rename_i hc; exact absurd he (hb1' hc)
  · rename_i hc1
    split at he
    · rename_i hc; exact absurd he (hb2' hc)
    · rename_i hc2
      rw [if_neg hc1, if_neg hc2]
      obtain ⟨-, hk, -, hl⟩ := end_run T hD he
      show lvTs (_ ++ _) = _
      rw [hl, hs]
      rw [if_neg hc1, if_neg hc2] at hok
      have hi := end_place T (s := (defsT T et (importsT T ([], s)).2).2.2) hE hok hk
      rw [hi, Nat.sub_zero, List.range_eq_range']
/-- So are a formula's. -/
theorem alone_run (hE : EndT T) {s : St} (hs : s.i = 0) (hok : (aloneT T et s).2.i < T.length) (he : (aloneT T et s).2.e = 0) : lvTs (aloneT T et s).1 = List.range T.length := by
  have hX : Run s (et (setIn true s)) := (h _).same (fun e => e) rfl
  unfold aloneT at he hok ⊢
  simp only [] at he hok ⊢
  obtain ⟨-, hk, -, hl⟩ := end_run T hX he
  rw [hl, hs, end_place T hE hok hk, Nat.sub_zero, List.range_eq_range']
end
end Go.Proofs.YtddccnpohpaofaaGreatDoor
namespace Go.Proofs.YtddccnpohpaofaaGreatDoor

section
variable {T : List Tok} (hE : EndT T) (hM : Grow T) {et et' : St → RT} (xf : RF T et et')
include hE hM xf
theorem typC_rs (b : RT) (hl : b.2.i < T.length) : RS T (typCT T et b) (typCT T et' b) := by
  unfold typCT
  split
  · rename_i hk
    have i0 := (leaf_good T (is_kind hk).2).inr hE hl
    have h1 := xf.rel (setIn true (leafT T b.2).2) i0
    have g1 : Good T (et (setIn true (leafT T b.2).2)).2 (mustT T [125] (setIn false (et (setIn true (leafT T b.2).2)).2)) := (must_good T _ _).inn
    have g2 : Good T (et' (setIn true (leafT T b.2).2)).2 (mustT T [125] (setIn false (et' (setIn true (leafT T b.2).2)).2)) := (must_good T _ _).inn
    exact RS.then hE hM h1
      (g := fun f => (b.1 ++ [.nd 6 ((leafT T b.2).1 ++ f.1 ++ (mustT T [125] (setIn false f.2)).1)], (mustT T [125] (setIn false f.2)).2))
      (g' := fun f => (b.1 ++ [.nd 6 ((leafT T b.2).1 ++ f.1 ++ (mustT T [125] (setIn false f.2)).1)], (mustT T [125] (setIn false f.2)).2))
      (fun e => by rw [e]; exact .inl rfl) ⟨g1.stay, g1.mono, g1.place, g1.inr⟩ ⟨g2.stay, g2.mono, g2.place, g2.inr⟩
  · exact .inl rfl
theorem typed_rf : RF T (typedT T et) (typedT T et') :=
  ⟨fun s hl => typC_rs hE hM xf _ ((typB_good T (must_good T [58] s)).inr hE hl), typed_good T xf.one, typed_good T xf.two⟩
theorem par_rf : RF T (parT T et) (parT T et') :=
  ⟨fun s hl => RS.put (RS.app hE hM (a := kindT T 1 s) (a' := kindT T 1 s) (.inl rfl) (typed_rf hE hM xf) ((kind_good T 1 s).inr hE hl)) (fun l => [.nd 4 l]), par_good T xf.one, par_good T xf.two⟩
theorem params_rf : RF T (paramsT T et) (paramsT T et') := parts_rf hE hM (par_rf hE hM xf)
theorem defC_rs (o : RT) (hl : o.2.i < T.length) : RS T (defCT T et o) (defCT T et' o) := by
  unfold defCT
  split
  · exact RS.put ((params_rf hE hM xf).rel _ hl) (fun l => o.1 ++ l)
  · exact .inl rfl
theorem defD_rs {r r' : RT} (h : RS T r r') (hl : r.2.i < T.length) : RS T (defDT T et r) (defDT T et' r') := by
  refine RS.then hE hM h (g := defDT T et) (g' := defDT T et') (fun e => ?_) (defD_good T xf.one (Good.self T r)) (defD_good T xf.two (Good.self T r'))
  subst e
  have i1 := (must_good T [41] r.2).inr hE hl
  have h1 := RS.app hE hM (a := mustT T [41] r.2) (a' := mustT T [41] r.2) (.inl rfl) (typed_rf hE hM xf) i1
  have i2 := (typed_good T xf.one _).inr hE i1
  have h2 := RS.app hE hM h1 (must_rf [61]) i2
  have i3 := (must_good T [61] _).inr hE i2
  have h3 := RS.put h2 (fun l => r.1 ++ l)
  have h4 := RS.app hE hM h3 xf i3
  have i4 := (xf.one _).inr hE i3
  exact RS.app hE hM h4 (must_rf [59]) i4
theorem def_rf : RF T (defT T et) (defT T et') := by
  refine ⟨fun s hl => ?_, def_good T xf.one, def_good T xf.two⟩
  have i1 := (defB_good T (defA_good T s)).inr hE hl
  have i2 := (defC_good T xf.one (Good.self T (defBT T (defAT T s)))).inr hE i1
  exact RS.put (defD_rs hE hM xf (defC_rs hE hM xf _ i1) i2) (fun l => [.nd 3 l])
omit xf in
/-- Many: the same, or the first was refused for its depth. -/
theorem many_rs {c : St → Bool} {step step' : RT → RT} {most : Nat}
    (hr : ∀ r, c r.2 = true → r.2.i < T.length → RS T (step r) (step' r)) (g : ∀ r, c r.2 = true → Good T r.2 (step r)) (g' : ∀ r, c r.2 = true → Good T r.2 (step' r)) :
    ∀ f k r, r.2.i < T.length → manyT T c step most f k r = manyT T c step' most f k r ∨ Bad T (manyT T c step most f k r).2.2 (manyT T c step' most f k r).2.2
  | 0, k, r, h => .inl rfl
  | f + 1, k, r, h => by
    unfold manyT
    split
    · rename_i hcc
      split
      · exact .inl rfl
      · rcases hr r hcc h with e | hb
        · rw [← e]; exact many_rs hr g g' f _ _ ((g r hcc).inr hE h)
        · have m1 := many_good T (c := c) (step := step) (most := most) (s := (step r).2) (fun r hc hr => hr.state (g r hc) (l := (step r).1)) f (k + 1) (step r) (Good.self T _)
          have m2 := many_good T (c := c) (step := step') (most := most) (s := (step' r).2) (fun r hc hr => hr.state (g' r hc) (l := (step' r).1)) f (k + 1) (step' r) (Good.self T _)
          exact .inr (hb.go hE hM m1 m2)
    · exact .inl rfl
theorem program_rs (s : St) (hl : s.i < T.length) : RS T (programT T et s) (programT T et' s) := by
  unfold programT
  have i1 : (importsT T ([], s)).2.2.i < T.length := (many_good T (fun r hc hr => impStep_good T hr hc) _ _ _ (Good.nil T s)).inr hE hl
  split
  · exact .inl rfl
  have hm := many_rs hE hM (c := isDef T) (step := defStepT T et) (step' := defStepT T et') (most := 64)
    (fun r _ hl => RS.put ((def_rf hE hM xf).rel r.2 hl) (fun l => r.1 ++ l))
    (fun r _ => (Good.self T r).app (def_good T xf.one _)) (fun r _ => (Good.self T r).app (def_good T xf.two _))
    (fuelQ T (importsT T ([], s)).2.2) 0 (importsT T ([], s)).2 i1
  have hm : defsT T et (importsT T ([], s)).2 = defsT T et' (importsT T ([], s)).2 ∨ Bad T (defsT T et (importsT T ([], s)).2).2.2 (defsT T et' (importsT T ([], s)).2).2.2 := hm
  rcases hm with e | hb
  · rw [e]; exact .inl rfl
  · have key : ∀ J : Bool × RT, Good T J.2.2 (if J.1 = false then J.2 else (J.2.1 ++ (kindT T 5 J.2.2).1, (kindT T 5 J.2.2).2)) := fun J => by
      split
      · exact Good.self T _
      · exact (Good.self T J.2).app (kind_good T 5 _)
    exact .inr (hb.go hE hM (key _) (key _))
theorem alone_rs (s : St) (hl : s.i < T.length) : RS T (aloneT T et s) (aloneT T et' s) :=
  RS.app hE hM (xf.rel (setIn true s) hl) (kind_rf 5) ((xf.one (setIn true s)).inr hE hl)
end

/-- A program with two depths. -/
theorem depths_rs {T : List Tok} (hE : EndT T) (hM : Grow T) {D D' : Nat} (hD : D ≤ D') (h1 : 1 ≤ D) (s : St) (hl : s.i < T.length) :
    RS T (programT T (nxT T D D).expr s) (programT T (nxT T D' D').expr s) ∧ RS T (aloneT T (nxT T D D).expr s) (aloneT T (nxT T D' D').expr s) := by
  have h := nx_rf hE hM hD D D' 1 (by omega) (by omega)
  have xf : RF T (nxT T D D).expr (nxT T D' D').expr := ⟨h.expr, h.one.expr, h.two.expr⟩
  exact ⟨program_rs hE hM xf s hl, alone_rs hE hM xf s hl⟩
end Go.Proofs.YtddccnpohpaofaaGreatDoor
namespace Go.Proofs.YtddccnpohpaofaaGreatDoor

theorem whole_mono (T : List Tok) {i j : Nat} (h : i ≤ j) : (wholeL (T.take i)).length ≤ (wholeL (T.take j)).length := by
  have h1 : (T.take j).take i = T.take i := by rw [List.take_take]; congr 1; omega
  rw [← h1]; exact wholeL_take _ _
theorem grow_all {l : List UInt8} (h : (allE l).2.1 = 0) : Grow (allE l).1 := by
  intro s t hle hlt
  have hp := (place_all h).1
  have hs : (allE l).1[s.i]? = some (tokQ (allE l).1 s) := by unfold tokQ; rw [List.getElem?_eq_getElem (Nat.lt_of_le_of_lt hle hlt)]; rfl
  have ht : (allE l).1[t.i]? = some (tokQ (allE l).1 t) := by unfold tokQ; rw [List.getElem?_eq_getElem hlt]; rfl
  have p1 := (hp _ _ hs).1
  have p2 := (hp _ _ ht).1
  rcases Nat.eq_or_lt_of_le hle with e | hl
  · rw [show tokQ (allE l).1 s = tokQ (allE l).1 t from by unfold tokQ; rw [e]]; exact Nat.le_refl _
  · have h1 := whole_mono (allE l).1 (i := s.i + 1) (j := t.i) hl
    rw [wholeL_next hs, List.length_append, List.length_append] at h1
    omega

/-- The tree of a text that has tokens, and the state at its end. -/
def treeT (T : List Tok) (D : Nat) (f : Bool) : RT := if f = true then aloneT T (nxT T D D).expr startQ else programT T (nxT T D D).expr startQ
theorem tree_m (T : List Tok) (D : Nat) (f : Bool) : (treeQ T D f).2 = (treeT T D f).2 ∧ ((treeT T D f).2.e = 0 → (treeQ T D f).1 = dmp T (.nd (if f = true then 18 else 1) (treeT T D f).1)) := by
  have hx := (nx_m T D D).expr
  unfold treeQ treeT
  cases f
  · exact program_m T _ hx startQ
  · exact ⟨(alone_m T _ hx startQ).1, fun _ => (alone_m T _ hx startQ).2⟩
/-- What is answered, of a text that has tokens. -/
theorem parse_good {l : List UInt8} (hl : l.length ≤ 65536) (h : (allE l).2.1 = 0) (D : Nat) (f : Bool) :
    parseQ l D f = if (treeT (allE l).1 D f).2.e = 0 then (dmp (allE l).1 (.nd (if f = true then 18 else 1) (treeT (allE l).1 D f).1), 0, 0) else ([], (treeT (allE l).1 D f).2.e, (treeT (allE l).1 D f).2.pos) := by
  obtain ⟨h1, h2⟩ := tree_m (allE l).1 D f
  unfold parseQ
  rw [if_neg (by omega), if_neg (by omega)]
  unfold resQ
  rw [h1]
  split
  · rename_i he; rw [h2 he]
  · rfl
/-- The leaves of a tree are all tokens. -/
theorem tree_leaves {l : List UInt8} (h : (allE l).2.1 = 0) (D : Nat) (f : Bool) (he : (treeT (allE l).1 D f).2.e = 0) : lvTs (treeT (allE l).1 D f).1 = List.range (allE l).1.length := by
  obtain ⟨hE, hne⟩ := end_all h
  have hpos : startQ.i < (allE l).1.length := List.length_pos_iff.2 hne
  have hx := (nx_run (allE l).1 D D).expr
  have hg := (nx_good (allE l).1 D D).expr
  cases f
  · have hok : (programT (allE l).1 (nxT (allE l).1 D D).expr startQ).2.i < (allE l).1.length := by
      unfold programT
      have i1 := many_good (allE l).1 (most := 16) (c := isQ (allE l).1 [105, 109, 112, 111, 114, 116]) (step := impStepT (allE l).1) (s := startQ) (fun r hc hr => impStep_good _ hr hc) (fuelQ (allE l).1 startQ) 0 ([], startQ) (Good.nil _ _)
      have i2 := many_good (allE l).1 (most := 64) (c := isDef (allE l).1) (step := defStepT (allE l).1 (nxT (allE l).1 D D).expr) (s := startQ) (fun r hc hr => hr.app (def_good _ hg _)) (fuelQ (allE l).1 (importsT (allE l).1 ([], startQ)).2.2) 0 (importsT (allE l).1 ([], startQ)).2 i1
      split
      · exact i1.inr hE hpos
      split
      · exact i2.inr hE hpos
      · exact (i2.app (kind_good _ 5 _)).inr hE hpos
    exact program_run _ hx hE rfl hok he
  · have hok : (aloneT (allE l).1 (nxT (allE l).1 D D).expr startQ).2.i < (allE l).1.length :=
      ((hg (setIn true startQ)).app (kind_good _ 5 _)).inr hE hpos
    exact alone_run _ hx hE rfl hok he
/-- Two depths: the same answer, or the smaller one is refused for its depth. -/
theorem parse_depths {l : List UInt8} (h : (allE l).2.1 = 0) {D D' : Nat} (hD : D ≤ D') (h1 : 1 ≤ D) (f : Bool) :
    treeT (allE l).1 D f = treeT (allE l).1 D' f ∨ ((treeT (allE l).1 D f).2.e = 23 ∧ ((treeT (allE l).1 D' f).2.e = 23 → (treeT (allE l).1 D f).2.pos ≤ (treeT (allE l).1 D' f).2.pos)) := by
  obtain ⟨hE, hne⟩ := end_all h
  have hpos : startQ.i < (allE l).1.length := List.length_pos_iff.2 hne
  have key := depths_rs hE (grow_all h) hD h1 startQ hpos
  have fin : ∀ a b : RT, RS (allE l).1 a b → a = b ∨ (a.2.e = 23 ∧ (b.2.e = 23 → a.2.pos ≤ b.2.pos)) := fun a b hr => by
    rcases hr with e | hb
    · exact .inl e
    · exact .inr ⟨hb.deep, hb.late⟩
  unfold treeT
  cases f
  · exact fin _ _ key.1
  · exact fin _ _ key.2

structure Keep (s : St) (r : RT) : Prop where
  inn : r.2.inn = s.inn
  dead : s.e ≠ 0 → r.2 = s
theorem Keep.nil (s : St) : Keep s ([], s) := ⟨rfl, fun _ => rfl⟩
theorem Keep.app {s : St} {a b : RT} (h1 : Keep s a) (h2 : Keep a.2 b) {l : List Tr} : Keep s (l, b.2) := by
  refine ⟨h2.inn.trans h1.inn, fun e => ?_⟩
  have ha := h1.dead e
  show b.2 = s
  rw [h2.dead (by rw [ha]; exact e), ha]
theorem Keep.node {s : St} {a : RT} (h : Keep s a) {l : List Tr} : Keep s (l, a.2) := ⟨h.inn, h.dead⟩

section
variable (T : List Tok)
theorem fail_same {n : Nat} {s : St} (h : s.e ≠ 0) : failQ T n s = s := by unfold failQ; rw [if_neg h]
theorem fail_keep (n : Nat) (s : St) (l : List Tr) : Keep s (l, failQ T n s) := ⟨by show (failQ T n s).inn = s.inn; unfold failQ; split <;> rfl, fun h => fail_same T h⟩
theorem nest_same {D n : Nat} {s : St} (h : s.e ≠ 0) : nestQ T D n s = s := by unfold nestQ; split; exact fail_same T h; rfl
theorem nest_inn (D n : Nat) (s : St) : (nestQ T D n s).inn = s.inn := by unfold nestQ; split; exact (fail_keep T 23 s []).inn; rfl
theorem nest_keep {D n : Nat} {s : St} {r : RT} (h : Keep (nestQ T D n s) r) : Keep s r :=
  ⟨h.inn.trans (nest_inn T D n s), fun e => by have h1 := nest_same T (D := D) (n := n) e; rw [h.dead (by rw [h1]; exact e), h1]⟩
theorem leaf_keep {s : St} (h : s.e = 0) : Keep s (leafT T s) := ⟨by show (leafQ T s).2.inn = s.inn; unfold leafQ; split <;> rfl, fun e => absurd h e⟩
theorem must_keep (x : List UInt8) (s : St) : Keep s (mustT T x s) := by
  unfold mustT; split
  · rename_i h; exact leaf_keep T (is_kind h).2
  · exact fail_keep T 22 s []
theorem kind_keep (k : Nat) (s : St) : Keep s (kindT T k s) := by
  unfold kindT; split
  · rename_i h; exact leaf_keep T h.1
  · exact fail_keep T 22 s []
theorem row_keep {c : St → Bool} {sub : St → RT} (hc : ∀ s, c s = true → s.e = 0) (hs : ∀ s, Keep s (sub s)) {s : St} : ∀ f r, Keep s r → Keep s (rwT T c sub f r)
  | 0, r, h => h
  | f + 1, r, h => by
    unfold rwT
    split
    · rename_i hcc
      exact row_keep hc hs f _ ((h.app (leaf_keep T (hc _ hcc)) (l := [])).app (hs _))
    · exact h
theorem parts_keep {sub : St → RT} (hs : ∀ s, Keep s (sub s)) {s : St} : ∀ f k r, Keep s r → Keep s (partsT T sub f k r)
  | 0, k, r, h => h
  | f + 1, k, r, h => by
    unfold partsT
    split
    · rename_i hcc
      refine parts_keep hs f _ _ ?_
      refine (h.app (leaf_keep T (is_kind hcc).2) (l := [])).app ?_
      show Keep (leafT T r.2).2 _
      split
      · exact (fail_keep T 15 _ []).app (hs _)
      · exact hs _
    · exact h
structure NxK (nt : NxT) : Prop where
  expr : ∀ s, Keep s (nt.expr s)
  formula : ∀ s, Keep s (nt.formula s)
  nots : ∀ s, Keep s (nt.nots s)
  factor : ∀ s, Keep s (nt.factor s)
end

section
variable (T : List Tok) (D n : Nat) {nt : NxT} (h : NxK nt)
include h
theorem args_keep (s : St) : Keep s (argsT T nt s) := parts_keep T h.expr _ _ _ (h.expr s)
omit h in
theorem nameB_keep {s : St} {a : RT} (ha : Keep s a) : Keep s (nameBT T a) := by
  unfold nameBT; split
  · rename_i hc; exact (ha.app (leaf_keep T (is_kind hc).2) (l := [])).app (kind_keep T _ _)
  · exact ha
omit h in
theorem nameC_keep {s : St} {a : RT} (ha : Keep s a) : Keep s (nameCT T a) := ha.app (must_keep T _ _)
theorem nameD_keep {s : St} {a : RT} (ha : Keep s a) : Keep s (nameDT T nt a) := by
  unfold nameDT; split
  · exact ha
  · exact ha.app (args_keep T h _)
omit h in
theorem nameE_keep {s : St} {a : RT} (ha : Keep s a) : Keep s (nameET T a) := ha.app (must_keep T _ _)
theorem name_keep {s : St} (hk : s.e = 0) : Keep s (nameT T nt s) := by
  unfold nameT; split
  · exact (leaf_keep T hk).node
  · exact nameE_keep T (nameD_keep T h (nameC_keep T (nameB_keep T (leaf_keep T hk))))
theorem atom_keep (s : St) : Keep s (atomT T nt s) := by
  unfold atomT
  split
  · exact Keep.nil s
  rename_i he
  have he : s.e = 0 := by omega
  split
  · exact (leaf_keep T he).node
  split
  · exact (leaf_keep T he).node
  split
  · exact (leaf_keep T he).node
  split
  · exact ((leaf_keep T he).app (h.expr _) (l := [])).app (must_keep T _ _)
  split
  · exact name_keep T h he
  · exact fail_keep T 22 s []
omit h in
theorem sign_keep {sub : St → RT} (hs : ∀ s, Keep s (sub s)) {s : St} (hk : s.e = 0) : Keep s (signT T D n sub s) := by
  unfold signT
  simp only []
  split
  · exact (leaf_keep T hk).app (nest_keep T (Keep.nil _))
  · exact (leaf_keep T hk).app (nest_keep T (hs _))
theorem factor_keep (s : St) : Keep s (factorT T D n nt s) := by
  unfold factorT; split
  · rename_i hk; exact sign_keep T D n h.factor (is_kind hk).2
  · exact atom_keep T h s
theorem product_keep (s : St) : Keep s (productT T D n nt s) := row_keep T (fun _ hc => mul_e hc) (factor_keep T D n h) _ _ (factor_keep T D n h s)
theorem sum_keep (s : St) : Keep s (sumT T D n nt s) := row_keep T (fun _ hc => add_e hc) (product_keep T D n h) _ _ (product_keep T D n h s)
theorem not_keep (s : St) : Keep s (notT T D n nt s) := by
  unfold notT
  simp only []
  split
  · rename_i hk; exact sign_keep T D n h.nots (is_kind hk).2
  split
  · rename_i hk; exact ((sum_keep T D n h s).app (leaf_keep T (cmp_e hk)) (l := [])).app (sum_keep T D n h _)
  · exact sum_keep T D n h s
theorem and_keep (s : St) : Keep s (andT T D n nt s) := row_keep T (fun _ hc => (is_kind hc).2) (not_keep T D n h) _ _ (not_keep T D n h s)
theorem or_keep (s : St) : Keep s (orT T D n nt s) := row_keep T (fun _ hc => (is_kind hc).2) (and_keep T D n h) _ _ (and_keep T D n h s)
theorem formula_keep (s : St) : Keep s (formulaT T D n nt s) := by
  unfold formulaT
  simp only []
  split
  · rename_i hk
    split
    · exact ((or_keep T D n h s).app (leaf_keep T (is_kind hk).2) (l := [])).app (nest_keep T (Keep.nil _))
    · exact ((or_keep T D n h s).app (leaf_keep T (is_kind hk).2) (l := [])).app (nest_keep T (h.formula _))
  · exact or_keep T D n h s
theorem let_keep {s : St} (hk : s.e = 0) : Keep s (letT T nt s) :=
  (((((leaf_keep T hk).app (kind_keep T _ _) (l := [])).app (must_keep T _ _) (l := [])).app (h.expr _) (l := [])).app (must_keep T _ _) (l := [])).app (h.expr _)
theorem if_keep {s : St} (hk : s.e = 0) : Keep s (ifT T nt s) :=
  (((((leaf_keep T hk).app (h.expr _) (l := [])).app (must_keep T _ _) (l := [])).app (h.expr _) (l := [])).app (must_keep T _ _) (l := [])).app (h.expr _)
theorem assert_keep {s : St} (hk : s.e = 0) : Keep s (assertT T nt s) :=
  (((leaf_keep T hk).app (h.expr _) (l := [])).app (must_keep T _ _) (l := [])).app (h.expr _)
theorem expr_keep (s : St) : Keep s (exprT T D n nt s) := by
  unfold exprT
  simp only []
  split
  · exact nest_keep T (Keep.nil _)
  split
  · rename_i hk; exact nest_keep T (let_keep T h (is_kind hk.2).2)
  split
  · rename_i hk; exact nest_keep T (if_keep T h (is_kind hk.2).2)
  split
  · rename_i hk; exact nest_keep T (assert_keep T h (is_kind hk.2).2)
  · exact nest_keep T (formula_keep T D n h _)
end
theorem nx_keep (T : List Tok) (D : Nat) : ∀ d, NxK (nxT T D d)
  | 0 => ⟨fun s => nest_keep T (Keep.nil _), fun s => Keep.nil s, fun s => Keep.nil s, fun s => Keep.nil s⟩
  | d + 1 => ⟨expr_keep T D _ (nx_keep T D d), formula_keep T D _ (nx_keep T D d), not_keep T D _ (nx_keep T D d), factor_keep T D _ (nx_keep T D d)⟩

/-! ### What is nested -/

/-- What the program reads where nothing but an expression stands: no nesting is counted. -/
def bodyE (T : List Tok) (D n : Nat) (nt : NxT) (s : St) : RT :=
  if isQ T [108, 101, 116] s = true then letT T nt s
  else if isQ T [105, 102] s = true then ifT T nt s
  else if isQ T [97, 115, 115, 101, 114, 116] s = true then assertT T nt s
  else formulaT T D n nt s
theorem body_keep (T : List Tok) (D n : Nat) {nt : NxT} (h : NxK nt) (s : St) : Keep s (bodyE T D n nt s) := by
  unfold bodyE
  split
  · rename_i hk; exact let_keep T h (is_kind hk).2
  split
  · rename_i hk; exact if_keep T h (is_kind hk).2
  split
  · rename_i hk; exact assert_keep T h (is_kind hk).2
  · exact formula_keep T D n h s
/-- All that is nested by more than n. -/
abbrev NT (T : List Tok) (D n : Nat) : NxT := nxT T D (D - n)
def nestP (T : List Tok) (D n : Nat) (sub : St → RT) (s : St) : RT := if n = D then ([], failQ T 23 s) else sub s
theorem NT_succ (T : List Tok) {D n : Nat} (h : n < D) : NT T D n = { expr := exprT T D (n + 1) (NT T D (n + 1)), formula := formulaT T D (n + 1) (NT T D (n + 1)), nots := notT T D (n + 1) (NT T D (n + 1)), factor := factorT T D (n + 1) (NT T D (n + 1)) } := by
  show nxT T D (D - n) = _
  have h1 : D - n = (D - (n + 1)) + 1 := by omega
  have h2 : D - (D - (n + 1)) = n + 1 := by omega
  rw [h1]
  show { expr := exprT T D (D - (D - (n + 1))) _, formula := formulaT T D (D - (D - (n + 1))) _, nots := notT T D (D - (D - (n + 1))) _, factor := factorT T D (D - (D - (n + 1))) _ : NxT } = _
  rw [h2]
theorem nest_deep (T : List Tok) (D : Nat) (s : St) : nestQ T D (D + 1) s = failQ T 23 s := by unfold nestQ; rw [if_pos (by omega)]
theorem nest_flat (T : List Tok) {D n : Nat} (h : n < D) (s : St) : nestQ T D (n + 1) s = s := by unfold nestQ; rw [if_neg (by omega)]
theorem expr_nest (T : List Tok) {D n : Nat} (hn : n ≤ D) (s : St) (hi : s.inn = false) : Eqv (nestP T D n (bodyE T D (n + 1) (NT T D (n + 1))) s) ((NT T D n).expr s) := by
  unfold nestP
  split
  · rename_i h
    subst h
    have : (NT T n n).expr s = ([], nestQ T n (n + 1) s) := by unfold NT; rw [Nat.sub_self]; rfl
    rw [this, nest_deep]; exact Eqv.refl _
  · rename_i h
    have hlt : n < D := by omega
    rw [NT_succ T hlt]
    show Eqv (bodyE T D (n + 1) (NT T D (n + 1)) s) (exprT T D (n + 1) (NT T D (n + 1)) s)
    unfold exprT
    rw [nest_flat T hlt]
    simp only []
    by_cases he : s.e ≠ 0
    · rw [if_pos he]
      exact ⟨(body_keep T D (n + 1) (nx_keep T D _) s).dead he, fun e => absurd e he⟩
    · rw [if_neg he]
      unfold bodyE
      simp only [hi, true_and]
      exact Eqv.refl _
theorem form_nest (T : List Tok) {D n : Nat} (hn : n ≤ D) (s : St) (hi : s.inn = true) : Eqv (nestP T D n (formulaT T D (n + 1) (NT T D (n + 1))) s) ((NT T D n).expr s) := by
  unfold nestP
  split
  · rename_i h
    subst h
    have : (NT T n n).expr s = ([], nestQ T n (n + 1) s) := by unfold NT; rw [Nat.sub_self]; rfl
    rw [this, nest_deep]; exact Eqv.refl _
  · rename_i h
    have hlt : n < D := by omega
    rw [NT_succ T hlt]
    show Eqv (formulaT T D (n + 1) (NT T D (n + 1)) s) (exprT T D (n + 1) (NT T D (n + 1)) s)
    unfold exprT
    rw [nest_flat T hlt]
    simp only []
    by_cases he : s.e ≠ 0
    · rw [if_pos he]
      exact ⟨(formula_keep T D (n + 1) (nx_keep T D _) s).dead he, fun e => absurd e he⟩
    · rw [if_neg he]
      simp only [hi, Bool.true_eq_false, false_and, if_false]
      exact Eqv.refl _
theorem leaf_live (T : List Tok) {s : St} (h : s.e = 0) : (leafT T s).2.e = 0 := by show (leafQ T s).2.e = 0; unfold leafQ; split <;> exact h
/-- A sign, and what is nested behind it. -/
theorem sign_eqv (T : List Tok) {D n : Nat} (hn : n ≤ D) {sub sub' : St → RT} (hs : n < D → sub' = sub) (s : St) (hk : s.e = 0) :
    Eqv ([.nd 11 ((leafT T s).1 ++ (nestP T D n sub (leafT T s).2).1)], (nestP T D n sub (leafT T s).2).2) (signT T D n sub' s) := by
  unfold signT nestP
  simp only []
  by_cases h : n = D
  · subst h
    rw [if_pos rfl, nest_deep, if_pos (fail_e T (by decide) _)]
    exact ⟨rfl, fun e => absurd e (fail_e T (by decide) _)⟩
  · have hlt : n < D := by omega
    rw [if_neg h, nest_flat T hlt, hs hlt, if_neg (by rw [leaf_live T hk]; decide)]
    exact Eqv.refl _
/-- A formula with what is nested behind its sign. -/
theorem form_eqv (T : List Tok) {D n : Nat} (hn : n ≤ D) {sub : St → RT} {nt : NxT} (hs : n < D → nt.formula = sub) (s : St) (hk : isQ T [61, 62] (orT T D n nt s).2 = true) :
    Eqv ([.nd 10 ((orT T D n nt s).1 ++ (leafT T (orT T D n nt s).2).1 ++ (nestP T D n sub (leafT T (orT T D n nt s).2).2).1)], (nestP T D n sub (leafT T (orT T D n nt s).2).2).2) (formulaT T D n nt s) := by
  unfold formulaT nestP
  simp only []
  rw [if_pos hk]
  by_cases h : n = D
  · subst h
    rw [if_pos rfl, nest_deep, if_pos (fail_e T (by decide) _)]
    exact ⟨rfl, fun e => absurd e (fail_e T (by decide) _)⟩
  · have hlt : n < D := by omega
    rw [if_neg h, nest_flat T hlt, hs hlt, if_neg (by rw [leaf_live T (is_kind hk).2]; decide)]
    exact Eqv.refl _

/-! ### Loops -/

theorem rwT_stop {T : List Tok} {c : St → Bool} {sub : St → RT} {r : RT} (hc : c r.2 = false) : ∀ f, rwT T c sub f r = r
  | 0 => rfl
  | f + 1 => by unfold rwT; rw [hc]; rfl
def rowS (T : List Tok) (sub : St → RT) (r : RT) : RT := ([.nd 10 (r.1 ++ (leafT T r.2).1 ++ (sub (leafT T r.2).2).1)], (sub (leafT T r.2).2).2)
def LeftR (T : List Tok) (c : St → Bool) (sub : St → RT) (R r : RT) : Prop := ∃ f, T.length - r.2.i + 1 ≤ f ∧ rwT T c sub f r = R
theorem LeftR.start (T : List Tok) (c : St → Bool) (sub : St → RT) (s : St) : LeftR T c sub (rwT T c sub (fuelQ T (sub s).2) (sub s)) (sub s) := ⟨_, Nat.le_refl _, rfl⟩
theorem LeftR.stop {T : List Tok} {c : St → Bool} {sub : St → RT} {R r : RT} (h : LeftR T c sub R r) (hc : c r.2 = false) : R = r := by
  obtain ⟨f, -, hf⟩ := h; rw [← hf, rwT_stop hc]
theorem leaf_i {T : List Tok} {s : St} (hk : (tokQ T s).kind ≠ 5) : (leafT T s).2.i = s.i + 1 := (leaf_fits hk).2
theorem LeftR.next {T : List Tok} {c : St → Bool} {sub : St → RT} {R r : RT} (h : LeftR T c sub R r) (hc : c r.2 = true) (hk : (tokQ T r.2).kind ≠ 5) (hi : r.2.i < T.length) (hm : (leafT T r.2).2.i ≤ (sub (leafT T r.2).2).2.i) : LeftR T c sub R (rowS T sub r) ∧ r.2.i < (rowS T sub r).2.i := by
  obtain ⟨f, hf, hr⟩ := h
  have h1 := leaf_i hk
  have h2 : r.2.i < (rowS T sub r).2.i := by show r.2.i < (sub (leafT T r.2).2).2.i; omega
  refine ⟨⟨f - 1, by omega, ?_⟩, h2⟩
  obtain ⟨k, rfl⟩ : ∃ k, f = k + 1 := ⟨f - 1, by omega⟩
  unfold rwT at hr
  rw [if_pos hc] at hr
  exact hr

/-- Parts with commas, as the program goes at them: j rounds are left. -/
def loopP (T : List Tok) (sub : St → RT) : Nat → RT → RT
  | 0, r => (r.1, failQ T 15 r.2)
  | j + 1, r => if isQ T [44] (sub r.2).2 = true then loopP T sub j (r.1 ++ (sub r.2).1 ++ (leafT T (sub r.2).2).1, (leafT T (sub r.2).2).2) else (r.1 ++ (sub r.2).1, (sub r.2).2)
def listP (T : List Tok) (sub : St → RT) (s : St) : RT := if isQ T [41] s = true then ([], s) else loopP T sub 8 ([], s)
theorem parts_stopT {T : List Tok} {sub : St → RT} {r : RT} {k : Nat} (hc : isQ T [44] r.2 = false) : ∀ f, partsT T sub f k r = r
  | 0 => rfl
  | f + 1 => by unfold partsT; rw [hc]; rfl
theorem is_live {T : List Tok} {x : List UInt8} {s : St} (h : s.e ≠ 0) : isQ T x s = false := by unfold isQ; exact decide_eq_false (fun e => h e.1)
theorem loop_parts (T : List Tok) {sub : St → RT} (hs : ∀ s, Good T s (sub s)) (hk : ∀ s, s.e ≠ 0 → (sub s).2 = s) : ∀ (j f : Nat) (r : RT), j + 1 ≤ 8 → T.length - (sub r.2).2.i + 1 ≤ f → r.2.i ≤ T.length → Eqv (loopP T sub (j + 1) r) (partsT T sub f (8 - j) (r.1 ++ (sub r.2).1, (sub r.2).2)) := by
  intro j
  induction j with
  | zero =>
    intro f r _ hf hr
    unfold loopP
    by_cases hc : isQ T [44] (sub r.2).2 = true
    · obtain ⟨g, rfl⟩ : ∃ g, f = g + 1 := ⟨f - 1, by omega⟩
      rw [if_pos hc]
      unfold partsT
      rw [if_pos hc]
      simp only [Nat.sub_zero, if_true]
      have hd : (failQ T 15 (leafT T (sub r.2).2).2).e ≠ 0 := fail_e T (by decide) _
      have h2 := hk _ hd
      rw [h2, parts_stopT (is_live hd)]
      exact ⟨rfl, fun e => absurd e hd⟩
    · rw [if_neg hc, parts_stopT (by simpa using hc)]
      exact Eqv.refl _
  | succ j ih =>
    intro f r hj hf hr
    have e1 : loopP T sub (j + 1 + 1) r = if isQ T [44] (sub r.2).2 = true then loopP T sub (j + 1) (r.1 ++ (sub r.2).1 ++ (leafT T (sub r.2).2).1, (leafT T (sub r.2).2).2) else (r.1 ++ (sub r.2).1, (sub r.2).2) := by rw [loopP]
    rw [e1]
    by_cases hc : isQ T [44] (sub r.2).2 = true
    · obtain ⟨g, rfl⟩ : ∃ g, f = g + 1 := ⟨f - 1, by omega⟩
      rw [if_pos hc]
      unfold partsT
      rw [if_pos hc]
      simp only []
      rw [if_neg (show ¬ 8 - (j + 1) = 8 by omega), show 8 - (j + 1) + 1 = 8 - j by omega]
      have hki := (is_kind hc).1
      have hl := leaf_i (T := T) (s := (sub r.2).2) hki
      have hm := (hs (leafT T (sub r.2).2).2).mono
      have hlt : (sub r.2).2.i < T.length := by
        rcases Nat.lt_or_ge (sub r.2).2.i T.length with h | h
        · exact h
        · exact absurd (by unfold tokQ; rw [List.getElem?_eq_none h]; rfl) hki
      exact ih g (r.1 ++ (sub r.2).1 ++ (leafT T (sub r.2).2).1, (leafT T (sub r.2).2).2) (by omega) (by show T.length - (sub (leafT T (sub r.2).2).2).2.i + 1 ≤ g; omega) (by show (leafT T (sub r.2).2).2.i ≤ T.length; omega)
    · rw [if_neg hc, parts_stopT (by simpa using hc)]
      exact Eqv.refl _
/-- Parts, or none, up to a parenthesis. -/
theorem list_parts (T : List Tok) {sub : St → RT} (hs : ∀ s, Good T s (sub s)) (hk : ∀ s, s.e ≠ 0 → (sub s).2 = s) (s : St) (hi : s.i ≤ T.length) : Eqv (listP T sub s) (if isQ T [41] s = true then ([], s) else partsT T sub (fuelQ T (sub s).2) 1 (sub s)) := by
  unfold listP
  split
  · exact Eqv.refl _
  · have h := loop_parts T hs hk 7 (fuelQ T (sub s).2) ([], s) (by omega) (Nat.le_refl _) hi
    simpa using h
end Go.Proofs.YtddccnpohpaofaaGreatDoor
namespace Go.Proofs.YtddccnpohpaofaaGreatDoor.Zd
open Go.RowKit Mx

theorem digits_w (p : Option Addr) (n cap : Nat) (f : Nat → Nat) (w : World) (h3 : At .u64 w p n f) (h4 : ∀ j, j < n → f j < Bw) (h5 : n = 0 ∨ f (n - 1) ≠ 0) (h0 : 0 < n) (hL : V Bw f 0 n < Lim) : Calls Tryz.prog 59 #[.slice p n cap] w (DigPost (V Bw f 0 n) w) := by
  have hn := lim_len h5 hL
  unfold LimN at hn
  exact digitsFromLast_w p n cap f w hn h3 h4 h5 h0

theorem nd_small {N : Nat} (h : N < Lim) : nd N ≤ 6400000 := by
  rcases Nat.lt_or_ge 6400000 (nd N) with hlt | hge
  · exfalso
    have hN : N ≠ 0 := by intro e; subst e; rw [nd, dif_pos rfl] at hlt; omega
    have h1 := nd_le N hN
    have h2 : 2 ^ (nd N - 1) ≤ 10 ^ (nd N - 1) := Nat.pow_le_pow_left (by omega) _
    have h3 : Lim = 2 ^ (64 * LimN) := by unfold Lim; rw [Nat.pow_mul, show (2 : Nat) ^ 64 = Bw from rfl]
    have h4 : 2 ^ (64 * LimN) ≤ 2 ^ (nd N - 1) := Nat.pow_le_pow_right (by omega) (by unfold LimN; omega)
    omega
  · exact hge

theorem decL_len (N : Nat) : (decL N).length = nd N := by simp [decL]
theorem dig_lt (N j : Nat) : dig N j < 10 := Nat.mod_lt _ (by omega)
theorem decL_get (N j : Nat) (h : j < (decL N).length) : (decL N)[j].toNat = 48 + dig N (nd N - 1 - j) := by
  have := dig_lt N (nd N - 1 - j)
  simp [decL]
  omega

theorem txt_pos {N : Nat} (h : N ≠ 0) : txtL (N : Int) = decL N := by
  unfold txtL
  rw [if_neg (by omega), if_neg (by omega)]; simp
theorem txt_neg {N : Nat} (h : N ≠ 0) : txtL (-(N : Int)) = 45 :: decL N := by
  unfold txtL
  rw [if_neg (by omega), if_pos (by omega)]; simp

theorem conv_run (w : World) (base g cap n : Nat) (f : Nat → Nat) (l : List UInt8) (h : Own .u8 5 w base (.slice (some ⟨g, 0, none⟩) n cap) n f) (hl : l.length = n) (hf : ∀ j (hj : j < l.length), l[j].toNat = f j) :
    (convert 73 9 (.slice (some ⟨g, 0, none⟩) n cap)).run Tryz.prog w = .ok (.string ⟨l.toArray⟩) w := by
  have := run_convert_bytes_back (P := Tryz.prog) w 73 9 5 ⟨g, 0, none⟩ cap l Tryz.underlying73 Tryz.underlying5 Tryz.underlying9 (fun j hj => by
    rw [addr_add, Nat.zero_add, h.cell (by omega), hf j hj])
  rwa [hl] at this

theorem neg_bytes {N : Nat} {fd : Nat → Nat} (hF : ∀ j, j < nd N → fd j = 48 + dig N j) : ∀ j (hj : j < (45 :: decL N).length), (45 :: decL N)[j].toNat = upd fd (nd N) 45 (nd N + 1 - 1 - j) := by
  intro j hj
  rw [List.length_cons, decL_len] at hj
  match j with
  | 0 => simp [upd]
  | j + 1 =>
    rw [upd_ne (by omega), List.getElem_cons_succ, decL_get, hF _ (by omega)]
    congr 2; omega

set_option maxHeartbeats 2000000 in
theorem String_c (x : Value) (Z : Int) (w : World) (h : IsInt w x Z) (hZ : Z.natAbs < Lim) : Calls Tryz.prog 33 #[x] w (ValPost (txt Z) w) := by
  obtain ⟨s, p, n, cap, f, rfl, h1, h2, h3, h4, h5, h6, rfl⟩ := int_open h
  have hg := World.grownBy_alloc w (.cells #[.bool s, .slice p n cap] 27) none
  have hab : (sgn s (V Bw f 0 n)).natAbs = V Bw f 0 n := by cases s <;> simp [sgn]
  rw [hab] at hZ
  by_cases hn : n = 0
  · subst hn
    have hz : sgn s (V Bw f 0 0) = 0 := by cases s <;> simp [sgn, V]
    rw [hz]
    have hfin : ValPost (txt 0) w (.returned (.string ⟨#[48]⟩)) (w.alloc (.cells #[.bool s, .slice p 0 cap] 27)) := ⟨rfl, hg⟩
    have HFIN := Lib.hid hfin
    clear hfin h h3 h4 h5 h6 hg hz hab hZ
    go_enter Tryz.func33, Tryz.ntmps33
    go_wp2
    go_ret
    exact HFIN.out
  · have hv := (num_len h5).1 (by omega)
    have hne : ((n : Int) == 0) = false := beq_eq_false_iff_ne.2 (by omega)
    have HD := Lib.hid (digits_w p n cap f _ (h3.grown hg (by simp)) h4 h5 (by omega) hZ)
    have HND := Lib.hid (nd_small hZ)
    have HV := Lib.hid hv
    have HG := Lib.hid hg
    generalize V Bw f 0 n = N at *
    clear h h3 h4 h5 h6 hg hab hZ hv
    cases s
    · go_enter Tryz.func33, Tryz.ntmps33
      go_wp2_with (first
        | (go_at_call 59; refine HD.out.mono ?_; rintro e w2 ⟨g, cp, fd, rfl, hO, hF, hg2⟩; have HO := Lib.hid hO; have HF := Lib.hid hF; have HG2 := Lib.hid hg2; obtain ⟨hcr, hfr⟩ := bcell hg2; have hsz2 := hg2.size; clear hO hF hg2)
        | (go_at_call 60; refine (reverse_c g cp (nd N) fd _ _ HO.out (by have := HND.out; omega)).mono ?_; rintro e w3 ⟨rfl, hO3, hG3⟩; have hcv := conv_run w3 _ g cp (nd N) _ (decL N) hO3 (decL_len N) (by intro j hj; rw [decL_get]; rw [decL_len] at hj; exact (HF.out _ (by omega)).symm); have HG3 := Lib.hid hG3; clear hO3 hG3))
      go_ret
      refine ⟨?_, gb_own (gb_trans HG.out HG2.out) HO.out (by simp) HG3.out⟩
      have : txt (sgn false (N : Int).toNat) = .string ⟨(decL N).toArray⟩ := by
        show Value.string ⟨(txtL ((N : Int).toNat : Int)).toArray⟩ = _
        rw [Int.toNat_natCast, txt_pos HV.out]
      rw [Int.toNat_natCast] at this
      rw [this]; rfl
    · go_enter Tryz.func33, Tryz.ntmps33
      go_wp2_with (first
        | (go_at_call 59; refine HD.out.mono ?_; rintro e w2 ⟨g, cp, fd, rfl, hO, hF, hg2⟩; have HO := Lib.hid hO; have HF := Lib.hid hF; have HG2 := Lib.hid hg2; obtain ⟨hcr, hfr⟩ := bcell hg2; have hsz2 := hg2.size; have hND := HND.out; clear hO hF hg2)
        | (at_builtin; refine wpList_app1 (k := .u8) (t := 73) (e := 5) (bytes := 1) Tryz.underlying73 info8 (by omega) rfl _ _ rfl _ (.slice (some ⟨g, 0, none⟩) (nd N) cp) (nd N) fd _ 45 rfl rfl HO.out rfl (by omega) hsz2 ?_))
      intro v' w3 hO' hG'
      obtain ⟨g', cp', rfl, hb', hs', hc', hm'⟩ : ∃ g' cp', v' = .slice (some ⟨g', 0, none⟩) (nd N + 1) cp' ∧ _ ≤ g' ∧ g' < w3.heap.size ∧ nd N + 1 ≤ cp' ∧ cp' ≤ maxLen := by
        rcases hO'.shape with ⟨_, h⟩ | h
        · omega
        · exact h
      have HO' := Lib.hid hO'; have HG' := Lib.hid (gb_own (gb_trans HG.out HG2.out) HO.out (by simp) hG')
      clear hO' hG' hcr hfr hc' hm'
      go_wp2_with (go_at_call 60; refine (reverse_c g' cp' (nd N + 1) _ _ _ HO'.out (by omega)).mono ?_; rintro e w4 ⟨rfl, hO4, hG4⟩; have hcv := conv_run w4 _ g' cp' (nd N + 1) _ (45 :: decL N) hO4 (by rw [List.length_cons, decL_len]) (neg_bytes HF.out); have HG4 := Lib.hid hG4; clear hO4 hG4)
      go_ret
      refine ⟨?_, gb_own HG'.out HO'.out (by simp) HG4.out⟩
      have : txt (sgn true (N : Int).toNat) = .string ⟨(45 :: decL N).toArray⟩ := by
        show Value.string ⟨(txtL (-((N : Int).toNat : Int))).toArray⟩ = _
        rw [Int.toNat_natCast, txt_neg HV.out]
      rw [Int.toNat_natCast] at this
      rw [this]; rfl

/-- Plain digits: one at least, no nought ahead of others. -/
def plain (l : List UInt8) : Bool := (l.all fun b => decide (48 ≤ b.toNat ∧ b.toNat ≤ 57)) && (decide (l = [48]) || (decide (l ≠ []) && decide (l.head? ≠ some 48)))

theorem idx_run (s : ByteArray) (k b : Nat) (h : k < s.data.toList.length) (hb : (s.data.toList[k]).toNat = b) : ∀ w : World, (Instr.index 9 (.string s) (.int .i64 (k : Int))).run Tryz.prog w = .ok (.int .u8 (b : Int)) w := by
  intro w
  have hs : s.data.toList.length = s.size := Array.length_toList
  rw [run_index_string w 9 s .i64 k Tryz.underlying9, dif_pos ⟨by omega, by omega⟩]
  have e : (s[((k : Int)).toNat]'(by omega)).toNat = b := by
    rw [← hb]; simp [ByteArray.getElem_eq_getElem_data]
  rw [e]

theorem toList_data (s : ByteArray) : s.toList = s.data.toList := ByteArray.toList_eq s

theorem byte_lt (x : UInt8) : x.toNat < 256 := x.toNat_lt

set_option maxHeartbeats 2000000 in
theorem plain_c (s : ByteArray) (w : World) (hs : s.data.toList.length ≤ 1000) : Calls Tryz.prog 30 #[.string s] w (fun e w' => e = .returned (.bool (plain s.data.toList)) ∧ w' = w) := by
  obtain ⟨n, hn⟩ : ∃ n, s.data.toList.length = n := ⟨_, rfl⟩
  have hsz : s.size = n := by rw [← hn]; exact (Array.length_toList).symm
  rw [hn] at hs
  have HN := Lib.hid hn
  clear hn
  go_enter Tryz.func30, Tryz.ntmps30
  go_wp2
  go_loopw [6] (fun i wr => ∃ k : Nat, k ≤ n ∧ i = .int .i64 k ∧ Hid (∀ j (hj : j < s.data.toList.length), j < k → 48 ≤ (s.data.toList[j]).toNat ∧ (s.data.toList[j]).toNat ≤ 57) ∧ wr = w) (fun i _ => n - (intOf i).toNat)
  case atStart => exact ⟨0, by omega, rfl, fun j _ h => by omega, rfl⟩
  case round =>
    obtain ⟨k, hk, rfl, HD, rfl⟩ := hrel
    by_cases hlt : k < n
    · obtain ⟨b, hb⟩ : ∃ b : Nat, (s.data.toList[k]'(by rw [HN.out]; exact hlt)).toNat = b := ⟨_, rfl⟩
      have hb2 : b < 256 := by rw [← hb]; exact byte_lt _
      have hix := idx_run s k b (by rw [HN.out]; exact hlt) hb
      have HB := Lib.hid hb
      clear hb
      have hbad : (b < 48 ∨ 57 < b) → plain s.data.toList = false := by
        intro h
        unfold plain
        have : (s.data.toList.all fun b => decide (48 ≤ b.toNat ∧ b.toNat ≤ 57)) = false := by
          rw [List.all_eq_false]
          exact ⟨_, List.getElem_mem (by rw [HN.out]; exact hlt), by rw [HB.out]; simp; omega⟩
        rw [this]; rfl
      have HBAD := Lib.hid hbad
      clear hbad
      by_cases h1 : b < 48
      · have d1 : decide ((b : Int) < 48) = true := decide_eq_true (by omega)
        go_wp2
        go_ret
        exact ⟨congrArg (fun b => Ending.returned (.bool b)) (HBAD.out (.inl h1)).symm, rfl⟩
      · have d1 : decide ((b : Int) < 48) = false := decide_eq_false (by omega)
        by_cases h2 : 57 < b
        · have d2 : decide ((57 : Int) < b) = true := decide_eq_true (by omega)
          go_wp2
          go_ret
          exact ⟨congrArg (fun b => Ending.returned (.bool b)) (HBAD.out (.inr h2)).symm, rfl⟩
        · have d2 : decide ((57 : Int) < b) = false := decide_eq_false (by omega)
          go_wp2
          go_roundw
          case rel =>
            refine ⟨k + 1, by omega, by go_num, fun j hj h => ?_, by first | rfl | trivial⟩
            rcases Nat.lt_or_ge j k with h | h
            · exact HD.out j hj h
            · obtain rfl : j = k := by omega
              rw [HB.out]; omega
          case measure => simp [intOf]; omega
    · obtain rfl : k = n := by omega
      have hall : (s.data.toList.all fun b => decide (48 ≤ b.toNat ∧ b.toNat ≤ 57)) = true := by
        rw [List.all_eq_true]
        intro x hx
        obtain ⟨j, hj, rfl⟩ := List.getElem_of_mem hx
        exact decide_eq_true (HD.out j hj (by rw [← HN.out]; exact hj))
      have hp : plain s.data.toList = (decide (s.data.toList = [48]) || (decide (s.data.toList ≠ []) && decide (s.data.toList.head? ≠ some 48))) := by
        unfold plain; rw [hall]; rfl
      have HP := Lib.hid hp
      clear hall hp
      by_cases hz : s.data.toList = [48]
      · have c1 : (s.toList == [48]) = true := by rw [toList_data, hz]; rfl
        have HZ := Lib.hid hz
        clear hz
        go_wp2
        go_ret
        exact ⟨congrArg (fun b => Ending.returned (.bool b)) (show true = plain s.data.toList by rw [HP.out, HZ.out]; rfl), by first | rfl | trivial⟩
      · have c1 : (s.toList == [48]) = false := by rw [toList_data]; exact beq_eq_false_iff_ne.2 hz
        by_cases h0 : k = 0
        · subst h0
          have hnil : s.data.toList = [] := List.eq_nil_of_length_eq_zero HN.out
          have c2 : s.toList.isEmpty = true := by rw [toList_data, hnil]; rfl
          have HZ := Lib.hid hnil
          clear hz hnil
          go_wp2
          go_ret
          exact ⟨congrArg (fun b => Ending.returned (.bool b)) (show false = plain s.data.toList by rw [HP.out, HZ.out]; rfl), by first | rfl | trivial⟩
        · have h0' : 0 < s.data.toList.length := by rw [HN.out]; omega
          have hnil : s.data.toList ≠ [] := List.ne_nil_of_length_pos h0'
          have c2 : s.toList.isEmpty = false := by rw [toList_data]; simpa using hnil
          have hpl : ∀ h : 0 < s.size, ((((s[0]'h).toNat : Nat) : Int) != 48) = plain s.data.toList := by
            intro h
            have e : s[0]'h = s.data.toList[0]'h0' := by simp [ByteArray.getElem_eq_getElem_data]
            rw [e, HP.out, decide_eq_false hz, decide_eq_true hnil, Bool.false_or, Bool.true_and, List.head?_eq_getElem?, List.getElem?_eq_getElem h0']
            generalize s.data.toList[0] = x
            by_cases hx : x = 48
            · subst hx; decide
            · rw [decide_eq_true (by simpa using hx)]
              exact bne_iff_ne.2 (fun e => hx (UInt8.toNat_inj.1 (by have : x.toNat = 48 := by omega
                                                                     rw [this]; rfl)))
          have HPL := Lib.hid hpl
          clear hz hnil hpl
          go_wp2
          go_ret
          exact ⟨congrArg (fun b => Ending.returned (.bool b)) (HPL.out _), by first | rfl | trivial⟩
end Go.Proofs.YtddccnpohpaofaaGreatDoor.Zd
namespace Go.Proofs.YtddccnpohpaofaaGreatDoor
open Go.RowKit

def rowB (l : List UInt8) : List Value := [strV l, .pointer none, .int .i64 0]
def rowX (g o : Nat) (least : Int) : List Value := [.string ⟨#[]⟩, .pointer (some ⟨g, o, none⟩), .int .i64 least]
/-- The rows of parts: what stands ahead, and the kid. -/
def partsR (g o : Nat) : Nat → List (List UInt8) → List (List Value)
  | _, [] => []
  | i, l :: A => rowB l :: rowX g (o + i * 8) 0 :: partsR g o (i + 1) A
theorem partsR_take (g o : Nat) : ∀ (A : List (List UInt8)) (i k : Nat) (l : List UInt8), A[k]? = some l → partsR g o i (A.take (k + 1)) = partsR g o i (A.take k) ++ [rowB l, rowX g (o + (i + k) * 8) 0]
  | [], i, k, l, h => by simp at h
  | x :: A, i, 0, l, h => by simp at h; subst h; simp [partsR]
  | x :: A, i, k + 1, l, h => by
    have := partsR_take g o A (i + 1) k l (by simpa using h)
    simp only [List.take_succ_cons, partsR, this, List.cons_append]
    rw [show i + 1 + k = i + (k + 1) by omega]
theorem partsR_len (g o : Nat) : ∀ (A : List (List UInt8)) (i : Nat), (partsR g o i A).length = 2 * A.length
  | [], i => rfl
  | x :: A, i => by simp only [partsR, List.length_cons, partsR_len g o A (i + 1)]; omega
set_option maxRecDepth 100000 in
set_option maxHeartbeats 16000000 in
theorem parts_c9 (S : Nat → Prop) (B b : Nat) (rows : List (List Value)) (fg fo gk ok kn ck gs os m cs : Nat) (A : List (List UInt8)) (w : World) (h : WrAt S B b w rows) (hl : rows.length ≤ 900000) (hA : A.length = m) (hm : m ≤ kn) (hk : kn ≤ 1000000) (hm9 : m ≤ 9)
    (c6 : w.cell? ⟨fg, fo + 6, none⟩ = some (.slice (some ⟨gk, ok, none⟩) kn ck)) (hSf : S fg) (hSs : S gs) (hs : ∀ (i : Nat) (l : List UInt8), A[i]? = some l → w.cell? ⟨gs, os + i, none⟩ = some (strV l)) :
    Calls Tryz.prog 117 #[.pointer (some ⟨b, 0, none⟩), .pointer (some ⟨fg, fo, none⟩), .slice (some ⟨gs, os, none⟩) m cs] w (PcPost S B b (rows ++ partsR gk ok 0 A) w) := by
  have HPUT := Lib.hid (fun rows s W h h2 => put_c9 S B b rows s W h h2)
  have HEXP := Lib.hid (fun rows a W h h2 => expr_c9 S B b rows a 0 W h h2)
  have HW := Lib.hid h; have HL := Lib.hid hl; have HA := Lib.hid hA; have HC6 := Lib.hid c6; have HS := Lib.hid hs; have HSF := Lib.hid hSf; have HSG := Lib.hid hSs
  have hbw : b < w.heap.size := by obtain ⟨v, hb, -⟩ := h; exact hlt hb
  have hfgw : fg < w.heap.size := by obtain ⟨v, -, -, -, -, -, -, hh⟩ := h; exact hh _ hSf
  have hgsw : gs < w.heap.size := by obtain ⟨v, -, -, -, -, -, -, hh⟩ := h; exact hh _ hSs
  have HBW := Lib.hid hbw; have HFW := Lib.hid hfgw; have HGW := Lib.hid hgsw
  have keep : ∀ W, Fr2 (fun k => ¬ S k) w W → W.cell? ⟨fg, fo + 6, none⟩ = some (.slice (some ⟨gk, ok, none⟩) kn ck) ∧ (∀ (i : Nat) (l : List UInt8), A[i]? = some l → W.cell? ⟨gs, os + i, none⟩ = some (strV l)) := fun W hf =>
    ⟨by rw [World.cell?_of_block (w := w) (hf.block fg hfgw (fun e => e hSf))]; exact c6, fun i l hi => by rw [World.cell?_of_block (w := w) (hf.block gs hgsw (fun e => e hSs))]; exact hs i l hi⟩
  have HKP := Lib.hid keep
  clear h hl hA c6 hs hSf hSs hbw hfgw hgsw keep
  go_enter Tryz.func117, Tryz.ntmps117
  go_wp2_with fail
  go_loopw [10] (fun iv wr => ∃ k : Nat, k ≤ m ∧ iv = .int .i64 k ∧ Hid (WrAt S B b wr (rows ++ partsR gk ok 0 (A.take k))) ∧ Hid (Fr2 (fun k => ¬ S k) w wr)) (fun iv _ => m - (intOf iv).toNat)
  case atStart => exact ⟨0, Nat.zero_le _, rfl, Lib.hid (by simpa [partsR] using HW.out), Lib.hid (Fr2.refl _ _)⟩
  case round =>
    obtain ⟨k, hkm, rfl, HWR, HF⟩ := hrel
    by_cases hlt : k < m
    · have y3 : decide ((k : Int) < (m : Int)) = true := decide_eq_true (by omega)
      have y4 : decide (k < m) = true := decide_eq_true hlt
      obtain ⟨l, hx⟩ : ∃ l, A[k]? = some l := ⟨A[k]'(by rw [HA.out]; exact hlt), List.getElem?_eq_getElem _⟩
      have HTK := Lib.hid (partsR_take gk ok A 0 k l hx)
      have ct := (HKP.out wr HF.out).2 k l hx
      have hgs : gs < wr.heap.size := Nat.lt_of_lt_of_le HGW.out HF.out.size
      unfold strV at ct
      have HLR : Hid ((rows ++ partsR gk ok 0 (A.take k)).length ≤ 900018) := Lib.hid (by rw [List.length_append, partsR_len, List.length_take]; have := HL.out; omega)
      clear hx
      go_wp2_with fail
      refine (HPUT.out _ _ wr HWR.out (by have := HLR.out; omega)).mono ?_
      rintro e w2 ⟨rfl, hw2, hf2⟩
      have HW2 := Lib.hid hw2; have HF2 := Lib.hid (HF.out.trans hf2)
      have c6 := (HKP.out w2 HF2.out).1
      have hfw : fg < w2.heap.size := Nat.lt_of_lt_of_le HFW.out HF2.out.size
      have z1 : (0 : Int) ≤ (k : Int) := by omega
      have z2 : (k : Int) < (kn : Int) := by omega
      have z3 : decide (k < kn) = true := decide_eq_true (by omega)
      clear hw2 hf2 ct
      go_wp2_with fail
      refine (HEXP.out _ _ w2 HW2.out (by have h := HLR.out; simp only [List.length_append, List.length_cons, List.length_nil] at h ⊢; omega)).mono ?_
      rintro e w3 ⟨rfl, hw3, hf3⟩
      have HF3 := Lib.hid (HF2.out.trans hf3)
      have HW3 : Hid (WrAt S B b w3 (rows ++ partsR gk ok 0 (A.take (k + 1)))) := Lib.hid (by
        rw [HTK.out, Nat.zero_add]
        simp only [List.append_assoc, List.cons_append, List.nil_append] at hw3 ⊢
        exact hw3)
      clear hw3 hf3 c6
      go_wp2_with fail
      go_roundw
      case rel => exact ⟨k + 1, by omega, by go_num, HW3, HF3⟩
      case measure => (simp [intOf] <;> omega)
    · obtain rfl : k = m := by omega
      have HWE : Hid (WrAt S B b wr (rows ++ partsR gk ok 0 A)) := Lib.hid (by
        have := HWR.out
        rwa [List.take_of_length_le (by rw [HA.out]; exact Nat.le_refl _)] at this)
      go_wp2_with fail
      go_end0
      exact ⟨rfl, HWE.out, HF.out⟩
end Go.Proofs.YtddccnpohpaofaaGreatDoor
