/- The leaves of the parser's trees: where no fault was, the tokens in their order. -/
import Derived.Test.YthclkbaankjbiaaGreatDoorM28
namespace Go.Proofs.YthclkbaankjbiaaGreatDoor

mutual
def lvT : Tr → List Nat
  | .lf i => [i]
  | .nd _ l => lvTs l
def lvTs : List Tr → List Nat
  | [] => []
  | t :: l => lvT t ++ lvTs l
end
theorem lvTs_append (a b : List Tr) : lvTs (a ++ b) = lvTs a ++ lvTs b := by
  induction a with
  | nil => simp [lvTs]
  | cons t a ih => simp [lvTs, ih]
theorem lvTs_node (k : Nat) (l : List Tr) : lvTs [.nd k l] = lvTs l := by simp [lvTs, lvT]

/-- From a to z: what has come is what lies between. -/
def Run (s : St) (r : RT) : Prop := r.2.e = 0 → s.e = 0 ∧ s.i ≤ r.2.i ∧ lvTs r.1 = List.range' s.i (r.2.i - s.i)
theorem Run.nil (s : St) : Run s ([], s) := fun h => ⟨h, Nat.le_refl _, by simp [lvTs]⟩
theorem Run.bad {s t : St} {l : List Tr} (h : t.e ≠ 0) : Run s (l, t) := fun e => absurd e h
theorem Run.app {s : St} {a b : RT} (h1 : Run s a) (h2 : Run a.2 b) : Run s (a.1 ++ b.1, b.2) := fun e => by
  obtain ⟨e2, l2, r2⟩ := h2 e
  obtain ⟨e1, l1, r1⟩ := h1 e2
  refine ⟨e1, Nat.le_trans l1 l2, ?_⟩
  show lvTs (a.1 ++ b.1) = _
  rw [lvTs_append, r1, r2]
  have h3 : a.2.i = s.i + 1 * (a.2.i - s.i) := by omega
  have h4 : b.2.i - s.i = (a.2.i - s.i) + (b.2.i - a.2.i) := by omega
  show _ = List.range' s.i (b.2.i - s.i)
  rw [h4, ← List.range'_append, ← h3]
theorem Run.node {s : St} {l : List Tr} {t : St} (k : Nat) (h : Run s (l, t)) : Run s ([.nd k l], t) := fun e => by
  obtain ⟨h1, h2, h3⟩ := h e
  exact ⟨h1, h2, by show lvTs [.nd k l] = _; rw [lvTs_node]; exact h3⟩
theorem Run.same {s t : St} {r : RT} (h : Run t r) (he : t.e = 0 → s.e = 0) (hi : t.i = s.i) : Run s r := fun e => by
  obtain ⟨h1, h2, h3⟩ := h e
  exact ⟨he h1, by omega, by rw [← hi]; exact h3⟩

section
variable (T : List Tok)
theorem leaf_run {s : St} (h : (tokQ T s).kind ≠ 5) : Run s (leafT T s) := fun e => by
  have h1 := (leaf_fits h).2
  have h2 : (leafT T s).2.i = s.i + 1 := h1
  have h3 : s.e = 0 := by
    have : (leafT T s).2.e = s.e := by show (leafQ T s).2.e = s.e; unfold leafQ; rw [if_neg h]
    omega
  refine ⟨h3, by omega, ?_⟩
  rw [h2]
  show lvTs [.lf s.i] = _
  simp [lvTs, lvT]
theorem fail_run {n : Nat} (hn : n ≠ 0) (s t : St) (l : List Tr) : Run s (l, failQ T n t) := Run.bad (fail_e T hn t)
theorem must_run (w : List UInt8) (s : St) : Run s (mustT T w s) := by
  unfold mustT
  split
  · rename_i h; exact leaf_run T (is_kind h).1
  · exact fail_run T (by decide) s s []
theorem kind_run {k : Nat} (hk : k ≠ 5) (s : St) : Run s (kindT T k s) := by
  unfold kindT
  split
  · rename_i h; exact leaf_run T (by rw [h.2]; exact hk)
  · exact fail_run T (by decide) s s []
theorem nest_run {D n : Nat} {s : St} {r : RT} (h : Run (nestQ T D n s) r) : Run s r :=
  h.same (fun e => by
    unfold nestQ at e
    split at e
    · exact absurd e (fail_e T (by decide) s)
    · exact e) (nest_i T D n s)
theorem row_run {c : St → Bool} {sub : St → RT} (hc : ∀ s, c s = true → (tokQ T s).kind ≠ 5) (hs : ∀ s, Run s (sub s)) {s : St} : ∀ f r, Run s r → Run s (rwT T c sub f r)
  | 0, r, h => h
  | f + 1, r, h => by
    unfold rwT
    split
    · rename_i hcc
      refine row_run hc hs f _ (Run.node 10 ?_)
      exact (h.app (leaf_run T (hc _ hcc))).app (hs _)
    · exact h
theorem parts_run {sub : St → RT} (hs : ∀ s, Run s (sub s)) {s : St} : ∀ f k r, Run s r → Run s (partsT T sub f k r)
  | 0, k, r, h => h
  | f + 1, k, r, h => by
    unfold partsT
    split
    · rename_i hcc
      refine parts_run hs f _ _ ?_
      refine (h.app (leaf_run T (is_kind hcc).1)).app ?_
      refine (hs _).same ?_ ?_
      · intro e
        split at e
        · exact absurd e (fail_e T (by decide) _)
        · exact e
      · split
        · exact fail_i _ _ _
        · rfl
    · exact h

structure NxR (nt : NxT) : Prop where
  expr : ∀ s, Run s (nt.expr s)
  formula : ∀ s, Run s (nt.formula s)
  nots : ∀ s, Run s (nt.nots s)
  factor : ∀ s, Run s (nt.factor s)
end

section
variable (T : List Tok) (D n : Nat) {nt : NxT} (h : NxR nt)
include h
theorem args_run (s : St) : Run s (argsT T nt s) := parts_run T h.expr _ _ _ (h.expr s)
omit h in
theorem nameB_run {s : St} {a : RT} (ha : Run s a) : Run s (nameBT T a) := by
  unfold nameBT
  split
  · rename_i hc; exact (ha.app (leaf_run T (is_kind hc).1)).app (kind_run T (by decide) _)
  · exact ha
omit h in
theorem nameC_run {s : St} {a : RT} (ha : Run s a) : Run s (nameCT T a) := ha.app (must_run T _ _)
theorem nameD_run {s : St} {a : RT} (ha : Run s a) : Run s (nameDT T nt a) := by
  unfold nameDT
  split
  · exact ha
  · exact ha.app (args_run T h _)
omit h in
theorem nameE_run {s : St} {a : RT} (ha : Run s a) : Run s (nameET T a) := Run.node 13 (ha.app (must_run T _ _))
theorem name_run {s : St} (hk : (tokQ T s).kind ≠ 5) : Run s (nameT T nt s) := by
  unfold nameT
  split
  · exact Run.node 14 (leaf_run T hk)
  · exact nameE_run T (nameD_run T h (nameC_run T (nameB_run T (leaf_run T hk))))
theorem atom_run (s : St) : Run s (atomT T nt s) := by
  unfold atomT
  split
  · rename_i he; exact Run.bad he
  split
  · rename_i hk; exact Run.node 15 (leaf_run T (by rw [hk]; decide))
  split
  · rename_i hk; exact Run.node 16 (leaf_run T (by rcases hk with hk | hk <;> exact (is_kind hk).1))
  split
  · rename_i hk; exact Run.node 17 (leaf_run T (is_kind hk.2).1)
  split
  · rename_i hk; exact Run.node 12 (((leaf_run T (is_kind hk).1).app (h.expr _)).app (must_run T _ _))
  split
  · rename_i hk; exact name_run T h (by rw [hk]; decide)
  · exact fail_run T (by decide) s s []
omit h in
theorem sign_run {sub : St → RT} (hs : ∀ s, Run s (sub s)) {s : St} (hk : (tokQ T s).kind ≠ 5) : Run s (signT T D n sub s) := by
  unfold signT
  simp only []
  split
  · rename_i he; exact Run.bad he
  · exact Run.node 11 ((leaf_run T hk).app (nest_run T (hs _)))
theorem factor_run (s : St) : Run s (factorT T D n nt s) := by
  unfold factorT
  split
  · rename_i hk; exact sign_run T D n h.factor (is_kind hk).1
  · exact atom_run T h s
theorem product_run (s : St) : Run s (productT T D n nt s) := row_run T (fun _ hc => mul_kind hc) (factor_run T D n h) _ _ (factor_run T D n h s)
theorem sum_run (s : St) : Run s (sumT T D n nt s) := row_run T (fun _ hc => add_kind hc) (product_run T D n h) _ _ (product_run T D n h s)
theorem not_run (s : St) : Run s (notT T D n nt s) := by
  unfold notT
  simp only []
  split
  · rename_i hk; exact sign_run T D n h.nots (is_kind hk).1
  split
  · rename_i hk; exact Run.node 10 (((sum_run T D n h s).app (leaf_run T (cmp_kind hk))).app (sum_run T D n h _))
  · exact sum_run T D n h s
theorem and_run (s : St) : Run s (andT T D n nt s) := row_run T (fun _ hc => (is_kind hc).1) (not_run T D n h) _ _ (not_run T D n h s)
theorem or_run (s : St) : Run s (orT T D n nt s) := row_run T (fun _ hc => (is_kind hc).1) (and_run T D n h) _ _ (and_run T D n h s)
theorem formula_run (s : St) : Run s (formulaT T D n nt s) := by
  unfold formulaT
  simp only []
  split
  · rename_i hk
    split
    · rename_i he; exact Run.bad he
    · exact Run.node 10 (((or_run T D n h s).app (leaf_run T (is_kind hk).1)).app (nest_run T (h.formula _)))
  · exact or_run T D n h s
theorem let_run {s : St} (hk : (tokQ T s).kind ≠ 5) : Run s (letT T nt s) :=
  Run.node 7 ((((((leaf_run T hk).app (kind_run T (by decide) _)).app (must_run T _ _)).app (h.expr _)).app (must_run T _ _)).app (h.expr _))
theorem if_run {s : St} (hk : (tokQ T s).kind ≠ 5) : Run s (ifT T nt s) :=
  Run.node 8 ((((((leaf_run T hk).app (h.expr _)).app (must_run T _ _)).app (h.expr _)).app (must_run T _ _)).app (h.expr _))
theorem assert_run {s : St} (hk : (tokQ T s).kind ≠ 5) : Run s (assertT T nt s) :=
  Run.node 9 ((((leaf_run T hk).app (h.expr _)).app (must_run T _ _)).app (h.expr _))
theorem expr_run (s : St) : Run s (exprT T D n nt s) := by
  unfold exprT
  simp only []
  split
  · rename_i he; exact Run.bad he
  split
  · rename_i hk; exact nest_run T (let_run T h (is_kind hk.2).1)
  split
  · rename_i hk; exact nest_run T (if_run T h (is_kind hk.2).1)
  split
  · rename_i hk; exact nest_run T (assert_run T h (is_kind hk.2).1)
  · exact nest_run T (formula_run T D n h _)
end
theorem nx_run (T : List Tok) (D : Nat) : ∀ d, NxR (nxT T D d)
  | 0 => ⟨fun s => nest_run T (Run.nil _), fun s => Run.nil s, fun s => Run.nil s, fun s => Run.nil s⟩
  | d + 1 => ⟨expr_run T D _ (nx_run T D d), formula_run T D _ (nx_run T D d), not_run T D _ (nx_run T D d), factor_run T D _ (nx_run T D d)⟩

section
variable (T : List Tok) {et : St → RT} (h : ∀ s, Run s (et s))
include h
omit h in
theorem typB_run {s : St} {a : RT} (ha : Run s a) : Run s (typBT T a) := by
  unfold typBT
  split
  · rename_i hk; exact ha.app (Run.node 5 (leaf_run T (by rcases hk with hk | hk <;> exact (is_kind hk).1)))
  · exact fail_run T (by decide) s _ _
theorem typC_run {s : St} {a : RT} (ha : Run s a) : Run s (typCT T et a) := by
  unfold typCT
  split
  · rename_i hk
    refine ha.app (Run.node 6 (((leaf_run T (is_kind hk).1).app ?_).app ?_))
    · exact (h _).same (fun e => e) rfl
    · exact (must_run T _ _).same (fun e => e) rfl
  · exact ha
theorem typed_run (s : St) : Run s (typedT T et s) := typC_run T h (typB_run T (must_run T _ s))
theorem par_run (s : St) : Run s (parT T et s) := Run.node 4 ((kind_run T (by decide) s).app (typed_run T h _))
theorem params_run (s : St) : Run s (paramsT T et s) := parts_run T (par_run T h) _ _ _ (par_run T h s)
omit h in
theorem defA_run (s : St) : Run s (defAT T s) := by
  unfold defAT
  split
  · rename_i hk; exact leaf_run T (is_kind hk).1
  · exact Run.nil s
omit h in
theorem defB_run {s : St} {a : RT} (ha : Run s a) : Run s (defBT T a) := ha.app (((must_run T _ _).app (kind_run T (by decide) _)).app (must_run T _ _))
theorem defC_run {s : St} {a : RT} (ha : Run s a) : Run s (defCT T et a) := by
  unfold defCT
  split
  · exact ha.app (params_run T h _)
  · exact ha
theorem defD_run {s : St} {a : RT} (ha : Run s a) : Run s (defDT T et a) :=
  ((ha.app (((must_run T _ _).app (typed_run T h _)).app (must_run T _ _))).app (h _)).app (must_run T _ _)
theorem def_run (s : St) : Run s (defT T et s) := Run.node 3 (defD_run T h (defC_run T h (defB_run T (defA_run T s))))
omit h in
theorem impStep_run {s : St} {r : RT} (hr : Run s r) (hc : isQ T [105, 109, 112, 111, 114, 116] r.2 = true) : Run s (impStepT T r) :=
  hr.app (Run.node 2 (((leaf_run T (is_kind hc).1).app (kind_run T (by decide) _)).app (must_run T _ _)))
omit h in
theorem many_run {c : St → Bool} {step : RT → RT} {most : Nat} {s : St} (hs : ∀ r, c r.2 = true → Run s r → Run s (step r)) : ∀ f k r, Run s r → Run s (manyT T c step most f k r).2
  | 0, k, r, hr => hr
  | f + 1, k, r, hr => by
    unfold manyT
    split
    · rename_i hc
      split
      · exact fail_run T (by decide) s _ _
      · exact many_run hs f _ _ (hs r hc hr)
    · exact hr
omit h in
/-- The end comes: it is the last token. -/
theorem end_run {s : St} {r : RT} (hr : Run s r) (he : (kindT T 5 r.2).2.e = 0) : s.e = 0 ∧ (tokQ T r.2).kind = 5 ∧ s.i ≤ r.2.i ∧ lvTs (r.1 ++ (kindT T 5 r.2).1) = List.range' s.i (r.2.i + 1 - s.i) := by
  unfold kindT at he ⊢
  split at he
  · rename_i hk
    obtain ⟨h1, h2, h3⟩ := hr hk.1
    rw [if_pos hk]
    refine ⟨h1, hk.2, h2, ?_⟩
    rw [lvTs_append, h3]
    have h4 : r.2.i + 1 - s.i = (r.2.i - s.i) + 1 := by omega
    have h5 : r.2.i = s.i + 1 * (r.2.i - s.i) := by omega
    rw [h4, ← List.range'_append, ← h5]
    simp [leafT, lvTs, lvT]
  · exact absurd he (fail_e T (by decide) _)
omit h in
theorem end_place (hE : EndT T) {s : St} (hok : (kindT T 5 s).2.i < T.length) (hk : (tokQ T s).kind = 5) : s.i + 1 = T.length := by
  have e : (kindT T 5 s).2.i = s.i := by
    unfold kindT
    split
    · show (leafQ T s).2.i = s.i
      unfold leafQ; rw [if_pos hk]
    · exact fail_i T 22 s
  rw [e] at hok
  have ht : T[s.i]? = some (tokQ T s) := by unfold tokQ; rw [List.getElem?_eq_getElem hok]; rfl
  exact (hE _ _ ht).1 hk
/-- A program's leaves are all the tokens. -/
theorem program_run (hE : EndT T) {s : St} (hs : s.i = 0) (hok : (programT T et s).2.i < T.length) (he : (programT T et s).2.e = 0) : lvTs (programT T et s).1 = List.range T.length := by
  have hb1' : (importsT T ([], s)).1 = false → (importsT T ([], s)).2.2.e ≠ 0 := many_bad T _ _ _
  have hI : Run s (importsT T ([], s)).2 := many_run T (fun r hc hr => impStep_run T hr hc) _ _ _ (Run.nil s)
  have hb2' : (defsT T et (importsT T ([], s)).2).1 = false → (defsT T et (importsT T ([], s)).2).2.2.e ≠ 0 := many_bad T _ _ _
  have hD : Run s (defsT T et (importsT T ([], s)).2).2 := many_run T (fun r hc hr => hr.app (def_run T h _)) _ _ _ hI
  unfold programT at he hok ⊢
  split at he
  · rename_i hc; exact absurd he (hb1' hc)
  · rename_i hc1
    split at he
    · rename_i hc; exact absurd he (hb2' hc)
    · rename_i hc2
      rw [if_neg hc1, if_neg hc2]
      obtain ⟨-, hk, -, hl⟩ := end_run T hD he
      show lvTs (_ ++ _) = _
      rw [hl, hs]
      rw [if_neg hc1, if_neg hc2] at hok
      have hi := end_place T (s := (defsT T et (importsT T ([], s)).2).2.2) hE hok hk
      rw [hi, Nat.sub_zero, List.range_eq_range']
/-- So are a formula's. -/
theorem alone_run (hE : EndT T) {s : St} (hs : s.i = 0) (hok : (aloneT T et s).2.i < T.length) (he : (aloneT T et s).2.e = 0) : lvTs (aloneT T et s).1 = List.range T.length := by
  have hX : Run s (et (setIn true s)) := (h _).same (fun e => e) rfl
  unfold aloneT at he hok ⊢
  simp only [] at he hok ⊢
  obtain ⟨-, hk, -, hl⟩ := end_run T hX he
  rw [hl, hs, end_place T hE hok hk, Nat.sub_zero, List.range_eq_range']
end
end Go.Proofs.YthclkbaankjbiaaGreatDoor
namespace Go.Proofs.YthclkbaankjbiaaGreatDoor

structure Good (T : List Tok) (s : St) (r : RT) : Prop where
  stay : s.e ≠ 0 → r.2.e = s.e ∧ r.2.pos = s.pos ∧ r.2.i = s.i
  mono : s.i ≤ r.2.i
  place : s.e = 0 → r.2.e ≠ 0 → r.2.pos = (tokQ T r.2).pos
  inr : EndT T → s.i < T.length → r.2.i < T.length
theorem Good.nil (T : List Tok) (s : St) : Good T s ([], s) := ⟨fun _ => ⟨rfl, rfl, rfl⟩, Nat.le_refl _, fun h e => absurd h e, fun _ h => h⟩
theorem Good.self (T : List Tok) (r : RT) : Good T r.2 r := ⟨fun _ => ⟨rfl, rfl, rfl⟩, Nat.le_refl _, fun h e => absurd h e, fun _ h => h⟩
theorem Good.app {T : List Tok} {s : St} {a b : RT} (h1 : Good T s a) (h2 : Good T a.2 b) : Good T s (a.1 ++ b.1, b.2) := by
  refine ⟨fun e => ?_, Nat.le_trans h1.mono h2.mono, fun e eb => ?_, fun hE h => h2.inr hE (h1.inr hE h)⟩
  · obtain ⟨a1, a2, a3⟩ := h1.stay e
    obtain ⟨b1, b2, b3⟩ := h2.stay (by rw [a1]; exact e)
    exact ⟨b1.trans a1, b2.trans a2, b3.trans a3⟩
  · by_cases ea : a.2.e = 0
    · exact h2.place ea eb
    · obtain ⟨b1, b2, b3⟩ := h2.stay ea
      have := h1.place e ea
      show b.2.pos = (tokQ T b.2).pos
      have e2 : tokQ T b.2 = tokQ T a.2 := by unfold tokQ; rw [b3]
      rw [b2, e2]; exact this
theorem Good.state {T : List Tok} {s : St} {a b : RT} (h1 : Good T s a) (h2 : Good T a.2 b) {l : List Tr} : Good T s (l, b.2) :=
  ⟨(h1.app h2).stay, (h1.app h2).mono, (h1.app h2).place, (h1.app h2).inr⟩
theorem Good.node {T : List Tok} {s : St} {l : List Tr} {t : St} (k : Nat) (h : Good T s (l, t)) : Good T s ([.nd k l], t) := ⟨h.stay, h.mono, h.place, h.inr⟩
theorem Good.inn {T : List Tok} {s : St} {v : Bool} {r : RT} (h : Good T (setIn v s) r) : Good T s r := ⟨h.stay, h.mono, h.place, h.inr⟩
theorem mul_e {T : List Tok} {s : St} (h : isMul T s = true) : s.e = 0 := by
  unfold isMul at h; simp only [Bool.or_eq_true] at h; rcases h with (h | h) | h <;> exact (is_kind h).2
theorem add_e {T : List Tok} {s : St} (h : isAdd T s = true) : s.e = 0 := by
  unfold isAdd at h; simp only [Bool.or_eq_true] at h; rcases h with h | h <;> exact (is_kind h).2
theorem cmp_e {T : List Tok} {s : St} (h : isCmp T s = true) : s.e = 0 := by
  unfold isCmp at h; simp only [Bool.or_eq_true] at h; rcases h with ((((h | h) | h) | h) | h) | h <;> exact (is_kind h).2

section
variable (T : List Tok)
theorem leaf_good {s : St} (h : s.e = 0) : Good T s (leafT T s) := by
  have h1 : (leafT T s).2.e = 0 := by show (leafQ T s).2.e = 0; unfold leafQ; split <;> exact h
  refine ⟨fun e => absurd h e, ?_, fun _ e => absurd h1 e, fun hE hl => ?_⟩
  rotate_left
  · show (leafQ T s).2.i < T.length
    have ht : T[s.i]? = some (tokQ T s) := by unfold tokQ; rw [List.getElem?_eq_getElem hl]; rfl
    have := hE _ _ ht
    unfold leafQ; split
    · exact hl
    · show s.i + 1 < T.length; omega
  show s.i ≤ (leafQ T s).2.i
  unfold leafQ; split
  · exact Nat.le_refl _
  · exact Nat.le_succ _
theorem fail_good (n : Nat) (s : St) (l : List Tr) : Good T s (l, failQ T n s) := by
  refine ⟨fun e => ?_, ?_, fun e _ => ?_, fun _ hl => by show (failQ T n s).i < _; rw [fail_i]; exact hl⟩
  · have h : failQ T n s = s := by unfold failQ; rw [if_neg e]
    show (failQ T n s).e = s.e ∧ (failQ T n s).pos = s.pos ∧ (failQ T n s).i = s.i
    rw [h]; exact ⟨rfl, rfl, rfl⟩
  · show s.i ≤ (failQ T n s).i; rw [fail_i]; exact Nat.le_refl _
  · show (failQ T n s).pos = (tokQ T (failQ T n s)).pos; unfold failQ; rw [if_pos e]; rfl
theorem must_good (w : List UInt8) (s : St) : Good T s (mustT T w s) := by
  unfold mustT
  split
  · rename_i h; exact leaf_good T (is_kind h).2
  · exact fail_good T 22 s []
theorem kind_good (k : Nat) (s : St) : Good T s (kindT T k s) := by
  unfold kindT
  split
  · rename_i h; exact leaf_good T h.1
  · exact fail_good T 22 s []
theorem nest_good {D n : Nat} {s : St} {r : RT} (h : Good T (nestQ T D n s) r) : Good T s r := by
  have h0 : Good T s (([] : List Tr), nestQ T D n s) := by
    unfold nestQ; split
    · exact fail_good T 23 s []
    · exact Good.nil T s
  exact h0.app h
theorem row_good {c : St → Bool} {sub : St → RT} (hc : ∀ s, c s = true → s.e = 0) (hs : ∀ s, Good T s (sub s)) {s : St} : ∀ f r, Good T s r → Good T s (rwT T c sub f r)
  | 0, r, h => h
  | f + 1, r, h => by
    unfold rwT
    split
    · rename_i hcc
      refine row_good hc hs f _ (Good.node 10 ?_)
      exact (h.app (leaf_good T (hc _ hcc))).app (hs _)
    · exact h
theorem parts_good {sub : St → RT} (hs : ∀ s, Good T s (sub s)) {s : St} : ∀ f k r, Good T s r → Good T s (partsT T sub f k r)
  | 0, k, r, h => h
  | f + 1, k, r, h => by
    unfold partsT
    split
    · rename_i hcc
      refine parts_good hs f _ _ ?_
      refine (h.app (leaf_good T (is_kind hcc).2)).app ?_
      split
      · exact (fail_good T 15 _ []).app (hs _)
      · exact hs _
    · exact h

structure NxG (T : List Tok) (nt : NxT) : Prop where
  expr : ∀ s, Good T s (nt.expr s)
  formula : ∀ s, Good T s (nt.formula s)
  nots : ∀ s, Good T s (nt.nots s)
  factor : ∀ s, Good T s (nt.factor s)
end

section
variable (T : List Tok) (D n : Nat) {nt : NxT} (h : NxG T nt)
include h
theorem args_good (s : St) : Good T s (argsT T nt s) := parts_good T h.expr _ _ _ (h.expr s)
omit h in
theorem nameB_good {s : St} {a : RT} (ha : Good T s a) : Good T s (nameBT T a) := by
  unfold nameBT
  split
  · rename_i hc; exact (ha.app (leaf_good T (is_kind hc).2)).app (kind_good T _ _)
  · exact ha
omit h in
theorem nameC_good {s : St} {a : RT} (ha : Good T s a) : Good T s (nameCT T a) := ha.app (must_good T _ _)
theorem nameD_good {s : St} {a : RT} (ha : Good T s a) : Good T s (nameDT T nt a) := by
  unfold nameDT
  split
  · exact ha
  · exact ha.app (args_good T h _)
omit h in
theorem nameE_good {s : St} {a : RT} (ha : Good T s a) : Good T s (nameET T a) := Good.node 13 (ha.app (must_good T _ _))
theorem name_good {s : St} (hk : s.e = 0) : Good T s (nameT T nt s) := by
  unfold nameT
  split
  · exact Good.node 14 (leaf_good T hk)
  · exact nameE_good T (nameD_good T h (nameC_good T (nameB_good T (leaf_good T hk))))
theorem atom_good (s : St) : Good T s (atomT T nt s) := by
  unfold atomT
  split
  · exact Good.nil T s
  rename_i he
  have he : s.e = 0 := by omega
  split
  · exact Good.node 15 (leaf_good T he)
  split
  · exact Good.node 16 (leaf_good T he)
  split
  · exact Good.node 17 (leaf_good T he)
  split
  · exact Good.node 12 (((leaf_good T he).app (h.expr _)).app (must_good T _ _))
  split
  · exact name_good T h he
  · exact fail_good T 22 s []
omit h in
theorem sign_good {sub : St → RT} (hs : ∀ s, Good T s (sub s)) {s : St} (hk : s.e = 0) : Good T s (signT T D n sub s) := by
  unfold signT
  simp only []
  split
  · exact (leaf_good T hk).state (nest_good T (Good.nil T _))
  · exact Good.node 11 ((leaf_good T hk).app (nest_good T (hs _)))
theorem factor_good (s : St) : Good T s (factorT T D n nt s) := by
  unfold factorT
  split
  · rename_i hk; exact sign_good T D n h.factor (is_kind hk).2
  · exact atom_good T h s
theorem product_good (s : St) : Good T s (productT T D n nt s) := row_good T (fun _ hc => mul_e hc) (factor_good T D n h) _ _ (factor_good T D n h s)
theorem sum_good (s : St) : Good T s (sumT T D n nt s) := row_good T (fun _ hc => add_e hc) (product_good T D n h) _ _ (product_good T D n h s)
theorem not_good (s : St) : Good T s (notT T D n nt s) := by
  unfold notT
  simp only []
  split
  · rename_i hk; exact sign_good T D n h.nots (is_kind hk).2
  split
  · rename_i hk; exact Good.node 10 (((sum_good T D n h s).app (leaf_good T (cmp_e hk))).app (sum_good T D n h _))
  · exact sum_good T D n h s
theorem and_good (s : St) : Good T s (andT T D n nt s) := row_good T (fun _ hc => (is_kind hc).2) (not_good T D n h) _ _ (not_good T D n h s)
theorem or_good (s : St) : Good T s (orT T D n nt s) := row_good T (fun _ hc => (is_kind hc).2) (and_good T D n h) _ _ (and_good T D n h s)
theorem formula_good (s : St) : Good T s (formulaT T D n nt s) := by
  unfold formulaT
  simp only []
  split
  · rename_i hk
    split
    · exact ((or_good T D n h s).app (leaf_good T (is_kind hk).2)).state (nest_good T (Good.nil T _))
    · exact Good.node 10 (((or_good T D n h s).app (leaf_good T (is_kind hk).2)).app (nest_good T (h.formula _)))
  · exact or_good T D n h s
theorem let_good {s : St} (hk : s.e = 0) : Good T s (letT T nt s) :=
  Good.node 7 ((((((leaf_good T hk).app (kind_good T _ _)).app (must_good T _ _)).app (h.expr _)).app (must_good T _ _)).app (h.expr _))
theorem if_good {s : St} (hk : s.e = 0) : Good T s (ifT T nt s) :=
  Good.node 8 ((((((leaf_good T hk).app (h.expr _)).app (must_good T _ _)).app (h.expr _)).app (must_good T _ _)).app (h.expr _))
theorem assert_good {s : St} (hk : s.e = 0) : Good T s (assertT T nt s) :=
  Good.node 9 ((((leaf_good T hk).app (h.expr _)).app (must_good T _ _)).app (h.expr _))
theorem expr_good (s : St) : Good T s (exprT T D n nt s) := by
  unfold exprT
  simp only []
  split
  · exact nest_good T (Good.nil T _)
  split
  · rename_i hk; exact nest_good T (let_good T h (is_kind hk.2).2)
  split
  · rename_i hk; exact nest_good T (if_good T h (is_kind hk.2).2)
  split
  · rename_i hk; exact nest_good T (assert_good T h (is_kind hk.2).2)
  · exact nest_good T (formula_good T D n h _)
end
theorem nx_good (T : List Tok) (D : Nat) : ∀ d, NxG T (nxT T D d)
  | 0 => ⟨fun s => nest_good T (Good.nil T _), fun s => Good.nil T s, fun s => Good.nil T s, fun s => Good.nil T s⟩
  | d + 1 => ⟨expr_good T D _ (nx_good T D d), formula_good T D _ (nx_good T D d), not_good T D _ (nx_good T D d), factor_good T D _ (nx_good T D d)⟩

section
variable (T : List Tok) {et : St → RT} (h : ∀ s, Good T s (et s))
include h
omit h in
theorem typB_good {s : St} {a : RT} (ha : Good T s a) : Good T s (typBT T a) := by
  unfold typBT
  split
  · rename_i hk; exact ha.app (Good.node 5 (leaf_good T (by rcases hk with hk | hk <;> exact (is_kind hk).2)))
  · exact ha.state (fail_good T 22 _ [])
theorem typC_good {s : St} {a : RT} (ha : Good T s a) : Good T s (typCT T et a) := by
  unfold typCT
  split
  · rename_i hk
    refine ha.app (Good.node 6 (((leaf_good T (is_kind hk).2).app ?_).app ?_))
    · exact (h _).inn
    · exact (must_good T _ _).inn
  · exact ha
theorem typed_good (s : St) : Good T s (typedT T et s) := typC_good T h (typB_good T (must_good T _ s))
theorem par_good (s : St) : Good T s (parT T et s) := Good.node 4 ((kind_good T _ s).app (typed_good T h _))
theorem params_good (s : St) : Good T s (paramsT T et s) := parts_good T (par_good T h) _ _ _ (par_good T h s)
omit h in
theorem defA_good (s : St) : Good T s (defAT T s) := by
  unfold defAT
  split
  · rename_i hk; exact leaf_good T (is_kind hk).2
  · exact Good.nil T s
omit h in
theorem defB_good {s : St} {a : RT} (ha : Good T s a) : Good T s (defBT T a) := ha.app (((must_good T _ _).app (kind_good T _ _)).app (must_good T _ _))
theorem defC_good {s : St} {a : RT} (ha : Good T s a) : Good T s (defCT T et a) := by
  unfold defCT
  split
  · exact ha.app (params_good T h _)
  · exact ha
theorem defD_good {s : St} {a : RT} (ha : Good T s a) : Good T s (defDT T et a) :=
  ((ha.app (((must_good T _ _).app (typed_good T h _)).app (must_good T _ _))).app (h _)).app (must_good T _ _)
theorem def_good (s : St) : Good T s (defT T et s) := Good.node 3 (defD_good T h (defC_good T h (defB_good T (defA_good T s))))
omit h in
theorem impStep_good {s : St} {r : RT} (hr : Good T s r) (hc : isQ T [105, 109, 112, 111, 114, 116] r.2 = true) : Good T s (impStepT T r) :=
  hr.app (Good.node 2 (((leaf_good T (is_kind hc).2).app (kind_good T _ _)).app (must_good T _ _)))
omit h in
theorem many_good {c : St → Bool} {step : RT → RT} {most : Nat} {s : St} (hs : ∀ r, c r.2 = true → Good T s r → Good T s (step r)) : ∀ f k r, Good T s r → Good T s (manyT T c step most f k r).2
  | 0, k, r, hr => hr
  | f + 1, k, r, hr => by
    unfold manyT
    split
    · rename_i hc
      split
      · exact hr.state (fail_good T 15 _ [])
      · exact many_good hs f _ _ (hs r hc hr)
    · exact hr
end
end Go.Proofs.YthclkbaankjbiaaGreatDoor
