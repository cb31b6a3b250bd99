/- Lemmas. -/
import Derived.Test.YtijpelkjeejjfaaGreatDoorP45
import Derived.Test.YtijpelkjeejjfaaGreatDoorP7
set_option linter.unusedVariables false
set_option linter.unusedSimpArgs false
namespace Go.Proofs.YtijpelkjeejjfaaGreatDoor

structure Good (T : List Tok) (s : St) (r : RT) : Prop where
  stay : s.e ≠ 0 → r.2.e = s.e ∧ r.2.pos = s.pos ∧ r.2.i = s.i
  mono : s.i ≤ r.2.i
  place : s.e = 0 → r.2.e ≠ 0 → r.2.pos = (tokQ T r.2).pos
  inr : EndT T → s.i < T.length → r.2.i < T.length
theorem Good.nil (T : List Tok) (s : St) : Good T s ([], s) := ⟨fun _ => ⟨rfl, rfl, rfl⟩, Nat.le_refl _, fun h e => absurd h e, fun _ h => h⟩
theorem Good.self (T : List Tok) (r : RT) : Good T r.2 r := ⟨fun _ => ⟨rfl, rfl, rfl⟩, Nat.le_refl _, fun h e => absurd h e, fun _ h => h⟩
theorem Good.app {T : List Tok} {s : St} {a b : RT} (h1 : Good T s a) (h2 : Good T a.2 b) : Good T s (a.1 ++ b.1, b.2) := by
  refine ⟨fun e => ?_, Nat.le_trans h1.mono h2.mono, fun e eb => ?_, fun hE h => h2.inr hE (h1.inr hE h)⟩
  · obtain ⟨a1, a2, a3⟩ := h1.stay e
    obtain ⟨b1, b2, b3⟩ := h2.stay (by rw [a1]; exact e)
    exact ⟨b1.trans a1, b2.trans a2, b3.trans a3⟩
  · by_cases ea : a.2.e = 0
    · exact h2.place ea eb
    · obtain ⟨b1, b2, b3⟩ := h2.stay ea
      have := h1.place e ea
      show b.2.pos = (tokQ T b.2).pos
      have e2 : tokQ T b.2 = tokQ T a.2 := by unfold tokQ; rw [b3]
      rw [b2, e2]; exact this
theorem Good.state {T : List Tok} {s : St} {a b : RT} (h1 : Good T s a) (h2 : Good T a.2 b) {l : List Tr} : Good T s (l, b.2) :=
  ⟨(h1.app h2).stay, (h1.app h2).mono, (h1.app h2).place, (h1.app h2).inr⟩
theorem Good.node {T : List Tok} {s : St} {l : List Tr} {t : St} (k : Nat) (h : Good T s (l, t)) : Good T s ([.nd k l], t) := ⟨h.stay, h.mono, h.place, h.inr⟩
theorem Good.inn {T : List Tok} {s : St} {v : Bool} {r : RT} (h : Good T (setIn v s) r) : Good T s r := ⟨h.stay, h.mono, h.place, h.inr⟩
theorem mul_e {T : List Tok} {s : St} (h : isMul T s = true) : s.e = 0 := by
  unfold isMul at h; simp only [Bool.or_eq_true] at h; rcases h with (h | h) | h <;> exact (is_kind h).2
theorem add_e {T : List Tok} {s : St} (h : isAdd T s = true) : s.e = 0 := by
  unfold isAdd at h; simp only [Bool.or_eq_true] at h; rcases h with h | h <;> exact (is_kind h).2
theorem cmp_e {T : List Tok} {s : St} (h : isCmp T s = true) : s.e = 0 := by
  unfold isCmp at h; simp only [Bool.or_eq_true] at h; rcases h with ((((h | h) | h) | h) | h) | h <;> exact (is_kind h).2

section
variable (T : List Tok)
theorem leaf_good {s : St} (h : s.e = 0) : Good T s (leafT T s) := by
  have h1 : (leafT T s).2.e = 0 := by show (leafQ T s).2.e = 0; unfold leafQ; split <;> exact h
  refine ⟨fun e => absurd h e, ?_, fun _ e => absurd h1 e, fun hE hl => ?_⟩
  rotate_left
  · show (leafQ T s).2.i < T.length
    have ht : T[s.i]? = some (tokQ T s) := by unfold tokQ; rw [List.getElem?_eq_getElem hl]; rfl
    have := hE _ _ ht
    unfold leafQ; split
    · exact hl
    · show s.i + 1 < T.length; omega
  show s.i ≤ (leafQ T s).2.i
  unfold leafQ; split
  · exact Nat.le_refl _
  · exact Nat.le_succ _
theorem fail_good (n : Nat) (s : St) (l : List Tr) : Good T s (l, failQ T n s) := by
  refine ⟨fun e => ?_, ?_, fun e _ => ?_, fun _ hl => by show (failQ T n s).i < _; rw [fail_i]; exact hl⟩
  · have h : failQ T n s = s := by unfold failQ; rw [if_neg e]
    show (failQ T n s).e = s.e ∧ (failQ T n s).pos = s.pos ∧ (failQ T n s).i = s.i
    rw [h]; exact ⟨rfl, rfl, rfl⟩
  · show s.i ≤ (failQ T n s).i; rw [fail_i]; exact Nat.le_refl _
  · show (failQ T n s).pos = (tokQ T (failQ T n s)).pos; unfold failQ; rw [if_pos e]; rfl
theorem must_good (w : List UInt8) (s : St) : Good T s (mustT T w s) := by
  unfold mustT
  split
  · rename_i h; exact leaf_good T (is_kind h).2
  · exact fail_good T 22 s []
theorem kind_good (k : Nat) (s : St) : Good T s (kindT T k s) := by
  unfold kindT
  split
  · rename_i h; exact leaf_good T h.1
  · exact fail_good T 22 s []
theorem nest_good {D n : Nat} {s : St} {r : RT} (h : Good T (nestQ T D n s) r) : Good T s r := by
  have h0 : Good T s (([] : List Tr), nestQ T D n s) := by
    unfold nestQ; split
    · exact fail_good T 23 s []
    · exact Good.nil T s
  exact h0.app h
theorem row_good {c : St → Bool} {sub : St → RT} (hc : ∀ s, c s = true → s.e = 0) (hs : ∀ s, Good T s (sub s)) {s : St} : ∀ f r, Good T s r → Good T s (rwT T c sub f r)
  | 0, r, h => h
  | f + 1, r, h => by
    unfold rwT
    split
    · rename_i hcc
      refine row_good hc hs f _ (Good.node 10 ?_)
      exact (h.app (leaf_good T (hc _ hcc))).app (hs _)
    · exact h
theorem parts_good {sub : St → RT} (hs : ∀ s, Good T s (sub s)) {s : St} : ∀ f k r, Good T s r → Good T s (partsT T sub f k r)
  | 0, k, r, h => h
  | f + 1, k, r, h => by
    unfold partsT
    split
    · rename_i hcc
      refine parts_good hs f _ _ ?_
      refine (h.app (leaf_good T (is_kind hcc).2)).app ?_
      split
      · exact (fail_good T 15 _ []).app (hs _)
      · exact hs _
    · exact h

structure NxG (T : List Tok) (nt : NxT) : Prop where
  expr : ∀ s, Good T s (nt.expr s)
  formula : ∀ s, Good T s (nt.formula s)
  nots : ∀ s, Good T s (nt.nots s)
  factor : ∀ s, Good T s (nt.factor s)
end

section
variable (T : List Tok) (D n : Nat) {nt : NxT} (h : NxG T nt)
include h
theorem args_good (s : St) : Good T s (argsT T nt s) := parts_good T h.expr _ _ _ (h.expr s)
omit h in
theorem nameB_good {s : St} {a : RT} (ha : Good T s a) : Good T s (nameBT T a) := by
  unfold nameBT
  split
  · rename_i hc; exact (ha.app (leaf_good T (is_kind hc).2)).app (kind_good T _ _)
  · exact ha
omit h in
theorem nameC_good {s : St} {a : RT} (ha : Good T s a) : Good T s (nameCT T a) := ha.app (must_good T _ _)
theorem nameD_good {s : St} {a : RT} (ha : Good T s a) : Good T s (nameDT T nt a) := by
  unfold nameDT
  split
  · exact ha
  · exact ha.app (args_good T h _)
omit h in
theorem nameE_good {s : St} {a : RT} (ha : Good T s a) : Good T s (nameET T a) := Good.node 13 (ha.app (must_good T _ _))
theorem name_good {s : St} (hk : s.e = 0) : Good T s (nameT T nt s) := by
  unfold nameT
  split
  · exact Good.node 14 (leaf_good T hk)
  · exact nameE_good T (nameD_good T h (nameC_good T (nameB_good T (leaf_good T hk))))
theorem atom_good (s : St) : Good T s (atomT T nt s) := by
  unfold atomT
  split
  · exact Good.nil T s
  rename_i he
  have he : s.e = 0 := by omega
  split
  · exact Good.node 15 (leaf_good T he)
  split
  · exact Good.node 16 (leaf_good T he)
  split
  · exact Good.node 17 (leaf_good T he)
  split
  · exact Good.node 12 (((leaf_good T he).app (h.expr _)).app (must_good T _ _))
  split
  · exact name_good T h he
  · exact fail_good T 22 s []
omit h in
theorem sign_good {sub : St → RT} (hs : ∀ s, Good T s (sub s)) {s : St} (hk : s.e = 0) : Good T s (signT T D n sub s) := by
  unfold signT
  simp only []
  split
  · exact (leaf_good T hk).state (nest_good T (Good.nil T _))
  · exact Good.node 11 ((leaf_good T hk).app (nest_good T (hs _)))
theorem factor_good (s : St) : Good T s (factorT T D n nt s) := by
  unfold factorT
  split
  · rename_i hk; exact sign_good T D n h.factor (is_kind hk).2
  · exact atom_good T h s
theorem product_good (s : St) : Good T s (productT T D n nt s) := row_good T (fun _ hc => mul_e hc) (factor_good T D n h) _ _ (factor_good T D n h s)
theorem sum_good (s : St) : Good T s (sumT T D n nt s) := row_good T (fun _ hc => add_e hc) (product_good T D n h) _ _ (product_good T D n h s)
theorem not_good (s : St) : Good T s (notT T D n nt s) := by
  unfold notT
  simp only []
  split
  · rename_i hk; exact sign_good T D n h.nots (is_kind hk).2
  split
  · rename_i hk; exact Good.node 10 (((sum_good T D n h s).app (leaf_good T (cmp_e hk))).app (sum_good T D n h _))
  · exact sum_good T D n h s
theorem and_good (s : St) : Good T s (andT T D n nt s) := row_good T (fun _ hc => (is_kind hc).2) (not_good T D n h) _ _ (not_good T D n h s)
theorem or_good (s : St) : Good T s (orT T D n nt s) := row_good T (fun _ hc => (is_kind hc).2) (and_good T D n h) _ _ (and_good T D n h s)
theorem formula_good (s : St) : Good T s (formulaT T D n nt s) := by
  unfold formulaT
  simp only []
  split
  · rename_i hk
    split
    · exact ((or_good T D n h s).app (leaf_good T (is_kind hk).2)).state (nest_good T (Good.nil T _))
    · exact Good.node 10 (((or_good T D n h s).app (leaf_good T (is_kind hk).2)).app (nest_good T (h.formula _)))
  · exact or_good T D n h s
theorem let_good {s : St} (hk : s.e = 0) : Good T s (letT T nt s) :=
  Good.node 7 ((((((leaf_good T hk).app (kind_good T _ _)).app (must_good T _ _)).app (h.expr _)).app (must_good T _ _)).app (h.expr _))
theorem if_good {s : St} (hk : s.e = 0) : Good T s (ifT T nt s) :=
  Good.node 8 ((((((leaf_good T hk).app (h.expr _)).app (must_good T _ _)).app (h.expr _)).app (must_good T _ _)).app (h.expr _))
theorem assert_good {s : St} (hk : s.e = 0) : Good T s (assertT T nt s) :=
  Good.node 9 ((((leaf_good T hk).app (h.expr _)).app (must_good T _ _)).app (h.expr _))
theorem expr_good (s : St) : Good T s (exprT T D n nt s) := by
  unfold exprT
  simp only []
  split
  · exact nest_good T (Good.nil T _)
  split
  · rename_i hk; exact nest_good T (let_good T h (is_kind hk.2).2)
  split
  · rename_i hk; exact nest_good T (if_good T h (is_kind hk.2).2)
  split
  · rename_i hk; exact nest_good T (assert_good T h (is_kind hk.2).2)
  · exact nest_good T (formula_good T D n h _)
end
theorem nx_good (T : List Tok) (D : Nat) : ∀ d, NxG T (nxT T D d)
  | 0 => ⟨fun s => nest_good T (Good.nil T _), fun s => Good.nil T s, fun s => Good.nil T s, fun s => Good.nil T s⟩
  | d + 1 => ⟨expr_good T D _ (nx_good T D d), formula_good T D _ (nx_good T D d), not_good T D _ (nx_good T D d), factor_good T D _ (nx_good T D d)⟩

section
variable (T : List Tok) {et : St → RT} (h : ∀ s, Good T s (et s))
include h
omit h in
theorem typB_good {s : St} {a : RT} (ha : Good T s a) : Good T s (typBT T a) := by
  unfold typBT
  split
  · rename_i hk; exact ha.app (Good.node 5 (leaf_good T (by rcases hk with hk | hk <;> exact (is_kind hk).2)))
  · exact ha.state (fail_good T 22 _ [])
theorem typC_good {s : St} {a : RT} (ha : Good T s a) : Good T s (typCT T et a) := by
  unfold typCT
  split
  · rename_i hk
    refine ha.app (Good.node 6 (((leaf_good T (is_kind hk).2).app ?_).app ?_))
    · exact (h _).inn
    · exact (must_good T _ _).inn
  · exact ha
theorem typed_good (s : St) : Good T s (typedT T et s) := typC_good T h (typB_good T (must_good T _ s))
theorem par_good (s : St) : Good T s (parT T et s) := Good.node 4 ((kind_good T _ s).app (typed_good T h _))
theorem params_good (s : St) : Good T s (paramsT T et s) := parts_good T (par_good T h) _ _ _ (par_good T h s)
omit h in
theorem defA_good (s : St) : Good T s (defAT T s) := by
  unfold defAT
  split
  · rename_i hk; exact leaf_good T (is_kind hk).2
  · exact Good.nil T s
omit h in
theorem defB_good {s : St} {a : RT} (ha : Good T s a) : Good T s (defBT T a) := ha.app (((must_good T _ _).app (kind_good T _ _)).app (must_good T _ _))
theorem defC_good {s : St} {a : RT} (ha : Good T s a) : Good T s (defCT T et a) := by
  unfold defCT
  split
  · exact ha.app (params_good T h _)
  · exact ha
theorem defD_good {s : St} {a : RT} (ha : Good T s a) : Good T s (defDT T et a) :=
  ((ha.app (((must_good T _ _).app (typed_good T h _)).app (must_good T _ _))).app (h _)).app (must_good T _ _)
theorem def_good (s : St) : Good T s (defT T et s) := Good.node 3 (defD_good T h (defC_good T h (defB_good T (defA_good T s))))
omit h in
theorem impStep_good {s : St} {r : RT} (hr : Good T s r) (hc : isQ T [105, 109, 112, 111, 114, 116] r.2 = true) : Good T s (impStepT T r) :=
  hr.app (Good.node 2 (((leaf_good T (is_kind hc).2).app (kind_good T _ _)).app (must_good T _ _)))
omit h in
theorem many_good {c : St → Bool} {step : RT → RT} {most : Nat} {s : St} (hs : ∀ r, c r.2 = true → Good T s r → Good T s (step r)) : ∀ f k r, Good T s r → Good T s (manyT T c step most f k r).2
  | 0, k, r, hr => hr
  | f + 1, k, r, hr => by
    unfold manyT
    split
    · rename_i hc
      split
      · exact hr.state (fail_good T 15 _ [])
      · exact many_good hs f _ _ (hs r hc hr)
    · exact hr
end
end Go.Proofs.YtijpelkjeejjfaaGreatDoor
namespace Go.Proofs.YtijpelkjeejjfaaGreatDoor

mutual
/-- How many nodes a tree has. -/
def szR : Tr → Nat
  | .lf _ => 1
  | .nd _ l => szRs l + 1
def szRs : List Tr → Nat
  | [] => 0
  | t :: l => szR t + szRs l
end
/-- Where the roots of trees stand that begin at b. -/
def idxs : Nat → List Tr → List Int
  | _, [] => []
  | b, t :: l => ((b + szR t - 1 : Nat) : Int) :: idxs (b + szR t) l
mutual
/-- A tree's nodes from b on. -/
def post : Nat → Tr → List Nd
  | _, .lf i => [⟨19, (i : Int), []⟩]
  | b, .nd k l => posts b l ++ [⟨(k : Int), -1, idxs b l⟩]
def posts : Nat → List Tr → List Nd
  | _, [] => []
  | b, t :: l => post b t ++ posts (b + szR t) l
end

theorem szR_pos (t : Tr) : 1 ≤ szR t := by cases t <;> (unfold szR; omega)
theorem idxs_append (a c : List Tr) : ∀ b, idxs b (a ++ c) = idxs b a ++ idxs (b + szRs a) c := by
  induction a with
  | nil => intro b; simp [idxs, szRs]
  | cons t a ih =>
    intro b
    simp only [List.cons_append, idxs, szRs, ih]
    rw [show b + szR t + szRs a = b + (szR t + szRs a) by omega]
theorem posts_append (a c : List Tr) : ∀ b, posts b (a ++ c) = posts b a ++ posts (b + szRs a) c := by
  induction a with
  | nil => intro b; simp [posts, szRs]
  | cons t a ih =>
    intro b
    simp only [List.cons_append, posts, szRs, ih, List.append_assoc]
    rw [show b + szR t + szRs a = b + (szR t + szRs a) by omega]
mutual
theorem post_len : ∀ (t : Tr) (b : Nat), (post b t).length = szR t
  | .lf i, b => by simp [post, szR]
  | .nd k l, b => by simp [post, szR, posts_len l b]
theorem posts_len : ∀ (l : List Tr) (b : Nat), (posts b l).length = szRs l
  | [], b => by simp [posts, szRs]
  | t :: l, b => by simp [posts, szRs, post_len t b, posts_len l (b + szR t)]
end
theorem idxs_in : ∀ (l : List Tr) (b : Nat) (k : Int), k ∈ idxs b l → (b : Int) ≤ k ∧ k < ((b + szRs l : Nat) : Int)
  | [], b, k, h => by simp [idxs] at h
  | t :: l, b, k, h => by
    have hp := szR_pos t
    simp only [idxs, List.mem_cons] at h
    simp only [szRs]
    rcases h with rfl | h
    · omega
    · have := idxs_in l (b + szR t) k h
      omega
theorem idxs_len : ∀ (l : List Tr) (b : Nat), (idxs b l).length = l.length
  | [], b => rfl
  | t :: l, b => by simp [idxs, idxs_len l]

/-- What a reading leaves: k more of room than it takes. -/
def OutL (k : Nat) (N : List Nd) (s : St) (r : RT) (N' : List Nd) (vs : List Int) : Prop :=
  (r.2.e = 0 → N' = N ++ posts N.length r.1 ∧ vs = idxs N.length r.1 ∧ N'.length + 2 * s.i + k ≤ N.length + 2 * r.2.i) ∧ N'.length + 2 * s.i ≤ N.length + 2 * r.2.i
structure OutD (k : Nat) (N : List Nd) (s : St) (r : RT) (N' : List Nd) (vs : List Int) : Prop where
  out : OutL k N s r N' vs
  dead : r.2.e ≠ 0 → (-1 : Int) ∈ vs
/-- The same state; the same trees, where there is no fault. -/
def Eqv (a b : RT) : Prop := a.2 = b.2 ∧ (b.2.e = 0 → a.1 = b.1)
theorem Eqv.refl (a : RT) : Eqv a a := ⟨rfl, fun _ => rfl⟩

theorem OutL.nil (N : List Nd) (s : St) : OutL 0 N s ([], s) N [] := ⟨fun _ => ⟨by simp [posts], rfl, Nat.le_refl _⟩, Nat.le_refl _⟩
theorem OutL.app {k1 k2 : Nat} {N N1 N2 : List Nd} {s : St} {a b : RT} {v1 v2 : List Int} (h1 : OutL k1 N s a N1 v1) (h2 : OutL k2 N1 a.2 b N2 v2) (hd : a.2.e ≠ 0 → b.2.e ≠ 0) : OutL (k1 + k2) N s (a.1 ++ b.1, b.2) N2 (v1 ++ v2) := by
  refine ⟨fun e => ?_, ?_⟩
  · have ea : a.2.e = 0 := by
      rcases Nat.eq_zero_or_pos a.2.e with h | h
      · exact h
      · exact absurd e (hd (by omega))
    obtain ⟨e1, e2, e3⟩ := h1.1 ea
    obtain ⟨f1, f2, f3⟩ := h2.1 e
    have hl : N1.length = N.length + szRs a.1 := by rw [e1, List.length_append, posts_len]
    refine ⟨?_, ?_, ?_⟩
    · rw [f1, hl, posts_append, ← List.append_assoc, ← e1]
    · rw [f2, e2, hl, idxs_append]
    · show N2.length + 2 * s.i + (k1 + k2) ≤ N.length + 2 * b.2.i; omega
  · have := h1.2; have := h2.2
    show N2.length + 2 * s.i ≤ N.length + 2 * b.2.i; omega
theorem OutD.app {k1 k2 : Nat} {N N1 N2 : List Nd} {s : St} {a b : RT} {v1 v2 : List Int} (h1 : OutL k1 N s a N1 v1) (h2 : OutD k2 N1 a.2 b N2 v2) (hd : a.2.e ≠ 0 → b.2.e ≠ 0) : OutD (k1 + k2) N s (a.1 ++ b.1, b.2) N2 (v1 ++ v2) :=
  ⟨h1.app h2.out hd, fun e => List.mem_append_right _ (h2.dead e)⟩
theorem OutL.weak {k j : Nat} {N N' : List Nd} {s : St} {r : RT} {vs : List Int} (h : OutL k N s r N' vs) (hj : j ≤ k) : OutL j N s r N' vs :=
  ⟨fun e => ⟨(h.1 e).1, (h.1 e).2.1, by have := (h.1 e).2.2; omega⟩, h.2⟩
theorem OutD.weak {k j : Nat} {N N' : List Nd} {s : St} {r : RT} {vs : List Int} (h : OutD k N s r N' vs) (hj : j ≤ k) : OutD j N s r N' vs := ⟨h.out.weak hj, h.dead⟩
theorem OutL.eqv {k : Nat} {N N' : List Nd} {s : St} {a b : RT} {vs : List Int} (h : OutL k N s a N' vs) (he : Eqv a b) : OutL k N s b N' vs :=
  ⟨fun e => by rw [← he.1, ← he.2 e]; exact h.1 (by rw [he.1]; exact e), by rw [← he.1]; exact h.2⟩
theorem OutD.eqv {k : Nat} {N N' : List Nd} {s : St} {a b : RT} {vs : List Int} (h : OutD k N s a N' vs) (he : Eqv a b) : OutD k N s b N' vs :=
  ⟨h.out.eqv he, fun e => h.dead (by rw [he.1]; exact e)⟩

/-- A node of what was read. -/
theorem OutD.ok {k : Nat} {N N1 : List Nd} {s : St} {r : RT} {vs : List Int} (h : OutD k N s r N1 vs) (e : r.2.e = 0) : okB N1.length vs = true := by
  obtain ⟨e1, e2, -⟩ := h.out.1 e
  refine okB_true fun j hj => ?_
  rw [e2] at hj
  have := idxs_in _ _ _ hj
  rw [e1, List.length_append, posts_len]
  omega
theorem OutD.no {k : Nat} {N N1 : List Nd} {s : St} {r : RT} {vs : List Int} (h : OutD k N s r N1 vs) (e : r.2.e ≠ 0) : okB N1.length vs = false := by
  obtain ⟨j, hj⟩ := List.getElem?_of_mem (h.dead e)
  exact okB_false hj (by omega)
theorem OutD.node {k kind : Nat} {N N1 : List Nd} {s : St} {r : RT} {vs : List Int} (h : OutD (k + 1) N s r N1 vs) (e : r.2.e = 0) : OutD k N s ([.nd kind r.1], r.2) (N1 ++ [⟨(kind : Int), -1, vs⟩]) [(N1.length : Int)] := by
  obtain ⟨e1, e2, e3⟩ := h.out.1 e
  have hl : N1.length = N.length + szRs r.1 := by rw [e1, List.length_append, posts_len]
  refine ⟨⟨fun _ => ⟨?_, ?_, ?_⟩, ?_⟩, fun h => absurd e h⟩
  · simp only [posts, post, List.append_nil]; rw [← List.append_assoc, ← e1, e2]
  · simp only [idxs, szR]; rw [hl]; congr 1
  · rw [List.length_append]; show N1.length + 1 + 2 * s.i + k ≤ N.length + 2 * r.2.i; omega
  · rw [List.length_append]; show N1.length + 1 + 2 * s.i ≤ N.length + 2 * r.2.i; omega
theorem OutD.none {k kind : Nat} {N N1 : List Nd} {s : St} {r : RT} {vs : List Int} (h : OutD (k + 1) N s r N1 vs) (e : r.2.e ≠ 0) : OutD k N s ([.nd kind r.1], r.2) N1 [-1] :=
  ⟨⟨fun h => absurd h e, h.out.2⟩, fun _ => List.mem_singleton.2 rfl⟩
theorem OutD.leaf {T : List Tok} {N : List Nd} {s : St} (hk : (tokQ T s).kind ≠ 5) (he : s.e = 0) : OutD 1 N s (leafT T s) (N ++ [⟨19, (s.i : Int), []⟩]) [(N.length : Int)] := by
  have h1 := leaf_fits hk
  refine ⟨⟨fun _ => ⟨?_, ?_, ?_⟩, ?_⟩, fun h => absurd ?_ h⟩
  · simp [leafT, posts, post]
  · simp [leafT, idxs, szR]
  · rw [List.length_append]; show N.length + 1 + 2 * s.i + 1 ≤ N.length + 2 * (leafQ T s).2.i; omega
  · rw [List.length_append]; show N.length + 1 + 2 * s.i ≤ N.length + 2 * (leafQ T s).2.i; omega
  · show (leafQ T s).2.e = 0; unfold leafQ; split <;> exact he
theorem OutD.fail {T : List Tok} {N : List Nd} {s : St} {k m : Nat} (hm : m ≠ 0) (l : List Tr) : OutD k N s (l, failQ T m s) N [-1] :=
  ⟨⟨fun h => absurd h (fail_e T hm s), by show N.length + 2 * s.i ≤ N.length + 2 * (failQ T m s).i; rw [fail_i]; omega⟩, fun _ => List.mem_singleton.2 rfl⟩
open Go.RowKit

def FarK (N : List Nd) (K : Kf) (A : Nat → Prop) : Prop := ∀ (i : Nat) (x : Nd), N[i]? = some x → x.kids ≠ [] → ∀ a, (K i).1 = some a → A a.block
def FarV (w : World) (b : Nat) (l : List Tok) (u : Nat) (N : List Nd) (vn : Value) (A : Nat → Prop) : Prop := ∃ pt ct K, Bld w b pt ct l u vn N K ∧ FarK N K A
theorem FarV.bld {w : World} {b : Nat} {l : List Tok} {u : Nat} {N : List Nd} {vn : Value} {A : Nat → Prop} (h : FarV w b l u N vn A) : BldV w b l u N vn := by
  obtain ⟨pt, ct, K, h, -⟩ := h
  exact ⟨pt, ct, K, h⟩
theorem FarV.kept {w w' : World} {b : Nat} {l : List Tok} {u : Nat} {N : List Nd} {vn : Value} {A : Nat → Prop} (h : FarV w b l u N vn A) (hg : w.grownBy w' none) : FarV w' b l u N vn A := by
  obtain ⟨pt, ct, K, h, hf⟩ := h
  exact ⟨pt, ct, K, h.kept hg, hf⟩
/-- Beside turns of blocks that are far from it; the blocks to be far from may then be others. -/
theorem FarV.keptF {S : Nat → Prop} {w w' : World} {b : Nat} {l : List Tok} {u : Nat} {N : List Nd} {vn : Value} {A A' : Nat → Prop} (h : FarV w b l u N vn A) (hf : Fr2 S w w') (hS : ∀ k, k ≤ b → ¬ S k) (hv : ∀ k, vn.ownBlock = some k → ¬ S k) (hA : ∀ k, A k → ¬ S k) (hA' : ∀ k, k < w.heap.size → A k → A' k) : FarV w' b l u N vn A' := by
  obtain ⟨pt, ct, K, h, hk⟩ := h
  exact ⟨pt, ct, K, h.keptF hf hS hv fun i x hx hn a ha => hA _ (hk i x hx hn a ha), fun i x hx hn a ha => hA' _ (h.khi i x hx hn a ha).2.1 (hk i x hx hn a ha)⟩

def AddFar (w : World) (b : Nat) (l : List Tok) (u : Nat) (N : List Nd) (x : Nd) (vn : Value) (A : Nat → Prop) (e : Ending) (w' : World) : Prop :=
  e = .returned (.int .i64 (N.length : Int)) ∧ ∃ vn', FarV w' b l u (N ++ [x]) vn' A ∧ Fr2 (Turn b vn) w w' ∧ ∀ k, vn'.ownBlock = some k → vn.ownBlock = some k ∨ w.heap.size ≤ k

theorem AddFar.after {w w1 : World} {b : Nat} {l : List Tok} {u : Nat} {N : List Nd} {x : Nd} {vn : Value} {A : Nat → Prop} {e : Ending} {w' : World} (h : AddFar w1 b l u N x vn A e w') (hf : Fr2 (Turn b vn) w w1) : AddFar w b l u N x vn A e w' := by
  obtain ⟨he, vn', h1, h2, h3⟩ := h
  exact ⟨he, vn', h1, hf.trans h2, fun k hk => (h3 k hk).imp id fun h => Nat.le_trans hf.size h⟩

/-- A node more. -/
theorem Bld.addF {A : Nat → Prop} {w w5 : World} {b : Nat} {pt : Option Addr} {ct : Nat} {l : List Tok} {u u' : Nat} {vn : Value} {N : List Nd} {K : Kf} (h : Bld w b pt ct l u vn N K) (hf : Fr2 (Turn b vn) w w5) {g9 n9 cap9 : Nat} (hbox : w5.heap[b]? = some (.cells #[.slice pt l.length ct, .int .i64 (u' : Int), .slice (some ⟨g9, 0, none⟩) n9 cap9] 161 (0, 0)))
    {x : Nd} {p : Option Addr} {c : Nat} (hown : OwnG 3 139 w5 (b + 1) (.slice (some ⟨g9, 0, none⟩) n9 cap9) (ndsV K N ++ [[.int .i64 x.kind, .int .i64 x.tok, .slice p x.kids.length c]])) (hk : VAt w p (intsV x.kids)) (hkb : x.kids ≠ [] → ∀ a, p = some a → b < a.block ∧ vn.ownBlock ≠ some a.block)
    (hl9 : vn.ownBlock = some g9 ∨ w.heap.size ≤ g9) (hFK : FarK N K A) (hpA : x.kids ≠ [] → ∀ a, p = some a → A a.block) : FarV w5 b l u' (N ++ [x]) (.slice (some ⟨g9, 0, none⟩) n9 cap9) A := by
  obtain ⟨K', hK1, hK2⟩ := kf_snoc K N.length p c
  have hkn : ∀ (i : Nat) (y : Nd), (N ++ [x])[i]? = some y → (i < N.length ∧ N[i]? = some y ∧ K' i = K i) ∨ (i = N.length ∧ y = x ∧ K' i = (p, c)) := fun i y hy => by
    by_cases hi : i < N.length
    · rw [List.getElem?_append_left hi] at hy; exact .inl ⟨hi, hy, hK2 i (by omega)⟩
    · have h1 := (List.getElem?_eq_some_iff.1 hy).1
      rw [List.length_append, List.length_singleton] at h1
      obtain rfl : i = N.length := by omega
      rw [List.getElem?_append_right (Nat.le_refl _)] at hy
      simp at hy
      exact .inr ⟨rfl, hy.symm, hK1⟩
  refine ⟨pt, ct, K', ⟨hbox, h.cap, h.toks.keptF hf (fun h0 a ha => ?_), h.tlow, by rw [ndsV_snoc hK1 hK2]; exact hown, fun i y hy => ?_, fun i y hy hn a ha => ?_⟩, fun i y hy hn a ha => ?_⟩
  · have h1 := h.tlow h0 a ha
    rintro (e | e)
    · omega
    · have := (h.turn _ e).1; omega
  · rcases hkn i y hy with ⟨-, hy, e⟩ | ⟨-, rfl, e⟩
    · rw [e]
      refine (h.kids i y hy).keptF hf fun h0 a ha => ?_
      obtain ⟨h1, h2, h3⟩ := h.khi i y hy (intsV_ne h0) a ha
      rintro (e | e)
      · omega
      · exact h3 e
    · rw [e]
      refine hk.keptF hf fun h0 a ha => ?_
      obtain ⟨h1, h3⟩ := hkb (intsV_ne h0) a ha
      rintro (e | e)
      · omega
      · exact h3 e
  · have hx9 : ∀ k, (Value.slice (some ⟨g9, 0, none⟩) n9 cap9).ownBlock = some k → g9 = k := fun k e => by simpa [Value.ownBlock] using e
    rcases hkn i y hy with ⟨-, hy, e⟩ | ⟨-, rfl, e⟩
    · rw [e] at ha
      obtain ⟨h1, h2, h3⟩ := h.khi i y hy hn a ha
      refine ⟨h1, Nat.lt_of_lt_of_le h2 hf.size, fun e9 => ?_⟩
      have := hx9 _ e9
      subst this
      rcases hl9 with h | h
      · exact h3 h
      · omega
    · rw [e] at ha
      obtain ⟨h1, h3⟩ := hkb hn a ha
      have h2 := hk.lt (ne_intsV hn) a ha
      refine ⟨h1, Nat.lt_of_lt_of_le h2 hf.size, fun e9 => ?_⟩
      have := hx9 _ e9
      subst this
      rcases hl9 with h | h
      · exact h3 h
      · omega
  · rcases hkn i y hy with ⟨-, hy, e⟩ | ⟨-, rfl, e⟩
    · rw [e] at ha; exact hFK i y hy hn a ha
    · rw [e] at ha; exact hpA hn a ha

set_option maxRecDepth 100000 in
set_option maxHeartbeats 8000000 in
theorem add_far (A : Nat → Prop) (b : Nat) (l : List Tok) (u : Nat) (N : List Nd) (vn : Value) (x : Nd) (p : Option Addr) (c : Nat) (w : World) (hN : N.length ≤ 100000) (h : FarV w b l u N vn A) (hk : VAt w p (intsV x.kids)) (hkb : x.kids ≠ [] → ∀ a, p = some a → b < a.block ∧ vn.ownBlock ≠ some a.block) (hpA : x.kids ≠ [] → ∀ a, p = some a → A a.block) :
    Calls Tryz.prog 94 #[.pointer (some ⟨b, 0, none⟩), .agg #[.int .i64 x.kind, .int .i64 x.tok, .slice p x.kids.length c]] w (AddFar w b l u N x vn A) := by
  obtain ⟨pt, ct, K, h, hFK⟩ := h
  have HFK := Lib.hid hFK; have HPA := Lib.hid hpA; have H := Lib.hid h; have HK := Lib.hid hk; have HKB := Lib.hid hkb
  obtain ⟨pv, cv, e1, -, hcv, -⟩ := h.own.is
  rw [nds_len] at e1 hcv
  subst e1
  obtain ⟨B, hB⟩ : ∃ B, w.heap.size = B := ⟨_, rfl⟩
  have HBW := Lib.hid hB
  have hbB : b < B := by rw [← hB]; exact hlt' h.box
  have HOWN := Lib.hid h.own
  have HLE : Hid ((ndsV K N).length ≤ 1000000) := Lib.hid (by rw [nds_len]; omega)
  have HNL : Hid ((ndsV K N).length = N.length) := Lib.hid (nds_len K N)
  obtain ⟨m, hm⟩ : ∃ m, l.length = m := ⟨_, rfl⟩
  obtain ⟨M, hM⟩ : ∃ M, N.length = M := ⟨_, rfl⟩
  have HML := Lib.hid hM
  have HLL := Lib.hid hm
  obtain ⟨kl, hkl⟩ : ∃ kl, x.kids.length = kl := ⟨_, rfl⟩
  have HKL := Lib.hid hkl
  rw [hM] at HOWN
  obtain ⟨xk, hxk⟩ : ∃ xk, x.kind = xk := ⟨_, rfl⟩
  obtain ⟨xt, hxt⟩ : ∃ xt, x.tok = xt := ⟨_, rfl⟩
  have HXK := Lib.hid hxk; have HXT := Lib.hid hxt
  have hbox := h.box
  rw [hm, hM] at hbox
  rw [hxk, hxt, hkl]
  have hA := heap_alloc_new w (.cells #[.int .i64 xk, .int .i64 xt, .slice p kl c] 139)
  have hgA := World.grownBy_alloc w (.cells #[.int .i64 xk, .int .i64 xt, .slice p kl c] 139) none
  have hsA : (w.alloc (.cells #[.int .i64 xk, .int .i64 xt, .slice p kl c] 139)).heap.size = B + 1 := by simp [hB]
  obtain ⟨d0, d1, d2, d3⟩ := cells3' (bx hgA hbox)
  have HBX := Lib.hid hbox
  rw [hB] at hA
  obtain ⟨a0, a1, a2, a3⟩ := cells3' hA
  clear hFK hpA hbox hm hM hkl hxk hxt h hk hkb hcv
  go_enter Tryz.func94, Tryz.ntmps94
  go_wp2_with fail
  try rw [hB]
  generalize (w.alloc (.cells #[.int .i64 xk, .int .i64 xt, .slice p kl c] 139)) = W at *
  have HOW := Lib.hid (OwnG.kept HOWN.out hgA)
  have HGA := Lib.hid hgA
  have hnew := heap_alloc_new W (.cells #[.int .i64 xk, .int .i64 xt, .slice p kl c] 139)
  rw [hsA] at hnew
  have HNEW := Lib.hid hnew
  have HBX2 := Lib.hid (bx (World.grownBy_alloc W (.cells #[.int .i64 xk, .int .i64 xt, .slice p kl c] 139) none) (bx hgA HBX.out))
  have hoa : ∀ k, (Value.slice pv M cv).ownBlock = some k → b + 1 ≤ k ∧ k < B + 1 := fun k e => by
    obtain ⟨h1, h2⟩ := OwnG.at HOW.out k e
    omega
  have HOA := Lib.hid hoa
  clear hA hgA hB hnew hoa
  go_region_law (refine step_appGl (s := 3) (t := 62) (T := 139) (by decide) Tryz.underlying62 infoTN rfl (by omega) rfl _ _ rfl (b + 1) (ndsV K N) [.int .i64 xk, .int .i64 xt, .slice p kl c] rfl (fun u hu => by simp at hu; rcases hu with rfl | rfl | rfl <;> rfl) (.slice pv M cv) rfl (OwnG.kept HOW.out (by repeat (first | with_reducible exact gb_refl _ _ | with_reducible refine gb_drew ?_ | with_reducible refine gb_alloc ?_ _))) (B + 1) _ rfl (by exact HNEW.out) rfl HLE.out (by simp; omega) (B + 2) (by simp; omega) ?_; intro g9 cap9 w9 hO9 hg9 hl9; have hb9 := (hg9.block b (by simp; omega) (fun e => by have := (HOA.out b e.symm).1; omega)).trans HBX2.out; obtain ⟨f0, f1, f2, f3⟩ := cells3' hb9; have HB9 := Lib.hid hb9; have HO9 := Lib.hid hO9; have HG9 := Lib.hid hg9; have HL9 := Lib.hid hl9; clear hO9 hg9 hl9 hb9)
  all_goals
    rw [HNL.out, HML.out] at HO9 ⊢
    have HF9 : Hid (Fr2 (Turn b (.slice pv M cv)) w w9) := Lib.hid (Fr2.trans (b := (W.alloc (.cells #[.int .i64 xk, .int .i64 xt, .slice p kl c] 139)).drew) (Fr2.none (gb_trans HGA.out (gb_drew (gb_alloc (gb_refl _ _) _)))) (Fr2.of (S := Turn b (.slice pv M cv)) HG9.out (fun k e => Or.inr e)))
    have HF10 := Lib.hid (HF9.out.setCell (g := b) (j := 2) (.inl rfl) (.slice (some ⟨g9, 0, none⟩) (M + 1) cap9))
    have HB10 := Lib.hid (show (w9.setCell ⟨b, 2, none⟩ (.slice (some ⟨g9, 0, none⟩) (M + 1) cap9)).heap[b]? = some (.cells #[.slice pt m ct, .int .i64 (u : Int), .slice (some ⟨g9, 0, none⟩) (M + 1) cap9] 161 (0, 0)) from set_cells (i := 2) HB9.out)
    have HO10 := Lib.hid (OwnG.keptF HO9.out (Fr2.setCell (S := fun k => k = b) (Fr2.refl _ w9) (g := b) (j := 2) rfl (.slice (some ⟨g9, 0, none⟩) (M + 1) cap9)) (fun k e => by have := (OwnG.at HO9.out k e).1; omega))
    obtain ⟨W5, hW5⟩ : ∃ W5, (w9.setCell ⟨b, 2, none⟩ (.slice (some ⟨g9, 0, none⟩) (M + 1) cap9)) = W5 := ⟨_, rfl⟩
    rw [hW5] at HF10 HB10 HO10 ⊢
    clear HF9 HB9 HO9 hW5 d0 d1 d2 d3 f0 f1 f2 f3 a0 a1 a2 a3 HG9
    obtain ⟨f0, f1, f2, f3⟩ := cells3' HB10.out
    have hw1 : IntKind.i64.wrap (M : Int) = (M : Int) := IntWalk.i64_in _ (by have := HML.out; omega)
    have hw2 : IntKind.i64.wrap (((M + 1 : Nat) : Int) - 1) = (M : Int) := by rw [show (((M + 1 : Nat) : Int) - 1) = (M : Int) by omega]; exact hw1
    go_wp2_with fail
    go_ret
    refine ⟨by rw [HML.out]; rfl, _, Bld.addF H.out (by rw [HML.out]; exact HF10.out) (by rw [HLL.out]; exact HB10.out) (by rw [HXK.out, HXT.out, HKL.out]; exact HO10.out) HK.out HKB.out (by rw [HML.out, HBW.out]; exact HL9.out.imp id (fun h => by omega)) HFK.out HPA.out, by rw [HML.out]; exact HF10.out, fun k e => ?_⟩
    have h1 : g9 = k := by simpa [Value.ownBlock] using e
    subst h1
    rw [HML.out, HBW.out]
    exact HL9.out.imp id (fun h => by omega)
set_option maxRecDepth 100000 in
set_option maxHeartbeats 8000000 in
theorem Leaf_far (A : Nat → Prop) (b : Nat) (l : List Tok) (u : Nat) (N : List Nd) (vn : Value) (w : World) (hl : l.length ≤ 100000) (hu : u < l.length) (hN : N.length ≤ 100000) (h : FarV w b l u N vn A) :
    Calls Tryz.prog 133 #[.pointer (some ⟨b, 0, none⟩)] w (AddFar w b l (u + 1) N ⟨19, (u : Int), []⟩ vn A) := by
  obtain ⟨pt, ct, K, h, hFK⟩ := h
  have hbox := h.box
  have HADD := Lib.hid (fun W (h : FarV W b l (u + 1) N vn A) => add_far A b l (u + 1) N vn ⟨19, (u : Int), []⟩ none 0 W hN h (.inl rfl) (fun h => absurd rfl h) (fun h => absurd rfl h))
  obtain ⟨pv, cv, e1, -, -, -⟩ := h.own.is
  have HH := Lib.hid h
  obtain ⟨m, hm⟩ : ∃ m, l.length = m := ⟨_, rfl⟩
  rw [hm] at hbox hu hl
  have HP : Hid (∀ W e w', Fr2 (Turn b vn) w W → AddFar W b l (u + 1) N ⟨19, (u : Int), []⟩ vn A e w' → AddFar w b l (u + 1) N ⟨19, (u : Int), []⟩ vn A e w') := Lib.hid (fun _ _ _ h1 h2 => h2.after h1)
  have HF : Hid (∀ W, w.grownBy W none → Fr2 (Turn b vn) w (W.setCell ⟨b, 1, none⟩ (.int .i64 ((u + 1 : Nat) : Int))) ∧ FarV (W.setCell ⟨b, 1, none⟩ (.int .i64 ((u + 1 : Nat) : Int))) b l (u + 1) N vn A) := Lib.hid (fun W hg => ⟨(Fr2.none hg).setCell (g := b) (j := 1) (.inl rfl) _, pt, ct, K, (HH.out.kept hg).setUsed (u + 1), hFK⟩)
  obtain ⟨d0, d1, d2, d3⟩ := cells3' hbox
  have e1 : ((u : Int) == (m : Int)) = false := beq_eq_false_iff_ne.2 (by omega)
  have e2 : (u == m) = false := beq_eq_false_iff_ne.2 (by omega)
  have hw1 : IntKind.i64.wrap ((u : Int) + 1) = ((u + 1 : Nat) : Int) := by rw [IntWalk.i64_in _ (by omega)]; omega
  have hw2 : IntKind.i64.wrap (((u + 1 : Nat) : Int) - 1) = (u : Int) := by rw [IntWalk.i64_in _ (by omega)]; omega
  generalize AddFar w b l (u + 1) N ⟨19, (u : Int), []⟩ vn A = Q at HP
  obtain ⟨u1, hu1⟩ : ∃ u1, u + 1 = u1 := ⟨_, rfl⟩
  rw [hu1] at hw1 hw2 HF HADD HP
  clear hbox hm h hu1
  go_enter Tryz.func133, Tryz.ntmps133
  go_wp2_with fail
  go_quiet (fail)
  go_wp2_with fail
  obtain ⟨hf1, hb1⟩ := HF.out (w.drewN nq) (gb_drewN (gb_refl _ _) _)
  refine (HADD.out _ hb1).mono ?_
  rintro e w' hp
  have HP1 := Lib.hid (HP.out _ _ _ hf1 hp)
  obtain rfl := hp.1
  clear hp hf1 hb1 HP HF HADD
  go_wp2_with fail
  exact HP1.out

set_option maxRecDepth 100000 in
set_option maxHeartbeats 8000000 in
theorem Node_far (A : Nat → Prop) (b : Nat) (l : List Tok) (u : Nat) (N : List Nd) (vn : Value) (kind : Int) (kids : List Int) (q : Option Addr) (c : Nat) (w : World) (hN : N.length ≤ 100000) (hk : kids.length ≤ 100000) (h : FarV w b l u N vn A) (hA : ∀ k, w.heap.size ≤ k → A k) (hq : VAt w q (intsV kids)) (hok : okB N.length kids = true) :
    Calls Tryz.prog 67 #[.pointer (some ⟨b, 0, none⟩), .int .i64 kind, .slice q kids.length c] w (AddFar w b l u N ⟨kind, -1, kids⟩ vn A) := by
  obtain ⟨pt, ct, K, h, hFK⟩ := h
  have hbox := h.box
  have HH := Lib.hid h
  have HFK := Lib.hid hFK; have HFA := Lib.hid hA
  have HADD := Lib.hid (fun W p' c' (h : FarV W b l u N vn A) h1 h2 h3 => add_far A b l u N vn ⟨kind, -1, kids⟩ p' c' W hN h h1 h2 h3)
  have HE := Lib.hid (eachBelow_c N.length kids q c w (by omega) (by omega) hq)
  rw [hok] at HE
  have HON := Lib.hid (fun W h => ownNode_c kind (-1) kids q c W hk h)
  have HQ := Lib.hid hq
  have HTN := Lib.hid h.turn
  have hbl := hlt' h.box
  have HBL := Lib.hid hbl
  have HP : Hid (∀ W e w', Fr2 (Turn b vn) w W → AddFar W b l u N ⟨kind, -1, kids⟩ vn A e w' → AddFar w b l u N ⟨kind, -1, kids⟩ vn A e w') := Lib.hid (fun _ _ _ h1 h2 => h2.after h1)
  obtain ⟨pv, cv, e1, -, -, -⟩ := h.own.is
  rw [nds_len] at e1
  obtain ⟨m, hm⟩ : ∃ m, l.length = m := ⟨_, rfl⟩
  obtain ⟨M, hM⟩ : ∃ M, N.length = M := ⟨_, rfl⟩
  obtain ⟨kl, hkl⟩ : ∃ kl, kids.length = kl := ⟨_, rfl⟩
  have HM := Lib.hid hM; have HKL := Lib.hid hkl
  rw [hM] at e1
  rw [hm, e1] at hbox
  rw [hM, hkl] at HE
  rw [hkl] at HON
  rw [hkl]
  generalize AddFar w b l u N ⟨kind, -1, kids⟩ vn A = Q at HP
  obtain ⟨d0, d1, d2, d3⟩ := cells3' hbox
  clear hFK hA hbox hm h hM hkl hok hq hk hN e1 hbl
  go_enter Tryz.func67, Tryz.ntmps67
  go_wp2_with fail
  refine HE.out.mono ?_
  rintro e w1 ⟨rfl, hg⟩
  have HG := Lib.hid hg
  clear hg HE
  go_wp2_with fail
  refine (HON.out _ (HQ.out.kept HG.out)).mono ?_
  rintro e w2 ⟨hg2, p2, c2, rfl, hv2, -, hb2⟩
  have HG2 := Lib.hid (gb_trans HG.out hg2)
  have HV2 := Lib.hid hv2
  have HB2 := Lib.hid hb2
  have hgs := HG.out.size
  have HGS := Lib.hid hgs
  rw [HKL.out]
  clear hg2 hv2 hb2 hgs HON
  go_wp2_with fail
  have HA := Lib.hid (HADD.out w2 p2 c2 ⟨pt, ct, K, HH.out.kept HG2.out, HFK.out⟩ HV2.out (fun hne a ha => by
    obtain ⟨h1, -⟩ := HB2.out hne a ha
    have h2 := HGS.out
    have h3 := HBL.out
    refine ⟨by omega, fun e => ?_⟩
    have := (HTN.out _ e).2
    omega) (fun hne a ha => HFA.out _ (by
    have h1 := (HB2.out hne a ha).1
    have h2 := HGS.out
    omega)))
  rw [HKL.out] at HA
  refine HA.out.mono ?_
  rintro e w' hp
  have HP1 := Lib.hid (HP.out _ _ _ (Fr2.none HG2.out) hp)
  obtain rfl := hp.1
  clear hp HP HADD HA
  go_wp2_with fail
  exact HP1.out
end Go.Proofs.YtijpelkjeejjfaaGreatDoor
