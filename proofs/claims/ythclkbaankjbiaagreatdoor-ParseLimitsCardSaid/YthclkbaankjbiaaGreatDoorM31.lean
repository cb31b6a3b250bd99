/- Trees as nodes of a row, root last; what a reading leaves in the row and answers. -/
import Derived.Test.YthclkbaankjbiaaGreatDoorM28
import Derived.Test.YthclkbaankjbiaaGreatDoorM8
import Derived.Test.YthclkbaankjbiaaGreatDoorM30
namespace Go.Proofs.YthclkbaankjbiaaGreatDoor

mutual
/-- How many nodes a tree has. -/
def szR : Tr → Nat
  | .lf _ => 1
  | .nd _ l => szRs l + 1
def szRs : List Tr → Nat
  | [] => 0
  | t :: l => szR t + szRs l
end
/-- Where the roots of trees stand that begin at b. -/
def idxs : Nat → List Tr → List Int
  | _, [] => []
  | b, t :: l => ((b + szR t - 1 : Nat) : Int) :: idxs (b + szR t) l
mutual
/-- A tree's nodes from b on. -/
def post : Nat → Tr → List Nd
  | _, .lf i => [⟨19, (i : Int), []⟩]
  | b, .nd k l => posts b l ++ [⟨(k : Int), -1, idxs b l⟩]
def posts : Nat → List Tr → List Nd
  | _, [] => []
  | b, t :: l => post b t ++ posts (b + szR t) l
end

theorem szRs_append (a c : List Tr) : szRs (a ++ c) = szRs a + szRs c := by
  induction a with
  | nil => simp [szRs]
  | cons t a ih => simp only [List.cons_append, szRs, ih]; omega
theorem szR_pos (t : Tr) : 1 ≤ szR t := by cases t <;> (unfold szR; omega)
theorem idxs_append (a c : List Tr) : ∀ b, idxs b (a ++ c) = idxs b a ++ idxs (b + szRs a) c := by
  induction a with
  | nil => intro b; simp [idxs, szRs]
  | cons t a ih =>
    intro b
    simp only [List.cons_append, idxs, szRs, ih]
    rw [show b + szR t + szRs a = b + (szR t + szRs a) by omega]
theorem posts_append (a c : List Tr) : ∀ b, posts b (a ++ c) = posts b a ++ posts (b + szRs a) c := by
  induction a with
  | nil => intro b; simp [posts, szRs]
  | cons t a ih =>
    intro b
    simp only [List.cons_append, posts, szRs, ih, List.append_assoc]
    rw [show b + szR t + szRs a = b + (szR t + szRs a) by omega]
mutual
theorem post_len : ∀ (t : Tr) (b : Nat), (post b t).length = szR t
  | .lf i, b => by simp [post, szR]
  | .nd k l, b => by simp [post, szR, posts_len l b]
theorem posts_len : ∀ (l : List Tr) (b : Nat), (posts b l).length = szRs l
  | [], b => by simp [posts, szRs]
  | t :: l, b => by simp [posts, szRs, post_len t b, posts_len l (b + szR t)]
end
theorem idxs_in : ∀ (l : List Tr) (b : Nat) (k : Int), k ∈ idxs b l → (b : Int) ≤ k ∧ k < ((b + szRs l : Nat) : Int)
  | [], b, k, h => by simp [idxs] at h
  | t :: l, b, k, h => by
    have hp := szR_pos t
    simp only [idxs, List.mem_cons] at h
    simp only [szRs]
    rcases h with rfl | h
    · omega
    · have := idxs_in l (b + szR t) k h
      omega
theorem idxs_len : ∀ (l : List Tr) (b : Nat), (idxs b l).length = l.length
  | [], b => rfl
  | t :: l, b => by simp [idxs, idxs_len l]

/-- What a reading leaves: k more of room than it takes. -/
def OutL (k : Nat) (N : List Nd) (s : St) (r : RT) (N' : List Nd) (vs : List Int) : Prop :=
  (r.2.e = 0 → N' = N ++ posts N.length r.1 ∧ vs = idxs N.length r.1 ∧ N'.length + 2 * s.i + k ≤ N.length + 2 * r.2.i) ∧ N'.length + 2 * s.i ≤ N.length + 2 * r.2.i
structure OutD (k : Nat) (N : List Nd) (s : St) (r : RT) (N' : List Nd) (vs : List Int) : Prop where
  out : OutL k N s r N' vs
  dead : r.2.e ≠ 0 → (-1 : Int) ∈ vs
/-- The same state; the same trees, where there is no fault. -/
def Eqv (a b : RT) : Prop := a.2 = b.2 ∧ (b.2.e = 0 → a.1 = b.1)
theorem Eqv.refl (a : RT) : Eqv a a := ⟨rfl, fun _ => rfl⟩

theorem OutL.nil (N : List Nd) (s : St) : OutL 0 N s ([], s) N [] := ⟨fun _ => ⟨by simp [posts], rfl, Nat.le_refl _⟩, Nat.le_refl _⟩
theorem OutL.app {k1 k2 : Nat} {N N1 N2 : List Nd} {s : St} {a b : RT} {v1 v2 : List Int} (h1 : OutL k1 N s a N1 v1) (h2 : OutL k2 N1 a.2 b N2 v2) (hd : a.2.e ≠ 0 → b.2.e ≠ 0) : OutL (k1 + k2) N s (a.1 ++ b.1, b.2) N2 (v1 ++ v2) := by
  refine ⟨fun e => ?_, ?_⟩
  · have ea : a.2.e = 0 := by
      rcases Nat.eq_zero_or_pos a.2.e with h | h
      · exact h
      · exact absurd e (hd (by omega))
    obtain ⟨e1, e2, e3⟩ := h1.1 ea
    obtain ⟨f1, f2, f3⟩ := h2.1 e
    have hl : N1.length = N.length + szRs a.1 := by rw [e1, List.length_append, posts_len]
    refine ⟨?_, ?_, ?_⟩
    · rw [f1, hl, posts_append, ← List.append_assoc, ← e1]
    · rw [f2, e2, hl, idxs_append]
    · show N2.length + 2 * s.i + (k1 + k2) ≤ N.length + 2 * b.2.i; omega
  · have := h1.2; have := h2.2
    show N2.length + 2 * s.i ≤ N.length + 2 * b.2.i; omega
theorem OutD.app {k1 k2 : Nat} {N N1 N2 : List Nd} {s : St} {a b : RT} {v1 v2 : List Int} (h1 : OutL k1 N s a N1 v1) (h2 : OutD k2 N1 a.2 b N2 v2) (hd : a.2.e ≠ 0 → b.2.e ≠ 0) : OutD (k1 + k2) N s (a.1 ++ b.1, b.2) N2 (v1 ++ v2) :=
  ⟨h1.app h2.out hd, fun e => List.mem_append_right _ (h2.dead e)⟩
theorem OutL.weak {k j : Nat} {N N' : List Nd} {s : St} {r : RT} {vs : List Int} (h : OutL k N s r N' vs) (hj : j ≤ k) : OutL j N s r N' vs :=
  ⟨fun e => ⟨(h.1 e).1, (h.1 e).2.1, by have := (h.1 e).2.2; omega⟩, h.2⟩
theorem OutD.weak {k j : Nat} {N N' : List Nd} {s : St} {r : RT} {vs : List Int} (h : OutD k N s r N' vs) (hj : j ≤ k) : OutD j N s r N' vs := ⟨h.out.weak hj, h.dead⟩
theorem OutL.eqv {k : Nat} {N N' : List Nd} {s : St} {a b : RT} {vs : List Int} (h : OutL k N s a N' vs) (he : Eqv a b) : OutL k N s b N' vs :=
  ⟨fun e => by rw [← he.1, ← he.2 e]; exact h.1 (by rw [he.1]; exact e), by rw [← he.1]; exact h.2⟩
theorem OutD.eqv {k : Nat} {N N' : List Nd} {s : St} {a b : RT} {vs : List Int} (h : OutD k N s a N' vs) (he : Eqv a b) : OutD k N s b N' vs :=
  ⟨h.out.eqv he, fun e => h.dead (by rw [he.1]; exact e)⟩

/-- A node of what was read. -/
theorem OutD.ok {k : Nat} {N N1 : List Nd} {s : St} {r : RT} {vs : List Int} (h : OutD k N s r N1 vs) (e : r.2.e = 0) : okB N1.length vs = true := by
  obtain ⟨e1, e2, -⟩ := h.out.1 e
  refine okB_true fun j hj => ?_
  rw [e2] at hj
  have := idxs_in _ _ _ hj
  rw [e1, List.length_append, posts_len]
  omega
theorem OutD.no {k : Nat} {N N1 : List Nd} {s : St} {r : RT} {vs : List Int} (h : OutD k N s r N1 vs) (e : r.2.e ≠ 0) : okB N1.length vs = false := by
  obtain ⟨j, hj⟩ := List.getElem?_of_mem (h.dead e)
  exact okB_false hj (by omega)
theorem OutD.node {k kind : Nat} {N N1 : List Nd} {s : St} {r : RT} {vs : List Int} (h : OutD (k + 1) N s r N1 vs) (e : r.2.e = 0) : OutD k N s ([.nd kind r.1], r.2) (N1 ++ [⟨(kind : Int), -1, vs⟩]) [(N1.length : Int)] := by
  obtain ⟨e1, e2, e3⟩ := h.out.1 e
  have hl : N1.length = N.length + szRs r.1 := by rw [e1, List.length_append, posts_len]
  refine ⟨⟨fun _ => ⟨?_, ?_, ?_⟩, ?_⟩, fun h => absurd e h⟩
  · simp only [posts, post, List.append_nil]; rw [← List.append_assoc, ← e1, e2]
  · simp only [idxs, szR]; rw [hl]; congr 1
  · rw [List.length_append]; show N1.length + 1 + 2 * s.i + k ≤ N.length + 2 * r.2.i; omega
  · rw [List.length_append]; show N1.length + 1 + 2 * s.i ≤ N.length + 2 * r.2.i; omega
theorem OutD.none {k kind : Nat} {N N1 : List Nd} {s : St} {r : RT} {vs : List Int} (h : OutD (k + 1) N s r N1 vs) (e : r.2.e ≠ 0) : OutD k N s ([.nd kind r.1], r.2) N1 [-1] :=
  ⟨⟨fun h => absurd h e, h.out.2⟩, fun _ => List.mem_singleton.2 rfl⟩
theorem OutD.leaf {T : List Tok} {N : List Nd} {s : St} (hk : (tokQ T s).kind ≠ 5) (he : s.e = 0) : OutD 1 N s (leafT T s) (N ++ [⟨19, (s.i : Int), []⟩]) [(N.length : Int)] := by
  have h1 := leaf_fits hk
  refine ⟨⟨fun _ => ⟨?_, ?_, ?_⟩, ?_⟩, fun h => absurd ?_ h⟩
  · simp [leafT, posts, post]
  · simp [leafT, idxs, szR]
  · rw [List.length_append]; show N.length + 1 + 2 * s.i + 1 ≤ N.length + 2 * (leafQ T s).2.i; omega
  · rw [List.length_append]; show N.length + 1 + 2 * s.i ≤ N.length + 2 * (leafQ T s).2.i; omega
  · show (leafQ T s).2.e = 0; unfold leafQ; split <;> exact he
theorem OutD.fail {T : List Tok} {N : List Nd} {s : St} {k m : Nat} (hm : m ≠ 0) (l : List Tr) : OutD k N s (l, failQ T m s) N [-1] :=
  ⟨⟨fun h => absurd h (fail_e T hm s), by show N.length + 2 * s.i ≤ N.length + 2 * (failQ T m s).i; rw [fail_i]; omega⟩, fun _ => List.mem_singleton.2 rfl⟩
end Go.Proofs.YthclkbaankjbiaaGreatDoor
namespace Go.Proofs.YthclkbaankjbiaaGreatDoor

structure Keep (s : St) (r : RT) : Prop where
  inn : r.2.inn = s.inn
  dead : s.e ≠ 0 → r.2 = s
theorem Keep.nil (s : St) : Keep s ([], s) := ⟨rfl, fun _ => rfl⟩
theorem Keep.app {s : St} {a b : RT} (h1 : Keep s a) (h2 : Keep a.2 b) {l : List Tr} : Keep s (l, b.2) := by
  refine ⟨h2.inn.trans h1.inn, fun e => ?_⟩
  have ha := h1.dead e
  show b.2 = s
  rw [h2.dead (by rw [ha]; exact e), ha]
theorem Keep.node {s : St} {a : RT} (h : Keep s a) {l : List Tr} : Keep s (l, a.2) := ⟨h.inn, h.dead⟩

section
variable (T : List Tok)
theorem fail_same {n : Nat} {s : St} (h : s.e ≠ 0) : failQ T n s = s := by unfold failQ; rw [if_neg h]
theorem fail_keep (n : Nat) (s : St) (l : List Tr) : Keep s (l, failQ T n s) := ⟨by show (failQ T n s).inn = s.inn; unfold failQ; split <;> rfl, fun h => fail_same T h⟩
theorem nest_same {D n : Nat} {s : St} (h : s.e ≠ 0) : nestQ T D n s = s := by unfold nestQ; split; exact fail_same T h; rfl
theorem nest_inn (D n : Nat) (s : St) : (nestQ T D n s).inn = s.inn := by unfold nestQ; split; exact (fail_keep T 23 s []).inn; rfl
theorem nest_keep {D n : Nat} {s : St} {r : RT} (h : Keep (nestQ T D n s) r) : Keep s r :=
  ⟨h.inn.trans (nest_inn T D n s), fun e => by have h1 := nest_same T (D := D) (n := n) e; rw [h.dead (by rw [h1]; exact e), h1]⟩
theorem leaf_keep {s : St} (h : s.e = 0) : Keep s (leafT T s) := ⟨by show (leafQ T s).2.inn = s.inn; unfold leafQ; split <;> rfl, fun e => absurd h e⟩
theorem must_keep (x : List UInt8) (s : St) : Keep s (mustT T x s) := by
  unfold mustT; split
  · rename_i h; exact leaf_keep T (is_kind h).2
  · exact fail_keep T 22 s []
theorem kind_keep (k : Nat) (s : St) : Keep s (kindT T k s) := by
  unfold kindT; split
  · rename_i h; exact leaf_keep T h.1
  · exact fail_keep T 22 s []
theorem row_keep {c : St → Bool} {sub : St → RT} (hc : ∀ s, c s = true → s.e = 0) (hs : ∀ s, Keep s (sub s)) {s : St} : ∀ f r, Keep s r → Keep s (rwT T c sub f r)
  | 0, r, h => h
  | f + 1, r, h => by
    unfold rwT
    split
    · rename_i hcc
      exact row_keep hc hs f _ ((h.app (leaf_keep T (hc _ hcc)) (l := [])).app (hs _))
    · exact h
theorem parts_keep {sub : St → RT} (hs : ∀ s, Keep s (sub s)) {s : St} : ∀ f k r, Keep s r → Keep s (partsT T sub f k r)
  | 0, k, r, h => h
  | f + 1, k, r, h => by
    unfold partsT
    split
    · rename_i hcc
      refine parts_keep hs f _ _ ?_
      refine (h.app (leaf_keep T (is_kind hcc).2) (l := [])).app ?_
      show Keep (leafT T r.2).2 _
      split
      · exact (fail_keep T 15 _ []).app (hs _)
      · exact hs _
    · exact h
structure NxK (nt : NxT) : Prop where
  expr : ∀ s, Keep s (nt.expr s)
  formula : ∀ s, Keep s (nt.formula s)
  nots : ∀ s, Keep s (nt.nots s)
  factor : ∀ s, Keep s (nt.factor s)
end

section
variable (T : List Tok) (D n : Nat) {nt : NxT} (h : NxK nt)
include h
theorem args_keep (s : St) : Keep s (argsT T nt s) := parts_keep T h.expr _ _ _ (h.expr s)
omit h in
theorem nameB_keep {s : St} {a : RT} (ha : Keep s a) : Keep s (nameBT T a) := by
  unfold nameBT; split
  · rename_i hc; exact (ha.app (leaf_keep T (is_kind hc).2) (l := [])).app (kind_keep T _ _)
  · exact ha
omit h in
theorem nameC_keep {s : St} {a : RT} (ha : Keep s a) : Keep s (nameCT T a) := ha.app (must_keep T _ _)
theorem nameD_keep {s : St} {a : RT} (ha : Keep s a) : Keep s (nameDT T nt a) := by
  unfold nameDT; split
  · exact ha
  · exact ha.app (args_keep T h _)
omit h in
theorem nameE_keep {s : St} {a : RT} (ha : Keep s a) : Keep s (nameET T a) := ha.app (must_keep T _ _)
theorem name_keep {s : St} (hk : s.e = 0) : Keep s (nameT T nt s) := by
  unfold nameT; split
  · exact (leaf_keep T hk).node
  · exact nameE_keep T (nameD_keep T h (nameC_keep T (nameB_keep T (leaf_keep T hk))))
theorem atom_keep (s : St) : Keep s (atomT T nt s) := by
  unfold atomT
  split
  · exact Keep.nil s
  rename_i he
  have he : s.e = 0 := by omega
  split
  · exact (leaf_keep T he).node
  split
  · exact (leaf_keep T he).node
  split
  · exact (leaf_keep T he).node
  split
  · exact ((leaf_keep T he).app (h.expr _) (l := [])).app (must_keep T _ _)
  split
  · exact name_keep T h he
  · exact fail_keep T 22 s []
omit h in
theorem sign_keep {sub : St → RT} (hs : ∀ s, Keep s (sub s)) {s : St} (hk : s.e = 0) : Keep s (signT T D n sub s) := by
  unfold signT
  simp only []
  split
  · exact (leaf_keep T hk).app (nest_keep T (Keep.nil _))
  · exact (leaf_keep T hk).app (nest_keep T (hs _))
theorem factor_keep (s : St) : Keep s (factorT T D n nt s) := by
  unfold factorT; split
  · rename_i hk; exact sign_keep T D n h.factor (is_kind hk).2
  · exact atom_keep T h s
theorem product_keep (s : St) : Keep s (productT T D n nt s) := row_keep T (fun _ hc => mul_e hc) (factor_keep T D n h) _ _ (factor_keep T D n h s)
theorem sum_keep (s : St) : Keep s (sumT T D n nt s) := row_keep T (fun _ hc => add_e hc) (product_keep T D n h) _ _ (product_keep T D n h s)
theorem not_keep (s : St) : Keep s (notT T D n nt s) := by
  unfold notT
  simp only []
  split
  · rename_i hk; exact sign_keep T D n h.nots (is_kind hk).2
  split
  · rename_i hk; exact ((sum_keep T D n h s).app (leaf_keep T (cmp_e hk)) (l := [])).app (sum_keep T D n h _)
  · exact sum_keep T D n h s
theorem and_keep (s : St) : Keep s (andT T D n nt s) := row_keep T (fun _ hc => (is_kind hc).2) (not_keep T D n h) _ _ (not_keep T D n h s)
theorem or_keep (s : St) : Keep s (orT T D n nt s) := row_keep T (fun _ hc => (is_kind hc).2) (and_keep T D n h) _ _ (and_keep T D n h s)
theorem formula_keep (s : St) : Keep s (formulaT T D n nt s) := by
  unfold formulaT
  simp only []
  split
  · rename_i hk
    split
    · exact ((or_keep T D n h s).app (leaf_keep T (is_kind hk).2) (l := [])).app (nest_keep T (Keep.nil _))
    · exact ((or_keep T D n h s).app (leaf_keep T (is_kind hk).2) (l := [])).app (nest_keep T (h.formula _))
  · exact or_keep T D n h s
theorem let_keep {s : St} (hk : s.e = 0) : Keep s (letT T nt s) :=
  (((((leaf_keep T hk).app (kind_keep T _ _) (l := [])).app (must_keep T _ _) (l := [])).app (h.expr _) (l := [])).app (must_keep T _ _) (l := [])).app (h.expr _)
theorem if_keep {s : St} (hk : s.e = 0) : Keep s (ifT T nt s) :=
  (((((leaf_keep T hk).app (h.expr _) (l := [])).app (must_keep T _ _) (l := [])).app (h.expr _) (l := [])).app (must_keep T _ _) (l := [])).app (h.expr _)
theorem assert_keep {s : St} (hk : s.e = 0) : Keep s (assertT T nt s) :=
  (((leaf_keep T hk).app (h.expr _) (l := [])).app (must_keep T _ _) (l := [])).app (h.expr _)
theorem expr_keep (s : St) : Keep s (exprT T D n nt s) := by
  unfold exprT
  simp only []
  split
  · exact nest_keep T (Keep.nil _)
  split
  · rename_i hk; exact nest_keep T (let_keep T h (is_kind hk.2).2)
  split
  · rename_i hk; exact nest_keep T (if_keep T h (is_kind hk.2).2)
  split
  · rename_i hk; exact nest_keep T (assert_keep T h (is_kind hk.2).2)
  · exact nest_keep T (formula_keep T D n h _)
end
theorem nx_keep (T : List Tok) (D : Nat) : ∀ d, NxK (nxT T D d)
  | 0 => ⟨fun s => nest_keep T (Keep.nil _), fun s => Keep.nil s, fun s => Keep.nil s, fun s => Keep.nil s⟩
  | d + 1 => ⟨expr_keep T D _ (nx_keep T D d), formula_keep T D _ (nx_keep T D d), not_keep T D _ (nx_keep T D d), factor_keep T D _ (nx_keep T D d)⟩

/-! ### What is nested -/

/-- What the program reads where nothing but an expression stands: no nesting is counted. -/
def bodyE (T : List Tok) (D n : Nat) (nt : NxT) (s : St) : RT :=
  if isQ T [108, 101, 116] s = true then letT T nt s
  else if isQ T [105, 102] s = true then ifT T nt s
  else if isQ T [97, 115, 115, 101, 114, 116] s = true then assertT T nt s
  else formulaT T D n nt s
theorem body_keep (T : List Tok) (D n : Nat) {nt : NxT} (h : NxK nt) (s : St) : Keep s (bodyE T D n nt s) := by
  unfold bodyE
  split
  · rename_i hk; exact let_keep T h (is_kind hk).2
  split
  · rename_i hk; exact if_keep T h (is_kind hk).2
  split
  · rename_i hk; exact assert_keep T h (is_kind hk).2
  · exact formula_keep T D n h s
/-- All that is nested by more than n. -/
abbrev NT (T : List Tok) (D n : Nat) : NxT := nxT T D (D - n)
def nestP (T : List Tok) (D n : Nat) (sub : St → RT) (s : St) : RT := if n = D then ([], failQ T 23 s) else sub s
theorem NT_succ (T : List Tok) {D n : Nat} (h : n < D) : NT T D n = { expr := exprT T D (n + 1) (NT T D (n + 1)), formula := formulaT T D (n + 1) (NT T D (n + 1)), nots := notT T D (n + 1) (NT T D (n + 1)), factor := factorT T D (n + 1) (NT T D (n + 1)) } := by
  show nxT T D (D - n) = _
  have h1 : D - n = (D - (n + 1)) + 1 := by omega
  have h2 : D - (D - (n + 1)) = n + 1 := by omega
  rw [h1]
  show { expr := exprT T D (D - (D - (n + 1))) _, formula := formulaT T D (D - (D - (n + 1))) _, nots := notT T D (D - (D - (n + 1))) _, factor := factorT T D (D - (D - (n + 1))) _ : NxT } = _
  rw [h2]
theorem nest_deep (T : List Tok) (D : Nat) (s : St) : nestQ T D (D + 1) s = failQ T 23 s := by unfold nestQ; rw [if_pos (by omega)]
theorem nest_flat (T : List Tok) {D n : Nat} (h : n < D) (s : St) : nestQ T D (n + 1) s = s := by unfold nestQ; rw [if_neg (by omega)]
theorem expr_nest (T : List Tok) {D n : Nat} (hn : n ≤ D) (s : St) (hi : s.inn = false) : Eqv (nestP T D n (bodyE T D (n + 1) (NT T D (n + 1))) s) ((NT T D n).expr s) := by
  unfold nestP
  split
  · rename_i h
    subst h
    have : (NT T n n).expr s = ([], nestQ T n (n + 1) s) := by unfold NT; rw [Nat.sub_self]; rfl
    rw [this, nest_deep]; exact Eqv.refl _
  · rename_i h
    have hlt : n < D := by omega
    rw [NT_succ T hlt]
    show Eqv (bodyE T D (n + 1) (NT T D (n + 1)) s) (exprT T D (n + 1) (NT T D (n + 1)) s)
    unfold exprT
    rw [nest_flat T hlt]
    simp only []
    by_cases he : s.e ≠ 0
    · rw [if_pos he]
      exact ⟨(body_keep T D (n + 1) (nx_keep T D _) s).dead he, fun e => absurd e he⟩
    · rw [if_neg he]
      unfold bodyE
      simp only [hi, true_and]
      exact Eqv.refl _
theorem form_nest (T : List Tok) {D n : Nat} (hn : n ≤ D) (s : St) (hi : s.inn = true) : Eqv (nestP T D n (formulaT T D (n + 1) (NT T D (n + 1))) s) ((NT T D n).expr s) := by
  unfold nestP
  split
  · rename_i h
    subst h
    have : (NT T n n).expr s = ([], nestQ T n (n + 1) s) := by unfold NT; rw [Nat.sub_self]; rfl
    rw [this, nest_deep]; exact Eqv.refl _
  · rename_i h
    have hlt : n < D := by omega
    rw [NT_succ T hlt]
    show Eqv (formulaT T D (n + 1) (NT T D (n + 1)) s) (exprT T D (n + 1) (NT T D (n + 1)) s)
    unfold exprT
    rw [nest_flat T hlt]
    simp only []
    by_cases he : s.e ≠ 0
    · rw [if_pos he]
      exact ⟨(formula_keep T D (n + 1) (nx_keep T D _) s).dead he, fun e => absurd e he⟩
    · rw [if_neg he]
      simp only [hi, Bool.true_eq_false, false_and, if_false]
      exact Eqv.refl _
theorem leaf_live (T : List Tok) {s : St} (h : s.e = 0) : (leafT T s).2.e = 0 := by show (leafQ T s).2.e = 0; unfold leafQ; split <;> exact h
/-- A sign, and what is nested behind it. -/
theorem sign_eqv (T : List Tok) {D n : Nat} (hn : n ≤ D) {sub sub' : St → RT} (hs : n < D → sub' = sub) (s : St) (hk : s.e = 0) :
    Eqv ([.nd 11 ((leafT T s).1 ++ (nestP T D n sub (leafT T s).2).1)], (nestP T D n sub (leafT T s).2).2) (signT T D n sub' s) := by
  unfold signT nestP
  simp only []
  by_cases h : n = D
  · subst h
    rw [if_pos rfl, nest_deep, if_pos (fail_e T (by decide) _)]
    exact ⟨rfl, fun e => absurd e (fail_e T (by decide) _)⟩
  · have hlt : n < D := by omega
    rw [if_neg h, nest_flat T hlt, hs hlt, if_neg (by rw [leaf_live T hk]; decide)]
    exact Eqv.refl _
/-- A formula with what is nested behind its sign. -/
theorem form_eqv (T : List Tok) {D n : Nat} (hn : n ≤ D) {sub : St → RT} {nt : NxT} (hs : n < D → nt.formula = sub) (s : St) (hk : isQ T [61, 62] (orT T D n nt s).2 = true) :
    Eqv ([.nd 10 ((orT T D n nt s).1 ++ (leafT T (orT T D n nt s).2).1 ++ (nestP T D n sub (leafT T (orT T D n nt s).2).2).1)], (nestP T D n sub (leafT T (orT T D n nt s).2).2).2) (formulaT T D n nt s) := by
  unfold formulaT nestP
  simp only []
  rw [if_pos hk]
  by_cases h : n = D
  · subst h
    rw [if_pos rfl, nest_deep, if_pos (fail_e T (by decide) _)]
    exact ⟨rfl, fun e => absurd e (fail_e T (by decide) _)⟩
  · have hlt : n < D := by omega
    rw [if_neg h, nest_flat T hlt, hs hlt, if_neg (by rw [leaf_live T (is_kind hk).2]; decide)]
    exact Eqv.refl _

/-! ### Loops -/

theorem rwT_stop {T : List Tok} {c : St → Bool} {sub : St → RT} {r : RT} (hc : c r.2 = false) : ∀ f, rwT T c sub f r = r
  | 0 => rfl
  | f + 1 => by unfold rwT; rw [hc]; rfl
def rowS (T : List Tok) (sub : St → RT) (r : RT) : RT := ([.nd 10 (r.1 ++ (leafT T r.2).1 ++ (sub (leafT T r.2).2).1)], (sub (leafT T r.2).2).2)
def LeftR (T : List Tok) (c : St → Bool) (sub : St → RT) (R r : RT) : Prop := ∃ f, T.length - r.2.i + 1 ≤ f ∧ rwT T c sub f r = R
theorem LeftR.start (T : List Tok) (c : St → Bool) (sub : St → RT) (s : St) : LeftR T c sub (rwT T c sub (fuelQ T (sub s).2) (sub s)) (sub s) := ⟨_, Nat.le_refl _, rfl⟩
theorem LeftR.stop {T : List Tok} {c : St → Bool} {sub : St → RT} {R r : RT} (h : LeftR T c sub R r) (hc : c r.2 = false) : R = r := by
  obtain ⟨f, -, hf⟩ := h; rw [← hf, rwT_stop hc]
theorem leaf_i {T : List Tok} {s : St} (hk : (tokQ T s).kind ≠ 5) : (leafT T s).2.i = s.i + 1 := (leaf_fits hk).2
theorem LeftR.next {T : List Tok} {c : St → Bool} {sub : St → RT} {R r : RT} (h : LeftR T c sub R r) (hc : c r.2 = true) (hk : (tokQ T r.2).kind ≠ 5) (hi : r.2.i < T.length) (hm : (leafT T r.2).2.i ≤ (sub (leafT T r.2).2).2.i) : LeftR T c sub R (rowS T sub r) ∧ r.2.i < (rowS T sub r).2.i := by
  obtain ⟨f, hf, hr⟩ := h
  have h1 := leaf_i hk
  have h2 : r.2.i < (rowS T sub r).2.i := by show r.2.i < (sub (leafT T r.2).2).2.i; omega
  refine ⟨⟨f - 1, by omega, ?_⟩, h2⟩
  obtain ⟨k, rfl⟩ : ∃ k, f = k + 1 := ⟨f - 1, by omega⟩
  unfold rwT at hr
  rw [if_pos hc] at hr
  exact hr

/-- Parts with commas, as the program goes at them: j rounds are left. -/
def loopP (T : List Tok) (sub : St → RT) : Nat → RT → RT
  | 0, r => (r.1, failQ T 15 r.2)
  | j + 1, r => if isQ T [44] (sub r.2).2 = true then loopP T sub j (r.1 ++ (sub r.2).1 ++ (leafT T (sub r.2).2).1, (leafT T (sub r.2).2).2) else (r.1 ++ (sub r.2).1, (sub r.2).2)
def listP (T : List Tok) (sub : St → RT) (s : St) : RT := if isQ T [41] s = true then ([], s) else loopP T sub 8 ([], s)
theorem parts_stopT {T : List Tok} {sub : St → RT} {r : RT} {k : Nat} (hc : isQ T [44] r.2 = false) : ∀ f, partsT T sub f k r = r
  | 0 => rfl
  | f + 1 => by unfold partsT; rw [hc]; rfl
theorem is_live {T : List Tok} {x : List UInt8} {s : St} (h : s.e ≠ 0) : isQ T x s = false := by unfold isQ; exact decide_eq_false (fun e => h e.1)
theorem loop_parts (T : List Tok) {sub : St → RT} (hs : ∀ s, Good T s (sub s)) (hk : ∀ s, s.e ≠ 0 → (sub s).2 = s) : ∀ (j f : Nat) (r : RT), j + 1 ≤ 8 → T.length - (sub r.2).2.i + 1 ≤ f → r.2.i ≤ T.length → Eqv (loopP T sub (j + 1) r) (partsT T sub f (8 - j) (r.1 ++ (sub r.2).1, (sub r.2).2)) := by
  intro j
  induction j with
  | zero =>
    intro f r _ hf hr
    unfold loopP
    by_cases hc : isQ T [44] (sub r.2).2 = true
    · obtain ⟨g, rfl⟩ : ∃ g, f = g + 1 := ⟨f - 1, by omega⟩
      rw [if_pos hc]
      unfold partsT
      rw [if_pos hc]
      simp only [Nat.sub_zero, if_true]
      have hd : (failQ T 15 (leafT T (sub r.2).2).2).e ≠ 0 := fail_e T (by decide) _
      have h2 := hk _ hd
      rw [h2, parts_stopT (is_live hd)]
      exact ⟨rfl, fun e => absurd e hd⟩
    · rw [if_neg hc, parts_stopT (by simpa using hc)]
      exact Eqv.refl _
  | succ j ih =>
    intro f r hj hf hr
    have e1 : loopP T sub (j + 1 + 1) r = if isQ T [44] (sub r.2).2 = true then loopP T sub (j + 1) (r.1 ++ (sub r.2).1 ++ (leafT T (sub r.2).2).1, (leafT T (sub r.2).2).2) else (r.1 ++ (sub r.2).1, (sub r.2).2) := by rw [loopP]
    rw [e1]
    by_cases hc : isQ T [44] (sub r.2).2 = true
    · obtain ⟨g, rfl⟩ : ∃ g, f = g + 1 := ⟨f - 1, by omega⟩
      rw [if_pos hc]
      unfold partsT
      rw [if_pos hc]
      simp only []
      rw [if_neg (show ¬ 8 - (j + 1) = 8 by omega), show 8 - (j + 1) + 1 = 8 - j by omega]
      have hki := (is_kind hc).1
      have hl := leaf_i (T := T) (s := (sub r.2).2) hki
      have hm := (hs (leafT T (sub r.2).2).2).mono
      have hlt : (sub r.2).2.i < T.length := by
        rcases Nat.lt_or_ge (sub r.2).2.i T.length with h | h
        · exact h
        · exact absurd (by unfold tokQ; rw [List.getElem?_eq_none h]; rfl) hki
      exact ih g (r.1 ++ (sub r.2).1 ++ (leafT T (sub r.2).2).1, (leafT T (sub r.2).2).2) (by omega) (by show T.length - (sub (leafT T (sub r.2).2).2).2.i + 1 ≤ g; omega) (by show (leafT T (sub r.2).2).2.i ≤ T.length; omega)
    · rw [if_neg hc, parts_stopT (by simpa using hc)]
      exact Eqv.refl _
/-- Parts, or none, up to a parenthesis. -/
theorem list_parts (T : List Tok) {sub : St → RT} (hs : ∀ s, Good T s (sub s)) (hk : ∀ s, s.e ≠ 0 → (sub s).2 = s) (s : St) (hi : s.i ≤ T.length) : Eqv (listP T sub s) (if isQ T [41] s = true then ([], s) else partsT T sub (fuelQ T (sub s).2) 1 (sub s)) := by
  unfold listP
  split
  · exact Eqv.refl _
  · have h := loop_parts T hs hk 7 (fuelQ T (sub s).2) ([], s) (by omega) (Nat.le_refl _) hi
    simpa using h
end Go.Proofs.YthclkbaankjbiaaGreatDoor
