/- Lemmas. -/
import Derived.Test.YtddccnpohpaofaaGreatDoorP10
import Derived.Test.YtddccnpohpaofaaGreatDoorP6
set_option linter.unusedVariables false
set_option linter.unusedSimpArgs false
namespace Go.Proofs.YtddccnpohpaofaaGreatDoor

structure Good (T : List Tok) (s : St) (r : RT) : Prop where
  stay : s.e ≠ 0 → r.2.e = s.e ∧ r.2.pos = s.pos ∧ r.2.i = s.i
  mono : s.i ≤ r.2.i
  place : s.e = 0 → r.2.e ≠ 0 → r.2.pos = (tokQ T r.2).pos
  inr : EndT T → s.i < T.length → r.2.i < T.length
theorem Good.nil (T : List Tok) (s : St) : Good T s ([], s) := ⟨fun _ => ⟨rfl, rfl, rfl⟩, Nat.le_refl _, fun h e => absurd h e, fun _ h => h⟩
theorem Good.self (T : List Tok) (r : RT) : Good T r.2 r := ⟨fun _ => ⟨rfl, rfl, rfl⟩, Nat.le_refl _, fun h e => absurd h e, fun _ h => h⟩
theorem Good.app {T : List Tok} {s : St} {a b : RT} (h1 : Good T s a) (h2 : Good T a.2 b) : Good T s (a.1 ++ b.1, b.2) := by
  refine ⟨fun e => ?_, Nat.le_trans h1.mono h2.mono, fun e eb => ?_, fun hE h => h2.inr hE (h1.inr hE h)⟩
  · obtain ⟨a1, a2, a3⟩ := h1.stay e
    obtain ⟨b1, b2, b3⟩ := h2.stay (by rw [a1]; exact e)
    exact ⟨b1.trans a1, b2.trans a2, b3.trans a3⟩
  · by_cases ea : a.2.e = 0
    · exact h2.place ea eb
    · obtain ⟨b1, b2, b3⟩ := h2.stay ea
      have := h1.place e ea
      show b.2.pos = (tokQ T b.2).pos
      have e2 : tokQ T b.2 = tokQ T a.2 := by unfold tokQ; rw [b3]
      rw [b2, e2]; exact this
theorem Good.state {T : List Tok} {s : St} {a b : RT} (h1 : Good T s a) (h2 : Good T a.2 b) {l : List Tr} : Good T s (l, b.2) :=
  ⟨(h1.app h2).stay, (h1.app h2).mono, (h1.app h2).place, (h1.app h2).inr⟩
theorem Good.node {T : List Tok} {s : St} {l : List Tr} {t : St} (k : Nat) (h : Good T s (l, t)) : Good T s ([.nd k l], t) := ⟨h.stay, h.mono, h.place, h.inr⟩
theorem Good.inn {T : List Tok} {s : St} {v : Bool} {r : RT} (h : Good T (setIn v s) r) : Good T s r := ⟨h.stay, h.mono, h.place, h.inr⟩
theorem mul_e {T : List Tok} {s : St} (h : isMul T s = true) : s.e = 0 := by
  unfold isMul at h; simp only [Bool.or_eq_true] at h; rcases h with (h | h) | h <;> exact (is_kind h).2
theorem add_e {T : List Tok} {s : St} (h : isAdd T s = true) : s.e = 0 := by
  unfold isAdd at h; simp only [Bool.or_eq_true] at h; rcases h with h | h <;> exact (is_kind h).2
theorem cmp_e {T : List Tok} {s : St} (h : isCmp T s = true) : s.e = 0 := by
  unfold isCmp at h; simp only [Bool.or_eq_true] at h; rcases h with ((((h | h) | h) | h) | h) | h <;> exact (is_kind h).2

section
variable (T : List Tok)
theorem leaf_good {s : St} (h : s.e = 0) : Good T s (leafT T s) := by
  have h1 : (leafT T s).2.e = 0 := by show (leafQ T s).2.e = 0; unfold leafQ; split <;> exact h
  refine ⟨fun e => absurd h e, ?_, fun _ e => absurd h1 e, fun hE hl => ?_⟩
  rotate_left
  · show (leafQ T s).2.i < T.length
    have ht : T[s.i]? = some (tokQ T s) := by unfold tokQ; rw [List.getElem?_eq_getElem hl]; rfl
    have := hE _ _ ht
    unfold leafQ; split
    · exact hl
    · show s.i + 1 < T.length; omega
  show s.i ≤ (leafQ T s).2.i
  unfold leafQ; split
  · exact Nat.le_refl _
  · exact Nat.le_succ _
theorem fail_good (n : Nat) (s : St) (l : List Tr) : Good T s (l, failQ T n s) := by
  refine ⟨fun e => ?_, ?_, fun e _ => ?_, fun _ hl => by show (failQ T n s).i < _; rw [fail_i]; exact hl⟩
  · have h : failQ T n s = s := by unfold failQ; rw [if_neg e]
    show (failQ T n s).e = s.e ∧ (failQ T n s).pos = s.pos ∧ (failQ T n s).i = s.i
    rw [h]; exact ⟨rfl, rfl, rfl⟩
  · show s.i ≤ (failQ T n s).i; rw [fail_i]; exact Nat.le_refl _
  · show (failQ T n s).pos = (tokQ T (failQ T n s)).pos; unfold failQ; rw [if_pos e]; rfl
theorem must_good (w : List UInt8) (s : St) : Good T s (mustT T w s) := by
  unfold mustT
  split
  · rename_i h; exact leaf_good T (is_kind h).2
  · exact fail_good T 22 s []
theorem kind_good (k : Nat) (s : St) : Good T s (kindT T k s) := by
  unfold kindT
  split
  · rename_i h; exact leaf_good T h.1
  · exact fail_good T 22 s []
theorem nest_good {D n : Nat} {s : St} {r : RT} (h : Good T (nestQ T D n s) r) : Good T s r := by
  have h0 : Good T s (([] : List Tr), nestQ T D n s) := by
    unfold nestQ; split
    · exact fail_good T 23 s []
    · exact Good.nil T s
  exact h0.app h
theorem row_good {c : St → Bool} {sub : St → RT} (hc : ∀ s, c s = true → s.e = 0) (hs : ∀ s, Good T s (sub s)) {s : St} : ∀ f r, Good T s r → Good T s (rwT T c sub f r)
  | 0, r, h => h
  | f + 1, r, h => by
    unfold rwT
    split
    · rename_i hcc
      refine row_good hc hs f _ (Good.node 10 ?_)
      exact (h.app (leaf_good T (hc _ hcc))).app (hs _)
    · exact h
theorem parts_good {sub : St → RT} (hs : ∀ s, Good T s (sub s)) {s : St} : ∀ f k r, Good T s r → Good T s (partsT T sub f k r)
  | 0, k, r, h => h
  | f + 1, k, r, h => by
    unfold partsT
    split
    · rename_i hcc
      refine parts_good hs f _ _ ?_
      refine (h.app (leaf_good T (is_kind hcc).2)).app ?_
      split
      · exact (fail_good T 15 _ []).app (hs _)
      · exact hs _
    · exact h

structure NxG (T : List Tok) (nt : NxT) : Prop where
  expr : ∀ s, Good T s (nt.expr s)
  formula : ∀ s, Good T s (nt.formula s)
  nots : ∀ s, Good T s (nt.nots s)
  factor : ∀ s, Good T s (nt.factor s)
end

section
variable (T : List Tok) (D n : Nat) {nt : NxT} (h : NxG T nt)
include h
theorem args_good (s : St) : Good T s (argsT T nt s) := parts_good T h.expr _ _ _ (h.expr s)
omit h in
theorem nameB_good {s : St} {a : RT} (ha : Good T s a) : Good T s (nameBT T a) := by
  unfold nameBT
  split
  · rename_i hc; exact (ha.app (leaf_good T (is_kind hc).2)).app (kind_good T _ _)
  · exact ha
omit h in
theorem nameC_good {s : St} {a : RT} (ha : Good T s a) : Good T s (nameCT T a) := ha.app (must_good T _ _)
theorem nameD_good {s : St} {a : RT} (ha : Good T s a) : Good T s (nameDT T nt a) := by
  unfold nameDT
  split
  · exact ha
  · exact ha.app (args_good T h _)
omit h in
theorem nameE_good {s : St} {a : RT} (ha : Good T s a) : Good T s (nameET T a) := Good.node 13 (ha.app (must_good T _ _))
theorem name_good {s : St} (hk : s.e = 0) : Good T s (nameT T nt s) := by
  unfold nameT
  split
  · exact Good.node 14 (leaf_good T hk)
  · exact nameE_good T (nameD_good T h (nameC_good T (nameB_good T (leaf_good T hk))))
theorem atom_good (s : St) : Good T s (atomT T nt s) := by
  unfold atomT
  split
  · exact Good.nil T s
  rename_i he
  have he : s.e = 0 := by omega
  split
  · exact Good.node 15 (leaf_good T he)
  split
  · exact Good.node 16 (leaf_good T he)
  split
  · exact Good.node 17 (leaf_good T he)
  split
  · exact Good.node 12 (((leaf_good T he).app (h.expr _)).app (must_good T _ _))
  split
  · exact name_good T h he
  · exact fail_good T 22 s []
omit h in
theorem sign_good {sub : St → RT} (hs : ∀ s, Good T s (sub s)) {s : St} (hk : s.e = 0) : Good T s (signT T D n sub s) := by
  unfold signT
  simp only []
  split
  · exact (leaf_good T hk).state (nest_good T (Good.nil T _))
  · exact Good.node 11 ((leaf_good T hk).app (nest_good T (hs _)))
theorem factor_good (s : St) : Good T s (factorT T D n nt s) := by
  unfold factorT
  split
  · rename_i hk; exact sign_good T D n h.factor (is_kind hk).2
  · exact atom_good T h s
theorem product_good (s : St) : Good T s (productT T D n nt s) := row_good T (fun _ hc => mul_e hc) (factor_good T D n h) _ _ (factor_good T D n h s)
theorem sum_good (s : St) : Good T s (sumT T D n nt s) := row_good T (fun _ hc => add_e hc) (product_good T D n h) _ _ (product_good T D n h s)
theorem not_good (s : St) : Good T s (notT T D n nt s) := by
  unfold notT
  simp only []
  split
  · rename_i hk; exact sign_good T D n h.nots (is_kind hk).2
  split
  · rename_i hk; exact Good.node 10 (((sum_good T D n h s).app (leaf_good T (cmp_e hk))).app (sum_good T D n h _))
  · exact sum_good T D n h s
theorem and_good (s : St) : Good T s (andT T D n nt s) := row_good T (fun _ hc => (is_kind hc).2) (not_good T D n h) _ _ (not_good T D n h s)
theorem or_good (s : St) : Good T s (orT T D n nt s) := row_good T (fun _ hc => (is_kind hc).2) (and_good T D n h) _ _ (and_good T D n h s)
theorem formula_good (s : St) : Good T s (formulaT T D n nt s) := by
  unfold formulaT
  simp only []
  split
  · rename_i hk
    split
    · exact ((or_good T D n h s).app (leaf_good T (is_kind hk).2)).state (nest_good T (Good.nil T _))
    · exact Good.node 10 (((or_good T D n h s).app (leaf_good T (is_kind hk).2)).app (nest_good T (h.formula _)))
  · exact or_good T D n h s
theorem let_good {s : St} (hk : s.e = 0) : Good T s (letT T nt s) :=
  Good.node 7 ((((((leaf_good T hk).app (kind_good T _ _)).app (must_good T _ _)).app (h.expr _)).app (must_good T _ _)).app (h.expr _))
theorem if_good {s : St} (hk : s.e = 0) : Good T s (ifT T nt s) :=
  Good.node 8 ((((((leaf_good T hk).app (h.expr _)).app (must_good T _ _)).app (h.expr _)).app (must_good T _ _)).app (h.expr _))
theorem assert_good {s : St} (hk : s.e = 0) : Good T s (assertT T nt s) :=
  Good.node 9 ((((leaf_good T hk).app (h.expr _)).app (must_good T _ _)).app (h.expr _))
theorem expr_good (s : St) : Good T s (exprT T D n nt s) := by
  unfold exprT
  simp only []
  split
  · exact nest_good T (Good.nil T _)
  split
  · rename_i hk; exact nest_good T (let_good T h (is_kind hk.2).2)
  split
  · rename_i hk; exact nest_good T (if_good T h (is_kind hk.2).2)
  split
  · rename_i hk; exact nest_good T (assert_good T h (is_kind hk.2).2)
  · exact nest_good T (formula_good T D n h _)
end
theorem nx_good (T : List Tok) (D : Nat) : ∀ d, NxG T (nxT T D d)
  | 0 => ⟨fun s => nest_good T (Good.nil T _), fun s => Good.nil T s, fun s => Good.nil T s, fun s => Good.nil T s⟩
  | d + 1 => ⟨expr_good T D _ (nx_good T D d), formula_good T D _ (nx_good T D d), not_good T D _ (nx_good T D d), factor_good T D _ (nx_good T D d)⟩

section
variable (T : List Tok) {et : St → RT} (h : ∀ s, Good T s (et s))
include h
omit h in
theorem typB_good {s : St} {a : RT} (ha : Good T s a) : Good T s (typBT T a) := by
  unfold typBT
  split
  · rename_i hk; exact ha.app (Good.node 5 (leaf_good T (by rcases hk with hk | hk <;> exact (is_kind hk).2)))
  · exact ha.state (fail_good T 22 _ [])
theorem typC_good {s : St} {a : RT} (ha : Good T s a) : Good T s (typCT T et a) := by
  unfold typCT
  split
  · rename_i hk
    refine ha.app (Good.node 6 (((leaf_good T (is_kind hk).2).app ?_).app ?_))
    · exact (h _).inn
    · exact (must_good T _ _).inn
  · exact ha
theorem typed_good (s : St) : Good T s (typedT T et s) := typC_good T h (typB_good T (must_good T _ s))
theorem par_good (s : St) : Good T s (parT T et s) := Good.node 4 ((kind_good T _ s).app (typed_good T h _))
theorem params_good (s : St) : Good T s (paramsT T et s) := parts_good T (par_good T h) _ _ _ (par_good T h s)
omit h in
theorem defA_good (s : St) : Good T s (defAT T s) := by
  unfold defAT
  split
  · rename_i hk; exact leaf_good T (is_kind hk).2
  · exact Good.nil T s
omit h in
theorem defB_good {s : St} {a : RT} (ha : Good T s a) : Good T s (defBT T a) := ha.app (((must_good T _ _).app (kind_good T _ _)).app (must_good T _ _))
theorem defC_good {s : St} {a : RT} (ha : Good T s a) : Good T s (defCT T et a) := by
  unfold defCT
  split
  · exact ha.app (params_good T h _)
  · exact ha
theorem defD_good {s : St} {a : RT} (ha : Good T s a) : Good T s (defDT T et a) :=
  ((ha.app (((must_good T _ _).app (typed_good T h _)).app (must_good T _ _))).app (h _)).app (must_good T _ _)
theorem def_good (s : St) : Good T s (defT T et s) := Good.node 3 (defD_good T h (defC_good T h (defB_good T (defA_good T s))))
omit h in
theorem impStep_good {s : St} {r : RT} (hr : Good T s r) (hc : isQ T [105, 109, 112, 111, 114, 116] r.2 = true) : Good T s (impStepT T r) :=
  hr.app (Good.node 2 (((leaf_good T (is_kind hc).2).app (kind_good T _ _)).app (must_good T _ _)))
omit h in
theorem many_good {c : St → Bool} {step : RT → RT} {most : Nat} {s : St} (hs : ∀ r, c r.2 = true → Good T s r → Good T s (step r)) : ∀ f k r, Good T s r → Good T s (manyT T c step most f k r).2
  | 0, k, r, hr => hr
  | f + 1, k, r, hr => by
    unfold manyT
    split
    · rename_i hc
      split
      · exact hr.state (fail_good T 15 _ [])
      · exact many_good hs f _ _ (hs r hc hr)
    · exact hr
end
end Go.Proofs.YtddccnpohpaofaaGreatDoor
namespace Go.Proofs.YtddccnpohpaofaaGreatDoor
open Go.RowKit

/-- An expression of any Op: its Op, its name, its module, its number, its truth, its kids, its place. -/
inductive Sx where
  | mk (op : Int) (nm md : List UInt8) (nu : Int) (ys : Bool) (ks : List Sx) (ps : Int)
def Sx.op : Sx → Int | .mk op _ _ _ _ _ _ => op
def Sx.ks : Sx → List Sx | .mk _ _ _ _ _ ks _ => ks

/-- Is a text one word, and no key? -/
def plainB (l : List UInt8) : Bool := decide ((firstE l).1 = 1 ∧ (firstE l).2 = l.length ∧ wrongE 1 l = 0)
def countB (op : Int) (n : Nat) : Bool :=
  if op ≤ 4 then decide (n = 0) else if op ≤ 6 then decide (n = 1) else if op ≤ 20 ∨ op = 22 ∨ op = 23 then decide (n = 2) else if op = 21 then decide (n = 3) else decide (n ≤ 8)
def namesB (op : Int) (nm md : List UInt8) : Bool :=
  if op = 3 ∨ op = 22 then plainB nm && decide (md = []) else if op = 24 then plainB nm && (decide (md = []) || plainB md) else decide (nm = []) && decide (md = [])
/-- Is a number right for an Op: of at most 60 digits, none below 0; none (0) for another Op? -/
def numB (op : Int) (nu : Int) : Bool := if op = 1 then decide (0 ≤ nu) && decide ((Zd.txtL nu).length ≤ 60) else decide (nu = 0)
/-- Is an expression right, but for its kids? -/
def aloneB (op : Int) (nm md : List UInt8) (nu : Int) (ys : Bool) (n : Nat) : Bool :=
  decide (1 ≤ op) && decide (op ≤ 24) && countB op n && namesB op nm md && numB op nu && (decide (op = 2) || !ys)
def mayB (f : Bool) (op : Int) : Bool := if f then decide (op < 21) else decide (op ≠ 4)
mutual
/-- Is an expression right, as a formula (f), or as a body? -/
def rightB (f : Bool) : Sx → Bool
  | .mk op nm md nu ys ks _ => mayB f op && aloneB op nm md nu ys ks.length && rightBs f ks
def rightBs (f : Bool) : List Sx → Bool
  | [] => true
  | x :: l => rightB f x && rightBs f l
end
mutual
def sizS : Sx → Nat
  | .mk _ _ _ _ _ ks _ => 1 + sizSs ks
def sizSs : List Sx → Nat
  | [] => 0
  | x :: l => sizS x + sizSs l
end
theorem sizS_pos (x : Sx) : 0 < sizS x := by cases x; simp only [sizS]; omega
theorem sizSs_mem : ∀ {l : List Sx} {j : Nat} {x : Sx}, l[j]? = some x → sizS x ≤ sizSs l
  | [], j, x, h => by simp at h
  | y :: l, 0, x, h => by simp at h; subst h; simp only [sizSs]; omega
  | y :: l, j + 1, x, h => by
    have := sizSs_mem (l := l) (j := j) (x := x) (by simpa using h)
    simp only [sizSs]; omega
theorem sizS_kid {x k : Sx} {j : Nat} (h : x.ks[j]? = some k) : sizS k < sizS x := by
  cases x with
  | mk op nm md nu ys ks ps => simp only [Sx.ks] at h; have := sizSs_mem h; simp only [sizS]; omega
theorem rightBs_mem {f : Bool} : ∀ {l : List Sx} {j : Nat} {x : Sx}, rightBs f l = true → l[j]? = some x → rightB f x = true
  | [], j, x, _, h => by simp at h
  | y :: l, 0, x, hr, h => by simp at h; subst h; simp only [rightBs, Bool.and_eq_true] at hr; exact hr.1
  | y :: l, j + 1, x, hr, h => by simp only [rightBs, Bool.and_eq_true] at hr; exact rightBs_mem hr.2 (by simpa using h)
/-- The level of an Op. -/
def levS (op : Int) : Nat :=
  if op = 5 then 8 else if op = 6 then 4 else if op = 7 ∨ op = 8 then 6 else if 9 ≤ op ∧ op ≤ 11 then 7 else if 12 ≤ op ∧ op ≤ 17 then 5 else if op = 18 then 3 else if op = 19 then 2 else if op = 20 then 1
  else if 21 ≤ op ∧ op ≤ 23 then 0 else 9
def sideA (l : Nat) : Nat := if l = 1 then 2 else if l = 5 then 6 else l
def sideB (l : Nat) : Nat := if l = 1 then 1 else l + 1
def signS (op : Int) : List UInt8 :=
  [[43], [45], [42], [47], [37], [61], [60, 62], [60], [60, 61], [62], [62, 61], [38, 38], [124, 124], [61, 62]].getD (op - 7).toNat []
/-- A piece: bytes, or an expression with the level that it may have. -/
inductive Pc where
  | bs (l : List UInt8)
  | ex (x : Sx) (least : Nat)
/-- A text in parentheses if its level is less. -/
def wrapT (op : Int) (t : List UInt8) (least : Nat) : List UInt8 := if levS op < least then [40] ++ t ++ [41] else t
def joinT : List (List UInt8) → List UInt8
  | [] => []
  | [t] => t
  | t :: l => t ++ [44, 32] ++ joinT l
/-- The text of an expression, of the Ops and texts of its kids. -/
def nodeT (op : Int) (nm md : List UInt8) (nu : Int) (ys : Bool) (k : List (Int × List UInt8)) : List UInt8 :=
  let K := fun j least => wrapT (k.getD j (1, [])).1 (k.getD j (1, [])).2 least
  if op = 1 then Zd.txtL nu else if op = 2 then (if ys then [116, 114, 117, 101] else [102, 97, 108, 115, 101]) else if op = 3 then nm else if op = 4 then [114, 101, 115]
  else if op = 5 then [45] ++ K 0 9 else if op = 6 then [110, 111, 116, 32] ++ K 0 4
  else if op = 21 then [105, 102, 32] ++ K 0 0 ++ [32, 116, 104, 101, 110, 32] ++ K 1 0 ++ [32, 101, 108, 115, 101, 32] ++ K 2 0
  else if op = 22 then [108, 101, 116, 32] ++ nm ++ [32, 61, 32] ++ K 0 0 ++ [32, 105, 110, 32] ++ K 1 0
  else if op = 23 then [97, 115, 115, 101, 114, 116, 32] ++ K 0 0 ++ [32, 105, 110, 32] ++ K 1 0
  else if op = 24 then (if md = [] then [] else md ++ [46]) ++ nm ++ [40] ++ joinT (k.map (·.2)) ++ [41]
  else K 0 (sideA (levS op)) ++ ([32] ++ signS op ++ [32]) ++ K 1 (sideB (levS op))
mutual
def txS : Sx → List UInt8
  | .mk op nm md nu ys ks _ => nodeT op nm md nu ys (txSs ks)
def txSs : List Sx → List (Int × List UInt8)
  | [] => []
  | x :: l => (x.op, txS x) :: txSs l
end
def wrapS (x : Sx) (least : Nat) : List UInt8 := wrapT x.op (txS x) least
theorem txSs_get : ∀ (l : List Sx) (j : Nat), (txSs l)[j]? = l[j]?.map (fun x => (x.op, txS x))
  | [], j => by simp [txSs]
  | x :: l, 0 => by simp [txSs]
  | x :: l, j + 1 => by simp [txSs, txSs_get l j]
def textP : Pc → List UInt8
  | .bs l => l
  | .ex x least => wrapS x least
def textPs (l : List Pc) : List UInt8 := l.flatMap textP
/-- The pieces that a call's kids make: with a comma between. -/
def argsP : List Sx → List Pc
  | [] => []
  | [x] => [.ex x 0]
  | x :: l => .ex x 0 :: .bs [44, 32] :: argsP l
def nilS : Sx := .mk 1 [] [] 0 false [] 0
/-- The pieces of an expression, its kids whole. -/
def bareP : Sx → List Pc
  | .mk op nm md nu ys ks _ =>
    let K := fun j => ks.getD j nilS
    if op = 1 then [.bs (Zd.txtL nu)] else if op = 2 then [.bs (if ys then [116, 114, 117, 101] else [102, 97, 108, 115, 101])] else if op = 3 then [.bs nm] else if op = 4 then [.bs [114, 101, 115]]
    else if op = 5 then [.bs [45], .ex (K 0) 9] else if op = 6 then [.bs [110, 111, 116, 32], .ex (K 0) 4]
    else if op = 21 then [.bs [105, 102, 32], .ex (K 0) 0, .bs [32, 116, 104, 101, 110, 32], .ex (K 1) 0, .bs [32, 101, 108, 115, 101, 32], .ex (K 2) 0]
    else if op = 22 then [.bs ([108, 101, 116, 32] ++ nm ++ [32, 61, 32]), .ex (K 0) 0, .bs [32, 105, 110, 32], .ex (K 1) 0]
    else if op = 23 then [.bs [97, 115, 115, 101, 114, 116, 32], .ex (K 0) 0, .bs [32, 105, 110, 32], .ex (K 1) 0]
    else if op = 24 then (if md = [] then [] else [.bs (md ++ [46])]) ++ [.bs (nm ++ [40])] ++ argsP ks ++ [.bs [41]]
    else [.ex (K 0) (sideA (levS op)), .bs ([32] ++ signS op ++ [32]), .ex (K 1) (sideB (levS op))]
def openP (x : Sx) (least : Nat) : List Pc := if levS x.op < least then .bs [40] :: bareP x ++ [.bs [41]] else bareP x

theorem wrapT0 (op : Int) (t : List UInt8) : wrapT op t 0 = t := by simp [wrapT]
theorem args_text : ∀ l : List Sx, textPs (argsP l) = joinT ((txSs l).map (·.2))
  | [] => rfl
  | [x] => by simp [argsP, textPs, textP, wrapS, wrapT0, txSs, joinT]
  | x :: y :: l => by
    have := args_text (y :: l)
    simp only [textPs] at this
    simp only [argsP, textPs, List.flatMap_cons, this, textP, wrapS, wrapT0]
    simp [txSs, joinT]
theorem kid_get {ks : List Sx} {j least : Nat} (h : j < ks.length) : wrapT ((txSs ks).getD j (1, [])).1 ((txSs ks).getD j (1, [])).2 least = wrapS (ks.getD j nilS) least := by
  have h1 : (txSs ks).getD j (1, []) = ((ks.getD j nilS).op, txS (ks.getD j nilS)) := by
    simp only [List.getD_eq_getElem?_getD, txSs_get, List.getElem?_eq_getElem h, Option.map_some, Option.getD_some]
  rw [h1]; rfl
theorem bare_text {op : Int} {nm md : List UInt8} {nu : Int} {ys : Bool} {ks : List Sx} {ps : Int} (h1 : 1 ≤ op) (h2 : op ≤ 24) (hc : countB op ks.length = true) :
    textPs (bareP (.mk op nm md nu ys ks ps)) = txS (.mk op nm md nu ys ks ps) := by
  have hk : (5 ≤ op ∧ op ≤ 6 → 1 = ks.length) ∧ (7 ≤ op ∧ op ≤ 20 ∨ op = 22 ∨ op = 23 → 2 = ks.length) ∧ (op = 21 → 3 = ks.length) := by
    unfold countB at hc
    refine ⟨fun h => ?_, fun h => ?_, fun h => ?_⟩
    · rw [if_neg (by omega), if_pos (by omega)] at hc; exact (of_decide_eq_true hc).symm
    · rw [if_neg (by omega), if_neg (by omega), if_pos (by omega)] at hc; exact (of_decide_eq_true hc).symm
    · rw [if_neg (by omega), if_neg (by omega), if_neg (by omega), if_pos h] at hc; exact (of_decide_eq_true hc).symm
  simp only [bareP, txS, nodeT]
  by_cases e1 : op = 1
  · simp [e1, textPs, textP]
  rw [if_neg e1, if_neg e1]
  by_cases e2 : op = 2
  · simp [e2, textPs, textP]
  rw [if_neg e2, if_neg e2]
  by_cases e3 : op = 3
  · simp [e3, textPs, textP]
  rw [if_neg e3, if_neg e3]
  by_cases e4 : op = 4
  · simp [e4, textPs, textP]
  rw [if_neg e4, if_neg e4]
  by_cases e5 : op = 5
  · rw [if_pos e5, if_pos e5, kid_get (by omega)]; simp [textPs, textP]
  rw [if_neg e5, if_neg e5]
  by_cases e6 : op = 6
  · rw [if_pos e6, if_pos e6, kid_get (by omega)]; simp [textPs, textP]
  rw [if_neg e6, if_neg e6]
  by_cases e21 : op = 21
  · have := hk.2.2 e21
    rw [if_pos e21, if_pos e21, kid_get (by omega), kid_get (by omega), kid_get (by omega)]; simp [textPs, textP]
  rw [if_neg e21, if_neg e21]
  by_cases e22 : op = 22
  · have := hk.2.1 (by omega)
    rw [if_pos e22, if_pos e22, kid_get (by omega), kid_get (by omega)]; simp [textPs, textP]
  rw [if_neg e22, if_neg e22]
  by_cases e23 : op = 23
  · have := hk.2.1 (by omega)
    rw [if_pos e23, if_pos e23, kid_get (by omega), kid_get (by omega)]; simp [textPs, textP]
  rw [if_neg e23, if_neg e23]
  by_cases e24 : op = 24
  · rw [if_pos e24, if_pos e24]
    have := args_text ks
    simp only [textPs] at this
    by_cases hm : md = []
    · simp [hm, textPs, textP, this]
    · simp [hm, textPs, textP, this]
  rw [if_neg e24, if_neg e24]
  have := hk.2.1 (by omega)
  rw [kid_get (by omega), kid_get (by omega)]; simp [textPs, textP]
theorem open_text {x : Sx} (least : Nat) (h1 : 1 ≤ x.op) (h2 : x.op ≤ 24) (hc : countB x.op x.ks.length = true) : textPs (openP x least) = wrapS x least := by
  cases x with
  | mk op nm md nu ys ks ps =>
    simp only [Sx.op, Sx.ks] at h1 h2 hc
    have h := bare_text (nm := nm) (md := md) (nu := nu) (ys := ys) (ps := ps) h1 h2 hc
    show textPs (if levS op < least then Pc.bs [40] :: bareP (.mk op nm md nu ys ks ps) ++ [.bs [41]] else bareP (.mk op nm md nu ys ks ps)) = if levS op < least then [40] ++ txS (.mk op nm md nu ys ks ps) ++ [41] else txS (.mk op nm md nu ys ks ps)
    by_cases hl : levS op < least
    · rw [if_pos hl, if_pos hl]; simp only [textPs] at h; simp [textPs, textP, h]
    · rw [if_neg hl, if_neg hl]; exact h
mutual
/-- How many turns an expression takes at most, till its text is written. -/
def wgS : Sx → Nat
  | .mk _ _ _ _ _ ks _ => 6 + wgSs ks
def wgSs : List Sx → Nat
  | [] => 0
  | x :: l => 2 + wgS x + wgSs l
end
def wgP : Pc → Nat
  | .bs _ => 1
  | .ex x _ => wgS x
def wgPs (l : List Pc) : Nat := (l.map wgP).sum
theorem wgPs_append (a b : List Pc) : wgPs (a ++ b) = wgPs a + wgPs b := by simp [wgPs, List.map_append, List.sum_append]
theorem wgPs_cons (a : Pc) (b : List Pc) : wgPs (a :: b) = wgP a + wgPs b := by simp [wgPs]
theorem args_wg : ∀ l : List Sx, wgPs (argsP l) ≤ wgSs l
  | [] => by simp [argsP, wgPs, wgSs]
  | [x] => by simp [argsP, wgPs, wgSs, wgP]
  | x :: y :: l => by
    have := args_wg (y :: l)
    simp only [argsP, wgPs_cons, wgP, wgSs] at this ⊢; omega
theorem get_wg : ∀ {ks : List Sx} {n : Nat}, ks.length = n → (n = 1 → wgSs ks = 2 + wgS (ks.getD 0 nilS)) ∧ (n = 2 → wgSs ks = 4 + wgS (ks.getD 0 nilS) + wgS (ks.getD 1 nilS)) ∧ (n = 3 → wgSs ks = 6 + wgS (ks.getD 0 nilS) + wgS (ks.getD 1 nilS) + wgS (ks.getD 2 nilS))
  | [], n, h => by simp at h; subst h; simp
  | [x], n, h => by simp at h; subst h; simp [wgSs]
  | [x, y], n, h => by simp at h; subst h; simp [wgSs]; omega
  | [x, y, z], n, h => by simp at h; subst h; simp [wgSs]; omega
  | x :: y :: z :: u :: l, n, h => by simp at h; omega
theorem bare_wg {op : Int} {nm md : List UInt8} {nu : Int} {ys : Bool} {ks : List Sx} {ps : Int} (h1 : 1 ≤ op) (h2 : op ≤ 24) (hc : countB op ks.length = true) :
    wgPs (bareP (.mk op nm md nu ys ks ps)) + 2 < wgS (.mk op nm md nu ys ks ps) := by
  have hk : (5 ≤ op ∧ op ≤ 6 → ks.length = 1) ∧ (7 ≤ op ∧ op ≤ 20 ∨ op = 22 ∨ op = 23 → ks.length = 2) ∧ (op = 21 → ks.length = 3) := by
    unfold countB at hc
    refine ⟨fun h => ?_, fun h => ?_, fun h => ?_⟩
    · rw [if_neg (by omega), if_pos (by omega)] at hc; exact of_decide_eq_true hc
    · rw [if_neg (by omega), if_neg (by omega), if_pos (by omega)] at hc; exact of_decide_eq_true hc
    · rw [if_neg (by omega), if_neg (by omega), if_neg (by omega), if_pos h] at hc; exact of_decide_eq_true hc
  obtain ⟨g1, g2, g3⟩ := get_wg (ks := ks) rfl
  simp only [bareP, wgS]
  by_cases e1 : op = 1
  · rw [if_pos e1]; simp only [wgPs, List.map, wgP, List.sum_cons, List.sum_nil]; omega
  rw [if_neg e1]
  by_cases e2 : op = 2
  · rw [if_pos e2]; simp only [wgPs, List.map, wgP, List.sum_cons, List.sum_nil]; omega
  rw [if_neg e2]
  by_cases e3 : op = 3
  · rw [if_pos e3]; simp only [wgPs, List.map, wgP, List.sum_cons, List.sum_nil]; omega
  rw [if_neg e3]
  by_cases e4 : op = 4
  · rw [if_pos e4]; simp only [wgPs, List.map, wgP, List.sum_cons, List.sum_nil]; omega
  rw [if_neg e4]
  by_cases e5 : op = 5
  · rw [if_pos e5]; have := g1 (hk.1 (by omega)); simp only [wgPs, List.map, wgP, List.sum_cons, List.sum_nil]; omega
  rw [if_neg e5]
  by_cases e6 : op = 6
  · rw [if_pos e6]; have := g1 (hk.1 (by omega)); simp only [wgPs, List.map, wgP, List.sum_cons, List.sum_nil]; omega
  rw [if_neg e6]
  by_cases e21 : op = 21
  · rw [if_pos e21]; have := g3 (hk.2.2 e21); simp only [wgPs, List.map, wgP, List.sum_cons, List.sum_nil]; omega
  rw [if_neg e21]
  by_cases e22 : op = 22
  · rw [if_pos e22]; have := g2 (hk.2.1 (by omega)); simp only [wgPs, List.map, wgP, List.sum_cons, List.sum_nil]; omega
  rw [if_neg e22]
  by_cases e23 : op = 23
  · rw [if_pos e23]; have := g2 (hk.2.1 (by omega)); simp only [wgPs, List.map, wgP, List.sum_cons, List.sum_nil]; omega
  rw [if_neg e23]
  by_cases e24 : op = 24
  · rw [if_pos e24]
    have := args_wg ks
    by_cases hm : md = []
    · rw [if_pos hm]; simp only [wgPs_append, wgPs_cons, wgP, List.nil_append]; simp only [wgPs, List.map_nil, List.sum_nil] at *; omega
    · rw [if_neg hm]; simp only [wgPs_append, wgPs_cons, wgP]; simp only [wgPs, List.map_nil, List.sum_nil] at *; omega
  rw [if_neg e24]
  have := g2 (hk.2.1 (by omega))
  simp only [wgPs, List.map, wgP, List.sum_cons, List.sum_nil]; omega
theorem open_wg {x : Sx} (least : Nat) (h1 : 1 ≤ x.op) (h2 : x.op ≤ 24) (hc : countB x.op x.ks.length = true) : wgPs (openP x least) < wgS x := by
  cases x with
  | mk op nm md nu ys ks ps =>
    simp only [Sx.op, Sx.ks] at h1 h2 hc
    have h := bare_wg (nm := nm) (md := md) (nu := nu) (ys := ys) (ps := ps) h1 h2 hc
    show wgPs (if levS op < least then Pc.bs [40] :: bareP (.mk op nm md nu ys ks ps) ++ [.bs [41]] else bareP (.mk op nm md nu ys ks ps)) < _
    by_cases hl : levS op < least
    · rw [if_pos hl]; simp only [List.cons_append, wgPs_cons, wgPs_append, wgP] at *; simp only [wgPs, List.map_nil, List.sum_nil] at *; omega
    · rw [if_neg hl]; omega

def FarK (N : List Nd) (K : Kf) (A : Nat → Prop) : Prop := ∀ (i : Nat) (x : Nd), N[i]? = some x → x.kids ≠ [] → ∀ a, (K i).1 = some a → A a.block
def FarV (w : World) (b : Nat) (l : List Tok) (u : Nat) (N : List Nd) (vn : Value) (A : Nat → Prop) : Prop := ∃ pt ct K, Bld w b pt ct l u vn N K ∧ FarK N K A
theorem FarV.bld {w : World} {b : Nat} {l : List Tok} {u : Nat} {N : List Nd} {vn : Value} {A : Nat → Prop} (h : FarV w b l u N vn A) : BldV w b l u N vn := by
  obtain ⟨pt, ct, K, h, -⟩ := h
  exact ⟨pt, ct, K, h⟩
theorem FarV.kept {w w' : World} {b : Nat} {l : List Tok} {u : Nat} {N : List Nd} {vn : Value} {A : Nat → Prop} (h : FarV w b l u N vn A) (hg : w.grownBy w' none) : FarV w' b l u N vn A := by
  obtain ⟨pt, ct, K, h, hf⟩ := h
  exact ⟨pt, ct, K, h.kept hg, hf⟩
/-- Beside turns of blocks that are far from it; the blocks to be far from may then be others. -/
theorem FarV.keptF {S : Nat → Prop} {w w' : World} {b : Nat} {l : List Tok} {u : Nat} {N : List Nd} {vn : Value} {A A' : Nat → Prop} (h : FarV w b l u N vn A) (hf : Fr2 S w w') (hS : ∀ k, k ≤ b → ¬ S k) (hv : ∀ k, vn.ownBlock = some k → ¬ S k) (hA : ∀ k, A k → ¬ S k) (hA' : ∀ k, k < w.heap.size → A k → A' k) : FarV w' b l u N vn A' := by
  obtain ⟨pt, ct, K, h, hk⟩ := h
  exact ⟨pt, ct, K, h.keptF hf hS hv fun i x hx hn a ha => hA _ (hk i x hx hn a ha), fun i x hx hn a ha => hA' _ (h.khi i x hx hn a ha).2.1 (hk i x hx hn a ha)⟩

def AddFar (w : World) (b : Nat) (l : List Tok) (u : Nat) (N : List Nd) (x : Nd) (vn : Value) (A : Nat → Prop) (e : Ending) (w' : World) : Prop :=
  e = .returned (.int .i64 (N.length : Int)) ∧ ∃ vn', FarV w' b l u (N ++ [x]) vn' A ∧ Fr2 (Turn b vn) w w' ∧ ∀ k, vn'.ownBlock = some k → vn.ownBlock = some k ∨ w.heap.size ≤ k

theorem AddFar.after {w w1 : World} {b : Nat} {l : List Tok} {u : Nat} {N : List Nd} {x : Nd} {vn : Value} {A : Nat → Prop} {e : Ending} {w' : World} (h : AddFar w1 b l u N x vn A e w') (hf : Fr2 (Turn b vn) w w1) : AddFar w b l u N x vn A e w' := by
  obtain ⟨he, vn', h1, h2, h3⟩ := h
  exact ⟨he, vn', h1, hf.trans h2, fun k hk => (h3 k hk).imp id fun h => Nat.le_trans hf.size h⟩

/-- A node more. -/
theorem Bld.addF {A : Nat → Prop} {w w5 : World} {b : Nat} {pt : Option Addr} {ct : Nat} {l : List Tok} {u u' : Nat} {vn : Value} {N : List Nd} {K : Kf} (h : Bld w b pt ct l u vn N K) (hf : Fr2 (Turn b vn) w w5) {g9 n9 cap9 : Nat} (hbox : w5.heap[b]? = some (.cells #[.slice pt l.length ct, .int .i64 (u' : Int), .slice (some ⟨g9, 0, none⟩) n9 cap9] 139 (0, 0)))
    {x : Nd} {p : Option Addr} {c : Nat} (hown : OwnG 3 110 w5 (b + 1) (.slice (some ⟨g9, 0, none⟩) n9 cap9) (ndsV K N ++ [[.int .i64 x.kind, .int .i64 x.tok, .slice p x.kids.length c]])) (hk : VAt w p (intsV x.kids)) (hkb : x.kids ≠ [] → ∀ a, p = some a → b < a.block ∧ vn.ownBlock ≠ some a.block)
    (hl9 : vn.ownBlock = some g9 ∨ w.heap.size ≤ g9) (hFK : FarK N K A) (hpA : x.kids ≠ [] → ∀ a, p = some a → A a.block) : FarV w5 b l u' (N ++ [x]) (.slice (some ⟨g9, 0, none⟩) n9 cap9) A := by
  obtain ⟨K', hK1, hK2⟩ := kf_snoc K N.length p c
  have hkn : ∀ (i : Nat) (y : Nd), (N ++ [x])[i]? = some y → (i < N.length ∧ N[i]? = some y ∧ K' i = K i) ∨ (i = N.length ∧ y = x ∧ K' i = (p, c)) := fun i y hy => by
    by_cases hi : i < N.length
    · rw [List.getElem?_append_left hi] at hy; exact .inl ⟨hi, hy, hK2 i (by omega)⟩
    · have h1 := (List.getElem?_eq_some_iff.1 hy).1
      rw [List.length_append, List.length_singleton] at h1
      obtain rfl : i = N.length := by omega
      rw [List.getElem?_append_right (Nat.le_refl _)] at hy
      simp at hy
      exact .inr ⟨rfl, hy.symm, hK1⟩
  refine ⟨pt, ct, K', ⟨hbox, h.cap, h.toks.keptF hf (fun h0 a ha => ?_), h.tlow, by rw [ndsV_snoc hK1 hK2]; exact hown, fun i y hy => ?_, fun i y hy hn a ha => ?_⟩, fun i y hy hn a ha => ?_⟩
  · have h1 := h.tlow h0 a ha
    rintro (e | e)
    · omega
    · have := (h.turn _ e).1; omega
  · rcases hkn i y hy with ⟨-, hy, e⟩ | ⟨-, rfl, e⟩
    · rw [e]
      refine (h.kids i y hy).keptF hf fun h0 a ha => ?_
      obtain ⟨h1, h2, h3⟩ := h.khi i y hy (intsV_ne h0) a ha
      rintro (e | e)
      · omega
      · exact h3 e
    · rw [e]
      refine hk.keptF hf fun h0 a ha => ?_
      obtain ⟨h1, h3⟩ := hkb (intsV_ne h0) a ha
      rintro (e | e)
      · omega
      · exact h3 e
  · have hx9 : ∀ k, (Value.slice (some ⟨g9, 0, none⟩) n9 cap9).ownBlock = some k → g9 = k := fun k e => by simpa [Value.ownBlock] using e
    rcases hkn i y hy with ⟨-, hy, e⟩ | ⟨-, rfl, e⟩
    · rw [e] at ha
      obtain ⟨h1, h2, h3⟩ := h.khi i y hy hn a ha
      refine ⟨h1, Nat.lt_of_lt_of_le h2 hf.size, fun e9 => ?_⟩
      have := hx9 _ e9
      subst this
      rcases hl9 with h | h
      · exact h3 h
      · omega
    · rw [e] at ha
      obtain ⟨h1, h3⟩ := hkb hn a ha
      have h2 := hk.lt (ne_intsV hn) a ha
      refine ⟨h1, Nat.lt_of_lt_of_le h2 hf.size, fun e9 => ?_⟩
      have := hx9 _ e9
      subst this
      rcases hl9 with h | h
      · exact h3 h
      · omega
  · rcases hkn i y hy with ⟨-, hy, e⟩ | ⟨-, rfl, e⟩
    · rw [e] at ha; exact hFK i y hy hn a ha
    · rw [e] at ha; exact hpA hn a ha

set_option maxRecDepth 100000 in
set_option maxHeartbeats 8000000 in
theorem add_far (A : Nat → Prop) (b : Nat) (l : List Tok) (u : Nat) (N : List Nd) (vn : Value) (x : Nd) (p : Option Addr) (c : Nat) (w : World) (hN : N.length ≤ 100000) (h : FarV w b l u N vn A) (hk : VAt w p (intsV x.kids)) (hkb : x.kids ≠ [] → ∀ a, p = some a → b < a.block ∧ vn.ownBlock ≠ some a.block) (hpA : x.kids ≠ [] → ∀ a, p = some a → A a.block) :
    Calls Tryz.prog 72 #[.pointer (some ⟨b, 0, none⟩), .agg #[.int .i64 x.kind, .int .i64 x.tok, .slice p x.kids.length c]] w (AddFar w b l u N x vn A) := by
  obtain ⟨pt, ct, K, h, hFK⟩ := h
  have HFK := Lib.hid hFK; have HPA := Lib.hid hpA; have H := Lib.hid h; have HK := Lib.hid hk; have HKB := Lib.hid hkb
  obtain ⟨pv, cv, e1, -, hcv, -⟩ := h.own.is
  rw [nds_len] at e1 hcv
  subst e1
  obtain ⟨B, hB⟩ : ∃ B, w.heap.size = B := ⟨_, rfl⟩
  have HBW := Lib.hid hB
  have hbB : b < B := by rw [← hB]; exact hlt' h.box
  have HOWN := Lib.hid h.own
  have HLE : Hid ((ndsV K N).length ≤ 1000000) := Lib.hid (by rw [nds_len]; omega)
  have HNL : Hid ((ndsV K N).length = N.length) := Lib.hid (nds_len K N)
  obtain ⟨m, hm⟩ : ∃ m, l.length = m := ⟨_, rfl⟩
  obtain ⟨M, hM⟩ : ∃ M, N.length = M := ⟨_, rfl⟩
  have HML := Lib.hid hM
  have HLL := Lib.hid hm
  obtain ⟨kl, hkl⟩ : ∃ kl, x.kids.length = kl := ⟨_, rfl⟩
  have HKL := Lib.hid hkl
  rw [hM] at HOWN
  obtain ⟨xk, hxk⟩ : ∃ xk, x.kind = xk := ⟨_, rfl⟩
  obtain ⟨xt, hxt⟩ : ∃ xt, x.tok = xt := ⟨_, rfl⟩
  have HXK := Lib.hid hxk; have HXT := Lib.hid hxt
  have hbox := h.box
  rw [hm, hM] at hbox
  rw [hxk, hxt, hkl]
  have hA := heap_alloc_new w (.cells #[.int .i64 xk, .int .i64 xt, .slice p kl c] 110)
  have hgA := World.grownBy_alloc w (.cells #[.int .i64 xk, .int .i64 xt, .slice p kl c] 110) none
  have hsA : (w.alloc (.cells #[.int .i64 xk, .int .i64 xt, .slice p kl c] 110)).heap.size = B + 1 := by simp [hB]
  obtain ⟨d0, d1, d2, d3⟩ := cells3' (bx hgA hbox)
  have HBX := Lib.hid hbox
  rw [hB] at hA
  obtain ⟨a0, a1, a2, a3⟩ := cells3' hA
  clear hFK hpA hbox hm hM hkl hxk hxt h hk hkb hcv
  go_enter Tryz.func72, Tryz.ntmps72
  go_wp2_with fail
  try rw [hB]
  generalize (w.alloc (.cells #[.int .i64 xk, .int .i64 xt, .slice p kl c] 110)) = W at *
  have HOW := Lib.hid (OwnG.kept HOWN.out hgA)
  have HGA := Lib.hid hgA
  have hnew := heap_alloc_new W (.cells #[.int .i64 xk, .int .i64 xt, .slice p kl c] 110)
  rw [hsA] at hnew
  have HNEW := Lib.hid hnew
  have HBX2 := Lib.hid (bx (World.grownBy_alloc W (.cells #[.int .i64 xk, .int .i64 xt, .slice p kl c] 110) none) (bx hgA HBX.out))
  have hoa : ∀ k, (Value.slice pv M cv).ownBlock = some k → b + 1 ≤ k ∧ k < B + 1 := fun k e => by
    obtain ⟨h1, h2⟩ := OwnG.at HOW.out k e
    omega
  have HOA := Lib.hid hoa
  clear hA hgA hB hnew hoa
  go_region_law (refine step_appGl (s := 3) (t := 40) (T := 110) (by decide) Tryz.underlying40 infoTN rfl (by omega) rfl _ _ rfl (b + 1) (ndsV K N) [.int .i64 xk, .int .i64 xt, .slice p kl c] rfl (fun u hu => by simp at hu; rcases hu with rfl | rfl | rfl <;> rfl) (.slice pv M cv) rfl (OwnG.kept HOW.out (by repeat (first | with_reducible exact gb_refl _ _ | with_reducible refine gb_drew ?_ | with_reducible refine gb_alloc ?_ _))) (B + 1) _ rfl (by exact HNEW.out) rfl HLE.out (by simp; omega) (B + 2) (by simp; omega) ?_; intro g9 cap9 w9 hO9 hg9 hl9; have hb9 := (hg9.block b (by simp; omega) (fun e => by have := (HOA.out b e.symm).1; omega)).trans HBX2.out; obtain ⟨f0, f1, f2, f3⟩ := cells3' hb9; have HB9 := Lib.hid hb9; have HO9 := Lib.hid hO9; have HG9 := Lib.hid hg9; have HL9 := Lib.hid hl9; clear hO9 hg9 hl9 hb9)
  all_goals
    rw [HNL.out, HML.out] at HO9 ⊢
    have HF9 : Hid (Fr2 (Turn b (.slice pv M cv)) w w9) := Lib.hid (Fr2.trans (b := (W.alloc (.cells #[.int .i64 xk, .int .i64 xt, .slice p kl c] 110)).drew) (Fr2.none (gb_trans HGA.out (gb_drew (gb_alloc (gb_refl _ _) _)))) (Fr2.of (S := Turn b (.slice pv M cv)) HG9.out (fun k e => Or.inr e)))
    have HF10 := Lib.hid (HF9.out.setCell (g := b) (j := 2) (.inl rfl) (.slice (some ⟨g9, 0, none⟩) (M + 1) cap9))
    have HB10 := Lib.hid (show (w9.setCell ⟨b, 2, none⟩ (.slice (some ⟨g9, 0, none⟩) (M + 1) cap9)).heap[b]? = some (.cells #[.slice pt m ct, .int .i64 (u : Int), .slice (some ⟨g9, 0, none⟩) (M + 1) cap9] 139 (0, 0)) from set_cells (i := 2) HB9.out)
    have HO10 := Lib.hid (OwnG.keptF HO9.out (Fr2.setCell (S := fun k => k = b) (Fr2.refl _ w9) (g := b) (j := 2) rfl (.slice (some ⟨g9, 0, none⟩) (M + 1) cap9)) (fun k e => by have := (OwnG.at HO9.out k e).1; omega))
    obtain ⟨W5, hW5⟩ : ∃ W5, (w9.setCell ⟨b, 2, none⟩ (.slice (some ⟨g9, 0, none⟩) (M + 1) cap9)) = W5 := ⟨_, rfl⟩
    rw [hW5] at HF10 HB10 HO10 ⊢
    clear HF9 HB9 HO9 hW5 d0 d1 d2 d3 f0 f1 f2 f3 a0 a1 a2 a3 HG9
    obtain ⟨f0, f1, f2, f3⟩ := cells3' HB10.out
    have hw1 : IntKind.i64.wrap (M : Int) = (M : Int) := IntWalk.i64_in _ (by have := HML.out; omega)
    have hw2 : IntKind.i64.wrap (((M + 1 : Nat) : Int) - 1) = (M : Int) := by rw [show (((M + 1 : Nat) : Int) - 1) = (M : Int) by omega]; exact hw1
    go_wp2_with fail
    go_ret
    refine ⟨by rw [HML.out]; rfl, _, Bld.addF H.out (by rw [HML.out]; exact HF10.out) (by rw [HLL.out]; exact HB10.out) (by rw [HXK.out, HXT.out, HKL.out]; exact HO10.out) HK.out HKB.out (by rw [HML.out, HBW.out]; exact HL9.out.imp id (fun h => by omega)) HFK.out HPA.out, by rw [HML.out]; exact HF10.out, fun k e => ?_⟩
    have h1 : g9 = k := by simpa [Value.ownBlock] using e
    subst h1
    rw [HML.out, HBW.out]
    exact HL9.out.imp id (fun h => by omega)
set_option maxRecDepth 100000 in
set_option maxHeartbeats 8000000 in
theorem Leaf_far (A : Nat → Prop) (b : Nat) (l : List Tok) (u : Nat) (N : List Nd) (vn : Value) (w : World) (hl : l.length ≤ 100000) (hu : u < l.length) (hN : N.length ≤ 100000) (h : FarV w b l u N vn A) :
    Calls Tryz.prog 110 #[.pointer (some ⟨b, 0, none⟩)] w (AddFar w b l (u + 1) N ⟨19, (u : Int), []⟩ vn A) := by
  obtain ⟨pt, ct, K, h, hFK⟩ := h
  have hbox := h.box
  have HADD := Lib.hid (fun W (h : FarV W b l (u + 1) N vn A) => add_far A b l (u + 1) N vn ⟨19, (u : Int), []⟩ none 0 W hN h (.inl rfl) (fun h => absurd rfl h) (fun h => absurd rfl h))
  obtain ⟨pv, cv, e1, -, -, -⟩ := h.own.is
  have HH := Lib.hid h
  obtain ⟨m, hm⟩ : ∃ m, l.length = m := ⟨_, rfl⟩
  rw [hm] at hbox hu hl
  have HP : Hid (∀ W e w', Fr2 (Turn b vn) w W → AddFar W b l (u + 1) N ⟨19, (u : Int), []⟩ vn A e w' → AddFar w b l (u + 1) N ⟨19, (u : Int), []⟩ vn A e w') := Lib.hid (fun _ _ _ h1 h2 => h2.after h1)
  have HF : Hid (∀ W, w.grownBy W none → Fr2 (Turn b vn) w (W.setCell ⟨b, 1, none⟩ (.int .i64 ((u + 1 : Nat) : Int))) ∧ FarV (W.setCell ⟨b, 1, none⟩ (.int .i64 ((u + 1 : Nat) : Int))) b l (u + 1) N vn A) := Lib.hid (fun W hg => ⟨(Fr2.none hg).setCell (g := b) (j := 1) (.inl rfl) _, pt, ct, K, (HH.out.kept hg).setUsed (u + 1), hFK⟩)
  obtain ⟨d0, d1, d2, d3⟩ := cells3' hbox
  have e1 : ((u : Int) == (m : Int)) = false := beq_eq_false_iff_ne.2 (by omega)
  have e2 : (u == m) = false := beq_eq_false_iff_ne.2 (by omega)
  have hw1 : IntKind.i64.wrap ((u : Int) + 1) = ((u + 1 : Nat) : Int) := by rw [IntWalk.i64_in _ (by omega)]; omega
  have hw2 : IntKind.i64.wrap (((u + 1 : Nat) : Int) - 1) = (u : Int) := by rw [IntWalk.i64_in _ (by omega)]; omega
  generalize AddFar w b l (u + 1) N ⟨19, (u : Int), []⟩ vn A = Q at HP
  obtain ⟨u1, hu1⟩ : ∃ u1, u + 1 = u1 := ⟨_, rfl⟩
  rw [hu1] at hw1 hw2 HF HADD HP
  clear hbox hm h hu1
  go_enter Tryz.func110, Tryz.ntmps110
  go_wp2_with fail
  go_quiet (fail)
  go_wp2_with fail
  obtain ⟨hf1, hb1⟩ := HF.out (w.drewN nq) (gb_drewN (gb_refl _ _) _)
  refine (HADD.out _ hb1).mono ?_
  rintro e w' hp
  have HP1 := Lib.hid (HP.out _ _ _ hf1 hp)
  obtain rfl := hp.1
  clear hp hf1 hb1 HP HF HADD
  go_wp2_with fail
  exact HP1.out

set_option maxRecDepth 100000 in
set_option maxHeartbeats 8000000 in
theorem Node_far (A : Nat → Prop) (b : Nat) (l : List Tok) (u : Nat) (N : List Nd) (vn : Value) (kind : Int) (kids : List Int) (q : Option Addr) (c : Nat) (w : World) (hN : N.length ≤ 100000) (hk : kids.length ≤ 100000) (h : FarV w b l u N vn A) (hA : ∀ k, w.heap.size ≤ k → A k) (hq : VAt w q (intsV kids)) (hok : okB N.length kids = true) :
    Calls Tryz.prog 42 #[.pointer (some ⟨b, 0, none⟩), .int .i64 kind, .slice q kids.length c] w (AddFar w b l u N ⟨kind, -1, kids⟩ vn A) := by
  obtain ⟨pt, ct, K, h, hFK⟩ := h
  have hbox := h.box
  have HH := Lib.hid h
  have HFK := Lib.hid hFK; have HFA := Lib.hid hA
  have HADD := Lib.hid (fun W p' c' (h : FarV W b l u N vn A) h1 h2 h3 => add_far A b l u N vn ⟨kind, -1, kids⟩ p' c' W hN h h1 h2 h3)
  have HE := Lib.hid (eachBelow_c N.length kids q c w (by omega) (by omega) hq)
  rw [hok] at HE
  have HON := Lib.hid (fun W h => ownNode_c kind (-1) kids q c W hk h)
  have HQ := Lib.hid hq
  have HTN := Lib.hid h.turn
  have hbl := hlt' h.box
  have HBL := Lib.hid hbl
  have HP : Hid (∀ W e w', Fr2 (Turn b vn) w W → AddFar W b l u N ⟨kind, -1, kids⟩ vn A e w' → AddFar w b l u N ⟨kind, -1, kids⟩ vn A e w') := Lib.hid (fun _ _ _ h1 h2 => h2.after h1)
  obtain ⟨pv, cv, e1, -, -, -⟩ := h.own.is
  rw [nds_len] at e1
  obtain ⟨m, hm⟩ : ∃ m, l.length = m := ⟨_, rfl⟩
  obtain ⟨M, hM⟩ : ∃ M, N.length = M := ⟨_, rfl⟩
  obtain ⟨kl, hkl⟩ : ∃ kl, kids.length = kl := ⟨_, rfl⟩
  have HM := Lib.hid hM; have HKL := Lib.hid hkl
  rw [hM] at e1
  rw [hm, e1] at hbox
  rw [hM, hkl] at HE
  rw [hkl] at HON
  rw [hkl]
  generalize AddFar w b l u N ⟨kind, -1, kids⟩ vn A = Q at HP
  obtain ⟨d0, d1, d2, d3⟩ := cells3' hbox
  clear hFK hA hbox hm h hM hkl hok hq hk hN e1 hbl
  go_enter Tryz.func42, Tryz.ntmps42
  go_wp2_with fail
  refine HE.out.mono ?_
  rintro e w1 ⟨rfl, hg⟩
  have HG := Lib.hid hg
  clear hg HE
  go_wp2_with fail
  refine (HON.out _ (HQ.out.kept HG.out)).mono ?_
  rintro e w2 ⟨hg2, p2, c2, rfl, hv2, -, hb2⟩
  have HG2 := Lib.hid (gb_trans HG.out hg2)
  have HV2 := Lib.hid hv2
  have HB2 := Lib.hid hb2
  have hgs := HG.out.size
  have HGS := Lib.hid hgs
  rw [HKL.out]
  clear hg2 hv2 hb2 hgs HON
  go_wp2_with fail
  have HA := Lib.hid (HADD.out w2 p2 c2 ⟨pt, ct, K, HH.out.kept HG2.out, HFK.out⟩ HV2.out (fun hne a ha => by
    obtain ⟨h1, -⟩ := HB2.out hne a ha
    have h2 := HGS.out
    have h3 := HBL.out
    refine ⟨by omega, fun e => ?_⟩
    have := (HTN.out _ e).2
    omega) (fun hne a ha => HFA.out _ (by
    have h1 := (HB2.out hne a ha).1
    have h2 := HGS.out
    omega)))
  rw [HKL.out] at HA
  refine HA.out.mono ?_
  rintro e w' hp
  have HP1 := Lib.hid (HP.out _ _ _ (Fr2.none HG2.out) hp)
  obtain rfl := hp.1
  clear hp HP HADD HA
  go_wp2_with fail
  exact HP1.out
end Go.Proofs.YtddccnpohpaofaaGreatDoor
