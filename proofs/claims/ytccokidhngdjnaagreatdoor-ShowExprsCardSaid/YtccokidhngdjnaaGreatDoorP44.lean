/- Lemmas. -/
import Derived.Test.YtccokidhngdjnaaGreatDoorP4
set_option linter.unusedVariables false
set_option linter.unusedSimpArgs false
namespace Go.Proofs.YtccokidhngdjnaaGreatDoor

mutual
def kOk : Tr → Prop
  | .lf _ => True
  | .nd k l => 1 ≤ k ∧ k ≤ 18 ∧ kOks l
def kOks : List Tr → Prop
  | [] => True
  | t :: l => kOk t ∧ kOks l
end
theorem kOks_append {a b : List Tr} (h1 : kOks a) (h2 : kOks b) : kOks (a ++ b) := by
  induction a with
  | nil => exact h2
  | cons t a ih => simp only [List.cons_append, kOks] at h1 ⊢; exact ⟨h1.1, ih h1.2⟩
theorem kOks_nd {k : Nat} {l : List Tr} (h1 : 1 ≤ k) (h2 : k ≤ 18) (h : kOks l) : kOks [.nd k l] := by simp only [kOks, kOk]; exact ⟨⟨h1, h2, h⟩, trivial⟩
theorem kOks_nil : kOks [] := by simp [kOks]
abbrev KO (r : RT) : Prop := kOks r.1
section
variable (T : List Tok)
theorem leaf_ko (s : St) : KO (leafT T s) := by simp [KO, leafT, kOks, kOk]
theorem must_ko (w : List UInt8) (s : St) : KO (mustT T w s) := by unfold mustT; split; exact leaf_ko T s; exact kOks_nil
theorem kind_ko (k : Nat) (s : St) : KO (kindT T k s) := by unfold kindT; split; exact leaf_ko T s; exact kOks_nil
theorem row_ko {c : St → Bool} {sub : St → RT} (hs : ∀ s, KO (sub s)) : ∀ f r, KO r → KO (rwT T c sub f r)
  | 0, r, h => h
  | f + 1, r, h => by
    unfold rwT
    split
    · exact row_ko hs f _ (kOks_nd (by decide) (by decide) (kOks_append (kOks_append h (leaf_ko T _)) (hs _)))
    · exact h
theorem parts_ko {sub : St → RT} (hs : ∀ s, KO (sub s)) : ∀ f k r, KO r → KO (partsT T sub f k r)
  | 0, k, r, h => h
  | f + 1, k, r, h => by
    unfold partsT
    split
    · exact parts_ko hs f _ _ (kOks_append (kOks_append h (leaf_ko T _)) (hs _))
    · exact h
structure NxO (nt : NxT) : Prop where
  expr : ∀ s, KO (nt.expr s)
  formula : ∀ s, KO (nt.formula s)
  nots : ∀ s, KO (nt.nots s)
  factor : ∀ s, KO (nt.factor s)
end
section
variable (T : List Tok) (D n : Nat) {nt : NxT} (h : NxO nt)
include h
theorem args_ko (s : St) : KO (argsT T nt s) := parts_ko T h.expr _ _ _ (h.expr s)
omit h in
theorem nameB_ko {a : RT} (ha : KO a) : KO (nameBT T a) := by
  unfold nameBT; split
  · exact kOks_append (kOks_append ha (leaf_ko T _)) (kind_ko T _ _)
  · exact ha
omit h in
theorem nameC_ko {a : RT} (ha : KO a) : KO (nameCT T a) := kOks_append ha (must_ko T _ _)
theorem nameD_ko {a : RT} (ha : KO a) : KO (nameDT T nt a) := by
  unfold nameDT; split
  · exact ha
  · exact kOks_append ha (args_ko T h _)
omit h in
theorem nameE_ko {a : RT} (ha : KO a) : KO (nameET T a) := kOks_nd (by decide) (by decide) (kOks_append ha (must_ko T _ _))
theorem name_ko (s : St) : KO (nameT T nt s) := by
  unfold nameT; split
  · exact kOks_nd (by decide) (by decide) (leaf_ko T _)
  · exact nameE_ko T (nameD_ko T h (nameC_ko T (nameB_ko T (leaf_ko T _))))
theorem atom_ko (s : St) : KO (atomT T nt s) := by
  unfold atomT
  split
  · exact kOks_nil
  split
  · exact kOks_nd (by decide) (by decide) (leaf_ko T _)
  split
  · exact kOks_nd (by decide) (by decide) (leaf_ko T _)
  split
  · exact kOks_nd (by decide) (by decide) (leaf_ko T _)
  split
  · exact kOks_nd (by decide) (by decide) (kOks_append (kOks_append (leaf_ko T _) (h.expr _)) (must_ko T _ _))
  split
  · exact name_ko T h s
  · exact kOks_nil
omit h in
theorem sign_ko {sub : St → RT} (hs : ∀ s, KO (sub s)) (s : St) : KO (signT T D n sub s) := by
  unfold signT
  simp only []
  split
  · exact kOks_nil
  · exact kOks_nd (by decide) (by decide) (kOks_append (leaf_ko T _) (hs _))
theorem factor_ko (s : St) : KO (factorT T D n nt s) := by
  unfold factorT; split
  · exact sign_ko T D n h.factor s
  · exact atom_ko T h s
theorem product_ko (s : St) : KO (productT T D n nt s) := row_ko T (factor_ko T D n h) _ _ (factor_ko T D n h s)
theorem sum_ko (s : St) : KO (sumT T D n nt s) := row_ko T (product_ko T D n h) _ _ (product_ko T D n h s)
theorem not_ko (s : St) : KO (notT T D n nt s) := by
  unfold notT
  simp only []
  split
  · exact sign_ko T D n h.nots s
  split
  · exact kOks_nd (by decide) (by decide) (kOks_append (kOks_append (sum_ko T D n h s) (leaf_ko T _)) (sum_ko T D n h _))
  · exact sum_ko T D n h s
theorem and_ko (s : St) : KO (andT T D n nt s) := row_ko T (not_ko T D n h) _ _ (not_ko T D n h s)
theorem or_ko (s : St) : KO (orT T D n nt s) := row_ko T (and_ko T D n h) _ _ (and_ko T D n h s)
theorem formula_ko (s : St) : KO (formulaT T D n nt s) := by
  unfold formulaT
  simp only []
  split
  · split
    · exact kOks_nil
    · exact kOks_nd (by decide) (by decide) (kOks_append (kOks_append (or_ko T D n h s) (leaf_ko T _)) (h.formula _))
  · exact or_ko T D n h s
theorem let_ko (s : St) : KO (letT T nt s) :=
  kOks_nd (by decide) (by decide) (kOks_append (kOks_append (kOks_append (kOks_append (kOks_append (leaf_ko T _) (kind_ko T _ _)) (must_ko T _ _)) (h.expr _)) (must_ko T _ _)) (h.expr _))
theorem if_ko (s : St) : KO (ifT T nt s) :=
  kOks_nd (by decide) (by decide) (kOks_append (kOks_append (kOks_append (kOks_append (kOks_append (leaf_ko T _) (h.expr _)) (must_ko T _ _)) (h.expr _)) (must_ko T _ _)) (h.expr _))
theorem assert_ko (s : St) : KO (assertT T nt s) :=
  kOks_nd (by decide) (by decide) (kOks_append (kOks_append (kOks_append (leaf_ko T _) (h.expr _)) (must_ko T _ _)) (h.expr _))
theorem expr_ko (s : St) : KO (exprT T D n nt s) := by
  unfold exprT
  simp only []
  split
  · exact kOks_nil
  split
  · exact let_ko T h _
  split
  · exact if_ko T h _
  split
  · exact assert_ko T h _
  · exact formula_ko T D n h _
end
theorem nx_ko (T : List Tok) (D : Nat) : ∀ d, NxO (nxT T D d)
  | 0 => ⟨fun s => kOks_nil, fun s => kOks_nil, fun s => kOks_nil, fun s => kOks_nil⟩
  | d + 1 => ⟨expr_ko T D _ (nx_ko T D d), formula_ko T D _ (nx_ko T D d), not_ko T D _ (nx_ko T D d), factor_ko T D _ (nx_ko T D d)⟩
section
variable (T : List Tok) {et : St → RT} (h : ∀ s, KO (et s))
include h
omit h in
theorem typB_ko {a : RT} (ha : KO a) : KO (typBT T a) := by
  unfold typBT; split
  · exact kOks_append ha (kOks_nd (by decide) (by decide) (leaf_ko T _))
  · exact ha
theorem typC_ko {a : RT} (ha : KO a) : KO (typCT T et a) := by
  unfold typCT; split
  · exact kOks_append ha (kOks_nd (by decide) (by decide) (kOks_append (kOks_append (leaf_ko T _) (h _)) (must_ko T _ _)))
  · exact ha
theorem typed_ko (s : St) : KO (typedT T et s) := typC_ko T h (typB_ko T (must_ko T _ s))
theorem par_ko (s : St) : KO (parT T et s) := kOks_nd (by decide) (by decide) (kOks_append (kind_ko T _ s) (typed_ko T h _))
theorem params_ko (s : St) : KO (paramsT T et s) := parts_ko T (par_ko T h) _ _ _ (par_ko T h s)
omit h in
theorem defA_ko (s : St) : KO (defAT T s) := by unfold defAT; split; exact leaf_ko T s; exact kOks_nil
omit h in
theorem defB_ko {a : RT} (ha : KO a) : KO (defBT T a) := kOks_append ha (kOks_append (kOks_append (must_ko T _ _) (kind_ko T _ _)) (must_ko T _ _))
theorem defC_ko {a : RT} (ha : KO a) : KO (defCT T et a) := by
  unfold defCT; split
  · exact kOks_append ha (params_ko T h _)
  · exact ha
theorem defD_ko {a : RT} (ha : KO a) : KO (defDT T et a) :=
  kOks_append (kOks_append (kOks_append ha (kOks_append (kOks_append (must_ko T _ _) (typed_ko T h _)) (must_ko T _ _))) (h _)) (must_ko T _ _)
theorem def_ko (s : St) : KO (defT T et s) := kOks_nd (by decide) (by decide) (defD_ko T h (defC_ko T h (defB_ko T (defA_ko T s))))
omit h in
theorem imp_ko {r : RT} (hr : KO r) : KO (impStepT T r) := kOks_append hr (kOks_nd (by decide) (by decide) (kOks_append (kOks_append (leaf_ko T _) (kind_ko T _ _)) (must_ko T _ _)))
omit h in
theorem many_ko {c : St → Bool} {step : RT → RT} {most : Nat} (hs : ∀ r, KO r → KO (step r)) : ∀ f k r, KO r → KO (manyT T c step most f k r).2
  | 0, k, r, hr => hr
  | f + 1, k, r, hr => by
    unfold manyT
    split
    · split
      · exact kOks_nil
      · exact many_ko hs f _ _ (hs r hr)
    · exact hr
theorem program_ko (s : St) : KO (programT T et s) := by
  have h1 : KO (importsT T ([], s)).2 := many_ko T (fun r hr => imp_ko T hr) _ _ _ kOks_nil
  have h2 : KO (defsT T et (importsT T ([], s)).2).2 := many_ko T (fun r hr => kOks_append hr (def_ko T h _)) _ _ _ h1
  unfold programT
  split
  · exact h1
  split
  · exact h2
  · exact kOks_append h2 (kind_ko T _ _)
theorem alone_ko (s : St) : KO (aloneT T et s) := kOks_append (h _) (kind_ko T _ _)
end
theorem tree_ko (T : List Tok) (D : Nat) (f : Bool) : KO (treeT T D f) := by
  unfold treeT
  split
  · exact alone_ko T (nx_ko T D D).expr _
  · exact program_ko T (nx_ko T D D).expr _
end Go.Proofs.YtccokidhngdjnaaGreatDoor
namespace Go.Proofs.YtccokidhngdjnaaGreatDoor

/-- An expression: its Op, its name, its module, its number's digits, its truth, its kids, its place. -/
inductive Ex where
  | mk (op : Nat) (nm md nu : List UInt8) (ys : Bool) (ks : List Ex) (ps : Nat)
def nilE : Ex := .mk 0 [] [] [] false [] 0

def tkT (T : List Tok) (i : Nat) : Tok := T[i]?.getD ⟨5, [], [], 0⟩
def signs8 : List (List UInt8) := [[43], [45], [42], [47], [37], [61], [60, 62], [60], [60, 61], [62], [62, 61], [38, 38], [124, 124], [61, 62]]
def binE (s : List UInt8) : Nat := if signs8.idxOf s < 14 then 7 + signs8.idxOf s else 0
def unE (s : List UInt8) : Nat := if s = [45] then 5 else 6

/-- An expression of its node's kind, its own tokens and its kids. -/
def nodeE (k : Nat) (o : Nat → Tok) (ks : List Ex) : Ex :=
  if k = 7 then .mk 22 (o 1).text [] [] false ks (o 0).pos
  else if k = 8 then .mk 21 [] [] [] false ks (o 0).pos
  else if k = 9 then .mk 23 [] [] [] false ks (o 0).pos
  else if k = 10 then .mk (binE (o 0).text) [] [] [] false ks (o 0).pos
  else if k = 11 then .mk (unE (o 0).text) [] [] [] false ks (o 0).pos
  else if k = 13 then (if (o 1).text = [46] then .mk 24 (o 2).text (o 0).text [] false ks (o 0).pos else .mk 24 (o 0).text [] [] false ks (o 0).pos)
  else if k = 14 then .mk 3 (o 0).text [] [] false ks (o 0).pos
  else if k = 15 then .mk 1 [] [] (o 0).text false ks (o 0).pos
  else if k = 16 then .mk 2 [] [] [] (decide ((o 0).text = [116, 114, 117, 101])) ks (o 0).pos
  else .mk 4 [] [] [] false ks (o 0).pos

/-- The tokens of the leaves of a list. -/
def ownL : List Tr → List Nat
  | [] => []
  | .lf i :: l => i :: ownL l
  | .nd _ _ :: l => ownL l
def isN : Tr → Bool
  | .lf _ => false
  | .nd _ _ => true
mutual
def axT (T : List Tok) : Tr → Ex
  | .lf _ => nilE
  | .nd k l => if k = 12 then (axTs T l).headD nilE else nodeE k (fun j => tkT T ((ownL l).getD j T.length)) (axTs T l)
/-- Of the nodes of a list alone. -/
def axTs (T : List Tok) : List Tr → List Ex
  | [] => []
  | t :: l => if isN t = true then axT T t :: axTs T l else axTs T l
end

def numOk (t : List UInt8) : Prop := 0 < t.length ∧ t.length ≤ 60 ∧ (∀ b ∈ t, isDig b = true) ∧ (1 < t.length → t.head? ≠ some 48)
inductive ShE (T : List Tok) : Nat → List Tr → Prop
  | let_ (i j k m : Nat) (t u : Tr) : isN t = true → isN u = true → ShE T 7 [.lf i, .lf j, .lf k, t, .lf m, u]
  | if_ (i j k : Nat) (t u v : Tr) : isN t = true → isN u = true → isN v = true → ShE T 8 [.lf i, t, .lf j, u, .lf k, v]
  | assert_ (i j : Nat) (t u : Tr) : isN t = true → isN u = true → ShE T 9 [.lf i, t, .lf j, u]
  | bin (i : Nat) (t u : Tr) : isN t = true → isN u = true → (tkT T i).text ∈ signs8 → ShE T 10 [t, .lf i, u]
  | una (i : Nat) (t : Tr) : isN t = true → (tkT T i).text = [45] ∨ (tkT T i).text = [110, 111, 116] → ShE T 11 [.lf i, t]
  | grp (i j : Nat) (t : Tr) : isN t = true → ShE T 12 [.lf i, t, .lf j]
  | call (i j : Nat) (l : List Tr) : (tkT T j).text ≠ [46] → ShE T 13 (.lf i :: .lf j :: l)
  | callm (i j m : Nat) (l : List Tr) : (tkT T j).text = [46] → ShE T 13 (.lf i :: .lf j :: .lf m :: l)
  | nam (i : Nat) : ShE T 14 [.lf i]
  | num (i : Nat) : numOk (tkT T i).text → ShE T 15 [.lf i]
  | tru (i : Nat) : ShE T 16 [.lf i]
  | res (i : Nat) : ShE T 17 [.lf i]
mutual
/-- A tree of the form that an expression's has. -/
def WE (T : List Tok) : Tr → Prop
  | .lf _ => True
  | .nd k l => ShE T k l ∧ WEs T l
def WEs (T : List Tok) : List Tr → Prop
  | [] => True
  | t :: l => WE T t ∧ WEs T l
end
def One (T : List Tok) (l : List Tr) : Prop := ∃ t, l = [t] ∧ isN t = true ∧ WE T t
abbrev WO (T : List Tok) (r : RT) : Prop := r.2.e = 0 → One T r.1
abbrev WL (T : List Tok) (r : RT) : Prop := r.2.e = 0 → WEs T r.1
def NumTok (T : List Tok) : Prop := ∀ t ∈ T, t.kind = 3 → numOk t.text

theorem WEs_append {T : List Tok} {a b : List Tr} (h1 : WEs T a) (h2 : WEs T b) : WEs T (a ++ b) := by
  induction a with
  | nil => exact h2
  | cons t a ih => simp only [List.cons_append, WEs] at h1 ⊢; exact ⟨h1.1, ih h1.2⟩
theorem WEs_lf {T : List Tok} {i : Nat} {l : List Tr} (h : WEs T l) : WEs T (.lf i :: l) := by simp only [WEs, WE]; exact ⟨trivial, h⟩
theorem WEs_cons {T : List Tok} {t : Tr} {l : List Tr} (h1 : WE T t) (h : WEs T l) : WEs T (t :: l) := by simp only [WEs]; exact ⟨h1, h⟩
theorem WEs_nil {T : List Tok} : WEs T [] := by simp [WEs]
theorem One.nd {T : List Tok} {k : Nat} {l : List Tr} (h1 : ShE T k l) (h2 : WEs T l) : One T [.nd k l] := ⟨_, rfl, rfl, by simp only [WE]; exact ⟨h1, h2⟩⟩
theorem alive {s : St} {r : RT} (h : Keep s r) (he : r.2.e = 0) : s.e = 0 := by
  rcases Nat.eq_zero_or_pos s.e with h0 | h0
  · exact h0
  · have := h.dead (by omega); rw [this] at he; exact he

section
variable (T : List Tok)
theorem leaf_1 (s : St) : (leafT T s).1 = [.lf s.i] := rfl
theorem must_w {w : List UInt8} {s : St} (h : (mustT T w s).2.e = 0) : (mustT T w s).1 = [.lf s.i] ∧ (tkT T s.i).text = w ∧ ((tkT T s.i).kind = 2 ∨ (tkT T s.i).kind = 4) ∧ s.e = 0 := by
  unfold mustT at h ⊢
  split
  · rename_i hk
    unfold isQ at hk
    have hk := of_decide_eq_true hk
    exact ⟨rfl, hk.2.2, hk.2.1, hk.1⟩
  · rename_i hk
    rw [if_neg hk] at h
    exact absurd h (fail_e T (by decide) s)
theorem kind_w {k : Nat} {s : St} (h : (kindT T k s).2.e = 0) : (kindT T k s).1 = [.lf s.i] ∧ (tkT T s.i).kind = k ∧ s.e = 0 := by
  unfold kindT at h ⊢
  split
  · rename_i hk; exact ⟨rfl, hk.2, hk.1⟩
  · rename_i hk
    rw [if_neg hk] at h
    exact absurd h (fail_e T (by decide) s)
theorem is_w {w : List UInt8} {s : St} (h : isQ T w s = true) : (tkT T s.i).text = w ∧ ((tkT T s.i).kind = 2 ∨ (tkT T s.i).kind = 4) ∧ s.e = 0 := by
  unfold isQ at h
  have hk := of_decide_eq_true h
  exact ⟨hk.2.2, hk.2.1, hk.1⟩
theorem row_w {c : St → Bool} {sub : St → RT} (hc : ∀ s, c s = true → s.e = 0 ∧ (tkT T s.i).text ∈ signs8) (hk : ∀ s, Keep s (sub s)) (hs : ∀ s, WO T (sub s)) : ∀ f r, WO T r → WO T (rwT T c sub f r)
  | 0, r, h => h
  | f + 1, r, h => by
    unfold rwT
    split
    · rename_i hcc
      refine row_w hc hk hs f _ fun he => ?_
      have h1 := hc _ hcc
      obtain ⟨t, ht, ht1, ht2⟩ := h h1.1
      obtain ⟨u, hu, hu1, hu2⟩ := hs _ he
      show One T [.nd 10 (r.1 ++ (leafT T r.2).1 ++ (sub (leafT T r.2).2).1)]
      rw [ht, hu, leaf_1]
      exact One.nd (ShE.bin _ t u ht1 hu1 h1.2) (WEs_cons ht2 (WEs_lf (WEs_cons hu2 WEs_nil)))
    · exact h
theorem parts_w {sub : St → RT} (hk : ∀ s, Keep s (sub s)) (hs : ∀ s, WO T (sub s)) : ∀ f k r, WL T r → WL T (partsT T sub f k r)
  | 0, k, r, h => h
  | f + 1, k, r, h => by
    unfold partsT
    split
    · rename_i hcc
      refine parts_w hk hs f _ _ fun he => ?_
      obtain ⟨u, hu, hu1, hu2⟩ := hs _ he
      show WEs T (r.1 ++ (leafT T r.2).1 ++ (sub (if k = 8 then failQ T 15 (leafT T r.2).2 else (leafT T r.2).2)).1)
      rw [hu, leaf_1]
      exact WEs_append (WEs_append (h (is_w T hcc).2.2) (WEs_lf WEs_nil)) (WEs_cons hu2 WEs_nil)
    · exact h
structure NxW (D n : Nat) (nt : NxT) : Prop where
  expr : ∀ s, WO T (nt.expr s)
  formula : n < D → ∀ s, WO T (nt.formula s)
  nots : n < D → ∀ s, WO T (nt.nots s)
  factor : n < D → ∀ s, WO T (nt.factor s)
end

section
variable (T : List Tok) (hT : NumTok T) (D n : Nat) {nt : NxT} (h : NxW T D n nt) (hk : NxK nt)
include h hk
theorem args_w (s : St) : WL T (argsT T nt s) := parts_w T hk.expr h.expr _ _ _ fun he => by
  obtain ⟨t, ht, -, h2⟩ := h.expr s he
  rw [ht]; exact WEs_cons h2 WEs_nil
theorem name_w (s : St) (hs : s.e = 0) : WO T (nameT T nt s) := by
  unfold nameT
  split
  · intro _; exact One.nd (ShE.nam s.i) (WEs_lf WEs_nil)
  · intro he
    -- the end
    have e1 : (mustT T [41] (nameDT T nt (nameCT T (nameBT T (leafT T s)))).2).2.e = 0 := he
    obtain ⟨m1, -, -, d0⟩ := must_w T e1
    obtain ⟨rest, hr, hw, c0⟩ : ∃ rest, (nameDT T nt (nameCT T (nameBT T (leafT T s)))).1 = (nameCT T (nameBT T (leafT T s))).1 ++ rest ∧ WEs T rest ∧ (nameCT T (nameBT T (leafT T s))).2.e = 0 := by
      unfold nameDT at d0 ⊢
      split
      · rename_i hc
        exact ⟨[], by simp, WEs_nil, (is_w T hc).2.2⟩
      · rename_i hc
        rw [if_neg hc] at d0
        have d0 : (argsT T nt (nameCT T (nameBT T (leafT T s))).2).2.e = 0 := d0
        exact ⟨_, rfl, args_w T D n h hk _ d0, alive (args_keep T hk _) d0⟩
    have e2 : (mustT T [40] (nameBT T (leafT T s)).2).2.e = 0 := c0
    obtain ⟨m2, w2, -, b0⟩ := must_w T e2
    show One T [.nd 13 ((nameDT T nt (nameCT T (nameBT T (leafT T s)))).1 ++ (mustT T [41] (nameDT T nt (nameCT T (nameBT T (leafT T s)))).2).1)]
    rw [m1, hr]
    show One T [.nd 13 ((nameBT T (leafT T s)).1 ++ (mustT T [40] (nameBT T (leafT T s)).2).1 ++ rest ++ [.lf _])]
    rw [m2]
    unfold nameBT at b0 w2 ⊢
    by_cases hd : isQ T [46] (leafT T s).2 = true
    · rw [if_pos hd] at b0 w2 ⊢
      have b0 : (kindT T 1 (leafT T (leafT T s).2).2).2.e = 0 := b0
      obtain ⟨k1, -, -⟩ := kind_w T b0
      show One T [.nd 13 ((leafT T s).1 ++ (leafT T (leafT T s).2).1 ++ (kindT T 1 (leafT T (leafT T s).2).2).1 ++ [.lf _] ++ rest ++ [.lf _])]
      rw [k1, leaf_1, leaf_1]
      refine One.nd (ShE.callm _ _ _ _ (is_w T hd).1) ?_
      exact WEs_append (WEs_append (WEs_lf (WEs_lf (WEs_lf (WEs_lf WEs_nil)))) hw) (WEs_lf WEs_nil)
    · rw [if_neg hd] at b0 w2 ⊢
      rw [leaf_1]
      refine One.nd (ShE.call _ _ _ (by rw [w2]; decide)) ?_
      exact WEs_append (WEs_append (WEs_lf (WEs_lf WEs_nil)) hw) (WEs_lf WEs_nil)
include hT
theorem atom_w (s : St) : WO T (atomT T nt s) := by
  unfold atomT
  split
  · rename_i he; intro h9; exact absurd h9 he
  rename_i he
  have he : s.e = 0 := by omega
  split
  · rename_i h3
    intro _
    refine One.nd (ShE.num s.i ?_) (WEs_lf WEs_nil)
    have h4 : (tkT T s.i).kind = 3 := h3
    unfold tkT at h4 ⊢
    cases ht : T[s.i]? with
    | none => rw [ht] at h4; cases h4
    | some t => rw [ht] at h4; exact hT t (List.mem_of_getElem? ht) h4
  split
  · intro _; exact One.nd (ShE.tru s.i) (WEs_lf WEs_nil)
  split
  · intro _; exact One.nd (ShE.res s.i) (WEs_lf WEs_nil)
  split
  · intro h9
    obtain ⟨m1, -, -, b0⟩ := must_w T h9
    obtain ⟨u, hu, hu1, hu2⟩ := h.expr _ b0
    show One T [.nd 12 ((leafT T s).1 ++ (nt.expr (leafT T s).2).1 ++ (mustT T [41] (nt.expr (leafT T s).2).2).1)]
    rw [m1, hu, leaf_1]
    exact One.nd (ShE.grp _ _ u hu1) (WEs_lf (WEs_cons hu2 (WEs_lf WEs_nil)))
  split
  · exact name_w T D n h hk s he
  · intro h9; exact absurd h9 (fail_e T (by decide) s)
omit hT h hk in
theorem sign_w {sub : St → RT} (hs : n < D → ∀ s, WO T (sub s)) {s : St} (hw : (tkT T s.i).text = [45] ∨ (tkT T s.i).text = [110, 111, 116]) : WO T (signT T D n sub s) := by
  unfold signT
  simp only []
  split
  · rename_i he; intro h9; exact absurd h9 he
  · rename_i he
    intro h9
    have hn : n < D := by
      rcases Nat.lt_or_ge n D with h1 | h1
      · exact h1
      · exfalso; apply he
        unfold nestQ; rw [if_pos (by omega)]; exact fail_e T (by decide) _
    obtain ⟨u, hu, hu1, hu2⟩ := hs hn _ h9
    show One T [.nd 11 ((leafT T s).1 ++ (sub (nestQ T D (n + 1) (leafT T s).2)).1)]
    rw [hu, leaf_1]
    exact One.nd (ShE.una _ u hu1 hw) (WEs_lf (WEs_cons hu2 WEs_nil))
theorem factor_w (s : St) : WO T (factorT T D n nt s) := by
  unfold factorT; split
  · rename_i hc; exact sign_w T D n h.factor (.inl (is_w T hc).1)
  · exact atom_w T hT D n h hk s
omit hT h hk in
theorem mem_of_is {w : List UInt8} (hw : w ∈ signs8) {s : St} (h : isQ T w s = true) : s.e = 0 ∧ (tkT T s.i).text ∈ signs8 := ⟨(is_w T h).2.2, by rw [(is_w T h).1]; exact hw⟩
theorem product_w (s : St) : WO T (productT T D n nt s) := row_w T (fun s hc => by
  unfold isMul at hc
  simp only [Bool.or_eq_true] at hc
  rcases hc with (hc | hc) | hc <;> exact mem_of_is T (by decide) hc) (factor_keep T D n hk) (factor_w T hT D n h hk) _ _ (factor_w T hT D n h hk s)
theorem sum_w (s : St) : WO T (sumT T D n nt s) := row_w T (fun s hc => by
  unfold isAdd at hc
  simp only [Bool.or_eq_true] at hc
  rcases hc with hc | hc <;> exact mem_of_is T (by decide) hc) (product_keep T D n hk) (product_w T hT D n h hk) _ _ (product_w T hT D n h hk s)
theorem not_w (s : St) : WO T (notT T D n nt s) := by
  unfold notT
  simp only []
  split
  · rename_i hc; exact sign_w T D n h.nots (.inr (is_w T hc).1)
  split
  · rename_i hc
    intro h9
    have hm : (sumT T D n nt s).2.e = 0 ∧ (tkT T (sumT T D n nt s).2.i).text ∈ signs8 := by
      unfold isCmp at hc
      simp only [Bool.or_eq_true] at hc
      rcases hc with ((((hc | hc) | hc) | hc) | hc) | hc <;> exact mem_of_is T (by decide) hc
    obtain ⟨t, ht, ht1, ht2⟩ := sum_w T hT D n h hk s hm.1
    obtain ⟨u, hu, hu1, hu2⟩ := sum_w T hT D n h hk _ h9
    show One T [.nd 10 ((sumT T D n nt s).1 ++ (leafT T (sumT T D n nt s).2).1 ++ (sumT T D n nt (leafT T (sumT T D n nt s).2).2).1)]
    rw [ht, hu, leaf_1]
    exact One.nd (ShE.bin _ t u ht1 hu1 hm.2) (WEs_cons ht2 (WEs_lf (WEs_cons hu2 WEs_nil)))
  · exact sum_w T hT D n h hk s
theorem and_w (s : St) : WO T (andT T D n nt s) := row_w T (fun s hc => mem_of_is T (by decide) hc) (not_keep T D n hk) (not_w T hT D n h hk) _ _ (not_w T hT D n h hk s)
theorem or_w (s : St) : WO T (orT T D n nt s) := row_w T (fun s hc => mem_of_is T (by decide) hc) (and_keep T D n hk) (and_w T hT D n h hk) _ _ (and_w T hT D n h hk s)
theorem formula_w (s : St) : WO T (formulaT T D n nt s) := by
  unfold formulaT
  simp only []
  split
  · rename_i hc
    split
    · rename_i he; intro h9; exact absurd h9 he
    · rename_i he
      intro h9
      have hn : n < D := by
        rcases Nat.lt_or_ge n D with h1 | h1
        · exact h1
        · exfalso; apply he
          unfold nestQ; rw [if_pos (by omega)]; exact fail_e T (by decide) _
      have hm := mem_of_is T (by decide) hc
      obtain ⟨t, ht, ht1, ht2⟩ := or_w T hT D n h hk s hm.1
      obtain ⟨u, hu, hu1, hu2⟩ := h.formula hn _ h9
      show One T [.nd 10 ((orT T D n nt s).1 ++ (leafT T (orT T D n nt s).2).1 ++ (nt.formula (nestQ T D (n + 1) (leafT T (orT T D n nt s).2).2)).1)]
      rw [ht, hu, leaf_1]
      exact One.nd (ShE.bin _ t u ht1 hu1 hm.2) (WEs_cons ht2 (WEs_lf (WEs_cons hu2 WEs_nil)))
  · exact or_w T hT D n h hk s
omit hT
theorem let_w (s : St) : WO T (letT T nt s) := by
  intro h9
  obtain ⟨u, hu, hu1, hu2⟩ := h.expr _ h9
  have h8 := alive (hk.expr _) h9
  obtain ⟨m1, -, -, h7⟩ := must_w T h8
  obtain ⟨t, ht, ht1, ht2⟩ := h.expr _ h7
  have h6 := alive (hk.expr _) h7
  obtain ⟨m2, -, -, h5⟩ := must_w T h6
  obtain ⟨k1, -, -⟩ := kind_w T h5
  unfold letT
  simp only []
  rw [hu, m1, ht, m2, k1, leaf_1]
  exact One.nd (ShE.let_ _ _ _ _ t u ht1 hu1) (WEs_lf (WEs_lf (WEs_lf (WEs_cons ht2 (WEs_lf (WEs_cons hu2 WEs_nil))))))
theorem if_w (s : St) : WO T (ifT T nt s) := by
  intro h9
  obtain ⟨v, hv, hv1, hv2⟩ := h.expr _ h9
  have h8 := alive (hk.expr _) h9
  obtain ⟨m1, -, -, h7⟩ := must_w T h8
  obtain ⟨u, hu, hu1, hu2⟩ := h.expr _ h7
  have h6 := alive (hk.expr _) h7
  obtain ⟨m2, -, -, h5⟩ := must_w T h6
  obtain ⟨t, ht, ht1, ht2⟩ := h.expr _ h5
  unfold ifT
  simp only []
  rw [hv, m1, hu, m2, ht, leaf_1]
  exact One.nd (ShE.if_ _ _ _ t u v ht1 hu1 hv1) (WEs_lf (WEs_cons ht2 (WEs_lf (WEs_cons hu2 (WEs_lf (WEs_cons hv2 WEs_nil))))))
theorem assert_w (s : St) : WO T (assertT T nt s) := by
  intro h9
  obtain ⟨u, hu, hu1, hu2⟩ := h.expr _ h9
  have h8 := alive (hk.expr _) h9
  obtain ⟨m1, -, -, h7⟩ := must_w T h8
  obtain ⟨t, ht, ht1, ht2⟩ := h.expr _ h7
  unfold assertT
  simp only []
  rw [hu, m1, ht, leaf_1]
  exact One.nd (ShE.assert_ _ _ t u ht1 hu1) (WEs_lf (WEs_cons ht2 (WEs_lf (WEs_cons hu2 WEs_nil))))
include hT
theorem expr_w (s : St) : WO T (exprT T D n nt s) := by
  unfold exprT
  simp only []
  split
  · rename_i he; intro h9; exact absurd h9 he
  split
  · exact let_w T D n h hk _
  split
  · exact if_w T D n h hk _
  split
  · exact assert_w T D n h hk _
  · exact formula_w T hT D n h hk _
end
theorem nx_w (T : List Tok) (hT : NumTok T) (D : Nat) : ∀ d, d ≤ D → NxW T D (D - d) (nxT T D d)
  | 0, _ => ⟨fun s h9 => absurd h9 (by show (nestQ T D (D + 1) s).e ≠ 0; rw [nest_deep]; exact fail_e T (by decide) s), fun h => by omega, fun h => by omega, fun h => by omega⟩
  | d + 1, h => by
    have ih := nx_w T hT D d (by omega)
    have hk := nx_keep T D d
    exact ⟨expr_w T hT D _ ih hk, fun _ => formula_w T hT D _ ih hk, fun _ => not_w T hT D _ ih hk, fun _ => factor_w T hT D _ ih hk⟩

/-! ### Numbers' tokens -/

theorem runN_take (p : UInt8 → Bool) : ∀ (l : List UInt8), ∀ b ∈ l.take (runN p l), p b = true
  | [], b, h => by simp [runN] at h
  | a :: r, b, h => by
    by_cases ha : p a = true
    · have e : runN p (a :: r) = runN p r + 1 := by simp [runN, ha]
      rw [e, List.take_succ_cons, List.mem_cons] at h
      rcases h with rfl | h
      · exact ha
      · exact runN_take p r b h
    · have e : runN p (a :: r) = 0 := by simp [runN, ha]
      rw [e] at h; simp at h
theorem first_num {l : List UInt8} (h : (firstE l).1 = 3) : ∀ b ∈ l.take (firstE l).2, isDig b = true := by
  cases l with
  | nil => simp [firstE] at h
  | cons a r =>
    rw [firstE_cons] at h ⊢
    split at h
    · rename_i h1
      simp only at h
      split at h <;> cases h
    · rename_i h1
      rw [if_neg h1]
      split at h
      · rename_i h2
        rw [if_pos h2]
        exact runN_take isDig (a :: r)
      · split at h <;> cases h
theorem tok_num {l : List UInt8} {p : Nat} (hw : wrongE (tokE l p).kind (tokE l p).text = 0) (hk : (tokE l p).kind = 3) : numOk (tokE l p).text := by
  have h1 : (firstE (l.drop (sk false l))).1 = 3 := hk
  have h2 := firstE_pos (l := l.drop (sk false l)) (by omega) (by omega)
  have h3 := firstE_le (l.drop (sk false l))
  have h4 := first_num h1
  unfold wrongE at hw
  rw [if_neg (by rw [hk]; rintro (h | ⟨h, -⟩) <;> cases h)] at hw
  have h5 : ¬ ((tokE l p).kind = 3 ∧ (60 < (tokE l p).text.length ∨ 1 < (tokE l p).text.length ∧ (tokE l p).text.head? = some 48)) := fun e => by rw [if_pos e] at hw; cases hw
  have h6 : (tokE l p).text.length = (firstE (l.drop (sk false l))).2 := by
    show ((l.drop (sk false l)).take _).length = _
    rw [List.length_take]; omega
  refine ⟨by omega, ?_, h4, fun h7 h8 => h5 ⟨hk, .inr ⟨h7, h8⟩⟩⟩
  rcases Nat.lt_or_ge 60 (tokE l p).text.length with h | h
  · exact absurd ⟨hk, .inl h⟩ h5
  · exact h
theorem num_lexG : ∀ (f : Nat) (l : List UInt8) (p : Nat), NumTok (lexG f l p).1
  | 0, l, p => fun t ht => by simp [lexG] at ht
  | f + 1, l, p => by
    intro t ht hk
    by_cases hw : wrongE (tokE l p).kind (tokE l p).text ≠ 0
    · rw [lexG_fault hw] at ht; simp at ht
    · have hw : wrongE (tokE l p).kind (tokE l p).text = 0 := by omega
      by_cases h5 : (tokE l p).kind = 5
      · rw [lexG_end hw h5] at ht
        simp at ht; subst ht
        exact tok_num hw hk
      · rw [lexG_more hw h5] at ht
        rcases List.mem_cons.1 ht with rfl | ht
        · exact tok_num hw hk
        · exact num_lexG f _ _ t ht hk
theorem num_all (l : List UInt8) : NumTok (allE l).1 := num_lexG _ l 0
end Go.Proofs.YtccokidhngdjnaaGreatDoor
namespace Go.Proofs.YtccokidhngdjnaaGreatDoor
open Go.RowKit

def cval (c : Cl) : Value := .agg #[.int .i64 c.op, .int .i64 c.kids, strV c.nm, strV c.md, strV c.nu, .bool c.ys]
set_option maxRecDepth 100000 in
set_option maxHeartbeats 16000000 in
theorem takes_c (c : Cl) (w : World) (hk : -9223372036854775808 ≤ c.kids ∧ c.kids < 9223372036854775808) : Calls Tryz.prog 12 #[cval c] w (NumPost (takesC c) w) := by
  obtain ⟨T, hT⟩ : ∃ T, takesC c = T := ⟨_, rfl⟩
  have HT := Lib.hid hT
  rw [hT]
  obtain ⟨op, kids, nm, md, nu, ys⟩ := c
  unfold takesC at hT
  unfold cval strV
  simp only at hT hk ⊢
  by_cases h4 : op ≤ 4
  · rw [if_pos (.inl h4)] at hT
    subst hT
    have d4 : decide (op ≤ 4) = true := decide_eq_true h4
    clear h4 HT
    go_enter Tryz.func12, Tryz.ntmps12
    go_wp2
    go_ret
    exact ⟨rfl, (by repeat (first | with_reducible exact gb_refl _ _ | with_reducible refine gb_drew ?_ | with_reducible refine gb_alloc ?_ _))⟩
  have d4 : decide (op ≤ 4) = false := decide_eq_false h4
  by_cases h24 : 24 < op
  · rw [if_pos (.inr h24)] at hT
    subst hT
    have d24 : decide (24 < op) = true := decide_eq_true h24
    clear h4 h24 HT
    go_enter Tryz.func12, Tryz.ntmps12
    go_wp2
    go_ret
    exact ⟨rfl, (by repeat (first | with_reducible exact gb_refl _ _ | with_reducible refine gb_drew ?_ | with_reducible refine gb_alloc ?_ _))⟩
  have d24 : decide (24 < op) = false := decide_eq_false h24
  rw [if_neg (by omega)] at hT
  by_cases h6 : op ≤ 6
  · rw [if_pos h6] at hT
    subst hT
    have d6 : decide (op ≤ 6) = true := decide_eq_true h6
    clear h4 h24 h6 HT
    go_enter Tryz.func12, Tryz.ntmps12
    go_wp2
    go_ret
    exact ⟨rfl, (by repeat (first | with_reducible exact gb_refl _ _ | with_reducible refine gb_drew ?_ | with_reducible refine gb_alloc ?_ _))⟩
  have d6 : decide (op ≤ 6) = false := decide_eq_false h6
  rw [if_neg h6] at hT
  by_cases h21 : op = 21
  · subst h21
    rw [if_pos rfl] at hT
    subst hT
    clear h4 h24 h6 HT d4 d6 d24
    go_enter Tryz.func12, Tryz.ntmps12
    go_wp2
    go_ret
    exact ⟨rfl, (by repeat (first | with_reducible exact gb_refl _ _ | with_reducible refine gb_drew ?_ | with_reducible refine gb_alloc ?_ _))⟩
  rw [if_neg h21] at hT
  have e21 : (op == 21) = false := beq_eq_false_iff_ne.2 h21
  by_cases hc : op = 24
  · subst hc
    rw [if_pos rfl] at hT
    have HT2 : Hid ((T : Int) = min (max kids 0) 9) := Lib.hid (by omega)
    clear h4 h24 h6 h21 e21 HT hT d4 d6 d24
    go_enter Tryz.func12, Tryz.ntmps12
    go_wp2
    go_ret
    exact ⟨by rw [HT2.out]; rfl, (by repeat (first | with_reducible exact gb_refl _ _ | with_reducible refine gb_drew ?_ | with_reducible refine gb_alloc ?_ _))⟩
  · rw [if_neg hc] at hT
    subst hT
    have e24 : (op == 24) = false := beq_eq_false_iff_ne.2 hc
    clear h4 h24 h6 h21 hc HT
    go_enter Tryz.func12, Tryz.ntmps12
    go_wp2
    go_ret
    exact ⟨rfl, (by repeat (first | with_reducible exact gb_refl _ _ | with_reducible refine gb_drew ?_ | with_reducible refine gb_alloc ?_ _))⟩
end Go.Proofs.YtccokidhngdjnaaGreatDoor
