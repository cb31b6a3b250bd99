/- Expressions, as the document has them; the trees that the parser makes have the form that they ask for. -/
import Derived.Test.YtmlcpihedmmlfaaGreatDoorM6
import Derived.WalkSmall
set_option linter.unusedVariables false
set_option linter.unusedSimpArgs false
namespace Go.Proofs.YtmlcpihedmmlfaaGreatDoor

/-- An expression: its Op, its name, its module, its number's digits, its truth, its kids, its place. -/
inductive Ex where
  | mk (op : Nat) (nm md nu : List UInt8) (ys : Bool) (ks : List Ex) (ps : Nat)
def nilE : Ex := .mk 0 [] [] [] false [] 0

def tkT (T : List Tok) (i : Nat) : Tok := T[i]?.getD ⟨5, [], [], 0⟩
def signs8 : List (List UInt8) := [[43], [45], [42], [47], [37], [61], [60, 62], [60], [60, 61], [62], [62, 61], [38, 38], [124, 124], [61, 62]]
def binE (s : List UInt8) : Nat := if signs8.idxOf s < 14 then 7 + signs8.idxOf s else 0
def unE (s : List UInt8) : Nat := if s = [45] then 5 else 6

/-- An expression of its node's kind, its own tokens and its kids. -/
def nodeE (k : Nat) (o : Nat → Tok) (ks : List Ex) : Ex :=
  if k = 7 then .mk 22 (o 1).text [] [] false ks (o 0).pos
  else if k = 8 then .mk 21 [] [] [] false ks (o 0).pos
  else if k = 9 then .mk 23 [] [] [] false ks (o 0).pos
  else if k = 10 then .mk (binE (o 0).text) [] [] [] false ks (o 0).pos
  else if k = 11 then .mk (unE (o 0).text) [] [] [] false ks (o 0).pos
  else if k = 13 then (if (o 1).text = [46] then .mk 24 (o 2).text (o 0).text [] false ks (o 0).pos else .mk 24 (o 0).text [] [] false ks (o 0).pos)
  else if k = 14 then .mk 3 (o 0).text [] [] false ks (o 0).pos
  else if k = 15 then .mk 1 [] [] (o 0).text false ks (o 0).pos
  else if k = 16 then .mk 2 [] [] [] (decide ((o 0).text = [116, 114, 117, 101])) ks (o 0).pos
  else .mk 4 [] [] [] false ks (o 0).pos

/-- The tokens of the leaves of a list. -/
def ownL : List Tr → List Nat
  | [] => []
  | .lf i :: l => i :: ownL l
  | .nd _ _ :: l => ownL l
def isN : Tr → Bool
  | .lf _ => false
  | .nd _ _ => true
mutual
def axT (T : List Tok) : Tr → Ex
  | .lf _ => nilE
  | .nd k l => if k = 12 then (axTs T l).headD nilE else nodeE k (fun j => tkT T ((ownL l).getD j T.length)) (axTs T l)
/-- Of the nodes of a list alone. -/
def axTs (T : List Tok) : List Tr → List Ex
  | [] => []
  | t :: l => if isN t = true then axT T t :: axTs T l else axTs T l
end

def numOk (t : List UInt8) : Prop := 0 < t.length ∧ t.length ≤ 60 ∧ (∀ b ∈ t, isDig b = true) ∧ (1 < t.length → t.head? ≠ some 48)
inductive ShE (T : List Tok) : Nat → List Tr → Prop
  | let_ (i j k m : Nat) (t u : Tr) : isN t = true → isN u = true → ShE T 7 [.lf i, .lf j, .lf k, t, .lf m, u]
  | if_ (i j k : Nat) (t u v : Tr) : isN t = true → isN u = true → isN v = true → ShE T 8 [.lf i, t, .lf j, u, .lf k, v]
  | assert_ (i j : Nat) (t u : Tr) : isN t = true → isN u = true → ShE T 9 [.lf i, t, .lf j, u]
  | bin (i : Nat) (t u : Tr) : isN t = true → isN u = true → (tkT T i).text ∈ signs8 → ShE T 10 [t, .lf i, u]
  | una (i : Nat) (t : Tr) : isN t = true → (tkT T i).text = [45] ∨ (tkT T i).text = [110, 111, 116] → ShE T 11 [.lf i, t]
  | grp (i j : Nat) (t : Tr) : isN t = true → ShE T 12 [.lf i, t, .lf j]
  | call (i j : Nat) (l : List Tr) : (tkT T j).text ≠ [46] → ShE T 13 (.lf i :: .lf j :: l)
  | callm (i j m : Nat) (l : List Tr) : (tkT T j).text = [46] → ShE T 13 (.lf i :: .lf j :: .lf m :: l)
  | nam (i : Nat) : ShE T 14 [.lf i]
  | num (i : Nat) : numOk (tkT T i).text → ShE T 15 [.lf i]
  | tru (i : Nat) : ShE T 16 [.lf i]
  | res (i : Nat) : ShE T 17 [.lf i]
mutual
/-- A tree of the form that an expression's has. -/
def WE (T : List Tok) : Tr → Prop
  | .lf _ => True
  | .nd k l => ShE T k l ∧ WEs T l
def WEs (T : List Tok) : List Tr → Prop
  | [] => True
  | t :: l => WE T t ∧ WEs T l
end
def One (T : List Tok) (l : List Tr) : Prop := ∃ t, l = [t] ∧ isN t = true ∧ WE T t
abbrev WO (T : List Tok) (r : RT) : Prop := r.2.e = 0 → One T r.1
abbrev WL (T : List Tok) (r : RT) : Prop := r.2.e = 0 → WEs T r.1
def NumTok (T : List Tok) : Prop := ∀ t ∈ T, t.kind = 3 → numOk t.text

theorem WEs_append {T : List Tok} {a b : List Tr} (h1 : WEs T a) (h2 : WEs T b) : WEs T (a ++ b) := by
  induction a with
  | nil => exact h2
  | cons t a ih => simp only [List.cons_append, WEs] at h1 ⊢; exact ⟨h1.1, ih h1.2⟩
theorem WEs_lf {T : List Tok} {i : Nat} {l : List Tr} (h : WEs T l) : WEs T (.lf i :: l) := by simp only [WEs, WE]; exact ⟨trivial, h⟩
theorem WEs_cons {T : List Tok} {t : Tr} {l : List Tr} (h1 : WE T t) (h : WEs T l) : WEs T (t :: l) := by simp only [WEs]; exact ⟨h1, h⟩
theorem WEs_nil {T : List Tok} : WEs T [] := by simp [WEs]
theorem One.nd {T : List Tok} {k : Nat} {l : List Tr} (h1 : ShE T k l) (h2 : WEs T l) : One T [.nd k l] := ⟨_, rfl, rfl, by simp only [WE]; exact ⟨h1, h2⟩⟩
theorem alive {s : St} {r : RT} (h : Keep s r) (he : r.2.e = 0) : s.e = 0 := by
  rcases Nat.eq_zero_or_pos s.e with h0 | h0
  · exact h0
  · have := h.dead (by omega); rw [this] at he; exact he

section
variable (T : List Tok)
theorem leaf_1 (s : St) : (leafT T s).1 = [.lf s.i] := rfl
theorem must_w {w : List UInt8} {s : St} (h : (mustT T w s).2.e = 0) : (mustT T w s).1 = [.lf s.i] ∧ (tkT T s.i).text = w ∧ ((tkT T s.i).kind = 2 ∨ (tkT T s.i).kind = 4) ∧ s.e = 0 := by
  unfold mustT at h ⊢
  split
  · rename_i hk
    unfold isQ at hk
    have hk := of_decide_eq_true hk
    exact ⟨rfl, hk.2.2, hk.2.1, hk.1⟩
  · rename_i hk
    rw [if_neg hk] at h
    exact absurd h (fail_e T (by decide) s)
theorem kind_w {k : Nat} {s : St} (h : (kindT T k s).2.e = 0) : (kindT T k s).1 = [.lf s.i] ∧ (tkT T s.i).kind = k ∧ s.e = 0 := by
  unfold kindT at h ⊢
  split
  · rename_i hk; exact ⟨rfl, hk.2, hk.1⟩
  · rename_i hk
    rw [if_neg hk] at h
    exact absurd h (fail_e T (by decide) s)
theorem is_w {w : List UInt8} {s : St} (h : isQ T w s = true) : (tkT T s.i).text = w ∧ ((tkT T s.i).kind = 2 ∨ (tkT T s.i).kind = 4) ∧ s.e = 0 := by
  unfold isQ at h
  have hk := of_decide_eq_true h
  exact ⟨hk.2.2, hk.2.1, hk.1⟩
theorem row_w {c : St → Bool} {sub : St → RT} (hc : ∀ s, c s = true → s.e = 0 ∧ (tkT T s.i).text ∈ signs8) (hk : ∀ s, Keep s (sub s)) (hs : ∀ s, WO T (sub s)) : ∀ f r, WO T r → WO T (rwT T c sub f r)
  | 0, r, h => h
  | f + 1, r, h => by
    unfold rwT
    split
    · rename_i hcc
      refine row_w hc hk hs f _ fun he => ?_
      have h1 := hc _ hcc
      obtain ⟨t, ht, ht1, ht2⟩ := h h1.1
      obtain ⟨u, hu, hu1, hu2⟩ := hs _ he
      show One T [.nd 10 (r.1 ++ (leafT T r.2).1 ++ (sub (leafT T r.2).2).1)]
      rw [ht, hu, leaf_1]
      exact One.nd (ShE.bin _ t u ht1 hu1 h1.2) (WEs_cons ht2 (WEs_lf (WEs_cons hu2 WEs_nil)))
    · exact h
theorem parts_w {sub : St → RT} (hk : ∀ s, Keep s (sub s)) (hs : ∀ s, WO T (sub s)) : ∀ f k r, WL T r → WL T (partsT T sub f k r)
  | 0, k, r, h => h
  | f + 1, k, r, h => by
    unfold partsT
    split
    · rename_i hcc
      refine parts_w hk hs f _ _ fun he => ?_
      obtain ⟨u, hu, hu1, hu2⟩ := hs _ he
      show WEs T (r.1 ++ (leafT T r.2).1 ++ (sub (if k = 8 then failQ T 15 (leafT T r.2).2 else (leafT T r.2).2)).1)
      rw [hu, leaf_1]
      exact WEs_append (WEs_append (h (is_w T hcc).2.2) (WEs_lf WEs_nil)) (WEs_cons hu2 WEs_nil)
    · exact h
structure NxW (D n : Nat) (nt : NxT) : Prop where
  expr : ∀ s, WO T (nt.expr s)
  formula : n < D → ∀ s, WO T (nt.formula s)
  nots : n < D → ∀ s, WO T (nt.nots s)
  factor : n < D → ∀ s, WO T (nt.factor s)
end

section
variable (T : List Tok) (hT : NumTok T) (D n : Nat) {nt : NxT} (h : NxW T D n nt) (hk : NxK nt)
include h hk
theorem args_w (s : St) : WL T (argsT T nt s) := parts_w T hk.expr h.expr _ _ _ fun he => by
  obtain ⟨t, ht, -, h2⟩ := h.expr s he
  rw [ht]; exact WEs_cons h2 WEs_nil
theorem name_w (s : St) (hs : s.e = 0) : WO T (nameT T nt s) := by
  unfold nameT
  split
  · intro _; exact One.nd (ShE.nam s.i) (WEs_lf WEs_nil)
  · intro he
    -- the end
    have e1 : (mustT T [41] (nameDT T nt (nameCT T (nameBT T (leafT T s)))).2).2.e = 0 := he
    obtain ⟨m1, -, -, d0⟩ := must_w T e1
    obtain ⟨rest, hr, hw, c0⟩ : ∃ rest, (nameDT T nt (nameCT T (nameBT T (leafT T s)))).1 = (nameCT T (nameBT T (leafT T s))).1 ++ rest ∧ WEs T rest ∧ (nameCT T (nameBT T (leafT T s))).2.e = 0 := by
      unfold nameDT at d0 ⊢
      split
      · rename_i hc
        exact ⟨[], by simp, WEs_nil, (is_w T hc).2.2⟩
      · rename_i hc
        rw [if_neg hc] at d0
        have d0 : (argsT T nt (nameCT T (nameBT T (leafT T s))).2).2.e = 0 := d0
        exact ⟨_, rfl, args_w T D n h hk _ d0, alive (args_keep T hk _) d0⟩
    have e2 : (mustT T [40] (nameBT T (leafT T s)).2).2.e = 0 := c0
    obtain ⟨m2, w2, -, b0⟩ := must_w T e2
    show One T [.nd 13 ((nameDT T nt (nameCT T (nameBT T (leafT T s)))).1 ++ (mustT T [41] (nameDT T nt (nameCT T (nameBT T (leafT T s)))).2).1)]
    rw [m1, hr]
    show One T [.nd 13 ((nameBT T (leafT T s)).1 ++ (mustT T [40] (nameBT T (leafT T s)).2).1 ++ rest ++ [.lf _])]
    rw [m2]
    unfold nameBT at b0 w2 ⊢
    by_cases hd : isQ T [46] (leafT T s).2 = true
    · rw [if_pos hd] at b0 w2 ⊢
      have b0 : (kindT T 1 (leafT T (leafT T s).2).2).2.e = 0 := b0
      obtain ⟨k1, -, -⟩ := kind_w T b0
      show One T [.nd 13 ((leafT T s).1 ++ (leafT T (leafT T s).2).1 ++ (kindT T 1 (leafT T (leafT T s).2).2).1 ++ [.lf _] ++ rest ++ [.lf _])]
      rw [k1, leaf_1, leaf_1]
      refine One.nd (ShE.callm _ _ _ _ (is_w T hd).1) ?_
      exact WEs_append (WEs_append (WEs_lf (WEs_lf (WEs_lf (WEs_lf WEs_nil)))) hw) (WEs_lf WEs_nil)
    · rw [if_neg hd] at b0 w2 ⊢
      rw [leaf_1]
      refine One.nd (ShE.call _ _ _ (by rw [w2]; decide)) ?_
      exact WEs_append (WEs_append (WEs_lf (WEs_lf WEs_nil)) hw) (WEs_lf WEs_nil)
include hT
theorem atom_w (s : St) : WO T (atomT T nt s) := by
  unfold atomT
  split
  · rename_i he; intro h9; exact absurd h9 he
  rename_i he
  have he : s.e = 0 := by omega
  split
  · rename_i h3
    intro _
    refine One.nd (ShE.num s.i ?_) (WEs_lf WEs_nil)
    have h4 : (tkT T s.i).kind = 3 := h3
    unfold tkT at h4 ⊢
    cases ht : T[s.i]? with
    | none => rw [ht] at h4; cases h4
    | some t => rw [ht] at h4; exact hT t (List.mem_of_getElem? ht) h4
  split
  · intro _; exact One.nd (ShE.tru s.i) (WEs_lf WEs_nil)
  split
  · intro _; exact One.nd (ShE.res s.i) (WEs_lf WEs_nil)
  split
  · intro h9
    obtain ⟨m1, -, -, b0⟩ := must_w T h9
    obtain ⟨u, hu, hu1, hu2⟩ := h.expr _ b0
    show One T [.nd 12 ((leafT T s).1 ++ (nt.expr (leafT T s).2).1 ++ (mustT T [41] (nt.expr (leafT T s).2).2).1)]
    rw [m1, hu, leaf_1]
    exact One.nd (ShE.grp _ _ u hu1) (WEs_lf (WEs_cons hu2 (WEs_lf WEs_nil)))
  split
  · exact name_w T D n h hk s he
  · intro h9; exact absurd h9 (fail_e T (by decide) s)
omit hT h hk in
theorem sign_w {sub : St → RT} (hs : n < D → ∀ s, WO T (sub s)) {s : St} (hw : (tkT T s.i).text = [45] ∨ (tkT T s.i).text = [110, 111, 116]) : WO T (signT T D n sub s) := by
  unfold signT
  simp only []
  split
  · rename_i he; intro h9; exact absurd h9 he
  · rename_i he
    intro h9
    have hn : n < D := by
      rcases Nat.lt_or_ge n D with h1 | h1
      · exact h1
      · exfalso; apply he
        unfold nestQ; rw [if_pos (by omega)]; exact fail_e T (by decide) _
    obtain ⟨u, hu, hu1, hu2⟩ := hs hn _ h9
    show One T [.nd 11 ((leafT T s).1 ++ (sub (nestQ T D (n + 1) (leafT T s).2)).1)]
    rw [hu, leaf_1]
    exact One.nd (ShE.una _ u hu1 hw) (WEs_lf (WEs_cons hu2 WEs_nil))
theorem factor_w (s : St) : WO T (factorT T D n nt s) := by
  unfold factorT; split
  · rename_i hc; exact sign_w T D n h.factor (.inl (is_w T hc).1)
  · exact atom_w T hT D n h hk s
omit hT h hk in
theorem mem_of_is {w : List UInt8} (hw : w ∈ signs8) {s : St} (h : isQ T w s = true) : s.e = 0 ∧ (tkT T s.i).text ∈ signs8 := ⟨(is_w T h).2.2, by rw [(is_w T h).1]; exact hw⟩
theorem product_w (s : St) : WO T (productT T D n nt s) := row_w T (fun s hc => by
  unfold isMul at hc
  simp only [Bool.or_eq_true] at hc
  rcases hc with (hc | hc) | hc <;> exact mem_of_is T (by decide) hc) (factor_keep T D n hk) (factor_w T hT D n h hk) _ _ (factor_w T hT D n h hk s)
theorem sum_w (s : St) : WO T (sumT T D n nt s) := row_w T (fun s hc => by
  unfold isAdd at hc
  simp only [Bool.or_eq_true] at hc
  rcases hc with hc | hc <;> exact mem_of_is T (by decide) hc) (product_keep T D n hk) (product_w T hT D n h hk) _ _ (product_w T hT D n h hk s)
theorem not_w (s : St) : WO T (notT T D n nt s) := by
  unfold notT
  simp only []
  split
  · rename_i hc; exact sign_w T D n h.nots (.inr (is_w T hc).1)
  split
  · rename_i hc
    intro h9
    have hm : (sumT T D n nt s).2.e = 0 ∧ (tkT T (sumT T D n nt s).2.i).text ∈ signs8 := by
      unfold isCmp at hc
      simp only [Bool.or_eq_true] at hc
      rcases hc with ((((hc | hc) | hc) | hc) | hc) | hc <;> exact mem_of_is T (by decide) hc
    obtain ⟨t, ht, ht1, ht2⟩ := sum_w T hT D n h hk s hm.1
    obtain ⟨u, hu, hu1, hu2⟩ := sum_w T hT D n h hk _ h9
    show One T [.nd 10 ((sumT T D n nt s).1 ++ (leafT T (sumT T D n nt s).2).1 ++ (sumT T D n nt (leafT T (sumT T D n nt s).2).2).1)]
    rw [ht, hu, leaf_1]
    exact One.nd (ShE.bin _ t u ht1 hu1 hm.2) (WEs_cons ht2 (WEs_lf (WEs_cons hu2 WEs_nil)))
  · exact sum_w T hT D n h hk s
theorem and_w (s : St) : WO T (andT T D n nt s) := row_w T (fun s hc => mem_of_is T (by decide) hc) (not_keep T D n hk) (not_w T hT D n h hk) _ _ (not_w T hT D n h hk s)
theorem or_w (s : St) : WO T (orT T D n nt s) := row_w T (fun s hc => mem_of_is T (by decide) hc) (and_keep T D n hk) (and_w T hT D n h hk) _ _ (and_w T hT D n h hk s)
theorem formula_w (s : St) : WO T (formulaT T D n nt s) := by
  unfold formulaT
  simp only []
  split
  · rename_i hc
    split
    · rename_i he; intro h9; exact absurd h9 he
    · rename_i he
      intro h9
      have hn : n < D := by
        rcases Nat.lt_or_ge n D with h1 | h1
        · exact h1
        · exfalso; apply he
          unfold nestQ; rw [if_pos (by omega)]; exact fail_e T (by decide) _
      have hm := mem_of_is T (by decide) hc
      obtain ⟨t, ht, ht1, ht2⟩ := or_w T hT D n h hk s hm.1
      obtain ⟨u, hu, hu1, hu2⟩ := h.formula hn _ h9
      show One T [.nd 10 ((orT T D n nt s).1 ++ (leafT T (orT T D n nt s).2).1 ++ (nt.formula (nestQ T D (n + 1) (leafT T (orT T D n nt s).2).2)).1)]
      rw [ht, hu, leaf_1]
      exact One.nd (ShE.bin _ t u ht1 hu1 hm.2) (WEs_cons ht2 (WEs_lf (WEs_cons hu2 WEs_nil)))
  · exact or_w T hT D n h hk s
omit hT
theorem let_w (s : St) : WO T (letT T nt s) := by
  intro h9
  obtain ⟨u, hu, hu1, hu2⟩ := h.expr _ h9
  have h8 := alive (hk.expr _) h9
  obtain ⟨m1, -, -, h7⟩ := must_w T h8
  obtain ⟨t, ht, ht1, ht2⟩ := h.expr _ h7
  have h6 := alive (hk.expr _) h7
  obtain ⟨m2, -, -, h5⟩ := must_w T h6
  obtain ⟨k1, -, -⟩ := kind_w T h5
  unfold letT
  simp only []
  rw [hu, m1, ht, m2, k1, leaf_1]
  exact One.nd (ShE.let_ _ _ _ _ t u ht1 hu1) (WEs_lf (WEs_lf (WEs_lf (WEs_cons ht2 (WEs_lf (WEs_cons hu2 WEs_nil))))))
theorem if_w (s : St) : WO T (ifT T nt s) := by
  intro h9
  obtain ⟨v, hv, hv1, hv2⟩ := h.expr _ h9
  have h8 := alive (hk.expr _) h9
  obtain ⟨m1, -, -, h7⟩ := must_w T h8
  obtain ⟨u, hu, hu1, hu2⟩ := h.expr _ h7
  have h6 := alive (hk.expr _) h7
  obtain ⟨m2, -, -, h5⟩ := must_w T h6
  obtain ⟨t, ht, ht1, ht2⟩ := h.expr _ h5
  unfold ifT
  simp only []
  rw [hv, m1, hu, m2, ht, leaf_1]
  exact One.nd (ShE.if_ _ _ _ t u v ht1 hu1 hv1) (WEs_lf (WEs_cons ht2 (WEs_lf (WEs_cons hu2 (WEs_lf (WEs_cons hv2 WEs_nil))))))
theorem assert_w (s : St) : WO T (assertT T nt s) := by
  intro h9
  obtain ⟨u, hu, hu1, hu2⟩ := h.expr _ h9
  have h8 := alive (hk.expr _) h9
  obtain ⟨m1, -, -, h7⟩ := must_w T h8
  obtain ⟨t, ht, ht1, ht2⟩ := h.expr _ h7
  unfold assertT
  simp only []
  rw [hu, m1, ht, leaf_1]
  exact One.nd (ShE.assert_ _ _ t u ht1 hu1) (WEs_lf (WEs_cons ht2 (WEs_lf (WEs_cons hu2 WEs_nil))))
include hT
theorem expr_w (s : St) : WO T (exprT T D n nt s) := by
  unfold exprT
  simp only []
  split
  · rename_i he; intro h9; exact absurd h9 he
  split
  · exact let_w T D n h hk _
  split
  · exact if_w T D n h hk _
  split
  · exact assert_w T D n h hk _
  · exact formula_w T hT D n h hk _
end
theorem nx_w (T : List Tok) (hT : NumTok T) (D : Nat) : ∀ d, d ≤ D → NxW T D (D - d) (nxT T D d)
  | 0, _ => ⟨fun s h9 => absurd h9 (by show (nestQ T D (D + 1) s).e ≠ 0; rw [nest_deep]; exact fail_e T (by decide) s), fun h => by omega, fun h => by omega, fun h => by omega⟩
  | d + 1, h => by
    have ih := nx_w T hT D d (by omega)
    have hk := nx_keep T D d
    exact ⟨expr_w T hT D _ ih hk, fun _ => formula_w T hT D _ ih hk, fun _ => not_w T hT D _ ih hk, fun _ => factor_w T hT D _ ih hk⟩

/-! ### Numbers' tokens -/

theorem runN_take (p : UInt8 → Bool) : ∀ (l : List UInt8), ∀ b ∈ l.take (runN p l), p b = true
  | [], b, h => by simp [runN] at h
  | a :: r, b, h => by
    by_cases ha : p a = true
    · have e : runN p (a :: r) = runN p r + 1 := by simp [runN, ha]
      rw [e, List.take_succ_cons, List.mem_cons] at h
      rcases h with rfl | h
      · exact ha
      · exact runN_take p r b h
    · have e : runN p (a :: r) = 0 := by simp [runN, ha]
      rw [e] at h; simp at h
theorem first_num {l : List UInt8} (h : (firstE l).1 = 3) : ∀ b ∈ l.take (firstE l).2, isDig b = true := by
  cases l with
  | nil => simp [firstE] at h
  | cons a r =>
    rw [firstE_cons] at h ⊢
    split at h
    · rename_i h1
      simp only at h
      split at h <;> cases h
    · rename_i h1
      rw [if_neg h1]
      split at h
      · rename_i h2
        rw [if_pos h2]
        exact runN_take isDig (a :: r)
      · split at h <;> cases h
theorem tok_num {l : List UInt8} {p : Nat} (hw : wrongE (tokE l p).kind (tokE l p).text = 0) (hk : (tokE l p).kind = 3) : numOk (tokE l p).text := by
  have h1 : (firstE (l.drop (sk false l))).1 = 3 := hk
  have h2 := firstE_pos (l := l.drop (sk false l)) (by omega) (by omega)
  have h3 := firstE_le (l.drop (sk false l))
  have h4 := first_num h1
  unfold wrongE at hw
  rw [if_neg (by rw [hk]; rintro (h | ⟨h, -⟩) <;> cases h)] at hw
  have h5 : ¬ ((tokE l p).kind = 3 ∧ (60 < (tokE l p).text.length ∨ 1 < (tokE l p).text.length ∧ (tokE l p).text.head? = some 48)) := fun e => by rw [if_pos e] at hw; cases hw
  have h6 : (tokE l p).text.length = (firstE (l.drop (sk false l))).2 := by
    show ((l.drop (sk false l)).take _).length = _
    rw [List.length_take]; omega
  refine ⟨by omega, ?_, h4, fun h7 h8 => h5 ⟨hk, .inr ⟨h7, h8⟩⟩⟩
  rcases Nat.lt_or_ge 60 (tokE l p).text.length with h | h
  · exact absurd ⟨hk, .inl h⟩ h5
  · exact h
theorem num_lexG : ∀ (f : Nat) (l : List UInt8) (p : Nat), NumTok (lexG f l p).1
  | 0, l, p => fun t ht => by simp [lexG] at ht
  | f + 1, l, p => by
    intro t ht hk
    by_cases hw : wrongE (tokE l p).kind (tokE l p).text ≠ 0
    · rw [lexG_fault hw] at ht; simp at ht
    · have hw : wrongE (tokE l p).kind (tokE l p).text = 0 := by omega
      by_cases h5 : (tokE l p).kind = 5
      · rw [lexG_end hw h5] at ht
        simp at ht; subst ht
        exact tok_num hw hk
      · rw [lexG_more hw h5] at ht
        rcases List.mem_cons.1 ht with rfl | ht
        · exact tok_num hw hk
        · exact num_lexG f _ _ t ht hk
theorem num_all (l : List UInt8) : NumTok (allE l).1 := num_lexG _ l 0
end Go.Proofs.YtmlcpihedmmlfaaGreatDoor
namespace Go.Proofs.YtmlcpihedmmlfaaGreatDoor
open Go.RowKit

/-- A block of M values, f 0 .., that may be written. -/
def BlkV (w : World) (g M : Nat) (f : Nat → Value) : Prop :=
  ∃ cur T, w.heap[g]? = some (.cells cur T (0, 0)) ∧ cur.size = M ∧ ∀ j, j < M → cur[j]? = some (f j)

section
variable {w w' : World} {g M : Nat} {f : Nat → Value}
theorem BlkV.lt (h : BlkV w g M f) : g < w.heap.size := by
  obtain ⟨cur, T, hg, _⟩ := h
  exact (Array.getElem?_eq_some_iff.1 hg).1
theorem BlkV.cell (h : BlkV w g M f) {j : Nat} (hj : j < M) : w.cell? ⟨g, j, none⟩ = some (f j) := by
  obtain ⟨cur, T, hg, _, hc⟩ := h
  rw [cell_of_row w g j cur T (0, 0) hg]; exact hc j hj
theorem BlkV.free (h : BlkV w g M f) (j : Nat) : w.frozen? ⟨g, j, none⟩ = false := by
  obtain ⟨cur, T, hg, _, hc⟩ := h
  simp [World.frozen?, hg]
theorem BlkV.set (h : BlkV w g M f) (f' : Nat → Value) {j : Nat} (u : Value) (hu : f' j = u) (he : ∀ i, i ≠ j → f' i = f i) : BlkV (w.setCell ⟨g, j, none⟩ u) g M f' := by
  obtain ⟨cur, T, hg, hs, hc⟩ := h
  refine ⟨cur.setIfInBounds j u, T, ?_, by simpa using hs, fun i hi => ?_⟩
  · simp only [World.setCell, Array.getElem?_modify, hg, if_true, Option.map_some]; rfl
  · rw [Array.getElem?_setIfInBounds]
    by_cases e : j = i
    · subst e; simp [hs, hi, hu]
    · rw [if_neg e, hc i hi, he i (Ne.symm e)]
theorem BlkV.kept {row : Option Nat} (h : BlkV w g M f) (hg : w.grownBy w' row) (hne : some g ≠ row) : BlkV w' g M f := by
  obtain ⟨cur, T, hh, r⟩ := h
  exact ⟨cur, T, by rw [hg.block g (Array.getElem?_eq_some_iff.1 hh).1 hne]; exact hh, r⟩
theorem BlkV.congr {f' : Nat → Value} (h : BlkV w g M f) (e : ∀ j, j < M → f j = f' j) : BlkV w g M f' := by
  obtain ⟨cur, T, h1, h2, h3⟩ := h
  exact ⟨cur, T, h1, h2, fun j hj => by rw [← e j hj]; exact h3 j hj⟩
end

theorem infoB : (Tryz.prog.info? 4).map (fun i => (i.zero, i.size, i.bytes)) = some (some (.bool false), 1, 1) := by kernel_rfl
theorem makeB_run (n : Nat) (hn : n ≤ 1099511627776) (w : World) : (Instr.makeSlice 201 (.int .i64 (n : Int)) (.int .i64 (n : Int))).run Tryz.prog w = .ok (.slice (some ⟨w.heap.size, 0, none⟩) n n) (w.alloc (.cells (madeCells #[.bool false] n) 4)) :=
  run_make_row' 201 4 (.bool false) 1 Tryz.underlying201 infoB rfl .i64 .i64 n (by omega) (by omega) w
theorem BlkB_made (w : World) (n : Nat) (T : TypeId) : BlkV (w.alloc (.cells (madeCells #[.bool false] n) T)) w.heap.size n (fun _ => .bool false) := by
  refine ⟨_, T, heap_alloc_new w _, size_madeCells _ _, fun j hj => ?_⟩
  rw [← Array.getElem?_toList, toList_madeCells_one]
  simp [hj]

def memV (P : List Int) (j : Nat) : Value := .bool (decide ((j : Int) ∈ P))

set_option maxRecDepth 100000 in
set_option maxHeartbeats 4000000 in
theorem IndexB_c (g n c : Nat) (w : World) (hn : n ≤ 1000000) (h : ∀ j, j < n → w.cell? ⟨g, j, none⟩ = some (.bool true)) :
    Calls Tryz.prog 169 #[.slice (some ⟨g, 0, none⟩) n c, .bool false] w (ValPost (.int .i64 (-1)) w) := by
  have HH := Lib.hid h
  clear h
  go_enter Tryz.func169, Tryz.ntmps169
  go_wp2_with fail
  go_loopw [8] (fun v wr => ∃ k : Nat, k ≤ n ∧ v = .int .i64 k ∧ wr = w) (fun v _ => n - (intOf v).toNat)
  case atStart => exact ⟨0, Nat.zero_le _, rfl, rfl⟩
  case round =>
    obtain ⟨k, hk, rfl, rfl⟩ := hrel
    by_cases hlt : k < n
    · have d1 : decide ((k : Int) < (n : Int)) = true := decide_eq_true (by omega)
      have d1' : decide (k < n) = true := decide_eq_true hlt
      have c0 := HH.out k hlt
      go_wp2_with fail
      go_roundw
      case rel => exact ⟨k + 1, by omega, by go_num, by first | rfl | trivial⟩
      case measure => (simp [intOf] <;> omega)
    · obtain rfl : k = n := by omega
      go_wp2_with fail
      go_ret
      exact ⟨rfl, gb_refl _ _⟩

set_option maxRecDepth 100000 in
theorem ContainsB_c (g n c : Nat) (w : World) (hn : n ≤ 1000000) (h : ∀ j, j < n → w.cell? ⟨g, j, none⟩ = some (.bool true)) :
    Calls Tryz.prog 150 #[.slice (some ⟨g, 0, none⟩) n c, .bool false] w (ValPost (.bool false) w) := by
  have HI := Lib.hid (IndexB_c g n c w hn h)
  go_enter Tryz.func150, Tryz.ntmps150
  go_wp2_with fail
  refine HI.out.mono ?_
  rintro e w1 ⟨rfl, hg⟩
  have HG := Lib.hid hg
  clear hg
  go_wp2_with fail
  go_ret
  exact ⟨rfl, HG.out⟩

set_option maxRecDepth 100000 in
theorem Root_c (pt pn : Option Addr) (mt ct M cn : Nat) (hM : 0 < M) (hM2 : M ≤ 1000000) (w : World) :
    Calls Tryz.prog 24 #[.agg #[.slice pt mt ct, .slice pn M cn]] w (ValPost (.int .i64 ((M - 1 : Nat) : Int)) w) := by
  have hw1 : IntKind.i64.wrap ((M : Int) - 1) = ((M - 1 : Nat) : Int) := by rw [IntWalk.i64_in _ (by omega)]; omega
  go_enter Tryz.func24, Tryz.ntmps24
  go_wp2_with fail
  go_ret
  exact ⟨rfl, World.grownBy_alloc w _ none⟩

set_option maxRecDepth 100000 in
set_option maxHeartbeats 8000000 in
theorem eachKidOnce_c {m : Nat} (N : List Nd) (K : Nat → Option Addr × Nat) (hf : Forms m N) (hN : N.length ≤ 150000) (pt pn : Option Addr) (mt ct cn : Nat) (w : World) (hw : NodesAt w pn N K) :
    Calls Tryz.prog 117 #[.agg #[.slice pt mt ct, .slice pn N.length cn]] w (ValPost (.bool true) w) := by
  have hmk := fun w => makeB_run N.length (by omega) w
  have hpos : 0 < N.length := List.length_pos_iff.2 hf.1
  have HLEN := Lib.hid (fun (i : Nat) (x : Nd) (hx : N[i]? = some x) => (by
    have h1 := sz_le hf (List.getElem?_eq_some_iff.1 hx).1
    have h2 := kids_len hf hx
    have h3 := (List.getElem?_eq_some_iff.1 hx).1
    omega : x.kids.length ≤ 150000))
  have HNEW := Lib.hid (fun P R k h => kid_new hf (P := P) (R := R) (k := k) h)
  have HEACH := Lib.hid (fun j h => kid_each hf (j := j) h)
  obtain ⟨M, hM⟩ : ∃ M, N.length = M := ⟨_, rfl⟩
  have HM := Lib.hid hM
  have HW := Lib.hid hw
  rw [hM] at hmk hN hpos HNEW HEACH ⊢
  have HRC := Lib.hid (fun W => Root_c pt pn mt ct M cn hpos (by omega) W)
  clear hM hw
  go_enter Tryz.func117, Tryz.ntmps117
  go_wp2_with fail
  have HA := Lib.hid (heap_alloc_new w (.cells #[.slice pt mt ct, .slice pn M cn] 26))
  have hgA := World.grownBy_alloc w (.cells #[.slice pt mt ct, .slice pn M cn] 26) none
  have hsA : (w.alloc (.cells #[.slice pt mt ct, .slice pn M cn] 26)).heap.size = w.heap.size + 1 := by simp
  generalize (w.alloc (.cells #[.slice pt mt ct, .slice pn M cn] 26)) = WA at *
  have hB := BlkB_made WA M 4
  have hgB := World.grownBy_alloc WA (.cells (madeCells #[.bool false] M) 4) none
  rw [hsA] at hB
  generalize (WA.alloc (.cells (madeCells #[.bool false] M) 4)) = W at *
  have HBA := Lib.hid (bx hgB HA.out)
  have HTB := Lib.hid hB
  have HG0 := Lib.hid (gb_trans hgA hgB)
  have hsz0 : w.heap.size + 1 < W.heap.size := hB.lt
  clear HA hgA hsA hB hgB hmk
  obtain ⟨b, hb⟩ : ∃ b, w.heap.size = b := ⟨_, rfl⟩
  have HBW := Lib.hid hb
  rw [hb] at HBA HTB hsz0 ⊢
  clear hb
  obtain ⟨b1, hb1⟩ : ∃ x, b + 1 = x := ⟨_, rfl⟩
  rw [hb1] at HTB hsz0 ⊢
  have hb01 : b < b1 := by omega
  clear hb1
  go_loopw [15] (fun v wr => ∃ i : Nat, i ≤ M ∧ v = .int .i64 i ∧ Hid (BlkV wr b1 M (memV (allKids (N.take i)))) ∧ Hid (W.grownBy wr (some b1))) (fun v _ => M - (intOf v).toNat)
  case atStart => exact ⟨0, Nat.zero_le _, rfl, Lib.hid (HTB.out.congr fun j _ => by simp [memV, allKids]), Lib.hid (gb_refl _ _)⟩
  case round =>
    clear HTB
    obtain ⟨i, hi, rfl, HB, HG⟩ := hrel
    have HGW := Lib.hid (Fr2.after HG0.out (Fr2.of (S := fun k => k = b1) HG.out (fun k e => by injection e with e; exact e.symm)) (fun k e => by rw [HBW.out]; omega))
    obtain ⟨a0, a1, a2⟩ := cells2 ((HG.out.block b (by omega) (by simp; omega)).trans HBA.out)
    by_cases hlt : i < M
    · have d1 : decide ((i : Int) < (M : Int)) = true := decide_eq_true (by omega)
      have d1' : decide (i < M) = true := decide_eq_true hlt
      obtain ⟨x, hx⟩ : ∃ x, N[i]? = some x := ⟨N[i]'(by rw [HM.out]; exact hlt), List.getElem?_eq_getElem _⟩
      obtain ⟨g, off, rfl, hgl, c0, c1, c2⟩ := node_at HW.out hx
      have HKA := Lib.hid (HW.out.2 i x hx)
      have c0 := HGW.out.cell c0 (by simp)
      have c1 := HGW.out.cell c1 (by simp)
      have c2 := HGW.out.cell c2 (by simp)
      have hkl1 := HLEN.out i x hx
      have HSP := Lib.hid (kids_split hx)
      have HDN := Lib.hid (kids_done hx)
      obtain ⟨xk, hxk⟩ : ∃ xk, x.kind = xk := ⟨_, rfl⟩
      obtain ⟨xt, hxt⟩ : ∃ xt, x.tok = xt := ⟨_, rfl⟩
      obtain ⟨L, hLL⟩ : ∃ L, x.kids = L := ⟨_, rfl⟩
      rw [hLL] at HKA hkl1 c2 HSP HDN
      obtain ⟨kl, hkl⟩ : ∃ kl, L.length = kl := ⟨_, rfl⟩
      have HKL := Lib.hid hkl
      rw [hxk] at c0
      rw [hxt] at c1
      rw [hkl] at c2 hkl1 HSP
      clear hx hxk hxt hkl hLL
      generalize K i = kn at *
      obtain ⟨q, kc⟩ := kn
      simp only at c2 HKA
      have hX := heap_alloc_new wr (.cells #[.int .i64 xk, .int .i64 xt, .slice q kl kc] 97)
      have hgX := World.grownBy_alloc wr (.cells #[.int .i64 xk, .int .i64 xt, .slice q kl kc] 97) none
      have HB2 := Lib.hid (HB.out.kept hgX (by simp))
      have HG2 := Lib.hid (gb_trans HG.out (World.grownBy_alloc wr (.cells #[.int .i64 xk, .int .i64 xt, .slice q kl kc] 97) (some b1)))
      have HX2 := Lib.hid hX
      have hbw : b1 < wr.heap.size := HB.out.lt
      have hgw : g < wr.heap.size := Nat.lt_of_lt_of_le hgl HGW.out.size
      have HGW2 := Lib.hid (gb_trans HGW.out hgX)
      clear hX hgX HB HG HGW
      go_wp2_with fail
      generalize (wr.alloc (.cells #[.int .i64 xk, .int .i64 xt, .slice q kl kc] 97)) = W2 at *
      obtain ⟨X, hXX⟩ : ∃ X, wr.heap.size = X := ⟨_, rfl⟩
      rw [hXX] at HX2 hbw hgw ⊢
      clear hXX a0 a1 a2 c0 c1 c2
      go_loopw [22] (fun v wr2 => ∃ k : Nat, k ≤ kl ∧ v = .int .i64 k ∧ Hid (BlkV wr2 b1 M (memV (allKids (N.take i) ++ L.take k))) ∧ Hid (W2.grownBy wr2 (some b1))) (fun v _ => kl - (intOf v).toNat)
      case atStart => exact ⟨0, Nat.zero_le _, rfl, Lib.hid (by simpa using HB2.out), Lib.hid (gb_refl _ _)⟩
      case round =>
        clear HB2
        obtain ⟨k, hk, rfl, HB, HG⟩ := hrel
        have HGW := Lib.hid (Fr2.after HGW2.out (Fr2.of (S := fun k => k = b1) HG.out (fun k e => by injection e with e; exact e.symm)) (fun k e => by rw [HBW.out]; omega))
        by_cases hk2 : k < kl
        · have d3 : decide ((k : Int) < (kl : Int)) = true := decide_eq_true (by omega)
          have d3' : decide (k < kl) = true := decide_eq_true hk2
          obtain ⟨y, hy⟩ : ∃ y, L[k]? = some y := ⟨L[k]'(by rw [HKL.out]; exact hk2), List.getElem?_eq_getElem _⟩
          obtain ⟨g2, o2, rfl, hgl2, ck⟩ := kid_at HKA.out hy
          have ck := HGW.out.cell ck (by simp)
          have hsp := HSP.out k (by omega)
          rw [List.drop_eq_getElem_cons (by rw [HKL.out]; exact hk2), (List.getElem?_eq_some_iff.1 hy).2] at hsp
          obtain ⟨hn1, hn2, hn3⟩ := HNEW.out _ _ y hsp
          have HTK : Hid (L.take (k + 1) = L.take k ++ [y]) := Lib.hid (by rw [List.take_add_one, hy]; rfl)
          obtain ⟨yn, rfl⟩ : ∃ yn : Nat, y = (yn : Int) := ⟨y.toNat, by omega⟩
          have hyn : yn < M := by omega
          have d6 : decide ((yn : Int) < (M : Int)) = true := decide_eq_true (by omega)
          have d6' : decide (yn < M) = true := decide_eq_true hyn
          have cb := HB.out.cell (j := yn) hyn
          have fb := HB.out.free yn
          have hmv : memV (allKids (N.take i) ++ L.take k) yn = .bool false := by unfold memV; rw [decide_eq_false hn1]
          rw [hmv] at cb
          have HSET := Lib.hid (HB.out.set (memV (allKids (N.take i) ++ L.take (k + 1))) (j := yn) (.bool true) (by unfold memV; rw [HTK.out]; simp) (fun j hj => by
            have hne : ((j : Int) ≠ (yn : Int)) := by omega
            unfold memV; rw [HTK.out]; simp [hne]))
          have HG3 := Lib.hid (gb_set (j := yn) HG.out (.bool true))
          clear hmv hsp hn1 hy HB HG HGW
          go_wp2_with fail
          go_roundw
          case rel => exact ⟨k + 1, by omega, by go_num, HSET, HG3⟩
          case measure => (simp [intOf] <;> omega)
        · obtain rfl : k = kl := by omega
          rw [List.take_of_length_le (l := L) (i := k) (by rw [HKL.out]; exact Nat.le_refl _), ← HDN.out] at HB
          have HG4 := Lib.hid (gb_trans HG2.out HG.out)
          clear HG
          go_wp2_with fail
          go_roundw
          case rel => exact ⟨i + 1, by omega, by go_num, HB, HG4⟩
          case measure => (simp [intOf] <;> omega)
    · obtain rfl : i = M := by omega
      have hall : allKids (N.take i) = allKids N := by rw [List.take_of_length_le (l := N) (i := i) (by rw [HM.out]; exact Nat.le_refl _)]
      have HCT := Lib.hid (fun W' c (hg : wr.grownBy W' none) => ContainsB_c b1 (i - 1) c W' (by omega) (fun j hj => by
        have h1 := HB.out.cell (j := j) (by omega)
        rw [hall] at h1
        unfold memV at h1
        rw [decide_eq_true (HEACH.out j (by omega))] at h1
        exact hg.cell h1 (by simp)))
      clear hall
      have e3 : decide (((i - 1 : Nat) : Int) ≤ (i : Int)) = true := decide_eq_true (by omega)
      have e3' : decide (i - 1 ≤ i) = true := decide_eq_true (by omega)
      have e4 : (0 : Int) ≤ ((i - 1 : Nat) : Int) := by omega
      obtain ⟨i1, hi1⟩ : ∃ i1, i - 1 = i1 := ⟨_, rfl⟩
      rw [hi1] at HCT e3 e3' e4 HRC
      have hi2 : i1 ≤ i := by omega
      clear hi1
      go_wp2_with fail
      refine (HRC.out _).mono ?_
      rintro e w2 ⟨rfl, hg2⟩
      have HG2 := Lib.hid hg2
      clear hg2
      go_wp2_with fail
      refine (HCT.out _ _ HG2.out).mono ?_
      rintro e w3 ⟨rfl, hg3⟩
      have HG3 := Lib.hid (gb_trans HGW.out (gb_trans HG2.out hg3))
      clear hg3 HG2
      go_wp2_with fail
      go_ret
      exact ⟨rfl, HG3.out⟩
end Go.Proofs.YtmlcpihedmmlfaaGreatDoor
namespace Go.Proofs.YtmlcpihedmmlfaaGreatDoor
open Go.RowKit

theorem OwnG.keptF {S : Nat → Prop} {s : Nat} {T : TypeId} {w w' : World} {base : Nat} {v : Value} {l : List (List Value)} (h : OwnG s T w base v l) (hf : Fr2 S w w') (hS : ∀ k, v.ownBlock = some k → ¬ S k) : OwnG s T w' base v l :=
  ⟨⟨h.1.1, h.1.2.imp id fun ⟨g, cap, cur, e, hb, hh, r⟩ => ⟨g, cap, cur, e, hb, hf.keep hh (hS g (by rw [e]; rfl)), r⟩⟩, h.2⟩
theorem OwnG.keptR {row : Option Nat} {s : Nat} {T : TypeId} {w w' : World} {base : Nat} {v : Value} {l : List (List Value)} (h : OwnG s T w base v l) (hf : w.grownBy w' row) (hS : ∀ k, v.ownBlock = some k → row ≠ some k) : OwnG s T w' base v l :=
  h.keptF (Fr2.of (S := fun k => row = some k) hf (fun _ e => e)) hS
theorem OwnG.at {s : Nat} {T : TypeId} {w : World} {base : Nat} {v : Value} {l : List (List Value)} (h : OwnG s T w base v l) : ∀ k, v.ownBlock = some k → base ≤ k ∧ k < w.heap.size := h.1.lt

def Sep (a b : Value) : Prop := ∀ k, a.ownBlock = some k → b.ownBlock ≠ some k
theorem Sep.symm {a b : Value} (h : Sep a b) : Sep b a := fun k h1 h2 => h k h2 h1

section
variable {s : Nat} {t T : TypeId} {z : Value} {by' : Nat}

/-- append of one struct: where the new slice lies. -/
theorem wpList_appGl (hs0 : 0 < s) (ht : Tryz.prog.underlying t = some (.slice T)) (hT : (Tryz.prog.info? T).map (fun i => (i.zero, i.size, i.bytes)) = some (some z, s, by')) (hz : z.cells.size = s) (hby : by' ≤ 1000)
    {W : World} {ops : Array Oper} {rest : List Oper} {o : Oper} {a : Act} {Q : Exit → Act → World → Prop} (hgd : o.guard = none) (os ox : Operand) (ho : o.op = .call { callee := .builtin .append, args := #[os, ox], argTypes := #[t, t] })
    (base : Nat) (l : List (List Value)) (y : List Value) (hys : y.length = s) (hy1 : ∀ u ∈ y, u.oneCell' = true) (v : Value) (hs : a.eval os = v) (hown : OwnG s T W base v l) (H : Nat) (arr : Array Value) (harr : arr = y.toArray) (hblk : W.heap[H]? = some (.cells arr T (0, 0))) (hx : a.eval ox = .slice (some ⟨H, 0, none⟩) 1 1) (hn : l.length ≤ 1000000) (hbase : base ≤ W.heap.size) (H' : Nat) (hH' : W.heap.size = H')
    (K : ∀ g' cap' w', OwnG s T w' base (.slice (some ⟨g', 0, none⟩) (l.length + 1) cap') (l ++ [y]) → W.grownBy w' v.ownBlock → (v.ownBlock = some g' ∨ g' = H') → wpList Tryz.prog ops Q rest (a.put o.dst (.slice (some ⟨g', 0, none⟩) (l.length + 1) cap')) w') :
    wpList Tryz.prog ops Q (o :: rest) a W := by
  subst harr
  obtain ⟨i0, hi, hi0, hi1, hi2⟩ := info_parts hT
  have hb : (l.length + 1) * by' ≤ 140737488355328 := by
    have : (l.length + 1) * by' ≤ (l.length + 1) * 1000 := Nat.mul_le_mul_left _ hby
    omega
  refine wpList_append_lies (P := Tryz.prog) W hgd os ox t ho base T i0 z s by' ht hi hi0 hi1 hi2 hz hs0 v l.length l.flatten hs hown.1 ⟨H, 0, none⟩ 1 1 y hx (by omega) ?_ hy1 (by omega) (by unfold maxLen; omega) hb hbase H' hH' ?_
  · intro j u hj
    rw [Addr.add_lit, cell_of_row _ H _ _ _ (0, 0) hblk]
    rw [Nat.zero_add, List.getElem?_toArray]; exact hj
  · intro g' cap' w' h3 h4 h5 _
    refine K g' cap' w' ⟨by simpa using h3, fun q hq => ?_⟩ h4 h5
    rcases List.mem_append.1 hq with hq | hq
    · exact hown.2 q hq
    · simp at hq; subst hq; exact ⟨hys, hy1⟩

/-- The same at a step of a region that draws its order. -/
theorem step_appGl (hs0 : 0 < s) (ht : Tryz.prog.underlying t = some (.slice T)) (hT : (Tryz.prog.info? T).map (fun i => (i.zero, i.size, i.bytes)) = some (some z, s, by')) (hz : z.cells.size = s) (hby : by' ≤ 1000)
    {W : World} {ops : Array Oper} {o : Oper} {a : Act} {K : Act → World → Prop} {Q : Exit → Act → World → Prop} {E : Prop} (hgd : o.guard = none) (os ox : Operand) (ho : o.op = .call { callee := .builtin .append, args := #[os, ox], argTypes := #[t, t] })
    (base : Nat) (l : List (List Value)) (y : List Value) (hys : y.length = s) (hy1 : ∀ u ∈ y, u.oneCell' = true) (v : Value) (hs : a.eval os = v) (hown : OwnG s T W base v l) (H : Nat) (arr : Array Value) (harr : arr = y.toArray) (hblk : W.heap[H]? = some (.cells arr T (0, 0))) (hx : a.eval ox = .slice (some ⟨H, 0, none⟩) 1 1) (hn : l.length ≤ 1000000) (hbase : base ≤ W.heap.size) (H' : Nat) (hH' : W.heap.size = H')
    (K' : ∀ g' cap' w', OwnG s T w' base (.slice (some ⟨g', 0, none⟩) (l.length + 1) cap') (l ++ [y]) → W.grownBy w' v.ownBlock → (v.ownBlock = some g' ∨ g' = H') → K (a.put o.dst (.slice (some ⟨g', 0, none⟩) (l.length + 1) cap')) w') :
    if Region.wanted o (yielded ops a.tmps) = true then Oper.wp Tryz.prog o a W K Q else E := by
  subst harr
  obtain ⟨i0, hi, hi0, hi1, hi2⟩ := info_parts hT
  have hb : (l.length + 1) * by' ≤ 140737488355328 := by
    have : (l.length + 1) * by' ≤ (l.length + 1) * 1000 := Nat.mul_le_mul_left _ hby
    omega
  refine step_append_lies (P := Tryz.prog) W hgd os ox t ho base T i0 z s by' ht hi hi0 hi1 hi2 hz hs0 v l.length l.flatten hs hown.1 ⟨H, 0, none⟩ 1 1 y hx (by omega) ?_ hy1 (by omega) (by unfold maxLen; omega) hb hbase H' hH' ?_
  · intro j u hj
    rw [Addr.add_lit, cell_of_row _ H _ _ _ (0, 0) hblk]
    rw [Nat.zero_add, List.getElem?_toArray]; exact hj
  · intro g' cap' w' h3 h4 h5 _
    refine K' g' cap' w' ⟨by simpa using h3, fun q hq => ?_⟩ h4 h5
    rcases List.mem_append.1 hq with hq | hq
    · exact hown.2 q hq
    · simp at hq; subst hq; exact ⟨hys, hy1⟩
end

/-- A list of ints of one's own. -/
def OwnL (w : World) (base : Nat) (v : Value) (l : List Int) : Prop := OwnG 1 3 w base v (one (intsV l))

theorem OwnL.parts {w : World} {base : Nat} {v : Value} {l : List Int} (h : OwnL w base v l) : ∃ p c, v = .slice p l.length c ∧ VAt w p (intsV l) ∧ l.length ≤ c ∧ c ≤ maxLen ∧ (l ≠ [] → ∀ a, p = some a → base ≤ a.block) := by
  obtain ⟨p, c, e, h1, h2, h3, h4⟩ := OwnG.is h
  rw [one_len, intsV_len] at e h2
  exact ⟨p, c, e, v_of_g h1, h2, h3, fun hl => h4 (fun h0 => hl (by
    have := congrArg List.length h0
    rw [one_len, intsV_len] at this
    exact List.length_eq_zero_iff.1 this))⟩

/-- What a slice of ints holds. -/
def readInts (w : World) : Value → List Int
  | .slice (some a) n _ => (List.range n).map fun j => intOf ((w.cell? ⟨a.block, a.off + j, none⟩).getD undef)
  | _ => []
theorem readInts_own {w : World} {base : Nat} {v : Value} {l : List Int} (h : OwnL w base v l) : readInts w v = l := by
  obtain ⟨p, c, rfl, hv, -⟩ := h.parts
  cases p with
  | none =>
    rcases hv with h0 | ⟨g, off, e, -⟩
    · have : l = [] := by
        have := congrArg List.length h0; rw [intsV_len] at this; exact List.length_eq_zero_iff.1 this
      subst this; rfl
    · cases e
  | some a =>
    show (List.range l.length).map _ = l
    refine List.ext_getElem? fun i => ?_
    by_cases hi : i < l.length
    · rcases hv with h0 | ⟨g, off, e, -, hc⟩
      · have := congrArg List.length h0; rw [intsV_len] at this; simp at this; subst this; simp at hi
      · cases e
        have h1 := hc i _ (intsV_get (List.getElem?_eq_getElem hi))
        rw [List.getElem?_map, List.getElem?_range hi, List.getElem?_eq_getElem hi]
        simp [h1, intOf]
    · rw [List.getElem?_eq_none (by simp; omega), List.getElem?_eq_none (by omega)]

theorem OwnL.pop {w : World} {base n c : Nat} {p : Option Addr} {l : List Int} {k : Int} (h : OwnL w base (.slice p n c) (l ++ [k])) : n = l.length + 1 ∧ OwnL w base (.slice p l.length c) l ∧ (Value.slice p l.length c).ownBlock = (Value.slice p n c).ownBlock := by
  obtain ⟨p', c', e, -⟩ := h.parts
  injection e with e1 e2 e3
  rw [List.length_append, List.length_singleton] at e2
  subst e2
  have h1 := h.1
  rw [one_len, one_flat, intsV_len, intsV_append] at h1
  rcases h1.2 with ⟨h2, -⟩ | ⟨g, cap, cur, h2, -⟩
  · cases h2
  · injection h2 with h3 h4 h5
    subst h3; subst h5
    have h6 := ownsRow_pop (xs := intsV l) (last := intsV [k]) (by rw [intsV_len, Nat.mul_one]) (by simpa using h1)
    refine ⟨rfl, ⟨?_, one_wid (intsV_one _)⟩, rfl⟩
    rw [one_len, one_flat, intsV_len]
    exact h6
theorem OwnL.nil (w : World) (base : Nat) : OwnL w base (.slice none 0 0) [] := OwnG.nil _ _ _ _
theorem OwnL.new (w : World) (base : Nat) (x : Int) (H : Nat) (hH : w.heap.size = H) (hb : base ≤ H) : OwnL (w.alloc (.cells #[.int .i64 x] 3)) base (.slice (some ⟨H, 0, none⟩) 1 1) [x] := by
  subst hH
  refine ⟨?_, one_wid (intsV_one _)⟩
  rw [one_len, one_flat, intsV_len]
  exact ⟨by simp [intsV], .inr ⟨_, 1, _, rfl, hb, heap_alloc_new w _, by simp, by unfold maxLen; omega, by simp, by simp [intsV]⟩⟩
theorem OwnL.app {w : World} {base : Nat} {v : Value} {l : List Int} {x : Int} (h : OwnG 1 3 w base v (one (intsV l) ++ [[.int .i64 x]])) : OwnL w base v (l ++ [x]) := by
  unfold OwnL; rw [intsV_append, one_append]; exact h
end Go.Proofs.YtmlcpihedmmlfaaGreatDoor
namespace Go.Proofs.YtmlcpihedmmlfaaGreatDoor
open Go.RowKit

theorem list_last {α : Type} (l : List α) : l = [] ∨ ∃ r x, l = r ++ [x] := by
  by_cases h : l = []
  · exact .inl h
  · exact .inr ⟨_, _, (List.dropLast_concat_getLast h).symm⟩

theorem info_int : (Tryz.prog.info? 3).map (fun i => (i.zero, i.size, i.bytes)) = some (some (.int .i64 0), 1, 8) := infoI

set_option maxRecDepth 100000 in
set_option maxHeartbeats 8000000 in
theorem leafTokens_c {m : Nat} (N : List Nd) (K : Nat → Option Addr × Nat) (hf : Forms m N) (hN : N.length ≤ 150000) (pt pn : Option Addr) (mt ct cn n : Nat) (hn : n < N.length) (w : World) (hw : NodesAt w pn N K) :
    Calls Tryz.prog 151 #[.agg #[.slice pt mt ct, .slice pn N.length cn], .int .i64 (n : Int)] w (sliceOf (lv N n) w) := by
  have hz0 := sz_le hf hn
  have HAH := Lib.hid hf.ahead
  have HFO := Lib.hid hf
  have HW := Lib.hid hw
  obtain ⟨M, hM⟩ : ∃ M, N.length = M := ⟨_, rfl⟩
  have HM := Lib.hid hM
  rw [hM] at hn hN ⊢
  have hsz : szL N [(n : Int)] ≤ 150000 := by rw [szL_one, Int.toNat_natCast]; omega
  have HR0 : Hid ([] ++ restL N [(n : Int)] = lv N n) := Lib.hid (by unfold restL; simp)
  have HSZ0 := Lib.hid hsz
  obtain ⟨L, hL⟩ : ∃ L, lv N n = L := ⟨_, rfl⟩
  rw [hL] at HR0 ⊢
  clear hf hw hM hL hz0 hsz
  go_enter Tryz.func151, Tryz.ntmps151
  go_wp2_with fail
  have hA := heap_alloc_new w (.cells #[.slice pt mt ct, .slice pn M cn] 26)
  have hgA := World.grownBy_alloc w (.cells #[.slice pt mt ct, .slice pn M cn] 26) none
  have hsA : (w.alloc (.cells #[.slice pt mt ct, .slice pn M cn] 26)).heap.size = w.heap.size + 1 := by simp
  generalize (w.alloc (.cells #[.slice pt mt ct, .slice pn M cn] 26)) = W1 at *
  have hO1 := OwnL.new W1 (w.heap.size + 1) (n : Int) (w.heap.size + 1) hsA (Nat.le_refl _)
  have hgB := World.grownBy_alloc W1 (.cells #[.int .i64 (n : Int)] 3) none
  generalize (W1.alloc (.cells #[.int .i64 (n : Int)] 3)) = W2 at *
  obtain ⟨b, hb⟩ : ∃ b, w.heap.size = b := ⟨_, rfl⟩
  have HBW := Lib.hid hb
  rw [hb] at hA hO1 hsA ⊢
  have HA := Lib.hid hA; have HGA := Lib.hid hgA; have HO1 := Lib.hid hO1; have HSA := Lib.hid hsA
  have HB2 : Hid (Below (b + 1) W1 W2) := Lib.hid (Below.gb hgB (by omega))
  clear hA hgA hO1 hgB hsA hb
  go_loopw [5, 6] (fun ov tv wr => ∃ O S : List Int, Hid (OwnL wr (b + 1) ov O) ∧ Hid (OwnL wr (b + 1) tv S) ∧ Hid (Sep ov tv) ∧ Hid (O ++ restL N S = L) ∧ Hid (∀ k ∈ S, 0 ≤ k ∧ k < (M : Int)) ∧ Hid (szL N S + O.length ≤ 150000) ∧ Hid (Below (b + 1) W1 wr)) (fun _ tv wr => szL N (readInts wr tv))
  case atStart => exact ⟨[], [(n : Int)], Lib.hid (OwnL.nil _ _), HO1, Lib.hid (fun k h => by cases h), HR0, Lib.hid (fun k hk => by simp at hk; subst hk; omega), Lib.hid (by have := HSZ0.out; simpa using this), HB2⟩
  case round =>
    clear HO1 HB2
    obtain ⟨O, S, HO, HS, HSEP, HR, HIN, HSZ, HB⟩ := hrel
    have HGW : Hid (w.grownBy wr none) := Lib.hid (below_gb (Below.trans2 (Below.gb HGA.out (Nat.le_refl _)) (HB.out.mono (by rw [HBW.out]; omega))))
    obtain ⟨a0, a1⟩ := cells_tree ((HB.out.block b (by omega)).trans HA.out)
    rcases list_last S with rfl | ⟨S', k, rfl⟩
    · obtain ⟨p, c, rfl, -⟩ := HS.out.parts
      obtain ⟨po, co, rfl, hvo, -⟩ := HO.out.parts
      have HVO := Lib.hid hvo
      have hOL : O = L := by have := HR.out; simpa [restL] using this
      subst hOL
      simp only [List.length_nil] at *
      clear hvo
      go_wp2_with fail
      go_ret
      exact ⟨HGW.out, po, co, rfl, HVO.out⟩
    · obtain ⟨p, c, rfl, hvS, hcS, hcS2, -⟩ := HS.out.parts
      obtain ⟨hpl, hpop, hpb⟩ := HS.out.pop
      obtain ⟨hk0, hk1⟩ := HIN.out k (by simp)
      obtain ⟨kn, rfl⟩ : ∃ kn : Nat, k = (kn : Int) := ⟨k.toNat, by omega⟩
      have hkn : kn < M := by omega
      obtain ⟨x, hx⟩ : ∃ x, N[kn]? = some x := ⟨N[kn]'(by rw [HM.out]; exact hkn), List.getElem?_eq_getElem _⟩
      obtain ⟨g, off, rfl, hgl, c0, c1, c2⟩ := node_at HW.out hx
      have c0 := HGW.out.cell c0 (by simp)
      have c1 := HGW.out.cell c1 (by simp)
      have c2 := HGW.out.cell c2 (by simp)
      have HKA := Lib.hid (HW.out.2 kn x hx)
      obtain ⟨gs, os, rfl, hgs, cs⟩ := kid_at hvS (l := S' ++ [(kn : Int)]) (j := S'.length) (x := (kn : Int)) (by simp)
      obtain ⟨q, hq⟩ : ∃ q, S'.length = q := ⟨_, rfl⟩
      obtain ⟨q1, hq1⟩ : ∃ q1, (S' ++ [(kn : Int)]).length = q1 := ⟨_, rfl⟩
      have hqq : q1 = q + 1 := by rw [← hq1, ← hq]; simp
      have HQ := Lib.hid hq
      have hszl := HSZ.out
      have hz1 := szL_len HAH.out (S := S' ++ [(kn : Int)]) (fun j hj => by rw [HM.out]; exact HIN.out j hj)
      have hq1000 : q1 ≤ 150000 := by omega
      rw [hq1] at hcS
      rw [hq1] at hpb HS
      rw [hq] at hpop hpb cs
      have HPOP := Lib.hid hpop; have HPB := Lib.hid hpb
      obtain ⟨xk, hxk⟩ : ∃ xk, x.kind = xk := ⟨_, rfl⟩
      obtain ⟨xt, hxt⟩ : ∃ xt, x.tok = xt := ⟨_, rfl⟩
      obtain ⟨kl, hkl⟩ : ∃ kl, x.kids.length = kl := ⟨_, rfl⟩
      have HXK := Lib.hid hxk; have HXT := Lib.hid hxt; have HKL := Lib.hid hkl; have HX := Lib.hid hx
      rw [hxk] at c0
      rw [hxt] at c1
      rw [hkl] at c2
      have hd0 : decide ((0 : Int) < (q1 : Int)) = true := decide_eq_true (by omega)
      have hd0' : decide (0 < q1) = true := decide_eq_true (by omega)
      have hd1 : decide (q < q1) = true := decide_eq_true (by omega)
      have hd1' : decide ((q : Int) < (q1 : Int)) = true := decide_eq_true (by omega)
      have hd2 : decide (kn < M) = true := decide_eq_true hkn
      have hd2' : decide ((kn : Int) < (M : Int)) = true := decide_eq_true (by omega)
      have hd3 : decide (q ≤ c) = true := decide_eq_true (by omega)
      have hw1 : IntKind.i64.wrap ((q1 : Int) - 1) = (q : Int) := by rw [IntWalk.i64_in _ (by omega)]; omega
      have hqc : q ≤ c := by omega
      rw [hq1]
      have hgw : g < wr.heap.size := Nat.lt_of_lt_of_le hgl HGW.out.size
      have hbw : b < wr.heap.size := by have := HB.out.size; have := HSA.out; omega
      clear hx hxk hxt hkl hq hq1 hvS hcS hpop hpb hszl hz1
      generalize K kn = kk at *
      obtain ⟨kq, kc⟩ := kk
      simp only at c2 HKA
      have HQQ := Lib.hid hqq
      have HRD := Lib.hid (readInts_own HS.out)
      have hX := heap_alloc_new wr (.cells #[.int .i64 xk, .int .i64 xt, .slice kq kl kc] 97)
      have hgX := World.grownBy_alloc wr (.cells #[.int .i64 xk, .int .i64 xt, .slice kq kl kc] 97) none
      have hq01 : q < q1 := by omega
      clear hqq
      go_wp2_with fail
      go_region
      have hX3 : ((wr.alloc (.cells #[.int .i64 xk, .int .i64 xt, .slice kq kl kc] 97)).drew).heap[wr.heap.size]? = _ := hX
      have hgX3 := gb_drew hgX
      generalize ((wr.alloc (.cells #[.int .i64 xk, .int .i64 xt, .slice kq kl kc] 97)).drew) = W3 at *
      have hob : ∀ k, u5.ownBlock = some k → k < wr.heap.size := fun k e => (OwnG.at HO.out k e).2
      have HOB := Lib.hid hob
      have hpb3 : ∀ k, (Value.slice (some ⟨gs, os, none⟩) q c).ownBlock = some k → b + 1 ≤ k := fun k e => (OwnG.at HPOP.out k e).1
      have HPB3 := Lib.hid hpb3
      have HO3 : Hid (OwnL W3 (b + 1) u5 O) := Lib.hid (OwnG.kept HO.out hgX3)
      have HP3 : Hid (OwnL W3 (b + 1) (.slice (some ⟨gs, os, none⟩) q c) S') := Lib.hid (OwnG.kept HPOP.out hgX3)
      have HSE3 : Hid (Sep u5 (.slice (some ⟨gs, os, none⟩) q c)) := Lib.hid (fun k h1 h2 => HSEP.out k h1 h2)
      have HB3 := Lib.hid (Below.trans2 HB.out (Below.gb hgX3 (by omega)))
      have HX3 := Lib.hid hX3
      have hXw : wr.heap.size < W3.heap.size := hlt' hX3
      obtain ⟨X, hXX⟩ : ∃ X, wr.heap.size = X := ⟨_, rfl⟩
      rw [hXX] at HX3 HOB hXw hbw ⊢
      clear hX hgX hX3 hgX3 hob hpb3 hXX HO HS HSEP HB HPOP HPB a0 a1 c0 c1 c2 cs hgw hgs
      obtain ⟨e0, e1, e2, e3⟩ := cells3 HX3.out
      have HTAIL : Hid (∀ (O' : List Int) (ov : Value) (W : World), O' ++ restL N (S' ++ x.kids.reverse) = L → szL N (S' ++ x.kids.reverse) + O'.length + 1 ≤ szL N (S' ++ [(kn : Int)]) + O.length + 1 → szL N (S' ++ x.kids.reverse) < szL N (S' ++ [(kn : Int)]) → True) := Lib.hid (fun _ _ _ _ _ _ => trivial)
      clear HTAIL
      have HIN2 : Hid (∀ k ∈ S' ++ x.kids.reverse, 0 ≤ k ∧ k < (M : Int)) := Lib.hid (fun k hk => by
        rcases List.mem_append.1 hk with hk | hk
        · exact HIN.out k (List.mem_append_left _ hk)
        · have := kids_in HFO.out HX.out k hk
          omega)
      have HAB := Lib.hid (fun (W : World) (hb : b + 1 ≤ W.heap.size) (ho : OwnL W (b + 1) (.slice (some ⟨gs, os, none⟩) q c) S') (hg : w.grownBy W none) => appendBackward_c (b + 1) S' x.kids _ kq kc W hb ho (HKA.out.kept hg) (fun hne a ha => by
        obtain ⟨g2, o2, e, hl, -⟩ := HKA.out.resolve_left (fun h0 => hne (List.length_eq_zero_iff.1 (by have := congrArg List.length h0; rwa [intsV_len] at this)))
        rw [ha] at e
        cases e
        refine ⟨Nat.lt_of_lt_of_le hl hg.size, fun e => ?_⟩
        have h1 := HPB3.out _ e
        have h2 := HBW.out
        simp at h1
        omega) (by
        have h1 := HSZ.out
        have h2 := szL_len HAH.out (S := S' ++ x.kids.reverse) (fun j hj => by rw [HM.out]; exact HIN2.out j hj)
        rw [List.length_append, List.length_reverse] at h2
        by_cases h19 : x.kind = 19
        · have h3 := leaf_step HFO.out (S := S') (k := (kn : Int)) HX.out h19
          rw [h3.2.2] at h1
          rw [h3.2.1, List.reverse_nil, List.append_nil] at h2
          rw [h3.2.1]; simp only [List.length_nil] at h2 ⊢; omega
        · have h3 := node_step HFO.out (S := S') (k := (kn : Int)) HX.out h19
          omega))
      rw [HKL.out] at HAB
      have hb3 : b + 1 ≤ W3.heap.size := by omega
      by_cases h19 : xk = 19
      · have H19 := Lib.hid (leaf_step HFO.out (S := S') (k := (kn : Int)) HX.out (HXK.out.trans h19))
        subst h19
        have hHo : ((one (intsV O)).length ≤ 1000000) := by rw [one_len, intsV_len]; have := HSZ.out; omega
        have HHO := Lib.hid hHo
        have HOL : Hid ((one (intsV O)).length = O.length) := Lib.hid (by rw [one_len, intsV_len])
        clear hHo
        go_wp2_with (at_builtin; go_loud (refine wpList_appGl (s := 1) (t := 52) (T := 3) (by decide) Tryz.underlying52 infoI rfl (by omega) rfl _ _ rfl (b + 1) (one (intsV O)) [.int .i64 xt] rfl (by simp [Value.oneCell']) u5 rfl (OwnG.kept HO3.out (World.grownBy_alloc W3 _ none)) W3.heap.size #[.int .i64 xt] rfl (heap_alloc_new W3 _) rfl HHO.out (by simp; omega) (W3.heap.size + 1) (by simp) ?_))
        intro g9 cap9 w9 hO9 hg9 hl9
        rw [HOL.out] at hO9 ⊢
        have HO9 : Hid (OwnL w9 (b + 1) (.slice (some ⟨g9, 0, none⟩) (O.length + 1) cap9) (O ++ [xt])) := Lib.hid (OwnL.app hO9)
        have HP9 : Hid (OwnL w9 (b + 1) (.slice (some ⟨gs, os, none⟩) q c) S') := Lib.hid (OwnG.keptR (OwnG.kept HP3.out (World.grownBy_alloc W3 _ none)) hg9 (fun k e h => HSE3.out k h e))
        have HX9 := Lib.hid ((hg9.block X (by simp; omega) (fun e => by have := HOB.out X e.symm; omega)).trans (bx (World.grownBy_alloc W3 _ none) HX3.out))
        have HB9 := Lib.hid ((Below.trans2 HB3.out (Below.gb (World.grownBy_alloc W3 _ none) hb3)).grown hg9 (by simp; omega) (fun k e => (OwnG.at HO3.out k e).1))
        have HSE9 : Hid (Sep (.slice (some ⟨g9, 0, none⟩) (O.length + 1) cap9) (.slice (some ⟨gs, os, none⟩) q c)) := Lib.hid (fun k h1 h2 => by
          have h3 : g9 = k := by simpa [Value.ownBlock] using h1
          subst h3
          rcases hl9 with h | h
          · exact HSE3.out _ h h2
          · have := (OwnG.at HP3.out _ h2).2; omega)
        have HS9 : Hid (b + 1 ≤ w9.heap.size ∧ w.grownBy w9 none) := Lib.hid ⟨by have := HB9.out.size; have := HSA.out; omega, below_gb (Below.trans2 (Below.gb HGA.out (Nat.le_refl _)) (HB9.out.mono (by rw [HBW.out]; omega)))⟩
        clear hO9 hg9 hl9 e0 e1 e2 HO3 HP3 HX3 HB3 HSE3 HHO HOL
        obtain ⟨e0, e1, e2, e3⟩ := cells3 HX9.out
        go_wp2_with fail
        refine (HAB.out _ HS9.out.1 HP9.out HS9.out.2).mono ?_
        rintro e w5 ⟨v', rfl, hv', hf', hs'⟩
        have HO5 : Hid (OwnL w5 (b + 1) (.slice (some ⟨g9, 0, none⟩) (O.length + 1) cap9) (O ++ [xt])) := Lib.hid (OwnG.keptF HO9.out hf' (fun k e h => HSE9.out k e h.symm))
        have HV5 : Hid (OwnL w5 (b + 1) v' (S' ++ x.kids.reverse)) := Lib.hid hv'
        have HSE5 : Hid (Sep (.slice (some ⟨g9, 0, none⟩) (O.length + 1) cap9) v') := Lib.hid (fun k h1 h2 => by
          rcases hs' k h2 with h | h
          · exact HSE9.out k h1 h
          · have := (OwnG.at HO9.out k h1).2; omega)
        have HB5 : Hid (Below (b + 1) W1 w5) := Lib.hid (Below.trans2 HB9.out (hf'.below (by have := HB9.out.size; have := HSA.out; omega) (fun k h => HPB3.out k h.symm)))
        clear hv' hf' hs' HO9 HSE9 HB9 HP9 HAB
        go_wp2_with fail
        go_roundw
        case rel => exact ⟨O ++ [xt], S' ++ x.kids.reverse, HO5, HV5, HSE5, Lib.hid (by have h := HR.out; rw [H19.out.1, HXT.out] at h; rw [H19.out.2.1]; simpa using h), HIN2, Lib.hid (by have := HSZ.out; rw [H19.out.2.2] at this; rw [H19.out.2.1]; simp; omega), HB5⟩
        case measure =>
          show szL N (readInts w5 v') < szL N (readInts wr (.slice (some ⟨gs, os, none⟩) q1 c))
          rw [readInts_own HV5.out, HRD.out]
          rw [H19.out.2.1, H19.out.2.2]; simp
      · have d4 : (xk == 19) = false := beq_eq_false_iff_ne.2 h19
        have HND := Lib.hid (node_step HFO.out (S := S') (k := (kn : Int)) HX.out (fun h => h19 (HXK.out.symm.trans h)))
        have HO9 := HO3
        have HP9 := HP3
        have HSE9 := HSE3
        have HB9 := HB3
        have HS9 : Hid (b + 1 ≤ W3.heap.size ∧ w.grownBy W3 none) := Lib.hid ⟨hb3, below_gb (Below.trans2 (Below.gb HGA.out (Nat.le_refl _)) (HB9.out.mono (by rw [HBW.out]; omega)))⟩
        clear HO3 HP3 HSE3 HB3
        go_wp2_with fail
        refine (HAB.out _ HS9.out.1 HP9.out HS9.out.2).mono ?_
        rintro e w5 ⟨v', rfl, hv', hf', hs'⟩
        have HO5 : Hid (OwnL w5 (b + 1) u5 (O)) := Lib.hid (OwnG.keptF HO9.out hf' (fun k e h => HSE9.out k e h.symm))
        have HV5 : Hid (OwnL w5 (b + 1) v' (S' ++ x.kids.reverse)) := Lib.hid hv'
        have HSE5 : Hid (Sep u5 v') := Lib.hid (fun k h1 h2 => by
          rcases hs' k h2 with h | h
          · exact HSE9.out k h1 h
          · have := (OwnG.at HO9.out k h1).2; omega)
        have HB5 : Hid (Below (b + 1) W1 w5) := Lib.hid (Below.trans2 HB9.out (hf'.below (by have := HB9.out.size; have := HSA.out; omega) (fun k h => HPB3.out k h.symm)))
        clear hv' hf' hs' HO9 HSE9 HB9 HP9 HAB
        go_wp2_with fail
        go_roundw
        case rel => exact ⟨O, S' ++ x.kids.reverse, HO5, HV5, HSE5, Lib.hid (by have h := HR.out; rw [HND.out.1] at h; exact h), HIN2, Lib.hid (by have := HSZ.out; rw [HND.out.2] at this; omega), HB5⟩
        case measure =>
          show szL N (readInts w5 v') < szL N (readInts wr (.slice (some ⟨gs, os, none⟩) q1 c))
          rw [readInts_own HV5.out, HRD.out]
          rw [HND.out.2]; omega
end Go.Proofs.YtmlcpihedmmlfaaGreatDoor
