/- Lemmas. -/
import Derived.Test.YtddccnpohpaofaaGreatDoorP33
set_option linter.unusedVariables false
set_option linter.unusedSimpArgs false
namespace Go.Proofs.YtddccnpohpaofaaGreatDoor

/-- An expression: its Op, its name, its module, its number's digits, its truth, its kids, its place. -/
inductive Ex where
  | mk (op : Nat) (nm md nu : List UInt8) (ys : Bool) (ks : List Ex) (ps : Nat)
def nilE : Ex := .mk 0 [] [] [] false [] 0

def tkT (T : List Tok) (i : Nat) : Tok := T[i]?.getD ⟨5, [], [], 0⟩
def signs8 : List (List UInt8) := [[43], [45], [42], [47], [37], [61], [60, 62], [60], [60, 61], [62], [62, 61], [38, 38], [124, 124], [61, 62]]
def binE (s : List UInt8) : Nat := if signs8.idxOf s < 14 then 7 + signs8.idxOf s else 0
def unE (s : List UInt8) : Nat := if s = [45] then 5 else 6

/-- An expression of its node's kind, its own tokens and its kids. -/
def nodeE (k : Nat) (o : Nat → Tok) (ks : List Ex) : Ex :=
  if k = 7 then .mk 22 (o 1).text [] [] false ks (o 0).pos
  else if k = 8 then .mk 21 [] [] [] false ks (o 0).pos
  else if k = 9 then .mk 23 [] [] [] false ks (o 0).pos
  else if k = 10 then .mk (binE (o 0).text) [] [] [] false ks (o 0).pos
  else if k = 11 then .mk (unE (o 0).text) [] [] [] false ks (o 0).pos
  else if k = 13 then (if (o 1).text = [46] then .mk 24 (o 2).text (o 0).text [] false ks (o 0).pos else .mk 24 (o 0).text [] [] false ks (o 0).pos)
  else if k = 14 then .mk 3 (o 0).text [] [] false ks (o 0).pos
  else if k = 15 then .mk 1 [] [] (o 0).text false ks (o 0).pos
  else if k = 16 then .mk 2 [] [] [] (decide ((o 0).text = [116, 114, 117, 101])) ks (o 0).pos
  else .mk 4 [] [] [] false ks (o 0).pos

/-- The tokens of the leaves of a list. -/
def ownL : List Tr → List Nat
  | [] => []
  | .lf i :: l => i :: ownL l
  | .nd _ _ :: l => ownL l
def isN : Tr → Bool
  | .lf _ => false
  | .nd _ _ => true
mutual
def axT (T : List Tok) : Tr → Ex
  | .lf _ => nilE
  | .nd k l => if k = 12 then (axTs T l).headD nilE else nodeE k (fun j => tkT T ((ownL l).getD j T.length)) (axTs T l)
/-- Of the nodes of a list alone. -/
def axTs (T : List Tok) : List Tr → List Ex
  | [] => []
  | t :: l => if isN t = true then axT T t :: axTs T l else axTs T l
end

def numOk (t : List UInt8) : Prop := 0 < t.length ∧ t.length ≤ 60 ∧ (∀ b ∈ t, isDig b = true) ∧ (1 < t.length → t.head? ≠ some 48)
inductive ShE (T : List Tok) : Nat → List Tr → Prop
  | let_ (i j k m : Nat) (t u : Tr) : isN t = true → isN u = true → ShE T 7 [.lf i, .lf j, .lf k, t, .lf m, u]
  | if_ (i j k : Nat) (t u v : Tr) : isN t = true → isN u = true → isN v = true → ShE T 8 [.lf i, t, .lf j, u, .lf k, v]
  | assert_ (i j : Nat) (t u : Tr) : isN t = true → isN u = true → ShE T 9 [.lf i, t, .lf j, u]
  | bin (i : Nat) (t u : Tr) : isN t = true → isN u = true → (tkT T i).text ∈ signs8 → ShE T 10 [t, .lf i, u]
  | una (i : Nat) (t : Tr) : isN t = true → (tkT T i).text = [45] ∨ (tkT T i).text = [110, 111, 116] → ShE T 11 [.lf i, t]
  | grp (i j : Nat) (t : Tr) : isN t = true → ShE T 12 [.lf i, t, .lf j]
  | call (i j : Nat) (l : List Tr) : (tkT T j).text ≠ [46] → ShE T 13 (.lf i :: .lf j :: l)
  | callm (i j m : Nat) (l : List Tr) : (tkT T j).text = [46] → ShE T 13 (.lf i :: .lf j :: .lf m :: l)
  | nam (i : Nat) : ShE T 14 [.lf i]
  | num (i : Nat) : numOk (tkT T i).text → ShE T 15 [.lf i]
  | tru (i : Nat) : ShE T 16 [.lf i]
  | res (i : Nat) : ShE T 17 [.lf i]
mutual
/-- A tree of the form that an expression's has. -/
def WE (T : List Tok) : Tr → Prop
  | .lf _ => True
  | .nd k l => ShE T k l ∧ WEs T l
def WEs (T : List Tok) : List Tr → Prop
  | [] => True
  | t :: l => WE T t ∧ WEs T l
end
def One (T : List Tok) (l : List Tr) : Prop := ∃ t, l = [t] ∧ isN t = true ∧ WE T t
abbrev WO (T : List Tok) (r : RT) : Prop := r.2.e = 0 → One T r.1
abbrev WL (T : List Tok) (r : RT) : Prop := r.2.e = 0 → WEs T r.1
def NumTok (T : List Tok) : Prop := ∀ t ∈ T, t.kind = 3 → numOk t.text

theorem WEs_append {T : List Tok} {a b : List Tr} (h1 : WEs T a) (h2 : WEs T b) : WEs T (a ++ b) := by
  induction a with
  | nil => exact h2
  | cons t a ih => simp only [List.cons_append, WEs] at h1 ⊢; exact ⟨h1.1, ih h1.2⟩
theorem WEs_lf {T : List Tok} {i : Nat} {l : List Tr} (h : WEs T l) : WEs T (.lf i :: l) := by simp only [WEs, WE]; exact ⟨trivial, h⟩
theorem WEs_cons {T : List Tok} {t : Tr} {l : List Tr} (h1 : WE T t) (h : WEs T l) : WEs T (t :: l) := by simp only [WEs]; exact ⟨h1, h⟩
theorem WEs_nil {T : List Tok} : WEs T [] := by simp [WEs]
theorem One.nd {T : List Tok} {k : Nat} {l : List Tr} (h1 : ShE T k l) (h2 : WEs T l) : One T [.nd k l] := ⟨_, rfl, rfl, by simp only [WE]; exact ⟨h1, h2⟩⟩
theorem alive {s : St} {r : RT} (h : Keep s r) (he : r.2.e = 0) : s.e = 0 := by
  rcases Nat.eq_zero_or_pos s.e with h0 | h0
  · exact h0
  · have := h.dead (by omega); rw [this] at he; exact he

section
variable (T : List Tok)
theorem leaf_1 (s : St) : (leafT T s).1 = [.lf s.i] := rfl
theorem must_w {w : List UInt8} {s : St} (h : (mustT T w s).2.e = 0) : (mustT T w s).1 = [.lf s.i] ∧ (tkT T s.i).text = w ∧ ((tkT T s.i).kind = 2 ∨ (tkT T s.i).kind = 4) ∧ s.e = 0 := by
  unfold mustT at h ⊢
  split
  · rename_i hk
    unfold isQ at hk
    have hk := of_decide_eq_true hk
    exact ⟨rfl, hk.2.2, hk.2.1, hk.1⟩
  · rename_i hk
    rw [if_neg hk] at h
    exact absurd h (fail_e T (by decide) s)
theorem kind_w {k : Nat} {s : St} (h : (kindT T k s).2.e = 0) : (kindT T k s).1 = [.lf s.i] ∧ (tkT T s.i).kind = k ∧ s.e = 0 := by
  unfold kindT at h ⊢
  split
  · rename_i hk; exact ⟨rfl, hk.2, hk.1⟩
  · rename_i hk
    rw [if_neg hk] at h
    exact absurd h (fail_e T (by decide) s)
theorem is_w {w : List UInt8} {s : St} (h : isQ T w s = true) : (tkT T s.i).text = w ∧ ((tkT T s.i).kind = 2 ∨ (tkT T s.i).kind = 4) ∧ s.e = 0 := by
  unfold isQ at h
  have hk := of_decide_eq_true h
  exact ⟨hk.2.2, hk.2.1, hk.1⟩
theorem row_w {c : St → Bool} {sub : St → RT} (hc : ∀ s, c s = true → s.e = 0 ∧ (tkT T s.i).text ∈ signs8) (hk : ∀ s, Keep s (sub s)) (hs : ∀ s, WO T (sub s)) : ∀ f r, WO T r → WO T (rwT T c sub f r)
  | 0, r, h => h
  | f + 1, r, h => by
    unfold rwT
    split
    · rename_i hcc
      refine row_w hc hk hs f _ fun he => ?_
      have h1 := hc _ hcc
      obtain ⟨t, ht, ht1, ht2⟩ := h h1.1
      obtain ⟨u, hu, hu1, hu2⟩ := hs _ he
      show One T [.nd 10 (r.1 ++ (leafT T r.2).1 ++ (sub (leafT T r.2).2).1)]
      rw [ht, hu, leaf_1]
      exact One.nd (ShE.bin _ t u ht1 hu1 h1.2) (WEs_cons ht2 (WEs_lf (WEs_cons hu2 WEs_nil)))
    · exact h
theorem parts_w {sub : St → RT} (hk : ∀ s, Keep s (sub s)) (hs : ∀ s, WO T (sub s)) : ∀ f k r, WL T r → WL T (partsT T sub f k r)
  | 0, k, r, h => h
  | f + 1, k, r, h => by
    unfold partsT
    split
    · rename_i hcc
      refine parts_w hk hs f _ _ fun he => ?_
      obtain ⟨u, hu, hu1, hu2⟩ := hs _ he
      show WEs T (r.1 ++ (leafT T r.2).1 ++ (sub (if k = 8 then failQ T 15 (leafT T r.2).2 else (leafT T r.2).2)).1)
      rw [hu, leaf_1]
      exact WEs_append (WEs_append (h (is_w T hcc).2.2) (WEs_lf WEs_nil)) (WEs_cons hu2 WEs_nil)
    · exact h
structure NxW (D n : Nat) (nt : NxT) : Prop where
  expr : ∀ s, WO T (nt.expr s)
  formula : n < D → ∀ s, WO T (nt.formula s)
  nots : n < D → ∀ s, WO T (nt.nots s)
  factor : n < D → ∀ s, WO T (nt.factor s)
end

section
variable (T : List Tok) (hT : NumTok T) (D n : Nat) {nt : NxT} (h : NxW T D n nt) (hk : NxK nt)
include h hk
theorem args_w (s : St) : WL T (argsT T nt s) := parts_w T hk.expr h.expr _ _ _ fun he => by
  obtain ⟨t, ht, -, h2⟩ := h.expr s he
  rw [ht]; exact WEs_cons h2 WEs_nil
theorem name_w (s : St) (hs : s.e = 0) : WO T (nameT T nt s) := by
  unfold nameT
  split
  · intro _; exact One.nd (ShE.nam s.i) (WEs_lf WEs_nil)
  · intro he
    -- the end
    have e1 : (mustT T [41] (nameDT T nt (nameCT T (nameBT T (leafT T s)))).2).2.e = 0 := he
    obtain ⟨m1, -, -, d0⟩ := must_w T e1
    obtain ⟨rest, hr, hw, c0⟩ : ∃ rest, (nameDT T nt (nameCT T (nameBT T (leafT T s)))).1 = (nameCT T (nameBT T (leafT T s))).1 ++ rest ∧ WEs T rest ∧ (nameCT T (nameBT T (leafT T s))).2.e = 0 := by
      unfold nameDT at d0 ⊢
      split
      · rename_i hc
        exact ⟨[], by simp, WEs_nil, (is_w T hc).2.2⟩
      · rename_i hc
        rw [if_neg hc] at d0
        have d0 : (argsT T nt (nameCT T (nameBT T (leafT T s))).2).2.e = 0 := d0
        exact ⟨_, rfl, args_w T D n h hk _ d0, alive (args_keep T hk _) d0⟩
    have e2 : (mustT T [40] (nameBT T (leafT T s)).2).2.e = 0 := c0
    obtain ⟨m2, w2, -, b0⟩ := must_w T e2
    show One T [.nd 13 ((nameDT T nt (nameCT T (nameBT T (leafT T s)))).1 ++ (mustT T [41] (nameDT T nt (nameCT T (nameBT T (leafT T s)))).2).1)]
    rw [m1, hr]
    show One T [.nd 13 ((nameBT T (leafT T s)).1 ++ (mustT T [40] (nameBT T (leafT T s)).2).1 ++ rest ++ [.lf _])]
    rw [m2]
    unfold nameBT at b0 w2 ⊢
    by_cases hd : isQ T [46] (leafT T s).2 = true
    · rw [if_pos hd] at b0 w2 ⊢
      have b0 : (kindT T 1 (leafT T (leafT T s).2).2).2.e = 0 := b0
      obtain ⟨k1, -, -⟩ := kind_w T b0
      show One T [.nd 13 ((leafT T s).1 ++ (leafT T (leafT T s).2).1 ++ (kindT T 1 (leafT T (leafT T s).2).2).1 ++ [.lf _] ++ rest ++ [.lf _])]
      rw [k1, leaf_1, leaf_1]
      refine One.nd (ShE.callm _ _ _ _ (is_w T hd).1) ?_
      exact WEs_append (WEs_append (WEs_lf (WEs_lf (WEs_lf (WEs_lf WEs_nil)))) hw) (WEs_lf WEs_nil)
    · rw [if_neg hd] at b0 w2 ⊢
      rw [leaf_1]
      refine One.nd (ShE.call _ _ _ (by rw [w2]; decide)) ?_
      exact WEs_append (WEs_append (WEs_lf (WEs_lf WEs_nil)) hw) (WEs_lf WEs_nil)
include hT
theorem atom_w (s : St) : WO T (atomT T nt s) := by
  unfold atomT
  split
  · rename_i he; intro h9; exact absurd h9 he
  rename_i he
  have he : s.e = 0 := by omega
  split
  · rename_i h3
    intro _
    refine One.nd (ShE.num s.i ?_) (WEs_lf WEs_nil)
    have h4 : (tkT T s.i).kind = 3 := h3
    unfold tkT at h4 ⊢
    cases ht : T[s.i]? with
    | none => rw [ht] at h4; cases h4
    | some t => rw [ht] at h4; exact hT t (List.mem_of_getElem? ht) h4
  split
  · intro _; exact One.nd (ShE.tru s.i) (WEs_lf WEs_nil)
  split
  · intro _; exact One.nd (ShE.res s.i) (WEs_lf WEs_nil)
  split
  · intro h9
    obtain ⟨m1, -, -, b0⟩ := must_w T h9
    obtain ⟨u, hu, hu1, hu2⟩ := h.expr _ b0
    show One T [.nd 12 ((leafT T s).1 ++ (nt.expr (leafT T s).2).1 ++ (mustT T [41] (nt.expr (leafT T s).2).2).1)]
    rw [m1, hu, leaf_1]
    exact One.nd (ShE.grp _ _ u hu1) (WEs_lf (WEs_cons hu2 (WEs_lf WEs_nil)))
  split
  · exact name_w T D n h hk s he
  · intro h9; exact absurd h9 (fail_e T (by decide) s)
omit hT h hk in
theorem sign_w {sub : St → RT} (hs : n < D → ∀ s, WO T (sub s)) {s : St} (hw : (tkT T s.i).text = [45] ∨ (tkT T s.i).text = [110, 111, 116]) : WO T (signT T D n sub s) := by
  unfold signT
  simp only []
  split
  · rename_i he; intro h9; exact absurd h9 he
  · rename_i he
    intro h9
    have hn : n < D := by
      rcases Nat.lt_or_ge n D with h1 | h1
      · exact h1
      · exfalso; apply he
        unfold nestQ; rw [if_pos (by omega)]; exact fail_e T (by decide) _
    obtain ⟨u, hu, hu1, hu2⟩ := hs hn _ h9
    show One T [.nd 11 ((leafT T s).1 ++ (sub (nestQ T D (n + 1) (leafT T s).2)).1)]
    rw [hu, leaf_1]
    exact One.nd (ShE.una _ u hu1 hw) (WEs_lf (WEs_cons hu2 WEs_nil))
theorem factor_w (s : St) : WO T (factorT T D n nt s) := by
  unfold factorT; split
  · rename_i hc; exact sign_w T D n h.factor (.inl (is_w T hc).1)
  · exact atom_w T hT D n h hk s
omit hT h hk in
theorem mem_of_is {w : List UInt8} (hw : w ∈ signs8) {s : St} (h : isQ T w s = true) : s.e = 0 ∧ (tkT T s.i).text ∈ signs8 := ⟨(is_w T h).2.2, by rw [(is_w T h).1]; exact hw⟩
theorem product_w (s : St) : WO T (productT T D n nt s) := row_w T (fun s hc => by
  unfold isMul at hc
  simp only [Bool.or_eq_true] at hc
  rcases hc with (hc | hc) | hc <;> exact mem_of_is T (by decide) hc) (factor_keep T D n hk) (factor_w T hT D n h hk) _ _ (factor_w T hT D n h hk s)
theorem sum_w (s : St) : WO T (sumT T D n nt s) := row_w T (fun s hc => by
  unfold isAdd at hc
  simp only [Bool.or_eq_true] at hc
  rcases hc with hc | hc <;> exact mem_of_is T (by decide) hc) (product_keep T D n hk) (product_w T hT D n h hk) _ _ (product_w T hT D n h hk s)
theorem not_w (s : St) : WO T (notT T D n nt s) := by
  unfold notT
  simp only []
  split
  · rename_i hc; exact sign_w T D n h.nots (.inr (is_w T hc).1)
  split
  · rename_i hc
    intro h9
    have hm : (sumT T D n nt s).2.e = 0 ∧ (tkT T (sumT T D n nt s).2.i).text ∈ signs8 := by
      unfold isCmp at hc
      simp only [Bool.or_eq_true] at hc
      rcases hc with ((((hc | hc) | hc) | hc) | hc) | hc <;> exact mem_of_is T (by decide) hc
    obtain ⟨t, ht, ht1, ht2⟩ := sum_w T hT D n h hk s hm.1
    obtain ⟨u, hu, hu1, hu2⟩ := sum_w T hT D n h hk _ h9
    show One T [.nd 10 ((sumT T D n nt s).1 ++ (leafT T (sumT T D n nt s).2).1 ++ (sumT T D n nt (leafT T (sumT T D n nt s).2).2).1)]
    rw [ht, hu, leaf_1]
    exact One.nd (ShE.bin _ t u ht1 hu1 hm.2) (WEs_cons ht2 (WEs_lf (WEs_cons hu2 WEs_nil)))
  · exact sum_w T hT D n h hk s
theorem and_w (s : St) : WO T (andT T D n nt s) := row_w T (fun s hc => mem_of_is T (by decide) hc) (not_keep T D n hk) (not_w T hT D n h hk) _ _ (not_w T hT D n h hk s)
theorem or_w (s : St) : WO T (orT T D n nt s) := row_w T (fun s hc => mem_of_is T (by decide) hc) (and_keep T D n hk) (and_w T hT D n h hk) _ _ (and_w T hT D n h hk s)
theorem formula_w (s : St) : WO T (formulaT T D n nt s) := by
  unfold formulaT
  simp only []
  split
  · rename_i hc
    split
    · rename_i he; intro h9; exact absurd h9 he
    · rename_i he
      intro h9
      have hn : n < D := by
        rcases Nat.lt_or_ge n D with h1 | h1
        · exact h1
        · exfalso; apply he
          unfold nestQ; rw [if_pos (by omega)]; exact fail_e T (by decide) _
      have hm := mem_of_is T (by decide) hc
      obtain ⟨t, ht, ht1, ht2⟩ := or_w T hT D n h hk s hm.1
      obtain ⟨u, hu, hu1, hu2⟩ := h.formula hn _ h9
      show One T [.nd 10 ((orT T D n nt s).1 ++ (leafT T (orT T D n nt s).2).1 ++ (nt.formula (nestQ T D (n + 1) (leafT T (orT T D n nt s).2).2)).1)]
      rw [ht, hu, leaf_1]
      exact One.nd (ShE.bin _ t u ht1 hu1 hm.2) (WEs_cons ht2 (WEs_lf (WEs_cons hu2 WEs_nil)))
  · exact or_w T hT D n h hk s
omit hT
theorem let_w (s : St) : WO T (letT T nt s) := by
  intro h9
  obtain ⟨u, hu, hu1, hu2⟩ := h.expr _ h9
  have h8 := alive (hk.expr _) h9
  obtain ⟨m1, -, -, h7⟩ := must_w T h8
  obtain ⟨t, ht, ht1, ht2⟩ := h.expr _ h7
  have h6 := alive (hk.expr _) h7
  obtain ⟨m2, -, -, h5⟩ := must_w T h6
  obtain ⟨k1, -, -⟩ := kind_w T h5
  unfold letT
  simp only []
  rw [hu, m1, ht, m2, k1, leaf_1]
  exact One.nd (ShE.let_ _ _ _ _ t u ht1 hu1) (WEs_lf (WEs_lf (WEs_lf (WEs_cons ht2 (WEs_lf (WEs_cons hu2 WEs_nil))))))
theorem if_w (s : St) : WO T (ifT T nt s) := by
  intro h9
  obtain ⟨v, hv, hv1, hv2⟩ := h.expr _ h9
  have h8 := alive (hk.expr _) h9
  obtain ⟨m1, -, -, h7⟩ := must_w T h8
  obtain ⟨u, hu, hu1, hu2⟩ := h.expr _ h7
  have h6 := alive (hk.expr _) h7
  obtain ⟨m2, -, -, h5⟩ := must_w T h6
  obtain ⟨t, ht, ht1, ht2⟩ := h.expr _ h5
  unfold ifT
  simp only []
  rw [hv, m1, hu, m2, ht, leaf_1]
  exact One.nd (ShE.if_ _ _ _ t u v ht1 hu1 hv1) (WEs_lf (WEs_cons ht2 (WEs_lf (WEs_cons hu2 (WEs_lf (WEs_cons hv2 WEs_nil))))))
theorem assert_w (s : St) : WO T (assertT T nt s) := by
  intro h9
  obtain ⟨u, hu, hu1, hu2⟩ := h.expr _ h9
  have h8 := alive (hk.expr _) h9
  obtain ⟨m1, -, -, h7⟩ := must_w T h8
  obtain ⟨t, ht, ht1, ht2⟩ := h.expr _ h7
  unfold assertT
  simp only []
  rw [hu, m1, ht, leaf_1]
  exact One.nd (ShE.assert_ _ _ t u ht1 hu1) (WEs_lf (WEs_cons ht2 (WEs_lf (WEs_cons hu2 WEs_nil))))
include hT
theorem expr_w (s : St) : WO T (exprT T D n nt s) := by
  unfold exprT
  simp only []
  split
  · rename_i he; intro h9; exact absurd h9 he
  split
  · exact let_w T D n h hk _
  split
  · exact if_w T D n h hk _
  split
  · exact assert_w T D n h hk _
  · exact formula_w T hT D n h hk _
end
theorem nx_w (T : List Tok) (hT : NumTok T) (D : Nat) : ∀ d, d ≤ D → NxW T D (D - d) (nxT T D d)
  | 0, _ => ⟨fun s h9 => absurd h9 (by show (nestQ T D (D + 1) s).e ≠ 0; rw [nest_deep]; exact fail_e T (by decide) s), fun h => by omega, fun h => by omega, fun h => by omega⟩
  | d + 1, h => by
    have ih := nx_w T hT D d (by omega)
    have hk := nx_keep T D d
    exact ⟨expr_w T hT D _ ih hk, fun _ => formula_w T hT D _ ih hk, fun _ => not_w T hT D _ ih hk, fun _ => factor_w T hT D _ ih hk⟩

/-! ### Numbers' tokens -/

theorem runN_take (p : UInt8 → Bool) : ∀ (l : List UInt8), ∀ b ∈ l.take (runN p l), p b = true
  | [], b, h => by simp [runN] at h
  | a :: r, b, h => by
    by_cases ha : p a = true
    · have e : runN p (a :: r) = runN p r + 1 := by simp [runN, ha]
      rw [e, List.take_succ_cons, List.mem_cons] at h
      rcases h with rfl | h
      · exact ha
      · exact runN_take p r b h
    · have e : runN p (a :: r) = 0 := by simp [runN, ha]
      rw [e] at h; simp at h
theorem first_num {l : List UInt8} (h : (firstE l).1 = 3) : ∀ b ∈ l.take (firstE l).2, isDig b = true := by
  cases l with
  | nil => simp [firstE] at h
  | cons a r =>
    rw [firstE_cons] at h ⊢
    split at h
    · rename_i h1
      simp only at h
      split at h <;> cases h
    · rename_i h1
      rw [if_neg h1]
      split at h
      · rename_i h2
        rw [if_pos h2]
        exact runN_take isDig (a :: r)
      · split at h <;> cases h
theorem tok_num {l : List UInt8} {p : Nat} (hw : wrongE (tokE l p).kind (tokE l p).text = 0) (hk : (tokE l p).kind = 3) : numOk (tokE l p).text := by
  have h1 : (firstE (l.drop (sk false l))).1 = 3 := hk
  have h2 := firstE_pos (l := l.drop (sk false l)) (by omega) (by omega)
  have h3 := firstE_le (l.drop (sk false l))
  have h4 := first_num h1
  unfold wrongE at hw
  rw [if_neg (by rw [hk]; rintro (h | ⟨h, -⟩) <;> cases h)] at hw
  have h5 : ¬ ((tokE l p).kind = 3 ∧ (60 < (tokE l p).text.length ∨ 1 < (tokE l p).text.length ∧ (tokE l p).text.head? = some 48)) := fun e => by rw [if_pos e] at hw; cases hw
  have h6 : (tokE l p).text.length = (firstE (l.drop (sk false l))).2 := by
    show ((l.drop (sk false l)).take _).length = _
    rw [List.length_take]; omega
  refine ⟨by omega, ?_, h4, fun h7 h8 => h5 ⟨hk, .inr ⟨h7, h8⟩⟩⟩
  rcases Nat.lt_or_ge 60 (tokE l p).text.length with h | h
  · exact absurd ⟨hk, .inl h⟩ h5
  · exact h
theorem num_lexG : ∀ (f : Nat) (l : List UInt8) (p : Nat), NumTok (lexG f l p).1
  | 0, l, p => fun t ht => by simp [lexG] at ht
  | f + 1, l, p => by
    intro t ht hk
    by_cases hw : wrongE (tokE l p).kind (tokE l p).text ≠ 0
    · rw [lexG_fault hw] at ht; simp at ht
    · have hw : wrongE (tokE l p).kind (tokE l p).text = 0 := by omega
      by_cases h5 : (tokE l p).kind = 5
      · rw [lexG_end hw h5] at ht
        simp at ht; subst ht
        exact tok_num hw hk
      · rw [lexG_more hw h5] at ht
        rcases List.mem_cons.1 ht with rfl | ht
        · exact tok_num hw hk
        · exact num_lexG f _ _ t ht hk
theorem num_all (l : List UInt8) : NumTok (allE l).1 := num_lexG _ l 0
end Go.Proofs.YtddccnpohpaofaaGreatDoor
namespace Go.Proofs.YtddccnpohpaofaaGreatDoor
open Go.RowKit

def toI (t : Tok) : TokI := ⟨(t.kind : Int), t.lead, t.text, (t.pos : Int)⟩
theorem app_list (a b : ByteArray) : (a ++ b).data.toList = a.data.toList ++ b.data.toList := by rw [ByteArray.data_append, Array.toList_append]
theorem sz_list {a : ByteArray} {l : List UInt8} (h : a.data.toList = l) : a.size = l.length := by rw [← list_len, h]


/-! ### Kids, each once -/

/-! ### The form of each node -/

/-! ### Leaves and dumps -/

/-- A part of a row. -/
def PartAt (N : List Nd) (b : Nat) (P : List Nd) : Prop := ∀ (j : Nat) (x : Nd), P[j]? = some x → N[b + j]? = some x
theorem PartAt.left {N : List Nd} {b : Nat} {P Q : List Nd} (h : PartAt N b (P ++ Q)) : PartAt N b P := fun j x hx => h j x (by rw [List.getElem?_append_left (List.getElem?_eq_some_iff.1 hx).1]; exact hx)
theorem PartAt.right {N : List Nd} {b : Nat} {P Q : List Nd} (h : PartAt N b (P ++ Q)) : PartAt N (b + P.length) Q := fun j x hx => by
  have := h (P.length + j) x (by rw [List.getElem?_append_right (by omega), Nat.add_sub_cancel_left]; exact hx)
  rw [Nat.add_assoc]; exact this
theorem part_self (N : List Nd) : PartAt N 0 N := fun j x hx => by rw [Nat.zero_add]; exact hx
/-! ### How long a dump is -/

end Go.Proofs.YtddccnpohpaofaaGreatDoor
namespace Go.Proofs.YtddccnpohpaofaaGreatDoor.Zd
open Go.RowKit Mx

theorem md_cons (t : List UInt8) : minus (45 :: t) = true ∧ digs (45 :: t) = t := by
  simp [minus, digs, Lib.hasPrefix, Lib.trimPrefix]
theorem md_other {x : UInt8} {t : List UInt8} (h : x.toNat ≠ 45) : minus (x :: t) = false ∧ digs (x :: t) = x :: t := by
  have hx : x ≠ 45 := fun e => h (by rw [e]; rfl)
  have h1 : Lib.hasPrefix (x :: t) [45] = false := by
    have : ((45 : UInt8) == x) = false := beq_eq_false_iff_ne.2 (fun e => hx e.symm)
    simp [Lib.hasPrefix, List.isPrefixOf, this]
  exact ⟨h1, by unfold digs Lib.trimPrefix; rw [h1]; rfl⟩

theorem md45 {l : List UInt8} (h : 0 < l.length) (hb : l[0].toNat = 45) : minus l = true ∧ digs l = l.drop 1 := by
  match l, h, hb with
  | x :: t, _, hb =>
    obtain rfl : x = 45 := UInt8.toNat_inj.1 hb
    exact md_cons t
theorem mdne {l : List UInt8} (h : 0 < l.length) (hb : l[0].toNat ≠ 45) : minus l = false ∧ digs l = l := by
  match l, h, hb with
  | x :: t, _, hb => exact md_other hb

/-- The j-th digit. -/
def dgt (D : List UInt8) (j : Nat) : Nat := (D.getD j 0).toNat - 48

theorem dgt_get {D : List UInt8} {j : Nat} (h : j < D.length) : dgt D j = D[j].toNat - 48 := by
  unfold dgt; rw [List.getD_eq_getElem?_getD, List.getElem?_eq_getElem h]; rfl

theorem valL_V (D : List UInt8) : ∀ k, k ≤ D.length → valL (D.take k) = V 10 (fun j => dgt D (k - 1 - j)) 0 k
  | 0, _ => by simp [valL, V]
  | k + 1, h => by
    rw [valL_take (by omega), valL_V D k (by omega), V_front, ← dgt_get]
    simp only [Nat.add_sub_cancel]
    rw [V_congr (f := fun j => dgt D (k - j)) (g := fun j => dgt D (k - 1 - j)) (o := 1) (p := 0) (fun j hj => by
      show dgt D (k - (1 + j)) = dgt D (k - 1 - (0 + j))
      congr 1; omega)]
    show _ = dgt D (k - 0) + _
    rw [Nat.sub_zero]; omega

theorem valL_all (D : List UInt8) : valL D = V 10 (fun j => dgt D (D.length - 1 - j)) 0 D.length := by
  have := valL_V D D.length (Nat.le_refl _)
  rwa [List.take_length] at this

theorem v10_pos {n : Nat} {f : Nat → Nat} (t : n = 0 ∨ f (n - 1) ≠ 0) : 0 < n ↔ V 10 f 0 n ≠ 0 := by
  constructor
  · intro h
    rcases V_top (b := 10) (f := f) (o := 0) (n := n) (by simpa using t) with e | e
    · omega
    · have := Nat.pow_pos (n := n - 1) (show 0 < 10 by omega); omega
  · intro h
    rcases Nat.eq_zero_or_pos n with e | e
    · subst e; exact absurd rfl h
    · exact e

theorem lim_le_pow {N k : Nat} (h : N ≤ Bw ^ k) (hk : k < LimN) : N < Lim := by
  unfold Lim
  exact Nat.lt_of_le_of_lt h (Nat.pow_lt_pow_right (by unfold Bw; omega) hk)

theorem valL_go (l : List UInt8) (h : ∀ b ∈ l, b.toNat ≤ 57) (a : Nat) : l.foldl (fun a b => 10 * a + (b.toNat - 48)) a < (a + 1) * 10 ^ l.length := by
  induction l generalizing a with
  | nil => simp
  | cons x xs ih =>
    have h1 := h x (by simp)
    have h2 := ih (fun b hb => h b (by simp [hb])) (10 * a + (x.toNat - 48))
    rw [List.foldl_cons, List.length_cons, Nat.pow_succ]
    refine Nat.lt_of_lt_of_le h2 ?_
    have h3 : 10 * a + (x.toNat - 48) + 1 ≤ (a + 1) * 10 := by omega
    calc (10 * a + (x.toNat - 48) + 1) * 10 ^ xs.length ≤ ((a + 1) * 10) * 10 ^ xs.length := Nat.mul_le_mul_right _ h3
      _ = (a + 1) * (10 ^ xs.length * 10) := by rw [Nat.mul_assoc, Nat.mul_comm 10]

theorem valL_lt {l : List UInt8} (h : plain l = true) : valL l < 10 ^ l.length := by
  have := valL_go l (fun b hb => by
    obtain ⟨j, hj, rfl⟩ := List.getElem_of_mem hb
    exact (plain_dig h j hj).2) 0
  simpa [valL] using this

theorem digs_le (l : List UInt8) : (digs l).length ≤ l.length := by
  unfold digs Lib.trimPrefix
  split
  · simp
  · exact Nat.le_refl _

/-- What is read from a text of k bytes is less than 10 to the power of k, and of 60. -/
theorem parseV_lt (l : List UInt8) : (parseV l).natAbs < 10 ^ l.length ∧ (parseV l).natAbs < 10 ^ 60 := by
  unfold parseV
  by_cases h : parseE l = 0
  · rw [if_pos h]
    have e : (sgn (minus l) (valL (digs l))).natAbs = valL (digs l) := by unfold sgn; split <;> simp
    rw [e]
    have h1 : plain (digs l) = true ∧ (digs l).length ≤ 60 := by
      unfold parseE at h
      by_cases h60 : 60 < (digs l).length
      · rw [if_pos h60] at h; omega
      · rw [if_neg h60] at h
        by_cases hp : plain (digs l) = false
        · rw [if_pos (.inl hp)] at h; omega
        · exact ⟨by simpa using hp, by omega⟩
    have h2 := valL_lt h1.1
    exact ⟨Nat.lt_of_lt_of_le h2 (Nat.pow_le_pow_right (by omega) (digs_le l)), Nat.lt_of_lt_of_le h2 (Nat.pow_le_pow_right (by omega) h1.2)⟩
  · rw [if_neg h]
    exact ⟨by simpa using Nat.pow_pos (by omega), by simp⟩

theorem parseV_lim (l : List UInt8) : (parseV l).natAbs < Lim := by
  refine lim_le_pow (k := 4) (Nat.le_of_lt (Nat.lt_of_lt_of_le (parseV_lt l).2 ?_)) (by unfold LimN; omega)
  have h1 : (10 : Nat) ^ 60 ≤ (10 ^ 19) ^ 4 := by rw [← Nat.pow_mul]; exact Nat.pow_le_pow_right (by omega) (by omega)
  exact Nat.le_trans h1 (Nat.pow_le_pow_left (by unfold Bw; omega) 4)

theorem decL_digits {D : List UInt8} (hp : ∀ j (hj : j < D.length), 48 ≤ D[j].toNat ∧ D[j].toNat ≤ 57) (h0 : 0 < D.length) (ht : D[0].toNat ≠ 48) : valL D ≠ 0 ∧ decL (valL D) = D := by
  have hv := valL_all D
  have hf : ∀ j, j < D.length → dgt D (D.length - 1 - j) < 10 := by
    intro j hj
    have hjl : D.length - 1 - j < D.length := by omega
    have := hp _ hjl
    rw [dgt_get hjl]; omega
  have htop : dgt D (D.length - 1 - (D.length - 1)) ≠ 0 := by
    rw [Nat.sub_self, dgt_get h0]
    have := hp 0 h0; omega
  have hne : valL D ≠ 0 := by
    rw [hv]; exact (v10_pos (f := fun j => dgt D (D.length - 1 - j)) (.inr htop)).1 h0
  obtain ⟨d1, d2⟩ := digits_of (f := fun j => dgt D (D.length - 1 - j)) hf h0 htop hv.symm
  refine ⟨hne, List.ext_getElem (by rw [decL_len, ← d1]) fun j h1 h2 => ?_⟩
  apply UInt8.toNat_inj.1
  rw [decL_get, ← d1, ← d2 (D.length - 1 - j) (by omega)]
  show 48 + dgt D (D.length - 1 - (D.length - 1 - j)) = _
  rw [show D.length - 1 - (D.length - 1 - j) = j by omega, dgt_get h2]
  have := hp j h2
  omega

theorem split_l (l : List UInt8) : l = if minus l then 45 :: digs l else digs l := by
  match l with
  | [] => rfl
  | x :: t =>
    by_cases hx : x.toNat = 45
    · obtain ⟨h1, h2⟩ := md45 (l := x :: t) (by simp) hx
      have : x = 45 := UInt8.toNat_inj.1 hx
      rw [h1, if_pos rfl, h2, this]; rfl
    · obtain ⟨h1, h2⟩ := mdne (l := x :: t) (by simp) hx
      rw [h1, h2]; rfl

theorem txtL_parse {l : List UInt8} (h : parseE l = 0) : txtL (parseV l) = l := by
  have hE := h
  unfold parseE at h
  by_cases h60 : 60 < (digs l).length
  · rw [if_pos h60] at h; cases h
  · rw [if_neg h60] at h
    by_cases hb : plain (digs l) = false ∨ (minus l = true ∧ digs l = [48])
    · rw [if_pos hb] at h; cases h
    · have hp : plain (digs l) = true := by
        rcases hp : plain (digs l) with _ | _
        · exact absurd (.inl hp) hb
        · rfl
      have hdig := plain_dig hp
      have hmz : ¬ (minus l = true ∧ digs l = [48]) := fun h => hb (.inr h)
      have hsp := split_l l
      unfold parseV
      rw [if_pos hE]
      by_cases hz : digs l = [48]
      · have hm : minus l = false := by
          rcases hm : minus l with _ | _
          · rfl
          · exact absurd ⟨hm, hz⟩ hmz
        rw [hm] at hsp
        simp only [Bool.false_eq_true, if_false] at hsp
        rw [hm, hz]
        rw [hz] at hsp
        rw [hsp]; rfl
      · have h0 : 0 < (digs l).length := by
          rcases Nat.eq_zero_or_pos (digs l).length with e | e
          · rw [List.eq_nil_of_length_eq_zero e] at hp; cases hp
          · exact e
        have ht : (digs l)[0].toNat ≠ 48 := by
          intro e
          have e0 : (digs l)[0] = 48 := UInt8.toNat_inj.1 e
          unfold plain at hp
          rw [decide_eq_false hz, List.head?_eq_getElem?, List.getElem?_eq_getElem h0, e0] at hp
          simp at hp
        obtain ⟨k1, k2⟩ := decL_digits hdig h0 ht
        rcases hm : minus l with _ | _
        · rw [hm] at hsp
          simp only [Bool.false_eq_true, if_false] at hsp
          show txtL ((valL (digs l) : Nat) : Int) = l
          rw [txt_pos k1, k2]; exact hsp.symm
        · rw [hm] at hsp
          simp only [if_true] at hsp
          show txtL (-((valL (digs l) : Nat) : Int)) = l
          rw [txt_neg k1, k2]; exact hsp.symm

end Go.Proofs.YtddccnpohpaofaaGreatDoor.Zd
namespace Go.Proofs.YtddccnpohpaofaaGreatDoor
open Go.RowKit

/-- The number of an expression: of a Lit what its digits tell, else none. -/
def NumAt (F : Nat → Prop) (w : World) (op : Nat) (nu : List UInt8) (s : Bool) (p : Option Addr) (n c : Nat) : Prop :=
  if op = 1 then Zd.IsInt w (.agg #[.bool s, .slice p n c]) (Zd.parseV nu) ∧ Zd.parseE nu = 0 ∧ (0 < n → ∃ a, p = some a ∧ F a.block) else Zd.IsInt w (.agg #[.bool s, .slice p n c]) 0 ∧ (0 < n → ∃ a, p = some a ∧ F a.block)
/-- A block of cells of which no string's bytes are part. -/
def FlatB (w : World) (g : Nat) : Prop := ∃ cs T, w.heap[g]? = some (.cells cs T (0, 0))
theorem FlatB.same {S : Nat → Prop} {w w' : World} {g : Nat} (h : FlatB w g) (hg : Fr2 S w w') (hS : ¬ S g) : FlatB w' g := by
  obtain ⟨cs, T, h⟩ := h
  exact ⟨cs, T, by rw [hg.block g (hlt h) hS]; exact h⟩
mutual
/-- Eight cells read as an expression; all its memory lies in F. -/
def EAt (F : Nat → Prop) (w : World) : Ex → List Value → Prop
  | .mk op nm md nu ys ks ps, q => ∃ s pw nw cw pk ck rows, q = [.int .i64 (op : Int), strV nm, strV md, .bool s, .slice pw nw cw, .bool ys, .slice pk ks.length ck, .int .i64 (ps : Int)] ∧ NumAt F w op nu s pw nw cw ∧ GAt 8 w pk rows ∧ LsE F w ks rows ∧ (ks ≠ [] → ∃ a, pk = some a ∧ F a.block ∧ FlatB w a.block)
def LsE (F : Nat → Prop) (w : World) : List Ex → List (List Value) → Prop
  | [], r => r = []
  | x :: l, r => ∃ q r', r = q :: r' ∧ EAt F w x q ∧ LsE F w l r'
end

theorem int_same {S : Nat → Prop} {w w' : World} {s : Bool} {p : Option Addr} {n c : Nat} {Z : Int} (h : Zd.IsInt w (.agg #[.bool s, .slice p n c]) Z) (hg : Fr2 S w w') (hS : 0 < n → ∀ a, p = some a → ¬ S a.block) : Zd.IsInt w' (.agg #[.bool s, .slice p n c]) Z := by
  obtain ⟨s', v, N, he, ⟨p', n', c', f, rfl, h1, h2, h3, h4⟩, r⟩ := h
  simp only [Value.agg.injEq, Array.mk.injEq, List.cons.injEq, Value.bool.injEq, Value.slice.injEq, and_true] at he
  obtain ⟨rfl, rfl, rfl, rfl⟩ := he
  refine ⟨s, _, N, rfl, ⟨p, n, c, f, rfl, h1, h2, ?_, h4⟩, r⟩
  rcases Nat.eq_zero_or_pos n with h0 | h0
  · exact .inl h0
  · obtain ⟨g, off, rfl, hl, hc⟩ := Or.resolve_left h3 (by omega)
    exact .inr ⟨g, off, rfl, Nat.lt_of_lt_of_le hl hg.size, fun j hj => by rw [World.cell?_of_block (w := w) (hg.block g hl (hS h0 _ rfl))]; exact hc j hj⟩
theorem NumAt.same {F S : Nat → Prop} {w w' : World} {op : Nat} {nu : List UInt8} {s : Bool} {p : Option Addr} {n c : Nat} (h : NumAt F w op nu s p n c) (hg : Fr2 S w w') (hS : ∀ k, F k → ¬ S k) : NumAt F w' op nu s p n c := by
  unfold NumAt at h ⊢
  split
  · rename_i ho
    rw [if_pos ho] at h
    exact ⟨int_same h.1 hg (fun h0 a ha => by obtain ⟨b, hb, hF⟩ := h.2.2 h0; rw [ha] at hb; injection hb with hb; subst hb; exact hS _ hF), h.2⟩
  · rename_i ho
    rw [if_neg ho] at h
    exact ⟨int_same h.1 hg (fun h0 a ha => by obtain ⟨b, hb, hF⟩ := h.2 h0; rw [ha] at hb; injection hb with hb; subst hb; exact hS _ hF), h.2⟩
theorem NumAt.mono {F F' : Nat → Prop} {w : World} {op : Nat} {nu : List UInt8} {s : Bool} {p : Option Addr} {n c : Nat} (h : NumAt F w op nu s p n c) (hF : ∀ k, F k → F' k) : NumAt F' w op nu s p n c := by
  unfold NumAt at h ⊢
  split
  · rename_i ho
    rw [if_pos ho] at h
    exact ⟨h.1, h.2.1, fun h0 => by obtain ⟨a, ha, h1⟩ := h.2.2 h0; exact ⟨a, ha, hF _ h1⟩⟩
  · rename_i ho
    rw [if_neg ho] at h
    exact ⟨h.1, fun h0 => by obtain ⟨a, ha, h1⟩ := h.2 h0; exact ⟨a, ha, hF _ h1⟩⟩

theorem Ls_len {F : Nat → Prop} {w : World} : ∀ {l : List Ex} {r : List (List Value)}, LsE F w l r → r.length = l.length
  | [], r, h => by simp only [LsE] at h; rw [h]; rfl
  | x :: l, r, h => by
    simp only [LsE] at h
    obtain ⟨q, r', rfl, -, h2⟩ := h
    rw [List.length_cons, Ls_len h2]; rfl
theorem Ls_get {F : Nat → Prop} {w : World} : ∀ {l : List Ex} {r : List (List Value)} {j : Nat} {x : Ex}, LsE F w l r → l[j]? = some x → ∃ q, r[j]? = some q ∧ EAt F w x q
  | [], r, j, x, h, hx => by simp at hx
  | y :: l, r, j, x, h, hx => by
    simp only [LsE] at h
    obtain ⟨q, r', rfl, h1, h2⟩ := h
    match j, hx with
    | 0, hx => simp at hx; subst hx; exact ⟨q, rfl, h1⟩
    | j + 1, hx =>
      obtain ⟨q', hq, hr⟩ := Ls_get h2 (j := j) (by simpa using hx)
      exact ⟨q', by simpa using hq, hr⟩
theorem Ls_snoc {F : Nat → Prop} {w : World} {x : Ex} {q : List Value} (hx : EAt F w x q) : ∀ {l : List Ex} {r : List (List Value)}, LsE F w l r → LsE F w (l ++ [x]) (r ++ [q])
  | [], r, h => by simp only [LsE] at h; subst h; simp only [List.nil_append, LsE]; exact ⟨q, [], rfl, hx, rfl⟩
  | y :: l, r, h => by
    simp only [LsE] at h
    obtain ⟨q', r', rfl, h1, h2⟩ := h
    simp only [List.cons_append, LsE]
    exact ⟨q', _, rfl, h1, Ls_snoc hx h2⟩
theorem gat_same {S F : Nat → Prop} {w w' : World} {p : Option Addr} {rows : List (List Value)} {n : Nat} (hr : rows.length = n) (h : GAt 8 w p rows) (hF : 0 < n → ∃ a, p = some a ∧ F a.block) (hg : Fr2 S w w') (hS : ∀ k, F k → ¬ S k) : GAt 8 w' p rows :=
  h.keptS hg (fun h0 a ha => by
    obtain ⟨b, hb, h1⟩ := hF (by have := List.length_pos_iff.2 h0; omega)
    rw [ha] at hb; injection hb with hb; subst hb; exact hS _ h1)
mutual
theorem EAt.same {F S : Nat → Prop} {w w' : World} (hg : Fr2 S w w') (hS : ∀ k, F k → ¬ S k) : ∀ {x : Ex} {q : List Value}, EAt F w x q → EAt F w' x q
  | .mk op nm md nu ys ks ps, q, h => by
    simp only [EAt] at h ⊢
    obtain ⟨s, pw, nw, cw, pk, ck, rows, h1, h2, h3, h4, h5⟩ := h
    exact ⟨s, pw, nw, cw, pk, ck, rows, h1, h2.same hg hS, gat_same (Ls_len h4) h3 (fun h0 => by obtain ⟨a, ha, h6, -⟩ := h5 (List.length_pos_iff.1 h0); exact ⟨a, ha, h6⟩) hg hS, LsE.same hg hS h4, fun h0 => by obtain ⟨a, ha, h6, h7⟩ := h5 h0; exact ⟨a, ha, h6, h7.same hg (hS _ h6)⟩⟩
theorem LsE.same {F S : Nat → Prop} {w w' : World} (hg : Fr2 S w w') (hS : ∀ k, F k → ¬ S k) : ∀ {l : List Ex} {r : List (List Value)}, LsE F w l r → LsE F w' l r
  | [], r, h => by simp only [LsE] at h ⊢; exact h
  | x :: l, r, h => by
    simp only [LsE] at h ⊢
    obtain ⟨q, r', h1, h2, h3⟩ := h
    exact ⟨q, r', h1, EAt.same hg hS h2, LsE.same hg hS h3⟩
end
mutual
theorem EAt.mono {F F' : Nat → Prop} {w : World} (hF : ∀ k, F k → F' k) : ∀ {x : Ex} {q : List Value}, EAt F w x q → EAt F' w x q
  | .mk op nm md nu ys ks ps, q, h => by
    simp only [EAt] at h ⊢
    obtain ⟨s, pw, nw, cw, pk, ck, rows, h1, h2, h3, h4, h5⟩ := h
    exact ⟨s, pw, nw, cw, pk, ck, rows, h1, h2.mono hF, h3, LsE.mono hF h4, fun h0 => by obtain ⟨a, ha, h6, h7⟩ := h5 h0; exact ⟨a, ha, hF _ h6, h7⟩⟩
theorem LsE.mono {F F' : Nat → Prop} {w : World} (hF : ∀ k, F k → F' k) : ∀ {l : List Ex} {r : List (List Value)}, LsE F w l r → LsE F' w l r
  | [], r, h => by simp only [LsE] at h ⊢; exact h
  | x :: l, r, h => by
    simp only [LsE] at h ⊢
    obtain ⟨q, r', h1, h2, h3⟩ := h
    exact ⟨q, r', h1, EAt.mono hF h2, LsE.mono hF h3⟩
end
theorem EAt.kept {F : Nat → Prop} {w w' : World} {x : Ex} {q : List Value} (h : EAt F w x q) (hg : w.grownBy w' none) : EAt F w' x q := EAt.same (S := fun _ => False) (Fr2.none hg) (fun _ _ h => h) h
theorem LsE.kept {F : Nat → Prop} {w w' : World} {l : List Ex} {r : List (List Value)} (h : LsE F w l r) (hg : w.grownBy w' none) : LsE F w' l r := LsE.same (S := fun _ => False) (Fr2.none hg) (fun _ _ h => h) h

/-- What is answered where an expression is. -/
def ExPost (x : Ex) (w : World) (e : Ending) (w' : World) : Prop := w.grownBy w' none ∧ ∃ q, e = .returned (.agg q.toArray) ∧ EAt (fun k => w.heap.size ≤ k) w' x q

/-! ### Numbers' digits -/

theorem dig_nat {b : UInt8} (h : isDig b = true) : 48 ≤ b.toNat ∧ b.toNat ≤ 57 := by
  unfold isDig at h
  rw [Bool.and_eq_true] at h
  exact ⟨UInt8.le_iff_toNat_le.1 (of_decide_eq_true h.1), UInt8.le_iff_toNat_le.1 (of_decide_eq_true h.2)⟩
theorem num_parse {t : List UInt8} (h : numOk t) : Zd.parseE t = 0 ∧ Zd.txtL (Zd.parseV t) = t := by
  obtain ⟨h0, h60, hd, hz⟩ := h
  have hm : Zd.minus t = false ∧ Zd.digs t = t := Zd.mdne h0 (by have := dig_nat (hd _ (List.getElem_mem h0)); omega)
  have hp : Zd.plain t = true := by
    unfold Zd.plain
    rw [Bool.and_eq_true, List.all_eq_true]
    refine ⟨fun b hb => decide_eq_true (dig_nat (hd b hb)), ?_⟩
    rw [Bool.or_eq_true, Bool.and_eq_true]
    by_cases h1 : 1 < t.length
    · exact .inr ⟨decide_eq_true (List.length_pos_iff.1 h0), decide_eq_true (hz h1)⟩
    · obtain ⟨a, rfl⟩ : ∃ a, t = [a] := List.length_eq_one_iff.1 (by omega)
      by_cases ha : a = 48
      · subst ha; exact .inl rfl
      · exact .inr ⟨rfl, decide_eq_true (by simpa using ha)⟩
  have he : Zd.parseE t = 0 := by
    unfold Zd.parseE
    rw [hm.1, hm.2, if_neg (by omega), if_neg (by rw [hp]; simp)]
  exact ⟨he, Zd.txtL_parse he⟩

/-! ### Trees in a row of nodes -/

def TrAt (N : List Nd) (k : Int) (t : Tr) : Prop := ∃ b : Nat, k = ((b + szR t - 1 : Nat) : Int) ∧ PartAt N b (post b t)
def KT (N : List Nd) (n : Nat) (ks : List Int) (l : List Tr) : Prop := ks.length = l.length ∧ ∀ (j : Nat) (t : Tr), l[j]? = some t → ∃ k : Nat, ks[j]? = some (k : Int) ∧ TrAt N k t ∧ k < n
theorem TrAt.lf {N : List Nd} {k : Int} {i : Nat} (h : TrAt N k (.lf i)) : ∃ n : Nat, k = (n : Int) ∧ N[n]? = some ⟨19, (i : Int), []⟩ := by
  obtain ⟨b, rfl, h⟩ := h
  have := h 0 ⟨19, (i : Int), []⟩ (by simp [post])
  exact ⟨b, by simp only [szR]; omega, by simpa using this⟩
theorem kt_posts {N : List Nd} : ∀ (l : List Tr) (b n : Nat), b + szRs l ≤ n → PartAt N b (posts b l) → KT N n (idxs b l) l
  | [], b, n, _, _ => ⟨by simp [idxs], fun j t ht => by simp at ht⟩
  | t :: l, b, n, hn, h => by
    simp only [posts] at h
    simp only [szRs] at hn
    have h2 := h.right
    rw [post_len] at h2
    have ih := kt_posts l (b + szR t) n (by omega) h2
    have hp := szR_pos t
    refine ⟨by simp only [idxs, List.length_cons]; rw [ih.1], fun j u hu => ?_⟩
    match j, hu with
    | 0, hu =>
      simp at hu; subst hu
      exact ⟨b + szR t - 1, by simp [idxs], ⟨b, rfl, h.left⟩, by omega⟩
    | j + 1, hu =>
      obtain ⟨k, hk, hr⟩ := ih.2 j u (by simpa using hu)
      exact ⟨k, by simpa [idxs] using hk, hr⟩
theorem TrAt.nd {N : List Nd} {k : Int} {m : Nat} {l : List Tr} (h : TrAt N k (.nd m l)) : ∃ (n : Nat) (ks : List Int), k = (n : Int) ∧ N[n]? = some ⟨(m : Int), -1, ks⟩ ∧ KT N n ks l := by
  obtain ⟨b, rfl, h⟩ := h
  simp only [post] at h
  have h1 := h.right 0 ⟨(m : Int), -1, idxs b l⟩ (by simp)
  rw [posts_len] at h1
  refine ⟨b + szRs l, idxs b l, by simp only [szR]; omega, by simpa using h1, kt_posts l b _ (Nat.le_refl _) h.left⟩
theorem TrAt.root (t : Tr) : TrAt (post 0 t) ((szR t - 1 : Nat) : Int) t := ⟨0, by rw [Nat.zero_add], part_self _⟩

def BoolOf (p : Prop) (w : World) (e : Ending) (w' : World) : Prop := w.grownBy w' none ∧ ∃ b : Bool, e = .returned (.bool b) ∧ (b = true ↔ p)
theorem ret_false {p : Prop} {w w' : World} (hg : w.grownBy w' none) (h : ¬ p) : BoolOf p w (.returned (.bool false)) w' := ⟨hg, false, rfl, by simp [h]⟩

def kidsE : Ex → List Ex
  | .mk _ _ _ _ _ ks _ => ks
section
variable {σ : Type} (st : σ → Ex → Nat → σ)
mutual
/-- What is told of an expression, by steps. -/
def runE : Ex → σ → σ
  | .mk op nm md nu ys ks ps, s => runK (.mk op nm md nu ys ks ps) 0 ks (st s (.mk op nm md nu ys ks ps) 0)
def runK (x : Ex) : Nat → List Ex → σ → σ
  | _, [], s => s
  | j, k :: l, s => runK x (j + 1) l (st (runE k s) x (j + 1))
end
end
mutual
def cntE : Ex → Nat
  | .mk _ _ _ _ _ ks _ => 1 + cntK ks
def cntK : List Ex → Nat
  | [] => 0
  | k :: l => cntE k + 1 + cntK l
end
/-- An expression that is gone through: how many of its kids are done, and where it lies. -/
structure Fm where
  x : Ex
  d : Nat
  g : Nat
  o : Nat
def rsF {σ : Type} (st : σ → Ex → Nat → σ) (f : Fm) (s : σ) : σ := runK st f.x f.d ((kidsE f.x).drop f.d) (st s f.x f.d)
def runG {σ : Type} (st : σ → Ex → Nat → σ) (G : List Fm) (s : σ) : σ := G.foldr (rsF st) s
def cntF (f : Fm) : Nat := 1 + cntK ((kidsE f.x).drop f.d)
def cntG (G : List Fm) : Nat := (G.map cntF).sum
theorem runE_eq {σ : Type} (st : σ → Ex → Nat → σ) (x : Ex) (s : σ) (g o : Nat) : runE st x s = rsF st ⟨x, 0, g, o⟩ s := by
  cases x with
  | mk op nm md nu ys ks ps => simp only [runE, rsF, kidsE, List.drop_zero]
theorem cntE_eq (x : Ex) (g o : Nat) : cntE x = cntF ⟨x, 0, g, o⟩ := by
  cases x with
  | mk op nm md nu ys ks ps => simp only [cntE, cntF, kidsE, List.drop_zero]
theorem runG_snoc {σ : Type} (st : σ → Ex → Nat → σ) (G : List Fm) (f : Fm) (s : σ) : runG st (G ++ [f]) s = runG st G (rsF st f s) := by unfold runG; rw [List.foldr_append]; rfl
theorem cntG_snoc (G : List Fm) (f : Fm) : cntG (G ++ [f]) = cntG G + cntF f := by unfold cntG; simp
theorem rsF_done {σ : Type} (st : σ → Ex → Nat → σ) {f : Fm} (h : f.d = (kidsE f.x).length) (s : σ) : rsF st f s = st s f.x f.d ∧ cntF f = 1 := by
  unfold rsF cntF
  rw [h, List.drop_length]; exact ⟨rfl, rfl⟩
theorem rsF_kid {σ : Type} (st : σ → Ex → Nat → σ) {f : Fm} {k : Ex} (h : (kidsE f.x)[f.d]? = some k) (s : σ) (g o : Nat) : rsF st f s = rsF st { f with d := f.d + 1 } (rsF st ⟨k, 0, g, o⟩ (st s f.x f.d)) ∧ cntF f = 1 + (cntF { f with d := f.d + 1 } + cntF ⟨k, 0, g, o⟩) := by
  have e : (kidsE f.x).drop f.d = k :: (kidsE f.x).drop (f.d + 1) := by
    have h1 := (List.getElem?_eq_some_iff.1 h)
    obtain ⟨h1, h2⟩ := h1
    rw [List.drop_eq_getElem_cons h1, h2]
  constructor
  · rw [← runE_eq]
    unfold rsF
    rw [e]
    simp only [runK]
  · rw [← cntE_eq]
    unfold cntF
    rw [e]
    simp only [cntK]
    omega

/-- An expression lies at an address. -/
def PAtE (F : Nat → Prop) (w : World) (g o : Nat) (x : Ex) : Prop := F g ∧ g < w.heap.size ∧ ∃ q, q.length = 8 ∧ (∀ (i : Nat) (v : Value), q[i]? = some v → w.cell? ⟨g, o + i, none⟩ = some v) ∧ EAt F w x q
theorem EAt.len {F : Nat → Prop} {w : World} {x : Ex} {q : List Value} (h : EAt F w x q) : q.length = 8 := by
  cases x with
  | mk op nm md nu ys ks ps =>
    simp only [EAt] at h
    obtain ⟨s, pw, nw, cw, pk, ck, rows, rfl, -⟩ := h
    rfl
theorem PAtE.same {F S : Nat → Prop} {w w' : World} {g o : Nat} {x : Ex} (h : PAtE F w g o x) (hg : Fr2 S w w') (hS : ∀ k, F k → ¬ S k) : PAtE F w' g o x := by
  obtain ⟨hF, hl, q, hq, hc, he⟩ := h
  exact ⟨hF, Nat.lt_of_lt_of_le hl hg.size, q, hq, fun i v hi => by rw [World.cell?_of_block (w := w) (hg.block g hl (hS g hF))]; exact hc i v hi, EAt.same hg hS he⟩
/-- The cells that a walk reads: how many kids, and where. -/
theorem PAtE.kids {F : Nat → Prop} {w : World} {g o : Nat} {x : Ex} (h : PAtE F w g o x) : ∃ pk ck, w.cell? ⟨g, o + 6, none⟩ = some (.slice pk (kidsE x).length ck) ∧ ∀ (j : Nat) (k : Ex), (kidsE x)[j]? = some k → ∃ g' o', pk = some ⟨g', o', none⟩ ∧ PAtE F w g' (o' + j * 8) k := by
  cases x with
  | mk op nm md nu ys ks ps =>
    obtain ⟨hF, hl, q, hq, hc, he⟩ := h
    simp only [EAt] at he
    obtain ⟨s, pw, nw, cw, pk, ck, rows, rfl, h2, h3, h4, h5⟩ := he
    refine ⟨pk, ck, hc 6 _ rfl, fun j k hk => ?_⟩
    have hk : ks[j]? = some k := hk
    have hne : ks ≠ [] := fun e => by rw [e] at hk; simp at hk
    obtain ⟨⟨g', o', x'⟩, ha, hFa⟩ := h5 hne
    obtain ⟨r, hr, hre⟩ := Ls_get h4 hk
    obtain ⟨g2, o2, hp, hl2, hc2⟩ := h3.resolve_left (fun e => by rw [e] at hr; simp at hr)
    rw [ha] at hp
    simp only [Option.some.injEq, Addr.mk.injEq] at hp
    obtain ⟨rfl, rfl, rfl⟩ := hp
    exact ⟨g', o', ha, hFa.1, hl2, r, EAt.len hre, fun i v hi => hc2 j r hr i v hi, hre⟩
theorem kid_size : ∀ (ks : List Ex) (j : Nat) (k : Ex), ks[j]? = some k → cntE k ≤ cntK ks
  | [], j, k, h => by simp at h
  | y :: l, j, k, h => by
    simp only [cntK]
    match j, h with
    | 0, h => simp at h; subst h; omega
    | j + 1, h => have := kid_size l j k (by simpa using h); omega
theorem kids_count : ∀ ks : List Ex, ks.length ≤ cntK ks
  | [] => Nat.zero_le _
  | y :: l => by have := kids_count l; simp only [cntK, List.length_cons]; omega

def rowF (f : Fm) : List Value := [.pointer (some ⟨f.g, f.o, none⟩), .int .i64 (f.d : Int)]
theorem infoP : (Tryz.prog.info? 112).map (fun i => (i.zero, i.size, i.bytes)) = some (some (.agg #[.pointer none, .int .i64 0]), 2, 16) := by kernel_rfl

theorem OwnG.okept {s : Nat} {T : TypeId} {w w' : World} {base b : Nat} {v : Value} {l : List (List Value)} (h : OwnG s T w base v l) (hg : OKept b w w') (hT : T ≠ 5) (hb : b < base) : OwnG s T w' base v l :=
  ⟨⟨h.1.1, h.1.2.imp id fun ⟨g, cap, cur, e, hb1, hh, r⟩ => ⟨g, cap, cur, e, hb1, hg g cur T hh hT (by omega), r⟩⟩, h.2⟩
theorem OwnG.blk {s : Nat} {T : TypeId} {w : World} {base g n c : Nat} {l : List (List Value)} (h : OwnG s T w base (.slice (some ⟨g, 0, none⟩) n c) l) : base ≤ g ∧ ∃ cur, w.heap[g]? = some (.cells cur T (0, 0)) := by
  rcases h.1.2 with ⟨h1, h0⟩ | ⟨g', cap, cur, e, hb, hg, r⟩
  · cases h1
  · injection e with e1 e2 e3
    injection e1 with e1
    injection e1 with e1
    subst e1
    exact ⟨hb, cur, hg⟩

theorem OwnG.pop {s n c : Nat} {T : TypeId} {w : World} {base : Nat} {p : Option Addr} {l : List (List Value)} {q : List Value} (h : OwnG s T w base (.slice p n c) (l ++ [q])) : n = l.length + 1 ∧ OwnG s T w base (.slice p l.length c) l ∧ ∃ g, p = some ⟨g, 0, none⟩ := by
  have h2 := h.1
  have hw := h.2
  rw [List.length_append, List.length_singleton] at h2
  rcases h2.2 with ⟨e, h0⟩ | ⟨g, cap, cur, e, hb, hg, hnc, hcm, hsz, ht⟩
  · omega
  · injection e with e1 e2 e3
    subst e1; subst e2; subst e3
    refine ⟨rfl, ⟨⟨flat_len (fun q hq => hw q (List.mem_append_left _ hq)), .inr ⟨g, c, cur, rfl, hb, hg, by omega, hcm, hsz, ?_⟩⟩, fun q hq => hw q (List.mem_append_left _ hq)⟩, g, rfl⟩
    have hfl := flat_len (fun q hq => hw q (List.mem_append_left _ hq) : Wid s l)
    have h3 : (cur.toList.take ((l.length + 1) * s)).take (l.length * s) = l.flatten := by
      rw [ht, List.flatten_append, List.take_append_of_le_length (by omega), List.take_of_length_le (by omega)]
    rw [List.take_take, Nat.min_eq_left (Nat.mul_le_mul_right _ (by omega))] at h3
    exact h3
theorem OwnG.new {s : Nat} {T : TypeId} (w : World) (base : Nat) (y : List Value) (hy : y.length = s) (h1 : ∀ u ∈ y, u.oneCell' = true) (hb : base ≤ w.heap.size) : OwnG s T (w.alloc (.cells y.toArray T)) base (.slice (some ⟨w.heap.size, 0, none⟩) 1 1) [y] := by
  refine ⟨⟨by simp [hy], .inr ⟨w.heap.size, 1, y.toArray, rfl, hb, heap_alloc_new w _, Nat.le_refl _, by unfold maxLen; omega, by simp [hy], ?_⟩⟩, fun q hq => by simp at hq; subst hq; exact ⟨hy, h1⟩⟩
  subst hy
  simp
theorem OwnG.last2 {n c g : Nat} {T : TypeId} {w : World} {base : Nat} {l : List (List Value)} {a b u : Value} (hu : u.oneCell' = true) (h : OwnG 2 T w base (.slice (some ⟨g, 0, none⟩) n c) (l ++ [[a, b]])) : OwnG 2 T (w.setCell ⟨g, l.length * 2 + 1, none⟩ u) base (.slice (some ⟨g, 0, none⟩) n c) (l ++ [[a, u]]) ∧ w.grownBy (w.setCell ⟨g, l.length * 2 + 1, none⟩ u) (some g) := by
  have hn := h.pop.1
  subst hn
  have hw := h.2
  have hwl : Wid 2 l := fun q hq => hw q (List.mem_append_left _ hq)
  have h1 := h.1
  rw [List.length_append, List.length_singleton] at h1
  have h2 := World.ownsRow.stored h1 (l.length * 2 + 1) u
  refine ⟨⟨?_, fun q hq => ?_⟩, h2.2⟩
  · have e : (l ++ [[a, u]]).flatten = ((l ++ [[a, b]]).flatten).set (l.length * 2 + 1) u := by
      rw [List.flatten_append, List.flatten_append, List.set_append, if_neg (by rw [flat_len hwl]; omega), flat_len hwl]
      simp
    rw [e, List.length_append, List.length_singleton]
    exact h2.1
  · rcases List.mem_append.1 hq with hq | hq
    · exact hwl q hq
    · simp at hq; subst hq
      refine ⟨rfl, fun v hv => ?_⟩
      simp at hv
      rcases hv with rfl | rfl
      · exact (hw [v, b] (by simp)).2 v (by simp)
      · exact hu
theorem OwnG.top2 {n c g : Nat} {T : TypeId} {w : World} {base : Nat} {l : List (List Value)} {a b : Value} (h : OwnG 2 T w base (.slice (some ⟨g, 0, none⟩) n c) (l ++ [[a, b]])) : w.cell? ⟨g, l.length * 2, none⟩ = some a ∧ w.cell? ⟨g, l.length * 2 + 1, none⟩ = some b ∧ (∀ j, w.frozen? ⟨g, j, none⟩ = false) ∧ g < w.heap.size ∧ l.length + 1 ≤ c ∧ c ≤ maxLen := by
  have hn := h.pop.1
  subst hn
  obtain ⟨p, c', e, hga, h1, h2, -⟩ := h.is
  injection e with e1 e2 e3
  subst e1; subst e3
  obtain ⟨g2, o2, hp2, hgl, hcs⟩ := hga.resolve_left (by simp)
  injection hp2 with hp2; injection hp2 with hp2 hp3; subst hp2 hp3
  have a0 := hcs l.length [a, b] (by simp) 0 _ rfl
  have a1 := hcs l.length [a, b] (by simp) 1 _ rfl
  rw [Nat.zero_add, Nat.add_zero] at a0
  rw [Nat.zero_add] at a1
  have h3 := h.1
  rw [List.length_append, List.length_singleton] at h3 h1
  exact ⟨a0, a1, fun j => World.ownsRow.frozenAt h3 j, hgl, h1, h2⟩
theorem list_last8 {α : Type} (l : List α) : l = [] ∨ ∃ l' x, l = l' ++ [x] := by
  rcases List.eq_nil_or_concat l with h | ⟨l', x, h⟩
  · exact .inl h
  · exact .inr ⟨l', x, by simpa using h⟩
theorem cntF_pos (f : Fm) : 1 ≤ cntF f := by unfold cntF; omega
theorem cntG_len : ∀ G : List Fm, G.length ≤ cntG G
  | [] => Nat.zero_le _
  | f :: G => by
    have h1 := cntG_len G
    have h2 := cntF_pos f
    have e : cntG (f :: G) = cntF f + cntG G := by unfold cntG; simp
    rw [e, List.length_cons]; omega
end Go.Proofs.YtddccnpohpaofaaGreatDoor
