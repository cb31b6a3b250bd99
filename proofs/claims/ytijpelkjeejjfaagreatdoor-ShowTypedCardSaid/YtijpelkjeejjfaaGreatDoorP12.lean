/- Lemmas. -/
import Derived.Test.YtijpelkjeejjfaaGreatDoorP9
set_option linter.unusedVariables false
set_option linter.unusedSimpArgs false
namespace Go.Proofs.YtijpelkjeejjfaaGreatDoor

/-- An expression: its Op, its name, its module, its number's digits, its truth, its kids, its place. -/
inductive Ex where
  | mk (op : Nat) (nm md nu : List UInt8) (ys : Bool) (ks : List Ex) (ps : Nat)
def nilE : Ex := .mk 0 [] [] [] false [] 0

def tkT (T : List Tok) (i : Nat) : Tok := T[i]?.getD ⟨5, [], [], 0⟩
def signs8 : List (List UInt8) := [[43], [45], [42], [47], [37], [61], [60, 62], [60], [60, 61], [62], [62, 61], [38, 38], [124, 124], [61, 62]]
def binE (s : List UInt8) : Nat := if signs8.idxOf s < 14 then 7 + signs8.idxOf s else 0
def unE (s : List UInt8) : Nat := if s = [45] then 5 else 6

/-- An expression of its node's kind, its own tokens and its kids. -/
def nodeE (k : Nat) (o : Nat → Tok) (ks : List Ex) : Ex :=
  if k = 7 then .mk 22 (o 1).text [] [] false ks (o 0).pos
  else if k = 8 then .mk 21 [] [] [] false ks (o 0).pos
  else if k = 9 then .mk 23 [] [] [] false ks (o 0).pos
  else if k = 10 then .mk (binE (o 0).text) [] [] [] false ks (o 0).pos
  else if k = 11 then .mk (unE (o 0).text) [] [] [] false ks (o 0).pos
  else if k = 13 then (if (o 1).text = [46] then .mk 24 (o 2).text (o 0).text [] false ks (o 0).pos else .mk 24 (o 0).text [] [] false ks (o 0).pos)
  else if k = 14 then .mk 3 (o 0).text [] [] false ks (o 0).pos
  else if k = 15 then .mk 1 [] [] (o 0).text false ks (o 0).pos
  else if k = 16 then .mk 2 [] [] [] (decide ((o 0).text = [116, 114, 117, 101])) ks (o 0).pos
  else .mk 4 [] [] [] false ks (o 0).pos

/-- The tokens of the leaves of a list. -/
def ownL : List Tr → List Nat
  | [] => []
  | .lf i :: l => i :: ownL l
  | .nd _ _ :: l => ownL l
def isN : Tr → Bool
  | .lf _ => false
  | .nd _ _ => true
mutual
def axT (T : List Tok) : Tr → Ex
  | .lf _ => nilE
  | .nd k l => if k = 12 then (axTs T l).headD nilE else nodeE k (fun j => tkT T ((ownL l).getD j T.length)) (axTs T l)
/-- Of the nodes of a list alone. -/
def axTs (T : List Tok) : List Tr → List Ex
  | [] => []
  | t :: l => if isN t = true then axT T t :: axTs T l else axTs T l
end

def numOk (t : List UInt8) : Prop := 0 < t.length ∧ t.length ≤ 60 ∧ (∀ b ∈ t, isDig b = true) ∧ (1 < t.length → t.head? ≠ some 48)
inductive ShE (T : List Tok) : Nat → List Tr → Prop
  | let_ (i j k m : Nat) (t u : Tr) : isN t = true → isN u = true → ShE T 7 [.lf i, .lf j, .lf k, t, .lf m, u]
  | if_ (i j k : Nat) (t u v : Tr) : isN t = true → isN u = true → isN v = true → ShE T 8 [.lf i, t, .lf j, u, .lf k, v]
  | assert_ (i j : Nat) (t u : Tr) : isN t = true → isN u = true → ShE T 9 [.lf i, t, .lf j, u]
  | bin (i : Nat) (t u : Tr) : isN t = true → isN u = true → (tkT T i).text ∈ signs8 → ShE T 10 [t, .lf i, u]
  | una (i : Nat) (t : Tr) : isN t = true → (tkT T i).text = [45] ∨ (tkT T i).text = [110, 111, 116] → ShE T 11 [.lf i, t]
  | grp (i j : Nat) (t : Tr) : isN t = true → ShE T 12 [.lf i, t, .lf j]
  | call (i j : Nat) (l : List Tr) : (tkT T j).text ≠ [46] → ShE T 13 (.lf i :: .lf j :: l)
  | callm (i j m : Nat) (l : List Tr) : (tkT T j).text = [46] → ShE T 13 (.lf i :: .lf j :: .lf m :: l)
  | nam (i : Nat) : ShE T 14 [.lf i]
  | num (i : Nat) : numOk (tkT T i).text → ShE T 15 [.lf i]
  | tru (i : Nat) : ShE T 16 [.lf i]
  | res (i : Nat) : ShE T 17 [.lf i]
mutual
/-- A tree of the form that an expression's has. -/
def WE (T : List Tok) : Tr → Prop
  | .lf _ => True
  | .nd k l => ShE T k l ∧ WEs T l
def WEs (T : List Tok) : List Tr → Prop
  | [] => True
  | t :: l => WE T t ∧ WEs T l
end
def One (T : List Tok) (l : List Tr) : Prop := ∃ t, l = [t] ∧ isN t = true ∧ WE T t
abbrev WO (T : List Tok) (r : RT) : Prop := r.2.e = 0 → One T r.1
abbrev WL (T : List Tok) (r : RT) : Prop := r.2.e = 0 → WEs T r.1
def NumTok (T : List Tok) : Prop := ∀ t ∈ T, t.kind = 3 → numOk t.text

theorem WEs_append {T : List Tok} {a b : List Tr} (h1 : WEs T a) (h2 : WEs T b) : WEs T (a ++ b) := by
  induction a with
  | nil => exact h2
  | cons t a ih => simp only [List.cons_append, WEs] at h1 ⊢; exact ⟨h1.1, ih h1.2⟩
theorem WEs_lf {T : List Tok} {i : Nat} {l : List Tr} (h : WEs T l) : WEs T (.lf i :: l) := by simp only [WEs, WE]; exact ⟨trivial, h⟩
theorem WEs_cons {T : List Tok} {t : Tr} {l : List Tr} (h1 : WE T t) (h : WEs T l) : WEs T (t :: l) := by simp only [WEs]; exact ⟨h1, h⟩
theorem WEs_nil {T : List Tok} : WEs T [] := by simp [WEs]
theorem One.nd {T : List Tok} {k : Nat} {l : List Tr} (h1 : ShE T k l) (h2 : WEs T l) : One T [.nd k l] := ⟨_, rfl, rfl, by simp only [WE]; exact ⟨h1, h2⟩⟩
theorem alive {s : St} {r : RT} (h : Keep s r) (he : r.2.e = 0) : s.e = 0 := by
  rcases Nat.eq_zero_or_pos s.e with h0 | h0
  · exact h0
  · have := h.dead (by omega); rw [this] at he; exact he

section
variable (T : List Tok)
theorem leaf_1 (s : St) : (leafT T s).1 = [.lf s.i] := rfl
theorem must_w {w : List UInt8} {s : St} (h : (mustT T w s).2.e = 0) : (mustT T w s).1 = [.lf s.i] ∧ (tkT T s.i).text = w ∧ ((tkT T s.i).kind = 2 ∨ (tkT T s.i).kind = 4) ∧ s.e = 0 := by
  unfold mustT at h ⊢
  split
  · rename_i hk
    unfold isQ at hk
    have hk := of_decide_eq_true hk
    exact ⟨rfl, hk.2.2, hk.2.1, hk.1⟩
  · rename_i hk
    rw [if_neg hk] at h
    exact absurd h (fail_e T (by decide) s)
theorem kind_w {k : Nat} {s : St} (h : (kindT T k s).2.e = 0) : (kindT T k s).1 = [.lf s.i] ∧ (tkT T s.i).kind = k ∧ s.e = 0 := by
  unfold kindT at h ⊢
  split
  · rename_i hk; exact ⟨rfl, hk.2, hk.1⟩
  · rename_i hk
    rw [if_neg hk] at h
    exact absurd h (fail_e T (by decide) s)
theorem is_w {w : List UInt8} {s : St} (h : isQ T w s = true) : (tkT T s.i).text = w ∧ ((tkT T s.i).kind = 2 ∨ (tkT T s.i).kind = 4) ∧ s.e = 0 := by
  unfold isQ at h
  have hk := of_decide_eq_true h
  exact ⟨hk.2.2, hk.2.1, hk.1⟩
theorem row_w {c : St → Bool} {sub : St → RT} (hc : ∀ s, c s = true → s.e = 0 ∧ (tkT T s.i).text ∈ signs8) (hk : ∀ s, Keep s (sub s)) (hs : ∀ s, WO T (sub s)) : ∀ f r, WO T r → WO T (rwT T c sub f r)
  | 0, r, h => h
  | f + 1, r, h => by
    unfold rwT
    split
    · rename_i hcc
      refine row_w hc hk hs f _ fun he => ?_
      have h1 := hc _ hcc
      obtain ⟨t, ht, ht1, ht2⟩ := h h1.1
      obtain ⟨u, hu, hu1, hu2⟩ := hs _ he
      show One T [.nd 10 (r.1 ++ (leafT T r.2).1 ++ (sub (leafT T r.2).2).1)]
      rw [ht, hu, leaf_1]
      exact One.nd (ShE.bin _ t u ht1 hu1 h1.2) (WEs_cons ht2 (WEs_lf (WEs_cons hu2 WEs_nil)))
    · exact h
theorem parts_w {sub : St → RT} (hk : ∀ s, Keep s (sub s)) (hs : ∀ s, WO T (sub s)) : ∀ f k r, WL T r → WL T (partsT T sub f k r)
  | 0, k, r, h => h
  | f + 1, k, r, h => by
    unfold partsT
    split
    · rename_i hcc
      refine parts_w hk hs f _ _ fun he => ?_
      obtain ⟨u, hu, hu1, hu2⟩ := hs _ he
      show WEs T (r.1 ++ (leafT T r.2).1 ++ (sub (if k = 8 then failQ T 15 (leafT T r.2).2 else (leafT T r.2).2)).1)
      rw [hu, leaf_1]
      exact WEs_append (WEs_append (h (is_w T hcc).2.2) (WEs_lf WEs_nil)) (WEs_cons hu2 WEs_nil)
    · exact h
structure NxW (D n : Nat) (nt : NxT) : Prop where
  expr : ∀ s, WO T (nt.expr s)
  formula : n < D → ∀ s, WO T (nt.formula s)
  nots : n < D → ∀ s, WO T (nt.nots s)
  factor : n < D → ∀ s, WO T (nt.factor s)
end

section
variable (T : List Tok) (hT : NumTok T) (D n : Nat) {nt : NxT} (h : NxW T D n nt) (hk : NxK nt)
include h hk
theorem args_w (s : St) : WL T (argsT T nt s) := parts_w T hk.expr h.expr _ _ _ fun he => by
  obtain ⟨t, ht, -, h2⟩ := h.expr s he
  rw [ht]; exact WEs_cons h2 WEs_nil
theorem name_w (s : St) (hs : s.e = 0) : WO T (nameT T nt s) := by
  unfold nameT
  split
  · intro _; exact One.nd (ShE.nam s.i) (WEs_lf WEs_nil)
  · intro he
    -- the end
    have e1 : (mustT T [41] (nameDT T nt (nameCT T (nameBT T (leafT T s)))).2).2.e = 0 := he
    obtain ⟨m1, -, -, d0⟩ := must_w T e1
    obtain ⟨rest, hr, hw, c0⟩ : ∃ rest, (nameDT T nt (nameCT T (nameBT T (leafT T s)))).1 = (nameCT T (nameBT T (leafT T s))).1 ++ rest ∧ WEs T rest ∧ (nameCT T (nameBT T (leafT T s))).2.e = 0 := by
      unfold nameDT at d0 ⊢
      split
      · rename_i hc
        exact ⟨[], by simp, WEs_nil, (is_w T hc).2.2⟩
      · rename_i hc
        rw [if_neg hc] at d0
        have d0 : (argsT T nt (nameCT T (nameBT T (leafT T s))).2).2.e = 0 := d0
        exact ⟨_, rfl, args_w T D n h hk _ d0, alive (args_keep T hk _) d0⟩
    have e2 : (mustT T [40] (nameBT T (leafT T s)).2).2.e = 0 := c0
    obtain ⟨m2, w2, -, b0⟩ := must_w T e2
    show One T [.nd 13 ((nameDT T nt (nameCT T (nameBT T (leafT T s)))).1 ++ (mustT T [41] (nameDT T nt (nameCT T (nameBT T (leafT T s)))).2).1)]
    rw [m1, hr]
    show One T [.nd 13 ((nameBT T (leafT T s)).1 ++ (mustT T [40] (nameBT T (leafT T s)).2).1 ++ rest ++ [.lf _])]
    rw [m2]
    unfold nameBT at b0 w2 ⊢
    by_cases hd : isQ T [46] (leafT T s).2 = true
    · rw [if_pos hd] at b0 w2 ⊢
      have b0 : (kindT T 1 (leafT T (leafT T s).2).2).2.e = 0 := b0
      obtain ⟨k1, -, -⟩ := kind_w T b0
      show One T [.nd 13 ((leafT T s).1 ++ (leafT T (leafT T s).2).1 ++ (kindT T 1 (leafT T (leafT T s).2).2).1 ++ [.lf _] ++ rest ++ [.lf _])]
      rw [k1, leaf_1, leaf_1]
      refine One.nd (ShE.callm _ _ _ _ (is_w T hd).1) ?_
      exact WEs_append (WEs_append (WEs_lf (WEs_lf (WEs_lf (WEs_lf WEs_nil)))) hw) (WEs_lf WEs_nil)
    · rw [if_neg hd] at b0 w2 ⊢
      rw [leaf_1]
      refine One.nd (ShE.call _ _ _ (by rw [w2]; decide)) ?_
      exact WEs_append (WEs_append (WEs_lf (WEs_lf WEs_nil)) hw) (WEs_lf WEs_nil)
include hT
theorem atom_w (s : St) : WO T (atomT T nt s) := by
  unfold atomT
  split
  · rename_i he; intro h9; exact absurd h9 he
  rename_i he
  have he : s.e = 0 := by omega
  split
  · rename_i h3
    intro _
    refine One.nd (ShE.num s.i ?_) (WEs_lf WEs_nil)
    have h4 : (tkT T s.i).kind = 3 := h3
    unfold tkT at h4 ⊢
    cases ht : T[s.i]? with
    | none => rw [ht] at h4; cases h4
    | some t => rw [ht] at h4; exact hT t (List.mem_of_getElem? ht) h4
  split
  · intro _; exact One.nd (ShE.tru s.i) (WEs_lf WEs_nil)
  split
  · intro _; exact One.nd (ShE.res s.i) (WEs_lf WEs_nil)
  split
  · intro h9
    obtain ⟨m1, -, -, b0⟩ := must_w T h9
    obtain ⟨u, hu, hu1, hu2⟩ := h.expr _ b0
    show One T [.nd 12 ((leafT T s).1 ++ (nt.expr (leafT T s).2).1 ++ (mustT T [41] (nt.expr (leafT T s).2).2).1)]
    rw [m1, hu, leaf_1]
    exact One.nd (ShE.grp _ _ u hu1) (WEs_lf (WEs_cons hu2 (WEs_lf WEs_nil)))
  split
  · exact name_w T D n h hk s he
  · intro h9; exact absurd h9 (fail_e T (by decide) s)
omit hT h hk in
theorem sign_w {sub : St → RT} (hs : n < D → ∀ s, WO T (sub s)) {s : St} (hw : (tkT T s.i).text = [45] ∨ (tkT T s.i).text = [110, 111, 116]) : WO T (signT T D n sub s) := by
  unfold signT
  simp only []
  split
  · rename_i he; intro h9; exact absurd h9 he
  · rename_i he
    intro h9
    have hn : n < D := by
      rcases Nat.lt_or_ge n D with h1 | h1
      · exact h1
      · exfalso; apply he
        unfold nestQ; rw [if_pos (by omega)]; exact fail_e T (by decide) _
    obtain ⟨u, hu, hu1, hu2⟩ := hs hn _ h9
    show One T [.nd 11 ((leafT T s).1 ++ (sub (nestQ T D (n + 1) (leafT T s).2)).1)]
    rw [hu, leaf_1]
    exact One.nd (ShE.una _ u hu1 hw) (WEs_lf (WEs_cons hu2 WEs_nil))
theorem factor_w (s : St) : WO T (factorT T D n nt s) := by
  unfold factorT; split
  · rename_i hc; exact sign_w T D n h.factor (.inl (is_w T hc).1)
  · exact atom_w T hT D n h hk s
omit hT h hk in
theorem mem_of_is {w : List UInt8} (hw : w ∈ signs8) {s : St} (h : isQ T w s = true) : s.e = 0 ∧ (tkT T s.i).text ∈ signs8 := ⟨(is_w T h).2.2, by rw [(is_w T h).1]; exact hw⟩
theorem product_w (s : St) : WO T (productT T D n nt s) := row_w T (fun s hc => by
  unfold isMul at hc
  simp only [Bool.or_eq_true] at hc
  rcases hc with (hc | hc) | hc <;> exact mem_of_is T (by decide) hc) (factor_keep T D n hk) (factor_w T hT D n h hk) _ _ (factor_w T hT D n h hk s)
theorem sum_w (s : St) : WO T (sumT T D n nt s) := row_w T (fun s hc => by
  unfold isAdd at hc
  simp only [Bool.or_eq_true] at hc
  rcases hc with hc | hc <;> exact mem_of_is T (by decide) hc) (product_keep T D n hk) (product_w T hT D n h hk) _ _ (product_w T hT D n h hk s)
theorem not_w (s : St) : WO T (notT T D n nt s) := by
  unfold notT
  simp only []
  split
  · rename_i hc; exact sign_w T D n h.nots (.inr (is_w T hc).1)
  split
  · rename_i hc
    intro h9
    have hm : (sumT T D n nt s).2.e = 0 ∧ (tkT T (sumT T D n nt s).2.i).text ∈ signs8 := by
      unfold isCmp at hc
      simp only [Bool.or_eq_true] at hc
      rcases hc with ((((hc | hc) | hc) | hc) | hc) | hc <;> exact mem_of_is T (by decide) hc
    obtain ⟨t, ht, ht1, ht2⟩ := sum_w T hT D n h hk s hm.1
    obtain ⟨u, hu, hu1, hu2⟩ := sum_w T hT D n h hk _ h9
    show One T [.nd 10 ((sumT T D n nt s).1 ++ (leafT T (sumT T D n nt s).2).1 ++ (sumT T D n nt (leafT T (sumT T D n nt s).2).2).1)]
    rw [ht, hu, leaf_1]
    exact One.nd (ShE.bin _ t u ht1 hu1 hm.2) (WEs_cons ht2 (WEs_lf (WEs_cons hu2 WEs_nil)))
  · exact sum_w T hT D n h hk s
theorem and_w (s : St) : WO T (andT T D n nt s) := row_w T (fun s hc => mem_of_is T (by decide) hc) (not_keep T D n hk) (not_w T hT D n h hk) _ _ (not_w T hT D n h hk s)
theorem or_w (s : St) : WO T (orT T D n nt s) := row_w T (fun s hc => mem_of_is T (by decide) hc) (and_keep T D n hk) (and_w T hT D n h hk) _ _ (and_w T hT D n h hk s)
theorem formula_w (s : St) : WO T (formulaT T D n nt s) := by
  unfold formulaT
  simp only []
  split
  · rename_i hc
    split
    · rename_i he; intro h9; exact absurd h9 he
    · rename_i he
      intro h9
      have hn : n < D := by
        rcases Nat.lt_or_ge n D with h1 | h1
        · exact h1
        · exfalso; apply he
          unfold nestQ; rw [if_pos (by omega)]; exact fail_e T (by decide) _
      have hm := mem_of_is T (by decide) hc
      obtain ⟨t, ht, ht1, ht2⟩ := or_w T hT D n h hk s hm.1
      obtain ⟨u, hu, hu1, hu2⟩ := h.formula hn _ h9
      show One T [.nd 10 ((orT T D n nt s).1 ++ (leafT T (orT T D n nt s).2).1 ++ (nt.formula (nestQ T D (n + 1) (leafT T (orT T D n nt s).2).2)).1)]
      rw [ht, hu, leaf_1]
      exact One.nd (ShE.bin _ t u ht1 hu1 hm.2) (WEs_cons ht2 (WEs_lf (WEs_cons hu2 WEs_nil)))
  · exact or_w T hT D n h hk s
omit hT
theorem let_w (s : St) : WO T (letT T nt s) := by
  intro h9
  obtain ⟨u, hu, hu1, hu2⟩ := h.expr _ h9
  have h8 := alive (hk.expr _) h9
  obtain ⟨m1, -, -, h7⟩ := must_w T h8
  obtain ⟨t, ht, ht1, ht2⟩ := h.expr _ h7
  have h6 := alive (hk.expr _) h7
  obtain ⟨m2, -, -, h5⟩ := must_w T h6
  obtain ⟨k1, -, -⟩ := kind_w T h5
  unfold letT
  simp only []
  rw [hu, m1, ht, m2, k1, leaf_1]
  exact One.nd (ShE.let_ _ _ _ _ t u ht1 hu1) (WEs_lf (WEs_lf (WEs_lf (WEs_cons ht2 (WEs_lf (WEs_cons hu2 WEs_nil))))))
theorem if_w (s : St) : WO T (ifT T nt s) := by
  intro h9
  obtain ⟨v, hv, hv1, hv2⟩ := h.expr _ h9
  have h8 := alive (hk.expr _) h9
  obtain ⟨m1, -, -, h7⟩ := must_w T h8
  obtain ⟨u, hu, hu1, hu2⟩ := h.expr _ h7
  have h6 := alive (hk.expr _) h7
  obtain ⟨m2, -, -, h5⟩ := must_w T h6
  obtain ⟨t, ht, ht1, ht2⟩ := h.expr _ h5
  unfold ifT
  simp only []
  rw [hv, m1, hu, m2, ht, leaf_1]
  exact One.nd (ShE.if_ _ _ _ t u v ht1 hu1 hv1) (WEs_lf (WEs_cons ht2 (WEs_lf (WEs_cons hu2 (WEs_lf (WEs_cons hv2 WEs_nil))))))
theorem assert_w (s : St) : WO T (assertT T nt s) := by
  intro h9
  obtain ⟨u, hu, hu1, hu2⟩ := h.expr _ h9
  have h8 := alive (hk.expr _) h9
  obtain ⟨m1, -, -, h7⟩ := must_w T h8
  obtain ⟨t, ht, ht1, ht2⟩ := h.expr _ h7
  unfold assertT
  simp only []
  rw [hu, m1, ht, leaf_1]
  exact One.nd (ShE.assert_ _ _ t u ht1 hu1) (WEs_lf (WEs_cons ht2 (WEs_lf (WEs_cons hu2 WEs_nil))))
include hT
theorem expr_w (s : St) : WO T (exprT T D n nt s) := by
  unfold exprT
  simp only []
  split
  · rename_i he; intro h9; exact absurd h9 he
  split
  · exact let_w T D n h hk _
  split
  · exact if_w T D n h hk _
  split
  · exact assert_w T D n h hk _
  · exact formula_w T hT D n h hk _
end
theorem nx_w (T : List Tok) (hT : NumTok T) (D : Nat) : ∀ d, d ≤ D → NxW T D (D - d) (nxT T D d)
  | 0, _ => ⟨fun s h9 => absurd h9 (by show (nestQ T D (D + 1) s).e ≠ 0; rw [nest_deep]; exact fail_e T (by decide) s), fun h => by omega, fun h => by omega, fun h => by omega⟩
  | d + 1, h => by
    have ih := nx_w T hT D d (by omega)
    have hk := nx_keep T D d
    exact ⟨expr_w T hT D _ ih hk, fun _ => formula_w T hT D _ ih hk, fun _ => not_w T hT D _ ih hk, fun _ => factor_w T hT D _ ih hk⟩

/-! ### Numbers' tokens -/

theorem runN_take (p : UInt8 → Bool) : ∀ (l : List UInt8), ∀ b ∈ l.take (runN p l), p b = true
  | [], b, h => by simp [runN] at h
  | a :: r, b, h => by
    by_cases ha : p a = true
    · have e : runN p (a :: r) = runN p r + 1 := by simp [runN, ha]
      rw [e, List.take_succ_cons, List.mem_cons] at h
      rcases h with rfl | h
      · exact ha
      · exact runN_take p r b h
    · have e : runN p (a :: r) = 0 := by simp [runN, ha]
      rw [e] at h; simp at h
theorem first_num {l : List UInt8} (h : (firstE l).1 = 3) : ∀ b ∈ l.take (firstE l).2, isDig b = true := by
  cases l with
  | nil => simp [firstE] at h
  | cons a r =>
    rw [firstE_cons] at h ⊢
    split at h
    · rename_i h1
      simp only at h
      split at h <;> cases h
    · rename_i h1
      rw [if_neg h1]
      split at h
      · rename_i h2
        rw [if_pos h2]
        exact runN_take isDig (a :: r)
      · split at h <;> cases h
theorem tok_num {l : List UInt8} {p : Nat} (hw : wrongE (tokE l p).kind (tokE l p).text = 0) (hk : (tokE l p).kind = 3) : numOk (tokE l p).text := by
  have h1 : (firstE (l.drop (sk false l))).1 = 3 := hk
  have h2 := firstE_pos (l := l.drop (sk false l)) (by omega) (by omega)
  have h3 := firstE_le (l.drop (sk false l))
  have h4 := first_num h1
  unfold wrongE at hw
  rw [if_neg (by rw [hk]; rintro (h | ⟨h, -⟩) <;> cases h)] at hw
  have h5 : ¬ ((tokE l p).kind = 3 ∧ (60 < (tokE l p).text.length ∨ 1 < (tokE l p).text.length ∧ (tokE l p).text.head? = some 48)) := fun e => by rw [if_pos e] at hw; cases hw
  have h6 : (tokE l p).text.length = (firstE (l.drop (sk false l))).2 := by
    show ((l.drop (sk false l)).take _).length = _
    rw [List.length_take]; omega
  refine ⟨by omega, ?_, h4, fun h7 h8 => h5 ⟨hk, .inr ⟨h7, h8⟩⟩⟩
  rcases Nat.lt_or_ge 60 (tokE l p).text.length with h | h
  · exact absurd ⟨hk, .inl h⟩ h5
  · exact h
theorem num_lexG : ∀ (f : Nat) (l : List UInt8) (p : Nat), NumTok (lexG f l p).1
  | 0, l, p => fun t ht => by simp [lexG] at ht
  | f + 1, l, p => by
    intro t ht hk
    by_cases hw : wrongE (tokE l p).kind (tokE l p).text ≠ 0
    · rw [lexG_fault hw] at ht; simp at ht
    · have hw : wrongE (tokE l p).kind (tokE l p).text = 0 := by omega
      by_cases h5 : (tokE l p).kind = 5
      · rw [lexG_end hw h5] at ht
        simp at ht; subst ht
        exact tok_num hw hk
      · rw [lexG_more hw h5] at ht
        rcases List.mem_cons.1 ht with rfl | ht
        · exact tok_num hw hk
        · exact num_lexG f _ _ t ht hk
theorem num_all (l : List UInt8) : NumTok (allE l).1 := num_lexG _ l 0
end Go.Proofs.YtijpelkjeejjfaaGreatDoor
namespace Go.Proofs.YtijpelkjeejjfaaGreatDoor.Zd
open Go.RowKit Mx

def minus (l : List UInt8) : Bool := Lib.hasPrefix l [45]
def digs (l : List UInt8) : List UInt8 := Lib.trimPrefix l [45]
/-- The number that digits tell. -/
def valL (l : List UInt8) : Nat := l.foldl (fun a b => 10 * a + (b.toNat - 48)) 0
def parseE (l : List UInt8) : Int := if 60 < (digs l).length then 11 else if plain (digs l) = false ∨ (minus l = true ∧ digs l = [48]) then 10 else 0
def parseV (l : List UInt8) : Int := if parseE l = 0 then sgn (minus l) (valL (digs l)) else 0

def ParsePost (l : List UInt8) (w : World) (e : Ending) (w' : World) : Prop := ∃ x, e = .returned (.tuple #[x, .int .i64 (parseE l)]) ∧ IsInt w' x (parseV l) ∧ w.grownBy w' none ∧ ∀ s p n c, x = .agg #[.bool s, .slice p n c] → 0 < n → ∃ a, p = some a ∧ w.heap.size ≤ a.block

theorem plain_dig {l : List UInt8} (h : plain l = true) (j : Nat) (hj : j < l.length) : 48 ≤ l[j].toNat ∧ l[j].toNat ≤ 57 := by
  unfold plain at h
  rw [Bool.and_eq_true, List.all_eq_true] at h
  exact of_decide_eq_true (h.1 _ (List.getElem_mem hj))

theorem valL_take {l : List UInt8} {k : Nat} (hk : k < l.length) : valL (l.take (k + 1)) = 10 * valL (l.take k) + (l[k].toNat - 48) := by
  rw [List.take_add_one, List.getElem?_eq_getElem hk]
  unfold valL
  rw [List.foldl_append]; rfl

theorem cut_c (s : ByteArray) (w : World) : Calls Tryz.prog 28 #[.string s, .string ⟨#[45]⟩] w fun e w' => e = .returned (.tuple #[.string ⟨(digs s.data.toList).toArray⟩, .bool (minus s.data.toList)]) ∧ w' = w :=
  Tryz.strings_CutPrefix s ⟨#[45]⟩ w

theorem zero_int (w : World) : IsInt w (.agg #[.bool false, .slice none 0 0]) 0 :=
  ⟨false, _, 0, rfl, ⟨none, 0, 0, fun _ => 0, rfl, Nat.le_refl _, by omega, .inl rfl, fun j h => by omega, .inl rfl, rfl⟩, by simp, rfl⟩

theorem bad_parse {l : List UInt8} {w : World} {E : Int} (hE : parseE l = E) (h : E ≠ 0) : ParsePost l w (.returned (.tuple #[.agg #[.bool false, .slice none 0 0], .int .i64 E])) (w.alloc (.cells #[.bool false, .slice none 0 0] 29)) :=
  ⟨_, by rw [hE], by unfold parseV; rw [hE, if_neg h]; exact zero_int _, gb_alloc (gb_refl w none) _, fun s p n c h h0 => by simp at h; omega⟩

theorem int_some {w : World} {s : Bool} {p : Option Addr} {n c : Nat} {Z : Int} (h : IsInt w (.agg #[.bool s, .slice p n c]) Z) (hn : 0 < n) : ∃ a, p = some a ∧ a.block < w.heap.size := by
  obtain ⟨s', v, N, he, ⟨p', n', c', f, rfl, _, _, hat, _⟩, _⟩ := h
  simp at he
  obtain ⟨rfl, rfl, rfl, rfl⟩ := he
  rcases hat with h | ⟨g, off, rfl, hg, _⟩
  · omega
  · exact ⟨_, rfl, hg⟩

def SgnPost (p : Option Addr) (Z : Int) (w : World) (e : Ending) (w' : World) : Prop := ∃ s3 p3 n3 c3, e = .returned (.agg #[.bool s3, .slice p3 n3 c3]) ∧ IsInt w' (.agg #[.bool s3, .slice p3 n3 c3]) Z ∧ w.grownBy w' none ∧ (0 < n3 → p3 = p)

theorem sgn_fin {b s : Bool} {p p' : Option Addr} {m cap' : Nat} {Z : Int} {w w' : World} (h : IntPost Z w (.returned (.agg #[.bool (s && b), .slice p' m cap'])) w') (q7 : 0 < m → p' = p) : SgnPost p Z w (.returned (.agg #[.bool (s && b), .slice p' m cap'])) w' := by
  obtain ⟨x, e, h1, h2⟩ := h
  injection e with e
  subst e
  exact ⟨_, _, _, _, rfl, h1, h2, q7⟩

set_option maxHeartbeats 1000000 in
theorem signed_p (s : Bool) (p : Option Addr) (n cap : Nat) (f : Nat → Nat) (w : World) (hn : n ≤ cap) (hc : cap ≤ maxLen) (h : At .u64 w p n f) (hf : ∀ j, j < n → f j < Bw) :
    Calls Tryz.prog 31 #[.bool s, .slice p n cap] w (SgnPost p (sgn s (V Bw f 0 n)) w) := by
  have HT := Lib.hid (fun w1 (hg : w.grownBy w1 none) => trim_c p n cap f w1 hn hc (h.grown hg (by simp)))
  have HH := Lib.hid h; have HF := Lib.hid hf
  clear h hf
  cases s
  · go_enter Tryz.func31, Tryz.ntmps31
    go_wp2_with (go_at_call 56; refine (HT.out _ ?_).mono ?_; (exact World.grownBy_alloc w _ none); rintro e w1 ⟨m, p', cap', rfl, q1, q2, q3, q4, q5, q6, q7, rfl⟩; have Q4 := Lib.hid q4; have Q5 := Lib.hid q5; have Q7 := Lib.hid q7; clear q4 q5 q6 q7)
    have hfin := sgn_fin (signed_fin (s := false) q1 q2 (Nat.le_trans q3 hc) HH.out HF.out Q4.out Q5.out Q7.out) Q7.out
    have HFIN := Lib.hid hfin
    clear hfin
    exact bodyPost_ret (v := .agg #[.bool (false && decide (0 < m)), .slice p' m cap']) (by simp [results, Tryz.results31, go_sem]) rfl HFIN.out
  · go_enter Tryz.func31, Tryz.ntmps31
    go_wp2_with (go_at_call 56; refine (HT.out _ ?_).mono ?_; (exact World.grownBy_alloc w _ none); rintro e w1 ⟨m, p', cap', rfl, q1, q2, q3, q4, q5, q6, q7, rfl⟩; have Q4 := Lib.hid q4; have Q5 := Lib.hid q5; have Q7 := Lib.hid q7; clear q4 q5 q6 q7)
    have hfin := sgn_fin (signed_fin (s := true) q1 q2 (Nat.le_trans q3 hc) HH.out HF.out Q4.out Q5.out Q7.out) Q7.out
    have HFIN := Lib.hid hfin
    clear hfin
    exact bodyPost_ret (v := .agg #[.bool (true && decide (0 < m)), .slice p' m cap']) (by simp [results, Tryz.results31, go_sem]) rfl HFIN.out

/-- What lies behind the rounds. -/
def PRel (l : List UInt8) (w : World) (k : Nat) (v : Value) (wr : World) : Prop :=
  ∃ (mm : Nat) (f : Nat → Nat), mm ≤ k ∧ Own .u64 78 wr (w.heap.size + 1) v mm f ∧ (∀ j, j < mm → f j < Bw) ∧ V Bw f 0 mm = valL (l.take k) ∧ Below (w.heap.size + 1) (w.alloc (.cells #[.bool false, .slice none 0 0] 29)) wr

set_option maxHeartbeats 2000000 in
theorem Parse_c (s : ByteArray) (w : World) : Calls Tryz.prog 12 #[.string s] w (ParsePost s.data.toList w) := by
  obtain ⟨d, hd⟩ : ∃ d : ByteArray, d = ⟨(digs s.data.toList).toArray⟩ := ⟨_, rfl⟩
  have hdl : d.data.toList = digs s.data.toList := by rw [hd]
  have hds : d.size = (digs s.data.toList).length := by rw [← hdl]; exact (Array.length_toList).symm
  obtain ⟨m, hm⟩ : ∃ m, minus s.data.toList = m := ⟨_, rfl⟩
  obtain ⟨n, hn⟩ : ∃ n, (digs s.data.toList).length = n := ⟨_, rfl⟩
  rw [hn] at hds
  have HD := Lib.hid hdl; have HM := Lib.hid hm; have HNN := Lib.hid hn
  have hcut : ∀ w, Calls Tryz.prog 28 #[.string s, .string ⟨#[45]⟩] w fun e w' => e = .returned (.tuple #[.string d, .bool m]) ∧ w' = w := by
    intro w; rw [hd, ← hm]; exact cut_c s w
  have HCUT := Lib.hid hcut
  clear hcut hd hdl hm hn
  by_cases h60 : 60 < n
  · have d1 : decide ((60 : Int) < n) = true := decide_eq_true (by omega)
    have hE : parseE s.data.toList = 11 := by unfold parseE; rw [HNN.out, if_pos h60]
    have HE := Lib.hid hE
    clear hE
    go_enter Tryz.func12, Tryz.ntmps12
    go_wp2_with (go_at_call 28; refine (HCUT.out _).mono ?_; rintro e w1 ⟨rfl, rfl⟩)
    exact bodyPost_ret (v := .tuple #[.agg #[.bool false, .slice none 0 0], .int .i64 11]) (by simp [results, Tryz.results12, go_sem]) rfl (bad_parse HE.out (by decide))
  · have d1 : decide ((60 : Int) < n) = false := decide_eq_false (by omega)
    obtain ⟨pb, hpb⟩ : ∃ pb, plain (digs s.data.toList) = pb := ⟨_, rfl⟩
    have HPB := Lib.hid hpb
    have hpl : ∀ w, Calls Tryz.prog 29 #[.string d] w (fun e w' => e = .returned (.bool pb) ∧ w' = w) := by
      intro w
      have := plain_c d w (by rw [HD.out, HNN.out]; omega)
      rwa [HD.out, hpb] at this
    have HPL := Lib.hid hpl
    have hE : parseE s.data.toList = if pb = false ∨ (m = true ∧ digs s.data.toList = [48]) then 10 else 0 := by unfold parseE; rw [HNN.out, if_neg h60, hpb, HM.out]
    have HE := Lib.hid hE
    clear hE hpl hpb
    cases pb
    · have hE : parseE s.data.toList = 10 := by rw [HE.out, if_pos (.inl rfl)]
      have HE := Lib.hid hE
      clear hE
      go_enter Tryz.func12, Tryz.ntmps12
      go_wp2_with (first
        | (go_at_call 28; refine (HCUT.out _).mono ?_; rintro e w1 ⟨rfl, rfl⟩)
        | (go_at_call 29; refine (HPL.out _).mono ?_; rintro e w1 ⟨rfl, rfl⟩))
      exact bodyPost_ret (v := .tuple #[.agg #[.bool false, .slice none 0 0], .int .i64 10]) (by simp [results, Tryz.results12, go_sem]) rfl (bad_parse HE.out (by decide))
    · by_cases h0 : m = true ∧ digs s.data.toList = [48]
      · obtain ⟨h01, h0⟩ := h0
        have hE : parseE s.data.toList = 10 := by rw [HE.out, if_pos (.inr ⟨h01, h0⟩)]
        subst h01
        have HE2 := Lib.hid hE
        have c1 : (d.toList == [48]) = true := by rw [toList_data, HD.out, h0]; rfl
        clear hE h0 HE
        go_enter Tryz.func12, Tryz.ntmps12
        go_wp2_with (first
          | (go_at_call 28; refine (HCUT.out _).mono ?_; rintro e w1 ⟨rfl, rfl⟩)
          | (go_at_call 29; refine (HPL.out _).mono ?_; rintro e w1 ⟨rfl, rfl⟩))
        exact bodyPost_ret (v := .tuple #[.agg #[.bool false, .slice none 0 0], .int .i64 10]) (by simp [results, Tryz.results12, go_sem]) rfl (bad_parse HE2.out (by decide))
      · have hE : parseE s.data.toList = 0 := by rw [HE.out, if_neg (by rintro (h | h); · cases h
                                                                        · exact h0 h)]
        have HE2 := Lib.hid hE
        have hp1 : plain (digs s.data.toList) = true := HPB.out
        have hdig := plain_dig hp1
        have HDIG := Lib.hid hdig
        have hstart : PRel (digs s.data.toList) w 0 (.slice none 0 0) (w.alloc (.cells #[.bool false, .slice none 0 0] 29)) :=
          ⟨0, fun _ => 0, Nat.le_refl _, ⟨rfl, .inl ⟨rfl, rfl⟩⟩, fun j h => by omega, by simp [V, valL], Below.refl _ _⟩
        have HST := Lib.hid hstart
        clear hE HE hp1 hdig hstart
        cases m
        · clear h0
          go_enter Tryz.func12, Tryz.ntmps12
          go_wp2_with (first
            | (go_at_call 28; refine (HCUT.out _).mono ?_; rintro e w1 ⟨rfl, rfl⟩)
            | (go_at_call 29; refine (HPL.out _).mono ?_; rintro e w1 ⟨rfl, rfl⟩))
          go_loopw [6, 30] (fun v i wr => ∃ k : Nat, k ≤ n ∧ i = .int .i64 k ∧ Hid (PRel (digs s.data.toList) w k v wr)) (fun _ i _ => n - (intOf i).toNat)
          case atStart => exact ⟨0, by omega, rfl, HST⟩
          case round =>
            clear HST
            obtain ⟨k, hk, rfl, HR⟩ := hrel
            by_cases hlt : k < n
            · obtain ⟨mm, f, h1, h2, h3, h4, h5⟩ := HR.out
              have hkl : k < (digs s.data.toList).length := by rw [HNN.out]; exact hlt
              obtain ⟨b, hbv⟩ : ∃ b : Nat, ((digs s.data.toList)[k]'hkl).toNat = b := ⟨_, rfl⟩
              have hix := idx_run d k b (by rw [HD.out]; exact hkl) (by rw [← hbv]; simp only [HD.out])
              have hb := HDIG.out k hkl
              rw [hbv] at hb
              have hv := valL_take hkl
              rw [hbv, ← h4] at hv
              have hsz := h5.size
              have HTP := Lib.hid (timesPlus_c (w.heap.size + 1) u6 mm 10 (b - 48) f wr h2 h3 (by unfold Bw; omega) (by unfold Bw; omega) (by omega) (by simpa using hsz))
              have HV := Lib.hid hv; have HB := Lib.hid h5
              have hb8 : IntKind.u8.wrap ((b : Int) - 48) = ((b - 48 : Nat) : Int) := by rw [IntKind.wrap_u8]; omega
              clear h2 h3 h4 h5 hv hbv hkl hsz
              go_wp2_with (go_at_call 30; refine HTP.out.mono ?_; rintro e w2 ⟨v', m', f', rfl, o1, o2, o3, o4, o5⟩; have O1 := Lib.hid o1; have O3 := Lib.hid o3; have O4 := Lib.hid o4; have O5 := Lib.hid o5; clear o1 o3 o4 o5)
              go_roundw
              case rel => exact ⟨k + 1, by omega, by go_num, m', f', by omega, O1.out, O3.out, by rw [O4.out, HV.out], HB.out.trans O5.out⟩
              case measure => simp [intOf]; omega
            · obtain rfl : k = n := by omega
              obtain ⟨mm, f, h1, h2, h3, h4, h5⟩ := HR.out
              obtain ⟨p, cap, rfl, hmc, hcm, hpa⟩ : ∃ p cap, u6 = .slice p mm cap ∧ mm ≤ cap ∧ cap ≤ maxLen ∧ ∀ a, p = some a → w.heap.size + 1 ≤ a.block := by
                rcases h2.shape with ⟨rfl, rfl⟩ | ⟨g, cap, rfl, hbg, _, hnc, hcm⟩
                · exact ⟨_, _, rfl, by omega, by omega, fun a h => by cases h⟩
                · exact ⟨_, _, rfl, hnc, hcm, fun a h => by cases h; exact hbg⟩
              rw [List.take_of_length_le (by rw [HNN.out]; omega)] at h4
              have HSG := Lib.hid (signed_p false p mm cap f wr hmc hcm h2.at.2 h3)
              have HV := Lib.hid h4; have HB := Lib.hid h5
              clear h2 h3 h4 h5 HR
              go_wp2_with (go_at_call 31; refine HSG.out.mono ?_; rintro e w3 ⟨s3, p3, n3, c3, rfl, hx, hg, hp3⟩; have HX := Lib.hid hx; have HP3 := Lib.hid hp3; clear hp3; have hgg := gb_trans (below_gb (row := none) (a := w.alloc (.cells #[.bool false, .slice none 0 0] 29)) (by simpa using HB.out)) hg; have HG3 := Lib.hid hgg; obtain ⟨hcr3, hfr3⟩ := bcell hgg; have hz3 : w.heap.size < w3.heap.size := (by have := hgg.size; simp at this; omega); clear hx hg hgg)
              have hb := top1 w (.cells #[.bool false, .slice none 0 0] 29)
              obtain ⟨x, e1, e2, e3⟩ := ret_box hb HG3.out HX.out (gb_alloc (gb_refl w none) _) (Nat.le_refl _)
              injection e1 with e1; subst e1
              obtain ⟨rc0, rc1⟩ := ret_cells (s := s3) (p := p3) (n := n3) (c := c3) hb HG3.out
              refine bodyPost_ret (v := .tuple #[.agg #[.bool s3, .slice p3 n3 c3], .int .i64 0]) (by simp [results, Tryz.results12, go_sem, rc0, rc1]) rfl ⟨_, by rw [HE2.out], ?_, e3, ?_⟩
              · unfold parseV
                rw [if_pos HE2.out, HM.out, ← HV.out]; exact e2
              · intro s p' n c h h0
                simp at h
                obtain ⟨rfl, rfl, rfl, rfl⟩ := h
                obtain ⟨a, ha, _⟩ := int_some e2 h0
                refine ⟨a, ha, ?_⟩
                have := hpa a (by rw [← HP3.out h0]; exact ha)
                omega
        · have c1 : (d.toList == [48]) = false := by rw [toList_data, HD.out]; exact beq_eq_false_iff_ne.2 (fun h => h0 ⟨rfl, h⟩)
          clear h0
          go_enter Tryz.func12, Tryz.ntmps12
          go_wp2_with (first
            | (go_at_call 28; refine (HCUT.out _).mono ?_; rintro e w1 ⟨rfl, rfl⟩)
            | (go_at_call 29; refine (HPL.out _).mono ?_; rintro e w1 ⟨rfl, rfl⟩))
          go_loopw [6, 30] (fun v i wr => ∃ k : Nat, k ≤ n ∧ i = .int .i64 k ∧ Hid (PRel (digs s.data.toList) w k v wr)) (fun _ i _ => n - (intOf i).toNat)
          case atStart => exact ⟨0, by omega, rfl, HST⟩
          case round =>
            clear HST
            obtain ⟨k, hk, rfl, HR⟩ := hrel
            by_cases hlt : k < n
            · obtain ⟨mm, f, h1, h2, h3, h4, h5⟩ := HR.out
              have hkl : k < (digs s.data.toList).length := by rw [HNN.out]; exact hlt
              obtain ⟨b, hbv⟩ : ∃ b : Nat, ((digs s.data.toList)[k]'hkl).toNat = b := ⟨_, rfl⟩
              have hix := idx_run d k b (by rw [HD.out]; exact hkl) (by rw [← hbv]; simp only [HD.out])
              have hb := HDIG.out k hkl
              rw [hbv] at hb
              have hv := valL_take hkl
              rw [hbv, ← h4] at hv
              have hsz := h5.size
              have HTP := Lib.hid (timesPlus_c (w.heap.size + 1) u6 mm 10 (b - 48) f wr h2 h3 (by unfold Bw; omega) (by unfold Bw; omega) (by omega) (by simpa using hsz))
              have HV := Lib.hid hv; have HB := Lib.hid h5
              have hb8 : IntKind.u8.wrap ((b : Int) - 48) = ((b - 48 : Nat) : Int) := by rw [IntKind.wrap_u8]; omega
              clear h2 h3 h4 h5 hv hbv hkl hsz
              go_wp2_with (go_at_call 30; refine HTP.out.mono ?_; rintro e w2 ⟨v', m', f', rfl, o1, o2, o3, o4, o5⟩; have O1 := Lib.hid o1; have O3 := Lib.hid o3; have O4 := Lib.hid o4; have O5 := Lib.hid o5; clear o1 o3 o4 o5)
              go_roundw
              case rel => exact ⟨k + 1, by omega, by go_num, m', f', by omega, O1.out, O3.out, by rw [O4.out, HV.out], HB.out.trans O5.out⟩
              case measure => simp [intOf]; omega
            · obtain rfl : k = n := by omega
              obtain ⟨mm, f, h1, h2, h3, h4, h5⟩ := HR.out
              obtain ⟨p, cap, rfl, hmc, hcm, hpa⟩ : ∃ p cap, u6 = .slice p mm cap ∧ mm ≤ cap ∧ cap ≤ maxLen ∧ ∀ a, p = some a → w.heap.size + 1 ≤ a.block := by
                rcases h2.shape with ⟨rfl, rfl⟩ | ⟨g, cap, rfl, hbg, _, hnc, hcm⟩
                · exact ⟨_, _, rfl, by omega, by omega, fun a h => by cases h⟩
                · exact ⟨_, _, rfl, hnc, hcm, fun a h => by cases h; exact hbg⟩
              rw [List.take_of_length_le (by rw [HNN.out]; omega)] at h4
              have HSG := Lib.hid (signed_p true p mm cap f wr hmc hcm h2.at.2 h3)
              have HV := Lib.hid h4; have HB := Lib.hid h5
              clear h2 h3 h4 h5 HR
              go_wp2_with (go_at_call 31; refine HSG.out.mono ?_; rintro e w3 ⟨s3, p3, n3, c3, rfl, hx, hg, hp3⟩; have HX := Lib.hid hx; have HP3 := Lib.hid hp3; clear hp3; have hgg := gb_trans (below_gb (row := none) (a := w.alloc (.cells #[.bool false, .slice none 0 0] 29)) (by simpa using HB.out)) hg; have HG3 := Lib.hid hgg; obtain ⟨hcr3, hfr3⟩ := bcell hgg; have hz3 : w.heap.size < w3.heap.size := (by have := hgg.size; simp at this; omega); clear hx hg hgg)
              have hb := top1 w (.cells #[.bool false, .slice none 0 0] 29)
              obtain ⟨x, e1, e2, e3⟩ := ret_box hb HG3.out HX.out (gb_alloc (gb_refl w none) _) (Nat.le_refl _)
              injection e1 with e1; subst e1
              obtain ⟨rc0, rc1⟩ := ret_cells (s := s3) (p := p3) (n := n3) (c := c3) hb HG3.out
              refine bodyPost_ret (v := .tuple #[.agg #[.bool s3, .slice p3 n3 c3], .int .i64 0]) (by simp [results, Tryz.results12, go_sem, rc0, rc1]) rfl ⟨_, by rw [HE2.out], ?_, e3, ?_⟩
              · unfold parseV
                rw [if_pos HE2.out, HM.out, ← HV.out]; exact e2
              · intro s p' n c h h0
                simp at h
                obtain ⟨rfl, rfl, rfl, rfl⟩ := h
                obtain ⟨a, ha, _⟩ := int_some e2 h0
                refine ⟨a, ha, ?_⟩
                have := hpa a (by rw [← HP3.out h0]; exact ha)
                omega
end Go.Proofs.YtijpelkjeejjfaaGreatDoor.Zd
