/- Lemmas. -/
import Derived.Test.YtddccnpohpaofaaGreatDoorP26
set_option linter.unusedVariables false
set_option linter.unusedSimpArgs false
namespace Go.Proofs.YtddccnpohpaofaaGreatDoor

/-- Places grow. -/
def Grow (T : List Tok) : Prop := ∀ s t : St, s.i ≤ t.i → t.i < T.length → (tokQ T s).pos ≤ (tokQ T t).pos
structure Bad (T : List Tok) (t t' : St) : Prop where
  deep : t.e = 23
  le : t.i ≤ t'.i
  late : t'.e = 23 → t.pos ≤ t'.pos
  place : t.pos = (tokQ T t).pos
  inr : t'.i < T.length
def RS (T : List Tok) (r r' : RT) : Prop := r = r' ∨ Bad T r.2 r'.2
/-- Two functions of which the first has the smaller depth. -/
structure RF (T : List Tok) (f f' : St → RT) : Prop where
  rel : ∀ s, s.i < T.length → RS T (f s) (f' s)
  one : ∀ s, Good T s (f s)
  two : ∀ s, Good T s (f' s)

section
variable {T : List Tok} (hE : EndT T) (hM : Grow T)
include hE hM
theorem Bad.go {t t' : St} (h : Bad T t t') {r r' : RT} (g : Good T t r) (g' : Good T t' r') : Bad T r.2 r'.2 := by
  obtain ⟨a1, a2, a3⟩ := g.stay (by rw [h.deep]; decide)
  have hin := g'.inr hE h.inr
  have hle := Nat.le_trans h.le g'.mono
  refine ⟨a1.trans h.deep, by rw [a3]; exact hle, fun e => ?_, ?_, hin⟩
  · rw [a2]
    by_cases e0 : t'.e = 0
    · rw [g'.place e0 (by rw [e]; decide), h.place]; exact hM _ _ hle hin
    · obtain ⟨b1, b2, -⟩ := g'.stay e0
      rw [b2]; exact h.late (b1.symm.trans e)
  · rw [a2, h.place]; unfold tokQ; rw [a3]
theorem RS.then {a a' : RT} (h : RS T a a') {g g' : RT → RT} (h1 : a = a' → RS T (g a) (g' a)) (g1 : Good T a.2 (g a)) (g2 : Good T a'.2 (g' a')) : RS T (g a) (g' a') := by
  rcases h with e | hb
  · rw [← e]; exact h1 e
  · exact .inr (hb.go hE hM g1 g2)
omit hE hM in
theorem RS.put {a a' : RT} (h : RS T a a') (k : List Tr → List Tr) : RS T (k a.1, a.2) (k a'.1, a'.2) := by
  rcases h with e | hb
  · rw [e]; exact .inl rfl
  · exact .inr hb
theorem RS.app {a a' : RT} (h : RS T a a') {f f' : St → RT} (hf : RF T f f') (ha : a.2.i < T.length) : RS T (a.1 ++ (f a.2).1, (f a.2).2) (a'.1 ++ (f' a'.2).1, (f' a'.2).2) := by
  rcases h with e | hb
  · rw [← e]; exact RS.put (hf.rel _ ha) (fun l => a.1 ++ l)
  · exact .inr (hb.go hE hM ((Good.self T a).app (hf.one _)) ((Good.self T a').app (hf.two _)))
omit hE hM in
theorem RF.same {f : St → RT} (h : ∀ s, Good T s (f s)) : RF T f f := ⟨fun _ _ => .inl rfl, h, h⟩
omit hE hM in
theorem must_rf (w : List UInt8) : RF T (mustT T w) (mustT T w) := RF.same (must_good T w)
omit hE hM in
theorem kind_rf (k : Nat) : RF T (kindT T k) (kindT T k) := RF.same (kind_good T k)
theorem row_rs {c : St → Bool} (hc : ∀ s, c s = true → s.e = 0) {sub sub' : St → RT} (hs : RF T sub sub') : ∀ f r, r.2.i < T.length → RS T (rwT T c sub f r) (rwT T c sub' f r)
  | 0, r, h => .inl rfl
  | f + 1, r, h => by
    unfold rwT
    split
    · rename_i hcc
      have hl := (leaf_good T (hc _ hcc)).inr hE h
      have h1 := hs.rel (leafT T r.2).2 hl
      have h2 : RS T ([.nd 10 (r.1 ++ (leafT T r.2).1 ++ (sub (leafT T r.2).2).1)], (sub (leafT T r.2).2).2) ([.nd 10 (r.1 ++ (leafT T r.2).1 ++ (sub' (leafT T r.2).2).1)], (sub' (leafT T r.2).2).2) := RS.put h1 (fun l => [.nd 10 (r.1 ++ (leafT T r.2).1 ++ l)])
      exact RS.then hE hM h2 (g := rwT T c sub f) (g' := rwT T c sub' f) (fun _ => row_rs hc hs f _ ((hs.one _).inr hE hl)) (row_good T hc hs.one f _ (Good.self T _)) (row_good T hc hs.two f _ (Good.self T _))
    · exact .inl rfl
theorem row_rf {c : St → Bool} (hc : ∀ s, c s = true → s.e = 0) {sub sub' : St → RT} (hs : RF T sub sub') : RF T (fun s => rwT T c sub (fuelQ T (sub s).2) (sub s)) (fun s => rwT T c sub' (fuelQ T (sub' s).2) (sub' s)) := by
  refine ⟨fun s h => ?_, fun s => row_good T hc hs.one _ _ (hs.one s), fun s => row_good T hc hs.two _ _ (hs.two s)⟩
  exact RS.then hE hM (hs.rel s h) (g := fun r => rwT T c sub (fuelQ T r.2) r) (g' := fun r => rwT T c sub' (fuelQ T r.2) r) (fun _ => row_rs hE hM hc hs _ _ ((hs.one s).inr hE h)) (row_good T hc hs.one _ _ (Good.self T _)) (row_good T hc hs.two _ _ (Good.self T _))
theorem parts_rs {sub sub' : St → RT} (hs : RF T sub sub') : ∀ f k r, r.2.i < T.length → RS T (partsT T sub f k r) (partsT T sub' f k r)
  | 0, k, r, h => .inl rfl
  | f + 1, k, r, h => by
    unfold partsT
    split
    · rename_i hcc
      have hl := (leaf_good T (is_kind hcc).2).inr hE h
      have hl2 : (if k = 8 then failQ T 15 (leafT T r.2).2 else (leafT T r.2).2).i < T.length := by split; rw [fail_i]; exact hl; exact hl
      have h1 := hs.rel _ hl2
      have h2 := RS.put h1 (fun l => r.1 ++ (leafT T r.2).1 ++ l)
      exact RS.then hE hM h2 (g := partsT T sub f (k + 1)) (g' := partsT T sub' f (k + 1)) (fun _ => parts_rs hs f _ _ ((hs.one _).inr hE hl2)) (parts_good T hs.one f _ _ (Good.self T _)) (parts_good T hs.two f _ _ (Good.self T _))
    · exact .inl rfl
theorem parts_rf {sub sub' : St → RT} (hs : RF T sub sub') : RF T (fun s => partsT T sub (fuelQ T (sub s).2) 1 (sub s)) (fun s => partsT T sub' (fuelQ T (sub' s).2) 1 (sub' s)) := by
  refine ⟨fun s h => ?_, fun s => parts_good T hs.one _ _ _ (hs.one s), fun s => parts_good T hs.two _ _ _ (hs.two s)⟩
  exact RS.then hE hM (hs.rel s h) (g := fun r => partsT T sub (fuelQ T r.2) 1 r) (g' := fun r => partsT T sub' (fuelQ T r.2) 1 r) (fun _ => parts_rs hE hM hs _ _ _ ((hs.one s).inr hE h)) (parts_good T hs.one _ _ _ (Good.self T _)) (parts_good T hs.two _ _ _ (Good.self T _))

variable {D D' : Nat} (hD : D ≤ D')
include hD
theorem nest_rs (m : Nat) {f f' : St → RT} (hf : m ≤ D → ∀ s, s.i < T.length → RS T (f s) (f' s)) (g' : ∀ s, s.e = 0 → Good T s (f' s)) (s : St) (hs : s.i < T.length) :
    RS T (if (nestQ T D m s).e ≠ 0 then ([], nestQ T D m s) else f (nestQ T D m s)) (if (nestQ T D' m s).e ≠ 0 then ([], nestQ T D' m s) else f' (nestQ T D' m s)) := by
  by_cases hm : m ≤ D
  · have e1 : nestQ T D m s = s := by unfold nestQ; rw [if_neg (by omega)]
    have e2 : nestQ T D' m s = s := by unfold nestQ; rw [if_neg (by omega)]
    rw [e1, e2]
    split
    · exact .inl rfl
    · exact hf hm s hs
  · have e1 : nestQ T D m s = failQ T 23 s := by unfold nestQ; rw [if_pos (by omega)]
    rw [e1, if_pos (fail_e T (by decide) s)]
    by_cases hm2 : m ≤ D'
    · have e2 : nestQ T D' m s = s := by unfold nestQ; rw [if_neg (by omega)]
      rw [e2]
      by_cases he : s.e = 0
      · rw [if_neg (by omega)]
        have hg := g' s he
        have e3 : failQ T 23 s = { s with e := 23, pos := (tokQ T s).pos } := by unfold failQ; rw [if_pos he]
        rw [e3]
        refine .inr ⟨rfl, hg.mono, fun e => ?_, rfl, hg.inr hE hs⟩
        show (tokQ T s).pos ≤ _
        rw [hg.place he (by rw [e]; decide)]
        exact hM _ _ hg.mono (hg.inr hE hs)
      · rw [if_pos he]
        have e3 : failQ T 23 s = s := by unfold failQ; rw [if_neg he]
        rw [e3]; exact .inl rfl
    · have e2 : nestQ T D' m s = failQ T 23 s := by unfold nestQ; rw [if_pos (by omega)]
      rw [e2, if_pos (fail_e T (by decide) s)]; exact .inl rfl

/-- The same of what is nested by one more: but expressions, only where there is room. -/
structure NxF (T : List Tok) (D n1 : Nat) (nt nt' : NxT) : Prop where
  one : NxG T nt
  two : NxG T nt'
  expr : ∀ s, s.i < T.length → RS T (nt.expr s) (nt'.expr s)
  formula : n1 ≤ D → ∀ s, s.i < T.length → RS T (nt.formula s) (nt'.formula s)
  nots : n1 ≤ D → ∀ s, s.i < T.length → RS T (nt.nots s) (nt'.nots s)
  factor : n1 ≤ D → ∀ s, s.i < T.length → RS T (nt.factor s) (nt'.factor s)

variable {n : Nat} {nt nt' : NxT} (h : NxF T D (n + 1) nt nt')
include h
omit hD in
theorem args_rf : RF T (argsT T nt) (argsT T nt') := parts_rf hE hM ⟨h.expr, h.one.expr, h.two.expr⟩
omit h in
theorem sign_rs {sub sub' : St → RT} (hs : n + 1 ≤ D → ∀ s, s.i < T.length → RS T (sub s) (sub' s)) (g' : ∀ s, Good T s (sub' s)) {s : St} (he : s.e = 0) (hl : s.i < T.length) : RS T (signT T D n sub s) (signT T D' n sub' s) := by
  unfold signT
  exact nest_rs hE hM hD (n + 1) (f := fun t => ([.nd 11 ((leafT T s).1 ++ (sub t).1)], (sub t).2)) (f' := fun t => ([.nd 11 ((leafT T s).1 ++ (sub' t).1)], (sub' t).2)) (fun hm t ht => RS.put (hs hm t ht) (fun l => [.nd 11 ((leafT T s).1 ++ l)])) (fun t _ => ⟨(g' t).stay, (g' t).mono, (g' t).place, (g' t).inr⟩) _ ((leaf_good T he).inr hE hl)
omit hD in
theorem nameD_rs (c : RT) (hc : c.2.i < T.length) : RS T (nameDT T nt c) (nameDT T nt' c) := by
  unfold nameDT
  split
  · exact .inl rfl
  · exact RS.put ((args_rf hE hM h).rel _ hc) (fun l => c.1 ++ l)
omit hD in
theorem name_rs {s : St} (he : s.e = 0) (hl : s.i < T.length) : RS T (nameT T nt s) (nameT T nt' s) := by
  unfold nameT
  split
  · exact .inl rfl
  · have g1 := nameC_good T (nameB_good T (leaf_good T he))
    exact RS.then hE hM (nameD_rs hE hM h _ (g1.inr hE hl)) (g := nameET T) (g' := nameET T) (fun e => by rw [e]; exact .inl rfl) (nameE_good T (Good.self T _)) (nameE_good T (Good.self T _))
omit hD in
theorem atom_rf : RF T (atomT T nt) (atomT T nt') := by
  refine ⟨fun s hl => ?_, atom_good T h.one, atom_good T h.two⟩
  unfold atomT
  split
  · exact .inl rfl
  rename_i he
  have he : s.e = 0 := by omega
  split
  · exact .inl rfl
  split
  · exact .inl rfl
  split
  · exact .inl rfl
  split
  · have l1 := (leaf_good T he).inr hE hl
    have h1 := RS.put (h.expr _ l1) (fun l => (leafT T s).1 ++ l)
    have h2 := RS.app hE hM h1 (must_rf [41]) ((h.one.expr _).inr hE l1)
    exact RS.put h2 (fun l => [.nd 12 l])
  split
  · exact name_rs hE hM h he hl
  · exact .inl rfl
theorem factor_rf : RF T (factorT T D n nt) (factorT T D' n nt') := by
  refine ⟨fun s hl => ?_, factor_good T D n h.one, factor_good T D' n h.two⟩
  unfold factorT
  split
  · rename_i hk; exact sign_rs hE hM hD h.factor h.two.factor (is_kind hk).2 hl
  · exact (atom_rf hE hM h).rel s hl
theorem product_rf : RF T (productT T D n nt) (productT T D' n nt') := row_rf hE hM (fun _ hc => mul_e hc) (factor_rf hE hM hD h)
theorem sum_rf : RF T (sumT T D n nt) (sumT T D' n nt') := row_rf hE hM (fun _ hc => add_e hc) (product_rf hE hM hD h)
theorem not_rf : RF T (notT T D n nt) (notT T D' n nt') := by
  refine ⟨fun s hl => ?_, not_good T D n h.one, not_good T D' n h.two⟩
  unfold notT
  split
  · rename_i hk; exact sign_rs hE hM hD h.nots h.two.nots (is_kind hk).2 hl
  · have hs := sum_rf hE hM hD h
    have key : ∀ a : RT, Good T a.2 (if isCmp T a.2 = true then ([.nd 10 (a.1 ++ (leafT T a.2).1 ++ (sumT T D n nt (leafT T a.2).2).1)], (sumT T D n nt (leafT T a.2).2).2) else a) := fun a => by
      split
      · rename_i hc; exact Good.node 10 (((Good.self T a).app (leaf_good T (cmp_e hc))).app (hs.one _))
      · exact Good.self T a
    have key' : ∀ a : RT, Good T a.2 (if isCmp T a.2 = true then ([.nd 10 (a.1 ++ (leafT T a.2).1 ++ (sumT T D' n nt' (leafT T a.2).2).1)], (sumT T D' n nt' (leafT T a.2).2).2) else a) := fun a => by
      split
      · rename_i hc; exact Good.node 10 (((Good.self T a).app (leaf_good T (cmp_e hc))).app (hs.two _))
      · exact Good.self T a
    refine RS.then hE hM (hs.rel s hl) (g := fun a => if isCmp T a.2 = true then ([.nd 10 (a.1 ++ (leafT T a.2).1 ++ (sumT T D n nt (leafT T a.2).2).1)], (sumT T D n nt (leafT T a.2).2).2) else a) (g' := fun a => if isCmp T a.2 = true then ([.nd 10 (a.1 ++ (leafT T a.2).1 ++ (sumT T D' n nt' (leafT T a.2).2).1)], (sumT T D' n nt' (leafT T a.2).2).2) else a) (fun _ => ?_) (key _) (key' _)
    show RS T (if isCmp T (sumT T D n nt s).2 = true then _ else _) (if isCmp T (sumT T D n nt s).2 = true then _ else _)
    split
    · rename_i hc
      exact RS.put (hs.rel _ ((leaf_good T (cmp_e hc)).inr hE ((hs.one s).inr hE hl))) (fun l => [.nd 10 ((sumT T D n nt s).1 ++ (leafT T (sumT T D n nt s).2).1 ++ l)])
    · exact .inl rfl
theorem and_rf : RF T (andT T D n nt) (andT T D' n nt') := row_rf hE hM (fun _ hc => (is_kind hc).2) (not_rf hE hM hD h)
theorem or_rf : RF T (orT T D n nt) (orT T D' n nt') := row_rf hE hM (fun _ hc => (is_kind hc).2) (and_rf hE hM hD h)
theorem formula_rf : RF T (formulaT T D n nt) (formulaT T D' n nt') := by
  refine ⟨fun s hl => ?_, formula_good T D n h.one, formula_good T D' n h.two⟩
  have hs := or_rf hE hM hD h
  have tail : ∀ (E : Nat) (nu : NxT) (hg : NxG T nu) (a : RT), Good T a.2 (if isQ T [61, 62] a.2 = true then (if (nestQ T E (n + 1) (leafT T a.2).2).e ≠ 0 then ([], nestQ T E (n + 1) (leafT T a.2).2) else ([.nd 10 (a.1 ++ (leafT T a.2).1 ++ (nu.formula (nestQ T E (n + 1) (leafT T a.2).2)).1)], (nu.formula (nestQ T E (n + 1) (leafT T a.2).2)).2)) else a) := fun E nu hg a => by
    split
    · rename_i hk
      split
      · exact (leaf_good T (is_kind hk).2).state (nest_good T (Good.nil T _))
      · exact Good.node 10 (((Good.self T a).app (leaf_good T (is_kind hk).2)).app (nest_good T (hg.formula _)))
    · exact Good.self T a
  refine RS.then hE hM (hs.rel s hl) (g := fun a => if isQ T [61, 62] a.2 = true then (if (nestQ T D (n + 1) (leafT T a.2).2).e ≠ 0 then ([], nestQ T D (n + 1) (leafT T a.2).2) else ([.nd 10 (a.1 ++ (leafT T a.2).1 ++ (nt.formula (nestQ T D (n + 1) (leafT T a.2).2)).1)], (nt.formula (nestQ T D (n + 1) (leafT T a.2).2)).2)) else a) (g' := fun a => if isQ T [61, 62] a.2 = true then (if (nestQ T D' (n + 1) (leafT T a.2).2).e ≠ 0 then ([], nestQ T D' (n + 1) (leafT T a.2).2) else ([.nd 10 (a.1 ++ (leafT T a.2).1 ++ (nt'.formula (nestQ T D' (n + 1) (leafT T a.2).2)).1)], (nt'.formula (nestQ T D' (n + 1) (leafT T a.2).2)).2)) else a) (fun _ => ?_) (tail D nt h.one _) (tail D' nt' h.two _)
  generalize ha : orT T D n nt s = a
  show RS T (if isQ T [61, 62] a.2 = true then _ else _) (if isQ T [61, 62] a.2 = true then _ else _)
  split
  · rename_i hk
    have hal : a.2.i < T.length := by rw [← ha]; exact (hs.one s).inr hE hl
    exact nest_rs hE hM hD (n + 1) (f := fun t => ([.nd 10 (a.1 ++ (leafT T a.2).1 ++ (nt.formula t).1)], (nt.formula t).2)) (f' := fun t => ([.nd 10 (a.1 ++ (leafT T a.2).1 ++ (nt'.formula t).1)], (nt'.formula t).2)) (fun hm t ht => RS.put (h.formula hm t ht) (fun l => [.nd 10 (a.1 ++ (leafT T a.2).1 ++ l)])) (fun t _ => ⟨(h.two.formula t).stay, (h.two.formula t).mono, (h.two.formula t).place, (h.two.formula t).inr⟩) _ ((leaf_good T (is_kind hk).2).inr hE hal)
  · exact .inl rfl
omit hD hE hM in
theorem expr_of : RF T nt.expr nt'.expr := ⟨h.expr, h.one.expr, h.two.expr⟩
omit hD in
theorem let_rs {s : St} (he : s.e = 0) (hl : s.i < T.length) : RS T (letT T nt s) (letT T nt' s) := by
  have xf := expr_of h
  have i0 := (leaf_good T he).inr hE hl
  have h1 := RS.app hE hM (a := leafT T s) (a' := leafT T s) (.inl rfl) (kind_rf 1) i0
  have i1 := (kind_good T 1 _).inr hE i0
  have h2 := RS.app hE hM h1 (must_rf [61]) i1
  have i2 := (must_good T [61] _).inr hE i1
  have h3 := RS.app hE hM h2 xf i2
  have i3 := (xf.one _).inr hE i2
  have h4 := RS.app hE hM h3 (must_rf [105, 110]) i3
  have i4 := (must_good T [105, 110] _).inr hE i3
  have h5 := RS.app hE hM h4 xf i4
  exact RS.put h5 (fun l => [.nd 7 l])
omit hD in
theorem if_rs {s : St} (he : s.e = 0) (hl : s.i < T.length) : RS T (ifT T nt s) (ifT T nt' s) := by
  have xf := expr_of h
  have i0 := (leaf_good T he).inr hE hl
  have h1 := RS.app hE hM (a := leafT T s) (a' := leafT T s) (.inl rfl) xf i0
  have i1 := (xf.one _).inr hE i0
  have h2 := RS.app hE hM h1 (must_rf [116, 104, 101, 110]) i1
  have i2 := (must_good T [116, 104, 101, 110] _).inr hE i1
  have h3 := RS.app hE hM h2 xf i2
  have i3 := (xf.one _).inr hE i2
  have h4 := RS.app hE hM h3 (must_rf [101, 108, 115, 101]) i3
  have i4 := (must_good T [101, 108, 115, 101] _).inr hE i3
  have h5 := RS.app hE hM h4 xf i4
  exact RS.put h5 (fun l => [.nd 8 l])
omit hD in
theorem assert_rs {s : St} (he : s.e = 0) (hl : s.i < T.length) : RS T (assertT T nt s) (assertT T nt' s) := by
  have xf := expr_of h
  have i0 := (leaf_good T he).inr hE hl
  have h1 := RS.app hE hM (a := leafT T s) (a' := leafT T s) (.inl rfl) xf i0
  have i1 := (xf.one _).inr hE i0
  have h2 := RS.app hE hM h1 (must_rf [105, 110]) i1
  have i2 := (must_good T [105, 110] _).inr hE i1
  have h3 := RS.app hE hM h2 xf i2
  exact RS.put h3 (fun l => [.nd 9 l])
/-- What stands behind the question how deep. -/
def bodyT (T : List Tok) (D n : Nat) (nt : NxT) (t : St) : RT :=
  if t.inn = false ∧ isQ T [108, 101, 116] t = true then letT T nt t
  else if t.inn = false ∧ isQ T [105, 102] t = true then ifT T nt t
  else if t.inn = false ∧ isQ T [97, 115, 115, 101, 114, 116] t = true then assertT T nt t
  else formulaT T D n nt t
omit hE hM hD h in
theorem body_good (hg : NxG T nt) (t : St) : Good T t (bodyT T D n nt t) := by
  unfold bodyT
  split
  · rename_i hk; exact let_good T hg (is_kind hk.2).2
  split
  · rename_i hk; exact if_good T hg (is_kind hk.2).2
  split
  · rename_i hk; exact assert_good T hg (is_kind hk.2).2
  · exact formula_good T D n hg t
theorem body_rs (t : St) (hl : t.i < T.length) : RS T (bodyT T D n nt t) (bodyT T D' n nt' t) := by
  unfold bodyT
  split
  · rename_i hk; exact let_rs hE hM h (is_kind hk.2).2 hl
  split
  · rename_i hk; exact if_rs hE hM h (is_kind hk.2).2 hl
  split
  · rename_i hk; exact assert_rs hE hM h (is_kind hk.2).2 hl
  · exact (formula_rf hE hM hD h).rel t hl
theorem expr_rs (s : St) (hl : s.i < T.length) : RS T (exprT T D n nt s) (exprT T D' n nt' s) :=
  nest_rs hE hM hD n (f := bodyT T D n nt) (f' := bodyT T D' n nt') (fun _ t ht => body_rs hE hM hD h t ht) (fun t _ => body_good h.two t) s hl
end

/-- Of one place in the nesting, with two depths. -/
theorem nx_rf {T : List Tok} (hE : EndT T) (hM : Grow T) {D D' : Nat} (hD : D ≤ D') : ∀ d d' n, n + d = D + 1 → n + d' = D' + 1 → NxF T D n (nxT T D d) (nxT T D' d')
  | 0, d', n, h1, h2 => by
    have g2 := nx_good T D' d'
    refine ⟨nx_good T D 0, g2, fun s hl => ?_, fun hn => absurd hn (by omega), fun hn => absurd hn (by omega), fun hn => absurd hn (by omega)⟩
    have hn : n = D + 1 := by omega
    subst hn
    cases d' with
    | zero =>
      have : D' = D := by omega
      subst this; exact .inl rfl
    | succ d' =>
      have e : D' - d' = D + 1 := by omega
      have key := nest_rs hE hM hD (D + 1) (f := fun t => (([] : List Tr), t)) (f' := bodyT T D' (D + 1) (nxT T D' d')) (fun hm => absurd hm (by omega)) (fun t _ => body_good (nx_good T D' d') t) s hl
      show RS T ([], nestQ T D (D + 1) s) (exprT T D' (D' - d') (nxT T D' d') s)
      rw [e]
      have e2 : (if (nestQ T D (D + 1) s).e ≠ 0 then (([] : List Tr), nestQ T D (D + 1) s) else ([], nestQ T D (D + 1) s)) = ([], nestQ T D (D + 1) s) := by split <;> rfl
      rw [e2] at key
      exact key
  | d + 1, 0, n, h1, h2 => absurd hD (by omega)
  | d + 1, d' + 1, n, h1, h2 => by
    have ih := nx_rf hE hM hD d d' (n + 1) (by omega) (by omega)
    have e : D - d = n := by omega
    have e' : D' - d' = n := by omega
    refine ⟨nx_good T D (d + 1), nx_good T D' (d' + 1), ?_, fun _ => ?_, fun _ => ?_, fun _ => ?_⟩
    · show ∀ s, s.i < T.length → RS T (exprT T D (D - d) (nxT T D d) s) (exprT T D' (D' - d') (nxT T D' d') s)
      rw [e, e']; exact expr_rs hE hM hD ih
    · show ∀ s, s.i < T.length → RS T (formulaT T D (D - d) (nxT T D d) s) (formulaT T D' (D' - d') (nxT T D' d') s)
      rw [e, e']; exact (formula_rf hE hM hD ih).rel
    · show ∀ s, s.i < T.length → RS T (notT T D (D - d) (nxT T D d) s) (notT T D' (D' - d') (nxT T D' d') s)
      rw [e, e']; exact (not_rf hE hM hD ih).rel
    · show ∀ s, s.i < T.length → RS T (factorT T D (D - d) (nxT T D d) s) (factorT T D' (D' - d') (nxT T D' d') s)
      rw [e, e']; exact (factor_rf hE hM hD ih).rel
end Go.Proofs.YtddccnpohpaofaaGreatDoor
namespace Go.Proofs.YtddccnpohpaofaaGreatDoor

mutual
/-- How many nodes a tree has. -/
def szR : Tr → Nat
  | .lf _ => 1
  | .nd _ l => szRs l + 1
def szRs : List Tr → Nat
  | [] => 0
  | t :: l => szR t + szRs l
end
/-- Where the roots of trees stand that begin at b. -/
def idxs : Nat → List Tr → List Int
  | _, [] => []
  | b, t :: l => ((b + szR t - 1 : Nat) : Int) :: idxs (b + szR t) l
mutual
/-- A tree's nodes from b on. -/
def post : Nat → Tr → List Nd
  | _, .lf i => [⟨19, (i : Int), []⟩]
  | b, .nd k l => posts b l ++ [⟨(k : Int), -1, idxs b l⟩]
def posts : Nat → List Tr → List Nd
  | _, [] => []
  | b, t :: l => post b t ++ posts (b + szR t) l
end

theorem szR_pos (t : Tr) : 1 ≤ szR t := by cases t <;> (unfold szR; omega)
theorem idxs_append (a c : List Tr) : ∀ b, idxs b (a ++ c) = idxs b a ++ idxs (b + szRs a) c := by
  induction a with
  | nil => intro b; simp [idxs, szRs]
  | cons t a ih =>
    intro b
    simp only [List.cons_append, idxs, szRs, ih]
    rw [show b + szR t + szRs a = b + (szR t + szRs a) by omega]
theorem posts_append (a c : List Tr) : ∀ b, posts b (a ++ c) = posts b a ++ posts (b + szRs a) c := by
  induction a with
  | nil => intro b; simp [posts, szRs]
  | cons t a ih =>
    intro b
    simp only [List.cons_append, posts, szRs, ih, List.append_assoc]
    rw [show b + szR t + szRs a = b + (szR t + szRs a) by omega]
mutual
theorem post_len : ∀ (t : Tr) (b : Nat), (post b t).length = szR t
  | .lf i, b => by simp [post, szR]
  | .nd k l, b => by simp [post, szR, posts_len l b]
theorem posts_len : ∀ (l : List Tr) (b : Nat), (posts b l).length = szRs l
  | [], b => by simp [posts, szRs]
  | t :: l, b => by simp [posts, szRs, post_len t b, posts_len l (b + szR t)]
end
theorem idxs_in : ∀ (l : List Tr) (b : Nat) (k : Int), k ∈ idxs b l → (b : Int) ≤ k ∧ k < ((b + szRs l : Nat) : Int)
  | [], b, k, h => by simp [idxs] at h
  | t :: l, b, k, h => by
    have hp := szR_pos t
    simp only [idxs, List.mem_cons] at h
    simp only [szRs]
    rcases h with rfl | h
    · omega
    · have := idxs_in l (b + szR t) k h
      omega
theorem idxs_len : ∀ (l : List Tr) (b : Nat), (idxs b l).length = l.length
  | [], b => rfl
  | t :: l, b => by simp [idxs, idxs_len l]

/-- What a reading leaves: k more of room than it takes. -/
def OutL (k : Nat) (N : List Nd) (s : St) (r : RT) (N' : List Nd) (vs : List Int) : Prop :=
  (r.2.e = 0 → N' = N ++ posts N.length r.1 ∧ vs = idxs N.length r.1 ∧ N'.length + 2 * s.i + k ≤ N.length + 2 * r.2.i) ∧ N'.length + 2 * s.i ≤ N.length + 2 * r.2.i
structure OutD (k : Nat) (N : List Nd) (s : St) (r : RT) (N' : List Nd) (vs : List Int) : Prop where
  out : OutL k N s r N' vs
  dead : r.2.e ≠ 0 → (-1 : Int) ∈ vs
/-- The same state; the same trees, where there is no fault. -/
def Eqv (a b : RT) : Prop := a.2 = b.2 ∧ (b.2.e = 0 → a.1 = b.1)
theorem Eqv.refl (a : RT) : Eqv a a := ⟨rfl, fun _ => rfl⟩

theorem OutL.nil (N : List Nd) (s : St) : OutL 0 N s ([], s) N [] := ⟨fun _ => ⟨by simp [posts], rfl, Nat.le_refl _⟩, Nat.le_refl _⟩
theorem OutL.app {k1 k2 : Nat} {N N1 N2 : List Nd} {s : St} {a b : RT} {v1 v2 : List Int} (h1 : OutL k1 N s a N1 v1) (h2 : OutL k2 N1 a.2 b N2 v2) (hd : a.2.e ≠ 0 → b.2.e ≠ 0) : OutL (k1 + k2) N s (a.1 ++ b.1, b.2) N2 (v1 ++ v2) := by
  refine ⟨fun e => ?_, ?_⟩
  · have ea : a.2.e = 0 := by
      rcases Nat.eq_zero_or_pos a.2.e with h | h
      · exact h
      · exact absurd e (hd (by omega))
    obtain ⟨e1, e2, e3⟩ := h1.1 ea
    obtain ⟨f1, f2, f3⟩ := h2.1 e
    have hl : N1.length = N.length + szRs a.1 := by rw [e1, List.length_append, posts_len]
    refine ⟨?_, ?_, ?_⟩
    · rw [f1, hl, posts_append, ← List.append_assoc, ← e1]
    · rw [f2, e2, hl, idxs_append]
    · show N2.length + 2 * s.i + (k1 + k2) ≤ N.length + 2 * b.2.i; omega
  · have := h1.2; have := h2.2
    show N2.length + 2 * s.i ≤ N.length + 2 * b.2.i; omega
theorem OutD.app {k1 k2 : Nat} {N N1 N2 : List Nd} {s : St} {a b : RT} {v1 v2 : List Int} (h1 : OutL k1 N s a N1 v1) (h2 : OutD k2 N1 a.2 b N2 v2) (hd : a.2.e ≠ 0 → b.2.e ≠ 0) : OutD (k1 + k2) N s (a.1 ++ b.1, b.2) N2 (v1 ++ v2) :=
  ⟨h1.app h2.out hd, fun e => List.mem_append_right _ (h2.dead e)⟩
theorem OutL.weak {k j : Nat} {N N' : List Nd} {s : St} {r : RT} {vs : List Int} (h : OutL k N s r N' vs) (hj : j ≤ k) : OutL j N s r N' vs :=
  ⟨fun e => ⟨(h.1 e).1, (h.1 e).2.1, by have := (h.1 e).2.2; omega⟩, h.2⟩
theorem OutD.weak {k j : Nat} {N N' : List Nd} {s : St} {r : RT} {vs : List Int} (h : OutD k N s r N' vs) (hj : j ≤ k) : OutD j N s r N' vs := ⟨h.out.weak hj, h.dead⟩
theorem OutL.eqv {k : Nat} {N N' : List Nd} {s : St} {a b : RT} {vs : List Int} (h : OutL k N s a N' vs) (he : Eqv a b) : OutL k N s b N' vs :=
  ⟨fun e => by rw [← he.1, ← he.2 e]; exact h.1 (by rw [he.1]; exact e), by rw [← he.1]; exact h.2⟩
theorem OutD.eqv {k : Nat} {N N' : List Nd} {s : St} {a b : RT} {vs : List Int} (h : OutD k N s a N' vs) (he : Eqv a b) : OutD k N s b N' vs :=
  ⟨h.out.eqv he, fun e => h.dead (by rw [he.1]; exact e)⟩

/-- A node of what was read. -/
theorem OutD.ok {k : Nat} {N N1 : List Nd} {s : St} {r : RT} {vs : List Int} (h : OutD k N s r N1 vs) (e : r.2.e = 0) : okB N1.length vs = true := by
  obtain ⟨e1, e2, -⟩ := h.out.1 e
  refine okB_true fun j hj => ?_
  rw [e2] at hj
  have := idxs_in _ _ _ hj
  rw [e1, List.length_append, posts_len]
  omega
theorem OutD.no {k : Nat} {N N1 : List Nd} {s : St} {r : RT} {vs : List Int} (h : OutD k N s r N1 vs) (e : r.2.e ≠ 0) : okB N1.length vs = false := by
  obtain ⟨j, hj⟩ := List.getElem?_of_mem (h.dead e)
  exact okB_false hj (by omega)
theorem OutD.node {k kind : Nat} {N N1 : List Nd} {s : St} {r : RT} {vs : List Int} (h : OutD (k + 1) N s r N1 vs) (e : r.2.e = 0) : OutD k N s ([.nd kind r.1], r.2) (N1 ++ [⟨(kind : Int), -1, vs⟩]) [(N1.length : Int)] := by
  obtain ⟨e1, e2, e3⟩ := h.out.1 e
  have hl : N1.length = N.length + szRs r.1 := by rw [e1, List.length_append, posts_len]
  refine ⟨⟨fun _ => ⟨?_, ?_, ?_⟩, ?_⟩, fun h => absurd e h⟩
  · simp only [posts, post, List.append_nil]; rw [← List.append_assoc, ← e1, e2]
  · simp only [idxs, szR]; rw [hl]; congr 1
  · rw [List.length_append]; show N1.length + 1 + 2 * s.i + k ≤ N.length + 2 * r.2.i; omega
  · rw [List.length_append]; show N1.length + 1 + 2 * s.i ≤ N.length + 2 * r.2.i; omega
theorem OutD.none {k kind : Nat} {N N1 : List Nd} {s : St} {r : RT} {vs : List Int} (h : OutD (k + 1) N s r N1 vs) (e : r.2.e ≠ 0) : OutD k N s ([.nd kind r.1], r.2) N1 [-1] :=
  ⟨⟨fun h => absurd h e, h.out.2⟩, fun _ => List.mem_singleton.2 rfl⟩
theorem OutD.leaf {T : List Tok} {N : List Nd} {s : St} (hk : (tokQ T s).kind ≠ 5) (he : s.e = 0) : OutD 1 N s (leafT T s) (N ++ [⟨19, (s.i : Int), []⟩]) [(N.length : Int)] := by
  have h1 := leaf_fits hk
  refine ⟨⟨fun _ => ⟨?_, ?_, ?_⟩, ?_⟩, fun h => absurd ?_ h⟩
  · simp [leafT, posts, post]
  · simp [leafT, idxs, szR]
  · rw [List.length_append]; show N.length + 1 + 2 * s.i + 1 ≤ N.length + 2 * (leafQ T s).2.i; omega
  · rw [List.length_append]; show N.length + 1 + 2 * s.i ≤ N.length + 2 * (leafQ T s).2.i; omega
  · show (leafQ T s).2.e = 0; unfold leafQ; split <;> exact he
theorem OutD.fail {T : List Tok} {N : List Nd} {s : St} {k m : Nat} (hm : m ≠ 0) (l : List Tr) : OutD k N s (l, failQ T m s) N [-1] :=
  ⟨⟨fun h => absurd h (fail_e T hm s), by show N.length + 2 * s.i ≤ N.length + 2 * (failQ T m s).i; rw [fail_i]; omega⟩, fun _ => List.mem_singleton.2 rfl⟩
end Go.Proofs.YtddccnpohpaofaaGreatDoor
namespace Go.Proofs.YtddccnpohpaofaaGreatDoor.Zd
open Go.RowKit Mx

/-- The value x reads as the whole number Z. -/
def IsInt (w : World) (x : Value) (Z : Int) : Prop := ∃ (s : Bool) (v : Value) (N : Nat), x = .agg #[.bool s, v] ∧ Num w v N ∧ (s = true → N ≠ 0) ∧ Z = if s then -(N : Int) else N

theorem IsInt.kept {w w' : World} {x : Value} {Z : Int} (h : IsInt w x Z) (hg : w.grownBy w' none) : IsInt w' x Z := by
  obtain ⟨s, v, N, rfl, hn, r⟩ := h
  exact ⟨s, v, N, rfl, hn.kept hg, r⟩

def IntPost (Z : Int) (w : World) (e : Ending) (w' : World) : Prop := ∃ x, e = .returned x ∧ IsInt w' x Z ∧ w.grownBy w' none

def sgn (s : Bool) (N : Nat) : Int := if s then -(N : Int) else N

theorem num_len {n : Nat} {f : Nat → Nat} (t : n = 0 ∨ f (n - 1) ≠ 0) : 0 < n ↔ V Bw f 0 n ≠ 0 := by
  constructor
  · intro h
    rcases V_top (b := Bw) (f := f) (o := 0) (n := n) (by simpa using t) with e | e
    · omega
    · have := Nat.pow_pos (n := n - 1) Bw_pos; omega
  · intro h
    exact num_pos h

theorem signed_fin {s : Bool} {p p' : Option Addr} {n m cap' : Nat} {f : Nat → Nat} {w : World} (q1 : m ≤ n) (q2 : m ≤ cap') (q3 : cap' ≤ maxLen) (h : At .u64 w p n f) (hf : ∀ j, j < n → f j < Bw)
    (q4 : m = 0 ∨ f (m - 1) ≠ 0) (q5 : ∀ j, m ≤ j → j < n → f j = 0) (q7 : 0 < m → p' = p) :
    IntPost (sgn s (V Bw f 0 n)) w (.returned (.agg #[.bool (s && decide (0 < m)), .slice p' m cap'])) (w.alloc (.cells #[.bool (s && decide (0 < m)), .slice p' m cap'] 27)) := by
  have hg := World.grownBy_alloc w (.cells #[.bool (s && decide (0 < m)), .slice p' m cap'] 27) none
  have hv : V Bw f 0 n = V Bw f 0 m := V_pad (fun j h1 h2 => by simpa using q5 j h1 h2) q1
  refine ⟨_, rfl, ⟨s && decide (0 < m), .slice p' m cap', V Bw f 0 n, rfl, ⟨p', m, cap', f, rfl, q2, q3, ?_, fun j hj => hf j (by omega), q4, hv.symm⟩, fun h => ?_, ?_⟩, hg⟩
  · by_cases e : m = 0
    · exact .inl e
    · have h2 := (h.pre q1).grown hg (by simp)
      rw [← q7 (by omega)] at h2; exact h2
  · rw [hv]; exact (num_len q4).1 (by simp at h; exact h.2)
  · rw [hv]
    by_cases e : 0 < m
    · cases s <;> simp [sgn, e]
    · obtain rfl : m = 0 := by omega
      cases s <;> simp [sgn, V]

def ValPost (v : Value) (w : World) (e : Ending) (w' : World) : Prop := e = .returned v ∧ w.grownBy w' none
theorem int_open {w : World} {x : Value} {Z : Int} (h : IsInt w x Z) : ∃ s p n cap f, x = .agg #[.bool s, .slice p n cap] ∧ n ≤ cap ∧ cap ≤ maxLen ∧ At .u64 w p n f ∧ (∀ j, j < n → f j < Bw) ∧ (n = 0 ∨ f (n - 1) ≠ 0) ∧ (s = true → 0 < n) ∧ Z = sgn s (V Bw f 0 n) := by
  obtain ⟨s, v, N, rfl, ⟨p, n, cap, f, rfl, h1, h2, h3, h4, h5, rfl⟩, h6, h7⟩ := h
  exact ⟨s, p, n, cap, f, rfl, h1, h2, h3, h4, h5, fun e => num_pos (h6 e), h7⟩
theorem top1 (w : World) (o1 : Obj) : (w.alloc o1).heap[w.heap.size]? = some o1 := heap_alloc_new w o1
theorem int_parts {w : World} {x : Value} {Z : Int} (h : IsInt w x Z) : ∃ s p n cap, x = .agg #[.bool s, .slice p n cap] ∧ Hid (IsInt w (.agg #[.bool s, .slice p n cap]) Z) := by
  obtain ⟨s, v, N, rfl, hn, r⟩ := h
  obtain ⟨p, n, cap, f, rfl, q⟩ := hn
  exact ⟨s, p, n, cap, rfl, s, _, N, rfl, ⟨p, n, cap, f, rfl, q⟩, r⟩

theorem At.off {k : IntKind} {w w' : World} {p : Option Addr} {n r : Nat} {f : Nat → Nat} (h : At k w p n f) (hn : ∀ o x, w.cell? ⟨r, o, none⟩ ≠ some (.int k x)) (hs : w.heap.size ≤ w'.heap.size) (hc : ∀ b o, b ≠ r → w'.cell? ⟨b, o, none⟩ = w.cell? ⟨b, o, none⟩) : At k w' p n f := by
  rcases h with h | ⟨g, off, rfl, hg, hcell⟩
  · exact .inl h
  · by_cases hn0 : n = 0
    · exact .inl hn0
    · have hgr : g ≠ r := by
        intro e; subst e
        exact hn _ _ (hcell 0 (by omega))
      exact .inr ⟨g, off, rfl, Nat.lt_of_lt_of_le hg hs, fun j hj => (hc g _ hgr).trans (hcell j hj)⟩

theorem Num.off {w w' : World} {v : Value} {N r : Nat} (h : Num w v N) (hn : ∀ o x, w.cell? ⟨r, o, none⟩ ≠ some (.int .u64 x)) (hs : w.heap.size ≤ w'.heap.size) (hc : ∀ b o, b ≠ r → w'.cell? ⟨b, o, none⟩ = w.cell? ⟨b, o, none⟩) : Num w' v N := by
  obtain ⟨p, n, cap, f, rfl, h1, h2, h3, r⟩ := h
  exact ⟨p, n, cap, f, rfl, h1, h2, h3.off hn hs hc, r⟩

theorem box_cells {w : World} {r : Nat} {b0 : Bool} {T : TypeId} {q : Option Addr} {l c : Nat} (hb : w.heap[r]? = some (.cells #[.bool b0, .slice q l c] T (0, 0))) (k : IntKind) : ∀ o x, w.cell? ⟨r, o, none⟩ ≠ some (.int k x) := by
  intro o x h
  rw [cell_of_row w r o _ T (0, 0) hb] at h
  match o, h with
  | 0, h => simp at h
  | 1, h => simp at h
  | o + 2, h => simp at h

theorem ret_box {w W w3 : World} {r : Nat} {b0 : Bool} {T : TypeId} {s : Bool} {p : Option Addr} {n c : Nat} {Z : Int} (hb : W.heap[r]? = some (.cells #[.bool b0, .slice none 0 0] T (0, 0))) (hg : W.grownBy w3 none) (hx : IsInt w3 (.agg #[.bool s, .slice p n c]) Z)
    (h0 : w.grownBy W none) (hr : w.heap.size ≤ r) :
    IntPost Z w (.returned (.agg #[.bool s, .slice p n c])) ((w3.setCell ⟨r, 0, none⟩ (.bool s)).setCell ⟨r, 1, none⟩ (.slice p n c)) := by
  have hrW := (Array.getElem?_eq_some_iff.1 hb).1
  have hb3 := (hg.block r hrW (by simp)).trans hb
  refine ⟨_, rfl, ?_, below_gb (gb_new (gb_below (gb_trans h0 hg)) hr (gb_set (gb_set (gb_refl _ _) _) _))⟩
  obtain ⟨s', v', N, he, hn, h1, h2⟩ := hx
  refine ⟨s', v', N, he, hn.off (box_cells hb3 _) (by simp [World.setCell]) (fun b o hbr => ?_), h1, h2⟩
  have e1 : ((w3.setCell ⟨r, 0, none⟩ (.bool s)).setCell ⟨r, 1, none⟩ (.slice p n c)).heap[b]? = w3.heap[b]? := by
    rw [Below.heap_setCell _ _ _ _ (by simpa using hbr), Below.heap_setCell _ _ _ _ (by simpa using hbr)]
  exact World.cell?_of_block (w := w3) e1
theorem ret_cells {W w3 : World} {r : Nat} {b0 : Bool} {T : TypeId} {s : Bool} {p : Option Addr} {n c : Nat} (hb : W.heap[r]? = some (.cells #[.bool b0, .slice none 0 0] T (0, 0))) (hg : W.grownBy w3 none) :
    (w3.setCell ⟨r, 0, none⟩ (.bool s)).cell? ⟨r, 0, none⟩ = some (.bool s) ∧ ((w3.setCell ⟨r, 0, none⟩ (.bool s)).setCell ⟨r, 1, none⟩ (.slice p n c)).cell? ⟨r, 1, none⟩ = some (.slice p n c) := by
  have hrW := (Array.getElem?_eq_some_iff.1 hb).1
  have hb3 := (hg.block r hrW (by simp)).trans hb
  have h1 : (w3.setCell ⟨r, 0, none⟩ (.bool s)).heap[r]? = some (.cells #[.bool s, .slice none 0 0] T (0, 0)) := by
    simp only [World.setCell, Array.getElem?_modify, hb3, if_true, Option.map_some]; rfl
  have h2 : ((w3.setCell ⟨r, 0, none⟩ (.bool s)).setCell ⟨r, 1, none⟩ (.slice p n c)).heap[r]? = some (.cells #[.bool s, .slice p n c] T (0, 0)) := by
    rw [World.setCell]
    simp only [Array.getElem?_modify, h1, if_true, Option.map_some]; rfl
  exact ⟨by rw [cell_of_row _ r 0 _ T (0, 0) h1]; rfl, by rw [cell_of_row _ r 1 _ T (0, 0) h2]; rfl⟩
end Go.Proofs.YtddccnpohpaofaaGreatDoor.Zd
namespace Go.Proofs.YtddccnpohpaofaaGreatDoor
open Go.RowKit

/-- A block of cells of which no string's bytes are part. -/
def Flat (w : World) (g : Nat) : Prop := ∃ cs T, w.heap[g]? = some (.cells cs T (0, 0))
theorem Flat.same {S : Nat → Prop} {w w' : World} {g : Nat} (h : Flat w g) (hg : Fr2 S w w') (hS : ¬ S g) : Flat w' g := by
  obtain ⟨cs, T, h⟩ := h
  exact ⟨cs, T, by rw [hg.block g (hlt h) hS]; exact h⟩
mutual
/-- Eight cells read as an expression of any Op; all its memory lies in F. -/
def SAt (F : Nat → Prop) (w : World) : Sx → List Value → Prop
  | .mk op nm md nu ys ks ps, q => ∃ s pw nw cw pk ck rows, q = [.int .i64 op, strV nm, strV md, .bool s, .slice pw nw cw, .bool ys, .slice pk ks.length ck, .int .i64 ps] ∧ Zd.IsInt w (.agg #[.bool s, .slice pw nw cw]) nu ∧ (0 < nw → ∃ a, pw = some a ∧ F a.block) ∧ GAt 8 w pk rows ∧ LsS F w ks rows ∧ (ks ≠ [] → ∃ a, pk = some a ∧ F a.block ∧ Flat w a.block)
def LsS (F : Nat → Prop) (w : World) : List Sx → List (List Value) → Prop
  | [], r => r = []
  | x :: l, r => ∃ q r', r = q :: r' ∧ SAt F w x q ∧ LsS F w l r'
end
theorem int_sameS {S : Nat → Prop} {w w' : World} {s : Bool} {p : Option Addr} {n c : Nat} {Z : Int} (h : Zd.IsInt w (.agg #[.bool s, .slice p n c]) Z) (hg : Fr2 S w w') (hS : 0 < n → ∀ a, p = some a → ¬ S a.block) : Zd.IsInt w' (.agg #[.bool s, .slice p n c]) Z := by
  obtain ⟨s', v, N, he, ⟨p', n', c', f, rfl, h1, h2, h3, h4⟩, r⟩ := h
  simp only [Value.agg.injEq, Array.mk.injEq, List.cons.injEq, Value.bool.injEq, Value.slice.injEq, and_true] at he
  obtain ⟨rfl, rfl, rfl, rfl⟩ := he
  refine ⟨s, _, N, rfl, ⟨p, n, c, f, rfl, h1, h2, ?_, h4⟩, r⟩
  rcases Nat.eq_zero_or_pos n with h0 | h0
  · exact .inl h0
  · obtain ⟨g, off, rfl, hl, hc⟩ := Or.resolve_left h3 (by omega)
    exact .inr ⟨g, off, rfl, Nat.lt_of_lt_of_le hl hg.size, fun j hj => by rw [World.cell?_of_block (w := w) (hg.block g hl (hS h0 _ rfl))]; exact hc j hj⟩
theorem SAt.len {F : Nat → Prop} {w : World} : ∀ {x : Sx} {q : List Value}, SAt F w x q → q.length = 8
  | .mk op nm md nu ys ks ps, q, h => by
    simp only [SAt] at h
    obtain ⟨s, pw, nw, cw, pk, ck, rows, rfl, -⟩ := h
    rfl
theorem LsS.len {F : Nat → Prop} {w : World} : ∀ {l : List Sx} {r : List (List Value)}, LsS F w l r → r.length = l.length
  | [], r, h => by simp only [LsS] at h; rw [h]; rfl
  | x :: l, r, h => by
    simp only [LsS] at h
    obtain ⟨q, r', rfl, -, h2⟩ := h
    rw [List.length_cons, LsS.len h2]; rfl
theorem LsS.wid {F : Nat → Prop} {w : World} : ∀ {l : List Sx} {r : List (List Value)}, LsS F w l r → ∀ q ∈ r, q.length = 8
  | [], r, h => by simp only [LsS] at h; subst h; simp
  | x :: l, r, h => by
    simp only [LsS] at h
    obtain ⟨q, r', rfl, h1, h2⟩ := h
    intro z hz
    rcases List.mem_cons.1 hz with rfl | hz
    · exact h1.len
    · exact LsS.wid h2 z hz
theorem LsS.get {F : Nat → Prop} {w : World} : ∀ {l : List Sx} {r : List (List Value)} {j : Nat} {x : Sx}, LsS F w l r → l[j]? = some x → ∃ q, r[j]? = some q ∧ SAt F w x q
  | [], r, j, x, h, hx => by simp at hx
  | y :: l, r, j, x, h, hx => by
    simp only [LsS] at h
    obtain ⟨q, r', rfl, h1, h2⟩ := h
    match j, hx with
    | 0, hx => simp at hx; subst hx; exact ⟨q, rfl, h1⟩
    | j + 1, hx =>
      obtain ⟨q', hq, hr⟩ := LsS.get h2 (j := j) (by simpa using hx)
      exact ⟨q', by simpa using hq, hr⟩
theorem LsS.snoc {F : Nat → Prop} {w : World} {x : Sx} {q : List Value} (hx : SAt F w x q) : ∀ {l : List Sx} {r : List (List Value)}, LsS F w l r → LsS F w (l ++ [x]) (r ++ [q])
  | [], r, h => by simp only [LsS] at h; subst h; simp only [List.nil_append, LsS]; exact ⟨q, [], rfl, hx, rfl⟩
  | y :: l, r, h => by
    simp only [LsS] at h
    obtain ⟨q', r', rfl, h1, h2⟩ := h
    simp only [List.cons_append, LsS]
    exact ⟨q', _, rfl, h1, LsS.snoc hx h2⟩
theorem LsS.nil {F : Nat → Prop} {w : World} : LsS F w [] [] := by simp [LsS]
theorem gat_sameS {S F : Nat → Prop} {w w' : World} {p : Option Addr} {rows : List (List Value)} {n : Nat} (hr : rows.length = n) (h : GAt 8 w p rows) (hF : 0 < n → ∃ a, p = some a ∧ F a.block) (hg : Fr2 S w w') (hS : ∀ k, F k → ¬ S k) : GAt 8 w' p rows :=
  h.keptS hg (fun h0 a ha => by
    obtain ⟨b, hb, h1⟩ := hF (by have := List.length_pos_iff.2 h0; omega)
    rw [ha] at hb; injection hb with hb; subst hb; exact hS _ h1)
mutual
theorem SAt.same {F S : Nat → Prop} {w w' : World} (hg : Fr2 S w w') (hS : ∀ k, F k → ¬ S k) : ∀ {x : Sx} {q : List Value}, SAt F w x q → SAt F w' x q
  | .mk op nm md nu ys ks ps, q, h => by
    simp only [SAt] at h ⊢
    obtain ⟨s, pw, nw, cw, pk, ck, rows, h1, h2, h6, h3, h4, h5⟩ := h
    exact ⟨s, pw, nw, cw, pk, ck, rows, h1, int_sameS h2 hg (fun h0 a ha => by obtain ⟨b, hb, hF⟩ := h6 h0; rw [ha] at hb; injection hb with hb; subst hb; exact hS _ hF), h6, gat_sameS h4.len h3 (fun h0 => by obtain ⟨a, ha, hF, -⟩ := h5 (List.length_pos_iff.1 h0); exact ⟨a, ha, hF⟩) hg hS, LsS.same hg hS h4, fun h0 => by obtain ⟨a, ha, hF, hl⟩ := h5 h0; exact ⟨a, ha, hF, hl.same hg (hS _ hF)⟩⟩
theorem LsS.same {F S : Nat → Prop} {w w' : World} (hg : Fr2 S w w') (hS : ∀ k, F k → ¬ S k) : ∀ {l : List Sx} {r : List (List Value)}, LsS F w l r → LsS F w' l r
  | [], r, h => by simp only [LsS] at h ⊢; exact h
  | x :: l, r, h => by
    simp only [LsS] at h ⊢
    obtain ⟨q, r', h1, h2, h3⟩ := h
    exact ⟨q, r', h1, SAt.same hg hS h2, LsS.same hg hS h3⟩
end
mutual
theorem SAt.mono {F F' : Nat → Prop} {w : World} (hF : ∀ k, F k → F' k) : ∀ {x : Sx} {q : List Value}, SAt F w x q → SAt F' w x q
  | .mk op nm md nu ys ks ps, q, h => by
    simp only [SAt] at h ⊢
    obtain ⟨s, pw, nw, cw, pk, ck, rows, h1, h2, h6, h3, h4, h5⟩ := h
    exact ⟨s, pw, nw, cw, pk, ck, rows, h1, h2, fun h0 => by obtain ⟨a, ha, h7⟩ := h6 h0; exact ⟨a, ha, hF _ h7⟩, h3, LsS.mono hF h4, fun h0 => by obtain ⟨a, ha, h6, h8⟩ := h5 h0; exact ⟨a, ha, hF _ h6, h8⟩⟩
theorem LsS.mono {F F' : Nat → Prop} {w : World} (hF : ∀ k, F k → F' k) : ∀ {l : List Sx} {r : List (List Value)}, LsS F w l r → LsS F' w l r
  | [], r, h => by simp only [LsS] at h ⊢; exact h
  | x :: l, r, h => by
    simp only [LsS] at h ⊢
    obtain ⟨q, r', h1, h2, h3⟩ := h
    exact ⟨q, r', h1, SAt.mono hF h2, LsS.mono hF h3⟩
end
theorem SAt.kept {F : Nat → Prop} {w w' : World} {x : Sx} {q : List Value} (h : SAt F w x q) (hg : w.grownBy w' none) : SAt F w' x q := SAt.same (S := fun _ => False) (Fr2.none hg) (fun _ _ h => h) h
theorem LsS.kept {F : Nat → Prop} {w w' : World} {l : List Sx} {r : List (List Value)} (h : LsS F w l r) (hg : w.grownBy w' none) : LsS F w' l r := LsS.same (S := fun _ => False) (Fr2.none hg) (fun _ _ h => h) h

/-! ### The same cells tell of the same size -/

theorem gat_eq {s : Nat} {w : World} {p : Option Addr} {r1 r2 : List (List Value)} (h1 : GAt s w p r1) (h2 : GAt s w p r2) (hl : r1.length = r2.length) (e1 : ∀ q ∈ r1, q.length = s) (e2 : ∀ q ∈ r2, q.length = s) : r1 = r2 := by
  rcases h1 with h1 | ⟨g, off, rfl, -, c1⟩
  · subst h1; exact (List.eq_nil_of_length_eq_zero (by rw [← hl]; rfl)).symm
  rcases h2 with h2 | ⟨g', off', hp, -, c2⟩
  · subst h2; exact List.eq_nil_of_length_eq_zero hl
  simp only [Option.some.injEq, Addr.mk.injEq, and_true] at hp
  obtain ⟨rfl, rfl⟩ := hp
  refine List.ext_getElem hl fun j hj1 hj2 => ?_
  have a1 := List.getElem?_eq_getElem hj1
  have a2 := List.getElem?_eq_getElem hj2
  have b1 := e1 _ (List.getElem_mem hj1)
  have b2 := e2 _ (List.getElem_mem hj2)
  refine List.ext_getElem (by rw [b1, b2]) fun i hi1 hi2 => ?_
  have d1 := c1 j _ a1 i _ (List.getElem?_eq_getElem hi1)
  have d2 := c2 j _ a2 i _ (List.getElem?_eq_getElem hi2)
  rw [d1] at d2; injection d2
mutual
theorem SAt.size {F F' : Nat → Prop} {w : World} : ∀ {x y : Sx} {q : List Value}, SAt F w x q → SAt F' w y q → sizS x = sizS y
  | .mk op nm md nu ys ks ps, .mk op' nm' md' nu' ys' ks' ps', q, h, h' => by
    simp only [SAt] at h h'
    obtain ⟨s, pw, nw, cw, pk, ck, rows, h1, -, -, h3, h4, -⟩ := h
    obtain ⟨s', pw', nw', cw', pk', ck', rows', h1', -, -, h3', h4', -⟩ := h'
    rw [h1] at h1'
    simp only [List.cons.injEq, Value.slice.injEq, and_true] at h1'
    obtain ⟨-, -, -, -, -, -, ⟨rfl, hn, rfl⟩, -⟩ := h1'
    have hr : rows = rows' := gat_eq h3 h3' (by rw [h4.len, h4'.len, hn]) h4.wid h4'.wid
    subst hr
    simp only [sizS]
    rw [LsS.size h4 h4']
theorem LsS.size {F F' : Nat → Prop} {w : World} : ∀ {l m : List Sx} {r : List (List Value)}, LsS F w l r → LsS F' w m r → sizSs l = sizSs m
  | [], [], r, _, _ => rfl
  | [], y :: m, r, h, h' => by simp only [LsS] at h h'; obtain ⟨q, r', e, -⟩ := h'; rw [h] at e; cases e
  | x :: l, [], r, h, h' => by simp only [LsS] at h h'; obtain ⟨q, r', e, -⟩ := h; rw [h'] at e; cases e
  | x :: l, y :: m, r, h, h' => by
    simp only [LsS] at h h'
    obtain ⟨q, r', e, h1, h2⟩ := h
    obtain ⟨q', r'', e', h1', h2'⟩ := h'
    rw [e] at e'; injection e' with e1 e2; subst e1; subst e2
    simp only [sizSs]
    rw [SAt.size h1 h1', LsS.size h2 h2']
end
/-- An address at which eight cells stand. -/
def CAt (w : World) (a : Addr) (q : List Value) : Prop := ∃ g off, a = ⟨g, off, none⟩ ∧ (g < w.heap.size ∧ Flat w g) ∧ ∀ (i : Nat) (v : Value), q[i]? = some v → w.cell? ⟨g, off + i, none⟩ = some v
theorem CAt.eq {w : World} {a : Addr} {q r : List Value} (h1 : CAt w a q) (h2 : CAt w a r) (hl : q.length = r.length) : q = r := by
  obtain ⟨g, off, rfl, -, c1⟩ := h1
  obtain ⟨g', off', hp, -, c2⟩ := h2
  simp only [Addr.mk.injEq, and_true] at hp
  obtain ⟨rfl, rfl⟩ := hp
  refine List.ext_getElem hl fun i hi1 hi2 => ?_
  have d1 := c1 i _ (List.getElem?_eq_getElem hi1)
  have d2 := c2 i _ (List.getElem?_eq_getElem hi2)
  rw [d1] at d2; injection d2
theorem CAt.same {S : Nat → Prop} {w w' : World} {a : Addr} {q : List Value} (h : CAt w a q) (hg : Fr2 S w w') (hS : ¬ S a.block) : CAt w' a q := by
  obtain ⟨g, off, rfl, ⟨hl, hfl⟩, c⟩ := h
  exact ⟨g, off, rfl, ⟨Nat.lt_of_lt_of_le hl hg.size, hfl.same hg hS⟩, fun i v hi => by rw [World.cell?_of_block (w := w) (hg.block g hl hS)]; exact c i v hi⟩
/-- A kid's cells, and where they stand. -/
theorem GAt.at {s : Nat} {w : World} {p : Option Addr} {rows : List (List Value)} {j : Nat} {q : List Value} (h : GAt s w p rows) (hj : rows[j]? = some q) (hf : ∀ a, p = some a → Flat w a.block) : ∃ g off, p = some ⟨g, off, none⟩ ∧ CAt w ⟨g, off + j * s, none⟩ q := by
  rcases h with h | ⟨g, off, rfl, hl, c⟩
  · subst h; simp at hj
  · exact ⟨g, off, rfl, ⟨g, _, rfl, ⟨hl, hf _ rfl⟩, fun i v hi => c j q hj i v hi⟩⟩
/-- Two expressions at one place are of one size. -/
theorem cat_size {F F' : Nat → Prop} {w : World} {a : Addr} {x y : Sx} {q r : List Value} (h1 : CAt w a q) (hx : SAt F w x q) (h2 : CAt w a r) (hy : SAt F' w y r) : sizS x = sizS y := by
  have := h1.eq h2 (by rw [hx.len, hy.len]); subst this
  exact hx.size hy

theorem infoPc : (Tryz.prog.info? 130).map (fun i => (i.zero, i.size, i.bytes)) = some (some (.agg #[.string ⟨#[]⟩, .pointer none, .int .i64 0]), 3, 32) := by kernel_rfl
/-- The writer's box b holds rows of its own, in blocks from B on; none of its memory is of S, which is to be kept. -/
def WrAt (S : Nat → Prop) (B b : Nat) (w : World) (rows : List (List Value)) : Prop := ∃ v, w.heap[b]? = some (.cells #[v] 92 (0, 0)) ∧ OwnG 3 130 w B v rows ∧ b < B ∧ B ≤ w.heap.size ∧ ¬ S b ∧ (∀ k, v.ownBlock = some k → ¬ S k) ∧ ∀ k, S k → k < w.heap.size
def PcPost (S : Nat → Prop) (B b : Nat) (rows : List (List Value)) (w : World) (e : Ending) (w' : World) : Prop := e = .returned (.tuple #[]) ∧ WrAt S B b w' rows ∧ Fr2 (fun k => ¬ S k) w w'
theorem box1 {w : World} {b : Nat} {v u : Value} {T : TypeId} (h : w.heap[b]? = some (.cells #[v] T (0, 0))) : (w.setCell ⟨b, 0, none⟩ u).heap[b]? = some (.cells #[u] T (0, 0)) := (set_cells (i := 0) (u := u) h).trans rfl
theorem WrAt.put {S : Nat → Prop} {B b g9 cap9 n : Nat} {w w2 w9 : World} {v : Value} {rows rows' : List (List Value)} (hb : w.heap[b]? = some (.cells #[v] 92 (0, 0))) (hbB : b < B) (hB : B ≤ w.heap.size) (hO : OwnG 3 130 w B v rows) (hSb : ¬ S b) (hSv : ∀ k, v.ownBlock = some k → ¬ S k) (hSs : ∀ k, S k → k < w.heap.size) (h2 : w.grownBy w2 none) (h9 : w2.grownBy w9 v.ownBlock) (hl9 : v.ownBlock = some g9 ∨ w.heap.size ≤ g9) (hO9 : OwnG 3 130 w9 B (.slice (some ⟨g9, 0, none⟩) n cap9) rows') :
    WrAt S B b (w9.setCell ⟨b, 0, none⟩ (.slice (some ⟨g9, 0, none⟩) n cap9)) rows' ∧ Fr2 (fun k => ¬ S k) w (w9.setCell ⟨b, 0, none⟩ (.slice (some ⟨g9, 0, none⟩) n cap9)) := by
  have hne : v.ownBlock ≠ some b := fun e => by have := (hO.at b e).1; omega
  have hb2 := bx h2 hb
  have hb9 : w9.heap[b]? = some (.cells #[v] 92 (0, 0)) := (h9.block b (hlt hb2) (fun e => hne e.symm)).trans hb2
  have hf : Fr2 (fun k => k = b) w9 (w9.setCell ⟨b, 0, none⟩ (.slice (some ⟨g9, 0, none⟩) n cap9)) := Fr2.setCell (S := fun k => k = b) (Fr2.refl _ _) rfl _
  have hsz : w.heap.size ≤ (w9.setCell ⟨b, 0, none⟩ (.slice (some ⟨g9, 0, none⟩) n cap9)).heap.size := by have := h2.size; have := h9.size; have := hf.size; omega
  refine ⟨⟨_, box1 hb9, hO9.keptF hf (fun k hk e => by have := (hO9.at k hk).1; have e : k = b := e; omega), hbB, by omega, hSb, fun k hk hS => ?_, fun k hk => Nat.lt_of_lt_of_le (hSs k hk) hsz⟩, ?_⟩
  · have e : g9 = k := Option.some.inj (show some g9 = some k from hk)
    subst e
    rcases hl9 with h | h
    · exact hSv _ h hS
    · have := hSs _ hS; omega
  · refine (Fr2.none h2).trans ((Fr2.of h9 (fun k e => hSv k e)).trans (hf.mono (fun k e => ?_)))
    have e : k = b := e
    rw [e]; exact hSb
set_option maxRecDepth 100000 in
set_option maxHeartbeats 16000000 in
theorem put_c9 (S : Nat → Prop) (B b : Nat) (rows : List (List Value)) (s : ByteArray) (w : World) (h : WrAt S B b w rows) (hl : rows.length ≤ 1000000) :
    Calls Tryz.prog 96 #[.pointer (some ⟨b, 0, none⟩), .string s] w (PcPost S B b (rows ++ [[.string s, .pointer none, .int .i64 0]]) w) := by
  obtain ⟨v, hb, hO, hbB, hB, hSb, hSv, hSs⟩ := h
  have c0 : w.cell? ⟨b, 0, none⟩ = some v := by rw [cell_of_row w b 0 _ _ (0, 0) hb]; rfl
  have hbw := hlt hb
  obtain ⟨p, c, rfl, -⟩ := hO.is
  obtain ⟨n, hn⟩ : ∃ n, rows.length = n := ⟨_, rfl⟩
  have HN := Lib.hid hn
  have HB := Lib.hid hb; have HO := Lib.hid hO; have HBB := Lib.hid hbB; have HBS := Lib.hid hB; have HL := Lib.hid hl; have HSB := Lib.hid hSb; have HSV := Lib.hid hSv; have HSS := Lib.hid hSs
  have hbk := heap_alloc_new w (.cells #[.string s, .pointer none, .int .i64 0] 130)
  have hsa : (w.alloc (.cells #[.string s, .pointer none, .int .i64 0] 130)).heap.size = w.heap.size + 1 := by simp
  have HBK := Lib.hid hbk; have HSA := Lib.hid hsa
  have HG := Lib.hid (World.grownBy_alloc w (.cells #[.string s, .pointer none, .int .i64 0] 130) none)
  have HO2 := Lib.hid (HO.out.kept HG.out)
  clear hb hO hbB hB hSb hSv hSs hl hbk hsa hn
  go_enter Tryz.func96, Tryz.ntmps96
  go_wp2_with (at_builtin; go_loud (refine wpList_appGl (s := 3) (t := 90) (T := 130) (by decide) Tryz.underlying90 infoPc rfl (by omega) rfl _ _ rfl B rows [.string s, .pointer none, .int .i64 0] rfl (fun u hu => by simp at hu; rcases hu with rfl | rfl | rfl <;> rfl) (.slice p rows.length c) rfl HO2.out w.heap.size _ rfl HBK.out rfl HL.out (by rw [HSA.out]; have := HBS.out; omega) (w.heap.size + 1) HSA.out ?_))
  intro g9 cap9 w9 hO9 hg9 hl9
  have HP := Lib.hid (WrAt.put HB.out HBB.out HBS.out HO.out HSB.out HSV.out HSS.out HG.out hg9 (hl9.imp id (fun h => by omega)) hO9)
  have hbw9 : b < w9.heap.size := by have := hg9.size; rw [HSA.out] at this; omega
  have hb9 : w9.heap[b]? = some (.cells #[.slice p rows.length c] 92 (0, 0)) := by
    have hne : (Value.slice p rows.length c).ownBlock ≠ some b := fun e => by have := (HO.out.at b e).1; have := HBB.out; omega
    have h1 := bx HG.out HB.out
    exact (hg9.block b (hlt h1) (fun e => hne e.symm)).trans h1
  have cb9 : w9.cell? ⟨b, 0, none⟩ = some (.slice p rows.length c) := by rw [cell_of_row w9 b 0 _ _ (0, 0) hb9]; rfl
  have hfz : w9.frozen? ⟨b, 0, none⟩ = false := by simp [World.frozen?, hb9]
  clear hb9
  clear hO9 hg9 hl9
  go_wp2_with fail
  go_end0
  exact ⟨rfl, HP.out.1, HP.out.2⟩
set_option maxRecDepth 100000 in
set_option maxHeartbeats 16000000 in
theorem expr_c9 (S : Nat → Prop) (B b : Nat) (rows : List (List Value)) (a : Option Addr) (least : Int) (w : World) (h : WrAt S B b w rows) (hl : rows.length ≤ 1000000) :
    Calls Tryz.prog 36 #[.pointer (some ⟨b, 0, none⟩), .pointer a, .int .i64 least] w (PcPost S B b (rows ++ [[.string ⟨#[]⟩, .pointer a, .int .i64 least]]) w) := by
  obtain ⟨v, hb, hO, hbB, hB, hSb, hSv, hSs⟩ := h
  have c0 : w.cell? ⟨b, 0, none⟩ = some v := by rw [cell_of_row w b 0 _ _ (0, 0) hb]; rfl
  have hbw := hlt hb
  obtain ⟨p, c, rfl, -⟩ := hO.is
  obtain ⟨n, hn⟩ : ∃ n, rows.length = n := ⟨_, rfl⟩
  have HN := Lib.hid hn
  have HB := Lib.hid hb; have HO := Lib.hid hO; have HBB := Lib.hid hbB; have HBS := Lib.hid hB; have HL := Lib.hid hl; have HSB := Lib.hid hSb; have HSV := Lib.hid hSv; have HSS := Lib.hid hSs
  have hbk := heap_alloc_new w (.cells #[.string ⟨#[]⟩, .pointer a, .int .i64 least] 130)
  have hsa : (w.alloc (.cells #[.string ⟨#[]⟩, .pointer a, .int .i64 least] 130)).heap.size = w.heap.size + 1 := by simp
  have HBK := Lib.hid hbk; have HSA := Lib.hid hsa
  have HG := Lib.hid (World.grownBy_alloc w (.cells #[.string ⟨#[]⟩, .pointer a, .int .i64 least] 130) none)
  have HO2 := Lib.hid (HO.out.kept HG.out)
  clear hb hO hbB hB hSb hSv hSs hl hbk hsa hn
  go_enter Tryz.func36, Tryz.ntmps36
  go_wp2_with (at_builtin; go_loud (refine wpList_appGl (s := 3) (t := 90) (T := 130) (by decide) Tryz.underlying90 infoPc rfl (by omega) rfl _ _ rfl B rows [.string ⟨#[]⟩, .pointer a, .int .i64 least] rfl (fun u hu => by simp at hu; rcases hu with rfl | rfl | rfl <;> rfl) (.slice p rows.length c) rfl HO2.out w.heap.size _ rfl HBK.out rfl HL.out (by rw [HSA.out]; have := HBS.out; omega) (w.heap.size + 1) HSA.out ?_))
  intro g9 cap9 w9 hO9 hg9 hl9
  have HP := Lib.hid (WrAt.put HB.out HBB.out HBS.out HO.out HSB.out HSV.out HSS.out HG.out hg9 (hl9.imp id (fun h => by omega)) hO9)
  have hbw9 : b < w9.heap.size := by have := hg9.size; rw [HSA.out] at this; omega
  have hb9 : w9.heap[b]? = some (.cells #[.slice p rows.length c] 92 (0, 0)) := by
    have hne : (Value.slice p rows.length c).ownBlock ≠ some b := fun e => by have := (HO.out.at b e).1; have := HBB.out; omega
    have h1 := bx HG.out HB.out
    exact (hg9.block b (hlt h1) (fun e => hne e.symm)).trans h1
  have cb9 : w9.cell? ⟨b, 0, none⟩ = some (.slice p rows.length c) := by rw [cell_of_row w9 b 0 _ _ (0, 0) hb9]; rfl
  have hfz : w9.frozen? ⟨b, 0, none⟩ = false := by simp [World.frozen?, hb9]
  clear hb9
  clear hO9 hg9 hl9
  go_wp2_with fail
  go_end0
  exact ⟨rfl, HP.out.1, HP.out.2⟩

/-- A place of the path: an address, the expression there, how many of its kids are begun. -/
abbrev Pq := Addr × Sx × Nat
def todo1 (f : Bool) (p : Pq) : Bool := if p.2.2 = 0 then rightB f p.2.1 else rightBs f (p.2.1.ks.drop p.2.2)
def todoP (f : Bool) (P : List Pq) : Bool := P.all (todo1 f)
mutual
def cstS : Sx → Nat
  | .mk _ _ _ _ _ ks _ => 1 + cstSs ks
def cstSs : List Sx → Nat
  | [] => 0
  | x :: l => 1 + cstS x + cstSs l
end
def cst1 (p : Pq) : Nat := 1 + cstSs (p.2.1.ks.drop p.2.2)
def cstP (P : List Pq) : Nat := (P.map cst1).sum
mutual
theorem cst_siz : ∀ x : Sx, cstS x + 1 = 2 * sizS x
  | .mk op nm md nu ys ks ps => by simp only [cstS, sizS]; have := cst_sizs ks; omega
theorem cst_sizs : ∀ l : List Sx, cstSs l = 2 * sizSs l
  | [] => rfl
  | x :: l => by simp only [cstSs, sizSs]; have := cst_siz x; have := cst_sizs l; omega
end
theorem cstP_append (a b : List Pq) : cstP (a ++ b) = cstP a + cstP b := by simp [cstP, List.map_append, List.sum_append]
theorem todoP_append (f : Bool) (a b : List Pq) : todoP f (a ++ b) = (todoP f a && todoP f b) := by simp [todoP, List.all_append]
theorem cst1_start (a : Addr) (x : Sx) : cst1 (a, x, 0) = cstS x := by cases x; simp [cst1, Sx.ks, cstS]
theorem drop_cons {ks : List Sx} {d : Nat} {k : Sx} (h : ks[d]? = some k) : ks.drop d = k :: ks.drop (d + 1) := by
  obtain ⟨hd, hk⟩ := List.getElem?_eq_some_iff.1 h
  rw [List.drop_eq_getElem_cons hd, hk]
/-- A kid more is begun. -/
theorem todo_push {f : Bool} {P : List Pq} {a b : Addr} {x k : Sx} {d : Nat} (h0 : d = 0 → rightB f x = rightBs f x.ks) (hk : x.ks[d]? = some k) : todoP f (P ++ [(a, x, d)]) = todoP f (P ++ [(a, x, d + 1)] ++ [(b, k, 0)]) := by
  have e : todo1 f (a, x, d) = (rightB f k && rightBs f (x.ks.drop (d + 1))) := by
    have hdc := drop_cons hk
    unfold todo1
    simp only
    split
    · rename_i h
      rw [h0 h]
      have h : d = 0 := h
      subst h
      rw [List.drop_zero] at hdc
      rw [hdc]; simp only [rightBs, List.drop_succ_cons, List.drop_zero]
    · rw [hdc]; simp only [rightBs]
  have e2 : todo1 f (a, x, d + 1) = rightBs f (x.ks.drop (d + 1)) := rfl
  have e3 : todo1 f (b, k, 0) = rightB f k := rfl
  rw [todoP_append, todoP_append, todoP_append]
  simp only [todoP, List.all_cons, List.all_nil, Bool.and_true, e, e2, e3]
  cases List.all P (todo1 f) <;> cases rightB f k <;> simp
theorem cst_push {P : List Pq} {a b : Addr} {x k : Sx} {d : Nat} (hk : x.ks[d]? = some k) : cstP (P ++ [(a, x, d)]) = cstP (P ++ [(a, x, d + 1)] ++ [(b, k, 0)]) + 1 := by
  have hdc := drop_cons hk
  rw [cstP_append, cstP_append, cstP_append]
  simp only [cstP, List.map_cons, List.map_nil, List.sum_cons, List.sum_nil]
  rw [cst1_start]
  simp only [cst1, hdc, cstSs]; omega
/-- All of it is seen. -/
theorem todo_pop {f : Bool} {P : List Pq} {a : Addr} {x : Sx} {d : Nat} (h0 : d = 0 → rightB f x = rightBs f x.ks) (hd : d = x.ks.length) : todoP f (P ++ [(a, x, d)]) = todoP f P := by
  have e : todo1 f (a, x, d) = true := by
    unfold todo1
    simp only
    split
    · rename_i h
      have h : d = 0 := h
      rw [h0 h, List.eq_nil_of_length_eq_zero (hd.symm.trans h)]; rfl
    · rw [hd, List.drop_length]; rfl
  rw [todoP_append]
  simp only [todoP, List.all_cons, List.all_nil, e, Bool.and_true]
theorem cst_pop {P : List Pq} {a : Addr} {x : Sx} {d : Nat} : cstP P < cstP (P ++ [(a, x, d)]) := by
  rw [cstP_append]
  simp only [cstP, List.map_cons, List.map_nil, List.sum_cons, List.sum_nil, cst1]; omega
theorem todo_bad {f : Bool} {P : List Pq} {a : Addr} {x : Sx} (h : rightB f x = false) : todoP f (P ++ [(a, x, 0)]) = false := by
  rw [todoP_append]
  simp [todoP, todo1, h]
theorem right_alone {f : Bool} {op : Int} {nm md : List UInt8} {nu : Int} {ys : Bool} {ks : List Sx} {ps : Int} (h : (mayB f op && aloneB op nm md nu ys ks.length) = true) : rightB f (.mk op nm md nu ys ks ps) = rightBs f ks := by
  simp only [rightB, h, Bool.true_and]
theorem right_not {f : Bool} {op : Int} {nm md : List UInt8} {nu : Int} {ys : Bool} {ks : List Sx} {ps : Int} (h : (mayB f op && aloneB op nm md nu ys ks.length) = false) : rightB f (.mk op nm md nu ys ks ps) = false := by
  simp only [rightB, h, Bool.false_and]

/-- The path in memory: each place's eight cells, all below block B; each is greater than those behind it. -/
structure PathI (F : Nat → Prop) (w : World) (n : Nat) (P : List Pq) : Prop where
  at_ : ∀ p ∈ P, ∃ q, CAt w p.1 q ∧ SAt F w p.2.1 q ∧ p.2.2 ≤ p.2.1.ks.length
  siz : ∀ (i : Nat) (p : Pq), P[i]? = some p → i + sizS p.2.1 ≤ n
  dec : ∀ (i j : Nat) (p r : Pq), i < j → P[i]? = some p → P[j]? = some r → sizS r.2.1 < sizS p.2.1
theorem PathI.start {F : Nat → Prop} {w : World} {a : Addr} {x : Sx} {q : List Value} (h1 : CAt w a q) (h2 : SAt F w x q) : PathI F w (sizS x) [(a, x, 0)] :=
  ⟨fun p hp => by simp at hp; subst hp; exact ⟨q, h1, h2, Nat.zero_le _⟩, fun i p hp => by
    rcases i with _ | i
    · simp at hp; subst hp; simp
    · simp at hp, fun i j p r hij hp hr => by
    rcases j with _ | j
    · omega
    · simp at hr⟩
theorem PathI.pop {F : Nat → Prop} {w : World} {n : Nat} {P : List Pq} {p : Pq} (h : PathI F w n (P ++ [p])) : PathI F w n P :=
  ⟨fun r hr => h.at_ r (List.mem_append_left _ hr), fun i r hi => h.siz i r (by rw [List.getElem?_append_left (List.getElem?_eq_some_iff.1 hi).1]; exact hi),
   fun i j r s hij hi hj => h.dec i j r s hij (by rw [List.getElem?_append_left (List.getElem?_eq_some_iff.1 hi).1]; exact hi) (by rw [List.getElem?_append_left (List.getElem?_eq_some_iff.1 hj).1]; exact hj)⟩
theorem PathI.last {F : Nat → Prop} {w : World} {n : Nat} {P : List Pq} {p : Pq} (h : PathI F w n (P ++ [p])) : P.length + sizS p.2.1 ≤ n := h.siz P.length p (by simp)
theorem snoc_get {P : List Pq} {p r : Pq} {i : Nat} (h : (P ++ [p])[i]? = some r) : (i < P.length ∧ P[i]? = some r) ∨ (i = P.length ∧ r = p) := by
  obtain ⟨hi, -⟩ := List.getElem?_eq_some_iff.1 h
  rw [List.length_append, List.length_singleton] at hi
  by_cases hl : i < P.length
  · rw [List.getElem?_append_left hl] at h; exact .inl ⟨hl, h⟩
  · have e : i = P.length := by omega
    subst e
    simp at h; exact .inr ⟨rfl, h.symm⟩
theorem PathI.step {F : Nat → Prop} {w : World} {n : Nat} {P : List Pq} {a b : Addr} {x k : Sx} {d : Nat} {q : List Value} (h : PathI F w n (P ++ [(a, x, d)])) (hk : x.ks[d]? = some k) (h1 : CAt w b q) (h2 : SAt F w k q) : PathI F w n (P ++ [(a, x, d + 1)] ++ [(b, k, 0)]) := by
  have hs := sizS_kid hk
  have hd : d < x.ks.length := (List.getElem?_eq_some_iff.1 hk).1
  have hl := h.last
  simp only at hl
  have g : ∀ (i : Nat) (p : Pq), (P ++ [(a, x, d + 1)])[i]? = some p → ∃ p', (P ++ [(a, x, d)])[i]? = some p' ∧ p'.2.1 = p.2.1 := fun i p hp => by
    rcases snoc_get hp with ⟨h1, h2⟩ | ⟨rfl, rfl⟩
    · exact ⟨p, by rw [List.getElem?_append_left h1]; exact h2, rfl⟩
    · exact ⟨(a, x, d), by simp, rfl⟩
  refine ⟨fun p hp => ?_, fun i p hp => ?_, fun i j p r hij hp hr => ?_⟩
  · simp only [List.append_assoc, List.cons_append, List.nil_append, List.mem_append, List.mem_cons, List.not_mem_nil, or_false] at hp
    rcases hp with hp | rfl | rfl
    · exact h.at_ p (List.mem_append_left _ hp)
    · obtain ⟨q', e1, e2, -⟩ := h.at_ (a, x, d) (by simp)
      exact ⟨q', e1, e2, by simp only; omega⟩
    · exact ⟨q, h1, h2, Nat.zero_le _⟩
  · rcases snoc_get hp with ⟨h3, h4⟩ | ⟨rfl, rfl⟩
    · obtain ⟨p', e1, e2⟩ := g i p h4
      rw [← e2]; exact h.siz i p' e1
    · simp only [List.length_append, List.length_singleton]; omega
  · rcases snoc_get hr with ⟨h3, h4⟩ | ⟨rfl, rfl⟩
    · have hp' := hp
      rw [List.getElem?_append_left (by omega)] at hp'
      obtain ⟨p1, e1, e2⟩ := g i p hp'
      obtain ⟨r1, e3, e4⟩ := g j r h4
      rw [← e2, ← e4]; exact h.dec i j p1 r1 hij e1 e3
    · simp only [List.length_append, List.length_singleton] at hij
      rw [List.getElem?_append_left (by simpa using hij)] at hp
      obtain ⟨p1, e1, e2⟩ := g i p hp
      rw [← e2]
      rcases snoc_get e1 with ⟨h3, h4⟩ | ⟨rfl, rfl⟩
      · have := h.dec i P.length p1 (a, x, d) h3 e1 (by simp)
        simp only at this ⊢; omega
      · simp only; omega
/-- A kid stands at no place of the path. -/
theorem PathI.ne {F : Nat → Prop} {w : World} {n : Nat} {P : List Pq} {a b : Addr} {x k : Sx} {d i : Nat} {q : List Value} {p : Pq} (h : PathI F w n (P ++ [(a, x, d)])) (hk : x.ks[d]? = some k) (h1 : CAt w b q) (h2 : SAt F w k q) (hp : (P ++ [(a, x, d)])[i]? = some p) : b ≠ p.1 := by
  intro e
  obtain ⟨r, c1, c2, -⟩ := h.at_ p (List.mem_of_getElem? hp)
  rw [← e] at c1
  have h3 := cat_size h1 h2 c1 c2
  have h4 := sizS_kid hk
  rcases snoc_get hp with ⟨h5, h6⟩ | ⟨rfl, rfl⟩
  · have := h.dec i P.length p (a, x, d) h5 hp (by simp)
    simp only at this; omega
  · simp only at h3; omega
end Go.Proofs.YtddccnpohpaofaaGreatDoor
