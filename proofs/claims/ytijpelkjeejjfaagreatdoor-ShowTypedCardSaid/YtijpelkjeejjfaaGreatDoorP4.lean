/- Lemmas. -/
import Derived.Test.YtijpelkjeejjfaaGreatDoorP28
set_option linter.unusedVariables false
set_option linter.unusedSimpArgs false
namespace Go.Proofs.YtijpelkjeejjfaaGreatDoor

/-- Places grow. -/
def Grow (T : List Tok) : Prop := ∀ s t : St, s.i ≤ t.i → t.i < T.length → (tokQ T s).pos ≤ (tokQ T t).pos
structure Bad (T : List Tok) (t t' : St) : Prop where
  deep : t.e = 23
  le : t.i ≤ t'.i
  late : t'.e = 23 → t.pos ≤ t'.pos
  place : t.pos = (tokQ T t).pos
  inr : t'.i < T.length
def RS (T : List Tok) (r r' : RT) : Prop := r = r' ∨ Bad T r.2 r'.2
/-- Two functions of which the first has the smaller depth. -/
structure RF (T : List Tok) (f f' : St → RT) : Prop where
  rel : ∀ s, s.i < T.length → RS T (f s) (f' s)
  one : ∀ s, Good T s (f s)
  two : ∀ s, Good T s (f' s)

section
variable {T : List Tok} (hE : EndT T) (hM : Grow T)
include hE hM
theorem Bad.go {t t' : St} (h : Bad T t t') {r r' : RT} (g : Good T t r) (g' : Good T t' r') : Bad T r.2 r'.2 := by
  obtain ⟨a1, a2, a3⟩ := g.stay (by rw [h.deep]; decide)
  have hin := g'.inr hE h.inr
  have hle := Nat.le_trans h.le g'.mono
  refine ⟨a1.trans h.deep, by rw [a3]; exact hle, fun e => ?_, ?_, hin⟩
  · rw [a2]
    by_cases e0 : t'.e = 0
    · rw [g'.place e0 (by rw [e]; decide), h.place]; exact hM _ _ hle hin
    · obtain ⟨b1, b2, -⟩ := g'.stay e0
      rw [b2]; exact h.late (b1.symm.trans e)
  · rw [a2, h.place]; unfold tokQ; rw [a3]
theorem RS.then {a a' : RT} (h : RS T a a') {g g' : RT → RT} (h1 : a = a' → RS T (g a) (g' a)) (g1 : Good T a.2 (g a)) (g2 : Good T a'.2 (g' a')) : RS T (g a) (g' a') := by
  rcases h with e | hb
  · rw [← e]; exact h1 e
  · exact .inr (hb.go hE hM g1 g2)
omit hE hM in
theorem RS.put {a a' : RT} (h : RS T a a') (k : List Tr → List Tr) : RS T (k a.1, a.2) (k a'.1, a'.2) := by
  rcases h with e | hb
  · rw [e]; exact .inl rfl
  · exact .inr hb
theorem RS.app {a a' : RT} (h : RS T a a') {f f' : St → RT} (hf : RF T f f') (ha : a.2.i < T.length) : RS T (a.1 ++ (f a.2).1, (f a.2).2) (a'.1 ++ (f' a'.2).1, (f' a'.2).2) := by
  rcases h with e | hb
  · rw [← e]; exact RS.put (hf.rel _ ha) (fun l => a.1 ++ l)
  · exact .inr (hb.go hE hM ((Good.self T a).app (hf.one _)) ((Good.self T a').app (hf.two _)))
omit hE hM in
theorem RF.same {f : St → RT} (h : ∀ s, Good T s (f s)) : RF T f f := ⟨fun _ _ => .inl rfl, h, h⟩
omit hE hM in
theorem must_rf (w : List UInt8) : RF T (mustT T w) (mustT T w) := RF.same (must_good T w)
omit hE hM in
theorem kind_rf (k : Nat) : RF T (kindT T k) (kindT T k) := RF.same (kind_good T k)
theorem row_rs {c : St → Bool} (hc : ∀ s, c s = true → s.e = 0) {sub sub' : St → RT} (hs : RF T sub sub') : ∀ f r, r.2.i < T.length → RS T (rwT T c sub f r) (rwT T c sub' f r)
  | 0, r, h => .inl rfl
  | f + 1, r, h => by
    unfold rwT
    split
    · rename_i hcc
      have hl := (leaf_good T (hc _ hcc)).inr hE h
      have h1 := hs.rel (leafT T r.2).2 hl
      have h2 : RS T ([.nd 10 (r.1 ++ (leafT T r.2).1 ++ (sub (leafT T r.2).2).1)], (sub (leafT T r.2).2).2) ([.nd 10 (r.1 ++ (leafT T r.2).1 ++ (sub' (leafT T r.2).2).1)], (sub' (leafT T r.2).2).2) := RS.put h1 (fun l => [.nd 10 (r.1 ++ (leafT T r.2).1 ++ l)])
      exact RS.then hE hM h2 (g := rwT T c sub f) (g' := rwT T c sub' f) (fun _ => row_rs hc hs f _ ((hs.one _).inr hE hl)) (row_good T hc hs.one f _ (Good.self T _)) (row_good T hc hs.two f _ (Good.self T _))
    · exact .inl rfl
theorem row_rf {c : St → Bool} (hc : ∀ s, c s = true → s.e = 0) {sub sub' : St → RT} (hs : RF T sub sub') : RF T (fun s => rwT T c sub (fuelQ T (sub s).2) (sub s)) (fun s => rwT T c sub' (fuelQ T (sub' s).2) (sub' s)) := by
  refine ⟨fun s h => ?_, fun s => row_good T hc hs.one _ _ (hs.one s), fun s => row_good T hc hs.two _ _ (hs.two s)⟩
  exact RS.then hE hM (hs.rel s h) (g := fun r => rwT T c sub (fuelQ T r.2) r) (g' := fun r => rwT T c sub' (fuelQ T r.2) r) (fun _ => row_rs hE hM hc hs _ _ ((hs.one s).inr hE h)) (row_good T hc hs.one _ _ (Good.self T _)) (row_good T hc hs.two _ _ (Good.self T _))
theorem parts_rs {sub sub' : St → RT} (hs : RF T sub sub') : ∀ f k r, r.2.i < T.length → RS T (partsT T sub f k r) (partsT T sub' f k r)
  | 0, k, r, h => .inl rfl
  | f + 1, k, r, h => by
    unfold partsT
    split
    · rename_i hcc
      have hl := (leaf_good T (is_kind hcc).2).inr hE h
      have hl2 : (if k = 8 then failQ T 15 (leafT T r.2).2 else (leafT T r.2).2).i < T.length := by split; rw [fail_i]; exact hl; exact hl
      have h1 := hs.rel _ hl2
      have h2 := RS.put h1 (fun l => r.1 ++ (leafT T r.2).1 ++ l)
      exact RS.then hE hM h2 (g := partsT T sub f (k + 1)) (g' := partsT T sub' f (k + 1)) (fun _ => parts_rs hs f _ _ ((hs.one _).inr hE hl2)) (parts_good T hs.one f _ _ (Good.self T _)) (parts_good T hs.two f _ _ (Good.self T _))
    · exact .inl rfl
theorem parts_rf {sub sub' : St → RT} (hs : RF T sub sub') : RF T (fun s => partsT T sub (fuelQ T (sub s).2) 1 (sub s)) (fun s => partsT T sub' (fuelQ T (sub' s).2) 1 (sub' s)) := by
  refine ⟨fun s h => ?_, fun s => parts_good T hs.one _ _ _ (hs.one s), fun s => parts_good T hs.two _ _ _ (hs.two s)⟩
  exact RS.then hE hM (hs.rel s h) (g := fun r => partsT T sub (fuelQ T r.2) 1 r) (g' := fun r => partsT T sub' (fuelQ T r.2) 1 r) (fun _ => parts_rs hE hM hs _ _ _ ((hs.one s).inr hE h)) (parts_good T hs.one _ _ _ (Good.self T _)) (parts_good T hs.two _ _ _ (Good.self T _))

variable {D D' : Nat} (hD : D ≤ D')
include hD
theorem nest_rs (m : Nat) {f f' : St → RT} (hf : m ≤ D → ∀ s, s.i < T.length → RS T (f s) (f' s)) (g' : ∀ s, s.e = 0 → Good T s (f' s)) (s : St) (hs : s.i < T.length) :
    RS T (if (nestQ T D m s).e ≠ 0 then ([], nestQ T D m s) else f (nestQ T D m s)) (if (nestQ T D' m s).e ≠ 0 then ([], nestQ T D' m s) else f' (nestQ T D' m s)) := by
  by_cases hm : m ≤ D
  · have e1 : nestQ T D m s = s := by unfold nestQ; rw [if_neg (by omega)]
    have e2 : nestQ T D' m s = s := by unfold nestQ; rw [if_neg (by omega)]
    rw [e1, e2]
    split
    · exact .inl rfl
    · exact hf hm s hs
  · have e1 : nestQ T D m s = failQ T 23 s := by unfold nestQ; rw [if_pos (by omega)]
    rw [e1, if_pos (fail_e T (by decide) s)]
    by_cases hm2 : m ≤ D'
    · have e2 : nestQ T D' m s = s := by unfold nestQ; rw [if_neg (by omega)]
      rw [e2]
      by_cases he : s.e = 0
      · rw [if_neg (by omega)]
        have hg := g' s he
        have e3 : failQ T 23 s = { s with e := 23, pos := (tokQ T s).pos } := by unfold failQ; rw [if_pos he]
        rw [e3]
        refine .inr ⟨rfl, hg.mono, fun e => ?_, rfl, hg.inr hE hs⟩
        show (tokQ T s).pos ≤ _
        rw [hg.place he (by rw [e]; decide)]
        exact hM _ _ hg.mono (hg.inr hE hs)
      · rw [if_pos he]
        have e3 : failQ T 23 s = s := by unfold failQ; rw [if_neg he]
        rw [e3]; exact .inl rfl
    · have e2 : nestQ T D' m s = failQ T 23 s := by unfold nestQ; rw [if_pos (by omega)]
      rw [e2, if_pos (fail_e T (by decide) s)]; exact .inl rfl

/-- The same of what is nested by one more: but expressions, only where there is room. -/
structure NxF (T : List Tok) (D n1 : Nat) (nt nt' : NxT) : Prop where
  one : NxG T nt
  two : NxG T nt'
  expr : ∀ s, s.i < T.length → RS T (nt.expr s) (nt'.expr s)
  formula : n1 ≤ D → ∀ s, s.i < T.length → RS T (nt.formula s) (nt'.formula s)
  nots : n1 ≤ D → ∀ s, s.i < T.length → RS T (nt.nots s) (nt'.nots s)
  factor : n1 ≤ D → ∀ s, s.i < T.length → RS T (nt.factor s) (nt'.factor s)

variable {n : Nat} {nt nt' : NxT} (h : NxF T D (n + 1) nt nt')
include h
omit hD in
theorem args_rf : RF T (argsT T nt) (argsT T nt') := parts_rf hE hM ⟨h.expr, h.one.expr, h.two.expr⟩
omit h in
theorem sign_rs {sub sub' : St → RT} (hs : n + 1 ≤ D → ∀ s, s.i < T.length → RS T (sub s) (sub' s)) (g' : ∀ s, Good T s (sub' s)) {s : St} (he : s.e = 0) (hl : s.i < T.length) : RS T (signT T D n sub s) (signT T D' n sub' s) := by
  unfold signT
  exact nest_rs hE hM hD (n + 1) (f := fun t => ([.nd 11 ((leafT T s).1 ++ (sub t).1)], (sub t).2)) (f' := fun t => ([.nd 11 ((leafT T s).1 ++ (sub' t).1)], (sub' t).2)) (fun hm t ht => RS.put (hs hm t ht) (fun l => [.nd 11 ((leafT T s).1 ++ l)])) (fun t _ => ⟨(g' t).stay, (g' t).mono, (g' t).place, (g' t).inr⟩) _ ((leaf_good T he).inr hE hl)
omit hD in
theorem nameD_rs (c : RT) (hc : c.2.i < T.length) : RS T (nameDT T nt c) (nameDT T nt' c) := by
  unfold nameDT
  split
  · exact .inl rfl
  · exact RS.put ((args_rf hE hM h).rel _ hc) (fun l => c.1 ++ l)
omit hD in
theorem name_rs {s : St} (he : s.e = 0) (hl : s.i < T.length) : RS T (nameT T nt s) (nameT T nt' s) := by
  unfold nameT
  split
  · exact .inl rfl
  · have g1 := nameC_good T (nameB_good T (leaf_good T he))
    exact RS.then hE hM (nameD_rs hE hM h _ (g1.inr hE hl)) (g := nameET T) (g' := nameET T) (fun e => by rw [e]; exact .inl rfl) (nameE_good T (Good.self T _)) (nameE_good T (Good.self T _))
omit hD in
theorem atom_rf : RF T (atomT T nt) (atomT T nt') := by
  refine ⟨fun s hl => ?_, atom_good T h.one, atom_good T h.two⟩
  unfold atomT
  split
  · exact .inl rfl
  rename_i he
  have he : s.e = 0 := by omega
  split
  · exact .inl rfl
  split
  · exact .inl rfl
  split
  · exact .inl rfl
  split
  · have l1 := (leaf_good T he).inr hE hl
    have h1 := RS.put (h.expr _ l1) (fun l => (leafT T s).1 ++ l)
    have h2 := RS.app hE hM h1 (must_rf [41]) ((h.one.expr _).inr hE l1)
    exact RS.put h2 (fun l => [.nd 12 l])
  split
  · exact name_rs hE hM h he hl
  · exact .inl rfl
theorem factor_rf : RF T (factorT T D n nt) (factorT T D' n nt') := by
  refine ⟨fun s hl => ?_, factor_good T D n h.one, factor_good T D' n h.two⟩
  unfold factorT
  split
  · rename_i hk; exact sign_rs hE hM hD h.factor h.two.factor (is_kind hk).2 hl
  · exact (atom_rf hE hM h).rel s hl
theorem product_rf : RF T (productT T D n nt) (productT T D' n nt') := row_rf hE hM (fun _ hc => mul_e hc) (factor_rf hE hM hD h)
theorem sum_rf : RF T (sumT T D n nt) (sumT T D' n nt') := row_rf hE hM (fun _ hc => add_e hc) (product_rf hE hM hD h)
theorem not_rf : RF T (notT T D n nt) (notT T D' n nt') := by
  refine ⟨fun s hl => ?_, not_good T D n h.one, not_good T D' n h.two⟩
  unfold notT
  split
  · rename_i hk; exact sign_rs hE hM hD h.nots h.two.nots (is_kind hk).2 hl
  · have hs := sum_rf hE hM hD h
    have key : ∀ a : RT, Good T a.2 (if isCmp T a.2 = true then ([.nd 10 (a.1 ++ (leafT T a.2).1 ++ (sumT T D n nt (leafT T a.2).2).1)], (sumT T D n nt (leafT T a.2).2).2) else a) := fun a => by
      split
      · rename_i hc; exact Good.node 10 (((Good.self T a).app (leaf_good T (cmp_e hc))).app (hs.one _))
      · exact Good.self T a
    have key' : ∀ a : RT, Good T a.2 (if isCmp T a.2 = true then ([.nd 10 (a.1 ++ (leafT T a.2).1 ++ (sumT T D' n nt' (leafT T a.2).2).1)], (sumT T D' n nt' (leafT T a.2).2).2) else a) := fun a => by
      split
      · rename_i hc; exact Good.node 10 (((Good.self T a).app (leaf_good T (cmp_e hc))).app (hs.two _))
      · exact Good.self T a
    refine RS.then hE hM (hs.rel s hl) (g := fun a => if isCmp T a.2 = true then ([.nd 10 (a.1 ++ (leafT T a.2).1 ++ (sumT T D n nt (leafT T a.2).2).1)], (sumT T D n nt (leafT T a.2).2).2) else a) (g' := fun a => if isCmp T a.2 = true then ([.nd 10 (a.1 ++ (leafT T a.2).1 ++ (sumT T D' n nt' (leafT T a.2).2).1)], (sumT T D' n nt' (leafT T a.2).2).2) else a) (fun _ => ?_) (key _) (key' _)
    show RS T (if isCmp T (sumT T D n nt s).2 = true then _ else _) (if isCmp T (sumT T D n nt s).2 = true then _ else _)
    split
    · rename_i hc
      exact RS.put (hs.rel _ ((leaf_good T (cmp_e hc)).inr hE ((hs.one s).inr hE hl))) (fun l => [.nd 10 ((sumT T D n nt s).1 ++ (leafT T (sumT T D n nt s).2).1 ++ l)])
    · exact .inl rfl
theorem and_rf : RF T (andT T D n nt) (andT T D' n nt') := row_rf hE hM (fun _ hc => (is_kind hc).2) (not_rf hE hM hD h)
theorem or_rf : RF T (orT T D n nt) (orT T D' n nt') := row_rf hE hM (fun _ hc => (is_kind hc).2) (and_rf hE hM hD h)
theorem formula_rf : RF T (formulaT T D n nt) (formulaT T D' n nt') := by
  refine ⟨fun s hl => ?_, formula_good T D n h.one, formula_good T D' n h.two⟩
  have hs := or_rf hE hM hD h
  have tail : ∀ (E : Nat) (nu : NxT) (hg : NxG T nu) (a : RT), Good T a.2 (if isQ T [61, 62] a.2 = true then (if (nestQ T E (n + 1) (leafT T a.2).2).e ≠ 0 then ([], nestQ T E (n + 1) (leafT T a.2).2) else ([.nd 10 (a.1 ++ (leafT T a.2).1 ++ (nu.formula (nestQ T E (n + 1) (leafT T a.2).2)).1)], (nu.formula (nestQ T E (n + 1) (leafT T a.2).2)).2)) else a) := fun E nu hg a => by
    split
    · rename_i hk
      split
      · exact (leaf_good T (is_kind hk).2).state (nest_good T (Good.nil T _))
      · exact Good.node 10 (((Good.self T a).app (leaf_good T (is_kind hk).2)).app (nest_good T (hg.formula _)))
    · exact Good.self T a
  refine RS.then hE hM (hs.rel s hl) (g := fun a => if isQ T [61, 62] a.2 = true then (if (nestQ T D (n + 1) (leafT T a.2).2).e ≠ 0 then ([], nestQ T D (n + 1) (leafT T a.2).2) else ([.nd 10 (a.1 ++ (leafT T a.2).1 ++ (nt.formula (nestQ T D (n + 1) (leafT T a.2).2)).1)], (nt.formula (nestQ T D (n + 1) (leafT T a.2).2)).2)) else a) (g' := fun a => if isQ T [61, 62] a.2 = true then (if (nestQ T D' (n + 1) (leafT T a.2).2).e ≠ 0 then ([], nestQ T D' (n + 1) (leafT T a.2).2) else ([.nd 10 (a.1 ++ (leafT T a.2).1 ++ (nt'.formula (nestQ T D' (n + 1) (leafT T a.2).2)).1)], (nt'.formula (nestQ T D' (n + 1) (leafT T a.2).2)).2)) else a) (fun _ => ?_) (tail D nt h.one _) (tail D' nt' h.two _)
  generalize ha : orT T D n nt s = a
  show RS T (if isQ T [61, 62] a.2 = true then _ else _) (if isQ T [61, 62] a.2 = true then _ else _)
  split
  · rename_i hk
    have hal : a.2.i < T.length := by rw [← ha]; exact (hs.one s).inr hE hl
    exact nest_rs hE hM hD (n + 1) (f := fun t => ([.nd 10 (a.1 ++ (leafT T a.2).1 ++ (nt.formula t).1)], (nt.formula t).2)) (f' := fun t => ([.nd 10 (a.1 ++ (leafT T a.2).1 ++ (nt'.formula t).1)], (nt'.formula t).2)) (fun hm t ht => RS.put (h.formula hm t ht) (fun l => [.nd 10 (a.1 ++ (leafT T a.2).1 ++ l)])) (fun t _ => ⟨(h.two.formula t).stay, (h.two.formula t).mono, (h.two.formula t).place, (h.two.formula t).inr⟩) _ ((leaf_good T (is_kind hk).2).inr hE hal)
  · exact .inl rfl
omit hD hE hM in
theorem expr_of : RF T nt.expr nt'.expr := ⟨h.expr, h.one.expr, h.two.expr⟩
omit hD in
theorem let_rs {s : St} (he : s.e = 0) (hl : s.i < T.length) : RS T (letT T nt s) (letT T nt' s) := by
  have xf := expr_of h
  have i0 := (leaf_good T he).inr hE hl
  have h1 := RS.app hE hM (a := leafT T s) (a' := leafT T s) (.inl rfl) (kind_rf 1) i0
  have i1 := (kind_good T 1 _).inr hE i0
  have h2 := RS.app hE hM h1 (must_rf [61]) i1
  have i2 := (must_good T [61] _).inr hE i1
  have h3 := RS.app hE hM h2 xf i2
  have i3 := (xf.one _).inr hE i2
  have h4 := RS.app hE hM h3 (must_rf [105, 110]) i3
  have i4 := (must_good T [105, 110] _).inr hE i3
  have h5 := RS.app hE hM h4 xf i4
  exact RS.put h5 (fun l => [.nd 7 l])
omit hD in
theorem if_rs {s : St} (he : s.e = 0) (hl : s.i < T.length) : RS T (ifT T nt s) (ifT T nt' s) := by
  have xf := expr_of h
  have i0 := (leaf_good T he).inr hE hl
  have h1 := RS.app hE hM (a := leafT T s) (a' := leafT T s) (.inl rfl) xf i0
  have i1 := (xf.one _).inr hE i0
  have h2 := RS.app hE hM h1 (must_rf [116, 104, 101, 110]) i1
  have i2 := (must_good T [116, 104, 101, 110] _).inr hE i1
  have h3 := RS.app hE hM h2 xf i2
  have i3 := (xf.one _).inr hE i2
  have h4 := RS.app hE hM h3 (must_rf [101, 108, 115, 101]) i3
  have i4 := (must_good T [101, 108, 115, 101] _).inr hE i3
  have h5 := RS.app hE hM h4 xf i4
  exact RS.put h5 (fun l => [.nd 8 l])
omit hD in
theorem assert_rs {s : St} (he : s.e = 0) (hl : s.i < T.length) : RS T (assertT T nt s) (assertT T nt' s) := by
  have xf := expr_of h
  have i0 := (leaf_good T he).inr hE hl
  have h1 := RS.app hE hM (a := leafT T s) (a' := leafT T s) (.inl rfl) xf i0
  have i1 := (xf.one _).inr hE i0
  have h2 := RS.app hE hM h1 (must_rf [105, 110]) i1
  have i2 := (must_good T [105, 110] _).inr hE i1
  have h3 := RS.app hE hM h2 xf i2
  exact RS.put h3 (fun l => [.nd 9 l])
/-- What stands behind the question how deep. -/
def bodyT (T : List Tok) (D n : Nat) (nt : NxT) (t : St) : RT :=
  if t.inn = false ∧ isQ T [108, 101, 116] t = true then letT T nt t
  else if t.inn = false ∧ isQ T [105, 102] t = true then ifT T nt t
  else if t.inn = false ∧ isQ T [97, 115, 115, 101, 114, 116] t = true then assertT T nt t
  else formulaT T D n nt t
omit hE hM hD h in
theorem body_good (hg : NxG T nt) (t : St) : Good T t (bodyT T D n nt t) := by
  unfold bodyT
  split
  · rename_i hk; exact let_good T hg (is_kind hk.2).2
  split
  · rename_i hk; exact if_good T hg (is_kind hk.2).2
  split
  · rename_i hk; exact assert_good T hg (is_kind hk.2).2
  · exact formula_good T D n hg t
theorem body_rs (t : St) (hl : t.i < T.length) : RS T (bodyT T D n nt t) (bodyT T D' n nt' t) := by
  unfold bodyT
  split
  · rename_i hk; exact let_rs hE hM h (is_kind hk.2).2 hl
  split
  · rename_i hk; exact if_rs hE hM h (is_kind hk.2).2 hl
  split
  · rename_i hk; exact assert_rs hE hM h (is_kind hk.2).2 hl
  · exact (formula_rf hE hM hD h).rel t hl
theorem expr_rs (s : St) (hl : s.i < T.length) : RS T (exprT T D n nt s) (exprT T D' n nt' s) :=
  nest_rs hE hM hD n (f := bodyT T D n nt) (f' := bodyT T D' n nt') (fun _ t ht => body_rs hE hM hD h t ht) (fun t _ => body_good h.two t) s hl
end

/-- Of one place in the nesting, with two depths. -/
theorem nx_rf {T : List Tok} (hE : EndT T) (hM : Grow T) {D D' : Nat} (hD : D ≤ D') : ∀ d d' n, n + d = D + 1 → n + d' = D' + 1 → NxF T D n (nxT T D d) (nxT T D' d')
  | 0, d', n, h1, h2 => by
    have g2 := nx_good T D' d'
    refine ⟨nx_good T D 0, g2, fun s hl => ?_, fun hn => absurd hn (by omega), fun hn => absurd hn (by omega), fun hn => absurd hn (by omega)⟩
    have hn : n = D + 1 := by omega
    subst hn
    cases d' with
    | zero =>
      have : D' = D := by omega
      subst this; exact .inl rfl
    | succ d' =>
      have e : D' - d' = D + 1 := by omega
      have key := nest_rs hE hM hD (D + 1) (f := fun t => (([] : List Tr), t)) (f' := bodyT T D' (D + 1) (nxT T D' d')) (fun hm => absurd hm (by omega)) (fun t _ => body_good (nx_good T D' d') t) s hl
      show RS T ([], nestQ T D (D + 1) s) (exprT T D' (D' - d') (nxT T D' d') s)
      rw [e]
      have e2 : (if (nestQ T D (D + 1) s).e ≠ 0 then (([] : List Tr), nestQ T D (D + 1) s) else ([], nestQ T D (D + 1) s)) = ([], nestQ T D (D + 1) s) := by split <;> rfl
      rw [e2] at key
      exact key
  | d + 1, 0, n, h1, h2 => absurd hD (by omega)
  | d + 1, d' + 1, n, h1, h2 => by
    have ih := nx_rf hE hM hD d d' (n + 1) (by omega) (by omega)
    have e : D - d = n := by omega
    have e' : D' - d' = n := by omega
    refine ⟨nx_good T D (d + 1), nx_good T D' (d' + 1), ?_, fun _ => ?_, fun _ => ?_, fun _ => ?_⟩
    · show ∀ s, s.i < T.length → RS T (exprT T D (D - d) (nxT T D d) s) (exprT T D' (D' - d') (nxT T D' d') s)
      rw [e, e']; exact expr_rs hE hM hD ih
    · show ∀ s, s.i < T.length → RS T (formulaT T D (D - d) (nxT T D d) s) (formulaT T D' (D' - d') (nxT T D' d') s)
      rw [e, e']; exact (formula_rf hE hM hD ih).rel
    · show ∀ s, s.i < T.length → RS T (notT T D (D - d) (nxT T D d) s) (notT T D' (D' - d') (nxT T D' d') s)
      rw [e, e']; exact (not_rf hE hM hD ih).rel
    · show ∀ s, s.i < T.length → RS T (factorT T D (D - d) (nxT T D d) s) (factorT T D' (D' - d') (nxT T D' d') s)
      rw [e, e']; exact (factor_rf hE hM hD ih).rel
end Go.Proofs.YtijpelkjeejjfaaGreatDoor
namespace Go.Proofs.YtijpelkjeejjfaaGreatDoor

section
variable {T : List Tok} (hE : EndT T) (hM : Grow T) {et et' : St → RT} (xf : RF T et et')
include hE hM xf
theorem typC_rs (b : RT) (hl : b.2.i < T.length) : RS T (typCT T et b) (typCT T et' b) := by
  unfold typCT
  split
  · rename_i hk
    have i0 := (leaf_good T (is_kind hk).2).inr hE hl
    have h1 := xf.rel (setIn true (leafT T b.2).2) i0
    have g1 : Good T (et (setIn true (leafT T b.2).2)).2 (mustT T [125] (setIn false (et (setIn true (leafT T b.2).2)).2)) := (must_good T _ _).inn
    have g2 : Good T (et' (setIn true (leafT T b.2).2)).2 (mustT T [125] (setIn false (et' (setIn true (leafT T b.2).2)).2)) := (must_good T _ _).inn
    exact RS.then hE hM h1
      (g := fun f => (b.1 ++ [.nd 6 ((leafT T b.2).1 ++ f.1 ++ (mustT T [125] (setIn false f.2)).1)], (mustT T [125] (setIn false f.2)).2))
      (g' := fun f => (b.1 ++ [.nd 6 ((leafT T b.2).1 ++ f.1 ++ (mustT T [125] (setIn false f.2)).1)], (mustT T [125] (setIn false f.2)).2))
      (fun e => by rw [e]; exact .inl rfl) ⟨g1.stay, g1.mono, g1.place, g1.inr⟩ ⟨g2.stay, g2.mono, g2.place, g2.inr⟩
  · exact .inl rfl
theorem typed_rf : RF T (typedT T et) (typedT T et') :=
  ⟨fun s hl => typC_rs hE hM xf _ ((typB_good T (must_good T [58] s)).inr hE hl), typed_good T xf.one, typed_good T xf.two⟩
theorem par_rf : RF T (parT T et) (parT T et') :=
  ⟨fun s hl => RS.put (RS.app hE hM (a := kindT T 1 s) (a' := kindT T 1 s) (.inl rfl) (typed_rf hE hM xf) ((kind_good T 1 s).inr hE hl)) (fun l => [.nd 4 l]), par_good T xf.one, par_good T xf.two⟩
theorem params_rf : RF T (paramsT T et) (paramsT T et') := parts_rf hE hM (par_rf hE hM xf)
theorem defC_rs (o : RT) (hl : o.2.i < T.length) : RS T (defCT T et o) (defCT T et' o) := by
  unfold defCT
  split
  · exact RS.put ((params_rf hE hM xf).rel _ hl) (fun l => o.1 ++ l)
  · exact .inl rfl
theorem defD_rs {r r' : RT} (h : RS T r r') (hl : r.2.i < T.length) : RS T (defDT T et r) (defDT T et' r') := by
  refine RS.then hE hM h (g := defDT T et) (g' := defDT T et') (fun e => ?_) (defD_good T xf.one (Good.self T r)) (defD_good T xf.two (Good.self T r'))
  subst e
  have i1 := (must_good T [41] r.2).inr hE hl
  have h1 := RS.app hE hM (a := mustT T [41] r.2) (a' := mustT T [41] r.2) (.inl rfl) (typed_rf hE hM xf) i1
  have i2 := (typed_good T xf.one _).inr hE i1
  have h2 := RS.app hE hM h1 (must_rf [61]) i2
  have i3 := (must_good T [61] _).inr hE i2
  have h3 := RS.put h2 (fun l => r.1 ++ l)
  have h4 := RS.app hE hM h3 xf i3
  have i4 := (xf.one _).inr hE i3
  exact RS.app hE hM h4 (must_rf [59]) i4
theorem def_rf : RF T (defT T et) (defT T et') := by
  refine ⟨fun s hl => ?_, def_good T xf.one, def_good T xf.two⟩
  have i1 := (defB_good T (defA_good T s)).inr hE hl
  have i2 := (defC_good T xf.one (Good.self T (defBT T (defAT T s)))).inr hE i1
  exact RS.put (defD_rs hE hM xf (defC_rs hE hM xf _ i1) i2) (fun l => [.nd 3 l])
omit xf in
/-- Many: the same, or the first was refused for its depth. -/
theorem many_rs {c : St → Bool} {step step' : RT → RT} {most : Nat}
    (hr : ∀ r, c r.2 = true → r.2.i < T.length → RS T (step r) (step' r)) (g : ∀ r, c r.2 = true → Good T r.2 (step r)) (g' : ∀ r, c r.2 = true → Good T r.2 (step' r)) :
    ∀ f k r, r.2.i < T.length → manyT T c step most f k r = manyT T c step' most f k r ∨ Bad T (manyT T c step most f k r).2.2 (manyT T c step' most f k r).2.2
  | 0, k, r, h => .inl rfl
  | f + 1, k, r, h => by
    unfold manyT
    split
    · rename_i hcc
      split
      · exact .inl rfl
      · rcases hr r hcc h with e | hb
        · rw [← e]; exact many_rs hr g g' f _ _ ((g r hcc).inr hE h)
        · have m1 := many_good T (c := c) (step := step) (most := most) (s := (step r).2) (fun r hc hr => hr.state (g r hc) (l := (step r).1)) f (k + 1) (step r) (Good.self T _)
          have m2 := many_good T (c := c) (step := step') (most := most) (s := (step' r).2) (fun r hc hr => hr.state (g' r hc) (l := (step' r).1)) f (k + 1) (step' r) (Good.self T _)
          exact .inr (hb.go hE hM m1 m2)
    · exact .inl rfl
theorem program_rs (s : St) (hl : s.i < T.length) : RS T (programT T et s) (programT T et' s) := by
  unfold programT
  have i1 : (importsT T ([], s)).2.2.i < T.length := (many_good T (fun r hc hr => impStep_good T hr hc) _ _ _ (Good.nil T s)).inr hE hl
  split
  · exact .inl rfl
  have hm := many_rs hE hM (c := isDef T) (step := defStepT T et) (step' := defStepT T et') (most := 64)
    (fun r _ hl => RS.put ((def_rf hE hM xf).rel r.2 hl) (fun l => r.1 ++ l))
    (fun r _ => (Good.self T r).app (def_good T xf.one _)) (fun r _ => (Good.self T r).app (def_good T xf.two _))
    (fuelQ T (importsT T ([], s)).2.2) 0 (importsT T ([], s)).2 i1
  have hm : defsT T et (importsT T ([], s)).2 = defsT T et' (importsT T ([], s)).2 ∨ Bad T (defsT T et (importsT T ([], s)).2).2.2 (defsT T et' (importsT T ([], s)).2).2.2 := hm
  rcases hm with e | hb
  · rw [e]; exact .inl rfl
  · have key : ∀ J : Bool × RT, Good T J.2.2 (if J.1 = false then J.2 else (J.2.1 ++ (kindT T 5 J.2.2).1, (kindT T 5 J.2.2).2)) := fun J => by
      split
      · exact Good.self T _
      · exact (Good.self T J.2).app (kind_good T 5 _)
    exact .inr (hb.go hE hM (key _) (key _))
theorem alone_rs (s : St) (hl : s.i < T.length) : RS T (aloneT T et s) (aloneT T et' s) :=
  RS.app hE hM (xf.rel (setIn true s) hl) (kind_rf 5) ((xf.one (setIn true s)).inr hE hl)
end

/-- A program with two depths. -/
theorem depths_rs {T : List Tok} (hE : EndT T) (hM : Grow T) {D D' : Nat} (hD : D ≤ D') (h1 : 1 ≤ D) (s : St) (hl : s.i < T.length) :
    RS T (programT T (nxT T D D).expr s) (programT T (nxT T D' D').expr s) ∧ RS T (aloneT T (nxT T D D).expr s) (aloneT T (nxT T D' D').expr s) := by
  have h := nx_rf hE hM hD D D' 1 (by omega) (by omega)
  have xf : RF T (nxT T D D).expr (nxT T D' D').expr := ⟨h.expr, h.one.expr, h.two.expr⟩
  exact ⟨program_rs hE hM xf s hl, alone_rs hE hM xf s hl⟩
end Go.Proofs.YtijpelkjeejjfaaGreatDoor
namespace Go.Proofs.YtijpelkjeejjfaaGreatDoor

theorem whole_mono (T : List Tok) {i j : Nat} (h : i ≤ j) : (wholeL (T.take i)).length ≤ (wholeL (T.take j)).length := by
  have h1 : (T.take j).take i = T.take i := by rw [List.take_take]; congr 1; omega
  rw [← h1]; exact wholeL_take _ _
theorem grow_all {l : List UInt8} (h : (allE l).2.1 = 0) : Grow (allE l).1 := by
  intro s t hle hlt
  have hp := (place_all h).1
  have hs : (allE l).1[s.i]? = some (tokQ (allE l).1 s) := by unfold tokQ; rw [List.getElem?_eq_getElem (Nat.lt_of_le_of_lt hle hlt)]; rfl
  have ht : (allE l).1[t.i]? = some (tokQ (allE l).1 t) := by unfold tokQ; rw [List.getElem?_eq_getElem hlt]; rfl
  have p1 := (hp _ _ hs).1
  have p2 := (hp _ _ ht).1
  rcases Nat.eq_or_lt_of_le hle with e | hl
  · rw [show tokQ (allE l).1 s = tokQ (allE l).1 t from by unfold tokQ; rw [e]]; exact Nat.le_refl _
  · have h1 := whole_mono (allE l).1 (i := s.i + 1) (j := t.i) hl
    rw [wholeL_next hs, List.length_append, List.length_append] at h1
    omega

/-- The tree of a text that has tokens, and the state at its end. -/
def treeT (T : List Tok) (D : Nat) (f : Bool) : RT := if f = true then aloneT T (nxT T D D).expr startQ else programT T (nxT T D D).expr startQ
theorem tree_m (T : List Tok) (D : Nat) (f : Bool) : (treeQ T D f).2 = (treeT T D f).2 ∧ ((treeT T D f).2.e = 0 → (treeQ T D f).1 = dmp T (.nd (if f = true then 18 else 1) (treeT T D f).1)) := by
  have hx := (nx_m T D D).expr
  unfold treeQ treeT
  cases f
  · exact program_m T _ hx startQ
  · exact ⟨(alone_m T _ hx startQ).1, fun _ => (alone_m T _ hx startQ).2⟩
/-- What is answered, of a text that has tokens. -/
theorem parse_good {l : List UInt8} (hl : l.length ≤ 65536) (h : (allE l).2.1 = 0) (D : Nat) (f : Bool) :
    parseQ l D f = if (treeT (allE l).1 D f).2.e = 0 then (dmp (allE l).1 (.nd (if f = true then 18 else 1) (treeT (allE l).1 D f).1), 0, 0) else ([], (treeT (allE l).1 D f).2.e, (treeT (allE l).1 D f).2.pos) := by
  obtain ⟨h1, h2⟩ := tree_m (allE l).1 D f
  unfold parseQ
  rw [if_neg (by omega), if_neg (by omega)]
  unfold resQ
  rw [h1]
  split
  · rename_i he; rw [h2 he]
  · rfl
/-- The leaves of a tree are all tokens. -/
theorem tree_leaves {l : List UInt8} (h : (allE l).2.1 = 0) (D : Nat) (f : Bool) (he : (treeT (allE l).1 D f).2.e = 0) : lvTs (treeT (allE l).1 D f).1 = List.range (allE l).1.length := by
  obtain ⟨hE, hne⟩ := end_all h
  have hpos : startQ.i < (allE l).1.length := List.length_pos_iff.2 hne
  have hx := (nx_run (allE l).1 D D).expr
  have hg := (nx_good (allE l).1 D D).expr
  cases f
  · have hok : (programT (allE l).1 (nxT (allE l).1 D D).expr startQ).2.i < (allE l).1.length := by
      unfold programT
      have i1 := many_good (allE l).1 (most := 16) (c := isQ (allE l).1 [105, 109, 112, 111, 114, 116]) (step := impStepT (allE l).1) (s := startQ) (fun r hc hr => impStep_good _ hr hc) (fuelQ (allE l).1 startQ) 0 ([], startQ) (Good.nil _ _)
      have i2 := many_good (allE l).1 (most := 64) (c := isDef (allE l).1) (step := defStepT (allE l).1 (nxT (allE l).1 D D).expr) (s := startQ) (fun r hc hr => hr.app (def_good _ hg _)) (fuelQ (allE l).1 (importsT (allE l).1 ([], startQ)).2.2) 0 (importsT (allE l).1 ([], startQ)).2 i1
      split
      · exact i1.inr hE hpos
      split
      · exact i2.inr hE hpos
      · exact (i2.app (kind_good _ 5 _)).inr hE hpos
    exact program_run _ hx hE rfl hok he
  · have hok : (aloneT (allE l).1 (nxT (allE l).1 D D).expr startQ).2.i < (allE l).1.length :=
      ((hg (setIn true startQ)).app (kind_good _ 5 _)).inr hE hpos
    exact alone_run _ hx hE rfl hok he
/-- Two depths: the same answer, or the smaller one is refused for its depth. -/
theorem parse_depths {l : List UInt8} (h : (allE l).2.1 = 0) {D D' : Nat} (hD : D ≤ D') (h1 : 1 ≤ D) (f : Bool) :
    treeT (allE l).1 D f = treeT (allE l).1 D' f ∨ ((treeT (allE l).1 D f).2.e = 23 ∧ ((treeT (allE l).1 D' f).2.e = 23 → (treeT (allE l).1 D f).2.pos ≤ (treeT (allE l).1 D' f).2.pos)) := by
  obtain ⟨hE, hne⟩ := end_all h
  have hpos : startQ.i < (allE l).1.length := List.length_pos_iff.2 hne
  have key := depths_rs hE (grow_all h) hD h1 startQ hpos
  have fin : ∀ a b : RT, RS (allE l).1 a b → a = b ∨ (a.2.e = 23 ∧ (b.2.e = 23 → a.2.pos ≤ b.2.pos)) := fun a b hr => by
    rcases hr with e | hb
    · exact .inl e
    · exact .inr ⟨hb.deep, hb.late⟩
  unfold treeT
  cases f
  · exact fin _ _ key.1
  · exact fin _ _ key.2

structure Keep (s : St) (r : RT) : Prop where
  inn : r.2.inn = s.inn
  dead : s.e ≠ 0 → r.2 = s
theorem Keep.nil (s : St) : Keep s ([], s) := ⟨rfl, fun _ => rfl⟩
theorem Keep.app {s : St} {a b : RT} (h1 : Keep s a) (h2 : Keep a.2 b) {l : List Tr} : Keep s (l, b.2) := by
  refine ⟨h2.inn.trans h1.inn, fun e => ?_⟩
  have ha := h1.dead e
  show b.2 = s
  rw [h2.dead (by rw [ha]; exact e), ha]
theorem Keep.node {s : St} {a : RT} (h : Keep s a) {l : List Tr} : Keep s (l, a.2) := ⟨h.inn, h.dead⟩

section
variable (T : List Tok)
theorem fail_same {n : Nat} {s : St} (h : s.e ≠ 0) : failQ T n s = s := by unfold failQ; rw [if_neg h]
theorem fail_keep (n : Nat) (s : St) (l : List Tr) : Keep s (l, failQ T n s) := ⟨by show (failQ T n s).inn = s.inn; unfold failQ; split <;> rfl, fun h => fail_same T h⟩
theorem nest_same {D n : Nat} {s : St} (h : s.e ≠ 0) : nestQ T D n s = s := by unfold nestQ; split; exact fail_same T h; rfl
theorem nest_inn (D n : Nat) (s : St) : (nestQ T D n s).inn = s.inn := by unfold nestQ; split; exact (fail_keep T 23 s []).inn; rfl
theorem nest_keep {D n : Nat} {s : St} {r : RT} (h : Keep (nestQ T D n s) r) : Keep s r :=
  ⟨h.inn.trans (nest_inn T D n s), fun e => by have h1 := nest_same T (D := D) (n := n) e; rw [h.dead (by rw [h1]; exact e), h1]⟩
theorem leaf_keep {s : St} (h : s.e = 0) : Keep s (leafT T s) := ⟨by show (leafQ T s).2.inn = s.inn; unfold leafQ; split <;> rfl, fun e => absurd h e⟩
theorem must_keep (x : List UInt8) (s : St) : Keep s (mustT T x s) := by
  unfold mustT; split
  · rename_i h; exact leaf_keep T (is_kind h).2
  · exact fail_keep T 22 s []
theorem kind_keep (k : Nat) (s : St) : Keep s (kindT T k s) := by
  unfold kindT; split
  · rename_i h; exact leaf_keep T h.1
  · exact fail_keep T 22 s []
theorem row_keep {c : St → Bool} {sub : St → RT} (hc : ∀ s, c s = true → s.e = 0) (hs : ∀ s, Keep s (sub s)) {s : St} : ∀ f r, Keep s r → Keep s (rwT T c sub f r)
  | 0, r, h => h
  | f + 1, r, h => by
    unfold rwT
    split
    · rename_i hcc
      exact row_keep hc hs f _ ((h.app (leaf_keep T (hc _ hcc)) (l := [])).app (hs _))
    · exact h
theorem parts_keep {sub : St → RT} (hs : ∀ s, Keep s (sub s)) {s : St} : ∀ f k r, Keep s r → Keep s (partsT T sub f k r)
  | 0, k, r, h => h
  | f + 1, k, r, h => by
    unfold partsT
    split
    · rename_i hcc
      refine parts_keep hs f _ _ ?_
      refine (h.app (leaf_keep T (is_kind hcc).2) (l := [])).app ?_
      show Keep (leafT T r.2).2 _
      split
      · exact (fail_keep T 15 _ []).app (hs _)
      · exact hs _
    · exact h
structure NxK (nt : NxT) : Prop where
  expr : ∀ s, Keep s (nt.expr s)
  formula : ∀ s, Keep s (nt.formula s)
  nots : ∀ s, Keep s (nt.nots s)
  factor : ∀ s, Keep s (nt.factor s)
end

section
variable (T : List Tok) (D n : Nat) {nt : NxT} (h : NxK nt)
include h
theorem args_keep (s : St) : Keep s (argsT T nt s) := parts_keep T h.expr _ _ _ (h.expr s)
omit h in
theorem nameB_keep {s : St} {a : RT} (ha : Keep s a) : Keep s (nameBT T a) := by
  unfold nameBT; split
  · rename_i hc; exact (ha.app (leaf_keep T (is_kind hc).2) (l := [])).app (kind_keep T _ _)
  · exact ha
omit h in
theorem nameC_keep {s : St} {a : RT} (ha : Keep s a) : Keep s (nameCT T a) := ha.app (must_keep T _ _)
theorem nameD_keep {s : St} {a : RT} (ha : Keep s a) : Keep s (nameDT T nt a) := by
  unfold nameDT; split
  · exact ha
  · exact ha.app (args_keep T h _)
omit h in
theorem nameE_keep {s : St} {a : RT} (ha : Keep s a) : Keep s (nameET T a) := ha.app (must_keep T _ _)
theorem name_keep {s : St} (hk : s.e = 0) : Keep s (nameT T nt s) := by
  unfold nameT; split
  · exact (leaf_keep T hk).node
  · exact nameE_keep T (nameD_keep T h (nameC_keep T (nameB_keep T (leaf_keep T hk))))
theorem atom_keep (s : St) : Keep s (atomT T nt s) := by
  unfold atomT
  split
  · exact Keep.nil s
  rename_i he
  have he : s.e = 0 := by omega
  split
  · exact (leaf_keep T he).node
  split
  · exact (leaf_keep T he).node
  split
  · exact (leaf_keep T he).node
  split
  · exact ((leaf_keep T he).app (h.expr _) (l := [])).app (must_keep T _ _)
  split
  · exact name_keep T h he
  · exact fail_keep T 22 s []
omit h in
theorem sign_keep {sub : St → RT} (hs : ∀ s, Keep s (sub s)) {s : St} (hk : s.e = 0) : Keep s (signT T D n sub s) := by
  unfold signT
  simp only []
  split
  · exact (leaf_keep T hk).app (nest_keep T (Keep.nil _))
  · exact (leaf_keep T hk).app (nest_keep T (hs _))
theorem factor_keep (s : St) : Keep s (factorT T D n nt s) := by
  unfold factorT; split
  · rename_i hk; exact sign_keep T D n h.factor (is_kind hk).2
  · exact atom_keep T h s
theorem product_keep (s : St) : Keep s (productT T D n nt s) := row_keep T (fun _ hc => mul_e hc) (factor_keep T D n h) _ _ (factor_keep T D n h s)
theorem sum_keep (s : St) : Keep s (sumT T D n nt s) := row_keep T (fun _ hc => add_e hc) (product_keep T D n h) _ _ (product_keep T D n h s)
theorem not_keep (s : St) : Keep s (notT T D n nt s) := by
  unfold notT
  simp only []
  split
  · rename_i hk; exact sign_keep T D n h.nots (is_kind hk).2
  split
  · rename_i hk; exact ((sum_keep T D n h s).app (leaf_keep T (cmp_e hk)) (l := [])).app (sum_keep T D n h _)
  · exact sum_keep T D n h s
theorem and_keep (s : St) : Keep s (andT T D n nt s) := row_keep T (fun _ hc => (is_kind hc).2) (not_keep T D n h) _ _ (not_keep T D n h s)
theorem or_keep (s : St) : Keep s (orT T D n nt s) := row_keep T (fun _ hc => (is_kind hc).2) (and_keep T D n h) _ _ (and_keep T D n h s)
theorem formula_keep (s : St) : Keep s (formulaT T D n nt s) := by
  unfold formulaT
  simp only []
  split
  · rename_i hk
    split
    · exact ((or_keep T D n h s).app (leaf_keep T (is_kind hk).2) (l := [])).app (nest_keep T (Keep.nil _))
    · exact ((or_keep T D n h s).app (leaf_keep T (is_kind hk).2) (l := [])).app (nest_keep T (h.formula _))
  · exact or_keep T D n h s
theorem let_keep {s : St} (hk : s.e = 0) : Keep s (letT T nt s) :=
  (((((leaf_keep T hk).app (kind_keep T _ _) (l := [])).app (must_keep T _ _) (l := [])).app (h.expr _) (l := [])).app (must_keep T _ _) (l := [])).app (h.expr _)
theorem if_keep {s : St} (hk : s.e = 0) : Keep s (ifT T nt s) :=
  (((((leaf_keep T hk).app (h.expr _) (l := [])).app (must_keep T _ _) (l := [])).app (h.expr _) (l := [])).app (must_keep T _ _) (l := [])).app (h.expr _)
theorem assert_keep {s : St} (hk : s.e = 0) : Keep s (assertT T nt s) :=
  (((leaf_keep T hk).app (h.expr _) (l := [])).app (must_keep T _ _) (l := [])).app (h.expr _)
theorem expr_keep (s : St) : Keep s (exprT T D n nt s) := by
  unfold exprT
  simp only []
  split
  · exact nest_keep T (Keep.nil _)
  split
  · rename_i hk; exact nest_keep T (let_keep T h (is_kind hk.2).2)
  split
  · rename_i hk; exact nest_keep T (if_keep T h (is_kind hk.2).2)
  split
  · rename_i hk; exact nest_keep T (assert_keep T h (is_kind hk.2).2)
  · exact nest_keep T (formula_keep T D n h _)
end
theorem nx_keep (T : List Tok) (D : Nat) : ∀ d, NxK (nxT T D d)
  | 0 => ⟨fun s => nest_keep T (Keep.nil _), fun s => Keep.nil s, fun s => Keep.nil s, fun s => Keep.nil s⟩
  | d + 1 => ⟨expr_keep T D _ (nx_keep T D d), formula_keep T D _ (nx_keep T D d), not_keep T D _ (nx_keep T D d), factor_keep T D _ (nx_keep T D d)⟩

/-! ### What is nested -/

/-- What the program reads where nothing but an expression stands: no nesting is counted. -/
def bodyE (T : List Tok) (D n : Nat) (nt : NxT) (s : St) : RT :=
  if isQ T [108, 101, 116] s = true then letT T nt s
  else if isQ T [105, 102] s = true then ifT T nt s
  else if isQ T [97, 115, 115, 101, 114, 116] s = true then assertT T nt s
  else formulaT T D n nt s
theorem body_keep (T : List Tok) (D n : Nat) {nt : NxT} (h : NxK nt) (s : St) : Keep s (bodyE T D n nt s) := by
  unfold bodyE
  split
  · rename_i hk; exact let_keep T h (is_kind hk).2
  split
  · rename_i hk; exact if_keep T h (is_kind hk).2
  split
  · rename_i hk; exact assert_keep T h (is_kind hk).2
  · exact formula_keep T D n h s
/-- All that is nested by more than n. -/
abbrev NT (T : List Tok) (D n : Nat) : NxT := nxT T D (D - n)
def nestP (T : List Tok) (D n : Nat) (sub : St → RT) (s : St) : RT := if n = D then ([], failQ T 23 s) else sub s
theorem NT_succ (T : List Tok) {D n : Nat} (h : n < D) : NT T D n = { expr := exprT T D (n + 1) (NT T D (n + 1)), formula := formulaT T D (n + 1) (NT T D (n + 1)), nots := notT T D (n + 1) (NT T D (n + 1)), factor := factorT T D (n + 1) (NT T D (n + 1)) } := by
  show nxT T D (D - n) = _
  have h1 : D - n = (D - (n + 1)) + 1 := by omega
  have h2 : D - (D - (n + 1)) = n + 1 := by omega
  rw [h1]
  show { expr := exprT T D (D - (D - (n + 1))) _, formula := formulaT T D (D - (D - (n + 1))) _, nots := notT T D (D - (D - (n + 1))) _, factor := factorT T D (D - (D - (n + 1))) _ : NxT } = _
  rw [h2]
theorem nest_deep (T : List Tok) (D : Nat) (s : St) : nestQ T D (D + 1) s = failQ T 23 s := by unfold nestQ; rw [if_pos (by omega)]
theorem nest_flat (T : List Tok) {D n : Nat} (h : n < D) (s : St) : nestQ T D (n + 1) s = s := by unfold nestQ; rw [if_neg (by omega)]
theorem expr_nest (T : List Tok) {D n : Nat} (hn : n ≤ D) (s : St) (hi : s.inn = false) : Eqv (nestP T D n (bodyE T D (n + 1) (NT T D (n + 1))) s) ((NT T D n).expr s) := by
  unfold nestP
  split
  · rename_i h
    subst h
    have : (NT T n n).expr s = ([], nestQ T n (n + 1) s) := by unfold NT; rw [Nat.sub_self]; rfl
    rw [this, nest_deep]; exact Eqv.refl _
  · rename_i h
    have hlt : n < D := by omega
    rw [NT_succ T hlt]
    show Eqv (bodyE T D (n + 1) (NT T D (n + 1)) s) (exprT T D (n + 1) (NT T D (n + 1)) s)
    unfold exprT
    rw [nest_flat T hlt]
    simp only []
    by_cases he : s.e ≠ 0
    · rw [if_pos he]
      exact ⟨(body_keep T D (n + 1) (nx_keep T D _) s).dead he, fun e => absurd e he⟩
    · rw [if_neg he]
      unfold bodyE
      simp only [hi, true_and]
      exact Eqv.refl _
theorem form_nest (T : List Tok) {D n : Nat} (hn : n ≤ D) (s : St) (hi : s.inn = true) : Eqv (nestP T D n (formulaT T D (n + 1) (NT T D (n + 1))) s) ((NT T D n).expr s) := by
  unfold nestP
  split
  · rename_i h
    subst h
    have : (NT T n n).expr s = ([], nestQ T n (n + 1) s) := by unfold NT; rw [Nat.sub_self]; rfl
    rw [this, nest_deep]; exact Eqv.refl _
  · rename_i h
    have hlt : n < D := by omega
    rw [NT_succ T hlt]
    show Eqv (formulaT T D (n + 1) (NT T D (n + 1)) s) (exprT T D (n + 1) (NT T D (n + 1)) s)
    unfold exprT
    rw [nest_flat T hlt]
    simp only []
    by_cases he : s.e ≠ 0
    · rw [if_pos he]
      exact ⟨(formula_keep T D (n + 1) (nx_keep T D _) s).dead he, fun e => absurd e he⟩
    · rw [if_neg he]
      simp only [hi, Bool.true_eq_false, false_and, if_false]
      exact Eqv.refl _
theorem leaf_live (T : List Tok) {s : St} (h : s.e = 0) : (leafT T s).2.e = 0 := by show (leafQ T s).2.e = 0; unfold leafQ; split <;> exact h
/-- A sign, and what is nested behind it. -/
theorem sign_eqv (T : List Tok) {D n : Nat} (hn : n ≤ D) {sub sub' : St → RT} (hs : n < D → sub' = sub) (s : St) (hk : s.e = 0) :
    Eqv ([.nd 11 ((leafT T s).1 ++ (nestP T D n sub (leafT T s).2).1)], (nestP T D n sub (leafT T s).2).2) (signT T D n sub' s) := by
  unfold signT nestP
  simp only []
  by_cases h : n = D
  · subst h
    rw [if_pos rfl, nest_deep, if_pos (fail_e T (by decide) _)]
    exact ⟨rfl, fun e => absurd e (fail_e T (by decide) _)⟩
  · have hlt : n < D := by omega
    rw [if_neg h, nest_flat T hlt, hs hlt, if_neg (by rw [leaf_live T hk]; decide)]
    exact Eqv.refl _
/-- A formula with what is nested behind its sign. -/
theorem form_eqv (T : List Tok) {D n : Nat} (hn : n ≤ D) {sub : St → RT} {nt : NxT} (hs : n < D → nt.formula = sub) (s : St) (hk : isQ T [61, 62] (orT T D n nt s).2 = true) :
    Eqv ([.nd 10 ((orT T D n nt s).1 ++ (leafT T (orT T D n nt s).2).1 ++ (nestP T D n sub (leafT T (orT T D n nt s).2).2).1)], (nestP T D n sub (leafT T (orT T D n nt s).2).2).2) (formulaT T D n nt s) := by
  unfold formulaT nestP
  simp only []
  rw [if_pos hk]
  by_cases h : n = D
  · subst h
    rw [if_pos rfl, nest_deep, if_pos (fail_e T (by decide) _)]
    exact ⟨rfl, fun e => absurd e (fail_e T (by decide) _)⟩
  · have hlt : n < D := by omega
    rw [if_neg h, nest_flat T hlt, hs hlt, if_neg (by rw [leaf_live T (is_kind hk).2]; decide)]
    exact Eqv.refl _

/-! ### Loops -/

theorem rwT_stop {T : List Tok} {c : St → Bool} {sub : St → RT} {r : RT} (hc : c r.2 = false) : ∀ f, rwT T c sub f r = r
  | 0 => rfl
  | f + 1 => by unfold rwT; rw [hc]; rfl
def rowS (T : List Tok) (sub : St → RT) (r : RT) : RT := ([.nd 10 (r.1 ++ (leafT T r.2).1 ++ (sub (leafT T r.2).2).1)], (sub (leafT T r.2).2).2)
def LeftR (T : List Tok) (c : St → Bool) (sub : St → RT) (R r : RT) : Prop := ∃ f, T.length - r.2.i + 1 ≤ f ∧ rwT T c sub f r = R
theorem LeftR.start (T : List Tok) (c : St → Bool) (sub : St → RT) (s : St) : LeftR T c sub (rwT T c sub (fuelQ T (sub s).2) (sub s)) (sub s) := ⟨_, Nat.le_refl _, rfl⟩
theorem LeftR.stop {T : List Tok} {c : St → Bool} {sub : St → RT} {R r : RT} (h : LeftR T c sub R r) (hc : c r.2 = false) : R = r := by
  obtain ⟨f, -, hf⟩ := h; rw [← hf, rwT_stop hc]
theorem leaf_i {T : List Tok} {s : St} (hk : (tokQ T s).kind ≠ 5) : (leafT T s).2.i = s.i + 1 := (leaf_fits hk).2
theorem LeftR.next {T : List Tok} {c : St → Bool} {sub : St → RT} {R r : RT} (h : LeftR T c sub R r) (hc : c r.2 = true) (hk : (tokQ T r.2).kind ≠ 5) (hi : r.2.i < T.length) (hm : (leafT T r.2).2.i ≤ (sub (leafT T r.2).2).2.i) : LeftR T c sub R (rowS T sub r) ∧ r.2.i < (rowS T sub r).2.i := by
  obtain ⟨f, hf, hr⟩ := h
  have h1 := leaf_i hk
  have h2 : r.2.i < (rowS T sub r).2.i := by show r.2.i < (sub (leafT T r.2).2).2.i; omega
  refine ⟨⟨f - 1, by omega, ?_⟩, h2⟩
  obtain ⟨k, rfl⟩ : ∃ k, f = k + 1 := ⟨f - 1, by omega⟩
  unfold rwT at hr
  rw [if_pos hc] at hr
  exact hr

/-- Parts with commas, as the program goes at them: j rounds are left. -/
def loopP (T : List Tok) (sub : St → RT) : Nat → RT → RT
  | 0, r => (r.1, failQ T 15 r.2)
  | j + 1, r => if isQ T [44] (sub r.2).2 = true then loopP T sub j (r.1 ++ (sub r.2).1 ++ (leafT T (sub r.2).2).1, (leafT T (sub r.2).2).2) else (r.1 ++ (sub r.2).1, (sub r.2).2)
def listP (T : List Tok) (sub : St → RT) (s : St) : RT := if isQ T [41] s = true then ([], s) else loopP T sub 8 ([], s)
theorem parts_stopT {T : List Tok} {sub : St → RT} {r : RT} {k : Nat} (hc : isQ T [44] r.2 = false) : ∀ f, partsT T sub f k r = r
  | 0 => rfl
  | f + 1 => by unfold partsT; rw [hc]; rfl
theorem is_live {T : List Tok} {x : List UInt8} {s : St} (h : s.e ≠ 0) : isQ T x s = false := by unfold isQ; exact decide_eq_false (fun e => h e.1)
theorem loop_parts (T : List Tok) {sub : St → RT} (hs : ∀ s, Good T s (sub s)) (hk : ∀ s, s.e ≠ 0 → (sub s).2 = s) : ∀ (j f : Nat) (r : RT), j + 1 ≤ 8 → T.length - (sub r.2).2.i + 1 ≤ f → r.2.i ≤ T.length → Eqv (loopP T sub (j + 1) r) (partsT T sub f (8 - j) (r.1 ++ (sub r.2).1, (sub r.2).2)) := by
  intro j
  induction j with
  | zero =>
    intro f r _ hf hr
    unfold loopP
    by_cases hc : isQ T [44] (sub r.2).2 = true
    · obtain ⟨g, rfl⟩ : ∃ g, f = g + 1 := ⟨f - 1, by omega⟩
      rw [if_pos hc]
      unfold partsT
      rw [if_pos hc]
      simp only [Nat.sub_zero, if_true]
      have hd : (failQ T 15 (leafT T (sub r.2).2).2).e ≠ 0 := fail_e T (by decide) _
      have h2 := hk _ hd
      rw [h2, parts_stopT (is_live hd)]
      exact ⟨rfl, fun e => absurd e hd⟩
    · rw [if_neg hc, parts_stopT (by simpa using hc)]
      exact Eqv.refl _
  | succ j ih =>
    intro f r hj hf hr
    have e1 : loopP T sub (j + 1 + 1) r = if isQ T [44] (sub r.2).2 = true then loopP T sub (j + 1) (r.1 ++ (sub r.2).1 ++ (leafT T (sub r.2).2).1, (leafT T (sub r.2).2).2) else (r.1 ++ (sub r.2).1, (sub r.2).2) := by rw [loopP]
    rw [e1]
    by_cases hc : isQ T [44] (sub r.2).2 = true
    · obtain ⟨g, rfl⟩ : ∃ g, f = g + 1 := ⟨f - 1, by omega⟩
      rw [if_pos hc]
      unfold partsT
      rw [if_pos hc]
      simp only []
      rw [if_neg (show ¬ 8 - (j + 1) = 8 by omega), show 8 - (j + 1) + 1 = 8 - j by omega]
      have hki := (is_kind hc).1
      have hl := leaf_i (T := T) (s := (sub r.2).2) hki
      have hm := (hs (leafT T (sub r.2).2).2).mono
      have hlt : (sub r.2).2.i < T.length := by
        rcases Nat.lt_or_ge (sub r.2).2.i T.length with h | h
        · exact h
        · exact absurd (by unfold tokQ; rw [List.getElem?_eq_none h]; rfl) hki
      exact ih g (r.1 ++ (sub r.2).1 ++ (leafT T (sub r.2).2).1, (leafT T (sub r.2).2).2) (by omega) (by show T.length - (sub (leafT T (sub r.2).2).2).2.i + 1 ≤ g; omega) (by show (leafT T (sub r.2).2).2.i ≤ T.length; omega)
    · rw [if_neg hc, parts_stopT (by simpa using hc)]
      exact Eqv.refl _
/-- Parts, or none, up to a parenthesis. -/
theorem list_parts (T : List Tok) {sub : St → RT} (hs : ∀ s, Good T s (sub s)) (hk : ∀ s, s.e ≠ 0 → (sub s).2 = s) (s : St) (hi : s.i ≤ T.length) : Eqv (listP T sub s) (if isQ T [41] s = true then ([], s) else partsT T sub (fuelQ T (sub s).2) 1 (sub s)) := by
  unfold listP
  split
  · exact Eqv.refl _
  · have h := loop_parts T hs hk 7 (fuelQ T (sub s).2) ([], s) (by omega) (Nat.le_refl _) hi
    simpa using h
end Go.Proofs.YtijpelkjeejjfaaGreatDoor
