/- The parser with two depths: the same, or the smaller one was refused for its depth, no later than the greater one is. -/
import Derived.Test.YtoahgeleenpnjaaGreatDoorE3
import Derived.Test.YtoahgeleenpnjaaGreatDoorE0
import Derived.Laws.OwnMore
import Derived.Deep.RegionWith
import Derived.Deep.RegionLaw
import Derived.RangeFuncNested
import Derived.RangeFuncBound
import Derived.RangeFuncCalls
import Derived.RangeFuncLeaves
import Derived.Shelf.Abstract
import Derived.Shelf.RegionOpen
import Derived.WalkKit
import Derived.OwnWalkIn
import Derived.TacticsInMore
import Derived.LoopNIn
import Derived.LoopIn
import Derived.Maps.OwnIn
set_option linter.unusedVariables false
set_option linter.unusedSimpArgs false
namespace Go.Proofs.YtoahgeleenpnjaaGreatDoor

/-- Places grow. -/
def Grow (T : List Tok) : Prop := ∀ s t : St, s.i ≤ t.i → t.i < T.length → (tokQ T s).pos ≤ (tokQ T t).pos
structure Bad (T : List Tok) (t t' : St) : Prop where
  deep : t.e = 23
  le : t.i ≤ t'.i
  late : t'.e = 23 → t.pos ≤ t'.pos
  place : t.pos = (tokQ T t).pos
  inr : t'.i < T.length
def RS (T : List Tok) (r r' : RT) : Prop := r = r' ∨ Bad T r.2 r'.2
/-- Two functions of which the first has the smaller depth. -/
structure RF (T : List Tok) (f f' : St → RT) : Prop where
  rel : ∀ s, s.i < T.length → RS T (f s) (f' s)
  one : ∀ s, Good T s (f s)
  two : ∀ s, Good T s (f' s)

section
variable {T : List Tok} (hE : EndT T) (hM : Grow T)
include hE hM
theorem Bad.go {t t' : St} (h : Bad T t t') {r r' : RT} (g : Good T t r) (g' : Good T t' r') : Bad T r.2 r'.2 := by
  obtain ⟨a1, a2, a3⟩ := g.stay (by rw [h.deep]; decide)
  have hin := g'.inr hE h.inr
  have hle := Nat.le_trans h.le g'.mono
  refine ⟨a1.trans h.deep, by rw [a3]; exact hle, fun e => ?_, ?_, hin⟩
  · rw [a2]
    by_cases e0 : t'.e = 0
    · rw [g'.place e0 (by rw [e]; decide), h.place]; exact hM _ _ hle hin
    · obtain ⟨b1, b2, -⟩ := g'.stay e0
      rw [b2]; exact h.late (b1.symm.trans e)
  · rw [a2, h.place]; unfold tokQ; rw [a3]
theorem RS.then {a a' : RT} (h : RS T a a') {g g' : RT → RT} (h1 : a = a' → RS T (g a) (g' a)) (g1 : Good T a.2 (g a)) (g2 : Good T a'.2 (g' a')) : RS T (g a) (g' a') := by
  rcases h with e | hb
  · rw [← e]; exact h1 e
  · exact .inr (hb.go hE hM g1 g2)
omit hE hM in
theorem RS.put {a a' : RT} (h : RS T a a') (k : List Tr → List Tr) : RS T (k a.1, a.2) (k a'.1, a'.2) := by
  rcases h with e | hb
  · rw [e]; exact .inl rfl
  · exact .inr hb
theorem RS.app {a a' : RT} (h : RS T a a') {f f' : St → RT} (hf : RF T f f') (ha : a.2.i < T.length) : RS T (a.1 ++ (f a.2).1, (f a.2).2) (a'.1 ++ (f' a'.2).1, (f' a'.2).2) := by
  rcases h with e | hb
  · rw [← e]; exact RS.put (hf.rel _ ha) (fun l => a.1 ++ l)
  · exact .inr (hb.go hE hM ((Good.self T a).app (hf.one _)) ((Good.self T a').app (hf.two _)))
omit hE hM in
theorem RF.same {f : St → RT} (h : ∀ s, Good T s (f s)) : RF T f f := ⟨fun _ _ => .inl rfl, h, h⟩
omit hE hM in
theorem must_rf (w : List UInt8) : RF T (mustT T w) (mustT T w) := RF.same (must_good T w)
omit hE hM in
theorem kind_rf (k : Nat) : RF T (kindT T k) (kindT T k) := RF.same (kind_good T k)
theorem row_rs {c : St → Bool} (hc : ∀ s, c s = true → s.e = 0) {sub sub' : St → RT} (hs : RF T sub sub') : ∀ f r, r.2.i < T.length → RS T (rwT T c sub f r) (rwT T c sub' f r)
  | 0, r, h => .inl rfl
  | f + 1, r, h => by
    unfold rwT
    split
    · rename_i hcc
      have hl := (leaf_good T (hc _ hcc)).inr hE h
      have h1 := hs.rel (leafT T r.2).2 hl
      have h2 : RS T ([.nd 10 (r.1 ++ (leafT T r.2).1 ++ (sub (leafT T r.2).2).1)], (sub (leafT T r.2).2).2) ([.nd 10 (r.1 ++ (leafT T r.2).1 ++ (sub' (leafT T r.2).2).1)], (sub' (leafT T r.2).2).2) := RS.put h1 (fun l => [.nd 10 (r.1 ++ (leafT T r.2).1 ++ l)])
      exact RS.then hE hM h2 (g := rwT T c sub f) (g' := rwT T c sub' f) (fun _ => row_rs hc hs f _ ((hs.one _).inr hE hl)) (row_good T hc hs.one f _ (Good.self T _)) (row_good T hc hs.two f _ (Good.self T _))
    · exact .inl rfl
theorem row_rf {c : St → Bool} (hc : ∀ s, c s = true → s.e = 0) {sub sub' : St → RT} (hs : RF T sub sub') : RF T (fun s => rwT T c sub (fuelQ T (sub s).2) (sub s)) (fun s => rwT T c sub' (fuelQ T (sub' s).2) (sub' s)) := by
  refine ⟨fun s h => ?_, fun s => row_good T hc hs.one _ _ (hs.one s), fun s => row_good T hc hs.two _ _ (hs.two s)⟩
  exact RS.then hE hM (hs.rel s h) (g := fun r => rwT T c sub (fuelQ T r.2) r) (g' := fun r => rwT T c sub' (fuelQ T r.2) r) (fun _ => row_rs hE hM hc hs _ _ ((hs.one s).inr hE h)) (row_good T hc hs.one _ _ (Good.self T _)) (row_good T hc hs.two _ _ (Good.self T _))
theorem parts_rs {sub sub' : St → RT} (hs : RF T sub sub') : ∀ f k r, r.2.i < T.length → RS T (partsT T sub f k r) (partsT T sub' f k r)
  | 0, k, r, h => .inl rfl
  | f + 1, k, r, h => by
    unfold partsT
    split
    · rename_i hcc
      have hl := (leaf_good T (is_kind hcc).2).inr hE h
      have hl2 : (if k = 8 then failQ T 15 (leafT T r.2).2 else (leafT T r.2).2).i < T.length := by split; rw [fail_i]; exact hl; exact hl
      have h1 := hs.rel _ hl2
      have h2 := RS.put h1 (fun l => r.1 ++ (leafT T r.2).1 ++ l)
      exact RS.then hE hM h2 (g := partsT T sub f (k + 1)) (g' := partsT T sub' f (k + 1)) (fun _ => parts_rs hs f _ _ ((hs.one _).inr hE hl2)) (parts_good T hs.one f _ _ (Good.self T _)) (parts_good T hs.two f _ _ (Good.self T _))
    · exact .inl rfl
theorem parts_rf {sub sub' : St → RT} (hs : RF T sub sub') : RF T (fun s => partsT T sub (fuelQ T (sub s).2) 1 (sub s)) (fun s => partsT T sub' (fuelQ T (sub' s).2) 1 (sub' s)) := by
  refine ⟨fun s h => ?_, fun s => parts_good T hs.one _ _ _ (hs.one s), fun s => parts_good T hs.two _ _ _ (hs.two s)⟩
  exact RS.then hE hM (hs.rel s h) (g := fun r => partsT T sub (fuelQ T r.2) 1 r) (g' := fun r => partsT T sub' (fuelQ T r.2) 1 r) (fun _ => parts_rs hE hM hs _ _ _ ((hs.one s).inr hE h)) (parts_good T hs.one _ _ _ (Good.self T _)) (parts_good T hs.two _ _ _ (Good.self T _))

variable {D D' : Nat} (hD : D ≤ D')
include hD
theorem nest_rs (m : Nat) {f f' : St → RT} (hf : m ≤ D → ∀ s, s.i < T.length → RS T (f s) (f' s)) (g' : ∀ s, s.e = 0 → Good T s (f' s)) (s : St) (hs : s.i < T.length) :
    RS T (if (nestQ T D m s).e ≠ 0 then ([], nestQ T D m s) else f (nestQ T D m s)) (if (nestQ T D' m s).e ≠ 0 then ([], nestQ T D' m s) else f' (nestQ T D' m s)) := by
  by_cases hm : m ≤ D
  · have e1 : nestQ T D m s = s := by unfold nestQ; rw [if_neg (by omega)]
    have e2 : nestQ T D' m s = s := by unfold nestQ; rw [if_neg (by omega)]
    rw [e1, e2]
    split
    · exact .inl rfl
    · exact hf hm s hs
  · have e1 : nestQ T D m s = failQ T 23 s := by unfold nestQ; rw [if_pos (by omega)]
    rw [e1, if_pos (fail_e T (by decide) s)]
    by_cases hm2 : m ≤ D'
    · have e2 : nestQ T D' m s = s := by unfold nestQ; rw [if_neg (by omega)]
      rw [e2]
      by_cases he : s.e = 0
      · rw [if_neg (by omega)]
        have hg := g' s he
        have e3 : failQ T 23 s = { s with e := 23, pos := (tokQ T s).pos } := by unfold failQ; rw [if_pos he]
        rw [e3]
        refine .inr ⟨rfl, hg.mono, fun e => ?_, rfl, hg.inr hE hs⟩
        show (tokQ T s).pos ≤ _
        rw [hg.place he (by rw [e]; decide)]
        exact hM _ _ hg.mono (hg.inr hE hs)
      · rw [if_pos he]
        have e3 : failQ T 23 s = s := by unfold failQ; rw [if_neg he]
        rw [e3]; exact .inl rfl
    · have e2 : nestQ T D' m s = failQ T 23 s := by unfold nestQ; rw [if_pos (by omega)]
      rw [e2, if_pos (fail_e T (by decide) s)]; exact .inl rfl

/-- The same of what is nested by one more: but expressions, only where there is room. -/
structure NxF (T : List Tok) (D n1 : Nat) (nt nt' : NxT) : Prop where
  one : NxG T nt
  two : NxG T nt'
  expr : ∀ s, s.i < T.length → RS T (nt.expr s) (nt'.expr s)
  formula : n1 ≤ D → ∀ s, s.i < T.length → RS T (nt.formula s) (nt'.formula s)
  nots : n1 ≤ D → ∀ s, s.i < T.length → RS T (nt.nots s) (nt'.nots s)
  factor : n1 ≤ D → ∀ s, s.i < T.length → RS T (nt.factor s) (nt'.factor s)

variable {n : Nat} {nt nt' : NxT} (h : NxF T D (n + 1) nt nt')
include h
omit hD in
theorem args_rf : RF T (argsT T nt) (argsT T nt') := parts_rf hE hM ⟨h.expr, h.one.expr, h.two.expr⟩
omit h in
theorem sign_rs {sub sub' : St → RT} (hs : n + 1 ≤ D → ∀ s, s.i < T.length → RS T (sub s) (sub' s)) (g' : ∀ s, Good T s (sub' s)) {s : St} (he : s.e = 0) (hl : s.i < T.length) : RS T (signT T D n sub s) (signT T D' n sub' s) := by
  unfold signT
  exact nest_rs hE hM hD (n + 1) (f := fun t => ([.nd 11 ((leafT T s).1 ++ (sub t).1)], (sub t).2)) (f' := fun t => ([.nd 11 ((leafT T s).1 ++ (sub' t).1)], (sub' t).2)) (fun hm t ht => RS.put (hs hm t ht) (fun l => [.nd 11 ((leafT T s).1 ++ l)])) (fun t _ => ⟨(g' t).stay, (g' t).mono, (g' t).place, (g' t).inr⟩) _ ((leaf_good T he).inr hE hl)
omit hD in
theorem nameD_rs (c : RT) (hc : c.2.i < T.length) : RS T (nameDT T nt c) (nameDT T nt' c) := by
  unfold nameDT
  split
  · exact .inl rfl
  · exact RS.put ((args_rf hE hM h).rel _ hc) (fun l => c.1 ++ l)
omit hD in
theorem name_rs {s : St} (he : s.e = 0) (hl : s.i < T.length) : RS T (nameT T nt s) (nameT T nt' s) := by
  unfold nameT
  split
  · exact .inl rfl
  · have g1 := nameC_good T (nameB_good T (leaf_good T he))
    exact RS.then hE hM (nameD_rs hE hM h _ (g1.inr hE hl)) (g := nameET T) (g' := nameET T) (fun e => by rw [e]; exact .inl rfl) (nameE_good T (Good.self T _)) (nameE_good T (Good.self T _))
omit hD in
theorem atom_rf : RF T (atomT T nt) (atomT T nt') := by
  refine ⟨fun s hl => ?_, atom_good T h.one, atom_good T h.two⟩
  unfold atomT
  split
  · exact .inl rfl
  rename_i he
  have he : s.e = 0 := by omega
  split
  · exact .inl rfl
  split
  · exact .inl rfl
  split
  · exact .inl rfl
  split
  · have l1 := (leaf_good T he).inr hE hl
    have h1 := RS.put (h.expr _ l1) (fun l => (leafT T s).1 ++ l)
    have h2 := RS.app hE hM h1 (must_rf [41]) ((h.one.expr _).inr hE l1)
    exact RS.put h2 (fun l => [.nd 12 l])
  split
  · exact name_rs hE hM h he hl
  · exact .inl rfl
theorem factor_rf : RF T (factorT T D n nt) (factorT T D' n nt') := by
  refine ⟨fun s hl => ?_, factor_good T D n h.one, factor_good T D' n h.two⟩
  unfold factorT
  split
  · rename_i hk; exact sign_rs hE hM hD h.factor h.two.factor (is_kind hk).2 hl
  · exact (atom_rf hE hM h).rel s hl
theorem product_rf : RF T (productT T D n nt) (productT T D' n nt') := row_rf hE hM (fun _ hc => mul_e hc) (factor_rf hE hM hD h)
theorem sum_rf : RF T (sumT T D n nt) (sumT T D' n nt') := row_rf hE hM (fun _ hc => add_e hc) (product_rf hE hM hD h)
theorem not_rf : RF T (notT T D n nt) (notT T D' n nt') := by
  refine ⟨fun s hl => ?_, not_good T D n h.one, not_good T D' n h.two⟩
  unfold notT
  split
  · rename_i hk; exact sign_rs hE hM hD h.nots h.two.nots (is_kind hk).2 hl
  · have hs := sum_rf hE hM hD h
    have key : ∀ a : RT, Good T a.2 (if isCmp T a.2 = true then ([.nd 10 (a.1 ++ (leafT T a.2).1 ++ (sumT T D n nt (leafT T a.2).2).1)], (sumT T D n nt (leafT T a.2).2).2) else a) := fun a => by
      split
      · rename_i hc; exact Good.node 10 (((Good.self T a).app (leaf_good T (cmp_e hc))).app (hs.one _))
      · exact Good.self T a
    have key' : ∀ a : RT, Good T a.2 (if isCmp T a.2 = true then ([.nd 10 (a.1 ++ (leafT T a.2).1 ++ (sumT T D' n nt' (leafT T a.2).2).1)], (sumT T D' n nt' (leafT T a.2).2).2) else a) := fun a => by
      split
      · rename_i hc; exact Good.node 10 (((Good.self T a).app (leaf_good T (cmp_e hc))).app (hs.two _))
      · exact Good.self T a
    refine RS.then hE hM (hs.rel s hl) (g := fun a => if isCmp T a.2 = true then ([.nd 10 (a.1 ++ (leafT T a.2).1 ++ (sumT T D n nt (leafT T a.2).2).1)], (sumT T D n nt (leafT T a.2).2).2) else a) (g' := fun a => if isCmp T a.2 = true then ([.nd 10 (a.1 ++ (leafT T a.2).1 ++ (sumT T D' n nt' (leafT T a.2).2).1)], (sumT T D' n nt' (leafT T a.2).2).2) else a) (fun _ => ?_) (key _) (key' _)
    show RS T (if isCmp T (sumT T D n nt s).2 = true then _ else _) (if isCmp T (sumT T D n nt s).2 = true then _ else _)
    split
    · rename_i hc
      exact RS.put (hs.rel _ ((leaf_good T (cmp_e hc)).inr hE ((hs.one s).inr hE hl))) (fun l => [.nd 10 ((sumT T D n nt s).1 ++ (leafT T (sumT T D n nt s).2).1 ++ l)])
    · exact .inl rfl
theorem and_rf : RF T (andT T D n nt) (andT T D' n nt') := row_rf hE hM (fun _ hc => (is_kind hc).2) (not_rf hE hM hD h)
theorem or_rf : RF T (orT T D n nt) (orT T D' n nt') := row_rf hE hM (fun _ hc => (is_kind hc).2) (and_rf hE hM hD h)
theorem formula_rf : RF T (formulaT T D n nt) (formulaT T D' n nt') := by
  refine ⟨fun s hl => ?_, formula_good T D n h.one, formula_good T D' n h.two⟩
  have hs := or_rf hE hM hD h
  have tail : ∀ (E : Nat) (nu : NxT) (hg : NxG T nu) (a : RT), Good T a.2 (if isQ T [61, 62] a.2 = true then (if (nestQ T E (n + 1) (leafT T a.2).2).e ≠ 0 then ([], nestQ T E (n + 1) (leafT T a.2).2) else ([.nd 10 (a.1 ++ (leafT T a.2).1 ++ (nu.formula (nestQ T E (n + 1) (leafT T a.2).2)).1)], (nu.formula (nestQ T E (n + 1) (leafT T a.2).2)).2)) else a) := fun E nu hg a => by
    split
    · rename_i hk
      split
      · exact (leaf_good T (is_kind hk).2).state (nest_good T (Good.nil T _))
      · exact Good.node 10 (((Good.self T a).app (leaf_good T (is_kind hk).2)).app (nest_good T (hg.formula _)))
    · exact Good.self T a
  refine RS.then hE hM (hs.rel s hl) (g := fun a => if isQ T [61, 62] a.2 = true then (if (nestQ T D (n + 1) (leafT T a.2).2).e ≠ 0 then ([], nestQ T D (n + 1) (leafT T a.2).2) else ([.nd 10 (a.1 ++ (leafT T a.2).1 ++ (nt.formula (nestQ T D (n + 1) (leafT T a.2).2)).1)], (nt.formula (nestQ T D (n + 1) (leafT T a.2).2)).2)) else a) (g' := fun a => if isQ T [61, 62] a.2 = true then (if (nestQ T D' (n + 1) (leafT T a.2).2).e ≠ 0 then ([], nestQ T D' (n + 1) (leafT T a.2).2) else ([.nd 10 (a.1 ++ (leafT T a.2).1 ++ (nt'.formula (nestQ T D' (n + 1) (leafT T a.2).2)).1)], (nt'.formula (nestQ T D' (n + 1) (leafT T a.2).2)).2)) else a) (fun _ => ?_) (tail D nt h.one _) (tail D' nt' h.two _)
  generalize ha : orT T D n nt s = a
  show RS T (if isQ T [61, 62] a.2 = true then _ else _) (if isQ T [61, 62] a.2 = true then _ else _)
  split
  · rename_i hk
    have hal : a.2.i < T.length := by rw [← ha]; exact (hs.one s).inr hE hl
    exact nest_rs hE hM hD (n + 1) (f := fun t => ([.nd 10 (a.1 ++ (leafT T a.2).1 ++ (nt.formula t).1)], (nt.formula t).2)) (f' := fun t => ([.nd 10 (a.1 ++ (leafT T a.2).1 ++ (nt'.formula t).1)], (nt'.formula t).2)) (fun hm t ht => RS.put (h.formula hm t ht) (fun l => [.nd 10 (a.1 ++ (leafT T a.2).1 ++ l)])) (fun t _ => ⟨(h.two.formula t).stay, (h.two.formula t).mono, (h.two.formula t).place, (h.two.formula t).inr⟩) _ ((leaf_good T (is_kind hk).2).inr hE hal)
  · exact .inl rfl
omit hD hE hM in
theorem expr_of : RF T nt.expr nt'.expr := ⟨h.expr, h.one.expr, h.two.expr⟩
omit hD in
theorem let_rs {s : St} (he : s.e = 0) (hl : s.i < T.length) : RS T (letT T nt s) (letT T nt' s) := by
  have xf := expr_of h
  have i0 := (leaf_good T he).inr hE hl
  have h1 := RS.app hE hM (a := leafT T s) (a' := leafT T s) (.inl rfl) (kind_rf 1) i0
  have i1 := (kind_good T 1 _).inr hE i0
  have h2 := RS.app hE hM h1 (must_rf [61]) i1
  have i2 := (must_good T [61] _).inr hE i1
  have h3 := RS.app hE hM h2 xf i2
  have i3 := (xf.one _).inr hE i2
  have h4 := RS.app hE hM h3 (must_rf [105, 110]) i3
  have i4 := (must_good T [105, 110] _).inr hE i3
  have h5 := RS.app hE hM h4 xf i4
  exact RS.put h5 (fun l => [.nd 7 l])
omit hD in
theorem if_rs {s : St} (he : s.e = 0) (hl : s.i < T.length) : RS T (ifT T nt s) (ifT T nt' s) := by
  have xf := expr_of h
  have i0 := (leaf_good T he).inr hE hl
  have h1 := RS.app hE hM (a := leafT T s) (a' := leafT T s) (.inl rfl) xf i0
  have i1 := (xf.one _).inr hE i0
  have h2 := RS.app hE hM h1 (must_rf [116, 104, 101, 110]) i1
  have i2 := (must_good T [116, 104, 101, 110] _).inr hE i1
  have h3 := RS.app hE hM h2 xf i2
  have i3 := (xf.one _).inr hE i2
  have h4 := RS.app hE hM h3 (must_rf [101, 108, 115, 101]) i3
  have i4 := (must_good T [101, 108, 115, 101] _).inr hE i3
  have h5 := RS.app hE hM h4 xf i4
  exact RS.put h5 (fun l => [.nd 8 l])
omit hD in
theorem assert_rs {s : St} (he : s.e = 0) (hl : s.i < T.length) : RS T (assertT T nt s) (assertT T nt' s) := by
  have xf := expr_of h
  have i0 := (leaf_good T he).inr hE hl
  have h1 := RS.app hE hM (a := leafT T s) (a' := leafT T s) (.inl rfl) xf i0
  have i1 := (xf.one _).inr hE i0
  have h2 := RS.app hE hM h1 (must_rf [105, 110]) i1
  have i2 := (must_good T [105, 110] _).inr hE i1
  have h3 := RS.app hE hM h2 xf i2
  exact RS.put h3 (fun l => [.nd 9 l])
/-- What stands behind the question how deep. -/
def bodyT (T : List Tok) (D n : Nat) (nt : NxT) (t : St) : RT :=
  if t.inn = false ∧ isQ T [108, 101, 116] t = true then letT T nt t
  else if t.inn = false ∧ isQ T [105, 102] t = true then ifT T nt t
  else if t.inn = false ∧ isQ T [97, 115, 115, 101, 114, 116] t = true then assertT T nt t
  else formulaT T D n nt t
omit hE hM hD h in
theorem body_good (hg : NxG T nt) (t : St) : Good T t (bodyT T D n nt t) := by
  unfold bodyT
  split
  · rename_i hk; exact let_good T hg (is_kind hk.2).2
  split
  · rename_i hk; exact if_good T hg (is_kind hk.2).2
  split
  · rename_i hk; exact assert_good T hg (is_kind hk.2).2
  · exact formula_good T D n hg t
theorem body_rs (t : St) (hl : t.i < T.length) : RS T (bodyT T D n nt t) (bodyT T D' n nt' t) := by
  unfold bodyT
  split
  · rename_i hk; exact let_rs hE hM h (is_kind hk.2).2 hl
  split
  · rename_i hk; exact if_rs hE hM h (is_kind hk.2).2 hl
  split
  · rename_i hk; exact assert_rs hE hM h (is_kind hk.2).2 hl
  · exact (formula_rf hE hM hD h).rel t hl
theorem expr_rs (s : St) (hl : s.i < T.length) : RS T (exprT T D n nt s) (exprT T D' n nt' s) :=
  nest_rs hE hM hD n (f := bodyT T D n nt) (f' := bodyT T D' n nt') (fun _ t ht => body_rs hE hM hD h t ht) (fun t _ => body_good h.two t) s hl
end

/-- Of one place in the nesting, with two depths. -/
theorem nx_rf {T : List Tok} (hE : EndT T) (hM : Grow T) {D D' : Nat} (hD : D ≤ D') : ∀ d d' n, n + d = D + 1 → n + d' = D' + 1 → NxF T D n (nxT T D d) (nxT T D' d')
  | 0, d', n, h1, h2 => by
    have g2 := nx_good T D' d'
    refine ⟨nx_good T D 0, g2, fun s hl => ?_, fun hn => absurd hn (by omega), fun hn => absurd hn (by omega), fun hn => absurd hn (by omega)⟩
    have hn : n = D + 1 := by omega
    subst hn
    cases d' with
    | zero =>
      have : D' = D := by omega
      subst this; exact .inl rfl
    | succ d' =>
      have e : D' - d' = D + 1 := by omega
      have key := nest_rs hE hM hD (D + 1) (f := fun t => (([] : List Tr), t)) (f' := bodyT T D' (D + 1) (nxT T D' d')) (fun hm => absurd hm (by omega)) (fun t _ => body_good (nx_good T D' d') t) s hl
      show RS T ([], nestQ T D (D + 1) s) (exprT T D' (D' - d') (nxT T D' d') s)
      rw [e]
      have e2 : (if (nestQ T D (D + 1) s).e ≠ 0 then (([] : List Tr), nestQ T D (D + 1) s) else ([], nestQ T D (D + 1) s)) = ([], nestQ T D (D + 1) s) := by split <;> rfl
      rw [e2] at key
      exact key
  | d + 1, 0, n, h1, h2 => absurd hD (by omega)
  | d + 1, d' + 1, n, h1, h2 => by
    have ih := nx_rf hE hM hD d d' (n + 1) (by omega) (by omega)
    have e : D - d = n := by omega
    have e' : D' - d' = n := by omega
    refine ⟨nx_good T D (d + 1), nx_good T D' (d' + 1), ?_, fun _ => ?_, fun _ => ?_, fun _ => ?_⟩
    · show ∀ s, s.i < T.length → RS T (exprT T D (D - d) (nxT T D d) s) (exprT T D' (D' - d') (nxT T D' d') s)
      rw [e, e']; exact expr_rs hE hM hD ih
    · show ∀ s, s.i < T.length → RS T (formulaT T D (D - d) (nxT T D d) s) (formulaT T D' (D' - d') (nxT T D' d') s)
      rw [e, e']; exact (formula_rf hE hM hD ih).rel
    · show ∀ s, s.i < T.length → RS T (notT T D (D - d) (nxT T D d) s) (notT T D' (D' - d') (nxT T D' d') s)
      rw [e, e']; exact (not_rf hE hM hD ih).rel
    · show ∀ s, s.i < T.length → RS T (factorT T D (D - d) (nxT T D d) s) (factorT T D' (D' - d') (nxT T D' d') s)
      rw [e, e']; exact (factor_rf hE hM hD ih).rel
end Go.Proofs.YtoahgeleenpnjaaGreatDoor
namespace Go.Proofs.YtoahgeleenpnjaaGreatDoor

section
variable {T : List Tok} (hE : EndT T) (hM : Grow T) {et et' : St → RT} (xf : RF T et et')
include hE hM xf
theorem typC_rs (b : RT) (hl : b.2.i < T.length) : RS T (typCT T et b) (typCT T et' b) := by
  unfold typCT
  split
  · rename_i hk
    have i0 := (leaf_good T (is_kind hk).2).inr hE hl
    have h1 := xf.rel (setIn true (leafT T b.2).2) i0
    have g1 : Good T (et (setIn true (leafT T b.2).2)).2 (mustT T [125] (setIn false (et (setIn true (leafT T b.2).2)).2)) := (must_good T _ _).inn
    have g2 : Good T (et' (setIn true (leafT T b.2).2)).2 (mustT T [125] (setIn false (et' (setIn true (leafT T b.2).2)).2)) := (must_good T _ _).inn
    exact RS.then hE hM h1
      (g := fun f => (b.1 ++ [.nd 6 ((leafT T b.2).1 ++ f.1 ++ (mustT T [125] (setIn false f.2)).1)], (mustT T [125] (setIn false f.2)).2))
      (g' := fun f => (b.1 ++ [.nd 6 ((leafT T b.2).1 ++ f.1 ++ (mustT T [125] (setIn false f.2)).1)], (mustT T [125] (setIn false f.2)).2))
      (fun e => by rw [e]; exact .inl rfl) ⟨g1.stay, g1.mono, g1.place, g1.inr⟩ ⟨g2.stay, g2.mono, g2.place, g2.inr⟩
  · exact .inl rfl
theorem typed_rf : RF T (typedT T et) (typedT T et') :=
  ⟨fun s hl => typC_rs hE hM xf _ ((typB_good T (must_good T [58] s)).inr hE hl), typed_good T xf.one, typed_good T xf.two⟩
theorem par_rf : RF T (parT T et) (parT T et') :=
  ⟨fun s hl => RS.put (RS.app hE hM (a := kindT T 1 s) (a' := kindT T 1 s) (.inl rfl) (typed_rf hE hM xf) ((kind_good T 1 s).inr hE hl)) (fun l => [.nd 4 l]), par_good T xf.one, par_good T xf.two⟩
theorem params_rf : RF T (paramsT T et) (paramsT T et') := parts_rf hE hM (par_rf hE hM xf)
theorem defC_rs (o : RT) (hl : o.2.i < T.length) : RS T (defCT T et o) (defCT T et' o) := by
  unfold defCT
  split
  · exact RS.put ((params_rf hE hM xf).rel _ hl) (fun l => o.1 ++ l)
  · exact .inl rfl
theorem defD_rs {r r' : RT} (h : RS T r r') (hl : r.2.i < T.length) : RS T (defDT T et r) (defDT T et' r') := by
  refine RS.then hE hM h (g := defDT T et) (g' := defDT T et') (fun e => ?_) (defD_good T xf.one (Good.self T r)) (defD_good T xf.two (Good.self T r'))
  subst e
  have i1 := (must_good T [41] r.2).inr hE hl
  have h1 := RS.app hE hM (a := mustT T [41] r.2) (a' := mustT T [41] r.2) (.inl rfl) (typed_rf hE hM xf) i1
  have i2 := (typed_good T xf.one _).inr hE i1
  have h2 := RS.app hE hM h1 (must_rf [61]) i2
  have i3 := (must_good T [61] _).inr hE i2
  have h3 := RS.put h2 (fun l => r.1 ++ l)
  have h4 := RS.app hE hM h3 xf i3
  have i4 := (xf.one _).inr hE i3
  exact RS.app hE hM h4 (must_rf [59]) i4
theorem def_rf : RF T (defT T et) (defT T et') := by
  refine ⟨fun s hl => ?_, def_good T xf.one, def_good T xf.two⟩
  have i1 := (defB_good T (defA_good T s)).inr hE hl
  have i2 := (defC_good T xf.one (Good.self T (defBT T (defAT T s)))).inr hE i1
  exact RS.put (defD_rs hE hM xf (defC_rs hE hM xf _ i1) i2) (fun l => [.nd 3 l])
omit xf in
/-- Many: the same, or the first was refused for its depth. -/
theorem many_rs {c : St → Bool} {step step' : RT → RT} {most : Nat}
    (hr : ∀ r, c r.2 = true → r.2.i < T.length → RS T (step r) (step' r)) (g : ∀ r, c r.2 = true → Good T r.2 (step r)) (g' : ∀ r, c r.2 = true → Good T r.2 (step' r)) :
    ∀ f k r, r.2.i < T.length → manyT T c step most f k r = manyT T c step' most f k r ∨ Bad T (manyT T c step most f k r).2.2 (manyT T c step' most f k r).2.2
  | 0, k, r, h => .inl rfl
  | f + 1, k, r, h => by
    unfold manyT
    split
    · rename_i hcc
      split
      · exact .inl rfl
      · rcases hr r hcc h with e | hb
        · rw [← e]; exact many_rs hr g g' f _ _ ((g r hcc).inr hE h)
        · have m1 := many_good T (c := c) (step := step) (most := most) (s := (step r).2) (fun r hc hr => hr.state (g r hc) (l := (step r).1)) f (k + 1) (step r) (Good.self T _)
          have m2 := many_good T (c := c) (step := step') (most := most) (s := (step' r).2) (fun r hc hr => hr.state (g' r hc) (l := (step' r).1)) f (k + 1) (step' r) (Good.self T _)
          exact .inr (hb.go hE hM m1 m2)
    · exact .inl rfl
theorem program_rs (s : St) (hl : s.i < T.length) : RS T (programT T et s) (programT T et' s) := by
  unfold programT
  have i1 : (importsT T ([], s)).2.2.i < T.length := (many_good T (fun r hc hr => impStep_good T hr hc) _ _ _ (Good.nil T s)).inr hE hl
  split
  · exact .inl rfl
  have hm := many_rs hE hM (c := isDef T) (step := defStepT T et) (step' := defStepT T et') (most := 64)
    (fun r _ hl => RS.put ((def_rf hE hM xf).rel r.2 hl) (fun l => r.1 ++ l))
    (fun r _ => (Good.self T r).app (def_good T xf.one _)) (fun r _ => (Good.self T r).app (def_good T xf.two _))
    (fuelQ T (importsT T ([], s)).2.2) 0 (importsT T ([], s)).2 i1
  have hm : defsT T et (importsT T ([], s)).2 = defsT T et' (importsT T ([], s)).2 ∨ Bad T (defsT T et (importsT T ([], s)).2).2.2 (defsT T et' (importsT T ([], s)).2).2.2 := hm
  rcases hm with e | hb
  · rw [e]; exact .inl rfl
  · have key : ∀ J : Bool × RT, Good T J.2.2 (if J.1 = false then J.2 else (J.2.1 ++ (kindT T 5 J.2.2).1, (kindT T 5 J.2.2).2)) := fun J => by
      split
      · exact Good.self T _
      · exact (Good.self T J.2).app (kind_good T 5 _)
    exact .inr (hb.go hE hM (key _) (key _))
theorem alone_rs (s : St) (hl : s.i < T.length) : RS T (aloneT T et s) (aloneT T et' s) :=
  RS.app hE hM (xf.rel (setIn true s) hl) (kind_rf 5) ((xf.one (setIn true s)).inr hE hl)
end

/-- A program with two depths. -/
theorem depths_rs {T : List Tok} (hE : EndT T) (hM : Grow T) {D D' : Nat} (hD : D ≤ D') (h1 : 1 ≤ D) (s : St) (hl : s.i < T.length) :
    RS T (programT T (nxT T D D).expr s) (programT T (nxT T D' D').expr s) ∧ RS T (aloneT T (nxT T D D).expr s) (aloneT T (nxT T D' D').expr s) := by
  have h := nx_rf hE hM hD D D' 1 (by omega) (by omega)
  have xf : RF T (nxT T D D).expr (nxT T D' D').expr := ⟨h.expr, h.one.expr, h.two.expr⟩
  exact ⟨program_rs hE hM xf s hl, alone_rs hE hM xf s hl⟩
end Go.Proofs.YtoahgeleenpnjaaGreatDoor
namespace Go.Proofs.YtoahgeleenpnjaaGreatDoor

theorem whole_mono (T : List Tok) {i j : Nat} (h : i ≤ j) : (wholeL (T.take i)).length ≤ (wholeL (T.take j)).length := by
  have h1 : (T.take j).take i = T.take i := by rw [List.take_take]; congr 1; omega
  rw [← h1]; exact wholeL_take _ _
theorem grow_all {l : List UInt8} (h : (allE l).2.1 = 0) : Grow (allE l).1 := by
  intro s t hle hlt
  have hp := (place_all h).1
  have hs : (allE l).1[s.i]? = some (tokQ (allE l).1 s) := by unfold tokQ; rw [List.getElem?_eq_getElem (Nat.lt_of_le_of_lt hle hlt)]; rfl
  have ht : (allE l).1[t.i]? = some (tokQ (allE l).1 t) := by unfold tokQ; rw [List.getElem?_eq_getElem hlt]; rfl
  have p1 := (hp _ _ hs).1
  have p2 := (hp _ _ ht).1
  rcases Nat.eq_or_lt_of_le hle with e | hl
  · rw [show tokQ (allE l).1 s = tokQ (allE l).1 t from by unfold tokQ; rw [e]]; exact Nat.le_refl _
  · have h1 := whole_mono (allE l).1 (i := s.i + 1) (j := t.i) hl
    rw [wholeL_next hs, List.length_append, List.length_append] at h1
    omega

/-- The tree of a text that has tokens, and the state at its end. -/
def treeT (T : List Tok) (D : Nat) (f : Bool) : RT := if f = true then aloneT T (nxT T D D).expr startQ else programT T (nxT T D D).expr startQ
theorem tree_m (T : List Tok) (D : Nat) (f : Bool) : (treeQ T D f).2 = (treeT T D f).2 ∧ ((treeT T D f).2.e = 0 → (treeQ T D f).1 = dmp T (.nd (if f = true then 18 else 1) (treeT T D f).1)) := by
  have hx := (nx_m T D D).expr
  unfold treeQ treeT
  cases f
  · exact program_m T _ hx startQ
  · exact ⟨(alone_m T _ hx startQ).1, fun _ => (alone_m T _ hx startQ).2⟩
/-- What is answered, of a text that has tokens. -/
theorem parse_good {l : List UInt8} (hl : l.length ≤ 65536) (h : (allE l).2.1 = 0) (D : Nat) (f : Bool) :
    parseQ l D f = if (treeT (allE l).1 D f).2.e = 0 then (dmp (allE l).1 (.nd (if f = true then 18 else 1) (treeT (allE l).1 D f).1), 0, 0) else ([], (treeT (allE l).1 D f).2.e, (treeT (allE l).1 D f).2.pos) := by
  obtain ⟨h1, h2⟩ := tree_m (allE l).1 D f
  unfold parseQ
  rw [if_neg (by omega), if_neg (by omega)]
  unfold resQ
  rw [h1]
  split
  · rename_i he; rw [h2 he]
  · rfl
/-- The leaves of a tree are all tokens. -/
theorem tree_leaves {l : List UInt8} (h : (allE l).2.1 = 0) (D : Nat) (f : Bool) (he : (treeT (allE l).1 D f).2.e = 0) : lvTs (treeT (allE l).1 D f).1 = List.range (allE l).1.length := by
  obtain ⟨hE, hne⟩ := end_all h
  have hpos : startQ.i < (allE l).1.length := List.length_pos_iff.2 hne
  have hx := (nx_run (allE l).1 D D).expr
  have hg := (nx_good (allE l).1 D D).expr
  cases f
  · have hok : (programT (allE l).1 (nxT (allE l).1 D D).expr startQ).2.i < (allE l).1.length := by
      unfold programT
      have i1 := many_good (allE l).1 (most := 16) (c := isQ (allE l).1 [105, 109, 112, 111, 114, 116]) (step := impStepT (allE l).1) (s := startQ) (fun r hc hr => impStep_good _ hr hc) (fuelQ (allE l).1 startQ) 0 ([], startQ) (Good.nil _ _)
      have i2 := many_good (allE l).1 (most := 64) (c := isDef (allE l).1) (step := defStepT (allE l).1 (nxT (allE l).1 D D).expr) (s := startQ) (fun r hc hr => hr.app (def_good _ hg _)) (fuelQ (allE l).1 (importsT (allE l).1 ([], startQ)).2.2) 0 (importsT (allE l).1 ([], startQ)).2 i1
      split
      · exact i1.inr hE hpos
      split
      · exact i2.inr hE hpos
      · exact (i2.app (kind_good _ 5 _)).inr hE hpos
    exact program_run _ hx hE rfl hok he
  · have hok : (aloneT (allE l).1 (nxT (allE l).1 D D).expr startQ).2.i < (allE l).1.length :=
      ((hg (setIn true startQ)).app (kind_good _ 5 _)).inr hE hpos
    exact alone_run _ hx hE rfl hok he
/-- Two depths: the same answer, or the smaller one is refused for its depth. -/
theorem parse_depths {l : List UInt8} (h : (allE l).2.1 = 0) {D D' : Nat} (hD : D ≤ D') (h1 : 1 ≤ D) (f : Bool) :
    treeT (allE l).1 D f = treeT (allE l).1 D' f ∨ ((treeT (allE l).1 D f).2.e = 23 ∧ ((treeT (allE l).1 D' f).2.e = 23 → (treeT (allE l).1 D f).2.pos ≤ (treeT (allE l).1 D' f).2.pos)) := by
  obtain ⟨hE, hne⟩ := end_all h
  have hpos : startQ.i < (allE l).1.length := List.length_pos_iff.2 hne
  have key := depths_rs hE (grow_all h) hD h1 startQ hpos
  have fin : ∀ a b : RT, RS (allE l).1 a b → a = b ∨ (a.2.e = 23 ∧ (b.2.e = 23 → a.2.pos ≤ b.2.pos)) := fun a b hr => by
    rcases hr with e | hb
    · exact .inl e
    · exact .inr ⟨hb.deep, hb.late⟩
  unfold treeT
  cases f
  · exact fin _ _ key.1
  · exact fin _ _ key.2
end Go.Proofs.YtoahgeleenpnjaaGreatDoor
namespace Go.Proofs.YtoahgeleenpnjaaGreatDoor

structure TokI where
  kind : Int
  lead : List UInt8
  text : List UInt8
  pos : Int
structure Nd where
  kind : Int
  tok : Int
  kids : List Int

/-- Recursion on places. -/
def rc {α : Type} (d : α) (F : Nd → (Int → α) → α) (N : List Nd) : Nat → Nat → α
  | 0, _ => d
  | f + 1, n => match N[n]? with
    | none => d
    | some x => F x (fun k => rc d F N f k.toNat)
def rcw {α : Type} (d : α) (F : Nd → (Int → α) → α) (N : List Nd) (n : Nat) : α := rc d F N (n + 1) n

/-! ### Leaves, sizes, dumps -/

def lvF (x : Nd) (g : Int → List Int) : List Int := if x.kind = 19 then [x.tok] else x.kids.flatMap g
def lv (N : List Nd) (n : Nat) : List Int := rcw [] lvF N n
/-! ### The right form -/

/-! ### How many -/

end Go.Proofs.YtoahgeleenpnjaaGreatDoor
namespace Go.Proofs.YtoahgeleenpnjaaGreatDoor
open Go.RowKit

def Wid (s : Nat) (l : List (List Value)) : Prop := ∀ q ∈ l, q.length = s ∧ ∀ u ∈ q, u.oneCell' = true

theorem flat_get {s : Nat} {l : List (List Value)} (hw : Wid s l) : ∀ (j : Nat) (q : List Value), l[j]? = some q → ∀ (i : Nat) (v : Value), q[i]? = some v → l.flatten[j * s + i]? = some v := by
  induction l with
  | nil => intro j q h; simp at h
  | cons a l ih =>
    intro j q hj i v hi
    have ha := (hw a List.mem_cons_self).1
    rw [List.flatten_cons]
    match j, hj with
    | 0, hj =>
      simp at hj; subst hj
      rw [Nat.zero_mul, Nat.zero_add, List.getElem?_append_left (List.getElem?_eq_some_iff.1 hi).1]; exact hi
    | j + 1, hj =>
      have h2 : (j + 1) * s + i = a.length + (j * s + i) := by rw [ha, Nat.add_mul]; omega
      rw [h2, List.getElem?_append_right (by omega), Nat.add_sub_cancel_left]
      exact ih (fun q hq => hw q (List.mem_cons_of_mem _ hq)) j q (by simpa using hj) i v hi

theorem flat_len {s : Nat} {l : List (List Value)} (hw : Wid s l) : l.flatten.length = l.length * s := by
  induction l with
  | nil => simp
  | cons a l ih => rw [List.flatten_cons, List.length_append, ih fun q hq => hw q (List.mem_cons_of_mem _ hq), (hw a List.mem_cons_self).1, List.length_cons, Nat.add_mul]; omega

/-- A slice reads as a list of structs of s cells. -/
def GAt (s : Nat) (w : World) (p : Option Addr) (l : List (List Value)) : Prop :=
  l = [] ∨ ∃ g off, p = some ⟨g, off, none⟩ ∧ g < w.heap.size ∧ ∀ (j : Nat) (q : List Value), l[j]? = some q → ∀ (i : Nat) (v : Value), q[i]? = some v → w.cell? ⟨g, off + j * s + i, none⟩ = some v

theorem GAt.kept {s : Nat} {w w' : World} {p : Option Addr} {l : List (List Value)} (h : GAt s w p l) (hg : w.grownBy w' none) : GAt s w' p l := by
  rcases h with h | ⟨g, off, rfl, hl, hc⟩
  · exact .inl h
  · exact .inr ⟨g, off, rfl, Nat.lt_of_lt_of_le hl hg.size, fun j q hj i v hi => hg.cell (hc j q hj i v hi) (by simp)⟩

theorem GAt.keptS {S : Nat → Prop} {s : Nat} {w w' : World} {p : Option Addr} {l : List (List Value)} (h : GAt s w p l) (hg : Fr2 S w w') (hS : l ≠ [] → ∀ a, p = some a → ¬ S a.block) : GAt s w' p l := by
  rcases h with h | ⟨g, off, rfl, hl, hc⟩
  · exact .inl h
  · by_cases h0 : l = []
    · exact .inl h0
    · exact .inr ⟨g, off, rfl, Nat.lt_of_lt_of_le hl hg.size, fun j q hj i v hi => by rw [World.cell?_of_block (w := w) (hg.block g hl (hS h0 ⟨g, off, none⟩ rfl))]; exact hc j q hj i v hi⟩

theorem GAt.blk {s : Nat} {w : World} {p : Option Addr} {l : List (List Value)} (h : GAt s w p l) : l ≠ [] → ∀ a, p = some a → a.block < w.heap.size := fun h0 a ha => by
  obtain ⟨g, off, rfl, hl, -⟩ := h.resolve_left h0
  injection ha with ha; subst ha; exact hl

theorem GAt.nil {s : Nat} {w : World} {p : Option Addr} : GAt s w p [] := .inl rfl

/-- A row of one's own. -/
def OwnG (s : Nat) (T : TypeId) (w : World) (base : Nat) (v : Value) (l : List (List Value)) : Prop := w.ownsRow base T s v l.length l.flatten ∧ Wid s l

theorem OwnG.nil (s : Nat) (T : TypeId) (w : World) (base : Nat) : OwnG s T w base (.slice none 0 0) [] := ⟨World.ownsRow_nil _ _ _ _, fun q hq => by simp at hq⟩
theorem OwnG.kept {s : Nat} {T : TypeId} {w w' : World} {base : Nat} {v : Value} {l : List (List Value)} (h : OwnG s T w base v l) (hg : w.grownBy w' none) : OwnG s T w' base v l := ⟨World.ownsRow.kept h.1 hg (by
  cases hv : v.ownBlock with
  | none => exact .inl rfl
  | some k => exact .inr (by simp)), h.2⟩

theorem OwnG.keptS {S : Nat → Prop} {s : Nat} {T : TypeId} {w w' : World} {base : Nat} {v : Value} {l : List (List Value)} (h : OwnG s T w base v l) (hg : Fr2 S w w') (hS : ∀ g, base ≤ g → ¬ S g) : OwnG s T w' base v l :=
  ⟨⟨h.1.1, h.1.2.imp id fun ⟨g, cap, cur, e, hb, hh, r⟩ => ⟨g, cap, cur, e, hb, hg.keep hh (hS g hb), r⟩⟩, h.2⟩

theorem OwnG.is {s : Nat} {T : TypeId} {w : World} {base : Nat} {v : Value} {l : List (List Value)} (h : OwnG s T w base v l) : ∃ p c, v = .slice p l.length c ∧ GAt s w p l ∧ l.length ≤ c ∧ c ≤ maxLen ∧ (l ≠ [] → ∀ a, p = some a → base ≤ a.block) := by
  rcases h.1.2 with ⟨rfl, h0⟩ | ⟨g, cap, cur, rfl, hb, hg, hnc, hcm, h1, h2⟩
  · have : l = [] := List.eq_nil_of_length_eq_zero h0
    subst this
    exact ⟨none, 0, rfl, .inl rfl, Nat.le_refl _, by unfold maxLen; omega, fun h => absurd rfl h⟩
  · refine ⟨_, cap, rfl, .inr ⟨g, 0, rfl, hlt hg, fun j q hj i v hi => ?_⟩, hnc, hcm, fun _ a ha => by injection ha with ha; subst ha; exact hb⟩
    have h3 := flat_get h.2 j q hj i v hi
    have h' : w.ownsRow base T s (.slice (some ⟨g, 0, none⟩) l.length cap) l.length l.flatten := h.1
    have h4 := (List.getElem?_eq_some_iff.1 h3).1
    rw [flat_len h.2] at h4
    rw [Nat.zero_add, h'.cellAt _ h4]; exact h3

theorem OwnG.lt {s : Nat} {T : TypeId} {w : World} {base : Nat} {v : Value} {l : List (List Value)} (h : OwnG s T w base v l) {p : Option Addr} {n c : Nat} (hv : v = .slice p n c) (hn : 0 < n) : ∃ a, p = some a ∧ base ≤ a.block ∧ a.block < w.heap.size := by
  rcases h.1.2 with ⟨h1, h0⟩ | ⟨g, cap, cur, h1, hb, hg, -⟩
  · rw [hv] at h1; injection h1 with h1 h2 h3; omega
  · rw [hv] at h1; injection h1 with h1 h2 h3; subst h1; exact ⟨_, rfl, hb, hlt hg⟩

/-- append of no element. -/
theorem run_append_zero {P : Program} {w : World} (base : Nat) (t ty e : TypeId) (i : TypeInfo) (size : Nat) (ht : P.underlying t = some (.slice e)) (hi : P.info? e = some i)
    (v : Value) (n : Nat) (xs : List Value) (hown : w.ownsRow base e size v n xs) (p : Option Addr) (c : Nat) :
    (Builtin.append_ #[t, t] ty #[v, .slice p 0 c]).run P w = .ok v w := by
  rcases hown.2 with ⟨rfl, rfl⟩ | ⟨g, cap, cur, rfl, _, _, hnc, _⟩
  · cases p <;> simp [Builtin.append_, run_underlying ht, sizeOf, typeInfo, hi, Builtin.lenOf, Builtin.firstCells, loadCells, loadCellsFrom]
  · cases p <;> simp [Builtin.append_, run_underlying ht, sizeOf, typeInfo, hi, Builtin.lenOf, Builtin.firstCells, hnc, storeCells, loadCells, loadCellsFrom]

theorem wpList_append_zero {P : Program} {w : World} {ops : Array Oper} {rest : List Oper} {o : Oper} {a : Act} {Q : Exit → Act → World → Prop} (hgd : o.guard = none) (s x : Operand) (t : TypeId)
    (ho : o.op = .call { callee := .builtin .append, args := #[s, x], argTypes := #[t, t] })
    (base : Nat) (e : TypeId) (i : TypeInfo) (size : Nat) (ht : P.underlying t = some (.slice e)) (hi : P.info? e = some i)
    (v : Value) (n : Nat) (xs : List Value) (hs : a.eval s = v) (hown : w.ownsRow base e size v n xs) (p : Option Addr) (c : Nat) (hx : a.eval x = .slice p 0 c)
    (h : wpList P ops Q rest (a.put o.dst v) w) : wpList P ops Q (o :: rest) a w := by
  refine wpList_plain hgd fun K hK => ?_
  have hrun := run_append_zero (P := P) (w := w) base t o.type e i size ht hi v n xs hown p c
  unfold Oper.wp
  simp [execOp, ho, resolve, invoke, builtin, hs, hx, hrun, Result.andThen]
  exact hK _ _ h
/-- append of a whole row onto one's own. -/
theorem wpList_appGs {s : Nat} {t T : TypeId} {z : Value} {by' : Nat} (hs0 : 0 < s) (ht : Tryz.prog.underlying t = some (.slice T)) (hT : (Tryz.prog.info? T).map (fun i => (i.zero, i.size, i.bytes)) = some (some z, s, by')) (hz : z.cells.size = s) (hby : by' ≤ 1000)
    {w0 : World} {ops : Array Oper} {rest : List Oper} {o : Oper} {a : Act} {Q : Exit → Act → World → Prop} (hgd : o.guard = none) (os ox : Operand) (ho : o.op = .call { callee := .builtin .append, args := #[os, ox], argTypes := #[t, t] })
    (base : Nat) (l ys : List (List Value)) (hy : Wid s ys) (v : Value) (hs : a.eval os = v) (hown : OwnG s T w0 base v l) (p : Option Addr) (m c : Nat) (hx : a.eval ox = .slice p m c) (hm : ys.length = m) (hys : GAt s w0 p ys) (hn : l.length ≤ 1000000) (hn2 : m ≤ 1000000) (hbase : base ≤ w0.heap.size)
    (K : ∀ p' n' cap' w', n' = l.length + m → OwnG s T w' base (.slice p' n' cap') (l ++ ys) → Below base w0 w' → w0.grownBy w' v.ownBlock → wpList Tryz.prog ops Q rest (a.put o.dst (.slice p' n' cap')) w') :
    wpList Tryz.prog ops Q (o :: rest) a w0 := by
  obtain ⟨i0, hi, hi0, hi1, hi2⟩ := info_parts hT
  by_cases hm0 : m = 0
  · subst hm0
    have : ys = [] := List.eq_nil_of_length_eq_zero hm
    subst this
    obtain ⟨p', c', rfl, -⟩ := hown.is
    exact wpList_append_zero hgd os ox t ho base T i0 s ht hi _ _ _ hs hown.1 p c hx (K p' _ c' w0 rfl (by simpa using hown) (Below.refl _ _) (gb_refl _ _))
  have hm0 : 0 < m := by omega
  have hb : (l.length + m) * by' ≤ 140737488355328 := by
    have : (l.length + m) * by' ≤ (l.length + m) * 1000 := Nat.mul_le_mul_left _ hby
    omega
  obtain ⟨g, off, rfl, hgl, hc⟩ := hys.resolve_left (fun h => by rw [h] at hm; simp at hm; omega)
  refine wpList_append_lies (P := Tryz.prog) _ hgd os ox t ho base T i0 z s by' ht hi hi0 hi1 hi2 hz hs0 _ l.length l.flatten hs hown.1 ⟨g, off, none⟩ m c ys.flatten hx (by rw [flat_len hy, hm]) ?_ ?_ hm0 (by unfold maxLen; omega) hb hbase w0.heap.size rfl ?_
  · intro j u hj
    have hj2 := (List.getElem?_eq_some_iff.1 hj).1
    rw [flat_len hy] at hj2
    have hq : j / s < ys.length := (Nat.div_lt_iff_lt_mul hs0).2 hj2
    have h3 := List.getElem?_eq_getElem hq
    have hr : j % s < (ys[j / s]).length := by rw [(hy _ (List.getElem_mem hq)).1]; exact Nat.mod_lt _ hs0
    have h4 := List.getElem?_eq_getElem hr
    have h5 := flat_get hy _ _ h3 _ _ h4
    have h6 : j / s * s + j % s = j := by rw [Nat.mul_comm]; exact Nat.div_add_mod j s
    rw [h6, hj] at h5
    have h5 := Option.some.inj h5
    rw [Addr.add_lit, h5, ← hc _ _ h3 _ _ h4, Nat.add_assoc, h6]
  · intro u hu
    obtain ⟨q, hq, hu⟩ := List.mem_flatten.1 hu
    exact (hy q hq).2 u hu
  · intro g' cap' w' h3 h4 h5 _
    refine K _ _ cap' w' rfl ⟨by simpa [hm] using h3, fun q hq => ?_⟩ (below_own hown.1 hbase h4) h4
    rcases List.mem_append.1 hq with hq | hq
    · exact hown.2 q hq
    · exact hy q hq

/-! ### Rows of one cell each -/

def one (zs : List Value) : List (List Value) := zs.map ([·])
theorem one_len (zs : List Value) : (one zs).length = zs.length := List.length_map _
theorem one_flat (zs : List Value) : (one zs).flatten = zs := by
  induction zs with
  | nil => rfl
  | cons a l ih => simpa [one] using ih
theorem one_wid {zs : List Value} (h : ∀ u ∈ zs, u.oneCell' = true) : Wid 1 (one zs) := fun q hq => by
  obtain ⟨u, hu, rfl⟩ := List.mem_map.1 hq
  exact ⟨rfl, fun v hv => by simp at hv; subst hv; exact h _ hu⟩
theorem g_of_v {w : World} {p : Option Addr} {zs : List Value} (h : VAt w p zs) : GAt 1 w p (one zs) := by
  rcases h with rfl | ⟨g, off, rfl, hl, hc⟩
  · exact .inl rfl
  · refine .inr ⟨g, off, rfl, hl, fun j q hj i v hi => ?_⟩
    unfold one at hj
    rw [List.getElem?_map] at hj
    obtain ⟨u, hu, rfl⟩ := Option.map_eq_some_iff.1 hj
    match i, hi with
    | 0, hi => simp at hi; subst hi; simpa using hc j _ hu
theorem v_of_g {w : World} {p : Option Addr} {zs : List Value} (h : GAt 1 w p (one zs)) : VAt w p zs := by
  rcases h with h | ⟨g, off, rfl, hl, hc⟩
  · refine .inl ?_
    unfold one at h; exact List.map_eq_nil_iff.1 h
  · refine .inr ⟨g, off, rfl, hl, fun j u hj => ?_⟩
    have := hc j [u] (by unfold one; rw [List.getElem?_map, hj]; rfl) 0 u rfl
    simpa using this
end Go.Proofs.YtoahgeleenpnjaaGreatDoor
namespace Go.Proofs.YtoahgeleenpnjaaGreatDoor
open Go.RowKit

def tokVI (t : TokI) : List Value := [.int .i64 t.kind, strV t.lead, strV t.text, .int .i64 t.pos]
def intsV (l : List Int) : List Value := l.map (Value.int .i64)
def ndV (K : Nat → Option Addr × Nat) (i : Nat) (x : Nd) : List Value := [.int .i64 x.kind, .int .i64 x.tok, .slice (K i).1 x.kids.length (K i).2]
def ndsV (K : Nat → Option Addr × Nat) (N : List Nd) : List (List Value) := N.mapIdx (ndV K)
def toksV (T : List TokI) : List (List Value) := T.map tokVI

def KidsAt (w : World) (N : List Nd) (K : Nat → Option Addr × Nat) : Prop := ∀ (i : Nat) (x : Nd), N[i]? = some x → VAt w (K i).1 (intsV x.kids)
def NodesAt (w : World) (p : Option Addr) (N : List Nd) (K : Nat → Option Addr × Nat) : Prop := GAt 3 w p (ndsV K N) ∧ KidsAt w N K
def ToksAt (w : World) (p : Option Addr) (T : List TokI) : Prop := GAt 4 w p (toksV T)

theorem NodesAt.kept {w w' : World} {p : Option Addr} {N : List Nd} {K : Nat → Option Addr × Nat} (h : NodesAt w p N K) (hg : w.grownBy w' none) : NodesAt w' p N K := ⟨h.1.kept hg, fun i x hx => (h.2 i x hx).kept hg⟩
theorem ToksAt.kept {w w' : World} {p : Option Addr} {T : List TokI} (h : ToksAt w p T) (hg : w.grownBy w' none) : ToksAt w' p T := GAt.kept h hg

theorem intsV_len (l : List Int) : (intsV l).length = l.length := List.length_map _
theorem intsV_one (l : List Int) : ∀ u ∈ intsV l, u.oneCell' = true := fun u hu => by obtain ⟨x, -, rfl⟩ := List.mem_map.1 hu; rfl
theorem intsV_append (a b : List Int) : intsV (a ++ b) = intsV a ++ intsV b := List.map_append
theorem intsV_get {l : List Int} {j : Nat} {x : Int} (h : l[j]? = some x) : (intsV l)[j]? = some (.int .i64 x) := by unfold intsV; rw [List.getElem?_map, h]; rfl

/-- A node's cells. -/
theorem node_at {w : World} {p : Option Addr} {N : List Nd} {K : Nat → Option Addr × Nat} (h : NodesAt w p N K) {n : Nat} {x : Nd} (hx : N[n]? = some x) : ∃ g off, p = some ⟨g, off, none⟩ ∧ g < w.heap.size ∧
    w.cell? ⟨g, off + n * 3, none⟩ = some (.int .i64 x.kind) ∧ w.cell? ⟨g, off + n * 3 + 1, none⟩ = some (.int .i64 x.tok) ∧ w.cell? ⟨g, off + n * 3 + 2, none⟩ = some (.slice (K n).1 x.kids.length (K n).2) := by
  have h1 : (ndsV K N)[n]? = some (ndV K n x) := by unfold ndsV; rw [List.getElem?_mapIdx, hx]; rfl
  obtain ⟨g, off, rfl, hl, hc⟩ := h.1.resolve_left (fun h0 => by rw [h0] at h1; simp at h1)
  exact ⟨g, off, rfl, hl, hc n _ h1 0 _ rfl, hc n _ h1 1 _ rfl, hc n _ h1 2 _ rfl⟩

theorem tok_at {w : World} {p : Option Addr} {T : List TokI} (h : ToksAt w p T) {n : Nat} {t : TokI} (hx : T[n]? = some t) : ∃ g off, p = some ⟨g, off, none⟩ ∧ g < w.heap.size ∧
    w.cell? ⟨g, off + n * 4, none⟩ = some (.int .i64 t.kind) ∧ w.cell? ⟨g, off + n * 4 + 1, none⟩ = some (strV t.lead) ∧ w.cell? ⟨g, off + n * 4 + 2, none⟩ = some (strV t.text) ∧ w.cell? ⟨g, off + n * 4 + 3, none⟩ = some (.int .i64 t.pos) := by
  have h1 : (toksV T)[n]? = some (tokVI t) := by unfold toksV; rw [List.getElem?_map, hx]; rfl
  obtain ⟨g, off, rfl, hl, hc⟩ := Or.resolve_left h (fun h0 => by rw [h0] at h1; simp at h1)
  exact ⟨g, off, rfl, hl, hc n _ h1 0 _ rfl, hc n _ h1 1 _ rfl, hc n _ h1 2 _ rfl, hc n _ h1 3 _ rfl⟩

/-- A kid's cell. -/
theorem kid_at {w : World} {p : Option Addr} {l : List Int} (h : VAt w p (intsV l)) {j : Nat} {x : Int} (hx : l[j]? = some x) : ∃ g off, p = some ⟨g, off, none⟩ ∧ g < w.heap.size ∧ w.cell? ⟨g, off + j, none⟩ = some (.int .i64 x) := by
  have h1 := intsV_get hx
  obtain ⟨g, off, rfl, hl, hc⟩ := h.resolve_left (fun h0 => by rw [h0] at h1; simp at h1)
  exact ⟨g, off, rfl, hl, hc j _ h1⟩

theorem infoI : (Tryz.prog.info? 3).map (fun i => (i.zero, i.size, i.bytes)) = some (some (.int .i64 0), 1, 8) := by kernel_rfl

end Go.Proofs.YtoahgeleenpnjaaGreatDoor
namespace Go.Proofs.YtoahgeleenpnjaaGreatDoor
open Go.RowKit

def okB (n : Nat) (l : List Int) : Bool := l.all fun k => decide (0 ≤ k ∧ k < (n : Int))
theorem okB_true {n : Nat} {l : List Int} (h : ∀ k ∈ l, 0 ≤ k ∧ k < (n : Int)) : okB n l = true := by
  unfold okB; rw [List.all_eq_true]; exact fun k hk => decide_eq_true (h k hk)
theorem okB_false {n : Nat} {l : List Int} {j : Nat} {x : Int} (hx : l[j]? = some x) (h : ¬ (0 ≤ x ∧ x < (n : Int))) : okB n l = false := by
  unfold okB; rw [List.all_eq_false]; exact ⟨x, List.mem_of_getElem? hx, by simpa using h⟩
set_option maxRecDepth 100000 in
set_option maxHeartbeats 4000000 in
theorem eachBelow_c (n : Nat) (l : List Int) (p : Option Addr) (c : Nat) (w : World) (hn : n ≤ 1000000) (hl : l.length ≤ 1000000) (h : VAt w p (intsV l)) :
    Calls Tryz.prog 85 #[.int .i64 (n : Int), .slice p l.length c] w (ValPost (.bool (okB n l)) w) := by
  obtain ⟨m, hm⟩ : ∃ m, l.length = m := ⟨_, rfl⟩
  have HM := Lib.hid hm
  have HV := Lib.hid h
  rw [hm] at hl ⊢
  clear hm h
  go_enter Tryz.func85, Tryz.ntmps85
  go_wp2_with fail
  go_loopw [9] (fun v wr => ∃ k : Nat, k ≤ m ∧ v = .int .i64 k ∧ wr = w ∧ Hid (∀ (j : Nat) (x : Int), j < k → l[j]? = some x → 0 ≤ x ∧ x < (n : Int))) (fun v _ => m - (intOf v).toNat)
  case atStart => exact ⟨0, Nat.zero_le _, rfl, rfl, Lib.hid (fun j x h => by omega)⟩
  case round =>
    obtain ⟨k, hk, rfl, rfl, HK⟩ := hrel
    by_cases hlt : k < m
    · have d1 : decide ((k : Int) < (m : Int)) = true := decide_eq_true (by omega)
      have d1' : decide (k < m) = true := decide_eq_true hlt
      obtain ⟨x, hx⟩ : ∃ x, l[k]? = some x := ⟨l[k]'(by rw [HM.out]; exact hlt), List.getElem?_eq_getElem _⟩
      obtain ⟨g, off, rfl, hgl, c0⟩ := kid_at HV.out hx
      have HX := Lib.hid hx
      clear hx
      by_cases h0 : x < 0
      · have d2 : decide (x < 0) = true := decide_eq_true h0
        go_wp2_with fail
        go_ret
        exact ⟨by rw [okB_false HX.out (by omega)]; rfl, gb_refl _ _⟩
      · have d2 : decide (x < 0) = false := decide_eq_false h0
        by_cases h1 : (n : Int) ≤ x
        · have d3 : decide ((n : Int) ≤ x) = true := decide_eq_true h1
          go_wp2_with fail
          go_ret
          exact ⟨by rw [okB_false HX.out (by omega)]; rfl, gb_refl _ _⟩
        · have d3 : decide ((n : Int) ≤ x) = false := decide_eq_false h1
          go_wp2_with fail
          go_roundw
          case rel => exact ⟨k + 1, by omega, by go_num, by first | rfl | trivial, Lib.hid (fun j y hj hy => by
            by_cases e : j = k
            · subst e; rw [HX.out] at hy; cases hy; omega
            · exact HK.out j y (by omega) hy)⟩
          case measure => (simp [intOf] <;> omega)
    · obtain rfl : k = m := by omega
      go_wp2_with fail
      go_ret
      exact ⟨by rw [okB_true fun y hy => by
        obtain ⟨j, hj⟩ := List.getElem?_of_mem hy
        have := (List.getElem?_eq_some_iff.1 hj).1
        rw [HM.out] at this
        exact HK.out j y this hj]; rfl, gb_refl _ _⟩

end Go.Proofs.YtoahgeleenpnjaaGreatDoor
namespace Go.Proofs.YtoahgeleenpnjaaGreatDoor

mutual
/-- How many nodes a tree has. -/
def szR : Tr → Nat
  | .lf _ => 1
  | .nd _ l => szRs l + 1
def szRs : List Tr → Nat
  | [] => 0
  | t :: l => szR t + szRs l
end
/-- Where the roots of trees stand that begin at b. -/
def idxs : Nat → List Tr → List Int
  | _, [] => []
  | b, t :: l => ((b + szR t - 1 : Nat) : Int) :: idxs (b + szR t) l
mutual
/-- A tree's nodes from b on. -/
def post : Nat → Tr → List Nd
  | _, .lf i => [⟨19, (i : Int), []⟩]
  | b, .nd k l => posts b l ++ [⟨(k : Int), -1, idxs b l⟩]
def posts : Nat → List Tr → List Nd
  | _, [] => []
  | b, t :: l => post b t ++ posts (b + szR t) l
end

theorem szR_pos (t : Tr) : 1 ≤ szR t := by cases t <;> (unfold szR; omega)
theorem idxs_append (a c : List Tr) : ∀ b, idxs b (a ++ c) = idxs b a ++ idxs (b + szRs a) c := by
  induction a with
  | nil => intro b; simp [idxs, szRs]
  | cons t a ih =>
    intro b
    simp only [List.cons_append, idxs, szRs, ih]
    rw [show b + szR t + szRs a = b + (szR t + szRs a) by omega]
theorem posts_append (a c : List Tr) : ∀ b, posts b (a ++ c) = posts b a ++ posts (b + szRs a) c := by
  induction a with
  | nil => intro b; simp [posts, szRs]
  | cons t a ih =>
    intro b
    simp only [List.cons_append, posts, szRs, ih, List.append_assoc]
    rw [show b + szR t + szRs a = b + (szR t + szRs a) by omega]
mutual
theorem post_len : ∀ (t : Tr) (b : Nat), (post b t).length = szR t
  | .lf i, b => by simp [post, szR]
  | .nd k l, b => by simp [post, szR, posts_len l b]
theorem posts_len : ∀ (l : List Tr) (b : Nat), (posts b l).length = szRs l
  | [], b => by simp [posts, szRs]
  | t :: l, b => by simp [posts, szRs, post_len t b, posts_len l (b + szR t)]
end
theorem idxs_in : ∀ (l : List Tr) (b : Nat) (k : Int), k ∈ idxs b l → (b : Int) ≤ k ∧ k < ((b + szRs l : Nat) : Int)
  | [], b, k, h => by simp [idxs] at h
  | t :: l, b, k, h => by
    have hp := szR_pos t
    simp only [idxs, List.mem_cons] at h
    simp only [szRs]
    rcases h with rfl | h
    · omega
    · have := idxs_in l (b + szR t) k h
      omega
theorem idxs_len : ∀ (l : List Tr) (b : Nat), (idxs b l).length = l.length
  | [], b => rfl
  | t :: l, b => by simp [idxs, idxs_len l]

/-- What a reading leaves: k more of room than it takes. -/
def OutL (k : Nat) (N : List Nd) (s : St) (r : RT) (N' : List Nd) (vs : List Int) : Prop :=
  (r.2.e = 0 → N' = N ++ posts N.length r.1 ∧ vs = idxs N.length r.1 ∧ N'.length + 2 * s.i + k ≤ N.length + 2 * r.2.i) ∧ N'.length + 2 * s.i ≤ N.length + 2 * r.2.i
structure OutD (k : Nat) (N : List Nd) (s : St) (r : RT) (N' : List Nd) (vs : List Int) : Prop where
  out : OutL k N s r N' vs
  dead : r.2.e ≠ 0 → (-1 : Int) ∈ vs
/-- The same state; the same trees, where there is no fault. -/
def Eqv (a b : RT) : Prop := a.2 = b.2 ∧ (b.2.e = 0 → a.1 = b.1)
theorem Eqv.refl (a : RT) : Eqv a a := ⟨rfl, fun _ => rfl⟩

theorem OutL.nil (N : List Nd) (s : St) : OutL 0 N s ([], s) N [] := ⟨fun _ => ⟨by simp [posts], rfl, Nat.le_refl _⟩, Nat.le_refl _⟩
theorem OutL.app {k1 k2 : Nat} {N N1 N2 : List Nd} {s : St} {a b : RT} {v1 v2 : List Int} (h1 : OutL k1 N s a N1 v1) (h2 : OutL k2 N1 a.2 b N2 v2) (hd : a.2.e ≠ 0 → b.2.e ≠ 0) : OutL (k1 + k2) N s (a.1 ++ b.1, b.2) N2 (v1 ++ v2) := by
  refine ⟨fun e => ?_, ?_⟩
  · have ea : a.2.e = 0 := by
      rcases Nat.eq_zero_or_pos a.2.e with h | h
      · exact h
      · exact absurd e (hd (by omega))
    obtain ⟨e1, e2, e3⟩ := h1.1 ea
    obtain ⟨f1, f2, f3⟩ := h2.1 e
    have hl : N1.length = N.length + szRs a.1 := by rw [e1, List.length_append, posts_len]
    refine ⟨?_, ?_, ?_⟩
    · rw [f1, hl, posts_append, ← List.append_assoc, ← e1]
    · rw [f2, e2, hl, idxs_append]
    · show N2.length + 2 * s.i + (k1 + k2) ≤ N.length + 2 * b.2.i; omega
  · have := h1.2; have := h2.2
    show N2.length + 2 * s.i ≤ N.length + 2 * b.2.i; omega
theorem OutD.app {k1 k2 : Nat} {N N1 N2 : List Nd} {s : St} {a b : RT} {v1 v2 : List Int} (h1 : OutL k1 N s a N1 v1) (h2 : OutD k2 N1 a.2 b N2 v2) (hd : a.2.e ≠ 0 → b.2.e ≠ 0) : OutD (k1 + k2) N s (a.1 ++ b.1, b.2) N2 (v1 ++ v2) :=
  ⟨h1.app h2.out hd, fun e => List.mem_append_right _ (h2.dead e)⟩
theorem OutL.weak {k j : Nat} {N N' : List Nd} {s : St} {r : RT} {vs : List Int} (h : OutL k N s r N' vs) (hj : j ≤ k) : OutL j N s r N' vs :=
  ⟨fun e => ⟨(h.1 e).1, (h.1 e).2.1, by have := (h.1 e).2.2; omega⟩, h.2⟩
theorem OutD.weak {k j : Nat} {N N' : List Nd} {s : St} {r : RT} {vs : List Int} (h : OutD k N s r N' vs) (hj : j ≤ k) : OutD j N s r N' vs := ⟨h.out.weak hj, h.dead⟩
theorem OutL.eqv {k : Nat} {N N' : List Nd} {s : St} {a b : RT} {vs : List Int} (h : OutL k N s a N' vs) (he : Eqv a b) : OutL k N s b N' vs :=
  ⟨fun e => by rw [← he.1, ← he.2 e]; exact h.1 (by rw [he.1]; exact e), by rw [← he.1]; exact h.2⟩
theorem OutD.eqv {k : Nat} {N N' : List Nd} {s : St} {a b : RT} {vs : List Int} (h : OutD k N s a N' vs) (he : Eqv a b) : OutD k N s b N' vs :=
  ⟨h.out.eqv he, fun e => h.dead (by rw [he.1]; exact e)⟩

/-- A node of what was read. -/
theorem OutD.ok {k : Nat} {N N1 : List Nd} {s : St} {r : RT} {vs : List Int} (h : OutD k N s r N1 vs) (e : r.2.e = 0) : okB N1.length vs = true := by
  obtain ⟨e1, e2, -⟩ := h.out.1 e
  refine okB_true fun j hj => ?_
  rw [e2] at hj
  have := idxs_in _ _ _ hj
  rw [e1, List.length_append, posts_len]
  omega
theorem OutD.no {k : Nat} {N N1 : List Nd} {s : St} {r : RT} {vs : List Int} (h : OutD k N s r N1 vs) (e : r.2.e ≠ 0) : okB N1.length vs = false := by
  obtain ⟨j, hj⟩ := List.getElem?_of_mem (h.dead e)
  exact okB_false hj (by omega)
theorem OutD.node {k kind : Nat} {N N1 : List Nd} {s : St} {r : RT} {vs : List Int} (h : OutD (k + 1) N s r N1 vs) (e : r.2.e = 0) : OutD k N s ([.nd kind r.1], r.2) (N1 ++ [⟨(kind : Int), -1, vs⟩]) [(N1.length : Int)] := by
  obtain ⟨e1, e2, e3⟩ := h.out.1 e
  have hl : N1.length = N.length + szRs r.1 := by rw [e1, List.length_append, posts_len]
  refine ⟨⟨fun _ => ⟨?_, ?_, ?_⟩, ?_⟩, fun h => absurd e h⟩
  · simp only [posts, post, List.append_nil]; rw [← List.append_assoc, ← e1, e2]
  · simp only [idxs, szR]; rw [hl]; congr 1
  · rw [List.length_append]; show N1.length + 1 + 2 * s.i + k ≤ N.length + 2 * r.2.i; omega
  · rw [List.length_append]; show N1.length + 1 + 2 * s.i ≤ N.length + 2 * r.2.i; omega
theorem OutD.none {k kind : Nat} {N N1 : List Nd} {s : St} {r : RT} {vs : List Int} (h : OutD (k + 1) N s r N1 vs) (e : r.2.e ≠ 0) : OutD k N s ([.nd kind r.1], r.2) N1 [-1] :=
  ⟨⟨fun h => absurd h e, h.out.2⟩, fun _ => List.mem_singleton.2 rfl⟩
theorem OutD.leaf {T : List Tok} {N : List Nd} {s : St} (hk : (tokQ T s).kind ≠ 5) (he : s.e = 0) : OutD 1 N s (leafT T s) (N ++ [⟨19, (s.i : Int), []⟩]) [(N.length : Int)] := by
  have h1 := leaf_fits hk
  refine ⟨⟨fun _ => ⟨?_, ?_, ?_⟩, ?_⟩, fun h => absurd ?_ h⟩
  · simp [leafT, posts, post]
  · simp [leafT, idxs, szR]
  · rw [List.length_append]; show N.length + 1 + 2 * s.i + 1 ≤ N.length + 2 * (leafQ T s).2.i; omega
  · rw [List.length_append]; show N.length + 1 + 2 * s.i ≤ N.length + 2 * (leafQ T s).2.i; omega
  · show (leafQ T s).2.e = 0; unfold leafQ; split <;> exact he
theorem OutD.fail {T : List Tok} {N : List Nd} {s : St} {k m : Nat} (hm : m ≠ 0) (l : List Tr) : OutD k N s (l, failQ T m s) N [-1] :=
  ⟨⟨fun h => absurd h (fail_e T hm s), by show N.length + 2 * s.i ≤ N.length + 2 * (failQ T m s).i; rw [fail_i]; omega⟩, fun _ => List.mem_singleton.2 rfl⟩
end Go.Proofs.YtoahgeleenpnjaaGreatDoor
