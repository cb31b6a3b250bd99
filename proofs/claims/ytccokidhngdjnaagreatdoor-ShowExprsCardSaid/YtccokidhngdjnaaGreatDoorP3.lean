/- Lemmas. -/
import Derived.Test.YtccokidhngdjnaaGreatDoorP28
set_option linter.unusedVariables false
set_option linter.unusedSimpArgs false
namespace Go.Proofs.YtccokidhngdjnaaGreatDoor

inductive Tr where
  | lf (i : Nat)
  | nd (k : Nat) (l : List Tr)
abbrev RT := List Tr × St

def digT (k : Nat) : List UInt8 := if k < 10 then [UInt8.ofNat (48 + k)] else [UInt8.ofNat (48 + k / 10), UInt8.ofNat (48 + k % 10)]
def tokT (T : List Tok) (i : Nat) : List UInt8 := if (T[i]?.getD ⟨5, [], [], 0⟩).kind = 5 then [36] else (T[i]?.getD ⟨5, [], [], 0⟩).text
mutual
/-- A tree's text. -/
def dmp (T : List Tok) : Tr → List UInt8
  | .lf i => tokT T i
  | .nd k l => 40 :: digT k ++ dmps T l ++ [41]
def dmps (T : List Tok) : List Tr → List UInt8
  | [] => []
  | t :: l => 32 :: dmp T t ++ dmps T l
end
theorem dmps_append (T : List Tok) (a b : List Tr) : dmps T (a ++ b) = dmps T a ++ dmps T b := by
  induction a with
  | nil => simp [dmps]
  | cons t a ih => simp [dmps, ih]
theorem dmps_node (T : List Tok) (k : Nat) (l : List Tr) : dmps T [.nd k l] = [32, 40] ++ digT k ++ dmps T l ++ [41] := by simp [dmps, dmp]
theorem dmps_nil (T : List Tok) : dmps T [] = [] := by simp [dmps]

def im (T : List Tok) (a : RT) : RQ := (dmps T a.1, a.2)
theorem im_fst (T : List Tok) (a : RT) : (im T a).1 = dmps T a.1 := rfl
theorem im_snd (T : List Tok) (a : RT) : (im T a).2 = a.2 := rfl
theorem im_ite (T : List Tok) (p : Prop) [Decidable p] (a b : RT) : im T (if p then a else b) = if p then im T a else im T b := by split <;> rfl

section
variable (T : List Tok)
def leafT (s : St) : RT := ([.lf s.i], (leafQ T s).2)
def mustT (w : List UInt8) (s : St) : RT := if isQ T w s = true then leafT T s else ([], failQ T 22 s)
def kindT (k : Nat) (s : St) : RT := if s.e = 0 ∧ (tokQ T s).kind = k then leafT T s else ([], failQ T 22 s)
theorem leaf_m (s : St) : leafQ T s = im T (leafT T s) := by
  have h : (leafQ T s).1 = dmps T [.lf s.i] := by
    unfold leafQ
    simp only [dmps, dmp, tokT, tokQ]
    split <;> rename_i hk <;> simp [hk]
  exact Prod.ext h rfl
theorem must_m (w : List UInt8) (s : St) : mustQ T w s = im T (mustT T w s) := by
  unfold mustQ mustT
  rw [im_ite, leaf_m]; simp [im, dmps]
theorem kind_m (k : Nat) (s : St) : kindQ T k s = im T (kindT T k s) := by
  unfold kindQ kindT
  rw [im_ite, leaf_m]; simp [im, dmps]

def rwT (c : St → Bool) (sub : St → RT) : Nat → RT → RT
  | 0, r => r
  | f + 1, r => if c r.2 = true then rwT c sub f ([.nd 10 (r.1 ++ (leafT T r.2).1 ++ (sub (leafT T r.2).2).1)], (sub (leafT T r.2).2).2) else r
theorem row_m {c : St → Bool} {sub : St → RQ} {subT : St → RT} (h : ∀ s, sub s = im T (subT s)) : ∀ f r, rowQ T c sub f (im T r) = im T (rwT T c subT f r)
  | 0, r => rfl
  | f + 1, r => by
    unfold rowQ rwT
    rw [im_ite, im_snd, ← row_m h f, leaf_m, h]
    simp only [im, dmps_node, dmps_append]
    rfl
def partsT (sub : St → RT) : Nat → Nat → RT → RT
  | 0, _, r => r
  | f + 1, k, r => if isQ T [44] r.2 = true then
      let l := leafT T r.2
      let s := if k = 8 then failQ T 15 l.2 else l.2
      partsT sub f (k + 1) (r.1 ++ l.1 ++ (sub s).1, (sub s).2)
    else r
theorem parts_m {sub : St → RQ} {subT : St → RT} (h : ∀ s, sub s = im T (subT s)) : ∀ f k r, partsQ T sub f k (im T r) = im T (partsT T subT f k r)
  | 0, k, r => rfl
  | f + 1, k, r => by
    unfold partsQ partsT
    simp only []
    rw [im_ite, im_snd, ← parts_m h f, leaf_m]
    simp only [im_snd, h, im_fst]
    simp only [im, dmps_append]

structure NxT where
  expr : St → RT
  formula : St → RT
  nots : St → RT
  factor : St → RT
structure NxM (nx : Nx) (nt : NxT) : Prop where
  expr : ∀ s, nx.expr s = im T (nt.expr s)
  formula : ∀ s, nx.formula s = im T (nt.formula s)
  nots : ∀ s, nx.nots s = im T (nt.nots s)
  factor : ∀ s, nx.factor s = im T (nt.factor s)
end

section
variable (T : List Tok) (D n : Nat) (nt : NxT)
def argsT (s : St) : RT := partsT T nt.expr (fuelQ T (nt.expr s).2) 1 (nt.expr s)
def nameBT (a : RT) : RT := if isQ T [46] a.2 = true then (a.1 ++ (leafT T a.2).1 ++ (kindT T 1 (leafT T a.2).2).1, (kindT T 1 (leafT T a.2).2).2) else a
def nameCT (b : RT) : RT := (b.1 ++ (mustT T [40] b.2).1, (mustT T [40] b.2).2)
def nameDT (c : RT) : RT := if isQ T [41] c.2 = true then c else (c.1 ++ (argsT T nt c.2).1, (argsT T nt c.2).2)
def nameET (d : RT) : RT := ([.nd 13 (d.1 ++ (mustT T [41] d.2).1)], (mustT T [41] d.2).2)
def nameT (s : St) : RT :=
  if (leafT T s).2.inn = true ∨ (isQ T [46] (leafT T s).2 = false ∧ isQ T [40] (leafT T s).2 = false) then ([.nd 14 (leafT T s).1], (leafT T s).2)
  else nameET T (nameDT T nt (nameCT T (nameBT T (leafT T s))))
def atomT (s : St) : RT :=
  if s.e ≠ 0 then ([], s)
  else if (tokQ T s).kind = 3 then ([.nd 15 (leafT T s).1], (leafT T s).2)
  else if isQ T [116, 114, 117, 101] s = true ∨ isQ T [102, 97, 108, 115, 101] s = true then ([.nd 16 (leafT T s).1], (leafT T s).2)
  else if s.inn = true ∧ isQ T [114, 101, 115] s = true then ([.nd 17 (leafT T s).1], (leafT T s).2)
  else if isQ T [40] s = true then
    let l := leafT T s
    let b := nt.expr l.2
    let c := mustT T [41] b.2
    ([.nd 12 (l.1 ++ b.1 ++ c.1)], c.2)
  else if (tokQ T s).kind = 1 then nameT T nt s
  else ([], failQ T 22 s)
def signT (sub : St → RT) (s : St) : RT :=
  let l := leafT T s
  let t := nestQ T D (n + 1) l.2
  if t.e ≠ 0 then ([], t) else ([.nd 11 (l.1 ++ (sub t).1)], (sub t).2)
def factorT (s : St) : RT := if isQ T [45] s = true then signT T D n nt.factor s else atomT T nt s
def productT (s : St) : RT := rwT T (isMul T) (factorT T D n nt) (fuelQ T (factorT T D n nt s).2) (factorT T D n nt s)
def sumT (s : St) : RT := rwT T (isAdd T) (productT T D n nt) (fuelQ T (productT T D n nt s).2) (productT T D n nt s)
def notT (s : St) : RT :=
  if isQ T [110, 111, 116] s = true then signT T D n nt.nots s
  else
    let a := sumT T D n nt s
    if isCmp T a.2 = true then
      let l := leafT T a.2
      let b := sumT T D n nt l.2
      ([.nd 10 (a.1 ++ l.1 ++ b.1)], b.2)
    else a
def andT (s : St) : RT := rwT T (isQ T [38, 38]) (notT T D n nt) (fuelQ T (notT T D n nt s).2) (notT T D n nt s)
def orT (s : St) : RT := rwT T (isQ T [124, 124]) (andT T D n nt) (fuelQ T (andT T D n nt s).2) (andT T D n nt s)
def formulaT (s : St) : RT :=
  let a := orT T D n nt s
  if isQ T [61, 62] a.2 = true then
    let l := leafT T a.2
    let t := nestQ T D (n + 1) l.2
    if t.e ≠ 0 then ([], t) else ([.nd 10 (a.1 ++ l.1 ++ (nt.formula t).1)], (nt.formula t).2)
  else a
def letT (s : St) : RT :=
  let l := leafT T s
  let k := kindT T 1 l.2
  let q := mustT T [61] k.2
  let a := nt.expr q.2
  let i := mustT T [105, 110] a.2
  let b := nt.expr i.2
  ([.nd 7 (l.1 ++ k.1 ++ q.1 ++ a.1 ++ i.1 ++ b.1)], b.2)
def ifT (s : St) : RT :=
  let l := leafT T s
  let a := nt.expr l.2
  let t := mustT T [116, 104, 101, 110] a.2
  let b := nt.expr t.2
  let e := mustT T [101, 108, 115, 101] b.2
  let c := nt.expr e.2
  ([.nd 8 (l.1 ++ a.1 ++ t.1 ++ b.1 ++ e.1 ++ c.1)], c.2)
def assertT (s : St) : RT :=
  let l := leafT T s
  let a := nt.expr l.2
  let i := mustT T [105, 110] a.2
  let b := nt.expr i.2
  ([.nd 9 (l.1 ++ a.1 ++ i.1 ++ b.1)], b.2)
def exprT (s : St) : RT :=
  let t := nestQ T D n s
  if t.e ≠ 0 then ([], t)
  else if t.inn = false ∧ isQ T [108, 101, 116] t = true then letT T nt t
  else if t.inn = false ∧ isQ T [105, 102] t = true then ifT T nt t
  else if t.inn = false ∧ isQ T [97, 115, 115, 101, 114, 116] t = true then assertT T nt t
  else formulaT T D n nt t

variable {nx : Nx} (h : NxM T nx nt)
include h
theorem args_m (s : St) : argsQ T nx s = im T (argsT T nt s) := by
  unfold argsQ argsT; rw [h.expr, parts_m T h.expr]; rfl
omit h in
theorem nameB_m (a : RT) : nameB T (im T a) = im T (nameBT T a) := by
  unfold nameB nameBT; rw [im_ite]; simp only [im_snd, leaf_m, kind_m, im_fst]; simp only [im, dmps_append]
omit h in
theorem nameC_m (a : RT) : nameC T (im T a) = im T (nameCT T a) := by
  unfold nameC nameCT; simp only [im_snd, must_m, im_fst]; simp only [im, dmps_append]
theorem nameD_m (a : RT) : nameD T nx (im T a) = im T (nameDT T nt a) := by
  unfold nameD nameDT; rw [im_ite]; simp only [im_snd, args_m T nt h, im_fst]; simp only [im, dmps_append]
omit h in
theorem nameE_m (a : RT) : nameE T (im T a) = im T (nameET T a) := by
  unfold nameE nameET; simp only [im_snd, must_m, im_fst]; simp only [im, dmps_append, dmps_node]; simp [digT]
theorem name_m (s : St) : nameQ T nx s = im T (nameT T nt s) := by
  have e : (leafT T s).2 = (leafQ T s).2 := rfl
  unfold nameQ nameT
  by_cases hc : (leafQ T s).2.inn = true ∨ (isQ T [46] (leafQ T s).2 = false ∧ isQ T [40] (leafQ T s).2 = false)
  · have hc2 := hc
    rw [← e] at hc2
    rw [if_pos hc, if_pos hc2, leaf_m]; simp only [im, dmps_node]; rfl
  · have hc2 := hc
    rw [← e] at hc2
    rw [if_neg hc, if_neg hc2, leaf_m, nameB_m, nameC_m, nameD_m T nt h, nameE_m]
theorem atom_m (s : St) : atomQ T nx s = im T (atomT T nt s) := by
  unfold atomQ atomT
  simp only [im_ite, leaf_m, im_snd, im_fst, h.expr, must_m, name_m T nt h]
  simp only [im, dmps_node, dmps_append, dmps_nil]; simp [digT]
omit h in
theorem sign_m {sub : St → RQ} {subT : St → RT} (hs : ∀ s, sub s = im T (subT s)) (s : St) : signQ T D n sub s = im T (signT T D n subT s) := by
  unfold signQ signT
  simp only [im_ite, leaf_m, im_snd, im_fst, hs]
  simp only [im, dmps_node, dmps_append, dmps_nil]; simp [digT]
theorem factor_m (s : St) : factorQ T D n nx s = im T (factorT T D n nt s) := by
  unfold factorQ factorT; rw [im_ite, sign_m T D n h.factor, atom_m T nt h]
theorem product_m (s : St) : productQ T D n nx s = im T (productT T D n nt s) := by
  unfold productQ productT; rw [factor_m T D n nt h, row_m T (factor_m T D n nt h)]; rfl
theorem sum_m (s : St) : sumQ T D n nx s = im T (sumT T D n nt s) := by
  unfold sumQ sumT; rw [product_m T D n nt h, row_m T (product_m T D n nt h)]; rfl
theorem not_m (s : St) : notQ T D n nx s = im T (notT T D n nt s) := by
  unfold notQ notT
  simp only [im_ite, sign_m T D n h.nots, sum_m T D n nt h, leaf_m, im_snd, im_fst]
  simp only [im, dmps_node, dmps_append, dmps_nil]; simp [digT]
theorem and_m (s : St) : andQ T D n nx s = im T (andT T D n nt s) := by
  unfold andQ andT; rw [not_m T D n nt h, row_m T (not_m T D n nt h)]; rfl
theorem or_m (s : St) : orQ T D n nx s = im T (orT T D n nt s) := by
  unfold orQ orT; rw [and_m T D n nt h, row_m T (and_m T D n nt h)]; rfl
theorem formula_m (s : St) : formulaQ T D n nx s = im T (formulaT T D n nt s) := by
  unfold formulaQ formulaT
  simp only [im_ite, or_m T D n nt h, leaf_m, im_snd, im_fst, h.formula]
  simp only [im, dmps_node, dmps_append, dmps_nil]; simp [digT]
theorem let_m (s : St) : letQ T nx s = im T (letT T nt s) := by
  unfold letQ letT
  simp only [leaf_m, im_snd, im_fst, h.expr, must_m, kind_m]
  simp only [im, dmps_node, dmps_append, dmps_nil]; simp [digT]
theorem if_m (s : St) : ifQ T nx s = im T (ifT T nt s) := by
  unfold ifQ ifT
  simp only [leaf_m, im_snd, im_fst, h.expr, must_m, kind_m]
  simp only [im, dmps_node, dmps_append, dmps_nil]; simp [digT]
theorem assert_m (s : St) : assertQ T nx s = im T (assertT T nt s) := by
  unfold assertQ assertT
  simp only [leaf_m, im_snd, im_fst, h.expr, must_m, kind_m]
  simp only [im, dmps_node, dmps_append, dmps_nil]; simp [digT]
theorem expr_m (s : St) : exprQ T D n nx s = im T (exprT T D n nt s) := by
  unfold exprQ exprT
  simp only [im_ite, let_m T nt h, if_m T nt h, assert_m T nt h, formula_m T D n nt h]
  simp only [im, dmps_nil]
end

def nxT (T : List Tok) (D : Nat) : Nat → NxT
  | 0 => { expr := fun s => ([], nestQ T D (D + 1) s), formula := fun s => ([], s), nots := fun s => ([], s), factor := fun s => ([], s) }
  | d + 1 => { expr := exprT T D (D - d) (nxT T D d), formula := formulaT T D (D - d) (nxT T D d), nots := notT T D (D - d) (nxT T D d), factor := factorT T D (D - d) (nxT T D d) }
theorem nx_m (T : List Tok) (D : Nat) : ∀ d, NxM T (nxQ T D d) (nxT T D d)
  | 0 => ⟨fun s => by simp [nxQ, nxT, im, dmps], fun s => by simp [nxQ, nxT, im, dmps], fun s => by simp [nxQ, nxT, im, dmps], fun s => by simp [nxQ, nxT, im, dmps]⟩
  | d + 1 => ⟨expr_m T D _ _ (nx_m T D d), formula_m T D _ _ (nx_m T D d), not_m T D _ _ (nx_m T D d), factor_m T D _ _ (nx_m T D d)⟩
end Go.Proofs.YtccokidhngdjnaaGreatDoor
namespace Go.Proofs.YtccokidhngdjnaaGreatDoor

section
variable (T : List Tok) (et : St → RT)
def typBT (a : RT) : RT :=
  if isQ T [105, 110, 116] a.2 = true ∨ isQ T [98, 111, 111, 108] a.2 = true then (a.1 ++ [.nd 5 (leafT T a.2).1], (leafT T a.2).2)
  else (a.1, failQ T 22 a.2)
def typCT (b : RT) : RT :=
  if isQ T [123] b.2 = true then
    let f := et (setIn true (leafT T b.2).2)
    let m := mustT T [125] (setIn false f.2)
    (b.1 ++ [.nd 6 ((leafT T b.2).1 ++ f.1 ++ m.1)], m.2)
  else b
def typedT (s : St) : RT := typCT T et (typBT T (mustT T [58] s))
def parT (s : St) : RT :=
  let k := kindT T 1 s
  let t := typedT T et k.2
  ([.nd 4 (k.1 ++ t.1)], t.2)
def paramsT (s : St) : RT := partsT T (parT T et) (fuelQ T (parT T et s).2) 1 (parT T et s)
def defAT (s : St) : RT := if isQ T [112, 117, 98] s = true then leafT T s else ([], s)
def defBT (p : RT) : RT :=
  let u := mustT T [102, 117, 110] p.2
  let k := kindT T 1 u.2
  let o := mustT T [40] k.2
  (p.1 ++ (u.1 ++ k.1 ++ o.1), o.2)
def defCT (o : RT) : RT := if o.2.e = 0 ∧ isQ T [41] o.2 = false then (o.1 ++ (paramsT T et o.2).1, (paramsT T et o.2).2) else o
def defDT (r : RT) : RT :=
  let c := mustT T [41] r.2
  let t := typedT T et c.2
  let q := mustT T [61] t.2
  let x := et q.2
  let m := mustT T [59] x.2
  (r.1 ++ (c.1 ++ t.1 ++ q.1) ++ x.1 ++ m.1, m.2)
def defT (s : St) : RT := ([.nd 3 (defDT T et (defCT T et (defBT T (defAT T s)))).1], (defDT T et (defCT T et (defBT T (defAT T s)))).2)
def impStepT (r : RT) : RT :=
  let l := leafT T r.2
  let k := kindT T 1 l.2
  let m := mustT T [59] k.2
  (r.1 ++ [.nd 2 (l.1 ++ k.1 ++ m.1)], m.2)
def manyT (c : St → Bool) (step : RT → RT) (most : Nat) : Nat → Nat → RT → Bool × RT
  | 0, _, r => (true, r)
  | f + 1, k, r => if c r.2 = true then (if k = most then (false, ([], failQ T 15 r.2)) else manyT c step most f (k + 1) (step r)) else (true, r)
def importsT (r : RT) : Bool × RT := manyT T (isQ T [105, 109, 112, 111, 114, 116]) (impStepT T) 16 (fuelQ T r.2) 0 r
def defStepT (r : RT) : RT := (r.1 ++ (defT T et r.2).1, (defT T et r.2).2)
def defsT (r : RT) : Bool × RT := manyT T (isDef T) (defStepT T et) 64 (fuelQ T r.2) 0 r
/-- A program's parts; none where it is refused. -/
def programT (s : St) : RT :=
  if (importsT T ([], s)).1 = false then (importsT T ([], s)).2
  else if (defsT T et (importsT T ([], s)).2).1 = false then (defsT T et (importsT T ([], s)).2).2
  else ((defsT T et (importsT T ([], s)).2).2.1 ++ (kindT T 5 (defsT T et (importsT T ([], s)).2).2.2).1, (kindT T 5 (defsT T et (importsT T ([], s)).2).2.2).2)
def aloneT (s : St) : RT :=
  let x := et (setIn true s)
  let k := kindT T 5 x.2
  (x.1 ++ k.1, k.2)

variable {ex : St → RQ} (h : ∀ s, ex s = im T (et s))
include h
omit h in
theorem typB_m (a : RT) : typB T (im T a) = im T (typBT T a) := by
  unfold typB typBT; rw [im_ite]; simp only [im_snd, leaf_m, im_fst]; simp only [im, dmps_append, dmps_node]; rfl
theorem typC_m (a : RT) : typC T ex (im T a) = im T (typCT T et a) := by
  unfold typC typCT; simp only [im_ite, im_snd, leaf_m, im_fst, h, must_m]; simp only [im, dmps_append, dmps_node]; simp [digT]
theorem typed_m (s : St) : typedQ T ex s = im T (typedT T et s) := by
  unfold typedQ typedT; rw [must_m, typB_m, typC_m T et h]
theorem par_m (s : St) : parQ T ex s = im T (parT T et s) := by
  unfold parQ parT; simp only [kind_m, im_snd, typed_m T et h, im_fst]; simp only [im, dmps_append, dmps_node]; simp [digT]
theorem params_m (s : St) : paramsQ T ex s = im T (paramsT T et s) := by
  unfold paramsQ paramsT; rw [par_m T et h, parts_m T (par_m T et h)]; rfl

/-- What stands ahead of the rest: a definition's number. -/
def ahead (a : List UInt8) (r : RQ) : RQ := (a ++ r.1, r.2)
omit h in
theorem defA_m (s : St) : defA T s = ahead [32, 40, 51] (im T (defAT T s)) := by
  unfold defA defAT; rw [im_ite, leaf_m]; split <;> simp [ahead, im, dmps]
omit h in
theorem defB_m (a : RT) : defB T (ahead [32, 40, 51] (im T a)) = ahead [32, 40, 51] (im T (defBT T a)) := by
  unfold defB defBT
  show ((ahead [32, 40, 51] (im T a)).1 ++ _, _) = _
  simp only [ahead, im_snd, must_m, kind_m, im_fst]
  simp only [im, dmps_append]; simp
theorem defC_m (a : RT) : defC T ex (ahead [32, 40, 51] (im T a)) = ahead [32, 40, 51] (im T (defCT T et a)) := by
  unfold defC defCT
  rw [im_ite]
  simp only [ahead, im_snd, params_m T et h, im_fst]
  split <;> simp [im, dmps_append]
theorem defD_m (a : RT) : defD T ex (ahead [32, 40, 51] (im T a)) = (([32, 40, 51] ++ (im T (defDT T et a)).1 ++ [41]), (defDT T et a).2) := by
  unfold defD defDT
  simp only [ahead, im_snd, must_m, typed_m T et h, h, im_fst]
  simp only [im, dmps_append]; simp
theorem def_m (s : St) : defQ T ex s = im T (defT T et s) := by
  unfold defQ defT
  rw [defA_m, defB_m, defC_m T et h, defD_m T et h]
  simp only [im, dmps_node]; rfl
omit h in
theorem impStep_m (r : RT) : impStep T (ahead [40, 49] (im T r)) = ahead [40, 49] (im T (impStepT T r)) := by
  unfold impStep impStepT
  simp only [ahead, im_snd, leaf_m, must_m, kind_m, im_fst]
  simp only [im, dmps_append, dmps_node]; simp [digT]
theorem defStep_m (r : RT) : defStep T ex (ahead [40, 49] (im T r)) = ahead [40, 49] (im T (defStepT T et r)) := by
  unfold defStep defStepT
  simp only [ahead, im_snd, def_m T et h, im_fst]
  simp only [im, dmps_append]; simp
/-- The same of what many answer: none, or what stands ahead and the texts. -/
def outM (T : List Tok) (b : Bool × RT) : Bool × RQ := (b.1, if b.1 = true then ahead [40, 49] (im T b.2) else im T b.2)
omit h in
theorem many_m {c : St → Bool} {step : RQ → RQ} {stepT : RT → RT} {most : Nat} (hs : ∀ r, step (ahead [40, 49] (im T r)) = ahead [40, 49] (im T (stepT r))) : ∀ f k r, manyQ T c step most f k (ahead [40, 49] (im T r)) = outM T (manyT T c stepT most f k r)
  | 0, k, r => rfl
  | f + 1, k, r => by
    unfold manyQ manyT
    have e : (ahead [40, 49] (im T r)).2 = r.2 := rfl
    rw [e]
    split
    · split
      · simp [outM, im, dmps]
      · rw [hs, many_m hs f]
    · rfl
omit h in
theorem imports_m (s : St) : importsQ T ([40, 49], s) = outM T (importsT T ([], s)) := by
  have e : (([40, 49], s) : RQ) = ahead [40, 49] (im T ([], s)) := by simp [ahead, im, dmps]
  unfold importsQ importsT
  rw [e, many_m T (impStep_m T)]; rfl
theorem defs_m (r : RT) : defsQ T ex (ahead [40, 49] (im T r)) = outM T (defsT T et r) := by
  unfold defsQ defsT
  rw [many_m T (defStep_m T et h)]; rfl
omit h in
theorem many_bad {c : St → Bool} {stepT : RT → RT} {most : Nat} : ∀ f k r, (manyT T c stepT most f k r).1 = false → (manyT T c stepT most f k r).2.2.e ≠ 0
  | 0, k, r, hh => by cases hh
  | f + 1, k, r, hh => by
    unfold manyT at hh ⊢
    split at hh
    · rename_i hc
      rw [if_pos hc]
      split at hh
      · rename_i hk
        rw [if_pos hk]
        exact fail_e T (by decide) _
      · rename_i hk
        rw [if_neg hk]
        exact many_bad f _ _ hh
    · cases hh
/-- Where no fault was, a program's answer is its tree's text. -/
theorem program_m (s : St) : (programQ T ex s).2 = (programT T et s).2 ∧ ((programT T et s).2.e = 0 → (programQ T ex s).1 = dmp T (.nd 1 (programT T et s).1)) := by
  have hb1 := many_bad T (c := isQ T [105, 109, 112, 111, 114, 116]) (stepT := impStepT T) (most := 16) (fuelQ T s) 0 ([], s)
  have hb1' : (importsT T ([], s)).1 = false → (importsT T ([], s)).2.2.e ≠ 0 := hb1
  have hI := imports_m T s
  unfold programQ programT
  rw [hI]
  generalize importsT T ([], s) = I at *
  obtain ⟨i1, r⟩ := I
  cases i1
  · refine ⟨rfl, fun he => absurd he (hb1' rfl)⟩
  · have hb2 := many_bad T (c := isDef T) (stepT := defStepT T et) (most := 64) (fuelQ T r.2) 0 r
    have hb2' : (defsT T et r).1 = false → (defsT T et r).2.2.e ≠ 0 := hb2
    have hD := defs_m T et h r
    have e : (outM T (true, r)).2 = ahead [40, 49] (im T r) := rfl
    have e1 : (outM T (true, r)).1 = true := rfl
    rw [e, hD, e1]
    show (if true = false then _ else _ : RQ).2 = (if true = false then _ else _ : RT).2 ∧ _
    generalize defsT T et r = J at *
    obtain ⟨j1, z⟩ := J
    cases j1
    · refine ⟨by simp [outM, im], fun he => absurd he (by simpa using hb2' rfl)⟩
    · have e2 : (outM T (true, z)).2 = ahead [40, 49] (im T z) := rfl
      have e3 : (outM T (true, z)).1 = true := rfl
      rw [e2, e3]
      simp only [endQ, ahead, im_snd, kind_m, im_fst]
      refine ⟨by simp, fun _ => ?_⟩
      simp only [dmp]; simp [digT, dmps_append]
theorem alone_m (s : St) : (aloneQ T ex s).2 = (aloneT T et s).2 ∧ (aloneQ T ex s).1 = dmp T (.nd 18 (aloneT T et s).1) := by
  unfold aloneQ aloneT
  simp only [h, im_snd, kind_m, im_fst]
  refine ⟨trivial, ?_⟩
  simp only [dmp, dmps_append]; simp [digT]
end
end Go.Proofs.YtccokidhngdjnaaGreatDoor
namespace Go.Proofs.YtccokidhngdjnaaGreatDoor

mutual
def lvT : Tr → List Nat
  | .lf i => [i]
  | .nd _ l => lvTs l
def lvTs : List Tr → List Nat
  | [] => []
  | t :: l => lvT t ++ lvTs l
end
theorem lvTs_append (a b : List Tr) : lvTs (a ++ b) = lvTs a ++ lvTs b := by
  induction a with
  | nil => simp [lvTs]
  | cons t a ih => simp [lvTs, ih]
theorem lvTs_node (k : Nat) (l : List Tr) : lvTs [.nd k l] = lvTs l := by simp [lvTs, lvT]

/-- From a to z: what has come is what lies between. -/
def Run (s : St) (r : RT) : Prop := r.2.e = 0 → s.e = 0 ∧ s.i ≤ r.2.i ∧ lvTs r.1 = List.range' s.i (r.2.i - s.i)
theorem Run.nil (s : St) : Run s ([], s) := fun h => ⟨h, Nat.le_refl _, by simp [lvTs]⟩
theorem Run.bad {s t : St} {l : List Tr} (h : t.e ≠ 0) : Run s (l, t) := fun e => absurd e h
theorem Run.app {s : St} {a b : RT} (h1 : Run s a) (h2 : Run a.2 b) : Run s (a.1 ++ b.1, b.2) := fun e => by
  obtain ⟨e2, l2, r2⟩ := h2 e
  obtain ⟨e1, l1, r1⟩ := h1 e2
  refine ⟨e1, Nat.le_trans l1 l2, ?_⟩
  show lvTs (a.1 ++ b.1) = _
  rw [lvTs_append, r1, r2]
  have h3 : a.2.i = s.i + 1 * (a.2.i - s.i) := by omega
  have h4 : b.2.i - s.i = (a.2.i - s.i) + (b.2.i - a.2.i) := by omega
  show _ = List.range' s.i (b.2.i - s.i)
  rw [h4, ← List.range'_append, ← h3]
theorem Run.node {s : St} {l : List Tr} {t : St} (k : Nat) (h : Run s (l, t)) : Run s ([.nd k l], t) := fun e => by
  obtain ⟨h1, h2, h3⟩ := h e
  exact ⟨h1, h2, by show lvTs [.nd k l] = _; rw [lvTs_node]; exact h3⟩
theorem Run.same {s t : St} {r : RT} (h : Run t r) (he : t.e = 0 → s.e = 0) (hi : t.i = s.i) : Run s r := fun e => by
  obtain ⟨h1, h2, h3⟩ := h e
  exact ⟨he h1, by omega, by rw [← hi]; exact h3⟩

section
variable (T : List Tok)
theorem leaf_run {s : St} (h : (tokQ T s).kind ≠ 5) : Run s (leafT T s) := fun e => by
  have h1 := (leaf_fits h).2
  have h2 : (leafT T s).2.i = s.i + 1 := h1
  have h3 : s.e = 0 := by
    have : (leafT T s).2.e = s.e := by show (leafQ T s).2.e = s.e; unfold leafQ; rw [if_neg h]
    omega
  refine ⟨h3, by omega, ?_⟩
  rw [h2]
  show lvTs [.lf s.i] = _
  simp [lvTs, lvT]
theorem fail_run {n : Nat} (hn : n ≠ 0) (s t : St) (l : List Tr) : Run s (l, failQ T n t) := Run.bad (fail_e T hn t)
theorem must_run (w : List UInt8) (s : St) : Run s (mustT T w s) := by
  unfold mustT
  split
  · rename_i h; exact leaf_run T (is_kind h).1
  · exact fail_run T (by decide) s s []
theorem kind_run {k : Nat} (hk : k ≠ 5) (s : St) : Run s (kindT T k s) := by
  unfold kindT
  split
  · rename_i h; exact leaf_run T (by rw [h.2]; exact hk)
  · exact fail_run T (by decide) s s []
theorem nest_run {D n : Nat} {s : St} {r : RT} (h : Run (nestQ T D n s) r) : Run s r :=
  h.same (fun e => by
    unfold nestQ at e
    split at e
    · exact absurd e (fail_e T (by decide) s)
    · exact e) (nest_i T D n s)
theorem row_run {c : St → Bool} {sub : St → RT} (hc : ∀ s, c s = true → (tokQ T s).kind ≠ 5) (hs : ∀ s, Run s (sub s)) {s : St} : ∀ f r, Run s r → Run s (rwT T c sub f r)
  | 0, r, h => h
  | f + 1, r, h => by
    unfold rwT
    split
    · rename_i hcc
      refine row_run hc hs f _ (Run.node 10 ?_)
      exact (h.app (leaf_run T (hc _ hcc))).app (hs _)
    · exact h
theorem parts_run {sub : St → RT} (hs : ∀ s, Run s (sub s)) {s : St} : ∀ f k r, Run s r → Run s (partsT T sub f k r)
  | 0, k, r, h => h
  | f + 1, k, r, h => by
    unfold partsT
    split
    · rename_i hcc
      refine parts_run hs f _ _ ?_
      refine (h.app (leaf_run T (is_kind hcc).1)).app ?_
      refine (hs _).same ?_ ?_
      · intro e
        split at e
        · exact absurd e (fail_e T (by decide) _)
        · exact e
      · split
        · exact fail_i _ _ _
        · rfl
    · exact h

structure NxR (nt : NxT) : Prop where
  expr : ∀ s, Run s (nt.expr s)
  formula : ∀ s, Run s (nt.formula s)
  nots : ∀ s, Run s (nt.nots s)
  factor : ∀ s, Run s (nt.factor s)
end

section
variable (T : List Tok) (D n : Nat) {nt : NxT} (h : NxR nt)
include h
theorem args_run (s : St) : Run s (argsT T nt s) := parts_run T h.expr _ _ _ (h.expr s)
omit h in
theorem nameB_run {s : St} {a : RT} (ha : Run s a) : Run s (nameBT T a) := by
  unfold nameBT
  split
  · rename_i hc; exact (ha.app (leaf_run T (is_kind hc).1)).app (kind_run T (by decide) _)
  · exact ha
omit h in
theorem nameC_run {s : St} {a : RT} (ha : Run s a) : Run s (nameCT T a) := ha.app (must_run T _ _)
theorem nameD_run {s : St} {a : RT} (ha : Run s a) : Run s (nameDT T nt a) := by
  unfold nameDT
  split
  · exact ha
  · exact ha.app (args_run T h _)
omit h in
theorem nameE_run {s : St} {a : RT} (ha : Run s a) : Run s (nameET T a) := Run.node 13 (ha.app (must_run T _ _))
theorem name_run {s : St} (hk : (tokQ T s).kind ≠ 5) : Run s (nameT T nt s) := by
  unfold nameT
  split
  · exact Run.node 14 (leaf_run T hk)
  · exact nameE_run T (nameD_run T h (nameC_run T (nameB_run T (leaf_run T hk))))
theorem atom_run (s : St) : Run s (atomT T nt s) := by
  unfold atomT
  split
  · rename_i he; exact Run.bad he
  split
  · rename_i hk; exact Run.node 15 (leaf_run T (by rw [hk]; decide))
  split
  · rename_i hk; exact Run.node 16 (leaf_run T (by rcases hk with hk | hk <;> exact (is_kind hk).1))
  split
  · rename_i hk; exact Run.node 17 (leaf_run T (is_kind hk.2).1)
  split
  · rename_i hk; exact Run.node 12 (((leaf_run T (is_kind hk).1).app (h.expr _)).app (must_run T _ _))
  split
  · rename_i hk; exact name_run T h (by rw [hk]; decide)
  · exact fail_run T (by decide) s s []
omit h in
theorem sign_run {sub : St → RT} (hs : ∀ s, Run s (sub s)) {s : St} (hk : (tokQ T s).kind ≠ 5) : Run s (signT T D n sub s) := by
  unfold signT
  simp only []
  split
  · rename_i he; exact Run.bad he
  · exact Run.node 11 ((leaf_run T hk).app (nest_run T (hs _)))
theorem factor_run (s : St) : Run s (factorT T D n nt s) := by
  unfold factorT
  split
  · rename_i hk; exact sign_run T D n h.factor (is_kind hk).1
  · exact atom_run T h s
theorem product_run (s : St) : Run s (productT T D n nt s) := row_run T (fun _ hc => mul_kind hc) (factor_run T D n h) _ _ (factor_run T D n h s)
theorem sum_run (s : St) : Run s (sumT T D n nt s) := row_run T (fun _ hc => add_kind hc) (product_run T D n h) _ _ (product_run T D n h s)
theorem not_run (s : St) : Run s (notT T D n nt s) := by
  unfold notT
  simp only []
  split
  · rename_i hk; exact sign_run T D n h.nots (is_kind hk).1
  split
  · rename_i hk; exact Run.node 10 (((sum_run T D n h s).app (leaf_run T (cmp_kind hk))).app (sum_run T D n h _))
  · exact sum_run T D n h s
theorem and_run (s : St) : Run s (andT T D n nt s) := row_run T (fun _ hc => (is_kind hc).1) (not_run T D n h) _ _ (not_run T D n h s)
theorem or_run (s : St) : Run s (orT T D n nt s) := row_run T (fun _ hc => (is_kind hc).1) (and_run T D n h) _ _ (and_run T D n h s)
theorem formula_run (s : St) : Run s (formulaT T D n nt s) := by
  unfold formulaT
  simp only []
  split
  · rename_i hk
    split
    · rename_i he; exact Run.bad he
    · exact Run.node 10 (((or_run T D n h s).app (leaf_run T (is_kind hk).1)).app (nest_run T (h.formula _)))
  · exact or_run T D n h s
theorem let_run {s : St} (hk : (tokQ T s).kind ≠ 5) : Run s (letT T nt s) :=
  Run.node 7 ((((((leaf_run T hk).app (kind_run T (by decide) _)).app (must_run T _ _)).app (h.expr _)).app (must_run T _ _)).app (h.expr _))
theorem if_run {s : St} (hk : (tokQ T s).kind ≠ 5) : Run s (ifT T nt s) :=
  Run.node 8 ((((((leaf_run T hk).app (h.expr _)).app (must_run T _ _)).app (h.expr _)).app (must_run T _ _)).app (h.expr _))
theorem assert_run {s : St} (hk : (tokQ T s).kind ≠ 5) : Run s (assertT T nt s) :=
  Run.node 9 ((((leaf_run T hk).app (h.expr _)).app (must_run T _ _)).app (h.expr _))
theorem expr_run (s : St) : Run s (exprT T D n nt s) := by
  unfold exprT
  simp only []
  split
  · rename_i he; exact Run.bad he
  split
  · rename_i hk; exact nest_run T (let_run T h (is_kind hk.2).1)
  split
  · rename_i hk; exact nest_run T (if_run T h (is_kind hk.2).1)
  split
  · rename_i hk; exact nest_run T (assert_run T h (is_kind hk.2).1)
  · exact nest_run T (formula_run T D n h _)
end
theorem nx_run (T : List Tok) (D : Nat) : ∀ d, NxR (nxT T D d)
  | 0 => ⟨fun s => nest_run T (Run.nil _), fun s => Run.nil s, fun s => Run.nil s, fun s => Run.nil s⟩
  | d + 1 => ⟨expr_run T D _ (nx_run T D d), formula_run T D _ (nx_run T D d), not_run T D _ (nx_run T D d), factor_run T D _ (nx_run T D d)⟩

section
variable (T : List Tok) {et : St → RT} (h : ∀ s, Run s (et s))
include h
omit h in
theorem typB_run {s : St} {a : RT} (ha : Run s a) : Run s (typBT T a) := by
  unfold typBT
  split
  · rename_i hk; exact ha.app (Run.node 5 (leaf_run T (by rcases hk with hk | hk <;> exact (is_kind hk).1)))
  · exact fail_run T (by decide) s _ _
theorem typC_run {s : St} {a : RT} (ha : Run s a) : Run s (typCT T et a) := by
  unfold typCT
  split
  · rename_i hk
    refine ha.app (Run.node 6 (((leaf_run T (is_kind hk).1).app ?_).app ?_))
    · exact (h _).same (fun e => e) rfl
    · exact (must_run T _ _).same (fun e => e) rfl
  · exact ha
theorem typed_run (s : St) : Run s (typedT T et s) := typC_run T h (typB_run T (must_run T _ s))
theorem par_run (s : St) : Run s (parT T et s) := Run.node 4 ((kind_run T (by decide) s).app (typed_run T h _))
theorem params_run (s : St) : Run s (paramsT T et s) := parts_run T (par_run T h) _ _ _ (par_run T h s)
omit h in
theorem defA_run (s : St) : Run s (defAT T s) := by
  unfold defAT
  split
  · rename_i hk; exact leaf_run T (is_kind hk).1
  · exact Run.nil s
omit h in
theorem defB_run {s : St} {a : RT} (ha : Run s a) : Run s (defBT T a) := ha.app (((must_run T _ _).app (kind_run T (by decide) _)).app (must_run T _ _))
theorem defC_run {s : St} {a : RT} (ha : Run s a) : Run s (defCT T et a) := by
  unfold defCT
  split
  · exact ha.app (params_run T h _)
  · exact ha
theorem defD_run {s : St} {a : RT} (ha : Run s a) : Run s (defDT T et a) :=
  ((ha.app (((must_run T _ _).app (typed_run T h _)).app (must_run T _ _))).app (h _)).app (must_run T _ _)
theorem def_run (s : St) : Run s (defT T et s) := Run.node 3 (defD_run T h (defC_run T h (defB_run T (defA_run T s))))
omit h in
theorem impStep_run {s : St} {r : RT} (hr : Run s r) (hc : isQ T [105, 109, 112, 111, 114, 116] r.2 = true) : Run s (impStepT T r) :=
  hr.app (Run.node 2 (((leaf_run T (is_kind hc).1).app (kind_run T (by decide) _)).app (must_run T _ _)))
omit h in
theorem many_run {c : St → Bool} {step : RT → RT} {most : Nat} {s : St} (hs : ∀ r, c r.2 = true → Run s r → Run s (step r)) : ∀ f k r, Run s r → Run s (manyT T c step most f k r).2
  | 0, k, r, hr => hr
  | f + 1, k, r, hr => by
    unfold manyT
    split
    · rename_i hc
      split
      · exact fail_run T (by decide) s _ _
      · exact many_run hs f _ _ (hs r hc hr)
    · exact hr
omit h in
/-- The end comes: it is the last token. -/
theorem end_run {s : St} {r : RT} (hr : Run s r) (he : (kindT T 5 r.2).2.e = 0) : s.e = 0 ∧ (tokQ T r.2).kind = 5 ∧ s.i ≤ r.2.i ∧ lvTs (r.1 ++ (kindT T 5 r.2).1) = List.range' s.i (r.2.i + 1 - s.i) := by
  unfold kindT at he ⊢
  split at he
  · rename_i hk
    obtain ⟨h1, h2, h3⟩ := hr hk.1
    rw [if_pos hk]
    refine ⟨h1, hk.2, h2, ?_⟩
    rw [lvTs_append, h3]
    have h4 : r.2.i + 1 - s.i = (r.2.i - s.i) + 1 := by omega
    have h5 : r.2.i = s.i + 1 * (r.2.i - s.i) := by omega
    rw [h4, ← List.range'_append, ← h5]
    simp [leafT, lvTs, lvT]
  · exact absurd he (fail_e T (by decide) _)
omit h in
theorem end_place (hE : EndT T) {s : St} (hok : (kindT T 5 s).2.i < T.length) (hk : (tokQ T s).kind = 5) : s.i + 1 = T.length := by
  have e : (kindT T 5 s).2.i = s.i := by
    unfold kindT
    split
    · show (leafQ T s).2.i = s.i
      unfold leafQ; rw [if_pos hk]
    · exact fail_i T 22 s
  rw [e] at hok
  have ht : T[s.i]? = some (tokQ T s) := by unfold tokQ; rw [List.getElem?_eq_getElem hok]; rfl
  exact (hE _ _ ht).1 hk
/-- A program's leaves are all the tokens. -/
theorem program_run (hE : EndT T) {s : St} (hs : s.i = 0) (hok : (programT T et s).2.i < T.length) (he : (programT T et s).2.e = 0) : lvTs (programT T et s).1 = List.range T.length := by
  have hb1' : (importsT T ([], s)).1 = false → (importsT T ([], s)).2.2.e ≠ 0 := many_bad T _ _ _
  have hI : Run s (importsT T ([], s)).2 := many_run T (fun r hc hr => impStep_run T hr hc) _ _ _ (Run.nil s)
  have hb2' : (defsT T et (importsT T ([], s)).2).1 = false → (defsT T et (importsT T ([], s)).2).2.2.e ≠ 0 := many_bad T _ _ _
  have hD : Run s (defsT T et (importsT T ([], s)).2).2 := many_run T (fun r hc hr => hr.app (def_run T h _)) _ _ _ hI
  unfold programT at he hok ⊢
  split at he
  · rename_i hc; exact absurd he (hb1' hc)
  · rename_i hc1
    split at he
    · rename_i hc; exact absurd he (hb2' hc)
    · rename_i hc2
      rw [if_neg hc1, if_neg hc2]
      obtain ⟨-, hk, -, hl⟩ := end_run T hD he
      show lvTs (_ ++ _) = _
      rw [hl, hs]
      rw [if_neg hc1, if_neg hc2] at hok
      have hi := end_place T (s := (defsT T et (importsT T ([], s)).2).2.2) hE hok hk
      rw [hi, Nat.sub_zero, List.range_eq_range']
/-- So are a formula's. -/
theorem alone_run (hE : EndT T) {s : St} (hs : s.i = 0) (hok : (aloneT T et s).2.i < T.length) (he : (aloneT T et s).2.e = 0) : lvTs (aloneT T et s).1 = List.range T.length := by
  have hX : Run s (et (setIn true s)) := (h _).same (fun e => e) rfl
  unfold aloneT at he hok ⊢
  simp only [] at he hok ⊢
  obtain ⟨-, hk, -, hl⟩ := end_run T hX he
  rw [hl, hs, end_place T hE hok hk, Nat.sub_zero, List.range_eq_range']
end
end Go.Proofs.YtccokidhngdjnaaGreatDoor
namespace Go.Proofs.YtccokidhngdjnaaGreatDoor

structure Good (T : List Tok) (s : St) (r : RT) : Prop where
  stay : s.e ≠ 0 → r.2.e = s.e ∧ r.2.pos = s.pos ∧ r.2.i = s.i
  mono : s.i ≤ r.2.i
  place : s.e = 0 → r.2.e ≠ 0 → r.2.pos = (tokQ T r.2).pos
  inr : EndT T → s.i < T.length → r.2.i < T.length
theorem Good.nil (T : List Tok) (s : St) : Good T s ([], s) := ⟨fun _ => ⟨rfl, rfl, rfl⟩, Nat.le_refl _, fun h e => absurd h e, fun _ h => h⟩
theorem Good.self (T : List Tok) (r : RT) : Good T r.2 r := ⟨fun _ => ⟨rfl, rfl, rfl⟩, Nat.le_refl _, fun h e => absurd h e, fun _ h => h⟩
theorem Good.app {T : List Tok} {s : St} {a b : RT} (h1 : Good T s a) (h2 : Good T a.2 b) : Good T s (a.1 ++ b.1, b.2) := by
  refine ⟨fun e => ?_, Nat.le_trans h1.mono h2.mono, fun e eb => ?_, fun hE h => h2.inr hE (h1.inr hE h)⟩
  · obtain ⟨a1, a2, a3⟩ := h1.stay e
    obtain ⟨b1, b2, b3⟩ := h2.stay (by rw [a1]; exact e)
    exact ⟨b1.trans a1, b2.trans a2, b3.trans a3⟩
  · by_cases ea : a.2.e = 0
    · exact h2.place ea eb
    · obtain ⟨b1, b2, b3⟩ := h2.stay ea
      have := h1.place e ea
      show b.2.pos = (tokQ T b.2).pos
      have e2 : tokQ T b.2 = tokQ T a.2 := by unfold tokQ; rw [b3]
      rw [b2, e2]; exact this
theorem Good.state {T : List Tok} {s : St} {a b : RT} (h1 : Good T s a) (h2 : Good T a.2 b) {l : List Tr} : Good T s (l, b.2) :=
  ⟨(h1.app h2).stay, (h1.app h2).mono, (h1.app h2).place, (h1.app h2).inr⟩
theorem Good.node {T : List Tok} {s : St} {l : List Tr} {t : St} (k : Nat) (h : Good T s (l, t)) : Good T s ([.nd k l], t) := ⟨h.stay, h.mono, h.place, h.inr⟩
theorem Good.inn {T : List Tok} {s : St} {v : Bool} {r : RT} (h : Good T (setIn v s) r) : Good T s r := ⟨h.stay, h.mono, h.place, h.inr⟩
theorem mul_e {T : List Tok} {s : St} (h : isMul T s = true) : s.e = 0 := by
  unfold isMul at h; simp only [Bool.or_eq_true] at h; rcases h with (h | h) | h <;> exact (is_kind h).2
theorem add_e {T : List Tok} {s : St} (h : isAdd T s = true) : s.e = 0 := by
  unfold isAdd at h; simp only [Bool.or_eq_true] at h; rcases h with h | h <;> exact (is_kind h).2
theorem cmp_e {T : List Tok} {s : St} (h : isCmp T s = true) : s.e = 0 := by
  unfold isCmp at h; simp only [Bool.or_eq_true] at h; rcases h with ((((h | h) | h) | h) | h) | h <;> exact (is_kind h).2

section
variable (T : List Tok)
theorem leaf_good {s : St} (h : s.e = 0) : Good T s (leafT T s) := by
  have h1 : (leafT T s).2.e = 0 := by show (leafQ T s).2.e = 0; unfold leafQ; split <;> exact h
  refine ⟨fun e => absurd h e, ?_, fun _ e => absurd h1 e, fun hE hl => ?_⟩
  rotate_left
  · show (leafQ T s).2.i < T.length
    have ht : T[s.i]? = some (tokQ T s) := by unfold tokQ; rw [List.getElem?_eq_getElem hl]; rfl
    have := hE _ _ ht
    unfold leafQ; split
    · exact hl
    · show s.i + 1 < T.length; omega
  show s.i ≤ (leafQ T s).2.i
  unfold leafQ; split
  · exact Nat.le_refl _
  · exact Nat.le_succ _
theorem fail_good (n : Nat) (s : St) (l : List Tr) : Good T s (l, failQ T n s) := by
  refine ⟨fun e => ?_, ?_, fun e _ => ?_, fun _ hl => by show (failQ T n s).i < _; rw [fail_i]; exact hl⟩
  · have h : failQ T n s = s := by unfold failQ; rw [if_neg e]
    show (failQ T n s).e = s.e ∧ (failQ T n s).pos = s.pos ∧ (failQ T n s).i = s.i
    rw [h]; exact ⟨rfl, rfl, rfl⟩
  · show s.i ≤ (failQ T n s).i; rw [fail_i]; exact Nat.le_refl _
  · show (failQ T n s).pos = (tokQ T (failQ T n s)).pos; unfold failQ; rw [if_pos e]; rfl
theorem must_good (w : List UInt8) (s : St) : Good T s (mustT T w s) := by
  unfold mustT
  split
  · rename_i h; exact leaf_good T (is_kind h).2
  · exact fail_good T 22 s []
theorem kind_good (k : Nat) (s : St) : Good T s (kindT T k s) := by
  unfold kindT
  split
  · rename_i h; exact leaf_good T h.1
  · exact fail_good T 22 s []
theorem nest_good {D n : Nat} {s : St} {r : RT} (h : Good T (nestQ T D n s) r) : Good T s r := by
  have h0 : Good T s (([] : List Tr), nestQ T D n s) := by
    unfold nestQ; split
    · exact fail_good T 23 s []
    · exact Good.nil T s
  exact h0.app h
theorem row_good {c : St → Bool} {sub : St → RT} (hc : ∀ s, c s = true → s.e = 0) (hs : ∀ s, Good T s (sub s)) {s : St} : ∀ f r, Good T s r → Good T s (rwT T c sub f r)
  | 0, r, h => h
  | f + 1, r, h => by
    unfold rwT
    split
    · rename_i hcc
      refine row_good hc hs f _ (Good.node 10 ?_)
      exact (h.app (leaf_good T (hc _ hcc))).app (hs _)
    · exact h
theorem parts_good {sub : St → RT} (hs : ∀ s, Good T s (sub s)) {s : St} : ∀ f k r, Good T s r → Good T s (partsT T sub f k r)
  | 0, k, r, h => h
  | f + 1, k, r, h => by
    unfold partsT
    split
    · rename_i hcc
      refine parts_good hs f _ _ ?_
      refine (h.app (leaf_good T (is_kind hcc).2)).app ?_
      split
      · exact (fail_good T 15 _ []).app (hs _)
      · exact hs _
    · exact h

structure NxG (T : List Tok) (nt : NxT) : Prop where
  expr : ∀ s, Good T s (nt.expr s)
  formula : ∀ s, Good T s (nt.formula s)
  nots : ∀ s, Good T s (nt.nots s)
  factor : ∀ s, Good T s (nt.factor s)
end

section
variable (T : List Tok) (D n : Nat) {nt : NxT} (h : NxG T nt)
include h
theorem args_good (s : St) : Good T s (argsT T nt s) := parts_good T h.expr _ _ _ (h.expr s)
omit h in
theorem nameB_good {s : St} {a : RT} (ha : Good T s a) : Good T s (nameBT T a) := by
  unfold nameBT
  split
  · rename_i hc; exact (ha.app (leaf_good T (is_kind hc).2)).app (kind_good T _ _)
  · exact ha
omit h in
theorem nameC_good {s : St} {a : RT} (ha : Good T s a) : Good T s (nameCT T a) := ha.app (must_good T _ _)
theorem nameD_good {s : St} {a : RT} (ha : Good T s a) : Good T s (nameDT T nt a) := by
  unfold nameDT
  split
  · exact ha
  · exact ha.app (args_good T h _)
omit h in
theorem nameE_good {s : St} {a : RT} (ha : Good T s a) : Good T s (nameET T a) := Good.node 13 (ha.app (must_good T _ _))
theorem name_good {s : St} (hk : s.e = 0) : Good T s (nameT T nt s) := by
  unfold nameT
  split
  · exact Good.node 14 (leaf_good T hk)
  · exact nameE_good T (nameD_good T h (nameC_good T (nameB_good T (leaf_good T hk))))
theorem atom_good (s : St) : Good T s (atomT T nt s) := by
  unfold atomT
  split
  · exact Good.nil T s
  rename_i he
  have he : s.e = 0 := by omega
  split
  · exact Good.node 15 (leaf_good T he)
  split
  · exact Good.node 16 (leaf_good T he)
  split
  · exact Good.node 17 (leaf_good T he)
  split
  · exact Good.node 12 (((leaf_good T he).app (h.expr _)).app (must_good T _ _))
  split
  · exact name_good T h he
  · exact fail_good T 22 s []
omit h in
theorem sign_good {sub : St → RT} (hs : ∀ s, Good T s (sub s)) {s : St} (hk : s.e = 0) : Good T s (signT T D n sub s) := by
  unfold signT
  simp only []
  split
  · exact (leaf_good T hk).state (nest_good T (Good.nil T _))
  · exact Good.node 11 ((leaf_good T hk).app (nest_good T (hs _)))
theorem factor_good (s : St) : Good T s (factorT T D n nt s) := by
  unfold factorT
  split
  · rename_i hk; exact sign_good T D n h.factor (is_kind hk).2
  · exact atom_good T h s
theorem product_good (s : St) : Good T s (productT T D n nt s) := row_good T (fun _ hc => mul_e hc) (factor_good T D n h) _ _ (factor_good T D n h s)
theorem sum_good (s : St) : Good T s (sumT T D n nt s) := row_good T (fun _ hc => add_e hc) (product_good T D n h) _ _ (product_good T D n h s)
theorem not_good (s : St) : Good T s (notT T D n nt s) := by
  unfold notT
  simp only []
  split
  · rename_i hk; exact sign_good T D n h.nots (is_kind hk).2
  split
  · rename_i hk; exact Good.node 10 (((sum_good T D n h s).app (leaf_good T (cmp_e hk))).app (sum_good T D n h _))
  · exact sum_good T D n h s
theorem and_good (s : St) : Good T s (andT T D n nt s) := row_good T (fun _ hc => (is_kind hc).2) (not_good T D n h) _ _ (not_good T D n h s)
theorem or_good (s : St) : Good T s (orT T D n nt s) := row_good T (fun _ hc => (is_kind hc).2) (and_good T D n h) _ _ (and_good T D n h s)
theorem formula_good (s : St) : Good T s (formulaT T D n nt s) := by
  unfold formulaT
  simp only []
  split
  · rename_i hk
    split
    · exact ((or_good T D n h s).app (leaf_good T (is_kind hk).2)).state (nest_good T (Good.nil T _))
    · exact Good.node 10 (((or_good T D n h s).app (leaf_good T (is_kind hk).2)).app (nest_good T (h.formula _)))
  · exact or_good T D n h s
theorem let_good {s : St} (hk : s.e = 0) : Good T s (letT T nt s) :=
  Good.node 7 ((((((leaf_good T hk).app (kind_good T _ _)).app (must_good T _ _)).app (h.expr _)).app (must_good T _ _)).app (h.expr _))
theorem if_good {s : St} (hk : s.e = 0) : Good T s (ifT T nt s) :=
  Good.node 8 ((((((leaf_good T hk).app (h.expr _)).app (must_good T _ _)).app (h.expr _)).app (must_good T _ _)).app (h.expr _))
theorem assert_good {s : St} (hk : s.e = 0) : Good T s (assertT T nt s) :=
  Good.node 9 ((((leaf_good T hk).app (h.expr _)).app (must_good T _ _)).app (h.expr _))
theorem expr_good (s : St) : Good T s (exprT T D n nt s) := by
  unfold exprT
  simp only []
  split
  · exact nest_good T (Good.nil T _)
  split
  · rename_i hk; exact nest_good T (let_good T h (is_kind hk.2).2)
  split
  · rename_i hk; exact nest_good T (if_good T h (is_kind hk.2).2)
  split
  · rename_i hk; exact nest_good T (assert_good T h (is_kind hk.2).2)
  · exact nest_good T (formula_good T D n h _)
end
theorem nx_good (T : List Tok) (D : Nat) : ∀ d, NxG T (nxT T D d)
  | 0 => ⟨fun s => nest_good T (Good.nil T _), fun s => Good.nil T s, fun s => Good.nil T s, fun s => Good.nil T s⟩
  | d + 1 => ⟨expr_good T D _ (nx_good T D d), formula_good T D _ (nx_good T D d), not_good T D _ (nx_good T D d), factor_good T D _ (nx_good T D d)⟩

section
variable (T : List Tok) {et : St → RT} (h : ∀ s, Good T s (et s))
include h
omit h in
theorem typB_good {s : St} {a : RT} (ha : Good T s a) : Good T s (typBT T a) := by
  unfold typBT
  split
  · rename_i hk; exact ha.app (Good.node 5 (leaf_good T (by rcases hk with hk | hk <;> exact (is_kind hk).2)))
  · exact ha.state (fail_good T 22 _ [])
theorem typC_good {s : St} {a : RT} (ha : Good T s a) : Good T s (typCT T et a) := by
  unfold typCT
  split
  · rename_i hk
    refine ha.app (Good.node 6 (((leaf_good T (is_kind hk).2).app ?_).app ?_))
    · exact (h _).inn
    · exact (must_good T _ _).inn
  · exact ha
theorem typed_good (s : St) : Good T s (typedT T et s) := typC_good T h (typB_good T (must_good T _ s))
theorem par_good (s : St) : Good T s (parT T et s) := Good.node 4 ((kind_good T _ s).app (typed_good T h _))
theorem params_good (s : St) : Good T s (paramsT T et s) := parts_good T (par_good T h) _ _ _ (par_good T h s)
omit h in
theorem defA_good (s : St) : Good T s (defAT T s) := by
  unfold defAT
  split
  · rename_i hk; exact leaf_good T (is_kind hk).2
  · exact Good.nil T s
omit h in
theorem defB_good {s : St} {a : RT} (ha : Good T s a) : Good T s (defBT T a) := ha.app (((must_good T _ _).app (kind_good T _ _)).app (must_good T _ _))
theorem defC_good {s : St} {a : RT} (ha : Good T s a) : Good T s (defCT T et a) := by
  unfold defCT
  split
  · exact ha.app (params_good T h _)
  · exact ha
theorem defD_good {s : St} {a : RT} (ha : Good T s a) : Good T s (defDT T et a) :=
  ((ha.app (((must_good T _ _).app (typed_good T h _)).app (must_good T _ _))).app (h _)).app (must_good T _ _)
theorem def_good (s : St) : Good T s (defT T et s) := Good.node 3 (defD_good T h (defC_good T h (defB_good T (defA_good T s))))
omit h in
theorem impStep_good {s : St} {r : RT} (hr : Good T s r) (hc : isQ T [105, 109, 112, 111, 114, 116] r.2 = true) : Good T s (impStepT T r) :=
  hr.app (Good.node 2 (((leaf_good T (is_kind hc).2).app (kind_good T _ _)).app (must_good T _ _)))
omit h in
theorem many_good {c : St → Bool} {step : RT → RT} {most : Nat} {s : St} (hs : ∀ r, c r.2 = true → Good T s r → Good T s (step r)) : ∀ f k r, Good T s r → Good T s (manyT T c step most f k r).2
  | 0, k, r, hr => hr
  | f + 1, k, r, hr => by
    unfold manyT
    split
    · rename_i hc
      split
      · exact hr.state (fail_good T 15 _ [])
      · exact many_good hs f _ _ (hs r hc hr)
    · exact hr
end
end Go.Proofs.YtccokidhngdjnaaGreatDoor
namespace Go.Proofs.YtccokidhngdjnaaGreatDoor

mutual
/-- How many nodes a tree has. -/
def szR : Tr → Nat
  | .lf _ => 1
  | .nd _ l => szRs l + 1
def szRs : List Tr → Nat
  | [] => 0
  | t :: l => szR t + szRs l
end
/-- Where the roots of trees stand that begin at b. -/
def idxs : Nat → List Tr → List Int
  | _, [] => []
  | b, t :: l => ((b + szR t - 1 : Nat) : Int) :: idxs (b + szR t) l
mutual
/-- A tree's nodes from b on. -/
def post : Nat → Tr → List Nd
  | _, .lf i => [⟨19, (i : Int), []⟩]
  | b, .nd k l => posts b l ++ [⟨(k : Int), -1, idxs b l⟩]
def posts : Nat → List Tr → List Nd
  | _, [] => []
  | b, t :: l => post b t ++ posts (b + szR t) l
end

theorem szR_pos (t : Tr) : 1 ≤ szR t := by cases t <;> (unfold szR; omega)
theorem idxs_append (a c : List Tr) : ∀ b, idxs b (a ++ c) = idxs b a ++ idxs (b + szRs a) c := by
  induction a with
  | nil => intro b; simp [idxs, szRs]
  | cons t a ih =>
    intro b
    simp only [List.cons_append, idxs, szRs, ih]
    rw [show b + szR t + szRs a = b + (szR t + szRs a) by omega]
theorem posts_append (a c : List Tr) : ∀ b, posts b (a ++ c) = posts b a ++ posts (b + szRs a) c := by
  induction a with
  | nil => intro b; simp [posts, szRs]
  | cons t a ih =>
    intro b
    simp only [List.cons_append, posts, szRs, ih, List.append_assoc]
    rw [show b + szR t + szRs a = b + (szR t + szRs a) by omega]
mutual
theorem post_len : ∀ (t : Tr) (b : Nat), (post b t).length = szR t
  | .lf i, b => by simp [post, szR]
  | .nd k l, b => by simp [post, szR, posts_len l b]
theorem posts_len : ∀ (l : List Tr) (b : Nat), (posts b l).length = szRs l
  | [], b => by simp [posts, szRs]
  | t :: l, b => by simp [posts, szRs, post_len t b, posts_len l (b + szR t)]
end
theorem idxs_in : ∀ (l : List Tr) (b : Nat) (k : Int), k ∈ idxs b l → (b : Int) ≤ k ∧ k < ((b + szRs l : Nat) : Int)
  | [], b, k, h => by simp [idxs] at h
  | t :: l, b, k, h => by
    have hp := szR_pos t
    simp only [idxs, List.mem_cons] at h
    simp only [szRs]
    rcases h with rfl | h
    · omega
    · have := idxs_in l (b + szR t) k h
      omega
theorem idxs_len : ∀ (l : List Tr) (b : Nat), (idxs b l).length = l.length
  | [], b => rfl
  | t :: l, b => by simp [idxs, idxs_len l]

/-- What a reading leaves: k more of room than it takes. -/
def OutL (k : Nat) (N : List Nd) (s : St) (r : RT) (N' : List Nd) (vs : List Int) : Prop :=
  (r.2.e = 0 → N' = N ++ posts N.length r.1 ∧ vs = idxs N.length r.1 ∧ N'.length + 2 * s.i + k ≤ N.length + 2 * r.2.i) ∧ N'.length + 2 * s.i ≤ N.length + 2 * r.2.i
structure OutD (k : Nat) (N : List Nd) (s : St) (r : RT) (N' : List Nd) (vs : List Int) : Prop where
  out : OutL k N s r N' vs
  dead : r.2.e ≠ 0 → (-1 : Int) ∈ vs
/-- The same state; the same trees, where there is no fault. -/
def Eqv (a b : RT) : Prop := a.2 = b.2 ∧ (b.2.e = 0 → a.1 = b.1)
theorem Eqv.refl (a : RT) : Eqv a a := ⟨rfl, fun _ => rfl⟩

theorem OutL.nil (N : List Nd) (s : St) : OutL 0 N s ([], s) N [] := ⟨fun _ => ⟨by simp [posts], rfl, Nat.le_refl _⟩, Nat.le_refl _⟩
theorem OutL.app {k1 k2 : Nat} {N N1 N2 : List Nd} {s : St} {a b : RT} {v1 v2 : List Int} (h1 : OutL k1 N s a N1 v1) (h2 : OutL k2 N1 a.2 b N2 v2) (hd : a.2.e ≠ 0 → b.2.e ≠ 0) : OutL (k1 + k2) N s (a.1 ++ b.1, b.2) N2 (v1 ++ v2) := by
  refine ⟨fun e => ?_, ?_⟩
  · have ea : a.2.e = 0 := by
      rcases Nat.eq_zero_or_pos a.2.e with h | h
      · exact h
      · exact absurd e (hd (by omega))
    obtain ⟨e1, e2, e3⟩ := h1.1 ea
    obtain ⟨f1, f2, f3⟩ := h2.1 e
    have hl : N1.length = N.length + szRs a.1 := by rw [e1, List.length_append, posts_len]
    refine ⟨?_, ?_, ?_⟩
    · rw [f1, hl, posts_append, ← List.append_assoc, ← e1]
    · rw [f2, e2, hl, idxs_append]
    · show N2.length + 2 * s.i + (k1 + k2) ≤ N.length + 2 * b.2.i; omega
  · have := h1.2; have := h2.2
    show N2.length + 2 * s.i ≤ N.length + 2 * b.2.i; omega
theorem OutD.app {k1 k2 : Nat} {N N1 N2 : List Nd} {s : St} {a b : RT} {v1 v2 : List Int} (h1 : OutL k1 N s a N1 v1) (h2 : OutD k2 N1 a.2 b N2 v2) (hd : a.2.e ≠ 0 → b.2.e ≠ 0) : OutD (k1 + k2) N s (a.1 ++ b.1, b.2) N2 (v1 ++ v2) :=
  ⟨h1.app h2.out hd, fun e => List.mem_append_right _ (h2.dead e)⟩
theorem OutL.weak {k j : Nat} {N N' : List Nd} {s : St} {r : RT} {vs : List Int} (h : OutL k N s r N' vs) (hj : j ≤ k) : OutL j N s r N' vs :=
  ⟨fun e => ⟨(h.1 e).1, (h.1 e).2.1, by have := (h.1 e).2.2; omega⟩, h.2⟩
theorem OutD.weak {k j : Nat} {N N' : List Nd} {s : St} {r : RT} {vs : List Int} (h : OutD k N s r N' vs) (hj : j ≤ k) : OutD j N s r N' vs := ⟨h.out.weak hj, h.dead⟩
theorem OutL.eqv {k : Nat} {N N' : List Nd} {s : St} {a b : RT} {vs : List Int} (h : OutL k N s a N' vs) (he : Eqv a b) : OutL k N s b N' vs :=
  ⟨fun e => by rw [← he.1, ← he.2 e]; exact h.1 (by rw [he.1]; exact e), by rw [← he.1]; exact h.2⟩
theorem OutD.eqv {k : Nat} {N N' : List Nd} {s : St} {a b : RT} {vs : List Int} (h : OutD k N s a N' vs) (he : Eqv a b) : OutD k N s b N' vs :=
  ⟨h.out.eqv he, fun e => h.dead (by rw [he.1]; exact e)⟩

/-- A node of what was read. -/
theorem OutD.ok {k : Nat} {N N1 : List Nd} {s : St} {r : RT} {vs : List Int} (h : OutD k N s r N1 vs) (e : r.2.e = 0) : okB N1.length vs = true := by
  obtain ⟨e1, e2, -⟩ := h.out.1 e
  refine okB_true fun j hj => ?_
  rw [e2] at hj
  have := idxs_in _ _ _ hj
  rw [e1, List.length_append, posts_len]
  omega
theorem OutD.no {k : Nat} {N N1 : List Nd} {s : St} {r : RT} {vs : List Int} (h : OutD k N s r N1 vs) (e : r.2.e ≠ 0) : okB N1.length vs = false := by
  obtain ⟨j, hj⟩ := List.getElem?_of_mem (h.dead e)
  exact okB_false hj (by omega)
theorem OutD.node {k kind : Nat} {N N1 : List Nd} {s : St} {r : RT} {vs : List Int} (h : OutD (k + 1) N s r N1 vs) (e : r.2.e = 0) : OutD k N s ([.nd kind r.1], r.2) (N1 ++ [⟨(kind : Int), -1, vs⟩]) [(N1.length : Int)] := by
  obtain ⟨e1, e2, e3⟩ := h.out.1 e
  have hl : N1.length = N.length + szRs r.1 := by rw [e1, List.length_append, posts_len]
  refine ⟨⟨fun _ => ⟨?_, ?_, ?_⟩, ?_⟩, fun h => absurd e h⟩
  · simp only [posts, post, List.append_nil]; rw [← List.append_assoc, ← e1, e2]
  · simp only [idxs, szR]; rw [hl]; congr 1
  · rw [List.length_append]; show N1.length + 1 + 2 * s.i + k ≤ N.length + 2 * r.2.i; omega
  · rw [List.length_append]; show N1.length + 1 + 2 * s.i ≤ N.length + 2 * r.2.i; omega
theorem OutD.none {k kind : Nat} {N N1 : List Nd} {s : St} {r : RT} {vs : List Int} (h : OutD (k + 1) N s r N1 vs) (e : r.2.e ≠ 0) : OutD k N s ([.nd kind r.1], r.2) N1 [-1] :=
  ⟨⟨fun h => absurd h e, h.out.2⟩, fun _ => List.mem_singleton.2 rfl⟩
theorem OutD.leaf {T : List Tok} {N : List Nd} {s : St} (hk : (tokQ T s).kind ≠ 5) (he : s.e = 0) : OutD 1 N s (leafT T s) (N ++ [⟨19, (s.i : Int), []⟩]) [(N.length : Int)] := by
  have h1 := leaf_fits hk
  refine ⟨⟨fun _ => ⟨?_, ?_, ?_⟩, ?_⟩, fun h => absurd ?_ h⟩
  · simp [leafT, posts, post]
  · simp [leafT, idxs, szR]
  · rw [List.length_append]; show N.length + 1 + 2 * s.i + 1 ≤ N.length + 2 * (leafQ T s).2.i; omega
  · rw [List.length_append]; show N.length + 1 + 2 * s.i ≤ N.length + 2 * (leafQ T s).2.i; omega
  · show (leafQ T s).2.e = 0; unfold leafQ; split <;> exact he
theorem OutD.fail {T : List Tok} {N : List Nd} {s : St} {k m : Nat} (hm : m ≠ 0) (l : List Tr) : OutD k N s (l, failQ T m s) N [-1] :=
  ⟨⟨fun h => absurd h (fail_e T hm s), by show N.length + 2 * s.i ≤ N.length + 2 * (failQ T m s).i; rw [fail_i]; omega⟩, fun _ => List.mem_singleton.2 rfl⟩
end Go.Proofs.YtccokidhngdjnaaGreatDoor
