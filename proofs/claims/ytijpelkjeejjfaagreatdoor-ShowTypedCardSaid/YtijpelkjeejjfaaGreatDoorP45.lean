/- Lemmas. -/
import Derived.Deep.Slices
import Derived.OpenShut
import Derived.Test.YtijpelkjeejjfaaGreatDoorP22
set_option linter.unusedVariables false
set_option linter.unusedSimpArgs false
namespace Go.Proofs.YtijpelkjeejjfaaGreatDoor

theorem tok_whole (l : List UInt8) (p : Nat) : (tokE l p).lead ++ (tokE l p).text = l.take (stepE l) := by
  unfold tokE stepE; rw [List.take_add]

theorem wholeL_cons (t : Tok) (l : List Tok) : wholeL (t :: l) = t.lead ++ t.text ++ wholeL l := rfl

theorem end_whole {l : List UInt8} {p : Nat} (h5 : (tokE l p).kind = 5) : stepE l = l.length ∧ (tokE l p).text = [] := by
  have h1 := ((firstE_kind (l.drop (sk false l))).2).1 h5
  have h2 : l.length ≤ sk false l := by
    have := congrArg List.length h1; rw [List.length_drop, List.length_nil] at this; omega
  have h3 := sk_le l false
  constructor
  · unfold stepE; rw [h1]; simp [firstE]; omega
  · unfold tokE; rw [h1]; rfl

theorem text_pos {l : List UInt8} {p : Nat} (h : wrongE (tokE l p).kind (tokE l p).text = 0) (h5 : (tokE l p).kind ≠ 5) : (tokE l p).text ≠ [] := by
  have h0 : (firstE (l.drop (sk false l))).1 ≠ 0 := fun e => by
    unfold wrongE at h
    rw [if_pos (.inl e)] at h; cases h
  have h1 := firstE_pos h5 h0
  have h2 := firstE_le (l.drop (sk false l))
  intro e
  have h3 : ((l.drop (sk false l)).take (firstE (l.drop (sk false l))).2).length = ([] : List UInt8).length := congrArg List.length e
  rw [List.length_take, List.length_nil, Nat.min_eq_left h2] at h3
  omega

theorem whole_lexG : ∀ (f : Nat) (l : List UInt8) (p : Nat), l.length < f → (lexG f l p).2.1 = 0 → wholeL (lexG f l p).1 = l
  | 0, l, p, h, _ => by omega
  | f + 1, l, p, h, h0 => by
    by_cases hw : wrongE (tokE l p).kind (tokE l p).text = 0
    · by_cases h5 : (tokE l p).kind = 5
      · rw [lexG_end hw h5, wholeL_cons, tok_whole, (end_whole h5).1, List.take_length]; simp [wholeL]
      · rw [lexG_more hw h5] at h0 ⊢
        have h1 := stepE_pos hw h5
        have h2 := stepE_le l
        rw [wholeL_cons, tok_whole, whole_lexG f (l.drop (stepE l)) _ (by rw [List.length_drop]; omega) h0, List.take_append_drop]
    · rw [lexG_fault hw] at h0
      exact absurd h0 hw

theorem whole_all {l : List UInt8} (h : (allE l).2.1 = 0) : wholeL (allE l).1 = l := whole_lexG _ l 0 (by omega) h

/-- Each token stands at its place; the end alone is empty, and the last one. -/
def PlaceE (p : Nat) (L : List Tok) : Prop := ∀ i t, L[i]? = some t → t.pos = p + (wholeL (L.take i)).length + t.lead.length ∧ (t.kind = 5 ↔ i + 1 = L.length) ∧ (t.text = [] ↔ t.kind = 5)

theorem place_lexG : ∀ (f : Nat) (l : List UInt8) (p : Nat), l.length < f → (lexG f l p).2.1 = 0 → PlaceE p (lexG f l p).1 ∧ (lexG f l p).1 ≠ []
  | 0, l, p, h, _ => by omega
  | f + 1, l, p, h, h0 => by
    by_cases hw : wrongE (tokE l p).kind (tokE l p).text = 0
    · have hlead : (tokE l p).lead.length = sk false l := by
        unfold tokE; simp only [List.length_take]; have := sk_le l false; omega
      by_cases h5 : (tokE l p).kind = 5
      · rw [lexG_end hw h5]
        refine ⟨fun i t hi => ?_, by simp⟩
        match i, hi with
        | 0, hi =>
          simp at hi; subst hi
          refine ⟨?_, by simp [h5], by simp [h5, (end_whole h5).2]⟩
          rw [hlead]; simp [wholeL]; rfl
      · rw [lexG_more hw h5] at h0 ⊢
        have h1 := stepE_pos hw h5
        have h2 := stepE_le l
        obtain ⟨ih, hne⟩ := place_lexG f (l.drop (stepE l)) (p + stepE l) (by rw [List.length_drop]; omega) h0
        refine ⟨fun i t hi => ?_, by simp⟩
        match i, hi with
        | 0, hi =>
          simp at hi; subst hi
          have ht := text_pos hw h5
          refine ⟨?_, ?_, by simp [h5, ht]⟩
          · rw [hlead]; simp [wholeL]; rfl
          · simp [h5]
            intro e; exact hne e
        | i + 1, hi =>
          obtain ⟨a1, a2, a3⟩ := ih i t (by simpa using hi)
          refine ⟨?_, by rw [a2]; simp, a3⟩
          rw [a1, List.take_succ_cons, wholeL_cons, tok_whole, List.length_append, List.length_take, Nat.min_eq_left h2]
          omega
    · rw [lexG_fault hw] at h0
      exact absurd h0 hw

theorem place_all {l : List UInt8} (h : (allE l).2.1 = 0) : PlaceE 0 (allE l).1 ∧ (allE l).1 ≠ [] := place_lexG _ l 0 (by omega) h
theorem len_all {l : List UInt8} (h : (allE l).2.1 = 0) : (allE l).1.length ≤ l.length + 1 := by
  have h1 := (place_all h).1
  have h2 : ∀ (L : List Tok), (∀ i t, L[i]? = some t → (t.text = [] ↔ i + 1 = L.length)) → L.length ≤ (wholeL L).length + 1 := by
    intro L hL
    have key : ∀ (L : List Tok), (∀ t ∈ L, t.text ≠ []) → L.length ≤ (wholeL L).length := by
      intro L
      induction L with
      | nil => intro _; exact Nat.le_refl _
      | cons t L ih =>
        intro hh
        have a := ih (fun t ht => hh t (List.mem_cons_of_mem _ ht))
        have b := List.length_pos_iff.2 (hh t (List.mem_cons_self ..))
        rw [wholeL_cons]; simp only [List.length_cons, List.length_append]; omega
    have h3 := key (L.take (L.length - 1)) (fun t ht => by
      obtain ⟨i, hi⟩ := List.getElem?_of_mem ht
      rw [List.getElem?_take] at hi
      split at hi
      · rename_i hlt
        intro e
        have := (hL i t hi).1 e
        omega
      · cases hi)
    have h4 := wholeL_take L (L.length - 1)
    rw [List.length_take] at h3
    omega
  have h5 := h2 (allE l).1 (fun i t hi => by obtain ⟨_, a, b⟩ := h1 i t hi; rw [b, a])
  rw [whole_all h] at h5; exact h5
open Go.RowKit

def Self (b : Nat) : Nat → Prop := fun k => k = b
def EndT (T : List Tok) : Prop := ∀ (i : Nat) (t : Tok), T[i]? = some t → (t.kind = 5 ↔ i + 1 = T.length)

theorem mine (b : Nat) : Self b b := rfl
theorem fr2_drew {X : Nat → Prop} {a b : World} (h : Fr2 X a b) : Fr2 X a b.drew := ⟨h.os, h.tape, h.output, h.size, h.block⟩

section
variable {T : List Tok}
theorem mul_kind {s : St} (h : isMul T s = true) : (tokQ T s).kind ≠ 5 := by
  unfold isMul at h
  simp only [Bool.or_eq_true] at h
  rcases h with (h | h) | h <;> exact (is_kind h).1
theorem add_kind {s : St} (h : isAdd T s = true) : (tokQ T s).kind ≠ 5 := by
  unfold isAdd at h
  simp only [Bool.or_eq_true] at h
  rcases h with h | h <;> exact (is_kind h).1
theorem cmp_kind {s : St} (h : isCmp T s = true) : (tokQ T s).kind ≠ 5 := by
  unfold isCmp at h
  simp only [Bool.or_eq_true] at h
  rcases h with ((((h | h) | h) | h) | h) | h <;> exact (is_kind h).1
end
theorem fail_e (T : List Tok) {m : Nat} (hm : m ≠ 0) (s : St) : (failQ T m s).e ≠ 0 := by
  unfold failQ; split
  · exact hm
  · assumption

def setIn (v : Bool) (s : St) : St := { s with inn := v }
section
variable (T : List Tok) (ex : St → RQ)
def typB (a : RQ) : RQ :=
  if isQ T [105, 110, 116] a.2 = true ∨ isQ T [98, 111, 111, 108] a.2 = true then (a.1 ++ ([32, 40, 53] ++ (leafQ T a.2).1 ++ [41]), (leafQ T a.2).2)
  else (a.1, failQ T 22 a.2)
def typC (b : RQ) : RQ :=
  if isQ T [123] b.2 = true then
    let f := ex (setIn true (leafQ T b.2).2)
    let m := mustQ T [125] (setIn false f.2)
    (b.1 ++ ([32, 40, 54] ++ (leafQ T b.2).1 ++ f.1 ++ m.1 ++ [41]), m.2)
  else b
def typedQ (s : St) : RQ := typC T ex (typB T (mustQ T [58] s))
def parQ (s : St) : RQ :=
  let k := kindQ T 1 s
  let t := typedQ T ex k.2
  ([32, 40, 52] ++ k.1 ++ t.1 ++ [41], t.2)
def paramsQ (s : St) : RQ := partsQ T (parQ T ex) (fuelQ T (parQ T ex s).2) 1 (parQ T ex s)
def defA (s : St) : RQ := if isQ T [112, 117, 98] s = true then ([32, 40, 51] ++ (leafQ T s).1, (leafQ T s).2) else ([32, 40, 51], s)
def defB (p : RQ) : RQ :=
  let u := mustQ T [102, 117, 110] p.2
  let k := kindQ T 1 u.2
  let o := mustQ T [40] k.2
  (p.1 ++ (u.1 ++ k.1 ++ o.1), o.2)
def defC (o : RQ) : RQ := if o.2.e = 0 ∧ isQ T [41] o.2 = false then (o.1 ++ (paramsQ T ex o.2).1, (paramsQ T ex o.2).2) else o
def defD (r : RQ) : RQ :=
  let c := mustQ T [41] r.2
  let t := typedQ T ex c.2
  let q := mustQ T [61] t.2
  let x := ex q.2
  let m := mustQ T [59] x.2
  (r.1 ++ (c.1 ++ t.1 ++ q.1) ++ x.1 ++ m.1 ++ [41], m.2)
def defQ (s : St) : RQ := defD T ex (defC T ex (defB T (defA T s)))
def impStep (r : RQ) : RQ :=
  let l := leafQ T r.2
  let k := kindQ T 1 l.2
  let m := mustQ T [59] k.2
  (r.1 ++ ([32, 40, 50] ++ l.1 ++ k.1 ++ m.1 ++ [41]), m.2)
/-- Imports, or definitions: none where there are too many. -/
def manyQ (c : St → Bool) (step : RQ → RQ) (most : Nat) : Nat → Nat → RQ → Bool × RQ
  | 0, _, r => (true, r)
  | f + 1, k, r => if c r.2 = true then (if k = most then (false, ([], failQ T 15 r.2)) else manyQ c step most f (k + 1) (step r)) else (true, r)
def isDef (s : St) : Bool := isQ T [112, 117, 98] s || isQ T [102, 117, 110] s
def importsQ (r : RQ) : Bool × RQ := manyQ T (isQ T [105, 109, 112, 111, 114, 116]) (impStep T) 16 (fuelQ T r.2) 0 r
def defStep (r : RQ) : RQ := (r.1 ++ (defQ T ex r.2).1, (defQ T ex r.2).2)
def defsQ (r : RQ) : Bool × RQ := manyQ T (isDef T) (defStep T ex) 64 (fuelQ T r.2) 0 r
def endQ (r : RQ) : RQ := (r.1 ++ (kindQ T 5 r.2).1 ++ [41], (kindQ T 5 r.2).2)
def programQ (s : St) : RQ :=
  if (importsQ T ([40, 49], s)).1 = false then (importsQ T ([40, 49], s)).2
  else if (defsQ T ex (importsQ T ([40, 49], s)).2).1 = false then (defsQ T ex (importsQ T ([40, 49], s)).2).2
  else endQ T (defsQ T ex (importsQ T ([40, 49], s)).2).2
def aloneQ (s : St) : RQ :=
  let x := ex (setIn true s)
  let k := kindQ T 5 x.2
  ([40, 49, 56] ++ x.1 ++ k.1 ++ [41], k.2)
end

theorem end_all {l : List UInt8} (h : (allE l).2.1 = 0) : EndT (allE l).1 ∧ (allE l).1 ≠ [] := ⟨fun i t ht => ((place_all h).1 i t ht).2.1, (place_all h).2⟩

def startQ : St := ⟨0, false, 0, 0⟩
def resQ (r : RQ) : List UInt8 × Nat × Nat := if r.2.e = 0 then (r.1, 0, 0) else ([], r.2.e, r.2.pos)
def treeQ (T : List Tok) (D : Nat) (f : Bool) : RQ := if f = true then aloneQ T (nxQ T D D).expr startQ else programQ T (nxQ T D D).expr startQ
/-- What the reference answers. -/
def parseQ (l : List UInt8) (D : Nat) (f : Bool) : List UInt8 × Nat × Nat :=
  if 65536 < l.length then ([], 11, 0)
  else if (allE l).2.1 ≠ 0 then ([], (allE l).2.1, (allE l).2.2)
  else resQ (treeQ (allE l).1 D f)
end Go.Proofs.YtijpelkjeejjfaaGreatDoor
namespace Go.Proofs.YtijpelkjeejjfaaGreatDoor

inductive Tr where
  | lf (i : Nat)
  | nd (k : Nat) (l : List Tr)
abbrev RT := List Tr × St

def digT (k : Nat) : List UInt8 := if k < 10 then [UInt8.ofNat (48 + k)] else [UInt8.ofNat (48 + k / 10), UInt8.ofNat (48 + k % 10)]
def tokT (T : List Tok) (i : Nat) : List UInt8 := if (T[i]?.getD ⟨5, [], [], 0⟩).kind = 5 then [36] else (T[i]?.getD ⟨5, [], [], 0⟩).text
mutual
/-- A tree's text. -/
def dmp (T : List Tok) : Tr → List UInt8
  | .lf i => tokT T i
  | .nd k l => 40 :: digT k ++ dmps T l ++ [41]
def dmps (T : List Tok) : List Tr → List UInt8
  | [] => []
  | t :: l => 32 :: dmp T t ++ dmps T l
end
theorem dmps_append (T : List Tok) (a b : List Tr) : dmps T (a ++ b) = dmps T a ++ dmps T b := by
  induction a with
  | nil => simp [dmps]
  | cons t a ih => simp [dmps, ih]
theorem dmps_node (T : List Tok) (k : Nat) (l : List Tr) : dmps T [.nd k l] = [32, 40] ++ digT k ++ dmps T l ++ [41] := by simp [dmps, dmp]
theorem dmps_nil (T : List Tok) : dmps T [] = [] := by simp [dmps]

def im (T : List Tok) (a : RT) : RQ := (dmps T a.1, a.2)
theorem im_fst (T : List Tok) (a : RT) : (im T a).1 = dmps T a.1 := rfl
theorem im_snd (T : List Tok) (a : RT) : (im T a).2 = a.2 := rfl
theorem im_ite (T : List Tok) (p : Prop) [Decidable p] (a b : RT) : im T (if p then a else b) = if p then im T a else im T b := by split <;> rfl

section
variable (T : List Tok)
def leafT (s : St) : RT := ([.lf s.i], (leafQ T s).2)
def mustT (w : List UInt8) (s : St) : RT := if isQ T w s = true then leafT T s else ([], failQ T 22 s)
def kindT (k : Nat) (s : St) : RT := if s.e = 0 ∧ (tokQ T s).kind = k then leafT T s else ([], failQ T 22 s)
theorem leaf_m (s : St) : leafQ T s = im T (leafT T s) := by
  have h : (leafQ T s).1 = dmps T [.lf s.i] := by
    unfold leafQ
    simp only [dmps, dmp, tokT, tokQ]
    split <;> rename_i hk <;> simp [hk]
  exact Prod.ext h rfl
theorem must_m (w : List UInt8) (s : St) : mustQ T w s = im T (mustT T w s) := by
  unfold mustQ mustT
  rw [im_ite, leaf_m]; simp [im, dmps]
theorem kind_m (k : Nat) (s : St) : kindQ T k s = im T (kindT T k s) := by
  unfold kindQ kindT
  rw [im_ite, leaf_m]; simp [im, dmps]

def rwT (c : St → Bool) (sub : St → RT) : Nat → RT → RT
  | 0, r => r
  | f + 1, r => if c r.2 = true then rwT c sub f ([.nd 10 (r.1 ++ (leafT T r.2).1 ++ (sub (leafT T r.2).2).1)], (sub (leafT T r.2).2).2) else r
theorem row_m {c : St → Bool} {sub : St → RQ} {subT : St → RT} (h : ∀ s, sub s = im T (subT s)) : ∀ f r, rowQ T c sub f (im T r) = im T (rwT T c subT f r)
  | 0, r => rfl
  | f + 1, r => by
    unfold rowQ rwT
    rw [im_ite, im_snd, ← row_m h f, leaf_m, h]
    simp only [im, dmps_node, dmps_append]
    rfl
def partsT (sub : St → RT) : Nat → Nat → RT → RT
  | 0, _, r => r
  | f + 1, k, r => if isQ T [44] r.2 = true then
      let l := leafT T r.2
      let s := if k = 8 then failQ T 15 l.2 else l.2
      partsT sub f (k + 1) (r.1 ++ l.1 ++ (sub s).1, (sub s).2)
    else r
theorem parts_m {sub : St → RQ} {subT : St → RT} (h : ∀ s, sub s = im T (subT s)) : ∀ f k r, partsQ T sub f k (im T r) = im T (partsT T subT f k r)
  | 0, k, r => rfl
  | f + 1, k, r => by
    unfold partsQ partsT
    simp only []
    rw [im_ite, im_snd, ← parts_m h f, leaf_m]
    simp only [im_snd, h, im_fst]
    simp only [im, dmps_append]

structure NxT where
  expr : St → RT
  formula : St → RT
  nots : St → RT
  factor : St → RT
structure NxM (nx : Nx) (nt : NxT) : Prop where
  expr : ∀ s, nx.expr s = im T (nt.expr s)
  formula : ∀ s, nx.formula s = im T (nt.formula s)
  nots : ∀ s, nx.nots s = im T (nt.nots s)
  factor : ∀ s, nx.factor s = im T (nt.factor s)
end

section
variable (T : List Tok) (D n : Nat) (nt : NxT)
def argsT (s : St) : RT := partsT T nt.expr (fuelQ T (nt.expr s).2) 1 (nt.expr s)
def nameBT (a : RT) : RT := if isQ T [46] a.2 = true then (a.1 ++ (leafT T a.2).1 ++ (kindT T 1 (leafT T a.2).2).1, (kindT T 1 (leafT T a.2).2).2) else a
def nameCT (b : RT) : RT := (b.1 ++ (mustT T [40] b.2).1, (mustT T [40] b.2).2)
def nameDT (c : RT) : RT := if isQ T [41] c.2 = true then c else (c.1 ++ (argsT T nt c.2).1, (argsT T nt c.2).2)
def nameET (d : RT) : RT := ([.nd 13 (d.1 ++ (mustT T [41] d.2).1)], (mustT T [41] d.2).2)
def nameT (s : St) : RT :=
  if (leafT T s).2.inn = true ∨ (isQ T [46] (leafT T s).2 = false ∧ isQ T [40] (leafT T s).2 = false) then ([.nd 14 (leafT T s).1], (leafT T s).2)
  else nameET T (nameDT T nt (nameCT T (nameBT T (leafT T s))))
def atomT (s : St) : RT :=
  if s.e ≠ 0 then ([], s)
  else if (tokQ T s).kind = 3 then ([.nd 15 (leafT T s).1], (leafT T s).2)
  else if isQ T [116, 114, 117, 101] s = true ∨ isQ T [102, 97, 108, 115, 101] s = true then ([.nd 16 (leafT T s).1], (leafT T s).2)
  else if s.inn = true ∧ isQ T [114, 101, 115] s = true then ([.nd 17 (leafT T s).1], (leafT T s).2)
  else if isQ T [40] s = true then
    let l := leafT T s
    let b := nt.expr l.2
    let c := mustT T [41] b.2
    ([.nd 12 (l.1 ++ b.1 ++ c.1)], c.2)
  else if (tokQ T s).kind = 1 then nameT T nt s
  else ([], failQ T 22 s)
def signT (sub : St → RT) (s : St) : RT :=
  let l := leafT T s
  let t := nestQ T D (n + 1) l.2
  if t.e ≠ 0 then ([], t) else ([.nd 11 (l.1 ++ (sub t).1)], (sub t).2)
def factorT (s : St) : RT := if isQ T [45] s = true then signT T D n nt.factor s else atomT T nt s
def productT (s : St) : RT := rwT T (isMul T) (factorT T D n nt) (fuelQ T (factorT T D n nt s).2) (factorT T D n nt s)
def sumT (s : St) : RT := rwT T (isAdd T) (productT T D n nt) (fuelQ T (productT T D n nt s).2) (productT T D n nt s)
def notT (s : St) : RT :=
  if isQ T [110, 111, 116] s = true then signT T D n nt.nots s
  else
    let a := sumT T D n nt s
    if isCmp T a.2 = true then
      let l := leafT T a.2
      let b := sumT T D n nt l.2
      ([.nd 10 (a.1 ++ l.1 ++ b.1)], b.2)
    else a
def andT (s : St) : RT := rwT T (isQ T [38, 38]) (notT T D n nt) (fuelQ T (notT T D n nt s).2) (notT T D n nt s)
def orT (s : St) : RT := rwT T (isQ T [124, 124]) (andT T D n nt) (fuelQ T (andT T D n nt s).2) (andT T D n nt s)
def formulaT (s : St) : RT :=
  let a := orT T D n nt s
  if isQ T [61, 62] a.2 = true then
    let l := leafT T a.2
    let t := nestQ T D (n + 1) l.2
    if t.e ≠ 0 then ([], t) else ([.nd 10 (a.1 ++ l.1 ++ (nt.formula t).1)], (nt.formula t).2)
  else a
def letT (s : St) : RT :=
  let l := leafT T s
  let k := kindT T 1 l.2
  let q := mustT T [61] k.2
  let a := nt.expr q.2
  let i := mustT T [105, 110] a.2
  let b := nt.expr i.2
  ([.nd 7 (l.1 ++ k.1 ++ q.1 ++ a.1 ++ i.1 ++ b.1)], b.2)
def ifT (s : St) : RT :=
  let l := leafT T s
  let a := nt.expr l.2
  let t := mustT T [116, 104, 101, 110] a.2
  let b := nt.expr t.2
  let e := mustT T [101, 108, 115, 101] b.2
  let c := nt.expr e.2
  ([.nd 8 (l.1 ++ a.1 ++ t.1 ++ b.1 ++ e.1 ++ c.1)], c.2)
def assertT (s : St) : RT :=
  let l := leafT T s
  let a := nt.expr l.2
  let i := mustT T [105, 110] a.2
  let b := nt.expr i.2
  ([.nd 9 (l.1 ++ a.1 ++ i.1 ++ b.1)], b.2)
def exprT (s : St) : RT :=
  let t := nestQ T D n s
  if t.e ≠ 0 then ([], t)
  else if t.inn = false ∧ isQ T [108, 101, 116] t = true then letT T nt t
  else if t.inn = false ∧ isQ T [105, 102] t = true then ifT T nt t
  else if t.inn = false ∧ isQ T [97, 115, 115, 101, 114, 116] t = true then assertT T nt t
  else formulaT T D n nt t

variable {nx : Nx} (h : NxM T nx nt)
include h
theorem args_m (s : St) : argsQ T nx s = im T (argsT T nt s) := by
  unfold argsQ argsT; rw [h.expr, parts_m T h.expr]; rfl
omit h in
theorem nameB_m (a : RT) : nameB T (im T a) = im T (nameBT T a) := by
  unfold nameB nameBT; rw [im_ite]; simp only [im_snd, leaf_m, kind_m, im_fst]; simp only [im, dmps_append]
omit h in
theorem nameC_m (a : RT) : nameC T (im T a) = im T (nameCT T a) := by
  unfold nameC nameCT; simp only [im_snd, must_m, im_fst]; simp only [im, dmps_append]
theorem nameD_m (a : RT) : nameD T nx (im T a) = im T (nameDT T nt a) := by
  unfold nameD nameDT; rw [im_ite]; simp only [im_snd, args_m T nt h, im_fst]; simp only [im, dmps_append]
omit h in
theorem nameE_m (a : RT) : nameE T (im T a) = im T (nameET T a) := by
  unfold nameE nameET; simp only [im_snd, must_m, im_fst]; simp only [im, dmps_append, dmps_node]; simp [digT]
theorem name_m (s : St) : nameQ T nx s = im T (nameT T nt s) := by
  have e : (leafT T s).2 = (leafQ T s).2 := rfl
  unfold nameQ nameT
  by_cases hc : (leafQ T s).2.inn = true ∨ (isQ T [46] (leafQ T s).2 = false ∧ isQ T [40] (leafQ T s).2 = false)
  · have hc2 := hc
    rw [← e] at hc2
    rw [if_pos hc, if_pos hc2, leaf_m]; simp only [im, dmps_node]; rfl
  · have hc2 := hc
    rw [← e] at hc2
    rw [if_neg hc, if_neg hc2, leaf_m, nameB_m, nameC_m, nameD_m T nt h, nameE_m]
theorem atom_m (s : St) : atomQ T nx s = im T (atomT T nt s) := by
  unfold atomQ atomT
  simp only [im_ite, leaf_m, im_snd, im_fst, h.expr, must_m, name_m T nt h]
  simp only [im, dmps_node, dmps_append, dmps_nil]; simp [digT]
omit h in
theorem sign_m {sub : St → RQ} {subT : St → RT} (hs : ∀ s, sub s = im T (subT s)) (s : St) : signQ T D n sub s = im T (signT T D n subT s) := by
  unfold signQ signT
  simp only [im_ite, leaf_m, im_snd, im_fst, hs]
  simp only [im, dmps_node, dmps_append, dmps_nil]; simp [digT]
theorem factor_m (s : St) : factorQ T D n nx s = im T (factorT T D n nt s) := by
  unfold factorQ factorT; rw [im_ite, sign_m T D n h.factor, atom_m T nt h]
theorem product_m (s : St) : productQ T D n nx s = im T (productT T D n nt s) := by
  unfold productQ productT; rw [factor_m T D n nt h, row_m T (factor_m T D n nt h)]; rfl
theorem sum_m (s : St) : sumQ T D n nx s = im T (sumT T D n nt s) := by
  unfold sumQ sumT; rw [product_m T D n nt h, row_m T (product_m T D n nt h)]; rfl
theorem not_m (s : St) : notQ T D n nx s = im T (notT T D n nt s) := by
  unfold notQ notT
  simp only [im_ite, sign_m T D n h.nots, sum_m T D n nt h, leaf_m, im_snd, im_fst]
  simp only [im, dmps_node, dmps_append, dmps_nil]; simp [digT]
theorem and_m (s : St) : andQ T D n nx s = im T (andT T D n nt s) := by
  unfold andQ andT; rw [not_m T D n nt h, row_m T (not_m T D n nt h)]; rfl
theorem or_m (s : St) : orQ T D n nx s = im T (orT T D n nt s) := by
  unfold orQ orT; rw [and_m T D n nt h, row_m T (and_m T D n nt h)]; rfl
theorem formula_m (s : St) : formulaQ T D n nx s = im T (formulaT T D n nt s) := by
  unfold formulaQ formulaT
  simp only [im_ite, or_m T D n nt h, leaf_m, im_snd, im_fst, h.formula]
  simp only [im, dmps_node, dmps_append, dmps_nil]; simp [digT]
theorem let_m (s : St) : letQ T nx s = im T (letT T nt s) := by
  unfold letQ letT
  simp only [leaf_m, im_snd, im_fst, h.expr, must_m, kind_m]
  simp only [im, dmps_node, dmps_append, dmps_nil]; simp [digT]
theorem if_m (s : St) : ifQ T nx s = im T (ifT T nt s) := by
  unfold ifQ ifT
  simp only [leaf_m, im_snd, im_fst, h.expr, must_m, kind_m]
  simp only [im, dmps_node, dmps_append, dmps_nil]; simp [digT]
theorem assert_m (s : St) : assertQ T nx s = im T (assertT T nt s) := by
  unfold assertQ assertT
  simp only [leaf_m, im_snd, im_fst, h.expr, must_m, kind_m]
  simp only [im, dmps_node, dmps_append, dmps_nil]; simp [digT]
theorem expr_m (s : St) : exprQ T D n nx s = im T (exprT T D n nt s) := by
  unfold exprQ exprT
  simp only [im_ite, let_m T nt h, if_m T nt h, assert_m T nt h, formula_m T D n nt h]
  simp only [im, dmps_nil]
end

def nxT (T : List Tok) (D : Nat) : Nat → NxT
  | 0 => { expr := fun s => ([], nestQ T D (D + 1) s), formula := fun s => ([], s), nots := fun s => ([], s), factor := fun s => ([], s) }
  | d + 1 => { expr := exprT T D (D - d) (nxT T D d), formula := formulaT T D (D - d) (nxT T D d), nots := notT T D (D - d) (nxT T D d), factor := factorT T D (D - d) (nxT T D d) }
theorem nx_m (T : List Tok) (D : Nat) : ∀ d, NxM T (nxQ T D d) (nxT T D d)
  | 0 => ⟨fun s => by simp [nxQ, nxT, im, dmps], fun s => by simp [nxQ, nxT, im, dmps], fun s => by simp [nxQ, nxT, im, dmps], fun s => by simp [nxQ, nxT, im, dmps]⟩
  | d + 1 => ⟨expr_m T D _ _ (nx_m T D d), formula_m T D _ _ (nx_m T D d), not_m T D _ _ (nx_m T D d), factor_m T D _ _ (nx_m T D d)⟩
end Go.Proofs.YtijpelkjeejjfaaGreatDoor
namespace Go.Proofs.YtijpelkjeejjfaaGreatDoor

section
variable (T : List Tok) (et : St → RT)
def typBT (a : RT) : RT :=
  if isQ T [105, 110, 116] a.2 = true ∨ isQ T [98, 111, 111, 108] a.2 = true then (a.1 ++ [.nd 5 (leafT T a.2).1], (leafT T a.2).2)
  else (a.1, failQ T 22 a.2)
def typCT (b : RT) : RT :=
  if isQ T [123] b.2 = true then
    let f := et (setIn true (leafT T b.2).2)
    let m := mustT T [125] (setIn false f.2)
    (b.1 ++ [.nd 6 ((leafT T b.2).1 ++ f.1 ++ m.1)], m.2)
  else b
def typedT (s : St) : RT := typCT T et (typBT T (mustT T [58] s))
def parT (s : St) : RT :=
  let k := kindT T 1 s
  let t := typedT T et k.2
  ([.nd 4 (k.1 ++ t.1)], t.2)
def paramsT (s : St) : RT := partsT T (parT T et) (fuelQ T (parT T et s).2) 1 (parT T et s)
def defAT (s : St) : RT := if isQ T [112, 117, 98] s = true then leafT T s else ([], s)
def defBT (p : RT) : RT :=
  let u := mustT T [102, 117, 110] p.2
  let k := kindT T 1 u.2
  let o := mustT T [40] k.2
  (p.1 ++ (u.1 ++ k.1 ++ o.1), o.2)
def defCT (o : RT) : RT := if o.2.e = 0 ∧ isQ T [41] o.2 = false then (o.1 ++ (paramsT T et o.2).1, (paramsT T et o.2).2) else o
def defDT (r : RT) : RT :=
  let c := mustT T [41] r.2
  let t := typedT T et c.2
  let q := mustT T [61] t.2
  let x := et q.2
  let m := mustT T [59] x.2
  (r.1 ++ (c.1 ++ t.1 ++ q.1) ++ x.1 ++ m.1, m.2)
def defT (s : St) : RT := ([.nd 3 (defDT T et (defCT T et (defBT T (defAT T s)))).1], (defDT T et (defCT T et (defBT T (defAT T s)))).2)
def impStepT (r : RT) : RT :=
  let l := leafT T r.2
  let k := kindT T 1 l.2
  let m := mustT T [59] k.2
  (r.1 ++ [.nd 2 (l.1 ++ k.1 ++ m.1)], m.2)
def manyT (c : St → Bool) (step : RT → RT) (most : Nat) : Nat → Nat → RT → Bool × RT
  | 0, _, r => (true, r)
  | f + 1, k, r => if c r.2 = true then (if k = most then (false, ([], failQ T 15 r.2)) else manyT c step most f (k + 1) (step r)) else (true, r)
def importsT (r : RT) : Bool × RT := manyT T (isQ T [105, 109, 112, 111, 114, 116]) (impStepT T) 16 (fuelQ T r.2) 0 r
def defStepT (r : RT) : RT := (r.1 ++ (defT T et r.2).1, (defT T et r.2).2)
def defsT (r : RT) : Bool × RT := manyT T (isDef T) (defStepT T et) 64 (fuelQ T r.2) 0 r
/-- A program's parts; none where it is refused. -/
def programT (s : St) : RT :=
  if (importsT T ([], s)).1 = false then (importsT T ([], s)).2
  else if (defsT T et (importsT T ([], s)).2).1 = false then (defsT T et (importsT T ([], s)).2).2
  else ((defsT T et (importsT T ([], s)).2).2.1 ++ (kindT T 5 (defsT T et (importsT T ([], s)).2).2.2).1, (kindT T 5 (defsT T et (importsT T ([], s)).2).2.2).2)
def aloneT (s : St) : RT :=
  let x := et (setIn true s)
  let k := kindT T 5 x.2
  (x.1 ++ k.1, k.2)

variable {ex : St → RQ} (h : ∀ s, ex s = im T (et s))
include h
omit h in
theorem typB_m (a : RT) : typB T (im T a) = im T (typBT T a) := by
  unfold typB typBT; rw [im_ite]; simp only [im_snd, leaf_m, im_fst]; simp only [im, dmps_append, dmps_node]; rfl
theorem typC_m (a : RT) : typC T ex (im T a) = im T (typCT T et a) := by
  unfold typC typCT; simp only [im_ite, im_snd, leaf_m, im_fst, h, must_m]; simp only [im, dmps_append, dmps_node]; simp [digT]
theorem typed_m (s : St) : typedQ T ex s = im T (typedT T et s) := by
  unfold typedQ typedT; rw [must_m, typB_m, typC_m T et h]
theorem par_m (s : St) : parQ T ex s = im T (parT T et s) := by
  unfold parQ parT; simp only [kind_m, im_snd, typed_m T et h, im_fst]; simp only [im, dmps_append, dmps_node]; simp [digT]
theorem params_m (s : St) : paramsQ T ex s = im T (paramsT T et s) := by
  unfold paramsQ paramsT; rw [par_m T et h, parts_m T (par_m T et h)]; rfl

/-- What stands ahead of the rest: a definition's number. -/
def ahead (a : List UInt8) (r : RQ) : RQ := (a ++ r.1, r.2)
omit h in
theorem defA_m (s : St) : defA T s = ahead [32, 40, 51] (im T (defAT T s)) := by
  unfold defA defAT; rw [im_ite, leaf_m]; split <;> simp [ahead, im, dmps]
omit h in
theorem defB_m (a : RT) : defB T (ahead [32, 40, 51] (im T a)) = ahead [32, 40, 51] (im T (defBT T a)) := by
  unfold defB defBT
  show ((ahead [32, 40, 51] (im T a)).1 ++ _, _) = _
  simp only [ahead, im_snd, must_m, kind_m, im_fst]
  simp only [im, dmps_append]; simp
theorem defC_m (a : RT) : defC T ex (ahead [32, 40, 51] (im T a)) = ahead [32, 40, 51] (im T (defCT T et a)) := by
  unfold defC defCT
  rw [im_ite]
  simp only [ahead, im_snd, params_m T et h, im_fst]
  split <;> simp [im, dmps_append]
theorem defD_m (a : RT) : defD T ex (ahead [32, 40, 51] (im T a)) = (([32, 40, 51] ++ (im T (defDT T et a)).1 ++ [41]), (defDT T et a).2) := by
  unfold defD defDT
  simp only [ahead, im_snd, must_m, typed_m T et h, h, im_fst]
  simp only [im, dmps_append]; simp
theorem def_m (s : St) : defQ T ex s = im T (defT T et s) := by
  unfold defQ defT
  rw [defA_m, defB_m, defC_m T et h, defD_m T et h]
  simp only [im, dmps_node]; rfl
omit h in
theorem impStep_m (r : RT) : impStep T (ahead [40, 49] (im T r)) = ahead [40, 49] (im T (impStepT T r)) := by
  unfold impStep impStepT
  simp only [ahead, im_snd, leaf_m, must_m, kind_m, im_fst]
  simp only [im, dmps_append, dmps_node]; simp [digT]
theorem defStep_m (r : RT) : defStep T ex (ahead [40, 49] (im T r)) = ahead [40, 49] (im T (defStepT T et r)) := by
  unfold defStep defStepT
  simp only [ahead, im_snd, def_m T et h, im_fst]
  simp only [im, dmps_append]; simp
/-- The same of what many answer: none, or what stands ahead and the texts. -/
def outM (T : List Tok) (b : Bool × RT) : Bool × RQ := (b.1, if b.1 = true then ahead [40, 49] (im T b.2) else im T b.2)
omit h in
theorem many_m {c : St → Bool} {step : RQ → RQ} {stepT : RT → RT} {most : Nat} (hs : ∀ r, step (ahead [40, 49] (im T r)) = ahead [40, 49] (im T (stepT r))) : ∀ f k r, manyQ T c step most f k (ahead [40, 49] (im T r)) = outM T (manyT T c stepT most f k r)
  | 0, k, r => rfl
  | f + 1, k, r => by
    unfold manyQ manyT
    have e : (ahead [40, 49] (im T r)).2 = r.2 := rfl
    rw [e]
    split
    · split
      · simp [outM, im, dmps]
      · rw [hs, many_m hs f]
    · rfl
omit h in
theorem imports_m (s : St) : importsQ T ([40, 49], s) = outM T (importsT T ([], s)) := by
  have e : (([40, 49], s) : RQ) = ahead [40, 49] (im T ([], s)) := by simp [ahead, im, dmps]
  unfold importsQ importsT
  rw [e, many_m T (impStep_m T)]; rfl
theorem defs_m (r : RT) : defsQ T ex (ahead [40, 49] (im T r)) = outM T (defsT T et r) := by
  unfold defsQ defsT
  rw [many_m T (defStep_m T et h)]; rfl
omit h in
theorem many_bad {c : St → Bool} {stepT : RT → RT} {most : Nat} : ∀ f k r, (manyT T c stepT most f k r).1 = false → (manyT T c stepT most f k r).2.2.e ≠ 0
  | 0, k, r, hh => by cases hh
  | f + 1, k, r, hh => by
    unfold manyT at hh ⊢
    split at hh
    · rename_i hc
      rw [if_pos hc]
      split at hh
      · rename_i hk
        rw [if_pos hk]
        exact fail_e T (by decide) _
      · rename_i hk
        rw [if_neg hk]
        exact many_bad f _ _ hh
    · cases hh
/-- Where no fault was, a program's answer is its tree's text. -/
theorem program_m (s : St) : (programQ T ex s).2 = (programT T et s).2 ∧ ((programT T et s).2.e = 0 → (programQ T ex s).1 = dmp T (.nd 1 (programT T et s).1)) := by
  have hb1 := many_bad T (c := isQ T [105, 109, 112, 111, 114, 116]) (stepT := impStepT T) (most := 16) (fuelQ T s) 0 ([], s)
  have hb1' : (importsT T ([], s)).1 = false → (importsT T ([], s)).2.2.e ≠ 0 := hb1
  have hI := imports_m T s
  unfold programQ programT
  rw [hI]
  generalize importsT T ([], s) = I at *
  obtain ⟨i1, r⟩ := I
  cases i1
  · refine ⟨rfl, fun he => absurd he (hb1' rfl)⟩
  · have hb2 := many_bad T (c := isDef T) (stepT := defStepT T et) (most := 64) (fuelQ T r.2) 0 r
    have hb2' : (defsT T et r).1 = false → (defsT T et r).2.2.e ≠ 0 := hb2
    have hD := defs_m T et h r
    have e : (outM T (true, r)).2 = ahead [40, 49] (im T r) := rfl
    have e1 : (outM T (true, r)).1 = true := rfl
    rw [e, hD, e1]
    show (if true = false then _ else _ : RQ).2 = (if true = false then _ else _ : RT).2 ∧ _
    generalize defsT T et r = J at *
    obtain ⟨j1, z⟩ := J
    cases j1
    · refine ⟨by simp [outM, im], fun he => absurd he (by simpa using hb2' rfl)⟩
    · have e2 : (outM T (true, z)).2 = ahead [40, 49] (im T z) := rfl
      have e3 : (outM T (true, z)).1 = true := rfl
      rw [e2, e3]
      simp only [endQ, ahead, im_snd, kind_m, im_fst]
      refine ⟨by simp, fun _ => ?_⟩
      simp only [dmp]; simp [digT, dmps_append]
theorem alone_m (s : St) : (aloneQ T ex s).2 = (aloneT T et s).2 ∧ (aloneQ T ex s).1 = dmp T (.nd 18 (aloneT T et s).1) := by
  unfold aloneQ aloneT
  simp only [h, im_snd, kind_m, im_fst]
  refine ⟨trivial, ?_⟩
  simp only [dmp, dmps_append]; simp [digT]
end
end Go.Proofs.YtijpelkjeejjfaaGreatDoor
namespace Go.Proofs.YtijpelkjeejjfaaGreatDoor

mutual
def lvT : Tr → List Nat
  | .lf i => [i]
  | .nd _ l => lvTs l
def lvTs : List Tr → List Nat
  | [] => []
  | t :: l => lvT t ++ lvTs l
end
theorem lvTs_append (a b : List Tr) : lvTs (a ++ b) = lvTs a ++ lvTs b := by
  induction a with
  | nil => simp [lvTs]
  | cons t a ih => simp [lvTs, ih]
theorem lvTs_node (k : Nat) (l : List Tr) : lvTs [.nd k l] = lvTs l := by simp [lvTs, lvT]

/-- From a to z: what has come is what lies between. -/
def Run (s : St) (r : RT) : Prop := r.2.e = 0 → s.e = 0 ∧ s.i ≤ r.2.i ∧ lvTs r.1 = List.range' s.i (r.2.i - s.i)
theorem Run.nil (s : St) : Run s ([], s) := fun h => ⟨h, Nat.le_refl _, by simp [lvTs]⟩
theorem Run.bad {s t : St} {l : List Tr} (h : t.e ≠ 0) : Run s (l, t) := fun e => absurd e h
theorem Run.app {s : St} {a b : RT} (h1 : Run s a) (h2 : Run a.2 b) : Run s (a.1 ++ b.1, b.2) := fun e => by
  obtain ⟨e2, l2, r2⟩ := h2 e
  obtain ⟨e1, l1, r1⟩ := h1 e2
  refine ⟨e1, Nat.le_trans l1 l2, ?_⟩
  show lvTs (a.1 ++ b.1) = _
  rw [lvTs_append, r1, r2]
  have h3 : a.2.i = s.i + 1 * (a.2.i - s.i) := by omega
  have h4 : b.2.i - s.i = (a.2.i - s.i) + (b.2.i - a.2.i) := by omega
  show _ = List.range' s.i (b.2.i - s.i)
  rw [h4, ← List.range'_append, ← h3]
theorem Run.node {s : St} {l : List Tr} {t : St} (k : Nat) (h : Run s (l, t)) : Run s ([.nd k l], t) := fun e => by
  obtain ⟨h1, h2, h3⟩ := h e
  exact ⟨h1, h2, by show lvTs [.nd k l] = _; rw [lvTs_node]; exact h3⟩
theorem Run.same {s t : St} {r : RT} (h : Run t r) (he : t.e = 0 → s.e = 0) (hi : t.i = s.i) : Run s r := fun e => by
  obtain ⟨h1, h2, h3⟩ := h e
  exact ⟨he h1, by omega, by rw [← hi]; exact h3⟩

section
variable (T : List Tok)
theorem leaf_run {s : St} (h : (tokQ T s).kind ≠ 5) : Run s (leafT T s) := fun e => by
  have h1 := (leaf_fits h).2
  have h2 : (leafT T s).2.i = s.i + 1 := h1
  have h3 : s.e = 0 := by
    have : (leafT T s).2.e = s.e := by show (leafQ T s).2.e = s.e; unfold leafQ; rw [if_neg h]
    omega
  refine ⟨h3, by omega, ?_⟩
  rw [h2]
  show lvTs [.lf s.i] = _
  simp [lvTs, lvT]
theorem fail_run {n : Nat} (hn : n ≠ 0) (s t : St) (l : List Tr) : Run s (l, failQ T n t) := Run.bad (fail_e T hn t)
theorem must_run (w : List UInt8) (s : St) : Run s (mustT T w s) := by
  unfold mustT
  split
  · rename_i h; exact leaf_run T (is_kind h).1
  · exact fail_run T (by decide) s s []
theorem kind_run {k : Nat} (hk : k ≠ 5) (s : St) : Run s (kindT T k s) := by
  unfold kindT
  split
  · rename_i h; exact leaf_run T (by rw [h.2]; exact hk)
  · exact fail_run T (by decide) s s []
theorem nest_run {D n : Nat} {s : St} {r : RT} (h : Run (nestQ T D n s) r) : Run s r :=
  h.same (fun e => by
    unfold nestQ at e
    split at e
    · exact absurd e (fail_e T (by decide) s)
    · exact e) (nest_i T D n s)
theorem row_run {c : St → Bool} {sub : St → RT} (hc : ∀ s, c s = true → (tokQ T s).kind ≠ 5) (hs : ∀ s, Run s (sub s)) {s : St} : ∀ f r, Run s r → Run s (rwT T c sub f r)
  | 0, r, h => h
  | f + 1, r, h => by
    unfold rwT
    split
    · rename_i hcc
      refine row_run hc hs f _ (Run.node 10 ?_)
      exact (h.app (leaf_run T (hc _ hcc))).app (hs _)
    · exact h
theorem parts_run {sub : St → RT} (hs : ∀ s, Run s (sub s)) {s : St} : ∀ f k r, Run s r → Run s (partsT T sub f k r)
  | 0, k, r, h => h
  | f + 1, k, r, h => by
    unfold partsT
    split
    · rename_i hcc
      refine parts_run hs f _ _ ?_
      refine (h.app (leaf_run T (is_kind hcc).1)).app ?_
      refine (hs _).same ?_ ?_
      · intro e
        split at e
        · exact absurd e (fail_e T (by decide) _)
        · exact e
      · split
        · exact fail_i _ _ _
        · rfl
    · exact h

structure NxR (nt : NxT) : Prop where
  expr : ∀ s, Run s (nt.expr s)
  formula : ∀ s, Run s (nt.formula s)
  nots : ∀ s, Run s (nt.nots s)
  factor : ∀ s, Run s (nt.factor s)
end

section
variable (T : List Tok) (D n : Nat) {nt : NxT} (h : NxR nt)
include h
theorem args_run (s : St) : Run s (argsT T nt s) := parts_run T h.expr _ _ _ (h.expr s)
omit h in
theorem nameB_run {s : St} {a : RT} (ha : Run s a) : Run s (nameBT T a) := by
  unfold nameBT
  split
  · rename_i hc; exact (ha.app (leaf_run T (is_kind hc).1)).app (kind_run T (by decide) _)
  · exact ha
omit h in
theorem nameC_run {s : St} {a : RT} (ha : Run s a) : Run s (nameCT T a) := ha.app (must_run T _ _)
theorem nameD_run {s : St} {a : RT} (ha : Run s a) : Run s (nameDT T nt a) := by
  unfold nameDT
  split
  · exact ha
  · exact ha.app (args_run T h _)
omit h in
theorem nameE_run {s : St} {a : RT} (ha : Run s a) : Run s (nameET T a) := Run.node 13 (ha.app (must_run T _ _))
theorem name_run {s : St} (hk : (tokQ T s).kind ≠ 5) : Run s (nameT T nt s) := by
  unfold nameT
  split
  · exact Run.node 14 (leaf_run T hk)
  · exact nameE_run T (nameD_run T h (nameC_run T (nameB_run T (leaf_run T hk))))
theorem atom_run (s : St) : Run s (atomT T nt s) := by
  unfold atomT
  split
  · rename_i he; exact Run.bad he
  split
  · rename_i hk; exact Run.node 15 (leaf_run T (by rw [hk]; decide))
  split
  · rename_i hk; exact Run.node 16 (leaf_run T (by rcases hk with hk | hk <;> exact (is_kind hk).1))
  split
  · rename_i hk; exact Run.node 17 (leaf_run T (is_kind hk.2).1)
  split
  · rename_i hk; exact Run.node 12 (((leaf_run T (is_kind hk).1).app (h.expr _)).app (must_run T _ _))
  split
  · rename_i hk; exact name_run T h (by rw [hk]; decide)
  · exact fail_run T (by decide) s s []
omit h in
theorem sign_run {sub : St → RT} (hs : ∀ s, Run s (sub s)) {s : St} (hk : (tokQ T s).kind ≠ 5) : Run s (signT T D n sub s) := by
  unfold signT
  simp only []
  split
  · rename_i he; exact Run.bad he
  · exact Run.node 11 ((leaf_run T hk).app (nest_run T (hs _)))
theorem factor_run (s : St) : Run s (factorT T D n nt s) := by
  unfold factorT
  split
  · rename_i hk; exact sign_run T D n h.factor (is_kind hk).1
  · exact atom_run T h s
theorem product_run (s : St) : Run s (productT T D n nt s) := row_run T (fun _ hc => mul_kind hc) (factor_run T D n h) _ _ (factor_run T D n h s)
theorem sum_run (s : St) : Run s (sumT T D n nt s) := row_run T (fun _ hc => add_kind hc) (product_run T D n h) _ _ (product_run T D n h s)
theorem not_run (s : St) : Run s (notT T D n nt s) := by
  unfold notT
  simp only []
  split
  · rename_i hk; exact sign_run T D n h.nots (is_kind hk).1
  split
  · rename_i hk; exact Run.node 10 (((sum_run T D n h s).app (leaf_run T (cmp_kind hk))).app (sum_run T D n h _))
  · exact sum_run T D n h s
theorem and_run (s : St) : Run s (andT T D n nt s) := row_run T (fun _ hc => (is_kind hc).1) (not_run T D n h) _ _ (not_run T D n h s)
theorem or_run (s : St) : Run s (orT T D n nt s) := row_run T (fun _ hc => (is_kind hc).1) (and_run T D n h) _ _ (and_run T D n h s)
theorem formula_run (s : St) : Run s (formulaT T D n nt s) := by
  unfold formulaT
  simp only []
  split
  · rename_i hk
    split
    · rename_i he; exact Run.bad he
    · exact Run.node 10 (((or_run T D n h s).app (leaf_run T (is_kind hk).1)).app (nest_run T (h.formula _)))
  · exact or_run T D n h s
theorem let_run {s : St} (hk : (tokQ T s).kind ≠ 5) : Run s (letT T nt s) :=
  Run.node 7 ((((((leaf_run T hk).app (kind_run T (by decide) _)).app (must_run T _ _)).app (h.expr _)).app (must_run T _ _)).app (h.expr _))
theorem if_run {s : St} (hk : (tokQ T s).kind ≠ 5) : Run s (ifT T nt s) :=
  Run.node 8 ((((((leaf_run T hk).app (h.expr _)).app (must_run T _ _)).app (h.expr _)).app (must_run T _ _)).app (h.expr _))
theorem assert_run {s : St} (hk : (tokQ T s).kind ≠ 5) : Run s (assertT T nt s) :=
  Run.node 9 ((((leaf_run T hk).app (h.expr _)).app (must_run T _ _)).app (h.expr _))
theorem expr_run (s : St) : Run s (exprT T D n nt s) := by
  unfold exprT
  simp only []
  split
  · rename_i he; exact Run.bad he
  split
  · rename_i hk; exact nest_run T (let_run T h (is_kind hk.2).1)
  split
  · rename_i hk; exact nest_run T (if_run T h (is_kind hk.2).1)
  split
  · rename_i hk; exact nest_run T (assert_run T h (is_kind hk.2).1)
  · exact nest_run T (formula_run T D n h _)
end
theorem nx_run (T : List Tok) (D : Nat) : ∀ d, NxR (nxT T D d)
  | 0 => ⟨fun s => nest_run T (Run.nil _), fun s => Run.nil s, fun s => Run.nil s, fun s => Run.nil s⟩
  | d + 1 => ⟨expr_run T D _ (nx_run T D d), formula_run T D _ (nx_run T D d), not_run T D _ (nx_run T D d), factor_run T D _ (nx_run T D d)⟩

section
variable (T : List Tok) {et : St → RT} (h : ∀ s, Run s (et s))
include h
omit h in
theorem typB_run {s : St} {a : RT} (ha : Run s a) : Run s (typBT T a) := by
  unfold typBT
  split
  · rename_i hk; exact ha.app (Run.node 5 (leaf_run T (by rcases hk with hk | hk <;> exact (is_kind hk).1)))
  · exact fail_run T (by decide) s _ _
theorem typC_run {s : St} {a : RT} (ha : Run s a) : Run s (typCT T et a) := by
  unfold typCT
  split
  · rename_i hk
    refine ha.app (Run.node 6 (((leaf_run T (is_kind hk).1).app ?_).app ?_))
    · exact (h _).same (fun e => e) rfl
    · exact (must_run T _ _).same (fun e => e) rfl
  · exact ha
theorem typed_run (s : St) : Run s (typedT T et s) := typC_run T h (typB_run T (must_run T _ s))
theorem par_run (s : St) : Run s (parT T et s) := Run.node 4 ((kind_run T (by decide) s).app (typed_run T h _))
theorem params_run (s : St) : Run s (paramsT T et s) := parts_run T (par_run T h) _ _ _ (par_run T h s)
omit h in
theorem defA_run (s : St) : Run s (defAT T s) := by
  unfold defAT
  split
  · rename_i hk; exact leaf_run T (is_kind hk).1
  · exact Run.nil s
omit h in
theorem defB_run {s : St} {a : RT} (ha : Run s a) : Run s (defBT T a) := ha.app (((must_run T _ _).app (kind_run T (by decide) _)).app (must_run T _ _))
theorem defC_run {s : St} {a : RT} (ha : Run s a) : Run s (defCT T et a) := by
  unfold defCT
  split
  · exact ha.app (params_run T h _)
  · exact ha
theorem defD_run {s : St} {a : RT} (ha : Run s a) : Run s (defDT T et a) :=
  ((ha.app (((must_run T _ _).app (typed_run T h _)).app (must_run T _ _))).app (h _)).app (must_run T _ _)
theorem def_run (s : St) : Run s (defT T et s) := Run.node 3 (defD_run T h (defC_run T h (defB_run T (defA_run T s))))
omit h in
theorem impStep_run {s : St} {r : RT} (hr : Run s r) (hc : isQ T [105, 109, 112, 111, 114, 116] r.2 = true) : Run s (impStepT T r) :=
  hr.app (Run.node 2 (((leaf_run T (is_kind hc).1).app (kind_run T (by decide) _)).app (must_run T _ _)))
omit h in
theorem many_run {c : St → Bool} {step : RT → RT} {most : Nat} {s : St} (hs : ∀ r, c r.2 = true → Run s r → Run s (step r)) : ∀ f k r, Run s r → Run s (manyT T c step most f k r).2
  | 0, k, r, hr => hr
  | f + 1, k, r, hr => by
    unfold manyT
    split
    · rename_i hc
      split
      · exact fail_run T (by decide) s _ _
      · exact many_run hs f _ _ (hs r hc hr)
    · exact hr
omit h in
/-- The end comes: it is the last token. -/
theorem end_run {s : St} {r : RT} (hr : Run s r) (he : (kindT T 5 r.2).2.e = 0) : s.e = 0 ∧ (tokQ T r.2).kind = 5 ∧ s.i ≤ r.2.i ∧ lvTs (r.1 ++ (kindT T 5 r.2).1) = List.range' s.i (r.2.i + 1 - s.i) := by
  unfold kindT at he ⊢
  split at he
  · rename_i hk
    obtain ⟨h1, h2, h3⟩ := hr hk.1
    rw [if_pos hk]
    refine ⟨h1, hk.2, h2, ?_⟩
    rw [lvTs_append, h3]
    have h4 : r.2.i + 1 - s.i = (r.2.i - s.i) + 1 := by omega
    have h5 : r.2.i = s.i + 1 * (r.2.i - s.i) := by omega
    rw [h4, ← List.range'_append, ← h5]
    simp [leafT, lvTs, lvT]
  · exact absurd he (fail_e T (by decide) _)
omit h in
theorem end_place (hE : EndT T) {s : St} (hok : (kindT T 5 s).2.i < T.length) (hk : (tokQ T s).kind = 5) : s.i + 1 = T.length := by
  have e : (kindT T 5 s).2.i = s.i := by
    unfold kindT
    split
    · show (leafQ T s).2.i = s.i
      unfold leafQ; rw [if_pos hk]
    · exact fail_i T 22 s
  rw [e] at hok
  have ht : T[s.i]? = some (tokQ T s) := by unfold tokQ; rw [List.getElem?_eq_getElem hok]; rfl
  exact (hE _ _ ht).1 hk
/-- A program's leaves are all the tokens. -/
theorem program_run (hE : EndT T) {s : St} (hs : s.i = 0) (hok : (programT T et s).2.i < T.length) (he : (programT T et s).2.e = 0) : lvTs (programT T et s).1 = List.range T.length := by
  have hb1' : (importsT T ([], s)).1 = false → (importsT T ([], s)).2.2.e ≠ 0 := many_bad T _ _ _
  have hI : Run s (importsT T ([], s)).2 := many_run T (fun r hc hr => impStep_run T hr hc) _ _ _ (Run.nil s)
  have hb2' : (defsT T et (importsT T ([], s)).2).1 = false → (defsT T et (importsT T ([], s)).2).2.2.e ≠ 0 := many_bad T _ _ _
  have hD : Run s (defsT T et (importsT T ([], s)).2).2 := many_run T (fun r hc hr => hr.app (def_run T h _)) _ _ _ hI
  unfold programT at he hok ⊢
  split at he
  · rename_i hc; exact absurd he (hb1' hc)
  · rename_i hc1
    split at he
    · rename_i hc; exact absurd he (hb2' hc)
    · rename_i hc2
      rw [if_neg hc1, if_neg hc2]
      obtain ⟨-, hk, -, hl⟩ := end_run T hD he
      show lvTs (_ ++ _) = _
      rw [hl, hs]
      rw [if_neg hc1, if_neg hc2] at hok
      have hi := end_place T (s := (defsT T et (importsT T ([], s)).2).2.2) hE hok hk
      rw [hi, Nat.sub_zero, List.range_eq_range']
/-- So are a formula's. -/
theorem alone_run (hE : EndT T) {s : St} (hs : s.i = 0) (hok : (aloneT T et s).2.i < T.length) (he : (aloneT T et s).2.e = 0) : lvTs (aloneT T et s).1 = List.range T.length := by
  have hX : Run s (et (setIn true s)) := (h _).same (fun e => e) rfl
  unfold aloneT at he hok ⊢
  simp only [] at he hok ⊢
  obtain ⟨-, hk, -, hl⟩ := end_run T hX he
  rw [hl, hs, end_place T hE hok hk, Nat.sub_zero, List.range_eq_range']
end
end Go.Proofs.YtijpelkjeejjfaaGreatDoor
namespace Go.Proofs.YtijpelkjeejjfaaGreatDoor
open Go.RowKit

theorem pcs_enc {F : Nat → Prop} {w : World} : ∀ {l : List Pc} {r : List (List Value)}, PcsAt F w l r → ∃ d : List PcV, r = d.map encP ∧ d.length = l.length
  | [], r, h => by have h : r = [] := h; subst h; exact ⟨[], rfl, rfl⟩
  | p :: l, r, h => by
    obtain ⟨q, r', rfl, h3, h4⟩ := h
    obtain ⟨d, rfl, hd⟩ := pcs_enc h4
    cases p with
    | bs s =>
      have h3 : q = rowB s := h3
      subst h3
      exact ⟨(⟨s.toArray⟩, none, 0) :: d, rfl, by simp [hd]⟩
    | ex x least =>
      obtain ⟨g, o, q', rfl, -⟩ := h3
      exact ⟨(⟨#[]⟩, some ⟨g, o, none⟩, (least : Int)) :: d, rfl, by simp [hd]⟩
theorem PcsAt.rev {F : Nat → Prop} {w : World} : ∀ {l : List Pc} {r : List (List Value)}, PcsAt F w l r → PcsAt F w l.reverse r.reverse
  | [], r, h => by have h : r = [] := h; subst h; rfl
  | p :: l, r, h => by
    obtain ⟨q, r', rfl, h3, h4⟩ := h
    rw [List.reverse_cons, List.reverse_cons]
    exact PcsAt.app (PcsAt.rev h4) ⟨q, [], rfl, h3, rfl⟩
theorem PcsAt.split {F : Nat → Prop} {w : World} : ∀ {l l2 : List Pc} {r : List (List Value)}, PcsAt F w (l ++ l2) r → ∃ r1 r2, r = r1 ++ r2 ∧ PcsAt F w l r1 ∧ PcsAt F w l2 r2
  | [], l2, r, h => ⟨[], r, rfl, rfl, h⟩
  | p :: l, l2, r, h => by
    obtain ⟨q, r', rfl, h3, h4⟩ := h
    obtain ⟨r1, r2, rfl, h5, h6⟩ := PcsAt.split h4
    exact ⟨q :: r1, r2, rfl, ⟨q, r1, rfl, h3, h5⟩, h6⟩
/-- The last row taken off. -/
theorem WrAt.pop {S : Nat → Prop} {B b g n cap : Nat} {w : World} {rows : List (List Value)} {q : List Value} (h : WrAt S B b w (rows ++ [q])) (c0 : w.cell? ⟨b, 0, none⟩ = some (.slice (some ⟨g, 0, none⟩) n cap)) :
    WrAt S B b (w.setCell ⟨b, 0, none⟩ (.slice (some ⟨g, 0, none⟩) rows.length cap)) rows ∧ Fr2 (fun k => ¬ S k) w (w.setCell ⟨b, 0, none⟩ (.slice (some ⟨g, 0, none⟩) rows.length cap)) := by
  obtain ⟨v, hb, hO, hbB, hB, hSb, hSv, hSs⟩ := h
  rw [cell_of_row w b 0 _ _ (0, 0) hb] at c0
  have c0 : v = .slice (some ⟨g, 0, none⟩) n cap := Option.some.inj c0
  subst c0
  have hgB : B ≤ g := (hO.at g rfl).1
  have hf : Fr2 (fun k => k = b) w (w.setCell ⟨b, 0, none⟩ (.slice (some ⟨g, 0, none⟩) rows.length cap)) := Fr2.setCell (S := fun k => k = b) (Fr2.refl _ _) rfl _
  obtain ⟨⟨hln, ho⟩, hw⟩ := hO
  have hw2 : Wid 3 rows := fun q hq => hw q (List.mem_append_left _ hq)
  have hrl : rows.flatten.length = rows.length * 3 := flat_len hw2
  rcases ho with ⟨h, -⟩ | ⟨g', cap', cur, he, hb1, hg, h1, h2, h3, h4⟩
  · simp at h
  simp only [Value.slice.injEq, Option.some.injEq, Addr.mk.injEq, and_true] at he
  obtain ⟨rfl, hn, rfl⟩ := he
  have hl1 : (rows ++ [q]).length = rows.length + 1 := by simp
  rw [hl1] at h1 h4
  have hO2 : OwnG 3 94 w B (.slice (some ⟨g, 0, none⟩) rows.length cap) rows := by
    refine ⟨⟨hrl, .inr ⟨g, cap, cur, rfl, hb1, hg, by omega, h2, h3, ?_⟩⟩, hw2⟩
    have h5 := congrArg (List.take (rows.length * 3)) h4
    rw [List.take_take, List.flatten_append, List.take_append_of_le_length (by omega), List.take_of_length_le (l := rows.flatten) (by omega)] at h5
    rw [← h5]; congr 1; omega
  refine ⟨⟨_, box1 hb, hO2.keptF hf (fun k hk e => by have e2 : g = k := Option.some.inj (show some g = some k from hk); have e : k = b := e; omega), hbB, Nat.le_trans hB hf.size, hSb, fun k hk => hSv k hk, fun k hk => Nat.lt_of_lt_of_le (hSs k hk) hf.size⟩, hf.mono (fun k e => ?_)⟩
  have e : k = b := e
  rw [e]; exact hSb
/-- What the box of a writer with rows holds. -/
theorem WrAt.cell {S : Nat → Prop} {B b : Nat} {w : World} {rows : List (List Value)} (h : WrAt S B b w rows) (h0 : rows ≠ []) : ∃ g cap, w.cell? ⟨b, 0, none⟩ = some (.slice (some ⟨g, 0, none⟩) rows.length cap) ∧ B ≤ g ∧ g < w.heap.size ∧ ¬ S g ∧ b < B ∧ rows.length ≤ cap ∧ ∀ j, w.frozen? ⟨b, j, none⟩ = false := by
  obtain ⟨v, hb, hO, hbB, hB, hSb, hSv, hSs⟩ := h
  obtain ⟨⟨hln, ho⟩, hw⟩ := hO
  rcases ho with ⟨-, h⟩ | ⟨g, cap, cur, rfl, hb1, hg, h1, h2, h3, h4⟩
  · exact absurd (List.eq_nil_of_length_eq_zero h) h0
  · exact ⟨g, cap, by rw [cell_of_row w b 0 _ _ (0, 0) hb]; rfl, hb1, hlt hg, hSv g rfl, hbB, h1, fun j => by simp [World.frozen?, hb]⟩

theorem nd_pos {N : Nat} (h : N ≠ 0) : 0 < Zd.nd N := by unfold Zd.nd; rw [dif_neg h]; omega
theorem dig_lt (N j : Nat) : Zd.dig N j < 10 := Nat.mod_lt _ (by omega)
theorem dec_head {N : Nat} (h : N ≠ 0) : ∃ b r, Zd.decL N = b :: r ∧ 48 ≤ b.toNat ∧ b.toNat ≤ 57 := by
  have hp := nd_pos h
  have hl : (Zd.decL N).length = Zd.nd N := decL_len N
  match hD : Zd.decL N with
  | [] => rw [hD] at hl; simp at hl; omega
  | b :: r =>
    refine ⟨b, r, rfl, ?_⟩
    have hm : b ∈ Zd.decL N := by rw [hD]; simp
    unfold Zd.decL at hm
    obtain ⟨j, -, rfl⟩ := List.mem_map.1 hm
    have := dig_lt N (Zd.nd N - 1 - j)
    rw [UInt8.toNat_ofNat']
    omega
theorem txt_head (Z : Int) : ∃ b r, Zd.txtL Z = b :: r ∧ (b = 45 ↔ Z < 0) := by
  unfold Zd.txtL
  by_cases h0 : Z = 0
  · subst h0; exact ⟨48, [], rfl, by decide⟩
  rw [if_neg h0]
  by_cases h1 : Z < 0
  · rw [if_pos h1]; exact ⟨45, _, rfl, by simp [h1]⟩
  · rw [if_neg h1]
    obtain ⟨b, r, h, h2, -⟩ := dec_head (N := Z.natAbs) (by omega)
    exact ⟨b, r, h, fun e => by (subst e; exact absurd h2 (by decide)), fun e => absurd e h1⟩
theorem txt_none (Z : Int) : Zd.txtL Z = [48] ↔ Z = 0 := by
  constructor
  · intro h
    unfold Zd.txtL at h
    by_cases h0 : Z = 0
    · exact h0
    rw [if_neg h0] at h
    by_cases h1 : Z < 0
    · rw [if_pos h1] at h; simp at h
    · rw [if_neg h1] at h
      have hl := decL_len Z.natAbs
      rw [h] at hl
      have hl : Zd.nd Z.natAbs = 1 := hl.symm
      unfold Zd.decL at h
      rw [hl] at h
      simp only [List.range_one, List.map_cons, List.map_nil, List.cons.injEq, and_true] at h
      have h2 := congrArg UInt8.toNat h
      have h3 := dig_lt Z.natAbs (1 - 1 - 0)
      rw [UInt8.toNat_ofNat'] at h2
      have h4 := Zd.nd_lt Z.natAbs
      rw [hl] at h4
      have h5 : Zd.dig Z.natAbs (1 - 1 - 0) = Z.natAbs := by unfold Zd.dig; simp; omega
      rw [h5] at h2 h3
      have : (48 : UInt8).toNat = 48 := rfl
      omega
  · intro h; subst h; rfl

section
open Go.ChangeShapes Go.WideShapes Go.Deep
variable {H : Type} {enc : TypeId × Value → H} {P : Program} {w : World} {base : Nat} {spare : Nat → Bool} {held : Bool}

theorem open_rows {t e : TypeId} {s fuel : Nat} {v : Option Addr} {n c : Nat} {x : DataW H × List MemPlace} (ht : P.underlying t = some (.slice e)) (ce : P.cellsOf e = s) (hs : 0 < s)
    (h : DataW.trod enc P w base spare held fuel t [.slice v n c] = some x) : n ≤ c ∧ c ≤ maxLen ∧ ∃ q : Nat → List Value, (∀ j, j < n → (q j).length = s ∧ ∃ f' x', DataW.trod enc P w base spare held f' e (q j) = some x') ∧ GAt s w v ((List.range n).map q) := by
  rcases open_slice ht h with ⟨h0, -⟩ | ⟨a, len, cap, m, nn, Dd, Pl, hcs, hb, hl, hm, hmm, -, hx⟩
  · simp at h0
    obtain ⟨rfl, rfl, rfl⟩ := h0
    exact ⟨Nat.le_refl _, by omega, fun _ => [], fun j hj => by omega, .inl rfl⟩
  · simp at hcs
    obtain ⟨rfl, rfl, rfl⟩ := hcs
    have hlm : n ≤ m := by rw [hmm]; split <;> omega
    have each : ∀ i, i < n → ∃ q : List Value, q.length = s ∧ (∃ f' x', DataW.trod enc P w base spare held f' e q = some x') ∧ ∀ j, j < s → w.cell? (a.add (i * s + j)) = q[j]? := by
      intro i hi
      obtain ⟨cs', h1, h2⟩ := hx i (by omega)
      rw [ce] at h1
      obtain ⟨_, hlen, hcell⟩ := World.cells?_some h1
      refine ⟨cs', hlen, ⟨_, _, h2⟩, fun j hj => ?_⟩
      have := hcell j (by omega)
      rw [add_add] at this
      exact this
    refine ⟨hl, hm, ?_⟩
    obtain ⟨q, hq⟩ := choose_lt each
    refine ⟨q, fun j hj => ⟨(hq j hj).1, (hq j hj).2.1⟩, ?_⟩
    by_cases h0 : n = 0
    · subst h0; exact .inl rfl
    · have hs1 := (hq 0 (by omega)).2.2 0 hs
      have hq0 : ∃ u, (q 0)[0]? = some u := ⟨(q 0)[0]'(by rw [(hq 0 (by omega)).1]; exact hs), List.getElem?_eq_getElem _⟩
      obtain ⟨u, hu⟩ := hq0
      rw [hu] at hs1
      have hsp := World.cell?_spot hs1
      have hlt := World.block_lt_of_cell? w _ hs1
      obtain ⟨g, o, sp⟩ := a
      have hsp : sp = none := by simpa [Addr.add] using hsp
      subst hsp
      refine .inr ⟨g, o, rfl, by simpa [Addr.add] using hlt, fun j l hj i u hi => ?_⟩
      rw [List.getElem?_map] at hj
      obtain ⟨j', hj', rfl⟩ := Option.map_eq_some_iff.1 hj
      have hjn : j < n := by have := (List.getElem?_eq_some_iff.1 hj').1; simpa using this
      have : j' = j := by rw [List.getElem?_range hjn] at hj'; exact (Option.some.inj hj').symm
      subst this
      have his : i < s := by have := (List.getElem?_eq_some_iff.1 hi).1; rw [(hq j' hjn).1] at this; exact this
      have := (hq j' hjn).2.2 i his
      rw [Addr.add_lit, hi, ← Nat.add_assoc] at this
      exact this
end
end Go.Proofs.YtijpelkjeejjfaaGreatDoor
