/- Lemmas. -/
import Derived.Deep.Slices
import Derived.OpenShut
import Derived.Shelf.Spec.BitsCarry
import Derived.Test.YtddccnpohpaofaaGreatDoorP3
set_option linter.unusedVariables false
set_option linter.unusedSimpArgs false
namespace Go.Proofs.YtddccnpohpaofaaGreatDoor

structure St where
  i : Nat
  inn : Bool
  e : Nat
  pos : Nat
abbrev RQ := List UInt8 × St

def tokQ (T : List Tok) (s : St) : Tok := T[s.i]?.getD ⟨5, [], [], 0⟩
def failQ (T : List Tok) (n : Nat) (s : St) : St := if s.e = 0 then { s with e := n, pos := (tokQ T s).pos } else s
def isQ (T : List Tok) (w : List UInt8) (s : St) : Bool := decide (s.e = 0 ∧ ((tokQ T s).kind = 2 ∨ (tokQ T s).kind = 4) ∧ (tokQ T s).text = w)
def leafQ (T : List Tok) (s : St) : RQ := if (tokQ T s).kind = 5 then ([32, 36], s) else (32 :: (tokQ T s).text, { s with i := s.i + 1 })
def mustQ (T : List Tok) (w : List UInt8) (s : St) : RQ := if isQ T w s = true then leafQ T s else ([], failQ T 22 s)
def kindQ (T : List Tok) (k : Nat) (s : St) : RQ := if s.e = 0 ∧ (tokQ T s).kind = k then leafQ T s else ([], failQ T 22 s)
def nestQ (T : List Tok) (D n : Nat) (s : St) : St := if D < n then failQ T 23 s else s

/-- A row: what stands ahead, then each sign and what is behind it. -/
def rowQ (T : List Tok) (c : St → Bool) (sub : St → RQ) : Nat → RQ → RQ
  | 0, r => r
  | f + 1, r => if c r.2 = true then
      rowQ T c sub f ([32, 40, 49, 48] ++ r.1 ++ (leafQ T r.2).1 ++ (sub (leafQ T r.2).2).1 ++ [41], (sub (leafQ T r.2).2).2)
    else r
/-- Parts with commas between them: k have come. -/
def partsQ (T : List Tok) (sub : St → RQ) : Nat → Nat → RQ → RQ
  | 0, _, r => r
  | f + 1, k, r => if isQ T [44] r.2 = true then
      let l := leafQ T r.2
      let s := if k = 8 then failQ T 15 l.2 else l.2
      partsQ T sub f (k + 1) (r.1 ++ l.1 ++ (sub s).1, (sub s).2)
    else r

/-- What is nested by one more. -/
structure Nx where
  expr : St → RQ
  formula : St → RQ
  nots : St → RQ
  factor : St → RQ

section
variable (T : List Tok) (D n : Nat) (nx : Nx)
def fuelQ (s : St) : Nat := T.length - s.i + 1
def argsQ (s : St) : RQ := partsQ T nx.expr (fuelQ T (nx.expr s).2) 1 (nx.expr s)
def nameB (a : RQ) : RQ := if isQ T [46] a.2 = true then (a.1 ++ (leafQ T a.2).1 ++ (kindQ T 1 (leafQ T a.2).2).1, (kindQ T 1 (leafQ T a.2).2).2) else a
def nameC (b : RQ) : RQ := (b.1 ++ (mustQ T [40] b.2).1, (mustQ T [40] b.2).2)
def nameD (c : RQ) : RQ := if isQ T [41] c.2 = true then c else (c.1 ++ (argsQ T nx c.2).1, (argsQ T nx c.2).2)
def nameE (d : RQ) : RQ := ([32, 40, 49, 51] ++ d.1 ++ (mustQ T [41] d.2).1 ++ [41], (mustQ T [41] d.2).2)
def nameQ (s : St) : RQ :=
  if (leafQ T s).2.inn = true ∨ (isQ T [46] (leafQ T s).2 = false ∧ isQ T [40] (leafQ T s).2 = false) then ([32, 40, 49, 52] ++ (leafQ T s).1 ++ [41], (leafQ T s).2)
  else nameE T (nameD T nx (nameC T (nameB T (leafQ T s))))
def atomQ (s : St) : RQ :=
  if s.e ≠ 0 then ([], s)
  else if (tokQ T s).kind = 3 then ([32, 40, 49, 53] ++ (leafQ T s).1 ++ [41], (leafQ T s).2)
  else if isQ T [116, 114, 117, 101] s = true ∨ isQ T [102, 97, 108, 115, 101] s = true then ([32, 40, 49, 54] ++ (leafQ T s).1 ++ [41], (leafQ T s).2)
  else if s.inn = true ∧ isQ T [114, 101, 115] s = true then ([32, 40, 49, 55] ++ (leafQ T s).1 ++ [41], (leafQ T s).2)
  else if isQ T [40] s = true then
    let l := leafQ T s
    let b := nx.expr l.2
    let c := mustQ T [41] b.2
    ([32, 40, 49, 50] ++ l.1 ++ b.1 ++ c.1 ++ [41], c.2)
  else if (tokQ T s).kind = 1 then nameQ T nx s
  else ([], failQ T 22 s)
/-- A sign ahead of what is nested. -/
def signQ (sub : St → RQ) (s : St) : RQ :=
  let l := leafQ T s
  let t := nestQ T D (n + 1) l.2
  if t.e ≠ 0 then ([], t) else ([32, 40, 49, 49] ++ l.1 ++ (sub t).1 ++ [41], (sub t).2)
def factorQ (s : St) : RQ := if isQ T [45] s = true then signQ T D n nx.factor s else atomQ T nx s
def isMul (s : St) : Bool := isQ T [42] s || isQ T [47] s || isQ T [37] s
def isAdd (s : St) : Bool := isQ T [43] s || isQ T [45] s
def isCmp (s : St) : Bool := isQ T [61] s || isQ T [60, 62] s || isQ T [60] s || isQ T [60, 61] s || isQ T [62] s || isQ T [62, 61] s
def productQ (s : St) : RQ := rowQ T (isMul T) (factorQ T D n nx) (fuelQ T (factorQ T D n nx s).2) (factorQ T D n nx s)
def sumQ (s : St) : RQ := rowQ T (isAdd T) (productQ T D n nx) (fuelQ T (productQ T D n nx s).2) (productQ T D n nx s)
def notQ (s : St) : RQ :=
  if isQ T [110, 111, 116] s = true then signQ T D n nx.nots s
  else
    let a := sumQ T D n nx s
    if isCmp T a.2 = true then
      let l := leafQ T a.2
      let b := sumQ T D n nx l.2
      ([32, 40, 49, 48] ++ a.1 ++ l.1 ++ b.1 ++ [41], b.2)
    else a
def andQ (s : St) : RQ := rowQ T (isQ T [38, 38]) (notQ T D n nx) (fuelQ T (notQ T D n nx s).2) (notQ T D n nx s)
def orQ (s : St) : RQ := rowQ T (isQ T [124, 124]) (andQ T D n nx) (fuelQ T (andQ T D n nx s).2) (andQ T D n nx s)
def formulaQ (s : St) : RQ :=
  let a := orQ T D n nx s
  if isQ T [61, 62] a.2 = true then
    let l := leafQ T a.2
    let t := nestQ T D (n + 1) l.2
    if t.e ≠ 0 then ([], t) else ([32, 40, 49, 48] ++ a.1 ++ l.1 ++ (nx.formula t).1 ++ [41], (nx.formula t).2)
  else a
def letQ (s : St) : RQ :=
  let l := leafQ T s
  let k := kindQ T 1 l.2
  let q := mustQ T [61] k.2
  let a := nx.expr q.2
  let i := mustQ T [105, 110] a.2
  let b := nx.expr i.2
  ([32, 40, 55] ++ l.1 ++ k.1 ++ q.1 ++ a.1 ++ i.1 ++ b.1 ++ [41], b.2)
def ifQ (s : St) : RQ :=
  let l := leafQ T s
  let a := nx.expr l.2
  let t := mustQ T [116, 104, 101, 110] a.2
  let b := nx.expr t.2
  let e := mustQ T [101, 108, 115, 101] b.2
  let c := nx.expr e.2
  ([32, 40, 56] ++ l.1 ++ a.1 ++ t.1 ++ b.1 ++ e.1 ++ c.1 ++ [41], c.2)
def assertQ (s : St) : RQ :=
  let l := leafQ T s
  let a := nx.expr l.2
  let i := mustQ T [105, 110] a.2
  let b := nx.expr i.2
  ([32, 40, 57] ++ l.1 ++ a.1 ++ i.1 ++ b.1 ++ [41], b.2)
def exprQ (s : St) : RQ :=
  let t := nestQ T D n s
  if t.e ≠ 0 then ([], t)
  else if t.inn = false ∧ isQ T [108, 101, 116] t = true then letQ T nx t
  else if t.inn = false ∧ isQ T [105, 102] t = true then ifQ T nx t
  else if t.inn = false ∧ isQ T [97, 115, 115, 101, 114, 116] t = true then assertQ T nx t
  else formulaQ T D n nx t
end

/-- All that is nested by n or more, where d = D + 1 - n. -/
def nxQ (T : List Tok) (D : Nat) : Nat → Nx
  | 0 => { expr := fun s => ([], nestQ T D (D + 1) s), formula := fun s => ([], s), nots := fun s => ([], s), factor := fun s => ([], s) }
  | d + 1 => { expr := exprQ T D (D - d) (nxQ T D d), formula := formulaQ T D (D - d) (nxQ T D d), nots := notQ T D (D - d) (nxQ T D d), factor := factorQ T D (D - d) (nxQ T D d) }

/-! ### How long answers are -/

/-- Each token that is used has room for what is written of it and for what is written about it. -/
def roomQ (T : List Tok) (i : Nat) : Nat := ((T.take i).map fun t => t.text.length + 8).sum
theorem room_next (T : List Tok) {i : Nat} {t : Tok} (h : T[i]? = some t) : roomQ T (i + 1) = roomQ T i + (t.text.length + 8) := by
  unfold roomQ; rw [List.take_add_one, h, List.map_append, List.sum_append]; simp
theorem fail_i (T : List Tok) (n : Nat) (s : St) : (failQ T n s).i = s.i := by unfold failQ; split <;> rfl
theorem nest_i (T : List Tok) (D n : Nat) (s : St) : (nestQ T D n s).i = s.i := by unfold nestQ; split; exact fail_i T 23 s; rfl
theorem leaf_fits {T : List Tok} {s : St} (h : (tokQ T s).kind ≠ 5) : (leafQ T s).1.length + 7 + roomQ T s.i ≤ roomQ T (leafQ T s).2.i ∧ (leafQ T s).2.i = s.i + 1 := by
  unfold leafQ
  rw [if_neg h]
  cases ht : T[s.i]? with
  | none => exact absurd (by unfold tokQ; rw [ht]; rfl) h
  | some t =>
    have h1 : tokQ T s = t := by unfold tokQ; rw [ht]; rfl
    rw [h1, room_next T ht]
    refine ⟨?_, rfl⟩
    simp only [List.length_cons]; omega
theorem is_kind {T : List Tok} {w : List UInt8} {s : St} (h : isQ T w s = true) : (tokQ T s).kind ≠ 5 ∧ s.e = 0 := by
  unfold isQ at h
  have := of_decide_eq_true h
  omega
end Go.Proofs.YtddccnpohpaofaaGreatDoor
namespace Go.Proofs.YtddccnpohpaofaaGreatDoor

theorem tok_whole (l : List UInt8) (p : Nat) : (tokE l p).lead ++ (tokE l p).text = l.take (stepE l) := by
  unfold tokE stepE; rw [List.take_add]

theorem wholeL_cons (t : Tok) (l : List Tok) : wholeL (t :: l) = t.lead ++ t.text ++ wholeL l := rfl

theorem end_whole {l : List UInt8} {p : Nat} (h5 : (tokE l p).kind = 5) : stepE l = l.length ∧ (tokE l p).text = [] := by
  have h1 := ((firstE_kind (l.drop (sk false l))).2).1 h5
  have h2 : l.length ≤ sk false l := by
    have := congrArg List.length h1; rw [List.length_drop, List.length_nil] at this; omega
  have h3 := sk_le l false
  constructor
  · unfold stepE; rw [h1]; simp [firstE]; omega
  · unfold tokE; rw [h1]; rfl

theorem text_pos {l : List UInt8} {p : Nat} (h : wrongE (tokE l p).kind (tokE l p).text = 0) (h5 : (tokE l p).kind ≠ 5) : (tokE l p).text ≠ [] := by
  have h0 : (firstE (l.drop (sk false l))).1 ≠ 0 := fun e => by
    unfold wrongE at h
    rw [if_pos (.inl e)] at h; cases h
  have h1 := firstE_pos h5 h0
  have h2 := firstE_le (l.drop (sk false l))
  intro e
  have h3 : ((l.drop (sk false l)).take (firstE (l.drop (sk false l))).2).length = ([] : List UInt8).length := congrArg List.length e
  rw [List.length_take, List.length_nil, Nat.min_eq_left h2] at h3
  omega

theorem whole_lexG : ∀ (f : Nat) (l : List UInt8) (p : Nat), l.length < f → (lexG f l p).2.1 = 0 → wholeL (lexG f l p).1 = l
  | 0, l, p, h, _ => by omega
  | f + 1, l, p, h, h0 => by
    by_cases hw : wrongE (tokE l p).kind (tokE l p).text = 0
    · by_cases h5 : (tokE l p).kind = 5
      · rw [lexG_end hw h5, wholeL_cons, tok_whole, (end_whole h5).1, List.take_length]; simp [wholeL]
      · rw [lexG_more hw h5] at h0 ⊢
        have h1 := stepE_pos hw h5
        have h2 := stepE_le l
        rw [wholeL_cons, tok_whole, whole_lexG f (l.drop (stepE l)) _ (by rw [List.length_drop]; omega) h0, List.take_append_drop]
    · rw [lexG_fault hw] at h0
      exact absurd h0 hw

theorem whole_all {l : List UInt8} (h : (allE l).2.1 = 0) : wholeL (allE l).1 = l := whole_lexG _ l 0 (by omega) h

/-- Each token stands at its place; the end alone is empty, and the last one. -/
def PlaceE (p : Nat) (L : List Tok) : Prop := ∀ i t, L[i]? = some t → t.pos = p + (wholeL (L.take i)).length + t.lead.length ∧ (t.kind = 5 ↔ i + 1 = L.length) ∧ (t.text = [] ↔ t.kind = 5)

theorem place_lexG : ∀ (f : Nat) (l : List UInt8) (p : Nat), l.length < f → (lexG f l p).2.1 = 0 → PlaceE p (lexG f l p).1 ∧ (lexG f l p).1 ≠ []
  | 0, l, p, h, _ => by omega
  | f + 1, l, p, h, h0 => by
    by_cases hw : wrongE (tokE l p).kind (tokE l p).text = 0
    · have hlead : (tokE l p).lead.length = sk false l := by
        unfold tokE; simp only [List.length_take]; have := sk_le l false; omega
      by_cases h5 : (tokE l p).kind = 5
      · rw [lexG_end hw h5]
        refine ⟨fun i t hi => ?_, by simp⟩
        match i, hi with
        | 0, hi =>
          simp at hi; subst hi
          refine ⟨?_, by simp [h5], by simp [h5, (end_whole h5).2]⟩
          rw [hlead]; simp [wholeL]; rfl
      · rw [lexG_more hw h5] at h0 ⊢
        have h1 := stepE_pos hw h5
        have h2 := stepE_le l
        obtain ⟨ih, hne⟩ := place_lexG f (l.drop (stepE l)) (p + stepE l) (by rw [List.length_drop]; omega) h0
        refine ⟨fun i t hi => ?_, by simp⟩
        match i, hi with
        | 0, hi =>
          simp at hi; subst hi
          have ht := text_pos hw h5
          refine ⟨?_, ?_, by simp [h5, ht]⟩
          · rw [hlead]; simp [wholeL]; rfl
          · simp [h5]
            intro e; exact hne e
        | i + 1, hi =>
          obtain ⟨a1, a2, a3⟩ := ih i t (by simpa using hi)
          refine ⟨?_, by rw [a2]; simp, a3⟩
          rw [a1, List.take_succ_cons, wholeL_cons, tok_whole, List.length_append, List.length_take, Nat.min_eq_left h2]
          omega
    · rw [lexG_fault hw] at h0
      exact absurd h0 hw

theorem place_all {l : List UInt8} (h : (allE l).2.1 = 0) : PlaceE 0 (allE l).1 ∧ (allE l).1 ≠ [] := place_lexG _ l 0 (by omega) h
theorem len_all {l : List UInt8} (h : (allE l).2.1 = 0) : (allE l).1.length ≤ l.length + 1 := by
  have h1 := (place_all h).1
  have h2 : ∀ (L : List Tok), (∀ i t, L[i]? = some t → (t.text = [] ↔ i + 1 = L.length)) → L.length ≤ (wholeL L).length + 1 := by
    intro L hL
    have key : ∀ (L : List Tok), (∀ t ∈ L, t.text ≠ []) → L.length ≤ (wholeL L).length := by
      intro L
      induction L with
      | nil => intro _; exact Nat.le_refl _
      | cons t L ih =>
        intro hh
        have a := ih (fun t ht => hh t (List.mem_cons_of_mem _ ht))
        have b := List.length_pos_iff.2 (hh t (List.mem_cons_self ..))
        rw [wholeL_cons]; simp only [List.length_cons, List.length_append]; omega
    have h3 := key (L.take (L.length - 1)) (fun t ht => by
      obtain ⟨i, hi⟩ := List.getElem?_of_mem ht
      rw [List.getElem?_take] at hi
      split at hi
      · rename_i hlt
        intro e
        have := (hL i t hi).1 e
        omega
      · cases hi)
    have h4 := wholeL_take L (L.length - 1)
    rw [List.length_take] at h3
    omega
  have h5 := h2 (allE l).1 (fun i t hi => by obtain ⟨_, a, b⟩ := h1 i t hi; rw [b, a])
  rw [whole_all h] at h5; exact h5
open Go.RowKit

def Self (b : Nat) : Nat → Prop := fun k => k = b
def EndT (T : List Tok) : Prop := ∀ (i : Nat) (t : Tok), T[i]? = some t → (t.kind = 5 ↔ i + 1 = T.length)

theorem mine (b : Nat) : Self b b := rfl
theorem fr2_drew {X : Nat → Prop} {a b : World} (h : Fr2 X a b) : Fr2 X a b.drew := ⟨h.os, h.tape, h.output, h.size, h.block⟩

section
variable {T : List Tok}
theorem mul_kind {s : St} (h : isMul T s = true) : (tokQ T s).kind ≠ 5 := by
  unfold isMul at h
  simp only [Bool.or_eq_true] at h
  rcases h with (h | h) | h <;> exact (is_kind h).1
theorem add_kind {s : St} (h : isAdd T s = true) : (tokQ T s).kind ≠ 5 := by
  unfold isAdd at h
  simp only [Bool.or_eq_true] at h
  rcases h with h | h <;> exact (is_kind h).1
theorem cmp_kind {s : St} (h : isCmp T s = true) : (tokQ T s).kind ≠ 5 := by
  unfold isCmp at h
  simp only [Bool.or_eq_true] at h
  rcases h with ((((h | h) | h) | h) | h) | h <;> exact (is_kind h).1
end
theorem fail_e (T : List Tok) {m : Nat} (hm : m ≠ 0) (s : St) : (failQ T m s).e ≠ 0 := by
  unfold failQ; split
  · exact hm
  · assumption

def setIn (v : Bool) (s : St) : St := { s with inn := v }
section
variable (T : List Tok) (ex : St → RQ)
def typB (a : RQ) : RQ :=
  if isQ T [105, 110, 116] a.2 = true ∨ isQ T [98, 111, 111, 108] a.2 = true then (a.1 ++ ([32, 40, 53] ++ (leafQ T a.2).1 ++ [41]), (leafQ T a.2).2)
  else (a.1, failQ T 22 a.2)
def typC (b : RQ) : RQ :=
  if isQ T [123] b.2 = true then
    let f := ex (setIn true (leafQ T b.2).2)
    let m := mustQ T [125] (setIn false f.2)
    (b.1 ++ ([32, 40, 54] ++ (leafQ T b.2).1 ++ f.1 ++ m.1 ++ [41]), m.2)
  else b
def typedQ (s : St) : RQ := typC T ex (typB T (mustQ T [58] s))
def parQ (s : St) : RQ :=
  let k := kindQ T 1 s
  let t := typedQ T ex k.2
  ([32, 40, 52] ++ k.1 ++ t.1 ++ [41], t.2)
def paramsQ (s : St) : RQ := partsQ T (parQ T ex) (fuelQ T (parQ T ex s).2) 1 (parQ T ex s)
def defA (s : St) : RQ := if isQ T [112, 117, 98] s = true then ([32, 40, 51] ++ (leafQ T s).1, (leafQ T s).2) else ([32, 40, 51], s)
def defB (p : RQ) : RQ :=
  let u := mustQ T [102, 117, 110] p.2
  let k := kindQ T 1 u.2
  let o := mustQ T [40] k.2
  (p.1 ++ (u.1 ++ k.1 ++ o.1), o.2)
def defC (o : RQ) : RQ := if o.2.e = 0 ∧ isQ T [41] o.2 = false then (o.1 ++ (paramsQ T ex o.2).1, (paramsQ T ex o.2).2) else o
def defD (r : RQ) : RQ :=
  let c := mustQ T [41] r.2
  let t := typedQ T ex c.2
  let q := mustQ T [61] t.2
  let x := ex q.2
  let m := mustQ T [59] x.2
  (r.1 ++ (c.1 ++ t.1 ++ q.1) ++ x.1 ++ m.1 ++ [41], m.2)
def defQ (s : St) : RQ := defD T ex (defC T ex (defB T (defA T s)))
def impStep (r : RQ) : RQ :=
  let l := leafQ T r.2
  let k := kindQ T 1 l.2
  let m := mustQ T [59] k.2
  (r.1 ++ ([32, 40, 50] ++ l.1 ++ k.1 ++ m.1 ++ [41]), m.2)
/-- Imports, or definitions: none where there are too many. -/
def manyQ (c : St → Bool) (step : RQ → RQ) (most : Nat) : Nat → Nat → RQ → Bool × RQ
  | 0, _, r => (true, r)
  | f + 1, k, r => if c r.2 = true then (if k = most then (false, ([], failQ T 15 r.2)) else manyQ c step most f (k + 1) (step r)) else (true, r)
def isDef (s : St) : Bool := isQ T [112, 117, 98] s || isQ T [102, 117, 110] s
def importsQ (r : RQ) : Bool × RQ := manyQ T (isQ T [105, 109, 112, 111, 114, 116]) (impStep T) 16 (fuelQ T r.2) 0 r
def defStep (r : RQ) : RQ := (r.1 ++ (defQ T ex r.2).1, (defQ T ex r.2).2)
def defsQ (r : RQ) : Bool × RQ := manyQ T (isDef T) (defStep T ex) 64 (fuelQ T r.2) 0 r
def endQ (r : RQ) : RQ := (r.1 ++ (kindQ T 5 r.2).1 ++ [41], (kindQ T 5 r.2).2)
def programQ (s : St) : RQ :=
  if (importsQ T ([40, 49], s)).1 = false then (importsQ T ([40, 49], s)).2
  else if (defsQ T ex (importsQ T ([40, 49], s)).2).1 = false then (defsQ T ex (importsQ T ([40, 49], s)).2).2
  else endQ T (defsQ T ex (importsQ T ([40, 49], s)).2).2
def aloneQ (s : St) : RQ :=
  let x := ex (setIn true s)
  let k := kindQ T 5 x.2
  ([40, 49, 56] ++ x.1 ++ k.1 ++ [41], k.2)
end

theorem end_all {l : List UInt8} (h : (allE l).2.1 = 0) : EndT (allE l).1 ∧ (allE l).1 ≠ [] := ⟨fun i t ht => ((place_all h).1 i t ht).2.1, (place_all h).2⟩

def startQ : St := ⟨0, false, 0, 0⟩
def resQ (r : RQ) : List UInt8 × Nat × Nat := if r.2.e = 0 then (r.1, 0, 0) else ([], r.2.e, r.2.pos)
def treeQ (T : List Tok) (D : Nat) (f : Bool) : RQ := if f = true then aloneQ T (nxQ T D D).expr startQ else programQ T (nxQ T D D).expr startQ
/-- What the reference answers. -/
def parseQ (l : List UInt8) (D : Nat) (f : Bool) : List UInt8 × Nat × Nat :=
  if 65536 < l.length then ([], 11, 0)
  else if (allE l).2.1 ≠ 0 then ([], (allE l).2.1, (allE l).2.2)
  else resQ (treeQ (allE l).1 D f)
end Go.Proofs.YtddccnpohpaofaaGreatDoor
namespace Go.Proofs.YtddccnpohpaofaaGreatDoor

inductive Tr where
  | lf (i : Nat)
  | nd (k : Nat) (l : List Tr)
abbrev RT := List Tr × St

def digT (k : Nat) : List UInt8 := if k < 10 then [UInt8.ofNat (48 + k)] else [UInt8.ofNat (48 + k / 10), UInt8.ofNat (48 + k % 10)]
def tokT (T : List Tok) (i : Nat) : List UInt8 := if (T[i]?.getD ⟨5, [], [], 0⟩).kind = 5 then [36] else (T[i]?.getD ⟨5, [], [], 0⟩).text
mutual
/-- A tree's text. -/
def dmp (T : List Tok) : Tr → List UInt8
  | .lf i => tokT T i
  | .nd k l => 40 :: digT k ++ dmps T l ++ [41]
def dmps (T : List Tok) : List Tr → List UInt8
  | [] => []
  | t :: l => 32 :: dmp T t ++ dmps T l
end
theorem dmps_append (T : List Tok) (a b : List Tr) : dmps T (a ++ b) = dmps T a ++ dmps T b := by
  induction a with
  | nil => simp [dmps]
  | cons t a ih => simp [dmps, ih]
theorem dmps_node (T : List Tok) (k : Nat) (l : List Tr) : dmps T [.nd k l] = [32, 40] ++ digT k ++ dmps T l ++ [41] := by simp [dmps, dmp]
theorem dmps_nil (T : List Tok) : dmps T [] = [] := by simp [dmps]

def im (T : List Tok) (a : RT) : RQ := (dmps T a.1, a.2)
theorem im_fst (T : List Tok) (a : RT) : (im T a).1 = dmps T a.1 := rfl
theorem im_snd (T : List Tok) (a : RT) : (im T a).2 = a.2 := rfl
theorem im_ite (T : List Tok) (p : Prop) [Decidable p] (a b : RT) : im T (if p then a else b) = if p then im T a else im T b := by split <;> rfl

section
variable (T : List Tok)
def leafT (s : St) : RT := ([.lf s.i], (leafQ T s).2)
def mustT (w : List UInt8) (s : St) : RT := if isQ T w s = true then leafT T s else ([], failQ T 22 s)
def kindT (k : Nat) (s : St) : RT := if s.e = 0 ∧ (tokQ T s).kind = k then leafT T s else ([], failQ T 22 s)
theorem leaf_m (s : St) : leafQ T s = im T (leafT T s) := by
  have h : (leafQ T s).1 = dmps T [.lf s.i] := by
    unfold leafQ
    simp only [dmps, dmp, tokT, tokQ]
    split <;> rename_i hk <;> simp [hk]
  exact Prod.ext h rfl
theorem must_m (w : List UInt8) (s : St) : mustQ T w s = im T (mustT T w s) := by
  unfold mustQ mustT
  rw [im_ite, leaf_m]; simp [im, dmps]
theorem kind_m (k : Nat) (s : St) : kindQ T k s = im T (kindT T k s) := by
  unfold kindQ kindT
  rw [im_ite, leaf_m]; simp [im, dmps]

def rwT (c : St → Bool) (sub : St → RT) : Nat → RT → RT
  | 0, r => r
  | f + 1, r => if c r.2 = true then rwT c sub f ([.nd 10 (r.1 ++ (leafT T r.2).1 ++ (sub (leafT T r.2).2).1)], (sub (leafT T r.2).2).2) else r
theorem row_m {c : St → Bool} {sub : St → RQ} {subT : St → RT} (h : ∀ s, sub s = im T (subT s)) : ∀ f r, rowQ T c sub f (im T r) = im T (rwT T c subT f r)
  | 0, r => rfl
  | f + 1, r => by
    unfold rowQ rwT
    rw [im_ite, im_snd, ← row_m h f, leaf_m, h]
    simp only [im, dmps_node, dmps_append]
    rfl
def partsT (sub : St → RT) : Nat → Nat → RT → RT
  | 0, _, r => r
  | f + 1, k, r => if isQ T [44] r.2 = true then
      let l := leafT T r.2
      let s := if k = 8 then failQ T 15 l.2 else l.2
      partsT sub f (k + 1) (r.1 ++ l.1 ++ (sub s).1, (sub s).2)
    else r
theorem parts_m {sub : St → RQ} {subT : St → RT} (h : ∀ s, sub s = im T (subT s)) : ∀ f k r, partsQ T sub f k (im T r) = im T (partsT T subT f k r)
  | 0, k, r => rfl
  | f + 1, k, r => by
    unfold partsQ partsT
    simp only []
    rw [im_ite, im_snd, ← parts_m h f, leaf_m]
    simp only [im_snd, h, im_fst]
    simp only [im, dmps_append]

structure NxT where
  expr : St → RT
  formula : St → RT
  nots : St → RT
  factor : St → RT
structure NxM (nx : Nx) (nt : NxT) : Prop where
  expr : ∀ s, nx.expr s = im T (nt.expr s)
  formula : ∀ s, nx.formula s = im T (nt.formula s)
  nots : ∀ s, nx.nots s = im T (nt.nots s)
  factor : ∀ s, nx.factor s = im T (nt.factor s)
end

section
variable (T : List Tok) (D n : Nat) (nt : NxT)
def argsT (s : St) : RT := partsT T nt.expr (fuelQ T (nt.expr s).2) 1 (nt.expr s)
def nameBT (a : RT) : RT := if isQ T [46] a.2 = true then (a.1 ++ (leafT T a.2).1 ++ (kindT T 1 (leafT T a.2).2).1, (kindT T 1 (leafT T a.2).2).2) else a
def nameCT (b : RT) : RT := (b.1 ++ (mustT T [40] b.2).1, (mustT T [40] b.2).2)
def nameDT (c : RT) : RT := if isQ T [41] c.2 = true then c else (c.1 ++ (argsT T nt c.2).1, (argsT T nt c.2).2)
def nameET (d : RT) : RT := ([.nd 13 (d.1 ++ (mustT T [41] d.2).1)], (mustT T [41] d.2).2)
def nameT (s : St) : RT :=
  if (leafT T s).2.inn = true ∨ (isQ T [46] (leafT T s).2 = false ∧ isQ T [40] (leafT T s).2 = false) then ([.nd 14 (leafT T s).1], (leafT T s).2)
  else nameET T (nameDT T nt (nameCT T (nameBT T (leafT T s))))
def atomT (s : St) : RT :=
  if s.e ≠ 0 then ([], s)
  else if (tokQ T s).kind = 3 then ([.nd 15 (leafT T s).1], (leafT T s).2)
  else if isQ T [116, 114, 117, 101] s = true ∨ isQ T [102, 97, 108, 115, 101] s = true then ([.nd 16 (leafT T s).1], (leafT T s).2)
  else if s.inn = true ∧ isQ T [114, 101, 115] s = true then ([.nd 17 (leafT T s).1], (leafT T s).2)
  else if isQ T [40] s = true then
    let l := leafT T s
    let b := nt.expr l.2
    let c := mustT T [41] b.2
    ([.nd 12 (l.1 ++ b.1 ++ c.1)], c.2)
  else if (tokQ T s).kind = 1 then nameT T nt s
  else ([], failQ T 22 s)
def signT (sub : St → RT) (s : St) : RT :=
  let l := leafT T s
  let t := nestQ T D (n + 1) l.2
  if t.e ≠ 0 then ([], t) else ([.nd 11 (l.1 ++ (sub t).1)], (sub t).2)
def factorT (s : St) : RT := if isQ T [45] s = true then signT T D n nt.factor s else atomT T nt s
def productT (s : St) : RT := rwT T (isMul T) (factorT T D n nt) (fuelQ T (factorT T D n nt s).2) (factorT T D n nt s)
def sumT (s : St) : RT := rwT T (isAdd T) (productT T D n nt) (fuelQ T (productT T D n nt s).2) (productT T D n nt s)
def notT (s : St) : RT :=
  if isQ T [110, 111, 116] s = true then signT T D n nt.nots s
  else
    let a := sumT T D n nt s
    if isCmp T a.2 = true then
      let l := leafT T a.2
      let b := sumT T D n nt l.2
      ([.nd 10 (a.1 ++ l.1 ++ b.1)], b.2)
    else a
def andT (s : St) : RT := rwT T (isQ T [38, 38]) (notT T D n nt) (fuelQ T (notT T D n nt s).2) (notT T D n nt s)
def orT (s : St) : RT := rwT T (isQ T [124, 124]) (andT T D n nt) (fuelQ T (andT T D n nt s).2) (andT T D n nt s)
def formulaT (s : St) : RT :=
  let a := orT T D n nt s
  if isQ T [61, 62] a.2 = true then
    let l := leafT T a.2
    let t := nestQ T D (n + 1) l.2
    if t.e ≠ 0 then ([], t) else ([.nd 10 (a.1 ++ l.1 ++ (nt.formula t).1)], (nt.formula t).2)
  else a
def letT (s : St) : RT :=
  let l := leafT T s
  let k := kindT T 1 l.2
  let q := mustT T [61] k.2
  let a := nt.expr q.2
  let i := mustT T [105, 110] a.2
  let b := nt.expr i.2
  ([.nd 7 (l.1 ++ k.1 ++ q.1 ++ a.1 ++ i.1 ++ b.1)], b.2)
def ifT (s : St) : RT :=
  let l := leafT T s
  let a := nt.expr l.2
  let t := mustT T [116, 104, 101, 110] a.2
  let b := nt.expr t.2
  let e := mustT T [101, 108, 115, 101] b.2
  let c := nt.expr e.2
  ([.nd 8 (l.1 ++ a.1 ++ t.1 ++ b.1 ++ e.1 ++ c.1)], c.2)
def assertT (s : St) : RT :=
  let l := leafT T s
  let a := nt.expr l.2
  let i := mustT T [105, 110] a.2
  let b := nt.expr i.2
  ([.nd 9 (l.1 ++ a.1 ++ i.1 ++ b.1)], b.2)
def exprT (s : St) : RT :=
  let t := nestQ T D n s
  if t.e ≠ 0 then ([], t)
  else if t.inn = false ∧ isQ T [108, 101, 116] t = true then letT T nt t
  else if t.inn = false ∧ isQ T [105, 102] t = true then ifT T nt t
  else if t.inn = false ∧ isQ T [97, 115, 115, 101, 114, 116] t = true then assertT T nt t
  else formulaT T D n nt t

variable {nx : Nx} (h : NxM T nx nt)
include h
theorem args_m (s : St) : argsQ T nx s = im T (argsT T nt s) := by
  unfold argsQ argsT; rw [h.expr, parts_m T h.expr]; rfl
omit h in
theorem nameB_m (a : RT) : nameB T (im T a) = im T (nameBT T a) := by
  unfold nameB nameBT; rw [im_ite]; simp only [im_snd, leaf_m, kind_m, im_fst]; simp only [im, dmps_append]
omit h in
theorem nameC_m (a : RT) : nameC T (im T a) = im T (nameCT T a) := by
  unfold nameC nameCT; simp only [im_snd, must_m, im_fst]; simp only [im, dmps_append]
theorem nameD_m (a : RT) : nameD T nx (im T a) = im T (nameDT T nt a) := by
  unfold nameD nameDT; rw [im_ite]; simp only [im_snd, args_m T nt h, im_fst]; simp only [im, dmps_append]
omit h in
theorem nameE_m (a : RT) : nameE T (im T a) = im T (nameET T a) := by
  unfold nameE nameET; simp only [im_snd, must_m, im_fst]; simp only [im, dmps_append, dmps_node]; simp [digT]
theorem name_m (s : St) : nameQ T nx s = im T (nameT T nt s) := by
  have e : (leafT T s).2 = (leafQ T s).2 := rfl
  unfold nameQ nameT
  by_cases hc : (leafQ T s).2.inn = true ∨ (isQ T [46] (leafQ T s).2 = false ∧ isQ T [40] (leafQ T s).2 = false)
  · have hc2 := hc
    rw [← e] at hc2
    rw [if_pos hc, if_pos hc2, leaf_m]; simp only [im, dmps_node]; rfl
  · have hc2 := hc
    rw [← e] at hc2
    rw [if_neg hc, if_neg hc2, leaf_m, nameB_m, nameC_m, nameD_m T nt h, nameE_m]
theorem atom_m (s : St) : atomQ T nx s = im T (atomT T nt s) := by
  unfold atomQ atomT
  simp only [im_ite, leaf_m, im_snd, im_fst, h.expr, must_m, name_m T nt h]
  simp only [im, dmps_node, dmps_append, dmps_nil]; simp [digT]
omit h in
theorem sign_m {sub : St → RQ} {subT : St → RT} (hs : ∀ s, sub s = im T (subT s)) (s : St) : signQ T D n sub s = im T (signT T D n subT s) := by
  unfold signQ signT
  simp only [im_ite, leaf_m, im_snd, im_fst, hs]
  simp only [im, dmps_node, dmps_append, dmps_nil]; simp [digT]
theorem factor_m (s : St) : factorQ T D n nx s = im T (factorT T D n nt s) := by
  unfold factorQ factorT; rw [im_ite, sign_m T D n h.factor, atom_m T nt h]
theorem product_m (s : St) : productQ T D n nx s = im T (productT T D n nt s) := by
  unfold productQ productT; rw [factor_m T D n nt h, row_m T (factor_m T D n nt h)]; rfl
theorem sum_m (s : St) : sumQ T D n nx s = im T (sumT T D n nt s) := by
  unfold sumQ sumT; rw [product_m T D n nt h, row_m T (product_m T D n nt h)]; rfl
theorem not_m (s : St) : notQ T D n nx s = im T (notT T D n nt s) := by
  unfold notQ notT
  simp only [im_ite, sign_m T D n h.nots, sum_m T D n nt h, leaf_m, im_snd, im_fst]
  simp only [im, dmps_node, dmps_append, dmps_nil]; simp [digT]
theorem and_m (s : St) : andQ T D n nx s = im T (andT T D n nt s) := by
  unfold andQ andT; rw [not_m T D n nt h, row_m T (not_m T D n nt h)]; rfl
theorem or_m (s : St) : orQ T D n nx s = im T (orT T D n nt s) := by
  unfold orQ orT; rw [and_m T D n nt h, row_m T (and_m T D n nt h)]; rfl
theorem formula_m (s : St) : formulaQ T D n nx s = im T (formulaT T D n nt s) := by
  unfold formulaQ formulaT
  simp only [im_ite, or_m T D n nt h, leaf_m, im_snd, im_fst, h.formula]
  simp only [im, dmps_node, dmps_append, dmps_nil]; simp [digT]
theorem let_m (s : St) : letQ T nx s = im T (letT T nt s) := by
  unfold letQ letT
  simp only [leaf_m, im_snd, im_fst, h.expr, must_m, kind_m]
  simp only [im, dmps_node, dmps_append, dmps_nil]; simp [digT]
theorem if_m (s : St) : ifQ T nx s = im T (ifT T nt s) := by
  unfold ifQ ifT
  simp only [leaf_m, im_snd, im_fst, h.expr, must_m, kind_m]
  simp only [im, dmps_node, dmps_append, dmps_nil]; simp [digT]
theorem assert_m (s : St) : assertQ T nx s = im T (assertT T nt s) := by
  unfold assertQ assertT
  simp only [leaf_m, im_snd, im_fst, h.expr, must_m, kind_m]
  simp only [im, dmps_node, dmps_append, dmps_nil]; simp [digT]
theorem expr_m (s : St) : exprQ T D n nx s = im T (exprT T D n nt s) := by
  unfold exprQ exprT
  simp only [im_ite, let_m T nt h, if_m T nt h, assert_m T nt h, formula_m T D n nt h]
  simp only [im, dmps_nil]
end

def nxT (T : List Tok) (D : Nat) : Nat → NxT
  | 0 => { expr := fun s => ([], nestQ T D (D + 1) s), formula := fun s => ([], s), nots := fun s => ([], s), factor := fun s => ([], s) }
  | d + 1 => { expr := exprT T D (D - d) (nxT T D d), formula := formulaT T D (D - d) (nxT T D d), nots := notT T D (D - d) (nxT T D d), factor := factorT T D (D - d) (nxT T D d) }
theorem nx_m (T : List Tok) (D : Nat) : ∀ d, NxM T (nxQ T D d) (nxT T D d)
  | 0 => ⟨fun s => by simp [nxQ, nxT, im, dmps], fun s => by simp [nxQ, nxT, im, dmps], fun s => by simp [nxQ, nxT, im, dmps], fun s => by simp [nxQ, nxT, im, dmps]⟩
  | d + 1 => ⟨expr_m T D _ _ (nx_m T D d), formula_m T D _ _ (nx_m T D d), not_m T D _ _ (nx_m T D d), factor_m T D _ _ (nx_m T D d)⟩
end Go.Proofs.YtddccnpohpaofaaGreatDoor
namespace Go.Proofs.YtddccnpohpaofaaGreatDoor.Mx

def V (b : Nat) (f : Nat → Nat) (o : Nat) : Nat → Nat
  | 0 => 0
  | n + 1 => V b f o n + f (o + n) * b ^ n

variable {b : Nat} {f g : Nat → Nat} {o p n m : Nat}

theorem V_succ : V b f o (n + 1) = V b f o n + f (o + n) * b ^ n := rfl

theorem V_congr (h : ∀ j, j < n → f (o + j) = g (p + j)) : V b f o n = V b g p n := by
  induction n with
  | zero => rfl
  | succ n ih => rw [V_succ, V_succ, ih (fun j hj => h j (by omega)), h n (by omega)]

theorem V_zeros (h : ∀ j, j < n → f (o + j) = 0) : V b f o n = 0 := by
  induction n with
  | zero => rfl
  | succ n ih => rw [V_succ, ih (fun j hj => h j (by omega)), h n (by omega)]; simp

theorem V_lt (h : ∀ j, j < n → f (o + j) < b) : V b f o n < b ^ n := by
  induction n with
  | zero => simp [V]
  | succ n ih =>
    have h1 := ih (fun j hj => h j (by omega))
    have h2 : f (o + n) + 1 ≤ b := h n (by omega)
    have h3 : (f (o + n) + 1) * b ^ n ≤ b * b ^ n := Nat.mul_le_mul_right _ h2
    rw [V_succ, Nat.pow_succ, Nat.mul_comm (b ^ n) b]
    rw [Nat.add_mul] at h3
    omega

theorem V_split (m : Nat) : V b f o (m + n) = V b f o m + b ^ m * V b f (o + m) n := by
  induction n with
  | zero => simp [V]
  | succ n ih =>
    rw [← Nat.add_assoc, V_succ, ih, V_succ, Nat.pow_add, Nat.add_assoc o m n]
    grind

theorem V_front : V b f o (n + 1) = f o + b * V b f (o + 1) n := by
  rw [Nat.add_comm n 1, V_split]; simp [V]

theorem V_ge (h : f (o + n) ≠ 0) : b ^ n ≤ V b f o (n + 1) := by
  have : 1 * b ^ n ≤ f (o + n) * b ^ n := Nat.mul_le_mul_right _ (by omega)
  rw [V_succ]; omega

theorem V_top (h : n = 0 ∨ f (o + n - 1) ≠ 0) : n = 0 ∨ b ^ (n - 1) ≤ V b f o n := by
  cases n with
  | zero => exact .inl rfl
  | succ n => exact .inr (V_ge (by simpa using h))

theorem V_pad (h : ∀ j, n ≤ j → j < m → f (o + j) = 0) (hnm : n ≤ m) : V b f o m = V b f o n := by
  obtain ⟨k, rfl⟩ : ∃ k, m = n + k := ⟨m - n, by omega⟩
  rw [V_split, V_zeros (n := k) (fun j hj => by rw [Nat.add_assoc]; exact h (n + j) (by omega) (by omega))]; simp

/-- A digit is read off the number. -/
theorem V_digit (hb : 0 < b) (h : ∀ j, j < n → f (o + j) < b) {j : Nat} (hj : j < n) : V b f o n / b ^ j % b = f (o + j) := by
  obtain ⟨k, rfl⟩ : ∃ k, n = j + (k + 1) := ⟨n - j - 1, by omega⟩
  have hlt : V b f o j < b ^ j := V_lt (fun i hi => h i (by omega))
  have hp : 0 < b ^ j := Nat.pow_pos hb
  rw [V_split, Nat.add_mul_div_left _ _ hp, Nat.div_eq_of_lt hlt, Nat.zero_add, V_front, Nat.add_mul_mod_self_left, Nat.mod_eq_of_lt (h j (by omega))]

/-- The digits that stand from `o` on after a write at `k`. -/
def upd (f : Nat → Nat) (k x : Nat) : Nat → Nat := fun j => if j = k then x else f j
theorem upd_at (k x : Nat) : upd f k x k = x := by simp [upd]
theorem upd_ne {k j x : Nat} (h : j ≠ k) : upd f k x j = f j := by simp [upd, h]

theorem V_upd_out {k x : Nat} (h : k < o ∨ o + n ≤ k) : V b (upd f k x) o n = V b f o n :=
  V_congr (fun j hj => upd_ne (by omega))

end Go.Proofs.YtddccnpohpaofaaGreatDoor.Mx
namespace Go.Proofs.YtddccnpohpaofaaGreatDoor.Zd
open Go.RowKit

def Bw : Nat := 18446744073709551616
theorem val_of {k : IntKind} {a b : Int} (h : a = b) : Value.int k a = Value.int k b := by rw [h]
theorem Bw_pos : 0 < Bw := by unfold Bw; omega

/-- The n numbers f 0 .. that a slice at p reads as in w. -/
def At (k : IntKind) (w : World) (p : Option Addr) (n : Nat) (f : Nat → Nat) : Prop :=
  n = 0 ∨ ∃ g off, p = some ⟨g, off, none⟩ ∧ g < w.heap.size ∧ ∀ j, j < n → w.cell? ⟨g, off + j, none⟩ = some (.int k (f j))

theorem At.pre {k : IntKind} {w : World} {p : Option Addr} {n m : Nat} {f : Nat → Nat} (h : At k w p n f) (hm : m ≤ n) : At k w p m f := by
  rcases h with h | ⟨g, off, rfl, hg, hc⟩
  · exact .inl (by omega)
  · exact .inr ⟨g, off, rfl, hg, fun j hj => hc j (by omega)⟩

theorem At.grown {k : IntKind} {w w' : World} {p : Option Addr} {n : Nat} {f : Nat → Nat} {row : Option Nat} (h : At k w p n f) (hb : w.grownBy w' row) (hB : ∀ a, p = some a → some a.block ≠ row) : At k w' p n f := by
  rcases h with h | ⟨g, off, rfl, hg, hc⟩
  · exact .inl h
  · exact .inr ⟨g, off, rfl, Nat.lt_of_lt_of_le hg hb.size, fun j hj => hb.cell (hc j hj) (show some g ≠ row from hB ⟨g, off, none⟩ rfl)⟩

/-- A block of M numbers, f 0 .., that may be written. -/
def Blk (k : IntKind) (w : World) (g M : Nat) (f : Nat → Nat) : Prop :=
  ∃ cur T, w.heap[g]? = some (.cells cur T (0, 0)) ∧ cur.size = M ∧ ∀ j, j < M → cur[j]? = some (.int k (f j))

section
variable {k : IntKind} {w w' : World} {g M : Nat} {f : Nat → Nat}
theorem Blk.lt (h : Blk k w g M f) : g < w.heap.size := by
  obtain ⟨cur, T, hg, _⟩ := h
  exact (Array.getElem?_eq_some_iff.1 hg).1
theorem Blk.cell (h : Blk k w g M f) {j : Nat} (hj : j < M) : w.cell? ⟨g, j, none⟩ = some (.int k (f j)) := by
  obtain ⟨cur, T, hg, _, hc⟩ := h
  rw [cell_of_row w g j cur T (0, 0) hg]; exact hc j hj
theorem Blk.free (h : Blk k w g M f) (j : Nat) : w.frozen? ⟨g, j, none⟩ = false := by
  obtain ⟨cur, T, hg, _, hc⟩ := h
  simp [World.frozen?, hg]
theorem Blk.set (h : Blk k w g M f) {j : Nat} (x : Nat) : Blk k (w.setCell ⟨g, j, none⟩ (.int k x)) g M (Mx.upd f j x) := by
  obtain ⟨cur, T, hg, hs, hc⟩ := h
  refine ⟨cur.setIfInBounds j (.int k x), T, ?_, by simpa using hs, fun i hi => ?_⟩
  · simp only [World.setCell, Array.getElem?_modify, hg, if_true, Option.map_some]; rfl
  · rw [Array.getElem?_setIfInBounds]
    by_cases e : j = i
    · subst e; simp [Mx.upd, hs, hi]
    · rw [if_neg e, hc i hi]; simp [Mx.upd, Ne.symm e]
theorem Blk.kept {row : Option Nat} (h : Blk k w g M f) (hg : w.grownBy w' row) (hne : some g ≠ row) : Blk k w' g M f := by
  obtain ⟨cur, T, hh, r⟩ := h
  exact ⟨cur, T, by rw [hg.block g (Array.getElem?_eq_some_iff.1 hh).1 hne]; exact hh, r⟩
theorem Blk.at0 (h : Blk k w g M f) : At k w (some ⟨g, 0, none⟩) M f :=
  .inr ⟨g, 0, rfl, h.lt, fun j hj => by rw [Nat.zero_add]; exact h.cell hj⟩
end

section
variable {w a b c : World} {row : Option Nat}
theorem gb_refl (w : World) (row : Option Nat) : w.grownBy w row := ⟨rfl, rfl, rfl, Nat.le_refl _, fun _ _ _ => rfl⟩
theorem gb_trans (h : a.grownBy b row) (k : b.grownBy c row) : a.grownBy c row :=
  ⟨k.os.trans h.os, k.tape.trans h.tape, k.output.trans h.output, Nat.le_trans h.size k.size, fun i hi hr => (k.block i (Nat.lt_of_lt_of_le hi h.size) hr).trans (h.block i hi hr)⟩
theorem gb_drew (h : a.grownBy b row) : a.grownBy b.drew row := ⟨h.os, h.tape, h.output, h.size, h.block⟩
theorem gb_drewN (h : a.grownBy b row) (n : Nat) : a.grownBy (b.drewN n) row := ⟨h.os, h.tape, h.output, h.size, h.block⟩
theorem gb_alloc (h : a.grownBy b row) (o : Obj) : a.grownBy (b.alloc o) row := gb_trans h (World.grownBy_alloc b o row)
theorem gb_set {g j : Nat} (h : a.grownBy b (some g)) (u : Value) : a.grownBy (b.setCell ⟨g, j, none⟩ u) (some g) :=
  gb_trans h ⟨rfl, rfl, rfl, by simp [World.setCell], fun i _ hr => Below.heap_setCell _ _ _ _ (by intro e; apply hr; rw [e])⟩
theorem gb_below (h : a.grownBy b none) : Below a.heap.size a b := ⟨h.os, h.tape, h.output, h.size, fun k hk => h.block k hk (by simp)⟩
theorem bcell (hb : a.grownBy b none) : (∀ k o, k < a.heap.size → b.cell? ⟨k, o, none⟩ = a.cell? ⟨k, o, none⟩) ∧ (∀ k o, k < a.heap.size → b.frozen? ⟨k, o, none⟩ = a.frozen? ⟨k, o, none⟩) :=
  ⟨fun k o h => (gb_below hb).cell (p := ⟨k, o, none⟩) h, fun k o h => (gb_below hb).frozen (p := ⟨k, o, none⟩) h⟩
theorem below_gb (h : Below a.heap.size a b) : a.grownBy b row := ⟨h.os, h.tape, h.output, h.size, fun k hk _ => h.block k hk⟩
/-- Behind a new block, and writes to it alone, nothing that was there has turned. -/
theorem gb_new {g : Nat} (h : Below a.heap.size a b) (hg : a.heap.size ≤ g) (k : b.grownBy c (some g)) : Below a.heap.size a c :=
  ⟨k.os.trans h.os, k.tape.trans h.tape, k.output.trans h.output, Nat.le_trans h.size k.size, fun i hi => (k.block i (Nat.lt_of_lt_of_le hi h.size) (by simp; omega)).trans (h.block i hi)⟩
end

section
variable {P : Program} {f : FuncId} {args : Array Value} {w : World} {a n : Nat} {v : Value}
/-- A callee that leaves the world alone, inside a region that only reads: behind no draws, and behind some. -/
theorem q1 (c : ∀ W : World, Calls P f args W fun e w' => e = .returned v ∧ W = w') : Calls P f args (w.drewN n) fun e w'' => e = .returned v ∧ ∃ m, w'' = w.drewN m :=
  (c _).mono fun _ _ ⟨he, hm⟩ => ⟨he, n, hm.symm⟩
theorem q2 (c : ∀ W : World, Calls P f args W fun e w' => e = .returned v ∧ W = w') : Calls P f args (w.drewN (a + n)) fun e w'' => e = .returned v ∧ ∃ m, w'' = w.drewN (a + m) :=
  (c _).mono fun _ _ ⟨he, hm⟩ => ⟨he, n, hm.symm⟩
/-- The same of a callee that draws. -/
theorem q3 (c : ∀ W : World, Calls P f args W fun e w' => e = .returned v ∧ ∃ m, w' = W.drewN m) : Calls P f args (w.drewN n) fun e w'' => e = .returned v ∧ ∃ m, w'' = w.drewN m :=
  (c _).mono fun _ _ ⟨he, m, hm⟩ => ⟨he, n + m, by rw [hm, World.drewN_drewN]⟩
theorem q4 (c : ∀ W : World, Calls P f args W fun e w' => e = .returned v ∧ ∃ m, w' = W.drewN m) : Calls P f args (w.drewN (a + n)) fun e w'' => e = .returned v ∧ ∃ m, w'' = w.drewN (a + m) :=
  (c _).mono fun _ _ ⟨he, m, hm⟩ => ⟨he, n + m, by rw [hm, World.drewN_drewN, Nat.add_assoc]⟩
end

theorem add64_run (x y c : Nat) (hc : c ≤ 1) (hx : x < Bw) (hy : y < Bw) : ∃ s c' : Nat, (∀ w, (callFunc 57 #[.int .u64 x, .int .u64 y, .int .u64 c]).run Tryz.prog w = .ok (.value (.tuple #[.int .u64 s, .int .u64 c'])) w) ∧ s < Bw ∧ c' ≤ 1 ∧ s + c' * Bw = x + y + c := by
  unfold Bw at *
  refine ⟨(x + y + c) % 18446744073709551616, (x + y + c) / 18446744073709551616, fun w => ?_, ?_, ?_, ?_⟩
  · rw [run_callFunc_extern Tryz.func57 (by kernel_rfl) (by kernel_rfl) (by kernel_rfl) (e := add64Entry) (by kernel_rfl), run_add64 x y c (by omega) (by omega) (by omega) (by omega)]
    simp only [Result.andThen]
    congr 5 <;> omega
  · omega
  · omega
  · omega

theorem mul64_c (x y : Nat) (hx : x < Bw) (hy : y < Bw) : ∃ hi lo : Nat, (∀ w, Calls Tryz.prog 56 #[.int .u64 x, .int .u64 y] w fun e w' => e = .returned (.tuple #[.int .u64 hi, .int .u64 lo]) ∧ w = w') ∧ hi < Bw ∧ lo < Bw ∧ hi * Bw + lo = x * y := by
  refine ⟨x * y / 18446744073709551616, x * y % 18446744073709551616, fun w => (Tryz.bits_Mul64 x y hx hy w).mono (by rintro e w' ⟨h1, h2⟩; exact ⟨h1, h2.symm⟩), ?_, ?_, ?_⟩
  · have : x * y < 18446744073709551616 * 18446744073709551616 := Nat.mul_lt_mul'' hx hy
    unfold Bw; omega
  · unfold Bw; omega
  · unfold Bw; omega

end Go.Proofs.YtddccnpohpaofaaGreatDoor.Zd
namespace Go.Proofs.YtddccnpohpaofaaGreatDoor.Mx

/-- u * 2^32 + d by Y = yn1 * 2^32 + yn0. -/
structure Half (u d Y yn1 yn0 : Nat) : Prop where
  hY : Y = yn1 * 4294967296 + yn0
  h0 : yn0 < 4294967296
  h1 : 2147483648 ≤ yn1
  h2 : yn1 < 4294967296
  hu : u < Y
  hd : d < 4294967296

section
variable {u d Y yn1 yn0 q r : Nat}

theorem Half.pos (h : Half u d Y yn1 yn0) : 0 < Y := by have := h.hY; have := h.h1; omega

theorem Half.lt (h : Half u d Y yn1 yn0) : (u * 4294967296 + d) / Y < 4294967296 := by
  rw [Nat.div_lt_iff_lt_mul h.pos]
  have := h.hu; have := h.hd; omega

theorem mulY (h : Half u d Y yn1 yn0) (e : q * yn1 + r = u) : q * Y + r * 4294967296 = u * 4294967296 + q * yn0 := by
  rw [h.hY, ← e]; grind

theorem Half.stop (h : Half u d Y yn1 yn0) (e : q * yn1 + r = u) (hQ : (u * 4294967296 + d) / Y ≤ q) (t : q * yn0 ≤ 4294967296 * r + d) : q = (u * 4294967296 + d) / Y := by
  have m := mulY h e
  have : q ≤ (u * 4294967296 + d) / Y := by
    rw [Nat.le_div_iff_mul_le h.pos]; omega
  omega

theorem Half.more (h : Half u d Y yn1 yn0) (e : q * yn1 + r = u) (t : 4294967296 ≤ q ∨ 4294967296 * r + d < q * yn0) : (u * 4294967296 + d) / Y < q := by
  rcases t with t | t
  · have := h.lt; omega
  · have m := mulY h e
    rw [Nat.div_lt_iff_lt_mul h.pos]; omega

theorem Half.brk (h : Half u d Y yn1 yn0) (e : q * yn1 + r = u) (hQ : (u * 4294967296 + d) / Y ≤ q) (hr : 4294967296 ≤ r) (hq : q ≤ 4294967296) : q = (u * 4294967296 + d) / Y := by
  have m := mulY h e
  have : q * yn0 ≤ 4294967296 * 4294967295 := Nat.mul_le_mul hq (by have := h.h0; omega)
  have : q ≤ (u * 4294967296 + d) / Y := by
    rw [Nat.le_div_iff_mul_le h.pos]; omega
  omega

theorem Half.start (h : Half u d Y yn1 yn0) : (u / yn1) * yn1 + u % yn1 = u ∧ (u * 4294967296 + d) / Y ≤ u / yn1 ∧ u / yn1 ≤ 4294967297 ∧ u % yn1 < 4294967296 ∧ 0 < yn1 := by
  have h1 := h.h1; have h2 := h.h2; have hu := h.hu; have hY := h.hY; have h0 := h.h0; have hd := h.hd
  have e : (u / yn1) * yn1 + u % yn1 = u := by rw [Nat.mul_comm]; exact Nat.div_add_mod u yn1
  have hm : u % yn1 < yn1 := Nat.mod_lt _ (by omega)
  refine ⟨e, ?_, ?_, by omega, by omega⟩
  · rw [Nat.le_div_iff_mul_le (by omega)]
    have k : (u * 4294967296 + d) / Y * Y ≤ u * 4294967296 + d := Nat.div_mul_le_self _ _
    generalize (u * 4294967296 + d) / Y = Q at *
    have e2 : Q * Y = Q * yn1 * 4294967296 + Q * yn0 := by rw [hY]; grind
    omega
  · have : u / yn1 < 4294967298 := by
      rw [Nat.div_lt_iff_lt_mul (by omega)]; omega
    omega

theorem Half.rest (h : Half u d Y yn1 yn0) : (u * 4294967296 + d) % Y < Y ∧ (u * 4294967296 + d) / Y * Y + (u * 4294967296 + d) % Y = u * 4294967296 + d := by
  refine ⟨Nat.mod_lt _ h.pos, ?_⟩
  rw [Nat.mul_comm]; exact Nat.div_add_mod _ _
end

open Go.Lib in
theorem bitLenAux_b : ∀ (f x : Nat), x < 2 ^ f → x < 2 ^ bitLenAux f x ∧ (x ≠ 0 → 2 ^ bitLenAux f x ≤ 2 * x) ∧ bitLenAux f x ≤ f
  | 0, x, h => by simp at h; subst h; simp [bitLenAux]
  | f + 1, x, h => by
    rw [Nat.pow_succ] at h
    obtain ⟨a, b, c⟩ := bitLenAux_b f (x / 2) (by omega)
    by_cases h0 : x = 0
    · subst h0; simp [bitLenAux]
    · have e : bitLenAux (f + 1) x = 1 + bitLenAux f (x / 2) := by simp [bitLenAux, h0]
      rw [e, Nat.pow_add]
      refine ⟨by omega, fun _ => ?_, by omega⟩
      by_cases h1 : x / 2 = 0
      · have : bitLenAux f (x / 2) = 0 := by rw [h1]; cases f <;> simp [bitLenAux]
        rw [this]; omega
      · have := b h1; omega

/-- A word moved up till its highest bit is set. -/
theorem shift_of (y : Nat) (h0 : 0 < y) (h : y < 18446744073709551616) : ∃ s, s ≤ 63 ∧ Go.Lib.bitLen y + s = 64 ∧ y * 2 ^ s < 18446744073709551616 ∧ 9223372036854775808 ≤ y * 2 ^ s := by
  obtain ⟨a, b, c⟩ := bitLenAux_b 64 y h
  have b := b (by omega)
  change y < 2 ^ Go.Lib.bitLen y at a
  change 2 ^ Go.Lib.bitLen y ≤ 2 * y at b
  change Go.Lib.bitLen y ≤ 64 at c
  have hpos : Go.Lib.bitLen y ≠ 0 := by intro e; rw [e] at a; omega
  obtain ⟨s, hs⟩ : ∃ s, Go.Lib.bitLen y + s = 64 := ⟨64 - Go.Lib.bitLen y, by omega⟩
  have hp : 2 ^ Go.Lib.bitLen y * 2 ^ s = 18446744073709551616 := by rw [← Nat.pow_add, hs]
  have hs0 : 0 < 2 ^ s := Nat.pow_pos (by omega)
  refine ⟨s, by omega, hs, ?_, ?_⟩
  · calc y * 2 ^ s < 2 ^ Go.Lib.bitLen y * 2 ^ s := Nat.mul_lt_mul_of_pos_right a hs0
      _ = _ := hp
  · have : 2 ^ Go.Lib.bitLen y * 2 ^ s ≤ 2 * y * 2 ^ s := Nat.mul_le_mul_right _ b
    rw [hp, Nat.mul_assoc] at this
    omega
end Go.Proofs.YtddccnpohpaofaaGreatDoor.Mx
namespace Go.Proofs.YtddccnpohpaofaaGreatDoor
open Go.RowKit

theorem OwnG.blkS {s : Nat} {T : TypeId} {w : World} {base g n c : Nat} {l : List (List Value)} (h : OwnG s T w base (.slice (some ⟨g, 0, none⟩) n c) l) : base ≤ g ∧ ∃ cur, w.heap[g]? = some (.cells cur T (0, 0)) := by
  rcases h.1.2 with ⟨h1, h0⟩ | ⟨g', cap, cur, e, hb, hg, r⟩
  · cases h1
  · injection e with e1 e2 e3
    injection e1 with e1
    injection e1 with e1
    subst e1
    exact ⟨hb, cur, hg⟩

theorem OwnG.popS {s n c : Nat} {T : TypeId} {w : World} {base : Nat} {p : Option Addr} {l : List (List Value)} {q : List Value} (h : OwnG s T w base (.slice p n c) (l ++ [q])) : n = l.length + 1 ∧ OwnG s T w base (.slice p l.length c) l ∧ ∃ g, p = some ⟨g, 0, none⟩ := by
  have h2 := h.1
  have hw := h.2
  rw [List.length_append, List.length_singleton] at h2
  rcases h2.2 with ⟨e, h0⟩ | ⟨g, cap, cur, e, hb, hg, hnc, hcm, hsz, ht⟩
  · omega
  · injection e with e1 e2 e3
    subst e1; subst e2; subst e3
    refine ⟨rfl, ⟨⟨flat_len (fun q hq => hw q (List.mem_append_left _ hq)), .inr ⟨g, c, cur, rfl, hb, hg, by omega, hcm, hsz, ?_⟩⟩, fun q hq => hw q (List.mem_append_left _ hq)⟩, g, rfl⟩
    have hfl := flat_len (fun q hq => hw q (List.mem_append_left _ hq) : Wid s l)
    have h3 : (cur.toList.take ((l.length + 1) * s)).take (l.length * s) = l.flatten := by
      rw [ht, List.flatten_append, List.take_append_of_le_length (by omega), List.take_of_length_le (by omega)]
    rw [List.take_take, Nat.min_eq_left (Nat.mul_le_mul_right _ (by omega))] at h3
    exact h3
theorem OwnG.newS {s : Nat} {T : TypeId} (w : World) (base : Nat) (y : List Value) (hy : y.length = s) (h1 : ∀ u ∈ y, u.oneCell' = true) (hb : base ≤ w.heap.size) : OwnG s T (w.alloc (.cells y.toArray T)) base (.slice (some ⟨w.heap.size, 0, none⟩) 1 1) [y] := by
  refine ⟨⟨by simp [hy], .inr ⟨w.heap.size, 1, y.toArray, rfl, hb, heap_alloc_new w _, Nat.le_refl _, by unfold maxLen; omega, by simp [hy], ?_⟩⟩, fun q hq => by simp at hq; subst hq; exact ⟨hy, h1⟩⟩
  subst hy
  simp
theorem OwnG.last2S {n c g : Nat} {T : TypeId} {w : World} {base : Nat} {l : List (List Value)} {a b u : Value} (hu : u.oneCell' = true) (h : OwnG 2 T w base (.slice (some ⟨g, 0, none⟩) n c) (l ++ [[a, b]])) : OwnG 2 T (w.setCell ⟨g, l.length * 2 + 1, none⟩ u) base (.slice (some ⟨g, 0, none⟩) n c) (l ++ [[a, u]]) ∧ w.grownBy (w.setCell ⟨g, l.length * 2 + 1, none⟩ u) (some g) := by
  have hn := h.popS.1
  subst hn
  have hw := h.2
  have hwl : Wid 2 l := fun q hq => hw q (List.mem_append_left _ hq)
  have h1 := h.1
  rw [List.length_append, List.length_singleton] at h1
  have h2 := World.ownsRow.stored h1 (l.length * 2 + 1) u
  refine ⟨⟨?_, fun q hq => ?_⟩, h2.2⟩
  · have e : (l ++ [[a, u]]).flatten = ((l ++ [[a, b]]).flatten).set (l.length * 2 + 1) u := by
      rw [List.flatten_append, List.flatten_append, List.set_append, if_neg (by rw [flat_len hwl]; omega), flat_len hwl]
      simp
    rw [e, List.length_append, List.length_singleton]
    exact h2.1
  · rcases List.mem_append.1 hq with hq | hq
    · exact hwl q hq
    · simp at hq; subst hq
      refine ⟨rfl, fun v hv => ?_⟩
      simp at hv
      rcases hv with rfl | rfl
      · exact (hw [v, b] (by simp)).2 v (by simp)
      · exact hu
theorem OwnG.top2S {n c g : Nat} {T : TypeId} {w : World} {base : Nat} {l : List (List Value)} {a b : Value} (h : OwnG 2 T w base (.slice (some ⟨g, 0, none⟩) n c) (l ++ [[a, b]])) : w.cell? ⟨g, l.length * 2, none⟩ = some a ∧ w.cell? ⟨g, l.length * 2 + 1, none⟩ = some b ∧ (∀ j, w.frozen? ⟨g, j, none⟩ = false) ∧ g < w.heap.size ∧ l.length + 1 ≤ c ∧ c ≤ maxLen := by
  have hn := h.popS.1
  subst hn
  obtain ⟨p, c', e, hga, h1, h2, -⟩ := h.is
  injection e with e1 e2 e3
  subst e1; subst e3
  obtain ⟨g2, o2, hp2, hgl, hcs⟩ := hga.resolve_left (by simp)
  injection hp2 with hp2; injection hp2 with hp2 hp3; subst hp2 hp3
  have a0 := hcs l.length [a, b] (by simp) 0 _ rfl
  have a1 := hcs l.length [a, b] (by simp) 1 _ rfl
  rw [Nat.zero_add, Nat.add_zero] at a0
  rw [Nat.zero_add] at a1
  have h3 := h.1
  rw [List.length_append, List.length_singleton] at h3 h1
  exact ⟨a0, a1, fun j => World.ownsRow.frozenAt h3 j, hgl, h1, h2⟩
theorem OwnG.cellS {s n c g : Nat} {T : TypeId} {w : World} {base j i : Nat} {l : List (List Value)} {q : List Value} {v : Value} (h : OwnG s T w base (.slice (some ⟨g, 0, none⟩) n c) l) (hj : l[j]? = some q) (hi : q[i]? = some v) : w.cell? ⟨g, j * s + i, none⟩ = some v := by
  obtain ⟨p, c', e, hga, -⟩ := h.is
  injection e with e1 e2 e3
  subst e1
  obtain ⟨g2, o2, hp2, -, hcs⟩ := hga.resolve_left (fun e => by rw [e] at hj; simp at hj)
  injection hp2 with hp2; injection hp2 with hp2 hp3; subst hp2 hp3
  have := hcs j q hj i v hi
  rwa [Nat.zero_add] at this
theorem list_lastS {α : Type} (l : List α) : l = [] ∨ ∃ l' x, l = l' ++ [x] := by
  rcases List.eq_nil_or_concat l with h | ⟨l', x, h⟩
  · exact .inl h
  · exact .inr ⟨l', x, by simpa using h⟩

section
open Go.ChangeShapes Go.WideShapes Go.Deep
variable {H : Type} {enc : TypeId × Value → H} {P : Program} {w : World} {base : Nat} {spare : Nat → Bool} {held : Bool}

theorem open_rows {t e : TypeId} {s fuel : Nat} {v : Option Addr} {n c : Nat} {x : DataW H × List MemPlace} (ht : P.underlying t = some (.slice e)) (ce : P.cellsOf e = s) (hs : 0 < s)
    (h : DataW.trod enc P w base spare held fuel t [.slice v n c] = some x) : n ≤ c ∧ c ≤ maxLen ∧ ∃ q : Nat → List Value, (∀ j, j < n → (q j).length = s ∧ ∃ f' x', DataW.trod enc P w base spare held f' e (q j) = some x') ∧ GAt s w v ((List.range n).map q) := by
  rcases open_slice ht h with ⟨h0, -⟩ | ⟨a, len, cap, m, nn, Dd, Pl, hcs, hb, hl, hm, hmm, -, hx⟩
  · simp at h0
    obtain ⟨rfl, rfl, rfl⟩ := h0
    exact ⟨Nat.le_refl _, by omega, fun _ => [], fun j hj => by omega, .inl rfl⟩
  · simp at hcs
    obtain ⟨rfl, rfl, rfl⟩ := hcs
    have hlm : n ≤ m := by rw [hmm]; split <;> omega
    have each : ∀ i, i < n → ∃ q : List Value, q.length = s ∧ (∃ f' x', DataW.trod enc P w base spare held f' e q = some x') ∧ ∀ j, j < s → w.cell? (a.add (i * s + j)) = q[j]? := by
      intro i hi
      obtain ⟨cs', h1, h2⟩ := hx i (by omega)
      rw [ce] at h1
      obtain ⟨_, hlen, hcell⟩ := World.cells?_some h1
      refine ⟨cs', hlen, ⟨_, _, h2⟩, fun j hj => ?_⟩
      have := hcell j (by omega)
      rw [add_add] at this
      exact this
    refine ⟨hl, hm, ?_⟩
    obtain ⟨q, hq⟩ := choose_lt each
    refine ⟨q, fun j hj => ⟨(hq j hj).1, (hq j hj).2.1⟩, ?_⟩
    by_cases h0 : n = 0
    · subst h0; exact .inl rfl
    · have hs1 := (hq 0 (by omega)).2.2 0 hs
      have hq0 : ∃ u, (q 0)[0]? = some u := ⟨(q 0)[0]'(by rw [(hq 0 (by omega)).1]; exact hs), List.getElem?_eq_getElem _⟩
      obtain ⟨u, hu⟩ := hq0
      rw [hu] at hs1
      have hsp := World.cell?_spot hs1
      have hlt := World.block_lt_of_cell? w _ hs1
      obtain ⟨g, o, sp⟩ := a
      have hsp : sp = none := by simpa [Addr.add] using hsp
      subst hsp
      refine .inr ⟨g, o, rfl, by simpa [Addr.add] using hlt, fun j l hj i u hi => ?_⟩
      rw [List.getElem?_map] at hj
      obtain ⟨j', hj', rfl⟩ := Option.map_eq_some_iff.1 hj
      have hjn : j < n := by have := (List.getElem?_eq_some_iff.1 hj').1; simpa using this
      have : j' = j := by rw [List.getElem?_range hjn] at hj'; exact (Option.some.inj hj').symm
      subst this
      have his : i < s := by have := (List.getElem?_eq_some_iff.1 hi).1; rw [(hq j' hjn).1] at this; exact this
      have := (hq j' hjn).2.2 i his
      rw [Addr.add_lit, hi, ← Nat.add_assoc] at this
      exact this
end
end Go.Proofs.YtddccnpohpaofaaGreatDoor
