/- The reference's parser as a function: what it answers, where it stands then; how long its answers are. -/
import Derived.Test.YthclkbaankjbiaaGreatDoorEMath
namespace Go.Proofs.YthclkbaankjbiaaGreatDoor

structure St where
  i : Nat
  inn : Bool
  e : Nat
  pos : Nat
abbrev RQ := List UInt8 × St

def tokQ (T : List Tok) (s : St) : Tok := T[s.i]?.getD ⟨5, [], [], 0⟩
def failQ (T : List Tok) (n : Nat) (s : St) : St := if s.e = 0 then { s with e := n, pos := (tokQ T s).pos } else s
def isQ (T : List Tok) (w : List UInt8) (s : St) : Bool := decide (s.e = 0 ∧ ((tokQ T s).kind = 2 ∨ (tokQ T s).kind = 4) ∧ (tokQ T s).text = w)
def leafQ (T : List Tok) (s : St) : RQ := if (tokQ T s).kind = 5 then ([32, 36], s) else (32 :: (tokQ T s).text, { s with i := s.i + 1 })
def mustQ (T : List Tok) (w : List UInt8) (s : St) : RQ := if isQ T w s = true then leafQ T s else ([], failQ T 22 s)
def kindQ (T : List Tok) (k : Nat) (s : St) : RQ := if s.e = 0 ∧ (tokQ T s).kind = k then leafQ T s else ([], failQ T 22 s)
def nestQ (T : List Tok) (D n : Nat) (s : St) : St := if D < n then failQ T 23 s else s

/-- A row: what stands ahead, then each sign and what is behind it. -/
def rowQ (T : List Tok) (c : St → Bool) (sub : St → RQ) : Nat → RQ → RQ
  | 0, r => r
  | f + 1, r => if c r.2 = true then
      rowQ T c sub f ([32, 40, 49, 48] ++ r.1 ++ (leafQ T r.2).1 ++ (sub (leafQ T r.2).2).1 ++ [41], (sub (leafQ T r.2).2).2)
    else r
/-- Parts with commas between them: k have come. -/
def partsQ (T : List Tok) (sub : St → RQ) : Nat → Nat → RQ → RQ
  | 0, _, r => r
  | f + 1, k, r => if isQ T [44] r.2 = true then
      let l := leafQ T r.2
      let s := if k = 8 then failQ T 15 l.2 else l.2
      partsQ T sub f (k + 1) (r.1 ++ l.1 ++ (sub s).1, (sub s).2)
    else r

/-- What is nested by one more. -/
structure Nx where
  expr : St → RQ
  formula : St → RQ
  nots : St → RQ
  factor : St → RQ

section
variable (T : List Tok) (D n : Nat) (nx : Nx)
def fuelQ (s : St) : Nat := T.length - s.i + 1
def argsQ (s : St) : RQ := partsQ T nx.expr (fuelQ T (nx.expr s).2) 1 (nx.expr s)
def nameB (a : RQ) : RQ := if isQ T [46] a.2 = true then (a.1 ++ (leafQ T a.2).1 ++ (kindQ T 1 (leafQ T a.2).2).1, (kindQ T 1 (leafQ T a.2).2).2) else a
def nameC (b : RQ) : RQ := (b.1 ++ (mustQ T [40] b.2).1, (mustQ T [40] b.2).2)
def nameD (c : RQ) : RQ := if isQ T [41] c.2 = true then c else (c.1 ++ (argsQ T nx c.2).1, (argsQ T nx c.2).2)
def nameE (d : RQ) : RQ := ([32, 40, 49, 51] ++ d.1 ++ (mustQ T [41] d.2).1 ++ [41], (mustQ T [41] d.2).2)
def nameQ (s : St) : RQ :=
  if (leafQ T s).2.inn = true ∨ (isQ T [46] (leafQ T s).2 = false ∧ isQ T [40] (leafQ T s).2 = false) then ([32, 40, 49, 52] ++ (leafQ T s).1 ++ [41], (leafQ T s).2)
  else nameE T (nameD T nx (nameC T (nameB T (leafQ T s))))
def atomQ (s : St) : RQ :=
  if s.e ≠ 0 then ([], s)
  else if (tokQ T s).kind = 3 then ([32, 40, 49, 53] ++ (leafQ T s).1 ++ [41], (leafQ T s).2)
  else if isQ T [116, 114, 117, 101] s = true ∨ isQ T [102, 97, 108, 115, 101] s = true then ([32, 40, 49, 54] ++ (leafQ T s).1 ++ [41], (leafQ T s).2)
  else if s.inn = true ∧ isQ T [114, 101, 115] s = true then ([32, 40, 49, 55] ++ (leafQ T s).1 ++ [41], (leafQ T s).2)
  else if isQ T [40] s = true then
    let l := leafQ T s
    let b := nx.expr l.2
    let c := mustQ T [41] b.2
    ([32, 40, 49, 50] ++ l.1 ++ b.1 ++ c.1 ++ [41], c.2)
  else if (tokQ T s).kind = 1 then nameQ T nx s
  else ([], failQ T 22 s)
/-- A sign ahead of what is nested. -/
def signQ (sub : St → RQ) (s : St) : RQ :=
  let l := leafQ T s
  let t := nestQ T D (n + 1) l.2
  if t.e ≠ 0 then ([], t) else ([32, 40, 49, 49] ++ l.1 ++ (sub t).1 ++ [41], (sub t).2)
def factorQ (s : St) : RQ := if isQ T [45] s = true then signQ T D n nx.factor s else atomQ T nx s
def isMul (s : St) : Bool := isQ T [42] s || isQ T [47] s || isQ T [37] s
def isAdd (s : St) : Bool := isQ T [43] s || isQ T [45] s
def isCmp (s : St) : Bool := isQ T [61] s || isQ T [60, 62] s || isQ T [60] s || isQ T [60, 61] s || isQ T [62] s || isQ T [62, 61] s
def productQ (s : St) : RQ := rowQ T (isMul T) (factorQ T D n nx) (fuelQ T (factorQ T D n nx s).2) (factorQ T D n nx s)
def sumQ (s : St) : RQ := rowQ T (isAdd T) (productQ T D n nx) (fuelQ T (productQ T D n nx s).2) (productQ T D n nx s)
def notQ (s : St) : RQ :=
  if isQ T [110, 111, 116] s = true then signQ T D n nx.nots s
  else
    let a := sumQ T D n nx s
    if isCmp T a.2 = true then
      let l := leafQ T a.2
      let b := sumQ T D n nx l.2
      ([32, 40, 49, 48] ++ a.1 ++ l.1 ++ b.1 ++ [41], b.2)
    else a
def andQ (s : St) : RQ := rowQ T (isQ T [38, 38]) (notQ T D n nx) (fuelQ T (notQ T D n nx s).2) (notQ T D n nx s)
def orQ (s : St) : RQ := rowQ T (isQ T [124, 124]) (andQ T D n nx) (fuelQ T (andQ T D n nx s).2) (andQ T D n nx s)
def formulaQ (s : St) : RQ :=
  let a := orQ T D n nx s
  if isQ T [61, 62] a.2 = true then
    let l := leafQ T a.2
    let t := nestQ T D (n + 1) l.2
    if t.e ≠ 0 then ([], t) else ([32, 40, 49, 48] ++ a.1 ++ l.1 ++ (nx.formula t).1 ++ [41], (nx.formula t).2)
  else a
def letQ (s : St) : RQ :=
  let l := leafQ T s
  let k := kindQ T 1 l.2
  let q := mustQ T [61] k.2
  let a := nx.expr q.2
  let i := mustQ T [105, 110] a.2
  let b := nx.expr i.2
  ([32, 40, 55] ++ l.1 ++ k.1 ++ q.1 ++ a.1 ++ i.1 ++ b.1 ++ [41], b.2)
def ifQ (s : St) : RQ :=
  let l := leafQ T s
  let a := nx.expr l.2
  let t := mustQ T [116, 104, 101, 110] a.2
  let b := nx.expr t.2
  let e := mustQ T [101, 108, 115, 101] b.2
  let c := nx.expr e.2
  ([32, 40, 56] ++ l.1 ++ a.1 ++ t.1 ++ b.1 ++ e.1 ++ c.1 ++ [41], c.2)
def assertQ (s : St) : RQ :=
  let l := leafQ T s
  let a := nx.expr l.2
  let i := mustQ T [105, 110] a.2
  let b := nx.expr i.2
  ([32, 40, 57] ++ l.1 ++ a.1 ++ i.1 ++ b.1 ++ [41], b.2)
def exprQ (s : St) : RQ :=
  let t := nestQ T D n s
  if t.e ≠ 0 then ([], t)
  else if t.inn = false ∧ isQ T [108, 101, 116] t = true then letQ T nx t
  else if t.inn = false ∧ isQ T [105, 102] t = true then ifQ T nx t
  else if t.inn = false ∧ isQ T [97, 115, 115, 101, 114, 116] t = true then assertQ T nx t
  else formulaQ T D n nx t
end

/-- All that is nested by n or more, where d = D + 1 - n. -/
def nxQ (T : List Tok) (D : Nat) : Nat → Nx
  | 0 => { expr := fun s => ([], nestQ T D (D + 1) s), formula := fun s => ([], s), nots := fun s => ([], s), factor := fun s => ([], s) }
  | d + 1 => { expr := exprQ T D (D - d) (nxQ T D d), formula := formulaQ T D (D - d) (nxQ T D d), nots := notQ T D (D - d) (nxQ T D d), factor := factorQ T D (D - d) (nxQ T D d) }

/-! ### How long answers are -/

/-- Each token that is used has room for what is written of it and for what is written about it. -/
def roomQ (T : List Tok) (i : Nat) : Nat := ((T.take i).map fun t => t.text.length + 8).sum
def Fits (T : List Tok) (s : St) (r : RQ) : Prop := r.1.length + roomQ T s.i ≤ roomQ T r.2.i
theorem room_next (T : List Tok) {i : Nat} {t : Tok} (h : T[i]? = some t) : roomQ T (i + 1) = roomQ T i + (t.text.length + 8) := by
  unfold roomQ; rw [List.take_add_one, h, List.map_append, List.sum_append]; simp
theorem fail_i (T : List Tok) (n : Nat) (s : St) : (failQ T n s).i = s.i := by unfold failQ; split <;> rfl
theorem nest_i (T : List Tok) (D n : Nat) (s : St) : (nestQ T D n s).i = s.i := by unfold nestQ; split; exact fail_i T 23 s; rfl
theorem leaf_fits {T : List Tok} {s : St} (h : (tokQ T s).kind ≠ 5) : (leafQ T s).1.length + 7 + roomQ T s.i ≤ roomQ T (leafQ T s).2.i ∧ (leafQ T s).2.i = s.i + 1 := by
  unfold leafQ
  rw [if_neg h]
  cases ht : T[s.i]? with
  | none => exact absurd (by unfold tokQ; rw [ht]; rfl) h
  | some t =>
    have h1 : tokQ T s = t := by unfold tokQ; rw [ht]; rfl
    rw [h1, room_next T ht]
    refine ⟨?_, rfl⟩
    simp only [List.length_cons]; omega
theorem is_kind {T : List Tok} {w : List UInt8} {s : St} (h : isQ T w s = true) : (tokQ T s).kind ≠ 5 ∧ s.e = 0 := by
  unfold isQ at h
  have := of_decide_eq_true h
  omega
theorem must_fits (T : List Tok) (w : List UInt8) (s : St) : Fits T s (mustQ T w s) := by
  unfold mustQ Fits
  split
  · rename_i h
    have := (leaf_fits (is_kind h).1).1; omega
  · show 0 + _ ≤ _; rw [fail_i]; omega
theorem kind_fits {T : List Tok} {k : Nat} (hk : k ≠ 5) (s : St) : Fits T s (kindQ T k s) := by
  unfold kindQ Fits
  split
  · rename_i h
    have := (leaf_fits (T := T) (s := s) (by rw [h.2]; exact hk)).1; omega
  · show 0 + _ ≤ _; rw [fail_i]; omega
theorem row_fits {T : List Tok} {c : St → Bool} {sub : St → RQ} (hc : ∀ s, c s = true → (tokQ T s).kind ≠ 5) (hs : ∀ s, Fits T s (sub s)) {s : St} : ∀ f (r : RQ), Fits T s r → Fits T s (rowQ T c sub f r) := by
  intro f
  induction f with
  | zero => intro r h; exact h
  | succ f ih =>
    intro r h
    unfold rowQ
    split
    · rename_i hcc
      refine ih _ ?_
      have h1 := (leaf_fits (hc _ hcc)).1
      have h2 := hs (leafQ T r.2).2
      unfold Fits at h h2 ⊢
      simp only [List.length_append, List.length_cons, List.length_nil]
      omega
    · exact h
theorem parts_fits {T : List Tok} {sub : St → RQ} (hs : ∀ s, Fits T s (sub s)) {s : St} : ∀ f k (r : RQ), Fits T s r → Fits T s (partsQ T sub f k r) := by
  intro f
  induction f with
  | zero => intro k r h; exact h
  | succ f ih =>
    intro k r h
    unfold partsQ
    split
    · rename_i hcc
      refine ih _ _ ?_
      have h1 := (leaf_fits (is_kind hcc).1).1
      have h2 := hs (if k = 8 then failQ T 15 (leafQ T r.2).2 else (leafQ T r.2).2)
      have h3 : (if k = 8 then failQ T 15 (leafQ T r.2).2 else (leafQ T r.2).2).i = (leafQ T r.2).2.i := by split; exact fail_i _ _ _; rfl
      unfold Fits at h h2 ⊢
      rw [h3] at h2
      simp only [List.length_append]
      omega
    · exact h
end Go.Proofs.YthclkbaankjbiaaGreatDoor
namespace Go.Proofs.YthclkbaankjbiaaGreatDoor

def NxFits (T : List Tok) (nx : Nx) : Prop := (∀ s, Fits T s (nx.expr s)) ∧ (∀ s, Fits T s (nx.formula s)) ∧ (∀ s, Fits T s (nx.nots s)) ∧ ∀ s, Fits T s (nx.factor s)

section
variable {T : List Tok} {D n : Nat} {nx : Nx}
theorem args_fits (h : NxFits T nx) (s : St) : Fits T s (argsQ T nx s) := parts_fits h.1 _ _ _ (h.1 s)
theorem nil_fits (s t : St) (h : t.i = s.i) : Fits T s ([], t) := by unfold Fits; show 0 + _ ≤ _; rw [h]; omega

def Roomy (T : List Tok) (s : St) (r : RQ) : Prop := r.1.length + 7 + roomQ T s.i ≤ roomQ T r.2.i
theorem nameB_fits {s : St} {a : RQ} (h : Roomy T s a) : Roomy T s (nameB T a) := by
  unfold nameB
  split
  · rename_i hc
    have h1 := (leaf_fits (is_kind hc).1).1
    have h2 := kind_fits (T := T) (k := 1) (by decide) (leafQ T a.2).2
    unfold Fits at h2
    unfold Roomy at h ⊢
    simp only [List.length_append]; omega
  · exact h
theorem nameC_fits {s : St} {b : RQ} (h : Roomy T s b) : Roomy T s (nameC T b) := by
  have h3 := must_fits T [40] b.2
  unfold Fits at h3
  unfold Roomy at h ⊢
  unfold nameC
  simp only [List.length_append]; omega
theorem nameD_fits (hx : NxFits T nx) {s : St} {c : RQ} (h : Roomy T s c) : Roomy T s (nameD T nx c) := by
  unfold nameD
  split
  · exact h
  · have h4 := args_fits hx c.2
    unfold Fits at h4
    unfold Roomy at h ⊢
    simp only [List.length_append]; omega
theorem nameE_fits {s : St} {d : RQ} (h : Roomy T s d) : Fits T s (nameE T d) := by
  have h5 := must_fits T [41] d.2
  unfold Fits at h5 ⊢
  unfold Roomy at h
  unfold nameE
  simp only [List.length_append, List.length_cons, List.length_nil]; omega
theorem name_fits (h : NxFits T nx) (s : St) (hk : (tokQ T s).kind ≠ 5) : Fits T s (nameQ T nx s) := by
  have h0 : Roomy T s (leafQ T s) := (leaf_fits hk).1
  unfold nameQ
  split
  · unfold Roomy at h0; unfold Fits; simp only [List.length_append, List.length_cons, List.length_nil]; omega
  · exact nameE_fits (nameD_fits h (nameC_fits (nameB_fits h0)))

theorem atom_fits (h : NxFits T nx) (s : St) : Fits T s (atomQ T nx s) := by
  unfold atomQ
  split
  · exact nil_fits _ _ rfl
  split
  · rename_i hk
    have h0 := (leaf_fits (T := T) (s := s) (by omega)).1
    unfold Fits; simp only [List.length_append, List.length_cons, List.length_nil]; omega
  split
  · rename_i hk
    have h0 := (leaf_fits (T := T) (s := s) (by rcases hk with hk | hk <;> exact (is_kind hk).1)).1
    unfold Fits; simp only [List.length_append, List.length_cons, List.length_nil]; omega
  split
  · rename_i hk
    have h0 := (leaf_fits (is_kind hk.2).1).1
    unfold Fits; simp only [List.length_append, List.length_cons, List.length_nil]; omega
  split
  · rename_i hk
    have h0 := (leaf_fits (is_kind hk).1).1
    have h1 := h.1 (leafQ T s).2
    have h2 := must_fits T [41] (nx.expr (leafQ T s).2).2
    unfold Fits at h1 h2 ⊢
    simp only [List.length_append, List.length_cons, List.length_nil]; omega
  split
  · rename_i hk
    exact name_fits h s (by omega)
  · exact nil_fits _ _ (fail_i _ _ _)

theorem sign_fits {sub : St → RQ} (hs : ∀ s, Fits T s (sub s)) (s : St) (hk : (tokQ T s).kind ≠ 5) : Fits T s (signQ T D n sub s) := by
  have h0 := (leaf_fits hk).1
  unfold signQ
  simp only []
  split
  · unfold Fits; show 0 + _ ≤ _; rw [nest_i]; omega
  · have h1 := hs (nestQ T D (n + 1) (leafQ T s).2)
    unfold Fits at h1 ⊢
    rw [nest_i] at h1
    simp only [List.length_append, List.length_cons, List.length_nil]; omega

theorem factor_fits (h : NxFits T nx) (s : St) : Fits T s (factorQ T D n nx s) := by
  unfold factorQ
  split
  · rename_i hk; exact sign_fits h.2.2.2 s (is_kind hk).1
  · exact atom_fits h s
theorem mul_kind {s : St} (h : isMul T s = true) : (tokQ T s).kind ≠ 5 := by
  unfold isMul at h
  simp only [Bool.or_eq_true] at h
  rcases h with (h | h) | h <;> exact (is_kind h).1
theorem add_kind {s : St} (h : isAdd T s = true) : (tokQ T s).kind ≠ 5 := by
  unfold isAdd at h
  simp only [Bool.or_eq_true] at h
  rcases h with h | h <;> exact (is_kind h).1
theorem cmp_kind {s : St} (h : isCmp T s = true) : (tokQ T s).kind ≠ 5 := by
  unfold isCmp at h
  simp only [Bool.or_eq_true] at h
  rcases h with ((((h | h) | h) | h) | h) | h <;> exact (is_kind h).1
theorem product_fits (h : NxFits T nx) (s : St) : Fits T s (productQ T D n nx s) := row_fits (fun _ hc => mul_kind hc) (factor_fits h) _ _ (factor_fits h s)
theorem sum_fits (h : NxFits T nx) (s : St) : Fits T s (sumQ T D n nx s) := row_fits (fun _ hc => add_kind hc) (product_fits h) _ _ (product_fits h s)
theorem not_fits (h : NxFits T nx) (s : St) : Fits T s (notQ T D n nx s) := by
  unfold notQ
  split
  · rename_i hk; exact sign_fits h.2.2.1 s (is_kind hk).1
  · have h0 := sum_fits (D := D) (n := n) h s
    simp only []
    split
    · rename_i hk
      have h1 := (leaf_fits (cmp_kind hk)).1
      have h2 := sum_fits (D := D) (n := n) h (leafQ T (sumQ T D n nx s).2).2
      unfold Fits at h0 h2 ⊢
      simp only [List.length_append, List.length_cons, List.length_nil]; omega
    · exact h0
theorem and_fits (h : NxFits T nx) (s : St) : Fits T s (andQ T D n nx s) := row_fits (fun _ hc => (is_kind hc).1) (not_fits h) _ _ (not_fits h s)
theorem or_fits (h : NxFits T nx) (s : St) : Fits T s (orQ T D n nx s) := row_fits (fun _ hc => (is_kind hc).1) (and_fits h) _ _ (and_fits h s)
theorem formula_fits (h : NxFits T nx) (s : St) : Fits T s (formulaQ T D n nx s) := by
  have h0 := or_fits (D := D) (n := n) h s
  unfold formulaQ
  simp only []
  split
  · rename_i hk
    have h1 := (leaf_fits (is_kind hk).1).1
    unfold Fits at h0
    split
    · unfold Fits; show 0 + _ ≤ _; rw [nest_i]; omega
    · have h2 := h.2.1 (nestQ T D (n + 1) (leafQ T (orQ T D n nx s).2).2)
      unfold Fits at h2 ⊢
      rw [nest_i] at h2
      simp only [List.length_append, List.length_cons, List.length_nil]; omega
  · exact h0
theorem let_fits (h : NxFits T nx) (s : St) (hk : (tokQ T s).kind ≠ 5) : Fits T s (letQ T nx s) := by
  have h0 := (leaf_fits hk).1
  have h1 := kind_fits (T := T) (k := 1) (by decide) (leafQ T s).2
  have h2 := must_fits T [61] (kindQ T 1 (leafQ T s).2).2
  have h3 := h.1 (mustQ T [61] (kindQ T 1 (leafQ T s).2).2).2
  have h4 := must_fits T [105, 110] (nx.expr (mustQ T [61] (kindQ T 1 (leafQ T s).2).2).2).2
  have h5 := h.1 (mustQ T [105, 110] (nx.expr (mustQ T [61] (kindQ T 1 (leafQ T s).2).2).2).2).2
  unfold Fits at h1 h2 h3 h4 h5
  unfold Fits letQ
  simp only [List.length_append, List.length_cons, List.length_nil]; omega
theorem if_fits (h : NxFits T nx) (s : St) (hk : (tokQ T s).kind ≠ 5) : Fits T s (ifQ T nx s) := by
  have h0 := (leaf_fits hk).1
  have h1 := h.1 (leafQ T s).2
  have h2 := must_fits T [116, 104, 101, 110] (nx.expr (leafQ T s).2).2
  have h3 := h.1 (mustQ T [116, 104, 101, 110] (nx.expr (leafQ T s).2).2).2
  have h4 := must_fits T [101, 108, 115, 101] (nx.expr (mustQ T [116, 104, 101, 110] (nx.expr (leafQ T s).2).2).2).2
  have h5 := h.1 (mustQ T [101, 108, 115, 101] (nx.expr (mustQ T [116, 104, 101, 110] (nx.expr (leafQ T s).2).2).2).2).2
  unfold Fits at h1 h2 h3 h4 h5
  unfold Fits ifQ
  simp only [List.length_append, List.length_cons, List.length_nil]; omega
theorem assert_fits (h : NxFits T nx) (s : St) (hk : (tokQ T s).kind ≠ 5) : Fits T s (assertQ T nx s) := by
  have h0 := (leaf_fits hk).1
  have h1 := h.1 (leafQ T s).2
  have h2 := must_fits T [105, 110] (nx.expr (leafQ T s).2).2
  have h3 := h.1 (mustQ T [105, 110] (nx.expr (leafQ T s).2).2).2
  unfold Fits at h1 h2 h3
  unfold Fits assertQ
  simp only [List.length_append, List.length_cons, List.length_nil]; omega
theorem fits_nest {s : St} {r : RQ} (h : Fits T (nestQ T D n s) r) : Fits T s r := by unfold Fits at h ⊢; rw [nest_i] at h; exact h
theorem expr_fits (h : NxFits T nx) (s : St) : Fits T s (exprQ T D n nx s) := by
  unfold exprQ
  simp only []
  split
  · exact nil_fits _ _ (nest_i T D n s)
  split
  · rename_i hk; exact fits_nest (let_fits h _ (is_kind hk.2).1)
  split
  · rename_i hk; exact fits_nest (if_fits h _ (is_kind hk.2).1)
  split
  · rename_i hk; exact fits_nest (assert_fits h _ (is_kind hk.2).1)
  · exact fits_nest (formula_fits h _)
end

theorem nx_fits (T : List Tok) (D : Nat) : ∀ d, NxFits T (nxQ T D d)
  | 0 => ⟨fun s => nil_fits _ _ (nest_i T D _ s), fun s => nil_fits _ _ rfl, fun s => nil_fits _ _ rfl, fun s => nil_fits _ _ rfl⟩
  | d + 1 => ⟨expr_fits (nx_fits T D d), formula_fits (nx_fits T D d), not_fits (nx_fits T D d), factor_fits (nx_fits T D d)⟩
end Go.Proofs.YthclkbaankjbiaaGreatDoor
