/- Two lanes as two lists: what comes next, and all that comes. -/
namespace Go.Proofs.Ytponbjocaackcaa

section
variable {α β : Type}

/-- What is taken of two lists, and what is left; p: how many of the urgent ones were taken last while something waited. -/
def LTake (U S : List α) (p : Nat) : Option α × List α × List α × Nat :=
  if p < 4 then
    match U with
    | x :: U' => (some x, U', S, if S = [] then p else p + 1)
    | [] => (S.head?, [], S.tail, 0)
  else (S.head?, U, S.tail, 0)

/-- Lanes as they may be. -/
def LGood (S : List α) (p : Nat) : Prop := p ≤ 4 ∧ (0 < p → S ≠ [])

inductive Drains : List α → List α → Nat → List α → Prop
  | none {U S p} : (LTake U S p).1 = none → Drains U S p []
  | some {U S p x L} : (LTake U S p).1 = some x → Drains (LTake U S p).2.1 (LTake U S p).2.2.1 (LTake U S p).2.2.2 L → Drains U S p (x :: L)

theorem ltake_urgent {U S : List α} {p : Nat} {x : α} (h : p < 4) : LTake (x :: U) S p = (some x, U, S, if S = [] then p else p + 1) := by
  unfold LTake; rw [if_pos h]

theorem ltake_empty {S : List α} {p : Nat} : LTake [] S p = (S.head?, [], S.tail, 0) := by
  unfold LTake; split <;> rfl

theorem ltake_late {U S : List α} {p : Nat} (h : ¬ p < 4) : LTake U S p = (S.head?, U, S.tail, 0) := by
  unfold LTake; rw [if_neg h]

theorem LTake.good {U S : List α} {p : Nat} (h : LGood S p) : LGood (LTake U S p).2.2.1 (LTake U S p).2.2.2 := by
  by_cases hp : p < 4
  · cases U with
    | nil => rw [ltake_empty]; exact ⟨by simp, fun h => absurd h (by simp)⟩
    | cons x U =>
      rw [ltake_urgent hp]
      by_cases hs : S = []
      · simp only [if_pos hs]; exact h
      · simp only [if_neg hs]; exact ⟨by omega, fun _ => hs⟩
  · rw [ltake_late hp]; exact ⟨by simp, fun h => absurd h (by simp)⟩

/-- What is taken was there; nothing else has turned. -/
theorem LTake.parts {U S : List α} {p : Nat} (h : LGood S p) :
    ((LTake U S p).1 = none ∧ U = [] ∧ S = [] ∧ LTake U S p = (none, [], [], 0)) ∨
    (∃ x U', U = x :: U' ∧ p < 4 ∧ LTake U S p = (some x, U', S, if S = [] then p else p + 1)) ∨
    (∃ y S', S = y :: S' ∧ (U = [] ∨ ¬ p < 4) ∧ LTake U S p = (some y, U, S', 0)) := by
  by_cases hp : p < 4
  · cases U with
    | nil =>
      rw [ltake_empty]
      cases S with
      | nil => exact .inl ⟨rfl, rfl, rfl, rfl⟩
      | cons y S => exact .inr (.inr ⟨y, S, rfl, .inl rfl, rfl⟩)
    | cons x U => exact .inr (.inl ⟨x, U, rfl, hp, ltake_urgent hp⟩)
  · rw [ltake_late hp]
    cases S with
    | nil => exact absurd rfl (h.2 (by omega))
    | cons y S => exact .inr (.inr ⟨y, S, rfl, .inr hp, rfl⟩)

theorem LTake.none_good {U S : List α} {p : Nat} (h : LGood S p) (hn : (LTake U S p).1 = none) : U = [] ∧ S = [] ∧ LTake U S p = (none, [], [], 0) := by
  rcases LTake.parts (U := U) h with ⟨-, a, b, c⟩ | ⟨x, U', rfl, -, e⟩ | ⟨y, S', rfl, -, e⟩
  · exact ⟨a, b, c⟩
  · rw [e] at hn; cases hn
  · rw [e] at hn; cases hn

theorem LTake.len {U S : List α} {p : Nat} {x : α} (h : (LTake U S p).1 = some x) : (LTake U S p).2.1.length + (LTake U S p).2.2.1.length + 1 = U.length + S.length := by
  by_cases hp : p < 4
  · cases U with
    | nil =>
      rw [ltake_empty] at h ⊢
      cases S with
      | nil => cases h
      | cons y S => simp
    | cons x U => rw [ltake_urgent hp]; simp only [List.length_cons]; omega
  · rw [ltake_late hp] at h ⊢
    cases S with
    | nil => cases h
    | cons y S => simp only [List.tail_cons, List.length_cons]; omega

theorem Drains.len {U S : List α} {p : Nat} {L : List α} (h : Drains U S p L) (hg : LGood S p) : L.length = U.length + S.length := by
  induction h with
  | none hn =>
    obtain ⟨rfl, rfl, -⟩ := LTake.none_good hg hn
    rfl
  | some hs _ ih =>
    have := LTake.len hs
    have := ih (LTake.good hg)
    simp only [List.length_cons]; omega

theorem LGood.nil {S : List α} : LGood S 0 := ⟨by omega, fun h => by omega⟩

theorem LGood.more {S : List α} {p : Nat} (h : LGood S p) (x : α) : LGood (S ++ [x]) p := ⟨h.1, fun _ => by simp⟩
end
end Go.Proofs.Ytponbjocaackcaa
