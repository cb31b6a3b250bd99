/- Lines of a text; places by line and byte. -/
import Derived.Lib.IndexLaws
import Derived.Lib.LastIndexByte
import Derived.Lib.Bytealg
namespace Go.Proofs.Ytgffaldoieakaaa

/-- A text's lines. -/
def linesL : List UInt8 → List (List UInt8)
  | [] => [[]]
  | b :: r => if b = 10 then [] :: linesL r else match linesL r with
    | [] => [[b]]
    | x :: xs => (b :: x) :: xs

theorem linesL_ne (l : List UInt8) : linesL l ≠ [] := by
  cases l with
  | nil => simp [linesL]
  | cons b r =>
    unfold linesL
    split
    · simp
    · split <;> simp

def headOn (p : List UInt8) : List (List UInt8) → List (List UInt8)
  | [] => [p]
  | x :: xs => (p ++ x) :: xs

theorem headOn_nil {l : List (List UInt8)} (h : l ≠ []) : headOn [] l = l := by
  cases l with
  | nil => exact absurd rfl h
  | cons x xs => simp [headOn]

theorem linesL_nl (r : List UInt8) : linesL (10 :: r) = [] :: linesL r := by rw [linesL, if_pos rfl]
theorem linesL_other {b : UInt8} (h : b ≠ 10) (r : List UInt8) : linesL (b :: r) = headOn [b] (linesL r) := by
  rw [linesL, if_neg h]
  cases linesL r <;> rfl

theorem headOn_headOn (p : List UInt8) (b : UInt8) (l : List (List UInt8)) (h : l ≠ []) : headOn p (headOn [b] l) = headOn (p ++ [b]) l := by
  cases l with
  | nil => exact absurd rfl h
  | cons x xs => simp [headOn]

theorem lines_none : ∀ {l : List UInt8}, Lib.indexByte l 10 = -1 → linesL l = [l]
  | [], _ => rfl
  | b :: r, h => by
    have h0 := Lib.indexByte_none h
    have hb : b ≠ 10 := fun e => h0 0 (by simp [e])
    have hr : Lib.indexByte r 10 = -1 := by
      unfold Lib.indexByte at h
      have : (b == 10) = false := by simpa using hb
      rw [this] at h
      simp only [Bool.false_eq_true, if_false] at h
      split at h
      · rename_i h1; exact beq_iff_eq.1 h1
      · have := Lib.indexByte_ge r 10; omega
    rw [linesL_other hb, lines_none hr]; rfl

theorem lines_some : ∀ {l : List UInt8} {o : Nat}, Lib.indexByte l 10 = o → linesL l = l.take o :: linesL (l.drop (o + 1))
  | [], o, h => by simp [Lib.indexByte] at h
  | b :: r, o, h => by
    unfold Lib.indexByte at h
    by_cases hb : b = 10
    · subst hb
      simp at h
      have : o = 0 := by omega
      subst this
      rw [linesL_nl]; rfl
    · have hb2 : (b == 10) = false := by simpa using hb
      rw [hb2] at h
      simp only [Bool.false_eq_true, if_false] at h
      split at h
      · omega
      · have hge := Lib.indexByte_ge r 10
        rename_i hl
        have hne : Lib.indexByte r 10 ≠ -1 := fun e => hl (beq_iff_eq.2 e)
        obtain ⟨o', rfl⟩ : ∃ o', o = o' + 1 := ⟨o - 1, by omega⟩
        rw [linesL_other hb, lines_some (l := r) (o := o') (by push_cast at h; omega)]
        rfl

/-- A place's line and byte, by what stands ahead of it. -/
def atStep (p : Nat × Nat) (x : UInt8) : Nat × Nat := if x = 10 then (p.1 + 1, 1) else (p.1, p.2 + 1)
def atL (l : List UInt8) : Nat × Nat := l.foldl atStep (1, 1)

theorem atL_snoc (l : List UInt8) (x : UInt8) : atL (l ++ [x]) = atStep (atL l) x := by unfold atL; rw [List.foldl_append]; rfl

theorem take_snoc {l : List UInt8} {i : Nat} {x : UInt8} (h : l[i]? = some x) : l.take (i + 1) = l.take i ++ [x] := by rw [List.take_add_one, h]; rfl

theorem atL_pos (l : List UInt8) : ∀ i, i ≤ l.length → 1 ≤ (atL (l.take i)).1 ∧ 1 ≤ (atL (l.take i)).2 ∧ (atL (l.take i)).2 ≤ i + 1 ∧ (atL (l.take i)).1 ≤ i + 1 ∧ atL (l.take (i + 1 - (atL (l.take i)).2)) = ((atL (l.take i)).1, 1) := by
  intro i
  induction i with
  | zero => intro _; exact ⟨Nat.le_refl _, Nat.le_refl _, Nat.le_refl _, Nat.le_refl _, rfl⟩
  | succ i ih =>
    intro hi
    obtain ⟨h1, h2, h3, h5, h4⟩ := ih (by omega)
    obtain ⟨x, hx⟩ : ∃ x, l[i]? = some x := ⟨l[i]'(by omega), List.getElem?_eq_getElem _⟩
    rw [take_snoc hx, atL_snoc]
    unfold atStep
    split
    · rename_i h10
      refine ⟨by simp only; omega, Nat.le_refl _, by simp only; omega, by simp only; omega, ?_⟩
      simp only [Nat.add_sub_cancel]
      rw [take_snoc hx, atL_snoc, atStep, if_pos h10]
    · refine ⟨h1, by simp only; omega, by simp only; omega, by simp only; omega, ?_⟩
      simp only
      rw [show i + 1 + 1 - ((atL (l.take i)).2 + 1) = i + 1 - (atL (l.take i)).2 by omega]
      exact h4

/-- Places rise. -/
theorem atL_rise (l : List UInt8) (x : Nat) : ∀ y, x < y → y ≤ l.length → (atL (l.take x)).1 < (atL (l.take y)).1 ∨ ((atL (l.take x)).1 = (atL (l.take y)).1 ∧ (atL (l.take x)).2 < (atL (l.take y)).2) := by
  intro y
  induction y with
  | zero => intro h; omega
  | succ y ih =>
    intro h hy
    obtain ⟨b, hb⟩ : ∃ b, l[y]? = some b := ⟨l[y]'(by omega), List.getElem?_eq_getElem _⟩
    have step : (atL (l.take y)).1 < (atL (l.take (y + 1))).1 ∨ ((atL (l.take y)).1 = (atL (l.take (y + 1))).1 ∧ (atL (l.take y)).2 < (atL (l.take (y + 1))).2) := by
      rw [take_snoc hb, atL_snoc]
      unfold atStep
      split
      · left; simp only; omega
      · right; exact ⟨rfl, Nat.lt_succ_self _⟩
    by_cases hxy : x = y
    · subst hxy; exact step
    · have := ih (by omega) (by omega); omega

theorem atL_inj (l : List UInt8) {x y : Nat} (hx : x ≤ l.length) (hy : y ≤ l.length) (h : atL (l.take x) = atL (l.take y)) : x = y := by
  rcases Nat.lt_trichotomy x y with h1 | h1 | h1
  · have := atL_rise l x y h1 hy; rw [h] at this; exact absurd this (by omega)
  · exact h1
  · have := atL_rise l y x h1 hx; rw [h] at this; exact absurd this (by omega)

theorem atL_start (l : List UInt8) {i st : Nat} (hi : i ≤ l.length) (hs : st ≤ l.length) (h : atL (l.take st) = ((atL (l.take i)).1, 1)) : st + (atL (l.take i)).2 = i + 1 := by
  obtain ⟨h1, h2, h3, -, h4⟩ := atL_pos l i hi
  have := atL_inj l hs (by omega) (h.trans h4.symm)
  omega

theorem atL_last (l : List UInt8) {st : Nat} (hs : st ≤ l.length) (hn : ∀ k : Nat, (l.drop st)[k]? ≠ some 10) : ∀ i, i ≤ l.length → (atL (l.take i)).1 ≤ (atL (l.take st)).1 := by
  intro i
  induction i with
  | zero => intro _; exact (atL_pos l st hs).1
  | succ i ih =>
    intro hi
    have h1 := ih (by omega)
    by_cases hlt : i + 1 ≤ st
    · rcases Nat.lt_or_ge (i + 1) st with h2 | h2
      · have := atL_rise l (i + 1) st h2 hs; omega
      · rw [show i + 1 = st by omega]; exact Nat.le_refl _
    · obtain ⟨b, hb⟩ : ∃ b, l[i]? = some b := ⟨l[i]'(by omega), List.getElem?_eq_getElem _⟩
      have hb10 : b ≠ 10 := fun e => hn (i - st) (by rw [List.getElem?_drop, show st + (i - st) = i by omega, hb, e])
      rw [take_snoc hb, atL_snoc, atStep, if_neg hb10]
      exact h1

/-- A step to the next line. -/
theorem atL_next (l : List UInt8) {st o : Nat} (hs : st ≤ l.length) (h : Lib.indexByte (l.drop st) 10 = o) : st + o + 1 ≤ l.length ∧ atL (l.take (st + o + 1)) = ((atL (l.take st)).1 + 1, 1) ∧ linesL (l.drop st) = (l.drop st).take o :: linesL (l.drop (st + o + 1)) := by
  obtain ⟨h1, h2⟩ := Lib.indexByte_some h
  rw [List.getElem?_drop] at h1
  have hlt : st + o < l.length := (List.getElem?_eq_some_iff.1 h1).1
  have same : ∀ k, k ≤ o → (atL (l.take (st + k))).1 = (atL (l.take st)).1 := by
    intro k
    induction k with
    | zero => intro _; rfl
    | succ k ih =>
      intro hk
      obtain ⟨b, hb⟩ : ∃ b, l[st + k]? = some b := ⟨l[st + k]'(by omega), List.getElem?_eq_getElem _⟩
      have hb10 : b ≠ 10 := fun e => h2 k (by omega) (by rw [List.getElem?_drop, hb, e])
      rw [← Nat.add_assoc, take_snoc hb, atL_snoc, atStep, if_neg hb10]
      exact ih (by omega)
  refine ⟨by omega, ?_, ?_⟩
  · rw [take_snoc h1, atL_snoc, atStep, if_pos rfl, same o (Nat.le_refl _)]
  · rw [lines_some h, List.drop_drop, Nat.add_assoc]

theorem atL_first (l : List UInt8) : ∀ i, i ≤ l.length → ∀ s : ByteArray, s.data.toList = l → ((atL (l.take i)).1 = 1 + Lib.countByte (l.take i) 10) ∧ ((atL (l.take i)).2 : Int) = i - Lib.lastIdx s 10 i := by
  intro i
  induction i with
  | zero => intro _ s _; exact ⟨rfl, rfl⟩
  | succ i ih =>
    intro hi s hs
    obtain ⟨h1, h2⟩ := ih (by omega) s hs
    obtain ⟨b, hb⟩ : ∃ b, l[i]? = some b := ⟨l[i]'(by omega), List.getElem?_eq_getElem _⟩
    have hbs : s.data[i]! = b := by
      rw [getElem!_def, ← Array.getElem?_toList, hs, hb]
    rw [take_snoc hb, atL_snoc]
    unfold Lib.countByte at h1 ⊢
    rw [List.count_append]
    unfold atStep
    split
    · rename_i h10
      subst h10
      rw [Lib.lastIdx_hit s 10 i (by rw [hbs]; rfl)]
      refine ⟨by simp only; rw [h1]; simp [List.count_cons]; omega, by simp only; omega⟩
    · rename_i h10
      have hne : ((s.data[i]!).toNat : Int) ≠ 10 := by
        rw [hbs]
        intro e
        apply h10
        apply UInt8.toNat_inj.1
        have : b.toNat = 10 := by omega
        rw [this]; rfl
      rw [Lib.lastIdx_miss s 10 i hne]
      refine ⟨by simp only; rw [h1]; simp [List.count_cons, h10], by simp only; omega⟩
end Go.Proofs.Ytgffaldoieakaaa
