/- Sets put together: merge, With. -/
import Derived.Test.YtljpgmhgnfnbkaaBSet2
namespace Go.Proofs.Ytljpgmhgnfnbkaa
open Go.RowKit Go.Sort

theorem asc_split {A : List Int} (h : Asc A) (x : Int) : A.take (A.countP (fun y => decide (y < x))) = A.filter (fun y => decide (y < x)) ∧ A.drop (A.countP (fun y => decide (y < x))) = A.filter (fun y => decide (x ≤ y)) := by
  induction A with
  | nil => simp
  | cons a A ih =>
    obtain ⟨h1, h2⟩ := List.pairwise_cons.1 h
    obtain ⟨i1, i2⟩ := ih h2
    by_cases ha : a < x
    · rw [List.countP_cons_of_pos (by simpa using ha)]
      simp only [List.take_succ_cons, List.drop_succ_cons]
      rw [i1, i2, List.filter_cons_of_pos (by simpa using ha), List.filter_cons_of_neg (by simp; omega)]
      exact ⟨rfl, rfl⟩
    · have h0 : A.countP (fun y => decide (y < x)) = 0 := List.countP_eq_zero.2 fun y hy => by have := h1 y hy; simp; omega
      rw [List.countP_cons_of_neg (by simpa using ha), h0]
      refine ⟨?_, ?_⟩
      · simp only [List.take_zero]
        symm
        rw [List.filter_eq_nil_iff]
        intro y hy
        rcases List.mem_cons.1 hy with rfl | hy
        · simpa using ha
        · have := h1 y hy; simp; omega
      · simp only [List.drop_zero]
        symm
        rw [List.filter_eq_self]
        intro y hy
        rcases List.mem_cons.1 hy with rfl | hy
        · simp; omega
        · have := h1 y hy; simp; omega

/-- What lies behind k elements of b: O is merged, A is left of a. -/
structure MergeI (a b : List Int) (k : Nat) (O A : List Int) : Prop where
  asc : Asc (O ++ A)
  mem : ∀ y, y ∈ O ++ A ↔ y ∈ a ∨ y ∈ b.take k
  low : ∀ y, y ∈ O → ∀ j, k ≤ j → j < b.length → y < b.getD j 0
  len : O.length + A.length ≤ a.length + k

theorem MergeI.start {a b : List Int} (ha : Asc a) : MergeI a b 0 [] a := ⟨by simpa using ha, by simp, by simp, by simp⟩

/-- One element more. -/
theorem MergeI.step {a b : List Int} {k : Nat} {O A : List Int} (h : MergeI a b k O A) (hb : Asc b) (hk : k < b.length) {x : Int} (hx : b.getD k 0 = x) :
    MergeI a b (k + 1) (if x ∈ A then O ++ A.filter (fun y => decide (y < x)) else O ++ A.filter (fun y => decide (y < x)) ++ [x]) (A.filter (fun y => decide (x ≤ y))) := by
  subst hx
  generalize hx : b.getD k 0 = x
  obtain ⟨ht, hm⟩ := take_more hk
  rw [hx] at ht hm
  obtain ⟨hO, hA, hOA⟩ := List.pairwise_append.1 h.asc
  have hOx : ∀ y, y ∈ O → y < x := fun y hy => by have := h.low y hy k (Nat.le_refl _) hk; omega
  have hnext : ∀ j, k + 1 ≤ j → j < b.length → x < b.getD j 0 := fun j h1 h2 => by have := asc_get hb (i := k) (j := j) (by omega) h2; omega
  have hlow : ∀ y, y ∈ O ++ A.filter (fun y => decide (y < x)) → y < x := fun y hy => by
    rcases List.mem_append.1 hy with h1 | h1
    · exact hOx y h1
    · simpa using (List.mem_filter.1 h1).2
  have hlo : Asc (O ++ A.filter (fun y => decide (y < x))) := List.pairwise_append.2 ⟨hO, hA.filter _, fun y hy z hz => hOA y hy z (List.mem_filter.1 hz).1⟩
  have hlen : (A.filter (fun y => decide (y < x))).length + (A.filter (fun y => decide (x ≤ y))).length = A.length := by
    obtain ⟨e1, e2⟩ := asc_split hA x
    rw [← e1, ← e2, ← List.length_append, List.take_append_drop]
  have hmem : ∀ y, y ∈ A ↔ y ∈ A.filter (fun y => decide (y < x)) ∨ y ∈ A.filter (fun y => decide (x ≤ y)) := fun y => by
    rw [List.mem_filter, List.mem_filter]
    constructor
    · intro h
      by_cases e : y < x
      · exact .inl ⟨h, by simpa using e⟩
      · exact .inr ⟨h, by simp; omega⟩
    · rintro (h | h)
      · exact h.1
      · exact h.1
  have hM := h.mem
  simp only [List.mem_append] at hM
  have hl := h.len
  by_cases hxA : x ∈ A
  · rw [if_pos hxA]
    have hxf : x ∈ A.filter (fun y => decide (x ≤ y)) := List.mem_filter.2 ⟨hxA, by simp⟩
    refine ⟨List.pairwise_append.2 ⟨hlo, hA.filter _, fun y hy z hz => ?_⟩, fun y => ?_, fun y hy j h1 h2 => ?_, by simp only [List.length_append]; omega⟩
    · have e1 := hlow y hy
      have e2 : x ≤ z := by simpa using (List.mem_filter.1 hz).2
      omega
    · rw [ht]
      simp only [List.mem_append, List.mem_singleton]
      rw [← or_assoc, ← hM y, hmem y]
      constructor
      · rintro ((h1 | h1) | h1)
        · exact .inl (.inl h1)
        · exact .inl (.inr (.inl h1))
        · exact .inl (.inr (.inr h1))
      · rintro ((h1 | h1 | h1) | rfl)
        · exact .inl (.inl h1)
        · exact .inl (.inr h1)
        · exact .inr h1
        · exact .inr hxf
    · have e1 := hlow y hy
      have e2 := hnext j h1 h2
      omega
  · rw [if_neg hxA]
    refine ⟨List.pairwise_append.2 ⟨List.pairwise_append.2 ⟨hlo, by simp, fun y hy z hz => ?_⟩, hA.filter _, fun y hy z hz => ?_⟩, fun y => ?_, fun y hy j h1 h2 => ?_, by simp only [List.length_append, List.length_singleton]; omega⟩
    · simp only [List.mem_singleton] at hz; subst hz; exact hlow y hy
    · have e2 : x ≤ z := by simpa using (List.mem_filter.1 hz).2
      have e3 : z ≠ x := fun e => hxA (e ▸ (List.mem_filter.1 hz).1)
      rcases List.mem_append.1 hy with h1 | h1
      · have e1 := hlow y h1; omega
      · simp only [List.mem_singleton] at h1; omega
    · rw [ht]
      simp only [List.mem_append, List.mem_singleton]
      rw [← or_assoc, ← hM y, hmem y]
      constructor
      · rintro (((h1 | h1) | h1) | h1)
        · exact .inl (.inl h1)
        · exact .inl (.inr (.inl h1))
        · exact .inr h1
        · exact .inl (.inr (.inr h1))
      · rintro ((h1 | h1 | h1) | h1)
        · exact .inl (.inl (.inl h1))
        · exact .inl (.inl (.inr h1))
        · exact .inr h1
        · exact .inl (.inr h1)
    · have e2 := hnext j h1 h2
      rcases List.mem_append.1 hy with h3 | h3
      · have e1 := hlow y h3; omega
      · simp only [List.mem_singleton] at h3; omega
end Go.Proofs.Ytljpgmhgnfnbkaa
