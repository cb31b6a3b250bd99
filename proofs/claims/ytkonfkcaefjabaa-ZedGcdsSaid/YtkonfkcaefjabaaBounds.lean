/- How great the numbers are that are read. -/
import Derived.Test.YtkonfkcaefjabaaZs
namespace Go.Proofs.Ytkonfkcaefjabaa
open Go.RowKit Mx

theorem lim_le_pow {N k : Nat} (h : N ≤ Bw ^ k) (hk : k < LimN) : N < Lim := by
  unfold Lim
  exact Nat.lt_of_le_of_lt h (Nat.pow_lt_pow_right (by unfold Bw; omega) hk)

theorem valL_go (l : List UInt8) (h : ∀ b ∈ l, b.toNat ≤ 57) (a : Nat) : l.foldl (fun a b => 10 * a + (b.toNat - 48)) a < (a + 1) * 10 ^ l.length := by
  induction l generalizing a with
  | nil => simp
  | cons x xs ih =>
    have h1 := h x (by simp)
    have h2 := ih (fun b hb => h b (by simp [hb])) (10 * a + (x.toNat - 48))
    rw [List.foldl_cons, List.length_cons, Nat.pow_succ]
    refine Nat.lt_of_lt_of_le h2 ?_
    have h3 : 10 * a + (x.toNat - 48) + 1 ≤ (a + 1) * 10 := by omega
    calc (10 * a + (x.toNat - 48) + 1) * 10 ^ xs.length ≤ ((a + 1) * 10) * 10 ^ xs.length := Nat.mul_le_mul_right _ h3
      _ = (a + 1) * (10 ^ xs.length * 10) := by rw [Nat.mul_assoc, Nat.mul_comm 10]

theorem valL_lt {l : List UInt8} (h : plain l = true) : valL l < 10 ^ l.length := by
  have := valL_go l (fun b hb => by
    obtain ⟨j, hj, rfl⟩ := List.getElem_of_mem hb
    exact (plain_dig h j hj).2) 0
  simpa [valL] using this

theorem digs_le (l : List UInt8) : (digs l).length ≤ l.length := by
  unfold digs Lib.trimPrefix
  split
  · simp
  · exact Nat.le_refl _

/-- What is read from a text of k bytes is less than 10 to the power of k, and of 60. -/
theorem parseV_lt (l : List UInt8) : (parseV l).natAbs < 10 ^ l.length ∧ (parseV l).natAbs < 10 ^ 60 := by
  unfold parseV
  by_cases h : parseE l = 0
  · rw [if_pos h]
    have e : (sgn (minus l) (valL (digs l))).natAbs = valL (digs l) := by unfold sgn; split <;> simp
    rw [e]
    have h1 : plain (digs l) = true ∧ (digs l).length ≤ 60 := by
      unfold parseE at h
      by_cases h60 : 60 < (digs l).length
      · rw [if_pos h60] at h; omega
      · rw [if_neg h60] at h
        by_cases hp : plain (digs l) = false
        · rw [if_pos (.inl hp)] at h; omega
        · exact ⟨by simpa using hp, by omega⟩
    have h2 := valL_lt h1.1
    exact ⟨Nat.lt_of_lt_of_le h2 (Nat.pow_le_pow_right (by omega) (digs_le l)), Nat.lt_of_lt_of_le h2 (Nat.pow_le_pow_right (by omega) h1.2)⟩
  · rw [if_neg h]
    exact ⟨by simpa using Nat.pow_pos (by omega), by simp⟩

theorem parseV_lim (l : List UInt8) : (parseV l).natAbs < Lim := by
  refine lim_le_pow (k := 4) (Nat.le_of_lt (Nat.lt_of_lt_of_le (parseV_lt l).2 ?_)) (by unfold LimN; omega)
  have h1 : (10 : Nat) ^ 60 ≤ (10 ^ 19) ^ 4 := by rw [← Nat.pow_mul]; exact Nat.pow_le_pow_right (by omega) (by omega)
  exact Nat.le_trans h1 (Nat.pow_le_pow_left (by unfold Bw; omega) 4)

theorem parseV_pow (l : List UInt8) (h : l.length ≤ 12) (k : Nat) (hk : k ≤ 1000) : (parseV l ^ k).natAbs < Lim := by
  rw [Int.natAbs_pow]
  have h1 : (parseV l).natAbs ≤ Bw := by
    have h2 := (parseV_lt l).1
    have h3 : (10 : Nat) ^ l.length ≤ 10 ^ 12 := Nat.pow_le_pow_right (by omega) h
    have h4 : (10 : Nat) ^ 12 ≤ Bw := by unfold Bw; omega
    omega
  exact lim_le_pow (Nat.pow_le_pow_left h1 k) (by unfold LimN; omega)
end Go.Proofs.Ytkonfkcaefjabaa
