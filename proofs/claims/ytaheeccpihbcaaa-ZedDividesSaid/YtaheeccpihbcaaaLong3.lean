/- Long division, all of it. -/
import Derived.Test.YtaheeccpihbcaaaLong2
namespace Go.Proofs.Ytaheeccpihbcaaa
open Go.RowKit Mx

theorem long_alg {F P VQ D T q X X' R Y B : Nat} (h : F + P * (X + Y * R) + P * B * VQ * D = T) (h2 : X' + q * D = X) : F + P * (X' + Y * R) + P * (q + B * VQ) * D = T := by
  rw [← h, ← h2]; grind

theorem long_step {fl fl' fq : Nat → Nat} {k nb na m q D T : Nat} (hm : m + nb = na + 1) (hk : k < m) (h2 : V Bw fl' k (nb + 1) + q * D = V Bw fl k (nb + 1)) (hlt : V Bw fl' k (nb + 1) < D) (hD : D < Bw ^ nb)
    (HO : ∀ j, (j < k ∨ k + (nb + 1) ≤ j) → fl' j = fl j) (HZ : ∀ j, k + 1 + nb ≤ j → j < na + 1 → fl j = 0)
    (HT : V Bw fl 0 (na + 1) + Bw ^ (k + 1) * V Bw fq (k + 1) (m - (k + 1)) * D = T) :
    V Bw fl' k nb < D ∧ (∀ j, k + nb ≤ j → j < na + 1 → fl' j = 0) ∧ V Bw fl' 0 (na + 1) + Bw ^ k * V Bw (upd fq k q) k (m - k) * D = T := by
  have e := V_succ (b := Bw) (f := fl') (o := k) (n := nb)
  have hz : fl' (k + nb) = 0 := by
    rcases Nat.eq_zero_or_pos (fl' (k + nb)) with h | h
    · exact h
    · have : 1 * Bw ^ nb ≤ fl' (k + nb) * Bw ^ nb := Nat.mul_le_mul_right _ h
      omega
  refine ⟨by omega, fun j h1 h3 => ?_, ?_⟩
  · by_cases ej : j = k + nb
    · rw [ej]; exact hz
    · rw [HO j (by omega)]; exact HZ j (by omega) h3
  · obtain ⟨r, hr⟩ : ∃ r, na + 1 = k + ((nb + 1) + r) := ⟨na + 1 - k - (nb + 1), by omega⟩
    obtain ⟨t, ht⟩ : ∃ t, m - k = t + 1 ∧ m - (k + 1) = t := ⟨m - (k + 1), by omega, rfl⟩
    rw [ht.2] at HT
    rw [ht.1, V_front (f := upd fq k q), upd_at, V_upd_out (by omega)]
    rw [hr] at HT ⊢
    rw [V_split (n := (nb + 1) + r) k, Nat.zero_add, V_split (n := r) (nb + 1), Nat.pow_succ] at HT
    rw [V_split (n := (nb + 1) + r) k, Nat.zero_add, V_split (n := r) (nb + 1), V_congr (f := fl') (g := fl) (o := 0) (p := 0) (n := k) (fun j hj => HO _ (by omega)),
      V_congr (f := fl') (g := fl) (o := k + (nb + 1)) (p := k + (nb + 1)) (n := r) (fun j hj => HO _ (by omega))]
    exact long_alg HT h2

theorem long_end {R VQ Bn s A D : Nat} (hD : D = Bn * 2 ^ s) (h : R + VQ * D = A * 2 ^ s) (hR : R < D) : VQ = A / Bn ∧ R / 2 ^ s = A % Bn := by
  have hp : 0 < 2 ^ s := Nat.pow_pos (by omega)
  have hb : 0 < Bn := by
    rcases Nat.eq_zero_or_pos Bn with e | e
    · subst e; omega
    · exact e
  rw [hD, ← Nat.mul_assoc] at h
  have hle : VQ * Bn ≤ A := Nat.le_of_mul_le_mul_right (by omega) hp
  have e2 : (A - VQ * Bn) * 2 ^ s = R := by rw [Nat.sub_mul]; omega
  have e3 : R / 2 ^ s = A - VQ * Bn := by rw [← e2]; exact Nat.mul_div_cancel _ hp
  have hlt : R / 2 ^ s < Bn := by rw [Nat.div_lt_iff_lt_mul hp, ← hD]; exact hR
  have hA : Bn * VQ + R / 2 ^ s = A := by rw [e3, Nat.mul_comm]; omega
  constructor
  · rw [← hA, Nat.mul_add_div hb, Nat.div_eq_of_lt hlt, Nat.add_zero]
  · have e4 : A % Bn = (Bn * VQ + R / 2 ^ s) % Bn := by rw [hA]
    rw [e4, Nat.mul_add_mod, Nat.mod_eq_of_lt hlt]

/-- The divisor, moved up, has no word more. -/
theorem high_top {fb fH : Nat → Nat} {n s : Nat} (hn : 0 < n) (hs : s ≤ 63) (hfb : ∀ j, j < n → fb j < Bw) (hY : fb (n - 1) * 2 ^ s < 18446744073709551616) (hV : V Bw fH 0 (n + 1) = V Bw fb 0 n * 2 ^ s) : V Bw fH 0 n = V Bw fb 0 n * 2 ^ s ∧ V Bw fb 0 n * 2 ^ s < Bw ^ n := by
  obtain ⟨m, rfl⟩ : ∃ m, n = m + 1 := ⟨n - 1, by omega⟩
  simp only [Nat.add_sub_cancel] at hY
  have hp : 0 < 2 ^ s := Nat.pow_pos (by omega)
  have hpp : 2 ^ (64 - s) * 2 ^ s = Bw := by rw [← Nat.pow_add, show 64 - s + s = 64 from by omega]; rfl
  have ht : fb m < 2 ^ (64 - s) := by
    have : fb m * 2 ^ s < 2 ^ (64 - s) * 2 ^ s := by rw [hpp]; exact hY
    exact Nat.lt_of_mul_lt_mul_right this
  have hlow : V Bw fb 0 m < Bw ^ m := V_lt (fun j hj => by rw [Nat.zero_add]; exact hfb j (by omega))
  have h1 : V Bw fb 0 (m + 1) < (fb m + 1) * Bw ^ m := by rw [V_succ, Nat.zero_add, Nat.add_mul]; omega
  have h2 : V Bw fb 0 (m + 1) * 2 ^ s < (fb m + 1) * Bw ^ m * 2 ^ s := Nat.mul_lt_mul_of_pos_right h1 hp
  have h3 : (fb m + 1) * Bw ^ m * 2 ^ s ≤ 2 ^ (64 - s) * Bw ^ m * 2 ^ s := Nat.mul_le_mul_right _ (Nat.mul_le_mul_right _ ht)
  have h4 : 2 ^ (64 - s) * Bw ^ m * 2 ^ s = Bw ^ (m + 1) := by
    rw [Nat.pow_succ, ← hpp, Nat.mul_assoc, Nat.mul_comm ((2 ^ (64 - s) * 2 ^ s) ^ m), ← Nat.mul_assoc, Nat.mul_comm]
  have h5 : V Bw fb 0 (m + 1) * 2 ^ s < Bw ^ (m + 1) := by omega
  refine ⟨?_, h5⟩
  have e := V_succ (b := Bw) (f := fH) (o := 0) (n := m + 1)
  have hz : fH (0 + (m + 1)) = 0 := by
    rcases Nat.eq_zero_or_pos (fH (0 + (m + 1))) with h | h
    · exact h
    · have : 1 * Bw ^ (m + 1) ≤ fH (0 + (m + 1)) * Bw ^ (m + 1) := Nat.mul_le_mul_right _ h
      omega
  rw [hz, Nat.zero_mul] at e
  omega

theorem left_top {f fb fL : Nat → Nat} {na nb m s : Nat} (hn : 0 < nb) (hm : m + nb = na + 1) (hf : ∀ j, j < na → f j < Bw) (ht : fb (nb - 1) ≠ 0) (hV : V Bw fL 0 (na + 1) = V Bw f 0 na * 2 ^ s) : V Bw fL m nb < V Bw fb 0 nb * 2 ^ s := by
  obtain ⟨k, rfl⟩ : ∃ k, nb = k + 1 := ⟨nb - 1, by omega⟩
  obtain rfl : na = m + k := by omega
  have hp : 0 < 2 ^ s := Nat.pow_pos (by omega)
  have hP : 0 < Bw ^ m := Nat.pow_pos Bw_pos
  have h1 : V Bw f 0 (m + k) < Bw ^ (m + k) := V_lt (fun j hj => by rw [Nat.zero_add]; exact hf j hj)
  have h2 : Bw ^ k ≤ V Bw fb 0 (k + 1) := V_ge (by simpa using ht)
  have h3 : V Bw f 0 (m + k) * 2 ^ s < Bw ^ (m + k) * 2 ^ s := Nat.mul_lt_mul_of_pos_right h1 hp
  have h4 : Bw ^ k * 2 ^ s ≤ V Bw fb 0 (k + 1) * 2 ^ s := Nat.mul_le_mul_right _ h2
  rw [show m + k + 1 = m + (k + 1) from by omega, V_split m, Nat.zero_add] at hV
  rw [Nat.pow_add, Nat.mul_assoc] at h3
  have h5 : Bw ^ m * V Bw fL m (k + 1) < Bw ^ m * (Bw ^ k * 2 ^ s) := by omega
  have h6 := Nat.lt_of_mul_lt_mul_left h5
  omega
end Go.Proofs.Ytaheeccpihbcaaa
