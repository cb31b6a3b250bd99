/- The texts of a few numbers. -/
import Derived.Test.YtkonfkcaefjabaaStr
namespace Go.Proofs.Ytkonfkcaefjabaa
open Go.RowKit Mx

theorem nd_one {N : Nat} (h0 : N ≠ 0) (h : N < 10) : nd N = 1 := by
  rw [nd, dif_neg h0, nd, dif_pos (by omega)]
theorem decL_one {N : Nat} (h0 : N ≠ 0) (h : N < 10) : decL N = [UInt8.ofNat (48 + N)] := by
  unfold decL
  rw [nd_one h0 h]
  simp [dig, Nat.mod_eq_of_lt h]
theorem txt_m4 : txt (-4) = .string ⟨#[45, 52]⟩ := by
  have := txt_neg (N := 4) (by omega)
  rw [decL_one (by omega) (by omega)] at this
  unfold txt
  rw [show (-4 : Int) = -((4 : Nat) : Int) from rfl, this]; rfl
theorem txt_m2 : txt (-2) = .string ⟨#[45, 50]⟩ := by
  have := txt_neg (N := 2) (by omega)
  rw [decL_one (by omega) (by omega)] at this
  unfold txt
  rw [show (-2 : Int) = -((2 : Nat) : Int) from rfl, this]; rfl
theorem txt_1 : txt 1 = .string ⟨#[49]⟩ := by
  have := txt_pos (N := 1) (by omega)
  rw [decL_one (by omega) (by omega)] at this
  unfold txt
  rw [show (1 : Int) = ((1 : Nat) : Int) from rfl, this]; rfl
theorem txt_4 : txt 4 = .string ⟨#[52]⟩ := by
  have := txt_pos (N := 4) (by omega)
  rw [decL_one (by omega) (by omega)] at this
  unfold txt
  rw [show (4 : Int) = ((4 : Nat) : Int) from rfl, this]; rfl

theorem lim_small {N : Nat} (h : N < 10 ^ 19) : N < Lim := by
  have h1 : Bw ^ 1 ≤ Bw ^ LimN := Nat.pow_le_pow_right Bw_pos (by unfold LimN; omega)
  have h2 : Bw ^ 1 = Bw := Nat.pow_one _
  have h3 : 10 ^ 19 ≤ Bw := by unfold Bw; omega
  unfold Lim
  omega
end Go.Proofs.Ytkonfkcaefjabaa
