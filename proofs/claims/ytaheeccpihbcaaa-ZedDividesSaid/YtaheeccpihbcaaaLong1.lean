/- Long division, one step: how often a number goes into one that has a word more. -/
import Derived.Test.YtaheeccpihbcaaaProds
namespace Go.Proofs.Ytaheeccpihbcaaa
open Go.RowKit Mx

/-- A guess that isn't too small. -/
theorem guess_c (hi lo y : Nat) (hy : 0 < y) (hyB : y < Bw) (hhi : hi < Bw) (hlo : lo < Bw) :
    ∃ q : Nat, (∀ w, Calls Try.prog 79 #[.int .u64 hi, .int .u64 lo, .int .u64 y] w fun e w' => e = .returned (.int .u64 q) ∧ ∃ m, w' = w.drewN m) ∧ q < Bw ∧ ∀ Q, Q < Bw → Q * y ≤ hi * Bw + lo → Q ≤ q := by
  by_cases h : y ≤ hi
  · refine ⟨18446744073709551615, fun w => ?_, by unfold Bw; omega, fun Q hQ _ => by unfold Bw at hQ; omega⟩
    have hfin : (Ending.returned (.int .u64 18446744073709551615) : Ending) = .returned (.int .u64 ((18446744073709551615 : Nat) : Int)) ∧ ∃ m, w = w.drewN m := ⟨rfl, 0, rfl⟩
    have HFIN := Lib.hid hfin
    clear hfin
    have h' : (y : Int) ≤ hi := by omega
    go_enter Try.func79, Try.ntmps79
    go_wp2
    go_ret
    exact HFIN.out
  · obtain ⟨q, r, hc, hq, hr, he⟩ := div64_fix hi lo y (by omega) hyB hlo
    refine ⟨q, fun w => ?_, hq, fun Q _ hle => ?_⟩
    · have HC := Lib.hid hc
      have h' : (hi : Int) < y := by omega
      clear hc he hr hq
      go_enter Try.func79, Try.ntmps79
      go_wp2_with (go_at_call 71; refine (HC.out _).mono ?_; rintro e w1 ⟨rfl, m, rfl⟩)
      go_ret
      exact ⟨rfl, m, rfl⟩
    · rw [← he] at hle
      have : Q * y < (q + 1) * y := by rw [Nat.add_mul]; omega
      have := Nat.lt_of_mul_lt_mul_right this
      omega

/-- The true number is no greater than the guess from the highest words. -/
theorem guess_ok {f fb : Nat → Nat} {off n : Nat} (hn : 0 < n) (hf : ∀ j, j < n + 1 → f (off + j) < Bw) (hlt : V Bw f (off + 1) n < V Bw fb 0 n) :
    V Bw f off (n + 1) / V Bw fb 0 n < Bw ∧ V Bw f off (n + 1) / V Bw fb 0 n * fb (n - 1) ≤ f (off + n) * Bw + f (off + (n - 1)) := by
  obtain ⟨m, rfl⟩ : ∃ m, n = m + 1 := ⟨n - 1, by omega⟩
  have hpos : 0 < V Bw fb 0 (m + 1) := by omega
  refine ⟨?_, ?_⟩
  · rw [Nat.div_lt_iff_lt_mul hpos, V_front]
    have h0 := hf 0 (by omega)
    rw [Nat.add_zero] at h0
    have : Bw * (V Bw f (off + 1) (m + 1) + 1) ≤ Bw * V Bw fb 0 (m + 1) := Nat.mul_le_mul_left _ hlt
    rw [Nat.mul_add] at this
    omega
  · have hle : V Bw f off (m + 1 + 1) / V Bw fb 0 (m + 1) * V Bw fb 0 (m + 1) ≤ V Bw f off (m + 1 + 1) := Nat.div_mul_le_self _ _
    generalize V Bw f off (m + 1 + 1) / V Bw fb 0 (m + 1) = Q at *
    have hlow : V Bw f off m < Bw ^ m := V_lt (fun j hj => hf j (by omega))
    have e1 : V Bw f off (m + 1 + 1) = V Bw f off m + f (off + m) * Bw ^ m + f (off + (m + 1)) * (Bw ^ m * Bw) := by rw [V_succ, V_succ, Nat.pow_succ]
    have e2 : V Bw fb 0 (m + 1) = V Bw fb 0 m + fb m * Bw ^ m := by rw [V_succ, Nat.zero_add]
    rw [e1, e2] at hle
    have hp : 0 < Bw ^ m := Nat.pow_pos Bw_pos
    simp only [Nat.add_sub_cancel]
    exact guess_alg hp hle hlow
end Go.Proofs.Ytaheeccpihbcaaa
