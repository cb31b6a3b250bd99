/- The arithmetic under math/bits.Div64: a half word of the quotient. -/
import Derived.Lib.BitFns
namespace Go.Proofs.Ytkonfkcaefjabaa.Mx

/-- u * 2^32 + d by Y = yn1 * 2^32 + yn0. -/
structure Half (u d Y yn1 yn0 : Nat) : Prop where
  hY : Y = yn1 * 4294967296 + yn0
  h0 : yn0 < 4294967296
  h1 : 2147483648 ≤ yn1
  h2 : yn1 < 4294967296
  hu : u < Y
  hd : d < 4294967296

section
variable {u d Y yn1 yn0 q r : Nat}

theorem Half.pos (h : Half u d Y yn1 yn0) : 0 < Y := by have := h.hY; have := h.h1; omega

theorem Half.lt (h : Half u d Y yn1 yn0) : (u * 4294967296 + d) / Y < 4294967296 := by
  rw [Nat.div_lt_iff_lt_mul h.pos]
  have := h.hu; have := h.hd; omega

theorem mulY (h : Half u d Y yn1 yn0) (e : q * yn1 + r = u) : q * Y + r * 4294967296 = u * 4294967296 + q * yn0 := by
  rw [h.hY, ← e]; grind

theorem Half.stop (h : Half u d Y yn1 yn0) (e : q * yn1 + r = u) (hQ : (u * 4294967296 + d) / Y ≤ q) (t : q * yn0 ≤ 4294967296 * r + d) : q = (u * 4294967296 + d) / Y := by
  have m := mulY h e
  have : q ≤ (u * 4294967296 + d) / Y := by
    rw [Nat.le_div_iff_mul_le h.pos]; omega
  omega

theorem Half.more (h : Half u d Y yn1 yn0) (e : q * yn1 + r = u) (t : 4294967296 ≤ q ∨ 4294967296 * r + d < q * yn0) : (u * 4294967296 + d) / Y < q := by
  rcases t with t | t
  · have := h.lt; omega
  · have m := mulY h e
    rw [Nat.div_lt_iff_lt_mul h.pos]; omega

theorem Half.brk (h : Half u d Y yn1 yn0) (e : q * yn1 + r = u) (hQ : (u * 4294967296 + d) / Y ≤ q) (hr : 4294967296 ≤ r) (hq : q ≤ 4294967296) : q = (u * 4294967296 + d) / Y := by
  have m := mulY h e
  have : q * yn0 ≤ 4294967296 * 4294967295 := Nat.mul_le_mul hq (by have := h.h0; omega)
  have : q ≤ (u * 4294967296 + d) / Y := by
    rw [Nat.le_div_iff_mul_le h.pos]; omega
  omega

theorem Half.start (h : Half u d Y yn1 yn0) : (u / yn1) * yn1 + u % yn1 = u ∧ (u * 4294967296 + d) / Y ≤ u / yn1 ∧ u / yn1 ≤ 4294967297 ∧ u % yn1 < 4294967296 ∧ 0 < yn1 := by
  have h1 := h.h1; have h2 := h.h2; have hu := h.hu; have hY := h.hY; have h0 := h.h0; have hd := h.hd
  have e : (u / yn1) * yn1 + u % yn1 = u := by rw [Nat.mul_comm]; exact Nat.div_add_mod u yn1
  have hm : u % yn1 < yn1 := Nat.mod_lt _ (by omega)
  refine ⟨e, ?_, ?_, by omega, by omega⟩
  · rw [Nat.le_div_iff_mul_le (by omega)]
    have k : (u * 4294967296 + d) / Y * Y ≤ u * 4294967296 + d := Nat.div_mul_le_self _ _
    generalize (u * 4294967296 + d) / Y = Q at *
    have e2 : Q * Y = Q * yn1 * 4294967296 + Q * yn0 := by rw [hY]; grind
    omega
  · have : u / yn1 < 4294967298 := by
      rw [Nat.div_lt_iff_lt_mul (by omega)]; omega
    omega

theorem Half.rest (h : Half u d Y yn1 yn0) : (u * 4294967296 + d) % Y < Y ∧ (u * 4294967296 + d) / Y * Y + (u * 4294967296 + d) % Y = u * 4294967296 + d := by
  refine ⟨Nat.mod_lt _ h.pos, ?_⟩
  rw [Nat.mul_comm]; exact Nat.div_add_mod _ _
end

open Go.Lib in
theorem bitLenAux_b : ∀ (f x : Nat), x < 2 ^ f → x < 2 ^ bitLenAux f x ∧ (x ≠ 0 → 2 ^ bitLenAux f x ≤ 2 * x) ∧ bitLenAux f x ≤ f
  | 0, x, h => by simp at h; subst h; simp [bitLenAux]
  | f + 1, x, h => by
    rw [Nat.pow_succ] at h
    obtain ⟨a, b, c⟩ := bitLenAux_b f (x / 2) (by omega)
    by_cases h0 : x = 0
    · subst h0; simp [bitLenAux]
    · have e : bitLenAux (f + 1) x = 1 + bitLenAux f (x / 2) := by simp [bitLenAux, h0]
      rw [e, Nat.pow_add]
      refine ⟨by omega, fun _ => ?_, by omega⟩
      by_cases h1 : x / 2 = 0
      · have : bitLenAux f (x / 2) = 0 := by rw [h1]; cases f <;> simp [bitLenAux]
        rw [this]; omega
      · have := b h1; omega

/-- A word moved up till its highest bit is set. -/
theorem shift_of (y : Nat) (h0 : 0 < y) (h : y < 18446744073709551616) : ∃ s, s ≤ 63 ∧ Go.Lib.bitLen y + s = 64 ∧ y * 2 ^ s < 18446744073709551616 ∧ 9223372036854775808 ≤ y * 2 ^ s := by
  obtain ⟨a, b, c⟩ := bitLenAux_b 64 y h
  have b := b (by omega)
  change y < 2 ^ Go.Lib.bitLen y at a
  change 2 ^ Go.Lib.bitLen y ≤ 2 * y at b
  change Go.Lib.bitLen y ≤ 64 at c
  have hpos : Go.Lib.bitLen y ≠ 0 := by intro e; rw [e] at a; omega
  obtain ⟨s, hs⟩ : ∃ s, Go.Lib.bitLen y + s = 64 := ⟨64 - Go.Lib.bitLen y, by omega⟩
  have hp : 2 ^ Go.Lib.bitLen y * 2 ^ s = 18446744073709551616 := by rw [← Nat.pow_add, hs]
  have hs0 : 0 < 2 ^ s := Nat.pow_pos (by omega)
  refine ⟨s, by omega, hs, ?_, ?_⟩
  · calc y * 2 ^ s < 2 ^ Go.Lib.bitLen y * 2 ^ s := Nat.mul_lt_mul_of_pos_right a hs0
      _ = _ := hp
  · have : 2 ^ Go.Lib.bitLen y * 2 ^ s ≤ 2 * y * 2 ^ s := Nat.mul_le_mul_right _ b
    rw [hp, Nat.mul_assoc] at this
    omega
end Go.Proofs.Ytkonfkcaefjabaa.Mx
