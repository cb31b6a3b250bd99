/- Numbers as digits: plain facts, no program. V b f o n: the number that the n digits f o, f (o+1), .. make in base b, the lowest first. -/
namespace Go.Proofs.Ytljpgmhgnfnbkaa.Mx

def V (b : Nat) (f : Nat → Nat) (o : Nat) : Nat → Nat
  | 0 => 0
  | n + 1 => V b f o n + f (o + n) * b ^ n

variable {b : Nat} {f g : Nat → Nat} {o p n m : Nat}

theorem V_zero : V b f o 0 = 0 := rfl
theorem V_succ : V b f o (n + 1) = V b f o n + f (o + n) * b ^ n := rfl

theorem V_congr (h : ∀ j, j < n → f (o + j) = g (p + j)) : V b f o n = V b g p n := by
  induction n with
  | zero => rfl
  | succ n ih => rw [V_succ, V_succ, ih (fun j hj => h j (by omega)), h n (by omega)]

theorem V_zeros (h : ∀ j, j < n → f (o + j) = 0) : V b f o n = 0 := by
  induction n with
  | zero => rfl
  | succ n ih => rw [V_succ, ih (fun j hj => h j (by omega)), h n (by omega)]; simp

theorem V_lt (h : ∀ j, j < n → f (o + j) < b) : V b f o n < b ^ n := by
  induction n with
  | zero => simp [V]
  | succ n ih =>
    have h1 := ih (fun j hj => h j (by omega))
    have h2 : f (o + n) + 1 ≤ b := h n (by omega)
    have h3 : (f (o + n) + 1) * b ^ n ≤ b * b ^ n := Nat.mul_le_mul_right _ h2
    rw [V_succ, Nat.pow_succ, Nat.mul_comm (b ^ n) b]
    rw [Nat.add_mul] at h3
    omega

theorem V_split (m : Nat) : V b f o (m + n) = V b f o m + b ^ m * V b f (o + m) n := by
  induction n with
  | zero => simp [V]
  | succ n ih =>
    rw [← Nat.add_assoc, V_succ, ih, V_succ, Nat.pow_add, Nat.add_assoc o m n]
    grind

theorem V_front : V b f o (n + 1) = f o + b * V b f (o + 1) n := by
  rw [Nat.add_comm n 1, V_split]; simp [V]

theorem V_ge (h : f (o + n) ≠ 0) : b ^ n ≤ V b f o (n + 1) := by
  have : 1 * b ^ n ≤ f (o + n) * b ^ n := Nat.mul_le_mul_right _ (by omega)
  rw [V_succ]; omega

theorem V_top (h : n = 0 ∨ f (o + n - 1) ≠ 0) : n = 0 ∨ b ^ (n - 1) ≤ V b f o n := by
  cases n with
  | zero => exact .inl rfl
  | succ n => exact .inr (V_ge (by simpa using h))

theorem V_pad (h : ∀ j, n ≤ j → j < m → f (o + j) = 0) (hnm : n ≤ m) : V b f o m = V b f o n := by
  obtain ⟨k, rfl⟩ : ∃ k, m = n + k := ⟨m - n, by omega⟩
  rw [V_split, V_zeros (n := k) (fun j hj => by rw [Nat.add_assoc]; exact h (n + j) (by omega) (by omega))]; simp

/-- A digit is read off the number. -/
theorem V_digit (hb : 0 < b) (h : ∀ j, j < n → f (o + j) < b) {j : Nat} (hj : j < n) : V b f o n / b ^ j % b = f (o + j) := by
  obtain ⟨k, rfl⟩ : ∃ k, n = j + (k + 1) := ⟨n - j - 1, by omega⟩
  have hlt : V b f o j < b ^ j := V_lt (fun i hi => h i (by omega))
  have hp : 0 < b ^ j := Nat.pow_pos hb
  rw [V_split, Nat.add_mul_div_left _ _ hp, Nat.div_eq_of_lt hlt, Nat.zero_add, V_front, Nat.add_mul_mod_self_left, Nat.mod_eq_of_lt (h j (by omega))]

/-- Two numbers, compared from the top: below at one place, alike above it. -/
theorem V_below (h : ∀ j, j < n → f (o + j) < b) {i : Nat} (hi : i < n) (hlt : f (o + i) < g (p + i)) (he : ∀ j, i < j → j < n → f (o + j) = g (p + j)) : V b f o n < V b g p n := by
  obtain ⟨k, rfl⟩ : ∃ k, n = (i + 1) + k := ⟨n - i - 1, by omega⟩
  rw [V_split (n := k) (i + 1), V_split (n := k) (i + 1)]
  have e : V b f (o + (i + 1)) k = V b g (p + (i + 1)) k := V_congr (fun j hj => by
    have := he (i + 1 + j) (by omega) (by omega); rw [Nat.add_assoc o, Nat.add_assoc p]; exact this)
  rw [e, V_succ, V_succ]
  have h1 : V b f o i < b ^ i := V_lt (fun j hj => h j (by omega))
  have h2 : (f (o + i) + 1) * b ^ i ≤ g (p + i) * b ^ i := Nat.mul_le_mul_right _ hlt
  rw [Nat.add_mul] at h2
  omega

theorem V_long (hb : 0 < b) (hf : ∀ j, j < n → f (o + j) < b) (hnm : n < m) (hg : g (p + m - 1) ≠ 0) : V b f o n < V b g p m := by
  have h1 : V b f o n < b ^ n := V_lt hf
  obtain ⟨k, rfl⟩ : ∃ k, m = k + 1 := ⟨m - 1, by omega⟩
  have h2 : b ^ k ≤ V b g p (k + 1) := V_ge (by simpa using hg)
  have h3 : b ^ n ≤ b ^ k := Nat.pow_le_pow_right hb (by omega)
  omega

/-- The length is read off the number. -/
theorem V_len (hb : 0 < b) (hf : ∀ j, j < n → f (o + j) < b) (hg : ∀ j, j < m → g (p + j) < b) (tf : n = 0 ∨ f (o + n - 1) ≠ 0) (tg : m = 0 ∨ g (p + m - 1) ≠ 0) (h : V b f o n = V b g p m) : n = m := by
  rcases Nat.lt_trichotomy n m with hl | hl | hl
  · have := V_long (g := g) (p := p) hb hf hl (by omega); omega
  · exact hl
  · have := V_long (g := f) (p := o) hb hg hl (by omega); omega

/-- The digits that stand from `o` on after a write at `k`. -/
def upd (f : Nat → Nat) (k x : Nat) : Nat → Nat := fun j => if j = k then x else f j
theorem upd_at (k x : Nat) : upd f k x k = x := by simp [upd]
theorem upd_ne {k j x : Nat} (h : j ≠ k) : upd f k x j = f j := by simp [upd, h]

theorem V_upd_out {k x : Nat} (h : k < o ∨ o + n ≤ k) : V b (upd f k x) o n = V b f o n :=
  V_congr (fun j hj => upd_ne (by omega))

/-- Carrying: one more digit of a sum. -/
theorem step_add {S T c c' x y d P b : Nat} (h : S + c * P = T) (hd : d + c' * b = x + y + c) : (S + d * P) + c' * (P * b) = T + (x + y) * P := by
  have : (d + c' * b) * P = (x + y + c) * P := by rw [hd]
  grind

/-- Taking away, with what is lacking beyond. -/
theorem step_sub {S T c c' x d P b z : Nat} (h : S + z = T + c * P) (y : Nat) (hd : d + y + c = x + c' * b) : (S + d * P) + (z + y * P) = (T + x * P) + c' * (P * b) := by
  have : (d + y + c) * P = (x + c' * b) * P := by rw [hd]
  grind

theorem guess_alg {Q P L y a b B D0 : Nat} (hp : 0 < P) (hle : Q * (D0 + y * P) ≤ L + b * P + a * (P * B)) (hlow : L < P) : Q * y ≤ a * B + b := by
  have e : Q * (D0 + y * P) = Q * D0 + Q * y * P := by grind
  have e2 : L + b * P + a * (P * B) = L + (a * B + b) * P := by grind
  rw [e, e2] at hle
  have : Q * y * P < (a * B + b + 1) * P := by rw [Nat.add_mul]; omega
  have := Nat.lt_of_mul_lt_mul_right this
  omega

end Go.Proofs.Ytljpgmhgnfnbkaa.Mx
