/- Long division, one step: how often a number goes into one that has a word more. -/
import Derived.Test.YtkonfkcaefjabaaProds
namespace Go.Proofs.Ytkonfkcaefjabaa
open Go.RowKit Mx

/-- A guess that isn't too small. -/
theorem guess_c (hi lo y : Nat) (hy : 0 < y) (hyB : y < Bw) (hhi : hi < Bw) (hlo : lo < Bw) :
    ∃ q : Nat, (∀ w, Calls Try.prog 79 #[.int .u64 hi, .int .u64 lo, .int .u64 y] w fun e w' => e = .returned (.int .u64 q) ∧ ∃ m, w' = w.drewN m) ∧ q < Bw ∧ ∀ Q, Q < Bw → Q * y ≤ hi * Bw + lo → Q ≤ q := by
  by_cases h : y ≤ hi
  · refine ⟨18446744073709551615, fun w => ?_, by unfold Bw; omega, fun Q hQ _ => by unfold Bw at hQ; omega⟩
    have hfin : (Ending.returned (.int .u64 18446744073709551615) : Ending) = .returned (.int .u64 ((18446744073709551615 : Nat) : Int)) ∧ ∃ m, w = w.drewN m := ⟨rfl, 0, rfl⟩
    have HFIN := Lib.hid hfin
    clear hfin
    have h' : (y : Int) ≤ hi := by omega
    go_enter Try.func79, Try.ntmps79
    go_wp2
    go_ret
    exact HFIN.out
  · obtain ⟨q, r, hc, hq, hr, he⟩ := div64_fix hi lo y (by omega) hyB hlo
    refine ⟨q, fun w => ?_, hq, fun Q _ hle => ?_⟩
    · have HC := Lib.hid hc
      have h' : (hi : Int) < y := by omega
      clear hc he hr hq
      go_enter Try.func79, Try.ntmps79
      go_wp2_with (go_at_call 71; refine (HC.out _).mono ?_; rintro e w1 ⟨rfl, m, rfl⟩)
      go_ret
      exact ⟨rfl, m, rfl⟩
    · rw [← he] at hle
      have : Q * y < (q + 1) * y := by rw [Nat.add_mul]; omega
      have := Nat.lt_of_mul_lt_mul_right this
      omega

/-- The true number is no greater than the guess from the highest words. -/
theorem guess_ok {f fb : Nat → Nat} {off n : Nat} (hn : 0 < n) (hf : ∀ j, j < n + 1 → f (off + j) < Bw) (hlt : V Bw f (off + 1) n < V Bw fb 0 n) :
    V Bw f off (n + 1) / V Bw fb 0 n < Bw ∧ V Bw f off (n + 1) / V Bw fb 0 n * fb (n - 1) ≤ f (off + n) * Bw + f (off + (n - 1)) := by
  obtain ⟨m, rfl⟩ : ∃ m, n = m + 1 := ⟨n - 1, by omega⟩
  have hpos : 0 < V Bw fb 0 (m + 1) := by omega
  refine ⟨?_, ?_⟩
  · rw [Nat.div_lt_iff_lt_mul hpos, V_front]
    have h0 := hf 0 (by omega)
    rw [Nat.add_zero] at h0
    have : Bw * (V Bw f (off + 1) (m + 1) + 1) ≤ Bw * V Bw fb 0 (m + 1) := Nat.mul_le_mul_left _ hlt
    rw [Nat.mul_add] at this
    omega
  · have hle : V Bw f off (m + 1 + 1) / V Bw fb 0 (m + 1) * V Bw fb 0 (m + 1) ≤ V Bw f off (m + 1 + 1) := Nat.div_mul_le_self _ _
    generalize V Bw f off (m + 1 + 1) / V Bw fb 0 (m + 1) = Q at *
    have hlow : V Bw f off m < Bw ^ m := V_lt (fun j hj => hf j (by omega))
    have e1 : V Bw f off (m + 1 + 1) = V Bw f off m + f (off + m) * Bw ^ m + f (off + (m + 1)) * (Bw ^ m * Bw) := by rw [V_succ, V_succ, Nat.pow_succ]
    have e2 : V Bw fb 0 (m + 1) = V Bw fb 0 m + fb m * Bw ^ m := by rw [V_succ, Nat.zero_add]
    rw [e1, e2] at hle
    have hp : 0 < Bw ^ m := Nat.pow_pos Bw_pos
    simp only [Nat.add_sub_cancel]
    exact guess_alg hp hle hlow

def OftenPost (g off n M : Nat) (f fb : Nat → Nat) (w : World) (e : Ending) (w' : World) : Prop :=
  ∃ (q : Nat) (f' : Nat → Nat), e = .returned (.int .u64 q) ∧ q < Bw ∧ Blk .u64 w' g M f' ∧ (∀ j, j < M → f' j < Bw) ∧ (∀ j, (j < off ∨ off + (n + 1) ≤ j) → f' j = f j) ∧
    V Bw f' off (n + 1) + q * V Bw fb 0 n = V Bw f off (n + 1) ∧ V Bw f' off (n + 1) < V Bw fb 0 n ∧ w.grownBy w' (some g)

theorem often_back {A D W Y c l q Q : Nat} (h : W + q * D = A + l * Y) (hl : 0 < l) (hW : W < Y) (hQ : Q = A / D) (hD : 0 < D) : Q < q := by
  subst hQ
  rw [Nat.div_lt_iff_lt_mul hD]
  have : 1 * Y ≤ l * Y := Nat.mul_le_mul_right _ hl
  omega

theorem often_next {A D W W' Y c l q : Nat} (h : W + q * D = A + l * Y) (hq : 0 < q) (hc : c ≤ l) (h2 : W' + c * Y = W + D) : W' + (q - 1) * D = A + (l - c) * Y := by
  obtain ⟨q', rfl⟩ : ∃ q', q = q' + 1 := ⟨q - 1, by omega⟩
  obtain ⟨l', rfl⟩ : ∃ l', l = l' + c := ⟨l - c, by omega⟩
  rw [Nat.add_mul, Nat.add_mul] at h
  simp only [Nat.add_sub_cancel]
  omega

theorem often_done {A D W q Q : Nat} (h : W + q * D = A + 0) (hQ : Q = A / D) (hle : Q ≤ q) (hD : 0 < D) : W < D := by
  subst hQ
  have h1 : q ≤ A / D := by rw [Nat.le_div_iff_mul_le hD]; omega
  have h2 : q = A / D := by omega
  have h3 := Nat.div_add_mod A D
  have h4 := Nat.mod_lt A hD
  rw [h2, Nat.mul_comm] at h
  omega

set_option maxHeartbeats 1000000 in
theorem takeOften_c (g off n cap M capb : Nat) (f : Nat → Nat) (pb : Option Addr) (fb : Nat → Nat) (w : World) (hn : 0 < n) (hB : Blk .u64 w g M f) (hl : off + (n + 1) ≤ M) (hM : M ≤ 1000000) (hf : ∀ j, j < M → f j < Bw)
    (hb : At .u64 w pb n fb) (hfb : ∀ j, j < n → fb j < Bw) (htop : fb (n - 1) ≠ 0) (hne : ∀ a, pb = some a → some a.block ≠ some g) (hlt : V Bw f (off + 1) n < V Bw fb 0 n) :
    Calls Try.prog 76 #[.slice (some ⟨g, off, none⟩) ((n + 1 : Nat)) cap, .slice pb n capb] w (OftenPost g off n M f fb w) := by
  obtain ⟨hQB, hQg⟩ := guess_ok (f := f) (off := off) hn (fun j hj => hf _ (by omega)) hlt
  have hD : 0 < V Bw fb 0 n := by omega
  obtain ⟨q0, hcall, hq0, hqQ⟩ := guess_c (f (off + n)) (f (off + (n - 1))) (fb (n - 1)) (by omega) (hfb _ (by omega)) (hf _ (by omega)) (hf _ (by omega))
  have hge := hqQ _ hQB hQg
  obtain ⟨gb, ob, rfl, hgb, hcb⟩ : ∃ gb ob, pb = some ⟨gb, ob, none⟩ ∧ gb < w.heap.size ∧ ∀ j, j < n → w.cell? ⟨gb, ob + j, none⟩ = some (.int .u64 (fb j)) := by
    rcases hb with h | h
    · omega
    · exact h
  have HGE := Lib.hid hge; have HC := Lib.hid hcall; have HQ0 := Lib.hid hq0; have HLT := Lib.hid hlt; have HD := Lib.hid hD
  have HAT : Hid (At .u64 w (some ⟨gb, ob, none⟩) n fb) := Or.inr ⟨gb, ob, rfl, hgb, hcb⟩
  have HFB := Lib.hid hfb; have HNE := Lib.hid hne; have HB := Lib.hid hB; have HF := Lib.hid hf
  have hbb : gb ≠ g := fun e => hne _ rfl (by rw [e])
  obtain ⟨x1, hx1⟩ : ∃ x, f (off + n) = x := ⟨_, rfl⟩
  obtain ⟨x2, hx2⟩ : ∃ x, f (off + (n - 1)) = x := ⟨_, rfl⟩
  obtain ⟨x3, hx3⟩ : ∃ x, fb (n - 1) = x := ⟨_, rfl⟩
  have c1 := hB.cell (j := off + n) (by omega)
  have c2 := hB.cell (j := off + (n - 1)) (by omega)
  have c3 := hcb (n - 1) (by omega)
  rw [hx1] at c1; rw [hx2] at c2; rw [hx3] at c3
  rw [hx1, hx2, hx3] at HC
  have i1 : (0 : Int) < n := by omega
  have i2 : (n : Int) < (n : Int) + 1 := by omega
  have i3 : (0 : Int) ≤ (n : Int) - 1 := by omega
  have i4 : (n : Int) - 1 < n := by omega
  have i5 : (n : Int) - 1 < (n : Int) + 1 := by omega
  clear hQB hQg hqQ hge hcall hq0 hlt hD hb hfb hne hB hf hcb hx1 hx2 hx3 htop
  go_enter Try.func76, Try.ntmps76
  go_wp2_with fail
  go_quiet ((go_at_call 79; first | exact q3 HC.out | exact q4 HC.out))
  generalize hw0 : w.drewN nq = w0
  have HB0 : Hid (Blk .u64 w0 g M f) := by rw [← hw0]; exact HB.out
  have HAT0 : Hid (At .u64 w0 (some ⟨gb, ob, none⟩) n fb) := by rw [← hw0]; exact HAT.out
  have HG0 : Hid (w.grownBy w0 (some g)) := by rw [← hw0]; exact gb_drewN (gb_refl _ _) _
  clear hw0 HB c1 c2 c3 i1 i2 i3 i4 i5 HC
  have HNE2 := Lib.hid (fun (_ : 0 < n) => HNE.out)
  go_wp2_with (go_at_call 69; refine (takeTimes_c g off (n + 1) cap M f (some ⟨gb, ob, none⟩) n capb fb q0 _ HB0.out hl (by omega) HF.out HAT0.out HFB.out HNE2.out (by omega) HQ0.out).mono ?_; rintro e w1 ⟨c, f1, rfl, hc, hB1, hF1, hO1, hV1, hG1⟩; have HB1 := Lib.hid hB1; have HF1 := Lib.hid hF1; have HO1 := Lib.hid hO1; have HV1 := Lib.hid hV1; have HG1 := Lib.hid (gb_trans HG0.out hG1); have HC := Lib.hid hc; clear hB1 hF1 hO1 hV1 hG1 hc)
  clear HB0 HG0
  go_loopw [5, 6] (fun q l wr => ∃ (qn ln : Nat) (fk : Nat → Nat), q = .int .u64 qn ∧ l = .int .u64 ln ∧ Hid (qn < Bw) ∧ Hid (ln < Bw) ∧ Hid (Blk .u64 wr g M fk) ∧ Hid (∀ j, j < M → fk j < Bw) ∧ Hid (∀ j, (j < off ∨ off + (n + 1) ≤ j) → fk j = f j) ∧
      Hid (V Bw fk off (n + 1) + qn * V Bw fb 0 n = V Bw f off (n + 1) + ln * Bw ^ (n + 1)) ∧ Hid (V Bw f off (n + 1) / V Bw fb 0 n ≤ qn) ∧ Hid (w.grownBy wr (some g)))
    (fun q _ _ => (intOf q).toNat)
  case atStart => exact ⟨q0, c, f1, rfl, rfl, HQ0, HC, HB1, HF1, HO1, HV1, HGE, HG1⟩
  case round =>
    clear HC HB1 HF1 HO1 HV1 HG1 HGE HQ0
    obtain ⟨qn, ln, fk, rfl, rfl, HQ, HL, HBk, HFk, HOk, HVk, HGk, HWk⟩ := hrel
    by_cases h0 : 0 < ln
    · have hlow : V Bw fk off (n + 1) < Bw ^ (n + 1) := V_lt (fun j hj => HFk.out _ (by omega))
      have hQq := often_back (c := 0) HVk.out h0 hlow rfl HD.out
      have hqp : 0 < qn := Nat.lt_of_le_of_lt (Nat.zero_le _) hQq
      have HQq := Lib.hid hQq
      have hln : (0 : Int) < ln := by omega
      have hqn2 : (1 : Int) ≤ qn := by omega
      have hqn3 : (qn : Int) ≤ 18446744073709551615 := by have := HQ.out; unfold Bw at this; omega
      have hln3 : (ln : Int) ≤ 18446744073709551615 := by have := HL.out; unfold Bw at this; omega
      have HAW := Lib.hid (HAT.out.grown HWk.out HNE.out)
      clear hlow hQq
      go_wp2_with (go_at_call 68; refine (addInto_c g off (n + 1) cap M fk (some ⟨gb, ob, none⟩) n capb fb _ HBk.out hl (by omega) HFk.out HAW.out HFB.out HNE2.out (by omega)).mono ?_; rintro e w2 ⟨c2, f2, rfl, hc2, hB2, hF2, hO2, hV2, hG2⟩; have HB2 := Lib.hid hB2; have HF2 := Lib.hid hF2; have HO2 := Lib.hid hO2; have HV2 := Lib.hid hV2; have HG2 := Lib.hid (gb_trans HWk.out hG2); clear hB2 hF2 hO2 hV2 hG2)
      go_roundw
      case rel => exact ⟨qn - 1, ln - c2, f2, val_of (by omega), val_of (by omega), Nat.lt_of_le_of_lt (Nat.sub_le _ _) HQ.out, Nat.lt_of_le_of_lt (Nat.sub_le _ _) HL.out, HB2, HF2, (fun j hj => by rw [HO2.out j hj]; exact HOk.out j hj), often_next HVk.out hqp (by omega) HV2.out, Nat.le_sub_one_of_lt HQq.out, HG2⟩
      case measure => simp [intOf]; omega
    · obtain rfl : ln = 0 := by omega
      have hfin : OftenPost g off n M f fb w (.returned (.int .u64 qn)) wr := by
        have hv := HVk.out
        rw [Nat.zero_mul] at hv
        exact ⟨qn, fk, rfl, HQ.out, HBk.out, HFk.out, HOk.out, by rw [hv, Nat.add_zero], often_done hv rfl HGk.out HD.out, HWk.out⟩
      have HFIN := Lib.hid hfin
      clear hfin
      go_wp2
      go_ret
      exact HFIN.out

theorem long_alg {F P VQ D T q X X' R Y B : Nat} (h : F + P * (X + Y * R) + P * B * VQ * D = T) (h2 : X' + q * D = X) : F + P * (X' + Y * R) + P * (q + B * VQ) * D = T := by
  rw [← h, ← h2]; grind

theorem long_step {fl fl' fq : Nat → Nat} {k nb na m q D T : Nat} (hm : m + nb = na + 1) (hk : k < m) (h2 : V Bw fl' k (nb + 1) + q * D = V Bw fl k (nb + 1)) (hlt : V Bw fl' k (nb + 1) < D) (hD : D < Bw ^ nb)
    (HO : ∀ j, (j < k ∨ k + (nb + 1) ≤ j) → fl' j = fl j) (HZ : ∀ j, k + 1 + nb ≤ j → j < na + 1 → fl j = 0)
    (HT : V Bw fl 0 (na + 1) + Bw ^ (k + 1) * V Bw fq (k + 1) (m - (k + 1)) * D = T) :
    V Bw fl' k nb < D ∧ (∀ j, k + nb ≤ j → j < na + 1 → fl' j = 0) ∧ V Bw fl' 0 (na + 1) + Bw ^ k * V Bw (upd fq k q) k (m - k) * D = T := by
  have e := V_succ (b := Bw) (f := fl') (o := k) (n := nb)
  have hz : fl' (k + nb) = 0 := by
    rcases Nat.eq_zero_or_pos (fl' (k + nb)) with h | h
    · exact h
    · have : 1 * Bw ^ nb ≤ fl' (k + nb) * Bw ^ nb := Nat.mul_le_mul_right _ h
      omega
  refine ⟨by omega, fun j h1 h3 => ?_, ?_⟩
  · by_cases ej : j = k + nb
    · rw [ej]; exact hz
    · rw [HO j (by omega)]; exact HZ j (by omega) h3
  · obtain ⟨r, hr⟩ : ∃ r, na + 1 = k + ((nb + 1) + r) := ⟨na + 1 - k - (nb + 1), by omega⟩
    obtain ⟨t, ht⟩ : ∃ t, m - k = t + 1 ∧ m - (k + 1) = t := ⟨m - (k + 1), by omega, rfl⟩
    rw [ht.2] at HT
    rw [ht.1, V_front (f := upd fq k q), upd_at, V_upd_out (by omega)]
    rw [hr] at HT ⊢
    rw [V_split (n := (nb + 1) + r) k, Nat.zero_add, V_split (n := r) (nb + 1), Nat.pow_succ] at HT
    rw [V_split (n := (nb + 1) + r) k, Nat.zero_add, V_split (n := r) (nb + 1), V_congr (f := fl') (g := fl) (o := 0) (p := 0) (n := k) (fun j hj => HO _ (by omega)),
      V_congr (f := fl') (g := fl) (o := k + (nb + 1)) (p := k + (nb + 1)) (n := r) (fun j hj => HO _ (by omega))]
    exact long_alg HT h2

theorem long_end {R VQ Bn s A D : Nat} (hD : D = Bn * 2 ^ s) (h : R + VQ * D = A * 2 ^ s) (hR : R < D) : VQ = A / Bn ∧ R / 2 ^ s = A % Bn := by
  have hp : 0 < 2 ^ s := Nat.pow_pos (by omega)
  have hb : 0 < Bn := by
    rcases Nat.eq_zero_or_pos Bn with e | e
    · subst e; omega
    · exact e
  rw [hD, ← Nat.mul_assoc] at h
  have hle : VQ * Bn ≤ A := Nat.le_of_mul_le_mul_right (by omega) hp
  have e2 : (A - VQ * Bn) * 2 ^ s = R := by rw [Nat.sub_mul]; omega
  have e3 : R / 2 ^ s = A - VQ * Bn := by rw [← e2]; exact Nat.mul_div_cancel _ hp
  have hlt : R / 2 ^ s < Bn := by rw [Nat.div_lt_iff_lt_mul hp, ← hD]; exact hR
  have hA : Bn * VQ + R / 2 ^ s = A := by rw [e3, Nat.mul_comm]; omega
  constructor
  · rw [← hA, Nat.mul_add_div hb, Nat.div_eq_of_lt hlt, Nat.add_zero]
  · have e4 : A % Bn = (Bn * VQ + R / 2 ^ s) % Bn := by rw [hA]
    rw [e4, Nat.mul_add_mod, Nat.mod_eq_of_lt hlt]

/-- The divisor, moved up, has no word more. -/
theorem high_top {fb fH : Nat → Nat} {n s : Nat} (hn : 0 < n) (hs : s ≤ 63) (hfb : ∀ j, j < n → fb j < Bw) (hY : fb (n - 1) * 2 ^ s < 18446744073709551616) (hV : V Bw fH 0 (n + 1) = V Bw fb 0 n * 2 ^ s) : V Bw fH 0 n = V Bw fb 0 n * 2 ^ s ∧ V Bw fb 0 n * 2 ^ s < Bw ^ n := by
  obtain ⟨m, rfl⟩ : ∃ m, n = m + 1 := ⟨n - 1, by omega⟩
  simp only [Nat.add_sub_cancel] at hY
  have hp : 0 < 2 ^ s := Nat.pow_pos (by omega)
  have hpp : 2 ^ (64 - s) * 2 ^ s = Bw := by rw [← Nat.pow_add, show 64 - s + s = 64 from by omega]; rfl
  have ht : fb m < 2 ^ (64 - s) := by
    have : fb m * 2 ^ s < 2 ^ (64 - s) * 2 ^ s := by rw [hpp]; exact hY
    exact Nat.lt_of_mul_lt_mul_right this
  have hlow : V Bw fb 0 m < Bw ^ m := V_lt (fun j hj => by rw [Nat.zero_add]; exact hfb j (by omega))
  have h1 : V Bw fb 0 (m + 1) < (fb m + 1) * Bw ^ m := by rw [V_succ, Nat.zero_add, Nat.add_mul]; omega
  have h2 : V Bw fb 0 (m + 1) * 2 ^ s < (fb m + 1) * Bw ^ m * 2 ^ s := Nat.mul_lt_mul_of_pos_right h1 hp
  have h3 : (fb m + 1) * Bw ^ m * 2 ^ s ≤ 2 ^ (64 - s) * Bw ^ m * 2 ^ s := Nat.mul_le_mul_right _ (Nat.mul_le_mul_right _ ht)
  have h4 : 2 ^ (64 - s) * Bw ^ m * 2 ^ s = Bw ^ (m + 1) := by
    rw [Nat.pow_succ, ← hpp, Nat.mul_assoc, Nat.mul_comm ((2 ^ (64 - s) * 2 ^ s) ^ m), ← Nat.mul_assoc, Nat.mul_comm]
  have h5 : V Bw fb 0 (m + 1) * 2 ^ s < Bw ^ (m + 1) := by omega
  refine ⟨?_, h5⟩
  have e := V_succ (b := Bw) (f := fH) (o := 0) (n := m + 1)
  have hz : fH (0 + (m + 1)) = 0 := by
    rcases Nat.eq_zero_or_pos (fH (0 + (m + 1))) with h | h
    · exact h
    · have : 1 * Bw ^ (m + 1) ≤ fH (0 + (m + 1)) * Bw ^ (m + 1) := Nat.mul_le_mul_right _ h
      omega
  rw [hz, Nat.zero_mul] at e
  omega

theorem left_top {f fb fL : Nat → Nat} {na nb m s : Nat} (hn : 0 < nb) (hm : m + nb = na + 1) (hf : ∀ j, j < na → f j < Bw) (ht : fb (nb - 1) ≠ 0) (hV : V Bw fL 0 (na + 1) = V Bw f 0 na * 2 ^ s) : V Bw fL m nb < V Bw fb 0 nb * 2 ^ s := by
  obtain ⟨k, rfl⟩ : ∃ k, nb = k + 1 := ⟨nb - 1, by omega⟩
  obtain rfl : na = m + k := by omega
  have hp : 0 < 2 ^ s := Nat.pow_pos (by omega)
  have hP : 0 < Bw ^ m := Nat.pow_pos Bw_pos
  have h1 : V Bw f 0 (m + k) < Bw ^ (m + k) := V_lt (fun j hj => by rw [Nat.zero_add]; exact hf j hj)
  have h2 : Bw ^ k ≤ V Bw fb 0 (k + 1) := V_ge (by simpa using ht)
  have h3 : V Bw f 0 (m + k) * 2 ^ s < Bw ^ (m + k) * 2 ^ s := Nat.mul_lt_mul_of_pos_right h1 hp
  have h4 : Bw ^ k * 2 ^ s ≤ V Bw fb 0 (k + 1) * 2 ^ s := Nat.mul_le_mul_right _ h2
  rw [show m + k + 1 = m + (k + 1) from by omega, V_split m, Nat.zero_add] at hV
  rw [Nat.pow_add, Nat.mul_assoc] at h3
  have h5 : Bw ^ m * V Bw fL m (k + 1) < Bw ^ m * (Bw ^ k * 2 ^ s) := by omega
  have h6 := Nat.lt_of_mul_lt_mul_left h5
  omega

def DivNumPost (A B : Nat) (w : World) (e : Ending) (w' : World) : Prop := ∃ v1 v2, e = .returned (.tuple #[v1, v2]) ∧ Num w' v1 (A / B) ∧ Num w' v2 (A % B) ∧ w.grownBy w' none

set_option maxHeartbeats 2000000 in
theorem divideLong_w (pa pb : Option Addr) (na nb capa capb : Nat) (f fb : Nat → Nat) (w : World) (hna : na ≤ 100000) (hnb : nb ≤ na) (hn0 : 0 < nb) (ha : At .u64 w pa na f) (hb : At .u64 w pb nb fb) (hf : ∀ j, j < na → f j < Bw) (hfb : ∀ j, j < nb → fb j < Bw) (htop : fb (nb - 1) ≠ 0) :
    Calls Try.prog 67 #[.slice pa na capa, .slice pb nb capb] w (DivNumPost (V Bw f 0 na) (V Bw fb 0 nb) w) := by
  obtain ⟨gb, ob, rfl, hgb, hcb⟩ : ∃ gb ob, pb = some ⟨gb, ob, none⟩ ∧ gb < w.heap.size ∧ ∀ j, j < nb → w.cell? ⟨gb, ob + j, none⟩ = some (.int .u64 (fb j)) := by
    rcases hb with h | h
    · omega
    · exact h
  obtain ⟨s, hs, hlz, hY1, hY2⟩ := lz_c (fb (nb - 1)) (by omega) (hfb _ (by omega))
  obtain ⟨m, hm⟩ : ∃ m, m + nb = na + 1 := ⟨na + 1 - nb, by omega⟩
  have hmk : ∀ w, (Instr.makeSlice 23 (.int .i64 ((na : Int) - (nb : Int) + 1)) (.int .i64 ((na : Int) - (nb : Int) + 1))).run Try.prog w = .ok (.slice (some ⟨w.heap.size, 0, none⟩) m m) (w.alloc (.cells (madeCells #[.int .u64 0] m) 40)) :=
    fun w => by have := make64_run m (by omega) w; rwa [show ((m : Nat) : Int) = (na : Int) - (nb : Int) + 1 from by omega] at this
  have HA := Lib.hid ha; have HF := Lib.hid hf; have HFB := Lib.hid hfb; have HLZ := Lib.hid hlz; have HT := Lib.hid htop; have HY := Lib.hid hY1; have HM := Lib.hid hm
  have HBT : Hid (At .u64 w (some ⟨gb, ob, none⟩) nb fb) := Or.inr ⟨gb, ob, rfl, hgb, hcb⟩
  have hc := hcb (nb - 1) (by omega)
  clear ha hb hf hfb hlz htop hY1 hY2 hcb
  have i1 : (0 : Int) ≤ (nb : Int) - 1 := by omega
  have i2 : (nb : Int) ≤ na := by omega
  have i3 : m ≤ 100001 := by omega
  have i4 : 1 ≤ m := by omega
  clear hm
  go_enter Try.func67, Try.ntmps67
  go_wp2_with (go_at_call 74; refine (HLZ.out _).mono ?_; rintro e w' ⟨rfl, rfl⟩)
  refine (moveUp_c (some ⟨gb, ob, none⟩) nb capb s fb _ (by omega) hs HBT.out HFB.out).mono ?_
  rintro e w1 ⟨fH, rfl, hBH, hFH, hVH, hG1⟩
  have HBH := Lib.hid hBH; have HFH := Lib.hid hFH; have HVH := Lib.hid hVH; have HG1 := Lib.hid hG1
  clear hBH hFH hVH hG1
  go_wp2_with fail
  refine (moveUp_c pa na capa s f _ (by omega) hs (HA.out.grown HG1.out (by simp)) HF.out).mono ?_
  rintro e w2 ⟨fL, rfl, hBL, hFL, hVL, hG2⟩
  have HBL := Lib.hid hBL; have HFL := Lib.hid hFL; have HVL := Lib.hid hVL; have HG2 := Lib.hid hG2
  clear hBL hFL hVL hG2
  go_wp2_with fail
  have s1 := HBH.out.lt
  have s2 := HBL.out.lt
  have hHT := high_top hn0 hs HFB.out HY.out HVH.out
  have HD1 := Lib.hid hHT.1
  have HD2 := Lib.hid hHT.2
  have htH : fH (nb - 1) ≠ 0 := by
    intro e
    obtain ⟨t, rfl⟩ : ∃ t, nb = t + 1 := ⟨nb - 1, by omega⟩
    simp only [Nat.add_sub_cancel] at e
    have h1 := HD1.out
    rw [V_succ, Nat.zero_add, e, Nat.zero_mul, Nat.add_zero] at h1
    have h2 : V Bw fH 0 t < Bw ^ t := V_lt (fun j hj => by rw [Nat.zero_add]; exact HFH.out j (by omega))
    have h3 : Bw ^ t ≤ V Bw fb 0 (t + 1) := V_ge (by simpa using HT.out)
    have h4 : V Bw fb 0 (t + 1) * 1 ≤ V Bw fb 0 (t + 1) * 2 ^ s := Nat.mul_le_mul_left _ (Nat.pow_pos (by omega))
    omega
  have HTH := Lib.hid htH
  have HI1 := Lib.hid (left_top hn0 HM.out HF.out HT.out HVL.out)
  have HG3 := Lib.hid (gb_trans HG1.out HG2.out)
  clear hHT htH hc hmk i1
  go_loopw [10] (fun i wr => ∃ (k : Nat) (fl fq : Nat → Nat), k ≤ m ∧ i = .int .i64 ((k : Int) - 1) ∧ Hid (Blk .u64 wr w1.heap.size (na + 1) fl) ∧ Hid (∀ j, j < na + 1 → fl j < Bw) ∧ Hid (Blk .u64 wr w2.heap.size m fq) ∧ Hid (∀ j, j < m → fq j < Bw) ∧
      Hid (Blk .u64 wr w.heap.size (nb + 1) fH) ∧ Hid (V Bw fl k nb < V Bw fb 0 nb * 2 ^ s) ∧ Hid (∀ j, k + nb ≤ j → j < na + 1 → fl j = 0) ∧ Hid (V Bw fl 0 (na + 1) + Bw ^ k * V Bw fq k (m - k) * (V Bw fb 0 nb * 2 ^ s) = V Bw f 0 na * 2 ^ s) ∧ Hid (w.grownBy wr none))
    (fun i _ => (intOf i + 1).toNat)
  case atStart =>
    have hal := World.grownBy_alloc w2 (.cells (madeCells #[.int .u64 0] m) 40) none
    refine ⟨m, fL, fun _ => 0, Nat.le_refl _, rfl, HBL.out.kept hal (by simp), HFL.out, Blk_made _ _ _, fun _ _ => Bw_pos, (HBH.out.kept HG2.out (by simp)).kept hal (by simp), HI1.out, fun j h1 h2 => by have := HM.out; omega, ?_, gb_trans HG3.out hal⟩
    show _ = _
    rw [Nat.sub_self, V_zero, Nat.mul_zero, Nat.zero_mul, Nat.add_zero]
    exact HVL.out
  case round =>
    clear HBH HBL HG1 HG2 HG3 HI1 HVL HFL
    obtain ⟨k1, fl, fq, hk1, rfl, HBl, HFl, HBq, HFq, HBh, HI, HZ, HE, HG⟩ := hrel
    by_cases h0 : 0 < k1
    · obtain ⟨k, rfl⟩ : ∃ k, k1 = k + 1 := ⟨k1 - 1, by omega⟩
      have hmm := HM.out
      have i5 : (k : Int) + nb ≤ na := by omega
      have hkk : ((k + 1 : Nat) : Int) - 1 = (k : Int) := by omega
      rw [hkk]
      have HAH := Lib.hid (HBh.out.at0.pre (m := nb) (by omega))
      have HLT := Lib.hid (show V Bw fl (k + 1) nb < V Bw fH 0 nb by rw [HD1.out]; exact HI.out)
      clear hmm hkk
      have hlen : k + nb + 1 - k = nb + 1 := by omega
      have HLEN := Lib.hid hlen
      clear hlen
      go_wp2_with (go_at_call 76; rw [HLEN.out]; refine (takeOften_c w1.heap.size k nb _ (na + 1) _ fl (some ⟨w.heap.size, 0, none⟩) fH _ hn0 HBl.out (by omega) (by omega) HFl.out HAH.out (fun j hj => HFH.out j (by omega)) HTH.out (by intro a e; cases e; simp; omega) HLT.out).mono ?_; rintro e w5 ⟨q, fl', rfl, hq, hB5, hF5, hO5, hV5, hL5, hG5⟩; have HB5 := Lib.hid hB5; have HF5 := Lib.hid hF5; have HO5 := Lib.hid hO5; have HV5 := Lib.hid hV5; have HL5 := Lib.hid hL5; have HG5 := Lib.hid hG5; have HQ := Lib.hid hq; have HBQ := Lib.hid (HBq.out.kept hG5 (by simp; omega)); have hcc := HBQ.out.cell (j := k) (by omega); have hff := HBQ.out.free k; clear hq hB5 hF5 hO5 hV5 hL5 hG5)
      have hst := long_step (fq := fq) (T := V Bw f 0 na * 2 ^ s) HM.out (by omega) HV5.out HL5.out (by rw [HD1.out]; exact HD2.out) HO5.out HZ.out (by rw [HD1.out]; exact HE.out)
      have S1 := Lib.hid hst.1; have S2 := Lib.hid hst.2.1; have S3 := Lib.hid hst.2.2
      clear hst
      rw [HD1.out] at S1 S3
      have hb5 := gb_new (gb_below HG.out) (Nat.le_of_lt s1) HG5.out
      go_roundw
      case rel => exact ⟨k, fl', upd fq k q, by omega, rfl, HB5.out.kept (gb_set (gb_refl _ _) _) (by simp; omega), HF5.out, HBQ.out.set q, lt_upd HFq.out HQ.out, (HBh.out.kept HG5.out (by simp; omega)).kept (gb_set (gb_refl _ _) _) (by simp; omega), S1, S2, S3, below_gb (gb_new hb5 (by omega) (gb_set (gb_refl _ _) _))⟩
      case measure => simp [intOf]
    · obtain rfl : k1 = 0 := by omega
      have hend := long_end (R := V Bw fl 0 (na + 1)) (VQ := V Bw fq 0 m) (A := V Bw f 0 na) rfl (by have := HE.out; rw [Nat.pow_zero, Nat.one_mul, Nat.sub_zero] at this; exact this) (by
        have hp := V_pad (b := Bw) (f := fl) (o := 0) (n := nb) (m := na + 1) (fun j h1 h2 => by have := HZ.out j (by omega) h2; rwa [Nat.zero_add]) (by omega)
        rw [hp]; exact HI.out)
      have E1 := Lib.hid hend.1; have E2 := Lib.hid hend.2
      clear hend HE
      go_wp2_with (go_at_call 77; refine (moveDown_c w1.heap.size 0 (na + 1) _ (na + 1) s fl _ HBl.out (by omega) (by omega) HFl.out hs).mono ?_; rintro e w6 ⟨f6, rfl, hB6, hF6, hO6, hV6, hG6⟩; have HB6 := Lib.hid hB6; have HF6 := Lib.hid hF6; have HV6 := Lib.hid hV6; have HG6 := Lib.hid hG6; clear hB6 hF6 hV6 hG6 hO6)
      have HBQ := Lib.hid (HBq.out.kept HG6.out (by simp; omega))
      refine (trim_num _ _ _ fq _ (Nat.le_refl _) (by unfold maxLen; omega) HBQ.out.at0 HFq.out).mono ?_
      rintro e w7 ⟨v1, rfl, hv1, rfl⟩
      have HV1 := Lib.hid hv1
      clear hv1
      go_wp2_with fail
      refine (trim_num _ _ _ f6 _ (Nat.le_refl _) (by unfold maxLen; omega) HB6.out.at0 HF6.out).mono ?_
      rintro e w8 ⟨v2, rfl, hv2, rfl⟩
      have HV2 := Lib.hid hv2
      clear hv2
      go_wp2_with fail
      go_ret2
      exact ⟨v1, v2, rfl, by rw [← E1.out]; exact HV1.out, by rw [← E2.out, ← HV6.out]; exact HV2.out, below_gb (gb_new (gb_below HG.out) (Nat.le_of_lt s1) HG6.out)⟩
end Go.Proofs.Ytkonfkcaefjabaa
