/- Words that are only read: trim, compare, length. -/
import Derived.Test.YtaheeccpihbcaaaMem
import Derived.Test.YtaheeccpihbcaaaDivMath
import Derived.BigQuiet
import Derived.Deep.QuietTactic
namespace Go.Proofs.Ytaheeccpihbcaaa
open Go.RowKit Mx

def TrimPost (p : Option Addr) (n cap : Nat) (f : Nat → Nat) (w : World) (e : Ending) (w' : World) : Prop :=
  ∃ m p' cap', e = .returned (.slice p' m cap') ∧ m ≤ n ∧ m ≤ cap' ∧ cap' ≤ cap ∧ (m = 0 ∨ f (m - 1) ≠ 0) ∧ (∀ j, m ≤ j → j < n → f j = 0) ∧ (m = 0 → p' = none) ∧ (0 < m → p' = p) ∧ w = w'

set_option maxHeartbeats 400000 in
theorem trim_c (p : Option Addr) (n cap : Nat) (f : Nat → Nat) (w : World) (hn : n ≤ cap) (hc : cap ≤ maxLen) (h : At .u64 w p n f) :
    Calls Try.prog 61 #[.slice p n cap] w (TrimPost p n cap f w) := by
  unfold maxLen at hc
  go_enter Try.func61, Try.ntmps61
  go_wp2
  go_loop [3] (fun i => ∃ m : Nat, m ≤ n ∧ i = .int .i64 m ∧ Hid (∀ j, m ≤ j → j < n → f j = 0)) (fun i => (intOf i).toNat)
  case atStart => exact ⟨n, Nat.le_refl _, rfl, fun j h1 h2 => by omega⟩
  case round =>
    obtain ⟨m, hm, rfl, HZ⟩ := hrel
    by_cases h0 : 0 < m
    · rcases h with h | ⟨g, off, rfl, hg, hcell⟩
      · omega
      have hk := hcell (m - 1) (by omega)
      clear hcell
      have hi : (0:Int) < (m : Int) := by omega
      by_cases hv : f (m - 1) = 0
      · rw [hv] at hk
        have HV := Lib.hid hv
        clear hv
        go_wp2
        go_round
        case rel => exact ⟨m - 1, by omega, val_of (by omega), fun j h1 h2 => by
          by_cases e : j = m - 1
          · subst e; exact HV.out
          · exact HZ.out j (by omega) h2⟩
        case measure => simp [intOf]; omega
      · have hfin : TrimPost (some ⟨g, off, none⟩) n cap f w (.returned (.slice (some ⟨g, off, none⟩) m cap)) w := ⟨m, _, cap, rfl, hm, by omega, by omega, .inr hv, HZ.out, fun e => by omega, fun _ => rfl, rfl⟩
        have HFIN := Lib.hid hfin
        have hv1 : ((f (m - 1) : Int) == 0) = false := beq_eq_false_iff_ne.2 (by omega)
        have hv2 : ((m : Int) == 0) = false := beq_eq_false_iff_ne.2 (by omega)
        clear hfin
        go_wp2
        go_ret
        exact HFIN.out
    · obtain rfl : m = 0 := by omega
      have hfin : TrimPost p n cap f w (.returned (.slice none 0 0)) w := ⟨0, none, 0, rfl, by omega, by omega, by omega, .inl rfl, HZ.out, fun _ => rfl, fun e => by omega, rfl⟩
      have HFIN := Lib.hid hfin
      clear hfin
      go_wp2
      go_ret
      exact HFIN.out

/-- -1, 0, 1. -/
def cmpN (a b : Nat) : Int := if a < b then -1 else if a = b then 0 else 1

theorem cmp64_c (x y : Nat) (w : World) : Calls Try.prog 64 #[.int .u64 x, .int .u64 y] w fun e w' => e = .returned (.int .i64 (cmpN x y)) ∧ w = w' := by
  by_cases h1 : x < y
  · have e : cmpN x y = -1 := by simp [cmpN, h1]
    rw [e]
    have h1' : (x : Int) < y := by omega
    have h2 : ((x : Int) != x) = false := by simp
    go_enter Try.func64, Try.ntmps64
    go_wp2
    go_ret
    exact ⟨rfl, rfl⟩
  · by_cases h3 : x = y
    · subst h3
      have e : cmpN x x = 0 := by simp [cmpN]
      rw [e]
      go_enter Try.func64, Try.ntmps64
      go_wp2
      go_ret
      exact ⟨rfl, rfl⟩
    · have e : cmpN x y = 1 := by simp [cmpN, h1, h3]
      rw [e]
      have h1' : (y : Int) < x := by omega
      go_enter Try.func64, Try.ntmps64
      go_wp2
      go_ret
      exact ⟨rfl, rfl⟩

def CmpPost (A B : Nat) (w : World) (e : Ending) (w' : World) : Prop := e = .returned (.int .i64 (cmpN A B)) ∧ ∃ m, w' = w.drewN m

theorem cmpN_lt {a b : Nat} (h : a < b) : cmpN a b = -1 := by simp [cmpN, h]
theorem cmpN_gt {a b : Nat} (h : b < a) : cmpN a b = 1 := by simp [cmpN]; omega
theorem cmpN_eq {a b : Nat} (h : a = b) : cmpN a b = 0 := by simp [cmpN, h]

theorem cmp_top {f g : Nat → Nat} {n k : Nat} (hf : ∀ j, j < n → f j < Bw) (hg : ∀ j, j < n → g j < Bw) (hk : k < n) (he : ∀ j, k + 1 ≤ j → j < n → f j = g j) (hne : f k ≠ g k) : cmpN (V Bw f 0 n) (V Bw g 0 n) = cmpN (f k) (g k) := by
  rcases Nat.lt_or_gt_of_ne hne with h | h
  · have := V_below (b := Bw) (f := f) (g := g) (o := 0) (p := 0) (n := n) (fun j hj => by simpa using hf j hj) hk (by simpa using h) (fun j h1 h2 => by simpa using he j h1 h2)
    rw [cmpN_lt this, cmpN_lt h]
  · have := V_below (b := Bw) (f := g) (g := f) (o := 0) (p := 0) (n := n) (fun j hj => by simpa using hg j hj) hk (by simpa using h) (fun j h1 h2 => by simpa using (he j h1 h2).symm)
    rw [cmpN_gt this, cmpN_gt h]

set_option maxHeartbeats 400000 in
theorem compare_c (p1 p2 : Option Addr) (n1 n2 cap1 cap2 : Nat) (f g : Nat → Nat) (w : World) (hn1 : n1 ≤ 1099511627776) (hn2 : n2 ≤ 1099511627776) (h1 : At .u64 w p1 n1 f) (h2 : At .u64 w p2 n2 g)
    (hf : ∀ j, j < n1 → f j < Bw) (hg : ∀ j, j < n2 → g j < Bw) (t1 : n1 = 0 ∨ f (n1 - 1) ≠ 0) (t2 : n2 = 0 ∨ g (n2 - 1) ≠ 0) :
    Calls Try.prog 45 #[.slice p1 n1 cap1, .slice p2 n2 cap2] w (CmpPost (V Bw f 0 n1) (V Bw g 0 n2) w) := by
  by_cases hne : n1 = n2
  · subst hne
    have hq : ((n1 : Int) != n1) = false := by simp
    go_enter Try.func45, Try.ntmps45
    go_wp2
    go_loopw [5] (fun i wr => ∃ k : Nat, k ≤ n1 ∧ i = .int .i64 ((k : Int) - 1) ∧ Hid (∀ j, k ≤ j → j < n1 → f j = g j) ∧ ∃ m, wr = w.drewN m) (fun i _ => (intOf i + 1).toNat)
    case atStart => exact ⟨n1, by omega, rfl, fun j h1 h2 => by omega, 0, rfl⟩
    case round =>
      obtain ⟨k, hk, rfl, HE, m, rfl⟩ := hrel
      by_cases h0 : 0 < k
      · rcases h1 with h | ⟨g1, o1, rfl, hg1, hc1⟩
        · omega
        rcases h2 with h | ⟨g2, o2, rfl, hg2, hc2⟩
        · omega
        have c1 := hc1 (k - 1) (by omega)
        have c2 := hc2 (k - 1) (by omega)
        have hi : (0:Int) < (k : Int) := by omega
        have hi2 : (0:Int) ≤ (k : Int) - 1 := by omega
        have hi3 : (k:Int) - 1 < (n1 : Int) := by omega
        clear hc1 hc2
        by_cases hv : f (k - 1) = g (k - 1)
        · rw [hv] at c1
          have HV := Lib.hid hv
          clear hv hf hg t1 t2
          go_wp2
          go_quiet (fail)
          go_wp2
          go_roundw
          case rel => exact ⟨k - 1, by omega, val_of (by omega), fun j h1 h2 => by
            by_cases e : j = k - 1
            · subst e; exact HV.out
            · exact HE.out j (by omega) h2, _, rfl⟩
          case measure => simp [intOf]; omega
        · have hcm := cmp_top hf hg (show k - 1 < n1 by omega) (fun j h1 h2 => HE.out j (by omega) h2) hv
          have hfin : ∀ w', (∃ m, w' = w.drewN m) → CmpPost (V Bw f 0 n1) (V Bw g 0 n1) w (.returned (.int .i64 (cmpN (f (k - 1)) (g (k - 1))))) w' := fun w' h => ⟨by rw [hcm], h⟩
          have HFIN := Lib.hid hfin
          have hv1 : ((f (k - 1) : Int) != (g (k - 1) : Int)) = true := by rw [bne_iff_ne]; omega
          clear hcm hfin hf hg t1 t2 hv
          go_wp2
          go_quiet (fail)
          go_wp2
          go_quiet ((go_at_call 64; first | exact q1 (cmp64_c _ _) | exact q2 (cmp64_c _ _)))
          go_wp2
          go_ret
          exact HFIN.out _ ⟨_, by rw [World.drewN_drewN, World.drewN_drewN]⟩
      · obtain rfl : k = 0 := by omega
        have hfin : CmpPost (V Bw f 0 n1) (V Bw g 0 n1) w (.returned (.int .i64 0)) (w.drewN m) := ⟨by rw [cmpN_eq (V_congr (fun j hj => by simpa using HE.out j (by omega) hj))], m, rfl⟩
        have HFIN := Lib.hid hfin
        clear hfin hf hg t1 t2
        go_wp2
        go_ret
        exact HFIN.out
  · have hfin : CmpPost (V Bw f 0 n1) (V Bw g 0 n2) w (.returned (.int .i64 (cmpN n1 n2))) w := by
      refine ⟨?_, 0, rfl⟩
      rcases Nat.lt_or_gt_of_ne hne with h | h
      · rw [cmpN_lt h, cmpN_lt (V_long Bw_pos (fun j hj => by simpa using hf j hj) h (by simp; omega))]
      · rw [cmpN_gt h, cmpN_gt (V_long Bw_pos (fun j hj => by simpa using hg j hj) h (by simp; omega))]
    have HFIN := Lib.hid hfin
    have hq : ((n1 : Int) != n2) = true := by rw [bne_iff_ne]; omega
    have hcc : ∀ w, Calls Try.prog 63 #[.int .i64 n1, .int .i64 n2] w fun e w' => e = .returned (.int .i64 (cmpN n1 n2)) ∧ w = w' := by
      intro w
      refine (Try.cmp_Compare_int n1 n2 w).mono ?_
      rintro e w' ⟨rfl, rfl⟩
      refine ⟨?_, rfl⟩
      have : Go.Lib.compareInt n1 n2 = cmpN n1 n2 := by
        unfold Go.Lib.compareInt cmpN
        split <;> split <;> (try split) <;> omega
      rw [this]
    have HCC := Lib.hid hcc
    clear hfin hf hg t1 t2 hne hcc
    go_enter Try.func45, Try.ntmps45
    go_wp2_with (go_at_call 63; refine (HCC.out _).mono ?_; rintro e w' ⟨rfl, rfl⟩)
    go_ret
    exact HFIN.out

def LenPost (A : Nat) (w : World) (e : Ending) (w' : World) : Prop := ∃ n : Nat, e = .returned (.int .i64 n) ∧ (A = 0 → n = 0) ∧ (A ≠ 0 → 2 ^ (n - 1) ≤ A ∧ A < 2 ^ n ∧ 0 < n) ∧ w = w'

set_option maxHeartbeats 400000 in
/-- length: how many binary digits. -/
theorem length_c (p : Option Addr) (n cap : Nat) (f : Nat → Nat) (w : World) (hn : n ≤ 1099511627776) (h : At .u64 w p n f) (hf : ∀ j, j < n → f j < Bw) (t : n = 0 ∨ f (n - 1) ≠ 0) :
    Calls Try.prog 46 #[.slice p n cap] w (LenPost (V Bw f 0 n) w) := by
  by_cases h0 : n = 0
  · subst h0
    have hfin : LenPost (V Bw f 0 0) w (.returned (.int .i64 0)) w := ⟨0, rfl, fun _ => rfl, fun h => absurd rfl h, rfl⟩
    have HFIN := Lib.hid hfin
    clear hfin hf
    go_enter Try.func46, Try.ntmps46
    go_wp2
    go_ret
    exact HFIN.out
  · rcases h with h | ⟨g, off, rfl, hg, hc⟩
    · omega
    obtain ⟨m, rfl⟩ : ∃ m, n = m + 1 := ⟨n - 1, by omega⟩
    have hcell := hc m (by omega)
    have ht : f m ≠ 0 := by simpa using t
    have hfm : f m < 18446744073709551616 := hf m (by omega)
    obtain ⟨a, b, c⟩ := bitLenAux_b 64 (f m) hfm
    have b := b ht
    change f m < 2 ^ Go.Lib.bitLen (f m) at a
    change 2 ^ Go.Lib.bitLen (f m) ≤ 2 * f m at b
    change Go.Lib.bitLen (f m) ≤ 64 at c
    have hcc : ∀ w, Calls Try.prog 65 #[.int .u64 (f m)] w fun e w' => e = .returned (.int .i64 (Go.Lib.bitLen (f m))) ∧ w = w' := by
      intro w
      refine (Try.bits_Len64 (f m : Int) w (by omega) (by omega)).mono ?_
      rintro e w' ⟨rfl, rfl⟩
      exact ⟨by rw [Int.toNat_natCast], rfl⟩
    generalize Go.Lib.bitLen (f m) = L at *
    have hpos : 0 < L := by
      rcases Nat.eq_zero_or_pos L with e | e
      · subst e; omega
      · exact e
    have hB : Bw ^ m = 2 ^ (64 * m) := by rw [Nat.pow_mul]; rfl
    have hlow : V Bw f 0 m < Bw ^ m := V_lt (fun j hj => by simpa using hf j (by omega))
    have hfin : LenPost (V Bw f 0 (m + 1)) w (.returned (.int .i64 (64 * (m : Int) + L))) w := by
      have hv : V Bw f 0 (m + 1) = V Bw f 0 m + f m * Bw ^ m := by rw [V_succ, Nat.zero_add]
      rw [hv]
      rw [hB] at hlow ⊢
      have hp : 0 < 2 ^ (64 * m) := Nat.pow_pos (by omega)
      have k1 : 1 * 2 ^ (64 * m) ≤ f m * 2 ^ (64 * m) := Nat.mul_le_mul_right _ (by omega)
      refine ⟨64 * m + L, by simp, fun e => by omega, fun _ => ⟨?_, ?_, by omega⟩, rfl⟩
      · have e1 : 2 ^ (64 * m + L - 1) = 2 ^ (L - 1) * 2 ^ (64 * m) := by rw [← Nat.pow_add]; congr 1; omega
        have e2 : 2 ^ L = 2 * 2 ^ (L - 1) := by rw [← Nat.pow_succ']; congr 1; omega
        have : 2 ^ (L - 1) * 2 ^ (64 * m) ≤ f m * 2 ^ (64 * m) := Nat.mul_le_mul_right _ (by omega)
        omega
      · have e1 : 2 ^ (64 * m + L) = 2 ^ L * 2 ^ (64 * m) := by rw [← Nat.pow_add]; congr 1; omega
        have : (f m + 1) * 2 ^ (64 * m) ≤ 2 ^ L * 2 ^ (64 * m) := Nat.mul_le_mul_right _ (by omega)
        rw [Nat.add_mul] at this
        omega
    have HFIN := Lib.hid hfin
    have HCC := Lib.hid hcc
    clear hfin hcc hf hc a b t hlow hB
    go_enter Try.func46, Try.ntmps46
    go_wp2_with (go_at_call 65; refine (HCC.out _).mono ?_; rintro e w' ⟨rfl, rfl⟩)
    go_ret
    exact HFIN.out
end Go.Proofs.Ytaheeccpihbcaaa
