/- The statement on small numbers: the walk. -/
import Derived.Test.YtlfaigjbinhcdaaAnchor
import Derived.Deep.CutBlock
import Derived.Deep.DeepCutAuto
namespace Go.Proofs.Ytlfaigjbinhcdaa
open Go.RowKit Mx

theorem bits_same {M k n : Nat} (h1 : M < 2 ^ k) (h2 : k = 0 ∨ 2 ^ (k - 1) ≤ M) (h3 : M = 0 → n = 0) (h4 : M ≠ 0 → 2 ^ (n - 1) ≤ M ∧ M < 2 ^ n ∧ 0 < n) : n = k := by
  by_cases h0 : M = 0
  · subst h0
    rcases h2 with h | h
    · rw [h, h3 rfl]
    · have := Nat.pow_pos (n := k - 1) (show 0 < 2 by omega); omega
  · obtain ⟨a, b, c⟩ := h4 h0
    have hk : 0 < k := by
      rcases Nat.eq_zero_or_pos k with h | h
      · subst h; simp at h1; omega
      · exact h
    rcases h2 with h | h
    · omega
    · rcases Nat.lt_trichotomy n k with h' | h' | h'
      · have : 2 ^ n ≤ 2 ^ (k - 1) := Nat.pow_le_pow_right (by omega) (by omega); omega
      · exact h'
      · have : 2 ^ k ≤ 2 ^ (n - 1) := Nat.pow_le_pow_right (by omega) (by omega); omega

set_option maxRecDepth 100000 in
set_option maxHeartbeats 4000000 in
theorem smalls_c (m n : Int) (w : World) (m1 : -9223372036854775808 ≤ m) (m2 : m ≤ 9223372036854775807) (n1 : -9223372036854775808 ≤ n) (n2 : n ≤ 9223372036854775807) :
    Calls Try.prog 4 #[.int .i64 m, .int .i64 n] w (ValPost (.bool true) w) := by
  go_enter Try.func4, Try.ntmps4
  go_wp2_with fail
  refine (anchor_c _).mono ?_
  rintro e w1 ⟨rfl, g1⟩
  have G1 := Lib.hid g1
  clear g1
  go_wp2_with fail
  refine (From_c m _ m1 m2).mono ?_
  rintro e w2 ⟨x, rfl, hx, g⟩
  obtain ⟨sx, px, nx, cx, ex, HX⟩ := int_parts hx
  subst ex
  have G2 := Lib.hid (gb_trans G1.out g)
  clear hx g
  go_wp2_with fail
  refine (From_c n _ n1 n2).mono ?_
  rintro e w3 ⟨y, rfl, hy, g⟩
  obtain ⟨sy, py, ny, cy, ey, HY⟩ := int_parts hy
  subst ey
  have HX := Lib.hid (HX.out.kept g); have G3 := Lib.hid (gb_trans G2.out g)
  clear hy g
  have K1 : Hid (_ ∧ _) := box_keep (cells_of (top1 w3 (.cells #[.bool sx, .slice px nx cx] 25)) |> fun h => ⟨h.1, h.2.1⟩) (World.grownBy_alloc (w3.alloc (.cells #[.bool sx, .slice px nx cx] 25)) (.cells #[.bool sy, .slice py ny cy] 25) none)
  have K2 : Hid (_ ∧ _) := (cells_of (top2 w3 (.cells #[.bool sx, .slice px nx cx] 25) (.cells #[.bool sy, .slice py ny cy] 25)) |> fun h => ⟨h.1, h.2.1⟩)
  have hal := gb_alloc (World.grownBy_alloc w3 (.cells #[.bool sx, .slice px nx cx] 25) none) (.cells #[.bool sy, .slice py ny cy] 25)
  have HX := Lib.hid (HX.out.kept hal); have HY := Lib.hid (HY.out.kept hal); have G3 := Lib.hid (gb_trans G3.out hal)
  clear hal
  go_wp2_with fail
  refine (Small_c _ m _ HX.out).mono ?_
  rintro e w4 ⟨h1, h2, g⟩
  have HX := Lib.hid (HX.out.kept g); have HY := Lib.hid (HY.out.kept g); have G4 := Lib.hid (gb_trans G3.out g)
  have K1 := Lib.hid (box_keep K1.out g); have K2 := Lib.hid (box_keep K2.out g)
  have hv : ∃ (v : Int) (ok : Bool), e = .returned (.tuple #[.int .i64 v, .bool ok]) ∧ ((ok = true ∧ v = m ∧ -4611686018427387904 ≤ m ∧ m ≤ 4611686018427387904) ∨ (ok = false ∧ v = 0 ∧ (m < -4611686018427387904 ∨ 4611686018427387904 < m))) := by
    by_cases h : -4611686018427387904 ≤ m ∧ m ≤ 4611686018427387904
    · exact ⟨m, true, h1 h, .inl ⟨rfl, rfl, h⟩⟩
    · exact ⟨0, false, h2 h, .inr ⟨rfl, rfl, by omega⟩⟩
  obtain ⟨v, ok, rfl, hok⟩ := hv
  have HOK := Lib.hid hok
  clear h1 h2 g hok
  go_upto_region 5 with fail
  go_cut [46] (fun t wx => t = .bool false ∧ wx = w4)
  case first =>
    rcases HOK.out with ⟨rfl, rfl, a, b⟩ | ⟨rfl, rfl, h⟩
    · have d1 : decide ((-4611686018427387904 : Int) ≤ v) = true := decide_eq_true a
      have d2 : decide (v ≤ (4611686018427387904 : Int)) = true := decide_eq_true b
      have d3 : (v != v) = false := by simp
      go_wp2
      go_meet
      exact ⟨rfl, rfl⟩
    · rcases h with h | h
      · have d1 : decide ((-4611686018427387904 : Int) ≤ m) = false := decide_eq_false (by omega)
        go_wp2
        go_meet
        exact ⟨rfl, rfl⟩
      · have d1 : decide ((-4611686018427387904 : Int) ≤ m) = true := decide_eq_true (by omega)
        have d2 : decide (m ≤ (4611686018427387904 : Int)) = false := decide_eq_false (by omega)
        go_wp2
        go_meet
        exact ⟨rfl, rfl⟩
  case rest =>
    obtain ⟨rfl, hwc⟩ := hcut
    obtain rfl : w4 = _ := hwc.symm
    clear HOK
    go_upto_if 49 with fail
    go_cut [9] (fun t wx => t = .int .i64 (if m < n then -1 else 0) ∧ wx = w4)
    case first =>
      by_cases h : m < n
      · have d1 : decide (m < n) = true := decide_eq_true h
        have e1 : (if m < n then (-1 : Int) else 0) = -1 := if_pos h
        have E1 := Lib.hid e1
        clear e1
        go_wp2
        go_meet
        exact ⟨by rw [E1.out], rfl⟩
      · have d1 : decide (m < n) = false := decide_eq_false h
        have e1 : (if m < n then (-1 : Int) else 0) = 0 := if_neg h
        have E1 := Lib.hid e1
        clear e1
        go_wp2
        go_meet
        exact ⟨by rw [E1.out], rfl⟩
    case rest =>
      obtain ⟨rfl, hwc⟩ := hcut
      obtain rfl : w4 = _ := hwc.symm
      obtain ⟨t9, ht9⟩ : ∃ t, (if m < n then (-1 : Int) else 0) = t := ⟨_, rfl⟩
      rw [ht9]
      have HT9 := Lib.hid ht9
      clear ht9
      go_upto_if 52 with fail
      go_cut [9] (fun t wx => t = .int .i64 (cmpZ m n) ∧ wx = w4)
      case first =>
        by_cases h : n < m
        · have d1 : decide (n < m) = true := decide_eq_true h
          have e1 : cmpZ m n = 1 := by unfold cmpZ; rw [if_neg (by omega), if_neg (by omega)]
          have E1 := Lib.hid e1
          clear e1
          go_wp2
          go_meet
          exact ⟨by rw [E1.out], rfl⟩
        · have d1 : decide (n < m) = false := decide_eq_false h
          have e1 : cmpZ m n = t9 := by
            rw [← HT9.out]; unfold cmpZ
            by_cases h2 : m < n
            · rw [if_pos h2, if_pos h2]
            · rw [if_neg h2, if_neg h2, if_pos (by omega)]
          have E1 := Lib.hid e1
          clear e1
          go_wp2
          go_meet
          exact ⟨by rw [E1.out], rfl⟩
      case rest =>
        obtain ⟨rfl, hwc⟩ := hcut
        obtain rfl : w4 = _ := hwc.symm
        obtain ⟨cz, hcz⟩ : ∃ t, cmpZ m n = t := ⟨_, rfl⟩
        rw [hcz]
        have HCZ := Lib.hid hcz
        obtain ⟨M, hM⟩ : ∃ M : Nat, m.natAbs = M := ⟨_, rfl⟩
        have HM := Lib.hid hM
        clear hcz HT9
        go_upto_if 56 with fail
        go_cut [10] (fun t wx => t = .int .u64 (M : Int) ∧ wx = w4)
        case first =>
          by_cases h : m < 0
          · have d1 : decide (m < 0) = true := decide_eq_true h
            have e1 : IntKind.u64.wrap (-(IntKind.u64.wrap m)) = (M : Int) := by rw [IntKind.wrap_u64, IntKind.wrap_u64]; omega
            have E1 := Lib.hid e1
            clear e1 hM
            go_wp2
            go_meet
            exact ⟨val_of E1.out, rfl⟩
          · have d1 : decide (m < 0) = false := decide_eq_false h
            have e1 : IntKind.u64.wrap m = (M : Int) := by rw [IntKind.wrap_u64]; omega
            have E1 := Lib.hid e1
            clear e1 hM
            go_wp2
            go_meet
            exact ⟨val_of (by first | exact E1.out | (have := HM.out; omega)), rfl⟩
        case rest =>
          obtain ⟨rfl, hwc⟩ := hcut
          obtain rfl : w4 = _ := hwc.symm
          have hM64 : M < 18446744073709551616 := by omega
          have HM64 := Lib.hid hM64
          clear hM hM64
          go_wp2_with fail
          go_loop [10, 11] (fun u k => ∃ un kn : Nat, u = .int .u64 un ∧ k = .int .i64 kn ∧ Hid (un = M / 2 ^ kn) ∧ kn ≤ 64 ∧ Hid (kn = 0 ∨ 2 ^ (kn - 1) ≤ M)) (fun u _ => (intOf u).toNat)
          case atStart => exact ⟨M, 0, rfl, rfl, by simp [Hid], by omega, .inl rfl⟩
          case round =>
            obtain ⟨un, kn, rfl, rfl, HU, hk, HK⟩ := hrel
            by_cases h0 : 0 < un
            · have hnext : un / 2 = M / 2 ^ (kn + 1) := by rw [HU.out, Nat.pow_succ, Nat.div_div_eq_div_mul]
              have hle : 2 ^ kn ≤ M := by
                have h1 := HU.out
                rw [h1] at h0
                exact (Nat.div_pos_iff.1 h0).2
              have hk64 : kn < 64 := by
                have h1 := HM64.out
                rcases Nat.lt_or_ge kn 64 with h | h
                · exact h
                · have : 2 ^ 64 ≤ 2 ^ kn := Nat.pow_le_pow_right (by omega) h
                  omega
              have HN := Lib.hid hnext; have HLE := Lib.hid hle
              have i1 : (0 : Int) < un := by omega
              clear hnext hle
              go_wp2
              go_round
              case rel => exact ⟨un / 2, kn + 1, val_of (by omega), by go_num, HN.out, by omega, .inr HLE.out⟩
              case measure => simp [intOf]; omega
            · obtain rfl : un = 0 := by omega
              have hlt : M < 2 ^ kn := by
                have h1 := HU.out
                have hp : 0 < 2 ^ kn := Nat.pow_pos (by omega)
                rcases Nat.lt_or_ge M (2 ^ kn) with h | h
                · exact h
                · have := Nat.div_pos h hp; omega
              have HLT := Lib.hid hlt
              obtain ⟨l1, l2⟩ := K1.out
              obtain ⟨l3, l4⟩ := K2.out
              clear hlt HU
              go_wp2_with fail
              refine (Cmp_c _ _ m n _ HX.out HY.out (lim_small (by omega)) (lim_small (by omega))).mono ?_
              rintro e w5 ⟨rfl, g⟩
              rw [HCZ.out]
              have HX := Lib.hid (HX.out.kept g); have G5 := Lib.hid (gb_trans G4.out g)
              have K1 := Lib.hid (box_keep K1.out g)
              clear l1 l2 l3 l4 g
              obtain ⟨l1, l2⟩ := K1.out
              have d5 : (cz == cz) = true := by simp
              go_wp2_with fail
              refine (Bits_c _ m _ HX.out (lim_small (by omega))).mono ?_
              rintro e w6 ⟨bn, rfl, b1, b2, g⟩
              have hb : bn = kn := bits_same HLT.out HK.out (fun h => b1 (by have := HM.out; omega)) (fun h => by have := b2 (by have := HM.out; omega); rwa [HM.out] at this)
              subst hb
              have G6 := Lib.hid (gb_trans G5.out g)
              have d6 : ((bn : Int) == bn) = true := by simp
              clear b1 b2 g l1 l2
              go_wp2_with fail
              go_ret
              exact ⟨rfl, G6.out⟩
end Go.Proofs.Ytlfaigjbinhcdaa
