/- Lemmas. -/
import Derived.Deep.CutBlock
import Derived.Deep.DeepCutAuto
import Derived.Test.YtddccnpohpaofaaGreatDoorP8
set_option linter.unusedVariables false
set_option linter.unusedSimpArgs false
namespace Go.Proofs.YtddccnpohpaofaaGreatDoor.Zd
open Go.RowKit Mx

def DivPost (hi lo y : Nat) (w : World) (e : Ending) (w' : World) : Prop :=
  ∃ q r : Nat, e = .returned (.tuple #[.int .u64 q, .int .u64 r]) ∧ q < Bw ∧ r < y ∧ q * y + r = hi * Bw + lo ∧ ∃ m, w' = w.drewN m

set_option maxHeartbeats 400000 in
theorem div64_zero (lo y : Nat) (w : World) (hy : 0 < y) (hyB : y < Bw) (hlo : lo < Bw) :
    Calls Tryz.prog 113 #[.int .u64 0, .int .u64 lo, .int .u64 y] w (DivPost 0 lo y w) := by
  have h1 : ((y : Int) == 0) = false := beq_eq_false_iff_ne.2 (by omega)
  have h2 : (1:Int) ≤ y := by omega
  have h3 : (y : Int) ≤ 18446744073709551615 := by unfold Bw at hyB; omega
  have h4 : (lo : Int) ≤ 18446744073709551615 := by unfold Bw at hlo; omega
  have h5 : (0 : Int) ≤ lo := by omega
  go_enter Tryz.func113, Tryz.ntmps113
  go_wp2
  go_region
  all_goals go_wp2
  all_goals exact bodyPost_ret (v := .tuple #[.int .u64 (IntKind.u64.wrap (↑lo / ↑y)), .int .u64 (↑lo % ↑y)]) (by simp [results, Tryz.results113, go_sem]) rfl (by
    have e1 : IntKind.u64.wrap ((lo : Int) / (y : Int)) = ((lo / y : Nat) : Int) := by
      rw [IntKind.wrap_u64, ← Int.natCast_ediv]
      have : lo / y ≤ lo := Nat.div_le_self _ _
      unfold Bw at hlo
      generalize lo / y = q at *
      omega
    refine ⟨lo / y, lo % y, ?_, Nat.lt_of_le_of_lt (Nat.div_le_self _ _) hlo, Nat.mod_lt _ hy, ?_, 1, rfl⟩
    · rw [e1, ← Int.natCast_emod]
    · rw [Nat.zero_mul, Nat.zero_add, Nat.mul_comm]; exact Nat.div_add_mod lo y)

/-- The numbers that Div64 makes ahead of its two halves. -/
theorem div_setup (hi lo y s : Nat) (hs : s ≤ 63) (hy : hi < y) (hlo : lo < Bw) (hY1 : y * 2 ^ s < 18446744073709551616) (hY2 : 9223372036854775808 ≤ y * 2 ^ s) :
    ∃ Y yn1 yn0 U L un1 un0 : Nat, IntKind.u64.wrap ((y : Int) * 2 ^ s) = (Y : Int) ∧ (Y : Int) / 4294967296 = (yn1 : Int) ∧ bits .and .u64 (Y : Int) 4294967295 = (yn0 : Int) ∧
      bits .or .u64 (IntKind.u64.wrap ((hi : Int) * 2 ^ s)) ((lo : Int) / 2 ^ (64 - s)) = (U : Int) ∧ IntKind.u64.wrap ((lo : Int) * 2 ^ s) = (L : Int) ∧ (L : Int) / 4294967296 = (un1 : Int) ∧ bits .and .u64 (L : Int) 4294967295 = (un0 : Int) ∧
      Half U un1 Y yn1 yn0 ∧ un0 < 4294967296 ∧ Y = y * 2 ^ s ∧ (hi * Bw + lo) * 2 ^ s = (U * 4294967296 + un1) * 4294967296 + un0 ∧ Y < 18446744073709551616 ∧ U < 18446744073709551616 := by
  unfold Bw at *
  have hp : 0 < 2 ^ s := Nat.pow_pos (by omega)
  have hp2 : 0 < 2 ^ (64 - s) := Nat.pow_pos (by omega)
  have hpp : 2 ^ s * 2 ^ (64 - s) = 18446744073709551616 := by rw [← Nat.pow_add, show s + (64 - s) = 64 from by omega]
  have h1 : (hi + 1) * 2 ^ s ≤ y * 2 ^ s := Nat.mul_le_mul_right _ hy
  have hlo2 : lo / 2 ^ (64 - s) < 2 ^ s := by rw [Nat.div_lt_iff_lt_mul hp2, hpp]; exact hlo
  have hU : hi * 2 ^ s + lo / 2 ^ (64 - s) < y * 2 ^ s := by rw [Nat.add_mul] at h1; omega
  have hor : hi * 2 ^ s ||| lo / 2 ^ (64 - s) = hi * 2 ^ s + lo / 2 ^ (64 - s) := by
    rw [Nat.mul_comm]; exact (Nat.two_pow_add_eq_or_of_lt hlo2 hi).symm
  -- what is lost on the left of lo's move stands in U
  have hL : lo * 2 ^ s = lo / 2 ^ (64 - s) * 18446744073709551616 + lo % 2 ^ (64 - s) * 2 ^ s := by
    have := Nat.div_add_mod lo (2 ^ (64 - s))
    generalize lo / 2 ^ (64 - s) = a at *
    generalize lo % 2 ^ (64 - s) = b at *
    rw [← this, ← hpp]; grind
  have hb : lo % 2 ^ (64 - s) * 2 ^ s < 18446744073709551616 := by
    rw [← hpp, Nat.mul_comm (2 ^ s)]
    exact Nat.mul_lt_mul_of_pos_right (Nat.mod_lt _ hp2) hp
  have hLm : lo * 2 ^ s % 18446744073709551616 = lo % 2 ^ (64 - s) * 2 ^ s := by omega
  refine ⟨y * 2 ^ s, y * 2 ^ s / 4294967296, y * 2 ^ s % 4294967296, hi * 2 ^ s + lo / 2 ^ (64 - s), lo * 2 ^ s % 18446744073709551616, lo * 2 ^ s % 18446744073709551616 / 4294967296, lo * 2 ^ s % 18446744073709551616 % 4294967296,
    ?_, by omega, Mul64.maskN _ hY1, ?_, ?_, by omega, Mul64.maskN _ (by omega), ⟨by omega, by omega, by omega, by omega, hU, by omega⟩, by omega, rfl, ?_, hY1, by omega⟩
  · have e : ((y : Int) * 2 ^ s) = ((y * 2 ^ s : Nat) : Int) := by simp
    rw [e]; exact Mul64.wrapN _ hY1
  · have e : ((hi : Int) * 2 ^ s) = ((hi * 2 ^ s : Nat) : Int) := by simp
    have e2 : ((lo : Int) / 2 ^ (64 - s)) = ((lo / 2 ^ (64 - s) : Nat) : Int) := by simp
    rw [e, Mul64.wrapN _ (by omega), e2, bits_or_u64_nat _ _ (by omega) (by omega), hor]
  · have e : ((lo : Int) * 2 ^ s) = ((lo * 2 ^ s : Nat) : Int) := by simp
    rw [e]; exact Mul64.wrapM _
  · have e : (hi * 18446744073709551616 + lo) * 2 ^ s = hi * 2 ^ s * 18446744073709551616 + lo * 2 ^ s := by grind
    rw [e]; omega

theorem lz_c (y : Nat) (h0 : 0 < y) (h : y < Bw) : ∃ s : Nat, s ≤ 63 ∧ (∀ w, Calls Tryz.prog 131 #[.int .u64 y] w fun e w' => e = .returned (.int .i64 s) ∧ w = w') ∧ y * 2 ^ s < 18446744073709551616 ∧ 9223372036854775808 ≤ y * 2 ^ s := by
  obtain ⟨s, h1, h2, h3, h4⟩ := shift_of y h0 h
  refine ⟨s, h1, fun w => (Tryz.bits_LeadingZeros64 (y : Int) w (by omega) (by unfold Bw at h; omega)).mono ?_, h3, h4⟩
  rintro e w' ⟨rfl, rfl⟩
  refine ⟨?_, rfl⟩
  have : (64 - (Go.Lib.bitLen (y : Int).toNat : Int)) = (s : Int) := by rw [Int.toNat_natCast]; omega
  rw [this]

theorem val_eq {k : IntKind} {a b : Int} (h : a = b) : Value.int k a = Value.int k b := by rw [h]

theorem half_start {u d Y yn1 yn0 : Nat} (h : Half u d Y yn1 yn0) (hu : u < 18446744073709551616) : ∃ q r : Nat, IntKind.u64.wrap ((u : Int) / (yn1 : Int)) = (q : Int) ∧ IntKind.u64.wrap ((u : Int) - IntKind.u64.wrap ((q : Int) * (yn1 : Int))) = (r : Int) ∧ q * yn1 + r = u ∧ (u * 4294967296 + d) / Y ≤ q ∧ q ≤ 4294967297 ∧ r < 4294967296 := by
  obtain ⟨a, b, c, e, f⟩ := h.start
  refine ⟨u / yn1, u % yn1, ?_, ?_, a, b, c, e⟩
  · rw [Mul64.wrapN _ hu |> fun _ => IntKind.wrap_u64, ← Int.natCast_ediv]
    generalize u / yn1 = q at *
    omega
  · rw [← Int.natCast_mul]
    generalize u / yn1 * yn1 = P at *
    generalize u % yn1 = R at *
    rw [IntKind.wrap_u64, IntKind.wrap_u64]
    omega

theorem half_rest {u d Y yn1 yn0 : Nat} (h : Half u d Y yn1 yn0) (hY : Y < 18446744073709551616) (hu : u < 18446744073709551616) : ∃ q r : Nat, q = (u * 4294967296 + d) / Y ∧ q < 4294967296 ∧ q * Y + r = u * 4294967296 + d ∧ r < Y ∧
    IntKind.u64.wrap (IntKind.u64.wrap (IntKind.u64.wrap ((u : Int) * 4294967296) + (d : Int)) - IntKind.u64.wrap ((q : Int) * (Y : Int))) = (r : Int) := by
  obtain ⟨a, b⟩ := h.rest
  have := h.lt
  refine ⟨_, _, rfl, this, b, a, ?_⟩
  rw [← Int.natCast_mul]
  generalize (u * 4294967296 + d) / Y * Y = P at *
  generalize (u * 4294967296 + d) % Y = R at *
  simp only [IntKind.wrap_u64]
  omega

theorem div_end {hi lo y s Y U un1 un0 Q1 R1 Q2 R2 : Nat} (w : World) (hY : Y = y * 2 ^ s) (hN : (hi * Bw + lo) * 2 ^ s = (U * 4294967296 + un1) * 4294967296 + un0) (h1 : Q1 * Y + R1 = U * 4294967296 + un1) (h2 : Q2 * Y + R2 = R1 * 4294967296 + un0)
    (hq1 : Q1 < 4294967296) (hq2 : Q2 < 4294967296) (hr : R2 < Y) :
    DivPost hi lo y w (.returned (.tuple #[.int .u64 ((Q1 : Int) * 4294967296 + (Q2 : Int)), .int .u64 ((R2 : Int) / 2 ^ s)])) w := by
  have hp : 0 < 2 ^ s := Nat.pow_pos (by omega)
  have e : (hi * Bw + lo) * 2 ^ s = (Q1 * 4294967296 + Q2) * y * 2 ^ s + R2 := by
    rw [hN, ← h1]
    have : (Q1 * Y + R1) * 4294967296 + un0 = Q1 * 4294967296 * Y + (R1 * 4294967296 + un0) := by grind
    rw [this, ← h2, hY]; grind
  unfold DivPost
  generalize hi * Bw + lo = N at *
  have hq : (Q1 * 4294967296 + Q2) * y ≤ N := Nat.le_of_mul_le_mul_right (by rw [e]; omega) hp
  have e2 : (N - (Q1 * 4294967296 + Q2) * y) * 2 ^ s = R2 := by rw [Nat.sub_mul, e]; omega
  have e3 : R2 / 2 ^ s = N - (Q1 * 4294967296 + Q2) * y := by rw [← e2]; exact Nat.mul_div_cancel _ hp
  have hlt : R2 / 2 ^ s < y := by rw [Nat.div_lt_iff_lt_mul hp, ← hY]; exact hr
  refine ⟨Q1 * 4294967296 + Q2, R2 / 2 ^ s, ?_, by unfold Bw; omega, hlt, by rw [e3]; omega, 0, rfl⟩
  simp

set_option maxRecDepth 100000 in
set_option maxHeartbeats 1000000 in
theorem div64_pos (hi lo y : Nat) (w : World) (hh : 0 < hi) (hy : hi < y) (hyB : y < Bw) (hlo : lo < Bw) :
    Calls Tryz.prog 113 #[.int .u64 hi, .int .u64 lo, .int .u64 y] w (DivPost hi lo y w) := by
  have h1 : ((y : Int) == 0) = false := beq_eq_false_iff_ne.2 (by omega)
  have h2 : (1:Int) ≤ y := by omega
  have h3 : (y : Int) ≤ 18446744073709551615 := by unfold Bw at hyB; omega
  have h4 : (lo : Int) ≤ 18446744073709551615 := by unfold Bw at hlo; omega
  have h5 : (0 : Int) ≤ lo := by omega
  have h6 : ((hi : Int) == 0) = false := beq_eq_false_iff_ne.2 (by omega)
  have h7 : (hi : Int) < y := by omega
  obtain ⟨s, hs63, HL, hY1, hY2⟩ := lz_c y (by omega) hyB
  have HL := Lib.hid HL
  go_enter Tryz.func113, Tryz.ntmps113
  obtain ⟨Y, yn1, yn0, U, L, un1, un0, hEY, hE1, hE0, hEU, hEL, hL1, hL0, hH1, hu0, hYy, hN, hYb, hUb⟩ := div_setup hi lo y s hs63 hy hlo hY1 hY2
  have HEY := Lib.hid hEY; have HE1 := Lib.hid hE1; have HE0 := Lib.hid hE0; have HEU := Lib.hid hEU; have HEL := Lib.hid hEL; have HL1 := Lib.hid hL1; have HL0 := Lib.hid hL0
  have HYy := Lib.hid hYy; have HN := Lib.hid hN
  clear hEY hE1 hE0 hEU hEL hL1 hL0 hYy hN
  go_upto_region 15 with (go_at_call 131; refine (HL.out _).mono ?_; rintro e w' ⟨rfl, rfl⟩)
  simp only [HEY.out, HE1.out, HE0.out, HEU.out, HEL.out, HL1.out, HL0.out]
  clear HL
  have hyn := hH1.h1
  have g1 : (1 : Int) ≤ yn1 := by omega
  have g2 : ((yn1 : Int) == 0) = false := beq_eq_false_iff_ne.2 (by omega)
  obtain ⟨q0, r0, b1, b2, a1, a2, A3, A4⟩ := half_start hH1 hUb
  have A1 := Lib.hid a1; have HH1 := Lib.hid hH1
  have hy1 := hH1.h2
  obtain ⟨Q1, R1, hQ1, hQ1b, hR1, hR1b, hR1w⟩ := half_rest hH1 hYb hUb
  have HQ1 := Lib.hid hQ1; have HR1 := Lib.hid hR1
  rw [← hQ1] at a2
  have hH2 : Half R1 un0 Y yn1 yn0 := ⟨hH1.hY, hH1.h0, hH1.h1, hH1.h2, hR1b, hu0⟩
  have A2 := Lib.hid a2
  clear a1 a2 hH1 hQ1 hR1
  go_upto_block 0 with fail
  clear b1 b2
  go_cut [15] (fun v wx => v = .int .u64 (Q1 : Nat) ∧ wx = w)
  case first =>
    go_wp2_with fail
    go_loop [15, 16] (fun q r => ∃ qn rn : Nat, q = .int .u64 qn ∧ r = .int .u64 rn ∧ Hid (qn * yn1 + rn = U) ∧ Hid (Q1 ≤ qn) ∧ qn ≤ 4294967297 ∧ rn < 4294967296) (fun q _ => (intOf q).toNat)
    case atStart => exact ⟨q0, r0, rfl, rfl, A1.out, A2.out, A3, A4⟩
    case round =>
      obtain ⟨qn, rn, rfl, rfl, E1, E2, hq3, hr3⟩ := hrel
      by_cases t1 : 4294967296 ≤ qn
      · have t1' : (4294967296 : Int) ≤ qn := by omega
        have hm : Q1 < qn := by rw [HQ1.out]; exact HH1.out.more E1.out (.inl t1)
        have HM := Lib.hid hm
        have E1' : Hid ((qn - 1) * yn1 + (rn + yn1) = U) := by have := E1.out; rw [Nat.sub_mul]; show _ = _; have : 1 * yn1 ≤ qn * yn1 := Nat.mul_le_mul_right _ (by omega); omega
        have E2' : Hid (Q1 ≤ qn - 1) := by show _ ≤ _; omega
        clear hm
        by_cases t2 : 4294967296 ≤ rn + yn1
        · have t2' : (4294967296 : Int) ≤ rn + yn1 := by omega
          have hfin : qn - 1 = Q1 := by rw [HQ1.out]; exact HH1.out.brk E1'.out (by rw [← HQ1.out]; exact E2'.out) t2 (by omega)
          have HFIN := Lib.hid hfin
          clear hfin
          go_wp2
          go_meet
          exact ⟨val_eq (by have := HFIN.out; omega), rfl⟩
        · have t2' : decide ((4294967296 : Int) ≤ (rn : Int) + (yn1 : Int)) = false := decide_eq_false (by omega)
          have HT2 := Lib.hid t2
          clear t2
          go_wp2
          go_round
          case rel => exact ⟨qn - 1, rn + yn1, val_eq (by omega), by go_num, E1', E2', by omega, by have := HT2.out; omega⟩
          case measure => simp [intOf]; omega
      · have t1' : decide ((4294967296 : Int) ≤ (qn : Int)) = false := decide_eq_false (by omega)
        have HQ3 := Lib.hid hq3; have HR3 := Lib.hid hr3; have HT1 := Lib.hid t1
        have hb1 : qn * yn0 ≤ 4294967295 * 4294967295 := Nat.mul_le_mul (by omega) (by have := HH1.out.h0; omega)
        have hb2 : (qn : Int) * yn0 ≤ 18446744065119617025 := by rw [← Int.natCast_mul]; omega
        have hb3 : (0 : Int) ≤ (qn : Int) * yn0 := by rw [← Int.natCast_mul]; omega
        have hd1 := HH1.out.hd
        by_cases t3 : 4294967296 * rn + un1 < qn * yn0
        · have t3' : (4294967296 : Int) * rn + un1 < (qn : Int) * yn0 := by rw [← Int.natCast_mul]; omega
          have hm : Q1 < qn := by rw [HQ1.out]; exact HH1.out.more E1.out (.inr t3)
          have hq0 : 1 ≤ qn := by omega
          have E1' : Hid ((qn - 1) * yn1 + (rn + yn1) = U) := by have := E1.out; rw [Nat.sub_mul]; show _ = _; have : 1 * yn1 ≤ qn * yn1 := Nat.mul_le_mul_right _ (by omega); omega
          have E2' : Hid (Q1 ≤ qn - 1) := by show _ ≤ _; omega
          clear hm hb1 t3
          by_cases t2 : 4294967296 ≤ rn + yn1
          · have t2' : (4294967296 : Int) ≤ rn + yn1 := by omega
            have hfin : qn - 1 = Q1 := by rw [HQ1.out]; exact HH1.out.brk E1'.out (by rw [← HQ1.out]; exact E2'.out) t2 (by omega)
            have HFIN := Lib.hid hfin
            clear hfin
            go_wp2
            go_meet
            exact ⟨val_eq (by have := HFIN.out; omega), rfl⟩
          · have t2' : decide ((4294967296 : Int) ≤ (rn : Int) + (yn1 : Int)) = false := decide_eq_false (by omega)
            have HT2 := Lib.hid t2
            clear t2
            go_wp2
            go_round
            case rel => exact ⟨qn - 1, rn + yn1, val_eq (by omega), by go_num, E1', E2', by omega, by have := HT2.out; omega⟩
            case measure => simp [intOf]; omega
        · have t3' : (qn : Int) * yn0 ≤ (4294967296 : Int) * rn + un1 := by rw [← Int.natCast_mul]; omega
          have hfin : qn = Q1 := by rw [HQ1.out]; exact HH1.out.stop E1.out (by rw [← HQ1.out]; exact E2.out) (by omega)
          have HFIN := Lib.hid hfin
          clear hfin hb1 t3
          go_wp2
          go_meet
          exact ⟨val_eq (by have := HFIN.out; omega), rfl⟩
  case rest =>
    obtain ⟨rfl, hwc⟩ := hcut; obtain rfl : w = _ := hwc.symm
    obtain ⟨q1, r1, b1, b2, a1, a2, C3, C4⟩ := half_start hH2 (by omega)
    obtain ⟨Q2, R2, hQ2, hQ2b, hR2, hR2b, hR2w⟩ := half_rest hH2 hYb (by omega)
    have C1 := Lib.hid a1; have HH2 := Lib.hid hH2
    have HQ2 := Lib.hid hQ2; have HR2 := Lib.hid hR2
    rw [← hQ2] at a2
    have C2 := Lib.hid a2
    clear a1 a2 hH2 hQ2 hR2
    go_upto_block 2 with fail
    clear b1 b2 hR1w
    go_cut [18] (fun v wx => v = .int .u64 (Q2 : Nat) ∧ wx = w)
    case first =>
      go_wp2_with fail
      go_loop [18, 16] (fun q r => ∃ qn rn : Nat, q = .int .u64 qn ∧ r = .int .u64 rn ∧ Hid (qn * yn1 + rn = R1) ∧ Hid (Q2 ≤ qn) ∧ qn ≤ 4294967297 ∧ rn < 4294967296) (fun q _ => (intOf q).toNat)
      case atStart => exact ⟨q1, r1, rfl, rfl, C1.out, C2.out, C3, C4⟩
      case round =>
        obtain ⟨qn, rn, rfl, rfl, E1, E2, hq3, hr3⟩ := hrel
        by_cases t1 : 4294967296 ≤ qn
        · have t1' : (4294967296 : Int) ≤ qn := by omega
          have hm : Q2 < qn := by rw [HQ2.out]; exact HH2.out.more E1.out (.inl t1)
          have HM := Lib.hid hm
          have E1' : Hid ((qn - 1) * yn1 + (rn + yn1) = R1) := by have := E1.out; rw [Nat.sub_mul]; show _ = _; have : 1 * yn1 ≤ qn * yn1 := Nat.mul_le_mul_right _ (by omega); omega
          have E2' : Hid (Q2 ≤ qn - 1) := by show _ ≤ _; omega
          clear hm
          by_cases t2 : 4294967296 ≤ rn + yn1
          · have t2' : (4294967296 : Int) ≤ rn + yn1 := by omega
            have hfin : qn - 1 = Q2 := by rw [HQ2.out]; exact HH2.out.brk E1'.out (by rw [← HQ2.out]; exact E2'.out) t2 (by omega)
            have HFIN := Lib.hid hfin
            clear hfin
            go_wp2
            go_meet
            exact ⟨val_eq (by have := HFIN.out; omega), rfl⟩
          · have t2' : decide ((4294967296 : Int) ≤ (rn : Int) + (yn1 : Int)) = false := decide_eq_false (by omega)
            have HT2 := Lib.hid t2
            clear t2
            go_wp2
            go_round
            case rel => exact ⟨qn - 1, rn + yn1, val_eq (by omega), by go_num, E1', E2', by omega, by have := HT2.out; omega⟩
            case measure => simp [intOf]; omega
        · have t1' : decide ((4294967296 : Int) ≤ (qn : Int)) = false := decide_eq_false (by omega)
          have HQ3 := Lib.hid hq3; have HR3 := Lib.hid hr3; have HT1 := Lib.hid t1
          have hb1 : qn * yn0 ≤ 4294967295 * 4294967295 := Nat.mul_le_mul (by omega) (by have := HH2.out.h0; omega)
          have hb2 : (qn : Int) * yn0 ≤ 18446744065119617025 := by rw [← Int.natCast_mul]; omega
          have hb3 : (0 : Int) ≤ (qn : Int) * yn0 := by rw [← Int.natCast_mul]; omega
          have hd1 := HH2.out.hd
          by_cases t3 : 4294967296 * rn + un0 < qn * yn0
          · have t3' : (4294967296 : Int) * rn + un0 < (qn : Int) * yn0 := by rw [← Int.natCast_mul]; omega
            have hm : Q2 < qn := by rw [HQ2.out]; exact HH2.out.more E1.out (.inr t3)
            have hq0 : 1 ≤ qn := by omega
            have E1' : Hid ((qn - 1) * yn1 + (rn + yn1) = R1) := by have := E1.out; rw [Nat.sub_mul]; show _ = _; have : 1 * yn1 ≤ qn * yn1 := Nat.mul_le_mul_right _ (by omega); omega
            have E2' : Hid (Q2 ≤ qn - 1) := by show _ ≤ _; omega
            clear hm hb1 t3
            by_cases t2 : 4294967296 ≤ rn + yn1
            · have t2' : (4294967296 : Int) ≤ rn + yn1 := by omega
              have hfin : qn - 1 = Q2 := by rw [HQ2.out]; exact HH2.out.brk E1'.out (by rw [← HQ2.out]; exact E2'.out) t2 (by omega)
              have HFIN := Lib.hid hfin
              clear hfin
              go_wp2
              go_meet
              exact ⟨val_eq (by have := HFIN.out; omega), rfl⟩
            · have t2' : decide ((4294967296 : Int) ≤ (rn : Int) + (yn1 : Int)) = false := decide_eq_false (by omega)
              have HT2 := Lib.hid t2
              clear t2
              go_wp2
              go_round
              case rel => exact ⟨qn - 1, rn + yn1, val_eq (by omega), by go_num, E1', E2', by omega, by have := HT2.out; omega⟩
              case measure => simp [intOf]; omega
          · have t3' : (qn : Int) * yn0 ≤ (4294967296 : Int) * rn + un0 := by rw [← Int.natCast_mul]; omega
            have hfin : qn = Q2 := by rw [HQ2.out]; exact HH2.out.stop E1.out (by rw [← HQ2.out]; exact E2.out) (by omega)
            have HFIN := Lib.hid hfin
            clear hfin hb1 t3
            go_wp2
            go_meet
            exact ⟨val_eq (by have := HFIN.out; omega), rfl⟩
    case rest =>
      obtain ⟨rfl, hwc⟩ := hcut; obtain rfl : w = _ := hwc.symm
      have hfin := div_end w HYy.out HN.out HR1.out HR2.out hQ1b hQ2b hR2b
      have HFIN := Lib.hid hfin
      clear hfin
      go_wp2
      go_ret2
      exact HFIN.out

/-- math/bits.Div64, where it doesn't panic. -/
theorem div64_c (hi lo y : Nat) (w : World) (hy : hi < y) (hyB : y < Bw) (hlo : lo < Bw) :
    Calls Tryz.prog 113 #[.int .u64 hi, .int .u64 lo, .int .u64 y] w (DivPost hi lo y w) := by
  by_cases h : hi = 0
  · subst h; exact div64_zero lo y w hy hyB hlo
  · exact div64_pos hi lo y w (by omega) hy hyB hlo

end Go.Proofs.YtddccnpohpaofaaGreatDoor.Zd
