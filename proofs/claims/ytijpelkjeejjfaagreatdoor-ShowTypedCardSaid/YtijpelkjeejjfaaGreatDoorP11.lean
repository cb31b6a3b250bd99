/- Lemmas. -/
import Derived.Deep.CutBlock
import Derived.Deep.DeepCutAuto
import Derived.StillTailTactics
import Derived.Test.YtijpelkjeejjfaaGreatDoorP5
set_option linter.unusedVariables false
set_option linter.unusedSimpArgs false
namespace Go.Proofs.YtijpelkjeejjfaaGreatDoor.Zd
open Go.RowKit Mx

def DivPost (hi lo y : Nat) (w : World) (e : Ending) (w' : World) : Prop :=
  ∃ q r : Nat, e = .returned (.tuple #[.int .u64 q, .int .u64 r]) ∧ q < Bw ∧ r < y ∧ q * y + r = hi * Bw + lo ∧ ∃ m, w' = w.drewN m

set_option maxHeartbeats 400000 in
theorem div64_zero (lo y : Nat) (w : World) (hy : 0 < y) (hyB : y < Bw) (hlo : lo < Bw) :
    Calls Tryz.prog 111 #[.int .u64 0, .int .u64 lo, .int .u64 y] w (DivPost 0 lo y w) := by
  have h1 : ((y : Int) == 0) = false := beq_eq_false_iff_ne.2 (by omega)
  have h2 : (1:Int) ≤ y := by omega
  have h3 : (y : Int) ≤ 18446744073709551615 := by unfold Bw at hyB; omega
  have h4 : (lo : Int) ≤ 18446744073709551615 := by unfold Bw at hlo; omega
  have h5 : (0 : Int) ≤ lo := by omega
  go_enter Tryz.func111, Tryz.ntmps111
  go_wp2
  go_region
  all_goals go_wp2
  all_goals exact bodyPost_ret (v := .tuple #[.int .u64 (IntKind.u64.wrap (↑lo / ↑y)), .int .u64 (↑lo % ↑y)]) (by simp [results, Tryz.results111, go_sem]) rfl (by
    have e1 : IntKind.u64.wrap ((lo : Int) / (y : Int)) = ((lo / y : Nat) : Int) := by
      rw [IntKind.wrap_u64, ← Int.natCast_ediv]
      have : lo / y ≤ lo := Nat.div_le_self _ _
      unfold Bw at hlo
      generalize lo / y = q at *
      omega
    refine ⟨lo / y, lo % y, ?_, Nat.lt_of_le_of_lt (Nat.div_le_self _ _) hlo, Nat.mod_lt _ hy, ?_, 1, rfl⟩
    · rw [e1, ← Int.natCast_emod]
    · rw [Nat.zero_mul, Nat.zero_add, Nat.mul_comm]; exact Nat.div_add_mod lo y)

/-- The numbers that Div64 makes ahead of its two halves. -/
theorem div_setup (hi lo y s : Nat) (hs : s ≤ 63) (hy : hi < y) (hlo : lo < Bw) (hY1 : y * 2 ^ s < 18446744073709551616) (hY2 : 9223372036854775808 ≤ y * 2 ^ s) :
    ∃ Y yn1 yn0 U L un1 un0 : Nat, IntKind.u64.wrap ((y : Int) * 2 ^ s) = (Y : Int) ∧ (Y : Int) / 4294967296 = (yn1 : Int) ∧ bits .and .u64 (Y : Int) 4294967295 = (yn0 : Int) ∧
      bits .or .u64 (IntKind.u64.wrap ((hi : Int) * 2 ^ s)) ((lo : Int) / 2 ^ (64 - s)) = (U : Int) ∧ IntKind.u64.wrap ((lo : Int) * 2 ^ s) = (L : Int) ∧ (L : Int) / 4294967296 = (un1 : Int) ∧ bits .and .u64 (L : Int) 4294967295 = (un0 : Int) ∧
      Half U un1 Y yn1 yn0 ∧ un0 < 4294967296 ∧ Y = y * 2 ^ s ∧ (hi * Bw + lo) * 2 ^ s = (U * 4294967296 + un1) * 4294967296 + un0 ∧ Y < 18446744073709551616 ∧ U < 18446744073709551616 := by
  unfold Bw at *
  have hp : 0 < 2 ^ s := Nat.pow_pos (by omega)
  have hp2 : 0 < 2 ^ (64 - s) := Nat.pow_pos (by omega)
  have hpp : 2 ^ s * 2 ^ (64 - s) = 18446744073709551616 := by rw [← Nat.pow_add, show s + (64 - s) = 64 from by omega]
  have h1 : (hi + 1) * 2 ^ s ≤ y * 2 ^ s := Nat.mul_le_mul_right _ hy
  have hlo2 : lo / 2 ^ (64 - s) < 2 ^ s := by rw [Nat.div_lt_iff_lt_mul hp2, hpp]; exact hlo
  have hU : hi * 2 ^ s + lo / 2 ^ (64 - s) < y * 2 ^ s := by rw [Nat.add_mul] at h1; omega
  have hor : hi * 2 ^ s ||| lo / 2 ^ (64 - s) = hi * 2 ^ s + lo / 2 ^ (64 - s) := by
    rw [Nat.mul_comm]; exact (Nat.two_pow_add_eq_or_of_lt hlo2 hi).symm
  -- what is lost on the left of lo's move stands in U
  have hL : lo * 2 ^ s = lo / 2 ^ (64 - s) * 18446744073709551616 + lo % 2 ^ (64 - s) * 2 ^ s := by
    have := Nat.div_add_mod lo (2 ^ (64 - s))
    generalize lo / 2 ^ (64 - s) = a at *
    generalize lo % 2 ^ (64 - s) = b at *
    rw [← this, ← hpp]; grind
  have hb : lo % 2 ^ (64 - s) * 2 ^ s < 18446744073709551616 := by
    rw [← hpp, Nat.mul_comm (2 ^ s)]
    exact Nat.mul_lt_mul_of_pos_right (Nat.mod_lt _ hp2) hp
  have hLm : lo * 2 ^ s % 18446744073709551616 = lo % 2 ^ (64 - s) * 2 ^ s := by omega
  refine ⟨y * 2 ^ s, y * 2 ^ s / 4294967296, y * 2 ^ s % 4294967296, hi * 2 ^ s + lo / 2 ^ (64 - s), lo * 2 ^ s % 18446744073709551616, lo * 2 ^ s % 18446744073709551616 / 4294967296, lo * 2 ^ s % 18446744073709551616 % 4294967296,
    ?_, by omega, Mul64.maskN _ hY1, ?_, ?_, by omega, Mul64.maskN _ (by omega), ⟨by omega, by omega, by omega, by omega, hU, by omega⟩, by omega, rfl, ?_, hY1, by omega⟩
  · have e : ((y : Int) * 2 ^ s) = ((y * 2 ^ s : Nat) : Int) := by simp
    rw [e]; exact Mul64.wrapN _ hY1
  · have e : ((hi : Int) * 2 ^ s) = ((hi * 2 ^ s : Nat) : Int) := by simp
    have e2 : ((lo : Int) / 2 ^ (64 - s)) = ((lo / 2 ^ (64 - s) : Nat) : Int) := by simp
    rw [e, Mul64.wrapN _ (by omega), e2, bits_or_u64_nat _ _ (by omega) (by omega), hor]
  · have e : ((lo : Int) * 2 ^ s) = ((lo * 2 ^ s : Nat) : Int) := by simp
    rw [e]; exact Mul64.wrapM _
  · have e : (hi * 18446744073709551616 + lo) * 2 ^ s = hi * 2 ^ s * 18446744073709551616 + lo * 2 ^ s := by grind
    rw [e]; omega

theorem lz_c (y : Nat) (h0 : 0 < y) (h : y < Bw) : ∃ s : Nat, s ≤ 63 ∧ (∀ w, Calls Tryz.prog 138 #[.int .u64 y] w fun e w' => e = .returned (.int .i64 s) ∧ w = w') ∧ y * 2 ^ s < 18446744073709551616 ∧ 9223372036854775808 ≤ y * 2 ^ s := by
  obtain ⟨s, h1, h2, h3, h4⟩ := shift_of y h0 h
  refine ⟨s, h1, fun w => (Tryz.bits_LeadingZeros64 (y : Int) w (by omega) (by unfold Bw at h; omega)).mono ?_, h3, h4⟩
  rintro e w' ⟨rfl, rfl⟩
  refine ⟨?_, rfl⟩
  have : (64 - (Go.Lib.bitLen (y : Int).toNat : Int)) = (s : Int) := by rw [Int.toNat_natCast]; omega
  rw [this]

theorem val_eq {k : IntKind} {a b : Int} (h : a = b) : Value.int k a = Value.int k b := by rw [h]

theorem half_start {u d Y yn1 yn0 : Nat} (h : Half u d Y yn1 yn0) (hu : u < 18446744073709551616) : ∃ q r : Nat, IntKind.u64.wrap ((u : Int) / (yn1 : Int)) = (q : Int) ∧ IntKind.u64.wrap ((u : Int) - IntKind.u64.wrap ((q : Int) * (yn1 : Int))) = (r : Int) ∧ q * yn1 + r = u ∧ (u * 4294967296 + d) / Y ≤ q ∧ q ≤ 4294967297 ∧ r < 4294967296 := by
  obtain ⟨a, b, c, e, f⟩ := h.start
  refine ⟨u / yn1, u % yn1, ?_, ?_, a, b, c, e⟩
  · rw [Mul64.wrapN _ hu |> fun _ => IntKind.wrap_u64, ← Int.natCast_ediv]
    generalize u / yn1 = q at *
    omega
  · rw [← Int.natCast_mul]
    generalize u / yn1 * yn1 = P at *
    generalize u % yn1 = R at *
    rw [IntKind.wrap_u64, IntKind.wrap_u64]
    omega

theorem half_rest {u d Y yn1 yn0 : Nat} (h : Half u d Y yn1 yn0) (hY : Y < 18446744073709551616) (hu : u < 18446744073709551616) : ∃ q r : Nat, q = (u * 4294967296 + d) / Y ∧ q < 4294967296 ∧ q * Y + r = u * 4294967296 + d ∧ r < Y ∧
    IntKind.u64.wrap (IntKind.u64.wrap (IntKind.u64.wrap ((u : Int) * 4294967296) + (d : Int)) - IntKind.u64.wrap ((q : Int) * (Y : Int))) = (r : Int) := by
  obtain ⟨a, b⟩ := h.rest
  have := h.lt
  refine ⟨_, _, rfl, this, b, a, ?_⟩
  rw [← Int.natCast_mul]
  generalize (u * 4294967296 + d) / Y * Y = P at *
  generalize (u * 4294967296 + d) % Y = R at *
  simp only [IntKind.wrap_u64]
  omega

theorem div_end {hi lo y s Y U un1 un0 Q1 R1 Q2 R2 : Nat} (w : World) (hY : Y = y * 2 ^ s) (hN : (hi * Bw + lo) * 2 ^ s = (U * 4294967296 + un1) * 4294967296 + un0) (h1 : Q1 * Y + R1 = U * 4294967296 + un1) (h2 : Q2 * Y + R2 = R1 * 4294967296 + un0)
    (hq1 : Q1 < 4294967296) (hq2 : Q2 < 4294967296) (hr : R2 < Y) :
    DivPost hi lo y w (.returned (.tuple #[.int .u64 ((Q1 : Int) * 4294967296 + (Q2 : Int)), .int .u64 ((R2 : Int) / 2 ^ s)])) w := by
  have hp : 0 < 2 ^ s := Nat.pow_pos (by omega)
  have e : (hi * Bw + lo) * 2 ^ s = (Q1 * 4294967296 + Q2) * y * 2 ^ s + R2 := by
    rw [hN, ← h1]
    have : (Q1 * Y + R1) * 4294967296 + un0 = Q1 * 4294967296 * Y + (R1 * 4294967296 + un0) := by grind
    rw [this, ← h2, hY]; grind
  unfold DivPost
  generalize hi * Bw + lo = N at *
  have hq : (Q1 * 4294967296 + Q2) * y ≤ N := Nat.le_of_mul_le_mul_right (by rw [e]; omega) hp
  have e2 : (N - (Q1 * 4294967296 + Q2) * y) * 2 ^ s = R2 := by rw [Nat.sub_mul, e]; omega
  have e3 : R2 / 2 ^ s = N - (Q1 * 4294967296 + Q2) * y := by rw [← e2]; exact Nat.mul_div_cancel _ hp
  have hlt : R2 / 2 ^ s < y := by rw [Nat.div_lt_iff_lt_mul hp, ← hY]; exact hr
  refine ⟨Q1 * 4294967296 + Q2, R2 / 2 ^ s, ?_, by unfold Bw; omega, hlt, by rw [e3]; omega, 0, rfl⟩
  simp

set_option maxRecDepth 100000 in
set_option maxHeartbeats 1000000 in
theorem div64_pos (hi lo y : Nat) (w : World) (hh : 0 < hi) (hy : hi < y) (hyB : y < Bw) (hlo : lo < Bw) :
    Calls Tryz.prog 111 #[.int .u64 hi, .int .u64 lo, .int .u64 y] w (DivPost hi lo y w) := by
  have h1 : ((y : Int) == 0) = false := beq_eq_false_iff_ne.2 (by omega)
  have h2 : (1:Int) ≤ y := by omega
  have h3 : (y : Int) ≤ 18446744073709551615 := by unfold Bw at hyB; omega
  have h4 : (lo : Int) ≤ 18446744073709551615 := by unfold Bw at hlo; omega
  have h5 : (0 : Int) ≤ lo := by omega
  have h6 : ((hi : Int) == 0) = false := beq_eq_false_iff_ne.2 (by omega)
  have h7 : (hi : Int) < y := by omega
  obtain ⟨s, hs63, HL, hY1, hY2⟩ := lz_c y (by omega) hyB
  have HL := Lib.hid HL
  go_enter Tryz.func111, Tryz.ntmps111
  obtain ⟨Y, yn1, yn0, U, L, un1, un0, hEY, hE1, hE0, hEU, hEL, hL1, hL0, hH1, hu0, hYy, hN, hYb, hUb⟩ := div_setup hi lo y s hs63 hy hlo hY1 hY2
  have HEY := Lib.hid hEY; have HE1 := Lib.hid hE1; have HE0 := Lib.hid hE0; have HEU := Lib.hid hEU; have HEL := Lib.hid hEL; have HL1 := Lib.hid hL1; have HL0 := Lib.hid hL0
  have HYy := Lib.hid hYy; have HN := Lib.hid hN
  clear hEY hE1 hE0 hEU hEL hL1 hL0 hYy hN
  go_upto_region 15 with (go_at_call 138; refine (HL.out _).mono ?_; rintro e w' ⟨rfl, rfl⟩)
  simp only [HEY.out, HE1.out, HE0.out, HEU.out, HEL.out, HL1.out, HL0.out]
  clear HL
  have hyn := hH1.h1
  have g1 : (1 : Int) ≤ yn1 := by omega
  have g2 : ((yn1 : Int) == 0) = false := beq_eq_false_iff_ne.2 (by omega)
  obtain ⟨q0, r0, b1, b2, a1, a2, A3, A4⟩ := half_start hH1 hUb
  have A1 := Lib.hid a1; have HH1 := Lib.hid hH1
  have hy1 := hH1.h2
  obtain ⟨Q1, R1, hQ1, hQ1b, hR1, hR1b, hR1w⟩ := half_rest hH1 hYb hUb
  have HQ1 := Lib.hid hQ1; have HR1 := Lib.hid hR1
  rw [← hQ1] at a2
  have hH2 : Half R1 un0 Y yn1 yn0 := ⟨hH1.hY, hH1.h0, hH1.h1, hH1.h2, hR1b, hu0⟩
  have A2 := Lib.hid a2
  clear a1 a2 hH1 hQ1 hR1
  go_upto_block 0 with fail
  clear b1 b2
  go_cut [15] (fun v wx => v = .int .u64 (Q1 : Nat) ∧ wx = w)
  case first =>
    go_wp2_with fail
    go_loop [15, 16] (fun q r => ∃ qn rn : Nat, q = .int .u64 qn ∧ r = .int .u64 rn ∧ Hid (qn * yn1 + rn = U) ∧ Hid (Q1 ≤ qn) ∧ qn ≤ 4294967297 ∧ rn < 4294967296) (fun q _ => (intOf q).toNat)
    case atStart => exact ⟨q0, r0, rfl, rfl, A1.out, A2.out, A3, A4⟩
    case round =>
      obtain ⟨qn, rn, rfl, rfl, E1, E2, hq3, hr3⟩ := hrel
      by_cases t1 : 4294967296 ≤ qn
      · have t1' : (4294967296 : Int) ≤ qn := by omega
        have hm : Q1 < qn := by rw [HQ1.out]; exact HH1.out.more E1.out (.inl t1)
        have HM := Lib.hid hm
        have E1' : Hid ((qn - 1) * yn1 + (rn + yn1) = U) := by have := E1.out; rw [Nat.sub_mul]; show _ = _; have : 1 * yn1 ≤ qn * yn1 := Nat.mul_le_mul_right _ (by omega); omega
        have E2' : Hid (Q1 ≤ qn - 1) := by show _ ≤ _; omega
        clear hm
        by_cases t2 : 4294967296 ≤ rn + yn1
        · have t2' : (4294967296 : Int) ≤ rn + yn1 := by omega
          have hfin : qn - 1 = Q1 := by rw [HQ1.out]; exact HH1.out.brk E1'.out (by rw [← HQ1.out]; exact E2'.out) t2 (by omega)
          have HFIN := Lib.hid hfin
          clear hfin
          go_wp2
          go_meet
          exact ⟨val_eq (by have := HFIN.out; omega), rfl⟩
        · have t2' : decide ((4294967296 : Int) ≤ (rn : Int) + (yn1 : Int)) = false := decide_eq_false (by omega)
          have HT2 := Lib.hid t2
          clear t2
          go_wp2
          go_round
          case rel => exact ⟨qn - 1, rn + yn1, val_eq (by omega), by go_num, E1', E2', by omega, by have := HT2.out; omega⟩
          case measure => simp [intOf]; omega
      · have t1' : decide ((4294967296 : Int) ≤ (qn : Int)) = false := decide_eq_false (by omega)
        have HQ3 := Lib.hid hq3; have HR3 := Lib.hid hr3; have HT1 := Lib.hid t1
        have hb1 : qn * yn0 ≤ 4294967295 * 4294967295 := Nat.mul_le_mul (by omega) (by have := HH1.out.h0; omega)
        have hb2 : (qn : Int) * yn0 ≤ 18446744065119617025 := by rw [← Int.natCast_mul]; omega
        have hb3 : (0 : Int) ≤ (qn : Int) * yn0 := by rw [← Int.natCast_mul]; omega
        have hd1 := HH1.out.hd
        by_cases t3 : 4294967296 * rn + un1 < qn * yn0
        · have t3' : (4294967296 : Int) * rn + un1 < (qn : Int) * yn0 := by rw [← Int.natCast_mul]; omega
          have hm : Q1 < qn := by rw [HQ1.out]; exact HH1.out.more E1.out (.inr t3)
          have hq0 : 1 ≤ qn := by omega
          have E1' : Hid ((qn - 1) * yn1 + (rn + yn1) = U) := by have := E1.out; rw [Nat.sub_mul]; show _ = _; have : 1 * yn1 ≤ qn * yn1 := Nat.mul_le_mul_right _ (by omega); omega
          have E2' : Hid (Q1 ≤ qn - 1) := by show _ ≤ _; omega
          clear hm hb1 t3
          by_cases t2 : 4294967296 ≤ rn + yn1
          · have t2' : (4294967296 : Int) ≤ rn + yn1 := by omega
            have hfin : qn - 1 = Q1 := by rw [HQ1.out]; exact HH1.out.brk E1'.out (by rw [← HQ1.out]; exact E2'.out) t2 (by omega)
            have HFIN := Lib.hid hfin
            clear hfin
            go_wp2
            go_meet
            exact ⟨val_eq (by have := HFIN.out; omega), rfl⟩
          · have t2' : decide ((4294967296 : Int) ≤ (rn : Int) + (yn1 : Int)) = false := decide_eq_false (by omega)
            have HT2 := Lib.hid t2
            clear t2
            go_wp2
            go_round
            case rel => exact ⟨qn - 1, rn + yn1, val_eq (by omega), by go_num, E1', E2', by omega, by have := HT2.out; omega⟩
            case measure => simp [intOf]; omega
        · have t3' : (qn : Int) * yn0 ≤ (4294967296 : Int) * rn + un1 := by rw [← Int.natCast_mul]; omega
          have hfin : qn = Q1 := by rw [HQ1.out]; exact HH1.out.stop E1.out (by rw [← HQ1.out]; exact E2.out) (by omega)
          have HFIN := Lib.hid hfin
          clear hfin hb1 t3
          go_wp2
          go_meet
          exact ⟨val_eq (by have := HFIN.out; omega), rfl⟩
  case rest =>
    obtain ⟨rfl, hwc⟩ := hcut; obtain rfl : w = _ := hwc.symm
    obtain ⟨q1, r1, b1, b2, a1, a2, C3, C4⟩ := half_start hH2 (by omega)
    obtain ⟨Q2, R2, hQ2, hQ2b, hR2, hR2b, hR2w⟩ := half_rest hH2 hYb (by omega)
    have C1 := Lib.hid a1; have HH2 := Lib.hid hH2
    have HQ2 := Lib.hid hQ2; have HR2 := Lib.hid hR2
    rw [← hQ2] at a2
    have C2 := Lib.hid a2
    clear a1 a2 hH2 hQ2 hR2
    go_upto_block 2 with fail
    clear b1 b2 hR1w
    go_cut [18] (fun v wx => v = .int .u64 (Q2 : Nat) ∧ wx = w)
    case first =>
      go_wp2_with fail
      go_loop [18, 16] (fun q r => ∃ qn rn : Nat, q = .int .u64 qn ∧ r = .int .u64 rn ∧ Hid (qn * yn1 + rn = R1) ∧ Hid (Q2 ≤ qn) ∧ qn ≤ 4294967297 ∧ rn < 4294967296) (fun q _ => (intOf q).toNat)
      case atStart => exact ⟨q1, r1, rfl, rfl, C1.out, C2.out, C3, C4⟩
      case round =>
        obtain ⟨qn, rn, rfl, rfl, E1, E2, hq3, hr3⟩ := hrel
        by_cases t1 : 4294967296 ≤ qn
        · have t1' : (4294967296 : Int) ≤ qn := by omega
          have hm : Q2 < qn := by rw [HQ2.out]; exact HH2.out.more E1.out (.inl t1)
          have HM := Lib.hid hm
          have E1' : Hid ((qn - 1) * yn1 + (rn + yn1) = R1) := by have := E1.out; rw [Nat.sub_mul]; show _ = _; have : 1 * yn1 ≤ qn * yn1 := Nat.mul_le_mul_right _ (by omega); omega
          have E2' : Hid (Q2 ≤ qn - 1) := by show _ ≤ _; omega
          clear hm
          by_cases t2 : 4294967296 ≤ rn + yn1
          · have t2' : (4294967296 : Int) ≤ rn + yn1 := by omega
            have hfin : qn - 1 = Q2 := by rw [HQ2.out]; exact HH2.out.brk E1'.out (by rw [← HQ2.out]; exact E2'.out) t2 (by omega)
            have HFIN := Lib.hid hfin
            clear hfin
            go_wp2
            go_meet
            exact ⟨val_eq (by have := HFIN.out; omega), rfl⟩
          · have t2' : decide ((4294967296 : Int) ≤ (rn : Int) + (yn1 : Int)) = false := decide_eq_false (by omega)
            have HT2 := Lib.hid t2
            clear t2
            go_wp2
            go_round
            case rel => exact ⟨qn - 1, rn + yn1, val_eq (by omega), by go_num, E1', E2', by omega, by have := HT2.out; omega⟩
            case measure => simp [intOf]; omega
        · have t1' : decide ((4294967296 : Int) ≤ (qn : Int)) = false := decide_eq_false (by omega)
          have HQ3 := Lib.hid hq3; have HR3 := Lib.hid hr3; have HT1 := Lib.hid t1
          have hb1 : qn * yn0 ≤ 4294967295 * 4294967295 := Nat.mul_le_mul (by omega) (by have := HH2.out.h0; omega)
          have hb2 : (qn : Int) * yn0 ≤ 18446744065119617025 := by rw [← Int.natCast_mul]; omega
          have hb3 : (0 : Int) ≤ (qn : Int) * yn0 := by rw [← Int.natCast_mul]; omega
          have hd1 := HH2.out.hd
          by_cases t3 : 4294967296 * rn + un0 < qn * yn0
          · have t3' : (4294967296 : Int) * rn + un0 < (qn : Int) * yn0 := by rw [← Int.natCast_mul]; omega
            have hm : Q2 < qn := by rw [HQ2.out]; exact HH2.out.more E1.out (.inr t3)
            have hq0 : 1 ≤ qn := by omega
            have E1' : Hid ((qn - 1) * yn1 + (rn + yn1) = R1) := by have := E1.out; rw [Nat.sub_mul]; show _ = _; have : 1 * yn1 ≤ qn * yn1 := Nat.mul_le_mul_right _ (by omega); omega
            have E2' : Hid (Q2 ≤ qn - 1) := by show _ ≤ _; omega
            clear hm hb1 t3
            by_cases t2 : 4294967296 ≤ rn + yn1
            · have t2' : (4294967296 : Int) ≤ rn + yn1 := by omega
              have hfin : qn - 1 = Q2 := by rw [HQ2.out]; exact HH2.out.brk E1'.out (by rw [← HQ2.out]; exact E2'.out) t2 (by omega)
              have HFIN := Lib.hid hfin
              clear hfin
              go_wp2
              go_meet
              exact ⟨val_eq (by have := HFIN.out; omega), rfl⟩
            · have t2' : decide ((4294967296 : Int) ≤ (rn : Int) + (yn1 : Int)) = false := decide_eq_false (by omega)
              have HT2 := Lib.hid t2
              clear t2
              go_wp2
              go_round
              case rel => exact ⟨qn - 1, rn + yn1, val_eq (by omega), by go_num, E1', E2', by omega, by have := HT2.out; omega⟩
              case measure => simp [intOf]; omega
          · have t3' : (qn : Int) * yn0 ≤ (4294967296 : Int) * rn + un0 := by rw [← Int.natCast_mul]; omega
            have hfin : qn = Q2 := by rw [HQ2.out]; exact HH2.out.stop E1.out (by rw [← HQ2.out]; exact E2.out) (by omega)
            have HFIN := Lib.hid hfin
            clear hfin hb1 t3
            go_wp2
            go_meet
            exact ⟨val_eq (by have := HFIN.out; omega), rfl⟩
    case rest =>
      obtain ⟨rfl, hwc⟩ := hcut; obtain rfl : w = _ := hwc.symm
      have hfin := div_end w HYy.out HN.out HR1.out HR2.out hQ1b hQ2b hR2b
      have HFIN := Lib.hid hfin
      clear hfin
      go_wp2
      go_ret2
      exact HFIN.out

/-- math/bits.Div64, where it doesn't panic. -/
theorem div64_c (hi lo y : Nat) (w : World) (hy : hi < y) (hyB : y < Bw) (hlo : lo < Bw) :
    Calls Tryz.prog 111 #[.int .u64 hi, .int .u64 lo, .int .u64 y] w (DivPost hi lo y w) := by
  by_cases h : hi = 0
  · subst h; exact div64_zero lo y w hy hyB hlo
  · exact div64_pos hi lo y w (by omega) hy hyB hlo


theorem lt_upd {f : Nat → Nat} {M k s B : Nat} (h : ∀ j, j < M → f j < B) (hs : s < B) : ∀ j, j < M → upd f k s j < B := by
  intro j hj; unfold upd; split <;> first | exact hs | exact h j hj

theorem mul_top {q x : Nat} (hq : q < Bw) (hx : x < Bw) : q * x ≤ 340282366920938463426481119284349108225 := by
  have : q * x ≤ 18446744073709551615 * 18446744073709551615 := Nat.mul_le_mul (by unfold Bw at hq; omega) (by unfold Bw at hx; omega)
  omega

def TrimPost (p : Option Addr) (n cap : Nat) (f : Nat → Nat) (w : World) (e : Ending) (w' : World) : Prop :=
  ∃ m p' cap', e = .returned (.slice p' m cap') ∧ m ≤ n ∧ m ≤ cap' ∧ cap' ≤ cap ∧ (m = 0 ∨ f (m - 1) ≠ 0) ∧ (∀ j, m ≤ j → j < n → f j = 0) ∧ (m = 0 → p' = none) ∧ (0 < m → p' = p) ∧ w = w'

set_option maxHeartbeats 400000 in
theorem trim_c (p : Option Addr) (n cap : Nat) (f : Nat → Nat) (w : World) (hn : n ≤ cap) (hc : cap ≤ maxLen) (h : At .u64 w p n f) :
    Calls Tryz.prog 56 #[.slice p n cap] w (TrimPost p n cap f w) := by
  unfold maxLen at hc
  go_enter Tryz.func56, Tryz.ntmps56
  go_wp2
  go_loop [3] (fun i => ∃ m : Nat, m ≤ n ∧ i = .int .i64 m ∧ Hid (∀ j, m ≤ j → j < n → f j = 0)) (fun i => (intOf i).toNat)
  case atStart => exact ⟨n, Nat.le_refl _, rfl, fun j h1 h2 => by omega⟩
  case round =>
    obtain ⟨m, hm, rfl, HZ⟩ := hrel
    by_cases h0 : 0 < m
    · rcases h with h | ⟨g, off, rfl, hg, hcell⟩
      · omega
      have hk := hcell (m - 1) (by omega)
      clear hcell
      have hi : (0:Int) < (m : Int) := by omega
      by_cases hv : f (m - 1) = 0
      · rw [hv] at hk
        have HV := Lib.hid hv
        clear hv
        go_wp2
        go_round
        case rel => exact ⟨m - 1, by omega, val_of (by omega), fun j h1 h2 => by
          by_cases e : j = m - 1
          · subst e; exact HV.out
          · exact HZ.out j (by omega) h2⟩
        case measure => simp [intOf]; omega
      · have hfin : TrimPost (some ⟨g, off, none⟩) n cap f w (.returned (.slice (some ⟨g, off, none⟩) m cap)) w := ⟨m, _, cap, rfl, hm, by omega, by omega, .inr hv, HZ.out, fun e => by omega, fun _ => rfl, rfl⟩
        have HFIN := Lib.hid hfin
        have hv1 : ((f (m - 1) : Int) == 0) = false := beq_eq_false_iff_ne.2 (by omega)
        have hv2 : ((m : Int) == 0) = false := beq_eq_false_iff_ne.2 (by omega)
        clear hfin
        go_wp2
        go_ret
        exact HFIN.out
    · obtain rfl : m = 0 := by omega
      have hfin : TrimPost p n cap f w (.returned (.slice none 0 0)) w := ⟨0, none, 0, rfl, by omega, by omega, by omega, .inl rfl, HZ.out, fun _ => rfl, fun e => by omega, rfl⟩
      have HFIN := Lib.hid hfin
      clear hfin
      go_wp2
      go_ret
      exact HFIN.out

def LenPost (A : Nat) (w : World) (e : Ending) (w' : World) : Prop := ∃ n : Nat, e = .returned (.int .i64 n) ∧ (A = 0 → n = 0) ∧ (A ≠ 0 → 2 ^ (n - 1) ≤ A ∧ A < 2 ^ n ∧ 0 < n) ∧ w = w'

theorem info64 : (Tryz.prog.info? 78).map (fun i => (i.zero, i.size, i.bytes)) = some (some (.int .u64 0), 1, 8) := by kernel_rfl

theorem Blk_made (w : World) (n : Nat) (T : TypeId) : Blk .u64 (w.alloc (.cells (madeCells #[.int .u64 0] n) T)) w.heap.size n (fun _ => 0) := by
  refine ⟨_, T, heap_alloc_new w _, size_madeCells _ _, fun j hj => ?_⟩
  rw [← Array.getElem?_toList, toList_madeCells_one]
  simp [hj]

theorem make64_run (n : Nat) (hn : n ≤ 1099511627776) (w : World) : (Instr.makeSlice 27 (.int .i64 (n : Int)) (.int .i64 (n : Int))).run Tryz.prog w = .ok (.slice (some ⟨w.heap.size, 0, none⟩) n n) (w.alloc (.cells (madeCells #[.int .u64 0] n) 78)) :=
  run_make_row' 27 78 (.int .u64 0) 8 Tryz.underlying27 info64 rfl .i64 .i64 n (by omega) (by omega) w

def ShortPost (g off n M d : Nat) (f : Nat → Nat) (w : World) (e : Ending) (w' : World) : Prop :=
  ∃ (r : Nat) (f' : Nat → Nat), e = .returned (.int .u64 r) ∧ r < d ∧ Blk .u64 w' g M f' ∧ (∀ j, j < M → f' j < Bw) ∧ (∀ j, (j < off ∨ off + n ≤ j) → f' j = f j) ∧ V Bw f' off n * d + r = V Bw f off n ∧ w.grownBy w' (some g)

theorem short_alg {A F d B q r r2 x : Nat} (HV : A * d + r = F) (hq : q * d + r2 = r * B + x) : (q + B * A) * d + r2 = x + B * F := by
  rw [← HV]
  have e : (q + B * A) * d + r2 = (q * d + r2) + B * (A * d) := by grind
  rw [e, hq]; grind

theorem short_step {f fk : Nat → Nat} {off n k d q r r2 : Nat} (hk : k < n) (HO : ∀ j, (j < off + (k + 1) ∨ off + n ≤ j) → fk j = f j) (HV : V Bw fk (off + (k + 1)) (n - (k + 1)) * d + r = V Bw f (off + (k + 1)) (n - (k + 1)))
    (hq : q * d + r2 = r * Bw + fk (off + k)) :
    (∀ j, (j < off + k ∨ off + n ≤ j) → upd fk (off + k) q j = f j) ∧ V Bw (upd fk (off + k) q) (off + k) (n - k) * d + r2 = V Bw f (off + k) (n - k) := by
  refine ⟨fun j hj => ?_, ?_⟩
  · rw [upd_ne (by omega)]; exact HO j (by omega)
  · obtain ⟨m, rfl⟩ : ∃ m, n = k + 1 + m := ⟨n - (k + 1), by omega⟩
    have e1 : k + 1 + m - k = m + 1 := by omega
    have e2 : k + 1 + m - (k + 1) = m := by omega
    rw [e2] at HV
    rw [e1, V_front, V_front, upd_at, V_upd_out (by omega), Nat.add_assoc off k 1, ← HO (off + k) (by omega)]
    exact short_alg HV hq

theorem heap_cell {w w' : World} (h : w'.heap = w.heap) (a : Addr) : w'.cell? a = w.cell? a := by simp [World.cell?, h]
theorem heap_frozen {w w' : World} (h : w'.heap = w.heap) (a : Addr) : w'.frozen? a = w.frozen? a := by simp [World.frozen?, h]
theorem heap_blk {k : IntKind} {w w' : World} {g M : Nat} {f : Nat → Nat} (h : w'.heap = w.heap) (hb : Blk k w g M f) : Blk k w' g M f := by
  unfold Blk; rw [h]; exact hb

set_option maxHeartbeats 400000 in
theorem divideInPlace_c (g off n cap M d : Nat) (f : Nat → Nat) (w : World) (hB : Blk .u64 w g M f) (hl : off + n ≤ M) (hM : M ≤ 1099511627776) (hf : ∀ j, j < M → f j < Bw) (hd : 0 < d) (hdB : d < Bw) :
    Calls Tryz.prog 78 #[.slice (some ⟨g, off, none⟩) n cap, .int .u64 d] w (ShortPost g off n M d f w) := by
  go_enter Tryz.func78, Tryz.ntmps78
  go_wp2
  go_loopw [5, 6] (fun r i wr => ∃ (k rn : Nat) (fk : Nat → Nat), k ≤ n ∧ i = .int .i64 ((k : Int) - 1) ∧ r = .int .u64 rn ∧ rn < d ∧ Hid (Blk .u64 wr g M fk) ∧ Hid (∀ j, j < M → fk j < Bw) ∧ Hid (∀ j, (j < off + k ∨ off + n ≤ j) → fk j = f j) ∧
      Hid (V Bw fk (off + k) (n - k) * d + rn = V Bw f (off + k) (n - k)) ∧ Hid (w.grownBy wr (some g)))
    (fun _ i _ => (intOf i + 1).toNat)
  case atStart => exact ⟨n, 0, f, by omega, rfl, rfl, hd, hB, hf, fun _ _ => rfl, by simp [Hid, V], gb_refl _ _⟩
  case round =>
    obtain ⟨k1, rn, fk, hk1, rfl, rfl, hr, HB, HF, HO, HV, HG⟩ := hrel
    by_cases h0 : 0 < k1
    · obtain ⟨k, rfl⟩ : ∃ k, k1 = k + 1 := ⟨k1 - 1, by omega⟩
      have hc1 := HB.out.cell (j := off + k) (by omega)
      have hf1 := HB.out.free (off + k)
      have hx := HF.out (off + k) (by omega)
      have HST := Lib.hid (fun q r2 h => short_step (q := q) (r2 := r2) (show k < n by omega) HO.out HV.out h)
      have HDV := Lib.hid (fun w => div64_c rn (fk (off + k)) d w hr hdB hx)
      have hfd := HF.out
      have HFD := Lib.hid hfd
      have hkk : ((k + 1 : Nat) : Int) - 1 = (k : Int) := by omega
      rw [hkk]
      clear hf hB hfd hx hkk
      go_wp2_with (go_at_call 111; refine (HDV.out _).mono ?_; rintro e w1 ⟨q, r2, rfl, hq, hr2, hdv, m, hw1⟩; (have hh1 : w1.heap = wr.heap := by rw [hw1]; rfl); (have hg1 : wr.grownBy w1 none := by rw [hw1]; exact gb_drewN (gb_refl _ _) _); clear hw1; have HQ := Lib.hid hq; have HDD := Lib.hid hdv; have HH := Lib.hid hh1; have HG1 := Lib.hid hg1; have hf2 := (heap_frozen hh1 _).trans hf1; have hc2 := (heap_cell hh1 _).trans hc1; clear hq hdv hh1 hg1 hf1 hc1)
      go_roundw
      case rel => exact ⟨k, r2, _, by omega, rfl, rfl, hr2, (heap_blk HH.out HB.out).set q, lt_upd HF.out HQ.out, (HST.out q r2 HDD.out).1, (HST.out q r2 HDD.out).2, gb_set (gb_trans HG.out (below_gb (gb_below HG1.out))) _⟩
      case measure => simp [intOf]
    · obtain rfl : k1 = 0 := by omega
      have hfin : ShortPost g off n M d f w (.returned (.int .u64 rn)) wr := ⟨rn, fk, rfl, hr, HB.out, HF.out, HO.out, HV.out, HG.out⟩
      have HFIN := Lib.hid hfin
      clear hfin hf hB
      go_wp2
      go_ret
      exact HFIN.out

/-- The slice v reads as the number N. -/
def Num (w : World) (v : Value) (N : Nat) : Prop :=
  ∃ p n cap f, v = .slice p n cap ∧ n ≤ cap ∧ cap ≤ maxLen ∧ At .u64 w p n f ∧ (∀ j, j < n → f j < Bw) ∧ (n = 0 ∨ f (n - 1) ≠ 0) ∧ V Bw f 0 n = N

theorem Num.kept {w w' : World} {v : Value} {N : Nat} (h : Num w v N) (hg : w.grownBy w' none) : Num w' v N := by
  obtain ⟨p, n, cap, f, rfl, h1, h2, h3, r⟩ := h
  exact ⟨p, n, cap, f, rfl, h1, h2, h3.grown hg (by simp), r⟩

/-- No number here is as long as this. -/
def LimN : Nat := 100000
def Lim : Nat := Bw ^ LimN
theorem lim_len {n : Nat} {f : Nat → Nat} (t : n = 0 ∨ f (n - 1) ≠ 0) (h : V Bw f 0 n < Lim) : n ≤ LimN := by
  rcases V_top (b := Bw) (f := f) (o := 0) (n := n) (by simpa using t) with e | e
  · omega
  · by_cases hn : n ≤ LimN
    · exact hn
    · have : Bw ^ LimN ≤ Bw ^ (n - 1) := Nat.pow_le_pow_right Bw_pos (by omega)
      unfold Lim at h
      omega

def NumPost (N : Nat) (w : World) (e : Ending) (w' : World) : Prop := ∃ v, e = .returned v ∧ Num w' v N ∧ w.grownBy w' none

theorem addr_add (g o j : Nat) : (⟨g, o, none⟩ : Addr).add j = ⟨g, o + j, none⟩ := by unfold Addr.add; split <;> simp_all

/-- What is handed over by copy into a block of one's own. -/
theorem copy_run (w : World) (g M : Nat) (fz f : Nat → Nat) (p : Option Addr) (n cap : Nat) (hB : Blk .u64 w g M fz) (h : At .u64 w p n f) (hn : n ≤ M) :
    ∃ w', (Builtin.copy_ #[27, 27] 3 #[.slice (some ⟨g, 0, none⟩) M M, .slice p n cap]).run Tryz.prog w = .ok (.int .i64 n) w' ∧ Blk .u64 w' g M (fun j => if j < n then f j else fz j) ∧ w.grownBy w' (some g) := by
  by_cases h0 : n = 0
  · subst h0
    refine ⟨w, ?_, by simpa using hB, gb_refl _ _⟩
    exact run_copy_none w 27 27 3 78 _ _ _ _ _ _ Tryz.underlying27 (by kernel_rfl) (by simp)
  · rcases h with h | ⟨gb, ob, rfl, hg, hc⟩
    · omega
    obtain ⟨cur, T, hgg, hs, hcur⟩ := hB
    obtain ⟨L, hl, hL⟩ : ∃ L : List Value, L.length = n ∧ ∀ j, j < n → L[j]? = some (.int .u64 (f j)) := ⟨(List.range n).map fun j => Value.int .u64 (f j), by simp, fun j hj => by simp [hj]⟩
    have hmem : ∀ v ∈ L, v.oneCell' = true := by
      intro v hv
      obtain ⟨j, hj, rfl⟩ := List.getElem_of_mem hv
      have := hL j (by omega)
      rw [List.getElem?_eq_getElem hj] at this
      injection this with this
      rw [this]; rfl
    have hr := run_copy_row (P := Tryz.prog) w 27 27 3 78 g 0 M M ⟨gb, ob, none⟩ n cap cur T L Tryz.underlying27 (by kernel_rfl) hgg
      (by rw [hl]; exact (Nat.min_eq_left hn).symm) (fun j v hj => by
        have hjn : j < n := by rw [← hl]; exact (List.getElem?_eq_some_iff.1 hj).1
        rw [hL j hjn] at hj
        injection hj with hj
        rw [addr_add, ← hj]; exact hc j hjn) (by omega) hmem
    refine ⟨w.setRow g (cur.toList.take 0 ++ L ++ cur.toList.drop (0 + L.length)).toArray, ?_, ?_, ?_⟩
    · rw [hr, hl]; rfl
    · refine ⟨_, T, setRow_heap w g _ _ T _ hgg, by simp; omega, fun j hj => ?_⟩
      rw [List.getElem?_toArray, List.take_zero, List.nil_append, Nat.zero_add, hl, List.getElem?_append, hl]
      by_cases hjn : j < n
      · rw [if_pos hjn]; simp only [hjn, if_true]; exact hL j hjn
      · rw [if_neg hjn, List.getElem?_drop, Array.getElem?_toList, show n + (j - n) = j from by omega]
        simp only [hjn, if_false]
        exact hcur j hj
    · exact ⟨rfl, rfl, rfl, by simp [World.setRow], fun k _ hr => setRow_other w g k _ (by intro e; apply hr; rw [e])⟩

/-- copy as a step of the walk. -/
theorem wpList_copy64 {w : World} {ops : Array Oper} {rest : List Oper} {o : Oper} {a : Act} {Q : Exit → Act → World → Prop} (hgd : o.guard = none) (d s : Operand)
    (ho : o.op = .call { callee := .builtin .copy, args := #[d, s], argTypes := #[27, 27] }) (hty : o.type = 3)
    (g M n cap : Nat) (p : Option Addr) (fz f : Nat → Nat) (hd : a.eval d = .slice (some ⟨g, 0, none⟩) M M) (hs : a.eval s = .slice p n cap) (hB : Blk .u64 w g M fz) (h : At .u64 w p n f) (hn : n ≤ M)
    (K : ∀ w', Hid (Blk .u64 w' g M (fun j => if j < n then f j else fz j)) → Hid (w.grownBy w' (some g)) → wpList Tryz.prog ops Q rest (a.put o.dst (.int .i64 n)) w') :
    wpList Tryz.prog ops Q (o :: rest) a w := by
  refine wpList_plain hgd fun K' hK => ?_
  obtain ⟨w', hrun, h1, h2⟩ := copy_run w g M fz f p n cap hB h hn
  unfold Oper.wp
  simp [execOp, ho, resolve, invoke, builtin, hd, hs, hty, hrun, Result.andThen]
  exact hK _ _ (K w' h1 h2)

def lst (k : IntKind) (n : Nat) (f : Nat → Nat) : List Value := (List.range n).map fun j => Value.int k (f j)
theorem lst_len {k : IntKind} {n : Nat} {f : Nat → Nat} : (lst k n f).length = n := by simp [lst]
theorem lst_get {k : IntKind} {n : Nat} {f : Nat → Nat} {j : Nat} (h : j < n) : (lst k n f)[j]? = some (.int k (f j)) := by simp [lst, h]
theorem lst_succ {k : IntKind} {n : Nat} {f : Nat → Nat} {y : Nat} : lst k (n + 1) (upd f n y) = lst k n f ++ [.int k y] := by
  unfold lst
  rw [List.range_succ, List.map_append]
  congr 1
  · apply List.map_congr_left
    intro j hj
    rw [upd_ne (by simp at hj; omega)]
  · simp [upd]
theorem lst_take {k : IntKind} {n m : Nat} {f : Nat → Nat} (h : m ≤ n) : (lst k n f).take m = lst k m f := by
  unfold lst
  rw [← List.map_take, List.take_range, Nat.min_eq_left h]

/-- The slice v, of the call's own blocks from base on, holds the n numbers f 0 .. -/
def Own (k : IntKind) (e : TypeId) (w : World) (base : Nat) (v : Value) (n : Nat) (f : Nat → Nat) : Prop := w.ownsRow base e 1 v n (lst k n f)

section
variable {k : IntKind} {e : TypeId} {w w' : World} {base : Nat} {v : Value} {n : Nat} {f : Nat → Nat}
theorem Own.shape (h : Own k e w base v n f) : (v = .slice none 0 0 ∧ n = 0) ∨ ∃ g cap, v = .slice (some ⟨g, 0, none⟩) n cap ∧ base ≤ g ∧ g < w.heap.size ∧ n ≤ cap ∧ cap ≤ maxLen := by
  rcases h.2 with h2 | ⟨g, cap, cur, hv, hb, hg, hn, hc, _⟩
  · exact .inl h2
  · exact .inr ⟨g, cap, hv, hb, (Array.getElem?_eq_some_iff.1 hg).1, hn, hc⟩
theorem Own.at {p : Option Addr} {m cap : Nat} (h : Own k e w base (.slice p m cap) n f) : m = n ∧ At k w p n f := by
  rcases h.2 with ⟨hv, hn⟩ | ⟨g, cap', cur, hv, hb, hg, hn, hc, hs, htake⟩
  · injection hv with h1 h2; subst h1; subst h2; exact ⟨hn.symm, .inl hn⟩
  · injection hv with h1 h2 h3; subst h1; subst h2; subst h3
    refine ⟨rfl, .inr ⟨g, 0, rfl, (Array.getElem?_eq_some_iff.1 hg).1, fun j hj => ?_⟩⟩
    have := World.ownsRow.cells (w := w) (base := base) (e := e) (size := 1) (v := .slice (some ⟨g, 0, none⟩) m cap) (n := m) (xs := lst k m f) ⟨by simp [lst], .inr ⟨g, cap, cur, rfl, hb, hg, hn, hc, hs, htake⟩⟩ (g := g) rfl j (.int k (f j)) (lst_get hj)
    rwa [addr_add] at this
theorem Own.kept {row : Option Nat} (h : Own k e w base v n f) (hg : w.grownBy w' row) (hne : v.ownBlock = none ∨ v.ownBlock ≠ row) : Own k e w' base v n f := World.ownsRow.kept h hg hne
theorem Own.cut {g cap m : Nat} (h : Own k e w base (.slice (some ⟨g, 0, none⟩) n cap) n f) (hm : m ≤ n) : Own k e w base (.slice (some ⟨g, 0, none⟩) m cap) m f := by
  rcases h.2 with ⟨hv, _⟩ | ⟨g', cap', cur, hv, hb, hg, hn, hc, hs, htake⟩
  · cases hv
  · injection hv with h1 h2 h3
    injection h1 with h1
    injection h1 with h1
    subst h1; subst h3
    refine ⟨by simp [lst], .inr ⟨g, cap, cur, rfl, hb, hg, by omega, hc, hs, ?_⟩⟩
    rw [Nat.mul_one] at htake ⊢
    rw [← lst_take hm, ← htake, List.take_take, Nat.min_eq_left hm]
theorem Own.far (h : Own k e w base v n f) : ∀ g, v.ownBlock = some g → base ≤ g := by
  intro g hg
  rcases h.shape with ⟨rfl, _⟩ | ⟨g', cap, rfl, hb, _⟩
  · cases hg
  · simp [Value.ownBlock] at hg; omega
theorem Own.mono {base' : Nat} (h : Own k e w base v n f) (hb : base' ≤ base) : Own k e w base' v n f := by
  refine ⟨h.1, ?_⟩
  rcases h.2 with h2 | ⟨g, cap, cur, hv, hg, r⟩
  · exact .inl h2
  · exact .inr ⟨g, cap, cur, hv, by omega, r⟩
theorem gb_own {a : World} (h : a.grownBy w none) (ho : Own k e w base v n f) (hb : a.heap.size ≤ base) (hg : w.grownBy w' v.ownBlock) : a.grownBy w' none := by
  have hf := ho.far
  exact ⟨hg.os.trans h.os, hg.tape.trans h.tape, hg.output.trans h.output, Nat.le_trans h.size hg.size, fun i hi _ => (hg.block i (Nat.lt_of_lt_of_le hi h.size) (fun e => by have := hf i e.symm; omega)).trans (h.block i hi (by simp))⟩
theorem Own.nil : Own k e w base (.slice none 0 0) 0 f := World.ownsRow_nil w base e 1
theorem Own.congr {f2 : Nat → Nat} (h : Own k e w base v n f) (hf : ∀ j, j < n → f j = f2 j) : Own k e w base v n f2 := by
  have : lst k n f2 = lst k n f := by
    unfold lst
    apply List.map_congr_left
    intro j hj
    rw [hf j (by simpa using hj)]
  unfold Own
  rw [this]; exact h
theorem Own.set {g cap j x : Nat} (h : Own k e w base (.slice (some ⟨g, 0, none⟩) n cap) n f) (hj : j < n) : Own k e (w.setCell ⟨g, j, none⟩ (.int k x)) base (.slice (some ⟨g, 0, none⟩) n cap) n (upd f j x) := by
  have h2 := (World.ownsRow.stored h j (.int k x)).1
  have e : (lst k n f).set j (.int k x) = lst k n (upd f j x) := by
    apply List.ext_getElem?
    intro i
    rw [List.getElem?_set, lst_len]
    by_cases hi : i < n
    · rw [lst_get hi]
      by_cases hij : j = i
      · subst hij; rw [lst_get hi, upd_at]; simp [hi]
      · rw [if_neg hij, lst_get hi, upd_ne (by omega)]
    · rw [if_neg (by omega), List.getElem?_eq_none (by rw [lst_len]; omega), List.getElem?_eq_none (by rw [lst_len]; omega)]
  rw [e] at h2
  exact h2
theorem Own.cell {g cap j : Nat} (h : Own k e w base (.slice (some ⟨g, 0, none⟩) n cap) n f) (hj : j < n) : w.cell? ⟨g, j, none⟩ = some (.int k (f j)) := by
  rw [World.ownsRow.cellAt h j (by omega)]; exact lst_get hj
theorem Own.free {g cap j : Nat} (h : Own k e w base (.slice (some ⟨g, 0, none⟩) n cap) n f) : w.frozen? ⟨g, j, none⟩ = false := World.ownsRow.frozenAt h j
end

/-- append of one number, as a step of the walk. -/
theorem wpList_app1 {k : IntKind} {t e : TypeId} {bytes : Nat} (ht : Tryz.prog.underlying t = some (.slice e)) (hinfo : (Tryz.prog.info? e).map (fun i => (i.zero, i.size, i.bytes)) = some (some (.int k 0), 1, bytes)) (hby : bytes ≤ 8)
    {w0 : World} {ops : Array Oper} {rest : List Oper} {o : Oper} {a : Act} {Q : Exit → Act → World → Prop} (hgd : o.guard = none) (s x : Operand) (ho : o.op = .call { callee := .builtin .append, args := #[s, x], argTypes := #[t, t] })
    (base : Nat) (v : Value) (n : Nat) (f : Nat → Nat) (Y : Int) (y : Nat) (hY : Y = (y : Int)) (hs : a.eval s = v) (hown : Own k e w0 base v n f) (hx : a.eval x = .slice (some ⟨w0.heap.size, 0, none⟩) 1 1) (hn : n ≤ 1000000000) (hbase : base ≤ w0.heap.size)
    (K : ∀ v' w', Own k e w' base v' (n + 1) (upd f n y) → w0.grownBy w' v.ownBlock → wpList Tryz.prog ops Q rest (a.put o.dst v') w') :
    wpList Tryz.prog ops Q (o :: rest) a (w0.alloc (.cells #[.int k Y] e)) := by
  subst hY
  obtain ⟨i0, hi, hz0, hz1, hz2⟩ := info_parts hinfo
  refine wpList_append_own (P := Tryz.prog) _ hgd s x t ho base e i0 (.int k 0) 1 bytes ht hi hz0 hz1 hz2 rfl (by decide) v n (lst k n f) hs (hown.alloc _) ⟨w0.heap.size, 0, none⟩ 1 1 [.int k y] hx rfl ?_ ?_ (by unfold maxLen; omega) ?_ (by simp; omega) ?_
  · intro j u hj
    match j, hj with
    | 0, hj => simp at hj; subst hj; simp [Addr.add]
  · intro u hu; simp at hu; subst hu; rfl
  · have : (n + 1) * bytes ≤ (n + 1) * 8 := Nat.mul_le_mul_left _ hby
    omega
  · intro v' w' h1 h2 _
    refine K v' w' ?_ ⟨h2.os, h2.tape, h2.output, Nat.le_trans (by simp) h2.size, fun j hj hr => (h2.block j (by simp; omega) hr).trans (Below.heap_alloc w0 _ j hj)⟩
    unfold Own
    rw [lst_succ]; exact h1
theorem own_below {w w1 w2 : World} (h : Below w.heap.size w w1) {o : Obj} (hg : (w1.alloc o).grownBy w2 (some w1.heap.size)) : w.grownBy w2 none :=
  below_gb (gb_new (h.alloc h.size o) h.size hg)

theorem lt_cut {f : Nat → Nat} {n M : Nat} (h : ∀ j, j < n → f j < Bw) : ∀ j, j < M → (fun j => if j < n then f j else 0) j < Bw := by
  intro j _
  show (if j < n then f j else 0) < Bw
  split
  · exact h j ‹_›
  · exact Bw_pos

theorem num_pos {n : Nat} {f : Nat → Nat} (hB : V Bw f 0 n ≠ 0) : 0 < n := by
  rcases Nat.eq_zero_or_pos n with h | h
  · subst h; exact absurd rfl hB
  · exact h
end Go.Proofs.YtijpelkjeejjfaaGreatDoor.Zd
namespace Go.Proofs.YtijpelkjeejjfaaGreatDoor.Zd
open Go.RowKit Mx

/-- How many decimal digits N has (0 of 0). -/
def nd (N : Nat) : Nat := if h : N = 0 then 0 else nd (N / 10) + 1
termination_by N
decreasing_by omega

theorem nd_lt (N : Nat) : N < 10 ^ nd N := by
  induction N using nd.induct with
  | case1 => simp [nd]
  | case2 N h ih => rw [nd, dif_neg h, Nat.pow_succ]; omega

theorem nd_le (N : Nat) (h : N ≠ 0) : 10 ^ (nd N - 1) ≤ N := by
  induction N using nd.induct with
  | case1 => exact absurd rfl h
  | case2 N h ih =>
    rw [nd, dif_neg h, Nat.add_sub_cancel]
    by_cases h1 : N / 10 = 0
    · rw [h1, nd, dif_pos rfl]; simp; omega
    · have := ih h1
      have e : 10 ^ nd (N / 10) = 10 ^ (nd (N / 10) - 1) * 10 := by
        rw [← Nat.pow_succ]; congr 1
        have : nd (N / 10) ≠ 0 := by rw [nd, dif_neg h1]; omega
        omega
      omega

theorem nd_of {N n : Nat} (h1 : N < 10 ^ n) (h2 : 10 ^ (n - 1) ≤ N) (hn : 0 < n) : n = nd N := by
  have hN : N ≠ 0 := by have := Nat.pow_pos (n := n - 1) (show 0 < 10 by omega); omega
  have a := nd_lt N
  have b := nd_le N hN
  rcases Nat.lt_trichotomy n (nd N) with h | h | h
  · have : 10 ^ n ≤ 10 ^ (nd N - 1) := Nat.pow_le_pow_right (by omega) (by omega); omega
  · exact h
  · have : 10 ^ nd N ≤ 10 ^ (n - 1) := Nat.pow_le_pow_right (by omega) (by omega); omega

def dig (N j : Nat) : Nat := N / 10 ^ j % 10

/-- Digits without a nought at the end are the number's. -/
theorem digits_of {f : Nat → Nat} {n N : Nat} (hf : ∀ j, j < n → f j < 10) (hn : 0 < n) (ht : f (n - 1) ≠ 0) (hV : V 10 f 0 n = N) : n = nd N ∧ ∀ j, j < n → f j = dig N j := by
  refine ⟨nd_of ?_ ?_ hn, fun j hj => ?_⟩
  · rw [← hV]; exact V_lt (fun j hj => by rw [Nat.zero_add]; exact hf j hj)
  · rcases V_top (b := 10) (f := f) (o := 0) (n := n) (.inr (by simpa using ht)) with h | h
    · omega
    · rw [← hV]; exact h
  · have := V_digit (b := 10) (f := f) (o := 0) (n := n) (by omega) (fun j hj => by rw [Nat.zero_add]; exact hf j hj) hj
    rw [Nat.zero_add] at this
    rw [← this, ← hV]; rfl

/-- A number's text without a sign, the highest digit first. -/
def decL (N : Nat) : List UInt8 := (List.range (nd N)).map fun j => UInt8.ofNat (48 + dig N (nd N - 1 - j))

/-- A number's text. -/
def txtL (Z : Int) : List UInt8 := if Z = 0 then [48] else if Z < 0 then 45 :: decL Z.natAbs else decL Z.natAbs
def txt (Z : Int) : Value := .string ⟨(txtL Z).toArray⟩

def DigPost (N : Nat) (w : World) (e : Ending) (w' : World) : Prop :=
  ∃ g cap f, e = .returned (.slice (some ⟨g, 0, none⟩) ((nd N : Nat)) cap) ∧ Own .u8 5 w' w.heap.size (.slice (some ⟨g, 0, none⟩) (nd N) cap) (nd N) f ∧ (∀ j, j < nd N → f j = 48 + dig N j) ∧ w.grownBy w' none

theorem info8 : (Tryz.prog.info? 5).map (fun i => (i.zero, i.size, i.bytes)) = some (some (.int .u8 0), 1, 1) := by kernel_rfl

def ten19 : Nat := 10000000000000000000

/-- The digits that bytes are. -/
def dv (f : Nat → Nat) : Nat → Nat := fun j => f j - 48

def DRel (w : World) (N na : Nat) (g : Nat) (left out : Value) (wr : World) : Prop :=
  ∃ nl p cl fl n fb, left = .slice p nl cl ∧ nl ≤ cl ∧ cl ≤ maxLen ∧ nl ≤ na ∧ (0 < nl → p = some ⟨w.heap.size, 0, none⟩) ∧ Blk .u64 wr w.heap.size na fl ∧ (∀ j, j < na → fl j < Bw) ∧ (nl = 0 ∨ fl (nl - 1) ≠ 0) ∧ V Bw fl 0 nl = g ∧
    Own .u8 5 wr (w.heap.size + 1) out n fb ∧ (∀ j, j < n → 48 ≤ fb j ∧ fb j < 58) ∧ V 10 (dv fb) 0 n + 10 ^ n * g = N ∧ w.grownBy wr none

def GRel (w wo : World) (na : Nat) (fl fb : Nat → Nat) (n r0 : Nat) (r gn : Nat) (out : Value) (wr : World) : Prop :=
  ∃ fb', Blk .u64 wr w.heap.size na fl ∧ Own .u8 5 wr (w.heap.size + 1) out (n + r) fb' ∧ (∀ j, j < n + r → 48 ≤ fb' j ∧ fb' j < 58) ∧ gn < 10 ^ (19 - r) ∧ V 10 (dv fb') 0 (n + r) + 10 ^ (n + r) * gn = V 10 (dv fb) 0 n + 10 ^ n * r0 ∧ w.grownBy wr none

theorem dv_upd {f : Nat → Nat} {n y : Nat} : V 10 (dv (upd f n y)) 0 (n + 1) = V 10 (dv f) 0 n + (y - 48) * 10 ^ n := by
  rw [V_succ, Nat.zero_add]
  congr 1
  · exact V_congr (fun j hj => by unfold dv; rw [upd_ne (by omega)])
  · simp [dv, upd]

theorem digit_step {f : Nat → Nat} {m gn T : Nat} (h : V 10 (dv f) 0 m + 10 ^ m * gn = T) : V 10 (dv (upd f m (48 + gn % 10))) 0 (m + 1) + 10 ^ (m + 1) * (gn / 10) = T := by
  rw [dv_upd, Nat.add_sub_cancel_left, Nat.pow_succ, ← h]
  have := Nat.div_add_mod gn 10
  generalize gn / 10 = a at *
  generalize gn % 10 = b at *
  rw [← this]; grind

theorem digit_rng {f : Nat → Nat} {m gn : Nat} (h : ∀ j, j < m → 48 ≤ f j ∧ f j < 58) : ∀ j, j < m + 1 → 48 ≤ upd f m (48 + gn % 10) j ∧ upd f m (48 + gn % 10) j < 58 := by
  intro j hj
  unfold upd
  split
  · omega
  · exact h j (by omega)

theorem digit_len {n X g N na : Nat} (h : X + 10 ^ n * g = N) (hg : 0 < g) (hN : N < Bw ^ na) : n < 64 * na := by
  have h1 : 10 ^ n * 1 ≤ 10 ^ n * g := Nat.mul_le_mul_left _ hg
  have h2 : 2 ^ n ≤ 10 ^ n := Nat.pow_le_pow_left (by omega) n
  have h3 : Bw ^ na = 2 ^ (64 * na) := by rw [Nat.pow_mul]; rfl
  have h4 : 2 ^ n < 2 ^ (64 * na) := by rw [← h3]; omega
  exact (Nat.pow_lt_pow_iff_right (by omega)).1 h4

set_option maxHeartbeats 2000000 in
theorem digitsFromLast_w (pa : Option Addr) (na capa : Nat) (f : Nat → Nat) (w : World) (hna : na ≤ 100000) (ha : At .u64 w pa na f) (hf : ∀ j, j < na → f j < Bw) (t : na = 0 ∨ f (na - 1) ≠ 0) (h0 : 0 < na) :
    Calls Tryz.prog 57 #[.slice pa na capa] w (DigPost (V Bw f 0 na) w) := by
  have hmk : ∀ w, (Instr.makeSlice 27 (.int .i64 (na : Int)) (.int .i64 (na : Int))).run Tryz.prog w = .ok (.slice (some ⟨w.heap.size, 0, none⟩) na na) (w.alloc (.cells (madeCells #[.int .u64 0] na) 78)) :=
    fun w => make64_run na (by omega) w
  have HA := Lib.hid ha; have HF := Lib.hid hf; have HT := Lib.hid t
  have hN0 : V Bw f 0 na ≠ 0 := by
    rcases V_top (b := Bw) (f := f) (o := 0) (n := na) (by simpa using t) with e | e
    · omega
    · have := Nat.pow_pos (n := na - 1) Bw_pos; omega
  have HN0 := Lib.hid hN0
  clear ha hf t hN0
  go_enter Tryz.func57, Tryz.ntmps57
  go_wp2_with (with_reducible refine wpList_copy64 rfl _ _ rfl rfl w.heap.size na na capa pa (fun _ => 0) f rfl rfl (Blk_made _ _ _) (HA.out.grown (World.grownBy_alloc _ _ none) (by simp)) (by omega) ?_)
  intro w2 HB2 HG2
  have HBEL := Lib.hid (own_below (Below.refl _ _) HG2.out)
  have HSZ := HB2.out.lt
  have HF2 := Lib.hid (lt_cut HF.out (M := na))
  clear hmk HG2 HA
  have hNlt : V Bw f 0 na < Bw ^ na := V_lt (fun j hj => by rw [Nat.zero_add]; exact HF.out j hj)
  have HNL := Lib.hid hNlt
  have HS : Hid (DRel w (V Bw f 0 na) na (V Bw f 0 na) (.slice (some ⟨w.heap.size, 0, none⟩) na na) (.slice none 0 0) w2) :=
    ⟨na, _, na, _, 0, fun _ => 0, rfl, Nat.le_refl _, by unfold maxLen; omega, Nat.le_refl _, fun _ => rfl, HB2.out, HF2.out, by have := HT.out; rcases this with h | h; exact .inl h; exact .inr (by rw [if_pos (by omega)]; exact h), V_congr (fun j hj => by simp [hj]), Own.nil, fun j hj => by omega, by simp [V], HBEL.out⟩
  clear hNlt HB2 HBEL HF2 HSZ
  go_wp2_with fail
  go_loopg [3, 4] (V Bw f 0 na) (fun g left out wr => DRel w (V Bw f 0 na) na g left out wr)
  case atStart => exact HS.out
  case round =>
    clear HS
    obtain ⟨nl, p, cl, fl, n, fb, rfl, q1, q2, q3, q4, q5, q6, q7, q8, q9, q10, q11, q12⟩ := hrel
    by_cases hnl : 0 < nl
    · obtain rfl := q4 hnl
      have hg0 : 0 < gk := by
        rw [← q8]
        rcases V_top (b := Bw) (f := fl) (o := 0) (n := nl) (by simpa using q7) with e | e
        · omega
        · have := Nat.pow_pos (n := nl - 1) Bw_pos; omega
      have hlen := digit_len q11 hg0 HNL.out
      have HBL := Lib.hid q5; have HFL := Lib.hid q6; have HV8 := Lib.hid q8; have HO := Lib.hid q9; have HR10 := Lib.hid q10; have HE := Lib.hid q11; have HW := Lib.hid q12
      have ht19 : 0 < ten19 := by unfold ten19; omega
      have ht19B : ten19 < Bw := by unfold ten19 Bw; omega
      have HT1 := Lib.hid ht19; have HT2 := Lib.hid ht19B
      have HGK0 := Lib.hid hg0
      clear q4 q5 q6 q7 q8 q9 q10 q11 q12 ht19 ht19B hg0
      go_wp2_with (go_at_call 78; rw [show (10000000000000000000 : Int) = ((ten19 : Nat) : Int) from rfl]; refine (divideInPlace_c w.heap.size 0 nl _ na ten19 fl _ HBL.out (by omega) (by omega) HFL.out HT1.out HT2.out).mono ?_; rintro e w3 ⟨r0, f3, rfl, hr, hB3, hF3, hO3, hV3, hG3⟩; have HB3 := Lib.hid hB3; have HF3 := Lib.hid hF3; have HV3 := Lib.hid hV3; have HG3 := Lib.hid hG3; have HR := Lib.hid hr; clear hB3 hF3 hO3 hV3 hG3 hr)
      refine (trim_c _ nl cl f3 _ q1 q2 (HB3.out.at0.pre q3)).mono ?_
      rintro e w4 ⟨m, p', cap', rfl, hm, hm2, hc', ht, hz, hm0, hmp, rfl⟩
      have HM1 := Lib.hid ht; have HM2 := Lib.hid hz; have HM3 := Lib.hid hmp
      clear ht hz hm0 hmp
      have HSZ4 := HO.out.far
      have hblk := HO.out.kept HG3.out (by
        rcases HO.out.shape with ⟨e, _⟩ | ⟨g', c', e, hb, _⟩
        · subst e; exact .inl rfl
        · subst e; exact .inr (by simp [Value.ownBlock]; omega))
      have HBK := Lib.hid hblk
      have HW3 := Lib.hid (below_gb (row := none) (gb_new (gb_below HW.out) (Nat.le_refl _) HG3.out))
      have HGS : Hid (GRel w w na f3 fb n r0 0 r0 u4 w3) := ⟨fb, HB3.out, HBK.out, HR10.out, by have := HR.out; unfold ten19 at this; omega, rfl, HW3.out⟩
      clear hblk HSZ4 HBK HW3 HBL HG3 HW HO
      go_wp2_with fail
      go_loopg [4, 5, 19] 19 (fun g out grp i wr => ∃ r gn : Nat, g = 19 - r ∧ r ≤ 19 ∧ i = .int .i64 r ∧ grp = .int .u64 gn ∧ GRel w w na f3 fb n r0 r gn out wr)
      case atStart => exact ⟨0, r0, rfl, by omega, rfl, rfl, HGS.out⟩
      case round =>
        clear HGS
        obtain ⟨r, gn, rfl, hr19, rfl, rfl, fb', g1, g2, g3, g4, g5, g6⟩ := hrel
        by_cases hlt : r < 19
        · have i1 : (0 : Int) ≤ (gn : Int) % 10 := by omega
          have i2 : (gn : Int) % 10 < 10 := by omega
          have i3 : (0 : Int) ≤ gn := by omega
          have i4 : (gn : Int) ≤ 18446744073709551615 := by
            have : 10 ^ (19 - r) ≤ 10 ^ 19 := Nat.pow_le_pow_right (by omega) (by omega)
            omega
          have G1 := Lib.hid g1; have G2 := Lib.hid g2; have G3 := Lib.hid g3; have G4 := Lib.hid g4; have G5 := Lib.hid g5; have G6 := Lib.hid g6
          have hsz := G6.out.size
          have hL := G1.out.lt
          clear g1 g2 g3 g4 g5 g6
          go_wp2_with (at_builtin; refine wpList_app1 (k := .u8) (t := 89) (e := 5) (bytes := 1) Tryz.underlying89 info8 (by omega) rfl _ _ rfl (w.heap.size + 1) u4 (n + r) fb' _ (48 + gn % 10) (by omega) rfl G2.out rfl (by omega) (by omega) ?_)
          intro v' w' hO' hG'
          have HO' := Lib.hid hO'; have HG' := Lib.hid hG'
          clear hO' hG'
          go_wp2_with fail
          have hg2 : gn / 10 < 10 ^ (19 - (r + 1)) := by
            have e : 10 ^ (19 - r) = 10 ^ (19 - (r + 1)) * 10 := by rw [← Nat.pow_succ]; congr 1; omega
            have := G4.out
            omega
          have hL2 : w.heap.size ≠ w.heap.size + 1 := by omega
          have hBL : Blk .u64 w' w.heap.size na f3 := by
            refine G1.out.kept HG'.out ?_
            intro e
            have := G2.out.far _ e.symm
            omega
          go_roundg (19 - (r + 1))
          case measure => omega
          case rel => exact ⟨r + 1, gn / 10, rfl, by omega, by go_num, val_of (by omega), upd fb' (n + r) (48 + gn % 10), hBL, HO'.out, digit_rng G3.out, hg2, digit_step G5.out, gb_own G6.out G2.out (by omega) HG'.out⟩
        · obtain rfl : r = 19 := by omega
          have hz : gn = 0 := by have : gn < 10 ^ 0 := g4; simpa using this
          rw [hz, Nat.mul_zero, Nat.add_zero] at g5
          have hv3 : V Bw f3 0 m = V Bw f3 0 nl := (V_pad (fun j h1 h2 => by simpa using HM2.out j h1 h2) hm).symm
          have hgk : gk = V Bw f3 0 m * ten19 + r0 := by rw [hv3, HV3.out]; exact HV8.out.symm
          have hlt2 : V Bw f3 0 m < gk := by
            have h1 := HT1.out
            have h2 := HGK0.out
            have h3 : V Bw f3 0 m * 2 ≤ V Bw f3 0 m * ten19 := Nat.mul_le_mul_left _ (by unfold ten19; omega)
            omega
          have hE2 : V 10 (dv fb') 0 (n + 19) + 10 ^ (n + 19) * V Bw f3 0 m = V Bw f 0 na := by
            rw [g5, ← HE.out, hgk, Nat.pow_add]
            have e : ten19 = 10 ^ 19 := by unfold ten19; rfl
            rw [e]; generalize (10:Nat) ^ 19 = t; grind
          have HH := Lib.hid (show DRel w (V Bw f 0 na) na (V Bw f3 0 m) (.slice p' m cap') u4 wr from ⟨m, p', cap', f3, n + 19, fb', rfl, hm2, by omega, by omega, HM3.out, g1, HF3.out, HM1.out, rfl, g2, g3, hE2, g6⟩)
          have HLT2 := Lib.hid hlt2
          clear hE2 hgk hv3 hz g1 g2 g3 g4 g5 g6 hlt2
          go_wp2_with fail
          go_roundg (V Bw f3 0 m)
          case measure => exact HLT2.out
          case rel => exact HH.out
    · obtain rfl : nl = 0 := by omega
      have hg : gk = 0 := q8.symm
      rw [hg, Nat.mul_zero, Nat.add_zero] at q11
      have hn0 : 0 < n := by
        rcases Nat.eq_zero_or_pos n with h | h
        · subst h; exact absurd q11.symm HN0.out
        · exact h
      obtain ⟨G, cap, rfl, hG1, hG2, hG3, hG4⟩ : ∃ g cap, u4 = .slice (some ⟨g, 0, none⟩) n cap ∧ w.heap.size + 1 ≤ g ∧ g < wr.heap.size ∧ n ≤ cap ∧ cap ≤ maxLen := by
        rcases q9.shape with ⟨_, h⟩ | h
        · omega
        · exact h
      have HO := Lib.hid q9; have HR10 := Lib.hid q10; have HE := Lib.hid q11; have HW := Lib.hid q12
      clear q4 q5 q6 q7 q8 q9 q10 q11 q12 hg HT HF
      go_wp2_with fail
      go_loopg [4] n (fun g out wx => ∃ m : Nat, g = m ∧ 0 < m ∧ m ≤ n ∧ out = .slice (some ⟨G, 0, none⟩) m cap ∧ Hid (V 10 (dv fb) 0 m = V Bw f 0 na) ∧ wr = wx)
      case atStart => exact ⟨n, rfl, hn0, Nat.le_refl _, rfl, HE, rfl⟩
      case round =>
        obtain ⟨m, hgm, hm0, hmn, rfl, HM, rfl⟩ := hrel
        obtain rfl : m = _ := hgm.symm
        have hcell := HO.out.cell (j := m - 1) (by omega)
        have hrng := HR10.out (m - 1) (by omega)
        unfold maxLen at hG4
        have i1 : (0 : Int) ≤ (m : Int) - 1 := by omega
        have i2 : (m : Int) - 1 < m := by omega
        by_cases hx : fb (m - 1) = 48
        · rw [hx] at hcell
          have hvm : V 10 (dv fb) 0 (m - 1) = V Bw f 0 na := by
            have := HM.out
            obtain ⟨t, rfl⟩ : ∃ t, m = t + 1 := ⟨m - 1, by omega⟩
            rw [V_succ, Nat.zero_add] at this
            simp only [Nat.add_sub_cancel] at hx ⊢
            have e : dv fb t = 0 := by unfold dv; rw [hx]
            rw [e, Nat.zero_mul, Nat.add_zero] at this
            exact this
          have hm1 : 0 < m - 1 := by
            rcases Nat.eq_zero_or_pos (m - 1) with h | h
            · rw [h] at hvm; exact absurd hvm.symm HN0.out
            · exact h
          have HVM := Lib.hid hvm
          clear hvm hx hrng
          go_wp2_with fail
          go_roundg (m - 1)
          case measure => omega
          case rel => exact ⟨m - 1, rfl, hm1, by omega, rfl, HVM, rfl⟩
        · have hd := digits_of (f := dv fb) (n := m) (N := V Bw f 0 na) (fun j hj => by have := HR10.out j (by omega); unfold dv; omega) hm0 (by unfold dv; omega) HM.out
          have hfin : DigPost (V Bw f 0 na) w (.returned (.slice (some ⟨G, 0, none⟩) m cap)) wr := by
            refine ⟨G, cap, fb, by rw [← hd.1], ?_, fun j hj => ?_, HW.out⟩
            · rw [← hd.1]; exact (HO.out.cut hmn).mono (by omega)
            · have h1 := HR10.out j (by omega)
              have h2 := hd.2 j (by omega)
              unfold dv at h2
              omega
          have HFIN := Lib.hid hfin
          have hne : ((fb (m - 1) : Int) == 48) = false := beq_eq_false_iff_ne.2 (by omega)
          clear hfin hd hrng hx
          go_wp2_with fail
          go_ret
          exact HFIN.out
end Go.Proofs.YtijpelkjeejjfaaGreatDoor.Zd
