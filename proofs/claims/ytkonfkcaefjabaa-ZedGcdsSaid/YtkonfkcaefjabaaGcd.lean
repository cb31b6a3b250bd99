/- The greatest common divisor of two numbers. -/
import Derived.Test.YtkonfkcaefjabaaDivide
namespace Go.Proofs.Ytkonfkcaefjabaa
open Go.RowKit Mx

theorem gcd_step (a b : Nat) : Nat.gcd b (a % b) = Nat.gcd a b := by
  rw [Nat.gcd_comm a b, Nat.gcd_rec b a, Nat.gcd_comm]

theorem num_short {n : Nat} {f : Nat → Nat} (t : n = 0 ∨ f (n - 1) ≠ 0) (h : V Bw f 0 n < Bw) : (n = 0 ∧ V Bw f 0 n = 0) ∨ (n = 1 ∧ V Bw f 0 n = f 0) := by
  rcases Nat.lt_or_ge n 2 with h2 | h2
  · rcases Nat.lt_or_ge n 1 with h1 | h1
    · obtain rfl : n = 0 := by omega
      exact .inl ⟨rfl, rfl⟩
    · obtain rfl : n = 1 := by omega
      exact .inr ⟨rfl, by simp [V]⟩
  · rcases V_top (b := Bw) (f := f) (o := 0) (n := n) (by simpa using t) with e | e
    · omega
    · have : Bw ^ 1 ≤ Bw ^ (n - 1) := Nat.pow_le_pow_right Bw_pos (by omega)
      rw [Nat.pow_one] at this
      omega

def GcdRel (w : World) (G : Nat) (g : Nat) (a b : Value) (wr : World) : Prop := ∃ A B, g = B ∧ Num wr a A ∧ Num wr b B ∧ A < Lim ∧ B < Lim ∧ Nat.gcd A B = G ∧ w.grownBy wr none

set_option maxHeartbeats 2000000 in
theorem common_c (a b : Value) (A B : Nat) (w : World) (ha : Num w a A) (hb : Num w b B) (hA : A < Lim) (hB : B < Lim) : Calls Try.prog 57 #[a, b] w (NumPost (Nat.gcd A B) w) := by
  have HS := Lib.hid (show GcdRel w (Nat.gcd A B) B a b w from ⟨A, B, rfl, ha, hb, hA, hB, rfl, gb_refl _ _⟩)
  clear ha hb hA hB
  go_enter Try.func57, Try.ntmps57
  go_wp2_with fail
  go_loopg [0, 1] B (fun g a b wr => GcdRel w (Nat.gcd A B) g a b wr)
  case atStart => exact HS.out
  case round =>
    clear HS
    obtain ⟨A1, B1, rfl, ha, hb, hA, hB, hG, hW⟩ := hrel
    have HNA := Lib.hid ha; have HNB := Lib.hid hb; have HLA := Lib.hid hA; have HLB := Lib.hid hB; have HG := Lib.hid hG; have HW := Lib.hid hW
    obtain ⟨p2, n2, c2, f2, rfl, k2, m2, a2, l2, t2, hV2⟩ := hb
    have HA2 := Lib.hid a2; have HL2 := Lib.hid l2; have HT2 := Lib.hid t2; have HV2 := Lib.hid hV2
    by_cases h1 : 1 < n2
    · have hB0 : gk ≠ 0 := by
        rw [← hV2]
        rcases V_top (b := Bw) (f := f2) (o := 0) (n := n2) (by simpa using t2) with e | e
        · omega
        · have := Nat.pow_pos (n := n2 - 1) Bw_pos
          omega
      have HB0 := Lib.hid hB0
      have h1' : (1 : Int) < n2 := by omega
      clear ha hA hB hG hW a2 l2 t2 hV2 hB0
      go_wp2_with (go_at_call 52; refine (divide_c _ _ A1 gk _ HNA.out HNB.out HLA.out HLB.out HB0.out).mono ?_; rintro e w2 ⟨v1, v2, rfl, hN1, hN2, hG2⟩; have HN2 := Lib.hid hN2; have HG2 := Lib.hid hG2; clear hN1 hN2 hG2)
      go_roundg (A1 % gk)
      case measure => exact Nat.mod_lt _ (Nat.pos_of_ne_zero HB0.out)
      case rel => exact ⟨gk, A1 % gk, rfl, HNB.out.kept HG2.out, HN2.out, HLB.out, Nat.lt_of_le_of_lt (Nat.mod_le _ _) HLA.out, by rw [gcd_step]; exact HG.out, gb_trans HW.out HG2.out⟩
    · by_cases h0 : n2 = 0
      · have hfin : NumPost (Nat.gcd A B) w (.returned u0) wr := by
          subst h0
          have e0 : gk = 0 := hV2.symm
          rw [e0, Nat.gcd_zero_right] at hG
          exact ⟨u0, rfl, by rw [← hG]; exact ha, hW⟩
        have HFIN := Lib.hid hfin
        subst h0
        clear ha hA hB hG hW a2 l2 t2 hV2 hfin
        go_wp2
        go_ret
        exact HFIN.out
      · obtain rfl : n2 = 1 := by omega
        rcases a2 with h | ⟨g2, o2, rfl, hg2, hc2⟩
        · omega
        have hx0 : f2 0 ≠ 0 := by rcases t2 with h | h; omega; exact h
        have hxB := l2 0 (by omega)
        have hxe : f2 0 = gk := by rw [← hV2]; simp [V]
        have hB0 : gk ≠ 0 := by rw [← hxe]; exact hx0
        have hcell := hc2 0 (by omega)
        rw [hxe, Nat.add_zero] at hcell
        rw [hxe] at hxB
        have HXB := Lib.hid hxB
        have HB0 := Lib.hid hB0
        clear ha hA hB hG hW l2 t2 hV2 hB0 hc2 hx0 hxB hxe
        go_wp2_with fail
        refine (divide_c _ _ A1 gk _ HNA.out HNB.out HLA.out HLB.out HB0.out).mono ?_
        rintro e w2 ⟨v1, v2, rfl, hN1, hN2, hG2⟩
        have HN2 := Lib.hid hN2; have HG2 := Lib.hid hG2; have hcell2 := hG2.cell hcell (by simp); clear hN1 hN2 hG2 hcell
        clear HLA HLB
        go_upto_region 8 with fail
        clear hcell2
        obtain ⟨p3, n3, c3, f3, rfl, k3, m3, a3, l3, t3, hV3⟩ := HN2.out
        have hlt : A1 % gk < gk := Nat.mod_lt _ (Nat.pos_of_ne_zero HB0.out)
        have hgB := HXB.out
        have HGW := Lib.hid (gb_trans HW.out HG2.out)
        have hsh := num_short t3 (by rw [hV3]; omega)
        rw [hV3] at hsh
        have HGG := Lib.hid (show Nat.gcd gk (A1 % gk) = Nat.gcd A B by rw [gcd_step]; exact HG.out)
        have HLT := Lib.hid hlt
        obtain ⟨y0, hy0⟩ : ∃ y, A1 % gk = y := ⟨_, rfl⟩
        rw [hy0] at HGG HLT hsh
        have HXB2 := Lib.hid HXB.out
        clear l3 t3 hV3 hlt hgB hy0
        go_upto_if 37 with fail
        go_cut [10] (fun y wx => y = .int .u64 y0 ∧ wx = w2)
        case first =>
          rcases hsh with ⟨h3, h4⟩ | ⟨h3, h4⟩
          · subst h3
            have H4 := Lib.hid (show Value.int .u64 0 = Value.int .u64 (y0 : Int) from val_of (by omega))
            clear h4 a3
            go_wp2
            go_meet
            exact ⟨H4.out, rfl⟩
          · subst h3
            rcases a3 with h | ⟨g3, o3, rfl, hg3, hc3⟩
            · omega
            have hc := hc3 0 (by omega)
            rw [← h4, Nat.add_zero] at hc
            have H4 := Lib.hid h4
            clear h4 hc3
            go_wp2
            go_meet
            exact ⟨rfl, rfl⟩
        case rest =>
          obtain ⟨rfl, hwc⟩ := hcut
          obtain rfl : w2 = _ := hwc.symm
          clear hsh a3
          go_wp2_with fail
          go_loopw [9, 10] (fun x y wr => ∃ xn yn : Nat, x = .int .u64 xn ∧ y = .int .u64 yn ∧ Hid (xn < Bw) ∧ Hid (0 < xn) ∧ Hid (yn < Bw) ∧ Hid (Nat.gcd xn yn = Nat.gcd A B) ∧ Hid (w.grownBy wr none)) (fun _ y _ => (intOf y).toNat)
          case atStart => exact ⟨gk, y0, rfl, rfl, HXB2, Nat.pos_of_ne_zero HB0.out, Nat.lt_trans HLT.out HXB2.out, HGG, HGW⟩
          case round =>
            clear HXB HXB2 HB0 HLT HGG HGW HN2 HG2 HNA HNB HG HW HA2 HL2 HT2 HV2
            obtain ⟨xn, yn, rfl, rfl, H1, H2, H3, H4, H5⟩ := hrel
            by_cases hy : yn = 0
            · subst hy
              have hg : xn = Nat.gcd A B := by have := H4.out; rwa [Nat.gcd_zero_right] at this
              have HGE := Lib.hid hg
              have b0 : (((0 : Nat) : Int) != 0) = false := by simp
              clear hg
              go_wp2
              go_ret
              refine ⟨_, rfl, ?_, gb_trans H5.out (World.grownBy_alloc _ _ none)⟩
              rw [← HGE.out]
              exact ⟨_, 1, 1, fun _ => xn, rfl, Nat.le_refl _, by unfold maxLen; omega, (Blk_one _ xn _).at0, fun _ _ => H1.out, .inr (Nat.ne_of_gt H2.out), by simp [V]⟩
            · have hyy : (1 : Int) ≤ yn := by omega
              have hx0 : (0 : Int) ≤ xn := by omega
              have b0 : ((yn : Int) != 0) = true := by rw [bne_iff_ne]; omega
              have HM := Lib.hid (Nat.mod_lt xn (Nat.pos_of_ne_zero hy))
              go_wp2
              go_region
              all_goals go_wp2
              all_goals go_roundw
              case rel => exact ⟨yn, xn % yn, rfl, val_of (Int.natCast_emod xn yn).symm, H3, Nat.pos_of_ne_zero hy, Nat.lt_trans HM.out H3.out, by show _ = _; rw [gcd_step]; exact H4.out, gb_drew H5.out⟩
              case measure => have := HM.out; simp [intOf]; omega
end Go.Proofs.Ytkonfkcaefjabaa
