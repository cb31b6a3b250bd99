/- The reference's parser: definitions. -/
import Derived.Test.YthclkbaankjbiaaGreatDoorM22
namespace Go.Proofs.YthclkbaankjbiaaGreatDoor
open Go.RowKit
section
variable (b : Nat) (q : Option Addr) (c : Nat) (T : List Tok) (D : Nat)
variable (hE : EndT T) (hR : roomQ T T.length ≤ 10000000) (n : Nat) (nx : Nx) (ex : St → RQ)
include hE hR

set_option maxRecDepth 100000 in
set_option maxHeartbeats 4000000 in
theorem def_c  (hX : SubC b q c T D 44 1 (ex)) (fX : ∀ s, Fits T s (ex s)) (hY : SubN b q c T D 84 (typedQ T ex)) (fY : ∀ s, Fits T s (typedQ T ex s)) (hZ : SubN b q c T D 83 (paramsQ T ex)) (fZ : ∀ s, Fits4 T s (paramsQ T ex s)) (s0 : St) (w : World) (h : PAt w b q c T D s0) : Calls Tryz.prog 50 #[.pointer (some ⟨b, 0, none⟩)] w (RPost b q c T D (defQ T ex s0) w) := by
  have HI := Lib.hid (fun x s w h => is_c b q c T D x s w h)
  have HL := Lib.hid (fun s w h => leaf_c b q c T D hE hR s w h)
  have HMU := Lib.hid (fun x s w h => must_c b q c T D hE hR x s w h)
  have HKI := Lib.hid (fun k s w h => kind_c b q c T D hE hR k s w h)
  have HFA := Lib.hid (fun e s w h => fail_c b q c T D e s w h)
  have HSX := Lib.hid hX; have HTX := Lib.hid fX
  have HSY := Lib.hid hY; have HTY := Lib.hid fY
  have HSZ := Lib.hid hZ; have HTZ := Lib.hid fZ
  have HR := Lib.hid hR; have HP0 := Lib.hid h; have HG0 : Hid (Fr2 (Self b) w w) := Lib.hid (Fr2.refl _ _)
  clear hE hR h hX fX hY fY hZ fZ
  go_enter Tryz.func50, Tryz.ntmps50
  go_wp2_with fail
  all_goals (try (exfalso; (simp at *; omega)))
  refine (HI.out [112, 117, 98] _ _ HP0.out).mono ?_
  rintro e w1 ⟨rfl, h2, f2⟩
  have HP1 : Hid (PAt w1 b q c T D s0) := Lib.hid h2; have HG1 := Lib.hid (HG0.out.trans f2)
  obtain ⟨b1, hb⟩ : ∃ b1, isQ T [112, 117, 98] s0 = b1 := ⟨_, rfl⟩
  rw [hb]
  have HV1 := Lib.hid hb
  clear h2 f2 hb
  cases b1
  · skip
    go_wp2_with fail
    all_goals (try (exfalso; (simp at *; omega)))
    refine (HMU.out [102, 117, 110] _ _ HP1.out).mono ?_
    rintro e w2 ⟨⟨x2, rfl, hx⟩, h2, f2⟩
    have hxs2 : x2.size ≤ 10000100 := by rw [qsize hx]; exact Nat.le_trans (len_ok HR.out (must_fits T _ _)) (by decide)
    obtain ⟨s2, hs⟩ : ∃ s2, (mustQ T [102, 117, 110] s0).2 = s2 := ⟨_, rfl⟩
    have HX2 := Lib.hid hx; have HE2 := Lib.hid hs; have HP2 : Hid (PAt w2 b q c T D s2) := Lib.hid (hs ▸ h2); have HG2 := Lib.hid (HG1.out.trans f2)
    clear hx h2 f2 hs
    go_wp2_with fail
    all_goals (try (exfalso; (simp at *; omega)))
    refine (HKI.out 1 _ _ HP2.out).mono ?_
    rintro e w3 ⟨⟨x3, rfl, hx⟩, h2, f2⟩
    have hxs3 : x3.size ≤ 10000100 := by rw [qsize hx]; exact Nat.le_trans (len_ok HR.out (kind_fits (by decide) _)) (by decide)
    obtain ⟨s3, hs⟩ : ∃ s3, (kindQ T 1 s2).2 = s3 := ⟨_, rfl⟩
    have HX3 := Lib.hid hx; have HE3 := Lib.hid hs; have HP3 : Hid (PAt w3 b q c T D s3) := Lib.hid (hs ▸ h2); have HG3 := Lib.hid (HG2.out.trans f2)
    clear hx h2 f2 hs
    go_wp2_with fail
    all_goals (try (exfalso; (simp at *; omega)))
    refine (HMU.out [40] _ _ HP3.out).mono ?_
    rintro e w4 ⟨⟨x4, rfl, hx⟩, h2, f2⟩
    have hxs4 : x4.size ≤ 10000100 := by rw [qsize hx]; exact Nat.le_trans (len_ok HR.out (must_fits T _ _)) (by decide)
    obtain ⟨s4, hs⟩ : ∃ s4, (mustQ T [40] s3).2 = s4 := ⟨_, rfl⟩
    have HX4 := Lib.hid hx; have HE4 := Lib.hid hs; have HP4 : Hid (PAt w4 b q c T D s4) := Lib.hid (hs ▸ h2); have HG4 := Lib.hid (HG3.out.trans f2)
    clear hx h2 f2 hs
    obtain ⟨d0, d1, d2, d3, d4, d5, d6⟩ := cells6 HP4.out.box
    obtain ⟨E, hEE⟩ : ∃ E, s4.e = E := ⟨_, rfl⟩
    have HV5 := Lib.hid hEE
    rw [hEE] at d4; clear hEE d0 d1 d2 d3 d5 d6
    by_cases he : E = 0
    · subst he
      go_wp2_with fail
      all_goals (try (exfalso; (simp at *; omega)))
      refine (HI.out [41] _ _ HP4.out).mono ?_
      rintro e w6 ⟨rfl, h2, f2⟩
      have HP6 : Hid (PAt w6 b q c T D s4) := Lib.hid h2; have HG6 := Lib.hid (HG4.out.trans f2)
      obtain ⟨b6, hb⟩ : ∃ b6, isQ T [41] s4 = b6 := ⟨_, rfl⟩
      rw [hb]
      have HV6 := Lib.hid hb
      clear h2 f2 hb
      cases b6
      · skip
        go_wp2_with fail
        all_goals (try (exfalso; (simp at *; omega)))
        refine (HSZ.out _ _ HP6.out).mono ?_
        rintro e w7 ⟨⟨x7, rfl, hx⟩, h2, f2⟩
        have hxs7 : x7.size ≤ 10000100 := by rw [qsize hx]; exact Nat.le_trans (len4_ok HR.out (HTZ.out _)) (by decide)
        obtain ⟨s7, hs⟩ : ∃ s7, ((paramsQ T ex) s4).2 = s7 := ⟨_, rfl⟩
        have HX7 := Lib.hid hx; have HE7 := Lib.hid hs; have HP7 : Hid (PAt w7 b q c T D s7) := Lib.hid (hs ▸ h2); have HG7 := Lib.hid (HG6.out.trans f2)
        clear hx h2 f2 hs
        go_wp2_with fail
        all_goals (try (exfalso; (simp at *; omega)))
        refine (HMU.out [41] _ _ HP7.out).mono ?_
        rintro e w8 ⟨⟨x8, rfl, hx⟩, h2, f2⟩
        have hxs8 : x8.size ≤ 10000100 := by rw [qsize hx]; exact Nat.le_trans (len_ok HR.out (must_fits T _ _)) (by decide)
        obtain ⟨s8, hs⟩ : ∃ s8, (mustQ T [41] s7).2 = s8 := ⟨_, rfl⟩
        have HX8 := Lib.hid hx; have HE8 := Lib.hid hs; have HP8 : Hid (PAt w8 b q c T D s8) := Lib.hid (hs ▸ h2); have HG8 := Lib.hid (HG7.out.trans f2)
        clear hx h2 f2 hs
        go_wp2_with fail
        all_goals (try (exfalso; (simp at *; omega)))
        refine (HSY.out _ _ HP8.out).mono ?_
        rintro e w9 ⟨⟨x9, rfl, hx⟩, h2, f2⟩
        have hxs9 : x9.size ≤ 10000100 := by rw [qsize hx]; exact Nat.le_trans (len_ok HR.out (HTY.out _)) (by decide)
        obtain ⟨s9, hs⟩ : ∃ s9, ((typedQ T ex) s8).2 = s9 := ⟨_, rfl⟩
        have HX9 := Lib.hid hx; have HE9 := Lib.hid hs; have HP9 : Hid (PAt w9 b q c T D s9) := Lib.hid (hs ▸ h2); have HG9 := Lib.hid (HG8.out.trans f2)
        clear hx h2 f2 hs
        go_wp2_with fail
        all_goals (try (exfalso; (simp at *; omega)))
        refine (HMU.out [61] _ _ HP9.out).mono ?_
        rintro e w10 ⟨⟨x10, rfl, hx⟩, h2, f2⟩
        have hxs10 : x10.size ≤ 10000100 := by rw [qsize hx]; exact Nat.le_trans (len_ok HR.out (must_fits T _ _)) (by decide)
        obtain ⟨s10, hs⟩ : ∃ s10, (mustQ T [61] s9).2 = s10 := ⟨_, rfl⟩
        have HX10 := Lib.hid hx; have HE10 := Lib.hid hs; have HP10 : Hid (PAt w10 b q c T D s10) := Lib.hid (hs ▸ h2); have HG10 := Lib.hid (HG9.out.trans f2)
        clear hx h2 f2 hs
        go_wp2_with fail
        all_goals (try (exfalso; (simp at *; omega)))
        refine (HSX.out _ _ HP10.out).mono ?_
        rintro e w11 ⟨⟨x11, rfl, hx⟩, h2, f2⟩
        have hxs11 : x11.size ≤ 10000100 := by rw [qsize hx]; exact Nat.le_trans (len_ok HR.out (HTX.out _)) (by decide)
        obtain ⟨s11, hs⟩ : ∃ s11, ((ex) s10).2 = s11 := ⟨_, rfl⟩
        have HX11 := Lib.hid hx; have HE11 := Lib.hid hs; have HP11 : Hid (PAt w11 b q c T D s11) := Lib.hid (hs ▸ h2); have HG11 := Lib.hid (HG10.out.trans f2)
        clear hx h2 f2 hs
        go_wp2_with fail
        all_goals (try (exfalso; (simp at *; omega)))
        refine (HMU.out [59] _ _ HP11.out).mono ?_
        rintro e w12 ⟨⟨x12, rfl, hx⟩, h2, f2⟩
        have hxs12 : x12.size ≤ 10000100 := by rw [qsize hx]; exact Nat.le_trans (len_ok HR.out (must_fits T _ _)) (by decide)
        obtain ⟨s12, hs⟩ : ∃ s12, (mustQ T [59] s11).2 = s12 := ⟨_, rfl⟩
        have HX12 := Lib.hid hx; have HE12 := Lib.hid hs; have HP12 : Hid (PAt w12 b q c T D s12) := Lib.hid (hs ▸ h2); have HG12 := Lib.hid (HG11.out.trans f2)
        clear hx h2 f2 hs
        go_wp2_with fail
        all_goals (try (exfalso; (simp at *; omega)))
        go_ret
        have hM : ((defQ T ex) s0).2 = s12 := by simp [defQ, defA, defB, defC, defD, HV1.out, HX2.out, HE2.out, HX3.out, HE3.out, HX4.out, HE4.out, HV5.out, HV6.out, HX7.out, HE7.out, HX8.out, HE8.out, HX9.out, HE9.out, HX10.out, HE10.out, HX11.out, HE11.out, HX12.out, HE12.out]
        exact ⟨⟨_, rfl, by simp [defQ, defA, defB, defC, defD, qapp, HV1.out, HX2.out, HE2.out, HX3.out, HE3.out, HX4.out, HE4.out, HV5.out, HV6.out, HX7.out, HE7.out, HX8.out, HE8.out, HX9.out, HE9.out, HX10.out, HE10.out, HX11.out, HE11.out, HX12.out, HE12.out]⟩, by rw [hM]; exact HP12.out, HG12.out⟩
      · skip
        go_wp2_with fail
        all_goals (try (exfalso; (simp at *; omega)))
        refine (HMU.out [41] _ _ HP6.out).mono ?_
        rintro e w13 ⟨⟨x13, rfl, hx⟩, h2, f2⟩
        have hxs13 : x13.size ≤ 10000100 := by rw [qsize hx]; exact Nat.le_trans (len_ok HR.out (must_fits T _ _)) (by decide)
        obtain ⟨s13, hs⟩ : ∃ s13, (mustQ T [41] s4).2 = s13 := ⟨_, rfl⟩
        have HX13 := Lib.hid hx; have HE13 := Lib.hid hs; have HP13 : Hid (PAt w13 b q c T D s13) := Lib.hid (hs ▸ h2); have HG13 := Lib.hid (HG6.out.trans f2)
        clear hx h2 f2 hs
        go_wp2_with fail
        all_goals (try (exfalso; (simp at *; omega)))
        refine (HSY.out _ _ HP13.out).mono ?_
        rintro e w14 ⟨⟨x14, rfl, hx⟩, h2, f2⟩
        have hxs14 : x14.size ≤ 10000100 := by rw [qsize hx]; exact Nat.le_trans (len_ok HR.out (HTY.out _)) (by decide)
        obtain ⟨s14, hs⟩ : ∃ s14, ((typedQ T ex) s13).2 = s14 := ⟨_, rfl⟩
        have HX14 := Lib.hid hx; have HE14 := Lib.hid hs; have HP14 : Hid (PAt w14 b q c T D s14) := Lib.hid (hs ▸ h2); have HG14 := Lib.hid (HG13.out.trans f2)
        clear hx h2 f2 hs
        go_wp2_with fail
        all_goals (try (exfalso; (simp at *; omega)))
        refine (HMU.out [61] _ _ HP14.out).mono ?_
        rintro e w15 ⟨⟨x15, rfl, hx⟩, h2, f2⟩
        have hxs15 : x15.size ≤ 10000100 := by rw [qsize hx]; exact Nat.le_trans (len_ok HR.out (must_fits T _ _)) (by decide)
        obtain ⟨s15, hs⟩ : ∃ s15, (mustQ T [61] s14).2 = s15 := ⟨_, rfl⟩
        have HX15 := Lib.hid hx; have HE15 := Lib.hid hs; have HP15 : Hid (PAt w15 b q c T D s15) := Lib.hid (hs ▸ h2); have HG15 := Lib.hid (HG14.out.trans f2)
        clear hx h2 f2 hs
        go_wp2_with fail
        all_goals (try (exfalso; (simp at *; omega)))
        refine (HSX.out _ _ HP15.out).mono ?_
        rintro e w16 ⟨⟨x16, rfl, hx⟩, h2, f2⟩
        have hxs16 : x16.size ≤ 10000100 := by rw [qsize hx]; exact Nat.le_trans (len_ok HR.out (HTX.out _)) (by decide)
        obtain ⟨s16, hs⟩ : ∃ s16, ((ex) s15).2 = s16 := ⟨_, rfl⟩
        have HX16 := Lib.hid hx; have HE16 := Lib.hid hs; have HP16 : Hid (PAt w16 b q c T D s16) := Lib.hid (hs ▸ h2); have HG16 := Lib.hid (HG15.out.trans f2)
        clear hx h2 f2 hs
        go_wp2_with fail
        all_goals (try (exfalso; (simp at *; omega)))
        refine (HMU.out [59] _ _ HP16.out).mono ?_
        rintro e w17 ⟨⟨x17, rfl, hx⟩, h2, f2⟩
        have hxs17 : x17.size ≤ 10000100 := by rw [qsize hx]; exact Nat.le_trans (len_ok HR.out (must_fits T _ _)) (by decide)
        obtain ⟨s17, hs⟩ : ∃ s17, (mustQ T [59] s16).2 = s17 := ⟨_, rfl⟩
        have HX17 := Lib.hid hx; have HE17 := Lib.hid hs; have HP17 : Hid (PAt w17 b q c T D s17) := Lib.hid (hs ▸ h2); have HG17 := Lib.hid (HG16.out.trans f2)
        clear hx h2 f2 hs
        go_wp2_with fail
        all_goals (try (exfalso; (simp at *; omega)))
        go_ret
        have hM : ((defQ T ex) s0).2 = s17 := by simp [defQ, defA, defB, defC, defD, HV1.out, HX2.out, HE2.out, HX3.out, HE3.out, HX4.out, HE4.out, HV5.out, HV6.out, HX13.out, HE13.out, HX14.out, HE14.out, HX15.out, HE15.out, HX16.out, HE16.out, HX17.out, HE17.out]
        exact ⟨⟨_, rfl, by simp [defQ, defA, defB, defC, defD, qapp, HV1.out, HX2.out, HE2.out, HX3.out, HE3.out, HX4.out, HE4.out, HV5.out, HV6.out, HX13.out, HE13.out, HX14.out, HE14.out, HX15.out, HE15.out, HX16.out, HE16.out, HX17.out, HE17.out]⟩, by rw [hM]; exact HP17.out, HG17.out⟩
    · have e2 : (E == 0) = false := beq_eq_false_iff_ne.2 he
      have e2' : ((E : Int) == 0) = false := beq_eq_false_iff_ne.2 (by omega)
      have e3 : (E != 0) = true := bne_iff_ne.2 he
      have e3' : ((E : Int) != 0) = true := bne_iff_ne.2 (by omega)
      have HV5 := Lib.hid (show ¬ s4.e = 0 from fun e => he (HV5.out.symm.trans e))
      clear he
      go_wp2_with fail
      all_goals (try (exfalso; (simp at *; omega)))
      refine (HMU.out [41] _ _ HP4.out).mono ?_
      rintro e w18 ⟨⟨x18, rfl, hx⟩, h2, f2⟩
      have hxs18 : x18.size ≤ 10000100 := by rw [qsize hx]; exact Nat.le_trans (len_ok HR.out (must_fits T _ _)) (by decide)
      obtain ⟨s18, hs⟩ : ∃ s18, (mustQ T [41] s4).2 = s18 := ⟨_, rfl⟩
      have HX18 := Lib.hid hx; have HE18 := Lib.hid hs; have HP18 : Hid (PAt w18 b q c T D s18) := Lib.hid (hs ▸ h2); have HG18 := Lib.hid (HG4.out.trans f2)
      clear hx h2 f2 hs
      go_wp2_with fail
      all_goals (try (exfalso; (simp at *; omega)))
      refine (HSY.out _ _ HP18.out).mono ?_
      rintro e w19 ⟨⟨x19, rfl, hx⟩, h2, f2⟩
      have hxs19 : x19.size ≤ 10000100 := by rw [qsize hx]; exact Nat.le_trans (len_ok HR.out (HTY.out _)) (by decide)
      obtain ⟨s19, hs⟩ : ∃ s19, ((typedQ T ex) s18).2 = s19 := ⟨_, rfl⟩
      have HX19 := Lib.hid hx; have HE19 := Lib.hid hs; have HP19 : Hid (PAt w19 b q c T D s19) := Lib.hid (hs ▸ h2); have HG19 := Lib.hid (HG18.out.trans f2)
      clear hx h2 f2 hs
      go_wp2_with fail
      all_goals (try (exfalso; (simp at *; omega)))
      refine (HMU.out [61] _ _ HP19.out).mono ?_
      rintro e w20 ⟨⟨x20, rfl, hx⟩, h2, f2⟩
      have hxs20 : x20.size ≤ 10000100 := by rw [qsize hx]; exact Nat.le_trans (len_ok HR.out (must_fits T _ _)) (by decide)
      obtain ⟨s20, hs⟩ : ∃ s20, (mustQ T [61] s19).2 = s20 := ⟨_, rfl⟩
      have HX20 := Lib.hid hx; have HE20 := Lib.hid hs; have HP20 : Hid (PAt w20 b q c T D s20) := Lib.hid (hs ▸ h2); have HG20 := Lib.hid (HG19.out.trans f2)
      clear hx h2 f2 hs
      go_wp2_with fail
      all_goals (try (exfalso; (simp at *; omega)))
      refine (HSX.out _ _ HP20.out).mono ?_
      rintro e w21 ⟨⟨x21, rfl, hx⟩, h2, f2⟩
      have hxs21 : x21.size ≤ 10000100 := by rw [qsize hx]; exact Nat.le_trans (len_ok HR.out (HTX.out _)) (by decide)
      obtain ⟨s21, hs⟩ : ∃ s21, ((ex) s20).2 = s21 := ⟨_, rfl⟩
      have HX21 := Lib.hid hx; have HE21 := Lib.hid hs; have HP21 : Hid (PAt w21 b q c T D s21) := Lib.hid (hs ▸ h2); have HG21 := Lib.hid (HG20.out.trans f2)
      clear hx h2 f2 hs
      go_wp2_with fail
      all_goals (try (exfalso; (simp at *; omega)))
      refine (HMU.out [59] _ _ HP21.out).mono ?_
      rintro e w22 ⟨⟨x22, rfl, hx⟩, h2, f2⟩
      have hxs22 : x22.size ≤ 10000100 := by rw [qsize hx]; exact Nat.le_trans (len_ok HR.out (must_fits T _ _)) (by decide)
      obtain ⟨s22, hs⟩ : ∃ s22, (mustQ T [59] s21).2 = s22 := ⟨_, rfl⟩
      have HX22 := Lib.hid hx; have HE22 := Lib.hid hs; have HP22 : Hid (PAt w22 b q c T D s22) := Lib.hid (hs ▸ h2); have HG22 := Lib.hid (HG21.out.trans f2)
      clear hx h2 f2 hs
      go_wp2_with fail
      all_goals (try (exfalso; (simp at *; omega)))
      go_ret
      have hM : ((defQ T ex) s0).2 = s22 := by simp [defQ, defA, defB, defC, defD, HV1.out, HX2.out, HE2.out, HX3.out, HE3.out, HX4.out, HE4.out, HV5.out, HX18.out, HE18.out, HX19.out, HE19.out, HX20.out, HE20.out, HX21.out, HE21.out, HX22.out, HE22.out]
      exact ⟨⟨_, rfl, by simp [defQ, defA, defB, defC, defD, qapp, HV1.out, HX2.out, HE2.out, HX3.out, HE3.out, HX4.out, HE4.out, HV5.out, HX18.out, HE18.out, HX19.out, HE19.out, HX20.out, HE20.out, HX21.out, HE21.out, HX22.out, HE22.out]⟩, by rw [hM]; exact HP22.out, HG22.out⟩
  · skip
    go_wp2_with fail
    all_goals (try (exfalso; (simp at *; omega)))
    have HPo23 : Hid (s0.i < T.length) := Lib.hid HP1.out.ok
    refine (HL.out _ _ HP1.out).mono ?_
    rintro e w23 ⟨⟨x23, rfl, hx⟩, h2, f2⟩
    have hxs23 : x23.size ≤ 10000100 := by rw [qsize hx]; exact Nat.le_trans (leaf_lenA HR.out HPo23.out) (by decide)
    obtain ⟨s23, hs⟩ : ∃ s23, (leafQ T s0).2 = s23 := ⟨_, rfl⟩
    have HX23 := Lib.hid hx; have HE23 := Lib.hid hs; have HP23 : Hid (PAt w23 b q c T D s23) := Lib.hid (hs ▸ h2); have HG23 := Lib.hid (HG1.out.trans f2)
    clear hx h2 f2 hs
    go_wp2_with fail
    all_goals (try (exfalso; (simp at *; omega)))
    refine (HMU.out [102, 117, 110] _ _ HP23.out).mono ?_
    rintro e w24 ⟨⟨x24, rfl, hx⟩, h2, f2⟩
    have hxs24 : x24.size ≤ 10000100 := by rw [qsize hx]; exact Nat.le_trans (len_ok HR.out (must_fits T _ _)) (by decide)
    obtain ⟨s24, hs⟩ : ∃ s24, (mustQ T [102, 117, 110] s23).2 = s24 := ⟨_, rfl⟩
    have HX24 := Lib.hid hx; have HE24 := Lib.hid hs; have HP24 : Hid (PAt w24 b q c T D s24) := Lib.hid (hs ▸ h2); have HG24 := Lib.hid (HG23.out.trans f2)
    clear hx h2 f2 hs
    go_wp2_with fail
    all_goals (try (exfalso; (simp at *; omega)))
    refine (HKI.out 1 _ _ HP24.out).mono ?_
    rintro e w25 ⟨⟨x25, rfl, hx⟩, h2, f2⟩
    have hxs25 : x25.size ≤ 10000100 := by rw [qsize hx]; exact Nat.le_trans (len_ok HR.out (kind_fits (by decide) _)) (by decide)
    obtain ⟨s25, hs⟩ : ∃ s25, (kindQ T 1 s24).2 = s25 := ⟨_, rfl⟩
    have HX25 := Lib.hid hx; have HE25 := Lib.hid hs; have HP25 : Hid (PAt w25 b q c T D s25) := Lib.hid (hs ▸ h2); have HG25 := Lib.hid (HG24.out.trans f2)
    clear hx h2 f2 hs
    go_wp2_with fail
    all_goals (try (exfalso; (simp at *; omega)))
    refine (HMU.out [40] _ _ HP25.out).mono ?_
    rintro e w26 ⟨⟨x26, rfl, hx⟩, h2, f2⟩
    have hxs26 : x26.size ≤ 10000100 := by rw [qsize hx]; exact Nat.le_trans (len_ok HR.out (must_fits T _ _)) (by decide)
    obtain ⟨s26, hs⟩ : ∃ s26, (mustQ T [40] s25).2 = s26 := ⟨_, rfl⟩
    have HX26 := Lib.hid hx; have HE26 := Lib.hid hs; have HP26 : Hid (PAt w26 b q c T D s26) := Lib.hid (hs ▸ h2); have HG26 := Lib.hid (HG25.out.trans f2)
    clear hx h2 f2 hs
    obtain ⟨d0, d1, d2, d3, d4, d5, d6⟩ := cells6 HP26.out.box
    obtain ⟨E, hEE⟩ : ∃ E, s26.e = E := ⟨_, rfl⟩
    have HV27 := Lib.hid hEE
    rw [hEE] at d4; clear hEE d0 d1 d2 d3 d5 d6
    by_cases he : E = 0
    · subst he
      go_wp2_with fail
      all_goals (try (exfalso; (simp at *; omega)))
      refine (HI.out [41] _ _ HP26.out).mono ?_
      rintro e w28 ⟨rfl, h2, f2⟩
      have HP28 : Hid (PAt w28 b q c T D s26) := Lib.hid h2; have HG28 := Lib.hid (HG26.out.trans f2)
      obtain ⟨b28, hb⟩ : ∃ b28, isQ T [41] s26 = b28 := ⟨_, rfl⟩
      rw [hb]
      have HV28 := Lib.hid hb
      clear h2 f2 hb
      cases b28
      · skip
        go_wp2_with fail
        all_goals (try (exfalso; (simp at *; omega)))
        refine (HSZ.out _ _ HP28.out).mono ?_
        rintro e w29 ⟨⟨x29, rfl, hx⟩, h2, f2⟩
        have hxs29 : x29.size ≤ 10000100 := by rw [qsize hx]; exact Nat.le_trans (len4_ok HR.out (HTZ.out _)) (by decide)
        obtain ⟨s29, hs⟩ : ∃ s29, ((paramsQ T ex) s26).2 = s29 := ⟨_, rfl⟩
        have HX29 := Lib.hid hx; have HE29 := Lib.hid hs; have HP29 : Hid (PAt w29 b q c T D s29) := Lib.hid (hs ▸ h2); have HG29 := Lib.hid (HG28.out.trans f2)
        clear hx h2 f2 hs
        go_wp2_with fail
        all_goals (try (exfalso; (simp at *; omega)))
        refine (HMU.out [41] _ _ HP29.out).mono ?_
        rintro e w30 ⟨⟨x30, rfl, hx⟩, h2, f2⟩
        have hxs30 : x30.size ≤ 10000100 := by rw [qsize hx]; exact Nat.le_trans (len_ok HR.out (must_fits T _ _)) (by decide)
        obtain ⟨s30, hs⟩ : ∃ s30, (mustQ T [41] s29).2 = s30 := ⟨_, rfl⟩
        have HX30 := Lib.hid hx; have HE30 := Lib.hid hs; have HP30 : Hid (PAt w30 b q c T D s30) := Lib.hid (hs ▸ h2); have HG30 := Lib.hid (HG29.out.trans f2)
        clear hx h2 f2 hs
        go_wp2_with fail
        all_goals (try (exfalso; (simp at *; omega)))
        refine (HSY.out _ _ HP30.out).mono ?_
        rintro e w31 ⟨⟨x31, rfl, hx⟩, h2, f2⟩
        have hxs31 : x31.size ≤ 10000100 := by rw [qsize hx]; exact Nat.le_trans (len_ok HR.out (HTY.out _)) (by decide)
        obtain ⟨s31, hs⟩ : ∃ s31, ((typedQ T ex) s30).2 = s31 := ⟨_, rfl⟩
        have HX31 := Lib.hid hx; have HE31 := Lib.hid hs; have HP31 : Hid (PAt w31 b q c T D s31) := Lib.hid (hs ▸ h2); have HG31 := Lib.hid (HG30.out.trans f2)
        clear hx h2 f2 hs
        go_wp2_with fail
        all_goals (try (exfalso; (simp at *; omega)))
        refine (HMU.out [61] _ _ HP31.out).mono ?_
        rintro e w32 ⟨⟨x32, rfl, hx⟩, h2, f2⟩
        have hxs32 : x32.size ≤ 10000100 := by rw [qsize hx]; exact Nat.le_trans (len_ok HR.out (must_fits T _ _)) (by decide)
        obtain ⟨s32, hs⟩ : ∃ s32, (mustQ T [61] s31).2 = s32 := ⟨_, rfl⟩
        have HX32 := Lib.hid hx; have HE32 := Lib.hid hs; have HP32 : Hid (PAt w32 b q c T D s32) := Lib.hid (hs ▸ h2); have HG32 := Lib.hid (HG31.out.trans f2)
        clear hx h2 f2 hs
        go_wp2_with fail
        all_goals (try (exfalso; (simp at *; omega)))
        refine (HSX.out _ _ HP32.out).mono ?_
        rintro e w33 ⟨⟨x33, rfl, hx⟩, h2, f2⟩
        have hxs33 : x33.size ≤ 10000100 := by rw [qsize hx]; exact Nat.le_trans (len_ok HR.out (HTX.out _)) (by decide)
        obtain ⟨s33, hs⟩ : ∃ s33, ((ex) s32).2 = s33 := ⟨_, rfl⟩
        have HX33 := Lib.hid hx; have HE33 := Lib.hid hs; have HP33 : Hid (PAt w33 b q c T D s33) := Lib.hid (hs ▸ h2); have HG33 := Lib.hid (HG32.out.trans f2)
        clear hx h2 f2 hs
        go_wp2_with fail
        all_goals (try (exfalso; (simp at *; omega)))
        refine (HMU.out [59] _ _ HP33.out).mono ?_
        rintro e w34 ⟨⟨x34, rfl, hx⟩, h2, f2⟩
        have hxs34 : x34.size ≤ 10000100 := by rw [qsize hx]; exact Nat.le_trans (len_ok HR.out (must_fits T _ _)) (by decide)
        obtain ⟨s34, hs⟩ : ∃ s34, (mustQ T [59] s33).2 = s34 := ⟨_, rfl⟩
        have HX34 := Lib.hid hx; have HE34 := Lib.hid hs; have HP34 : Hid (PAt w34 b q c T D s34) := Lib.hid (hs ▸ h2); have HG34 := Lib.hid (HG33.out.trans f2)
        clear hx h2 f2 hs
        go_wp2_with fail
        all_goals (try (exfalso; (simp at *; omega)))
        go_ret
        have hM : ((defQ T ex) s0).2 = s34 := by simp [defQ, defA, defB, defC, defD, HV1.out, HX23.out, HE23.out, HX24.out, HE24.out, HX25.out, HE25.out, HX26.out, HE26.out, HV27.out, HV28.out, HX29.out, HE29.out, HX30.out, HE30.out, HX31.out, HE31.out, HX32.out, HE32.out, HX33.out, HE33.out, HX34.out, HE34.out]
        exact ⟨⟨_, rfl, by simp [defQ, defA, defB, defC, defD, qapp, HV1.out, HX23.out, HE23.out, HX24.out, HE24.out, HX25.out, HE25.out, HX26.out, HE26.out, HV27.out, HV28.out, HX29.out, HE29.out, HX30.out, HE30.out, HX31.out, HE31.out, HX32.out, HE32.out, HX33.out, HE33.out, HX34.out, HE34.out]⟩, by rw [hM]; exact HP34.out, HG34.out⟩
      · skip
        go_wp2_with fail
        all_goals (try (exfalso; (simp at *; omega)))
        refine (HMU.out [41] _ _ HP28.out).mono ?_
        rintro e w35 ⟨⟨x35, rfl, hx⟩, h2, f2⟩
        have hxs35 : x35.size ≤ 10000100 := by rw [qsize hx]; exact Nat.le_trans (len_ok HR.out (must_fits T _ _)) (by decide)
        obtain ⟨s35, hs⟩ : ∃ s35, (mustQ T [41] s26).2 = s35 := ⟨_, rfl⟩
        have HX35 := Lib.hid hx; have HE35 := Lib.hid hs; have HP35 : Hid (PAt w35 b q c T D s35) := Lib.hid (hs ▸ h2); have HG35 := Lib.hid (HG28.out.trans f2)
        clear hx h2 f2 hs
        go_wp2_with fail
        all_goals (try (exfalso; (simp at *; omega)))
        refine (HSY.out _ _ HP35.out).mono ?_
        rintro e w36 ⟨⟨x36, rfl, hx⟩, h2, f2⟩
        have hxs36 : x36.size ≤ 10000100 := by rw [qsize hx]; exact Nat.le_trans (len_ok HR.out (HTY.out _)) (by decide)
        obtain ⟨s36, hs⟩ : ∃ s36, ((typedQ T ex) s35).2 = s36 := ⟨_, rfl⟩
        have HX36 := Lib.hid hx; have HE36 := Lib.hid hs; have HP36 : Hid (PAt w36 b q c T D s36) := Lib.hid (hs ▸ h2); have HG36 := Lib.hid (HG35.out.trans f2)
        clear hx h2 f2 hs
        go_wp2_with fail
        all_goals (try (exfalso; (simp at *; omega)))
        refine (HMU.out [61] _ _ HP36.out).mono ?_
        rintro e w37 ⟨⟨x37, rfl, hx⟩, h2, f2⟩
        have hxs37 : x37.size ≤ 10000100 := by rw [qsize hx]; exact Nat.le_trans (len_ok HR.out (must_fits T _ _)) (by decide)
        obtain ⟨s37, hs⟩ : ∃ s37, (mustQ T [61] s36).2 = s37 := ⟨_, rfl⟩
        have HX37 := Lib.hid hx; have HE37 := Lib.hid hs; have HP37 : Hid (PAt w37 b q c T D s37) := Lib.hid (hs ▸ h2); have HG37 := Lib.hid (HG36.out.trans f2)
        clear hx h2 f2 hs
        go_wp2_with fail
        all_goals (try (exfalso; (simp at *; omega)))
        refine (HSX.out _ _ HP37.out).mono ?_
        rintro e w38 ⟨⟨x38, rfl, hx⟩, h2, f2⟩
        have hxs38 : x38.size ≤ 10000100 := by rw [qsize hx]; exact Nat.le_trans (len_ok HR.out (HTX.out _)) (by decide)
        obtain ⟨s38, hs⟩ : ∃ s38, ((ex) s37).2 = s38 := ⟨_, rfl⟩
        have HX38 := Lib.hid hx; have HE38 := Lib.hid hs; have HP38 : Hid (PAt w38 b q c T D s38) := Lib.hid (hs ▸ h2); have HG38 := Lib.hid (HG37.out.trans f2)
        clear hx h2 f2 hs
        go_wp2_with fail
        all_goals (try (exfalso; (simp at *; omega)))
        refine (HMU.out [59] _ _ HP38.out).mono ?_
        rintro e w39 ⟨⟨x39, rfl, hx⟩, h2, f2⟩
        have hxs39 : x39.size ≤ 10000100 := by rw [qsize hx]; exact Nat.le_trans (len_ok HR.out (must_fits T _ _)) (by decide)
        obtain ⟨s39, hs⟩ : ∃ s39, (mustQ T [59] s38).2 = s39 := ⟨_, rfl⟩
        have HX39 := Lib.hid hx; have HE39 := Lib.hid hs; have HP39 : Hid (PAt w39 b q c T D s39) := Lib.hid (hs ▸ h2); have HG39 := Lib.hid (HG38.out.trans f2)
        clear hx h2 f2 hs
        go_wp2_with fail
        all_goals (try (exfalso; (simp at *; omega)))
        go_ret
        have hM : ((defQ T ex) s0).2 = s39 := by simp [defQ, defA, defB, defC, defD, HV1.out, HX23.out, HE23.out, HX24.out, HE24.out, HX25.out, HE25.out, HX26.out, HE26.out, HV27.out, HV28.out, HX35.out, HE35.out, HX36.out, HE36.out, HX37.out, HE37.out, HX38.out, HE38.out, HX39.out, HE39.out]
        exact ⟨⟨_, rfl, by simp [defQ, defA, defB, defC, defD, qapp, HV1.out, HX23.out, HE23.out, HX24.out, HE24.out, HX25.out, HE25.out, HX26.out, HE26.out, HV27.out, HV28.out, HX35.out, HE35.out, HX36.out, HE36.out, HX37.out, HE37.out, HX38.out, HE38.out, HX39.out, HE39.out]⟩, by rw [hM]; exact HP39.out, HG39.out⟩
    · have e2 : (E == 0) = false := beq_eq_false_iff_ne.2 he
      have e2' : ((E : Int) == 0) = false := beq_eq_false_iff_ne.2 (by omega)
      have e3 : (E != 0) = true := bne_iff_ne.2 he
      have e3' : ((E : Int) != 0) = true := bne_iff_ne.2 (by omega)
      have HV27 := Lib.hid (show ¬ s26.e = 0 from fun e => he (HV27.out.symm.trans e))
      clear he
      go_wp2_with fail
      all_goals (try (exfalso; (simp at *; omega)))
      refine (HMU.out [41] _ _ HP26.out).mono ?_
      rintro e w40 ⟨⟨x40, rfl, hx⟩, h2, f2⟩
      have hxs40 : x40.size ≤ 10000100 := by rw [qsize hx]; exact Nat.le_trans (len_ok HR.out (must_fits T _ _)) (by decide)
      obtain ⟨s40, hs⟩ : ∃ s40, (mustQ T [41] s26).2 = s40 := ⟨_, rfl⟩
      have HX40 := Lib.hid hx; have HE40 := Lib.hid hs; have HP40 : Hid (PAt w40 b q c T D s40) := Lib.hid (hs ▸ h2); have HG40 := Lib.hid (HG26.out.trans f2)
      clear hx h2 f2 hs
      go_wp2_with fail
      all_goals (try (exfalso; (simp at *; omega)))
      refine (HSY.out _ _ HP40.out).mono ?_
      rintro e w41 ⟨⟨x41, rfl, hx⟩, h2, f2⟩
      have hxs41 : x41.size ≤ 10000100 := by rw [qsize hx]; exact Nat.le_trans (len_ok HR.out (HTY.out _)) (by decide)
      obtain ⟨s41, hs⟩ : ∃ s41, ((typedQ T ex) s40).2 = s41 := ⟨_, rfl⟩
      have HX41 := Lib.hid hx; have HE41 := Lib.hid hs; have HP41 : Hid (PAt w41 b q c T D s41) := Lib.hid (hs ▸ h2); have HG41 := Lib.hid (HG40.out.trans f2)
      clear hx h2 f2 hs
      go_wp2_with fail
      all_goals (try (exfalso; (simp at *; omega)))
      refine (HMU.out [61] _ _ HP41.out).mono ?_
      rintro e w42 ⟨⟨x42, rfl, hx⟩, h2, f2⟩
      have hxs42 : x42.size ≤ 10000100 := by rw [qsize hx]; exact Nat.le_trans (len_ok HR.out (must_fits T _ _)) (by decide)
      obtain ⟨s42, hs⟩ : ∃ s42, (mustQ T [61] s41).2 = s42 := ⟨_, rfl⟩
      have HX42 := Lib.hid hx; have HE42 := Lib.hid hs; have HP42 : Hid (PAt w42 b q c T D s42) := Lib.hid (hs ▸ h2); have HG42 := Lib.hid (HG41.out.trans f2)
      clear hx h2 f2 hs
      go_wp2_with fail
      all_goals (try (exfalso; (simp at *; omega)))
      refine (HSX.out _ _ HP42.out).mono ?_
      rintro e w43 ⟨⟨x43, rfl, hx⟩, h2, f2⟩
      have hxs43 : x43.size ≤ 10000100 := by rw [qsize hx]; exact Nat.le_trans (len_ok HR.out (HTX.out _)) (by decide)
      obtain ⟨s43, hs⟩ : ∃ s43, ((ex) s42).2 = s43 := ⟨_, rfl⟩
      have HX43 := Lib.hid hx; have HE43 := Lib.hid hs; have HP43 : Hid (PAt w43 b q c T D s43) := Lib.hid (hs ▸ h2); have HG43 := Lib.hid (HG42.out.trans f2)
      clear hx h2 f2 hs
      go_wp2_with fail
      all_goals (try (exfalso; (simp at *; omega)))
      refine (HMU.out [59] _ _ HP43.out).mono ?_
      rintro e w44 ⟨⟨x44, rfl, hx⟩, h2, f2⟩
      have hxs44 : x44.size ≤ 10000100 := by rw [qsize hx]; exact Nat.le_trans (len_ok HR.out (must_fits T _ _)) (by decide)
      obtain ⟨s44, hs⟩ : ∃ s44, (mustQ T [59] s43).2 = s44 := ⟨_, rfl⟩
      have HX44 := Lib.hid hx; have HE44 := Lib.hid hs; have HP44 : Hid (PAt w44 b q c T D s44) := Lib.hid (hs ▸ h2); have HG44 := Lib.hid (HG43.out.trans f2)
      clear hx h2 f2 hs
      go_wp2_with fail
      all_goals (try (exfalso; (simp at *; omega)))
      go_ret
      have hM : ((defQ T ex) s0).2 = s44 := by simp [defQ, defA, defB, defC, defD, HV1.out, HX23.out, HE23.out, HX24.out, HE24.out, HX25.out, HE25.out, HX26.out, HE26.out, HV27.out, HX40.out, HE40.out, HX41.out, HE41.out, HX42.out, HE42.out, HX43.out, HE43.out, HX44.out, HE44.out]
      exact ⟨⟨_, rfl, by simp [defQ, defA, defB, defC, defD, qapp, HV1.out, HX23.out, HE23.out, HX24.out, HE24.out, HX25.out, HE25.out, HX26.out, HE26.out, HV27.out, HX40.out, HE40.out, HX41.out, HE41.out, HX42.out, HE42.out, HX43.out, HE43.out, HX44.out, HE44.out]⟩, by rw [hM]; exact HP44.out, HG44.out⟩
end
end Go.Proofs.YthclkbaankjbiaaGreatDoor
