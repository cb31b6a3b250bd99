/- The reference's parser: an expression. -/
import Derived.Test.YthclkbaankjbiaaGreatDoorM17
namespace Go.Proofs.YthclkbaankjbiaaGreatDoor
open Go.RowKit
section
variable (b : Nat) (q : Option Addr) (c : Nat) (T : List Tok) (D : Nat)
variable (hE : EndT T) (hR : roomQ T T.length ≤ 10000000) (n : Nat) (nx : Nx) (ex : St → RQ)
include hE hR

set_option maxRecDepth 100000 in
set_option maxHeartbeats 4000000 in
theorem expr_c (n1 : Nat) (hn1 : n1 = n + 1) (hn : n ≤ 1000) (hA : SubC b q c T D 82 n (formulaQ T D n nx)) (fA : ∀ s, Fits T s (formulaQ T D n nx s)) (hX : SubC b q c T D 44 n1 (nx.expr)) (fX : ∀ s, Fits T s (nx.expr s)) (s0 : St) (w : World) (h : PAt w b q c T D s0) : Calls Tryz.prog 44 #[.pointer (some ⟨b, 0, none⟩), .int .i64 (n : Int)] w (RPost b q c T D (exprQ T D n nx s0) w) := by
  have HI := Lib.hid (fun x s w h => is_c b q c T D x s w h)
  have HL := Lib.hid (fun s w h => leaf_c b q c T D hE hR s w h)
  have HMU := Lib.hid (fun x s w h => must_c b q c T D hE hR x s w h)
  have HKI := Lib.hid (fun k s w h => kind_c b q c T D hE hR k s w h)
  have HFA := Lib.hid (fun e s w h => fail_c b q c T D e s w h)
  have HNE := Lib.hid (fun s w h => nest_c b q c T D n1 s w h)
  have HNE0 := Lib.hid (fun s w h => nest_c b q c T D n s w h); have HN1 := Lib.hid hn1
  have hwn : IntKind.i64.wrap ((n : Int) + 1) = (n1 : Int) := by rw [hn1]; exact IntWalk.i64_in _ (by omega)
  have HSA := Lib.hid hA; have HTA := Lib.hid fA
  have HSX := Lib.hid hX; have HTX := Lib.hid fX
  have HR := Lib.hid hR; have HP0 := Lib.hid h; have HG0 : Hid (Fr2 (Self b) w w) := Lib.hid (Fr2.refl _ _)
  clear hE hR h hn hn1 hA fA hX fX
  go_enter Tryz.func44, Tryz.ntmps44
  go_wp2_with fail
  all_goals (try (exfalso; (simp at *; omega)))
  refine (HNE0.out _ _ HP0.out).mono ?_
  rintro e w1 ⟨rfl, h2, f2⟩
  obtain ⟨s1, hs⟩ : ∃ s1, nestQ T D n s0 = s1 := ⟨_, rfl⟩
  have HE1 := Lib.hid hs; have HP1 : Hid (PAt w1 b q c T D s1) := Lib.hid (hs ▸ h2); have HG1 := Lib.hid (HG0.out.trans f2)
  clear h2 f2 hs
  obtain ⟨d0, d1, d2, d3, d4, d5, d6⟩ := cells6 HP1.out.box
  obtain ⟨E, hEE⟩ : ∃ E, s1.e = E := ⟨_, rfl⟩
  have HV2 := Lib.hid hEE
  rw [hEE] at d4; clear hEE d0 d1 d2 d3 d5 d6
  by_cases he : E = 0
  · subst he
    obtain ⟨d0, d1, d2, d3, d4, d5, d6⟩ := cells6 HP1.out.box
    obtain ⟨I, hI⟩ : ∃ I, s1.inn = I := ⟨_, rfl⟩
    have HV3 := Lib.hid hI
    rw [hI] at d3; clear hI d0 d1 d2 d4 d5 d6
    cases I
    · skip
      go_wp2_with fail
      all_goals (try (exfalso; (simp at *; omega)))
      refine (HI.out [108, 101, 116] _ _ HP1.out).mono ?_
      rintro e w4 ⟨rfl, h2, f2⟩
      have HP4 : Hid (PAt w4 b q c T D s1) := Lib.hid h2; have HG4 := Lib.hid (HG1.out.trans f2)
      obtain ⟨b4, hb⟩ : ∃ b4, isQ T [108, 101, 116] s1 = b4 := ⟨_, rfl⟩
      rw [hb]
      have HV4 := Lib.hid hb
      clear h2 f2 hb
      cases b4
      · skip
        obtain ⟨d0, d1, d2, d3, d4, d5, d6⟩ := cells6 HP4.out.box
        rw [HV3.out] at d3; clear d0 d1 d2 d4 d5 d6
        go_wp2_with fail
        all_goals (try (exfalso; (simp at *; omega)))
        refine (HI.out [105, 102] _ _ HP4.out).mono ?_
        rintro e w5 ⟨rfl, h2, f2⟩
        have HP5 : Hid (PAt w5 b q c T D s1) := Lib.hid h2; have HG5 := Lib.hid (HG4.out.trans f2)
        obtain ⟨b5, hb⟩ : ∃ b5, isQ T [105, 102] s1 = b5 := ⟨_, rfl⟩
        rw [hb]
        have HV5 := Lib.hid hb
        clear h2 f2 hb
        cases b5
        · skip
          obtain ⟨d0, d1, d2, d3, d4, d5, d6⟩ := cells6 HP5.out.box
          rw [HV3.out] at d3; clear d0 d1 d2 d4 d5 d6
          go_wp2_with fail
          all_goals (try (exfalso; (simp at *; omega)))
          refine (HI.out [97, 115, 115, 101, 114, 116] _ _ HP5.out).mono ?_
          rintro e w6 ⟨rfl, h2, f2⟩
          have HP6 : Hid (PAt w6 b q c T D s1) := Lib.hid h2; have HG6 := Lib.hid (HG5.out.trans f2)
          obtain ⟨b6, hb⟩ : ∃ b6, isQ T [97, 115, 115, 101, 114, 116] s1 = b6 := ⟨_, rfl⟩
          rw [hb]
          have HV6 := Lib.hid hb
          clear h2 f2 hb
          cases b6
          · skip
            go_wp2_with fail
            all_goals (try (exfalso; (simp at *; omega)))
            refine (HSA.out _ _ HP6.out).mono ?_
            rintro e w7 ⟨⟨x7, rfl, hx⟩, h2, f2⟩
            have hxs7 : x7.size ≤ 10000100 := by rw [qsize hx]; exact Nat.le_trans (len_ok HR.out (HTA.out _)) (by decide)
            obtain ⟨s7, hs⟩ : ∃ s7, ((formulaQ T D n nx) s1).2 = s7 := ⟨_, rfl⟩
            have HX7 := Lib.hid hx; have HE7 := Lib.hid hs; have HP7 : Hid (PAt w7 b q c T D s7) := Lib.hid (hs ▸ h2); have HG7 := Lib.hid (HG6.out.trans f2)
            clear hx h2 f2 hs
            go_wp2_with fail
            all_goals (try (exfalso; (simp at *; omega)))
            go_ret
            have hM : ((exprQ T D n nx) s0).2 = s7 := by simp [exprQ, letQ, ifQ, assertQ, HE1.out, HV2.out, HV3.out, HV4.out, HV5.out, HV6.out, HX7.out, HE7.out]
            exact ⟨⟨_, rfl, by simp [exprQ, letQ, ifQ, assertQ, qapp, HE1.out, HV2.out, HV3.out, HV4.out, HV5.out, HV6.out, HX7.out, HE7.out]⟩, by rw [hM]; exact HP7.out, HG7.out⟩
          · skip
            go_wp2_with fail
            all_goals (try (exfalso; (simp at *; omega)))
            have HPo8 : Hid (s1.i < T.length) := Lib.hid HP6.out.ok
            refine (HL.out _ _ HP6.out).mono ?_
            rintro e w8 ⟨⟨x8, rfl, hx⟩, h2, f2⟩
            have hxs8 : x8.size ≤ 10000100 := by rw [qsize hx]; exact Nat.le_trans (leaf_lenA HR.out HPo8.out) (by decide)
            obtain ⟨s8, hs⟩ : ∃ s8, (leafQ T s1).2 = s8 := ⟨_, rfl⟩
            have HX8 := Lib.hid hx; have HE8 := Lib.hid hs; have HP8 : Hid (PAt w8 b q c T D s8) := Lib.hid (hs ▸ h2); have HG8 := Lib.hid (HG6.out.trans f2)
            clear hx h2 f2 hs
            go_wp2_with fail
            all_goals (try (exfalso; (simp at *; omega)))
            refine (HSX.out _ _ HP8.out).mono ?_
            rintro e w9 ⟨⟨x9, rfl, hx⟩, h2, f2⟩
            have hxs9 : x9.size ≤ 10000100 := by rw [qsize hx]; exact Nat.le_trans (len_ok HR.out (HTX.out _)) (by decide)
            obtain ⟨s9, hs⟩ : ∃ s9, ((nx.expr) s8).2 = s9 := ⟨_, rfl⟩
            have HX9 := Lib.hid hx; have HE9 := Lib.hid hs; have HP9 : Hid (PAt w9 b q c T D s9) := Lib.hid (hs ▸ h2); have HG9 := Lib.hid (HG8.out.trans f2)
            clear hx h2 f2 hs
            go_wp2_with fail
            all_goals (try (exfalso; (simp at *; omega)))
            refine (HMU.out [105, 110] _ _ HP9.out).mono ?_
            rintro e w10 ⟨⟨x10, rfl, hx⟩, h2, f2⟩
            have hxs10 : x10.size ≤ 10000100 := by rw [qsize hx]; exact Nat.le_trans (len_ok HR.out (must_fits T _ _)) (by decide)
            obtain ⟨s10, hs⟩ : ∃ s10, (mustQ T [105, 110] s9).2 = s10 := ⟨_, rfl⟩
            have HX10 := Lib.hid hx; have HE10 := Lib.hid hs; have HP10 : Hid (PAt w10 b q c T D s10) := Lib.hid (hs ▸ h2); have HG10 := Lib.hid (HG9.out.trans f2)
            clear hx h2 f2 hs
            go_wp2_with fail
            all_goals (try (exfalso; (simp at *; omega)))
            refine (HSX.out _ _ HP10.out).mono ?_
            rintro e w11 ⟨⟨x11, rfl, hx⟩, h2, f2⟩
            have hxs11 : x11.size ≤ 10000100 := by rw [qsize hx]; exact Nat.le_trans (len_ok HR.out (HTX.out _)) (by decide)
            obtain ⟨s11, hs⟩ : ∃ s11, ((nx.expr) s10).2 = s11 := ⟨_, rfl⟩
            have HX11 := Lib.hid hx; have HE11 := Lib.hid hs; have HP11 : Hid (PAt w11 b q c T D s11) := Lib.hid (hs ▸ h2); have HG11 := Lib.hid (HG10.out.trans f2)
            clear hx h2 f2 hs
            go_wp2_with fail
            all_goals (try (exfalso; (simp at *; omega)))
            go_ret
            have hM : ((exprQ T D n nx) s0).2 = s11 := by simp [exprQ, letQ, ifQ, assertQ, HE1.out, HV2.out, HV3.out, HV4.out, HV5.out, HV6.out, HX8.out, HE8.out, HX9.out, HE9.out, HX10.out, HE10.out, HX11.out, HE11.out]
            exact ⟨⟨_, rfl, by simp [exprQ, letQ, ifQ, assertQ, qapp, HE1.out, HV2.out, HV3.out, HV4.out, HV5.out, HV6.out, HX8.out, HE8.out, HX9.out, HE9.out, HX10.out, HE10.out, HX11.out, HE11.out]⟩, by rw [hM]; exact HP11.out, HG11.out⟩
        · skip
          go_wp2_with fail
          all_goals (try (exfalso; (simp at *; omega)))
          have HPo12 : Hid (s1.i < T.length) := Lib.hid HP5.out.ok
          refine (HL.out _ _ HP5.out).mono ?_
          rintro e w12 ⟨⟨x12, rfl, hx⟩, h2, f2⟩
          have hxs12 : x12.size ≤ 10000100 := by rw [qsize hx]; exact Nat.le_trans (leaf_lenA HR.out HPo12.out) (by decide)
          obtain ⟨s12, hs⟩ : ∃ s12, (leafQ T s1).2 = s12 := ⟨_, rfl⟩
          have HX12 := Lib.hid hx; have HE12 := Lib.hid hs; have HP12 : Hid (PAt w12 b q c T D s12) := Lib.hid (hs ▸ h2); have HG12 := Lib.hid (HG5.out.trans f2)
          clear hx h2 f2 hs
          go_wp2_with fail
          all_goals (try (exfalso; (simp at *; omega)))
          refine (HSX.out _ _ HP12.out).mono ?_
          rintro e w13 ⟨⟨x13, rfl, hx⟩, h2, f2⟩
          have hxs13 : x13.size ≤ 10000100 := by rw [qsize hx]; exact Nat.le_trans (len_ok HR.out (HTX.out _)) (by decide)
          obtain ⟨s13, hs⟩ : ∃ s13, ((nx.expr) s12).2 = s13 := ⟨_, rfl⟩
          have HX13 := Lib.hid hx; have HE13 := Lib.hid hs; have HP13 : Hid (PAt w13 b q c T D s13) := Lib.hid (hs ▸ h2); have HG13 := Lib.hid (HG12.out.trans f2)
          clear hx h2 f2 hs
          go_wp2_with fail
          all_goals (try (exfalso; (simp at *; omega)))
          refine (HMU.out [116, 104, 101, 110] _ _ HP13.out).mono ?_
          rintro e w14 ⟨⟨x14, rfl, hx⟩, h2, f2⟩
          have hxs14 : x14.size ≤ 10000100 := by rw [qsize hx]; exact Nat.le_trans (len_ok HR.out (must_fits T _ _)) (by decide)
          obtain ⟨s14, hs⟩ : ∃ s14, (mustQ T [116, 104, 101, 110] s13).2 = s14 := ⟨_, rfl⟩
          have HX14 := Lib.hid hx; have HE14 := Lib.hid hs; have HP14 : Hid (PAt w14 b q c T D s14) := Lib.hid (hs ▸ h2); have HG14 := Lib.hid (HG13.out.trans f2)
          clear hx h2 f2 hs
          go_wp2_with fail
          all_goals (try (exfalso; (simp at *; omega)))
          refine (HSX.out _ _ HP14.out).mono ?_
          rintro e w15 ⟨⟨x15, rfl, hx⟩, h2, f2⟩
          have hxs15 : x15.size ≤ 10000100 := by rw [qsize hx]; exact Nat.le_trans (len_ok HR.out (HTX.out _)) (by decide)
          obtain ⟨s15, hs⟩ : ∃ s15, ((nx.expr) s14).2 = s15 := ⟨_, rfl⟩
          have HX15 := Lib.hid hx; have HE15 := Lib.hid hs; have HP15 : Hid (PAt w15 b q c T D s15) := Lib.hid (hs ▸ h2); have HG15 := Lib.hid (HG14.out.trans f2)
          clear hx h2 f2 hs
          go_wp2_with fail
          all_goals (try (exfalso; (simp at *; omega)))
          refine (HMU.out [101, 108, 115, 101] _ _ HP15.out).mono ?_
          rintro e w16 ⟨⟨x16, rfl, hx⟩, h2, f2⟩
          have hxs16 : x16.size ≤ 10000100 := by rw [qsize hx]; exact Nat.le_trans (len_ok HR.out (must_fits T _ _)) (by decide)
          obtain ⟨s16, hs⟩ : ∃ s16, (mustQ T [101, 108, 115, 101] s15).2 = s16 := ⟨_, rfl⟩
          have HX16 := Lib.hid hx; have HE16 := Lib.hid hs; have HP16 : Hid (PAt w16 b q c T D s16) := Lib.hid (hs ▸ h2); have HG16 := Lib.hid (HG15.out.trans f2)
          clear hx h2 f2 hs
          go_wp2_with fail
          all_goals (try (exfalso; (simp at *; omega)))
          refine (HSX.out _ _ HP16.out).mono ?_
          rintro e w17 ⟨⟨x17, rfl, hx⟩, h2, f2⟩
          have hxs17 : x17.size ≤ 10000100 := by rw [qsize hx]; exact Nat.le_trans (len_ok HR.out (HTX.out _)) (by decide)
          obtain ⟨s17, hs⟩ : ∃ s17, ((nx.expr) s16).2 = s17 := ⟨_, rfl⟩
          have HX17 := Lib.hid hx; have HE17 := Lib.hid hs; have HP17 : Hid (PAt w17 b q c T D s17) := Lib.hid (hs ▸ h2); have HG17 := Lib.hid (HG16.out.trans f2)
          clear hx h2 f2 hs
          go_wp2_with fail
          all_goals (try (exfalso; (simp at *; omega)))
          go_ret
          have hM : ((exprQ T D n nx) s0).2 = s17 := by simp [exprQ, letQ, ifQ, assertQ, HE1.out, HV2.out, HV3.out, HV4.out, HV5.out, HX12.out, HE12.out, HX13.out, HE13.out, HX14.out, HE14.out, HX15.out, HE15.out, HX16.out, HE16.out, HX17.out, HE17.out]
          exact ⟨⟨_, rfl, by simp [exprQ, letQ, ifQ, assertQ, qapp, HE1.out, HV2.out, HV3.out, HV4.out, HV5.out, HX12.out, HE12.out, HX13.out, HE13.out, HX14.out, HE14.out, HX15.out, HE15.out, HX16.out, HE16.out, HX17.out, HE17.out]⟩, by rw [hM]; exact HP17.out, HG17.out⟩
      · skip
        go_wp2_with fail
        all_goals (try (exfalso; (simp at *; omega)))
        have HPo18 : Hid (s1.i < T.length) := Lib.hid HP4.out.ok
        refine (HL.out _ _ HP4.out).mono ?_
        rintro e w18 ⟨⟨x18, rfl, hx⟩, h2, f2⟩
        have hxs18 : x18.size ≤ 10000100 := by rw [qsize hx]; exact Nat.le_trans (leaf_lenA HR.out HPo18.out) (by decide)
        obtain ⟨s18, hs⟩ : ∃ s18, (leafQ T s1).2 = s18 := ⟨_, rfl⟩
        have HX18 := Lib.hid hx; have HE18 := Lib.hid hs; have HP18 : Hid (PAt w18 b q c T D s18) := Lib.hid (hs ▸ h2); have HG18 := Lib.hid (HG4.out.trans f2)
        clear hx h2 f2 hs
        go_wp2_with fail
        all_goals (try (exfalso; (simp at *; omega)))
        refine (HKI.out 1 _ _ HP18.out).mono ?_
        rintro e w19 ⟨⟨x19, rfl, hx⟩, h2, f2⟩
        have hxs19 : x19.size ≤ 10000100 := by rw [qsize hx]; exact Nat.le_trans (len_ok HR.out (kind_fits (by decide) _)) (by decide)
        obtain ⟨s19, hs⟩ : ∃ s19, (kindQ T 1 s18).2 = s19 := ⟨_, rfl⟩
        have HX19 := Lib.hid hx; have HE19 := Lib.hid hs; have HP19 : Hid (PAt w19 b q c T D s19) := Lib.hid (hs ▸ h2); have HG19 := Lib.hid (HG18.out.trans f2)
        clear hx h2 f2 hs
        go_wp2_with fail
        all_goals (try (exfalso; (simp at *; omega)))
        refine (HMU.out [61] _ _ HP19.out).mono ?_
        rintro e w20 ⟨⟨x20, rfl, hx⟩, h2, f2⟩
        have hxs20 : x20.size ≤ 10000100 := by rw [qsize hx]; exact Nat.le_trans (len_ok HR.out (must_fits T _ _)) (by decide)
        obtain ⟨s20, hs⟩ : ∃ s20, (mustQ T [61] s19).2 = s20 := ⟨_, rfl⟩
        have HX20 := Lib.hid hx; have HE20 := Lib.hid hs; have HP20 : Hid (PAt w20 b q c T D s20) := Lib.hid (hs ▸ h2); have HG20 := Lib.hid (HG19.out.trans f2)
        clear hx h2 f2 hs
        go_wp2_with fail
        all_goals (try (exfalso; (simp at *; omega)))
        refine (HSX.out _ _ HP20.out).mono ?_
        rintro e w21 ⟨⟨x21, rfl, hx⟩, h2, f2⟩
        have hxs21 : x21.size ≤ 10000100 := by rw [qsize hx]; exact Nat.le_trans (len_ok HR.out (HTX.out _)) (by decide)
        obtain ⟨s21, hs⟩ : ∃ s21, ((nx.expr) s20).2 = s21 := ⟨_, rfl⟩
        have HX21 := Lib.hid hx; have HE21 := Lib.hid hs; have HP21 : Hid (PAt w21 b q c T D s21) := Lib.hid (hs ▸ h2); have HG21 := Lib.hid (HG20.out.trans f2)
        clear hx h2 f2 hs
        go_wp2_with fail
        all_goals (try (exfalso; (simp at *; omega)))
        refine (HMU.out [105, 110] _ _ HP21.out).mono ?_
        rintro e w22 ⟨⟨x22, rfl, hx⟩, h2, f2⟩
        have hxs22 : x22.size ≤ 10000100 := by rw [qsize hx]; exact Nat.le_trans (len_ok HR.out (must_fits T _ _)) (by decide)
        obtain ⟨s22, hs⟩ : ∃ s22, (mustQ T [105, 110] s21).2 = s22 := ⟨_, rfl⟩
        have HX22 := Lib.hid hx; have HE22 := Lib.hid hs; have HP22 : Hid (PAt w22 b q c T D s22) := Lib.hid (hs ▸ h2); have HG22 := Lib.hid (HG21.out.trans f2)
        clear hx h2 f2 hs
        go_wp2_with fail
        all_goals (try (exfalso; (simp at *; omega)))
        refine (HSX.out _ _ HP22.out).mono ?_
        rintro e w23 ⟨⟨x23, rfl, hx⟩, h2, f2⟩
        have hxs23 : x23.size ≤ 10000100 := by rw [qsize hx]; exact Nat.le_trans (len_ok HR.out (HTX.out _)) (by decide)
        obtain ⟨s23, hs⟩ : ∃ s23, ((nx.expr) s22).2 = s23 := ⟨_, rfl⟩
        have HX23 := Lib.hid hx; have HE23 := Lib.hid hs; have HP23 : Hid (PAt w23 b q c T D s23) := Lib.hid (hs ▸ h2); have HG23 := Lib.hid (HG22.out.trans f2)
        clear hx h2 f2 hs
        go_wp2_with fail
        all_goals (try (exfalso; (simp at *; omega)))
        go_ret
        have hM : ((exprQ T D n nx) s0).2 = s23 := by simp [exprQ, letQ, ifQ, assertQ, HE1.out, HV2.out, HV3.out, HV4.out, HX18.out, HE18.out, HX19.out, HE19.out, HX20.out, HE20.out, HX21.out, HE21.out, HX22.out, HE22.out, HX23.out, HE23.out]
        exact ⟨⟨_, rfl, by simp [exprQ, letQ, ifQ, assertQ, qapp, HE1.out, HV2.out, HV3.out, HV4.out, HX18.out, HE18.out, HX19.out, HE19.out, HX20.out, HE20.out, HX21.out, HE21.out, HX22.out, HE22.out, HX23.out, HE23.out]⟩, by rw [hM]; exact HP23.out, HG23.out⟩
    · skip
      go_wp2_with fail
      all_goals (try (exfalso; (simp at *; omega)))
      refine (HSA.out _ _ HP1.out).mono ?_
      rintro e w24 ⟨⟨x24, rfl, hx⟩, h2, f2⟩
      have hxs24 : x24.size ≤ 10000100 := by rw [qsize hx]; exact Nat.le_trans (len_ok HR.out (HTA.out _)) (by decide)
      obtain ⟨s24, hs⟩ : ∃ s24, ((formulaQ T D n nx) s1).2 = s24 := ⟨_, rfl⟩
      have HX24 := Lib.hid hx; have HE24 := Lib.hid hs; have HP24 : Hid (PAt w24 b q c T D s24) := Lib.hid (hs ▸ h2); have HG24 := Lib.hid (HG1.out.trans f2)
      clear hx h2 f2 hs
      go_wp2_with fail
      all_goals (try (exfalso; (simp at *; omega)))
      go_ret
      have hM : ((exprQ T D n nx) s0).2 = s24 := by simp [exprQ, letQ, ifQ, assertQ, HE1.out, HV2.out, HV3.out, HX24.out, HE24.out]
      exact ⟨⟨_, rfl, by simp [exprQ, letQ, ifQ, assertQ, qapp, HE1.out, HV2.out, HV3.out, HX24.out, HE24.out]⟩, by rw [hM]; exact HP24.out, HG24.out⟩
  · have e2 : (E == 0) = false := beq_eq_false_iff_ne.2 he
    have e2' : ((E : Int) == 0) = false := beq_eq_false_iff_ne.2 (by omega)
    have e3 : (E != 0) = true := bne_iff_ne.2 he
    have e3' : ((E : Int) != 0) = true := bne_iff_ne.2 (by omega)
    have HV2 := Lib.hid (show ¬ s1.e = 0 from fun e => he (HV2.out.symm.trans e))
    clear he
    go_wp2_with fail
    all_goals (try (exfalso; (simp at *; omega)))
    go_ret
    have hM : ((exprQ T D n nx) s0).2 = s1 := by simp [exprQ, letQ, ifQ, assertQ, HE1.out, HV2.out]
    exact ⟨⟨_, rfl, by simp [exprQ, letQ, ifQ, assertQ, qapp, HE1.out, HV2.out]⟩, by rw [hM]; exact HP1.out, HG1.out⟩
end
end Go.Proofs.YthclkbaankjbiaaGreatDoor
namespace Go.Proofs.YthclkbaankjbiaaGreatDoor
open Go.RowKit
section
variable (b : Nat) (q : Option Addr) (c : Nat) (T : List Tok) (D : Nat)
variable (hE : EndT T) (hR : roomQ T T.length ≤ 10000000) (n : Nat) (nx : Nx) (ex : St → RQ)
include hE hR

set_option maxRecDepth 100000 in
set_option maxHeartbeats 4000000 in
theorem expr0_c (hD : D < n) (n1 : Nat) (hn1 : n1 = n + 1) (hn : n ≤ 1000) (s0 : St) (w : World) (h : PAt w b q c T D s0) : Calls Tryz.prog 44 #[.pointer (some ⟨b, 0, none⟩), .int .i64 (n : Int)] w (RPost b q c T D ((fun s => (([] : List UInt8), nestQ T D n s)) s0) w) := by
  have HI := Lib.hid (fun x s w h => is_c b q c T D x s w h)
  have HL := Lib.hid (fun s w h => leaf_c b q c T D hE hR s w h)
  have HMU := Lib.hid (fun x s w h => must_c b q c T D hE hR x s w h)
  have HKI := Lib.hid (fun k s w h => kind_c b q c T D hE hR k s w h)
  have HFA := Lib.hid (fun e s w h => fail_c b q c T D e s w h)
  have HNE := Lib.hid (fun s w h => nest_c b q c T D n1 s w h)
  have HNE0 := Lib.hid (fun s w h => nest_c b q c T D n s w h); have HN1 := Lib.hid hn1
  have hwn : IntKind.i64.wrap ((n : Int) + 1) = (n1 : Int) := by rw [hn1]; exact IntWalk.i64_in _ (by omega)
  have HR := Lib.hid hR; have HP0 := Lib.hid h; have HG0 : Hid (Fr2 (Self b) w w) := Lib.hid (Fr2.refl _ _)
  have HDN := Lib.hid hD; clear hD
  clear hE hR h hn hn1 
  go_enter Tryz.func44, Tryz.ntmps44
  go_wp2_with fail
  all_goals (try (exfalso; (simp at *; omega)))
  refine (HNE0.out _ _ HP0.out).mono ?_
  rintro e w1 ⟨rfl, h2, f2⟩
  obtain ⟨s1, hs⟩ : ∃ s1, nestQ T D n s0 = s1 := ⟨_, rfl⟩
  have HE1 := Lib.hid hs; have HP1 : Hid (PAt w1 b q c T D s1) := Lib.hid (hs ▸ h2); have HG1 := Lib.hid (HG0.out.trans f2)
  clear h2 f2 hs
  obtain ⟨d0, d1, d2, d3, d4, d5, d6⟩ := cells6 HP1.out.box
  obtain ⟨E, hEE⟩ : ∃ E, s1.e = E := ⟨_, rfl⟩
  have HV2 := Lib.hid hEE
  rw [hEE] at d4; clear hEE d0 d1 d2 d3 d5 d6
  by_cases he : E = 0
  · subst he
    exact absurd (nest_ok (T := T) (D := D) (m := n) (s := s0) (by rw [HE1.out]; exact HV2.out)) (Nat.not_le.2 HDN.out)
  · have e2 : (E == 0) = false := beq_eq_false_iff_ne.2 he
    have e2' : ((E : Int) == 0) = false := beq_eq_false_iff_ne.2 (by omega)
    have e3 : (E != 0) = true := bne_iff_ne.2 he
    have e3' : ((E : Int) != 0) = true := bne_iff_ne.2 (by omega)
    have HV2 := Lib.hid (show ¬ s1.e = 0 from fun e => he (HV2.out.symm.trans e))
    clear he
    go_wp2_with fail
    all_goals (try (exfalso; (simp at *; omega)))
    go_ret
    have hM : (((fun s => (([] : List UInt8), nestQ T D n s))) s0).2 = s1 := by simp [HE1.out, HV2.out]
    exact ⟨⟨_, rfl, by simp [qapp, HE1.out, HV2.out]⟩, by rw [hM]; exact HP1.out, HG1.out⟩
end
end Go.Proofs.YthclkbaankjbiaaGreatDoor
namespace Go.Proofs.YthclkbaankjbiaaGreatDoor
open Go.RowKit

def Fits4 (T : List Tok) (s : St) (r : RQ) : Prop := r.1.length + roomQ T s.i ≤ roomQ T r.2.i + 4
theorem Fits.four {T : List Tok} {s : St} {r : RQ} (h : Fits T s r) : Fits4 T s r := by unfold Fits at h; unfold Fits4; omega
theorem fits4_mono {T : List Tok} {s : St} {r : RQ} (h : Fits4 T s r) (hs : s.i ≤ T.length) : s.i ≤ r.2.i := by
  rcases Nat.lt_or_ge r.2.i s.i with hl | hl
  · exfalso
    have h1 : r.2.i < T.length := by omega
    have h2 := room_next T (i := r.2.i) (t := T[r.2.i]) (List.getElem?_eq_getElem h1)
    have h3 := room_mono T (i := r.2.i + 1) (j := s.i) hl
    unfold Fits4 at h
    omega
  · exact hl
theorem len4_ok {T : List Tok} (hR : roomQ T T.length ≤ 10000000) {s : St} {r : RQ} (h : Fits4 T s r) : r.1.length ≤ 10000100 := by
  have := room_end T r.2.i
  unfold Fits4 at h
  omega
def afterQ (T : List Tok) (k : Nat) (s : St) : St := if k = 8 then failQ T 15 (leafQ T s).2 else (leafQ T s).2
theorem after_i (T : List Tok) (k : Nat) (s : St) : (afterQ T k s).i = (leafQ T s).2.i := by unfold afterQ; split; exact fail_i _ _ _; rfl
def partStep (T : List Tok) (sub : St → RQ) (k : Nat) (r : RQ) : RQ := (r.1 ++ (leafQ T r.2).1 ++ (sub (afterQ T k r.2)).1, (sub (afterQ T k r.2)).2)
theorem parts_stop {T : List Tok} {sub : St → RQ} {r : RQ} {k : Nat} (hc : isQ T [44] r.2 = false) : ∀ f, partsQ T sub f k r = r
  | 0 => rfl
  | f + 1 => by unfold partsQ; rw [hc]; rfl

/-- The loop's invariant. -/
structure PartsR (T : List Tok) (sub : St → RQ) (s0 : St) (R : RQ) (k : Nat) (r : RQ) : Prop where
  left : ∃ f, T.length - r.2.i + 1 ≤ f ∧ partsQ T sub f k r = R
  fits : Fits4 T s0 r
  cnt : k ≤ r.2.i + 1
theorem PartsR.start {T : List Tok} {sub : St → RQ} (hs : ∀ s, Fits4 T s (sub s)) (s0 : St) : PartsR T sub s0 (partsQ T sub (fuelQ T (sub s0).2) 1 (sub s0)) 1 (sub s0) :=
  ⟨⟨_, Nat.le_refl _, rfl⟩, hs s0, by omega⟩
theorem PartsR.stop {T : List Tok} {sub : St → RQ} {s0 : St} {R r : RQ} {k : Nat} (h : PartsR T sub s0 R k r) (hc : isQ T [44] r.2 = false) : R = r := by
  obtain ⟨f, -, hf⟩ := h.left; rw [← hf, parts_stop hc]
theorem PartsR.next {T : List Tok} {sub : St → RQ} {s0 : St} {R r : RQ} {k : Nat} (h : PartsR T sub s0 R k r) (hs : ∀ s, Fits4 T s (sub s)) (hc : isQ T [44] r.2 = true) (h1 : r.2.i < T.length) (h2 : (leafQ T r.2).2.i < T.length) : PartsR T sub s0 R (k + 1) (partStep T sub k r) ∧ r.2.i < (partStep T sub k r).2.i := by
  obtain ⟨f, hf, hr⟩ := h.left
  have l1 := leaf_fits (is_kind hc).1
  have l2 := hs (afterQ T k r.2)
  have l3 := fits4_mono l2 (by rw [after_i]; omega)
  rw [after_i] at l3
  have l4 : r.2.i < (partStep T sub k r).2.i := by show r.2.i < (sub (afterQ T k r.2)).2.i; omega
  have h3 := h.cnt
  refine ⟨⟨⟨f - 1, by omega, ?_⟩, ?_, by omega⟩, l4⟩
  · obtain ⟨g, rfl⟩ : ∃ g, f = g + 1 := ⟨f - 1, by omega⟩
    unfold partsQ at hr
    rw [if_pos hc] at hr
    exact hr
  · have h0 := h.fits
    unfold Fits4 at h0 l2 ⊢
    rw [after_i] at l2
    unfold partStep
    simp only [List.length_append]
    omega

section
variable (b : Nat) (q : Option Addr) (c : Nat) (T : List Tok) (D : Nat)
variable (hE : EndT T) (hR : roomQ T T.length ≤ 10000000) (n : Nat)
include hE hR

set_option maxRecDepth 100000 in
set_option maxHeartbeats 4000000 in
theorem args_c (n1 : Nat) (hn1 : n1 = n + 1) (hn : n ≤ 1000) (sub : St → RQ) (hS : SubC b q c T D 44 n1 sub) (hF : ∀ s, Fits T s (sub s)) (s0 : St) (w : World) (h : PAt w b q c T D s0) : Calls Tryz.prog 157 #[.pointer (some ⟨b, 0, none⟩), .int .i64 (n : Int)] w (RPost b q c T D (partsQ T sub (fuelQ T (sub s0).2) 1 (sub s0)) w) := by
  have HI := Lib.hid (fun x s w h => is_c b q c T D x s w h)
  have HL := Lib.hid (fun s w h => leaf_c b q c T D hE hR s w h)
  have HFA := Lib.hid (fun e s w h => fail_c b q c T D e s w h)
  have hwn : IntKind.i64.wrap ((n : Int) + 1) = (n1 : Int) := by rw [hn1]; exact IntWalk.i64_in _ (by omega)
  have HS := Lib.hid hS; have HF : Hid (∀ s, Fits4 T s (sub s)) := Lib.hid (fun s => (hF s).four); have HR := Lib.hid hR
  have HTL := Lib.hid (Nat.le_trans (len_room T) hR)
  have HB := Lib.hid h
  have HST := Lib.hid (PartsR.start HF.out s0)
  obtain ⟨R, hRR⟩ : ∃ R, partsQ T sub (fuelQ T (sub s0).2) 1 (sub s0) = R := ⟨_, rfl⟩
  rw [hRR] at HST ⊢
  clear hS hF hE hR h hRR hn hn1
  go_enter Tryz.func157, Tryz.ntmps157
  go_wp2_with fail
  refine (HS.out s0 _ HB.out).mono ?_
  rintro e w1 ⟨⟨x, rfl, hx⟩, h1, f1⟩
  have H1 := Lib.hid h1; have F1 := Lib.hid f1; have HX := Lib.hid hx
  clear h1 f1 hx HB
  go_wp2_with fail
  go_loopw [5, 6] (fun v i wr => ∃ (r : RQ) (k : Nat), (∃ y : ByteArray, v = .string y ∧ Hid (y.data.toList = r.1)) ∧ i = .int .i64 k ∧ Hid (PAt wr b q c T D r.2) ∧ Hid (Fr2 (Self b) w wr) ∧ Hid (PartsR T sub s0 R k r)) (fun _ _ wr => T.length - iOf wr b)
  case atStart => exact ⟨_, 1, ⟨_, rfl, HX⟩, rfl, H1, F1, HST⟩
  case round =>
    clear H1 F1 HX HST
    obtain ⟨r, k, ⟨y, rfl, HY⟩, rfl, HP, HFR, HRO⟩ := hrel
    have hys : y.size ≤ 10000100 := by rw [qsize HY.out]; exact len4_ok HR.out HRO.out.fits
    have hkb : k ≤ 10000001 := by have h1 := HRO.out.cnt; have h2 := HP.out.ok; have h3 := HTL.out; omega
    have hkw : IntKind.i64.wrap ((k : Int) + 1) = (k : Int) + 1 := IntWalk.i64_in _ (by omega)
    go_wp2_with fail
    refine (HI.out [44] _ _ HP.out).mono ?_
    rintro e v0 ⟨rfl, h2, f2⟩
    have HP1 := Lib.hid h2; have HG1 := Lib.hid f2
    obtain ⟨b0, hb0⟩ : ∃ b0, isQ T [44] r.2 = b0 := ⟨_, rfl⟩
    have HV0 := Lib.hid hb0
    rw [hb0]
    clear h2 f2 hb0
    cases b0
    · go_wp2_with fail
      go_ret
      rw [HRO.out.stop HV0.out]
      exact ⟨⟨_, rfl, HY.out⟩, HP1.out, HFR.out.trans HG1.out⟩
    · go_wp2_with fail
      refine (HL.out _ _ HP1.out).mono ?_
      rintro e w3 ⟨⟨l, rfl, hl⟩, h3, f3⟩
      have hls : l.size ≤ 10000000 := by rw [qsize hl]; exact leaf_lenA HR.out HP.out.ok
      have HL1 := Lib.hid hl; have H3 := Lib.hid h3; have F3 := Lib.hid (HG1.out.trans f3)
      clear hl h3 f3
      have HN := Lib.hid (HRO.out.next HF.out HV0.out HP.out.ok H3.out.ok)
      by_cases h8 : k = 8
      · subst h8
        have HA : Hid (failQ T 15 (leafQ T r.2).2 = afterQ T 8 r.2) := Lib.hid (by unfold afterQ; rw [if_pos rfl])
        go_wp2_with fail
        all_goals (try (exfalso; (simp at *; omega)))
        refine (HFA.out 15 _ _ H3.out).mono ?_
        rintro e w4 ⟨rfl, h4, f4⟩
        have H4 := Lib.hid h4; have F4 := Lib.hid (F3.out.trans f4)
        rw [HA.out] at H4
        clear h4 f4 HA
        go_wp2_with fail
        all_goals (try (exfalso; (simp at *; omega)))
        refine (HS.out _ _ H4.out).mono ?_
        rintro e w5 ⟨⟨z, rfl, hz⟩, h5, f5⟩
        have hzs : z.size ≤ 10000100 := by rw [qsize hz]; exact len4_ok HR.out (HF.out _)
        have HZ := Lib.hid hz; have H5 : Hid (PAt w5 b q c T D (partStep T sub 8 r).2) := Lib.hid h5; have F5 := Lib.hid (HFR.out.trans (F4.out.trans f5))
        have HME : Hid (T.length - iOf w5 b < T.length - iOf wr b) := Lib.hid (by rw [H5.out.iOf, HP.out.iOf]; have h5 := HN.out.2; have h6 := H5.out.ok; omega)
        clear hz h5 f5
        go_wp2_with fail
        all_goals (try (exfalso; (simp at *; omega)))
        go_roundw
        case rel => exact ⟨partStep T sub 8 r, 9, ⟨_, rfl, Lib.hid (by rw [qapp, qapp, HY.out, HL1.out, HZ.out]; simp [partStep])⟩, by go_num, H5, F5, Lib.hid HN.out.1⟩
        case measure => exact HME.out
      · have e2 : (k == 8) = false := beq_eq_false_iff_ne.2 h8
        have e2' : ((k : Int) == 8) = false := beq_eq_false_iff_ne.2 (by omega)
        have HA : Hid ((leafQ T r.2).2 = afterQ T k r.2) := Lib.hid (by unfold afterQ; rw [if_neg h8])
        rw [HA.out] at H3
        clear h8 HA
        go_wp2_with fail
        all_goals (try (exfalso; (simp at *; omega)))
        refine (HS.out _ _ H3.out).mono ?_
        rintro e w5 ⟨⟨z, rfl, hz⟩, h5, f5⟩
        have hzs : z.size ≤ 10000100 := by rw [qsize hz]; exact len4_ok HR.out (HF.out _)
        have HZ := Lib.hid hz; have H5 : Hid (PAt w5 b q c T D (partStep T sub k r).2) := Lib.hid h5; have F5 := Lib.hid (HFR.out.trans (F3.out.trans f5))
        have HME : Hid (T.length - iOf w5 b < T.length - iOf wr b) := Lib.hid (by rw [H5.out.iOf, HP.out.iOf]; have h5 := HN.out.2; have h6 := H5.out.ok; omega)
        clear hz h5 f5
        go_wp2_with fail
        all_goals (try (exfalso; (simp at *; omega)))
        go_roundw
        case rel => exact ⟨partStep T sub k r, k + 1, ⟨_, rfl, Lib.hid (by rw [qapp, qapp, HY.out, HL1.out, HZ.out]; simp [partStep])⟩, by go_num, H5, F5, Lib.hid HN.out.1⟩
        case measure => exact HME.out
end
end Go.Proofs.YthclkbaankjbiaaGreatDoor
