/- The reference's parser: a name. -/
import Derived.Test.YthclkbaankjbiaaGreatDoorM17
namespace Go.Proofs.YthclkbaankjbiaaGreatDoor
open Go.RowKit
section
variable (b : Nat) (q : Option Addr) (c : Nat) (T : List Tok) (D : Nat)
variable (hE : EndT T) (hR : roomQ T T.length ≤ 10000000) (n : Nat) (nx : Nx) (ex : St → RQ)
include hE hR

set_option maxRecDepth 100000 in
set_option maxHeartbeats 4000000 in
theorem name_c (n1 : Nat) (hn1 : n1 = n + 1) (hn : n ≤ 1000) (hA : SubC b q c T D 157 n (argsQ T nx)) (fA : ∀ s, Fits T s (argsQ T nx s)) (s0 : St) (w : World) (h : PAt w b q c T D s0) : Calls Tryz.prog 154 #[.pointer (some ⟨b, 0, none⟩), .int .i64 (n : Int)] w (RPost b q c T D (nameQ T nx s0) w) := by
  have HI := Lib.hid (fun x s w h => is_c b q c T D x s w h)
  have HL := Lib.hid (fun s w h => leaf_c b q c T D hE hR s w h)
  have HMU := Lib.hid (fun x s w h => must_c b q c T D hE hR x s w h)
  have HKI := Lib.hid (fun k s w h => kind_c b q c T D hE hR k s w h)
  have HFA := Lib.hid (fun e s w h => fail_c b q c T D e s w h)
  have HNE := Lib.hid (fun s w h => nest_c b q c T D n1 s w h)
  have HNE0 := Lib.hid (fun s w h => nest_c b q c T D n s w h); have HN1 := Lib.hid hn1
  have hwn : IntKind.i64.wrap ((n : Int) + 1) = (n1 : Int) := by rw [hn1]; exact IntWalk.i64_in _ (by omega)
  have HSA := Lib.hid hA; have HTA := Lib.hid fA
  have HR := Lib.hid hR; have HP0 := Lib.hid h; have HG0 : Hid (Fr2 (Self b) w w) := Lib.hid (Fr2.refl _ _)
  clear hE hR h hn hn1 hA fA
  go_enter Tryz.func154, Tryz.ntmps154
  go_wp2_with fail
  all_goals (try (exfalso; (simp at *; omega)))
  have HPo1 : Hid (s0.i < T.length) := Lib.hid HP0.out.ok
  refine (HL.out _ _ HP0.out).mono ?_
  rintro e w1 ⟨⟨x1, rfl, hx⟩, h2, f2⟩
  have hxs1 : x1.size ≤ 10000100 := by rw [qsize hx]; exact Nat.le_trans (leaf_lenA HR.out HPo1.out) (by decide)
  obtain ⟨s1, hs⟩ : ∃ s1, (leafQ T s0).2 = s1 := ⟨_, rfl⟩
  have HX1 := Lib.hid hx; have HE1 := Lib.hid hs; have HP1 : Hid (PAt w1 b q c T D s1) := Lib.hid (hs ▸ h2); have HG1 := Lib.hid (HG0.out.trans f2)
  clear hx h2 f2 hs
  obtain ⟨d0, d1, d2, d3, d4, d5, d6⟩ := cells6 HP1.out.box
  obtain ⟨I, hI⟩ : ∃ I, s1.inn = I := ⟨_, rfl⟩
  have HV2 := Lib.hid hI
  rw [hI] at d3; clear hI d0 d1 d2 d4 d5 d6
  cases I
  · skip
    go_wp2_with fail
    all_goals (try (exfalso; (simp at *; omega)))
    refine (HI.out [46] _ _ HP1.out).mono ?_
    rintro e w3 ⟨rfl, h2, f2⟩
    have HP3 : Hid (PAt w3 b q c T D s1) := Lib.hid h2; have HG3 := Lib.hid (HG1.out.trans f2)
    obtain ⟨b3, hb⟩ : ∃ b3, isQ T [46] s1 = b3 := ⟨_, rfl⟩
    rw [hb]
    have HV3 := Lib.hid hb
    clear h2 f2 hb
    cases b3
    · skip
      go_wp2_with fail
      all_goals (try (exfalso; (simp at *; omega)))
      refine (HI.out [40] _ _ HP3.out).mono ?_
      rintro e w4 ⟨rfl, h2, f2⟩
      have HP4 : Hid (PAt w4 b q c T D s1) := Lib.hid h2; have HG4 := Lib.hid (HG3.out.trans f2)
      obtain ⟨b4, hb⟩ : ∃ b4, isQ T [40] s1 = b4 := ⟨_, rfl⟩
      rw [hb]
      have HV4 := Lib.hid hb
      clear h2 f2 hb
      cases b4
      · skip
        go_wp2_with fail
        all_goals (try (exfalso; (simp at *; omega)))
        go_ret
        have hM : ((nameQ T nx) s0).2 = s1 := by simp [nameQ, nameB, nameC, nameD, nameE, HX1.out, HE1.out, HV2.out, HV3.out, HV4.out]
        exact ⟨⟨_, rfl, by simp [nameQ, nameB, nameC, nameD, nameE, qapp, HX1.out, HE1.out, HV2.out, HV3.out, HV4.out]⟩, by rw [hM]; exact HP4.out, HG4.out⟩
      · skip
        go_wp2_with fail
        all_goals (try (exfalso; (simp at *; omega)))
        refine (HI.out [46] _ _ HP4.out).mono ?_
        rintro e w5 ⟨rfl, h2, f2⟩
        have HP5 : Hid (PAt w5 b q c T D s1) := Lib.hid h2; have HG5 := Lib.hid (HG4.out.trans f2)
        clear h2 f2
        rw [HV3.out]
        go_wp2_with fail
        all_goals (try (exfalso; (simp at *; omega)))
        refine (HMU.out [40] _ _ HP5.out).mono ?_
        rintro e w6 ⟨⟨x6, rfl, hx⟩, h2, f2⟩
        have hxs6 : x6.size ≤ 10000100 := by rw [qsize hx]; exact Nat.le_trans (len_ok HR.out (must_fits T _ _)) (by decide)
        obtain ⟨s6, hs⟩ : ∃ s6, (mustQ T [40] s1).2 = s6 := ⟨_, rfl⟩
        have HX6 := Lib.hid hx; have HE6 := Lib.hid hs; have HP6 : Hid (PAt w6 b q c T D s6) := Lib.hid (hs ▸ h2); have HG6 := Lib.hid (HG5.out.trans f2)
        clear hx h2 f2 hs
        go_wp2_with fail
        all_goals (try (exfalso; (simp at *; omega)))
        refine (HI.out [41] _ _ HP6.out).mono ?_
        rintro e w7 ⟨rfl, h2, f2⟩
        have HP7 : Hid (PAt w7 b q c T D s6) := Lib.hid h2; have HG7 := Lib.hid (HG6.out.trans f2)
        obtain ⟨b7, hb⟩ : ∃ b7, isQ T [41] s6 = b7 := ⟨_, rfl⟩
        rw [hb]
        have HV7 := Lib.hid hb
        clear h2 f2 hb
        cases b7
        · skip
          go_wp2_with fail
          all_goals (try (exfalso; (simp at *; omega)))
          refine (HSA.out _ _ HP7.out).mono ?_
          rintro e w8 ⟨⟨x8, rfl, hx⟩, h2, f2⟩
          have hxs8 : x8.size ≤ 10000100 := by rw [qsize hx]; exact Nat.le_trans (len_ok HR.out (HTA.out _)) (by decide)
          obtain ⟨s8, hs⟩ : ∃ s8, ((argsQ T nx) s6).2 = s8 := ⟨_, rfl⟩
          have HX8 := Lib.hid hx; have HE8 := Lib.hid hs; have HP8 : Hid (PAt w8 b q c T D s8) := Lib.hid (hs ▸ h2); have HG8 := Lib.hid (HG7.out.trans f2)
          clear hx h2 f2 hs
          go_wp2_with fail
          all_goals (try (exfalso; (simp at *; omega)))
          refine (HMU.out [41] _ _ HP8.out).mono ?_
          rintro e w9 ⟨⟨x9, rfl, hx⟩, h2, f2⟩
          have hxs9 : x9.size ≤ 10000100 := by rw [qsize hx]; exact Nat.le_trans (len_ok HR.out (must_fits T _ _)) (by decide)
          obtain ⟨s9, hs⟩ : ∃ s9, (mustQ T [41] s8).2 = s9 := ⟨_, rfl⟩
          have HX9 := Lib.hid hx; have HE9 := Lib.hid hs; have HP9 : Hid (PAt w9 b q c T D s9) := Lib.hid (hs ▸ h2); have HG9 := Lib.hid (HG8.out.trans f2)
          clear hx h2 f2 hs
          go_wp2_with fail
          all_goals (try (exfalso; (simp at *; omega)))
          go_ret
          have hM : ((nameQ T nx) s0).2 = s9 := by simp [nameQ, nameB, nameC, nameD, nameE, HX1.out, HE1.out, HV2.out, HV3.out, HV4.out, HX6.out, HE6.out, HV7.out, HX8.out, HE8.out, HX9.out, HE9.out]
          exact ⟨⟨_, rfl, by simp [nameQ, nameB, nameC, nameD, nameE, qapp, HX1.out, HE1.out, HV2.out, HV3.out, HV4.out, HX6.out, HE6.out, HV7.out, HX8.out, HE8.out, HX9.out, HE9.out]⟩, by rw [hM]; exact HP9.out, HG9.out⟩
        · skip
          go_wp2_with fail
          all_goals (try (exfalso; (simp at *; omega)))
          refine (HMU.out [41] _ _ HP7.out).mono ?_
          rintro e w10 ⟨⟨x10, rfl, hx⟩, h2, f2⟩
          have hxs10 : x10.size ≤ 10000100 := by rw [qsize hx]; exact Nat.le_trans (len_ok HR.out (must_fits T _ _)) (by decide)
          obtain ⟨s10, hs⟩ : ∃ s10, (mustQ T [41] s6).2 = s10 := ⟨_, rfl⟩
          have HX10 := Lib.hid hx; have HE10 := Lib.hid hs; have HP10 : Hid (PAt w10 b q c T D s10) := Lib.hid (hs ▸ h2); have HG10 := Lib.hid (HG7.out.trans f2)
          clear hx h2 f2 hs
          go_wp2_with fail
          all_goals (try (exfalso; (simp at *; omega)))
          go_ret
          have hM : ((nameQ T nx) s0).2 = s10 := by simp [nameQ, nameB, nameC, nameD, nameE, HX1.out, HE1.out, HV2.out, HV3.out, HV4.out, HX6.out, HE6.out, HV7.out, HX10.out, HE10.out]
          exact ⟨⟨_, rfl, by simp [nameQ, nameB, nameC, nameD, nameE, qapp, HX1.out, HE1.out, HV2.out, HV3.out, HV4.out, HX6.out, HE6.out, HV7.out, HX10.out, HE10.out]⟩, by rw [hM]; exact HP10.out, HG10.out⟩
    · skip
      go_wp2_with fail
      all_goals (try (exfalso; (simp at *; omega)))
      refine (HI.out [46] _ _ HP3.out).mono ?_
      rintro e w11 ⟨rfl, h2, f2⟩
      have HP11 : Hid (PAt w11 b q c T D s1) := Lib.hid h2; have HG11 := Lib.hid (HG3.out.trans f2)
      clear h2 f2
      rw [HV3.out]
      go_wp2_with fail
      all_goals (try (exfalso; (simp at *; omega)))
      have HPo12 : Hid (s1.i < T.length) := Lib.hid HP11.out.ok
      refine (HL.out _ _ HP11.out).mono ?_
      rintro e w12 ⟨⟨x12, rfl, hx⟩, h2, f2⟩
      have hxs12 : x12.size ≤ 10000100 := by rw [qsize hx]; exact Nat.le_trans (leaf_lenA HR.out HPo12.out) (by decide)
      obtain ⟨s12, hs⟩ : ∃ s12, (leafQ T s1).2 = s12 := ⟨_, rfl⟩
      have HX12 := Lib.hid hx; have HE12 := Lib.hid hs; have HP12 : Hid (PAt w12 b q c T D s12) := Lib.hid (hs ▸ h2); have HG12 := Lib.hid (HG11.out.trans f2)
      clear hx h2 f2 hs
      go_wp2_with fail
      all_goals (try (exfalso; (simp at *; omega)))
      refine (HKI.out 1 _ _ HP12.out).mono ?_
      rintro e w13 ⟨⟨x13, rfl, hx⟩, h2, f2⟩
      have hxs13 : x13.size ≤ 10000100 := by rw [qsize hx]; exact Nat.le_trans (len_ok HR.out (kind_fits (by decide) _)) (by decide)
      obtain ⟨s13, hs⟩ : ∃ s13, (kindQ T 1 s12).2 = s13 := ⟨_, rfl⟩
      have HX13 := Lib.hid hx; have HE13 := Lib.hid hs; have HP13 : Hid (PAt w13 b q c T D s13) := Lib.hid (hs ▸ h2); have HG13 := Lib.hid (HG12.out.trans f2)
      clear hx h2 f2 hs
      go_wp2_with fail
      all_goals (try (exfalso; (simp at *; omega)))
      refine (HMU.out [40] _ _ HP13.out).mono ?_
      rintro e w14 ⟨⟨x14, rfl, hx⟩, h2, f2⟩
      have hxs14 : x14.size ≤ 10000100 := by rw [qsize hx]; exact Nat.le_trans (len_ok HR.out (must_fits T _ _)) (by decide)
      obtain ⟨s14, hs⟩ : ∃ s14, (mustQ T [40] s13).2 = s14 := ⟨_, rfl⟩
      have HX14 := Lib.hid hx; have HE14 := Lib.hid hs; have HP14 : Hid (PAt w14 b q c T D s14) := Lib.hid (hs ▸ h2); have HG14 := Lib.hid (HG13.out.trans f2)
      clear hx h2 f2 hs
      go_wp2_with fail
      all_goals (try (exfalso; (simp at *; omega)))
      refine (HI.out [41] _ _ HP14.out).mono ?_
      rintro e w15 ⟨rfl, h2, f2⟩
      have HP15 : Hid (PAt w15 b q c T D s14) := Lib.hid h2; have HG15 := Lib.hid (HG14.out.trans f2)
      obtain ⟨b15, hb⟩ : ∃ b15, isQ T [41] s14 = b15 := ⟨_, rfl⟩
      rw [hb]
      have HV15 := Lib.hid hb
      clear h2 f2 hb
      cases b15
      · skip
        go_wp2_with fail
        all_goals (try (exfalso; (simp at *; omega)))
        refine (HSA.out _ _ HP15.out).mono ?_
        rintro e w16 ⟨⟨x16, rfl, hx⟩, h2, f2⟩
        have hxs16 : x16.size ≤ 10000100 := by rw [qsize hx]; exact Nat.le_trans (len_ok HR.out (HTA.out _)) (by decide)
        obtain ⟨s16, hs⟩ : ∃ s16, ((argsQ T nx) s14).2 = s16 := ⟨_, rfl⟩
        have HX16 := Lib.hid hx; have HE16 := Lib.hid hs; have HP16 : Hid (PAt w16 b q c T D s16) := Lib.hid (hs ▸ h2); have HG16 := Lib.hid (HG15.out.trans f2)
        clear hx h2 f2 hs
        go_wp2_with fail
        all_goals (try (exfalso; (simp at *; omega)))
        refine (HMU.out [41] _ _ HP16.out).mono ?_
        rintro e w17 ⟨⟨x17, rfl, hx⟩, h2, f2⟩
        have hxs17 : x17.size ≤ 10000100 := by rw [qsize hx]; exact Nat.le_trans (len_ok HR.out (must_fits T _ _)) (by decide)
        obtain ⟨s17, hs⟩ : ∃ s17, (mustQ T [41] s16).2 = s17 := ⟨_, rfl⟩
        have HX17 := Lib.hid hx; have HE17 := Lib.hid hs; have HP17 : Hid (PAt w17 b q c T D s17) := Lib.hid (hs ▸ h2); have HG17 := Lib.hid (HG16.out.trans f2)
        clear hx h2 f2 hs
        go_wp2_with fail
        all_goals (try (exfalso; (simp at *; omega)))
        go_ret
        have hM : ((nameQ T nx) s0).2 = s17 := by simp [nameQ, nameB, nameC, nameD, nameE, HX1.out, HE1.out, HV2.out, HV3.out, HX12.out, HE12.out, HX13.out, HE13.out, HX14.out, HE14.out, HV15.out, HX16.out, HE16.out, HX17.out, HE17.out]
        exact ⟨⟨_, rfl, by simp [nameQ, nameB, nameC, nameD, nameE, qapp, HX1.out, HE1.out, HV2.out, HV3.out, HX12.out, HE12.out, HX13.out, HE13.out, HX14.out, HE14.out, HV15.out, HX16.out, HE16.out, HX17.out, HE17.out]⟩, by rw [hM]; exact HP17.out, HG17.out⟩
      · skip
        go_wp2_with fail
        all_goals (try (exfalso; (simp at *; omega)))
        refine (HMU.out [41] _ _ HP15.out).mono ?_
        rintro e w18 ⟨⟨x18, rfl, hx⟩, h2, f2⟩
        have hxs18 : x18.size ≤ 10000100 := by rw [qsize hx]; exact Nat.le_trans (len_ok HR.out (must_fits T _ _)) (by decide)
        obtain ⟨s18, hs⟩ : ∃ s18, (mustQ T [41] s14).2 = s18 := ⟨_, rfl⟩
        have HX18 := Lib.hid hx; have HE18 := Lib.hid hs; have HP18 : Hid (PAt w18 b q c T D s18) := Lib.hid (hs ▸ h2); have HG18 := Lib.hid (HG15.out.trans f2)
        clear hx h2 f2 hs
        go_wp2_with fail
        all_goals (try (exfalso; (simp at *; omega)))
        go_ret
        have hM : ((nameQ T nx) s0).2 = s18 := by simp [nameQ, nameB, nameC, nameD, nameE, HX1.out, HE1.out, HV2.out, HV3.out, HX12.out, HE12.out, HX13.out, HE13.out, HX14.out, HE14.out, HV15.out, HX18.out, HE18.out]
        exact ⟨⟨_, rfl, by simp [nameQ, nameB, nameC, nameD, nameE, qapp, HX1.out, HE1.out, HV2.out, HV3.out, HX12.out, HE12.out, HX13.out, HE13.out, HX14.out, HE14.out, HV15.out, HX18.out, HE18.out]⟩, by rw [hM]; exact HP18.out, HG18.out⟩
  · skip
    go_wp2_with fail
    all_goals (try (exfalso; (simp at *; omega)))
    go_ret
    have hM : ((nameQ T nx) s0).2 = s1 := by simp [nameQ, nameB, nameC, nameD, nameE, HX1.out, HE1.out, HV2.out]
    exact ⟨⟨_, rfl, by simp [nameQ, nameB, nameC, nameD, nameE, qapp, HX1.out, HE1.out, HV2.out]⟩, by rw [hM]; exact HP1.out, HG1.out⟩
end
end Go.Proofs.YthclkbaankjbiaaGreatDoor
