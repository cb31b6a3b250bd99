/- The reference's parser: a negation. -/
import Derived.Test.YthclkbaankjbiaaGreatDoorM17
namespace Go.Proofs.YthclkbaankjbiaaGreatDoor
open Go.RowKit
section
variable (b : Nat) (q : Option Addr) (c : Nat) (T : List Tok) (D : Nat)
variable (hE : EndT T) (hR : roomQ T T.length ≤ 10000000) (n : Nat) (nx : Nx) (ex : St → RQ)
include hE hR

set_option maxRecDepth 100000 in
set_option maxHeartbeats 4000000 in
theorem not_c (n1 : Nat) (hn1 : n1 = n + 1) (hn : n ≤ 1000) (hA : SubC b q c T D 140 n (sumQ T D n nx)) (fA : ∀ s, Fits T s (sumQ T D n nx s)) (hB : n1 ≤ D → SubC b q c T D 127 n1 (nx.nots)) (fB : ∀ s, Fits T s (nx.nots s)) (s0 : St) (w : World) (h : PAt w b q c T D s0) : Calls Tryz.prog 127 #[.pointer (some ⟨b, 0, none⟩), .int .i64 (n : Int)] w (RPost b q c T D (notQ T D n nx s0) w) := by
  have HI := Lib.hid (fun x s w h => is_c b q c T D x s w h)
  have HL := Lib.hid (fun s w h => leaf_c b q c T D hE hR s w h)
  have HMU := Lib.hid (fun x s w h => must_c b q c T D hE hR x s w h)
  have HKI := Lib.hid (fun k s w h => kind_c b q c T D hE hR k s w h)
  have HFA := Lib.hid (fun e s w h => fail_c b q c T D e s w h)
  have HNE := Lib.hid (fun s w h => nest_c b q c T D n1 s w h)
  have HNE0 := Lib.hid (fun s w h => nest_c b q c T D n s w h); have HN1 := Lib.hid hn1
  have hwn : IntKind.i64.wrap ((n : Int) + 1) = (n1 : Int) := by rw [hn1]; exact IntWalk.i64_in _ (by omega)
  have HSA := Lib.hid hA; have HTA := Lib.hid fA
  have HSB := Lib.hid hB; have HTB := Lib.hid fB
  have HR := Lib.hid hR; have HP0 := Lib.hid h; have HG0 : Hid (Fr2 (Self b) w w) := Lib.hid (Fr2.refl _ _)
  clear hE hR h hn hn1 hA fA hB fB
  go_enter Tryz.func127, Tryz.ntmps127
  go_wp2_with fail
  all_goals (try (exfalso; (simp at *; omega)))
  refine (HI.out [110, 111, 116] _ _ HP0.out).mono ?_
  rintro e w1 ⟨rfl, h2, f2⟩
  have HP1 : Hid (PAt w1 b q c T D s0) := Lib.hid h2; have HG1 := Lib.hid (HG0.out.trans f2)
  obtain ⟨b1, hb⟩ : ∃ b1, isQ T [110, 111, 116] s0 = b1 := ⟨_, rfl⟩
  rw [hb]
  have HV1 := Lib.hid hb
  clear h2 f2 hb
  cases b1
  · skip
    go_wp2_with fail
    all_goals (try (exfalso; (simp at *; omega)))
    refine (HSA.out _ _ HP1.out).mono ?_
    rintro e w2 ⟨⟨x2, rfl, hx⟩, h2, f2⟩
    have hxs2 : x2.size ≤ 10000100 := by rw [qsize hx]; exact Nat.le_trans (len_ok HR.out (HTA.out _)) (by decide)
    obtain ⟨s2, hs⟩ : ∃ s2, ((sumQ T D n nx) s0).2 = s2 := ⟨_, rfl⟩
    have HX2 := Lib.hid hx; have HE2 := Lib.hid hs; have HP2 : Hid (PAt w2 b q c T D s2) := Lib.hid (hs ▸ h2); have HG2 := Lib.hid (HG1.out.trans f2)
    clear hx h2 f2 hs
    go_wp2_with fail
    all_goals (try (exfalso; (simp at *; omega)))
    refine (HI.out [61] _ _ HP2.out).mono ?_
    rintro e w3 ⟨rfl, h2, f2⟩
    have HP3 : Hid (PAt w3 b q c T D s2) := Lib.hid h2; have HG3 := Lib.hid (HG2.out.trans f2)
    obtain ⟨b3, hb⟩ : ∃ b3, isQ T [61] s2 = b3 := ⟨_, rfl⟩
    rw [hb]
    have HV3 := Lib.hid hb
    clear h2 f2 hb
    cases b3
    · skip
      go_wp2_with fail
      all_goals (try (exfalso; (simp at *; omega)))
      refine (HI.out [60, 62] _ _ HP3.out).mono ?_
      rintro e w4 ⟨rfl, h2, f2⟩
      have HP4 : Hid (PAt w4 b q c T D s2) := Lib.hid h2; have HG4 := Lib.hid (HG3.out.trans f2)
      obtain ⟨b4, hb⟩ : ∃ b4, isQ T [60, 62] s2 = b4 := ⟨_, rfl⟩
      rw [hb]
      have HV4 := Lib.hid hb
      clear h2 f2 hb
      cases b4
      · skip
        go_wp2_with fail
        all_goals (try (exfalso; (simp at *; omega)))
        refine (HI.out [60] _ _ HP4.out).mono ?_
        rintro e w5 ⟨rfl, h2, f2⟩
        have HP5 : Hid (PAt w5 b q c T D s2) := Lib.hid h2; have HG5 := Lib.hid (HG4.out.trans f2)
        obtain ⟨b5, hb⟩ : ∃ b5, isQ T [60] s2 = b5 := ⟨_, rfl⟩
        rw [hb]
        have HV5 := Lib.hid hb
        clear h2 f2 hb
        cases b5
        · skip
          go_wp2_with fail
          all_goals (try (exfalso; (simp at *; omega)))
          refine (HI.out [60, 61] _ _ HP5.out).mono ?_
          rintro e w6 ⟨rfl, h2, f2⟩
          have HP6 : Hid (PAt w6 b q c T D s2) := Lib.hid h2; have HG6 := Lib.hid (HG5.out.trans f2)
          obtain ⟨b6, hb⟩ : ∃ b6, isQ T [60, 61] s2 = b6 := ⟨_, rfl⟩
          rw [hb]
          have HV6 := Lib.hid hb
          clear h2 f2 hb
          cases b6
          · skip
            go_wp2_with fail
            all_goals (try (exfalso; (simp at *; omega)))
            refine (HI.out [62] _ _ HP6.out).mono ?_
            rintro e w7 ⟨rfl, h2, f2⟩
            have HP7 : Hid (PAt w7 b q c T D s2) := Lib.hid h2; have HG7 := Lib.hid (HG6.out.trans f2)
            obtain ⟨b7, hb⟩ : ∃ b7, isQ T [62] s2 = b7 := ⟨_, rfl⟩
            rw [hb]
            have HV7 := Lib.hid hb
            clear h2 f2 hb
            cases b7
            · skip
              go_wp2_with fail
              all_goals (try (exfalso; (simp at *; omega)))
              refine (HI.out [62, 61] _ _ HP7.out).mono ?_
              rintro e w8 ⟨rfl, h2, f2⟩
              have HP8 : Hid (PAt w8 b q c T D s2) := Lib.hid h2; have HG8 := Lib.hid (HG7.out.trans f2)
              obtain ⟨b8, hb⟩ : ∃ b8, isQ T [62, 61] s2 = b8 := ⟨_, rfl⟩
              rw [hb]
              have HV8 := Lib.hid hb
              clear h2 f2 hb
              cases b8
              · skip
                go_wp2_with fail
                all_goals (try (exfalso; (simp at *; omega)))
                go_ret
                have hM : ((notQ T D n nx) s0).2 = s2 := by simp [notQ, signQ, isCmp, HV1.out, HX2.out, HE2.out, HV3.out, HV4.out, HV5.out, HV6.out, HV7.out, HV8.out]
                exact ⟨⟨_, rfl, by simp [notQ, signQ, isCmp, qapp, HV1.out, HX2.out, HE2.out, HV3.out, HV4.out, HV5.out, HV6.out, HV7.out, HV8.out]⟩, by rw [hM]; exact HP8.out, HG8.out⟩
              · skip
                go_wp2_with fail
                all_goals (try (exfalso; (simp at *; omega)))
                have HPo9 : Hid (s2.i < T.length) := Lib.hid HP8.out.ok
                refine (HL.out _ _ HP8.out).mono ?_
                rintro e w9 ⟨⟨x9, rfl, hx⟩, h2, f2⟩
                have hxs9 : x9.size ≤ 10000100 := by rw [qsize hx]; exact Nat.le_trans (leaf_lenA HR.out HPo9.out) (by decide)
                obtain ⟨s9, hs⟩ : ∃ s9, (leafQ T s2).2 = s9 := ⟨_, rfl⟩
                have HX9 := Lib.hid hx; have HE9 := Lib.hid hs; have HP9 : Hid (PAt w9 b q c T D s9) := Lib.hid (hs ▸ h2); have HG9 := Lib.hid (HG8.out.trans f2)
                clear hx h2 f2 hs
                go_wp2_with fail
                all_goals (try (exfalso; (simp at *; omega)))
                refine (HSA.out _ _ HP9.out).mono ?_
                rintro e w10 ⟨⟨x10, rfl, hx⟩, h2, f2⟩
                have hxs10 : x10.size ≤ 10000100 := by rw [qsize hx]; exact Nat.le_trans (len_ok HR.out (HTA.out _)) (by decide)
                obtain ⟨s10, hs⟩ : ∃ s10, ((sumQ T D n nx) s9).2 = s10 := ⟨_, rfl⟩
                have HX10 := Lib.hid hx; have HE10 := Lib.hid hs; have HP10 : Hid (PAt w10 b q c T D s10) := Lib.hid (hs ▸ h2); have HG10 := Lib.hid (HG9.out.trans f2)
                clear hx h2 f2 hs
                go_wp2_with fail
                all_goals (try (exfalso; (simp at *; omega)))
                go_ret
                have hM : ((notQ T D n nx) s0).2 = s10 := by simp [notQ, signQ, isCmp, HV1.out, HX2.out, HE2.out, HV3.out, HV4.out, HV5.out, HV6.out, HV7.out, HV8.out, HX9.out, HE9.out, HX10.out, HE10.out]
                exact ⟨⟨_, rfl, by simp [notQ, signQ, isCmp, qapp, HV1.out, HX2.out, HE2.out, HV3.out, HV4.out, HV5.out, HV6.out, HV7.out, HV8.out, HX9.out, HE9.out, HX10.out, HE10.out]⟩, by rw [hM]; exact HP10.out, HG10.out⟩
            · skip
              go_wp2_with fail
              all_goals (try (exfalso; (simp at *; omega)))
              have HPo11 : Hid (s2.i < T.length) := Lib.hid HP7.out.ok
              refine (HL.out _ _ HP7.out).mono ?_
              rintro e w11 ⟨⟨x11, rfl, hx⟩, h2, f2⟩
              have hxs11 : x11.size ≤ 10000100 := by rw [qsize hx]; exact Nat.le_trans (leaf_lenA HR.out HPo11.out) (by decide)
              obtain ⟨s11, hs⟩ : ∃ s11, (leafQ T s2).2 = s11 := ⟨_, rfl⟩
              have HX11 := Lib.hid hx; have HE11 := Lib.hid hs; have HP11 : Hid (PAt w11 b q c T D s11) := Lib.hid (hs ▸ h2); have HG11 := Lib.hid (HG7.out.trans f2)
              clear hx h2 f2 hs
              go_wp2_with fail
              all_goals (try (exfalso; (simp at *; omega)))
              refine (HSA.out _ _ HP11.out).mono ?_
              rintro e w12 ⟨⟨x12, rfl, hx⟩, h2, f2⟩
              have hxs12 : x12.size ≤ 10000100 := by rw [qsize hx]; exact Nat.le_trans (len_ok HR.out (HTA.out _)) (by decide)
              obtain ⟨s12, hs⟩ : ∃ s12, ((sumQ T D n nx) s11).2 = s12 := ⟨_, rfl⟩
              have HX12 := Lib.hid hx; have HE12 := Lib.hid hs; have HP12 : Hid (PAt w12 b q c T D s12) := Lib.hid (hs ▸ h2); have HG12 := Lib.hid (HG11.out.trans f2)
              clear hx h2 f2 hs
              go_wp2_with fail
              all_goals (try (exfalso; (simp at *; omega)))
              go_ret
              have hM : ((notQ T D n nx) s0).2 = s12 := by simp [notQ, signQ, isCmp, HV1.out, HX2.out, HE2.out, HV3.out, HV4.out, HV5.out, HV6.out, HV7.out, HX11.out, HE11.out, HX12.out, HE12.out]
              exact ⟨⟨_, rfl, by simp [notQ, signQ, isCmp, qapp, HV1.out, HX2.out, HE2.out, HV3.out, HV4.out, HV5.out, HV6.out, HV7.out, HX11.out, HE11.out, HX12.out, HE12.out]⟩, by rw [hM]; exact HP12.out, HG12.out⟩
          · skip
            go_wp2_with fail
            all_goals (try (exfalso; (simp at *; omega)))
            have HPo13 : Hid (s2.i < T.length) := Lib.hid HP6.out.ok
            refine (HL.out _ _ HP6.out).mono ?_
            rintro e w13 ⟨⟨x13, rfl, hx⟩, h2, f2⟩
            have hxs13 : x13.size ≤ 10000100 := by rw [qsize hx]; exact Nat.le_trans (leaf_lenA HR.out HPo13.out) (by decide)
            obtain ⟨s13, hs⟩ : ∃ s13, (leafQ T s2).2 = s13 := ⟨_, rfl⟩
            have HX13 := Lib.hid hx; have HE13 := Lib.hid hs; have HP13 : Hid (PAt w13 b q c T D s13) := Lib.hid (hs ▸ h2); have HG13 := Lib.hid (HG6.out.trans f2)
            clear hx h2 f2 hs
            go_wp2_with fail
            all_goals (try (exfalso; (simp at *; omega)))
            refine (HSA.out _ _ HP13.out).mono ?_
            rintro e w14 ⟨⟨x14, rfl, hx⟩, h2, f2⟩
            have hxs14 : x14.size ≤ 10000100 := by rw [qsize hx]; exact Nat.le_trans (len_ok HR.out (HTA.out _)) (by decide)
            obtain ⟨s14, hs⟩ : ∃ s14, ((sumQ T D n nx) s13).2 = s14 := ⟨_, rfl⟩
            have HX14 := Lib.hid hx; have HE14 := Lib.hid hs; have HP14 : Hid (PAt w14 b q c T D s14) := Lib.hid (hs ▸ h2); have HG14 := Lib.hid (HG13.out.trans f2)
            clear hx h2 f2 hs
            go_wp2_with fail
            all_goals (try (exfalso; (simp at *; omega)))
            go_ret
            have hM : ((notQ T D n nx) s0).2 = s14 := by simp [notQ, signQ, isCmp, HV1.out, HX2.out, HE2.out, HV3.out, HV4.out, HV5.out, HV6.out, HX13.out, HE13.out, HX14.out, HE14.out]
            exact ⟨⟨_, rfl, by simp [notQ, signQ, isCmp, qapp, HV1.out, HX2.out, HE2.out, HV3.out, HV4.out, HV5.out, HV6.out, HX13.out, HE13.out, HX14.out, HE14.out]⟩, by rw [hM]; exact HP14.out, HG14.out⟩
        · skip
          go_wp2_with fail
          all_goals (try (exfalso; (simp at *; omega)))
          have HPo15 : Hid (s2.i < T.length) := Lib.hid HP5.out.ok
          refine (HL.out _ _ HP5.out).mono ?_
          rintro e w15 ⟨⟨x15, rfl, hx⟩, h2, f2⟩
          have hxs15 : x15.size ≤ 10000100 := by rw [qsize hx]; exact Nat.le_trans (leaf_lenA HR.out HPo15.out) (by decide)
          obtain ⟨s15, hs⟩ : ∃ s15, (leafQ T s2).2 = s15 := ⟨_, rfl⟩
          have HX15 := Lib.hid hx; have HE15 := Lib.hid hs; have HP15 : Hid (PAt w15 b q c T D s15) := Lib.hid (hs ▸ h2); have HG15 := Lib.hid (HG5.out.trans f2)
          clear hx h2 f2 hs
          go_wp2_with fail
          all_goals (try (exfalso; (simp at *; omega)))
          refine (HSA.out _ _ HP15.out).mono ?_
          rintro e w16 ⟨⟨x16, rfl, hx⟩, h2, f2⟩
          have hxs16 : x16.size ≤ 10000100 := by rw [qsize hx]; exact Nat.le_trans (len_ok HR.out (HTA.out _)) (by decide)
          obtain ⟨s16, hs⟩ : ∃ s16, ((sumQ T D n nx) s15).2 = s16 := ⟨_, rfl⟩
          have HX16 := Lib.hid hx; have HE16 := Lib.hid hs; have HP16 : Hid (PAt w16 b q c T D s16) := Lib.hid (hs ▸ h2); have HG16 := Lib.hid (HG15.out.trans f2)
          clear hx h2 f2 hs
          go_wp2_with fail
          all_goals (try (exfalso; (simp at *; omega)))
          go_ret
          have hM : ((notQ T D n nx) s0).2 = s16 := by simp [notQ, signQ, isCmp, HV1.out, HX2.out, HE2.out, HV3.out, HV4.out, HV5.out, HX15.out, HE15.out, HX16.out, HE16.out]
          exact ⟨⟨_, rfl, by simp [notQ, signQ, isCmp, qapp, HV1.out, HX2.out, HE2.out, HV3.out, HV4.out, HV5.out, HX15.out, HE15.out, HX16.out, HE16.out]⟩, by rw [hM]; exact HP16.out, HG16.out⟩
      · skip
        go_wp2_with fail
        all_goals (try (exfalso; (simp at *; omega)))
        have HPo17 : Hid (s2.i < T.length) := Lib.hid HP4.out.ok
        refine (HL.out _ _ HP4.out).mono ?_
        rintro e w17 ⟨⟨x17, rfl, hx⟩, h2, f2⟩
        have hxs17 : x17.size ≤ 10000100 := by rw [qsize hx]; exact Nat.le_trans (leaf_lenA HR.out HPo17.out) (by decide)
        obtain ⟨s17, hs⟩ : ∃ s17, (leafQ T s2).2 = s17 := ⟨_, rfl⟩
        have HX17 := Lib.hid hx; have HE17 := Lib.hid hs; have HP17 : Hid (PAt w17 b q c T D s17) := Lib.hid (hs ▸ h2); have HG17 := Lib.hid (HG4.out.trans f2)
        clear hx h2 f2 hs
        go_wp2_with fail
        all_goals (try (exfalso; (simp at *; omega)))
        refine (HSA.out _ _ HP17.out).mono ?_
        rintro e w18 ⟨⟨x18, rfl, hx⟩, h2, f2⟩
        have hxs18 : x18.size ≤ 10000100 := by rw [qsize hx]; exact Nat.le_trans (len_ok HR.out (HTA.out _)) (by decide)
        obtain ⟨s18, hs⟩ : ∃ s18, ((sumQ T D n nx) s17).2 = s18 := ⟨_, rfl⟩
        have HX18 := Lib.hid hx; have HE18 := Lib.hid hs; have HP18 : Hid (PAt w18 b q c T D s18) := Lib.hid (hs ▸ h2); have HG18 := Lib.hid (HG17.out.trans f2)
        clear hx h2 f2 hs
        go_wp2_with fail
        all_goals (try (exfalso; (simp at *; omega)))
        go_ret
        have hM : ((notQ T D n nx) s0).2 = s18 := by simp [notQ, signQ, isCmp, HV1.out, HX2.out, HE2.out, HV3.out, HV4.out, HX17.out, HE17.out, HX18.out, HE18.out]
        exact ⟨⟨_, rfl, by simp [notQ, signQ, isCmp, qapp, HV1.out, HX2.out, HE2.out, HV3.out, HV4.out, HX17.out, HE17.out, HX18.out, HE18.out]⟩, by rw [hM]; exact HP18.out, HG18.out⟩
    · skip
      go_wp2_with fail
      all_goals (try (exfalso; (simp at *; omega)))
      have HPo19 : Hid (s2.i < T.length) := Lib.hid HP3.out.ok
      refine (HL.out _ _ HP3.out).mono ?_
      rintro e w19 ⟨⟨x19, rfl, hx⟩, h2, f2⟩
      have hxs19 : x19.size ≤ 10000100 := by rw [qsize hx]; exact Nat.le_trans (leaf_lenA HR.out HPo19.out) (by decide)
      obtain ⟨s19, hs⟩ : ∃ s19, (leafQ T s2).2 = s19 := ⟨_, rfl⟩
      have HX19 := Lib.hid hx; have HE19 := Lib.hid hs; have HP19 : Hid (PAt w19 b q c T D s19) := Lib.hid (hs ▸ h2); have HG19 := Lib.hid (HG3.out.trans f2)
      clear hx h2 f2 hs
      go_wp2_with fail
      all_goals (try (exfalso; (simp at *; omega)))
      refine (HSA.out _ _ HP19.out).mono ?_
      rintro e w20 ⟨⟨x20, rfl, hx⟩, h2, f2⟩
      have hxs20 : x20.size ≤ 10000100 := by rw [qsize hx]; exact Nat.le_trans (len_ok HR.out (HTA.out _)) (by decide)
      obtain ⟨s20, hs⟩ : ∃ s20, ((sumQ T D n nx) s19).2 = s20 := ⟨_, rfl⟩
      have HX20 := Lib.hid hx; have HE20 := Lib.hid hs; have HP20 : Hid (PAt w20 b q c T D s20) := Lib.hid (hs ▸ h2); have HG20 := Lib.hid (HG19.out.trans f2)
      clear hx h2 f2 hs
      go_wp2_with fail
      all_goals (try (exfalso; (simp at *; omega)))
      go_ret
      have hM : ((notQ T D n nx) s0).2 = s20 := by simp [notQ, signQ, isCmp, HV1.out, HX2.out, HE2.out, HV3.out, HX19.out, HE19.out, HX20.out, HE20.out]
      exact ⟨⟨_, rfl, by simp [notQ, signQ, isCmp, qapp, HV1.out, HX2.out, HE2.out, HV3.out, HX19.out, HE19.out, HX20.out, HE20.out]⟩, by rw [hM]; exact HP20.out, HG20.out⟩
  · skip
    go_wp2_with fail
    all_goals (try (exfalso; (simp at *; omega)))
    have HPo21 : Hid (s0.i < T.length) := Lib.hid HP1.out.ok
    refine (HL.out _ _ HP1.out).mono ?_
    rintro e w21 ⟨⟨x21, rfl, hx⟩, h2, f2⟩
    have hxs21 : x21.size ≤ 10000100 := by rw [qsize hx]; exact Nat.le_trans (leaf_lenA HR.out HPo21.out) (by decide)
    obtain ⟨s21, hs⟩ : ∃ s21, (leafQ T s0).2 = s21 := ⟨_, rfl⟩
    have HX21 := Lib.hid hx; have HE21 := Lib.hid hs; have HP21 : Hid (PAt w21 b q c T D s21) := Lib.hid (hs ▸ h2); have HG21 := Lib.hid (HG1.out.trans f2)
    clear hx h2 f2 hs
    go_wp2_with fail
    all_goals (try (exfalso; (simp at *; omega)))
    refine (HNE.out _ _ HP21.out).mono ?_
    rintro e w22 ⟨rfl, h2, f2⟩
    rw [HN1.out] at h2
    obtain ⟨s22, hs⟩ : ∃ s22, nestQ T D (n + 1) s21 = s22 := ⟨_, rfl⟩
    have HE22 := Lib.hid hs; have HP22 : Hid (PAt w22 b q c T D s22) := Lib.hid (hs ▸ h2); have HG22 := Lib.hid (HG21.out.trans f2)
    clear h2 f2 hs
    obtain ⟨d0, d1, d2, d3, d4, d5, d6⟩ := cells6 HP22.out.box
    obtain ⟨E, hEE⟩ : ∃ E, s22.e = E := ⟨_, rfl⟩
    have HV23 := Lib.hid hEE
    rw [hEE] at d4; clear hEE d0 d1 d2 d3 d5 d6
    by_cases he : E = 0
    · subst he
      have HSB := Lib.hid (HSB.out (by rw [HN1.out]; exact nest_ok (by rw [HE22.out]; exact HV23.out)))
      go_wp2_with fail
      all_goals (try (exfalso; (simp at *; omega)))
      refine (HSB.out _ _ HP22.out).mono ?_
      rintro e w24 ⟨⟨x24, rfl, hx⟩, h2, f2⟩
      have hxs24 : x24.size ≤ 10000100 := by rw [qsize hx]; exact Nat.le_trans (len_ok HR.out (HTB.out _)) (by decide)
      obtain ⟨s24, hs⟩ : ∃ s24, ((nx.nots) s22).2 = s24 := ⟨_, rfl⟩
      have HX24 := Lib.hid hx; have HE24 := Lib.hid hs; have HP24 : Hid (PAt w24 b q c T D s24) := Lib.hid (hs ▸ h2); have HG24 := Lib.hid (HG22.out.trans f2)
      clear hx h2 f2 hs
      go_wp2_with fail
      all_goals (try (exfalso; (simp at *; omega)))
      go_ret
      have hM : ((notQ T D n nx) s0).2 = s24 := by simp [notQ, signQ, isCmp, HV1.out, HX21.out, HE21.out, HE22.out, HV23.out, HX24.out, HE24.out]
      exact ⟨⟨_, rfl, by simp [notQ, signQ, isCmp, qapp, HV1.out, HX21.out, HE21.out, HE22.out, HV23.out, HX24.out, HE24.out]⟩, by rw [hM]; exact HP24.out, HG24.out⟩
    · have e2 : (E == 0) = false := beq_eq_false_iff_ne.2 he
      have e2' : ((E : Int) == 0) = false := beq_eq_false_iff_ne.2 (by omega)
      have e3 : (E != 0) = true := bne_iff_ne.2 he
      have e3' : ((E : Int) != 0) = true := bne_iff_ne.2 (by omega)
      have HV23 := Lib.hid (show ¬ s22.e = 0 from fun e => he (HV23.out.symm.trans e))
      clear he
      go_wp2_with fail
      all_goals (try (exfalso; (simp at *; omega)))
      go_ret
      have hM : ((notQ T D n nx) s0).2 = s22 := by simp [notQ, signQ, isCmp, HV1.out, HX21.out, HE21.out, HE22.out, HV23.out]
      exact ⟨⟨_, rfl, by simp [notQ, signQ, isCmp, qapp, HV1.out, HX21.out, HE21.out, HE22.out, HV23.out]⟩, by rw [hM]; exact HP22.out, HG22.out⟩
end
end Go.Proofs.YthclkbaankjbiaaGreatDoor
namespace Go.Proofs.YthclkbaankjbiaaGreatDoor
open Go.RowKit
section
variable (b : Nat) (q : Option Addr) (c : Nat) (T : List Tok) (D : Nat)
variable (hE : EndT T) (hR : roomQ T T.length ≤ 10000000) (n : Nat) (nx : Nx) (ex : St → RQ)
include hE hR

set_option maxRecDepth 100000 in
set_option maxHeartbeats 4000000 in
theorem formula_c (n1 : Nat) (hn1 : n1 = n + 1) (hn : n ≤ 1000) (hA : SubC b q c T D 106 n (orQ T D n nx)) (fA : ∀ s, Fits T s (orQ T D n nx s)) (hB : n1 ≤ D → SubC b q c T D 82 n1 (nx.formula)) (fB : ∀ s, Fits T s (nx.formula s)) (s0 : St) (w : World) (h : PAt w b q c T D s0) : Calls Tryz.prog 82 #[.pointer (some ⟨b, 0, none⟩), .int .i64 (n : Int)] w (RPost b q c T D (formulaQ T D n nx s0) w) := by
  have HI := Lib.hid (fun x s w h => is_c b q c T D x s w h)
  have HL := Lib.hid (fun s w h => leaf_c b q c T D hE hR s w h)
  have HMU := Lib.hid (fun x s w h => must_c b q c T D hE hR x s w h)
  have HKI := Lib.hid (fun k s w h => kind_c b q c T D hE hR k s w h)
  have HFA := Lib.hid (fun e s w h => fail_c b q c T D e s w h)
  have HNE := Lib.hid (fun s w h => nest_c b q c T D n1 s w h)
  have HNE0 := Lib.hid (fun s w h => nest_c b q c T D n s w h); have HN1 := Lib.hid hn1
  have hwn : IntKind.i64.wrap ((n : Int) + 1) = (n1 : Int) := by rw [hn1]; exact IntWalk.i64_in _ (by omega)
  have HSA := Lib.hid hA; have HTA := Lib.hid fA
  have HSB := Lib.hid hB; have HTB := Lib.hid fB
  have HR := Lib.hid hR; have HP0 := Lib.hid h; have HG0 : Hid (Fr2 (Self b) w w) := Lib.hid (Fr2.refl _ _)
  clear hE hR h hn hn1 hA fA hB fB
  go_enter Tryz.func82, Tryz.ntmps82
  go_wp2_with fail
  all_goals (try (exfalso; (simp at *; omega)))
  refine (HSA.out _ _ HP0.out).mono ?_
  rintro e w1 ⟨⟨x1, rfl, hx⟩, h2, f2⟩
  have hxs1 : x1.size ≤ 10000100 := by rw [qsize hx]; exact Nat.le_trans (len_ok HR.out (HTA.out _)) (by decide)
  obtain ⟨s1, hs⟩ : ∃ s1, ((orQ T D n nx) s0).2 = s1 := ⟨_, rfl⟩
  have HX1 := Lib.hid hx; have HE1 := Lib.hid hs; have HP1 : Hid (PAt w1 b q c T D s1) := Lib.hid (hs ▸ h2); have HG1 := Lib.hid (HG0.out.trans f2)
  clear hx h2 f2 hs
  go_wp2_with fail
  all_goals (try (exfalso; (simp at *; omega)))
  refine (HI.out [61, 62] _ _ HP1.out).mono ?_
  rintro e w2 ⟨rfl, h2, f2⟩
  have HP2 : Hid (PAt w2 b q c T D s1) := Lib.hid h2; have HG2 := Lib.hid (HG1.out.trans f2)
  obtain ⟨b2, hb⟩ : ∃ b2, isQ T [61, 62] s1 = b2 := ⟨_, rfl⟩
  rw [hb]
  have HV2 := Lib.hid hb
  clear h2 f2 hb
  cases b2
  · skip
    go_wp2_with fail
    all_goals (try (exfalso; (simp at *; omega)))
    go_ret
    have hM : ((formulaQ T D n nx) s0).2 = s1 := by simp [formulaQ, HX1.out, HE1.out, HV2.out]
    exact ⟨⟨_, rfl, by simp [formulaQ, qapp, HX1.out, HE1.out, HV2.out]⟩, by rw [hM]; exact HP2.out, HG2.out⟩
  · skip
    go_wp2_with fail
    all_goals (try (exfalso; (simp at *; omega)))
    have HPo3 : Hid (s1.i < T.length) := Lib.hid HP2.out.ok
    refine (HL.out _ _ HP2.out).mono ?_
    rintro e w3 ⟨⟨x3, rfl, hx⟩, h2, f2⟩
    have hxs3 : x3.size ≤ 10000100 := by rw [qsize hx]; exact Nat.le_trans (leaf_lenA HR.out HPo3.out) (by decide)
    obtain ⟨s3, hs⟩ : ∃ s3, (leafQ T s1).2 = s3 := ⟨_, rfl⟩
    have HX3 := Lib.hid hx; have HE3 := Lib.hid hs; have HP3 : Hid (PAt w3 b q c T D s3) := Lib.hid (hs ▸ h2); have HG3 := Lib.hid (HG2.out.trans f2)
    clear hx h2 f2 hs
    go_wp2_with fail
    all_goals (try (exfalso; (simp at *; omega)))
    refine (HNE.out _ _ HP3.out).mono ?_
    rintro e w4 ⟨rfl, h2, f2⟩
    rw [HN1.out] at h2
    obtain ⟨s4, hs⟩ : ∃ s4, nestQ T D (n + 1) s3 = s4 := ⟨_, rfl⟩
    have HE4 := Lib.hid hs; have HP4 : Hid (PAt w4 b q c T D s4) := Lib.hid (hs ▸ h2); have HG4 := Lib.hid (HG3.out.trans f2)
    clear h2 f2 hs
    obtain ⟨d0, d1, d2, d3, d4, d5, d6⟩ := cells6 HP4.out.box
    obtain ⟨E, hEE⟩ : ∃ E, s4.e = E := ⟨_, rfl⟩
    have HV5 := Lib.hid hEE
    rw [hEE] at d4; clear hEE d0 d1 d2 d3 d5 d6
    by_cases he : E = 0
    · subst he
      have HSB := Lib.hid (HSB.out (by rw [HN1.out]; exact nest_ok (by rw [HE4.out]; exact HV5.out)))
      go_wp2_with fail
      all_goals (try (exfalso; (simp at *; omega)))
      refine (HSB.out _ _ HP4.out).mono ?_
      rintro e w6 ⟨⟨x6, rfl, hx⟩, h2, f2⟩
      have hxs6 : x6.size ≤ 10000100 := by rw [qsize hx]; exact Nat.le_trans (len_ok HR.out (HTB.out _)) (by decide)
      obtain ⟨s6, hs⟩ : ∃ s6, ((nx.formula) s4).2 = s6 := ⟨_, rfl⟩
      have HX6 := Lib.hid hx; have HE6 := Lib.hid hs; have HP6 : Hid (PAt w6 b q c T D s6) := Lib.hid (hs ▸ h2); have HG6 := Lib.hid (HG4.out.trans f2)
      clear hx h2 f2 hs
      go_wp2_with fail
      all_goals (try (exfalso; (simp at *; omega)))
      go_ret
      have hM : ((formulaQ T D n nx) s0).2 = s6 := by simp [formulaQ, HX1.out, HE1.out, HV2.out, HX3.out, HE3.out, HE4.out, HV5.out, HX6.out, HE6.out]
      exact ⟨⟨_, rfl, by simp [formulaQ, qapp, HX1.out, HE1.out, HV2.out, HX3.out, HE3.out, HE4.out, HV5.out, HX6.out, HE6.out]⟩, by rw [hM]; exact HP6.out, HG6.out⟩
    · have e2 : (E == 0) = false := beq_eq_false_iff_ne.2 he
      have e2' : ((E : Int) == 0) = false := beq_eq_false_iff_ne.2 (by omega)
      have e3 : (E != 0) = true := bne_iff_ne.2 he
      have e3' : ((E : Int) != 0) = true := bne_iff_ne.2 (by omega)
      have HV5 := Lib.hid (show ¬ s4.e = 0 from fun e => he (HV5.out.symm.trans e))
      clear he
      go_wp2_with fail
      all_goals (try (exfalso; (simp at *; omega)))
      go_ret
      have hM : ((formulaQ T D n nx) s0).2 = s4 := by simp [formulaQ, HX1.out, HE1.out, HV2.out, HX3.out, HE3.out, HE4.out, HV5.out]
      exact ⟨⟨_, rfl, by simp [formulaQ, qapp, HX1.out, HE1.out, HV2.out, HX3.out, HE3.out, HE4.out, HV5.out]⟩, by rw [hM]; exact HP4.out, HG4.out⟩
end
end Go.Proofs.YthclkbaankjbiaaGreatDoor
