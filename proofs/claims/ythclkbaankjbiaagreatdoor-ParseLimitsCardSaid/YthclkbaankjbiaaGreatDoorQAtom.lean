/- The reference's parser: an atom. -/
import Derived.Test.YthclkbaankjbiaaGreatDoorM17
namespace Go.Proofs.YthclkbaankjbiaaGreatDoor
open Go.RowKit
section
variable (b : Nat) (q : Option Addr) (c : Nat) (T : List Tok) (D : Nat)
variable (hE : EndT T) (hR : roomQ T T.length ≤ 10000000) (n : Nat) (nx : Nx) (ex : St → RQ)
include hE hR

set_option maxRecDepth 100000 in
set_option maxHeartbeats 4000000 in
theorem atom_c (n1 : Nat) (hn1 : n1 = n + 1) (hn : n ≤ 1000) (hA : SubC b q c T D 154 n (nameQ T nx)) (fA : ∀ s, (tokQ T s).kind ≠ 5 → Fits T s (nameQ T nx s)) (hX : SubC b q c T D 44 n1 (nx.expr)) (fX : ∀ s, Fits T s (nx.expr s)) (s0 : St) (w : World) (h : PAt w b q c T D s0) : Calls Tryz.prog 152 #[.pointer (some ⟨b, 0, none⟩), .int .i64 (n : Int)] w (RPost b q c T D (atomQ T nx s0) w) := by
  have HI := Lib.hid (fun x s w h => is_c b q c T D x s w h)
  have HL := Lib.hid (fun s w h => leaf_c b q c T D hE hR s w h)
  have HMU := Lib.hid (fun x s w h => must_c b q c T D hE hR x s w h)
  have HKI := Lib.hid (fun k s w h => kind_c b q c T D hE hR k s w h)
  have HFA := Lib.hid (fun e s w h => fail_c b q c T D e s w h)
  have HNE := Lib.hid (fun s w h => nest_c b q c T D n1 s w h)
  have HNE0 := Lib.hid (fun s w h => nest_c b q c T D n s w h); have HN1 := Lib.hid hn1
  have hwn : IntKind.i64.wrap ((n : Int) + 1) = (n1 : Int) := by rw [hn1]; exact IntWalk.i64_in _ (by omega)
  have HSA := Lib.hid hA; have HTA := Lib.hid fA
  have HSX := Lib.hid hX; have HTX := Lib.hid fX
  have HR := Lib.hid hR; have HP0 := Lib.hid h; have HG0 : Hid (Fr2 (Self b) w w) := Lib.hid (Fr2.refl _ _)
  clear hE hR h hn hn1 hA fA hX fX
  go_enter Tryz.func152, Tryz.ntmps152
  obtain ⟨d0, d1, d2, d3, d4, d5, d6⟩ := cells6 HP0.out.box
  obtain ⟨E, hEE⟩ : ∃ E, s0.e = E := ⟨_, rfl⟩
  have HV1 := Lib.hid hEE
  rw [hEE] at d4; clear hEE d0 d1 d2 d3 d5 d6
  by_cases he : E = 0
  · subst he
    obtain ⟨d0, d1, d2, d3, d4, d5, d6⟩ := cells6 HP0.out.box
    obtain ⟨g, off, hq, ht, t0, t2, t3, hgb⟩ := HP0.out.tok
    have hok := HP0.out.ok
    obtain ⟨m, hm⟩ : ∃ m, T.length = m := ⟨_, rfl⟩
    obtain ⟨i, hi⟩ : ∃ i, s0.i = i := ⟨_, rfl⟩
    obtain ⟨kk, hk⟩ : ∃ kk, (tokQ T s0).kind = kk := ⟨_, rfl⟩
    rw [hm, hq] at d0; rw [hi] at d1 t0; rw [hk] at t0; rw [hm, hi] at hok
    have e1 : decide (i < m) = true := decide_eq_true hok
    have HV2 := Lib.hid hk
    have HPD : Hid (∀ n, PAt (w.drewN n) b q c T D s0) := Lib.hid (fun n => HP0.out.kept (gb_drewN (gb_refl _ _) _))
    have HGD : Hid (∀ n, Fr2 (Self b) w (w.drewN n)) := Lib.hid (fun n => fr2_drewN HG0.out n)
    clear HP0 HG0 hm hi hk hq ht t2 t3 d2 d3 d4 d5 d6
    have HP0 := HPD; have HG0 := HGD; clear HPD HGD
    by_cases hkk : kk = 3
    · subst hkk
      go_wp2_with fail
      all_goals (try (exfalso; (simp at *; omega)))
      go_quiet (fail)
      clear d0 d1 t0 e1 hgb hok
      go_wp2_with fail
      all_goals (try (exfalso; (simp at *; omega)))
      have HPo3 : Hid (s0.i < T.length) := Lib.hid (HP0.out 0).ok
      refine (HL.out _ _ (HP0.out _)).mono ?_
      rintro e w3 ⟨⟨x3, rfl, hx⟩, h2, f2⟩
      have hxs3 : x3.size ≤ 10000100 := by rw [qsize hx]; exact Nat.le_trans (leaf_lenA HR.out HPo3.out) (by decide)
      obtain ⟨s3, hs⟩ : ∃ s3, (leafQ T s0).2 = s3 := ⟨_, rfl⟩
      have HX3 := Lib.hid hx; have HE3 := Lib.hid hs; have HP3 : Hid (PAt w3 b q c T D s3) := Lib.hid (hs ▸ h2); have HG3 := Lib.hid ((HG0.out _).trans f2)
      clear hx h2 f2 hs
      go_wp2_with fail
      all_goals (try (exfalso; (simp at *; omega)))
      go_ret
      have hM : ((atomQ T nx) s0).2 = s3 := by simp [atomQ, HV1.out, HV2.out, HX3.out, HE3.out]
      exact ⟨⟨_, rfl, by simp [atomQ, qapp, HV1.out, HV2.out, HX3.out, HE3.out]⟩, by rw [hM]; exact HP3.out, HG3.out⟩
    · have e2 : (kk == 3) = false := beq_eq_false_iff_ne.2 hkk
      have e2' : ((kk : Int) == 3) = false := beq_eq_false_iff_ne.2 (by omega)
      have HV2 := Lib.hid (show ¬ (tokQ T s0).kind = 3 from fun e => hkk (HV2.out.symm.trans e))
      clear hkk
      go_wp2_with fail
      all_goals (try (exfalso; (simp at *; omega)))
      go_quiet (fail)
      clear d0 d1 t0 e1 hgb hok
      go_wp2_with fail
      all_goals (try (exfalso; (simp at *; omega)))
      refine (HI.out [116, 114, 117, 101] _ _ (HP0.out _)).mono ?_
      rintro e w4 ⟨rfl, h2, f2⟩
      have HP4 : Hid (PAt w4 b q c T D s0) := Lib.hid h2; have HG4 := Lib.hid ((HG0.out _).trans f2)
      obtain ⟨b4, hb⟩ : ∃ b4, isQ T [116, 114, 117, 101] s0 = b4 := ⟨_, rfl⟩
      rw [hb]
      have HV4 := Lib.hid hb
      clear h2 f2 hb
      cases b4
      · skip
        go_wp2_with fail
        all_goals (try (exfalso; (simp at *; omega)))
        refine (HI.out [102, 97, 108, 115, 101] _ _ HP4.out).mono ?_
        rintro e w5 ⟨rfl, h2, f2⟩
        have HP5 : Hid (PAt w5 b q c T D s0) := Lib.hid h2; have HG5 := Lib.hid (HG4.out.trans f2)
        obtain ⟨b5, hb⟩ : ∃ b5, isQ T [102, 97, 108, 115, 101] s0 = b5 := ⟨_, rfl⟩
        rw [hb]
        have HV5 := Lib.hid hb
        clear h2 f2 hb
        cases b5
        · skip
          obtain ⟨d0, d1, d2, d3, d4, d5, d6⟩ := cells6 HP5.out.box
          obtain ⟨I, hI⟩ : ∃ I, s0.inn = I := ⟨_, rfl⟩
          have HV6 := Lib.hid hI
          rw [hI] at d3; clear hI d0 d1 d2 d4 d5 d6
          cases I
          · skip
            go_wp2_with fail
            all_goals (try (exfalso; (simp at *; omega)))
            refine (HI.out [40] _ _ HP5.out).mono ?_
            rintro e w7 ⟨rfl, h2, f2⟩
            have HP7 : Hid (PAt w7 b q c T D s0) := Lib.hid h2; have HG7 := Lib.hid (HG5.out.trans f2)
            obtain ⟨b7, hb⟩ : ∃ b7, isQ T [40] s0 = b7 := ⟨_, rfl⟩
            rw [hb]
            have HV7 := Lib.hid hb
            clear h2 f2 hb
            cases b7
            · skip
              obtain ⟨d0, d1, d2, d3, d4, d5, d6⟩ := cells6 HP7.out.box
              obtain ⟨g, off, hq, ht, t0, t2, t3, hgb⟩ := HP7.out.tok
              have hok := HP7.out.ok
              obtain ⟨m, hm⟩ : ∃ m, T.length = m := ⟨_, rfl⟩
              obtain ⟨i, hi⟩ : ∃ i, s0.i = i := ⟨_, rfl⟩
              obtain ⟨kk, hk⟩ : ∃ kk, (tokQ T s0).kind = kk := ⟨_, rfl⟩
              rw [hm, hq] at d0; rw [hi] at d1 t0; rw [hk] at t0; rw [hm, hi] at hok
              have e1 : decide (i < m) = true := decide_eq_true hok
              have HV8 := Lib.hid hk
              have HPD : Hid (∀ n, PAt (w7.drewN n) b q c T D s0) := Lib.hid (fun n => HP7.out.kept (gb_drewN (gb_refl _ _) _))
              have HGD : Hid (∀ n, Fr2 (Self b) w (w7.drewN n)) := Lib.hid (fun n => fr2_drewN HG7.out n)
              clear HP7 HG7 hm hi hk hq ht t2 t3 d2 d3 d4 d5 d6
              have HP7 := HPD; have HG7 := HGD; clear HPD HGD
              by_cases hkk : kk = 1
              · subst hkk
                go_wp2_with fail
                all_goals (try (exfalso; (simp at *; omega)))
                go_quiet (fail)
                clear d0 d1 t0 e1 hgb hok
                go_wp2_with fail
                all_goals (try (exfalso; (simp at *; omega)))
                refine (HSA.out _ _ (HP7.out _)).mono ?_
                rintro e w9 ⟨⟨x9, rfl, hx⟩, h2, f2⟩
                have hxs9 : x9.size ≤ 10000100 := by rw [qsize hx]; exact Nat.le_trans (len_ok HR.out (HTA.out _ (by rw [HV8.out]; decide))) (by decide)
                obtain ⟨s9, hs⟩ : ∃ s9, ((nameQ T nx) s0).2 = s9 := ⟨_, rfl⟩
                have HX9 := Lib.hid hx; have HE9 := Lib.hid hs; have HP9 : Hid (PAt w9 b q c T D s9) := Lib.hid (hs ▸ h2); have HG9 := Lib.hid ((HG7.out _).trans f2)
                clear hx h2 f2 hs
                go_wp2_with fail
                all_goals (try (exfalso; (simp at *; omega)))
                go_ret
                have hM : ((atomQ T nx) s0).2 = s9 := by simp [atomQ, HV1.out, HV2.out, HV4.out, HV5.out, HV6.out, HV7.out, HV8.out, HX9.out, HE9.out]
                exact ⟨⟨_, rfl, by simp [atomQ, qapp, HV1.out, HV2.out, HV4.out, HV5.out, HV6.out, HV7.out, HV8.out, HX9.out, HE9.out]⟩, by rw [hM]; exact HP9.out, HG9.out⟩
              · have e2 : (kk == 1) = false := beq_eq_false_iff_ne.2 hkk
                have e2' : ((kk : Int) == 1) = false := beq_eq_false_iff_ne.2 (by omega)
                have HV8 := Lib.hid (show ¬ (tokQ T s0).kind = 1 from fun e => hkk (HV8.out.symm.trans e))
                clear hkk
                go_wp2_with fail
                all_goals (try (exfalso; (simp at *; omega)))
                go_quiet (fail)
                clear d0 d1 t0 e1 hgb hok
                go_wp2_with fail
                all_goals (try (exfalso; (simp at *; omega)))
                refine (HFA.out 22 _ _ (HP7.out _)).mono ?_
                rintro e w10 ⟨rfl, h2, f2⟩
                obtain ⟨s10, hs⟩ : ∃ s10, failQ T 22 s0 = s10 := ⟨_, rfl⟩
                have HE10 := Lib.hid hs; have HP10 : Hid (PAt w10 b q c T D s10) := Lib.hid (hs ▸ h2); have HG10 := Lib.hid ((HG7.out _).trans f2)
                clear h2 f2 hs
                go_wp2_with fail
                all_goals (try (exfalso; (simp at *; omega)))
                go_ret
                have hM : ((atomQ T nx) s0).2 = s10 := by simp [atomQ, HV1.out, HV2.out, HV4.out, HV5.out, HV6.out, HV7.out, HV8.out, HE10.out]
                exact ⟨⟨_, rfl, by simp [atomQ, qapp, HV1.out, HV2.out, HV4.out, HV5.out, HV6.out, HV7.out, HV8.out, HE10.out]⟩, by rw [hM]; exact HP10.out, HG10.out⟩
            · skip
              go_wp2_with fail
              all_goals (try (exfalso; (simp at *; omega)))
              have HPo11 : Hid (s0.i < T.length) := Lib.hid HP7.out.ok
              refine (HL.out _ _ HP7.out).mono ?_
              rintro e w11 ⟨⟨x11, rfl, hx⟩, h2, f2⟩
              have hxs11 : x11.size ≤ 10000100 := by rw [qsize hx]; exact Nat.le_trans (leaf_lenA HR.out HPo11.out) (by decide)
              obtain ⟨s11, hs⟩ : ∃ s11, (leafQ T s0).2 = s11 := ⟨_, rfl⟩
              have HX11 := Lib.hid hx; have HE11 := Lib.hid hs; have HP11 : Hid (PAt w11 b q c T D s11) := Lib.hid (hs ▸ h2); have HG11 := Lib.hid (HG7.out.trans f2)
              clear hx h2 f2 hs
              go_wp2_with fail
              all_goals (try (exfalso; (simp at *; omega)))
              refine (HSX.out _ _ HP11.out).mono ?_
              rintro e w12 ⟨⟨x12, rfl, hx⟩, h2, f2⟩
              have hxs12 : x12.size ≤ 10000100 := by rw [qsize hx]; exact Nat.le_trans (len_ok HR.out (HTX.out _)) (by decide)
              obtain ⟨s12, hs⟩ : ∃ s12, ((nx.expr) s11).2 = s12 := ⟨_, rfl⟩
              have HX12 := Lib.hid hx; have HE12 := Lib.hid hs; have HP12 : Hid (PAt w12 b q c T D s12) := Lib.hid (hs ▸ h2); have HG12 := Lib.hid (HG11.out.trans f2)
              clear hx h2 f2 hs
              go_wp2_with fail
              all_goals (try (exfalso; (simp at *; omega)))
              refine (HMU.out [41] _ _ HP12.out).mono ?_
              rintro e w13 ⟨⟨x13, rfl, hx⟩, h2, f2⟩
              have hxs13 : x13.size ≤ 10000100 := by rw [qsize hx]; exact Nat.le_trans (len_ok HR.out (must_fits T _ _)) (by decide)
              obtain ⟨s13, hs⟩ : ∃ s13, (mustQ T [41] s12).2 = s13 := ⟨_, rfl⟩
              have HX13 := Lib.hid hx; have HE13 := Lib.hid hs; have HP13 : Hid (PAt w13 b q c T D s13) := Lib.hid (hs ▸ h2); have HG13 := Lib.hid (HG12.out.trans f2)
              clear hx h2 f2 hs
              go_wp2_with fail
              all_goals (try (exfalso; (simp at *; omega)))
              go_ret
              have hM : ((atomQ T nx) s0).2 = s13 := by simp [atomQ, HV1.out, HV2.out, HV4.out, HV5.out, HV6.out, HV7.out, HX11.out, HE11.out, HX12.out, HE12.out, HX13.out, HE13.out]
              exact ⟨⟨_, rfl, by simp [atomQ, qapp, HV1.out, HV2.out, HV4.out, HV5.out, HV6.out, HV7.out, HX11.out, HE11.out, HX12.out, HE12.out, HX13.out, HE13.out]⟩, by rw [hM]; exact HP13.out, HG13.out⟩
          · skip
            go_wp2_with fail
            all_goals (try (exfalso; (simp at *; omega)))
            refine (HI.out [114, 101, 115] _ _ HP5.out).mono ?_
            rintro e w14 ⟨rfl, h2, f2⟩
            have HP14 : Hid (PAt w14 b q c T D s0) := Lib.hid h2; have HG14 := Lib.hid (HG5.out.trans f2)
            obtain ⟨b14, hb⟩ : ∃ b14, isQ T [114, 101, 115] s0 = b14 := ⟨_, rfl⟩
            rw [hb]
            have HV14 := Lib.hid hb
            clear h2 f2 hb
            cases b14
            · skip
              go_wp2_with fail
              all_goals (try (exfalso; (simp at *; omega)))
              refine (HI.out [40] _ _ HP14.out).mono ?_
              rintro e w15 ⟨rfl, h2, f2⟩
              have HP15 : Hid (PAt w15 b q c T D s0) := Lib.hid h2; have HG15 := Lib.hid (HG14.out.trans f2)
              obtain ⟨b15, hb⟩ : ∃ b15, isQ T [40] s0 = b15 := ⟨_, rfl⟩
              rw [hb]
              have HV15 := Lib.hid hb
              clear h2 f2 hb
              cases b15
              · skip
                obtain ⟨d0, d1, d2, d3, d4, d5, d6⟩ := cells6 HP15.out.box
                obtain ⟨g, off, hq, ht, t0, t2, t3, hgb⟩ := HP15.out.tok
                have hok := HP15.out.ok
                obtain ⟨m, hm⟩ : ∃ m, T.length = m := ⟨_, rfl⟩
                obtain ⟨i, hi⟩ : ∃ i, s0.i = i := ⟨_, rfl⟩
                obtain ⟨kk, hk⟩ : ∃ kk, (tokQ T s0).kind = kk := ⟨_, rfl⟩
                rw [hm, hq] at d0; rw [hi] at d1 t0; rw [hk] at t0; rw [hm, hi] at hok
                have e1 : decide (i < m) = true := decide_eq_true hok
                have HV16 := Lib.hid hk
                have HPD : Hid (∀ n, PAt (w15.drewN n) b q c T D s0) := Lib.hid (fun n => HP15.out.kept (gb_drewN (gb_refl _ _) _))
                have HGD : Hid (∀ n, Fr2 (Self b) w (w15.drewN n)) := Lib.hid (fun n => fr2_drewN HG15.out n)
                clear HP15 HG15 hm hi hk hq ht t2 t3 d2 d3 d4 d5 d6
                have HP15 := HPD; have HG15 := HGD; clear HPD HGD
                by_cases hkk : kk = 1
                · subst hkk
                  go_wp2_with fail
                  all_goals (try (exfalso; (simp at *; omega)))
                  go_quiet (fail)
                  clear d0 d1 t0 e1 hgb hok
                  go_wp2_with fail
                  all_goals (try (exfalso; (simp at *; omega)))
                  refine (HSA.out _ _ (HP15.out _)).mono ?_
                  rintro e w17 ⟨⟨x17, rfl, hx⟩, h2, f2⟩
                  have hxs17 : x17.size ≤ 10000100 := by rw [qsize hx]; exact Nat.le_trans (len_ok HR.out (HTA.out _ (by rw [HV16.out]; decide))) (by decide)
                  obtain ⟨s17, hs⟩ : ∃ s17, ((nameQ T nx) s0).2 = s17 := ⟨_, rfl⟩
                  have HX17 := Lib.hid hx; have HE17 := Lib.hid hs; have HP17 : Hid (PAt w17 b q c T D s17) := Lib.hid (hs ▸ h2); have HG17 := Lib.hid ((HG15.out _).trans f2)
                  clear hx h2 f2 hs
                  go_wp2_with fail
                  all_goals (try (exfalso; (simp at *; omega)))
                  go_ret
                  have hM : ((atomQ T nx) s0).2 = s17 := by simp [atomQ, HV1.out, HV2.out, HV4.out, HV5.out, HV6.out, HV14.out, HV15.out, HV16.out, HX17.out, HE17.out]
                  exact ⟨⟨_, rfl, by simp [atomQ, qapp, HV1.out, HV2.out, HV4.out, HV5.out, HV6.out, HV14.out, HV15.out, HV16.out, HX17.out, HE17.out]⟩, by rw [hM]; exact HP17.out, HG17.out⟩
                · have e2 : (kk == 1) = false := beq_eq_false_iff_ne.2 hkk
                  have e2' : ((kk : Int) == 1) = false := beq_eq_false_iff_ne.2 (by omega)
                  have HV16 := Lib.hid (show ¬ (tokQ T s0).kind = 1 from fun e => hkk (HV16.out.symm.trans e))
                  clear hkk
                  go_wp2_with fail
                  all_goals (try (exfalso; (simp at *; omega)))
                  go_quiet (fail)
                  clear d0 d1 t0 e1 hgb hok
                  go_wp2_with fail
                  all_goals (try (exfalso; (simp at *; omega)))
                  refine (HFA.out 22 _ _ (HP15.out _)).mono ?_
                  rintro e w18 ⟨rfl, h2, f2⟩
                  obtain ⟨s18, hs⟩ : ∃ s18, failQ T 22 s0 = s18 := ⟨_, rfl⟩
                  have HE18 := Lib.hid hs; have HP18 : Hid (PAt w18 b q c T D s18) := Lib.hid (hs ▸ h2); have HG18 := Lib.hid ((HG15.out _).trans f2)
                  clear h2 f2 hs
                  go_wp2_with fail
                  all_goals (try (exfalso; (simp at *; omega)))
                  go_ret
                  have hM : ((atomQ T nx) s0).2 = s18 := by simp [atomQ, HV1.out, HV2.out, HV4.out, HV5.out, HV6.out, HV14.out, HV15.out, HV16.out, HE18.out]
                  exact ⟨⟨_, rfl, by simp [atomQ, qapp, HV1.out, HV2.out, HV4.out, HV5.out, HV6.out, HV14.out, HV15.out, HV16.out, HE18.out]⟩, by rw [hM]; exact HP18.out, HG18.out⟩
              · skip
                go_wp2_with fail
                all_goals (try (exfalso; (simp at *; omega)))
                have HPo19 : Hid (s0.i < T.length) := Lib.hid HP15.out.ok
                refine (HL.out _ _ HP15.out).mono ?_
                rintro e w19 ⟨⟨x19, rfl, hx⟩, h2, f2⟩
                have hxs19 : x19.size ≤ 10000100 := by rw [qsize hx]; exact Nat.le_trans (leaf_lenA HR.out HPo19.out) (by decide)
                obtain ⟨s19, hs⟩ : ∃ s19, (leafQ T s0).2 = s19 := ⟨_, rfl⟩
                have HX19 := Lib.hid hx; have HE19 := Lib.hid hs; have HP19 : Hid (PAt w19 b q c T D s19) := Lib.hid (hs ▸ h2); have HG19 := Lib.hid (HG15.out.trans f2)
                clear hx h2 f2 hs
                go_wp2_with fail
                all_goals (try (exfalso; (simp at *; omega)))
                refine (HSX.out _ _ HP19.out).mono ?_
                rintro e w20 ⟨⟨x20, rfl, hx⟩, h2, f2⟩
                have hxs20 : x20.size ≤ 10000100 := by rw [qsize hx]; exact Nat.le_trans (len_ok HR.out (HTX.out _)) (by decide)
                obtain ⟨s20, hs⟩ : ∃ s20, ((nx.expr) s19).2 = s20 := ⟨_, rfl⟩
                have HX20 := Lib.hid hx; have HE20 := Lib.hid hs; have HP20 : Hid (PAt w20 b q c T D s20) := Lib.hid (hs ▸ h2); have HG20 := Lib.hid (HG19.out.trans f2)
                clear hx h2 f2 hs
                go_wp2_with fail
                all_goals (try (exfalso; (simp at *; omega)))
                refine (HMU.out [41] _ _ HP20.out).mono ?_
                rintro e w21 ⟨⟨x21, rfl, hx⟩, h2, f2⟩
                have hxs21 : x21.size ≤ 10000100 := by rw [qsize hx]; exact Nat.le_trans (len_ok HR.out (must_fits T _ _)) (by decide)
                obtain ⟨s21, hs⟩ : ∃ s21, (mustQ T [41] s20).2 = s21 := ⟨_, rfl⟩
                have HX21 := Lib.hid hx; have HE21 := Lib.hid hs; have HP21 : Hid (PAt w21 b q c T D s21) := Lib.hid (hs ▸ h2); have HG21 := Lib.hid (HG20.out.trans f2)
                clear hx h2 f2 hs
                go_wp2_with fail
                all_goals (try (exfalso; (simp at *; omega)))
                go_ret
                have hM : ((atomQ T nx) s0).2 = s21 := by simp [atomQ, HV1.out, HV2.out, HV4.out, HV5.out, HV6.out, HV14.out, HV15.out, HX19.out, HE19.out, HX20.out, HE20.out, HX21.out, HE21.out]
                exact ⟨⟨_, rfl, by simp [atomQ, qapp, HV1.out, HV2.out, HV4.out, HV5.out, HV6.out, HV14.out, HV15.out, HX19.out, HE19.out, HX20.out, HE20.out, HX21.out, HE21.out]⟩, by rw [hM]; exact HP21.out, HG21.out⟩
            · skip
              go_wp2_with fail
              all_goals (try (exfalso; (simp at *; omega)))
              have HPo22 : Hid (s0.i < T.length) := Lib.hid HP14.out.ok
              refine (HL.out _ _ HP14.out).mono ?_
              rintro e w22 ⟨⟨x22, rfl, hx⟩, h2, f2⟩
              have hxs22 : x22.size ≤ 10000100 := by rw [qsize hx]; exact Nat.le_trans (leaf_lenA HR.out HPo22.out) (by decide)
              obtain ⟨s22, hs⟩ : ∃ s22, (leafQ T s0).2 = s22 := ⟨_, rfl⟩
              have HX22 := Lib.hid hx; have HE22 := Lib.hid hs; have HP22 : Hid (PAt w22 b q c T D s22) := Lib.hid (hs ▸ h2); have HG22 := Lib.hid (HG14.out.trans f2)
              clear hx h2 f2 hs
              go_wp2_with fail
              all_goals (try (exfalso; (simp at *; omega)))
              go_ret
              have hM : ((atomQ T nx) s0).2 = s22 := by simp [atomQ, HV1.out, HV2.out, HV4.out, HV5.out, HV6.out, HV14.out, HX22.out, HE22.out]
              exact ⟨⟨_, rfl, by simp [atomQ, qapp, HV1.out, HV2.out, HV4.out, HV5.out, HV6.out, HV14.out, HX22.out, HE22.out]⟩, by rw [hM]; exact HP22.out, HG22.out⟩
        · skip
          go_wp2_with fail
          all_goals (try (exfalso; (simp at *; omega)))
          have HPo23 : Hid (s0.i < T.length) := Lib.hid HP5.out.ok
          refine (HL.out _ _ HP5.out).mono ?_
          rintro e w23 ⟨⟨x23, rfl, hx⟩, h2, f2⟩
          have hxs23 : x23.size ≤ 10000100 := by rw [qsize hx]; exact Nat.le_trans (leaf_lenA HR.out HPo23.out) (by decide)
          obtain ⟨s23, hs⟩ : ∃ s23, (leafQ T s0).2 = s23 := ⟨_, rfl⟩
          have HX23 := Lib.hid hx; have HE23 := Lib.hid hs; have HP23 : Hid (PAt w23 b q c T D s23) := Lib.hid (hs ▸ h2); have HG23 := Lib.hid (HG5.out.trans f2)
          clear hx h2 f2 hs
          go_wp2_with fail
          all_goals (try (exfalso; (simp at *; omega)))
          go_ret
          have hM : ((atomQ T nx) s0).2 = s23 := by simp [atomQ, HV1.out, HV2.out, HV4.out, HV5.out, HX23.out, HE23.out]
          exact ⟨⟨_, rfl, by simp [atomQ, qapp, HV1.out, HV2.out, HV4.out, HV5.out, HX23.out, HE23.out]⟩, by rw [hM]; exact HP23.out, HG23.out⟩
      · skip
        go_wp2_with fail
        all_goals (try (exfalso; (simp at *; omega)))
        have HPo24 : Hid (s0.i < T.length) := Lib.hid HP4.out.ok
        refine (HL.out _ _ HP4.out).mono ?_
        rintro e w24 ⟨⟨x24, rfl, hx⟩, h2, f2⟩
        have hxs24 : x24.size ≤ 10000100 := by rw [qsize hx]; exact Nat.le_trans (leaf_lenA HR.out HPo24.out) (by decide)
        obtain ⟨s24, hs⟩ : ∃ s24, (leafQ T s0).2 = s24 := ⟨_, rfl⟩
        have HX24 := Lib.hid hx; have HE24 := Lib.hid hs; have HP24 : Hid (PAt w24 b q c T D s24) := Lib.hid (hs ▸ h2); have HG24 := Lib.hid (HG4.out.trans f2)
        clear hx h2 f2 hs
        go_wp2_with fail
        all_goals (try (exfalso; (simp at *; omega)))
        go_ret
        have hM : ((atomQ T nx) s0).2 = s24 := by simp [atomQ, HV1.out, HV2.out, HV4.out, HX24.out, HE24.out]
        exact ⟨⟨_, rfl, by simp [atomQ, qapp, HV1.out, HV2.out, HV4.out, HX24.out, HE24.out]⟩, by rw [hM]; exact HP24.out, HG24.out⟩
  · have e2 : (E == 0) = false := beq_eq_false_iff_ne.2 he
    have e2' : ((E : Int) == 0) = false := beq_eq_false_iff_ne.2 (by omega)
    have e3 : (E != 0) = true := bne_iff_ne.2 he
    have e3' : ((E : Int) != 0) = true := bne_iff_ne.2 (by omega)
    have HV1 := Lib.hid (show ¬ s0.e = 0 from fun e => he (HV1.out.symm.trans e))
    clear he
    go_wp2_with fail
    all_goals (try (exfalso; (simp at *; omega)))
    go_ret
    have hM : ((atomQ T nx) s0).2 = s0 := by simp [atomQ, HV1.out]
    exact ⟨⟨_, rfl, by simp [atomQ, qapp, HV1.out]⟩, by rw [hM]; exact HP0.out, HG0.out⟩
end
end Go.Proofs.YthclkbaankjbiaaGreatDoor
