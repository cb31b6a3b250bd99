/- Lemmas. -/
import Derived.Test.YtddccnpohpaofaaGreatDoorP23
set_option linter.unusedVariables false
set_option linter.unusedSimpArgs false
namespace Go.Proofs.YtddccnpohpaofaaGreatDoor
open Go.RowKit

def decN (k : Nat) : List UInt8 := if k < 10 then [UInt8.ofNat (48 + k)] else [UInt8.ofNat (48 + k / 10), UInt8.ofNat (48 + k % 10)]
theorem dec_small : ∀ k, k < 100 → Lib.decDigits k = decN k := by
  intro k h
  unfold decN Lib.decDigits
  by_cases h1 : k < 10
  · rw [dif_pos h1, if_pos h1]
  · rw [dif_neg h1, if_neg h1]
    unfold Lib.decDigits
    rw [dif_pos (by omega)]; rfl
def nmE : Ex → List UInt8
  | .mk _ nm md _ _ _ _ => if md ≠ [] then 32 :: (md ++ 46 :: nm) else if nm ≠ [] then 32 :: nm else []
def tailE : Ex → List UInt8
  | .mk op _ _ nu ys _ _ => if op = 1 then 32 :: nu else if op = 2 then 32 :: (if ys = true then [116, 114, 117, 101] else [102, 97, 108, 115, 101]) else []
/-- What an expression's dump begins with, ahead of its kids. -/
def openE : Ex → List UInt8
  | .mk op nm md nu ys ks ps => 91 :: decN op ++ nmE (.mk op nm md nu ys ks ps) ++ tailE (.mk op nm md nu ys ks ps)
/-- What is asked of an expression's parts. -/
def smallE : Ex → Prop
  | .mk op nm md nu _ _ _ => op < 100 ∧ nm.length ≤ 1000000 ∧ md.length ≤ 1000000 ∧ nu.length ≤ 1000000

set_option maxRecDepth 100000 in
set_option maxHeartbeats 16000000 in
theorem aOpen_c (F : Nat → Prop) (x : Ex) (g o : Nat) (w : World) (hx : PAtE F w g o x) (hs : smallE x) :
    Calls Tryz.prog 26 #[.pointer (some ⟨g, o, none⟩)] w (StrGb (openE x) w) := by
  cases x with
  | mk op nm md nu ys ks ps =>
    obtain ⟨hF, hgl, q, hq, hc, he⟩ := hx
    obtain ⟨s1, s2, s3, s4⟩ := hs
    simp only [EAt] at he
    obtain ⟨s, pw, nw, cw, pk, ck, rows, rfl, hnum, -⟩ := he
    have c0 := hc 0 _ rfl
    have c1 := hc 1 _ rfl
    have c2 := hc 2 _ rfl
    have c3 := hc 3 _ rfl
    have c4 := hc 4 _ rfl
    have c5 := hc 5 _ rfl
    rw [Nat.add_zero] at c0
    obtain ⟨y, hy⟩ : ∃ y : ByteArray, (⟨nm.toArray⟩ : ByteArray) = y := ⟨_, rfl⟩
    obtain ⟨z, hz⟩ : ∃ z : ByteArray, (⟨md.toArray⟩ : ByteArray) = z := ⟨_, rfl⟩
    unfold strV at c1 c2
    rw [hy] at c1
    rw [hz] at c2
    have hyl : y.data.toList = nm := by rw [← hy]
    have hzl : z.data.toList = md := by rw [← hz]
    have hys := sz_list hyl
    have hzs := sz_list hzl
    have y1 : y.size ≤ 1000000 := by omega
    have z1 : z.size ≤ 1000000 := by omega
    have HIT := Lib.hid (Tryz.strconv_Itoa_small op s1)
    have HFB := Lib.hid (Tryz.strconv_FormatBool ys)
    have HNUM := Lib.hid hnum
    have HYL := Lib.hid hyl; have HZL := Lib.hid hzl
    have HD : Hid ((⟨(Lib.decDigits op).toArray⟩ : ByteArray).data.toList = decN op) := Lib.hid (by rw [← dec_small op s1])
    have hds : (⟨(Lib.decDigits op).toArray⟩ : ByteArray).size ≤ 2 := by
      rw [sz_list HD.out]; unfold decN; split <;> simp
    generalize (⟨(Lib.decDigits op).toArray⟩ : ByteArray) = dg at *
    clear hc hq hF hnum hy hz hyl hzl hys hzs
    have hze : z.toList.isEmpty = decide (md = []) := by
      rw [toList_data, HZL.out]; cases md <;> simp
    have hye : y.toList.isEmpty = decide (nm = []) := by
      rw [toList_data, HYL.out]; cases nm <;> simp
    go_enter Tryz.func26, Tryz.ntmps26
    go_wp2_with fail
    refine (HIT.out _).mono ?_
    rintro e w1 ⟨rfl, rfl⟩
    by_cases hm : md = []
    · have f1 : decide (md = []) = true := decide_eq_true hm
      by_cases hn0 : nm = []
      · have f2 : decide (nm = []) = true := decide_eq_true hn0
        have HMD := Lib.hid hm; have HNM := Lib.hid hn0
        clear hm hn0
        by_cases h1 : op = 1
        · have e1 : ((op : Int) == 1) = true := by rw [h1]; rfl
          have e1' : (op == 1) = true := by rw [h1]; rfl
          have hn := HNUM.out
          unfold NumAt at hn
          rw [if_pos h1] at hn
          have HST := Lib.hid (fun W (h : w1.grownBy W none) => Zd.String_c _ _ W (hn.1.kept h) (Zd.parseV_lim nu))
          have HTX : Hid (Zd.txt (Zd.parseV nu) = .string ⟨nu.toArray⟩) := Lib.hid (by unfold Zd.txt; rw [Zd.txtL_parse hn.2.1])
          rw [HTX.out] at HST
          obtain ⟨v, hv⟩ : ∃ v : ByteArray, (⟨nu.toArray⟩ : ByteArray) = v := ⟨_, rfl⟩
          have HVL : Hid (v.data.toList = nu) := Lib.hid (by rw [← hv])
          have v1 : v.size ≤ 1000000 := by rw [sz_list HVL.out]; exact s4
          rw [hv] at HST
          have H1 := Lib.hid h1
          clear hn hv HTX h1
          go_wp2_with fail
          (try (go_quiet (fail); go_wp2_with fail))
          refine (HST.out _ (by repeat (first | with_reducible exact gb_refl _ _ | with_reducible refine gb_drewN ?_ _))).mono ?_
          rintro e w2 ⟨rfl, hg2⟩
          have HG2 : Hid (w1.grownBy w2 none) := Lib.hid (gb_trans (by repeat (first | with_reducible exact gb_refl _ _ | with_reducible refine gb_drewN ?_ _)) hg2)
          clear hg2
          go_wp2_with fail
          go_ret
          exact ⟨⟨_, rfl, by simp [app_list, openE, nmE, tailE, HD.out, HYL.out, HZL.out, HVL.out, H1.out, HMD.out, HNM.out]⟩, by repeat (first | with_reducible exact HG2.out | with_reducible refine gb_drewN ?_ _)⟩
        · have e1 : ((op : Int) == 1) = false := beq_eq_false_iff_ne.2 (by omega)
          have e1' : (op == 1) = false := beq_eq_false_iff_ne.2 h1
          have H1 := Lib.hid h1
          by_cases h2 : op = 2
          · have e2 : ((op : Int) == 2) = true := by rw [h2]; rfl
            have e2' : (op == 2) = true := by rw [h2]; rfl
            have HVL : Hid ((⟨(Lib.formatBool ys).toArray⟩ : ByteArray).data.toList = if ys = true then [116, 114, 117, 101] else [102, 97, 108, 115, 101]) := Lib.hid (by cases ys <;> rfl)
            obtain ⟨v, hv⟩ : ∃ v : ByteArray, (⟨(Lib.formatBool ys).toArray⟩ : ByteArray) = v := ⟨_, rfl⟩
            rw [hv] at HVL HFB
            have v1 : v.size ≤ 1000000 := by rw [sz_list HVL.out]; split <;> simp
            have H2 := Lib.hid h2
            clear hv h1 h2
            go_wp2_with fail
            (try (go_quiet (fail); go_wp2_with fail))
            refine (HFB.out _).mono ?_
            rintro e w2 ⟨rfl, rfl⟩
            go_wp2_with fail
            go_ret
            exact ⟨⟨_, rfl, by simp [app_list, openE, nmE, tailE, HD.out, HYL.out, HZL.out, HVL.out, H2.out, HMD.out, HNM.out]⟩, by repeat (first | with_reducible exact gb_refl _ _ | with_reducible refine gb_drewN ?_ _)⟩
          · have e2 : ((op : Int) == 2) = false := beq_eq_false_iff_ne.2 (by omega)
            have e2' : (op == 2) = false := beq_eq_false_iff_ne.2 h2
            have H2 := Lib.hid h2
            clear h1 h2
            go_wp2_with fail
            (try (go_quiet (fail); go_wp2_with fail))
            go_ret
            exact ⟨⟨_, rfl, by simp [app_list, openE, nmE, tailE, HD.out, HYL.out, HZL.out, H1.out, H2.out, HMD.out, HNM.out]⟩, by repeat (first | with_reducible exact gb_refl _ _ | with_reducible refine gb_drewN ?_ _)⟩
      · have f2 : decide (nm = []) = false := decide_eq_false hn0
        have HMD := Lib.hid hm; have HNM := Lib.hid hn0
        clear hm hn0
        by_cases h1 : op = 1
        · have e1 : ((op : Int) == 1) = true := by rw [h1]; rfl
          have e1' : (op == 1) = true := by rw [h1]; rfl
          have hn := HNUM.out
          unfold NumAt at hn
          rw [if_pos h1] at hn
          have HST := Lib.hid (fun W (h : w1.grownBy W none) => Zd.String_c _ _ W (hn.1.kept h) (Zd.parseV_lim nu))
          have HTX : Hid (Zd.txt (Zd.parseV nu) = .string ⟨nu.toArray⟩) := Lib.hid (by unfold Zd.txt; rw [Zd.txtL_parse hn.2.1])
          rw [HTX.out] at HST
          obtain ⟨v, hv⟩ : ∃ v : ByteArray, (⟨nu.toArray⟩ : ByteArray) = v := ⟨_, rfl⟩
          have HVL : Hid (v.data.toList = nu) := Lib.hid (by rw [← hv])
          have v1 : v.size ≤ 1000000 := by rw [sz_list HVL.out]; exact s4
          rw [hv] at HST
          have H1 := Lib.hid h1
          clear hn hv HTX h1
          go_wp2_with fail
          (try (go_quiet (fail); go_wp2_with fail))
          refine (HST.out _ (by repeat (first | with_reducible exact gb_refl _ _ | with_reducible refine gb_drewN ?_ _))).mono ?_
          rintro e w2 ⟨rfl, hg2⟩
          have HG2 : Hid (w1.grownBy w2 none) := Lib.hid (gb_trans (by repeat (first | with_reducible exact gb_refl _ _ | with_reducible refine gb_drewN ?_ _)) hg2)
          clear hg2
          go_wp2_with fail
          go_ret
          exact ⟨⟨_, rfl, by simp [app_list, openE, nmE, tailE, HD.out, HYL.out, HZL.out, HVL.out, H1.out, HMD.out, HNM.out]⟩, by repeat (first | with_reducible exact HG2.out | with_reducible refine gb_drewN ?_ _)⟩
        · have e1 : ((op : Int) == 1) = false := beq_eq_false_iff_ne.2 (by omega)
          have e1' : (op == 1) = false := beq_eq_false_iff_ne.2 h1
          have H1 := Lib.hid h1
          by_cases h2 : op = 2
          · have e2 : ((op : Int) == 2) = true := by rw [h2]; rfl
            have e2' : (op == 2) = true := by rw [h2]; rfl
            have HVL : Hid ((⟨(Lib.formatBool ys).toArray⟩ : ByteArray).data.toList = if ys = true then [116, 114, 117, 101] else [102, 97, 108, 115, 101]) := Lib.hid (by cases ys <;> rfl)
            obtain ⟨v, hv⟩ : ∃ v : ByteArray, (⟨(Lib.formatBool ys).toArray⟩ : ByteArray) = v := ⟨_, rfl⟩
            rw [hv] at HVL HFB
            have v1 : v.size ≤ 1000000 := by rw [sz_list HVL.out]; split <;> simp
            have H2 := Lib.hid h2
            clear hv h1 h2
            go_wp2_with fail
            (try (go_quiet (fail); go_wp2_with fail))
            refine (HFB.out _).mono ?_
            rintro e w2 ⟨rfl, rfl⟩
            go_wp2_with fail
            go_ret
            exact ⟨⟨_, rfl, by simp [app_list, openE, nmE, tailE, HD.out, HYL.out, HZL.out, HVL.out, H2.out, HMD.out, HNM.out]⟩, by repeat (first | with_reducible exact gb_refl _ _ | with_reducible refine gb_drewN ?_ _)⟩
          · have e2 : ((op : Int) == 2) = false := beq_eq_false_iff_ne.2 (by omega)
            have e2' : (op == 2) = false := beq_eq_false_iff_ne.2 h2
            have H2 := Lib.hid h2
            clear h1 h2
            go_wp2_with fail
            (try (go_quiet (fail); go_wp2_with fail))
            go_ret
            exact ⟨⟨_, rfl, by simp [app_list, openE, nmE, tailE, HD.out, HYL.out, HZL.out, H1.out, H2.out, HMD.out, HNM.out]⟩, by repeat (first | with_reducible exact gb_refl _ _ | with_reducible refine gb_drewN ?_ _)⟩
    · have f1 : decide (md = []) = false := decide_eq_false hm
      have HMD := Lib.hid hm
      clear hm
      by_cases h1 : op = 1
      · have e1 : ((op : Int) == 1) = true := by rw [h1]; rfl
        have e1' : (op == 1) = true := by rw [h1]; rfl
        have hn := HNUM.out
        unfold NumAt at hn
        rw [if_pos h1] at hn
        have HST := Lib.hid (fun W (h : w1.grownBy W none) => Zd.String_c _ _ W (hn.1.kept h) (Zd.parseV_lim nu))
        have HTX : Hid (Zd.txt (Zd.parseV nu) = .string ⟨nu.toArray⟩) := Lib.hid (by unfold Zd.txt; rw [Zd.txtL_parse hn.2.1])
        rw [HTX.out] at HST
        obtain ⟨v, hv⟩ : ∃ v : ByteArray, (⟨nu.toArray⟩ : ByteArray) = v := ⟨_, rfl⟩
        have HVL : Hid (v.data.toList = nu) := Lib.hid (by rw [← hv])
        have v1 : v.size ≤ 1000000 := by rw [sz_list HVL.out]; exact s4
        rw [hv] at HST
        have H1 := Lib.hid h1
        clear hn hv HTX h1
        go_wp2_with fail
        (try (go_quiet (fail); go_wp2_with fail))
        refine (HST.out _ (by repeat (first | with_reducible exact gb_refl _ _ | with_reducible refine gb_drewN ?_ _))).mono ?_
        rintro e w2 ⟨rfl, hg2⟩
        have HG2 : Hid (w1.grownBy w2 none) := Lib.hid (gb_trans (by repeat (first | with_reducible exact gb_refl _ _ | with_reducible refine gb_drewN ?_ _)) hg2)
        clear hg2
        go_wp2_with fail
        go_ret
        exact ⟨⟨_, rfl, by simp [app_list, openE, nmE, tailE, HD.out, HYL.out, HZL.out, HVL.out, H1.out, HMD.out]⟩, by repeat (first | with_reducible exact HG2.out | with_reducible refine gb_drewN ?_ _)⟩
      · have e1 : ((op : Int) == 1) = false := beq_eq_false_iff_ne.2 (by omega)
        have e1' : (op == 1) = false := beq_eq_false_iff_ne.2 h1
        have H1 := Lib.hid h1
        by_cases h2 : op = 2
        · have e2 : ((op : Int) == 2) = true := by rw [h2]; rfl
          have e2' : (op == 2) = true := by rw [h2]; rfl
          have HVL : Hid ((⟨(Lib.formatBool ys).toArray⟩ : ByteArray).data.toList = if ys = true then [116, 114, 117, 101] else [102, 97, 108, 115, 101]) := Lib.hid (by cases ys <;> rfl)
          obtain ⟨v, hv⟩ : ∃ v : ByteArray, (⟨(Lib.formatBool ys).toArray⟩ : ByteArray) = v := ⟨_, rfl⟩
          rw [hv] at HVL HFB
          have v1 : v.size ≤ 1000000 := by rw [sz_list HVL.out]; split <;> simp
          have H2 := Lib.hid h2
          clear hv h1 h2
          go_wp2_with fail
          (try (go_quiet (fail); go_wp2_with fail))
          refine (HFB.out _).mono ?_
          rintro e w2 ⟨rfl, rfl⟩
          go_wp2_with fail
          go_ret
          exact ⟨⟨_, rfl, by simp [app_list, openE, nmE, tailE, HD.out, HYL.out, HZL.out, HVL.out, H2.out, HMD.out]⟩, by repeat (first | with_reducible exact gb_refl _ _ | with_reducible refine gb_drewN ?_ _)⟩
        · have e2 : ((op : Int) == 2) = false := beq_eq_false_iff_ne.2 (by omega)
          have e2' : (op == 2) = false := beq_eq_false_iff_ne.2 h2
          have H2 := Lib.hid h2
          clear h1 h2
          go_wp2_with fail
          (try (go_quiet (fail); go_wp2_with fail))
          go_ret
          exact ⟨⟨_, rfl, by simp [app_list, openE, nmE, tailE, HD.out, HYL.out, HZL.out, H1.out, H2.out, HMD.out]⟩, by repeat (first | with_reducible exact gb_refl _ _ | with_reducible refine gb_drewN ?_ _)⟩
end Go.Proofs.YtddccnpohpaofaaGreatDoor
