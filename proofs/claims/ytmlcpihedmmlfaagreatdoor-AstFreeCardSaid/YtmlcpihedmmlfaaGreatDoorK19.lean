/- What an expression's dump begins with. -/
import Derived.Test.YtmlcpihedmmlfaaGreatDoorK13
import Derived.Test.YtmlcpihedmmlfaaGreatDoorK10
import Derived.Test.YtmlcpihedmmlfaaGreatDoorK12
set_option linter.unusedVariables false
set_option linter.unusedSimpArgs false
namespace Go.Proofs.YtmlcpihedmmlfaaGreatDoor
open Go.RowKit

def decN (k : Nat) : List UInt8 := if k < 10 then [UInt8.ofNat (48 + k)] else [UInt8.ofNat (48 + k / 10), UInt8.ofNat (48 + k % 10)]
theorem dec_small : ∀ k, k < 100 → Lib.decDigits k = decN k := by
  intro k h
  unfold decN Lib.decDigits
  by_cases h1 : k < 10
  · rw [dif_pos h1, if_pos h1]
  · rw [dif_neg h1, if_neg h1]
    unfold Lib.decDigits
    rw [dif_pos (by omega)]; rfl
def nmE : Ex → List UInt8
  | .mk _ nm md _ _ _ _ => if md ≠ [] then 32 :: (md ++ 46 :: nm) else if nm ≠ [] then 32 :: nm else []
def tailE : Ex → List UInt8
  | .mk op _ _ nu ys _ _ => if op = 1 then 32 :: nu else if op = 2 then 32 :: (if ys = true then [116, 114, 117, 101] else [102, 97, 108, 115, 101]) else []
/-- What an expression's dump begins with, ahead of its kids. -/
def openE : Ex → List UInt8
  | .mk op nm md nu ys ks ps => 91 :: decN op ++ nmE (.mk op nm md nu ys ks ps) ++ tailE (.mk op nm md nu ys ks ps)
/-- What is asked of an expression's parts. -/
def smallE : Ex → Prop
  | .mk op nm md nu _ _ _ => op < 100 ∧ nm.length ≤ 1000000 ∧ md.length ≤ 1000000 ∧ nu.length ≤ 1000000

set_option maxRecDepth 100000 in
set_option maxHeartbeats 16000000 in
theorem aOpen_c (F : Nat → Prop) (x : Ex) (g o : Nat) (w : World) (hx : PAtE F w g o x) (hs : smallE x) :
    Calls Tryz.prog 55 #[.pointer (some ⟨g, o, none⟩)] w (StrGb (openE x) w) := by
  cases x with
  | mk op nm md nu ys ks ps =>
    obtain ⟨hF, hgl, q, hq, hc, he⟩ := hx
    obtain ⟨s1, s2, s3, s4⟩ := hs
    simp only [EAt] at he
    obtain ⟨s, pw, nw, cw, pk, ck, rows, rfl, hnum, -⟩ := he
    have c0 := hc 0 _ rfl
    have c1 := hc 1 _ rfl
    have c2 := hc 2 _ rfl
    have c3 := hc 3 _ rfl
    have c4 := hc 4 _ rfl
    have c5 := hc 5 _ rfl
    rw [Nat.add_zero] at c0
    obtain ⟨y, hy⟩ : ∃ y : ByteArray, (⟨nm.toArray⟩ : ByteArray) = y := ⟨_, rfl⟩
    obtain ⟨z, hz⟩ : ∃ z : ByteArray, (⟨md.toArray⟩ : ByteArray) = z := ⟨_, rfl⟩
    unfold strV at c1 c2
    rw [hy] at c1
    rw [hz] at c2
    have hyl : y.data.toList = nm := by rw [← hy]
    have hzl : z.data.toList = md := by rw [← hz]
    have hys := sz_list hyl
    have hzs := sz_list hzl
    have y1 : y.size ≤ 1000000 := by omega
    have z1 : z.size ≤ 1000000 := by omega
    have HIT := Lib.hid (Tryz.strconv_Itoa_small op s1)
    have HFB := Lib.hid (Tryz.strconv_FormatBool ys)
    have HNUM := Lib.hid hnum
    have HYL := Lib.hid hyl; have HZL := Lib.hid hzl
    have HD : Hid ((⟨(Lib.decDigits op).toArray⟩ : ByteArray).data.toList = decN op) := Lib.hid (by rw [← dec_small op s1])
    have hds : (⟨(Lib.decDigits op).toArray⟩ : ByteArray).size ≤ 2 := by
      rw [sz_list HD.out]; unfold decN; split <;> simp
    generalize (⟨(Lib.decDigits op).toArray⟩ : ByteArray) = dg at *
    clear hc hq hF hnum hy hz hyl hzl hys hzs
    have hze : z.toList.isEmpty = decide (md = []) := by
      rw [toList_data, HZL.out]; cases md <;> simp
    have hye : y.toList.isEmpty = decide (nm = []) := by
      rw [toList_data, HYL.out]; cases nm <;> simp
    go_enter Tryz.func55, Tryz.ntmps55
    go_wp2_with fail
    refine (HIT.out _).mono ?_
    rintro e w1 ⟨rfl, rfl⟩
    by_cases hm : md = []
    · have f1 : decide (md = []) = true := decide_eq_true hm
      by_cases hn0 : nm = []
      · have f2 : decide (nm = []) = true := decide_eq_true hn0
        have HMD := Lib.hid hm; have HNM := Lib.hid hn0
        clear hm hn0
        by_cases h1 : op = 1
        · have e1 : ((op : Int) == 1) = true := by rw [h1]; rfl
          have e1' : (op == 1) = true := by rw [h1]; rfl
          have hn := HNUM.out
          unfold NumAt at hn
          rw [if_pos h1] at hn
          have HST := Lib.hid (fun W (h : w1.grownBy W none) => Zd.String_c _ _ W (hn.1.kept h) (Zd.parseV_lim nu))
          have HTX : Hid (Zd.txt (Zd.parseV nu) = .string ⟨nu.toArray⟩) := Lib.hid (by unfold Zd.txt; rw [Zd.txtL_parse hn.2.1])
          rw [HTX.out] at HST
          obtain ⟨v, hv⟩ : ∃ v : ByteArray, (⟨nu.toArray⟩ : ByteArray) = v := ⟨_, rfl⟩
          have HVL : Hid (v.data.toList = nu) := Lib.hid (by rw [← hv])
          have v1 : v.size ≤ 1000000 := by rw [sz_list HVL.out]; exact s4
          rw [hv] at HST
          have H1 := Lib.hid h1
          clear hn hv HTX h1
          go_wp2_with fail
          (try (go_quiet (fail); go_wp2_with fail))
          refine (HST.out _ (by repeat (first | with_reducible exact gb_refl _ _ | with_reducible refine gb_drewN ?_ _))).mono ?_
          rintro e w2 ⟨rfl, hg2⟩
          have HG2 : Hid (w1.grownBy w2 none) := Lib.hid (gb_trans (by repeat (first | with_reducible exact gb_refl _ _ | with_reducible refine gb_drewN ?_ _)) hg2)
          clear hg2
          go_wp2_with fail
          go_ret
          exact ⟨⟨_, rfl, by simp [app_list, openE, nmE, tailE, HD.out, HYL.out, HZL.out, HVL.out, H1.out, HMD.out, HNM.out]⟩, by repeat (first | with_reducible exact HG2.out | with_reducible refine gb_drewN ?_ _)⟩
        · have e1 : ((op : Int) == 1) = false := beq_eq_false_iff_ne.2 (by omega)
          have e1' : (op == 1) = false := beq_eq_false_iff_ne.2 h1
          have H1 := Lib.hid h1
          by_cases h2 : op = 2
          · have e2 : ((op : Int) == 2) = true := by rw [h2]; rfl
            have e2' : (op == 2) = true := by rw [h2]; rfl
            have HVL : Hid ((⟨(Lib.formatBool ys).toArray⟩ : ByteArray).data.toList = if ys = true then [116, 114, 117, 101] else [102, 97, 108, 115, 101]) := Lib.hid (by cases ys <;> rfl)
            obtain ⟨v, hv⟩ : ∃ v : ByteArray, (⟨(Lib.formatBool ys).toArray⟩ : ByteArray) = v := ⟨_, rfl⟩
            rw [hv] at HVL HFB
            have v1 : v.size ≤ 1000000 := by rw [sz_list HVL.out]; split <;> simp
            have H2 := Lib.hid h2
            clear hv h1 h2
            go_wp2_with fail
            (try (go_quiet (fail); go_wp2_with fail))
            refine (HFB.out _).mono ?_
            rintro e w2 ⟨rfl, rfl⟩
            go_wp2_with fail
            go_ret
            exact ⟨⟨_, rfl, by simp [app_list, openE, nmE, tailE, HD.out, HYL.out, HZL.out, HVL.out, H2.out, HMD.out, HNM.out]⟩, by repeat (first | with_reducible exact gb_refl _ _ | with_reducible refine gb_drewN ?_ _)⟩
          · have e2 : ((op : Int) == 2) = false := beq_eq_false_iff_ne.2 (by omega)
            have e2' : (op == 2) = false := beq_eq_false_iff_ne.2 h2
            have H2 := Lib.hid h2
            clear h1 h2
            go_wp2_with fail
            (try (go_quiet (fail); go_wp2_with fail))
            go_ret
            exact ⟨⟨_, rfl, by simp [app_list, openE, nmE, tailE, HD.out, HYL.out, HZL.out, H1.out, H2.out, HMD.out, HNM.out]⟩, by repeat (first | with_reducible exact gb_refl _ _ | with_reducible refine gb_drewN ?_ _)⟩
      · have f2 : decide (nm = []) = false := decide_eq_false hn0
        have HMD := Lib.hid hm; have HNM := Lib.hid hn0
        clear hm hn0
        by_cases h1 : op = 1
        · have e1 : ((op : Int) == 1) = true := by rw [h1]; rfl
          have e1' : (op == 1) = true := by rw [h1]; rfl
          have hn := HNUM.out
          unfold NumAt at hn
          rw [if_pos h1] at hn
          have HST := Lib.hid (fun W (h : w1.grownBy W none) => Zd.String_c _ _ W (hn.1.kept h) (Zd.parseV_lim nu))
          have HTX : Hid (Zd.txt (Zd.parseV nu) = .string ⟨nu.toArray⟩) := Lib.hid (by unfold Zd.txt; rw [Zd.txtL_parse hn.2.1])
          rw [HTX.out] at HST
          obtain ⟨v, hv⟩ : ∃ v : ByteArray, (⟨nu.toArray⟩ : ByteArray) = v := ⟨_, rfl⟩
          have HVL : Hid (v.data.toList = nu) := Lib.hid (by rw [← hv])
          have v1 : v.size ≤ 1000000 := by rw [sz_list HVL.out]; exact s4
          rw [hv] at HST
          have H1 := Lib.hid h1
          clear hn hv HTX h1
          go_wp2_with fail
          (try (go_quiet (fail); go_wp2_with fail))
          refine (HST.out _ (by repeat (first | with_reducible exact gb_refl _ _ | with_reducible refine gb_drewN ?_ _))).mono ?_
          rintro e w2 ⟨rfl, hg2⟩
          have HG2 : Hid (w1.grownBy w2 none) := Lib.hid (gb_trans (by repeat (first | with_reducible exact gb_refl _ _ | with_reducible refine gb_drewN ?_ _)) hg2)
          clear hg2
          go_wp2_with fail
          go_ret
          exact ⟨⟨_, rfl, by simp [app_list, openE, nmE, tailE, HD.out, HYL.out, HZL.out, HVL.out, H1.out, HMD.out, HNM.out]⟩, by repeat (first | with_reducible exact HG2.out | with_reducible refine gb_drewN ?_ _)⟩
        · have e1 : ((op : Int) == 1) = false := beq_eq_false_iff_ne.2 (by omega)
          have e1' : (op == 1) = false := beq_eq_false_iff_ne.2 h1
          have H1 := Lib.hid h1
          by_cases h2 : op = 2
          · have e2 : ((op : Int) == 2) = true := by rw [h2]; rfl
            have e2' : (op == 2) = true := by rw [h2]; rfl
            have HVL : Hid ((⟨(Lib.formatBool ys).toArray⟩ : ByteArray).data.toList = if ys = true then [116, 114, 117, 101] else [102, 97, 108, 115, 101]) := Lib.hid (by cases ys <;> rfl)
            obtain ⟨v, hv⟩ : ∃ v : ByteArray, (⟨(Lib.formatBool ys).toArray⟩ : ByteArray) = v := ⟨_, rfl⟩
            rw [hv] at HVL HFB
            have v1 : v.size ≤ 1000000 := by rw [sz_list HVL.out]; split <;> simp
            have H2 := Lib.hid h2
            clear hv h1 h2
            go_wp2_with fail
            (try (go_quiet (fail); go_wp2_with fail))
            refine (HFB.out _).mono ?_
            rintro e w2 ⟨rfl, rfl⟩
            go_wp2_with fail
            go_ret
            exact ⟨⟨_, rfl, by simp [app_list, openE, nmE, tailE, HD.out, HYL.out, HZL.out, HVL.out, H2.out, HMD.out, HNM.out]⟩, by repeat (first | with_reducible exact gb_refl _ _ | with_reducible refine gb_drewN ?_ _)⟩
          · have e2 : ((op : Int) == 2) = false := beq_eq_false_iff_ne.2 (by omega)
            have e2' : (op == 2) = false := beq_eq_false_iff_ne.2 h2
            have H2 := Lib.hid h2
            clear h1 h2
            go_wp2_with fail
            (try (go_quiet (fail); go_wp2_with fail))
            go_ret
            exact ⟨⟨_, rfl, by simp [app_list, openE, nmE, tailE, HD.out, HYL.out, HZL.out, H1.out, H2.out, HMD.out, HNM.out]⟩, by repeat (first | with_reducible exact gb_refl _ _ | with_reducible refine gb_drewN ?_ _)⟩
    · have f1 : decide (md = []) = false := decide_eq_false hm
      have HMD := Lib.hid hm
      clear hm
      by_cases h1 : op = 1
      · have e1 : ((op : Int) == 1) = true := by rw [h1]; rfl
        have e1' : (op == 1) = true := by rw [h1]; rfl
        have hn := HNUM.out
        unfold NumAt at hn
        rw [if_pos h1] at hn
        have HST := Lib.hid (fun W (h : w1.grownBy W none) => Zd.String_c _ _ W (hn.1.kept h) (Zd.parseV_lim nu))
        have HTX : Hid (Zd.txt (Zd.parseV nu) = .string ⟨nu.toArray⟩) := Lib.hid (by unfold Zd.txt; rw [Zd.txtL_parse hn.2.1])
        rw [HTX.out] at HST
        obtain ⟨v, hv⟩ : ∃ v : ByteArray, (⟨nu.toArray⟩ : ByteArray) = v := ⟨_, rfl⟩
        have HVL : Hid (v.data.toList = nu) := Lib.hid (by rw [← hv])
        have v1 : v.size ≤ 1000000 := by rw [sz_list HVL.out]; exact s4
        rw [hv] at HST
        have H1 := Lib.hid h1
        clear hn hv HTX h1
        go_wp2_with fail
        (try (go_quiet (fail); go_wp2_with fail))
        refine (HST.out _ (by repeat (first | with_reducible exact gb_refl _ _ | with_reducible refine gb_drewN ?_ _))).mono ?_
        rintro e w2 ⟨rfl, hg2⟩
        have HG2 : Hid (w1.grownBy w2 none) := Lib.hid (gb_trans (by repeat (first | with_reducible exact gb_refl _ _ | with_reducible refine gb_drewN ?_ _)) hg2)
        clear hg2
        go_wp2_with fail
        go_ret
        exact ⟨⟨_, rfl, by simp [app_list, openE, nmE, tailE, HD.out, HYL.out, HZL.out, HVL.out, H1.out, HMD.out]⟩, by repeat (first | with_reducible exact HG2.out | with_reducible refine gb_drewN ?_ _)⟩
      · have e1 : ((op : Int) == 1) = false := beq_eq_false_iff_ne.2 (by omega)
        have e1' : (op == 1) = false := beq_eq_false_iff_ne.2 h1
        have H1 := Lib.hid h1
        by_cases h2 : op = 2
        · have e2 : ((op : Int) == 2) = true := by rw [h2]; rfl
          have e2' : (op == 2) = true := by rw [h2]; rfl
          have HVL : Hid ((⟨(Lib.formatBool ys).toArray⟩ : ByteArray).data.toList = if ys = true then [116, 114, 117, 101] else [102, 97, 108, 115, 101]) := Lib.hid (by cases ys <;> rfl)
          obtain ⟨v, hv⟩ : ∃ v : ByteArray, (⟨(Lib.formatBool ys).toArray⟩ : ByteArray) = v := ⟨_, rfl⟩
          rw [hv] at HVL HFB
          have v1 : v.size ≤ 1000000 := by rw [sz_list HVL.out]; split <;> simp
          have H2 := Lib.hid h2
          clear hv h1 h2
          go_wp2_with fail
          (try (go_quiet (fail); go_wp2_with fail))
          refine (HFB.out _).mono ?_
          rintro e w2 ⟨rfl, rfl⟩
          go_wp2_with fail
          go_ret
          exact ⟨⟨_, rfl, by simp [app_list, openE, nmE, tailE, HD.out, HYL.out, HZL.out, HVL.out, H2.out, HMD.out]⟩, by repeat (first | with_reducible exact gb_refl _ _ | with_reducible refine gb_drewN ?_ _)⟩
        · have e2 : ((op : Int) == 2) = false := beq_eq_false_iff_ne.2 (by omega)
          have e2' : (op == 2) = false := beq_eq_false_iff_ne.2 h2
          have H2 := Lib.hid h2
          clear h1 h2
          go_wp2_with fail
          (try (go_quiet (fail); go_wp2_with fail))
          go_ret
          exact ⟨⟨_, rfl, by simp [app_list, openE, nmE, tailE, HD.out, HYL.out, HZL.out, H1.out, H2.out, HMD.out]⟩, by repeat (first | with_reducible exact gb_refl _ _ | with_reducible refine gb_drewN ?_ _)⟩
end Go.Proofs.YtmlcpihedmmlfaaGreatDoor
namespace Go.Proofs.YtmlcpihedmmlfaaGreatDoor
open Go.RowKit

mutual
/-- An expression's dump. -/
def dmpE : Ex → List UInt8
  | .mk op nm md nu ys ks ps => openE (.mk op nm md nu ys ks ps) ++ dmpK ks ++ [93]
def dmpK : List Ex → List UInt8
  | [] => []
  | k :: l => 32 :: dmpE k ++ dmpK l
end
def stD (s : List UInt8) (x : Ex) (d : Nat) : List UInt8 := s ++ ((if d = 0 then openE x else []) ++ (if d = (kidsE x).length then [93] else [32]))
mutual
theorem runE_D : ∀ (x : Ex) (s : List UInt8), runE stD x s = s ++ dmpE x
  | .mk op nm md nu ys ks ps, s => by
    simp only [runE, dmpE]
    have h := runK_D (.mk op nm md nu ys ks ps) 0 ks (s ++ openE (.mk op nm md nu ys ks ps)) (by simp [kidsE])
    have e : stD s (.mk op nm md nu ys ks ps) 0 = s ++ openE (.mk op nm md nu ys ks ps) ++ (if ks = [] then [93] else [32]) := by
      unfold stD; rw [if_pos rfl]
      show s ++ (_ ++ (if 0 = ks.length then [93] else [32])) = _
      rw [List.append_assoc]
      by_cases hk : ks = []
      · subst hk; rfl
      · rw [if_neg hk, if_neg (by intro h0; exact hk (List.eq_nil_of_length_eq_zero h0.symm))]
    rw [e, h]; simp
theorem runK_D (x : Ex) : ∀ (j : Nat) (l : List Ex) (s : List UInt8), j + l.length = (kidsE x).length → runK stD x j l (s ++ (if l = [] then [93] else [32])) = s ++ dmpK l ++ [93]
  | j, [], s, h => by simp [runK, dmpK]
  | j, k :: l, s, h => by
    simp only [runK, dmpK]
    rw [if_neg (by simp), runE_D k]
    have h1 : j + 1 + l.length = (kidsE x).length := by simp at h; omega
    have e : stD (s ++ [32] ++ dmpE k) x (j + 1) = (s ++ 32 :: dmpE k) ++ (if l = [] then [93] else [32]) := by
      unfold stD
      rw [if_neg (by omega)]
      by_cases hl : l = []
      · subst hl
        rw [if_pos rfl, if_pos (by simpa using h1)]; simp
      · have : 0 < l.length := List.length_pos_iff.2 hl
        rw [if_neg hl, if_neg (by omega)]; simp
    rw [e, runK_D x (j + 1) l _ h1]; simp
end
mutual
/-- All parts of an expression are small. -/
def allS : Ex → Prop
  | .mk op nm md nu ys ks ps => smallE (.mk op nm md nu ys ks ps) ∧ allSs ks
def allSs : List Ex → Prop
  | [] => True
  | k :: l => allS k ∧ allSs l
end
theorem allSs_mem : ∀ {l : List Ex} {k : Ex}, allSs l → k ∈ l → allS k
  | [], k, _, h => by cases h
  | y :: l, k, hs, h => by
    simp only [allSs] at hs
    rcases List.mem_cons.1 h with h | h
    · subst h; exact hs.1
    · exact allSs_mem hs.2 h
theorem allS_kid {x k : Ex} (h : allS x) (hk : k ∈ kidsE x) : allS k := by
  cases x with
  | mk op nm md nu ys ks ps => simp only [allS] at h; exact allSs_mem h.2 hk
theorem allS_small {x : Ex} (h : allS x) : smallE x := by
  cases x with
  | mk op nm md nu ys ks ps => simp only [allS] at h; exact h.1

def PD (B b : Nat) (s : List UInt8) (w : World) : Prop := Lib.IsBuilder 101 5 B b (Lib.byteCells s) w ∧ B ≤ w.heap.size
def LD (s : List UInt8) : Prop := s.length ≤ 1000000

theorem PD.gb {B b : Nat} {s : List UInt8} {w w' : World} (h : PD B b s w) (hg : w.grownBy w' none) : PD B b s w' := ⟨bld_kept h.1 hg, Nat.le_trans h.2 hg.size⟩

set_option maxRecDepth 100000 in
set_option maxHeartbeats 16000000 in
theorem dump1_c (F : Nat → Prop) (B b : Nat) (hF : ∀ k, F k → k < B) (s : List UInt8) (f : Fm) (w : World) (hp : PD B b s w) (hx : PAtE F w f.g f.o f.x) (hd : f.d ≤ (kidsE f.x).length) (hq : allS f.x) (hl : LD (stD s f.x f.d)) :
    Calls Tryz.prog 54 #[.pointer (some ⟨f.g, f.o, none⟩), .int .i64 (f.d : Int), .pointer (some ⟨b, 0, none⟩)] w (fun e w' => e = .returned (.tuple #[]) ∧ PD B b (stD s f.x f.d) w' ∧ Below B w w' ∧ OKept b w w') := by
  have HOP := Lib.hid (aOpen_c F f.x f.g f.o w hx (allS_small hq))
  obtain ⟨pk, ck, c6, -⟩ := hx.kids
  have hgl := hx.2.1
  have HGB : Hid (f.g < B) := Lib.hid (hF _ hx.1)
  have HP := Lib.hid hp; have HL := Lib.hid hl
  obtain ⟨fg, hfg⟩ : ∃ fg, f.g = fg := ⟨_, rfl⟩
  obtain ⟨fo, hfo⟩ : ∃ fo, f.o = fo := ⟨_, rfl⟩
  obtain ⟨fd, hfd⟩ : ∃ fd, f.d = fd := ⟨_, rfl⟩
  obtain ⟨kn, hkn⟩ : ∃ kn, (kidsE f.x).length = kn := ⟨_, rfl⟩
  obtain ⟨x, hxx⟩ : ∃ x, f.x = x := ⟨_, rfl⟩
  rw [hfg, hfo] at HOP c6
  rw [hfg] at hgl HGB
  rw [hkn] at c6 hd
  rw [hfd] at HL hd
  rw [hfg, hfo, hfd]
  rw [hxx] at HOP HL hkn ⊢
  have HC6 := Lib.hid c6
  have HGL := Lib.hid hgl
  have HBW : Hid (B ≤ w.heap.size) := Lib.hid hp.2
  have HE : Hid (stD s x fd = s ++ ((if fd = 0 then openE x else []) ++ (if fd = kn then [93] else [32]))) := Lib.hid (by unfold stD; rw [hkn])
  clear hx hq hp hl hF hfg hfo hfd hkn hxx
  have HLL : Hid (s.length + (if fd = 0 then openE x else []).length + 1 ≤ 1000000) := Lib.hid (by
    have h := HL.out
    rw [HE.out] at h
    unfold LD at h
    simp only [List.length_append] at h
    have h3 : (if fd = kn then [93] else [32] : List UInt8).length = 1 := by split <;> rfl
    omega)
  -- the last byte told
  have HLAST : ∀ (t : List UInt8) (W : World), Hid (PD B b t W) → Hid (t.length + 1 ≤ 1000000) → ∀ (z : UInt8), Hid (Calls Tryz.prog 36 #[.pointer (some ⟨b, 0, none⟩), .string ⟨#[z]⟩] W (fun e w' => e = .returned (.tuple #[.int .i64 1, .nilIface]) ∧ PD B b (t ++ [z]) w' ∧ Below B W w' ∧ OKept b W w')) := fun t W h1 h2 z => Lib.hid ((WriteString_c B b _ ⟨#[z]⟩ W h1.out.1 (by rw [Lib.byteCells_length]; show t.length + 1 ≤ _; have := h2.out; omega) h1.out.2).mono (by
    rintro e w' ⟨rfl, ⟨h3, h4⟩, h5⟩
    refine ⟨rfl, ⟨.inr (by rw [Lib.byteCells_append]; exact h3), Nat.le_trans h1.out.2 h4.size⟩, h4, h5⟩))
  go_enter Tryz.func54, Tryz.ntmps54
  by_cases h0 : fd = 0
  · have e1 : ((fd : Int) == 0) = true := by rw [h0]; rfl
    have e1' : (fd == 0) = true := by rw [h0]; rfl
    have HLL2 : Hid (s.length + (openE x).length + 1 ≤ 1000000) := Lib.hid (by have h := HLL.out; rw [if_pos h0] at h; exact h)
    have HE2 : Hid (stD s x fd = s ++ openE x ++ (if fd = kn then [93] else [32])) := Lib.hid (by rw [HE.out, if_pos h0, List.append_assoc])
    clear h0 HE HLL
    go_wp2_with fail
    refine HOP.out.mono ?_
    rintro e w1 ⟨⟨y, rfl, hy⟩, hg1⟩
    have HY := Lib.hid hy; have HG1 := Lib.hid hg1
    have hys := sz_list hy
    have HYS : Hid (y.size ≤ 1000000) := Lib.hid (by rw [hys]; have := HLL2.out; omega)
    have HP1 := Lib.hid (HP.out.gb hg1)
    have HWS1 := Lib.hid (WriteString_c B b _ y w1 HP1.out.1 (by rw [Lib.byteCells_length, hys]; have := HLL2.out; omega) HP1.out.2)
    have c6 := hg1.cell c6 (by simp)
    have hgl := Nat.lt_of_lt_of_le hgl hg1.size
    clear hy hg1 HOP hys
    go_wp2_with fail
    refine HWS1.out.mono ?_
    rintro e w2 ⟨rfl, ⟨hb2, hbe2⟩, hok2⟩
    have HP2 : Hid (PD B b (s ++ openE x) w2) := Lib.hid ⟨.inr (by rw [← HY.out, Lib.byteCells_append]; exact hb2), Nat.le_trans HP1.out.2 hbe2.size⟩
    have HBE2 := Lib.hid (Below.trans2 (Below.gb HG1.out HBW.out) hbe2)
    have HOK2 := Lib.hid (OKept.trans (OKept.none HG1.out) hok2)
    have c6 := (World.cell?_of_block (a := ⟨fg, fo + 6, none⟩) (hbe2.block fg HGB.out)).trans c6
    have hgl := Nat.lt_of_lt_of_le hgl hbe2.size
    have HLA := fun z => HLAST _ _ HP2 (Lib.hid (by rw [List.length_append]; exact HLL2.out)) z
    clear hb2 hbe2 hok2 HWS1 HLAST
    by_cases hk : fd = kn
    · have e2 : ((fd : Int) == (kn : Int)) = true := beq_iff_eq.2 (by omega)
      have e2' : (fd == kn) = true := beq_iff_eq.2 hk
      have HK := Lib.hid hk
      have HLZ := HLA 93
      clear hk HLA
      go_wp2_with fail
      refine HLZ.out.mono ?_
      rintro e w3 ⟨rfl, hp3, hb3, ho3⟩
      go_wp2_with fail
      refine bodyPost_end (results_none rfl _ _ _) rfl ?_
      exact ⟨rfl, by rw [HE2.out, if_pos HK.out]; exact hp3, Below.trans2 HBE2.out hb3, OKept.trans HOK2.out ho3⟩
    · have e2 : ((fd : Int) == (kn : Int)) = false := beq_eq_false_iff_ne.2 (by omega)
      have e2' : (fd == kn) = false := beq_eq_false_iff_ne.2 hk
      have HK := Lib.hid hk
      have HLZ := HLA 32
      clear hk HLA
      go_wp2_with fail
      refine HLZ.out.mono ?_
      rintro e w3 ⟨rfl, hp3, hb3, ho3⟩
      go_wp2_with fail
      refine bodyPost_end (results_none rfl _ _ _) rfl ?_
      exact ⟨rfl, by rw [HE2.out, if_neg HK.out]; exact hp3, Below.trans2 HBE2.out hb3, OKept.trans HOK2.out ho3⟩
  · have e1 : ((fd : Int) == 0) = false := beq_eq_false_iff_ne.2 (by omega)
    have e1' : (fd == 0) = false := beq_eq_false_iff_ne.2 h0
    have HLL2 : Hid (s.length + 1 ≤ 1000000) := Lib.hid (by have h := HLL.out; omega)
    have HE2 : Hid (stD s x fd = s ++ (if fd = kn then [93] else [32])) := Lib.hid (by rw [HE.out, if_neg h0]; rfl)
    have HLA := fun z => HLAST _ _ HP HLL2 z
    clear h0 HE HLL HOP HLAST
    by_cases hk : fd = kn
    · have e2 : ((fd : Int) == (kn : Int)) = true := beq_iff_eq.2 (by omega)
      have e2' : (fd == kn) = true := beq_iff_eq.2 hk
      have HK := Lib.hid hk
      have HLZ := HLA 93
      clear hk HLA
      go_wp2_with fail
      refine HLZ.out.mono ?_
      rintro e w3 ⟨rfl, hp3, hb3, ho3⟩
      go_wp2_with fail
      refine bodyPost_end (results_none rfl _ _ _) rfl ?_
      exact ⟨rfl, by rw [HE2.out, if_pos HK.out]; exact hp3, hb3, ho3⟩
    · have e2 : ((fd : Int) == (kn : Int)) = false := beq_eq_false_iff_ne.2 (by omega)
      have e2' : (fd == kn) = false := beq_eq_false_iff_ne.2 hk
      have HK := Lib.hid hk
      have HLZ := HLA 32
      clear hk HLA
      go_wp2_with fail
      refine HLZ.out.mono ?_
      rintro e w3 ⟨rfl, hp3, hb3, ho3⟩
      go_wp2_with fail
      refine bodyPost_end (results_none rfl _ _ _) rfl ?_
      exact ⟨rfl, by rw [HE2.out, if_neg HK.out]; exact hp3, hb3, ho3⟩
end Go.Proofs.YtmlcpihedmmlfaaGreatDoor
namespace Go.Proofs.YtmlcpihedmmlfaaGreatDoor
open Go.RowKit

set_option maxRecDepth 100000 in
set_option maxHeartbeats 16000000 in
theorem walkD_c {σ : Type} (st : σ → Ex → Nat → σ) (b B : Nat) (F : Nat → Prop) (P : σ → World → Prop) (LL : σ → Prop) (QQ : Ex → Prop) (H : Tell st 54 b B F P LL QQ) (x : Ex) (g o : Nat) (s : σ) (w : World) (hs : P s w) (hx : PAtE F w g o x) (hB : b < w.heap.size) (hc : cntE x ≤ 1000000) (hL : LL (runE st x s)) (hQ : QQ x) :
    Calls Tryz.prog 53 #[.pointer (some ⟨g, o, none⟩), .func (.func 54) #[] #[.pointer (some ⟨b, 0, none⟩)]] w (fun e w' => e = .returned (.tuple #[]) ∧ P (runE st x s) w' ∧ Below B w w') := by
  have HH := Lib.hid H; have HP := Lib.hid hs; have HX := Lib.hid hx
  have HTL := Lib.hid H.tell
  obtain ⟨fin, hfin⟩ : ∃ fin, runE st x s = fin := ⟨_, rfl⟩
  have HFI := Lib.hid hfin
  rw [hfin] at hL
  have HLF := Lib.hid hL
  have HQX := Lib.hid hQ
  have HBb := Lib.hid H.box
  rw [hfin]
  have HBW : Hid (B ≤ w.heap.size) := Lib.hid (by have := H.box; omega)
  have HC := Lib.hid hc
  have HCX := Lib.hid hc
  have HO0 := Lib.hid (OwnG.new (s := 2) (T := 152) w w.heap.size [.pointer (some ⟨g, o, none⟩), .int .i64 0] rfl (fun u hu => by simp at hu; rcases hu with rfl | rfl <;> rfl) (Nat.le_refl _))
  have HG0 := Lib.hid (World.grownBy_alloc w (.cells #[.pointer (some ⟨g, o, none⟩), .int .i64 0] 152) none)
  obtain ⟨base, hbase⟩ : ∃ base, w.heap.size = base := ⟨_, rfl⟩
  have HBA := Lib.hid hbase
  have HBB : Hid (b < base) := Lib.hid (by omega)
  rw [hbase] at HO0
  clear H hs hx hc hfin hB hbase hL hQ
  go_enter Tryz.func53, Tryz.ntmps53
  go_wp2_with fail
  try rw [HBA.out]
  have HP0 := Lib.hid (HH.out.grown _ _ _ HP.out HG0.out)
  have HX0 := Lib.hid (HH.out.at HX.out (Below.gb HG0.out HBW.out))
  have HBE0 : Hid (Below B w (w.alloc (.cells #[.pointer (some ⟨g, o, none⟩), .int .i64 0] 152))) := Lib.hid (Below.gb HG0.out HBW.out)
  have HSZ0 : Hid (base < (w.alloc (.cells #[.pointer (some ⟨g, o, none⟩), .int .i64 0] 152)).heap.size) := Lib.hid (by simp; have := HBA.out; omega)
  have HOW : Hid (OwnG 2 152 (w.alloc (.cells #[.pointer (some ⟨g, o, none⟩), .int .i64 0] 152)) base (.slice (some ⟨base, 0, none⟩) 1 1) [[.pointer (some ⟨g, o, none⟩), .int .i64 0]]) := Lib.hid HO0.out
  have HFW : Hid (runG st [⟨x, 0, g, o⟩] s = fin) := Lib.hid (by
    have e : runG st [⟨x, 0, g, o⟩] s = rsF st ⟨x, 0, g, o⟩ s := by simp [runG]
    rw [e, ← runE_eq]; exact HFI.out)
  have HCW : Hid (cntG [⟨x, 0, g, o⟩] ≤ 1000000) := Lib.hid (by
    have e : cntG [⟨x, 0, g, o⟩] = cntF ⟨x, 0, g, o⟩ := by simp [cntG]
    rw [e, ← cntE_eq]; exact HC.out)
  generalize (w.alloc (.cells #[.pointer (some ⟨g, o, none⟩), .int .i64 0] 152)) = W at *
  clear HO0 HG0 HP HX HFI HC
  go_loopg [4] (cntG [⟨x, 0, g, o⟩]) (fun gk av wr => ∃ (G : List Fm) (s' : σ), cntG G ≤ gk ∧ gk ≤ 1000000 ∧ Hid (OwnG 2 152 wr base av (G.map rowF)) ∧ Hid (P s' wr) ∧ Hid (runG st G s' = fin) ∧ Hid (∀ f ∈ G, PAtE F W f.g f.o f.x ∧ f.d ≤ (kidsE f.x).length ∧ cntE f.x ≤ 1000000 ∧ QQ f.x) ∧ Hid (Below B W wr) ∧ Hid (base ≤ wr.heap.size))
  case atStart => exact ⟨[⟨x, 0, g, o⟩], s, Nat.le_refl _, HCW.out, HOW, HP0, HFW, Lib.hid (fun f hf => by simp at hf; subst hf; exact ⟨HX0.out, Nat.zero_le _, HCX.out, HQX.out⟩), Lib.hid (Below.refl _ _), Lib.hid (Nat.le_of_lt HSZ0.out)⟩
  case round =>
    obtain ⟨G, s', hcg, hgk, HO, HPS, HRU, HALL, HBE, HSR⟩ := hrel
    rcases list_last8 G with rfl | ⟨G', f, rfl⟩
    · have hv : ∃ p c, u4 = .slice p 0 c := by
        obtain ⟨p, c, e, -⟩ := HO.out.is
        exact ⟨p, c, e⟩
      obtain ⟨p, c, rfl⟩ := hv
      have HFE : Hid (s' = fin) := Lib.hid HRU.out
      have HBF := Lib.hid (Below.trans2 HBE0.out HBE.out)
      go_wp2_with fail
      go_end0
      exact ⟨rfl, by rw [← HFE.out]; exact HPS.out, HBF.out⟩
    · have hO : OwnG 2 152 wr base u4 (G'.map rowF ++ [rowF f]) := by have := HO.out; rwa [List.map_append] at this
      obtain ⟨L, hL⟩ : ∃ L, (G'.map rowF).length = L := ⟨_, rfl⟩
      obtain ⟨p, c, rfl, hga, hnc, hcm, -⟩ := hO.is
      obtain ⟨-, hpop, ga, rfl⟩ := hO.pop
      have hgb := hO.blk
      obtain ⟨g2, o2, hp2, hgl, hcs⟩ := hga.resolve_left (by simp)
      injection hp2 with hp2; injection hp2 with hp2 hp3; subst hp2 hp3
      have a0 := hcs L (rowF f) (by rw [← hL]; simp) 0 _ rfl
      have a1 := hcs L (rowF f) (by rw [← hL]; simp) 1 _ rfl
      rw [Nat.zero_add, Nat.add_zero] at a0
      rw [Nat.zero_add] at a1
      have hlen : (G'.map rowF ++ [rowF f]).length = L + 1 := by rw [List.length_append, hL]; rfl
      rw [hlen] at hO hnc ⊢
      rw [hL] at hpop
      have HLG : Hid (G'.length = L) := Lib.hid (by rw [← hL, List.length_map])
      have hLb : L + 1 ≤ 1000000 := by
        have h1 := cntG_len (G' ++ [f])
        rw [List.length_append, List.length_singleton] at h1
        have h2 := HLG.out
        omega
      obtain ⟨hpf, hdf, hcf, hqf⟩ := HALL.out f (by simp)
      have hpf1 := HH.out.at hpf HBE.out
      have HPF1 := Lib.hid hpf1
      obtain ⟨pk, ck, c6, -⟩ := hpf1.kids
      have HTE := Lib.hid (fun W (h : wr.grownBy W none) => HTL.out s' f W (HH.out.grown _ _ _ HPS.out h) (by have := HBB.out; have := HBb.out; have := HSR.out; have := h.size; omega) (hpf1.same (Fr2.none (S := fun _ => False) h) (fun _ _ h => h)) hdf hqf (next_mono HH.out.mono (by rw [HRU.out]; exact HLF.out)))
      have HBR : Hid (B ≤ wr.heap.size) := Lib.hid (by have := HBB.out; have := HBb.out; have := HSR.out; omega)
      have HO1 := Lib.hid hO; have HGB := Lib.hid hgb; have HPOP := Lib.hid hpop; have HPFW := Lib.hid hpf; have HDF := Lib.hid hdf; have HCF := Lib.hid hcf; have HQF := Lib.hid hqf
      have hfgl : f.g < wr.heap.size := hpf1.2.1
      obtain ⟨n1, hn1⟩ : ∃ n1, L + 1 = n1 := ⟨_, rfl⟩
      have HN1 := Lib.hid hn1
      have hw1 : IntKind.i64.wrap ((n1 : Int) - 1) = (L : Int) := by rw [IntWalk.i64_in _ (by omega)]; omega
      have x1 : (0 : Int) ≤ (L : Int) := by omega
      have x2 : (L : Int) < (n1 : Int) := by omega
      have x3 : decide (L < n1) = true := decide_eq_true (by omega)
      have x4 : decide ((L : Int) < (n1 : Int)) = true := decide_eq_true x2
      have x5 : decide ((0 : Int) < (n1 : Int)) = true := decide_eq_true (by omega)
      have x6 : decide (0 < n1) = true := decide_eq_true (by omega)
      rw [hn1] at HO1 ⊢
      clear hcf hqf
      obtain ⟨fg, hfg⟩ : ∃ fg, f.g = fg := ⟨_, rfl⟩
      obtain ⟨fo, hfo⟩ : ∃ fo, f.o = fo := ⟨_, rfl⟩
      obtain ⟨fd, hfd⟩ : ∃ fd, f.d = fd := ⟨_, rfl⟩
      obtain ⟨kn, hkn⟩ : ∃ kn, (kidsE f.x).length = kn := ⟨_, rfl⟩
      have HFG := Lib.hid hfg; have HFO := Lib.hid hfo; have HFD := Lib.hid hfd; have HKN := Lib.hid hkn

      rw [hfg, hfo] at a0 HTE
      rw [hfd] at a1 HTE hdf
      rw [hfg, hfo, hkn] at c6
      rw [hfg] at hfgl
      rw [hkn] at hdf
      clear hO hpop hgb hga hcs hpf hpf1 hlen hL hn1 hfg hfo hfd hkn HO hcm
      go_wp2_with fail
      go_region_with (first | (go_at_call 54; refine (HTE.out _ (by repeat (first | with_reducible exact gb_refl _ _ | with_reducible refine gb_drew ?_))).mono ?_; rintro e w2 ⟨rfl, hp2, hb2, ho2⟩; have HP2 := Lib.hid hp2; have HB2 : Hid (Below B wr w2) := Lib.hid (Below.trans2 (Below.gb (show wr.grownBy _ none from (by repeat (first | with_reducible exact gb_refl _ _ | with_reducible refine gb_drew ?_))) HBR.out) hb2); have HO2 : Hid (OKept b wr w2) := Lib.hid ((OKept.none (show wr.grownBy _ none from (by repeat (first | with_reducible exact gb_refl _ _ | with_reducible refine gb_drew ?_)))).trans ho2); clear hp2 hb2 ho2))
      all_goals
        clear a0 a1 c6 HTE hfgl
        have hok := HO1.out.okept HO2.out (by decide) HBB.out
        have HOK := Lib.hid hok
        obtain ⟨a0, a1, a2, hgs, hcn, -⟩ := OwnG.top2 hok
        have hl0 : (G'.map rowF).length = L := by rw [List.length_map]; exact HLG.out
        rw [hl0] at a0 a1 hcn
        rw [HFG.out, HFO.out] at a0
        rw [HFD.out] at a1
        have hpf2 := HH.out.at HPF1.out HB2.out
        have HPF2 := Lib.hid hpf2
        obtain ⟨pk2, ck2, c6, -⟩ := hpf2.kids
        have hfgl := hpf2.2.1
        rw [HFG.out, HFO.out, HKN.out] at c6
        rw [HFG.out] at hfgl
        have HBE2 := Lib.hid (Below.trans2 HBE.out HB2.out)
        have HSR2 : Hid (base ≤ w2.heap.size) := Lib.hid (Nat.le_trans HSR.out HB2.out.size)
        have x7 : (n1 : Int) ≤ (c : Int) := by have := HN1.out; omega
        have x8 : n1 ≤ c := by have := HN1.out; omega
        have x9 : L ≤ c := by omega
        clear hok hpf2 hl0 HO1 HPF1 HBE HSR HPS HO2 HB2 HBR
        go_wp2_with fail
        go_quiet (fail)
        have hgd := gb_drewN (gb_refl w2 none) nq
        have HOK := Lib.hid (HOK.out.kept hgd); have HP2 := Lib.hid (HH.out.grown _ _ _ HP2.out hgd)
        have HPF2 : Hid (PAtE F (w2.drewN nq) f.g f.o f.x) := Lib.hid (HPF2.out.same (Fr2.none (S := fun _ => False) hgd) (fun _ _ h => h))
        have HBE2 := Lib.hid (Below.trans2 HBE2.out (Below.gb hgd (by have := HBB.out; have := HBb.out; have := HSR2.out; omega)))
        have HSR2 : Hid (base ≤ (w2.drewN nq).heap.size) := Lib.hid HSR2.out
        have a0 : (w2.drewN nq).cell? ⟨ga, L * 2, none⟩ = some (.pointer (some ⟨fg, fo, none⟩)) := a0
        have a1 : (w2.drewN nq).cell? ⟨ga, L * 2 + 1, none⟩ = some (.int .i64 (fd : Int)) := a1
        have a2 : ∀ j, (w2.drewN nq).frozen? ⟨ga, j, none⟩ = false := a2
        have hgs : ga < (w2.drewN nq).heap.size := hgs
        have hfgl : fg < (w2.drewN nq).heap.size := hfgl
        have c6 : (w2.drewN nq).cell? ⟨fg, fo + 6, none⟩ = some (.slice pk2 kn ck2) := c6
        clear hgd
        generalize w2.drewN nq = w3 at *
        by_cases hd : fd = kn
        · have e1 : (fd == kn) = true := by rw [hd]; simp
          have e1' : ((fd : Int) == (kn : Int)) = true := by rw [hd]; simp
          have HDN := Lib.hid hd
          clear hd
          have hpop2 := HOK.out.pop.2.1
          have hll : (G'.map rowF).length = L := by rw [List.length_map]; exact HLG.out
          rw [hll] at hpop2
          have HPO2 := Lib.hid hpop2
          have hfd : f.d = (kidsE f.x).length := by rw [HFD.out, HKN.out]; exact HDN.out
          have HR2 : Hid (runG st G' (st s' f.x fd) = fin) := Lib.hid (by
            have h := HRU.out
            rw [runG_snoc, (rsF_done st hfd _).1] at h
            rw [← HFD.out]; exact h)
          have HCG : Hid (cntG G' + 1 ≤ gk) := Lib.hid (by
            have h := cntG_snoc G' f
            rw [(rsF_done st hfd s').2] at h; omega)
          clear hpop2 hll hfd HOK HRU a0 a1 a2 c6
          go_wp2_with fail
          go_roundg (cntG G')
          case measure => have := HCG.out; omega
          case rel => exact ⟨G', _, Nat.le_refl _, by have := HCG.out; omega, HPO2, HP2, HR2, Lib.hid (fun f' hf' => HALL.out f' (List.mem_append_left _ hf')), HBE2, HSR2⟩
        · have e1 : (fd == kn) = false := beq_eq_false_iff_ne.2 hd
          have e1' : ((fd : Int) == (kn : Int)) = false := beq_eq_false_iff_ne.2 (by omega)
          have hlt : fd < kn := by omega
          clear hd
          obtain ⟨kx, hkx⟩ : ∃ kx, (kidsE f.x)[f.d]? = some kx := ⟨(kidsE f.x)[f.d]'(by rw [HKN.out, HFD.out]; exact hlt), List.getElem?_eq_getElem _⟩
          obtain ⟨pk3, ck3, c63, hkd3⟩ := (HPFW.out).kids
          obtain ⟨pk4, ck4, c64, hkd4⟩ := HPF2.out.kids
          rw [HFG.out, HFO.out, HKN.out] at c64
          have hpe : pk4 = pk2 := by
            have h := c64.symm.trans c6
            injection h with h; injection h with h1 h2 h3
          obtain ⟨gk', ok', hpk, hka⟩ := hkd4 f.d kx hkx
          have hkaW : PAtE F W gk' (ok' + f.d * 8) kx := by
            obtain ⟨g9, o9, hp9, hk9⟩ := hkd3 f.d kx hkx
            have hc9 := (HPFW.out).kids
            have c9 : w3.cell? ⟨f.g, f.o + 6, none⟩ = some (.slice pk3 (kidsE f.x).length ck3) := by
              rw [World.cell?_of_block (w := W) (HBE2.out.block f.g (HH.out.below _ (HPFW.out).1))]; exact c63
            rw [HFG.out, HFO.out, HKN.out] at c9
            have h := c9.symm.trans c64
            injection h with h; injection h with h1 h2 h3
            rw [h1, hpk] at hp9
            injection hp9 with hp9; injection hp9 with hp9 hp10
            subst hp9; subst hp10
            exact hk9
          rw [hpe] at hpk
          subst hpk
          rw [HFD.out] at hkaW
          have y2 : (fd : Int) < (kn : Int) := by omega
          have y3 : decide (fd < kn) = true := decide_eq_true hlt
          have y4 : decide ((fd : Int) < (kn : Int)) = true := decide_eq_true y2
          have y1 : (0 : Int) ≤ (fd : Int) := by omega
          have hkl : kn ≤ 1000000 := by
            have h1 := kids_count (kidsE f.x)
            have h2 : cntK (kidsE f.x) ≤ cntE f.x := by cases f.x with | mk op nm md nu ys ks ps => simp only [cntE, kidsE]; omega
            have h3 := HCF.out
            rw [← HKN.out]; omega
          have hck : cntE kx ≤ 1000000 := by
            have h1 := kid_size _ _ _ hkx
            have h2 : cntK (kidsE f.x) ≤ cntE f.x := by cases f.x with | mk op nm md nu ys ks ps => simp only [cntE, kidsE]; omega
            have h3 := HCF.out
            omega
          have HCKX := Lib.hid hck; have HKX := Lib.hid hkx
          clear hck hkx
          have hw2 : IntKind.i64.wrap ((fd : Int) + 1) = ((fd + 1 : Nat) : Int) := by rw [IntWalk.i64_in _ (by omega)]; omega
          have HKA := Lib.hid hkaW
          clear hkd3 hkd4 c63 c64 hpe hka hkaW
          go_wp2_with fail
          go_quiet (fail)
          have hgd := gb_drewN (gb_refl w3 none) nq
          have HOK := Lib.hid (HOK.out.kept hgd); have HP2 := Lib.hid (HH.out.grown _ _ _ HP2.out hgd)
          have HPF2 : Hid (PAtE F (w3.drewN nq) f.g f.o f.x) := Lib.hid (HPF2.out.same (Fr2.none (S := fun _ => False) hgd) (fun _ _ h => h))
          have HBE2 := Lib.hid (Below.trans2 HBE2.out (Below.gb hgd (by have := HBB.out; have := HBb.out; have := HSR2.out; omega)))
          have HSR2 : Hid (base ≤ (w3.drewN nq).heap.size) := Lib.hid HSR2.out
          have a0 : (w3.drewN nq).cell? ⟨ga, L * 2, none⟩ = some (.pointer (some ⟨fg, fo, none⟩)) := a0
          have a1 : (w3.drewN nq).cell? ⟨ga, L * 2 + 1, none⟩ = some (.int .i64 (fd : Int)) := a1
          have a2 : ∀ j, (w3.drewN nq).frozen? ⟨ga, j, none⟩ = false := a2
          have hgs : ga < (w3.drewN nq).heap.size := hgs
          have hfgl : fg < (w3.drewN nq).heap.size := hfgl
          clear hgd c6
          generalize w3.drewN nq = w4 at *
          have h5 := OwnG.last2 (u := .int .i64 ((fd + 1 : Nat) : Int)) rfl HOK.out
          have hll : (G'.map rowF).length = L := by rw [List.length_map]; exact HLG.out
          rw [hll] at h5
          rw [HFG.out, HFO.out] at h5
          have HO5 := Lib.hid h5.1; have HG5 := Lib.hid h5.2
          have HP5 : Hid (P (st s' f.x fd) (w4.setCell ⟨ga, L * 2 + 1, none⟩ (.int .i64 ((fd + 1 : Nat) : Int)))) := Lib.hid (by
            obtain ⟨hgb1, cs, hcs⟩ := HOK.out.blk
            exact HH.out.placed _ _ _ ga cs HP2.out h5.2 hcs (by have := HBB.out; omega))
          have HLN : Hid ((G'.map rowF ++ [[Value.pointer (some ⟨fg, fo, none⟩), Value.int .i64 ((fd + 1 : Nat) : Int)]]).length = n1) := Lib.hid (by rw [List.length_append, hll]; exact HN1.out)
          have HLM : Hid ((G'.map rowF ++ [[Value.pointer (some ⟨fg, fo, none⟩), Value.int .i64 ((fd + 1 : Nat) : Int)]]).length ≤ 1000000) := Lib.hid (by rw [HLN.out]; have := HN1.out; omega)
          obtain ⟨fd1, hfd1⟩ : ∃ fd1, fd + 1 = fd1 := ⟨_, rfl⟩
          have HFD1 := Lib.hid hfd1
          rw [hfd1] at hw2 HO5 HG5 HP5 HLN HLM
          clear h5 hll hfd1
          have HKAD : Hid (PAtE F W gk' (ok' + fd * 8) kx) := HKA
          obtain ⟨ko, hko⟩ : ∃ ko, ok' + fd * 8 = ko := ⟨_, rfl⟩
          rw [hko] at HKAD ⊢
          clear hko HKA
          have HSE : Hid ((w4.setCell ⟨ga, L * 2 + 1, none⟩ (.int .i64 (fd1 : Int))).heap.size = w4.heap.size) := Lib.hid (by simp [World.setCell])
          have HBK : Hid (((w4.setCell ⟨ga, L * 2 + 1, none⟩ (.int .i64 (fd1 : Int))).alloc (.cells #[.pointer (some ⟨gk', ko, none⟩), .int .i64 0] 152)).heap[w4.heap.size]? = some (.cells #[.pointer (some ⟨gk', ko, none⟩), .int .i64 0] 152 (0, 0))) := Lib.hid (by
            have h := heap_alloc_new (w4.setCell ⟨ga, L * 2 + 1, none⟩ (.int .i64 (fd1 : Int))) (.cells #[.pointer (some ⟨gk', ko, none⟩), .int .i64 0] 152)
            rw [HSE.out] at h; exact h)
          have HSA : Hid (((w4.setCell ⟨ga, L * 2 + 1, none⟩ (.int .i64 (fd1 : Int))).alloc (.cells #[.pointer (some ⟨gk', ko, none⟩), .int .i64 0] 152)).heap.size = w4.heap.size + 1) := Lib.hid (by
            have h := HSE.out
            simp [h])
          go_wp2_with (at_builtin; go_loud (refine wpList_appGl (s := 2) (t := 153) (T := 152) (by decide) Tryz.underlying153 infoP rfl (by omega) rfl _ _ rfl base (G'.map rowF ++ [[Value.pointer (some ⟨fg, fo, none⟩), Value.int .i64 (fd1 : Int)]]) [.pointer (some ⟨gk', ko, none⟩), .int .i64 0] rfl (fun u hu => by simp at hu; rcases hu with rfl | rfl <;> rfl) (.slice (some ⟨ga, 0, none⟩) n1 c) rfl (OwnG.kept HO5.out (World.grownBy_alloc _ _ none)) w4.heap.size _ rfl HBK.out rfl HLM.out (by rw [HSA.out]; have := HSR2.out; omega) (w4.heap.size + 1) HSA.out ?_))
          intro g9 cap9 w9 hO9 hg9 hl9
          have hwb : w4.grownBy (w4.setCell ⟨ga, L * 2 + 1, none⟩ (.int .i64 (fd1 : Int))) (some ga) := HG5.out
          have hgab : base ≤ ga := HOK.out.blk.1
          have hb9 : Below B w4 w9 := by
            have h1 : Below B w4 (w4.setCell ⟨ga, L * 2 + 1, none⟩ (.int .i64 (fd1 : Int))) := (Fr2.of hwb (S := fun k => ga = k) (fun k e => by injection e)).below (by have := HBB.out; have := HBb.out; have := HSR2.out; omega) (fun k e => by have := HBB.out; have := HBb.out; omega)
            have h2 : Below B (w4.setCell ⟨ga, L * 2 + 1, none⟩ (.int .i64 (fd1 : Int))) ((w4.setCell ⟨ga, L * 2 + 1, none⟩ (.int .i64 (fd1 : Int))).alloc (.cells #[.pointer (some ⟨gk', ko, none⟩), .int .i64 0] 152)) := Below.gb (World.grownBy_alloc _ _ none) (by rw [HSE.out]; have := HBB.out; have := HBb.out; have := HSR2.out; omega)
            exact Below.trans2 h1 (Below.trans2 h2 ((Fr2.of hg9 (S := fun k => (Value.slice (some ⟨ga, 0, none⟩) n1 c).ownBlock = some k) (fun k e => e)).below (by rw [HSA.out]; have := HBB.out; have := HBb.out; have := HSR2.out; omega) (fun k e => by have e : ga = k := Option.some.inj (show some ga = some k from e); have := HBB.out; have := HBb.out; omega)))
          have hP9 : P (st s' f.x fd) w9 := by
            obtain ⟨hgb1, cs, hcs⟩ := HO5.out.blk
            exact HH.out.placed _ _ _ ga cs (HH.out.grown _ _ _ HP5.out (World.grownBy_alloc _ _ none)) (show _ from hg9) (bx (World.grownBy_alloc _ _ none) hcs) (by have := HBB.out; omega)
          have hs9 : base ≤ w9.heap.size := by have h1 := hg9.size; rw [HSA.out] at h1; have := HSR2.out; omega
          have HB9 := Lib.hid (Below.trans2 HBE2.out hb9); have HP9 := Lib.hid hP9; have HS9 := Lib.hid hs9
          have HO9 : Hid (OwnG 2 152 w9 base (.slice (some ⟨g9, 0, none⟩) (G'.length + 1 + 1) cap9) ((G' ++ [{ f with d := fd1 }, ⟨kx, 0, gk', ko⟩]).map rowF)) := Lib.hid (by
            rw [List.map_append]
            have e : [{ f with d := fd1 }, (⟨kx, 0, gk', ko⟩ : Fm)].map rowF = [[Value.pointer (some ⟨fg, fo, none⟩), Value.int .i64 (fd1 : Int)], [Value.pointer (some ⟨gk', ko, none⟩), Value.int .i64 0]] := by
              simp only [List.map_cons, List.map_nil, rowF]
              rw [HFG.out, HFO.out]; rfl
            rw [e]; exact hO9)
          have hrk := rsF_kid st HKX.out s' gk' ko
          have HRU9 : Hid (runG st (G' ++ [{ f with d := fd1 }, ⟨kx, 0, gk', ko⟩]) (st s' f.x fd) = fin) := Lib.hid (by
            have h := HRU.out
            rw [runG_snoc, hrk.1] at h
            have e : G' ++ [{ f with d := fd1 }, (⟨kx, 0, gk', ko⟩ : Fm)] = (G' ++ [{ f with d := fd1 }]) ++ [⟨kx, 0, gk', ko⟩] := by simp
            rw [e, runG_snoc, runG_snoc, ← HFD1.out, ← HFD.out]; exact h)
          have HCG9 : Hid (cntG (G' ++ [{ f with d := fd1 }, ⟨kx, 0, gk', ko⟩]) + 1 ≤ gk) := Lib.hid (by
            have h1 := cntG_snoc G' f
            rw [hrk.2] at h1
            have e : G' ++ [{ f with d := fd1 }, (⟨kx, 0, gk', ko⟩ : Fm)] = (G' ++ [{ f with d := fd1 }]) ++ [⟨kx, 0, gk', ko⟩] := by simp
            have h2 := cntG_snoc (G' ++ [{ f with d := fd1 }]) ⟨kx, 0, gk', ko⟩
            have h3 := cntG_snoc G' { f with d := fd1 }
            rw [e, h2, h3]
            rw [HFD.out, HFD1.out] at h1
            omega)
          have HALL9 : Hid (∀ f' ∈ G' ++ [{ f with d := fd1 }, ⟨kx, 0, gk', ko⟩], PAtE F W f'.g f'.o f'.x ∧ f'.d ≤ (kidsE f'.x).length ∧ cntE f'.x ≤ 1000000 ∧ QQ f'.x) := Lib.hid (fun f' hf' => by
            rcases List.mem_append.1 hf' with h | h
            · exact HALL.out f' (List.mem_append_left _ h)
            · rcases List.mem_cons.1 h with h | h
              · subst h
                exact ⟨HPFW.out, by show fd1 ≤ (kidsE f.x).length; rw [HKN.out, ← HFD1.out]; omega, HCF.out, HQF.out⟩
              · rcases List.mem_cons.1 h with h | h
                · subst h; exact ⟨HKAD.out, Nat.zero_le _, HCKX.out, HH.out.kids _ _ HQF.out (List.mem_of_getElem? HKX.out)⟩
                · cases h)
          clear hO9 hg9 hl9 hwb hgab hb9 hP9 hs9 hrk HO5 HG5 HP5 HLN HLM HBK HSA HSE a0 a1 a2
          go_wp2_with fail
          go_roundg (cntG (G' ++ [{ f with d := fd1 }, ⟨kx, 0, gk', ko⟩]))
          case measure => have := HCG9.out; omega
          case rel => exact ⟨_, _, Nat.le_refl _, by have := HCG9.out; omega, HO9, HP9, HRU9, HALL9, HB9, HS9⟩
end Go.Proofs.YtmlcpihedmmlfaaGreatDoor
