/- Rows of the reference's parser: turns of a row, and what a part's function has to do. -/
import Derived.Test.YthclkbaankjbiaaGreatDoorM16
namespace Go.Proofs.YthclkbaankjbiaaGreatDoor
open Go.RowKit

theorem fits_mono {T : List Tok} {s : St} {r : RQ} (h : Fits T s r) (hs : s.i ≤ T.length) : s.i ≤ r.2.i := by
  rcases Nat.lt_or_ge r.2.i s.i with hl | hl
  · exfalso
    have h1 : r.2.i < T.length := by omega
    have h2 := room_next T (i := r.2.i) (t := T[r.2.i]) (List.getElem?_eq_getElem h1)
    have h3 := room_mono T (i := r.2.i + 1) (j := s.i) hl
    unfold Fits at h
    omega
  · exact hl
theorem len_ok {T : List Tok} (hR : roomQ T T.length ≤ 10000000) {s : St} {r : RQ} (h : Fits T s r) : r.1.length ≤ 10000000 := by
  have := room_end T r.2.i
  unfold Fits at h
  omega
theorem leaf_len {T : List Tok} (hR : roomQ T T.length ≤ 10000000) {s : St} (h : (tokQ T s).kind ≠ 5) : (leafQ T s).1.length ≤ 10000000 := by
  have h1 := (leaf_fits h).1
  have := room_end T (leafQ T s).2.i
  omega

theorem leaf_lenA {T : List Tok} (hR : roomQ T T.length ≤ 10000000) {s : St} (h : s.i < T.length) : (leafQ T s).1.length ≤ 10000000 := by
  by_cases hk : (tokQ T s).kind = 5
  · unfold leafQ; rw [if_pos hk]; simp
  · exact leaf_len hR hk

theorem fail_e (T : List Tok) {m : Nat} (hm : m ≠ 0) (s : St) : (failQ T m s).e ≠ 0 := by
  unfold failQ; split
  · exact hm
  · assumption
theorem nest_ok {T : List Tok} {D m : Nat} {s : St} (h : (nestQ T D m s).e = 0) : m ≤ D := by
  unfold nestQ at h
  split at h
  · exact absurd h (fail_e T (by decide) s)
  · omega

/-- The place that lies in memory. -/
def iOf (w : World) (b : Nat) : Nat := match w.cell? ⟨b, 1, none⟩ with
  | some (.int _ x) => x.toNat
  | _ => 0
theorem PAt.iOf {w : World} {b : Nat} {q : Option Addr} {c : Nat} {T : List Tok} {D : Nat} {s : St} (h : PAt w b q c T D s) : Go.Proofs.YthclkbaankjbiaaGreatDoor.iOf w b = s.i := by
  unfold Go.Proofs.YthclkbaankjbiaaGreatDoor.iOf; rw [(cells6 h.box).2.1]; rfl

def rowStep (T : List Tok) (sub : St → RQ) (r : RQ) : RQ := ([32, 40, 49, 48] ++ r.1 ++ (leafQ T r.2).1 ++ (sub (leafQ T r.2).2).1 ++ [41], (sub (leafQ T r.2).2).2)
theorem row_stop {T : List Tok} {cnd : St → Bool} {sub : St → RQ} {r : RQ} (hc : cnd r.2 = false) : ∀ f, rowQ T cnd sub f r = r
  | 0 => rfl
  | f + 1 => by unfold rowQ; rw [hc]; rfl

/-- The loop's invariant. -/
structure RowR (T : List Tok) (cnd : St → Bool) (sub : St → RQ) (s0 : St) (R r : RQ) : Prop where
  left : ∃ f, T.length - r.2.i + 1 ≤ f ∧ rowQ T cnd sub f r = R
  fits : Fits T s0 r
theorem RowR.start {T : List Tok} {cnd : St → Bool} {sub : St → RQ} (hs : ∀ s, Fits T s (sub s)) (s0 : St) : RowR T cnd sub s0 (rowQ T cnd sub (fuelQ T (sub s0).2) (sub s0)) (sub s0) :=
  ⟨⟨_, Nat.le_refl _, rfl⟩, hs s0⟩
theorem RowR.stop {T : List Tok} {cnd : St → Bool} {sub : St → RQ} {s0 : St} {R r : RQ} (h : RowR T cnd sub s0 R r) (hc : cnd r.2 = false) : R = r := by
  obtain ⟨f, -, hf⟩ := h.left; rw [← hf, row_stop hc]
theorem RowR.next {T : List Tok} {cnd : St → Bool} {sub : St → RQ} {s0 : St} {R r : RQ} (h : RowR T cnd sub s0 R r) (hs : ∀ s, Fits T s (sub s)) (hc : cnd r.2 = true) (hk : (tokQ T r.2).kind ≠ 5) (h1 : r.2.i < T.length) (h2 : (leafQ T r.2).2.i < T.length) : RowR T cnd sub s0 R (rowStep T sub r) ∧ r.2.i < (rowStep T sub r).2.i := by
  obtain ⟨f, hf, hr⟩ := h.left
  have l1 := leaf_fits hk
  have l2 := hs (leafQ T r.2).2
  have l3 := fits_mono l2 (by omega)
  have l4 : r.2.i < (rowStep T sub r).2.i := by show r.2.i < (sub (leafQ T r.2).2).2.i; omega
  refine ⟨⟨⟨f - 1, by omega, ?_⟩, ?_⟩, l4⟩
  · obtain ⟨k, rfl⟩ : ∃ k, f = k + 1 := ⟨f - 1, by omega⟩
    unfold rowQ at hr
    rw [if_pos hc] at hr
    exact hr
  · have h0 := h.fits
    unfold Fits at h0 l2 ⊢
    unfold rowStep
    simp only [List.length_append, List.length_cons, List.length_nil]
    omega

/-- What a part's function does. -/
def SubC (b : Nat) (q : Option Addr) (c : Nat) (T : List Tok) (D : Nat) (f : Nat) (n : Nat) (sub : St → RQ) : Prop :=
  ∀ s w, PAt w b q c T D s → Calls Tryz.prog f #[.pointer (some ⟨b, 0, none⟩), .int .i64 (n : Int)] w (RPost b q c T D (sub s) w)

section
variable (b : Nat) (q : Option Addr) (c : Nat) (T : List Tok) (D : Nat)
variable (hE : EndT T) (hR : roomQ T T.length ≤ 10000000) (n : Nat)
include hE hR

-- GEN (genqrow.py)
set_option maxRecDepth 100000 in
set_option maxHeartbeats 4000000 in
theorem and_c (sub : St → RQ) (hS : SubC b q c T D 127 n sub) (hF : ∀ s, Fits T s (sub s)) (s0 : St) (w : World) (h : PAt w b q c T D s0) : Calls Tryz.prog 117 #[.pointer (some ⟨b, 0, none⟩), .int .i64 (n : Int)] w (RPost b q c T D (rowQ T (isQ T [38, 38]) sub (fuelQ T (sub s0).2) (sub s0)) w) := by
  have HI := Lib.hid (fun x s w h => is_c b q c T D x s w h)
  have HL := Lib.hid (fun s w h => leaf_c b q c T D hE hR s w h)
  have HS := Lib.hid hS; have HF := Lib.hid hF; have HR := Lib.hid hR
  have HB := Lib.hid h
  have HST := Lib.hid (RowR.start (T := T) (cnd := isQ T [38, 38]) hF s0)
  obtain ⟨R, hRR⟩ : ∃ R, rowQ T (isQ T [38, 38]) sub (fuelQ T (sub s0).2) (sub s0) = R := ⟨_, rfl⟩
  rw [hRR] at HST ⊢
  clear hS hF hE hR h hRR
  go_enter Tryz.func117, Tryz.ntmps117
  go_wp2_with fail
  refine (HS.out s0 _ HB.out).mono ?_
  rintro e w1 ⟨⟨x, rfl, hx⟩, h1, f1⟩
  have H1 := Lib.hid h1; have F1 := Lib.hid f1; have HX := Lib.hid hx
  clear h1 f1 hx HB
  go_wp2_with fail
  go_loopw [5] (fun v wr => ∃ r : RQ, (∃ y : ByteArray, v = .string y ∧ Hid (y.data.toList = r.1)) ∧ Hid (PAt wr b q c T D r.2) ∧ Hid (Fr2 (Self b) w wr) ∧ Hid (RowR T (isQ T [38, 38]) sub s0 R r)) (fun _ wr => T.length - iOf wr b)
  case atStart => exact ⟨_, ⟨_, rfl, HX⟩, H1, F1, HST⟩
  case round =>
    clear H1 F1 HX HST
    obtain ⟨r, ⟨y, rfl, HY⟩, HP, HFR, HRO⟩ := hrel
    have hys : y.size ≤ 10000000 := by rw [qsize HY.out]; exact len_ok HR.out HRO.out.fits
    have HP0 : Hid (PAt wr b q c T D r.2) := HP
    have HG0 : Hid (Fr2 (Self b) wr wr) := Lib.hid (Fr2.refl _ _)
    go_wp2_with fail
    refine (HI.out [38, 38] _ _ HP0.out).mono ?_
    rintro e v0 ⟨rfl, h2, f2⟩
    have HP1 := Lib.hid h2; have HG1 := Lib.hid (HG0.out.trans f2)
    obtain ⟨b0, hb0⟩ : ∃ b0, isQ T [38, 38] r.2 = b0 := ⟨_, rfl⟩
    have HV0 := Lib.hid hb0
    rw [hb0]
    clear h2 f2 hb0 HP0 HG0
    cases b0
    · have HC : Hid ((isQ T [38, 38]) r.2 = false) := Lib.hid (by first | exact HV0.out | (unfold isMul; rw [HV0.out]; rfl))
      go_wp2_with fail
      go_ret
      rw [HRO.out.stop HC.out]
      exact ⟨⟨_, rfl, HY.out⟩, HP1.out, HFR.out.trans HG1.out⟩
    · have HC : Hid ((isQ T [38, 38]) r.2 = true) := Lib.hid (by first | exact HV0.out | (unfold isMul; rw [HV0.out]; simp))
      have HK : Hid ((tokQ T r.2).kind ≠ 5) := Lib.hid (is_kind HV0.out).1
      go_wp2_with fail
      refine (HL.out _ _ HP1.out).mono ?_
      rintro e w3 ⟨⟨l, rfl, hl⟩, h3, f3⟩
      have hls : l.size ≤ 10000000 := by rw [qsize hl]; exact leaf_len HR.out HK.out
      have HL1 := Lib.hid hl; have H3 := Lib.hid h3; have F3 := Lib.hid (HG1.out.trans f3)
      clear hl h3 f3
      go_wp2_with fail
      all_goals (try (exfalso; (simp at *; omega)))
      refine (HS.out _ _ H3.out).mono ?_
      rintro e w4 ⟨⟨z, rfl, hz⟩, h4, f4⟩
      have hzs : z.size ≤ 10000000 := by rw [qsize hz]; exact len_ok HR.out (HF.out _)
      have HN := Lib.hid (HRO.out.next HF.out HC.out HK.out HP.out.ok H3.out.ok)
      have HZ := Lib.hid hz; have H4 : Hid (PAt w4 b q c T D (rowStep T sub r).2) := Lib.hid h4; have F4 := Lib.hid (HFR.out.trans (F3.out.trans f4))
      have HME : Hid (T.length - iOf w4 b < T.length - iOf wr b) := Lib.hid (by rw [H4.out.iOf, HP.out.iOf]; have h5 := HN.out.2; have h6 := H4.out.ok; omega)
      clear hz h4 f4
      go_wp2_with fail
      all_goals (try (exfalso; (simp at *; omega)))
      go_roundw
      case rel => exact ⟨rowStep T sub r, ⟨_, rfl, Lib.hid (by rw [qapp, qapp, qapp, qapp, HY.out, HL1.out, HZ.out]; simp [rowStep])⟩, H4, F4, Lib.hid HN.out.1⟩
      case measure => exact HME.out

set_option maxRecDepth 100000 in
set_option maxHeartbeats 4000000 in
theorem or_c (sub : St → RQ) (hS : SubC b q c T D 117 n sub) (hF : ∀ s, Fits T s (sub s)) (s0 : St) (w : World) (h : PAt w b q c T D s0) : Calls Tryz.prog 106 #[.pointer (some ⟨b, 0, none⟩), .int .i64 (n : Int)] w (RPost b q c T D (rowQ T (isQ T [124, 124]) sub (fuelQ T (sub s0).2) (sub s0)) w) := by
  have HI := Lib.hid (fun x s w h => is_c b q c T D x s w h)
  have HL := Lib.hid (fun s w h => leaf_c b q c T D hE hR s w h)
  have HS := Lib.hid hS; have HF := Lib.hid hF; have HR := Lib.hid hR
  have HB := Lib.hid h
  have HST := Lib.hid (RowR.start (T := T) (cnd := isQ T [124, 124]) hF s0)
  obtain ⟨R, hRR⟩ : ∃ R, rowQ T (isQ T [124, 124]) sub (fuelQ T (sub s0).2) (sub s0) = R := ⟨_, rfl⟩
  rw [hRR] at HST ⊢
  clear hS hF hE hR h hRR
  go_enter Tryz.func106, Tryz.ntmps106
  go_wp2_with fail
  refine (HS.out s0 _ HB.out).mono ?_
  rintro e w1 ⟨⟨x, rfl, hx⟩, h1, f1⟩
  have H1 := Lib.hid h1; have F1 := Lib.hid f1; have HX := Lib.hid hx
  clear h1 f1 hx HB
  go_wp2_with fail
  go_loopw [5] (fun v wr => ∃ r : RQ, (∃ y : ByteArray, v = .string y ∧ Hid (y.data.toList = r.1)) ∧ Hid (PAt wr b q c T D r.2) ∧ Hid (Fr2 (Self b) w wr) ∧ Hid (RowR T (isQ T [124, 124]) sub s0 R r)) (fun _ wr => T.length - iOf wr b)
  case atStart => exact ⟨_, ⟨_, rfl, HX⟩, H1, F1, HST⟩
  case round =>
    clear H1 F1 HX HST
    obtain ⟨r, ⟨y, rfl, HY⟩, HP, HFR, HRO⟩ := hrel
    have hys : y.size ≤ 10000000 := by rw [qsize HY.out]; exact len_ok HR.out HRO.out.fits
    have HP0 : Hid (PAt wr b q c T D r.2) := HP
    have HG0 : Hid (Fr2 (Self b) wr wr) := Lib.hid (Fr2.refl _ _)
    go_wp2_with fail
    refine (HI.out [124, 124] _ _ HP0.out).mono ?_
    rintro e v0 ⟨rfl, h2, f2⟩
    have HP1 := Lib.hid h2; have HG1 := Lib.hid (HG0.out.trans f2)
    obtain ⟨b0, hb0⟩ : ∃ b0, isQ T [124, 124] r.2 = b0 := ⟨_, rfl⟩
    have HV0 := Lib.hid hb0
    rw [hb0]
    clear h2 f2 hb0 HP0 HG0
    cases b0
    · have HC : Hid ((isQ T [124, 124]) r.2 = false) := Lib.hid (by first | exact HV0.out | (unfold isMul; rw [HV0.out]; rfl))
      go_wp2_with fail
      go_ret
      rw [HRO.out.stop HC.out]
      exact ⟨⟨_, rfl, HY.out⟩, HP1.out, HFR.out.trans HG1.out⟩
    · have HC : Hid ((isQ T [124, 124]) r.2 = true) := Lib.hid (by first | exact HV0.out | (unfold isMul; rw [HV0.out]; simp))
      have HK : Hid ((tokQ T r.2).kind ≠ 5) := Lib.hid (is_kind HV0.out).1
      go_wp2_with fail
      refine (HL.out _ _ HP1.out).mono ?_
      rintro e w3 ⟨⟨l, rfl, hl⟩, h3, f3⟩
      have hls : l.size ≤ 10000000 := by rw [qsize hl]; exact leaf_len HR.out HK.out
      have HL1 := Lib.hid hl; have H3 := Lib.hid h3; have F3 := Lib.hid (HG1.out.trans f3)
      clear hl h3 f3
      go_wp2_with fail
      all_goals (try (exfalso; (simp at *; omega)))
      refine (HS.out _ _ H3.out).mono ?_
      rintro e w4 ⟨⟨z, rfl, hz⟩, h4, f4⟩
      have hzs : z.size ≤ 10000000 := by rw [qsize hz]; exact len_ok HR.out (HF.out _)
      have HN := Lib.hid (HRO.out.next HF.out HC.out HK.out HP.out.ok H3.out.ok)
      have HZ := Lib.hid hz; have H4 : Hid (PAt w4 b q c T D (rowStep T sub r).2) := Lib.hid h4; have F4 := Lib.hid (HFR.out.trans (F3.out.trans f4))
      have HME : Hid (T.length - iOf w4 b < T.length - iOf wr b) := Lib.hid (by rw [H4.out.iOf, HP.out.iOf]; have h5 := HN.out.2; have h6 := H4.out.ok; omega)
      clear hz h4 f4
      go_wp2_with fail
      all_goals (try (exfalso; (simp at *; omega)))
      go_roundw
      case rel => exact ⟨rowStep T sub r, ⟨_, rfl, Lib.hid (by rw [qapp, qapp, qapp, qapp, HY.out, HL1.out, HZ.out]; simp [rowStep])⟩, H4, F4, Lib.hid HN.out.1⟩
      case measure => exact HME.out

set_option maxRecDepth 100000 in
set_option maxHeartbeats 4000000 in
theorem sum_c (sub : St → RQ) (hS : SubC b q c T D 148 n sub) (hF : ∀ s, Fits T s (sub s)) (s0 : St) (w : World) (h : PAt w b q c T D s0) : Calls Tryz.prog 140 #[.pointer (some ⟨b, 0, none⟩), .int .i64 (n : Int)] w (RPost b q c T D (rowQ T (isAdd T) sub (fuelQ T (sub s0).2) (sub s0)) w) := by
  have HI := Lib.hid (fun x s w h => is_c b q c T D x s w h)
  have HL := Lib.hid (fun s w h => leaf_c b q c T D hE hR s w h)
  have HS := Lib.hid hS; have HF := Lib.hid hF; have HR := Lib.hid hR
  have HB := Lib.hid h
  have HST := Lib.hid (RowR.start (T := T) (cnd := isAdd T) hF s0)
  obtain ⟨R, hRR⟩ : ∃ R, rowQ T (isAdd T) sub (fuelQ T (sub s0).2) (sub s0) = R := ⟨_, rfl⟩
  rw [hRR] at HST ⊢
  clear hS hF hE hR h hRR
  go_enter Tryz.func140, Tryz.ntmps140
  go_wp2_with fail
  refine (HS.out s0 _ HB.out).mono ?_
  rintro e w1 ⟨⟨x, rfl, hx⟩, h1, f1⟩
  have H1 := Lib.hid h1; have F1 := Lib.hid f1; have HX := Lib.hid hx
  clear h1 f1 hx HB
  go_wp2_with fail
  go_loopw [5] (fun v wr => ∃ r : RQ, (∃ y : ByteArray, v = .string y ∧ Hid (y.data.toList = r.1)) ∧ Hid (PAt wr b q c T D r.2) ∧ Hid (Fr2 (Self b) w wr) ∧ Hid (RowR T (isAdd T) sub s0 R r)) (fun _ wr => T.length - iOf wr b)
  case atStart => exact ⟨_, ⟨_, rfl, HX⟩, H1, F1, HST⟩
  case round =>
    clear H1 F1 HX HST
    obtain ⟨r, ⟨y, rfl, HY⟩, HP, HFR, HRO⟩ := hrel
    have hys : y.size ≤ 10000000 := by rw [qsize HY.out]; exact len_ok HR.out HRO.out.fits
    have HP0 : Hid (PAt wr b q c T D r.2) := HP
    have HG0 : Hid (Fr2 (Self b) wr wr) := Lib.hid (Fr2.refl _ _)
    go_wp2_with fail
    refine (HI.out [43] _ _ HP0.out).mono ?_
    rintro e v0 ⟨rfl, h2, f2⟩
    have HP1 := Lib.hid h2; have HG1 := Lib.hid (HG0.out.trans f2)
    obtain ⟨b0, hb0⟩ : ∃ b0, isQ T [43] r.2 = b0 := ⟨_, rfl⟩
    have HV0 := Lib.hid hb0
    rw [hb0]
    clear h2 f2 hb0 HP0 HG0
    cases b0
    · have hnop : True := trivial
      go_wp2_with fail
      refine (HI.out [45] _ _ HP1.out).mono ?_
      rintro e v1 ⟨rfl, h2, f2⟩
      have HP2 := Lib.hid h2; have HG2 := Lib.hid (HG1.out.trans f2)
      obtain ⟨b1, hb1⟩ : ∃ b1, isQ T [45] r.2 = b1 := ⟨_, rfl⟩
      have HV1 := Lib.hid hb1
      rw [hb1]
      clear h2 f2 hb1 HP1 HG1
      cases b1
      · have HC : Hid ((isAdd T) r.2 = false) := Lib.hid (by first | exact HV1.out | (unfold isAdd; rw [HV0.out, HV1.out]; rfl))
        go_wp2_with fail
        go_ret
        rw [HRO.out.stop HC.out]
        exact ⟨⟨_, rfl, HY.out⟩, HP2.out, HFR.out.trans HG2.out⟩
      · have HC : Hid ((isAdd T) r.2 = true) := Lib.hid (by first | exact HV1.out | (unfold isAdd; rw [HV0.out, HV1.out]; simp))
        have HK : Hid ((tokQ T r.2).kind ≠ 5) := Lib.hid (is_kind HV1.out).1
        go_wp2_with fail
        refine (HL.out _ _ HP2.out).mono ?_
        rintro e w3 ⟨⟨l, rfl, hl⟩, h3, f3⟩
        have hls : l.size ≤ 10000000 := by rw [qsize hl]; exact leaf_len HR.out HK.out
        have HL1 := Lib.hid hl; have H3 := Lib.hid h3; have F3 := Lib.hid (HG2.out.trans f3)
        clear hl h3 f3
        go_wp2_with fail
        all_goals (try (exfalso; (simp at *; omega)))
        refine (HS.out _ _ H3.out).mono ?_
        rintro e w4 ⟨⟨z, rfl, hz⟩, h4, f4⟩
        have hzs : z.size ≤ 10000000 := by rw [qsize hz]; exact len_ok HR.out (HF.out _)
        have HN := Lib.hid (HRO.out.next HF.out HC.out HK.out HP.out.ok H3.out.ok)
        have HZ := Lib.hid hz; have H4 : Hid (PAt w4 b q c T D (rowStep T sub r).2) := Lib.hid h4; have F4 := Lib.hid (HFR.out.trans (F3.out.trans f4))
        have HME : Hid (T.length - iOf w4 b < T.length - iOf wr b) := Lib.hid (by rw [H4.out.iOf, HP.out.iOf]; have h5 := HN.out.2; have h6 := H4.out.ok; omega)
        clear hz h4 f4
        go_wp2_with fail
        all_goals (try (exfalso; (simp at *; omega)))
        go_roundw
        case rel => exact ⟨rowStep T sub r, ⟨_, rfl, Lib.hid (by rw [qapp, qapp, qapp, qapp, HY.out, HL1.out, HZ.out]; simp [rowStep])⟩, H4, F4, Lib.hid HN.out.1⟩
        case measure => exact HME.out
    · have HC : Hid ((isAdd T) r.2 = true) := Lib.hid (by first | exact HV0.out | (unfold isAdd; rw [HV0.out]; simp))
      have HK : Hid ((tokQ T r.2).kind ≠ 5) := Lib.hid (is_kind HV0.out).1
      go_wp2_with fail
      refine (HL.out _ _ HP1.out).mono ?_
      rintro e w3 ⟨⟨l, rfl, hl⟩, h3, f3⟩
      have hls : l.size ≤ 10000000 := by rw [qsize hl]; exact leaf_len HR.out HK.out
      have HL1 := Lib.hid hl; have H3 := Lib.hid h3; have F3 := Lib.hid (HG1.out.trans f3)
      clear hl h3 f3
      go_wp2_with fail
      all_goals (try (exfalso; (simp at *; omega)))
      refine (HS.out _ _ H3.out).mono ?_
      rintro e w4 ⟨⟨z, rfl, hz⟩, h4, f4⟩
      have hzs : z.size ≤ 10000000 := by rw [qsize hz]; exact len_ok HR.out (HF.out _)
      have HN := Lib.hid (HRO.out.next HF.out HC.out HK.out HP.out.ok H3.out.ok)
      have HZ := Lib.hid hz; have H4 : Hid (PAt w4 b q c T D (rowStep T sub r).2) := Lib.hid h4; have F4 := Lib.hid (HFR.out.trans (F3.out.trans f4))
      have HME : Hid (T.length - iOf w4 b < T.length - iOf wr b) := Lib.hid (by rw [H4.out.iOf, HP.out.iOf]; have h5 := HN.out.2; have h6 := H4.out.ok; omega)
      clear hz h4 f4
      go_wp2_with fail
      all_goals (try (exfalso; (simp at *; omega)))
      go_roundw
      case rel => exact ⟨rowStep T sub r, ⟨_, rfl, Lib.hid (by rw [qapp, qapp, qapp, qapp, HY.out, HL1.out, HZ.out]; simp [rowStep])⟩, H4, F4, Lib.hid HN.out.1⟩
      case measure => exact HME.out

set_option maxRecDepth 100000 in
set_option maxHeartbeats 4000000 in
theorem product_c (sub : St → RQ) (hS : SubC b q c T D 150 n sub) (hF : ∀ s, Fits T s (sub s)) (s0 : St) (w : World) (h : PAt w b q c T D s0) : Calls Tryz.prog 148 #[.pointer (some ⟨b, 0, none⟩), .int .i64 (n : Int)] w (RPost b q c T D (rowQ T (isMul T) sub (fuelQ T (sub s0).2) (sub s0)) w) := by
  have HI := Lib.hid (fun x s w h => is_c b q c T D x s w h)
  have HL := Lib.hid (fun s w h => leaf_c b q c T D hE hR s w h)
  have HS := Lib.hid hS; have HF := Lib.hid hF; have HR := Lib.hid hR
  have HB := Lib.hid h
  have HST := Lib.hid (RowR.start (T := T) (cnd := isMul T) hF s0)
  obtain ⟨R, hRR⟩ : ∃ R, rowQ T (isMul T) sub (fuelQ T (sub s0).2) (sub s0) = R := ⟨_, rfl⟩
  rw [hRR] at HST ⊢
  clear hS hF hE hR h hRR
  go_enter Tryz.func148, Tryz.ntmps148
  go_wp2_with fail
  refine (HS.out s0 _ HB.out).mono ?_
  rintro e w1 ⟨⟨x, rfl, hx⟩, h1, f1⟩
  have H1 := Lib.hid h1; have F1 := Lib.hid f1; have HX := Lib.hid hx
  clear h1 f1 hx HB
  go_wp2_with fail
  go_loopw [5] (fun v wr => ∃ r : RQ, (∃ y : ByteArray, v = .string y ∧ Hid (y.data.toList = r.1)) ∧ Hid (PAt wr b q c T D r.2) ∧ Hid (Fr2 (Self b) w wr) ∧ Hid (RowR T (isMul T) sub s0 R r)) (fun _ wr => T.length - iOf wr b)
  case atStart => exact ⟨_, ⟨_, rfl, HX⟩, H1, F1, HST⟩
  case round =>
    clear H1 F1 HX HST
    obtain ⟨r, ⟨y, rfl, HY⟩, HP, HFR, HRO⟩ := hrel
    have hys : y.size ≤ 10000000 := by rw [qsize HY.out]; exact len_ok HR.out HRO.out.fits
    have HP0 : Hid (PAt wr b q c T D r.2) := HP
    have HG0 : Hid (Fr2 (Self b) wr wr) := Lib.hid (Fr2.refl _ _)
    go_wp2_with fail
    refine (HI.out [42] _ _ HP0.out).mono ?_
    rintro e v0 ⟨rfl, h2, f2⟩
    have HP1 := Lib.hid h2; have HG1 := Lib.hid (HG0.out.trans f2)
    obtain ⟨b0, hb0⟩ : ∃ b0, isQ T [42] r.2 = b0 := ⟨_, rfl⟩
    have HV0 := Lib.hid hb0
    rw [hb0]
    clear h2 f2 hb0 HP0 HG0
    cases b0
    · have hnop : True := trivial
      go_wp2_with fail
      refine (HI.out [47] _ _ HP1.out).mono ?_
      rintro e v1 ⟨rfl, h2, f2⟩
      have HP2 := Lib.hid h2; have HG2 := Lib.hid (HG1.out.trans f2)
      obtain ⟨b1, hb1⟩ : ∃ b1, isQ T [47] r.2 = b1 := ⟨_, rfl⟩
      have HV1 := Lib.hid hb1
      rw [hb1]
      clear h2 f2 hb1 HP1 HG1
      cases b1
      · have hnop : True := trivial
        go_wp2_with fail
        refine (HI.out [37] _ _ HP2.out).mono ?_
        rintro e v2 ⟨rfl, h2, f2⟩
        have HP3 := Lib.hid h2; have HG3 := Lib.hid (HG2.out.trans f2)
        obtain ⟨b2, hb2⟩ : ∃ b2, isQ T [37] r.2 = b2 := ⟨_, rfl⟩
        have HV2 := Lib.hid hb2
        rw [hb2]
        clear h2 f2 hb2 HP2 HG2
        cases b2
        · have HC : Hid ((isMul T) r.2 = false) := Lib.hid (by first | exact HV2.out | (unfold isMul; rw [HV0.out, HV1.out, HV2.out]; rfl))
          go_wp2_with fail
          go_ret
          rw [HRO.out.stop HC.out]
          exact ⟨⟨_, rfl, HY.out⟩, HP3.out, HFR.out.trans HG3.out⟩
        · have HC : Hid ((isMul T) r.2 = true) := Lib.hid (by first | exact HV2.out | (unfold isMul; rw [HV0.out, HV1.out, HV2.out]; simp))
          have HK : Hid ((tokQ T r.2).kind ≠ 5) := Lib.hid (is_kind HV2.out).1
          go_wp2_with fail
          refine (HL.out _ _ HP3.out).mono ?_
          rintro e w3 ⟨⟨l, rfl, hl⟩, h3, f3⟩
          have hls : l.size ≤ 10000000 := by rw [qsize hl]; exact leaf_len HR.out HK.out
          have HL1 := Lib.hid hl; have H3 := Lib.hid h3; have F3 := Lib.hid (HG3.out.trans f3)
          clear hl h3 f3
          go_wp2_with fail
          all_goals (try (exfalso; (simp at *; omega)))
          refine (HS.out _ _ H3.out).mono ?_
          rintro e w4 ⟨⟨z, rfl, hz⟩, h4, f4⟩
          have hzs : z.size ≤ 10000000 := by rw [qsize hz]; exact len_ok HR.out (HF.out _)
          have HN := Lib.hid (HRO.out.next HF.out HC.out HK.out HP.out.ok H3.out.ok)
          have HZ := Lib.hid hz; have H4 : Hid (PAt w4 b q c T D (rowStep T sub r).2) := Lib.hid h4; have F4 := Lib.hid (HFR.out.trans (F3.out.trans f4))
          have HME : Hid (T.length - iOf w4 b < T.length - iOf wr b) := Lib.hid (by rw [H4.out.iOf, HP.out.iOf]; have h5 := HN.out.2; have h6 := H4.out.ok; omega)
          clear hz h4 f4
          go_wp2_with fail
          all_goals (try (exfalso; (simp at *; omega)))
          go_roundw
          case rel => exact ⟨rowStep T sub r, ⟨_, rfl, Lib.hid (by rw [qapp, qapp, qapp, qapp, HY.out, HL1.out, HZ.out]; simp [rowStep])⟩, H4, F4, Lib.hid HN.out.1⟩
          case measure => exact HME.out
      · have HC : Hid ((isMul T) r.2 = true) := Lib.hid (by first | exact HV1.out | (unfold isMul; rw [HV0.out, HV1.out]; simp))
        have HK : Hid ((tokQ T r.2).kind ≠ 5) := Lib.hid (is_kind HV1.out).1
        go_wp2_with fail
        refine (HL.out _ _ HP2.out).mono ?_
        rintro e w3 ⟨⟨l, rfl, hl⟩, h3, f3⟩
        have hls : l.size ≤ 10000000 := by rw [qsize hl]; exact leaf_len HR.out HK.out
        have HL1 := Lib.hid hl; have H3 := Lib.hid h3; have F3 := Lib.hid (HG2.out.trans f3)
        clear hl h3 f3
        go_wp2_with fail
        all_goals (try (exfalso; (simp at *; omega)))
        refine (HS.out _ _ H3.out).mono ?_
        rintro e w4 ⟨⟨z, rfl, hz⟩, h4, f4⟩
        have hzs : z.size ≤ 10000000 := by rw [qsize hz]; exact len_ok HR.out (HF.out _)
        have HN := Lib.hid (HRO.out.next HF.out HC.out HK.out HP.out.ok H3.out.ok)
        have HZ := Lib.hid hz; have H4 : Hid (PAt w4 b q c T D (rowStep T sub r).2) := Lib.hid h4; have F4 := Lib.hid (HFR.out.trans (F3.out.trans f4))
        have HME : Hid (T.length - iOf w4 b < T.length - iOf wr b) := Lib.hid (by rw [H4.out.iOf, HP.out.iOf]; have h5 := HN.out.2; have h6 := H4.out.ok; omega)
        clear hz h4 f4
        go_wp2_with fail
        all_goals (try (exfalso; (simp at *; omega)))
        go_roundw
        case rel => exact ⟨rowStep T sub r, ⟨_, rfl, Lib.hid (by rw [qapp, qapp, qapp, qapp, HY.out, HL1.out, HZ.out]; simp [rowStep])⟩, H4, F4, Lib.hid HN.out.1⟩
        case measure => exact HME.out
    · have HC : Hid ((isMul T) r.2 = true) := Lib.hid (by first | exact HV0.out | (unfold isMul; rw [HV0.out]; simp))
      have HK : Hid ((tokQ T r.2).kind ≠ 5) := Lib.hid (is_kind HV0.out).1
      go_wp2_with fail
      refine (HL.out _ _ HP1.out).mono ?_
      rintro e w3 ⟨⟨l, rfl, hl⟩, h3, f3⟩
      have hls : l.size ≤ 10000000 := by rw [qsize hl]; exact leaf_len HR.out HK.out
      have HL1 := Lib.hid hl; have H3 := Lib.hid h3; have F3 := Lib.hid (HG1.out.trans f3)
      clear hl h3 f3
      go_wp2_with fail
      all_goals (try (exfalso; (simp at *; omega)))
      refine (HS.out _ _ H3.out).mono ?_
      rintro e w4 ⟨⟨z, rfl, hz⟩, h4, f4⟩
      have hzs : z.size ≤ 10000000 := by rw [qsize hz]; exact len_ok HR.out (HF.out _)
      have HN := Lib.hid (HRO.out.next HF.out HC.out HK.out HP.out.ok H3.out.ok)
      have HZ := Lib.hid hz; have H4 : Hid (PAt w4 b q c T D (rowStep T sub r).2) := Lib.hid h4; have F4 := Lib.hid (HFR.out.trans (F3.out.trans f4))
      have HME : Hid (T.length - iOf w4 b < T.length - iOf wr b) := Lib.hid (by rw [H4.out.iOf, HP.out.iOf]; have h5 := HN.out.2; have h6 := H4.out.ok; omega)
      clear hz h4 f4
      go_wp2_with fail
      all_goals (try (exfalso; (simp at *; omega)))
      go_roundw
      case rel => exact ⟨rowStep T sub r, ⟨_, rfl, Lib.hid (by rw [qapp, qapp, qapp, qapp, HY.out, HL1.out, HZ.out]; simp [rowStep])⟩, H4, F4, Lib.hid HN.out.1⟩
      case measure => exact HME.out
end
end Go.Proofs.YthclkbaankjbiaaGreatDoor
namespace Go.Proofs.YthclkbaankjbiaaGreatDoor
open Go.RowKit
section
variable (b : Nat) (q : Option Addr) (c : Nat) (T : List Tok) (D : Nat)
variable (hE : EndT T) (hR : roomQ T T.length ≤ 10000000) (n : Nat) (nx : Nx) (ex : St → RQ)
include hE hR

set_option maxRecDepth 100000 in
set_option maxHeartbeats 4000000 in
theorem factor_c (n1 : Nat) (hn1 : n1 = n + 1) (hn : n ≤ 1000) (hA : SubC b q c T D 152 n (atomQ T nx)) (fA : ∀ s, Fits T s (atomQ T nx s)) (hB : n1 ≤ D → SubC b q c T D 150 n1 (nx.factor)) (fB : ∀ s, Fits T s (nx.factor s)) (s0 : St) (w : World) (h : PAt w b q c T D s0) : Calls Tryz.prog 150 #[.pointer (some ⟨b, 0, none⟩), .int .i64 (n : Int)] w (RPost b q c T D (factorQ T D n nx s0) w) := by
  have HI := Lib.hid (fun x s w h => is_c b q c T D x s w h)
  have HL := Lib.hid (fun s w h => leaf_c b q c T D hE hR s w h)
  have HMU := Lib.hid (fun x s w h => must_c b q c T D hE hR x s w h)
  have HKI := Lib.hid (fun k s w h => kind_c b q c T D hE hR k s w h)
  have HFA := Lib.hid (fun e s w h => fail_c b q c T D e s w h)
  have HNE := Lib.hid (fun s w h => nest_c b q c T D n1 s w h)
  have HNE0 := Lib.hid (fun s w h => nest_c b q c T D n s w h); have HN1 := Lib.hid hn1
  have hwn : IntKind.i64.wrap ((n : Int) + 1) = (n1 : Int) := by rw [hn1]; exact IntWalk.i64_in _ (by omega)
  have HSA := Lib.hid hA; have HTA := Lib.hid fA
  have HSB := Lib.hid hB; have HTB := Lib.hid fB
  have HR := Lib.hid hR; have HP0 := Lib.hid h; have HG0 : Hid (Fr2 (Self b) w w) := Lib.hid (Fr2.refl _ _)
  clear hE hR h hn hn1 hA fA hB fB
  go_enter Tryz.func150, Tryz.ntmps150
  go_wp2_with fail
  all_goals (try (exfalso; (simp at *; omega)))
  refine (HI.out [45] _ _ HP0.out).mono ?_
  rintro e w1 ⟨rfl, h2, f2⟩
  have HP1 : Hid (PAt w1 b q c T D s0) := Lib.hid h2; have HG1 := Lib.hid (HG0.out.trans f2)
  obtain ⟨b1, hb⟩ : ∃ b1, isQ T [45] s0 = b1 := ⟨_, rfl⟩
  rw [hb]
  have HV1 := Lib.hid hb
  clear h2 f2 hb
  cases b1
  · skip
    go_wp2_with fail
    all_goals (try (exfalso; (simp at *; omega)))
    refine (HSA.out _ _ HP1.out).mono ?_
    rintro e w2 ⟨⟨x2, rfl, hx⟩, h2, f2⟩
    have hxs2 : x2.size ≤ 10000100 := by rw [qsize hx]; exact Nat.le_trans (len_ok HR.out (HTA.out _)) (by decide)
    obtain ⟨s2, hs⟩ : ∃ s2, ((atomQ T nx) s0).2 = s2 := ⟨_, rfl⟩
    have HX2 := Lib.hid hx; have HE2 := Lib.hid hs; have HP2 : Hid (PAt w2 b q c T D s2) := Lib.hid (hs ▸ h2); have HG2 := Lib.hid (HG1.out.trans f2)
    clear hx h2 f2 hs
    go_wp2_with fail
    all_goals (try (exfalso; (simp at *; omega)))
    go_ret
    have hM : ((factorQ T D n nx) s0).2 = s2 := by simp [factorQ, signQ, HV1.out, HX2.out, HE2.out]
    exact ⟨⟨_, rfl, by simp [factorQ, signQ, qapp, HV1.out, HX2.out, HE2.out]⟩, by rw [hM]; exact HP2.out, HG2.out⟩
  · skip
    go_wp2_with fail
    all_goals (try (exfalso; (simp at *; omega)))
    have HPo3 : Hid (s0.i < T.length) := Lib.hid HP1.out.ok
    refine (HL.out _ _ HP1.out).mono ?_
    rintro e w3 ⟨⟨x3, rfl, hx⟩, h2, f2⟩
    have hxs3 : x3.size ≤ 10000100 := by rw [qsize hx]; exact Nat.le_trans (leaf_lenA HR.out HPo3.out) (by decide)
    obtain ⟨s3, hs⟩ : ∃ s3, (leafQ T s0).2 = s3 := ⟨_, rfl⟩
    have HX3 := Lib.hid hx; have HE3 := Lib.hid hs; have HP3 : Hid (PAt w3 b q c T D s3) := Lib.hid (hs ▸ h2); have HG3 := Lib.hid (HG1.out.trans f2)
    clear hx h2 f2 hs
    go_wp2_with fail
    all_goals (try (exfalso; (simp at *; omega)))
    refine (HNE.out _ _ HP3.out).mono ?_
    rintro e w4 ⟨rfl, h2, f2⟩
    rw [HN1.out] at h2
    obtain ⟨s4, hs⟩ : ∃ s4, nestQ T D (n + 1) s3 = s4 := ⟨_, rfl⟩
    have HE4 := Lib.hid hs; have HP4 : Hid (PAt w4 b q c T D s4) := Lib.hid (hs ▸ h2); have HG4 := Lib.hid (HG3.out.trans f2)
    clear h2 f2 hs
    obtain ⟨d0, d1, d2, d3, d4, d5, d6⟩ := cells6 HP4.out.box
    obtain ⟨E, hEE⟩ : ∃ E, s4.e = E := ⟨_, rfl⟩
    have HV5 := Lib.hid hEE
    rw [hEE] at d4; clear hEE d0 d1 d2 d3 d5 d6
    by_cases he : E = 0
    · subst he
      have HSB := Lib.hid (HSB.out (by rw [HN1.out]; exact nest_ok (by rw [HE4.out]; exact HV5.out)))
      go_wp2_with fail
      all_goals (try (exfalso; (simp at *; omega)))
      refine (HSB.out _ _ HP4.out).mono ?_
      rintro e w6 ⟨⟨x6, rfl, hx⟩, h2, f2⟩
      have hxs6 : x6.size ≤ 10000100 := by rw [qsize hx]; exact Nat.le_trans (len_ok HR.out (HTB.out _)) (by decide)
      obtain ⟨s6, hs⟩ : ∃ s6, ((nx.factor) s4).2 = s6 := ⟨_, rfl⟩
      have HX6 := Lib.hid hx; have HE6 := Lib.hid hs; have HP6 : Hid (PAt w6 b q c T D s6) := Lib.hid (hs ▸ h2); have HG6 := Lib.hid (HG4.out.trans f2)
      clear hx h2 f2 hs
      go_wp2_with fail
      all_goals (try (exfalso; (simp at *; omega)))
      go_ret
      have hM : ((factorQ T D n nx) s0).2 = s6 := by simp [factorQ, signQ, HV1.out, HX3.out, HE3.out, HE4.out, HV5.out, HX6.out, HE6.out]
      exact ⟨⟨_, rfl, by simp [factorQ, signQ, qapp, HV1.out, HX3.out, HE3.out, HE4.out, HV5.out, HX6.out, HE6.out]⟩, by rw [hM]; exact HP6.out, HG6.out⟩
    · have e2 : (E == 0) = false := beq_eq_false_iff_ne.2 he
      have e2' : ((E : Int) == 0) = false := beq_eq_false_iff_ne.2 (by omega)
      have e3 : (E != 0) = true := bne_iff_ne.2 he
      have e3' : ((E : Int) != 0) = true := bne_iff_ne.2 (by omega)
      have HV5 := Lib.hid (show ¬ s4.e = 0 from fun e => he (HV5.out.symm.trans e))
      clear he
      go_wp2_with fail
      all_goals (try (exfalso; (simp at *; omega)))
      go_ret
      have hM : ((factorQ T D n nx) s0).2 = s4 := by simp [factorQ, signQ, HV1.out, HX3.out, HE3.out, HE4.out, HV5.out]
      exact ⟨⟨_, rfl, by simp [factorQ, signQ, qapp, HV1.out, HX3.out, HE3.out, HE4.out, HV5.out]⟩, by rw [hM]; exact HP4.out, HG4.out⟩
end
end Go.Proofs.YthclkbaankjbiaaGreatDoor
