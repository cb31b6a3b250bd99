/- A definition's parameters. -/
import Derived.Test.YthclkbaankjbiaaGreatDoorM22
namespace Go.Proofs.YthclkbaankjbiaaGreatDoor
open Go.RowKit
section
variable (b : Nat) (q : Option Addr) (c : Nat) (T : List Tok) (D : Nat)
variable (hE : EndT T) (hR : roomQ T T.length ≤ 10000000)
include hE hR

set_option maxRecDepth 100000 in
set_option maxHeartbeats 4000000 in
theorem params_c (ex : St → RQ) (hY : SubN b q c T D 84 (typedQ T ex)) (hX : ∀ s, Fits T s (ex s)) (s0 : St) (w : World) (h : PAt w b q c T D s0) : Calls Tryz.prog 83 #[.pointer (some ⟨b, 0, none⟩)] w (RPost b q c T D (paramsQ T ex s0) w) := by
  have HI := Lib.hid (fun x s w h => is_c b q c T D x s w h)
  have HL := Lib.hid (fun s w h => leaf_c b q c T D hE hR s w h)
  have HFA := Lib.hid (fun e s w h => fail_c b q c T D e s w h)
  have HKI := Lib.hid (fun s w h => kind_c b q c T D hE hR 1 s w h)
  have HTY := Lib.hid hY; have HXX := Lib.hid hX; have HF : Hid (∀ s, Fits4 T s (parQ T ex s)) := Lib.hid (par_fits hX); have HR := Lib.hid hR
  have HTL := Lib.hid (Nat.le_trans (len_room T) hR)
  have HB := Lib.hid h
  have HST := Lib.hid (PartsR.start HF.out s0)
  obtain ⟨R, hRR⟩ : ∃ R, paramsQ T ex s0 = R := ⟨_, rfl⟩
  rw [show partsQ T (parQ T ex) (fuelQ T (parQ T ex s0).2) 1 (parQ T ex s0) = R from hRR] at HST
  rw [hRR]
  clear hY hX hE hR h hRR
  go_enter Tryz.func83, Tryz.ntmps83
  go_wp2_with fail
  refine (HKI.out s0 _ HB.out).mono ?_
  rintro e w1 ⟨⟨x, rfl, hx⟩, h1, f1⟩
  have hxs : x.size ≤ 10000100 := by rw [qsize hx]; exact Nat.le_trans (len_ok HR.out (kind_fits (by decide) _)) (by decide)
  have HK1 := Lib.hid hx; have HP0 := Lib.hid h1; have FP0 := Lib.hid f1
  clear h1 f1 hx HB
  go_wp2_with fail
  all_goals (try (exfalso; (simp at *; omega)))
  refine (HTY.out _ _ HP0.out).mono ?_
  rintro e w2 ⟨⟨x2, rfl, hx⟩, h1, f1⟩
  have hxs2 : x2.size ≤ 10000100 := by rw [qsize hx]; exact Nat.le_trans (len_ok HR.out (typed_fits HXX.out _)) (by decide)
  have HX : Hid (((⟨#[32, 40, 52]⟩ : ByteArray) ++ x ++ x2 ++ (⟨#[41]⟩ : ByteArray)).data.toList = (parQ T ex s0).1) := Lib.hid (by rw [qapp, qapp, qapp, HK1.out, hx]; simp [parQ])
  have H1 : Hid (PAt w2 b q c T D (parQ T ex s0).2) := Lib.hid h1; have F1 := Lib.hid (FP0.out.trans f1)
  clear h1 f1 hx HP0 FP0 HK1
  go_wp2_with fail
  all_goals (try (exfalso; (simp at *; omega)))
  go_loopw [3, 4] (fun v i wr => ∃ (r : RQ) (k : Nat), (∃ y : ByteArray, v = .string y ∧ Hid (y.data.toList = r.1)) ∧ i = .int .i64 k ∧ Hid (PAt wr b q c T D r.2) ∧ Hid (Fr2 (Self b) w wr) ∧ Hid (PartsR T (parQ T ex) s0 R k r)) (fun _ _ wr => T.length - iOf wr b)
  case atStart =>
    exact ⟨_, 1, ⟨_, rfl, HX⟩, rfl, H1, F1, HST⟩
  case round =>
    clear H1 F1 HX HST
    obtain ⟨r, k, ⟨y, rfl, HY⟩, rfl, HP, HFR, HRO⟩ := hrel
    have hys : y.size ≤ 10000100 := by rw [qsize HY.out]; exact len4_ok HR.out HRO.out.fits
    have hkb : k ≤ 10000001 := by have h1 := HRO.out.cnt; have h2 := HP.out.ok; have h3 := HTL.out; omega
    have hkw : IntKind.i64.wrap ((k : Int) + 1) = (k : Int) + 1 := IntWalk.i64_in _ (by omega)
    go_wp2_with fail
    refine (HI.out [44] _ _ HP.out).mono ?_
    rintro e v0 ⟨rfl, h2, f2⟩
    have HP1 := Lib.hid h2; have HG1 := Lib.hid f2
    obtain ⟨b0, hb0⟩ : ∃ b0, isQ T [44] r.2 = b0 := ⟨_, rfl⟩
    have HV0 := Lib.hid hb0
    rw [hb0]
    clear h2 f2 hb0
    cases b0
    · go_wp2_with fail
      go_ret
      rw [HRO.out.stop HV0.out]
      exact ⟨⟨_, rfl, HY.out⟩, HP1.out, HFR.out.trans HG1.out⟩
    · go_wp2_with fail
      refine (HL.out _ _ HP1.out).mono ?_
      rintro e w3 ⟨⟨l, rfl, hl⟩, h3, f3⟩
      have hls : l.size ≤ 10000000 := by rw [qsize hl]; exact leaf_lenA HR.out HP.out.ok
      have HL1 := Lib.hid hl; have H3 := Lib.hid h3; have F3 := Lib.hid (HG1.out.trans f3)
      clear hl h3 f3
      have HN := Lib.hid (HRO.out.next HF.out HV0.out HP.out.ok H3.out.ok)
      by_cases h8 : k = 8
      · subst h8
        have HA : Hid (failQ T 15 (leafQ T r.2).2 = afterQ T 8 r.2) := Lib.hid (by unfold afterQ; rw [if_pos rfl])
        go_wp2_with fail
        all_goals (try (exfalso; (simp at *; omega)))
        refine (HFA.out 15 _ _ H3.out).mono ?_
        rintro e w4 ⟨rfl, h4, f4⟩
        have H4 := Lib.hid h4; have F4 := Lib.hid (F3.out.trans f4)
        rw [HA.out] at H4
        clear h4 f4 HA
        go_wp2_with fail
        all_goals (try (exfalso; (simp at *; omega)))
        refine (HKI.out _ _ H4.out).mono ?_
        rintro e w6 ⟨⟨z1, rfl, hz1⟩, h6, f6⟩
        have hzs1 : z1.size ≤ 10000100 := by rw [qsize hz1]; exact Nat.le_trans (len_ok HR.out (kind_fits (by decide) _)) (by decide)
        have HZ1 := Lib.hid hz1; have H6 := Lib.hid h6; have F6 := Lib.hid (F4.out.trans f6)
        clear hz1 h6 f6
        go_wp2_with fail
        all_goals (try (exfalso; (simp at *; omega)))
        refine (HTY.out _ _ H6.out).mono ?_
        rintro e w5 ⟨⟨z, rfl, hz⟩, h5, f5⟩
        have hzs : z.size ≤ 10000100 := by rw [qsize hz]; exact Nat.le_trans (len_ok HR.out (typed_fits HXX.out _)) (by decide)
        have HZ := Lib.hid hz; have H5 : Hid (PAt w5 b q c T D (partStep T (parQ T ex) 8 r).2) := Lib.hid h5; have F5 := Lib.hid (HFR.out.trans (F6.out.trans f5))
        have HME : Hid (T.length - iOf w5 b < T.length - iOf wr b) := Lib.hid (by rw [H5.out.iOf, HP.out.iOf]; have h5 := HN.out.2; have h6 := H5.out.ok; omega)
        clear hz h5 f5
        go_wp2_with fail
        all_goals (try (exfalso; (simp at *; omega)))
        go_roundw
        case rel => exact ⟨partStep T (parQ T ex) 8 r, 9, ⟨_, rfl, Lib.hid (by rw [qapp, qapp, qapp, qapp, qapp, HY.out, HL1.out, HZ1.out, HZ.out]; simp [partStep, parQ])⟩, by go_num, H5, F5, Lib.hid HN.out.1⟩
        case measure => exact HME.out
      · have e2 : (k == 8) = false := beq_eq_false_iff_ne.2 h8
        have e2' : ((k : Int) == 8) = false := beq_eq_false_iff_ne.2 (by omega)
        have HA : Hid ((leafQ T r.2).2 = afterQ T k r.2) := Lib.hid (by unfold afterQ; rw [if_neg h8])
        rw [HA.out] at H3
        clear h8 HA
        go_wp2_with fail
        all_goals (try (exfalso; (simp at *; omega)))
        refine (HKI.out _ _ H3.out).mono ?_
        rintro e w6 ⟨⟨z1, rfl, hz1⟩, h6, f6⟩
        have hzs1 : z1.size ≤ 10000100 := by rw [qsize hz1]; exact Nat.le_trans (len_ok HR.out (kind_fits (by decide) _)) (by decide)
        have HZ1 := Lib.hid hz1; have H6 := Lib.hid h6; have F6 := Lib.hid (F3.out.trans f6)
        clear hz1 h6 f6
        go_wp2_with fail
        all_goals (try (exfalso; (simp at *; omega)))
        refine (HTY.out _ _ H6.out).mono ?_
        rintro e w5 ⟨⟨z, rfl, hz⟩, h5, f5⟩
        have hzs : z.size ≤ 10000100 := by rw [qsize hz]; exact Nat.le_trans (len_ok HR.out (typed_fits HXX.out _)) (by decide)
        have HZ := Lib.hid hz; have H5 : Hid (PAt w5 b q c T D (partStep T (parQ T ex) k r).2) := Lib.hid h5; have F5 := Lib.hid (HFR.out.trans (F6.out.trans f5))
        have HME : Hid (T.length - iOf w5 b < T.length - iOf wr b) := Lib.hid (by rw [H5.out.iOf, HP.out.iOf]; have h5 := HN.out.2; have h6 := H5.out.ok; omega)
        clear hz h5 f5
        go_wp2_with fail
        all_goals (try (exfalso; (simp at *; omega)))
        go_roundw
        case rel => exact ⟨partStep T (parQ T ex) k r, k + 1, ⟨_, rfl, Lib.hid (by rw [qapp, qapp, qapp, qapp, qapp, HY.out, HL1.out, HZ1.out, HZ.out]; simp [partStep, parQ])⟩, by go_num, H5, F5, Lib.hid HN.out.1⟩
        case measure => exact HME.out
end
end Go.Proofs.YthclkbaankjbiaaGreatDoor
namespace Go.Proofs.YthclkbaankjbiaaGreatDoor
open Go.RowKit
section
variable (b : Nat) (q : Option Addr) (c : Nat) (T : List Tok) (D : Nat)
variable (hE : EndT T) (hR : roomQ T T.length ≤ 10000000) (n : Nat) (nx : Nx) (ex : St → RQ)
include hE hR

set_option maxRecDepth 100000 in
set_option maxHeartbeats 4000000 in
theorem alone_c  (hX : SubC b q c T D 44 1 (ex)) (fX : ∀ s, Fits T s (ex s)) (s0 : St) (w : World) (h : PAt w b q c T D s0) : Calls Tryz.prog 21 #[.pointer (some ⟨b, 0, none⟩)] w (RPost b q c T D (aloneQ T ex s0) w) := by
  have HI := Lib.hid (fun x s w h => is_c b q c T D x s w h)
  have HL := Lib.hid (fun s w h => leaf_c b q c T D hE hR s w h)
  have HMU := Lib.hid (fun x s w h => must_c b q c T D hE hR x s w h)
  have HKI := Lib.hid (fun k s w h => kind_c b q c T D hE hR k s w h)
  have HFA := Lib.hid (fun e s w h => fail_c b q c T D e s w h)
  have HSX := Lib.hid hX; have HTX := Lib.hid fX
  have HR := Lib.hid hR; have HP0 := Lib.hid h; have HG0 : Hid (Fr2 (Self b) w w) := Lib.hid (Fr2.refl _ _)
  clear hE hR h hX fX
  go_enter Tryz.func21, Tryz.ntmps21
  obtain ⟨d0, d1, d2, d3, d4, d5, d6⟩ := cells6 HP0.out.box
  obtain ⟨s1, hs⟩ : ∃ s1, setIn true s0 = s1 := ⟨_, rfl⟩
  have HE1 := Lib.hid hs
  have HP1 : Hid (PAt (w.setCell ⟨b, 3, none⟩ (.bool true)) b q c T D s1) := Lib.hid (hs ▸ HP0.out.setIn true); have HG1 : Hid (Fr2 (Self b) w (w.setCell ⟨b, 3, none⟩ (.bool true))) := Lib.hid (HG0.out.setCell (mine b) _)
  clear hs d0 d1 d2 d4 d5
  go_wp2_with fail
  all_goals (try (exfalso; (simp at *; omega)))
  refine (HSX.out _ _ HP1.out).mono ?_
  rintro e w2 ⟨⟨x2, rfl, hx⟩, h2, f2⟩
  have hxs2 : x2.size ≤ 10000100 := by rw [qsize hx]; exact Nat.le_trans (len_ok HR.out (HTX.out _)) (by decide)
  obtain ⟨s2, hs⟩ : ∃ s2, ((ex) s1).2 = s2 := ⟨_, rfl⟩
  have HX2 := Lib.hid hx; have HE2 := Lib.hid hs; have HP2 : Hid (PAt w2 b q c T D s2) := Lib.hid (hs ▸ h2); have HG2 := Lib.hid (HG1.out.trans f2)
  clear hx h2 f2 hs
  go_wp2_with fail
  all_goals (try (exfalso; (simp at *; omega)))
  have HPo3 : Hid (s2.i < T.length) := Lib.hid HP2.out.ok
  refine (HKI.out 5 _ _ HP2.out).mono ?_
  rintro e w3 ⟨⟨x3, rfl, hx⟩, h2, f2⟩
  have hxs3 : x3.size ≤ 10000100 := by rw [qsize hx]; exact Nat.le_trans (kind_len HR.out HPo3.out) (by decide)
  obtain ⟨s3, hs⟩ : ∃ s3, (kindQ T 5 s2).2 = s3 := ⟨_, rfl⟩
  have HX3 := Lib.hid hx; have HE3 := Lib.hid hs; have HP3 : Hid (PAt w3 b q c T D s3) := Lib.hid (hs ▸ h2); have HG3 := Lib.hid (HG2.out.trans f2)
  clear hx h2 f2 hs
  go_wp2_with fail
  all_goals (try (exfalso; (simp at *; omega)))
  go_ret
  have hM : ((aloneQ T ex) s0).2 = s3 := by simp [aloneQ, HE1.out, HX2.out, HE2.out, HX3.out, HE3.out]
  exact ⟨⟨_, rfl, by simp [aloneQ, qapp, HE1.out, HX2.out, HE2.out, HX3.out, HE3.out]⟩, by rw [hM]; exact HP3.out, HG3.out⟩
end
end Go.Proofs.YthclkbaankjbiaaGreatDoor
namespace Go.Proofs.YthclkbaankjbiaaGreatDoor
open Go.RowKit

theorem room_lt {T : List Tok} {i j : Nat} (h : roomQ T i < roomQ T j) : i < j := by
  rcases Nat.lt_or_ge i j with h1 | h1
  · exact h1
  · have := room_mono T h1; omega
theorem roomB_len {T : List Tok} (hR : roomQ T T.length ≤ 10000000) {A : Nat} {r : RQ} (h : RoomB T A r) : r.1.length ≤ 10000100 := by
  have := room_end T r.2.i
  unfold RoomB at h
  omega
theorem def_step {T : List Tok} {ex : St → RQ} (hX : ∀ s, Fits T s (ex s)) {A : Nat} {r : RQ} (h : RoomB T A r) (hd : isDef T r.2 = true) : RoomB T A (defStep T ex r) ∧ r.2.i < (defStep T ex r).2.i := by
  have h1 := def_fits hX hd
  have h2 : 1 ≤ (defQ T ex r.2).1.length := by unfold defQ defD; simp only [List.length_append, List.length_cons, List.length_nil]; omega
  unfold Fits at h1
  refine ⟨?_, room_lt (by show roomQ T r.2.i < roomQ T (defQ T ex r.2).2.i; omega)⟩
  unfold RoomB at h ⊢
  unfold defStep
  simp only [List.length_append]; omega

/-- The loop's invariant. -/
structure ManyR (T : List Tok) (cnd : St → Bool) (step : RQ → RQ) (most A : Nat) (R : Bool × RQ) (k : Nat) (r : RQ) : Prop where
  left : ∃ f, T.length - r.2.i + 1 ≤ f ∧ manyQ T cnd step most f k r = R
  fits : RoomB T A r
  cnt : k ≤ most
theorem ManyR.start {T : List Tok} {cnd : St → Bool} {step : RQ → RQ} {most A : Nat} {r : RQ} (h : RoomB T A r) : ManyR T cnd step most A (manyQ T cnd step most (fuelQ T r.2) 0 r) 0 r :=
  ⟨⟨_, Nat.le_refl _, rfl⟩, h, Nat.zero_le _⟩
theorem ManyR.stop {T : List Tok} {cnd : St → Bool} {step : RQ → RQ} {most A : Nat} {R : Bool × RQ} {k : Nat} {r : RQ} (h : ManyR T cnd step most A R k r) (hc : cnd r.2 = false) : R = (true, r) := by
  obtain ⟨f, -, hf⟩ := h.left
  rw [← hf]
  cases f with
  | zero => rfl
  | succ f => unfold manyQ; rw [hc]; rfl
theorem ManyR.full {T : List Tok} {cnd : St → Bool} {step : RQ → RQ} {most A : Nat} {R : Bool × RQ} {r : RQ} (h : ManyR T cnd step most A R most r) (hc : cnd r.2 = true) : R = (false, ([], failQ T 15 r.2)) := by
  obtain ⟨f, h1, hf⟩ := h.left
  obtain ⟨g, rfl⟩ : ∃ g, f = g + 1 := ⟨f - 1, by omega⟩
  rw [← hf]; unfold manyQ; rw [if_pos hc, if_pos rfl]
theorem ManyR.next {T : List Tok} {cnd : St → Bool} {step : RQ → RQ} {most A : Nat} {R : Bool × RQ} {k : Nat} {r : RQ} (h : ManyR T cnd step most A R k r) (hc : cnd r.2 = true) (hk : k ≠ most) (hs : RoomB T A (step r)) (hi : r.2.i < (step r).2.i) (h1 : r.2.i < T.length) : ManyR T cnd step most A R (k + 1) (step r) := by
  obtain ⟨f, hf, hr⟩ := h.left
  have h3 := h.cnt
  refine ⟨⟨f - 1, by omega, ?_⟩, hs, by omega⟩
  obtain ⟨g, rfl⟩ : ∃ g, f = g + 1 := ⟨f - 1, by omega⟩
  unfold manyQ at hr
  rw [if_pos hc, if_neg hk] at hr
  exact hr

section
variable (b : Nat) (q : Option Addr) (c : Nat) (T : List Tok) (D : Nat)
variable (hE : EndT T) (hR : roomQ T T.length ≤ 10000000)
include hE hR

set_option maxRecDepth 100000 in
set_option maxHeartbeats 8000000 in
theorem program_c (ex : St → RQ) (hY : SubN b q c T D 50 (defQ T ex)) (hX : ∀ s, Fits T s (ex s)) (s0 : St) (w : World) (h : PAt w b q c T D s0) : Calls Tryz.prog 22 #[.pointer (some ⟨b, 0, none⟩)] w (RPost b q c T D (programQ T ex s0) w) := by
  have HI := Lib.hid (fun x s w h => is_c b q c T D x s w h)
  have HL := Lib.hid (fun s w h => leaf_c b q c T D hE hR s w h)
  have HFA := Lib.hid (fun e s w h => fail_c b q c T D e s w h)
  have HKI := Lib.hid (fun k s w h => kind_c b q c T D hE hR k s w h)
  have HMU := Lib.hid (fun x s w h => must_c b q c T D hE hR x s w h)
  have HDE := Lib.hid hY; have HXX := Lib.hid hX; have HR := Lib.hid hR
  have HB := Lib.hid h
  have HST := Lib.hid (ManyR.start (cnd := isQ T [105, 109, 112, 111, 114, 116]) (step := impStep T) (most := 16) (A := roomQ T s0.i) (r := ([40, 49], s0)) (T := T) (by unfold RoomB; simp only [List.length_cons, List.length_nil]; omega))
  obtain ⟨R, hRR⟩ : ∃ R, importsQ T ([40, 49], s0) = R := ⟨_, rfl⟩
  rw [show manyQ T (isQ T [105, 109, 112, 111, 114, 116]) (impStep T) 16 (fuelQ T s0) 0 ([40, 49], s0) = R from hRR] at HST
  have HPR : Hid (programQ T ex s0 = if R.1 = false then R.2 else if (defsQ T ex R.2).1 = false then (defsQ T ex R.2).2 else endQ T (defsQ T ex R.2).2) := Lib.hid (by unfold programQ; rw [hRR])
  obtain ⟨Z, hZ⟩ : ∃ Z, programQ T ex s0 = Z := ⟨_, rfl⟩
  rw [hZ] at HPR ⊢
  obtain ⟨A, hA⟩ : ∃ A, roomQ T s0.i = A := ⟨_, rfl⟩
  have HA := Lib.hid hA
  rw [hA] at HST
  clear hY hX hE hR h hRR hZ hA
  go_enter Tryz.func22, Tryz.ntmps22
  go_wp2_with fail
  go_loopw [3, 4] (fun v i wr => ∃ (r : RQ) (k : Nat), (∃ y : ByteArray, v = .string y ∧ Hid (y.data.toList = r.1)) ∧ i = .int .i64 k ∧ Hid (PAt wr b q c T D r.2) ∧ Hid (Fr2 (Self b) w wr) ∧ Hid (ManyR T (isQ T [105, 109, 112, 111, 114, 116]) (impStep T) 16 A R k r)) (fun _ _ wr => T.length - iOf wr b)
  case atStart => exact ⟨([40, 49], s0), 0, ⟨_, rfl, Lib.hid rfl⟩, rfl, HB, Lib.hid (Fr2.refl _ _), HST⟩
  case round =>
    clear HST HB
    obtain ⟨r, k, ⟨y, rfl, HY⟩, rfl, HP, HFR, HRO⟩ := hrel
    have hys : y.size ≤ 10000100 := by rw [qsize HY.out]; exact roomB_len HR.out HRO.out.fits
    have hkb : k ≤ 16 := HRO.out.cnt
    have hkw : IntKind.i64.wrap ((k : Int) + 1) = (k : Int) + 1 := IntWalk.i64_in _ (by omega)
    go_wp2_with fail
    refine (HI.out [105, 109, 112, 111, 114, 116] _ _ HP.out).mono ?_
    rintro e v0 ⟨rfl, h2, f2⟩
    have HP1 := Lib.hid h2; have HG1 := Lib.hid (HFR.out.trans f2)
    have HME1 : Hid (iOf v0 b = iOf wr b) := Lib.hid (by rw [HP1.out.iOf, HP.out.iOf])
    obtain ⟨b0, hb0⟩ : ∃ b0, isQ T [105, 109, 112, 111, 114, 116] r.2 = b0 := ⟨_, rfl⟩
    have HV0 := Lib.hid hb0
    rw [hb0]
    clear h2 f2 hb0
    cases b0
    · -- no import comes
      have HR2 := Lib.hid (HRO.out.stop HV0.out)
      have HPR2 : Hid (Z = if (defsQ T ex r).1 = false then (defsQ T ex r).2 else endQ T (defsQ T ex r).2) := Lib.hid (by rw [HPR.out, HR2.out]; rfl)
      have HST2 := Lib.hid (ManyR.start (cnd := isDef T) (step := defStep T ex) (most := 64) (A := A) (r := r) (T := T) HRO.out.fits)
      obtain ⟨R2, hR2⟩ : ∃ R2, defsQ T ex r = R2 := ⟨_, rfl⟩
      rw [hR2] at HPR2
      rw [show manyQ T (isDef T) (defStep T ex) 64 (fuelQ T r.2) 0 r = R2 from hR2] at HST2
      clear hR2 hkb hkw hys HRO HPR HR2 HME1
      go_wp2_with fail
      go_loopw [3, 5] (fun v i wr => ∃ (r : RQ) (k : Nat), (∃ y : ByteArray, v = .string y ∧ Hid (y.data.toList = r.1)) ∧ i = .int .i64 k ∧ Hid (PAt wr b q c T D r.2) ∧ Hid (Fr2 (Self b) w wr) ∧ Hid (ManyR T (isDef T) (defStep T ex) 64 A R2 k r)) (fun _ _ wr => T.length - iOf wr b)
      case atStart => exact ⟨r, 0, ⟨_, rfl, HY⟩, rfl, HP1, HG1, HST2⟩
      case round =>
        clear HST2 HP1 HG1 HY HP HFR HV0
        obtain ⟨r, k, ⟨y, rfl, HY⟩, rfl, HP, HFR, HRO⟩ := hrel
        have hys : y.size ≤ 10000100 := by rw [qsize HY.out]; exact roomB_len HR.out HRO.out.fits
        have hkb : k ≤ 64 := HRO.out.cnt
        have hkw : IntKind.i64.wrap ((k : Int) + 1) = (k : Int) + 1 := IntWalk.i64_in _ (by omega)
        go_wp2_with fail
        refine (HI.out [112, 117, 98] _ _ HP.out).mono ?_
        rintro e v1 ⟨rfl, h2, f2⟩
        have HP1 := Lib.hid h2; have HG1 := Lib.hid (HFR.out.trans f2)
        obtain ⟨b0, hb0⟩ : ∃ b0, isQ T [112, 117, 98] r.2 = b0 := ⟨_, rfl⟩
        have HV0 := Lib.hid hb0
        rw [hb0]
        clear h2 f2 hb0
        cases b0
        · go_wp2_with fail
          refine (HI.out [102, 117, 110] _ _ HP1.out).mono ?_
          rintro e v2 ⟨rfl, h2, f2⟩
          have HP2 := Lib.hid h2; have HG2 := Lib.hid (HG1.out.trans f2)
          obtain ⟨b0, hb0⟩ : ∃ b0, isQ T [102, 117, 110] r.2 = b0 := ⟨_, rfl⟩
          have HV1 := Lib.hid hb0
          rw [hb0]
          clear h2 f2 hb0 HP1 HG1
          cases b0
          · have HR3 := Lib.hid (HRO.out.stop (by unfold isDef; rw [HV0.out, HV1.out]; rfl))
            have HPo : Hid (r.2.i < T.length) := Lib.hid HP2.out.ok
            go_wp2_with fail
            refine (HKI.out 5 _ _ HP2.out).mono ?_
            rintro e w9 ⟨⟨z, rfl, hz⟩, h9, f9⟩
            have hzs : z.size ≤ 10000100 := by rw [qsize hz]; exact Nat.le_trans (kind_len HR.out HPo.out) (by decide)
            have HPR3 : Hid (Z = endQ T r) := Lib.hid (by rw [HPR2.out, HR3.out]; rfl)
            have HZ := Lib.hid hz; have H9 := Lib.hid h9; have F9 := Lib.hid (HG2.out.trans f9)
            clear hz h9 f9
            go_wp2_with fail
            all_goals (try (exfalso; (simp at *; omega)))
            go_ret
            rw [HPR3.out]
            exact ⟨⟨_, rfl, by rw [qapp, qapp, HY.out, HZ.out]; simp [endQ]⟩, H9.out, F9.out⟩
          · have HD : Hid (isDef T r.2 = true) := Lib.hid (by unfold isDef; rw [HV0.out, HV1.out]; rfl)
            by_cases h64 : k = 64
            · subst h64
              have HR3 := Lib.hid (HRO.out.full HD.out)
              have HPR3 : Hid (Z = ([], failQ T 15 r.2)) := Lib.hid (by rw [HPR2.out, HR3.out]; rfl)
              go_wp2_with fail
              refine (HFA.out 15 _ _ HP2.out).mono ?_
              rintro e w9 ⟨rfl, h9, f9⟩
              have H9 := Lib.hid h9; have F9 := Lib.hid (HG2.out.trans f9)
              clear h9 f9
              go_wp2_with fail
              go_ret
              rw [HPR3.out]
              exact ⟨⟨_, rfl, rfl⟩, H9.out, F9.out⟩
            · have e2 : (k == 64) = false := beq_eq_false_iff_ne.2 h64
              have e2' : ((k : Int) == 64) = false := beq_eq_false_iff_ne.2 (by omega)
              have HIM := Lib.hid (def_step HXX.out HRO.out.fits HD.out)
              have HN := Lib.hid (HRO.out.next HD.out h64 HIM.out.1 HIM.out.2 HP.out.ok)
              clear h64
              go_wp2_with fail
              refine (HDE.out _ _ HP2.out).mono ?_
              rintro e w5 ⟨⟨z, rfl, hz⟩, h5, f5⟩
              have hzs : z.size ≤ 10000100 := by rw [qsize hz]; exact Nat.le_trans (len_ok HR.out (def_fits HXX.out HD.out)) (by decide)
              have HZ := Lib.hid hz; have H5 : Hid (PAt w5 b q c T D (defStep T ex r).2) := Lib.hid h5; have F5 := Lib.hid (HG2.out.trans f5)
              have HME : Hid (T.length - iOf w5 b < T.length - iOf wr b) := Lib.hid (by rw [H5.out.iOf, HP.out.iOf]; have h5 := HIM.out.2; have h6 := H5.out.ok; omega)
              clear hz h5 f5
              go_wp2_with fail
              all_goals (try (exfalso; (simp at *; omega)))
              go_roundw
              case rel => exact ⟨defStep T ex r, k + 1, ⟨_, rfl, Lib.hid (by rw [qapp, HY.out, HZ.out]; simp [defStep])⟩, by go_num, H5, F5, HN⟩
              case measure => exact HME.out
        · have HD : Hid (isDef T r.2 = true) := Lib.hid (by unfold isDef; rw [HV0.out]; rfl)
          have HP2 := HP1; have HG2 := HG1
          clear HP1 HG1
          by_cases h64 : k = 64
          · subst h64
            have HR3 := Lib.hid (HRO.out.full HD.out)
            have HPR3 : Hid (Z = ([], failQ T 15 r.2)) := Lib.hid (by rw [HPR2.out, HR3.out]; rfl)
            go_wp2_with fail
            refine (HFA.out 15 _ _ HP2.out).mono ?_
            rintro e w9 ⟨rfl, h9, f9⟩
            have H9 := Lib.hid h9; have F9 := Lib.hid (HG2.out.trans f9)
            clear h9 f9
            go_wp2_with fail
            go_ret
            rw [HPR3.out]
            exact ⟨⟨_, rfl, rfl⟩, H9.out, F9.out⟩
          · have e2 : (k == 64) = false := beq_eq_false_iff_ne.2 h64
            have e2' : ((k : Int) == 64) = false := beq_eq_false_iff_ne.2 (by omega)
            have HIM := Lib.hid (def_step HXX.out HRO.out.fits HD.out)
            have HN := Lib.hid (HRO.out.next HD.out h64 HIM.out.1 HIM.out.2 HP.out.ok)
            clear h64
            go_wp2_with fail
            refine (HDE.out _ _ HP2.out).mono ?_
            rintro e w5 ⟨⟨z, rfl, hz⟩, h5, f5⟩
            have hzs : z.size ≤ 10000100 := by rw [qsize hz]; exact Nat.le_trans (len_ok HR.out (def_fits HXX.out HD.out)) (by decide)
            have HZ := Lib.hid hz; have H5 : Hid (PAt w5 b q c T D (defStep T ex r).2) := Lib.hid h5; have F5 := Lib.hid (HG2.out.trans f5)
            have HME : Hid (T.length - iOf w5 b < T.length - iOf wr b) := Lib.hid (by rw [H5.out.iOf, HP.out.iOf]; have h5 := HIM.out.2; have h6 := H5.out.ok; omega)
            clear hz h5 f5
            go_wp2_with fail
            all_goals (try (exfalso; (simp at *; omega)))
            go_roundw
            case rel => exact ⟨defStep T ex r, k + 1, ⟨_, rfl, Lib.hid (by rw [qapp, HY.out, HZ.out]; simp [defStep])⟩, by go_num, H5, F5, HN⟩
            case measure => exact HME.out
    · by_cases h16 : k = 16
      · subst h16
        have HR2 := Lib.hid (HRO.out.full HV0.out)
        have HPR2 : Hid (Z = ([], failQ T 15 r.2)) := Lib.hid (by rw [HPR.out, HR2.out]; rfl)
        go_wp2_with fail
        refine (HFA.out 15 _ _ HP1.out).mono ?_
        rintro e w9 ⟨rfl, h9, f9⟩
        have H9 := Lib.hid h9; have F9 := Lib.hid (HG1.out.trans f9)
        clear h9 f9
        go_wp2_with fail
        go_ret
        rw [HPR2.out]
        exact ⟨⟨_, rfl, rfl⟩, H9.out, F9.out⟩
      · have e2 : (k == 16) = false := beq_eq_false_iff_ne.2 h16
        have e2' : ((k : Int) == 16) = false := beq_eq_false_iff_ne.2 (by omega)
        have HIM := Lib.hid ((imp_fits (s0 := s0) (by rw [HA.out]; exact HRO.out.fits) HV0.out).resolve_right (by have := HP.out.ok; omega))
        have HN := Lib.hid (HRO.out.next HV0.out h16 (by rw [← HA.out]; exact HIM.out.1) HIM.out.2 HP.out.ok)
        clear h16
        have HPo : Hid (r.2.i < T.length) := Lib.hid HP1.out.ok
        go_wp2_with fail
        refine (HL.out _ _ HP1.out).mono ?_
        rintro e w3 ⟨⟨l, rfl, hl⟩, h3, f3⟩
        have hls : l.size ≤ 10000100 := by rw [qsize hl]; exact Nat.le_trans (leaf_lenA HR.out HPo.out) (by decide)
        have HL1 := Lib.hid hl; have H3 := Lib.hid h3; have F3 := Lib.hid (HG1.out.trans f3)
        clear hl h3 f3
        go_wp2_with fail
        all_goals (try (exfalso; (simp at *; omega)))
        refine (HKI.out 1 _ _ H3.out).mono ?_
        rintro e w4 ⟨⟨n1, rfl, hl⟩, h3, f3⟩
        have hns : n1.size ≤ 10000100 := by rw [qsize hl]; exact Nat.le_trans (len_ok HR.out (kind_fits (by decide) _)) (by decide)
        have HL2 := Lib.hid hl; have H4 := Lib.hid h3; have F4 := Lib.hid (F3.out.trans f3)
        clear hl h3 f3
        go_wp2_with fail
        all_goals (try (exfalso; (simp at *; omega)))
        refine (HMU.out [59] _ _ H4.out).mono ?_
        rintro e w5 ⟨⟨z, rfl, hz⟩, h5, f5⟩
        have hzs : z.size ≤ 10000100 := by rw [qsize hz]; exact Nat.le_trans (len_ok HR.out (must_fits T _ _)) (by decide)
        have HZ := Lib.hid hz; have H5 : Hid (PAt w5 b q c T D (impStep T r).2) := Lib.hid h5; have F5 := Lib.hid (F4.out.trans f5)
        have HME : Hid (T.length - iOf w5 b < T.length - iOf wr b) := Lib.hid (by rw [H5.out.iOf, HP.out.iOf]; have h5 := HIM.out.2; have h6 := H5.out.ok; omega)
        clear hz h5 f5
        go_wp2_with fail
        all_goals (try (exfalso; (simp at *; omega)))
        go_roundw
        case rel => exact ⟨impStep T r, k + 1, ⟨_, rfl, Lib.hid (by rw [qapp, qapp, qapp, qapp, qapp, HY.out, HL1.out, HL2.out, HZ.out]; simp [impStep])⟩, by go_num, H5, F5, HN⟩
        case measure => exact HME.out
end
end Go.Proofs.YthclkbaankjbiaaGreatDoor
