/- Int: comparison, small numbers, From. -/
import Derived.Test.YtkonfkcaefjabaaInt5
namespace Go.Proofs.Ytkonfkcaefjabaa
open Go.RowKit Mx

theorem cmpN_neg (A B : Nat) : cmpN B A = cmpZ (-(A : Int)) (-(B : Int)) := by
  unfold cmpN cmpZ
  split <;> split <;> (try split) <;> (try split) <;> omega
theorem cmpN_pos (A B : Nat) : cmpN A B = cmpZ (A : Int) (B : Int) := by
  unfold cmpN cmpZ
  split <;> split <;> (try split) <;> (try split) <;> omega

set_option maxHeartbeats 1000000 in
theorem Cmp_c (x y : Value) (X Y : Int) (w : World) (hx : IsInt w x X) (hy : IsInt w y Y) (hX : X.natAbs < Lim) (hY : Y.natAbs < Lim) : Calls Try.prog 18 #[x, y] w (ValPost (.int .i64 (cmpZ X Y)) w) := by
  obtain ⟨s1, v1, A, rfl, n1, z1, rfl⟩ := hx
  obtain ⟨s2, v2, B, rfl, n2, z2, rfl⟩ := hy
  have e1 : (if s1 = true then -(A : Int) else A).natAbs = A := by cases s1 <;> simp
  have e2 : (if s2 = true then -(B : Int) else B).natAbs = B := by cases s2 <;> simp
  rw [e1] at hX; rw [e2] at hY
  have HC1 := Lib.hid (fun w1 (hg : w.grownBy w1 none) => compare_num v1 v2 A B w1 (n1.kept hg) (n2.kept hg) hX hY)
  have HC2 := Lib.hid (fun w1 (hg : w.grownBy w1 none) => compare_num v2 v1 B A w1 (n2.kept hg) (n1.kept hg) hY hX)
  have hg := gb_alloc (gb_alloc (gb_refl w none) (.cells #[.bool s1, v1] 25)) (.cells #[.bool s2, v2] 25)
  obtain ⟨p1, m1, c1, f1, rfl, _⟩ := n1
  obtain ⟨p2, m2, c2, f2, rfl, _⟩ := n2
  have HG := Lib.hid hg
  clear e1 e2 hX hY hg
  cases s1
  · cases s2
    · have hval : cmpN A B = cmpZ (if false = true then -(A : Int) else A) (if false = true then -(B : Int) else B) := by simpa using cmpN_pos A B
      have hfin : ∀ w', w.grownBy w' none → ValPost (.int .i64 (cmpZ (if false = true then -(A : Int) else A) (if false = true then -(B : Int) else B))) w (.returned (.int .i64 (cmpN A B))) w' := fun w' h => ⟨by rw [hval], h⟩
      have HF := Lib.hid hfin
      clear hval hfin z1 z2
      go_enter Try.func18, Try.ntmps18
      go_wp2_with (go_at_call 45; refine (HC1.out _ ?_).mono ?_; (repeat (first | exact gb_refl _ _ | refine gb_drew ?_ | refine gb_alloc ?_ _)); rintro e w1 ⟨rfl, m, rfl⟩)
      go_ret
      exact HF.out _ (gb_drewN HG.out m)
    · have hval : (1 : Int) = cmpZ (if false = true then -(A : Int) else A) (if true = true then -(B : Int) else B) := by have := z2 rfl; simp [cmpZ]; omega
      have hfin : ∀ w', w.grownBy w' none → ValPost (.int .i64 (cmpZ (if false = true then -(A : Int) else A) (if true = true then -(B : Int) else B))) w (.returned (.int .i64 ((1)))) w' := fun w' h => ⟨by rw [hval], h⟩
      have HF := Lib.hid hfin
      clear hval hfin z1 z2
      go_enter Try.func18, Try.ntmps18
      go_wp2
      go_ret
      exact HF.out _ HG.out
  · cases s2
    · have hval : (-1 : Int) = cmpZ (if true = true then -(A : Int) else A) (if false = true then -(B : Int) else B) := by have := z1 rfl; simp [cmpZ]; omega
      have hfin : ∀ w', w.grownBy w' none → ValPost (.int .i64 (cmpZ (if true = true then -(A : Int) else A) (if false = true then -(B : Int) else B))) w (.returned (.int .i64 ((-1)))) w' := fun w' h => ⟨by rw [hval], h⟩
      have HF := Lib.hid hfin
      clear hval hfin z1 z2
      go_enter Try.func18, Try.ntmps18
      go_wp2
      go_ret
      exact HF.out _ HG.out
    · have hval : cmpN B A = cmpZ (if true = true then -(A : Int) else A) (if true = true then -(B : Int) else B) := by simpa using cmpN_neg A B
      have hfin : ∀ w', w.grownBy w' none → ValPost (.int .i64 (cmpZ (if true = true then -(A : Int) else A) (if true = true then -(B : Int) else B))) w (.returned (.int .i64 (cmpN B A))) w' := fun w' h => ⟨by rw [hval], h⟩
      have HF := Lib.hid hfin
      clear hval hfin z1 z2
      go_enter Try.func18, Try.ntmps18
      go_wp2_with (go_at_call 45; refine (HC2.out _ ?_).mono ?_; (repeat (first | exact gb_refl _ _ | refine gb_drew ?_ | refine gb_alloc ?_ _)); rintro e w1 ⟨rfl, m, rfl⟩)
      go_ret
      exact HF.out _ (gb_drewN HG.out m)

set_option maxHeartbeats 1000000 in
/-- From: the number n. -/
theorem From_c (n : Int) (w : World) (h1 : -9223372036854775808 ≤ n) (h2 : n ≤ 9223372036854775807) : Calls Try.prog 16 #[.int .i64 n] w (IntPost n w) := by
  by_cases hn : n < 0
  · obtain ⟨m, hm⟩ : ∃ m : Nat, (m : Int) = -n := ⟨n.natAbs, by omega⟩
    have hmB : m < Bw := by unfold Bw; omega
    have hsz : (w.alloc (.cells #[.bool false, .slice none 0 0] 25)).heap.size = w.heap.size + 1 := by simp
    have HC := signed_c true (some ⟨(w.alloc (.cells #[.bool false, .slice none 0 0] 25)).heap.size, 0, none⟩) 1 1 (fun _ => m) ((w.alloc (.cells #[.bool false, .slice none 0 0] 25)).alloc (.cells #[.int .u64 m] 40)) (by omega) (by unfold maxLen; omega) (Blk_one (w.alloc (.cells #[.bool false, .slice none 0 0] 25)) m 40).at0 (fun _ _ => hmB)
    rw [hsz] at HC
    have HC := Lib.hid HC
    have hv : sgn true (V Bw (fun _ => m) 0 1) = n := by simp [sgn, V]; omega
    have HV := Lib.hid hv
    have hw : IntKind.u64.wrap (-(IntKind.u64.wrap n)) = (m : Int) := by rw [IntKind.wrap_u64, IntKind.wrap_u64]; omega
    have HM := Lib.hid hm
    clear hv hm hmB hsz
    go_enter Try.func16, Try.ntmps16
    go_wp2_with (go_at_call 41; refine HC.out.mono ?_; rintro e w3 ⟨x, rfl, hx, hg⟩; obtain ⟨s3, p3, n3, c3, hxe, HX⟩ := int_parts hx; subst hxe; have HG3 := Lib.hid hg; obtain ⟨hcr3, hfr3⟩ := bcell hg; have hz3 : w.heap.size < w3.heap.size := (by have := hg.size; simp at this; omega); clear hx hg)
    have hb := top1 w (.cells #[.bool false, .slice none 0 0] 25)
    have hgg := gb_trans (World.grownBy_alloc (w.alloc (.cells #[.bool false, .slice none 0 0] 25)) _ none) HG3.out
    have hfin := ret_box hb hgg HX.out (gb_alloc (gb_refl w none) _) (Nat.le_refl _)
    rw [HV.out] at hfin
    obtain ⟨rc0, rc1⟩ := ret_cells (s := s3) (p := p3) (n := n3) (c := c3) hb hgg
    exact bodyPost_ret (v := .agg #[.bool s3, .slice p3 n3 c3]) (by simp [results, Try.results16, go_sem, rc0, rc1]) rfl hfin
  · obtain ⟨m, hm⟩ : ∃ m : Nat, (m : Int) = n := ⟨n.natAbs, by omega⟩
    have hmB : m < Bw := by unfold Bw; omega
    have hsz : (w.alloc (.cells #[.bool false, .slice none 0 0] 25)).heap.size = w.heap.size + 1 := by simp
    have HC := signed_c false (some ⟨(w.alloc (.cells #[.bool false, .slice none 0 0] 25)).heap.size, 0, none⟩) 1 1 (fun _ => m) ((w.alloc (.cells #[.bool false, .slice none 0 0] 25)).alloc (.cells #[.int .u64 m] 40)) (by omega) (by unfold maxLen; omega) (Blk_one (w.alloc (.cells #[.bool false, .slice none 0 0] 25)) m 40).at0 (fun _ _ => hmB)
    rw [hsz] at HC
    have HC := Lib.hid HC
    have hv : sgn false (V Bw (fun _ => m) 0 1) = n := by simp [sgn, V]; omega
    have HV := Lib.hid hv
    have hw : IntKind.u64.wrap n = (m : Int) := by rw [IntKind.wrap_u64]; omega
    have HM := Lib.hid hm
    clear hv hm hmB hsz
    go_enter Try.func16, Try.ntmps16
    go_wp2_with (go_at_call 41; refine HC.out.mono ?_; rintro e w3 ⟨x, rfl, hx, hg⟩; obtain ⟨s3, p3, n3, c3, hxe, HX⟩ := int_parts hx; subst hxe; have HG3 := Lib.hid hg; obtain ⟨hcr3, hfr3⟩ := bcell hg; have hz3 : w.heap.size < w3.heap.size := (by have := hg.size; simp at this; omega); clear hx hg)
    have hb := top1 w (.cells #[.bool false, .slice none 0 0] 25)
    have hgg := gb_trans (World.grownBy_alloc (w.alloc (.cells #[.bool false, .slice none 0 0] 25)) _ none) HG3.out
    have hfin := ret_box hb hgg HX.out (gb_alloc (gb_refl w none) _) (Nat.le_refl _)
    rw [HV.out] at hfin
    obtain ⟨rc0, rc1⟩ := ret_cells (s := s3) (p := p3) (n := n3) (c := c3) hb hgg
    exact bodyPost_ret (v := .agg #[.bool s3, .slice p3 n3 c3]) (by simp [results, Try.results16, go_sem, rc0, rc1]) rfl hfin

def SmallPost (Z : Int) (w : World) (e : Ending) (w' : World) : Prop :=
  (-4611686018427387904 ≤ Z ∧ Z ≤ 4611686018427387904 → e = .returned (.tuple #[.int .i64 Z, .bool true])) ∧ (¬ (-4611686018427387904 ≤ Z ∧ Z ≤ 4611686018427387904) → e = .returned (.tuple #[.int .i64 0, .bool false])) ∧ w.grownBy w' none

set_option maxHeartbeats 1000000 in
theorem Small_c (x : Value) (Z : Int) (w : World) (h : IsInt w x Z) : Calls Try.prog 17 #[x] w (SmallPost Z w) := by
  obtain ⟨s, p, n, cap, f, rfl, h1, h2, h3, h4, h5, h6, rfl⟩ := int_open h
  have hg := World.grownBy_alloc w (.cells #[.bool s, .slice p n cap] 25) none
  have HG := Lib.hid hg
  by_cases hn : n = 0
  · subst hn
    have hz : sgn s (V Bw f 0 0) = 0 := by cases s <;> simp [sgn, V]
    rw [hz]
    have hfin : SmallPost 0 w (.returned (.tuple #[.int .i64 0, .bool true])) (w.alloc (.cells #[.bool s, .slice p 0 cap] 25)) := ⟨fun _ => rfl, fun h => absurd (by omega) h, hg⟩
    have HFIN := Lib.hid hfin
    clear hfin h h3 h4 h5 h6 hg hz
    go_enter Try.func17, Try.ntmps17
    go_wp2
    go_ret2
    exact HFIN.out
  · have hne : ((n : Int) == 0) = false := beq_eq_false_iff_ne.2 (by omega)
    by_cases h1n : 1 < n
    · have hbig : Bw ≤ V Bw f 0 n := by
        rcases V_top (b := Bw) (f := f) (o := 0) (n := n) (by simpa using h5) with e | e
        · omega
        · have : Bw ^ 1 ≤ Bw ^ (n - 1) := Nat.pow_le_pow_right Bw_pos (by omega)
          rw [Nat.pow_one] at this; omega
      have hfin : SmallPost (sgn s (V Bw f 0 n)) w (.returned (.tuple #[.int .i64 0, .bool false])) (w.alloc (.cells #[.bool s, .slice p n cap] 25)) := by
        refine ⟨fun h => ?_, fun _ => rfl, hg⟩
        exfalso
        generalize V Bw f 0 n = N at *
        unfold Bw at hbig
        cases s <;> simp [sgn] at h <;> omega
      have HFIN := Lib.hid hfin
      have h1n' : (1 : Int) < n := by omega
      clear hfin h h3 h4 h5 h6 hg hbig
      go_enter Try.func17, Try.ntmps17
      go_wp2
      go_ret2
      exact HFIN.out
    · obtain rfl : n = 1 := by omega
      rcases h3 with h | ⟨g, off, rfl, hgs, hc⟩
      · omega
      have hcell := hg.cell (hc 0 (by omega)) (by simp)
      have hx0 : V Bw f 0 1 = f 0 := by simp [V]
      rw [hx0]
      obtain ⟨x, hx⟩ : ∃ x, f 0 = x := ⟨_, rfl⟩
      rw [hx, Nat.add_zero] at hcell
      rw [hx]
      clear hx0 hx hc h h4 h5 h6 hg
      by_cases hlim : x ≤ 4611686018427387904
      · have i1 : (x : Int) ≤ 4611686018427387904 := by omega
        have i2 : (0 : Int) ≤ x := by omega
        have d1 : decide ((4611686018427387904 : Int) < (x : Int)) = false := decide_eq_false (by omega)
        have d2 : IntKind.i64.wrap (x : Int) = x := IntWalk.i64_in _ (by omega)
        have HLIM := Lib.hid hlim
        clear hlim
        cases s
        · have hfin : ∀ w', w.grownBy w' none → SmallPost (sgn false x) w (.returned (.tuple #[.int .i64 x, .bool true])) w' := fun w' h => ⟨fun _ => by simp [sgn], fun h => absurd (by simp [sgn]; omega) h, h⟩
          have HFIN := Lib.hid hfin
          clear hfin
          go_enter Try.func17, Try.ntmps17
          go_wp2
          go_ret2
          exact HFIN.out _ HG.out
        · have hfin : ∀ w', w.grownBy w' none → SmallPost (sgn true x) w (.returned (.tuple #[.int .i64 (-x), .bool true])) w' := fun w' h => ⟨fun _ => by simp [sgn], fun h => absurd (by simp [sgn]; omega) h, h⟩
          have HFIN := Lib.hid hfin
          clear hfin
          go_enter Try.func17, Try.ntmps17
          go_wp2
          go_ret2
          exact HFIN.out _ HG.out
      · have d1 : decide ((4611686018427387904 : Int) < (x : Int)) = true := decide_eq_true (by omega)
        have hfin : ∀ w', w.grownBy w' none → SmallPost (sgn s x) w (.returned (.tuple #[.int .i64 0, .bool false])) w' := fun w' h => ⟨fun h => by exfalso; cases s <;> simp [sgn] at h <;> omega, fun _ => rfl, h⟩
        have HFIN := Lib.hid hfin
        clear hfin hlim
        go_enter Try.func17, Try.ntmps17
        go_wp2
        go_ret2
        exact HFIN.out _ HG.out
end Go.Proofs.Ytkonfkcaefjabaa
