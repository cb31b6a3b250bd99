/- Int: sign, comparison, small numbers, binary digits, the other sign. -/
import Derived.Test.YtkonfkcaefjabaaInt2
namespace Go.Proofs.Ytkonfkcaefjabaa
open Go.RowKit Mx

def ValPost (v : Value) (w : World) (e : Ending) (w' : World) : Prop := e = .returned v ∧ w.grownBy w' none

def sg (Z : Int) : Int := if Z < 0 then -1 else if Z = 0 then 0 else 1
def cmpZ (A B : Int) : Int := if A < B then -1 else if A = B then 0 else 1

theorem int_open {w : World} {x : Value} {Z : Int} (h : IsInt w x Z) : ∃ s p n cap f, x = .agg #[.bool s, .slice p n cap] ∧ n ≤ cap ∧ cap ≤ maxLen ∧ At .u64 w p n f ∧ (∀ j, j < n → f j < Bw) ∧ (n = 0 ∨ f (n - 1) ≠ 0) ∧ (s = true → 0 < n) ∧ Z = sgn s (V Bw f 0 n) := by
  obtain ⟨s, v, N, rfl, ⟨p, n, cap, f, rfl, h1, h2, h3, h4, h5, rfl⟩, h6, h7⟩ := h
  exact ⟨s, p, n, cap, f, rfl, h1, h2, h3, h4, h5, fun e => num_pos (h6 e), h7⟩

set_option maxHeartbeats 400000 in
theorem Sign_c (x : Value) (Z : Int) (w : World) (h : IsInt w x Z) : Calls Try.prog 14 #[x] w (ValPost (.int .i64 (sg Z)) w) := by
  obtain ⟨s, p, n, cap, f, rfl, h1, h2, h3, h4, h5, h6, rfl⟩ := int_open h
  have hg := World.grownBy_alloc w (.cells #[.bool s, .slice p n cap] 25) none
  by_cases hn : n = 0
  · subst hn
    have hfin : ValPost (.int .i64 (sg (sgn s (V Bw f 0 0)))) w (.returned (.int .i64 0)) (w.alloc (.cells #[.bool s, .slice p 0 cap] 25)) := ⟨by cases s <;> simp [sg, sgn, V], hg⟩
    have HFIN := Lib.hid hfin
    clear hfin h h3 h4 h5 h6 hg
    go_enter Try.func14, Try.ntmps14
    go_wp2
    go_ret
    exact HFIN.out
  · have hv := (num_len h5).1 (by omega)
    have hne : ((n : Int) == 0) = false := beq_eq_false_iff_ne.2 (by omega)
    cases s
    · have hfin : ValPost (.int .i64 (sg (sgn false (V Bw f 0 n)))) w (.returned (.int .i64 1)) (w.alloc (.cells #[.bool false, .slice p n cap] 25)) := ⟨by
        have : sg (sgn false (V Bw f 0 n)) = 1 := by simp only [sg, sgn]; simp; omega
        rw [this], hg⟩
      have HFIN := Lib.hid hfin
      clear hfin h h3 h4 h5 h6 hg hv
      go_enter Try.func14, Try.ntmps14
      go_wp2
      go_ret
      exact HFIN.out
    · have hfin : ValPost (.int .i64 (sg (sgn true (V Bw f 0 n)))) w (.returned (.int .i64 (-1))) (w.alloc (.cells #[.bool true, .slice p n cap] 25)) := ⟨by
        have : sg (sgn true (V Bw f 0 n)) = -1 := by simp only [sg, sgn]; simp; omega
        rw [this], hg⟩
      have HFIN := Lib.hid hfin
      clear hfin h h3 h4 h5 h6 hg hv
      go_enter Try.func14, Try.ntmps14
      go_wp2
      go_ret
      exact HFIN.out

set_option maxHeartbeats 400000 in
theorem Bits_c (x : Value) (Z : Int) (w : World) (h : IsInt w x Z) (hZ : Z.natAbs < Lim) : Calls Try.prog 19 #[x] w fun e w' => ∃ n : Nat, e = .returned (.int .i64 n) ∧ (Z = 0 → n = 0) ∧ (Z ≠ 0 → 2 ^ (n - 1) ≤ Z.natAbs ∧ Z.natAbs < 2 ^ n ∧ 0 < n) ∧ w.grownBy w' none := by
  obtain ⟨s, p, n, cap, f, rfl, h1, h2, h3, h4, h5, h6, rfl⟩ := int_open h
  have hg := World.grownBy_alloc w (.cells #[.bool s, .slice p n cap] 25) none
  have hab : (sgn s (V Bw f 0 n)).natAbs = V Bw f 0 n := by cases s <;> simp [sgn]
  rw [hab] at hZ
  have hn := lim_len h5 hZ
  unfold LimN at hn
  have HC := Lib.hid (length_c p n cap f _ (by omega) (h3.grown hg (by simp)) h4 h5)
  have HG := Lib.hid hg
  have HAB := Lib.hid hab
  clear h hg h3 h4 h5 h6 hZ hab
  go_enter Try.func19, Try.ntmps19
  go_wp2_with (go_at_call 46; refine HC.out.mono ?_; rintro e w1 ⟨k, rfl, hk1, hk2, rfl⟩; have HK1 := Lib.hid hk1; have HK2 := Lib.hid hk2; clear hk1 hk2)
  go_ret
  refine ⟨k, rfl, fun e => HK1.out ?_, fun e => ?_, HG.out⟩
  · rw [← HAB.out, e]; rfl
  · rw [HAB.out]; exact HK2.out (by intro e2; apply e; rw [e2]; cases s <;> rfl)

set_option maxHeartbeats 1000000 in
theorem Neg_c (x : Value) (Z : Int) (w : World) (h : IsInt w x Z) : Calls Try.prog 27 #[x] w (IntPost (-Z) w) := by
  obtain ⟨s, p, n, cap, f, rfl, h1, h2, h3, h4, h5, h6, rfl⟩ := int_open h
  have HC := Lib.hid (fun w1 (hg : w.grownBy w1 none) => signed_c (!s) p n cap f w1 h1 h2 (h3.grown hg (by simp)) h4)
  have hneg : sgn (!s) (V Bw f 0 n) = -(sgn s (V Bw f 0 n)) := by cases s <;> simp [sgn]
  have HN := Lib.hid hneg
  clear h h3 h4 h5 h6 hneg
  go_enter Try.func27, Try.ntmps27
  go_wp2_with (go_at_call 41; refine (HC.out _ ?_).mono ?_; (repeat (first | exact gb_refl _ _ | refine gb_drew ?_ | refine gb_alloc ?_ _)); rintro e w3 ⟨x, rfl, hx, hg⟩; obtain ⟨s3, p3, n3, c3, hxe, HX⟩ := int_parts hx; subst hxe; have HG3 := Lib.hid hg; obtain ⟨hcr3, hfr3⟩ := bcell hg; have hz3 : w.heap.size + 1 < w3.heap.size := (by have := hg.size; simp at this; omega); clear hx hg)
  have hb := top2 w (.cells #[.bool s, .slice p n cap] 25) (.cells #[.bool false, .slice none 0 0] 25)
  have hfin := ret_box hb HG3.out HX.out (gb_alloc (gb_alloc (gb_refl w none) _) _) (show w.heap.size ≤ w.heap.size + 1 by omega)
  rw [HN.out] at hfin
  obtain ⟨rc0, rc1⟩ := ret_cells (s := s3) (p := p3) (n := n3) (c := c3) hb HG3.out
  exact bodyPost_ret (v := .agg #[.bool s3, .slice p3 n3 c3]) (by simp [results, Try.results27, go_sem, rc0, rc1]) rfl hfin

set_option maxHeartbeats 1000000 in
theorem Abs_c (x : Value) (Z : Int) (w : World) (h : IsInt w x Z) : Calls Try.prog 32 #[x] w (IntPost (Z.natAbs) w) := by
  obtain ⟨s, p, n, cap, f, rfl, h1, h2, h3, h4, h5, h6, rfl⟩ := int_open h
  have HC := Lib.hid (fun w1 (hg : w.grownBy w1 none) => signed_c false p n cap f w1 h1 h2 (h3.grown hg (by simp)) h4)
  have hneg : sgn false (V Bw f 0 n) = ((sgn s (V Bw f 0 n)).natAbs : Int) := by cases s <;> simp [sgn]
  have HN := Lib.hid hneg
  clear h h3 h4 h5 h6 hneg
  go_enter Try.func32, Try.ntmps32
  go_wp2_with (go_at_call 41; refine (HC.out _ ?_).mono ?_; (repeat (first | exact gb_refl _ _ | refine gb_drew ?_ | refine gb_alloc ?_ _)); rintro e w3 ⟨x, rfl, hx, hg⟩; obtain ⟨s3, p3, n3, c3, hxe, HX⟩ := int_parts hx; subst hxe; have HG3 := Lib.hid hg; obtain ⟨hcr3, hfr3⟩ := bcell hg; have hz3 : w.heap.size + 1 < w3.heap.size := (by have := hg.size; simp at this; omega); clear hx hg)
  have hb := top2 w (.cells #[.bool s, .slice p n cap] 25) (.cells #[.bool false, .slice none 0 0] 25)
  have hfin := ret_box hb HG3.out HX.out (gb_alloc (gb_alloc (gb_refl w none) _) _) (show w.heap.size ≤ w.heap.size + 1 by omega)
  rw [HN.out] at hfin
  obtain ⟨rc0, rc1⟩ := ret_cells (s := s3) (p := p3) (n := n3) (c := c3) hb HG3.out
  exact bodyPost_ret (v := .agg #[.bool s3, .slice p3 n3 c3]) (by simp [results, Try.results32, go_sem, rc0, rc1]) rfl hfin
end Go.Proofs.Ytkonfkcaefjabaa
