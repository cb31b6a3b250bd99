/- Quotient and rest of two numbers; their greatest common divisor. -/
import Derived.Test.YtkonfkcaefjabaaLong
namespace Go.Proofs.Ytkonfkcaefjabaa
open Go.RowKit Mx

theorem num_pos {n : Nat} {f : Nat → Nat} (hB : V Bw f 0 n ≠ 0) : 0 < n := by
  rcases Nat.eq_zero_or_pos n with h | h
  · subst h; exact absurd rfl hB
  · exact h

theorem At.drewN {k : IntKind} {w : World} {p : Option Addr} {n : Nat} {f : Nat → Nat} (h : At k w p n f) (m : Nat) : At k (w.drewN m) p n f := h

theorem Blk_one (w : World) (r : Nat) (T : TypeId) : Blk .u64 (w.alloc (.cells #[.int .u64 r] T)) w.heap.size 1 (fun _ => r) :=
  ⟨_, T, heap_alloc_new w _, rfl, fun j hj => by obtain rfl : j = 0 := by omega
                                                 rfl⟩

set_option maxHeartbeats 1000000 in
theorem divide_c (a b : Value) (A B : Nat) (w : World) (ha : Num w a A) (hb : Num w b B) (hA : A < Lim) (hB : B < Lim) (hB0 : B ≠ 0) : Calls Try.prog 52 #[a, b] w (DivNumPost A B w) := by
  have HNA := Lib.hid ha
  obtain ⟨p1, n1, c1, f1, rfl, k1, m1, a1, l1, t1, hV1⟩ := ha
  obtain ⟨p2, n2, c2, f2, rfl, k2, m2, a2, l2, t2, hV2⟩ := hb
  have hn1 := lim_len t1 (by rw [hV1]; exact hA)
  have hn2 := lim_len t2 (by rw [hV2]; exact hB)
  unfold LimN at hn1 hn2
  have hn0 := num_pos (by rw [hV2]; exact hB0)
  have hcmp := compare_c p1 p2 n1 n2 c1 c2 f1 f2 w (by omega) (by omega) a1 a2 l1 l2 t1 t2
  rw [hV1, hV2] at hcmp
  have HC : Hid (Calls Try.prog 45 #[.slice p1 n1 c1, .slice p2 n2 c2] w fun e w' => e = .returned (.int .i64 (cmpN A B)) ∧ ∃ m, w' = w.drewN m) := hcmp
  clear hcmp
  by_cases hAB : A < B
  · have hfin : ∀ m, DivNumPost A B w (.returned (.tuple #[.slice none 0 0, .slice p1 n1 c1])) (w.drewN m) := fun m =>
      ⟨_, _, rfl, by rw [Nat.div_eq_of_lt hAB]; exact ⟨none, 0, 0, fun _ => 0, rfl, by omega, by omega, .inl rfl, fun j hj => by omega, .inl rfl, rfl⟩, by rw [Nat.mod_eq_of_lt hAB]; exact HNA.out.kept (gb_drewN (gb_refl _ _) _), gb_drewN (gb_refl _ _) _⟩
    have HFIN := Lib.hid hfin
    have e : cmpN A B = -1 := cmpN_lt hAB
    rw [e] at HC
    clear hfin a1 l1 t1 hV1 a2 l2 t2 hV2 hA hB e
    go_enter Try.func52, Try.ntmps52
    go_wp2_with (go_at_call 45; refine HC.out.mono ?_; rintro e w' ⟨rfl, m, rfl⟩)
    go_ret2
    exact HFIN.out m
  · have hc0 : 0 ≤ cmpN A B := by unfold cmpN; rw [if_neg hAB]; split <;> omega
    have hA2 := Lib.hid a1; have hL1 := Lib.hid l1; have hA3 := Lib.hid a2; have hL2 := Lib.hid l2; have HT2 := Lib.hid t2; have HV1 := Lib.hid hV1; have HV2 := Lib.hid hV2
    generalize hcc : cmpN A B = cc at *
    by_cases hone : n2 = 1
    · subst hone
      rcases a2 with h | ⟨g2, o2, rfl, hg2, hc2⟩
      · omega
      have hcell := hc2 0 (by omega)
      have hx : f2 0 ≠ 0 := by rcases t2 with h | h; omega; exact h
      have hxB := l2 0 (by omega)
      have hBx : f2 0 = B := by rw [← hV2]; simp [V]
      have hmk : ∀ w, (Instr.makeSlice 23 (.int .i64 (n1 : Int)) (.int .i64 (n1 : Int))).run Try.prog w = .ok (.slice (some ⟨w.heap.size, 0, none⟩) n1 n1) (w.alloc (.cells (madeCells #[.int .u64 0] n1) 40)) :=
        fun w => make64_run n1 (by omega) w
      obtain ⟨x, hxe⟩ : ∃ x, f2 0 = x := ⟨_, rfl⟩
      rw [hxe] at hcell hx hxB hBx
      have HX := Lib.hid hxB
      have HBX := Lib.hid hBx
      have HX0 := Lib.hid (Nat.pos_of_ne_zero hx)
      rw [Nat.add_zero] at hcell
      clear a1 l1 t1 hV1 l2 t2 hV2 hA hB hc2 hxe hxB hBx hx HNA hcc
      go_enter Try.func52, Try.ntmps52
      go_wp2_with (first
        | (go_at_call 45; refine HC.out.mono ?_; rintro e w1 ⟨rfl, m, hw1⟩; have hA1 := Lib.hid (show At .u64 w1 p1 n1 f1 by rw [hw1]; exact hA2.out); have hG1 := Lib.hid (show w.grownBy w1 none by rw [hw1]; exact gb_drewN (gb_refl _ _) _); clear hw1)
        | (with_reducible refine wpList_copy64 rfl _ _ rfl rfl w1.heap.size n1 n1 c1 p1 (fun _ => 0) f1 rfl rfl (Blk_made _ _ _) (hA1.out.grown (World.grownBy_alloc _ _ none) (by simp)) (by omega) ?_))
      intro w2 HB2 HG2
      have HBEL := Lib.hid (gb_trans hG1.out (own_below (Below.refl _ _) HG2.out))
      have hcell2 := HBEL.out.cell hcell (by simp)
      have HF2 := Lib.hid (lt_cut hL1.out (M := n1))
      clear hmk hcell
      go_wp2_with (go_at_call 62; refine (divideInPlace_c w1.heap.size 0 n1 _ n1 x _ _ HB2.out (by omega) (by omega) HF2.out HX0.out HX.out).mono ?_; rintro e w3 ⟨r, f3, rfl, hr, hB3, hF3, hO3, hV3, hG3⟩; have HB3 := Lib.hid hB3; have HF3 := Lib.hid hF3; have HV3 := Lib.hid hV3; have HG3 := Lib.hid hG3; have HR := Lib.hid hr; clear hB3 hF3 hO3 hV3 hG3)
      refine (trim_num _ _ _ f3 _ (Nat.le_refl _) (by unfold maxLen; omega) HB3.out.at0 HF3.out).mono ?_
      rintro e w4 ⟨v1, rfl, hv1, rfl⟩
      have HV1' := Lib.hid hv1
      clear hv1
      go_wp2_with fail
      have HALL := Lib.hid (World.grownBy_alloc w3 (.cells #[.int .u64 r] 40) none)
      refine (trim_num _ 1 1 (fun _ => r) _ (Nat.le_refl _) (by unfold maxLen; omega) (Blk_one w3 r _).at0 (fun j hj => by have := HR.out; have := HX.out; show r < Bw; omega)).mono ?_
      rintro e w4 ⟨v2, rfl, hv2, rfl⟩
      have HV2' := Lib.hid hv2
      clear hv2
      go_wp2_with fail
      go_ret2
      have hv := HV3.out
      rw [V_congr (f := fun j => if j < n1 then f1 j else 0) (g := f1) (p := 0) (fun j hj => by simp [hj]), HV1.out, HBX.out] at hv
      have hrB : r < B := by rw [← HBX.out]; exact HR.out
      have hpos : 0 < B := by omega
      have e1 : V Bw f3 0 n1 = A / B := by rw [← hv, Nat.mul_comm, Nat.mul_add_div hpos, Nat.div_eq_of_lt hrB, Nat.add_zero]
      have e2 : V Bw (fun _ => r) 0 1 = A % B := by rw [← hv, Nat.mul_comm, Nat.mul_add_mod, Nat.mod_eq_of_lt hrB]; simp [V]
      refine ⟨v1, v2, rfl, by rw [← e1]; exact HV1'.out.kept HALL.out, by rw [← e2]; exact HV2'.out, gb_trans (below_gb (gb_new (gb_below HBEL.out) hG1.out.size HG3.out)) HALL.out⟩
    · have hle : n2 ≤ n1 := by
        rcases Nat.lt_or_ge n1 n2 with h | h
        · have := V_long (b := Bw) (f := f1) (o := 0) (g := f2) (p := 0) Bw_pos (fun j hj => by rw [Nat.zero_add]; exact l1 j hj) h (by simp; omega)
          rw [hV1, hV2] at this
          omega
        · exact h
      have hne1 : ((n2 : Int) == 1) = false := beq_eq_false_iff_ne.2 (by omega)
      have hnone : ¬ n2 = 1 := hone
      clear a1 l1 t1 hV1 a2 l2 t2 hV2 hA hB HNA hcc
      go_enter Try.func52, Try.ntmps52
      go_wp2_with (first
        | (go_at_call 45; refine HC.out.mono ?_; rintro e w1 ⟨rfl, m, hw1⟩; have hA1 := Lib.hid (show At .u64 w1 p1 n1 f1 by rw [hw1]; exact hA2.out); have hA4 := Lib.hid (show At .u64 w1 p2 n2 f2 by rw [hw1]; exact hA3.out); have hG1 := Lib.hid (show w.grownBy w1 none by rw [hw1]; exact gb_drewN (gb_refl _ _) _); clear hw1)
        | (go_at_call 67; refine (divideLong_w p1 p2 n1 n2 c1 c2 f1 f2 _ hn1 hle hn0 hA1.out hA4.out hL1.out hL2.out (by have := HT2.out; omega)).mono ?_; rintro e w2 ⟨v1, v2, rfl, hN1, hN2, hG2⟩; have HN1 := Lib.hid hN1; have HN2 := Lib.hid hN2; have HG2 := Lib.hid hG2; clear hN1 hN2 hG2))
      go_ret2
      have h1 := HN1.out; have h2 := HN2.out
      rw [HV1.out, HV2.out] at h1 h2
      exact ⟨v1, v2, rfl, h1, h2, gb_trans hG1.out HG2.out⟩
end Go.Proofs.Ytkonfkcaefjabaa
