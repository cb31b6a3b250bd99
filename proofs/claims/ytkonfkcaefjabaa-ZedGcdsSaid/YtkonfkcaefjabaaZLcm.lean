/- Int: the least common multiple of two. -/
import Derived.Test.YtkonfkcaefjabaaZGcd
import Derived.Test.YtkonfkcaefjabaaRAdd
import Derived.Deep.RegionHeld3
import Derived.Deep.DeepMust
namespace Go.Proofs.Ytkonfkcaefjabaa
open Go.RowKit Mx

/-- The least common multiple, as it is reckoned. -/
def lcmN (A B : Nat) : Nat := if A = 0 ∨ B = 0 then 0 else A / Nat.gcd A B * B

theorem lcm_gcd (A B : Nat) : lcmN A B * Nat.gcd A B = A * B := by
  unfold lcmN
  by_cases h : A = 0 ∨ B = 0
  · rw [if_pos h]
    rcases h with rfl | rfl <;> simp
  · rw [if_neg h, Nat.mul_assoc, Nat.mul_comm B, ← Nat.mul_assoc, Nat.div_mul_cancel (Nat.gcd_dvd_left A B)]

theorem s2k {w w' : World} {a0 a1 : Addr} {v0 v1 : Value} (h : w.cell? a0 = some v0 ∧ w.cell? a1 = some v1) (hg : w.grownBy w' none) : w'.cell? a0 = some v0 ∧ w'.cell? a1 = some v1 :=
  ⟨hg.cell h.1 (by simp), hg.cell h.2 (by simp)⟩

set_option maxRecDepth 100000 in
set_option maxHeartbeats 4000000 in
theorem Lcm_c (x y : Value) (A B : Int) (w : World) (hx : IsInt w x A) (hy : IsInt w y B) (hA : A.natAbs < Bw ^ 100) (hB : B.natAbs < Bw ^ 100) : Calls Try.prog 35 #[x, y] w (IntPost ((lcmN A.natAbs B.natAbs : Nat) : Int) w) := by
  obtain ⟨s1, p1, n1, c1, rfl, HX⟩ := int_parts hx
  obtain ⟨s2, p2, n2, c2, rfl, HY⟩ := int_parts hy
  obtain ⟨p1', n1', c1', e1, h1, -, -⟩ := num_open (int_num hx)
  obtain ⟨p2', n2', c2', e2, h2, -, -⟩ := num_open (int_num hy)
  injection e1 with q1 q2 q3
  injection e2 with q4 q5 q6
  subst q1; subst q2; subst q3; subst q4; subst q5; subst q6
  obtain ⟨W, hW, b0, b1, gW, hsz⟩ := boxes2 w (.cells #[.bool s1, .slice p1 n1 c1] 25) (.cells #[.bool s2, .slice p2 n2 c2] 25)
  have hg3 := World.grownBy_alloc W (.cells #[.bool false, .slice none 0 0] 25) none
  have hzb := top1 W (.cells #[.bool false, .slice none 0 0] 25)
  rw [hsz] at hzb
  have HN1 := Lib.hid ((int_num hx).kept (gb_trans gW hg3)); have HN2 := Lib.hid ((int_num hy).kept (gb_trans gW hg3))
  have HGW := Lib.hid (gb_trans gW hg3); have HZB := Lib.hid hzb
  obtain ⟨-, x1, -⟩ := cells_of (bx hg3 b0)
  obtain ⟨-, y1, -⟩ := cells_of (bx hg3 b1)
  have HAL := Lib.hid (fun _ : Unit => hA); have HBL := Lib.hid (fun _ : Unit => hB)
  have HH1 := Lib.hid h1; have HH2 := Lib.hid h2
  have hzf : ∀ W', w.grownBy W' none → A.natAbs = 0 ∨ B.natAbs = 0 → IntPost ((lcmN A.natAbs B.natAbs : Nat) : Int) w (.returned (.agg #[.bool false, .slice none 0 0])) W' := fun W' hg h => by
    unfold lcmN
    rw [if_pos h]
    exact ⟨_, rfl, zero_int _, hg⟩
  have HZF := Lib.hid hzf
  clear hx hy HX HY h1 h2 b0 b1 gW hg3 hzb hA hB hzf
  by_cases hn1 : n1 = 0
  · subst hn1
    have hfin := HZF.out _ HGW.out (.inl (by have := HH1.out; omega))
    have HFIN := Lib.hid hfin
    clear hfin x1 y1
    go_enter Try.func35, Try.ntmps35
    go_wp2_with fail
    exact bodyPost_ret (v := .agg #[.bool false, .slice none 0 0]) (by simp [results, Try.results35, go_sem]) rfl (by rw [← hW]; exact HFIN.out)
  · have d1 : ((n1 : Int) == 0) = false := beq_eq_false_iff_ne.2 (by omega)
    by_cases hn2 : n2 = 0
    · subst hn2
      have hfin := HZF.out _ HGW.out (.inr (by have := HH2.out; omega))
      have HFIN := Lib.hid hfin
      clear hfin x1 y1
      go_enter Try.func35, Try.ntmps35
      go_wp2_with fail
      exact bodyPost_ret (v := .agg #[.bool false, .slice none 0 0]) (by simp [results, Try.results35, go_sem]) rfl (by rw [← hW]; exact HFIN.out)
    · have d2 : ((n2 : Int) == 0) = false := beq_eq_false_iff_ne.2 (by omega)
      have hA0 : A.natAbs ≠ 0 := HH1.out.1 (by omega)
      have hB0 : B.natAbs ≠ 0 := HH2.out.1 (by omega)
      have hval : lcmN A.natAbs B.natAbs = A.natAbs / Nat.gcd A.natAbs B.natAbs * B.natAbs := by unfold lcmN; rw [if_neg (by omega)]
      have hg0 : Nat.gcd A.natAbs B.natAbs ≠ 0 := fun h => hA0 (Nat.eq_zero_of_gcd_eq_zero_left h)
      have hgl : Nat.gcd A.natAbs B.natAbs ≤ A.natAbs := Nat.gcd_le_left _ (by omega)
      have HV := Lib.hid hval
      have HL1 := Lib.hid (fun _ : Unit => lim_k (Z := A) (by omega) (HAL.out ()))
      have HL2 := Lib.hid (fun _ : Unit => lim_k (Z := B) (by omega) (HBL.out ()))
      have HGL := Lib.hid (fun _ : Unit => Nat.lt_of_le_of_lt hgl (HL1.out ()))
      have HQL := Lib.hid (fun _ : Unit => Nat.lt_of_le_of_lt (Nat.div_le_self A.natAbs (Nat.gcd A.natAbs B.natAbs)) (HL1.out ()))
      have HG0 := Lib.hid (fun _ : Unit => hg0)
      clear hA0 hB0 hval hg0 hgl HZF HH1 HH2
      go_enter Try.func35, Try.ntmps35
      go_wp2_with fail
      rw [← hW]
      clear hW
      have hS := And.intro x1 y1
      generalize W.alloc (.cells #[.bool false, .slice none 0 0] 25) = W3 at *
      generalize A.natAbs = a at *
      generalize B.natAbs = b at *
      generalize hgv : Nat.gcd a b = gv at *
      have HGc := Lib.hid (gb_refl W3 none)
      go_region_held3 (fun w' => w'.cell? ⟨w.heap.size, 1, none⟩ = some (.slice p1 n1 c1) ∧ w'.cell? ⟨w.heap.size + 1, 1, none⟩ = some (.slice p2 n2 c2)) (first | with_reducible exact hS | exact s2k hS (by repeat (first | with_reducible exact HGc.out | with_reducible exact gb_refl _ _ | with_reducible refine gb_drew ?_)))
        (first
        | (go_at_call 57; go_must (refine (common_c _ _ a b _ (HN1.out.kept (by repeat (first | with_reducible exact HGc.out | with_reducible exact gb_refl _ _ | with_reducible refine gb_drew ?_))) (HN2.out.kept (by repeat (first | with_reducible exact HGc.out | with_reducible exact gb_refl _ _ | with_reducible refine gb_drew ?_))) (HL1.out ()) (HL2.out ())).mono ?_); rintro e w5 ⟨v5, rfl, hv, hg⟩; (try with_reducible have hg := undrew hg); have HV5 := Lib.hid hv; have HGc := Lib.hid (gb_trans HGc.out hg); clear hv hg)
        | (go_at_call 52; go_must (refine (divide_c _ v5 a gv _ (HN1.out.kept HGc.out) (hgv ▸ HV5.out) (HL1.out ()) (HGL.out ()) (HG0.out ())).mono ?_); rintro e w6 ⟨q6, r6, rfl, hq, hr, hg⟩; have HQ6 := Lib.hid hq; have HGc := Lib.hid (gb_trans HGc.out hg); clear hq hr hg))
      all_goals
        obtain ⟨x6, y6⟩ := s2k hS HGc.out
        go_wp2_with (first
          | (go_at_call 51; refine (product_c q6 _ (a / gv) b _ HQ6.out (HN2.out.kept HGc.out) (HQL.out ()) (HL2.out ())).mono ?_; rintro e w7 ⟨v7, rfl, hv, hg⟩; have HV7 := Lib.hid hv; have HG7 := Lib.hid (gb_trans HGc.out hg); clear hv hg)
          | (go_at_call 41; refine (signed_num false v7 _ _ HV7.out).mono ?_; rintro e w8 ⟨x8, rfl, hx, hg⟩; obtain ⟨s8, p8, n8, c8, hxe, HX8⟩ := int_parts hx; subst hxe; have HG8 := Lib.hid (gb_trans HG7.out hg); obtain ⟨z0, z1, z2⟩ := cells_of (bx HG8.out HZB.out); clear hx hg))
        obtain ⟨x, e1, e2, e3⟩ := ret_box HZB.out HG8.out HX8.out HGW.out (show w.heap.size ≤ w.heap.size + 1 + 1 by omega)
        injection e1 with e1; subst e1
        obtain ⟨rc0, rc1⟩ := ret_cells (s := s8) (p := p8) (n := n8) (c := c8) HZB.out HG8.out
        exact bodyPost_ret (v := .agg #[.bool s8, .slice p8 n8 c8]) (by simp [results, Try.results35, go_sem, rc0, rc1]) rfl ⟨_, rfl, by rw [HV.out]; exact e2, e3⟩
end Go.Proofs.Ytkonfkcaefjabaa
