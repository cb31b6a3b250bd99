/- Int: sums of numbers of two signs. -/
import Derived.Test.YtkonfkcaefjabaaInt2
namespace Go.Proofs.Ytkonfkcaefjabaa
open Go.RowKit Mx

set_option maxHeartbeats 2000000 in
theorem plus_ge (s1 s2 : Bool) (v1 v2 : Value) (A B : Nat) (w : World) (h1 : Num w v1 A) (h2 : Num w v2 B) (hA : A < Lim) (hB : B < Lim) (hs : s1 ≠ s2) (hAB : B ≤ A) :
    Calls Try.prog 47 #[.agg #[.bool s1, v1], .agg #[.bool s2, v2]] w (IntPost (sgn s1 ((A - B : Nat))) w) := by
  have H1 := Lib.hid h1; have H2 := Lib.hid h2
  have HS := Lib.hid (fun w1 (hg : w.grownBy w1 none) => difference_c v1 v2 A B w1 (H1.out.kept hg) (H2.out.kept hg) hA (by omega))
  have HC := Lib.hid (fun w1 (hg : w.grownBy w1 none) => compare_num v1 v2 A B w1 (H1.out.kept hg) (H2.out.kept hg) hA hB)
  have hcc : 0 ≤ cmpN A B := by unfold cmpN; rw [if_neg (by omega)]; split <;> omega
  obtain ⟨cc, hce⟩ : ∃ c, cmpN A B = c := ⟨_, rfl⟩
  rw [hce] at hcc HC
  have hss : (s1 == s2) = false := by simpa using hs
  clear h1 h2 hA hB hs hce
  go_enter Try.func47, Try.ntmps47
  go_wp2_with (go_at_call 45; refine (HC.out _ ?_).mono ?_; (repeat (first | exact gb_refl _ _ | refine gb_drew ?_ | refine gb_alloc ?_ _)); rintro e w1 ⟨rfl, m, rfl⟩)
  go_region_with (first
    | (go_at_call 54; refine (HS.out _ ?_).mono ?_; (repeat (first | exact gb_refl _ _ | refine gb_drew ?_ | refine gb_drewN ?_ _ | refine gb_alloc ?_ _)); rintro e w2 ⟨v, rfl, hv, hg⟩; have HV := Lib.hid hv; have HG := Lib.hid hg; obtain ⟨hcr, hfr⟩ := bcell hg; have hz : w.heap.size + 1 + 1 < w2.heap.size := (by have := hg.size; simp at this; omega); clear hv hg)
    | (go_at_call 41; refine (signed_num s1 v _ _ HV.out).mono ?_; rintro e w3 ⟨x, rfl, hx, hg⟩; obtain ⟨s3, p3, n3, c3, hxe, HX⟩ := int_parts hx; subst hxe; have HG3 := Lib.hid hg; obtain ⟨hcr3, hfr3⟩ := bcell hg; have hz3 : w.heap.size + 1 + 1 < w3.heap.size := (by have := hg.size; omega); clear hx hg))
  all_goals
    have hb := top3 w (.cells #[.bool s1, v1] 25) (.cells #[.bool s2, v2] 25) (.cells #[.bool false, .slice none 0 0] 25)
    have hgg := gb_trans (gb_drewN (gb_refl (((w.alloc (.cells #[.bool s1, v1] 25)).alloc (.cells #[.bool s2, v2] 25)).alloc (.cells #[.bool false, .slice none 0 0] 25)) none) (m + 1)) (gb_trans HG.out HG3.out)
    have hfin := ret_box hb hgg HX.out (gb_alloc (gb_alloc (gb_alloc (gb_refl w none) _) _) _) (show w.heap.size ≤ w.heap.size + 1 + 1 by omega)
    obtain ⟨rc0, rc1⟩ := ret_cells (s := s3) (p := p3) (n := n3) (c := c3) hb hgg
    have HFIN := Lib.hid hfin
    clear hfin hb hgg
    go_wp2
    exact bodyPost_ret (v := .agg #[.bool s3, .slice p3 n3 c3]) (by simp [results, Try.results47, go_sem, rc0, rc1]) rfl HFIN.out
end Go.Proofs.Ytkonfkcaefjabaa
