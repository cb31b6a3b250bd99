/- Int: Add of one number more. -/
import Derived.Test.YtkonfkcaefjabaaInt7
namespace Go.Proofs.Ytkonfkcaefjabaa
open Go.RowKit Mx

/-- Behind the loop's one round: a's own box holds the sum; the result's box is as it was made. -/
def AddRel (w w0 : World) (X Y : Int) (g : Nat) (i : Value) (wr : World) : Prop :=
  (g = 1 ∧ i = .int .i64 0 ∧ w0 = wr) ∨ (g = 0 ∧ i = .int .i64 1 ∧ ∃ s p n c, IsInt wr (.agg #[.bool s, .slice p n c]) (X + Y) ∧ wr.heap[w.heap.size]? = some (.cells #[.bool s, .slice p n c] 25 (0, 0)) ∧ wr.heap[w.heap.size + 1]? = some (.cells #[.bool false, .slice none 0 0] 25 (0, 0)) ∧ w.grownBy wr none)

set_option maxHeartbeats 2000000 in
theorem Add_c (x : Value) (X Y : Int) (s2 : Bool) (p2 : Option Addr) (n2 c2 g : Nat) (w : World) (hx : IsInt w x X) (hy : IsInt w (.agg #[.bool s2, .slice p2 n2 c2]) Y) (h0 : w.cell? ⟨g, 0, none⟩ = some (.bool s2)) (h1 : w.cell? ⟨g, 1, none⟩ = some (.slice p2 n2 c2)) (hX : X.natAbs < Lim) (hY : Y.natAbs < Lim) :
    Calls Try.prog 21 #[x, .slice (some ⟨g, 0, none⟩) 1 1] w (IntPost (X + Y) w) := by
  obtain ⟨s1, p1, n1, c1, e1, H1⟩ := int_parts hx
  subst e1
  have HP := Lib.hid (fun w1 (hg : w.grownBy w1 none) => plus_c _ _ X Y w1 (H1.out.kept hg) (hy.kept hg) hX hY)
  have hgs := World.block_lt_of_cell? w _ h0
  have hgg := gb_alloc (gb_alloc (gb_refl w none) (.cells #[.bool s1, .slice p1 n1 c1] 25)) (.cells #[.bool false, .slice none 0 0] 25)
  have k0 := hgg.cell h0 (by simp)
  have k1 := hgg.cell h1 (by simp)
  have HG0 := Lib.hid hgg
  clear hx hy hX hY hgg h0 h1
  go_enter Try.func21, Try.ntmps21
  go_wp2_with fail
  go_loopg [9] 1 (fun g i wr => AddRel w ((w.alloc (.cells #[.bool s1, .slice p1 n1 c1] 25)).alloc (.cells #[.bool false, .slice none 0 0] 25)) X Y g i wr)
  case atStart => exact .inl ⟨rfl, rfl, rfl⟩
  case round =>
    rcases hrel with ⟨rfl, rfl, rfl⟩ | ⟨rfl, rfl, s, p, n, c, q1, q2, q3, q4⟩
    · go_wp2_with (go_at_call 47; refine (HP.out _ ?_).mono ?_; (repeat (first | exact gb_refl _ _ | refine gb_drew ?_ | refine gb_alloc ?_ _)); rintro e w3 ⟨x, rfl, hx, hg⟩; obtain ⟨s3, p3, n3, c3, hxe, HX⟩ := int_parts hx; subst hxe; have HG3 := Lib.hid hg; obtain ⟨hcr3, hfr3⟩ := bcell hg; have hz3 : w.heap.size + 1 < w3.heap.size := (by have := hg.size; simp at this; omega); clear hx hg)
      have hgA := gb_trans (gb_alloc (gb_alloc (gb_refl (w.alloc (.cells #[.bool s1, .slice p1 n1 c1] 25)) none) (.cells #[.bool false, .slice none 0 0] 25)) (.cells #[.bool s2, .slice p2 n2 c2] 25)) HG3.out
      have hgR := gb_trans (gb_alloc (gb_refl ((w.alloc (.cells #[.bool s1, .slice p1 n1 c1] 25)).alloc (.cells #[.bool false, .slice none 0 0] 25)) none) (.cells #[.bool s2, .slice p2 n2 c2] 25)) HG3.out
      have hw3 := gb_trans (World.grownBy_alloc w (.cells #[.bool s1, .slice p1 n1 c1] 25) none) hgA
      have bs := box_set (top1 w (.cells #[.bool s1, .slice p1 n1 c1] 25)) hgA HX.out
      have hR := (hgR.block (w.heap.size + 1) (by simp) (by simp)).trans (top2 w (.cells #[.bool s1, .slice p1 n1 c1] 25) (.cells #[.bool false, .slice none 0 0] 25))
      have hR4 := (bs.2.2.block (w.heap.size + 1) hz3 (by simp)).trans hR
      have hfin : AddRel w ((w.alloc (.cells #[.bool s1, .slice p1 n1 c1] 25)).alloc (.cells #[.bool false, .slice none 0 0] 25)) X Y 0 (.int .i64 1) ((w3.setCell ⟨w.heap.size, 0, none⟩ (.bool s3)).setCell ⟨w.heap.size, 1, none⟩ (.slice p3 n3 c3)) :=
        .inr ⟨rfl, rfl, s3, p3, n3, c3, bs.1, bs.2.1, hR4, below_gb (gb_new (gb_below hw3) (Nat.le_refl _) bs.2.2)⟩
      have HFIN := Lib.hid hfin
      clear hgA hgR hw3 bs hR hR4 hfin
      go_roundg 0
      case measure => omega
      case rel => exact HFIN.out
    · obtain ⟨r0, r1, r2⟩ := cells_of q2
      obtain ⟨t0, t1, t2⟩ := cells_of q3
      have hsz1 := (Array.getElem?_eq_some_iff.1 q3).1
      have hfin := ret_box q3 (gb_refl wr none) q1 q4 (show w.heap.size ≤ w.heap.size + 1 by omega)
      obtain ⟨rc0, rc1⟩ := ret_cells (s := s) (p := p) (n := n) (c := c) q3 (gb_refl wr none)
      have HFIN := Lib.hid hfin
      clear hfin q1 q2 q3 q4
      go_wp2
      exact bodyPost_ret (v := .agg #[.bool s, .slice p n c]) (by simp [results, Try.results21, go_sem, rc0, rc1]) rfl HFIN.out
end Go.Proofs.Ytkonfkcaefjabaa
