/- Int: sums and differences of any two. -/
import Derived.Test.YtkonfkcaefjabaaInt3
import Derived.Test.YtkonfkcaefjabaaInt4
import Derived.Test.YtkonfkcaefjabaaInt6
namespace Go.Proofs.Ytkonfkcaefjabaa
open Go.RowKit Mx

theorem plus_c (x y : Value) (X Y : Int) (w : World) (hx : IsInt w x X) (hy : IsInt w y Y) (hX : X.natAbs < Lim) (hY : Y.natAbs < Lim) : Calls Try.prog 47 #[x, y] w (IntPost (X + Y) w) := by
  obtain ⟨s1, v1, A, rfl, n1, z1, rfl⟩ := hx
  obtain ⟨s2, v2, B, rfl, n2, z2, rfl⟩ := hy
  have e1 : (if s1 = true then -(A : Int) else A).natAbs = A := by cases s1 <;> simp
  have e2 : (if s2 = true then -(B : Int) else B).natAbs = B := by cases s2 <;> simp
  rw [e1] at hX; rw [e2] at hY
  by_cases hs : s1 = s2
  · subst hs
    have e : (if s1 = true then -(A : Int) else A) + (if s1 = true then -(B : Int) else B) = sgn s1 ((A + B : Nat)) := by cases s1 <;> simp [sgn] <;> omega
    rw [e]
    exact plus_same s1 v1 v2 A B w n1 n2 hX hY
  · by_cases hAB : A < B
    · have e : (if s1 = true then -(A : Int) else A) + (if s2 = true then -(B : Int) else B) = sgn s2 ((B - A : Nat)) := by cases s1 <;> cases s2 <;> simp [sgn] at * <;> omega
      rw [e]
      exact plus_lt s1 s2 v1 v2 A B w n1 n2 hX hY hs hAB
    · have e : (if s1 = true then -(A : Int) else A) + (if s2 = true then -(B : Int) else B) = sgn s1 ((A - B : Nat)) := by cases s1 <;> cases s2 <;> simp [sgn] at * <;> omega
      rw [e]
      exact plus_ge s1 s2 v1 v2 A B w n1 n2 hX hY hs (by omega)

/-- A struct stored into a box of one's own. -/
theorem box_set {W w3 : World} {r : Nat} {b0 : Bool} {q : Option Addr} {l c0 : Nat} {T : TypeId} {s : Bool} {p : Option Addr} {n c : Nat} {Z : Int} (hb : W.heap[r]? = some (.cells #[.bool b0, .slice q l c0] T (0, 0))) (hg : W.grownBy w3 none) (hx : IsInt w3 (.agg #[.bool s, .slice p n c]) Z) :
    IsInt ((w3.setCell ⟨r, 0, none⟩ (.bool s)).setCell ⟨r, 1, none⟩ (.slice p n c)) (.agg #[.bool s, .slice p n c]) Z ∧ ((w3.setCell ⟨r, 0, none⟩ (.bool s)).setCell ⟨r, 1, none⟩ (.slice p n c)).heap[r]? = some (.cells #[.bool s, .slice p n c] T (0, 0)) ∧
      w3.grownBy ((w3.setCell ⟨r, 0, none⟩ (.bool s)).setCell ⟨r, 1, none⟩ (.slice p n c)) (some r) := by
  have hrW := (Array.getElem?_eq_some_iff.1 hb).1
  have hb3 := (hg.block r hrW (by simp)).trans hb
  have h1 : (w3.setCell ⟨r, 0, none⟩ (.bool s)).heap[r]? = some (.cells #[.bool s, .slice q l c0] T (0, 0)) := by
    simp only [World.setCell, Array.getElem?_modify, hb3, if_true, Option.map_some]; rfl
  have h2 : ((w3.setCell ⟨r, 0, none⟩ (.bool s)).setCell ⟨r, 1, none⟩ (.slice p n c)).heap[r]? = some (.cells #[.bool s, .slice p n c] T (0, 0)) := by
    rw [World.setCell]
    simp only [Array.getElem?_modify, h1, if_true, Option.map_some]; rfl
  refine ⟨?_, h2, gb_set (gb_set (gb_refl _ _) _) _⟩
  obtain ⟨s', v', N, he, hn, h3, h4⟩ := hx
  refine ⟨s', v', N, he, hn.off (box_cells hb3 _) (by simp [World.setCell]) (fun b o hbr => ?_), h3, h4⟩
  have e1 : ((w3.setCell ⟨r, 0, none⟩ (.bool s)).setCell ⟨r, 1, none⟩ (.slice p n c)).heap[b]? = w3.heap[b]? := by
    rw [Below.heap_setCell _ _ _ _ (by simpa using hbr), Below.heap_setCell _ _ _ _ (by simpa using hbr)]
  exact World.cell?_of_block (w := w3) e1

theorem cells_of {w : World} {r : Nat} {s : Bool} {p : Option Addr} {n c : Nat} {T : TypeId} (h : w.heap[r]? = some (.cells #[.bool s, .slice p n c] T (0, 0))) : w.cell? ⟨r, 0, none⟩ = some (.bool s) ∧ w.cell? ⟨r, 1, none⟩ = some (.slice p n c) ∧ ∀ o, w.frozen? ⟨r, o, none⟩ = false :=
  ⟨by rw [cell_of_row _ r 0 _ T (0, 0) h]; rfl, by rw [cell_of_row _ r 1 _ T (0, 0) h]; rfl, fun o => by simp [World.frozen?, h]⟩

set_option maxHeartbeats 2000000 in
theorem Sub_c (x y : Value) (X Y : Int) (w : World) (hx : IsInt w x X) (hy : IsInt w y Y) (hX : X.natAbs < Lim) (hY : Y.natAbs < Lim) : Calls Try.prog 24 #[x, y] w (IntPost (X - Y) w) := by
  obtain ⟨s1, p1, n1, c1, e1, H1⟩ := int_parts hx
  obtain ⟨s2, p2, n2, c2, e2, H2⟩ := int_parts hy
  subst e1; subst e2
  have HN := Lib.hid (fun w1 (hg : w.grownBy w1 none) => Neg_c _ Y w1 (H2.out.kept hg))
  have HP := Lib.hid (fun w1 v (hg : w.grownBy w1 none) (hv : IsInt w1 v (-Y)) => plus_c _ v X (-Y) w1 (H1.out.kept hg) hv hX (by omega))
  clear hx hy hX hY
  go_enter Try.func24, Try.ntmps24
  go_wp2_with fail
  go_region_with (first
    | (go_at_call 27; refine (HN.out _ ?_).mono ?_; (repeat (first | exact gb_refl _ _ | refine gb_drew ?_ | refine gb_alloc ?_ _)); rintro e w2 ⟨v, rfl, hv, hg⟩; have HV := Lib.hid hv; have HG := Lib.hid hg; obtain ⟨hcr, hfr⟩ := bcell hg; have hz : w.heap.size + 1 + 1 < w2.heap.size := (by have := hg.size; simp at this; omega); clear hv hg)
    | (go_at_call 47; refine (HP.out _ _ ?_ HV.out).mono ?_; (exact gb_trans (gb_drew (gb_alloc (gb_alloc (gb_alloc (gb_refl w none) _) _) _)) HG.out); rintro e w3 ⟨x, rfl, hx, hg⟩; obtain ⟨s3, p3, n3, c3, hxe, HX⟩ := int_parts hx; subst hxe; have HG3 := Lib.hid hg; obtain ⟨hcr3, hfr3⟩ := bcell hg; have hz3 : w.heap.size + 1 + 1 < w3.heap.size := (by have := hg.size; omega); clear hx hg))
  all_goals
    have hb := top3 w (.cells #[.bool s1, .slice p1 n1 c1] 25) (.cells #[.bool s2, .slice p2 n2 c2] 25) (.cells #[.bool false, .slice none 0 0] 25)
    have hgg := gb_trans (gb_drew (gb_refl (((w.alloc (.cells #[.bool s1, .slice p1 n1 c1] 25)).alloc (.cells #[.bool s2, .slice p2 n2 c2] 25)).alloc (.cells #[.bool false, .slice none 0 0] 25)) none)) (gb_trans HG.out HG3.out)
    have hfin := ret_box hb hgg HX.out (gb_alloc (gb_alloc (gb_alloc (gb_refl w none) _) _) _) (show w.heap.size ≤ w.heap.size + 1 + 1 by omega)
    obtain ⟨rc0, rc1⟩ := ret_cells (s := s3) (p := p3) (n := n3) (c := c3) hb hgg
    have HFIN := Lib.hid hfin
    clear hfin hb hgg
    go_wp2
    exact bodyPost_ret (v := .agg #[.bool s3, .slice p3 n3 c3]) (by simp [results, Try.results24, go_sem, rc0, rc1]) rfl (by have := HFIN.out; rwa [← Int.sub_eq_add_neg] at this)
end Go.Proofs.Ytkonfkcaefjabaa
