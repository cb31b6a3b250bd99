/- Int: sums. -/
import Derived.Test.YtkonfkcaefjabaaInt1
import Derived.Deep.RegionWith
import Derived.Deep.RegionHeld3
namespace Go.Proofs.Ytkonfkcaefjabaa
open Go.RowKit Mx

theorem signed_num (s : Bool) (v : Value) (N : Nat) (w : World) (h : Num w v N) : Calls Try.prog 41 #[.bool s, v] w (IntPost (sgn s N) w) := by
  obtain ⟨p, n, cap, f, rfl, h1, h2, h3, h4, _, rfl⟩ := h
  exact signed_c s p n cap f w h1 h2 h3 h4

theorem compare_num (v1 v2 : Value) (A B : Nat) (w : World) (h1 : Num w v1 A) (h2 : Num w v2 B) (hA : A < Lim) (hB : B < Lim) :
    Calls Try.prog 45 #[v1, v2] w fun e w' => e = .returned (.int .i64 (cmpN A B)) ∧ ∃ m, w' = w.drewN m := by
  obtain ⟨p1, n1, c1, f1, rfl, k1, m1, a1, l1, t1, hV1⟩ := h1
  obtain ⟨p2, n2, c2, f2, rfl, k2, m2, a2, l2, t2, hV2⟩ := h2
  have hn1 := lim_len t1 (by rw [hV1]; exact hA)
  have hn2 := lim_len t2 (by rw [hV2]; exact hB)
  unfold LimN at hn1 hn2
  have := compare_c p1 p2 n1 n2 c1 c2 f1 f2 w (by omega) (by omega) a1 a2 l1 l2 t1 t2
  rw [hV1, hV2] at this
  exact this

theorem int_parts {w : World} {x : Value} {Z : Int} (h : IsInt w x Z) : ∃ s p n cap, x = .agg #[.bool s, .slice p n cap] ∧ Hid (IsInt w (.agg #[.bool s, .slice p n cap]) Z) := by
  obtain ⟨s, v, N, rfl, hn, r⟩ := h
  obtain ⟨p, n, cap, f, rfl, q⟩ := hn
  exact ⟨s, p, n, cap, rfl, s, _, N, rfl, ⟨p, n, cap, f, rfl, q⟩, r⟩

theorem At.off {k : IntKind} {w w' : World} {p : Option Addr} {n r : Nat} {f : Nat → Nat} (h : At k w p n f) (hn : ∀ o x, w.cell? ⟨r, o, none⟩ ≠ some (.int k x)) (hs : w.heap.size ≤ w'.heap.size) (hc : ∀ b o, b ≠ r → w'.cell? ⟨b, o, none⟩ = w.cell? ⟨b, o, none⟩) : At k w' p n f := by
  rcases h with h | ⟨g, off, rfl, hg, hcell⟩
  · exact .inl h
  · by_cases hn0 : n = 0
    · exact .inl hn0
    · have hgr : g ≠ r := by
        intro e; subst e
        exact hn _ _ (hcell 0 (by omega))
      exact .inr ⟨g, off, rfl, Nat.lt_of_lt_of_le hg hs, fun j hj => (hc g _ hgr).trans (hcell j hj)⟩

theorem Num.off {w w' : World} {v : Value} {N r : Nat} (h : Num w v N) (hn : ∀ o x, w.cell? ⟨r, o, none⟩ ≠ some (.int .u64 x)) (hs : w.heap.size ≤ w'.heap.size) (hc : ∀ b o, b ≠ r → w'.cell? ⟨b, o, none⟩ = w.cell? ⟨b, o, none⟩) : Num w' v N := by
  obtain ⟨p, n, cap, f, rfl, h1, h2, h3, r⟩ := h
  exact ⟨p, n, cap, f, rfl, h1, h2, h3.off hn hs hc, r⟩

theorem box_cells {w : World} {r : Nat} {b0 : Bool} {T : TypeId} {q : Option Addr} {l c : Nat} (hb : w.heap[r]? = some (.cells #[.bool b0, .slice q l c] T (0, 0))) (k : IntKind) : ∀ o x, w.cell? ⟨r, o, none⟩ ≠ some (.int k x) := by
  intro o x h
  rw [cell_of_row w r o _ T (0, 0) hb] at h
  match o, h with
  | 0, h => simp at h
  | 1, h => simp at h
  | o + 2, h => simp at h

/-- A struct handed back through the cell that was made for it. -/
theorem ret_box {w W w3 : World} {r : Nat} {b0 : Bool} {T : TypeId} {s : Bool} {p : Option Addr} {n c : Nat} {Z : Int} (hb : W.heap[r]? = some (.cells #[.bool b0, .slice none 0 0] T (0, 0))) (hg : W.grownBy w3 none) (hx : IsInt w3 (.agg #[.bool s, .slice p n c]) Z)
    (h0 : w.grownBy W none) (hr : w.heap.size ≤ r) :
    IntPost Z w (.returned (.agg #[.bool s, .slice p n c])) ((w3.setCell ⟨r, 0, none⟩ (.bool s)).setCell ⟨r, 1, none⟩ (.slice p n c)) := by
  have hrW := (Array.getElem?_eq_some_iff.1 hb).1
  have hb3 := (hg.block r hrW (by simp)).trans hb
  refine ⟨_, rfl, ?_, below_gb (gb_new (gb_below (gb_trans h0 hg)) hr (gb_set (gb_set (gb_refl _ _) _) _))⟩
  obtain ⟨s', v', N, he, hn, h1, h2⟩ := hx
  refine ⟨s', v', N, he, hn.off (box_cells hb3 _) (by simp [World.setCell]) (fun b o hbr => ?_), h1, h2⟩
  have e1 : ((w3.setCell ⟨r, 0, none⟩ (.bool s)).setCell ⟨r, 1, none⟩ (.slice p n c)).heap[b]? = w3.heap[b]? := by
    rw [Below.heap_setCell _ _ _ _ (by simpa using hbr), Below.heap_setCell _ _ _ _ (by simpa using hbr)]
  exact World.cell?_of_block (w := w3) e1

theorem top1 (w : World) (o1 : Obj) : (w.alloc o1).heap[w.heap.size]? = some o1 := heap_alloc_new w o1
theorem top2 (w : World) (o1 o2 : Obj) : ((w.alloc o1).alloc o2).heap[w.heap.size + 1]? = some o2 := by have := heap_alloc_new (w.alloc o1) o2; simpa using this
theorem top3 (w : World) (o1 o2 o3 : Obj) : (((w.alloc o1).alloc o2).alloc o3).heap[w.heap.size + 1 + 1]? = some o3 := by have := heap_alloc_new ((w.alloc o1).alloc o2) o3; simpa using this

/-- The cells of the result behind the store. -/
theorem ret_cells {W w3 : World} {r : Nat} {b0 : Bool} {T : TypeId} {s : Bool} {p : Option Addr} {n c : Nat} (hb : W.heap[r]? = some (.cells #[.bool b0, .slice none 0 0] T (0, 0))) (hg : W.grownBy w3 none) :
    (w3.setCell ⟨r, 0, none⟩ (.bool s)).cell? ⟨r, 0, none⟩ = some (.bool s) ∧ ((w3.setCell ⟨r, 0, none⟩ (.bool s)).setCell ⟨r, 1, none⟩ (.slice p n c)).cell? ⟨r, 1, none⟩ = some (.slice p n c) := by
  have hrW := (Array.getElem?_eq_some_iff.1 hb).1
  have hb3 := (hg.block r hrW (by simp)).trans hb
  have h1 : (w3.setCell ⟨r, 0, none⟩ (.bool s)).heap[r]? = some (.cells #[.bool s, .slice none 0 0] T (0, 0)) := by
    simp only [World.setCell, Array.getElem?_modify, hb3, if_true, Option.map_some]; rfl
  have h2 : ((w3.setCell ⟨r, 0, none⟩ (.bool s)).setCell ⟨r, 1, none⟩ (.slice p n c)).heap[r]? = some (.cells #[.bool s, .slice p n c] T (0, 0)) := by
    rw [World.setCell]
    simp only [Array.getElem?_modify, h1, if_true, Option.map_some]; rfl
  exact ⟨by rw [cell_of_row _ r 0 _ T (0, 0) h1]; rfl, by rw [cell_of_row _ r 1 _ T (0, 0) h2]; rfl⟩

set_option maxHeartbeats 2000000 in
theorem plus_same (s : Bool) (v1 v2 : Value) (A B : Nat) (w : World) (h1 : Num w v1 A) (h2 : Num w v2 B) (hA : A < Lim) (hB : B < Lim) :
    Calls Try.prog 47 #[.agg #[.bool s, v1], .agg #[.bool s, v2]] w (IntPost (sgn s ((A + B : Nat))) w) := by
  have H1 := Lib.hid h1; have H2 := Lib.hid h2
  have HS := Lib.hid (fun w1 (hg : w.grownBy w1 none) => sum_c v1 v2 A B w1 (H1.out.kept hg) (H2.out.kept hg) hA hB)
  have hss : (s == s) = true := by simp
  clear h1 h2 hA hB
  go_enter Try.func47, Try.ntmps47
  go_wp2_with fail
  go_region_with (first
    | (go_at_call 53; refine (HS.out _ ?_).mono ?_; (repeat (first | exact gb_refl _ _ | refine gb_drew ?_ | refine gb_alloc ?_ _)); rintro e w2 ⟨v, rfl, hv, hg⟩; have HV := Lib.hid hv; have HG := Lib.hid hg; obtain ⟨hcr, hfr⟩ := bcell hg; have hz : w.heap.size + 1 + 1 < w2.heap.size := (by have := hg.size; simp at this; omega); clear hv hg)
    | (go_at_call 41; refine (signed_num s v _ _ HV.out).mono ?_; rintro e w3 ⟨x, rfl, hx, hg⟩; obtain ⟨s3, p3, n3, c3, hxe, HX⟩ := int_parts hx; subst hxe; have HG3 := Lib.hid hg; obtain ⟨hcr3, hfr3⟩ := bcell hg; have hz3 : w.heap.size + 1 + 1 < w3.heap.size := (by have := hg.size; omega); clear hx hg))
  all_goals
    have hb : (World.drew (((w.alloc (.cells #[.bool s, v1] 25)).alloc (.cells #[.bool s, v2] 25)).alloc (.cells #[.bool false, .slice none 0 0] 25))).heap[w.heap.size + 1 + 1]? = some (.cells #[.bool false, .slice none 0 0] 25 (0, 0)) := top3 _ _ _ _
    have hgg := gb_trans HG.out HG3.out
    have hfin := ret_box hb hgg HX.out (gb_drew (gb_alloc (gb_alloc (gb_alloc (gb_refl w none) _) _) _)) (show w.heap.size ≤ w.heap.size + 1 + 1 by omega)
    obtain ⟨rc0, rc1⟩ := ret_cells (s := s3) (p := p3) (n := n3) (c := c3) hb hgg
    have HFIN := Lib.hid hfin
    clear hfin hb hgg
    go_wp2
    exact bodyPost_ret (v := .agg #[.bool s3, .slice p3 n3 c3]) (by simp [results, Try.results47, go_sem, rc0, rc1]) rfl HFIN.out
end Go.Proofs.Ytkonfkcaefjabaa
