/- Int: DivMod, the walk. -/
import Derived.Test.YtaheeccpihbcaaaDm1
namespace Go.Proofs.Ytaheeccpihbcaaa
open Go.RowKit Mx

theorem num_open {w : World} {v : Value} {N : Nat} (h : Num w v N) : ∃ p n cap, v = .slice p n cap ∧ (0 < n ↔ N ≠ 0) ∧ n ≤ cap ∧ cap ≤ maxLen := by
  obtain ⟨p, n, cap, f, rfl, h1, h2, _, _, h5, rfl⟩ := h
  exact ⟨p, n, cap, rfl, num_len h5, h1, h2⟩

/-- The four blocks that DivMod makes: two boxes, two results. -/
theorem low3 (w : World) (o1 o2 o3 o4 : Obj) : ((((w.alloc o1).alloc o2).alloc o3).alloc o4).heap[w.heap.size + 1 + 1]? = some o3 := by
  have h := top3 w o1 o2 o3
  have hl := (Array.getElem?_eq_some_iff.1 h).1
  exact (Below.heap_alloc _ o4 _ hl).trans h
theorem top4 (w : World) (o1 o2 o3 o4 : Obj) : ((((w.alloc o1).alloc o2).alloc o3).alloc o4).heap[w.heap.size + 1 + 1 + 1]? = some o4 := by
  have := heap_alloc_new (((w.alloc o1).alloc o2).alloc o3) o4; simpa using this

theorem fb (s : Bool) : (false != s) = s := by cases s <;> rfl
theorem tb (s : Bool) : (true != s) = !s := by cases s <;> rfl

theorem dm_fin {w W w5 : World} {r1 r2 : Nat} {T : TypeId} {s s' : Bool} {p p' : Option Addr} {n c n' c' : Nat} {X Y X' Y' : Int} (h1 : W.heap[r1]? = some (.cells #[.bool false, .slice none 0 0] T (0, 0))) (h2 : W.heap[r2]? = some (.cells #[.bool false, .slice none 0 0] T (0, 0)))
    (h0 : w.grownBy W none) (hr1 : w.heap.size ≤ r1) (hr2 : w.heap.size ≤ r2) (hne : r2 ≠ r1) (hg : W.grownBy w5 none)
    (hx : IsInt w5 (.agg #[.bool s, .slice p n c]) X') (hy : IsInt w5 (.agg #[.bool s', .slice p' n' c']) Y') (eX : X / Y = X') (eY : X % Y = Y') :
    DmPost X Y w (.returned (.tuple #[.agg #[.bool s, .slice p n c], .agg #[.bool s', .slice p' n' c'], .int .i64 0]))
      ((((w5.setCell ⟨r1, 0, none⟩ (.bool s)).setCell ⟨r1, 1, none⟩ (.slice p n c)).setCell ⟨r2, 0, none⟩ (.bool s')).setCell ⟨r2, 1, none⟩ (.slice p' n' c')) ∧
    ((w5.setCell ⟨r1, 0, none⟩ (.bool s)).cell? ⟨r1, 0, none⟩ = some (.bool s) ∧ ((w5.setCell ⟨r1, 0, none⟩ (.bool s)).setCell ⟨r1, 1, none⟩ (.slice p n c)).cell? ⟨r1, 1, none⟩ = some (.slice p n c) ∧
      (((w5.setCell ⟨r1, 0, none⟩ (.bool s)).setCell ⟨r1, 1, none⟩ (.slice p n c)).setCell ⟨r2, 0, none⟩ (.bool s')).cell? ⟨r2, 0, none⟩ = some (.bool s') ∧
      ((((w5.setCell ⟨r1, 0, none⟩ (.bool s)).setCell ⟨r1, 1, none⟩ (.slice p n c)).setCell ⟨r2, 0, none⟩ (.bool s')).setCell ⟨r2, 1, none⟩ (.slice p' n' c')).cell? ⟨r2, 1, none⟩ = some (.slice p' n' c')) := by
  have b1 := box_set (s := s) (p := p) (n := n) (c := c) h1 hg hx
  have y1 := int_off (s := s) (p := p) (n := n) (c := c) h1 hg hy
  have hr2W := (Array.getElem?_eq_some_iff.1 h2).1
  have h2' := (b1.2.2.block r2 (Nat.lt_of_lt_of_le hr2W hg.size) (by simpa using hne)).trans ((hg.block r2 hr2W (by simp)).trans h2)
  have b2 := box_set (s := s') (p := p') (n := n') (c := c') h2' (gb_refl _ none) y1
  have x2 := int_off (s := s') (p := p') (n := n') (c := c') h2' (gb_refl _ none) b1.1
  have k1 := ret_cells (s := s) (p := p) (n := n) (c := c) h1 hg
  have k2 := ret_cells (s := s') (p := p') (n := n') (c := c') h2' (gb_refl _ none)
  exact ⟨⟨_, _, rfl, by rw [eX]; exact x2, by rw [eY]; exact b2.1, below_gb (gb_new (gb_new (gb_below (gb_trans h0 hg)) hr1 b1.2.2) hr2 b2.2.2)⟩, k1.1, k1.2, k2.1, k2.2⟩

set_option maxHeartbeats 4000000 in
theorem dm_plain (s1 s2 : Bool) (v1 v2 : Value) (A B : Nat) (w : World) (h1 : Num w v1 A) (h2 : Num w v2 B) (hA : A < Lim) (hB : B < Lim) (hB0 : B ≠ 0) (hs : s1 = false ∨ A % B = 0) (eX : sgn s1 A / sgn s2 B = sgn (s1 != s2) ((A / B : Nat))) (eY : sgn s1 A % sgn s2 B = sgn false ((A % B : Nat))) :
    Calls Try.prog 30 #[.agg #[.bool s1, v1], .agg #[.bool s2, v2]] w (DmPost (sgn s1 A) (sgn s2 B) w) := by
  have H1 := Lib.hid h1; have H2 := Lib.hid h2
  have HS := Lib.hid (fun w1 (hg : w.grownBy w1 none) => divide_c v1 v2 A B w1 (H1.out.kept hg) (H2.out.kept hg) hA hB hB0)
  obtain ⟨p2, n2, c2, rfl, hn2, _⟩ := num_open h2
  have hne : ((n2 : Int) == 0) = false := beq_eq_false_iff_ne.2 (by have := hn2.2 hB0; omega)
  have EX := Lib.hid eX; have EY := Lib.hid eY; have HSS := Lib.hid hs
  have hbx : s1 = false ∨ s1 = true := by cases s1 <;> simp
  clear h1 h2 hA hB hn2 eX eY hs
  go_enter Try.func30, Try.ntmps30
  go_upto_region 4 with (go_at_call 52; refine (HS.out _ ?_).mono ?_; (repeat (first | exact gb_refl _ _ | refine gb_drew ?_ | refine gb_alloc ?_ _)); rintro e w2 ⟨q, r, rfl, hq, hr, hg⟩; have HQ := Lib.hid hq; have HR := Lib.hid hr; have HG := Lib.hid hg; obtain ⟨hcr, hfr⟩ := bcell hg; have hz : w.heap.size + 1 + 1 + 1 < w2.heap.size := (by have := hg.size; simp at this; omega); clear hq hr hg)
  obtain ⟨pq, nq, cq, rfl, hnq, _⟩ := num_open HQ.out
  obtain ⟨pr, nr, cr, rfl, hnr, _⟩ := num_open HR.out
  have hdec : s1 = false ∨ (s1 = true ∧ nr = 0) := by
    rcases hbx with h | h
    · exact .inl h
    · refine .inr ⟨h, ?_⟩
      have := HSS.out
      rcases this with h2 | h2
      · rw [h] at h2; cases h2
      · rcases Nat.eq_zero_or_pos nr with h3 | h3
        · exact h3
        · exact absurd h2 (hnr.1 h3)
  clear hnq hnr HSS hbx
  have hcase : ∀ b : Bool, (s1 != s2) = b → True := fun _ _ => trivial
  rcases hdec with h | ⟨h, h0⟩
  · subst h
    go_wp2_with fail
    refine (signed_num _ _ _ _ HQ.out).mono ?_
    rintro e w3 ⟨x, rfl, hx, hg⟩
    obtain ⟨s3, p3, n3, c3, hxe, HX⟩ := int_parts hx
    subst hxe
    have HG3 := Lib.hid hg
    obtain ⟨hcr3, hfr3⟩ := bcell hg
    have hz3 : w.heap.size + 1 + 1 + 1 < w3.heap.size := (by have := hg.size; omega)
    clear hx hg
    go_wp2_with fail
    refine (signed_num _ _ _ _ (HR.out.kept HG3.out)).mono ?_
    rintro e w4 ⟨x, rfl, hx, hg⟩
    obtain ⟨s4, p4, n4, c4, hxe, HY⟩ := int_parts hx
    subst hxe
    have HG4 := Lib.hid hg
    obtain ⟨hcr4, hfr4⟩ := bcell hg
    have hz4 : w.heap.size + 1 + 1 + 1 < w4.heap.size := (by have := hg.size; omega)
    clear hx hg
    have g4 := gb_trans HG.out (gb_trans HG3.out HG4.out)
    have t1 := low3 w (.cells #[.bool false, v1] 25) (.cells #[.bool s2, .slice p2 n2 c2] 25) (.cells #[.bool false, .slice none 0 0] 25) (.cells #[.bool false, .slice none 0 0] 25)
    have t2 := top4 w (.cells #[.bool false, v1] 25) (.cells #[.bool s2, .slice p2 n2 c2] 25) (.cells #[.bool false, .slice none 0 0] 25) (.cells #[.bool false, .slice none 0 0] 25)
    obtain ⟨a0, a1, a2⟩ := cells_of ((g4.block _ (Array.getElem?_eq_some_iff.1 t1).1 (by simp)).trans t1)
    obtain ⟨b0, b1, b2⟩ := cells_of ((g4.block _ (Array.getElem?_eq_some_iff.1 t2).1 (by simp)).trans t2)
    have hfin := dm_fin t1 t2 (gb_alloc (gb_alloc (gb_alloc (gb_alloc (gb_refl w none) _) _) _) _) (show w.heap.size ≤ w.heap.size + 1 + 1 by omega) (show w.heap.size ≤ w.heap.size + 1 + 1 + 1 by omega) (show w.heap.size + 1 + 1 + 1 ≠ w.heap.size + 1 + 1 by omega) g4 (HX.out.kept HG4.out) HY.out (by have := EX.out; rwa [fb] at this) EY.out
    have HFIN := Lib.hid hfin.1
    have HRC := Lib.hid hfin.2
    clear hfin g4 t1 t2 hcr hfr hcr3 hfr3 hcr4 hfr4
    go_wp2_with fail
    obtain ⟨k0, k1, k2, k3⟩ := HRC.out
    exact bodyPost_ret (v := .tuple #[.agg #[.bool s3, .slice p3 n3 c3], .agg #[.bool s4, .slice p4 n4 c4], .int .i64 0]) (by simp [results, Try.results30, go_sem, k0, k1, k2, k3]) rfl HFIN.out
  · subst h; subst h0
    go_wp2_with fail
    refine (signed_num _ _ _ _ HQ.out).mono ?_
    rintro e w3 ⟨x, rfl, hx, hg⟩
    obtain ⟨s3, p3, n3, c3, hxe, HX⟩ := int_parts hx
    subst hxe
    have HG3 := Lib.hid hg
    obtain ⟨hcr3, hfr3⟩ := bcell hg
    have hz3 : w.heap.size + 1 + 1 + 1 < w3.heap.size := (by have := hg.size; omega)
    clear hx hg
    go_wp2_with fail
    refine (signed_num _ _ _ _ (HR.out.kept HG3.out)).mono ?_
    rintro e w4 ⟨x, rfl, hx, hg⟩
    obtain ⟨s4, p4, n4, c4, hxe, HY⟩ := int_parts hx
    subst hxe
    have HG4 := Lib.hid hg
    obtain ⟨hcr4, hfr4⟩ := bcell hg
    have hz4 : w.heap.size + 1 + 1 + 1 < w4.heap.size := (by have := hg.size; omega)
    clear hx hg
    have g4 := gb_trans HG.out (gb_trans HG3.out HG4.out)
    have t1 := low3 w (.cells #[.bool true, v1] 25) (.cells #[.bool s2, .slice p2 n2 c2] 25) (.cells #[.bool false, .slice none 0 0] 25) (.cells #[.bool false, .slice none 0 0] 25)
    have t2 := top4 w (.cells #[.bool true, v1] 25) (.cells #[.bool s2, .slice p2 n2 c2] 25) (.cells #[.bool false, .slice none 0 0] 25) (.cells #[.bool false, .slice none 0 0] 25)
    obtain ⟨a0, a1, a2⟩ := cells_of ((g4.block _ (Array.getElem?_eq_some_iff.1 t1).1 (by simp)).trans t1)
    obtain ⟨b0, b1, b2⟩ := cells_of ((g4.block _ (Array.getElem?_eq_some_iff.1 t2).1 (by simp)).trans t2)
    have hfin := dm_fin t1 t2 (gb_alloc (gb_alloc (gb_alloc (gb_alloc (gb_refl w none) _) _) _) _) (show w.heap.size ≤ w.heap.size + 1 + 1 by omega) (show w.heap.size ≤ w.heap.size + 1 + 1 + 1 by omega) (show w.heap.size + 1 + 1 + 1 ≠ w.heap.size + 1 + 1 by omega) g4 (HX.out.kept HG4.out) HY.out (by have := EX.out; rwa [tb] at this) EY.out
    have HFIN := Lib.hid hfin.1
    have HRC := Lib.hid hfin.2
    clear hfin g4 t1 t2 hcr hfr hcr3 hfr3 hcr4 hfr4
    go_wp2_with fail
    obtain ⟨k0, k1, k2, k3⟩ := HRC.out
    exact bodyPost_ret (v := .tuple #[.agg #[.bool s3, .slice p3 n3 c3], .agg #[.bool s4, .slice p4 n4 c4], .int .i64 0]) (by simp [results, Try.results30, go_sem, k0, k1, k2, k3]) rfl HFIN.out
end Go.Proofs.Ytaheeccpihbcaaa
