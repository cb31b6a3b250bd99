/- Int: quotient and rest. -/
import Derived.Test.YtkonfkcaefjabaaInt7
namespace Go.Proofs.Ytkonfkcaefjabaa
open Go.RowKit Mx

theorem int_off {W w3 : World} {r : Nat} {b0 : Bool} {q : Option Addr} {l c0 : Nat} {T : TypeId} {s : Bool} {p : Option Addr} {n c : Nat} {y : Value} {Z : Int} (hb : W.heap[r]? = some (.cells #[.bool b0, .slice q l c0] T (0, 0))) (hg : W.grownBy w3 none) (hx : IsInt w3 y Z) :
    IsInt ((w3.setCell ⟨r, 0, none⟩ (.bool s)).setCell ⟨r, 1, none⟩ (.slice p n c)) y Z := by
  have hrW := (Array.getElem?_eq_some_iff.1 hb).1
  have hb3 := (hg.block r hrW (by simp)).trans hb
  obtain ⟨s', v', N, he, hn, h3, h4⟩ := hx
  refine ⟨s', v', N, he, hn.off (box_cells hb3 _) (by simp [World.setCell]) (fun b o hbr => ?_), h3, h4⟩
  have e1 : ((w3.setCell ⟨r, 0, none⟩ (.bool s)).setCell ⟨r, 1, none⟩ (.slice p n c)).heap[b]? = w3.heap[b]? := by
    rw [Below.heap_setCell _ _ _ _ (by simpa using hbr), Below.heap_setCell _ _ _ _ (by simpa using hbr)]
  exact World.cell?_of_block (w := w3) e1

def DmPost (X Y : Int) (w : World) (e : Ending) (w' : World) : Prop :=
  ∃ x y, e = .returned (.tuple #[x, y, .int .i64 0]) ∧ IsInt w' x (X / Y) ∧ IsInt w' y (X % Y) ∧ w.grownBy w' none

theorem dm_nonneg (s2 : Bool) (A B : Nat) (hB : B ≠ 0) : sgn false A / sgn s2 B = sgn (false != s2) ((A / B : Nat)) ∧ sgn false A % sgn s2 B = sgn false ((A % B : Nat)) := by
  cases s2 <;> simp [sgn]

theorem dm_neg0 (s2 : Bool) (A B : Nat) (hB : B ≠ 0) (h0 : A % B = 0) : sgn true A / sgn s2 B = sgn (true != s2) ((A / B : Nat)) ∧ sgn true A % sgn s2 B = sgn false ((A % B : Nat)) := by
  obtain ⟨k, rfl⟩ : ∃ k, A = B * k := ⟨A / B, by have := Nat.div_add_mod A B; omega⟩
  have hp : 0 < B := by omega
  have hb : (B : Int) ≠ 0 := by omega
  rw [Nat.mul_div_cancel_left _ hp, h0]
  cases s2 <;> simp [sgn, Int.neg_ediv_of_dvd, hb] <;> exact Int.mul_ediv_cancel_left _ hb

theorem dm_neg1 (s2 : Bool) (A B : Nat) (hB : B ≠ 0) (h0 : A % B ≠ 0) : sgn true A / sgn s2 B = sgn (true != s2) ((A / B + 1 : Nat)) ∧ sgn true A % sgn s2 B = sgn false ((B - A % B : Nat)) := by
  have hlt : A % B < B := Nat.mod_lt _ (by omega)
  have hdm := Nat.div_add_mod A B
  generalize A / B = q at *
  generalize A % B = r at *
  subst hdm
  have hb : (B : Int) ≠ 0 := by omega
  cases s2
  · have h := (Int.ediv_emod_unique (a := -((B * q + r : Nat) : Int)) (b := (B : Int)) (q := -((q + 1 : Nat) : Int)) (r := ((B - r : Nat) : Int)) (by omega)).2 ⟨by
      have : ((B - r : Nat) : Int) = (B : Int) - r := by omega
      rw [this, Int.natCast_add (B * q) r, Int.natCast_mul, Int.natCast_add q 1]
      grind, by omega, by omega⟩
    simpa [sgn] using h
  · have h := (Int.ediv_emod_unique (a := -((B * q + r : Nat) : Int)) (b := (B : Int)) (q := -((q + 1 : Nat) : Int)) (r := ((B - r : Nat) : Int)) (by omega)).2 ⟨by
      have : ((B - r : Nat) : Int) = (B : Int) - r := by omega
      rw [this, Int.natCast_add (B * q) r, Int.natCast_mul, Int.natCast_add q 1]
      grind, by omega, by omega⟩
    constructor
    · have := h.1
      simp only [sgn]
      simp [Int.ediv_neg]
      simp at this
      omega
    · have := h.2
      simp only [sgn]
      simp [Int.emod_neg]
      simpa using this

theorem num_open {w : World} {v : Value} {N : Nat} (h : Num w v N) : ∃ p n cap, v = .slice p n cap ∧ (0 < n ↔ N ≠ 0) ∧ n ≤ cap ∧ cap ≤ maxLen := by
  obtain ⟨p, n, cap, f, rfl, h1, h2, _, _, h5, rfl⟩ := h
  exact ⟨p, n, cap, rfl, num_len h5, h1, h2⟩

/-- The four blocks that DivMod makes: two boxes, two results. -/
theorem low3 (w : World) (o1 o2 o3 o4 : Obj) : ((((w.alloc o1).alloc o2).alloc o3).alloc o4).heap[w.heap.size + 1 + 1]? = some o3 := by
  have h := top3 w o1 o2 o3
  have hl := (Array.getElem?_eq_some_iff.1 h).1
  exact (Below.heap_alloc _ o4 _ hl).trans h
theorem top4 (w : World) (o1 o2 o3 o4 : Obj) : ((((w.alloc o1).alloc o2).alloc o3).alloc o4).heap[w.heap.size + 1 + 1 + 1]? = some o4 := by
  have := heap_alloc_new (((w.alloc o1).alloc o2).alloc o3) o4; simpa using this

theorem fb (s : Bool) : (false != s) = s := by cases s <;> rfl
theorem tb (s : Bool) : (true != s) = !s := by cases s <;> rfl

theorem dm_fin {w W w5 : World} {r1 r2 : Nat} {T : TypeId} {s s' : Bool} {p p' : Option Addr} {n c n' c' : Nat} {X Y X' Y' : Int} (h1 : W.heap[r1]? = some (.cells #[.bool false, .slice none 0 0] T (0, 0))) (h2 : W.heap[r2]? = some (.cells #[.bool false, .slice none 0 0] T (0, 0)))
    (h0 : w.grownBy W none) (hr1 : w.heap.size ≤ r1) (hr2 : w.heap.size ≤ r2) (hne : r2 ≠ r1) (hg : W.grownBy w5 none)
    (hx : IsInt w5 (.agg #[.bool s, .slice p n c]) X') (hy : IsInt w5 (.agg #[.bool s', .slice p' n' c']) Y') (eX : X / Y = X') (eY : X % Y = Y') :
    DmPost X Y w (.returned (.tuple #[.agg #[.bool s, .slice p n c], .agg #[.bool s', .slice p' n' c'], .int .i64 0]))
      ((((w5.setCell ⟨r1, 0, none⟩ (.bool s)).setCell ⟨r1, 1, none⟩ (.slice p n c)).setCell ⟨r2, 0, none⟩ (.bool s')).setCell ⟨r2, 1, none⟩ (.slice p' n' c')) ∧
    ((w5.setCell ⟨r1, 0, none⟩ (.bool s)).cell? ⟨r1, 0, none⟩ = some (.bool s) ∧ ((w5.setCell ⟨r1, 0, none⟩ (.bool s)).setCell ⟨r1, 1, none⟩ (.slice p n c)).cell? ⟨r1, 1, none⟩ = some (.slice p n c) ∧
      (((w5.setCell ⟨r1, 0, none⟩ (.bool s)).setCell ⟨r1, 1, none⟩ (.slice p n c)).setCell ⟨r2, 0, none⟩ (.bool s')).cell? ⟨r2, 0, none⟩ = some (.bool s') ∧
      ((((w5.setCell ⟨r1, 0, none⟩ (.bool s)).setCell ⟨r1, 1, none⟩ (.slice p n c)).setCell ⟨r2, 0, none⟩ (.bool s')).setCell ⟨r2, 1, none⟩ (.slice p' n' c')).cell? ⟨r2, 1, none⟩ = some (.slice p' n' c')) := by
  have b1 := box_set (s := s) (p := p) (n := n) (c := c) h1 hg hx
  have y1 := int_off (s := s) (p := p) (n := n) (c := c) h1 hg hy
  have hr2W := (Array.getElem?_eq_some_iff.1 h2).1
  have h2' := (b1.2.2.block r2 (Nat.lt_of_lt_of_le hr2W hg.size) (by simpa using hne)).trans ((hg.block r2 hr2W (by simp)).trans h2)
  have b2 := box_set (s := s') (p := p') (n := n') (c := c') h2' (gb_refl _ none) y1
  have x2 := int_off (s := s') (p := p') (n := n') (c := c') h2' (gb_refl _ none) b1.1
  have k1 := ret_cells (s := s) (p := p) (n := n) (c := c) h1 hg
  have k2 := ret_cells (s := s') (p := p') (n := n') (c := c') h2' (gb_refl _ none)
  exact ⟨⟨_, _, rfl, by rw [eX]; exact x2, by rw [eY]; exact b2.1, below_gb (gb_new (gb_new (gb_below (gb_trans h0 hg)) hr1 b1.2.2) hr2 b2.2.2)⟩, k1.1, k1.2, k2.1, k2.2⟩

set_option maxHeartbeats 4000000 in
theorem dm_plain (s1 s2 : Bool) (v1 v2 : Value) (A B : Nat) (w : World) (h1 : Num w v1 A) (h2 : Num w v2 B) (hA : A < Lim) (hB : B < Lim) (hB0 : B ≠ 0) (hs : s1 = false ∨ A % B = 0) (eX : sgn s1 A / sgn s2 B = sgn (s1 != s2) ((A / B : Nat))) (eY : sgn s1 A % sgn s2 B = sgn false ((A % B : Nat))) :
    Calls Try.prog 30 #[.agg #[.bool s1, v1], .agg #[.bool s2, v2]] w (DmPost (sgn s1 A) (sgn s2 B) w) := by
  have H1 := Lib.hid h1; have H2 := Lib.hid h2
  have HS := Lib.hid (fun w1 (hg : w.grownBy w1 none) => divide_c v1 v2 A B w1 (H1.out.kept hg) (H2.out.kept hg) hA hB hB0)
  obtain ⟨p2, n2, c2, rfl, hn2, _⟩ := num_open h2
  have hne : ((n2 : Int) == 0) = false := beq_eq_false_iff_ne.2 (by have := hn2.2 hB0; omega)
  have EX := Lib.hid eX; have EY := Lib.hid eY; have HSS := Lib.hid hs
  have hbx : s1 = false ∨ s1 = true := by cases s1 <;> simp
  clear h1 h2 hA hB hn2 eX eY hs
  go_enter Try.func30, Try.ntmps30
  go_upto_region 4 with (go_at_call 52; refine (HS.out _ ?_).mono ?_; (repeat (first | exact gb_refl _ _ | refine gb_drew ?_ | refine gb_alloc ?_ _)); rintro e w2 ⟨q, r, rfl, hq, hr, hg⟩; have HQ := Lib.hid hq; have HR := Lib.hid hr; have HG := Lib.hid hg; obtain ⟨hcr, hfr⟩ := bcell hg; have hz : w.heap.size + 1 + 1 + 1 < w2.heap.size := (by have := hg.size; simp at this; omega); clear hq hr hg)
  obtain ⟨pq, nq, cq, rfl, hnq, _⟩ := num_open HQ.out
  obtain ⟨pr, nr, cr, rfl, hnr, _⟩ := num_open HR.out
  have hdec : s1 = false ∨ (s1 = true ∧ nr = 0) := by
    rcases hbx with h | h
    · exact .inl h
    · refine .inr ⟨h, ?_⟩
      have := HSS.out
      rcases this with h2 | h2
      · rw [h] at h2; cases h2
      · rcases Nat.eq_zero_or_pos nr with h3 | h3
        · exact h3
        · exact absurd h2 (hnr.1 h3)
  clear hnq hnr HSS hbx
  have hcase : ∀ b : Bool, (s1 != s2) = b → True := fun _ _ => trivial
  rcases hdec with h | ⟨h, h0⟩
  · subst h
    go_wp2_with fail
    refine (signed_num _ _ _ _ HQ.out).mono ?_
    rintro e w3 ⟨x, rfl, hx, hg⟩
    obtain ⟨s3, p3, n3, c3, hxe, HX⟩ := int_parts hx
    subst hxe
    have HG3 := Lib.hid hg
    obtain ⟨hcr3, hfr3⟩ := bcell hg
    have hz3 : w.heap.size + 1 + 1 + 1 < w3.heap.size := (by have := hg.size; omega)
    clear hx hg
    go_wp2_with fail
    refine (signed_num _ _ _ _ (HR.out.kept HG3.out)).mono ?_
    rintro e w4 ⟨x, rfl, hx, hg⟩
    obtain ⟨s4, p4, n4, c4, hxe, HY⟩ := int_parts hx
    subst hxe
    have HG4 := Lib.hid hg
    obtain ⟨hcr4, hfr4⟩ := bcell hg
    have hz4 : w.heap.size + 1 + 1 + 1 < w4.heap.size := (by have := hg.size; omega)
    clear hx hg
    have g4 := gb_trans HG.out (gb_trans HG3.out HG4.out)
    have t1 := low3 w (.cells #[.bool false, v1] 25) (.cells #[.bool s2, .slice p2 n2 c2] 25) (.cells #[.bool false, .slice none 0 0] 25) (.cells #[.bool false, .slice none 0 0] 25)
    have t2 := top4 w (.cells #[.bool false, v1] 25) (.cells #[.bool s2, .slice p2 n2 c2] 25) (.cells #[.bool false, .slice none 0 0] 25) (.cells #[.bool false, .slice none 0 0] 25)
    obtain ⟨a0, a1, a2⟩ := cells_of ((g4.block _ (Array.getElem?_eq_some_iff.1 t1).1 (by simp)).trans t1)
    obtain ⟨b0, b1, b2⟩ := cells_of ((g4.block _ (Array.getElem?_eq_some_iff.1 t2).1 (by simp)).trans t2)
    have hfin := dm_fin t1 t2 (gb_alloc (gb_alloc (gb_alloc (gb_alloc (gb_refl w none) _) _) _) _) (show w.heap.size ≤ w.heap.size + 1 + 1 by omega) (show w.heap.size ≤ w.heap.size + 1 + 1 + 1 by omega) (show w.heap.size + 1 + 1 + 1 ≠ w.heap.size + 1 + 1 by omega) g4 (HX.out.kept HG4.out) HY.out (by have := EX.out; rwa [fb] at this) EY.out
    have HFIN := Lib.hid hfin.1
    have HRC := Lib.hid hfin.2
    clear hfin g4 t1 t2 hcr hfr hcr3 hfr3 hcr4 hfr4
    go_wp2_with fail
    obtain ⟨k0, k1, k2, k3⟩ := HRC.out
    exact bodyPost_ret (v := .tuple #[.agg #[.bool s3, .slice p3 n3 c3], .agg #[.bool s4, .slice p4 n4 c4], .int .i64 0]) (by simp [results, Try.results30, go_sem, k0, k1, k2, k3]) rfl HFIN.out
  · subst h; subst h0
    go_wp2_with fail
    refine (signed_num _ _ _ _ HQ.out).mono ?_
    rintro e w3 ⟨x, rfl, hx, hg⟩
    obtain ⟨s3, p3, n3, c3, hxe, HX⟩ := int_parts hx
    subst hxe
    have HG3 := Lib.hid hg
    obtain ⟨hcr3, hfr3⟩ := bcell hg
    have hz3 : w.heap.size + 1 + 1 + 1 < w3.heap.size := (by have := hg.size; omega)
    clear hx hg
    go_wp2_with fail
    refine (signed_num _ _ _ _ (HR.out.kept HG3.out)).mono ?_
    rintro e w4 ⟨x, rfl, hx, hg⟩
    obtain ⟨s4, p4, n4, c4, hxe, HY⟩ := int_parts hx
    subst hxe
    have HG4 := Lib.hid hg
    obtain ⟨hcr4, hfr4⟩ := bcell hg
    have hz4 : w.heap.size + 1 + 1 + 1 < w4.heap.size := (by have := hg.size; omega)
    clear hx hg
    have g4 := gb_trans HG.out (gb_trans HG3.out HG4.out)
    have t1 := low3 w (.cells #[.bool true, v1] 25) (.cells #[.bool s2, .slice p2 n2 c2] 25) (.cells #[.bool false, .slice none 0 0] 25) (.cells #[.bool false, .slice none 0 0] 25)
    have t2 := top4 w (.cells #[.bool true, v1] 25) (.cells #[.bool s2, .slice p2 n2 c2] 25) (.cells #[.bool false, .slice none 0 0] 25) (.cells #[.bool false, .slice none 0 0] 25)
    obtain ⟨a0, a1, a2⟩ := cells_of ((g4.block _ (Array.getElem?_eq_some_iff.1 t1).1 (by simp)).trans t1)
    obtain ⟨b0, b1, b2⟩ := cells_of ((g4.block _ (Array.getElem?_eq_some_iff.1 t2).1 (by simp)).trans t2)
    have hfin := dm_fin t1 t2 (gb_alloc (gb_alloc (gb_alloc (gb_alloc (gb_refl w none) _) _) _) _) (show w.heap.size ≤ w.heap.size + 1 + 1 by omega) (show w.heap.size ≤ w.heap.size + 1 + 1 + 1 by omega) (show w.heap.size + 1 + 1 + 1 ≠ w.heap.size + 1 + 1 by omega) g4 (HX.out.kept HG4.out) HY.out (by have := EX.out; rwa [tb] at this) EY.out
    have HFIN := Lib.hid hfin.1
    have HRC := Lib.hid hfin.2
    clear hfin g4 t1 t2 hcr hfr hcr3 hfr3 hcr4 hfr4
    go_wp2_with fail
    obtain ⟨k0, k1, k2, k3⟩ := HRC.out
    exact bodyPost_ret (v := .tuple #[.agg #[.bool s3, .slice p3 n3 c3], .agg #[.bool s4, .slice p4 n4 c4], .int .i64 0]) (by simp [results, Try.results30, go_sem, k0, k1, k2, k3]) rfl HFIN.out

theorem one_lim : 1 < Lim := by
  have h : Bw ^ 1 ≤ Bw ^ LimN := Nat.pow_le_pow_right Bw_pos (by unfold LimN; omega)
  have h2 : Bw ^ 1 = Bw := Nat.pow_one _
  have h3 : 1 < Bw := by unfold Bw; omega
  unfold Lim
  omega

theorem num_lit1 (X : World) (T : TypeId) : Num (X.alloc (.cells #[.int .u64 1] T)) (.slice (some ⟨X.heap.size, 0, none⟩) 1 1) 1 :=
  ⟨_, 1, 1, fun _ => 1, rfl, Nat.le_refl _, by unfold maxLen; omega, (Blk_one X 1 T).at0, fun _ _ => by show 1 < Bw; unfold Bw; omega, .inr (by simp), by simp [V]⟩

set_option maxHeartbeats 4000000 in
theorem dm_adjust (s2 : Bool) (v1 v2 : Value) (A B : Nat) (w : World) (h1 : Num w v1 A) (h2 : Num w v2 B) (hA : A < Lim) (hB : B < Lim) (hB0 : B ≠ 0) (hs : A % B ≠ 0) (eX : sgn true A / sgn s2 B = sgn (true != s2) ((A / B + 1 : Nat))) (eY : sgn true A % sgn s2 B = sgn false ((B - A % B : Nat))) :
    Calls Try.prog 30 #[.agg #[.bool true, v1], .agg #[.bool s2, v2]] w (DmPost (sgn true A) (sgn s2 B) w) := by
  have H1 := Lib.hid h1; have H2 := Lib.hid h2
  have HS := Lib.hid (fun w1 (hg : w.grownBy w1 none) => divide_c v1 v2 A B w1 (H1.out.kept hg) (H2.out.kept hg) hA hB hB0)
  obtain ⟨p2, n2, c2, rfl, hn2, _⟩ := num_open h2
  have hne : ((n2 : Int) == 0) = false := beq_eq_false_iff_ne.2 (by have := hn2.2 hB0; omega)
  have EX := Lib.hid eX; have EY := Lib.hid eY; have HSS := Lib.hid hs
  have LQ := Lib.hid (Nat.lt_of_le_of_lt (Nat.div_le_self A B) hA)
  have LB := Lib.hid hB
  have LR := Lib.hid (Nat.le_of_lt (Nat.mod_lt A (Nat.pos_of_ne_zero hB0)))
  have HSUM := Lib.hid (fun W a b (ha : Num W a (A / B)) (hb : Num W b 1) => sum_c a b (A / B) 1 W ha hb LQ.out one_lim)
  have HDIF := Lib.hid (fun W a b (ha : Num W a B) (hb : Num W b (A % B)) => difference_c a b B (A % B) W ha hb LB.out LR.out)
  clear h1 h2 hA hB hn2 eX eY hs LQ LB LR
  go_enter Try.func30, Try.ntmps30
  go_upto_region 4 with (go_at_call 52; refine (HS.out _ ?_).mono ?_; (repeat (first | exact gb_refl _ _ | refine gb_drew ?_ | refine gb_alloc ?_ _)); rintro e w2 ⟨q, r, rfl, hq, hr, hg⟩; have HQ := Lib.hid hq; have HR := Lib.hid hr; have HG := Lib.hid hg; obtain ⟨hcr, hfr⟩ := bcell hg; have hz : w.heap.size + 1 + 1 + 1 < w2.heap.size := (by have := hg.size; simp at this; omega); clear hq hr hg)
  obtain ⟨pq, nq, cq, rfl, hnq, _⟩ := num_open HQ.out
  obtain ⟨pr, nr, cr, rfl, hnr, _⟩ := num_open HR.out
  have hnr0 : 0 < nr := hnr.2 HSS.out
  have hnr1 : (0 : Int) < nr := by omega
  clear hnq hnr HSS
  have hcb : w2.cell? ⟨w.heap.size + 1, 1, none⟩ = some (.slice p2 n2 c2) := by
    rw [hcr _ _ (by simp <;> omega)]; go_simp
  have hlt1 : w.heap.size + 1 < w2.heap.size := by omega
  go_upto_region 5 with fail
  clear hcr hfr
  go_cut [7, 8] (fun q r wx => ∃ p n c p' n' c', q = .slice p n c ∧ r = .slice p' n' c' ∧ Hid (Num wx (.slice p n c) (A / B + 1)) ∧ Hid (Num wx (.slice p' n' c') (B - A % B)) ∧ Hid (w2.grownBy wx none))
  case first =>
    go_region_with (first
      | (go_at_call 53; refine (HSUM.out _ _ _ ?_ ?_).mono ?_; (refine HQ.out.kept ?_; (repeat (first | exact gb_refl _ _ | refine gb_trans ?_ HGf.out | refine gb_drew ?_ | refine gb_alloc ?_ _))); (first | exact num_lit1 _ _ | exact (num_lit1 _ _).kept HGf.out); rintro e w3 ⟨x, rfl, hx, hg⟩; have HNs := Lib.hid hx; have HGs := Lib.hid hg; have hcb3 := hg.cell (a := ⟨w.heap.size + 1, 1, none⟩) (v := .slice p2 n2 c2) (by first | exact hcb | go_simp) (by simp); clear hx hg)
      | (go_at_call 54; refine (HDIF.out _ _ _ ?_ ?_).mono ?_; (refine H2.out.kept ?_; (repeat (first | exact gb_refl _ _ | refine gb_trans ?_ HGs.out | refine gb_trans ?_ HG.out | refine gb_drew ?_ | refine gb_alloc ?_ _))); (refine HR.out.kept ?_; (repeat (first | exact gb_refl _ _ | refine gb_trans ?_ HGs.out | refine gb_drew ?_ | refine gb_alloc ?_ _))); rintro e w4 ⟨y, rfl, hy, hg⟩; have HNf := Lib.hid hy; have HGf := Lib.hid hg;  clear hy hg))
    all_goals
      obtain ⟨pa, na, ca, ea, _⟩ := num_open HNs.out
      obtain ⟨pb', nb', cb', eb, _⟩ := num_open HNf.out
      subst ea; subst eb
      go_wp2
      go_meet
      exact ⟨_, _, _, _, _, _, rfl, rfl, HNs.out.kept HGf.out, HNf.out, gb_trans (gb_trans (by repeat (first | exact gb_refl _ _ | refine gb_drew ?_ | refine gb_alloc ?_ _)) HGs.out) HGf.out⟩
  case rest =>
    obtain ⟨p5, n5, c5, p6, n6, c6, rfl, rfl, HQ5, HR5, HG5⟩ := hcut
    obtain ⟨hcr, hfr⟩ := bcell (gb_trans HG.out HG5.out)
    clear HQ HR hcb hlt1
    go_wp2_with fail
    refine (signed_num _ _ _ _ HQ5.out).mono ?_
    rintro e w3 ⟨x, rfl, hx, hg⟩
    obtain ⟨s3, p3, n3, c3, hxe, HX⟩ := int_parts hx
    subst hxe
    have HG3 := Lib.hid hg
    clear hx hg
    go_wp2_with fail
    refine (signed_num _ _ _ _ (HR5.out.kept HG3.out)).mono ?_
    rintro e w4 ⟨x, rfl, hx, hg⟩
    obtain ⟨s4, p4, n4, c4, hxe, HY⟩ := int_parts hx
    subst hxe
    have HG4 := Lib.hid hg
    clear hx hg
    have g4 := gb_trans HG.out (gb_trans HG5.out (gb_trans HG3.out HG4.out))
    have hz4 : w.heap.size + 1 + 1 + 1 < w4.heap.size := by have := HG5.out.size; have := HG3.out.size; have := HG4.out.size; omega
    have t1 := low3 w (.cells #[.bool true, v1] 25) (.cells #[.bool s2, .slice p2 n2 c2] 25) (.cells #[.bool false, .slice none 0 0] 25) (.cells #[.bool false, .slice none 0 0] 25)
    have t2 := top4 w (.cells #[.bool true, v1] 25) (.cells #[.bool s2, .slice p2 n2 c2] 25) (.cells #[.bool false, .slice none 0 0] 25) (.cells #[.bool false, .slice none 0 0] 25)
    obtain ⟨a0, a1, a2⟩ := cells_of ((g4.block _ (Array.getElem?_eq_some_iff.1 t1).1 (by simp)).trans t1)
    obtain ⟨b0, b1, b2⟩ := cells_of ((g4.block _ (Array.getElem?_eq_some_iff.1 t2).1 (by simp)).trans t2)
    have hfin := dm_fin t1 t2 (gb_alloc (gb_alloc (gb_alloc (gb_alloc (gb_refl w none) _) _) _) _) (show w.heap.size ≤ w.heap.size + 1 + 1 by omega) (show w.heap.size ≤ w.heap.size + 1 + 1 + 1 by omega) (show w.heap.size + 1 + 1 + 1 ≠ w.heap.size + 1 + 1 by omega) g4 (HX.out.kept HG4.out) HY.out (by have := EX.out; rwa [tb] at this) EY.out
    have HFIN := Lib.hid hfin.1
    have HRC := Lib.hid hfin.2
    clear hfin g4 t1 t2 hcr hfr
    go_wp2_with fail
    obtain ⟨k0, k1, k2, k3⟩ := HRC.out
    exact bodyPost_ret (v := .tuple #[.agg #[.bool s3, .slice p3 n3 c3], .agg #[.bool s4, .slice p4 n4 c4], .int .i64 0]) (by simp [results, Try.results30, go_sem, k0, k1, k2, k3]) rfl HFIN.out

set_option maxHeartbeats 1000000 in
theorem dm_zero (s1 s2 : Bool) (v1 v2 : Value) (A : Nat) (w : World) (h1 : Num w v1 A) (h2 : Num w v2 0) :
    Calls Try.prog 30 #[.agg #[.bool s1, v1], .agg #[.bool s2, v2]] w fun e w' => ∃ x y, e = .returned (.tuple #[x, y, .int .i64 13]) ∧ IsInt w' x 0 ∧ IsInt w' y 0 ∧ w.grownBy w' none := by
  obtain ⟨p2, n2, c2, rfl, hn2, _⟩ := num_open h2
  obtain rfl : n2 = 0 := by
    rcases Nat.eq_zero_or_pos n2 with h | h
    · exact h
    · exact absurd rfl (hn2.1 h)
  have hz : ∀ w', IsInt w' (.agg #[.bool false, .slice none 0 0]) 0 := fun w' => ⟨false, _, 0, rfl, ⟨none, 0, 0, fun _ => 0, rfl, by omega, by omega, .inl rfl, fun j hj => by omega, .inl rfl, rfl⟩, (fun h => by cases h), rfl⟩
  have HZ := Lib.hid hz
  clear h1 h2 hn2 hz
  go_enter Try.func30, Try.ntmps30
  go_wp2
  exact bodyPost_ret (v := .tuple #[.agg #[.bool false, .slice none 0 0], .agg #[.bool false, .slice none 0 0], .int .i64 13]) (by simp [results, Try.results30, go_sem]) rfl ⟨_, _, rfl, HZ.out _, HZ.out _, by repeat (first | exact gb_refl _ _ | refine gb_drew ?_ | refine gb_alloc ?_ _)⟩

theorem DivMod_c (x y : Value) (X Y : Int) (w : World) (hx : IsInt w x X) (hy : IsInt w y Y) (hX : X.natAbs < Lim) (hY : Y.natAbs < Lim) (hY0 : Y ≠ 0) : Calls Try.prog 30 #[x, y] w (DmPost X Y w) := by
  obtain ⟨s1, v1, A, rfl, n1, z1, rfl⟩ := hx
  obtain ⟨s2, v2, B, rfl, n2, z2, rfl⟩ := hy
  have e1 : (if s1 = true then -(A : Int) else A).natAbs = A := by cases s1 <;> simp
  have e2 : (if s2 = true then -(B : Int) else B).natAbs = B := by cases s2 <;> simp
  have hB0 : B ≠ 0 := by intro e; apply hY0; rw [e]; cases s2 <;> rfl
  rw [e1] at hX; rw [e2] at hY
  cases s1
  · exact dm_plain false s2 v1 v2 A B w n1 n2 hX hY hB0 (.inl rfl) (dm_nonneg s2 A B hB0).1 (dm_nonneg s2 A B hB0).2
  · by_cases h : A % B = 0
    · exact dm_plain true s2 v1 v2 A B w n1 n2 hX hY hB0 (.inr h) (dm_neg0 s2 A B hB0 h).1 (dm_neg0 s2 A B hB0 h).2
    · exact dm_adjust s2 v1 v2 A B w n1 n2 hX hY hB0 h (dm_neg1 s2 A B hB0 h).1 (dm_neg1 s2 A B hB0 h).2

theorem DivMod0_c (x y : Value) (X : Int) (w : World) (hx : IsInt w x X) (hy : IsInt w y 0) : Calls Try.prog 30 #[x, y] w fun e w' => ∃ x y, e = .returned (.tuple #[x, y, .int .i64 13]) ∧ IsInt w' x 0 ∧ IsInt w' y 0 ∧ w.grownBy w' none := by
  obtain ⟨s1, v1, A, rfl, n1, z1, rfl⟩ := hx
  obtain ⟨s2, v2, B, rfl, n2, z2, e⟩ := hy
  have hB : B = 0 := by cases s2 <;> simp at e <;> omega
  subst hB
  exact dm_zero s1 s2 v1 v2 A w n1 n2
end Go.Proofs.Ytkonfkcaefjabaa
