/- The least and the greatest of Ints. -/
import Derived.Test.YtkonfkcaefjabaaPow
namespace Go.Proofs.Ytkonfkcaefjabaa
open Go.RowKit Mx

/-- n Ints from the block g on. -/
def Zs (w : World) (g n : Nat) (s : Nat → Bool) (p : Nat → Option Addr) (l c : Nat → Nat) (F : Nat → Int) : Prop :=
  ∀ j, j < n → w.cell? ⟨g, 2 * j, none⟩ = some (.bool (s j)) ∧ w.cell? ⟨g, 2 * j + 1, none⟩ = some (.slice (p j) (l j) (c j)) ∧ IsInt w (.agg #[.bool (s j), .slice (p j) (l j) (c j)]) (F j)

theorem Zs.kept {w w' : World} {g n : Nat} {s : Nat → Bool} {p : Nat → Option Addr} {l c : Nat → Nat} {F : Nat → Int} (h : Zs w g n s p l c F) (hg : w.grownBy w' none) : Zs w' g n s p l c F :=
  fun j hj => ⟨hg.cell (h j hj).1 (by simp), hg.cell (h j hj).2.1 (by simp), (h j hj).2.2.kept hg⟩

def BestPost (n : Nat) (F : Nat → Int) (w : World) (e : Ending) (w' : World) : Prop :=
  ∃ x y A B, e = .returned (.tuple #[x, y, .int .i64 0]) ∧ IsInt w' x A ∧ IsInt w' y B ∧ w.grownBy w' none ∧ (∃ i, i < n ∧ F i = A) ∧ (∃ i, i < n ∧ F i = B) ∧ ∀ j, j < n → A ≤ F j ∧ F j ≤ B

/-- What lies behind k of them. -/
def BRel (w : World) (F : Nat → Int) (k qa qb : Nat) (wx : World) : Prop :=
  qa ≠ qb ∧ w.heap.size + 1 < qa ∧ w.heap.size + 1 < qb ∧
    (∃ (s : Bool) (p : Option Addr) (l c i : Nat), wx.heap[qa]? = some (.cells #[.bool s, .slice p l c] 25 (0, 0)) ∧ IsInt wx (.agg #[.bool s, .slice p l c]) (F i) ∧ i < k ∧ ∀ j, j < k → F i ≤ F j) ∧
    (∃ (s : Bool) (p : Option Addr) (l c i : Nat), wx.heap[qb]? = some (.cells #[.bool s, .slice p l c] 25 (0, 0)) ∧ IsInt wx (.agg #[.bool s, .slice p l c]) (F i) ∧ i < k ∧ ∀ j, j < k → F j ≤ F i) ∧
    w.grownBy wx none ∧ wx.heap[w.heap.size]? = some (.cells #[.bool false, .slice none 0 0] 25 (0, 0)) ∧ wx.heap[w.heap.size + 1]? = some (.cells #[.bool false, .slice none 0 0] 25 (0, 0))

theorem brel_start {w W : World} {F : Nat → Int} {s : Bool} {p : Option Addr} {l c qa qb : Nat} (hq : (qa = w.heap.size + 2 ∧ qb = w.heap.size + 2 + 1) ∨ (qb = w.heap.size + 2 ∧ qa = w.heap.size + 2 + 1)) (hws : W.heap.size = w.heap.size + 2) (hg : w.grownBy W none)
    (h1 : W.heap[w.heap.size]? = some (.cells #[.bool false, .slice none 0 0] 25 (0, 0))) (h2 : W.heap[w.heap.size + 1]? = some (.cells #[.bool false, .slice none 0 0] 25 (0, 0))) (hI : IsInt w (.agg #[.bool s, .slice p l c]) (F 0)) :
    BRel w F 1 qa qb ((W.alloc (.cells #[.bool s, .slice p l c] 25)).alloc (.cells #[.bool s, .slice p l c] 25)).drew := by
  have hg2 : W.grownBy ((W.alloc (.cells #[.bool s, .slice p l c] 25)).alloc (.cells #[.bool s, .slice p l c] 25)).drew none := gb_drew (gb_alloc (gb_alloc (gb_refl W none) _) _)
  have t1 := top1 W (.cells #[.bool s, .slice p l c] 25)
  have t1 := ((gb_drew (World.grownBy_alloc (W.alloc (.cells #[.bool s, .slice p l c] 25)) (.cells #[.bool s, .slice p l c] 25) none)).block _ (Array.getElem?_eq_some_iff.1 t1).1 (by simp)).trans t1
  have t2 : ((W.alloc (.cells #[.bool s, .slice p l c] 25)).alloc (.cells #[.bool s, .slice p l c] 25)).drew.heap[W.heap.size + 1]? = _ := top2 W (.cells #[.bool s, .slice p l c] 25) (.cells #[.bool s, .slice p l c] 25)
  rw [hws] at t1 t2
  have hI2 := hI.kept (gb_trans hg hg2)
  have r1 := (hg2.block _ (Array.getElem?_eq_some_iff.1 h1).1 (by simp)).trans h1
  have r2 := (hg2.block _ (Array.getElem?_eq_some_iff.1 h2).1 (by simp)).trans h2
  have hF : ∀ j, j < 1 → F 0 ≤ F j := by
    intro j hj
    obtain rfl : j = 0 := by omega
    exact Int.le_refl _
  have hF2 : ∀ j, j < 1 → F j ≤ F 0 := by
    intro j hj
    obtain rfl : j = 0 := by omega
    exact Int.le_refl _
  rcases hq with ⟨rfl, rfl⟩ | ⟨rfl, rfl⟩
  · exact ⟨by omega, by omega, by omega, ⟨s, p, l, c, 0, t1, hI2, by omega, hF⟩, ⟨s, p, l, c, 0, t2, hI2, by omega, hF2⟩, gb_trans hg hg2, r1, r2⟩
  · exact ⟨by omega, by omega, by omega, ⟨s, p, l, c, 0, t2, hI2, by omega, hF⟩, ⟨s, p, l, c, 0, t1, hI2, by omega, hF2⟩, gb_trans hg hg2, r1, r2⟩

theorem brel_kept {w wr w2 : World} {F : Nat → Int} {k qa qb : Nat} (h : BRel w F k qa qb wr) (hg : wr.grownBy w2 none) : BRel w F k qa qb w2 := by
  obtain ⟨h1, h2, h3, ⟨s, p, l, c, i, a1, a2, a3⟩, ⟨s', p', l', c', i', b1, b2, b3⟩, g, r1, r2⟩ := h
  exact ⟨h1, h2, h3, ⟨s, p, l, c, i, (hg.block _ (Array.getElem?_eq_some_iff.1 a1).1 (by simp)).trans a1, a2.kept hg, a3⟩, ⟨s', p', l', c', i', (hg.block _ (Array.getElem?_eq_some_iff.1 b1).1 (by simp)).trans b1, b2.kept hg, b3⟩, gb_trans g hg, (hg.block _ (Array.getElem?_eq_some_iff.1 r1).1 (by simp)).trans r1, (hg.block _ (Array.getElem?_eq_some_iff.1 r2).1 (by simp)).trans r2⟩

theorem brel_mid {w wr : World} {F : Nat → Int} {k qa qb : Nat} (h : BRel w F k qa qb wr) (hlo : ∃ i, i < k ∧ F i ≤ F k) (hhi : ∃ i, i < k ∧ F k ≤ F i) : BRel w F (k + 1) qa qb wr := by
  obtain ⟨h1, h2, h3, ⟨s, p, l, c, i, a1, a2, a3, a4⟩, ⟨s', p', l', c', i', b1, b2, b3, b4⟩, g, r⟩ := h
  obtain ⟨i1, m1, m2⟩ := hlo
  obtain ⟨i2, m3, m4⟩ := hhi
  refine ⟨h1, h2, h3, ⟨s, p, l, c, i, a1, a2, by omega, fun j hj => ?_⟩, ⟨s', p', l', c', i', b1, b2, by omega, fun j hj => ?_⟩, g, r⟩
  · by_cases e : j < k
    · exact a4 j e
    · obtain rfl : j = k := by omega
      exact Int.le_trans (a4 i1 m1) m2
  · by_cases e : j < k
    · exact b4 j e
    · obtain rfl : j = k := by omega
      exact Int.le_trans m4 (b4 i2 m3)

theorem brel_low {w wr : World} {F : Nat → Int} {k qa qb : Nat} {s0 : Bool} {p0 : Option Addr} {l0 c0 : Nat} (h : BRel w F k qa qb wr) (hx : IsInt wr (.agg #[.bool s0, .slice p0 l0 c0]) (F k)) (hlo : ∃ i, i < k ∧ (∀ j, j < k → F i ≤ F j) ∧ F k < F i) :
    BRel w F (k + 1) qa qb ((wr.setCell ⟨qa, 0, none⟩ (.bool s0)).setCell ⟨qa, 1, none⟩ (.slice p0 l0 c0)) := by
  obtain ⟨h1, h2, h3, ⟨s, p, l, c, i, a1, a2, a3, a4⟩, ⟨s', p', l', c', i', b1, b2, b3, b4⟩, g, r1, r2⟩ := h
  obtain ⟨i1, m1, m2, m3⟩ := hlo
  obtain ⟨x1, x2, x3⟩ := box_set a1 (gb_refl wr none) hx
  have hk : ∀ j, j < k → F k ≤ F j := fun j hj => by have := m2 j hj; omega
  refine ⟨h1, h2, h3, ⟨s0, p0, l0, c0, k, x2, x1, by omega, fun j hj => ?_⟩, ⟨s', p', l', c', i', (x3.block _ (Array.getElem?_eq_some_iff.1 b1).1 (by simp; omega)).trans b1, int_off a1 (gb_refl wr none) b2, by omega, fun j hj => ?_⟩, below_gb (gb_new (gb_below g) (by omega) x3), (x3.block _ (Array.getElem?_eq_some_iff.1 r1).1 (by simp; omega)).trans r1, (x3.block _ (Array.getElem?_eq_some_iff.1 r2).1 (by simp; omega)).trans r2⟩
  · by_cases e : j < k
    · exact hk j e
    · obtain rfl : j = k := by omega
      exact Int.le_refl _
  · by_cases e : j < k
    · exact b4 j e
    · obtain rfl : j = k := by omega
      exact hk i' b3

theorem brel_high {w wr : World} {F : Nat → Int} {k qa qb : Nat} {s0 : Bool} {p0 : Option Addr} {l0 c0 : Nat} (h : BRel w F k qa qb wr) (hx : IsInt wr (.agg #[.bool s0, .slice p0 l0 c0]) (F k)) (hhi : ∃ i, i < k ∧ (∀ j, j < k → F j ≤ F i) ∧ F i < F k) :
    BRel w F (k + 1) qa qb ((wr.setCell ⟨qb, 0, none⟩ (.bool s0)).setCell ⟨qb, 1, none⟩ (.slice p0 l0 c0)) := by
  obtain ⟨h1, h2, h3, ⟨s, p, l, c, i, a1, a2, a3, a4⟩, ⟨s', p', l', c', i', b1, b2, b3, b4⟩, g, r1, r2⟩ := h
  obtain ⟨i1, m1, m2, m3⟩ := hhi
  obtain ⟨x1, x2, x3⟩ := box_set b1 (gb_refl wr none) hx
  have hk : ∀ j, j < k → F j ≤ F k := fun j hj => by have := m2 j hj; omega
  refine ⟨h1, h2, h3, ⟨s, p, l, c, i, (x3.block _ (Array.getElem?_eq_some_iff.1 a1).1 (by simp; omega)).trans a1, int_off b1 (gb_refl wr none) a2, by omega, fun j hj => ?_⟩, ⟨s0, p0, l0, c0, k, x2, x1, by omega, fun j hj => ?_⟩, below_gb (gb_new (gb_below g) (by omega) x3), (x3.block _ (Array.getElem?_eq_some_iff.1 r1).1 (by simp; omega)).trans r1, (x3.block _ (Array.getElem?_eq_some_iff.1 r2).1 (by simp; omega)).trans r2⟩
  · by_cases e : j < k
    · exact a4 j e
    · obtain rfl : j = k := by omega
      exact hk i a3
  · by_cases e : j < k
    · exact hk j e
    · obtain rfl : j = k := by omega
      exact Int.le_refl _

theorem cmpZ_neg {A B : Int} (h : A < B) : cmpZ A B = -1 := if_pos h
theorem cmpZ_ge {A B : Int} (h : ¬ A < B) : ∃ m : Int, cmpZ A B = m ∧ 0 ≤ m ∧ (0 < m ↔ B < A) := by
  unfold cmpZ
  rw [if_neg h]
  by_cases e : A = B
  · rw [if_pos e]; exact ⟨0, rfl, by omega, by omega⟩
  · rw [if_neg e]; exact ⟨1, rfl, by omega, by omega⟩
theorem cmpZ_le {A B : Int} (h : ¬ B < A) : ∃ m : Int, cmpZ A B = m ∧ m ≤ 0 := by
  unfold cmpZ
  by_cases e : A < B
  · rw [if_pos e]; exact ⟨-1, rfl, by omega⟩
  · rw [if_neg e, if_pos (by omega)]; exact ⟨0, rfl, by omega⟩
theorem cmpZ_pos {A B : Int} (h : B < A) : cmpZ A B = 1 := by
  unfold cmpZ; rw [if_neg (by omega), if_neg (by omega)]

/-- Two structs handed back through the cells that were made for them. -/
theorem two_fin {w w5 : World} {r1 r2 : Nat} {T : TypeId} {s s' : Bool} {p p' : Option Addr} {n c n' c' : Nat} {X Y : Int} (h1 : w5.heap[r1]? = some (.cells #[.bool false, .slice none 0 0] T (0, 0))) (h2 : w5.heap[r2]? = some (.cells #[.bool false, .slice none 0 0] T (0, 0)))
    (h0 : w.grownBy w5 none) (hr1 : w.heap.size ≤ r1) (hr2 : w.heap.size ≤ r2) (hne : r2 ≠ r1)
    (hx : IsInt w5 (.agg #[.bool s, .slice p n c]) X) (hy : IsInt w5 (.agg #[.bool s', .slice p' n' c']) Y) {R : World} (hR : R = ((((w5.setCell ⟨r1, 0, none⟩ (.bool s)).setCell ⟨r1, 1, none⟩ (.slice p n c)).setCell ⟨r2, 0, none⟩ (.bool s')).setCell ⟨r2, 1, none⟩ (.slice p' n' c'))) :
    (IsInt R (.agg #[.bool s, .slice p n c]) X ∧ IsInt R (.agg #[.bool s', .slice p' n' c']) Y ∧ w.grownBy R none) ∧
    (R.cell? ⟨r1, 0, none⟩ = some (.bool s) ∧ R.cell? ⟨r1, 1, none⟩ = some (.slice p n c) ∧ R.cell? ⟨r2, 0, none⟩ = some (.bool s') ∧ R.cell? ⟨r2, 1, none⟩ = some (.slice p' n' c')) := by
  have hg := gb_refl w5 none
  have b1 := box_set (s := s) (p := p) (n := n) (c := c) h1 hg hx
  have y1 := int_off (s := s) (p := p) (n := n) (c := c) h1 hg hy
  have hr2W := (Array.getElem?_eq_some_iff.1 h2).1
  have h2' := (b1.2.2.block r2 (Nat.lt_of_lt_of_le hr2W hg.size) (by simpa using hne)).trans ((hg.block r2 hr2W (by simp)).trans h2)
  have b2 := box_set (s := s') (p := p') (n := n') (c := c') h2' (gb_refl _ none) y1
  have x2 := int_off (s := s') (p := p') (n := n') (c := c') h2' (gb_refl _ none) b1.1
  have h1' := (b2.2.2.block r1 (Array.getElem?_eq_some_iff.1 b1.2.1).1 (by simpa using fun e => hne e.symm)).trans b1.2.1
  rw [← hR] at b2 x2 h1'
  have k1 := cells_of h1'
  have k2 := cells_of b2.2.1
  exact ⟨⟨x2, b2.1, by rw [hR]; exact below_gb (gb_new (gb_new (gb_below h0) hr1 b1.2.2) hr2 (by rw [← hR]; exact b2.2.2))⟩, k1.1, k1.2.1, k2.1, k2.2.1⟩

theorem World.size_alloc2 (w : World) (o1 o2 : Obj) : ((w.alloc o1).alloc o2).heap.size = w.heap.size + 2 := by simp

set_option maxHeartbeats 4000000 in
theorem Best_c (g n cap : Nat) (s : Nat → Bool) (p : Nat → Option Addr) (l c : Nat → Nat) (F : Nat → Int) (w : World) (hn : 0 < n) (hnc : n ≤ cap) (hcm : cap ≤ maxLen) (h : Zs w g n s p l c F) (hF : ∀ j, j < n → (F j).natAbs < Lim) :
    Calls Try.prog 37 #[.slice (some ⟨g, 0, none⟩) n cap] w (BestPost n F w) := by
  have hne : ((n : Int) == 0) = false := beq_eq_false_iff_ne.2 (by omega)
  obtain ⟨c0, c1, i0⟩ := h 0 hn
  rw [Nat.mul_zero] at c0 c1
  rw [Nat.zero_add] at c1
  have hgs : g < w.heap.size := World.block_lt_of_cell? w _ c0
  have HZ := Lib.hid h; have HF := Lib.hid hF; have HI0 := Lib.hid i0
  clear h hF i0
  unfold maxLen at hcm
  go_enter Try.func37, Try.ntmps37
  go_upto_region 3 with fail
  go_cut [5, 6] (fun t5 t6 wx => ∃ qa qb : Nat, t5 = .pointer (some ⟨qa, 0, none⟩) ∧ t6 = .pointer (some ⟨qb, 0, none⟩) ∧ Hid (BRel w F 1 qa qb wx))
  case first =>
    have hw2 := gb_alloc (gb_alloc (gb_refl w none) (.cells #[.bool false, .slice none 0 0] 25)) (.cells #[.bool false, .slice none 0 0] 25)
    have hr1 := top1 w (.cells #[.bool false, .slice none 0 0] 25)
    have hr1 := ((World.grownBy_alloc (w.alloc (.cells #[.bool false, .slice none 0 0] 25)) (.cells #[.bool false, .slice none 0 0] 25) none).block _ (Array.getElem?_eq_some_iff.1 hr1).1 (by simp)).trans hr1
    have hr2 := top2 w (.cells #[.bool false, .slice none 0 0] 25) (.cells #[.bool false, .slice none 0 0] 25)
    have c0 := hw2.cell c0 (by simp)
    have c1 := hw2.cell c1 (by simp)
    have hws := World.size_alloc2 w (.cells #[.bool false, .slice none 0 0] 25) (.cells #[.bool false, .slice none 0 0] 25)
    generalize ((w.alloc (.cells #[.bool false, .slice none 0 0] 25)).alloc (.cells #[.bool false, .slice none 0 0] 25)) = W at *
    have hgW : g < W.heap.size := by omega
    have hgW1 : g < W.heap.size + 1 := by omega
    have HW2 := Lib.hid hw2; have HR1 := Lib.hid hr1; have HR2 := Lib.hid hr2
    clear hw2 hr1 hr2
    have k1 : ∀ (O : Obj) (o : Nat), (W.alloc O).cell? ⟨g, o, none⟩ = W.cell? ⟨g, o, none⟩ := fun O o => (bcell (World.grownBy_alloc W O none)).1 g o hgW
    have k2 : ∀ (O O' : Obj) (o : Nat), ((W.alloc O).alloc O').cell? ⟨g, o, none⟩ = W.cell? ⟨g, o, none⟩ := fun O O' o => (bcell (gb_alloc (World.grownBy_alloc W O none) O')).1 g o hgW
    go_region
    · go_wp2_with fail
      go_meet
      exact ⟨_, _, rfl, rfl, brel_start (by omega) hws HW2.out HR1.out HR2.out HI0.out⟩
    · go_wp2_with fail
      go_meet
      exact ⟨_, _, rfl, rfl, brel_start (by omega) hws HW2.out HR1.out HR2.out HI0.out⟩
  case rest =>
    obtain ⟨qa, qb, rfl, rfl, HB⟩ := hcut
    clear HI0 c0 c1
    go_upto_region 4 with fail
    go_cut [0, 20, 21, 22, 23] (fun t0 t20 t21 t22 t23 wx => ∃ o cc : Nat, t21 = .slice (some ⟨g, o, none⟩) (n - 1) cc ∧ (1 < n → o = 2) ∧ n - 1 ≤ cc ∧ cc ≤ cap ∧ t22 = .int .i64 ((n - 1 : Nat) : Int) ∧ t23 = .int .i64 0 ∧ wx = wc)
    case first =>
      go_wp2
      · go_meet
        exact ⟨_, _, rfl, fun h => by omega, by omega, by omega, rfl, rfl, rfl⟩
      · go_meet
        exact ⟨_, _, rfl, fun h => rfl, by omega, by omega, rfl, rfl, rfl⟩
    case rest =>
      obtain ⟨o, cc, rfl, ho, hcc, hcc2, rfl, rfl, hwc⟩ := hcut
      subst hwc
      go_wp2_with fail
      go_loopw [23] (fun i wr => ∃ k : Nat, k ≤ n - 1 ∧ i = .int .i64 k ∧ Hid (BRel w F (k + 1) qa qb wr)) (fun i _ => n - 1 - (intOf i).toNat)
      case atStart => exact ⟨0, by omega, rfl, HB⟩
      case round =>
        clear HB
        obtain ⟨k, hk, rfl, HR⟩ := hrel
        obtain ⟨h1, h2, h3, ⟨s1, p1, l1, c1, i1, A1, A2, A3, A4⟩, ⟨s2, p2, l2, c2, i2, B1, B2, B3, B4⟩, G, R1, R2⟩ := HR.out
        by_cases hlt : k < n - 1
        · obtain rfl : o = 2 := ho (by omega)
          obtain ⟨e0, e1, e2⟩ := (HZ.out.kept G) (k + 1) (by omega)
          have hgr : g < wr.heap.size := World.block_lt_of_cell? wr _ e0
          rw [show 2 * (k + 1) = 2 + k * 2 by omega] at e0 e1
          generalize s (k + 1) = s0 at e0 e1 e2
          generalize p (k + 1) = p0 at e0 e1 e2
          generalize l (k + 1) = l0 at e0 e1 e2
          generalize c (k + 1) = c0 at e0 e1 e2
          have T8 := top1 wr (.cells #[.bool s0, .slice p0 l0 c0] 25)
          have hg0 := World.grownBy_alloc wr (.cells #[.bool s0, .slice p0 l0 c0] 25) none
          have HC1 := Lib.hid (Cmp_c _ _ (F (k + 1)) (F i1) _ (e2.kept hg0) (A2.kept hg0) (HF.out _ (by omega)) (HF.out _ (by omega)))
          obtain ⟨a0, a1, a2⟩ := cells_of ((hg0.block _ (Array.getElem?_eq_some_iff.1 A1).1 (by simp)).trans A1)
          have HT8 := Lib.hid T8; have HG0 := Lib.hid hg0; have HE2 := Lib.hid e2; have HA4 := Lib.hid A4; have HB4 := Lib.hid B4
          have hlo : F i1 ≤ F 0 := A4 0 (by omega)
          have hhi : F 0 ≤ F i2 := B4 0 (by omega)
          clear T8 hg0 e2 A2 A4 B2 B4 G R1 R2
          go_wp2_with fail
          refine HC1.out.mono ?_
          rintro e w2 ⟨rfl, hg1⟩
          have hg2 := gb_trans HG0.out hg1
          obtain ⟨-, -, -, ⟨s3, p3, l3, c3, i3, a1, a2, a3, a4⟩, ⟨s4, p4, l4, c4, i4, b1, b2, b3, b4⟩, g5, r1, r2⟩ := brel_kept HR.out hg2
          have t8 := (hg1.block _ (Array.getElem?_eq_some_iff.1 HT8.out).1 (by simp)).trans HT8.out
          have e5 := HE2.out.kept hg2
          have HB2 := Lib.hid (brel_kept HR.out hg2)
          have hq8 : qa ≠ wr.heap.size := by
            have := (Array.getElem?_eq_some_iff.1 A1).1
            omega
          have hq9 : qb ≠ wr.heap.size := by
            have := (Array.getElem?_eq_some_iff.1 B1).1
            omega
          obtain ⟨x0, x1, x2⟩ := cells_of t8
          obtain ⟨y0, y1, y2⟩ := cells_of a1
          obtain ⟨z0, z1, z2⟩ := cells_of b1
          have hlo4 : F 0 ≤ F i4 := b4 0 (by omega)
          have HA1 := Lib.hid a1; have HB1 := Lib.hid b1; have HA2 := Lib.hid a2; have HBB2 := Lib.hid b2; have HE5 := Lib.hid e5; have HB5 := Lib.hid b4; have HT := Lib.hid t8
          clear hg1 hg2 g5 r1 r2 a1 a2 a4 b1 b2 b4 t8 e5 A1 B1 HC1 HT8 HG0 HE2
          by_cases hA : F (k + 1) < F i1
          · rw [cmpZ_neg hA]
            go_wp2_with fail
            refine (Cmp_c _ _ (F (k + 1)) (F i4) _ (int_off HA1.out (gb_refl w2 none) HE5.out) (int_off HA1.out (gb_refl w2 none) HBB2.out) (HF.out _ (by omega)) (HF.out _ (by omega))).mono ?_
            rintro e w5 ⟨rfl, hg3⟩
            obtain ⟨m, hm, hm0⟩ := cmpZ_le (A := F (k + 1)) (B := F i4) (by omega)
            rw [hm]
            have d2 : decide (0 < m) = false := decide_eq_false (by omega)
            have HB6 := Lib.hid (brel_kept (brel_low HB2.out HE5.out ⟨i1, by omega, HA4.out, hA⟩) hg3)
            clear hg3
            go_wp2_with fail
            go_roundw
            case rel => exact ⟨k + 1, by omega, by go_num, HB6⟩
            case measure => simp [intOf]; omega
          · obtain ⟨m, hm, hm0, -⟩ := cmpZ_ge hA
            rw [hm]
            have d1 : decide (m < 0) = false := decide_eq_false (by omega)
            go_wp2_with fail
            refine (Cmp_c _ _ (F (k + 1)) (F i4) _ HE5.out HBB2.out (HF.out _ (by omega)) (HF.out _ (by omega))).mono ?_
            rintro e w5 ⟨rfl, hg3⟩
            have HB6 := Lib.hid (brel_kept HB2.out hg3)
            have HE6 := Lib.hid (HE5.out.kept hg3)
            obtain ⟨x0, x1, x2⟩ := cells_of ((hg3.block _ (Array.getElem?_eq_some_iff.1 HT.out).1 (by simp)).trans HT.out)
            obtain ⟨z0, z1, z2⟩ := cells_of ((hg3.block _ (Array.getElem?_eq_some_iff.1 HB1.out).1 (by simp)).trans HB1.out)
            clear hg3
            by_cases hB : F i4 < F (k + 1)
            · rw [cmpZ_pos hB]
              go_wp2_with fail
              go_roundw
              case rel => exact ⟨k + 1, by omega, by go_num, brel_high HB6.out HE6.out ⟨i4, by omega, HB5.out, hB⟩⟩
              case measure => simp [intOf]; omega
            · obtain ⟨m2, hm2, hm3⟩ := cmpZ_le hB
              rw [hm2]
              have d2 : decide (0 < m2) = false := decide_eq_false (by omega)
              go_wp2_with fail
              go_roundw
              case rel => exact ⟨k + 1, by omega, by go_num, brel_mid HB6.out ⟨i1, by omega, by omega⟩ ⟨i4, by omega, by omega⟩⟩
              case measure => simp [intOf]; omega
        · obtain rfl : n = k + 1 := by omega
          obtain ⟨a0, a1, a2⟩ := cells_of A1
          obtain ⟨b0, b1, b2⟩ := cells_of B1
          obtain ⟨x0, x1, x2⟩ := cells_of R1
          obtain ⟨y0, y1, y2⟩ := cells_of R2
          have n1 : qa ≠ w.heap.size := by omega
          have n2 : qa ≠ w.heap.size + 1 := by omega
          have n3 : qb ≠ w.heap.size := by omega
          have n4 : qb ≠ w.heap.size + 1 := by omega
          have hfin := two_fin R1 R2 G (Nat.le_refl _) (by omega) (by omega) A2 B2 rfl
          have HFIN := Lib.hid hfin
          have HA4 := Lib.hid A4; have HB4 := Lib.hid B4
          clear hfin A4 B4 G HR HZ HF A1 A2 B1 B2 R1 R2
          go_wp2_with fail
          go_region
          go_wp2_with fail
          obtain ⟨⟨f1, f2, f3⟩, k0, k1, k2, k3⟩ := HFIN.out
          have hd := gb_drew (gb_refl ((((wr.setCell ⟨w.heap.size, 0, none⟩ (.bool s1)).setCell ⟨w.heap.size, 1, none⟩ (.slice p1 l1 c1)).setCell ⟨w.heap.size + 1, 0, none⟩ (.bool s2)).setCell ⟨w.heap.size + 1, 1, none⟩ (.slice p2 l2 c2)) none)
          exact bodyPost_ret (v := .tuple #[.agg #[.bool s1, .slice p1 l1 c1], .agg #[.bool s2, .slice p2 l2 c2], .int .i64 0]) (by simp [results, Try.results37, go_sem, k0, k1, k2, k3]) rfl ⟨_, _, F i1, F i2, rfl, f1.kept hd, f2.kept hd, gb_trans f3 hd, ⟨i1, A3, rfl⟩, ⟨i2, B3, rfl⟩, fun j hj => ⟨HA4.out j hj, HB4.out j hj⟩⟩

/-- The best of none. -/
theorem Best0_c (w : World) : Calls Try.prog 37 #[.slice none 0 0] w (fun e w' => e = .returned (.tuple #[.agg #[.bool false, .slice none 0 0], .agg #[.bool false, .slice none 0 0], .int .i64 14]) ∧ w.grownBy w' none) := by
  go_enter Try.func37, Try.ntmps37
  go_wp2
  exact bodyPost_ret (v := .tuple #[.agg #[.bool false, .slice none 0 0], .agg #[.bool false, .slice none 0 0], .int .i64 14]) (by simp [results, Try.results37, go_sem]) rfl ⟨rfl, by repeat (first | exact gb_refl _ _ | refine gb_drew ?_ | refine gb_alloc ?_ _)⟩
end Go.Proofs.Ytkonfkcaefjabaa
