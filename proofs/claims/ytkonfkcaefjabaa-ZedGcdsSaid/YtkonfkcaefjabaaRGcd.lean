/- The document's greatest common divisor of two. -/
import Derived.Test.YtkonfkcaefjabaaRDiv
namespace Go.Proofs.Ytkonfkcaefjabaa
open Go.RowKit Mx

/-- A box with a number of the document, whose digits lie outside two blocks. -/
def GBox (B0 : Nat) (pa pb : Option Addr) (w : World) (q q0 q1 : Nat) (Z : Int) : Prop :=
  ∃ (s : Int) (p : Option Addr) (n c : Nat), w.heap[q]? = some (.cells #[.int .i64 s, .slice p n c] 31 (0, 0)) ∧ IsZ w (.agg #[.int .i64 s, .slice p n c]) Z ∧ (0 < n → ∃ a, p = some a ∧ a.block ≠ q0 ∧ a.block ≠ q1 ∧ (B0 ≤ a.block ∨ pa = some a ∨ pb = some a))

theorem GBox.kept {B0 : Nat} {pa pb : Option Addr} {w w' : World} {q q0 q1 : Nat} {Z : Int} (h : GBox B0 pa pb w q q0 q1 Z) (hg : w.grownBy w' none) : GBox B0 pa pb w' q q0 q1 Z := by
  obtain ⟨s, p, n, c, h1, h2, h3⟩ := h
  exact ⟨s, p, n, c, bx hg h1, h2.kept hg, h3⟩

/-- What Gcd's boxes hold behind some rounds. -/
def GSt (pa pb : Option Addr) (w : World) (X Y : Int) (wx : World) : Prop :=
  GBox w.heap.size pa pb wx w.heap.size w.heap.size (w.heap.size + 1) X ∧ GBox w.heap.size pa pb wx (w.heap.size + 1) w.heap.size (w.heap.size + 1) Y ∧
  wx.heap[w.heap.size + 1 + 1]? = some (.cells #[.int .i64 0, .slice none 0 0] 31 (0, 0)) ∧ w.grownBy wx none

theorem GSt.kept {pa pb : Option Addr} {w : World} {X Y : Int} {wx wy : World} (h : GSt pa pb w X Y wx) (hg : wx.grownBy wy none) : GSt pa pb w X Y wy :=
  ⟨h.1.kept hg, h.2.1.kept hg, bx hg h.2.2.1, gb_trans h.2.2.2 hg⟩

/-- b's number goes into a's box. -/
theorem GSt.step1 {pa pb : Option Addr} {w : World} {X Y : Int} {wx wy : World} {s : Int} {p : Option Addr} {n c : Nat} (h : GSt pa pb w X Y wx) (hb : wx.heap[w.heap.size + 1]? = some (.cells #[.int .i64 s, .slice p n c] 31 (0, 0)))
    (hy : wy = (wx.setCell ⟨w.heap.size, 0, none⟩ (.int .i64 s)).setCell ⟨w.heap.size, 1, none⟩ (.slice p n c)) : GSt pa pb w Y Y wy := by
  obtain ⟨⟨s1, p1, n1, c1, a1, a2, a3⟩, ⟨s2, p2, n2, c2, b1, b2, b3⟩, h3, h4⟩ := h
  rw [hb] at b1
  injection b1 with b1
  injection b1 with b1
  simp at b1
  obtain ⟨rfl, rfl, rfl, rfl⟩ := b1
  obtain ⟨k1, k2, k3⟩ := put2 a1 hy
  have hk := z_row b2 k3 (fun hn => by obtain ⟨a, e1, e2, e3⟩ := b3 hn; exact ⟨a, e1, e2⟩)
  exact ⟨⟨_, _, _, _, k1, hk, b3⟩, ⟨_, _, _, _, (k2 _ (by omega)).trans hb, hk, b3⟩, (k2 _ (by omega)).trans h3, below_gb (gb_new (gb_below h4) (Nat.le_refl _) k3)⟩

/-- A number goes into b's box. -/
theorem GSt.step2 {pa pb : Option Addr} {w : World} {X Y R : Int} {wx wy : World} {s : Int} {p : Option Addr} {n c : Nat} (h : GSt pa pb w X Y wx) (hv : IsZ wx (.agg #[.int .i64 s, .slice p n c]) R) (hf : 0 < n → ∃ a, p = some a ∧ a.block ≠ w.heap.size ∧ a.block ≠ w.heap.size + 1 ∧ (w.heap.size ≤ a.block ∨ pa = some a ∨ pb = some a))
    (hy : wy = (wx.setCell ⟨w.heap.size + 1, 0, none⟩ (.int .i64 s)).setCell ⟨w.heap.size + 1, 1, none⟩ (.slice p n c)) : GSt pa pb w X R wy := by
  obtain ⟨⟨s1, p1, n1, c1, a1, a2, a3⟩, ⟨s2, p2, n2, c2, b1, b2, b3⟩, h3, h4⟩ := h
  obtain ⟨k1, k2, k3⟩ := put2 b1 hy
  exact ⟨⟨s1, p1, n1, c1, (k2 _ (by omega)).trans a1, z_row a2 k3 (fun hn => by obtain ⟨a, e1, e2, e3⟩ := a3 hn; exact ⟨a, e1, e3.1⟩), a3⟩, ⟨s, p, n, c, k1, z_row hv k3 (fun hn => by obtain ⟨a, e1, e2, e3⟩ := hf hn; exact ⟨a, e1, e3.1⟩), hf⟩, (k2 _ (by omega)).trans h3, below_gb (gb_new (gb_below h4) (by omega) k3)⟩

def RGPost (pa pb : Option Addr) (Z : Int) (w : World) (e : Ending) (w' : World) : Prop :=
  ∃ s p n c, e = .returned (.agg #[.int .i64 s, .slice p n c]) ∧ IsZ w' (.agg #[.int .i64 s, .slice p n c]) Z ∧ w.grownBy w' none ∧ (0 < n → ∃ a, p = some a ∧ (w.heap.size ≤ a.block ∨ pa = some a ∨ pb = some a))

theorem rgcd_step (X Y : Int) : Int.gcd Y (X % Y) = Int.gcd X Y := by
  have h := Int.gcd_add_mul_left_right Y (X % Y) (X / Y)
  rw [Int.emod_add_mul_ediv] at h
  rw [← h, Int.gcd_comm]

set_option maxRecDepth 100000 in
set_option maxHeartbeats 8000000 in
theorem RGcd_c (sa sb : Int) (pa pb qa qb : Option Addr) (n m ca cb : Nat) (A B : Int) (w : World) (hx : IsZ w (.agg #[.int .i64 sa, .slice pa n ca]) A) (hy : IsZ w (.agg #[.int .i64 sb, .slice pb m cb]) B) (hA : A.natAbs < 10 ^ 120) (hB : B.natAbs < 10 ^ 120) (hqa : 0 < n → qa = pa) (hqb : 0 < m → qb = pb) : Calls Try.prog 33 #[.agg #[.int .i64 sa, .slice pa n ca], .agg #[.int .i64 sb, .slice pb m cb]] w (RGPost qa qb ((Int.gcd A B : Nat) : Int) w) := by
  have HX := hx
  have HY := hy
  obtain ⟨W, hW, b0, b1, gW, hsz⟩ := boxes2 w (.cells #[.int .i64 sa, .slice pa n ca] 31) (.cells #[.int .i64 sb, .slice pb m cb] 31)
  have hg3 := World.grownBy_alloc W (.cells #[.int .i64 0, .slice none 0 0] 31) none
  have hzb := top1 W (.cells #[.int .i64 0, .slice none 0 0] 31)
  rw [hsz] at hzb
  have hst : GSt qa qb w A B (W.alloc (.cells #[.int .i64 0, .slice none 0 0] 31)) :=
    ⟨⟨_, _, _, _, bx hg3 b0, hx.kept (gb_trans gW hg3), fun h => by obtain ⟨a, h1, h2⟩ := z_some hx h; exact ⟨a, h1, by omega, by omega, .inr (.inl ((hqa h).trans h1))⟩⟩, ⟨_, _, _, _, bx hg3 b1, hy.kept (gb_trans gW hg3), fun h => by obtain ⟨a, h1, h2⟩ := z_some hy h; exact ⟨a, h1, by omega, by omega, .inr (.inr ((hqb h).trans h1))⟩⟩, hzb, gb_trans gW hg3⟩
  have HST := Lib.hid hst
  have HAL := Lib.hid (fun _ : Unit => hA); have HBL := Lib.hid (fun _ : Unit => hB)
  have HSZ := Lib.hid hsz
  clear hqa hqb hx hy HX HY b0 b1 gW hsz hg3 hzb hst hA hB
  go_enter Try.func33, Try.ntmps33
  go_wp2_with fail
  rw [← hW]
  generalize W.alloc (.cells #[.int .i64 0, .slice none 0 0] 31) = W3 at *
  go_loopg [5] (B.natAbs) (fun g v wr => ∃ X Y : Int, g = Y.natAbs ∧ Hid (∀ _ : Unit, X.natAbs < 10 ^ 120) ∧ Hid (∀ _ : Unit, Y.natAbs < 10 ^ 120) ∧ Hid (Int.gcd X Y = Int.gcd A B) ∧ Hid (GSt qa qb w X Y wr))
  case atStart => exact ⟨A, B, rfl, HAL, HBL, rfl, HST⟩
  case round =>
    clear HST
    obtain ⟨X, Y, hgg, HXL, HYL, HGC, HS⟩ := hrel
    obtain ⟨⟨s1, p1, n1, c1, a1, a2, a3⟩, ⟨s2, p2, n2, c2, b1, b2, b3⟩, h3, h4⟩ := HS.out
    obtain ⟨x0, x1, x2⟩ := zcells_of a1
    obtain ⟨y0, y1, y2⟩ := zcells_of b1
    have hs2 := (z_open b2).1
    by_cases hY : Y = 0
    · subst hY
      have hs20 : s2 = 0 := hs2
      subst hs20
      obtain ⟨-, q1, q2, f, q3, q4, q5, q6⟩ := z_open a2
      have HM := Lib.hid (made_c 1 p1 n1 c1 f wr (by omega) (fun h => by omega) q1 q2 q3 q4)
      have hgx : (1 : Int) * ((V 10 f 0 n1 : Nat) : Int) = ((Int.gcd A B : Nat) : Int) := by
        rw [← HGC.out, Int.gcd_zero_right, q6, Int.one_mul]
      rw [hgx] at HM
      have hn1 : n1 = 0 → ((Int.gcd A B : Nat) : Int) = 0 := fun h => by
        rw [← hgx, h]; simp [V]
      have HN0 := Lib.hid hn1
      have HZB := Lib.hid h3; have HGW := Lib.hid h4; have HA3 := Lib.hid a3
      clear hgx hn1 a1 a2 a3 b1 b2 b3 h3 h4 q1 q2 q3 q4 q5 q6 hs2 HS
      go_wp2_with (go_at_call 42; refine HM.out.mono ?_; rintro e w5 ⟨s5, p5, n5, c5, rfl, hx, hg, hp⟩; have HX := Lib.hid hx; have HP5 := Lib.hid hp; have HG5 := Lib.hid hg; obtain ⟨z0, z1, z2⟩ := zcells_of (bx hg HZB.out); clear hx hg hp)
      obtain ⟨k0, k1, k2, k3⟩ := z_ret HZB.out HG5.out HX.out HGW.out (show w.heap.size ≤ w.heap.size + 1 + 1 by omega) rfl
      exact bodyPost_ret (v := .agg #[.int .i64 s5, .slice p5 n5 c5]) (by simp [results, Try.results33, go_sem, k2, k3]) rfl ⟨_, _, _, _, rfl, k0, k1, fun h => by
        obtain ⟨a, e1, -⟩ := z_some k0 h
        by_cases hn1 : n1 = 0
        · exfalso
          obtain ⟨-, -, -, fz, -, -, g5, g6⟩ := z_open k0
          have := (v10_pos g5).1 h
          rw [g6, HN0.out hn1] at this
          exact this rfl
        · obtain ⟨b, f1, -, -, f2⟩ := HA3.out (by omega)
          rw [← HP5.out h, e1] at f1; injection f1 with f1; subst f1
          exact ⟨a, e1, f2⟩⟩
    · have hs20 : (s2 != 0) = true := by
        rw [hs2]
        simp
        exact fun h => hY (sg_zero h)
      have HDM := Lib.hid (RDivMod_c _ s2 p2 n2 c2 X Y _ a2 b2 (HXL.out ()) (HYL.out ()) hY)
      have HY2 := Lib.hid b2
      have HB1 := Lib.hid b1; have HB3 := Lib.hid b3; have HY0 := Lib.hid (fun _ : Unit => hY)
      have hszr : w.heap.size + 1 < _ := (Array.getElem?_eq_some_iff.1 b1).1
      clear a1 a2 a3 b1 b2 b3 h3 h4 hs2 hY
      go_wp2_with fail
      refine HDM.out.mono ?_
      rintro e w5 ⟨s5, p5, n5, c5, s6, p6, n6, c6, rfl, h5, h6, g5, hf⟩
      have hs5 := HS.out.kept g5
      obtain ⟨W6, hW6, r0, r1, g6, hsz6⟩ := boxes2 w5 (.cells #[.int .i64 s5, .slice p5 n5 c5] 31) (.cells #[.int .i64 s6, .slice p6 n6 c6] 31)
      have hs6 := hs5.kept g6
      have hb6 := bx g6 (bx g5 HB1.out)
      have hr6 := h6.kept g6
      have hl5 : w.heap.size + 1 < w5.heap.size := Nat.lt_of_lt_of_le hszr g5.size
      have hfar : 0 < n6 → ∃ a, p6 = some a ∧ a.block ≠ w.heap.size ∧ a.block ≠ w.heap.size + 1 ∧ (w.heap.size ≤ a.block ∨ qa = some a ∨ qb = some a) := fun h => by
        obtain ⟨a, k1, k2⟩ := hf h
        refine ⟨a, k1, ?_⟩
        rcases k2 with k2 | k2
        · exact ⟨by omega, by omega, .inl (by omega)⟩
        · by_cases hn : n2 = 0
          · exfalso
            have hz := z_ne HY2.out (HY0.out ())
            omega
          · obtain ⟨b, e1, e2, e3⟩ := HB3.out (by omega)
            rw [k2] at e1; injection e1 with e1; subst e1
            exact ⟨e2, e3⟩
      obtain ⟨W7, hW7⟩ : ∃ W7, W7 = (W6.setCell ⟨w.heap.size, 0, none⟩ (.int .i64 s2)).setCell ⟨w.heap.size, 1, none⟩ (.slice p2 n2 c2) := ⟨_, rfl⟩
      have hs7 := GSt.step1 hs6 hb6 hW7
      obtain ⟨s1', p1', n1', c1', a1, -, -⟩ := hs6.1
      obtain ⟨k1, k2, k3⟩ := put2 a1 hW7
      have hr7 := z_row hr6 k3 (fun h => by obtain ⟨a, e1, e2, e3⟩ := hfar h; exact ⟨a, e1, e2⟩)
      have hs8 := fun wy => GSt.step2 (wy := wy) hs7 hr7 hfar
      obtain ⟨x0, x1, x2⟩ := zcells_of a1
      obtain ⟨y0, y1, y2⟩ := zcells_of hb6
      obtain ⟨t0, t1, -⟩ := zcells_of ((k2 _ (by omega)).trans r1)
      obtain ⟨u0, u1, u2⟩ := zcells_of ((k2 _ (by omega)).trans hb6)
      have hlt : (X % Y).natAbs < Y.natAbs := by
        have h1 := Int.emod_nonneg X (HY0.out ())
        have h2 := Int.emod_lt X (HY0.out ())
        omega
      have HLT := Lib.hid hlt
      have HS8 := Lib.hid hs8
      have HRL := Lib.hid (fun _ : Unit => Nat.lt_trans hlt (HYL.out ()))
      have HG2 := Lib.hid ((rgcd_step X Y).trans HGC.out)
      clear hs5 hs6 hs7 hs8 hb6 hr6 hr7 a1 k1 k2 k3 r0 r1 h5 h6 g5 g6 hf hfar hlt HS HDM
      subst hW7
      go_upto_region 3 with fail
      rw [← hW6]
      clear hW6
      go_wp2_with fail
      go_roundg ((X % Y).natAbs)
      case measure => have := HLT.out; omega
      case rel => exact ⟨Y, X % Y, rfl, HYL, HRL, HG2, HS8.out _ rfl⟩
end Go.Proofs.Ytkonfkcaefjabaa
