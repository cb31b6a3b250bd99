/- Two texts read as numbers, and as the document's. -/
import Derived.Test.YtkonfkcaefjabaaPtxt
import Derived.Test.YtkonfkcaefjabaaAnchor
import Derived.Test.YtkonfkcaefjabaaDm
import Derived.BigRegion
namespace Go.Proofs.Ytkonfkcaefjabaa
open Go.RowKit Mx

def PairPost (la lb : List UInt8) (w : World) (e : Ending) (w' : World) : Prop :=
  ∃ x y u v, e = .returned (.tuple #[x, y, u, v, .bool (decide (parseE la = 0 ∧ parseE lb = 0))]) ∧ IsInt w' x (parseV la) ∧ IsInt w' y (parseV lb) ∧ IsZ w' u (parseV la) ∧ IsZ w' v (parseV lb) ∧ w.grownBy w' none

theorem far_int {w R : World} {B : Nat} {s : Bool} {p : Option Addr} {n c : Nat} {Z : Int} (h : IsInt w (.agg #[.bool s, .slice p n c]) Z) (hp : 0 < n → ∃ a, p = some a ∧ B ≤ a.block) (hR : ∀ k, B ≤ k → R.heap[k]? = w.heap[k]?) (hs : w.heap.size ≤ R.heap.size) : IsInt R (.agg #[.bool s, .slice p n c]) Z := by
  obtain ⟨s', v, N, he, ⟨p', n', c', f, rfl, h1, h2, h3, h4⟩, h5⟩ := h
  simp at he
  obtain ⟨rfl, rfl, rfl, rfl⟩ := he
  refine ⟨s, _, N, rfl, ⟨p, n, c, f, rfl, h1, h2, ?_, h4⟩, h5⟩
  rcases h3 with h | ⟨g, off, rfl, hg, hc⟩
  · exact .inl h
  · by_cases hn : n = 0
    · exact .inl hn
    · obtain ⟨a, ha, hb⟩ := hp (by omega)
      injection ha with ha; subst ha
      exact .inr ⟨g, off, rfl, by omega, fun j hj => by
        have e : R.cell? ⟨g, off + j, none⟩ = w.cell? ⟨g, off + j, none⟩ := World.cell?_of_block (w := w) (hR g hb)
        rw [e]; exact hc j hj⟩

theorem far_z {w R : World} {B : Nat} {s : Int} {p : Option Addr} {n c : Nat} {Z : Int} (h : IsZ w (.agg #[.int .i64 s, .slice p n c]) Z) (hp : 0 < n → ∃ a, p = some a ∧ B ≤ a.block) (hR : ∀ k, B ≤ k → R.heap[k]? = w.heap[k]?) (hs : w.heap.size ≤ R.heap.size) : IsZ R (.agg #[.int .i64 s, .slice p n c]) Z := by
  obtain ⟨rfl, h1, h2, f, hat, hf, ht, hv⟩ := z_open h
  refine ⟨p, n, c, f, rfl, h1, h2, ?_, hf, ht, hv⟩
  rcases hat with h | ⟨g, off, rfl, hg, hc⟩
  · exact .inl h
  · by_cases hn : n = 0
    · exact .inl hn
    · obtain ⟨a, ha, hb⟩ := hp (by omega)
      injection ha with ha; subst ha
      exact .inr ⟨g, off, rfl, by omega, fun j hj => by
        have e : R.cell? ⟨g, off + j, none⟩ = w.cell? ⟨g, off + j, none⟩ := World.cell?_of_block (w := w) (hR g hb)
        rw [e]; exact hc j hj⟩

/-- A box of two cells written. -/
theorem put2 {W : World} {r : Nat} {a0 a1 u v : Value} {T : TypeId} (hb : W.heap[r]? = some (.cells #[a0, a1] T (0, 0))) {R : World} (hR : R = (W.setCell ⟨r, 0, none⟩ u).setCell ⟨r, 1, none⟩ v) :
    R.heap[r]? = some (.cells #[u, v] T (0, 0)) ∧ (∀ k, k ≠ r → R.heap[k]? = W.heap[k]?) ∧ W.grownBy R (some r) := by
  have h1 : (W.setCell ⟨r, 0, none⟩ u).heap[r]? = some (.cells #[u, a1] T (0, 0)) := by
    simp only [World.setCell, Array.getElem?_modify, hb, if_true, Option.map_some]; rfl
  have h2 : ((W.setCell ⟨r, 0, none⟩ u).setCell ⟨r, 1, none⟩ v).heap[r]? = some (.cells #[u, v] T (0, 0)) := by
    rw [World.setCell]
    simp only [Array.getElem?_modify, h1, if_true, Option.map_some]; rfl
  subst hR
  refine ⟨h2, fun k hk => ?_, gb_set (gb_set (gb_refl _ _) _) _⟩
  rw [Below.heap_setCell _ _ _ _ (by simpa using hk), Below.heap_setCell _ _ _ _ (by simpa using hk)]

theorem cells2 {w : World} {r : Nat} {u v : Value} {T : TypeId} (h : w.heap[r]? = some (.cells #[u, v] T (0, 0))) : w.cell? ⟨r, 0, none⟩ = some u ∧ w.cell? ⟨r, 1, none⟩ = some v :=
  ⟨by rw [cell_of_row w r 0 _ T (0, 0) h]; rfl, by rw [cell_of_row w r 1 _ T (0, 0) h]; rfl⟩

/-- Four boxes of two cells written. -/
theorem four_put {w W : World} {r : Nat} {A0 A1 B0 B1 C0 C1 D0 D1 a0 a1 b0 b1 c0 c1 d0 d1 : Value} {TA TB TC TD : TypeId}
    (ha : W.heap[r]? = some (.cells #[A0, A1] TA (0, 0))) (hb : W.heap[r + 1]? = some (.cells #[B0, B1] TB (0, 0))) (hc : W.heap[r + 1 + 1]? = some (.cells #[C0, C1] TC (0, 0))) (hd : W.heap[r + 1 + 1 + 1]? = some (.cells #[D0, D1] TD (0, 0)))
    (hg : w.grownBy W none) (hr : w.heap.size ≤ r) {R : World}
    (hR : R = (((((((W.setCell ⟨r, 0, none⟩ a0).setCell ⟨r, 1, none⟩ a1).setCell ⟨r + 1, 0, none⟩ b0).setCell ⟨r + 1, 1, none⟩ b1).setCell ⟨r + 1 + 1, 0, none⟩ c0).setCell ⟨r + 1 + 1, 1, none⟩ c1).setCell ⟨r + 1 + 1 + 1, 0, none⟩ d0).setCell ⟨r + 1 + 1 + 1, 1, none⟩ d1) :
    (R.cell? ⟨r, 0, none⟩ = some a0 ∧ R.cell? ⟨r, 1, none⟩ = some a1) ∧ (R.cell? ⟨r + 1, 0, none⟩ = some b0 ∧ R.cell? ⟨r + 1, 1, none⟩ = some b1) ∧ (R.cell? ⟨r + 1 + 1, 0, none⟩ = some c0 ∧ R.cell? ⟨r + 1 + 1, 1, none⟩ = some c1) ∧ (R.cell? ⟨r + 1 + 1 + 1, 0, none⟩ = some d0 ∧ R.cell? ⟨r + 1 + 1 + 1, 1, none⟩ = some d1) ∧
    (∀ k, r + 4 ≤ k → R.heap[k]? = W.heap[k]?) ∧ W.heap.size ≤ R.heap.size ∧ w.grownBy R none := by
  obtain ⟨W1, h1⟩ : ∃ W1, W1 = (W.setCell ⟨r, 0, none⟩ a0).setCell ⟨r, 1, none⟩ a1 := ⟨_, rfl⟩
  rw [← h1] at hR
  obtain ⟨p1, p2, p3⟩ := put2 ha h1
  obtain ⟨W2, h2⟩ : ∃ W2, W2 = (W1.setCell ⟨r + 1, 0, none⟩ b0).setCell ⟨r + 1, 1, none⟩ b1 := ⟨_, rfl⟩
  rw [← h2] at hR
  obtain ⟨q1, q2, q3⟩ := put2 ((p2 _ (by omega)).trans hb) h2
  obtain ⟨W3, h3⟩ : ∃ W3, W3 = (W2.setCell ⟨r + 1 + 1, 0, none⟩ c0).setCell ⟨r + 1 + 1, 1, none⟩ c1 := ⟨_, rfl⟩
  rw [← h3] at hR
  obtain ⟨s1, s2, s3⟩ := put2 ((q2 _ (by omega)).trans ((p2 _ (by omega)).trans hc)) h3
  obtain ⟨t1, t2, t3⟩ := put2 ((s2 _ (by omega)).trans ((q2 _ (by omega)).trans ((p2 _ (by omega)).trans hd))) hR
  refine ⟨cells2 ((t2 _ (by omega)).trans ((s2 _ (by omega)).trans ((q2 _ (by omega)).trans p1))), cells2 ((t2 _ (by omega)).trans ((s2 _ (by omega)).trans q1)), cells2 ((t2 _ (by omega)).trans s1), cells2 t1, fun k hk => ?_, ?_, ?_⟩
  · rw [t2 k (by omega), s2 k (by omega), q2 k (by omega), p2 k (by omega)]
  · exact Nat.le_trans p3.size (Nat.le_trans q3.size (Nat.le_trans s3.size t3.size))
  · exact below_gb (gb_new (gb_new (gb_new (gb_new (gb_below hg) hr p3) (by omega) q3) (by omega) s3) (by omega) t3)

theorem pair_fin {la lb : List UInt8} {ok : Bool} {w W : World} {r : Nat} {s1 s2 : Bool} {s3 s4 : Int} {p1 p2 p3 p4 : Option Addr} {n1 n2 n3 n4 c1 c2 c3 c4 : Nat}
    (hk : ok = decide (parseE la = 0 ∧ parseE lb = 0))
    (HX : IsInt W (.agg #[.bool s1, .slice p1 n1 c1]) (parseV la)) (HY : IsInt W (.agg #[.bool s2, .slice p2 n2 c2]) (parseV lb)) (HU : IsZ W (.agg #[.int .i64 s3, .slice p3 n3 c3]) (parseV la)) (HV : IsZ W (.agg #[.int .i64 s4, .slice p4 n4 c4]) (parseV lb))
    (F1 : 0 < n1 → ∃ a, p1 = some a ∧ r + 4 ≤ a.block) (F2 : 0 < n2 → ∃ a, p2 = some a ∧ r + 4 ≤ a.block) (F3 : 0 < n3 → ∃ a, p3 = some a ∧ r + 4 ≤ a.block) (F4 : 0 < n4 → ∃ a, p4 = some a ∧ r + 4 ≤ a.block)
    {R : World} (hR : ∀ k, r + 4 ≤ k → R.heap[k]? = W.heap[k]?) (hs : W.heap.size ≤ R.heap.size) (hg : w.grownBy R none) :
    PairPost la lb w (.returned (.tuple #[.agg #[.bool s1, .slice p1 n1 c1], .agg #[.bool s2, .slice p2 n2 c2], .agg #[.int .i64 s3, .slice p3 n3 c3], .agg #[.int .i64 s4, .slice p4 n4 c4], .bool ok])) R.drew :=
  ⟨_, _, _, _, by rw [hk], (far_int HX F1 hR hs).kept (gb_drew (gb_refl R none)), (far_int HY F2 hR hs).kept (gb_drew (gb_refl R none)), (far_z HU F3 hR hs).kept (gb_drew (gb_refl R none)), (far_z HV F4 hR hs).kept (gb_drew (gb_refl R none)), gb_drew hg⟩

set_option maxRecDepth 100000 in
set_option maxHeartbeats 4000000 in
theorem pair_c (a b : ByteArray) (w : World) : Calls Try.prog 20 #[.string a, .string b] w (PairPost a.data.toList b.data.toList w) := by
  go_enter Try.func20, Try.ntmps20
  go_wp2_with fail
  have hb0 := top1 w (.cells #[.bool false, .slice none 0 0] 25)
  have hb1 := top2 w (.cells #[.bool false, .slice none 0 0] 25) (.cells #[.bool false, .slice none 0 0] 25)
  have hb2 := top3 w (.cells #[.bool false, .slice none 0 0] 25) (.cells #[.bool false, .slice none 0 0] 25) (.cells #[.int .i64 0, .slice none 0 0] 31)
  have hb3 := top4 w (.cells #[.bool false, .slice none 0 0] 25) (.cells #[.bool false, .slice none 0 0] 25) (.cells #[.int .i64 0, .slice none 0 0] 31) (.cells #[.int .i64 0, .slice none 0 0] 31)
  have k0 := gb_alloc (gb_alloc (World.grownBy_alloc (w.alloc (.cells #[.bool false, .slice none 0 0] 25)) (.cells #[.bool false, .slice none 0 0] 25) none) (.cells #[.int .i64 0, .slice none 0 0] 31)) (.cells #[.int .i64 0, .slice none 0 0] 31)
  have k1 := gb_alloc (World.grownBy_alloc ((w.alloc (.cells #[.bool false, .slice none 0 0] 25)).alloc (.cells #[.bool false, .slice none 0 0] 25)) (.cells #[.int .i64 0, .slice none 0 0] 31) none) (.cells #[.int .i64 0, .slice none 0 0] 31)
  have k2 := World.grownBy_alloc (((w.alloc (.cells #[.bool false, .slice none 0 0] 25)).alloc (.cells #[.bool false, .slice none 0 0] 25)).alloc (.cells #[.int .i64 0, .slice none 0 0] 31)) (.cells #[.int .i64 0, .slice none 0 0] 31) none
  have hb0 := (k0.block _ (Array.getElem?_eq_some_iff.1 hb0).1 (by simp)).trans hb0
  have hb1 := (k1.block _ (Array.getElem?_eq_some_iff.1 hb1).1 (by simp)).trans hb1
  have hb2 := (k2.block _ (Array.getElem?_eq_some_iff.1 hb2).1 (by simp)).trans hb2
  have hsz : ((((w.alloc (.cells #[.bool false, .slice none 0 0] 25)).alloc (.cells #[.bool false, .slice none 0 0] 25)).alloc (.cells #[.int .i64 0, .slice none 0 0] 31)).alloc (.cells #[.int .i64 0, .slice none 0 0] 31)).heap.size = w.heap.size + 1 + 1 + 1 + 1 := by simp
  have hgw := gb_trans (World.grownBy_alloc w (.cells #[.bool false, .slice none 0 0] 25) none) k0
  clear k0 k1 k2
  generalize ((((w.alloc (.cells #[.bool false, .slice none 0 0] 25)).alloc (.cells #[.bool false, .slice none 0 0] 25)).alloc (.cells #[.int .i64 0, .slice none 0 0] 31)).alloc (.cells #[.int .i64 0, .slice none 0 0] 31)) = W0 at *
  have HB := Lib.hid (And.intro hb0 (And.intro hb1 (And.intro hb2 hb3)))
  have HGW := Lib.hid hgw
  have HSZ := Lib.hid hsz
  clear hb0 hb1 hb2 hb3 hgw hsz
  refine (Parse_c a _).mono ?_
  rintro e w2 ⟨x, rfl, hx, g, hfar⟩
  obtain ⟨s1, p1, n1, c1, ex, HX⟩ := int_parts hx
  subst ex
  have F1 := Lib.hid (hfar s1 p1 n1 c1 rfl)
  have hgx := World.grownBy_alloc w2 (.cells #[.bool s1, .slice p1 n1 c1] 25) none
  have HX := Lib.hid (HX.out.kept hgx)
  have T1 := Lib.hid (top1 w2 (.cells #[.bool s1, .slice p1 n1 c1] 25))
  have Q1 := Lib.hid (Nat.le_trans (Nat.le_of_eq HSZ.out.symm) g.size)
  have G1 := Lib.hid (gb_trans g hgx)
  obtain ⟨E1, hE1⟩ : ∃ E, parseE a.data.toList = E := ⟨_, rfl⟩
  rw [hE1]
  clear hx g hfar hgx
  go_wp2_with fail
  refine (Parse_c b _).mono ?_
  rintro e w3 ⟨y, rfl, hy, g, hfar⟩
  obtain ⟨s2, p2, n2, c2, ey, HY⟩ := int_parts hy
  subst ey
  have F2 := Lib.hid (hfar s2 p2 n2 c2 rfl)
  have hgx := World.grownBy_alloc w3 (.cells #[.bool s2, .slice p2 n2 c2] 25) none
  have HX := Lib.hid (HX.out.kept (gb_trans g hgx))
  have HY := Lib.hid (HY.out.kept hgx)
  have T1 := Lib.hid (((gb_trans g hgx).block _ (Array.getElem?_eq_some_iff.1 T1.out).1 (by simp)).trans T1.out)
  have T2 := Lib.hid (top1 w3 (.cells #[.bool s2, .slice p2 n2 c2] 25))
  have hs12 := G1.out.size
  have Q2 := Lib.hid (Nat.le_trans (Nat.le_of_eq HSZ.out.symm) (gb_trans G1.out g).size)
  have G2 := Lib.hid (gb_trans G1.out (gb_trans g hgx))
  obtain ⟨E2, hE2⟩ : ∃ E, parseE b.data.toList = E := ⟨_, rfl⟩
  rw [hE2]
  clear hy g hfar hgx
  go_wp2_with fail
  refine (RParse_c a _).mono ?_
  rintro e w4 ⟨u, rfl, hu, g, hfar⟩
  obtain ⟨s3, p3, n3, c3, eu, HU⟩ := z_parts hu
  subst eu
  have F3 := Lib.hid (hfar (.int .i64 s3) p3 n3 c3 rfl)
  have hgx := World.grownBy_alloc w4 (.cells #[.int .i64 s3, .slice p3 n3 c3] 31) none
  have HX := Lib.hid (HX.out.kept (gb_trans g hgx))
  have HY := Lib.hid (HY.out.kept (gb_trans g hgx))
  have HU := Lib.hid (HU.out.kept hgx)
  have T1 := Lib.hid (((gb_trans g hgx).block _ (Array.getElem?_eq_some_iff.1 T1.out).1 (by simp)).trans T1.out)
  have T2 := Lib.hid (((gb_trans g hgx).block _ (Array.getElem?_eq_some_iff.1 T2.out).1 (by simp)).trans T2.out)
  have T3 := Lib.hid (top1 w4 (.cells #[.int .i64 s3, .slice p3 n3 c3] 31))
  have hs13 := G2.out.size
  have Q3 := Lib.hid (Nat.le_trans (Nat.le_of_eq HSZ.out.symm) (gb_trans G2.out g).size)
  have G3 := Lib.hid (gb_trans G2.out (gb_trans g hgx))
  rw [hE1]
  clear hu g hfar hgx
  go_wp2_with fail
  refine (RParse_c b _).mono ?_
  rintro e w5 ⟨v, rfl, hv, g, hfar⟩
  obtain ⟨s4, p4, n4, c4, ev, HV⟩ := z_parts hv
  subst ev
  have F4 := Lib.hid (hfar (.int .i64 s4) p4 n4 c4 rfl)
  have hgx := World.grownBy_alloc w5 (.cells #[.int .i64 s4, .slice p4 n4 c4] 31) none
  have HX := Lib.hid (HX.out.kept (gb_trans g hgx))
  have HY := Lib.hid (HY.out.kept (gb_trans g hgx))
  have HU := Lib.hid (HU.out.kept (gb_trans g hgx))
  have HV := Lib.hid (HV.out.kept hgx)
  have t1 := ((gb_trans g hgx).block _ (Array.getElem?_eq_some_iff.1 T1.out).1 (by simp)).trans T1.out
  have t2 := ((gb_trans g hgx).block _ (Array.getElem?_eq_some_iff.1 T2.out).1 (by simp)).trans T2.out
  have t3 := ((gb_trans g hgx).block _ (Array.getElem?_eq_some_iff.1 T3.out).1 (by simp)).trans T3.out
  have t4 := top1 w5 (.cells #[.int .i64 s4, .slice p4 n4 c4] 31)
  have hs14 := G3.out.size
  have hq5 := (gb_trans G3.out g).size
  have hg4 := gb_trans G3.out (gb_trans g hgx)
  have G4 := Lib.hid hg4
  rw [hE2]
  obtain ⟨hb0, hb1, hb2, hb3⟩ := HB.out
  have hsz := HSZ.out
  have hb0 := (hg4.block _ (by omega) (by simp)).trans hb0
  have hb1 := (hg4.block _ (by omega) (by simp)).trans hb1
  have hb2 := (hg4.block _ (by omega) (by simp)).trans hb2
  have hb3 := (hg4.block _ (by omega) (by simp)).trans hb3
  clear hv g hfar hgx hg4 T1 T2 T3
  have hq1 : w.heap.size + 4 ≤ w2.heap.size := by have := Q1.out; omega
  have hq2 : w.heap.size + 4 ≤ w3.heap.size := by have := Q2.out; omega
  have hq3 : w.heap.size + 4 ≤ w4.heap.size := by have := Q3.out; omega
  have f1 : 0 < n1 → ∃ a, p1 = some a ∧ w.heap.size + 4 ≤ a.block := fun h => by obtain ⟨a, h1, h2⟩ := F1.out h; exact ⟨a, h1, by omega⟩
  have f2 : 0 < n2 → ∃ a, p2 = some a ∧ w.heap.size + 4 ≤ a.block := fun h => by obtain ⟨a, h1, h2⟩ := F2.out h; exact ⟨a, h1, by omega⟩
  have f3 : 0 < n3 → ∃ a, p3 = some a ∧ w.heap.size + 4 ≤ a.block := fun h => by obtain ⟨a, h1, h2⟩ := F3.out h; exact ⟨a, h1, by omega⟩
  have f4 : 0 < n4 → ∃ a, p4 = some a ∧ w.heap.size + 4 ≤ a.block := fun h => by obtain ⟨a, h1, h2⟩ := F4.out h; exact ⟨a, h1, by have h2 : _ ≤ a.block := h2; omega⟩
  have hq4 : w.heap.size + 4 ≤ w5.heap.size := by omega
  have F1 := Lib.hid f1; have F2 := Lib.hid f2; have F3 := Lib.hid f3; have F4 := Lib.hid f4
  have HGW2 := Lib.hid (gb_trans HGW.out G4.out)
  clear f1 f2 f3 f4 hs12 hs13 hs14 hq5 HB hsz HSZ HGW G1 G2 G3 G4 Q1 Q2 Q3
  go_wp2_with fail
  generalize w5.alloc (.cells #[.int .i64 s4, .slice p4 n4 c4] 31) = W at *
  generalize w2.heap.size = q1 at *
  generalize w3.heap.size = q2 at *
  generalize w4.heap.size = q3 at *
  generalize w5.heap.size = q4 at *
  obtain ⟨x0, x1, x2⟩ := cells_of t1
  obtain ⟨y0, y1, y2⟩ := cells_of t2
  obtain ⟨u0, u1, u2⟩ := zcells_of t3
  obtain ⟨v0, v1, v2⟩ := zcells_of t4
  obtain ⟨d0, d1, d2⟩ := cells_of hb0
  obtain ⟨e0, e1, e2⟩ := cells_of hb1
  obtain ⟨g0, g1, g2⟩ := zcells_of hb2
  obtain ⟨j0, j1, j2⟩ := zcells_of hb3
  have HBS := Lib.hid (And.intro hb0 (And.intro hb1 (And.intro hb2 hb3)))
  have HFIN := Lib.hid (fun ok (hk : ok = decide (parseE a.data.toList = 0 ∧ parseE b.data.toList = 0)) R => pair_fin (w := w) (r := w.heap.size) (R := R) hk HX.out HY.out HU.out HV.out F1.out F2.out F3.out F4.out)
  have HPUT := Lib.hid (fun R => four_put (w := w) (W := W) (R := R) (a0 := .bool s1) (a1 := .slice p1 n1 c1) (b0 := .bool s2) (b1 := .slice p2 n2 c2) (c0 := .int .i64 s3) (c1 := .slice p3 n3 c3) (d0 := .int .i64 s4) (d1 := .slice p4 n4 c4) hb0 hb1 hb2 hb3 HGW2.out (Nat.le_refl _))
  clear t1 t2 t3 t4 hb0 hb1 hb2 hb3 HBS HX HY HU HV
  have HE := Lib.hid (And.intro hE1 hE2)
  clear hE1 hE2
  by_cases h1 : E1 = 0
  · subst h1
    by_cases h2 : E2 = 0
    · subst h2
      go_region
      go_wp2
      obtain ⟨⟨k0, k1⟩, ⟨k2, k3⟩, ⟨k4, k5⟩, ⟨k6, k7⟩, kh, ks, kg⟩ := HPUT.out _ rfl
      exact bodyPost_ret (v := .tuple #[.agg #[.bool s1, .slice p1 n1 c1], .agg #[.bool s2, .slice p2 n2 c2], .agg #[.int .i64 s3, .slice p3 n3 c3], .agg #[.int .i64 s4, .slice p4 n4 c4], .bool true]) (by simp [results, Try.results20, go_sem, k0, k1, k2, k3, k4, k5, k6, k7]) rfl (HFIN.out true (decide_eq_true HE.out).symm _ kh ks kg)
    · have d2 : (E2 == 0) = false := beq_eq_false_iff_ne.2 h2
      go_region
      go_wp2
      obtain ⟨⟨k0, k1⟩, ⟨k2, k3⟩, ⟨k4, k5⟩, ⟨k6, k7⟩, kh, ks, kg⟩ := HPUT.out _ rfl
      exact bodyPost_ret (v := .tuple #[.agg #[.bool s1, .slice p1 n1 c1], .agg #[.bool s2, .slice p2 n2 c2], .agg #[.int .i64 s3, .slice p3 n3 c3], .agg #[.int .i64 s4, .slice p4 n4 c4], .bool false]) (by simp [results, Try.results20, go_sem, k0, k1, k2, k3, k4, k5, k6, k7]) rfl (HFIN.out false (decide_eq_false (fun h => h2 (HE.out.2.symm.trans h.2))).symm _ kh ks kg)
  · have d1 : (E1 == 0) = false := beq_eq_false_iff_ne.2 h1
    go_region
    go_wp2
    obtain ⟨⟨k0, k1⟩, ⟨k2, k3⟩, ⟨k4, k5⟩, ⟨k6, k7⟩, kh, ks, kg⟩ := HPUT.out _ rfl
    exact bodyPost_ret (v := .tuple #[.agg #[.bool s1, .slice p1 n1 c1], .agg #[.bool s2, .slice p2 n2 c2], .agg #[.int .i64 s3, .slice p3 n3 c3], .agg #[.int .i64 s4, .slice p4 n4 c4], .bool false]) (by simp [results, Try.results20, go_sem, k0, k1, k2, k3, k4, k5, k6, k7]) rfl (HFIN.out false (decide_eq_false (fun h => h1 (HE.out.1.symm.trans h.1))).symm _ kh ks kg)
end Go.Proofs.Ytkonfkcaefjabaa
