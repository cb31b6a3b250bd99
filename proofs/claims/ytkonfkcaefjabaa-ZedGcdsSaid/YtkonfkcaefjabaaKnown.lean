/- Numbers that are known in a world, and what the calls make of them. -/
import Derived.Test.YtkonfkcaefjabaaPair
import Derived.Test.YtkonfkcaefjabaaInt9
import Derived.Test.YtkonfkcaefjabaaInt10
import Derived.Test.YtkonfkcaefjabaaDm
namespace Go.Proofs.Ytkonfkcaefjabaa
open Go.RowKit Mx

/-- Each of these values reads as its number, below the power of the words' base. -/
def Known (w : World) (L : List (Value × Int × Nat)) : Prop := ∀ q ∈ L, IsInt w q.1 q.2.1 ∧ q.2.1.natAbs < Bw ^ q.2.2

theorem Known.kept {w w' : World} {L : List (Value × Int × Nat)} (h : Known w L) (hg : w.grownBy w' none) : Known w' L :=
  fun q hq => ⟨(h q hq).1.kept hg, (h q hq).2⟩

theorem Known.nil (w : World) : Known w [] := fun q hq => by cases hq
theorem Known.cons {w : World} {L : List (Value × Int × Nat)} {v : Value} {Z : Int} {k : Nat} (h : Known w L) (hv : IsInt w v Z) (hz : Z.natAbs < Bw ^ k) : Known w ((v, Z, k) :: L) := by
  intro q hq
  rcases List.mem_cons.1 hq with rfl | hq
  · exact ⟨hv, hz⟩
  · exact h q hq

def KPost (L : List (Value × Int × Nat)) (Z : Int) (k : Nat) (w : World) (e : Ending) (w' : World) : Prop :=
  ∃ s p n c, e = .returned (.agg #[.bool s, .slice p n c]) ∧ Known w' ((.agg #[.bool s, .slice p n c], Z, k) :: L) ∧ w.grownBy w' none

theorem kpost_of {w : World} {L : List (Value × Int × Nat)} {Z : Int} {k : Nat} (h : Known w L) (hz : Z.natAbs < Bw ^ k) {e : Ending} {w' : World} (hp : IntPost Z w e w') : KPost L Z k w e w' := by
  obtain ⟨x, rfl, hx, hg⟩ := hp
  obtain ⟨s, p, n, c, rfl, HX⟩ := int_parts hx
  exact ⟨s, p, n, c, rfl, (h.kept hg).cons HX.out hz, hg⟩

theorem lim_k {Z : Int} {k : Nat} (hk : k ≤ 1000) (h : Z.natAbs < Bw ^ k) : Z.natAbs < Lim :=
  lim_le_pow (Nat.le_of_lt h) (by unfold LimN; omega)

theorem bw_le {i j : Nat} (h : i ≤ j) : Bw ^ i ≤ Bw ^ j := Nat.pow_le_pow_right (by unfold Bw; omega) h
theorem bw_one (i : Nat) : 1 ≤ Bw ^ i := Nat.pow_pos (by unfold Bw; omega)

theorem add_lt {a b i j : Nat} (ha : a < Bw ^ i) (hb : b < Bw ^ j) : a + b < Bw ^ (i + j + 1) := by
  have h1 := bw_le (i := i) (j := i + j) (by omega)
  have h2 := bw_le (i := j) (j := i + j) (by omega)
  have h3 : Bw ^ (i + j) * 2 ≤ Bw ^ (i + j) * Bw := Nat.mul_le_mul_left _ (by unfold Bw; omega)
  rw [Nat.pow_succ]
  omega

theorem mul_lt {a b i j : Nat} (ha : a < Bw ^ i) (hb : b < Bw ^ j) : a * b < Bw ^ (i + j) := by
  rw [Nat.pow_add]
  exact Nat.mul_lt_mul'' ha hb

section
variable {w : World} {L : List (Value × Int × Nat)} {x y : Value} {X Y : Int} {i j : Nat}

theorem Add_k {s : Bool} {p : Option Addr} {n c g : Nat} (H : Known w L) (h0 : w.cell? ⟨g, 0, none⟩ = some (.bool s)) (h1 : w.cell? ⟨g, 1, none⟩ = some (.slice p n c)) (hx : (x, X, i) ∈ L) (hy : (.agg #[.bool s, .slice p n c], Y, j) ∈ L) (hi : i ≤ 1000) (hj : j ≤ 1000) :
    Calls Try.prog 21 #[x, .slice (some ⟨g, 0, none⟩) 1 1] w (KPost L (X + Y) (i + j + 1) w) := by
  obtain ⟨a1, a2⟩ := H _ hx
  obtain ⟨b1, b2⟩ := H _ hy
  exact (Add_c x X Y s p n c g w a1 b1 h0 h1 (lim_k hi a2) (lim_k hj b2)).mono fun e w' h => kpost_of H (Nat.lt_of_le_of_lt (Int.natAbs_add_le X Y) (add_lt a2 b2)) h

theorem Sub_k (H : Known w L) (hx : (x, X, i) ∈ L) (hy : (y, Y, j) ∈ L) (hi : i ≤ 1000) (hj : j ≤ 1000) :
    Calls Try.prog 24 #[x, y] w (KPost L (X - Y) (i + j + 1) w) := by
  obtain ⟨a1, a2⟩ := H _ hx
  obtain ⟨b1, b2⟩ := H _ hy
  exact (Sub_c x y X Y w a1 b1 (lim_k hi a2) (lim_k hj b2)).mono fun e w' h => kpost_of H (Nat.lt_of_le_of_lt (Int.natAbs_sub_le X Y) (add_lt a2 b2)) h

theorem Mul_k (H : Known w L) (hx : (x, X, i) ∈ L) (hy : (y, Y, j) ∈ L) (hi : i ≤ 1000) (hj : j ≤ 1000) :
    Calls Try.prog 28 #[x, y] w (KPost L (X * Y) (i + j) w) := by
  obtain ⟨a1, a2⟩ := H _ hx
  obtain ⟨b1, b2⟩ := H _ hy
  exact (Mul_c x y X Y w a1 b1 (lim_k hi a2) (lim_k hj b2)).mono fun e w' h => kpost_of H (by rw [Int.natAbs_mul]; exact mul_lt a2 b2) h

theorem Neg_k (H : Known w L) (hx : (x, X, i) ∈ L) : Calls Try.prog 27 #[x] w (KPost L (-X) i w) :=
  (Neg_c x X w (H _ hx).1).mono fun e w' h => kpost_of H (by rw [Int.natAbs_neg]; exact (H _ hx).2) h

theorem Abs_k (H : Known w L) (hx : (x, X, i) ∈ L) : Calls Try.prog 32 #[x] w (KPost L X.natAbs i w) :=
  (Abs_c x X w (H _ hx).1).mono fun e w' h => kpost_of H (by rw [Int.natAbs_natCast]; exact (H _ hx).2) h

/-- Two numbers compared, whose comparison is known. -/
theorem Cmp_k {m : Int} (H : Known w L) (hx : (x, X, i) ∈ L) (hy : (y, Y, j) ∈ L) (hi : i ≤ 1000) (hj : j ≤ 1000) (hm : cmpZ X Y = m) :
    Calls Try.prog 18 #[x, y] w (ValPost (.int .i64 m) w) := by
  subst hm
  exact Cmp_c x y X Y w (H _ hx).1 (H _ hy).1 (lim_k hi (H _ hx).2) (lim_k hj (H _ hy).2)

theorem Sign_k {m : Int} (H : Known w L) (hx : (x, X, i) ∈ L) (hm : sg X = m) : Calls Try.prog 14 #[x] w (ValPost (.int .i64 m) w) := by
  subst hm
  exact Sign_c x X w (H _ hx).1

theorem String_k (H : Known w L) (hx : (x, X, i) ∈ L) (hi : i ≤ 1000) : Calls Try.prog 15 #[x] w (ValPost (txt X) w) :=
  String_c x X w (H _ hx).1 (lim_k hi (H _ hx).2)

def DPost (L : List (Value × Int × Nat)) (X Y : Int) (i j : Nat) (w : World) (e : Ending) (w' : World) : Prop :=
  ∃ s p n c s2 p2 n2 c2, e = .returned (.tuple #[.agg #[.bool s, .slice p n c], .agg #[.bool s2, .slice p2 n2 c2], .int .i64 0]) ∧ Known w' ((.agg #[.bool s, .slice p n c], X / Y, i) :: (.agg #[.bool s2, .slice p2 n2 c2], X % Y, j) :: L) ∧ w.grownBy w' none

theorem DivMod_k (H : Known w L) (hx : (x, X, i) ∈ L) (hy : (y, Y, j) ∈ L) (hi : i ≤ 1000) (hj : j ≤ 1000) (h0 : Y ≠ 0) : Calls Try.prog 30 #[x, y] w (DPost L X Y i j w) := by
  obtain ⟨a1, a2⟩ := H _ hx
  obtain ⟨b1, b2⟩ := H _ hy
  refine (DivMod_c x y X Y w a1 b1 (lim_k hi a2) (lim_k hj b2) h0).mono ?_
  rintro e w' ⟨q, r, rfl, hq, hr, hg⟩
  obtain ⟨s, p, n, c, rfl, HX⟩ := int_parts hq
  obtain ⟨s2, p2, n2, c2, rfl, HY⟩ := int_parts hr
  have e1 : (X / Y).natAbs < Bw ^ i := Nat.lt_of_le_of_lt (Int.natAbs_ediv_le_natAbs X Y) a2
  have e2 : (X % Y).natAbs < Bw ^ j := by
    have h1 := Int.emod_nonneg X h0
    have h2 := Int.emod_lt X h0
    have b2 : Y.natAbs < Bw ^ j := b2
    omega
  exact ⟨s, p, n, c, s2, p2, n2, c2, rfl, ((H.kept hg).cons HY.out e2).cons HX.out e1, hg⟩
end

theorem cmp_eq {X Y : Int} (h : X = Y) : cmpZ X Y = 0 := by unfold cmpZ; rw [if_neg (by omega), if_pos h]
theorem cmp_lt {X Y : Int} (h : X < Y) : cmpZ X Y = -1 := by unfold cmpZ; rw [if_pos h]

theorem parse_bw (l : List UInt8) : (parseV l).natAbs < Bw ^ 4 := by
  have h1 : (10 : Nat) ^ 60 ≤ (10 ^ 19) ^ 4 := by rw [← Nat.pow_mul]; exact Nat.pow_le_pow_right (by omega) (by omega)
  exact Nat.lt_of_lt_of_le (parseV_lt l).2 (Nat.le_trans h1 (Nat.pow_le_pow_left (by unfold Bw; omega) 4))

/-- Cells of old boxes, in a grown world. -/
theorem s4 {w w' : World} {a0 a1 a2 a3 : Addr} {v0 v1 v2 v3 : Value} (h : w.cell? a0 = some v0 ∧ w.cell? a1 = some v1 ∧ w.cell? a2 = some v2 ∧ w.cell? a3 = some v3) (hg : w.grownBy w' none) : w'.cell? a0 = some v0 ∧ w'.cell? a1 = some v1 ∧ w'.cell? a2 = some v2 ∧ w'.cell? a3 = some v3 :=
  ⟨hg.cell h.1 (by simp), hg.cell h.2.1 (by simp), hg.cell h.2.2.1 (by simp), hg.cell h.2.2.2 (by simp)⟩
theorem s6 {w w' : World} {a0 a1 a2 a3 a4 a5 : Addr} {v0 v1 v2 v3 v4 v5 : Value} (h : w.cell? a0 = some v0 ∧ w.cell? a1 = some v1 ∧ w.cell? a2 = some v2 ∧ w.cell? a3 = some v3 ∧ w.cell? a4 = some v4 ∧ w.cell? a5 = some v5) (hg : w.grownBy w' none) :
    w'.cell? a0 = some v0 ∧ w'.cell? a1 = some v1 ∧ w'.cell? a2 = some v2 ∧ w'.cell? a3 = some v3 ∧ w'.cell? a4 = some v4 ∧ w'.cell? a5 = some v5 :=
  ⟨hg.cell h.1 (by simp), hg.cell h.2.1 (by simp), hg.cell h.2.2.1 (by simp), hg.cell h.2.2.2.1 (by simp), hg.cell h.2.2.2.2.1 (by simp), hg.cell h.2.2.2.2.2 (by simp)⟩

theorem s8 {w w' : World} {a0 a1 a2 a3 a4 a5 a6 a7 : Addr} {v0 v1 v2 v3 v4 v5 v6 v7 : Value} (h : w.cell? a0 = some v0 ∧ w.cell? a1 = some v1 ∧ w.cell? a2 = some v2 ∧ w.cell? a3 = some v3 ∧ w.cell? a4 = some v4 ∧ w.cell? a5 = some v5 ∧ w.cell? a6 = some v6 ∧ w.cell? a7 = some v7) (hg : w.grownBy w' none) :
    w'.cell? a0 = some v0 ∧ w'.cell? a1 = some v1 ∧ w'.cell? a2 = some v2 ∧ w'.cell? a3 = some v3 ∧ w'.cell? a4 = some v4 ∧ w'.cell? a5 = some v5 ∧ w'.cell? a6 = some v6 ∧ w'.cell? a7 = some v7 :=
  ⟨hg.cell h.1 (by simp), hg.cell h.2.1 (by simp), hg.cell h.2.2.1 (by simp), hg.cell h.2.2.2.1 (by simp), hg.cell h.2.2.2.2.1 (by simp), hg.cell h.2.2.2.2.2.1 (by simp), hg.cell h.2.2.2.2.2.2.1 (by simp), hg.cell h.2.2.2.2.2.2.2 (by simp)⟩

theorem sg_nonneg {Z : Int} (h : 0 ≤ Z) : ∃ m : Int, sg Z = m ∧ 0 ≤ m := by
  unfold sg
  by_cases e : Z = 0
  · exact ⟨0, by rw [if_neg (by omega), if_pos e], by omega⟩
  · exact ⟨1, by rw [if_neg (by omega), if_neg e], by omega⟩

theorem cdrew {w : World} {a : Addr} {v : Value} (h : w.cell? a = some v) : w.drew.cell? a = some v := h

theorem bx {a b : World} {h : Nat} {o : Obj} (hg : a.grownBy b none) (hb : a.heap[h]? = some o) : b.heap[h]? = some o := (hg.block _ (Array.getElem?_eq_some_iff.1 hb).1 (by simp)).trans hb
theorem bxa {a : World} {h : Nat} {o o' : Obj} (hb : a.heap[h]? = some o) : (a.alloc o').heap[h]? = some o := bx (World.grownBy_alloc a o' none) hb
theorem undrew {a b : World} {row : Option Nat} (h : a.drew.grownBy b row) : a.grownBy b row := ⟨h.os, h.tape, h.output, h.size, h.block⟩

/-- Four boxes laid one behind the other. -/
theorem boxes4 (w : World) (o1 o2 o3 o4 : Obj) : ∃ W, W = (((w.alloc o1).alloc o2).alloc o3).alloc o4 ∧ W.heap[w.heap.size]? = some o1 ∧ W.heap[w.heap.size + 1]? = some o2 ∧ W.heap[w.heap.size + 1 + 1]? = some o3 ∧ W.heap[w.heap.size + 1 + 1 + 1]? = some o4 ∧ w.grownBy W none := by
  have hb0 := top1 w o1
  have hb1 := top2 w o1 o2
  have hb2 := top3 w o1 o2 o3
  have hb3 := top4 w o1 o2 o3 o4
  have k0 := gb_alloc (gb_alloc (World.grownBy_alloc (w.alloc o1) o2 none) o3) o4
  have k1 := gb_alloc (World.grownBy_alloc ((w.alloc o1).alloc o2) o3 none) o4
  have k2 := World.grownBy_alloc (((w.alloc o1).alloc o2).alloc o3) o4 none
  exact ⟨_, rfl, (k0.block _ (Array.getElem?_eq_some_iff.1 hb0).1 (by simp)).trans hb0, (k1.block _ (Array.getElem?_eq_some_iff.1 hb1).1 (by simp)).trans hb1, (k2.block _ (Array.getElem?_eq_some_iff.1 hb2).1 (by simp)).trans hb2, hb3, gb_trans (World.grownBy_alloc w o1 none) k0⟩
end Go.Proofs.Ytkonfkcaefjabaa
