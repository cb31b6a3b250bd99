/- Rows in a ring: slot, lift, Len, Last, Pop. -/
import Derived.Test.YtljpgmhgnfnbkaaBRow
import Derived.Test.YtljpgmhgnfnbkaaBSet5
import Derived.Laws.IdiomCopy
namespace Go.Proofs.Ytljpgmhgnfnbkaa
open Go.RowKit Mx

/-- A block of M numbers that may be written. -/
def BlkZ (w : World) (g M : Nat) (f : Nat → Int) : Prop := ∃ cur T, w.heap[g]? = some (.cells cur T (0, 0)) ∧ cur.size = M ∧ ∀ j, j < M → cur[j]? = some (.int .i64 (f j))

def updZ (f : Nat → Int) (k : Nat) (x : Int) : Nat → Int := fun j => if j = k then x else f j

section
variable {w w' : World} {g M : Nat} {f f' : Nat → Int}
theorem BlkZ.lt (h : BlkZ w g M f) : g < w.heap.size := by
  obtain ⟨cur, T, hg, _⟩ := h
  exact (Array.getElem?_eq_some_iff.1 hg).1
theorem BlkZ.cell (h : BlkZ w g M f) {j : Nat} (hj : j < M) : w.cell? ⟨g, j, none⟩ = some (.int .i64 (f j)) := by
  obtain ⟨cur, T, hg, _, hc⟩ := h
  rw [cell_of_row w g j cur T (0, 0) hg]; exact hc j hj
theorem BlkZ.free (h : BlkZ w g M f) (j : Nat) : w.frozen? ⟨g, j, none⟩ = false := by
  obtain ⟨cur, T, hg, _⟩ := h
  simp [World.frozen?, hg]
theorem BlkZ.set (h : BlkZ w g M f) {j : Nat} (x : Int) : BlkZ (w.setCell ⟨g, j, none⟩ (.int .i64 x)) g M (updZ f j x) := by
  obtain ⟨cur, T, hg, hs, hc⟩ := h
  refine ⟨cur.setIfInBounds j (.int .i64 x), T, ?_, by simpa using hs, fun i hi => ?_⟩
  · simp only [World.setCell, Array.getElem?_modify, hg, if_true, Option.map_some]; rfl
  · rw [Array.getElem?_setIfInBounds]
    by_cases e : j = i
    · subst e; simp [updZ, hs, hi]
    · rw [if_neg e, hc i hi]; simp [updZ, Ne.symm e]
theorem BlkZ.kept {row : Option Nat} (h : BlkZ w g M f) (hg : w.grownBy w' row) (hne : some g ≠ row) : BlkZ w' g M f := by
  obtain ⟨cur, T, hh, r⟩ := h
  exact ⟨cur, T, by rw [hg.block g (Array.getElem?_eq_some_iff.1 hh).1 hne]; exact hh, r⟩
theorem BlkZ.keptS {S : Nat → Prop} (h : BlkZ w g M f) (hg : Fr2 S w w') (hne : ¬ S g) : BlkZ w' g M f := by
  obtain ⟨cur, T, hh, r⟩ := h
  exact ⟨cur, T, by rw [hg.block g (Array.getElem?_eq_some_iff.1 hh).1 hne]; exact hh, r⟩
end

/-- A row's box and ring. -/
structure RowAt (w : World) (q rg R first : Nat) (pr : Option Addr) (f : Nat → Int) (zs : List Int) : Prop where
  box : w.heap[q]? = some (.cells #[.slice pr R R, .int .i64 first, .int .i64 (zs.length : Nat)] 104 (0, 0))
  cnt : zs.length ≤ R
  big : R ≤ 100000
  fst : first < R ∨ (R = 0 ∧ first = 0)
  ring : R = 0 ∨ (pr = some ⟨rg, 0, none⟩ ∧ rg ≠ q ∧ BlkZ w rg R f)
  vals : ∀ j, j < zs.length → f ((first + j) % R) = zs.getD j 0

theorem cells3' {w : World} {r : Nat} {u v z : Value} {T : TypeId} (h : w.heap[r]? = some (.cells #[u, v, z] T (0, 0))) : w.cell? ⟨r, 0, none⟩ = some u ∧ w.cell? ⟨r, 1, none⟩ = some v ∧ w.cell? ⟨r, 2, none⟩ = some z ∧ ∀ o, w.frozen? ⟨r, o, none⟩ = false :=
  ⟨by rw [cell_of_row w r 0 _ T (0, 0) h]; rfl, by rw [cell_of_row w r 1 _ T (0, 0) h]; rfl, by rw [cell_of_row w r 2 _ T (0, 0) h]; rfl, fun o => by simp [World.frozen?, h]⟩

theorem RowAt.kept {w w' : World} {q rg R first : Nat} {pr : Option Addr} {f : Nat → Int} {zs : List Int} (h : RowAt w q rg R first pr f zs) (hg : w.grownBy w' none) : RowAt w' q rg R first pr f zs :=
  ⟨bx hg h.box, h.cnt, h.big, h.fst, h.ring.imp id fun ⟨a, b, c⟩ => ⟨a, b, c.kept hg (by simp)⟩, h.vals⟩

theorem set3_1 {W : World} {r : Nat} {a0 a1 a2 u : Value} {T : TypeId} (hb : W.heap[r]? = some (.cells #[a0, a1, a2] T (0, 0))) : (W.setCell ⟨r, 1, none⟩ u).heap[r]? = some (.cells #[a0, u, a2] T (0, 0)) := by
  simp only [World.setCell, Array.getElem?_modify, hb, if_true, Option.map_some]; rfl
theorem set3_2 {W : World} {r : Nat} {a0 a1 a2 u : Value} {T : TypeId} (hb : W.heap[r]? = some (.cells #[a0, a1, a2] T (0, 0))) : (W.setCell ⟨r, 2, none⟩ u).heap[r]? = some (.cells #[a0, a1, u] T (0, 0)) := by
  simp only [World.setCell, Array.getElem?_modify, hb, if_true, Option.map_some]; rfl
theorem set3_0 {W : World} {r : Nat} {a0 a1 a2 u : Value} {T : TypeId} (hb : W.heap[r]? = some (.cells #[a0, a1, a2] T (0, 0))) : (W.setCell ⟨r, 0, none⟩ u).heap[r]? = some (.cells #[u, a1, a2] T (0, 0)) := by
  simp only [World.setCell, Array.getElem?_modify, hb, if_true, Option.map_some]; rfl

theorem mod_ne {a j c R : Nat} (h : j < c) (hc : c < R) : (a + j) % R ≠ (a + c) % R := by
  intro e
  have h1 := Nat.sub_mod_eq_zero_of_mod_eq e.symm
  have h2 : a + c - (a + j) = c - j := by omega
  rw [h2, Nat.mod_eq_of_lt (by omega)] at h1
  omega

set_option maxRecDepth 100000 in
theorem RLen_c {w : World} {q rg R first : Nat} {pr : Option Addr} {f : Nat → Int} {zs : List Int} (h : RowAt w q rg R first pr f zs) : Calls Try.prog 39 #[.pointer (some ⟨q, 0, none⟩)] w (ValD (.int .i64 (zs.length : Nat)) w) := by
  obtain ⟨x0, x1, x2, x3⟩ := cells3' h.box
  clear h x3
  generalize zs.length = n at *
  go_enter Try.func39, Try.ntmps39
  go_wp2_with fail
  go_ret
  exact ⟨rfl, rfl⟩

def SlotPost (rg i : Nat) (w : World) (e : Ending) (w' : World) : Prop := e = .returned (.pointer (some ⟨rg, i, none⟩)) ∧ w.grownBy w' none

set_option maxRecDepth 100000 in
set_option maxHeartbeats 2000000 in
theorem slot_c {w : World} {q rg R first : Nat} {n : Int} (i : Nat) (hb : w.heap[q]? = some (.cells #[.slice (some ⟨rg, 0, none⟩) R R, .int .i64 first, .int .i64 n] 104 (0, 0))) (hR : first < R) (hb2 : R ≤ 100000) (hi : i ≤ 100000) :
    Calls Try.prog 66 #[.pointer (some ⟨q, 0, none⟩), .int .i64 i] w (SlotPost rg ((first + i) % R) w) := by
  obtain ⟨x0, x1, x2, x3⟩ := cells3' hb
  obtain ⟨m, hm⟩ : ∃ m, first + i = m := ⟨_, rfl⟩
  obtain ⟨r, hr⟩ : ∃ r, m % R = r := ⟨_, rfl⟩
  have hrR : r < R := by rw [← hr]; exact Nat.mod_lt _ (by omega)
  have hR0 : 0 < R := by omega
  have hwr : IntKind.i64.wrap ((first : Int) + (i : Int)) = (m : Int) := by rw [show (first : Int) + (i : Int) = (m : Int) by omega]; exact IntWalk.i64_in _ (by omega)
  have htm : (m : Int).tmod (R : Int) = (r : Int) := by rw [← hr]; exact Int.ofNat_tmod m R
  have htm2 : (m : Int) % (R : Int) = (r : Int) := by rw [← hr]; simp
  rw [hm, hr]
  clear hb hm hr x3 x2
  go_enter Try.func66, Try.ntmps66
  go_wp2_with fail
  go_region
  all_goals
    go_wp2_with fail
    go_ret
    exact ⟨rfl, gb_drew (gb_refl _ _)⟩

def LiftPost (rg R i : Nat) (f : Nat → Int) (w : World) (e : Ending) (w' : World) : Prop := e = .returned (.int .i64 (f i)) ∧ BlkZ w' rg R (updZ f i 0) ∧ w.grownBy w' (some rg)

set_option maxRecDepth 100000 in
set_option maxHeartbeats 2000000 in
theorem lift_c {w : World} {q rg R first : Nat} {n : Int} {f : Nat → Int} (i : Nat) (hb : w.heap[q]? = some (.cells #[.slice (some ⟨rg, 0, none⟩) R R, .int .i64 first, .int .i64 n] 104 (0, 0))) (hR : first < R) (hb2 : R ≤ 100000) (hi : i ≤ 100000) (hbl : BlkZ w rg R f) :
    Calls Try.prog 67 #[.pointer (some ⟨q, 0, none⟩), .int .i64 i] w (LiftPost rg R ((first + i) % R) f w) := by
  have HS := Lib.hid (slot_c i hb hR hb2 hi)
  have hrR : (first + i) % R < R := Nat.mod_lt _ (by omega)
  have HB := Lib.hid hbl
  clear hb hbl
  generalize (first + i) % R = r at *
  go_enter Try.func67, Try.ntmps67
  go_wp2_with fail
  refine HS.out.mono ?_
  rintro e w2 ⟨rfl, hg⟩
  have hb2 := HB.out.kept hg (by simp)
  have c0 := hb2.cell hrR
  have f0 := hb2.free r
  have HB2 := Lib.hid hb2; have HG := Lib.hid hg
  clear hb2 hg
  go_wp2_with fail
  go_ret
  exact ⟨rfl, HB2.out.set 0, gb_set (gb_trans (below_gb (gb_below HG.out)) (gb_refl _ _)) _⟩
end Go.Proofs.Ytljpgmhgnfnbkaa
