/- The document's answer: numbers as decimal digits; what a sign and digits are made to. -/
import Derived.Test.YtkonfkcaefjabaaTxt
import Derived.Test.YtkonfkcaefjabaaParse2
import Derived.Test.YtkonfkcaefjabaaDm
namespace Go.Proofs.Ytkonfkcaefjabaa
open Go.RowKit Mx

/-- The value z reads as the document's number Z. -/
def IsZ (w : World) (z : Value) (Z : Int) : Prop :=
  ∃ (p : Option Addr) (n cap : Nat) (f : Nat → Nat), z = .agg #[.int .i64 (sg Z), .slice p n cap] ∧ n ≤ cap ∧ cap ≤ maxLen ∧ At .i64 w p n f ∧ (∀ j, j < n → f j < 10) ∧ (n = 0 ∨ f (n - 1) ≠ 0) ∧ V 10 f 0 n = Z.natAbs

theorem IsZ.kept {w w' : World} {z : Value} {Z : Int} (h : IsZ w z Z) (hg : w.grownBy w' none) : IsZ w' z Z := by
  obtain ⟨p, n, cap, f, h1, h2, h3, h4, h5⟩ := h
  exact ⟨p, n, cap, f, h1, h2, h3, h4.grown hg (by simp), h5⟩

/-- The digits of z lie nowhere but in blocks of S. -/
def Far (S : Nat → Prop) (z : Value) : Prop := ∀ (u : Value) (p : Option Addr) (n c : Nat), z = .agg #[u, .slice p n c] → 0 < n → ∃ a, p = some a ∧ S a.block

def ZPostF (S : Nat → Prop) (Z : Int) (w : World) (e : Ending) (w' : World) : Prop := ∃ z, e = .returned z ∧ IsZ w' z Z ∧ w.grownBy w' none ∧ Far S z

def ZPost (Z : Int) (w : World) (e : Ending) (w' : World) : Prop := ∃ z, e = .returned z ∧ IsZ w' z Z ∧ w.grownBy w' none

theorem isZ_zero (w : World) : IsZ w (.agg #[.int .i64 0, .slice none 0 0]) 0 := ⟨none, 0, 0, fun _ => 0, rfl, Nat.le_refl _, by omega, .inl rfl, fun j h => by omega, .inl rfl, rfl⟩

theorem v10_pos {n : Nat} {f : Nat → Nat} (t : n = 0 ∨ f (n - 1) ≠ 0) : 0 < n ↔ V 10 f 0 n ≠ 0 := by
  constructor
  · intro h
    rcases V_top (b := 10) (f := f) (o := 0) (n := n) (by simpa using t) with e | e
    · omega
    · have := Nat.pow_pos (n := n - 1) (show 0 < 10 by omega); omega
  · intro h
    rcases Nat.eq_zero_or_pos n with e | e
    · subst e; exact absurd rfl h
    · exact e

theorem sg_mul {s : Int} {v : Nat} (hs : s = -1 ∨ s = 0 ∨ s = 1) (h0 : s = 0 → v = 0) (hv : v ≠ 0) : sg (s * v) = s ∧ (s * (v : Int)).natAbs = v := by
  rcases hs with rfl | rfl | rfl
  · unfold sg; rw [if_pos (by omega)]; omega
  · exact absurd (h0 rfl) hv
  · unfold sg; rw [if_neg (by omega), if_neg (by omega)]; omega

theorem made_fin {w : World} {p : Option Addr} {n m cap : Nat} {f : Nat → Nat} {s : Int} (hs : s = -1 ∨ s = 0 ∨ s = 1) (h0 : s = 0 → V 10 f 0 n = 0) (hm : m ≤ n) (hn : n ≤ cap) (hc : cap ≤ maxLen) (h : At .i64 w p n f) (hf : ∀ j, j < n → f j < 10) (hz : ∀ j, m ≤ j → j < n → f j = 0) (hp : 0 < m) (ht : f (m - 1) ≠ 0) :
    IsZ w (.agg #[.int .i64 s, .slice p m cap]) (s * V 10 f 0 n) := by
  have hv : V 10 f 0 n = V 10 f 0 m := V_pad (fun j h1 h2 => by simpa using hz j h1 h2) hm
  have hv0 : V 10 f 0 n ≠ 0 := by rw [hv]; exact (v10_pos (.inr ht)).1 hp
  obtain ⟨k1, k2⟩ := sg_mul hs h0 hv0
  exact ⟨p, m, cap, f, by rw [k1], by omega, hc, h.pre hm, fun j hj => hf j (by omega), .inr ht, by rw [k2, hv]⟩

theorem z_parts {w : World} {z : Value} {Z : Int} (h : IsZ w z Z) : ∃ s p n cap, z = .agg #[.int .i64 s, .slice p n cap] ∧ Hid (IsZ w (.agg #[.int .i64 s, .slice p n cap]) Z) := by
  obtain ⟨p, n, cap, f, rfl, r⟩ := h
  exact ⟨_, p, n, cap, rfl, p, n, cap, f, rfl, r⟩

theorem z_open {w : World} {s : Int} {p : Option Addr} {n cap : Nat} {Z : Int} (h : IsZ w (.agg #[.int .i64 s, .slice p n cap]) Z) : s = sg Z ∧ n ≤ cap ∧ cap ≤ maxLen ∧ ∃ f, At .i64 w p n f ∧ (∀ j, j < n → f j < 10) ∧ (n = 0 ∨ f (n - 1) ≠ 0) ∧ V 10 f 0 n = Z.natAbs := by
  obtain ⟨p', n', c', f, he, h1, h2, h3⟩ := h
  simp at he
  obtain ⟨rfl, rfl, rfl, rfl⟩ := he
  exact ⟨rfl, h1, h2, f, h3⟩

theorem z_some {w : World} {s : Int} {p : Option Addr} {n c : Nat} {Z : Int} (h : IsZ w (.agg #[.int .i64 s, .slice p n c]) Z) (hn : 0 < n) : ∃ a, p = some a ∧ a.block < w.heap.size := by
  obtain ⟨_, _, _, f, hat, _⟩ := z_open h
  rcases hat with h | ⟨g, off, rfl, hg, _⟩
  · omega
  · exact ⟨_, rfl, hg⟩

theorem zcells_of {w : World} {r : Nat} {s : Int} {p : Option Addr} {n c : Nat} {T : TypeId} (h : w.heap[r]? = some (.cells #[.int .i64 s, .slice p n c] T (0, 0))) : w.cell? ⟨r, 0, none⟩ = some (.int .i64 s) ∧ w.cell? ⟨r, 1, none⟩ = some (.slice p n c) ∧ ∀ o, w.frozen? ⟨r, o, none⟩ = false :=
  ⟨by rw [cell_of_row w r 0 _ T (0, 0) h]; rfl, by rw [cell_of_row w r 1 _ T (0, 0) h]; rfl, fun o => by simp [World.frozen?, h]⟩

/-- The digits of a number are no fresh box. -/
theorem z_off {w3 : World} {r : Nat} {T : TypeId} {s0 s : Int} {p0 p : Option Addr} {n0 n c0 c : Nat} {Z : Int} (hb : w3.heap[r]? = some (.cells #[.int .i64 0, .slice none 0 0] T (0, 0))) (hx : IsZ w3 (.agg #[.int .i64 s, .slice p n c]) Z) :
    IsZ ((w3.setCell ⟨r, 0, none⟩ (.int .i64 s0)).setCell ⟨r, 1, none⟩ (.slice p0 n0 c0)) (.agg #[.int .i64 s, .slice p n c]) Z := by
  obtain ⟨rfl, h1, h2, f, hat, hf, ht, hv⟩ := z_open hx
  refine ⟨p, n, c, f, rfl, h1, h2, ?_, hf, ht, hv⟩
  rcases hat with h | ⟨g, off, rfl, hg, hcell⟩
  · exact .inl h
  · by_cases hn0 : n = 0
    · exact .inl hn0
    · have hgr : g ≠ r := by
        intro e; subst e
        have hc0 := hcell 0 (by omega)
        have hc1 := hcell (n - 1) (by omega)
        rw [cell_of_row w3 g _ _ T (0, 0) hb] at hc0 hc1
        rcases ht with h | h
        · omega
        · match off + (n - 1), hc1 with
          | 0, hc1 => simp at hc1; omega
          | 1, hc1 => simp at hc1
          | o + 2, hc1 => simp at hc1
      refine .inr ⟨g, off, rfl, by simpa [World.setCell] using hg, fun j hj => ?_⟩
      have e1 : ((w3.setCell ⟨r, 0, none⟩ (.int .i64 s0)).setCell ⟨r, 1, none⟩ (.slice p0 n0 c0)).heap[g]? = w3.heap[g]? := by
        rw [Below.heap_setCell _ _ _ _ (by simpa using hgr), Below.heap_setCell _ _ _ _ (by simpa using hgr)]
      exact (World.cell?_of_block (w := w3) e1).trans (hcell j hj)

/-- The result handed back through the box that was made for it. -/
theorem z_ret {w W w3 : World} {r : Nat} {T : TypeId} {s : Int} {p : Option Addr} {n c : Nat} {Z : Int} (hb : W.heap[r]? = some (.cells #[.int .i64 0, .slice none 0 0] T (0, 0))) (hg : W.grownBy w3 none) (hx : IsZ w3 (.agg #[.int .i64 s, .slice p n c]) Z)
    (h0 : w.grownBy W none) (hr : w.heap.size ≤ r) {R : World} (hR : R = (w3.setCell ⟨r, 0, none⟩ (.int .i64 s)).setCell ⟨r, 1, none⟩ (.slice p n c)) :
    IsZ R (.agg #[.int .i64 s, .slice p n c]) Z ∧ w.grownBy R none ∧ R.cell? ⟨r, 0, none⟩ = some (.int .i64 s) ∧ R.cell? ⟨r, 1, none⟩ = some (.slice p n c) := by
  have hrW := (Array.getElem?_eq_some_iff.1 hb).1
  have hb3 := (hg.block r hrW (by simp)).trans hb
  have h1 : (w3.setCell ⟨r, 0, none⟩ (.int .i64 s)).heap[r]? = some (.cells #[.int .i64 s, .slice none 0 0] T (0, 0)) := by
    simp only [World.setCell, Array.getElem?_modify, hb3, if_true, Option.map_some]; rfl
  have h2 : ((w3.setCell ⟨r, 0, none⟩ (.int .i64 s)).setCell ⟨r, 1, none⟩ (.slice p n c)).heap[r]? = some (.cells #[.int .i64 s, .slice p n c] T (0, 0)) := by
    rw [World.setCell]
    simp only [Array.getElem?_modify, h1, if_true, Option.map_some]; rfl
  have hx := z_off (s0 := s) (p0 := p) (n0 := n) (c0 := c) hb3 hx
  rw [← hR] at h2 hx
  refine ⟨hx, ?_, by rw [cell_of_row _ r 0 _ T (0, 0) h2]; rfl, by rw [cell_of_row _ r 1 _ T (0, 0) h2]; rfl⟩
  rw [hR]
  exact below_gb (gb_new (gb_below (gb_trans h0 hg)) hr (gb_set (gb_set (gb_refl _ _) _) _))

/-- What made tells: the digits lie where they lay. -/
def MadePost (p : Option Addr) (Z : Int) (w : World) (e : Ending) (w' : World) : Prop := ∃ s3 p3 n3 c3, e = .returned (.agg #[.int .i64 s3, .slice p3 n3 c3]) ∧ IsZ w' (.agg #[.int .i64 s3, .slice p3 n3 c3]) Z ∧ w.grownBy w' none ∧ (0 < n3 → p3 = p)

set_option maxHeartbeats 1000000 in
theorem made_c (s : Int) (p : Option Addr) (n cap : Nat) (f : Nat → Nat) (w : World) (hs : s = -1 ∨ s = 0 ∨ s = 1) (h0 : s = 0 → V 10 f 0 n = 0) (hn : n ≤ cap) (hc : cap ≤ maxLen) (h : At .i64 w p n f) (hf : ∀ j, j < n → f j < 10) :
    Calls Try.prog 42 #[.int .i64 s, .slice p n cap] w (MadePost p (s * V 10 f 0 n) w) := by
  have hz0 : ∀ (v : Nat), v = 0 → (s * (v : Int)) = 0 := fun v h => by subst h; simp
  have HFIN := Lib.hid (fun (m : Nat) (W : World) (hg : w.grownBy W none) (hm : m ≤ n) (hz : ∀ j, m ≤ j → j < n → f j = 0) (hp : 0 < m) (ht : f (m - 1) ≠ 0) => made_fin hs h0 hm hn hc (h.grown hg (by simp)) hf hz hp ht)
  have hgw := World.grownBy_alloc w (.cells #[.int .i64 0, .slice none 0 0] 31) none
  have h := h.grown hgw (by simp)
  have HG := Lib.hid hgw
  have HZ0 := Lib.hid hz0
  clear hgw hz0 hs h0 hf
  unfold maxLen at hc
  go_enter Try.func42, Try.ntmps42
  go_wp2
  go_loop [5] (fun i => ∃ m : Nat, m ≤ n ∧ i = .int .i64 m ∧ Hid (∀ j, m ≤ j → j < n → f j = 0)) (fun i => (intOf i).toNat)
  case atStart => exact ⟨n, Nat.le_refl _, rfl, fun j h1 h2 => by omega⟩
  case round =>
    obtain ⟨m, hm, rfl, HZ⟩ := hrel
    by_cases h0 : 0 < m
    · rcases h with h | ⟨g, off, rfl, hg, hcell⟩
      · omega
      have hk := hcell (m - 1) (by omega)
      clear hcell
      have hi : (0:Int) < (m : Int) := by omega
      by_cases hv : f (m - 1) = 0
      · rw [hv] at hk
        have HV := Lib.hid hv
        clear hv
        go_wp2
        go_round
        case rel => exact ⟨m - 1, by omega, val_of (by omega), fun j h1 h2 => by
          by_cases e : j = m - 1
          · subst e; exact HV.out
          · exact HZ.out j (by omega) h2⟩
        case measure => simp [intOf]; omega
      · have HV := Lib.hid hv
        have hv1 : ((f (m - 1) : Int) == 0) = false := beq_eq_false_iff_ne.2 (by omega)
        have hv2 : ((m : Int) == 0) = false := beq_eq_false_iff_ne.2 (by omega)
        have hg2 := World.grownBy_alloc w (.cells #[.int .i64 s, .slice (some ⟨g, off, none⟩) m cap] 31) none
        have HG2 := Lib.hid hg2
        clear hv hg2
        go_wp2
        exact bodyPost_ret (v := .agg #[.int .i64 s, .slice (some ⟨g, off, none⟩) m cap]) (by simp [results, Try.results42, go_sem]) rfl ⟨_, _, _, _, rfl, HFIN.out m _ HG2.out hm HZ.out h0 HV.out, HG2.out, fun _ => rfl⟩
    · obtain rfl : m = 0 := by omega
      have hv0 : V 10 f 0 n = 0 := V_zeros (fun j hj => by simpa using HZ.out j (Nat.zero_le _) hj)
      have HV0 := Lib.hid (HZ0.out _ hv0)
      clear hv0
      go_wp2
      exact bodyPost_ret (v := .agg #[.int .i64 0, .slice none 0 0]) (by simp [results, Try.results42, go_sem]) rfl ⟨_, _, _, _, rfl, by rw [HV0.out]; exact isZ_zero _, HG.out, fun h => by omega⟩
end Go.Proofs.Ytkonfkcaefjabaa
