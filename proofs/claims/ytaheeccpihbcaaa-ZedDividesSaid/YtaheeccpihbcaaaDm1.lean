/- Int: quotient and rest. -/
import Derived.Test.YtaheeccpihbcaaaInt7
namespace Go.Proofs.Ytaheeccpihbcaaa
open Go.RowKit Mx

theorem int_off {W w3 : World} {r : Nat} {b0 : Bool} {q : Option Addr} {l c0 : Nat} {T : TypeId} {s : Bool} {p : Option Addr} {n c : Nat} {y : Value} {Z : Int} (hb : W.heap[r]? = some (.cells #[.bool b0, .slice q l c0] T (0, 0))) (hg : W.grownBy w3 none) (hx : IsInt w3 y Z) :
    IsInt ((w3.setCell ⟨r, 0, none⟩ (.bool s)).setCell ⟨r, 1, none⟩ (.slice p n c)) y Z := by
  have hrW := (Array.getElem?_eq_some_iff.1 hb).1
  have hb3 := (hg.block r hrW (by simp)).trans hb
  obtain ⟨s', v', N, he, hn, h3, h4⟩ := hx
  refine ⟨s', v', N, he, hn.off (box_cells hb3 _) (by simp [World.setCell]) (fun b o hbr => ?_), h3, h4⟩
  have e1 : ((w3.setCell ⟨r, 0, none⟩ (.bool s)).setCell ⟨r, 1, none⟩ (.slice p n c)).heap[b]? = w3.heap[b]? := by
    rw [Below.heap_setCell _ _ _ _ (by simpa using hbr), Below.heap_setCell _ _ _ _ (by simpa using hbr)]
  exact World.cell?_of_block (w := w3) e1

def DmPost (X Y : Int) (w : World) (e : Ending) (w' : World) : Prop :=
  ∃ x y, e = .returned (.tuple #[x, y, .int .i64 0]) ∧ IsInt w' x (X / Y) ∧ IsInt w' y (X % Y) ∧ w.grownBy w' none

theorem dm_nonneg (s2 : Bool) (A B : Nat) (hB : B ≠ 0) : sgn false A / sgn s2 B = sgn (false != s2) ((A / B : Nat)) ∧ sgn false A % sgn s2 B = sgn false ((A % B : Nat)) := by
  cases s2 <;> simp [sgn]

theorem dm_neg0 (s2 : Bool) (A B : Nat) (hB : B ≠ 0) (h0 : A % B = 0) : sgn true A / sgn s2 B = sgn (true != s2) ((A / B : Nat)) ∧ sgn true A % sgn s2 B = sgn false ((A % B : Nat)) := by
  obtain ⟨k, rfl⟩ : ∃ k, A = B * k := ⟨A / B, by have := Nat.div_add_mod A B; omega⟩
  have hp : 0 < B := by omega
  have hb : (B : Int) ≠ 0 := by omega
  rw [Nat.mul_div_cancel_left _ hp, h0]
  cases s2 <;> simp [sgn, Int.neg_ediv_of_dvd, hb] <;> exact Int.mul_ediv_cancel_left _ hb

theorem dm_neg1 (s2 : Bool) (A B : Nat) (hB : B ≠ 0) (h0 : A % B ≠ 0) : sgn true A / sgn s2 B = sgn (true != s2) ((A / B + 1 : Nat)) ∧ sgn true A % sgn s2 B = sgn false ((B - A % B : Nat)) := by
  have hlt : A % B < B := Nat.mod_lt _ (by omega)
  have hdm := Nat.div_add_mod A B
  generalize A / B = q at *
  generalize A % B = r at *
  subst hdm
  have hb : (B : Int) ≠ 0 := by omega
  cases s2
  · have h := (Int.ediv_emod_unique (a := -((B * q + r : Nat) : Int)) (b := (B : Int)) (q := -((q + 1 : Nat) : Int)) (r := ((B - r : Nat) : Int)) (by omega)).2 ⟨by
      have : ((B - r : Nat) : Int) = (B : Int) - r := by omega
      rw [this, Int.natCast_add (B * q) r, Int.natCast_mul, Int.natCast_add q 1]
      grind, by omega, by omega⟩
    simpa [sgn] using h
  · have h := (Int.ediv_emod_unique (a := -((B * q + r : Nat) : Int)) (b := (B : Int)) (q := -((q + 1 : Nat) : Int)) (r := ((B - r : Nat) : Int)) (by omega)).2 ⟨by
      have : ((B - r : Nat) : Int) = (B : Int) - r := by omega
      rw [this, Int.natCast_add (B * q) r, Int.natCast_mul, Int.natCast_add q 1]
      grind, by omega, by omega⟩
    constructor
    · have := h.1
      simp only [sgn]
      simp [Int.ediv_neg]
      simp at this
      omega
    · have := h.2
      simp only [sgn]
      simp [Int.emod_neg]
      simpa using this
end Go.Proofs.Ytaheeccpihbcaaa
