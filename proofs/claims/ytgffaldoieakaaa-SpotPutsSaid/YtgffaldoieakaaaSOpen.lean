/- Spans and edits that came in. -/
import Derived.Test.YtgffaldoieakaaaSRight
import Derived.Test.YtgffaldoieakaaaSMath2
import Derived.Deep.Slices
import Derived.ChangeArms
import Derived.OpenShut
namespace Go.Proofs.Ytgffaldoieakaaa
open Go.RowKit

section
open Go.ChangeShapes Go.WideShapes Go.Deep
variable {H : Type} {enc : TypeId × Value → H} {P : Program} {w : World} {base : Nat} {spare : Nat → Bool} {held : Bool}

end
def spI2 (e : Sp) : Value × Value := (.int .i64 e.1, .int .i64 e.2)
section
open Go.ChangeShapes Go.WideShapes Go.Deep
variable {H : Type} {enc : TypeId × Value → H} {P : Program} {w : World} {base : Nat} {spare : Nat → Bool} {held : Bool}

theorem open_spans {t e : TypeId} {f0 f1 : Field} {fuel : Nat} {v : Option Addr} {n c : Nat} {x : DataW H × List MemPlace} (ht : P.underlying t = some (.slice e)) (he : P.underlying e = some (.struct #[f0, f1]))
    (ce : P.cellsOf e = 2) (o0 : f0.offset = 0) (o1 : f1.offset = 1) (c0 : P.cellsOf f0.type = 1) (c1 : P.cellsOf f1.type = 1)
    (t0 : P.underlying f0.type = some (.int .i64)) (t1 : P.underlying f1.type = some (.int .i64))
    (h : DataW.trod enc P w base spare held fuel t [.slice v n c] = some x) : n ≤ c ∧ c ≤ maxLen ∧ ∃ l : List (Int × Int), l.length = n ∧ QAt w v (l.map spI2) := by
  rcases open_slice ht h with ⟨h0, -⟩ | ⟨a, len, cap, m, nn, Dd, Pl, hcs, hb, hl, hm, hmm, -, hx⟩
  · simp at h0
    obtain ⟨rfl, rfl, rfl⟩ := h0
    exact ⟨Nat.le_refl _, by omega, [], rfl, .inl rfl⟩
  · simp at hcs
    obtain ⟨rfl, rfl, rfl⟩ := hcs
    have hlm : n ≤ m := by rw [hmm]; split <;> omega
    have each : ∀ i, i < n → ∃ q : Int × Int, w.cell? (a.add (i * 2)) = some (.int .i64 q.1) ∧ w.cell? (a.add (i * 2 + 1)) = some (.int .i64 q.2) := by
      intro i hi
      obtain ⟨cs', h1, h2⟩ := hx i (by omega)
      rw [ce] at h1
      obtain ⟨_, hlen, hcell⟩ := World.cells?_some h1
      obtain ⟨xs, k, hk, hxy, _, hxl, hf⟩ := DataW.trod_struct he h2
      match xs, hxl, cs', hlen with
      | [y0, y1], _, [v0, v1], _ =>
        have g0 := hf 0 f0 rfl
        have g1 := hf 1 f1 rfl
        simp [o0, o1, c0, c1] at g0 g1
        obtain ⟨n0, e0, -⟩ := DataW.trod_int t0 g0
        obtain ⟨n1, e1, -⟩ := DataW.trod_int t1 g1
        simp at e0 e1
        subst e0; subst e1
        have k0 := hcell 0 (by omega)
        have k1 := hcell 1 (by omega)
        rw [add_add] at k0 k1
        exact ⟨(n0, n1), by simpa using k0, by simpa using k1⟩
    refine ⟨hl, hm, ?_⟩
    obtain ⟨q, hq⟩ := choose_lt each
    refine ⟨(List.range n).map q, by simp, ?_⟩
    by_cases h0 : n = 0
    · exact .inl (by simp [h0])
    · have hs := (hq 0 (by omega)).1
      have hsp := World.cell?_spot hs
      have hlt := World.block_lt_of_cell? w _ hs
      obtain ⟨g, o, sp⟩ := a
      have hsp : sp = none := by simpa [Addr.add] using hsp
      subst hsp
      refine .inr ⟨g, o, rfl, by simpa [Addr.add] using hlt, fun j r hj => ?_⟩
      have hjn : j < n := by have := (List.getElem?_eq_some_iff.1 hj).1; simpa using this
      obtain ⟨e0, e1⟩ := hq j hjn
      rw [Addr.add_lit] at e0 e1
      have hr : r = spI2 (q j) := by
        rw [List.getElem?_map, List.getElem?_map, List.getElem?_range hjn] at hj
        simpa using hj.symm
      subst hr
      exact ⟨e0, by rw [Nat.add_assoc]; exact e1⟩

theorem open_edits {t e : TypeId} {f0 f1 : Field} {fuel : Nat} {v : Option Addr} {n c : Nat} {x : DataW H × List MemPlace} (ht : P.underlying t = some (.slice e)) (he : P.underlying e = some (.struct #[f0, f1]))
    (ce : P.cellsOf e = 2) (o0 : f0.offset = 0) (o1 : f1.offset = 1) (c0 : P.cellsOf f0.type = 1) (c1 : P.cellsOf f1.type = 1)
    (t0 : P.underlying f0.type = some (.int .i64)) (t1 : P.underlying f1.type = some .string)
    (h : DataW.trod enc P w base spare held fuel t [.slice v n c] = some x) : n ≤ c ∧ c ≤ maxLen ∧ ∃ l : List (Int × ByteArray), l.length = n ∧ QAt w v (l.map edV) := by
  rcases open_slice ht h with ⟨h0, -⟩ | ⟨a, len, cap, m, nn, Dd, Pl, hcs, hb, hl, hm, hmm, -, hx⟩
  · simp at h0
    obtain ⟨rfl, rfl, rfl⟩ := h0
    exact ⟨Nat.le_refl _, by omega, [], rfl, .inl rfl⟩
  · simp at hcs
    obtain ⟨rfl, rfl, rfl⟩ := hcs
    have hlm : n ≤ m := by rw [hmm]; split <;> omega
    have each : ∀ i, i < n → ∃ q : Int × ByteArray, w.cell? (a.add (i * 2)) = some (.int .i64 q.1) ∧ w.cell? (a.add (i * 2 + 1)) = some (.string q.2) := by
      intro i hi
      obtain ⟨cs', h1, h2⟩ := hx i (by omega)
      rw [ce] at h1
      obtain ⟨_, hlen, hcell⟩ := World.cells?_some h1
      obtain ⟨xs, k, hk, hxy, _, hxl, hf⟩ := DataW.trod_struct he h2
      match xs, hxl, cs', hlen with
      | [y0, y1], _, [v0, v1], _ =>
        have g0 := hf 0 f0 rfl
        have g1 := hf 1 f1 rfl
        simp [o0, o1, c0, c1] at g0 g1
        obtain ⟨n0, e0, -⟩ := DataW.trod_int t0 g0
        obtain ⟨n1, e1, -⟩ := DataW.trod_string t1 g1
        simp at e0 e1
        subst e0; subst e1
        have k0 := hcell 0 (by omega)
        have k1 := hcell 1 (by omega)
        rw [add_add] at k0 k1
        exact ⟨(n0, n1), by simpa using k0, by simpa using k1⟩
    refine ⟨hl, hm, ?_⟩
    obtain ⟨q, hq⟩ := choose_lt each
    refine ⟨(List.range n).map q, by simp, ?_⟩
    by_cases h0 : n = 0
    · exact .inl (by simp [h0])
    · have hs := (hq 0 (by omega)).1
      have hsp := World.cell?_spot hs
      have hlt := World.block_lt_of_cell? w _ hs
      obtain ⟨g, o, sp⟩ := a
      have hsp : sp = none := by simpa [Addr.add] using hsp
      subst hsp
      refine .inr ⟨g, o, rfl, by simpa [Addr.add] using hlt, fun j r hj => ?_⟩
      have hjn : j < n := by have := (List.getElem?_eq_some_iff.1 hj).1; simpa using this
      obtain ⟨e0, e1⟩ := hq j hjn
      rw [Addr.add_lit] at e0 e1
      have hr : r = edV (q j) := by
        rw [List.getElem?_map, List.getElem?_map, List.getElem?_range hjn] at hj
        simpa using hj.symm
      subst hr
      exact ⟨e0, by rw [Nat.add_assoc]; exact e1⟩
end
end Go.Proofs.Ytgffaldoieakaaa
