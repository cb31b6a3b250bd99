/- A slice of structs that came in, opened: each element's cells, and that they read. -/
import Derived.Test.YtdfegmdmappefaaDoorGRow
import Derived.Deep.Slices
import Derived.ChangeArms
import Derived.OpenShut
namespace Go.Proofs.YtdfegmdmappefaaDoor
open Go.RowKit

section
open Go.ChangeShapes Go.WideShapes Go.Deep
variable {H : Type} {enc : TypeId × Value → H} {P : Program} {w : World} {base : Nat} {spare : Nat → Bool} {held : Bool}

theorem open_rows {t e : TypeId} {s fuel : Nat} {v : Option Addr} {n c : Nat} {x : DataW H × List MemPlace} (ht : P.underlying t = some (.slice e)) (ce : P.cellsOf e = s) (hs : 0 < s)
    (h : DataW.trod enc P w base spare held fuel t [.slice v n c] = some x) : n ≤ c ∧ c ≤ maxLen ∧ ∃ q : Nat → List Value, (∀ j, j < n → (q j).length = s ∧ ∃ f' x', DataW.trod enc P w base spare held f' e (q j) = some x') ∧ GAt s w v ((List.range n).map q) := by
  rcases open_slice ht h with ⟨h0, -⟩ | ⟨a, len, cap, m, nn, Dd, Pl, hcs, hb, hl, hm, hmm, -, hx⟩
  · simp at h0
    obtain ⟨rfl, rfl, rfl⟩ := h0
    exact ⟨Nat.le_refl _, by omega, fun _ => [], fun j hj => by omega, .inl rfl⟩
  · simp at hcs
    obtain ⟨rfl, rfl, rfl⟩ := hcs
    have hlm : n ≤ m := by rw [hmm]; split <;> omega
    have each : ∀ i, i < n → ∃ q : List Value, q.length = s ∧ (∃ f' x', DataW.trod enc P w base spare held f' e q = some x') ∧ ∀ j, j < s → w.cell? (a.add (i * s + j)) = q[j]? := by
      intro i hi
      obtain ⟨cs', h1, h2⟩ := hx i (by omega)
      rw [ce] at h1
      obtain ⟨_, hlen, hcell⟩ := World.cells?_some h1
      refine ⟨cs', hlen, ⟨_, _, h2⟩, fun j hj => ?_⟩
      have := hcell j (by omega)
      rw [add_add] at this
      exact this
    refine ⟨hl, hm, ?_⟩
    obtain ⟨q, hq⟩ := choose_lt each
    refine ⟨q, fun j hj => ⟨(hq j hj).1, (hq j hj).2.1⟩, ?_⟩
    by_cases h0 : n = 0
    · subst h0; exact .inl rfl
    · have hs1 := (hq 0 (by omega)).2.2 0 hs
      have hq0 : ∃ u, (q 0)[0]? = some u := ⟨(q 0)[0]'(by rw [(hq 0 (by omega)).1]; exact hs), List.getElem?_eq_getElem _⟩
      obtain ⟨u, hu⟩ := hq0
      rw [hu] at hs1
      have hsp := World.cell?_spot hs1
      have hlt := World.block_lt_of_cell? w _ hs1
      obtain ⟨g, o, sp⟩ := a
      have hsp : sp = none := by simpa [Addr.add] using hsp
      subst hsp
      refine .inr ⟨g, o, rfl, by simpa [Addr.add] using hlt, fun j l hj i u hi => ?_⟩
      rw [List.getElem?_map] at hj
      obtain ⟨j', hj', rfl⟩ := Option.map_eq_some_iff.1 hj
      have hjn : j < n := by have := (List.getElem?_eq_some_iff.1 hj').1; simpa using this
      have : j' = j := by rw [List.getElem?_range hjn] at hj'; exact (Option.some.inj hj').symm
      subst this
      have his : i < s := by have := (List.getElem?_eq_some_iff.1 hi).1; rw [(hq j' hjn).1] at this; exact this
      have := (hq j' hjn).2.2 i his
      rw [Addr.add_lit, hi, ← Nat.add_assoc] at this
      exact this
end
end Go.Proofs.YtdfegmdmappefaaDoor
