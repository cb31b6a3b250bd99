/- The program's parser: clauses; a base and a clause. -/
import Derived.Deep.RegionHeld3
import Derived.Test.YtdilncefhfbgeaaGreatDoorM23
set_option linter.unusedVariables false
set_option linter.unusedSimpArgs false
namespace Go.Proofs.YtdilncefhfbgeaaGreatDoor
open Go.RowKit

section
variable {b bb : Nat} {T : List Tok} {D n : Nat} {A0 : Nat → Prop} {vn0 : Value} {w0 w w' : World} {s : St} {u : Nat} {N : List Nd} {vn : Value} {L : List (Value × Th)}
theorem KX.setIn (hk : KX b bb T D n A0 vn0 w0 w s u N vn L) (v : Bool) : KX b bb T D n A0 vn0 w0 (w.setCell ⟨b, 7, none⟩ (.bool v)) (setIn v s) u N vn L := by
  obtain ⟨A, h1, h2, h3, h4, h5⟩ := hk
  have hf : Fr2 (Self b) w (w.setCell ⟨b, 7, none⟩ (.bool v)) := (Fr2.refl _ _).setCell (mine b) _
  exact KX.go h2 h3 h4 h5 h1.lt (h1.turn (s' := Go.Proofs.YtdilncefhfbgeaaGreatDoor.setIn v s) hf ((set_cells (i := 7) h1.box).trans rfl) h1.ok) (Step.self hf)
theorem KX.froz (hk : KX b bb T D n A0 vn0 w0 w s u N vn L) : ∀ o, w.frozen? ⟨b, o, none⟩ = false := by
  obtain ⟨A, h1, -⟩ := hk
  exact (cells10 h1.box).2.2.2.2.2.2.2.2.2.2
end
section
variable (b bb : Nat) (T : List Tok) (D : Nat)
--GEN

/-- What a call that answers a list of places leaves: one of them is none where there is a fault. -/
def CDPost (b bb : Nat) (T : List Tok) (D n k : Nat) (A0 : Nat → Prop) (vn0 : Value) (w0 : World) (s : St) (r : RT) (N : List Nd) (L : List (Value × Th)) (e : Ending) (w' : World) : Prop :=
  ∃ (v : Value) (vs : List Int) (N' : List Nd) (vn' : Value), e = .returned v ∧ KX b bb T D n A0 vn0 w0 w' r.2 r.2.i N' vn' ((v, .ints vs) :: L) ∧ OutD k N s r N' vs ∧ (s.e ≠ 0 → r.2.e ≠ 0) ∧ vs.length ≤ 300
theorem CDPost.eqv {b bb : Nat} {T : List Tok} {D n k : Nat} {A0 : Nat → Prop} {vn0 : Value} {w0 : World} {s : St} {r r' : RT} {N : List Nd} {L : List (Value × Th)} {e : Ending} {w' : World} (h : CDPost b bb T D n k A0 vn0 w0 s r N L e w') (he : Eqv r r') : CDPost b bb T D n k A0 vn0 w0 s r' N L e w' := by
  obtain ⟨v, vs, N', vn', h1, h2, h3, h4, h5⟩ := h
  exact ⟨v, vs, N', vn', h1, he.1 ▸ h2, h3.eqv he, fun h => by rw [← he.1]; exact h4 h, h5⟩
end
end Go.Proofs.YtdilncefhfbgeaaGreatDoor
