/- A node's dump. -/
import Derived.Test.YtdilncefhfbgeaaGreatDoorM10
set_option linter.unusedVariables false
set_option linter.unusedSimpArgs false
namespace Go.Proofs.YtdilncefhfbgeaaGreatDoor
open Go.RowKit

theorem OwnL.okept {w w' : World} {base b : Nat} {v : Value} {l : List Int} (h : OwnL w base v l) (hg : OKept b w w') (hb : v.ownBlock ≠ some b) : OwnL w' base v l :=
  ⟨⟨h.1.1, h.1.2.imp id fun ⟨g, cap, cur, e, hh, hb1, r⟩ => ⟨g, cap, cur, e, hh, hg g cur _ hb1 (by decide) (fun e2 => hb (by rw [e, e2]; rfl)), r⟩⟩, h.2⟩

theorem OwnL.block {w : World} {base : Nat} {v : Value} {l : List Int} (h : OwnL w base v l) : ∀ k, v.ownBlock = some k → ∃ cs, w.heap[k]? = some (.cells cs 3 (0, 0)) := fun k e => by
  rcases h.1.2 with ⟨h1, -⟩ | ⟨g, cap, cur, h1, hb, hg, -⟩
  · rw [h1] at e; cases e
  · rw [h1] at e
    have : g = k := by simpa [Value.ownBlock] using e
    subst this
    exact ⟨cur, hg⟩

end Go.Proofs.YtdilncefhfbgeaaGreatDoor
