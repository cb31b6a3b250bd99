/- A program's rows while it is made anew without clauses: what lies in old memory stays beside what is new. -/
import Derived.Test.YtoahgeleenpnjaaGreatDoorE40
set_option linter.unusedVariables false
set_option linter.unusedSimpArgs false
namespace Go.Proofs.YtoahgeleenpnjaaGreatDoor
open Go.RowKit

/-- Old memory of F, and what was made since, but for the blocks of X. -/
def KeepF (F : Nat → Prop) (B0 B : Nat) (w : World) (X : Nat → Prop) : Nat → Prop := fun k => (F k ∧ k < B0) ∨ (B ≤ k ∧ k < w.heap.size ∧ ¬ X k)
theorem Ds_moveF {F X X' : Nat → Prop} {B0 B : Nat} {w w' : World} {l : List Dx} {r : List (List Value)} (hf : Fr2 X w w') (hX : ∀ k, X k → B0 ≤ k) (hx : ∀ k, k < w.heap.size → ¬ X k → ¬ X' k) (h : DsAt (KeepF F B0 B w X) w l r) : DsAt (KeepF F B0 B w' X') w' l r :=
  Ds_mono (fun k hk => by
    rcases hk with hk | hk
    · exact .inl hk
    · exact .inr ⟨hk.1, Nat.lt_of_lt_of_le hk.2.1 hf.size, hx k hk.2.1 hk.2.2⟩) (Ds_same hf (fun k hk e => by
    rcases hk with hk | hk
    · have h1 := hX k e; have h2 := hk.2; omega
    · exact hk.2.2 e) h)
/-- A definition more. -/
theorem push_defF {F : Nat → Prop} {wr w7 wa w9 : World} {B0 B b j base ni ci nd cd g9 n9 cap9 : Nat} {pi pd : Option Addr} {irows rows : List (List Value)} {q : List Value} {ks : List Dx} {x : Dx} {u : Value} (hB0 : B0 ≤ b) (hB00 : B0 ≤ B) (hB : B ≤ wr.heap.size) (hb : b < base) (hbr : b < wr.heap.size)
    (hOi : OwnG 2 99 wr base (.slice pi ni ci) irows) (hOd : OwnG 15 62 wr base (.slice pd nd cd) rows)
    (hLS : DsAt (KeepF F B0 B wr (Wr3 b (.slice pi ni ci) (.slice pd nd cd))) wr ks rows) (hg7 : wr.grownBy w7 none) (hq : DAt (fun k => (F k ∧ k < B0) ∨ wr.heap.size ≤ k) w7 x q) (hga : w7.grownBy wa none) (hsa : wa.heap.size = w7.heap.size + 1)
    (hg9 : wa.grownBy w9 (Value.slice pd nd cd).ownBlock) (hl9 : (Value.slice pd nd cd).ownBlock = some g9 ∨ g9 = w7.heap.size + 1) :
    DsAt (KeepF F B0 B (w9.setCell ⟨b, j, none⟩ u) (Wr3 b (.slice pi ni ci) (.slice (some ⟨g9, 0, none⟩) n9 cap9))) (w9.setCell ⟨b, j, none⟩ u) (ks ++ [x]) (rows ++ [q]) := by
  have hai := OwnG.at hOi
  have had := OwnG.at hOd
  have s7 := hg7.size
  have s9 := hg9.size
  have fr : Fr2 (Wr3 b (.slice pi ni ci) (.slice pd nd cd)) w7 (w9.setCell ⟨b, j, none⟩ u) :=
    (Fr2.none hga).trans ((Fr2.of hg9 (fun k e => .inr (.inr e))).trans (Fr2.setCell (Fr2.refl _ _) (.inl rfl) u))
  have hX : ∀ k, Wr3 b (.slice pi ni ci) (.slice pd nd cd) k → B0 ≤ k := fun k e => by
    rcases e with e | e | e
    · omega
    · have := (hai _ e).1; omega
    · have := (had _ e).1; omega
  have hno : ∀ k, k < w7.heap.size → ¬ Wr3 b (.slice pi ni ci) (.slice pd nd cd) k → ¬ Wr3 b (.slice pi ni ci) (.slice (some ⟨g9, 0, none⟩) n9 cap9) k := fun k hk h e => by
    rcases e with e | e | e
    · exact h (.inl e)
    · exact h (.inr (.inl e))
    · have e : g9 = k := Option.some.inj (show some g9 = some k from e)
      rcases hl9 with h9 | h9
      · exact h (.inr (.inr (by rw [h9, e])))
      · omega
  have hnew : ∀ k, wr.heap.size ≤ k → ¬ Wr3 b (.slice pi ni ci) (.slice pd nd cd) k := fun k hk e => by
    rcases e with e | e | e
    · omega
    · have := hai _ e; omega
    · have := had _ e; omega
  refine Ds_snoc ?_ ?_
  · refine DAt.mono (fun k hk => ?_) (DAt.same fr (fun k hk e => ?_) hq.bound)
    · rcases hk with ⟨hk | hk, hk2⟩
      · exact .inl hk
      · exact .inr ⟨Nat.le_trans hB hk, Nat.lt_of_lt_of_le hk2 fr.size, hno k hk2 (hnew k hk)⟩
    · rcases hk with ⟨hk | hk, hk2⟩
      · have h1 := hX k e; have h2 := hk.2; omega
      · exact hnew k hk e
  · exact Ds_moveF (X := Wr3 b (.slice pi ni ci) (.slice pd nd cd)) ((Fr2.none hg7).trans fr) hX (fun k hk => hno k (Nat.lt_of_lt_of_le hk s7)) hLS
end Go.Proofs.YtoahgeleenpnjaaGreatDoor
