/- Lemmas. -/
import Derived.Test.YtddccnpohpaofaaGreatDoorP37
set_option linter.unusedVariables false
set_option linter.unusedSimpArgs false
namespace Go.Proofs.YtddccnpohpaofaaGreatDoor
open Go.RowKit

/-- What is read with some depth is the same with 200. -/
structure ReadF (l : List UInt8) (D : Int) (f : Bool) : Prop where
  d1 : 1 ≤ D
  d2 : D ≤ 200
  lex : (allE l).2.1 = 0
  ok : (treeT (allE l).1 D.toNat f).2.e = 0
  same : treeT (allE l).1 200 f = treeT (allE l).1 D.toNat f
  nodes : nodesQ l 200 f = nodesQ l D f
  ans : (ansQ l 200 f).2.1 = 0
theorem read_f {l : List UInt8} {D : Int} {f : Bool} (hl : l.length ≤ 30000) (h : (ansQ l D f).2.1 = 0) : ReadF l D f := by
  have hr : ¬ (D < 1 ∨ 200 < D) := fun e => by
    unfold ansQ at h; rw [if_pos e] at h; cases h
  have hx : (allE l).2.1 = 0 := by
    rcases Nat.eq_zero_or_pos (allE l).2.1 with h9 | h9
    · exact h9
    · rw [ans_lex hr (by omega) (by omega)] at h
      have h : (allE l).2.1 = 0 := h
      omega
  have ht : (treeT (allE l).1 D.toNat f).2.e = 0 := by
    have h9 := ans_good (f := f) hr (by omega) hx
    rcases Nat.eq_zero_or_pos (treeT (allE l).1 D.toNat f).2.e with h8 | h8
    · exact h8
    · rw [if_neg (by omega)] at h9
      rw [h9] at h
      have h : (treeT (allE l).1 D.toNat f).2.e = 0 := h
      omega
  have hs : treeT (allE l).1 200 f = treeT (allE l).1 D.toNat f := by
    rcases parse_depths hx (D := D.toNat) (D' := 200) (by omega) (by omega) f with e | ⟨e, -⟩
    · exact e.symm
    · rw [ht] at e; cases e
  refine ⟨by omega, by omega, hx, ht, hs, ?_, ?_⟩
  · unfold nodesQ
    rw [show ((200 : Int)).toNat = 200 from rfl, hs]
  · have h9 := ans_good (D := 200) (f := f) (by omega) (by omega) hx
    rw [show ((200 : Int)).toNat = 200 from rfl, hs, if_pos ht] at h9
    rw [h9]

/-- The tree of a formula alone: an expression, and the end. -/
theorem alone_one {l : List UInt8} {D : Int} (h : ReadF l D true) : ∃ t i, (treeT (allE l).1 D.toNat true).1 = [t, .lf i] ∧ isN t = true ∧ WE (allE l).1 t := by
  have h0 := h.ok
  unfold treeT at h0 ⊢
  rw [if_pos rfl] at h0 ⊢
  obtain ⟨k1, -, k3⟩ := kind_w (allE l).1 (k := 5) (s := ((nxT (allE l).1 D.toNat D.toNat).expr (setIn true startQ)).2) h0
  have hw := nx_w (allE l).1 (num_all l) D.toNat D.toNat (Nat.le_refl _)
  obtain ⟨t, ht, h1, h2⟩ := hw.expr (setIn true startQ) k3
  refine ⟨t, ((nxT (allE l).1 D.toNat D.toNat).expr (setIn true startQ)).2.i, ?_, h1, h2⟩
  show ((nxT (allE l).1 D.toNat D.toNat).expr (setIn true startQ)).1 ++ (kindT (allE l).1 5 ((nxT (allE l).1 D.toNat D.toNat).expr (setIn true startQ)).2).1 = _
  rw [ht, k1]; rfl
/-- How many kids a node may have. -/
theorem kids_few {l : List UInt8} {D : Int} {f : Bool} (hN : (nodesQ l D f).length ≤ 150000) : ∀ (i : Nat) (x : Nd), (nodesQ l D f)[i]? = some x → x.kids.length ≤ 150000 := fun i x hx => by
  have h1 := kids_room (.nd (kindR f) (treeT (allE l).1 D.toNat f).1) 0 x (List.mem_of_getElem? hx)
  have h2 : (nodesQ l D f).length = (post 0 (.nd (kindR f) (treeT (allE l).1 D.toNat f).1)).length := rfl
  omega
/-- The expression of a formula's tree. -/
def formE (l : List UInt8) (D : Int) : Ex := (axTs (allE l).1 (treeT (allE l).1 D.toNat true).1).headD nilE

/-! ### FormulaOf -/

def FormPost (x : Ex) (w : World) (e : Ending) (w' : World) : Prop := w.grownBy w' none ∧ ∃ q, e = .returned (.tuple #[.agg q.toArray, .int .i64 0]) ∧ EAt (fun k => w.heap.size ≤ k) w' x q

theorem form_root {l : List UInt8} {D : Int} (h : ReadF l D true) : ∃ (t : Tr) (ks : List Int) (k0 : Nat), (nodesQ l D true)[(nodesQ l D true).length - 1]? = some ⟨18, -1, ks⟩ ∧ ks[0]? = some (k0 : Int) ∧ GoodE (allE l).1 (nodesQ l D true) (k0 : Int) t ∧ axT (allE l).1 t = formE l D ∧ szR t ≤ (nodesQ l D true).length := by
  obtain ⟨t, i, ht, h1, h2⟩ := alone_one h
  have hr := TrAt.root (.nd 18 (treeT (allE l).1 D.toNat true).1)
  have hNN : nodesQ l D true = post 0 (.nd 18 (treeT (allE l).1 D.toNat true).1) := rfl
  obtain ⟨n, ks, hn, hx, hkt⟩ := hr.nd
  have hlen : (nodesQ l D true).length = szR (.nd 18 (treeT (allE l).1 D.toNat true).1) := by rw [hNN, post_len]
  have hn' : n = (nodesQ l D true).length - 1 := by omega
  rw [← hNN] at hx hkt
  rw [hn'] at hx
  obtain ⟨k0, hk0, hta, -⟩ := hkt.2 0 t (by rw [ht]; rfl)
  have hko := tree_ko (allE l).1 D.toNat true
  have hlv := tree_leaves h.lex D.toNat true h.ok
  rw [KO, ht] at hko
  rw [ht] at hlv
  simp only [kOks] at hko
  refine ⟨t, ks, k0, hx, hk0, ⟨h1, h2, hko.1, fun j hj => ?_, hta⟩, ?_, ?_⟩
  · have : j ∈ lvTs [t, .lf i] := by simp only [lvTs, List.mem_append]; exact .inl hj
    rw [hlv] at this
    exact List.mem_range.1 this
  · unfold formE
    rw [ht]
    rw [axTs, if_pos h1]; rfl
  · rw [hlen, ht]
    simp only [szR, szRs]; omega
end Go.Proofs.YtddccnpohpaofaaGreatDoor
