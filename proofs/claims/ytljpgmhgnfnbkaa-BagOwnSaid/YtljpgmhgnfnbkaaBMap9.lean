/- Maps: what the law holds side by side. -/
import Derived.Test.YtljpgmhgnfnbkaaBMap8
import Derived.Test.YtljpgmhgnfnbkaaBPair2
import Derived.Test.YtljpgmhgnfnbkaaBRow
namespace Go.Proofs.Ytljpgmhgnfnbkaa
open Go.RowKit Mx

theorem pat_row {T : TypeId} {w : World} {base n c : Nat} {p : Option Addr} {l : List (Int × Int)} (h : w.ownsRow base T 2 (.slice p n c) l.length (cellsP l)) : n = l.length ∧ PAt w p l ∧ n ≤ c := by
  rcases h.2 with ⟨e, h0⟩ | ⟨g, cap, cur, e, hb, hg, hnc, hcm, h1, h2⟩
  · injection e with e1 e2 e3
    subst e2; subst e3
    exact ⟨h0.symm, .inl (List.eq_nil_of_length_eq_zero h0), Nat.le_refl _⟩
  · injection e with e1 e2 e3
    subst e1; subst e2; subst e3
    refine ⟨rfl, .inr ⟨g, 0, rfl, (Array.getElem?_eq_some_iff.1 hg).1, fun j hj => ?_⟩, hnc⟩
    obtain ⟨g1, g2⟩ := cellsP_get l j hj
    rw [Nat.zero_add]
    exact ⟨by rw [h.cellAt _ (by omega)]; exact g1, by rw [h.cellAt _ (by omega)]; exact g2⟩

theorem lat_row {w : World} {base n c : Nat} {p : Option Addr} {zs : List Int} (h : OwnL w base (.slice p n c) zs) : n = zs.length ∧ LAt w p zs := by
  have h' : w.ownsRow base 3 1 (.slice p n c) zs.length (zs.map (Value.int .i64)) := h
  rcases h'.2 with ⟨e, h0⟩ | ⟨g, cap, cur, e, hb, hg, hnc, hcm, h1, h2⟩
  · injection e with e1 e2 e3
    subst e2
    exact ⟨h0.symm, .inl (List.eq_nil_of_length_eq_zero h0)⟩
  · injection e with e1 e2 e3
    subst e1; subst e2; subst e3
    refine ⟨rfl, .inr ⟨g, 0, rfl, (Array.getElem?_eq_some_iff.1 hg).1, fun j hj => ?_⟩⟩
    rw [Nat.zero_add, h'.cellAt _ (by omega)]
    simp [List.getD, hj]

/-- The map and the list. -/
structure MX (w0 cur : World) (q b n : Nat) (v : Value) (l : List (Int × Int)) : Prop where
  map : MapAt cur q b n l
  len : l.length ≤ n
  hq : w0.heap.size ≤ q
  hb : w0.heap.size ≤ b
  row : OwnP cur w0.heap.size v l
  gb : w0.grownBy cur none

theorem MX.kept {w0 cur w' : World} {q b n : Nat} {v : Value} {l : List (Int × Int)} (h : MX w0 cur q b n v l) (hg : cur.grownBy w' none) : MX w0 w' q b n v l :=
  ⟨h.map.kept hg, h.len, h.hq, h.hb, h.row.kept hg, gb_trans h.gb hg⟩

theorem MX.turn {w0 cur w' : World} {q b n : Nat} {v : Value} {l : List (Int × Int)} (h : MX w0 cur q b n v l) (hg : cur.grownBy w' (some b)) : OwnP w' w0.heap.size v l ∧ w0.grownBy w' none := by
  refine ⟨?_, below_gb (gb_new (gb_below h.gb) h.hb hg)⟩
  obtain ⟨es, clock, hb, -⟩ := h.map.own
  exact World.ownsRow.kept h.row hg (Go.Proofs.ownsRow_ne_a h.row hb (fun cur e => by cases e))

theorem get_none {l : List (Int × Int)} {k : Int} (h : ∀ j, j < l.length → (l.getD j (0, 0)).1 ≠ k) : hasL l k = false ∧ delL l k = l ∧ atL l k = (0, 0) := by
  have hm : ∀ p ∈ l, p.1 ≠ k := fun p hp => by
    obtain ⟨j, hj, rfl⟩ := List.getElem_of_mem hp
    have := h j hj
    simpa [List.getD, hj] using this
  refine ⟨?_, ?_, ?_⟩
  · unfold hasL
    rw [List.any_eq_false]
    intro p hp; simpa using hm p hp
  · unfold delL
    rw [List.filter_eq_self]
    intro p hp; simpa using hm p hp
  · unfold atL
    rw [List.find?_eq_none.2 (fun p hp => by simpa using hm p hp)]
    rfl

theorem get_some {l : List (Int × Int)} {k : Int} {j : Nat} (hr : Rising l) (hj : j < l.length) (h : (l.getD j (0, 0)).1 = k) : hasL l k = true ∧ l.take j ++ l.drop (j + 1) = delL l k ∧ (atL l k).2 = (l.getD j (0, 0)).2 := by
  have hg : l.getD j (0, 0) = l[j] := by simp [List.getD, hj]
  rw [hg] at h ⊢
  have hsplit : l = l.take j ++ l[j] :: l.drop (j + 1) := by rw [← List.drop_eq_getElem_cons hj, List.take_append_drop]
  have hr' := hr
  unfold Rising at hr'
  rw [hsplit, List.pairwise_append] at hr'
  obtain ⟨-, h2, h3⟩ := hr'
  have ha : ∀ p ∈ l.take j, p.1 ≠ k := fun p hp => by have := h3 p hp l[j] (List.mem_cons_self ..); omega
  have hb : ∀ p ∈ l.drop (j + 1), p.1 ≠ k := fun p hp => by have := (List.pairwise_cons.1 h2).1 p hp; omega
  have fa : (l.take j).filter (fun p => !(p.1 == k)) = l.take j := List.filter_eq_self.2 fun p hp => by simpa using ha p hp
  have fb : (l.drop (j + 1)).filter (fun p => !(p.1 == k)) = l.drop (j + 1) := List.filter_eq_self.2 fun p hp => by simpa using hb p hp
  refine ⟨?_, ?_, ?_⟩
  · unfold hasL
    rw [List.any_eq_true]
    exact ⟨l[j], List.getElem_mem hj, by simpa using h⟩
  · unfold delL
    conv => rhs; rw [hsplit]
    rw [List.filter_append, List.filter_cons_of_neg (by simpa using h), fa, fb]
  · have hf : l.find? (fun p => p.1 == k) = some l[j] := by
      have : (l.take j ++ l[j] :: l.drop (j + 1)).find? (fun p => p.1 == k) = some l[j] := by
        rw [List.find?_append, List.find?_eq_none.2 (fun p hp => by simpa using ha p hp), Option.none_or, List.find?_cons_of_pos (by simpa using h)]
      exact (congrArg (List.find? fun p => p.1 == k) hsplit).trans this
    unfold atL
    rw [hf]; rfl

theorem putL_len2 (l : List (Int × Int)) (k v : Int) (n : Nat) (h : l.length ≤ n) : (putL l k v).length ≤ n + 1 := by
  have := putL_len l k v; omega

theorem delL_len (l : List (Int × Int)) (k : Int) : (delL l k).length ≤ l.length := List.length_filter_le _ _
end Go.Proofs.Ytljpgmhgnfnbkaa
