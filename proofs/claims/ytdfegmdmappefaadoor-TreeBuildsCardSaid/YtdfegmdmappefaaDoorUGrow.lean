/- Rows of one's own, two at once: where the new slice of an append lies; a list of ints read back; popped. -/
import Derived.WalkSmall
import Derived.Test.YtdfegmdmappefaaDoorUKids
namespace Go.Proofs.YtdfegmdmappefaaDoor
open Go.RowKit

theorem OwnG.keptF {S : Nat → Prop} {s : Nat} {T : TypeId} {w w' : World} {base : Nat} {v : Value} {l : List (List Value)} (h : OwnG s T w base v l) (hf : Fr2 S w w') (hS : ∀ k, v.ownBlock = some k → ¬ S k) : OwnG s T w' base v l :=
  ⟨⟨h.1.1, h.1.2.imp id fun ⟨g, cap, cur, e, hb, hh, r⟩ => ⟨g, cap, cur, e, hb, hf.keep hh (hS g (by rw [e]; rfl)), r⟩⟩, h.2⟩
theorem OwnG.keptR {row : Option Nat} {s : Nat} {T : TypeId} {w w' : World} {base : Nat} {v : Value} {l : List (List Value)} (h : OwnG s T w base v l) (hf : w.grownBy w' row) (hS : ∀ k, v.ownBlock = some k → row ≠ some k) : OwnG s T w' base v l :=
  h.keptF (Fr2.of (S := fun k => row = some k) hf (fun _ e => e)) hS
theorem OwnG.at {s : Nat} {T : TypeId} {w : World} {base : Nat} {v : Value} {l : List (List Value)} (h : OwnG s T w base v l) : ∀ k, v.ownBlock = some k → base ≤ k ∧ k < w.heap.size := h.1.lt

def Sep (a b : Value) : Prop := ∀ k, a.ownBlock = some k → b.ownBlock ≠ some k
theorem Sep.symm {a b : Value} (h : Sep a b) : Sep b a := fun k h1 h2 => h k h2 h1

section
variable {s : Nat} {t T : TypeId} {z : Value} {by' : Nat}

/-- append of one struct: where the new slice lies. -/
theorem wpList_appGl (hs0 : 0 < s) (ht : Tryd.prog.underlying t = some (.slice T)) (hT : (Tryd.prog.info? T).map (fun i => (i.zero, i.size, i.bytes)) = some (some z, s, by')) (hz : z.cells.size = s) (hby : by' ≤ 1000)
    {W : World} {ops : Array Oper} {rest : List Oper} {o : Oper} {a : Act} {Q : Exit → Act → World → Prop} (hgd : o.guard = none) (os ox : Operand) (ho : o.op = .call { callee := .builtin .append, args := #[os, ox], argTypes := #[t, t] })
    (base : Nat) (l : List (List Value)) (y : List Value) (hys : y.length = s) (hy1 : ∀ u ∈ y, u.oneCell' = true) (v : Value) (hs : a.eval os = v) (hown : OwnG s T W base v l) (H : Nat) (arr : Array Value) (harr : arr = y.toArray) (hblk : W.heap[H]? = some (.cells arr T (0, 0))) (hx : a.eval ox = .slice (some ⟨H, 0, none⟩) 1 1) (hn : l.length ≤ 1000000) (hbase : base ≤ W.heap.size) (H' : Nat) (hH' : W.heap.size = H')
    (K : ∀ g' cap' w', OwnG s T w' base (.slice (some ⟨g', 0, none⟩) (l.length + 1) cap') (l ++ [y]) → W.grownBy w' v.ownBlock → (v.ownBlock = some g' ∨ g' = H') → wpList Tryd.prog ops Q rest (a.put o.dst (.slice (some ⟨g', 0, none⟩) (l.length + 1) cap')) w') :
    wpList Tryd.prog ops Q (o :: rest) a W := by
  subst harr
  obtain ⟨i0, hi, hi0, hi1, hi2⟩ := info_parts hT
  have hb : (l.length + 1) * by' ≤ 140737488355328 := by
    have : (l.length + 1) * by' ≤ (l.length + 1) * 1000 := Nat.mul_le_mul_left _ hby
    omega
  refine wpList_append_lies (P := Tryd.prog) W hgd os ox t ho base T i0 z s by' ht hi hi0 hi1 hi2 hz hs0 v l.length l.flatten hs hown.1 ⟨H, 0, none⟩ 1 1 y hx (by omega) ?_ hy1 (by omega) (by unfold maxLen; omega) hb hbase H' hH' ?_
  · intro j u hj
    rw [Addr.add_lit, cell_of_row _ H _ _ _ (0, 0) hblk]
    rw [Nat.zero_add, List.getElem?_toArray]; exact hj
  · intro g' cap' w' h3 h4 h5 _
    refine K g' cap' w' ⟨by simpa using h3, fun q hq => ?_⟩ h4 h5
    rcases List.mem_append.1 hq with hq | hq
    · exact hown.2 q hq
    · simp at hq; subst hq; exact ⟨hys, hy1⟩

/-- The same at a step of a region that draws its order. -/
theorem step_appGl (hs0 : 0 < s) (ht : Tryd.prog.underlying t = some (.slice T)) (hT : (Tryd.prog.info? T).map (fun i => (i.zero, i.size, i.bytes)) = some (some z, s, by')) (hz : z.cells.size = s) (hby : by' ≤ 1000)
    {W : World} {ops : Array Oper} {o : Oper} {a : Act} {K : Act → World → Prop} {Q : Exit → Act → World → Prop} {E : Prop} (hgd : o.guard = none) (os ox : Operand) (ho : o.op = .call { callee := .builtin .append, args := #[os, ox], argTypes := #[t, t] })
    (base : Nat) (l : List (List Value)) (y : List Value) (hys : y.length = s) (hy1 : ∀ u ∈ y, u.oneCell' = true) (v : Value) (hs : a.eval os = v) (hown : OwnG s T W base v l) (H : Nat) (arr : Array Value) (harr : arr = y.toArray) (hblk : W.heap[H]? = some (.cells arr T (0, 0))) (hx : a.eval ox = .slice (some ⟨H, 0, none⟩) 1 1) (hn : l.length ≤ 1000000) (hbase : base ≤ W.heap.size) (H' : Nat) (hH' : W.heap.size = H')
    (K' : ∀ g' cap' w', OwnG s T w' base (.slice (some ⟨g', 0, none⟩) (l.length + 1) cap') (l ++ [y]) → W.grownBy w' v.ownBlock → (v.ownBlock = some g' ∨ g' = H') → K (a.put o.dst (.slice (some ⟨g', 0, none⟩) (l.length + 1) cap')) w') :
    if Region.wanted o (yielded ops a.tmps) = true then Oper.wp Tryd.prog o a W K Q else E := by
  subst harr
  obtain ⟨i0, hi, hi0, hi1, hi2⟩ := info_parts hT
  have hb : (l.length + 1) * by' ≤ 140737488355328 := by
    have : (l.length + 1) * by' ≤ (l.length + 1) * 1000 := Nat.mul_le_mul_left _ hby
    omega
  refine step_append_lies (P := Tryd.prog) W hgd os ox t ho base T i0 z s by' ht hi hi0 hi1 hi2 hz hs0 v l.length l.flatten hs hown.1 ⟨H, 0, none⟩ 1 1 y hx (by omega) ?_ hy1 (by omega) (by unfold maxLen; omega) hb hbase H' hH' ?_
  · intro j u hj
    rw [Addr.add_lit, cell_of_row _ H _ _ _ (0, 0) hblk]
    rw [Nat.zero_add, List.getElem?_toArray]; exact hj
  · intro g' cap' w' h3 h4 h5 _
    refine K' g' cap' w' ⟨by simpa using h3, fun q hq => ?_⟩ h4 h5
    rcases List.mem_append.1 hq with hq | hq
    · exact hown.2 q hq
    · simp at hq; subst hq; exact ⟨hys, hy1⟩
end

/-- A list of ints of one's own. -/
def OwnL (w : World) (base : Nat) (v : Value) (l : List Int) : Prop := OwnG 1 3 w base v (one (intsV l))

theorem OwnL.parts {w : World} {base : Nat} {v : Value} {l : List Int} (h : OwnL w base v l) : ∃ p c, v = .slice p l.length c ∧ VAt w p (intsV l) ∧ l.length ≤ c ∧ c ≤ maxLen ∧ (l ≠ [] → ∀ a, p = some a → base ≤ a.block) := by
  obtain ⟨p, c, e, h1, h2, h3, h4⟩ := OwnG.is h
  rw [one_len, intsV_len] at e h2
  exact ⟨p, c, e, v_of_g h1, h2, h3, fun hl => h4 (fun h0 => hl (by
    have := congrArg List.length h0
    rw [one_len, intsV_len] at this
    exact List.length_eq_zero_iff.1 this))⟩

/-- What a slice of ints holds. -/
def readInts (w : World) : Value → List Int
  | .slice (some a) n _ => (List.range n).map fun j => intOf ((w.cell? ⟨a.block, a.off + j, none⟩).getD undef)
  | _ => []
theorem readInts_own {w : World} {base : Nat} {v : Value} {l : List Int} (h : OwnL w base v l) : readInts w v = l := by
  obtain ⟨p, c, rfl, hv, -⟩ := h.parts
  cases p with
  | none =>
    rcases hv with h0 | ⟨g, off, e, -⟩
    · have : l = [] := by
        have := congrArg List.length h0; rw [intsV_len] at this; exact List.length_eq_zero_iff.1 this
      subst this; rfl
    · cases e
  | some a =>
    show (List.range l.length).map _ = l
    refine List.ext_getElem? fun i => ?_
    by_cases hi : i < l.length
    · rcases hv with h0 | ⟨g, off, e, -, hc⟩
      · have := congrArg List.length h0; rw [intsV_len] at this; simp at this; subst this; simp at hi
      · cases e
        have h1 := hc i _ (intsV_get (List.getElem?_eq_getElem hi))
        rw [List.getElem?_map, List.getElem?_range hi, List.getElem?_eq_getElem hi]
        simp [h1, intOf]
    · rw [List.getElem?_eq_none (by simp; omega), List.getElem?_eq_none (by omega)]

theorem OwnL.pop {w : World} {base n c : Nat} {p : Option Addr} {l : List Int} {k : Int} (h : OwnL w base (.slice p n c) (l ++ [k])) : n = l.length + 1 ∧ OwnL w base (.slice p l.length c) l ∧ (Value.slice p l.length c).ownBlock = (Value.slice p n c).ownBlock := by
  obtain ⟨p', c', e, -⟩ := h.parts
  injection e with e1 e2 e3
  rw [List.length_append, List.length_singleton] at e2
  subst e2
  have h1 := h.1
  rw [one_len, one_flat, intsV_len, intsV_append] at h1
  rcases h1.2 with ⟨h2, -⟩ | ⟨g, cap, cur, h2, -⟩
  · cases h2
  · injection h2 with h3 h4 h5
    subst h3; subst h5
    have h6 := ownsRow_pop (xs := intsV l) (last := intsV [k]) (by rw [intsV_len, Nat.mul_one]) (by simpa using h1)
    refine ⟨rfl, ⟨?_, one_wid (intsV_one _)⟩, rfl⟩
    rw [one_len, one_flat, intsV_len]
    exact h6
theorem OwnL.nil (w : World) (base : Nat) : OwnL w base (.slice none 0 0) [] := OwnG.nil _ _ _ _
theorem OwnL.new (w : World) (base : Nat) (x : Int) (H : Nat) (hH : w.heap.size = H) (hb : base ≤ H) : OwnL (w.alloc (.cells #[.int .i64 x] 3)) base (.slice (some ⟨H, 0, none⟩) 1 1) [x] := by
  subst hH
  refine ⟨?_, one_wid (intsV_one _)⟩
  rw [one_len, one_flat, intsV_len]
  exact ⟨by simp [intsV], .inr ⟨_, 1, _, rfl, hb, heap_alloc_new w _, by simp, by unfold maxLen; omega, by simp, by simp [intsV]⟩⟩
theorem OwnL.app {w : World} {base : Nat} {v : Value} {l : List Int} {x : Int} (h : OwnG 1 3 w base v (one (intsV l) ++ [[.int .i64 x]])) : OwnL w base v (l ++ [x]) := by
  unfold OwnL; rw [intsV_append, one_append]; exact h
end Go.Proofs.YtdfegmdmappefaaDoor
