/- Slices of tokens. -/
import Derived.Test.YtdfegmdmappefaaDoorELead
namespace Go.Proofs.YtdfegmdmappefaaDoor
open Go.RowKit

def tokV (t : Tok) : List Value := [.int .i64 (t.kind : Int), strV t.lead, strV t.text, .int .i64 (t.pos : Int)]
def cellsT (l : List Tok) : List Value := l.flatMap tokV

theorem cellsT_cons (p : Tok) (l : List Tok) : cellsT (p :: l) = .int .i64 (p.kind : Int) :: strV p.lead :: strV p.text :: .int .i64 (p.pos : Int) :: cellsT l := rfl
theorem cellsT_append (l r : List Tok) : cellsT (l ++ r) = cellsT l ++ cellsT r := by unfold cellsT; rw [List.flatMap_append]
theorem cellsT_len (l : List Tok) : (cellsT l).length = l.length * 4 := by
  induction l with
  | nil => rfl
  | cons p l ih => rw [cellsT_cons]; simp only [List.length_cons, ih]; omega

theorem cellsT_get (l : List Tok) (j : Nat) (p : Tok) (h : l[j]? = some p) : (cellsT l)[j * 4]? = some (.int .i64 (p.kind : Int)) ∧ (cellsT l)[j * 4 + 1]? = some (strV p.lead) ∧ (cellsT l)[j * 4 + 2]? = some (strV p.text) ∧ (cellsT l)[j * 4 + 3]? = some (.int .i64 (p.pos : Int)) := by
  induction l generalizing j with
  | nil => simp at h
  | cons q l ih =>
    rw [cellsT_cons]
    match j, h with
    | 0, h => simp at h; subst h; exact ⟨rfl, rfl, rfl, rfl⟩
    | j + 1, h =>
      have := ih j (by simpa using h)
      rw [show (j + 1) * 4 = j * 4 + 1 + 1 + 1 + 1 by omega]
      simpa using this

/-- A slice reads as a list of tokens. -/
def TAt (w : World) (p : Option Addr) (l : List Tok) : Prop :=
  l = [] ∨ ∃ g off, p = some ⟨g, off, none⟩ ∧ g < w.heap.size ∧ ∀ j q, l[j]? = some q → w.cell? ⟨g, off + j * 4, none⟩ = some (.int .i64 (q.kind : Int)) ∧ w.cell? ⟨g, off + j * 4 + 1, none⟩ = some (strV q.lead) ∧ w.cell? ⟨g, off + j * 4 + 2, none⟩ = some (strV q.text) ∧ w.cell? ⟨g, off + j * 4 + 3, none⟩ = some (.int .i64 (q.pos : Int))

theorem TAt.kept {w w' : World} {p : Option Addr} {l : List Tok} (h : TAt w p l) (hg : w.grownBy w' none) : TAt w' p l := by
  rcases h with h | ⟨g, off, rfl, hl, hc⟩
  · exact .inl h
  · exact .inr ⟨g, off, rfl, Nat.lt_of_lt_of_le hl hg.size, fun j q hj => ⟨hg.cell (hc j q hj).1 (by simp), hg.cell (hc j q hj).2.1 (by simp), hg.cell (hc j q hj).2.2.1 (by simp), hg.cell (hc j q hj).2.2.2 (by simp)⟩⟩

/-- A list of tokens of one's own. -/
def OwnT (T : TypeId) (w : World) (base : Nat) (v : Value) (l : List Tok) : Prop := w.ownsRow base T 4 v l.length (cellsT l)

theorem OwnT.nil (T : TypeId) (w : World) (base : Nat) : OwnT T w base (.slice none 0 0) [] := World.ownsRow_nil _ _ _ _
theorem OwnT.kept {T : TypeId} {w w' : World} {base : Nat} {v : Value} {l : List Tok} (h : OwnT T w base v l) (hg : w.grownBy w' none) : OwnT T w' base v l := World.ownsRow.kept h hg (by
  cases hv : v.ownBlock with
  | none => exact .inl rfl
  | some k => exact .inr (by simp))

theorem OwnT.is {T : TypeId} {w : World} {base : Nat} {v : Value} {l : List Tok} (h : OwnT T w base v l) : ∃ p c, v = .slice p l.length c ∧ TAt w p l ∧ l.length ≤ c ∧ c ≤ maxLen ∧ (l ≠ [] → ∀ a, p = some a → base ≤ a.block) := by
  rcases h.2 with ⟨rfl, h0⟩ | ⟨g, cap, cur, rfl, hb, hg, hnc, hcm, h1, h2⟩
  · have : l = [] := List.eq_nil_of_length_eq_zero h0
    subst this
    exact ⟨none, 0, rfl, .inl rfl, Nat.le_refl _, by unfold maxLen; omega, fun h => absurd rfl h⟩
  · refine ⟨_, cap, rfl, .inr ⟨g, 0, rfl, hlt hg, fun j q hj => ?_⟩, hnc, hcm, fun _ a ha => by injection ha with ha; subst ha; exact hb⟩
    obtain ⟨g1, g2, g3, g4⟩ := cellsT_get l j q hj
    have hjl : j < l.length := (List.getElem?_eq_some_iff.1 hj).1
    have h' : w.ownsRow base T 4 (.slice (some ⟨g, 0, none⟩) l.length cap) l.length (cellsT l) := h
    rw [Nat.zero_add]
    exact ⟨by rw [h'.cellAt _ (by omega)]; exact g1, by rw [h'.cellAt _ (by omega)]; exact g2, by rw [h'.cellAt _ (by omega)]; exact g3, by rw [h'.cellAt _ (by omega)]; exact g4⟩

/-- append of one token, as a step of the walk. -/
theorem wpList_appT {t T : TypeId} {z : Value} {by' : Nat} (ht : Tryd.prog.underlying t = some (.slice T)) (hT : (Tryd.prog.info? T).map (fun i => (i.zero, i.size, i.bytes)) = some (some z, 4, by')) (hz : z.cells.size = 4) (hby : by' ≤ 64)
    {w0 : World} {ops : Array Oper} {rest : List Oper} {o : Oper} {a : Act} {Q : Exit → Act → World → Prop} (hgd : o.guard = none) (s x : Operand) (ho : o.op = .call { callee := .builtin .append, args := #[s, x], argTypes := #[t, t] })
    (base : Nat) (l : List Tok) (y : Tok) (y1 y2 y3 y4 : Value) (hy : tokV y = [y1, y2, y3, y4]) (v : Value) (hs : a.eval s = v) (hown : OwnT T w0 base v l) (H : Nat) (hH : w0.heap.size = H) (hx : a.eval x = .slice (some ⟨H, 0, none⟩) 1 1) (hn : l.length ≤ 1000000) (hbase : base ≤ w0.heap.size)
    (K : ∀ g' cap' w', OwnT T w' base (.slice (some ⟨g', 0, none⟩) (l.length + 1) cap') (l ++ [y]) → Below base w0 w' → wpList Tryd.prog ops Q rest (a.put o.dst (.slice (some ⟨g', 0, none⟩) (l.length + 1) cap')) w') :
    wpList Tryd.prog ops Q (o :: rest) a (w0.alloc (.cells #[y1, y2, y3, y4] T)) := by
  subst hH
  obtain ⟨i0, hi, hi0, hi1, hi2⟩ := info_parts hT
  have h1a := World.ownsRow.alloc hown (.cells #[y1, y2, y3, y4] T)
  have hb : (l.length + 1) * by' ≤ 140737488355328 := by
    have : (l.length + 1) * by' ≤ (l.length + 1) * 64 := Nat.mul_le_mul_left _ hby
    omega
  unfold tokV at hy
  simp only [List.cons.injEq, and_true] at hy
  obtain ⟨rfl, rfl, rfl, rfl⟩ := hy
  refine wpList_append_lies (P := Tryd.prog) _ hgd s x t ho base T i0 z 4 by' ht hi hi0 hi1 hi2 hz (by decide) _ l.length (cellsT l) hs h1a ⟨w0.heap.size, 0, none⟩ 1 1 (tokV y) hx rfl ?_ ?_ (by omega) (by unfold maxLen; omega) hb (by simp; omega) (w0.heap.size + 1) (by simp) ?_
  · intro j u hj
    rw [Addr.add_lit, cell_of_row _ w0.heap.size _ _ _ (0, 0) (heap_alloc_new w0 _)]
    unfold tokV at hj
    match j, hj with
    | 0, hj => simp at hj; subst hj; rfl
    | 1, hj => simp at hj; subst hj; rfl
    | 2, hj => simp at hj; subst hj; rfl
    | 3, hj => simp at hj; subst hj; rfl
  · intro u hu
    unfold tokV at hu
    simp at hu; rcases hu with rfl | rfl | rfl | rfl <;> rfl
  · intro g' cap' w' h3 h4 h5 _
    exact K g' cap' w' (by simpa [OwnT, cellsT_append, cellsT] using h3) (Below.trans2 (Below.gb (World.grownBy_alloc w0 _ none) hbase) (below_own h1a (by simp; omega) h4))

theorem step_appT {t T : TypeId} {z : Value} {by' : Nat} (ht : Tryd.prog.underlying t = some (.slice T)) (hT : (Tryd.prog.info? T).map (fun i => (i.zero, i.size, i.bytes)) = some (some z, 4, by')) (hz : z.cells.size = 4) (hby : by' ≤ 64)
    {W : World} {ops : Array Oper} {o : Oper} {a : Act} {K : Act → World → Prop} {Q : Exit → Act → World → Prop} {E : Prop} (hgd : o.guard = none) (s x : Operand) (ho : o.op = .call { callee := .builtin .append, args := #[s, x], argTypes := #[t, t] })
    (base : Nat) (l : List Tok) (y : Tok) (v : Value) (hs : a.eval s = v) (hown : OwnT T W base v l) (H : Nat) (hblk : W.heap[H]? = some (.cells (tokV y).toArray T (0, 0))) (hx : a.eval x = .slice (some ⟨H, 0, none⟩) 1 1) (hn : l.length ≤ 1000000) (hbase : base ≤ W.heap.size)
    (K' : ∀ g' cap' w', OwnT T w' base (.slice (some ⟨g', 0, none⟩) (l.length + 1) cap') (l ++ [y]) → Below base W w' → K (a.put o.dst (.slice (some ⟨g', 0, none⟩) (l.length + 1) cap')) w') :
    if Region.wanted o (yielded ops a.tmps) = true then Oper.wp Tryd.prog o a W K Q else E := by
  obtain ⟨i0, hi, hi0, hi1, hi2⟩ := info_parts hT
  have hb : (l.length + 1) * by' ≤ 140737488355328 := by
    have : (l.length + 1) * by' ≤ (l.length + 1) * 64 := Nat.mul_le_mul_left _ hby
    omega
  refine step_append_lies (P := Tryd.prog) W hgd s x t ho base T i0 z 4 by' ht hi hi0 hi1 hi2 hz (by decide) v l.length (cellsT l) hs hown ⟨H, 0, none⟩ 1 1 (tokV y) hx rfl ?_ ?_ (by omega) (by unfold maxLen; omega) hb hbase W.heap.size rfl ?_
  · intro j u hj
    rw [Addr.add_lit, cell_of_row _ H _ _ _ (0, 0) hblk]
    simpa using hj
  · intro u hu
    unfold tokV at hu
    simp at hu; rcases hu with rfl | rfl | rfl | rfl <;> rfl
  · intro g' cap' w' h3 h4 h5 _
    exact K' g' cap' w' (by simpa [OwnT, cellsT_append, cellsT] using h3) (below_own hown hbase h4)

theorem TAt.setBox {w : World} {p : Option Addr} {l : List Tok} {b : Nat} (h : TAt w p l) (hb : l ≠ [] → ∀ a, p = some a → b < a.block) (j : Nat) (u : Value) : TAt (w.setCell ⟨b, j, none⟩ u) p l := by
  rcases h with h | ⟨g, off, rfl, hl, hc⟩
  · exact .inl h
  · by_cases h0 : l = []
    · exact .inl h0
    · have hgb : b < g := hb h0 ⟨g, off, none⟩ rfl
      have keep : ∀ o, (w.setCell ⟨b, j, none⟩ u).cell? ⟨g, o, none⟩ = w.cell? ⟨g, o, none⟩ := fun o =>
        World.cell?_of_block (w := w) (Below.heap_setCell _ _ _ _ (by simp; omega))
      exact .inr ⟨g, off, rfl, by simpa [World.setCell] using hl, fun i q hi => by rw [keep, keep, keep, keep]; exact hc i q hi⟩

theorem cells2 {w : World} {r : Nat} {u v : Value} {T : TypeId} (h : w.heap[r]? = some (.cells #[u, v] T (0, 0))) : w.cell? ⟨r, 0, none⟩ = some u ∧ w.cell? ⟨r, 1, none⟩ = some v ∧ ∀ o, w.frozen? ⟨r, o, none⟩ = false :=
  ⟨by rw [cell_of_row w r 0 _ T (0, 0) h]; rfl, by rw [cell_of_row w r 1 _ T (0, 0) h]; rfl, fun o => by simp [World.frozen?, h]⟩

theorem tokV_of (k p : Nat) (x y : ByteArray) : tokV ⟨k, x.data.toList, y.data.toList, p⟩ = [.int .i64 (k : Int), .string x, .string y, .int .i64 (p : Int)] := rfl

theorem infoT : (Tryd.prog.info? 53).map (fun i => (i.zero, i.size, i.bytes)) = some (some (.agg #[.int .i64 0, .string ⟨#[]⟩, .string ⟨#[]⟩, .int .i64 0]), 4, 48) := by kernel_rfl
theorem infoR : (Tryd.prog.info? 63).map (fun i => (i.zero, i.size, i.bytes)) = some (some (.agg #[.int .i64 0, .string ⟨#[]⟩, .string ⟨#[]⟩, .int .i64 0]), 4, 48) := by kernel_rfl
end Go.Proofs.YtdfegmdmappefaaDoor
