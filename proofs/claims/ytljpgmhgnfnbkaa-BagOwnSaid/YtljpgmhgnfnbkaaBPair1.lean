/- Slices of pairs; the document's Get. -/
import Derived.Test.YtljpgmhgnfnbkaaBMap2
import Derived.Test.YtljpgmhgnfnbkaaBRef1
import Derived.Deep.AppendLies
namespace Go.Proofs.Ytljpgmhgnfnbkaa
open Go.RowKit Mx

def cellsP (l : List (Int × Int)) : List Value := l.flatMap fun p => [.int .i64 p.1, .int .i64 p.2]

theorem cellsP_cons (p : Int × Int) (l : List (Int × Int)) : cellsP (p :: l) = .int .i64 p.1 :: .int .i64 p.2 :: cellsP l := rfl
theorem cellsP_append (l r : List (Int × Int)) : cellsP (l ++ r) = cellsP l ++ cellsP r := by unfold cellsP; rw [List.flatMap_append]
theorem cellsP_len (l : List (Int × Int)) : (cellsP l).length = l.length * 2 := by
  induction l with
  | nil => rfl
  | cons p l ih => rw [cellsP_cons, List.length_cons, List.length_cons, ih, List.length_cons]; omega

theorem cellsP_get (l : List (Int × Int)) (j : Nat) (h : j < l.length) : (cellsP l)[j * 2]? = some (.int .i64 (l.getD j (0, 0)).1) ∧ (cellsP l)[j * 2 + 1]? = some (.int .i64 (l.getD j (0, 0)).2) := by
  induction l generalizing j with
  | nil => simp at h
  | cons p l ih =>
    rw [cellsP_cons]
    match j, h with
    | 0, _ => exact ⟨rfl, rfl⟩
    | j + 1, h =>
      have := ih j (by simpa using h)
      rw [show (j + 1) * 2 = j * 2 + 1 + 1 by omega]
      simpa using this

theorem cellsP_one (l : List (Int × Int)) (u : Value) (h : u ∈ cellsP l) : ∃ x, u = .int .i64 x := by
  obtain ⟨p, _, hp⟩ := List.mem_flatMap.1 h
  simp at hp
  rcases hp with rfl | rfl
  · exact ⟨_, rfl⟩
  · exact ⟨_, rfl⟩

/-- A slice reads as a list of pairs. -/
def PAt (w : World) (p : Option Addr) (l : List (Int × Int)) : Prop :=
  l = [] ∨ ∃ g off, p = some ⟨g, off, none⟩ ∧ g < w.heap.size ∧ ∀ j, j < l.length → w.cell? ⟨g, off + j * 2, none⟩ = some (.int .i64 (l.getD j (0, 0)).1) ∧ w.cell? ⟨g, off + j * 2 + 1, none⟩ = some (.int .i64 (l.getD j (0, 0)).2)

theorem PAt.kept {w w' : World} {p : Option Addr} {l : List (Int × Int)} (h : PAt w p l) (hg : w.grownBy w' none) : PAt w' p l := by
  rcases h with h | ⟨g, off, rfl, hl, hc⟩
  · exact .inl h
  · exact .inr ⟨g, off, rfl, Nat.lt_of_lt_of_le hl hg.size, fun j hj => ⟨hg.cell (hc j hj).1 (by simp), hg.cell (hc j hj).2 (by simp)⟩⟩

/-- A list of pairs of one's own. -/
def OwnP (w : World) (base : Nat) (v : Value) (l : List (Int × Int)) : Prop := w.ownsRow base 57 2 v l.length (cellsP l)

theorem OwnP.nil (w : World) (base : Nat) : OwnP w base (.slice none 0 0) [] := World.ownsRow_nil _ _ _ _
theorem OwnP.kept {w w' : World} {base : Nat} {v : Value} {l : List (Int × Int)} (h : OwnP w base v l) (hg : w.grownBy w' none) : OwnP w' base v l := World.ownsRow.kept h hg (by
  cases hv : v.ownBlock with
  | none => exact .inl rfl
  | some k => exact .inr (by simp))

theorem OwnP.shape {w : World} {base : Nat} {v : Value} {l : List (Int × Int)} (h : OwnP w base v l) : ∃ p c, v = .slice p l.length c ∧ l.length ≤ c ∧ c ≤ maxLen ∧ PAt w p l ∧ (l ≠ [] → ∀ a, p = some a → base ≤ a.block) := by
  rcases h.2 with ⟨rfl, h0⟩ | ⟨g, cap, cur, rfl, hb, hg, hnc, hcm, h1, h2⟩
  · have : l = [] := List.eq_nil_of_length_eq_zero h0
    subst this
    exact ⟨none, 0, rfl, Nat.le_refl _, by unfold maxLen; omega, .inl rfl, fun h => absurd rfl h⟩
  · refine ⟨_, cap, rfl, hnc, hcm, .inr ⟨g, 0, rfl, (Array.getElem?_eq_some_iff.1 hg).1, fun j hj => ?_⟩, fun _ a ha => by injection ha with ha; subst ha; exact hb⟩
    obtain ⟨g1, g2⟩ := cellsP_get l j hj
    have h' : w.ownsRow base 57 2 (.slice (some ⟨g, 0, none⟩) l.length cap) l.length (cellsP l) := h
    rw [Nat.zero_add]
    exact ⟨by rw [h'.cellAt _ (by omega)]; exact g1, by rw [h'.cellAt _ (by omega)]; exact g2⟩

theorem infoP : (Try.prog.info? 57).map (fun i => (i.zero, i.size, i.bytes)) = some (some (.agg #[.int .i64 0, .int .i64 0]), 2, 16) := by kernel_rfl

theorem infoP_parts : ∃ i, Try.prog.info? 57 = some i ∧ i.zero = some (.agg #[.int .i64 0, .int .i64 0]) ∧ i.size = 2 ∧ i.bytes = 16 := by
  have h := infoP
  rcases hi : Try.prog.info? 57 with _ | i
  · rw [hi] at h; cases h
  · rw [hi] at h
    simp at h
    exact ⟨i, rfl, h.1, h.2.1, h.2.2⟩

/-- append of one pair, as a step of the walk. -/
theorem wpList_appP {t : TypeId} (ht : Try.prog.underlying t = some (.slice 57))
    {w0 : World} {ops : Array Oper} {rest : List Oper} {o : Oper} {a : Act} {Q : Exit → Act → World → Prop} (hgd : o.guard = none) (s x : Operand) (ho : o.op = .call { callee := .builtin .append, args := #[s, x], argTypes := #[t, t] })
    (base : Nat) (l : List (Int × Int)) (k y : Int) (v : Value) (hs : a.eval s = v) (hown : OwnP w0 base v l) (H : Nat) (hH : w0.heap.size = H) (hx : a.eval x = .slice (some ⟨H, 0, none⟩) 1 1) (hn : l.length ≤ 1000000) (hbase : base ≤ w0.heap.size)
    (K : ∀ p' n' c' w', n' = l.length + 1 → OwnP w' base (.slice p' n' c') (l ++ [(k, y)]) → Below base w0 w' → wpList Try.prog ops Q rest (a.put o.dst (.slice p' n' c')) w') :
    wpList Try.prog ops Q (o :: rest) a (w0.alloc (.cells #[.int .i64 k, .int .i64 y] 57)) := by
  subst hH
  obtain ⟨i0, hi, hi0, hi1, hi2⟩ := infoP_parts
  have h1a := World.ownsRow.alloc hown (.cells #[.int .i64 k, .int .i64 y] 57)
  refine wpList_append_lies (P := Try.prog) _ hgd s x t ho base 57 i0 (.agg #[.int .i64 0, .int .i64 0]) 2 16 ht hi hi0 hi1 hi2 rfl (by decide) _ l.length (cellsP l) hs h1a ⟨w0.heap.size, 0, none⟩ 1 1 [.int .i64 k, .int .i64 y] hx rfl ?_ ?_ (by omega) (by unfold maxLen; omega) (by omega) (by simp; omega) (w0.heap.size + 1) (by simp) ?_
  · intro j u hj
    rw [Addr.add_lit, cell_of_row _ w0.heap.size _ _ _ (0, 0) (heap_alloc_new w0 _)]
    match j, hj with
    | 0, hj => simp at hj; subst hj; rfl
    | 1, hj => simp at hj; subst hj; rfl
  · intro u hu; simp at hu; rcases hu with rfl | rfl <;> rfl
  · intro g' cap' w' h3 h4 h5 _
    refine K _ _ cap' w' rfl (by simpa [OwnP, cellsP_append, cellsP] using h3) (Below.trans2 (Below.gb (World.grownBy_alloc w0 _ none) hbase) (below_own h1a (by simp; omega) h4))

/-- append of a list of pairs, as a step of the walk. -/
theorem wpList_appPL {t : TypeId} (ht : Try.prog.underlying t = some (.slice 57))
    {w0 : World} {ops : Array Oper} {rest : List Oper} {o : Oper} {a : Act} {Q : Exit → Act → World → Prop} (hgd : o.guard = none) (s x : Operand) (ho : o.op = .call { callee := .builtin .append, args := #[s, x], argTypes := #[t, t] })
    (base : Nat) (l r : List (Int × Int)) (p : Option Addr) (c : Nat) (v : Value) (hs : a.eval s = v) (hown : OwnP w0 base v l) (hy : PAt w0 p r) (m : Nat) (hm : r.length = m) (hx : a.eval x = .slice p m c) (hn : l.length ≤ 1000000) (hn2 : r.length ≤ 1000000) (hbase : base ≤ w0.heap.size)
    (K : ∀ p' n' c' w', n' = l.length + r.length → OwnP w' base (.slice p' n' c') (l ++ r) → Below base w0 w' → wpList Try.prog ops Q rest (a.put o.dst (.slice p' n' c')) w') :
    wpList Try.prog ops Q (o :: rest) a w0 := by
  subst hm
  obtain ⟨i0, hi, hi0, hi1, hi2⟩ := infoP_parts
  by_cases h0 : r = []
  · subst h0
    obtain ⟨p', c', rfl, -⟩ := hown.shape
    exact wpList_append_zero hgd s x t ho base 57 i0 2 ht hi _ _ _ hs hown p c hx (K p' _ c' w0 rfl (by simpa [OwnP] using hown) (Below.refl _ _))
  · obtain ⟨g, off, rfl, hg, hc⟩ := hy.resolve_left h0
    have hpos : 0 < r.length := List.length_pos_iff.2 h0
    refine wpList_append_lies (P := Try.prog) _ hgd s x t ho base 57 i0 (.agg #[.int .i64 0, .int .i64 0]) 2 16 ht hi hi0 hi1 hi2 rfl (by decide) _ l.length (cellsP l) hs hown ⟨g, off, none⟩ r.length c (cellsP r) hx (by rw [cellsP_len]) ?_ ?_ hpos (by unfold maxLen; omega) (by omega) hbase w0.heap.size rfl ?_
    · intro j u hj
      have hjn : j < r.length * 2 := by
        have := (List.getElem?_eq_some_iff.1 hj).1
        rwa [cellsP_len] at this
      obtain ⟨i, hi⟩ : ∃ i, j = i * 2 ∨ j = i * 2 + 1 := ⟨j / 2, by omega⟩
      obtain ⟨g1, g2⟩ := cellsP_get r i (by omega)
      obtain ⟨c1, c2⟩ := hc i (by omega)
      rw [Addr.add_lit]
      rcases hi with rfl | rfl
      · rw [c1]; rw [g1] at hj; exact hj
      · rw [← Nat.add_assoc, c2]; rw [g2] at hj; exact hj
    · intro u hu; obtain ⟨x, rfl⟩ := cellsP_one r u hu; rfl
    · intro g' cap' w' h3 h4 h5 _
      exact K _ _ cap' w' rfl (by simpa [OwnP, cellsP_append] using h3) (below_own hown hbase h4)

/-! ### Get -/

set_option maxRecDepth 100000 in
set_option maxHeartbeats 2000000 in
theorem RGet_c (p : Option Addr) (c : Nat) (l : List (Int × Int)) (k : Int) (w : World) (hl : l.length ≤ 1000000) (h : PAt w p l) : Calls Try.prog 26 #[.slice p l.length c, .int .i64 k] w fun e w' => (∃ i : Int, e = .returned (.int .i64 i) ∧ ((i = -1 ∧ ∀ j, j < l.length → (l.getD j (0, 0)).1 ≠ k) ∨ ∃ j, i = (j : Nat) ∧ j < l.length ∧ (l.getD j (0, 0)).1 = k ∧ ∀ m, m < j → (l.getD m (0, 0)).1 ≠ k)) ∧ w' = w := by
  obtain ⟨n, hn⟩ : ∃ n, l.length = n := ⟨_, rfl⟩
  have HN := Lib.hid hn; have HA := Lib.hid h
  rw [hn] at hl ⊢
  clear hn h
  go_enter Try.func26, Try.ntmps26
  go_wp2_with fail
  go_loopw [5] (fun i cur => ∃ j : Nat, i = .int .i64 j ∧ j ≤ n ∧ cur = w ∧ Hid (∀ m, m < j → (l.getD m (0, 0)).1 ≠ k)) (fun i _ => n - (intOf i).toNat)
  case atStart => exact ⟨0, rfl, by omega, rfl, Lib.hid (fun m hm => by omega)⟩
  case round =>
    obtain ⟨j, rfl, hj, rfl, HB⟩ := hrel
    by_cases hjn : j < n
    · obtain ⟨g, off, rfl, hg, hc⟩ := HA.out.resolve_left (fun e => by have := HN.out; rw [e] at this; simp at this; omega)
      obtain ⟨c1, -⟩ := hc j (by have := HN.out; omega)
      clear hc
      obtain ⟨x, hx⟩ : ∃ x, (l.getD j (0, 0)).1 = x := ⟨_, rfl⟩
      rw [hx] at c1
      have HX := Lib.hid hx
      clear hx
      by_cases hxk : x = k
      · have d1 : (x == k) = true := beq_iff_eq.2 hxk
        go_wp2_with fail
        go_ret
        exact ⟨⟨j, rfl, .inr ⟨j, rfl, hjn, HX.out.trans hxk, HB.out⟩⟩, rfl⟩
      · have d1 : (x == k) = false := beq_eq_false_iff_ne.2 hxk
        go_wp2_with fail
        go_roundw
        case rel => exact ⟨j + 1, by go_num, by omega, by first | rfl | trivial, Lib.hid (fun m hm => by
          by_cases e : m = j
          · subst e; rw [HX.out]; exact hxk
          · exact HB.out m (by omega))⟩
        case measure => simp [intOf]; omega
    · obtain rfl : j = n := by omega
      go_wp2_with fail
      go_ret
      exact ⟨⟨-1, rfl, .inl ⟨rfl, HB.out⟩⟩, rfl⟩
end Go.Proofs.Ytljpgmhgnfnbkaa
