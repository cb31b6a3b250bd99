/- The document's lists: has, put, of, both, same. -/
import Derived.Test.YtljpgmhgnfnbkaaBSet1
import Derived.BigRegion
namespace Go.Proofs.Ytljpgmhgnfnbkaa
open Go.RowKit Go.Sort

/-- A list of one's own. -/
def OwnL (w : World) (base : Nat) (v : Value) (zs : List Int) : Prop := w.ownsRow base 3 1 v zs.length (zs.map (Value.int .i64))

theorem OwnL.nil (w : World) (base : Nat) : OwnL w base (.slice none 0 0) [] := World.ownsRow_nil _ _ _ _
theorem OwnL.kept {w w' : World} {base : Nat} {v : Value} {zs : List Int} (h : OwnL w base v zs) (hg : w.grownBy w' none) : OwnL w' base v zs := World.ownsRow.kept h hg (by
  cases hv : v.ownBlock with
  | none => exact .inl rfl
  | some k => exact .inr (by simp))

theorem below_own {w0 w' : World} {base n : Nat} {e : TypeId} {size : Nat} {v : Value} {xs : List Value} (h : w0.ownsRow base e size v n xs) (hb : base ≤ w0.heap.size) (hg : w0.grownBy w' v.ownBlock) : Below base w0 w' :=
  ⟨hg.os, hg.tape, hg.output, hg.size, fun k hk => hg.block k (by omega) fun e => by have := (h.lt k e.symm).1; omega⟩

theorem Below.trans2 {B : Nat} {a b c : World} (h : Below B a b) (k : Below B b c) : Below B a c :=
  ⟨k.os.trans h.os, k.tape.trans h.tape, k.output.trans h.output, Nat.le_trans h.size k.size, fun i hi => (k.block i hi).trans (h.block i hi)⟩

theorem Below.gb {B : Nat} {a b : World} (h : a.grownBy b none) (hB : B ≤ a.heap.size) : Below B a b := ⟨h.os, h.tape, h.output, h.size, fun k hk => h.block k (by omega) (by simp)⟩

theorem LAt.low {w w' : World} {p : Option Addr} {zs : List Int} {B : Nat} (h : LAt w p zs) (hb : Below B w w') (hB : zs ≠ [] → ∀ a, p = some a → a.block < B) : LAt w' p zs := by
  rcases h with h | ⟨g, off, rfl, hl, hc⟩
  · exact .inl h
  · by_cases h0 : zs = []
    · exact .inl h0
    · exact .inr ⟨g, off, rfl, Nat.lt_of_lt_of_le hl hb.size, fun j hj => (hb.cell (p := ⟨g, off + j, none⟩) (hB h0 ⟨g, off, none⟩ rfl)).trans (hc j hj)⟩

theorem LAt.blk {w : World} {p : Option Addr} {zs : List Int} (h : LAt w p zs) : zs ≠ [] → ∀ a, p = some a → a.block < w.heap.size := fun h0 a ha => by
  obtain ⟨g, off, e, hl, -⟩ := h.resolve_left h0
  have e2 : some a = some (⟨g, off, none⟩ : Addr) := ha.symm.trans e
  injection e2 with e2; subst e2; exact hl

/-- append of one number, as a step of the walk. -/
theorem wpList_appI {t : TypeId} (ht : Try.prog.underlying t = some (.slice 3))
    {w0 : World} {ops : Array Oper} {rest : List Oper} {o : Oper} {a : Act} {Q : Exit → Act → World → Prop} (hgd : o.guard = none) (s x : Operand) (ho : o.op = .call { callee := .builtin .append, args := #[s, x], argTypes := #[t, t] })
    (base : Nat) (zs : List Int) (y : Int) (v : Value) (hs : a.eval s = v) (hown : OwnL w0 base v zs) (H : Nat) (hH : w0.heap.size = H) (hx : a.eval x = .slice (some ⟨H, 0, none⟩) 1 1) (hn : zs.length ≤ 1000000) (hbase : base ≤ w0.heap.size)
    (K : ∀ g' cap' w', OwnL w' base (.slice (some ⟨g', 0, none⟩) (zs.length + 1) cap') (zs ++ [y]) → Below base w0 w' → wpList Try.prog ops Q rest (a.put o.dst (.slice (some ⟨g', 0, none⟩) (zs.length + 1) cap')) w') :
    wpList Try.prog ops Q (o :: rest) a (w0.alloc (.cells #[.int .i64 y] 3)) := by
  subst hH
  obtain ⟨i0, hi, hi0, hi1, hi2⟩ := infoI_parts
  have h1a := World.ownsRow.alloc hown (.cells #[.int .i64 y] 3)
  refine wpList_append_lies (P := Try.prog) _ hgd s x t ho base 3 i0 (.int .i64 0) 1 8 ht hi hi0 hi1 hi2 rfl (by decide) _ zs.length (zs.map (Value.int .i64)) hs h1a ⟨w0.heap.size, 0, none⟩ 1 1 [.int .i64 y] hx rfl ?_ ?_ (by omega) (by unfold maxLen; omega) (by omega) (by simp; omega) (w0.heap.size + 1) (by simp) ?_
  · intro j u hj
    match j, hj with
    | 0, hj =>
      simp at hj; subst hj
      rw [Addr.add_lit, cell_of_row _ w0.heap.size _ _ _ (0, 0) (heap_alloc_new w0 _)]; rfl
  · intro u hu; simp at hu; subst hu; rfl
  · intro g' cap' w' h3 h4 h5 _
    refine K g' cap' w' (by simpa [OwnL] using h3) (Below.trans2 (Below.gb (World.grownBy_alloc w0 _ none) hbase) (below_own h1a (by simp; omega) h4))

/-- append of a list, as a step of the walk. -/
theorem wpList_appL {t : TypeId} (ht : Try.prog.underlying t = some (.slice 3))
    {w0 : World} {ops : Array Oper} {rest : List Oper} {o : Oper} {a : Act} {Q : Exit → Act → World → Prop} (hgd : o.guard = none) (s x : Operand) (ho : o.op = .call { callee := .builtin .append, args := #[s, x], argTypes := #[t, t] })
    (base : Nat) (zs ys : List Int) (p : Option Addr) (c : Nat) (v : Value) (hs : a.eval s = v) (hown : OwnL w0 base v zs) (hy : LAt w0 p ys) (m : Nat) (hm : ys.length = m) (hx : a.eval x = .slice p m c) (hn : zs.length ≤ 1000000) (hn2 : ys.length ≤ 1000000) (hbase : base ≤ w0.heap.size)
    (K : ∀ p' n' c' w', n' = zs.length + ys.length → OwnL w' base (.slice p' n' c') (zs ++ ys) → Below base w0 w' → wpList Try.prog ops Q rest (a.put o.dst (.slice p' n' c')) w') :
    wpList Try.prog ops Q (o :: rest) a w0 := by
  subst hm
  obtain ⟨i0, hi, hi0, hi1, hi2⟩ := infoI_parts
  by_cases h0 : ys = []
  · subst h0
    have hv : ∃ p' c', v = .slice p' zs.length c' := by
      rcases hown.2 with ⟨rfl, h⟩ | ⟨g, cap, cur, rfl, _⟩
      · rw [h]; exact ⟨_, _, rfl⟩
      · exact ⟨_, _, rfl⟩
    obtain ⟨p', c', rfl⟩ := hv
    exact wpList_append_zero hgd s x t ho base 3 i0 1 ht hi _ _ _ hs hown p c hx (K p' _ c' w0 rfl (by simpa [OwnL] using hown) (Below.refl _ _))
  · obtain ⟨g, off, rfl, hg, hc⟩ := hy.resolve_left h0
    have hpos : 0 < ys.length := List.length_pos_iff.2 h0
    refine wpList_append_lies (P := Try.prog) _ hgd s x t ho base 3 i0 (.int .i64 0) 1 8 ht hi hi0 hi1 hi2 rfl (by decide) _ zs.length (zs.map (Value.int .i64)) hs hown ⟨g, off, none⟩ ys.length c (ys.map (Value.int .i64)) hx (by simp) ?_ ?_ hpos (by unfold maxLen; omega) (by omega) hbase w0.heap.size rfl ?_
    · intro j u hj
      have hjn : j < ys.length := by
        have := (List.getElem?_eq_some_iff.1 hj).1
        simpa using this
      rw [Addr.add_lit, hc j hjn]
      have e : (ys.map (Value.int .i64))[j]? = some (Value.int .i64 (ys.getD j 0)) := by simp [List.getD, hjn]
      rw [e] at hj
      exact hj
    · intro u hu; obtain ⟨x, _, rfl⟩ := List.mem_map.1 hu; rfl
    · intro g' cap' w' h3 h4 h5 _
      exact K _ _ cap' w' rfl (by simpa [OwnL] using h3) (below_own hown hbase h4)

/-! ### Has -/

set_option maxRecDepth 100000 in
set_option maxHeartbeats 2000000 in
theorem RHas_c (p : Option Addr) (c : Nat) (l : List Int) (x : Int) (w : World) (hl : l.length ≤ 1000000) (h : LAt w p l) : Calls Try.prog 16 #[.slice p l.length c, .int .i64 x] w fun e w' => e = .returned (.bool (decide (x ∈ l))) ∧ w' = w := by
  obtain ⟨n, hn⟩ : ∃ n, l.length = n := ⟨_, rfl⟩
  have HN := Lib.hid hn; have HA := Lib.hid h
  rw [hn] at hl ⊢
  clear hn h
  go_enter Try.func16, Try.ntmps16
  go_wp2_with fail
  go_loopw [5] (fun i wr => ∃ k : Nat, k ≤ n ∧ i = .int .i64 k ∧ Hid (x ∉ l.take k) ∧ wr = w) (fun i _ => n - (intOf i).toNat)
  case atStart => exact ⟨0, by omega, rfl, Lib.hid (by simp), rfl⟩
  case round =>
    obtain ⟨k, hk, rfl, HX, rfl⟩ := hrel
    by_cases hlt : k < n
    · have hne : l ≠ [] := fun e => by have := HN.out; rw [e] at this; simp at this; omega
      obtain ⟨g, off, rfl, hg, hc⟩ := HA.out.resolve_left hne
      have hck := hc k (by have := HN.out; omega)
      have HT : Hid (l.take (k + 1) = l.take k ++ [l.getD k 0] ∧ l.getD k 0 ∈ l) := Lib.hid (by
        have hkl : k < l.length := by have := HN.out; omega
        rw [List.take_add_one]
        simp [List.getD, hkl])
      clear hc hne
      generalize l.getD k 0 = y at *
      by_cases he : y = x
      · subst he
        have HM : Hid (decide (y ∈ l) = true) := Lib.hid (decide_eq_true HT.out.2)
        go_wp2_with fail
        go_ret
        exact ⟨by rw [HM.out]; rfl, rfl⟩
      · have d1 : (y == x) = false := beq_eq_false_iff_ne.2 he
        have HE := Lib.hid he
        clear he
        go_wp2_with fail
        go_roundw
        case rel => exact ⟨k + 1, by omega, by go_num, Lib.hid (by rw [HT.out.1]; simp; exact ⟨HX.out, fun e => HE.out e.symm⟩), trivial⟩
        case measure => simp [intOf]; omega
    · obtain rfl : k = n := by omega
      have HM : Hid (decide (x ∈ l) = false) := Lib.hid (decide_eq_false (by have := HX.out; rwa [List.take_of_length_le (by have := HN.out; omega)] at this))
      go_wp2_with fail
      go_ret
      exact ⟨by rw [HM.out]; rfl, rfl⟩
end Go.Proofs.Ytljpgmhgnfnbkaa
