/- Slices of tokens. -/
import Derived.Test.YtdilncefhfbgeaaGreatDoorM2
import Derived.Lib.Builder
import Derived.Lib.AppendStr
import Derived.Lib.UnsafeStr
import Derived.Lib.Walk
import Derived.Laws.Externs
import Derived.Test.YtdilncefhfbgeaaGreatDoorM0
import Derived.Test.YtdilncefhfbgeaaGreatDoorShelf
set_option linter.unusedVariables false
set_option linter.unusedSimpArgs false
namespace Go.Proofs.YtdilncefhfbgeaaGreatDoor
open Go.RowKit

def tokV (t : Tok) : List Value := [.int .i64 (t.kind : Int), strV t.lead, strV t.text, .int .i64 (t.pos : Int)]
def cellsT (l : List Tok) : List Value := l.flatMap tokV

theorem cellsT_cons (p : Tok) (l : List Tok) : cellsT (p :: l) = .int .i64 (p.kind : Int) :: strV p.lead :: strV p.text :: .int .i64 (p.pos : Int) :: cellsT l := rfl
theorem cellsT_append (l r : List Tok) : cellsT (l ++ r) = cellsT l ++ cellsT r := by unfold cellsT; rw [List.flatMap_append]
theorem cellsT_get (l : List Tok) (j : Nat) (p : Tok) (h : l[j]? = some p) : (cellsT l)[j * 4]? = some (.int .i64 (p.kind : Int)) ∧ (cellsT l)[j * 4 + 1]? = some (strV p.lead) ∧ (cellsT l)[j * 4 + 2]? = some (strV p.text) ∧ (cellsT l)[j * 4 + 3]? = some (.int .i64 (p.pos : Int)) := by
  induction l generalizing j with
  | nil => simp at h
  | cons q l ih =>
    rw [cellsT_cons]
    match j, h with
    | 0, h => simp at h; subst h; exact ⟨rfl, rfl, rfl, rfl⟩
    | j + 1, h =>
      have := ih j (by simpa using h)
      rw [show (j + 1) * 4 = j * 4 + 1 + 1 + 1 + 1 by omega]
      simpa using this

/-- A slice reads as a list of tokens. -/
def TAt (w : World) (p : Option Addr) (l : List Tok) : Prop :=
  l = [] ∨ ∃ g off, p = some ⟨g, off, none⟩ ∧ g < w.heap.size ∧ ∀ j q, l[j]? = some q → w.cell? ⟨g, off + j * 4, none⟩ = some (.int .i64 (q.kind : Int)) ∧ w.cell? ⟨g, off + j * 4 + 1, none⟩ = some (strV q.lead) ∧ w.cell? ⟨g, off + j * 4 + 2, none⟩ = some (strV q.text) ∧ w.cell? ⟨g, off + j * 4 + 3, none⟩ = some (.int .i64 (q.pos : Int))

theorem TAt.kept {w w' : World} {p : Option Addr} {l : List Tok} (h : TAt w p l) (hg : w.grownBy w' none) : TAt w' p l := by
  rcases h with h | ⟨g, off, rfl, hl, hc⟩
  · exact .inl h
  · exact .inr ⟨g, off, rfl, Nat.lt_of_lt_of_le hl hg.size, fun j q hj => ⟨hg.cell (hc j q hj).1 (by simp), hg.cell (hc j q hj).2.1 (by simp), hg.cell (hc j q hj).2.2.1 (by simp), hg.cell (hc j q hj).2.2.2 (by simp)⟩⟩

/-- A list of tokens of one's own. -/
def OwnT (T : TypeId) (w : World) (base : Nat) (v : Value) (l : List Tok) : Prop := w.ownsRow base T 4 v l.length (cellsT l)

theorem OwnT.nil (T : TypeId) (w : World) (base : Nat) : OwnT T w base (.slice none 0 0) [] := World.ownsRow_nil _ _ _ _
theorem OwnT.kept {T : TypeId} {w w' : World} {base : Nat} {v : Value} {l : List Tok} (h : OwnT T w base v l) (hg : w.grownBy w' none) : OwnT T w' base v l := World.ownsRow.kept h hg (by
  cases hv : v.ownBlock with
  | none => exact .inl rfl
  | some k => exact .inr (by simp))

theorem OwnT.is {T : TypeId} {w : World} {base : Nat} {v : Value} {l : List Tok} (h : OwnT T w base v l) : ∃ p c, v = .slice p l.length c ∧ TAt w p l ∧ l.length ≤ c ∧ c ≤ maxLen ∧ (l ≠ [] → ∀ a, p = some a → base ≤ a.block) := by
  rcases h.2 with ⟨rfl, h0⟩ | ⟨g, cap, cur, rfl, hb, hg, hnc, hcm, h1, h2⟩
  · have : l = [] := List.eq_nil_of_length_eq_zero h0
    subst this
    exact ⟨none, 0, rfl, .inl rfl, Nat.le_refl _, by unfold maxLen; omega, fun h => absurd rfl h⟩
  · refine ⟨_, cap, rfl, .inr ⟨g, 0, rfl, hlt hg, fun j q hj => ?_⟩, hnc, hcm, fun _ a ha => by injection ha with ha; subst ha; exact hb⟩
    obtain ⟨g1, g2, g3, g4⟩ := cellsT_get l j q hj
    have hjl : j < l.length := (List.getElem?_eq_some_iff.1 hj).1
    have h' : w.ownsRow base T 4 (.slice (some ⟨g, 0, none⟩) l.length cap) l.length (cellsT l) := h
    rw [Nat.zero_add]
    exact ⟨by rw [h'.cellAt _ (by omega)]; exact g1, by rw [h'.cellAt _ (by omega)]; exact g2, by rw [h'.cellAt _ (by omega)]; exact g3, by rw [h'.cellAt _ (by omega)]; exact g4⟩

/-- append of one token, as a step of the walk. -/
theorem wpList_appT {t T : TypeId} {z : Value} {by' : Nat} (ht : Tryz.prog.underlying t = some (.slice T)) (hT : (Tryz.prog.info? T).map (fun i => (i.zero, i.size, i.bytes)) = some (some z, 4, by')) (hz : z.cells.size = 4) (hby : by' ≤ 64)
    {w0 : World} {ops : Array Oper} {rest : List Oper} {o : Oper} {a : Act} {Q : Exit → Act → World → Prop} (hgd : o.guard = none) (s x : Operand) (ho : o.op = .call { callee := .builtin .append, args := #[s, x], argTypes := #[t, t] })
    (base : Nat) (l : List Tok) (y : Tok) (y1 y2 y3 y4 : Value) (hy : tokV y = [y1, y2, y3, y4]) (v : Value) (hs : a.eval s = v) (hown : OwnT T w0 base v l) (H : Nat) (hH : w0.heap.size = H) (hx : a.eval x = .slice (some ⟨H, 0, none⟩) 1 1) (hn : l.length ≤ 1000000) (hbase : base ≤ w0.heap.size)
    (K : ∀ g' cap' w', OwnT T w' base (.slice (some ⟨g', 0, none⟩) (l.length + 1) cap') (l ++ [y]) → Below base w0 w' → wpList Tryz.prog ops Q rest (a.put o.dst (.slice (some ⟨g', 0, none⟩) (l.length + 1) cap')) w') :
    wpList Tryz.prog ops Q (o :: rest) a (w0.alloc (.cells #[y1, y2, y3, y4] T)) := by
  subst hH
  obtain ⟨i0, hi, hi0, hi1, hi2⟩ := info_parts hT
  have h1a := World.ownsRow.alloc hown (.cells #[y1, y2, y3, y4] T)
  have hb : (l.length + 1) * by' ≤ 140737488355328 := by
    have : (l.length + 1) * by' ≤ (l.length + 1) * 64 := Nat.mul_le_mul_left _ hby
    omega
  unfold tokV at hy
  simp only [List.cons.injEq, and_true] at hy
  obtain ⟨rfl, rfl, rfl, rfl⟩ := hy
  refine wpList_append_lies (P := Tryz.prog) _ hgd s x t ho base T i0 z 4 by' ht hi hi0 hi1 hi2 hz (by decide) _ l.length (cellsT l) hs h1a ⟨w0.heap.size, 0, none⟩ 1 1 (tokV y) hx rfl ?_ ?_ (by omega) (by unfold maxLen; omega) hb (by simp; omega) (w0.heap.size + 1) (by simp) ?_
  · intro j u hj
    rw [Addr.add_lit, cell_of_row _ w0.heap.size _ _ _ (0, 0) (heap_alloc_new w0 _)]
    unfold tokV at hj
    match j, hj with
    | 0, hj => simp at hj; subst hj; rfl
    | 1, hj => simp at hj; subst hj; rfl
    | 2, hj => simp at hj; subst hj; rfl
    | 3, hj => simp at hj; subst hj; rfl
  · intro u hu
    unfold tokV at hu
    simp at hu; rcases hu with rfl | rfl | rfl | rfl <;> rfl
  · intro g' cap' w' h3 h4 h5 _
    exact K g' cap' w' (by simpa [OwnT, cellsT_append, cellsT] using h3) (Below.trans2 (Below.gb (World.grownBy_alloc w0 _ none) hbase) (below_own h1a (by simp; omega) h4))

theorem TAt.setBox {w : World} {p : Option Addr} {l : List Tok} {b : Nat} (h : TAt w p l) (hb : l ≠ [] → ∀ a, p = some a → b < a.block) (j : Nat) (u : Value) : TAt (w.setCell ⟨b, j, none⟩ u) p l := by
  rcases h with h | ⟨g, off, rfl, hl, hc⟩
  · exact .inl h
  · by_cases h0 : l = []
    · exact .inl h0
    · have hgb : b < g := hb h0 ⟨g, off, none⟩ rfl
      have keep : ∀ o, (w.setCell ⟨b, j, none⟩ u).cell? ⟨g, o, none⟩ = w.cell? ⟨g, o, none⟩ := fun o =>
        World.cell?_of_block (w := w) (Below.heap_setCell _ _ _ _ (by simp; omega))
      exact .inr ⟨g, off, rfl, by simpa [World.setCell] using hl, fun i q hi => by rw [keep, keep, keep, keep]; exact hc i q hi⟩

theorem cells2 {w : World} {r : Nat} {u v : Value} {T : TypeId} (h : w.heap[r]? = some (.cells #[u, v] T (0, 0))) : w.cell? ⟨r, 0, none⟩ = some u ∧ w.cell? ⟨r, 1, none⟩ = some v ∧ ∀ o, w.frozen? ⟨r, o, none⟩ = false :=
  ⟨by rw [cell_of_row w r 0 _ T (0, 0) h]; rfl, by rw [cell_of_row w r 1 _ T (0, 0) h]; rfl, fun o => by simp [World.frozen?, h]⟩

theorem infoT : (Tryz.prog.info? 113).map (fun i => (i.zero, i.size, i.bytes)) = some (some (.agg #[.int .i64 0, .string ⟨#[]⟩, .string ⟨#[]⟩, .int .i64 0]), 4, 48) := by kernel_rfl
end Go.Proofs.YtdilncefhfbgeaaGreatDoor
namespace Go.Proofs.YtdilncefhfbgeaaGreatDoor
open Go.RowKit

theorem sizeB : (Tryz.prog.info? 117).map (·.size) = some 2 := by kernel_rfl
theorem liesB : liesAt Tryz.prog Tryz.prog.depth 117 (2 / Tryz.prog.cellsOf 117) 0 117 1 = true := by kernel_rfl
theorem infoU : (Tryz.prog.info? 5).map (fun i => (i.zero, i.size, i.bytes)) = some (some (.int .u8 0), 1, 1) := by kernel_rfl

set_option maxHeartbeats 1000000 in
set_option maxRecDepth 100000 in
theorem copyCheck_used (b : Nat) (w : World) (h0 : w.cell? ⟨b, 0, none⟩ = some (.pointer (some ⟨b, 0, none⟩))) :
    Calls Tryz.prog 111 #[.pointer (some ⟨b, 0, none⟩)] w fun e w' => e = .returned (.tuple #[]) ∧ w' = w := by
  obtain ⟨j, hj, _⟩ := Option.map_eq_some_iff.1 sizeB
  go_enter Tryz.func111, Tryz.ntmps111
  go_wp2
  rw [Lib.run_neq_ptr_same w _ Tryz.underlying114 hj]
  go_wp2
  go_end0
  exact ⟨rfl, rfl⟩

set_option maxHeartbeats 1000000 in
set_option maxRecDepth 100000 in
theorem copyCheck_fresh (b : Nat) (w : World) (h0 : w.cell? ⟨b, 0, none⟩ = some (.pointer none)) (hsh : w.shape? b = some (117, 2)) (hfz : w.frozen? ⟨b, 0, none⟩ = false) :
    Calls Tryz.prog 111 #[.pointer (some ⟨b, 0, none⟩)] w fun e w' => e = .returned (.tuple #[]) ∧ w' = w.setCell ⟨b, 0, none⟩ (.pointer (some ⟨b, 0, none⟩)) := by
  obtain ⟨j, hj, hjs⟩ := Option.map_eq_some_iff.1 sizeB
  go_enter Tryz.func111, Tryz.ntmps111
  go_wp2
  rw [Lib.run_to_unsafe w ⟨b, 0, none⟩ Tryz.underlying114 Tryz.underlying235 hj (by rw [hjs]; decide) hsh (Nat.zero_lt_succ 1)]
  simp only [Result.andThen]
  rw [Oper.upon_value]
  go_wp2
  rw [run_callFunc_extern Tryz.func171 (by kernel_rfl) (by kernel_rfl) (by kernel_rfl) (e := Extern.AbiNoEscape.same) (by kernel_rfl)]
  rw [Lib.run_noEscape]
  simp only [Result.andThen]
  rw [Oper.upon_value]
  go_wp2
  rw [Lib.run_from_unsafe w ⟨b, 0, none⟩ Tryz.underlying235 Tryz.underlying114 hj hsh liesB]
  simp only [Result.andThen]
  rw [Oper.upon_value]
  go_wp2
  go_end0
  exact ⟨rfl, rfl⟩

/-- Blocks of other things than bytes, but b, are as they were. -/
def OKept (b : Nat) (w w' : World) : Prop := ∀ (g : Nat) (cs : Array Value) (T : TypeId), w.heap[g]? = some (.cells cs T (0, 0)) → T ≠ 5 → g ≠ b → w'.heap[g]? = some (.cells cs T (0, 0))

theorem OKept.trans {b : Nat} {w w1 w2 : World} (h : OKept b w w1) (k : OKept b w1 w2) : OKept b w w2 := fun g cs T h1 h2 h3 => k g cs T (h g cs T h1 h2 h3) h2 h3
theorem OKept.none {b : Nat} {w w' : World} (h : w.grownBy w' Option.none) : OKept b w w' := fun g cs T h1 _ _ => bx h h1

theorem hlt' {a : World} {h : Nat} {o : Obj} (hb : a.heap[h]? = some o) : h < a.heap.size := hlt hb

theorem copyCheck_c (B b : Nat) (bs : List Value) (w : World) (h : Lib.IsBuilder 117 5 B b bs w) :
    Calls Tryz.prog 111 #[.pointer (some ⟨b, 0, none⟩)] w fun e w' => e = .returned (.tuple #[]) ∧ (Lib.BuilderAt 117 5 B b (.pointer (some ⟨b, 0, none⟩)) bs w' ∧ Below B w w') ∧ Fr2 (fun k => k = b) w w' := by
  rcases h with h | h
  · refine (copyCheck_fresh b w h.cell0 h.shape h.frozen0).mono ?_
    rintro e w' ⟨rfl, rfl⟩
    exact ⟨rfl, ⟨h.used _, (Below.refl B w).setCell (p := ⟨b, 0, none⟩) h.1 _⟩, Fr2.setCell (S := fun k => k = b) (Fr2.refl _ _) rfl _⟩
  · refine (copyCheck_used b w h.cell0).mono ?_
    rintro e w' ⟨rfl, rfl⟩
    exact ⟨rfl, ⟨h, Below.refl B _⟩, Fr2.refl _ _⟩

set_option maxHeartbeats 1000000 in
set_option maxRecDepth 100000 in
theorem WriteString_c (B b : Nat) (bs : List Value) (s : ByteArray) (w : World) (h : Lib.IsBuilder 117 5 B b bs w) (hlen : bs.length + s.size ≤ 140737488355328) (hBw : B ≤ w.heap.size) :
    Calls Tryz.prog 54 #[.pointer (some ⟨b, 0, none⟩), .string s] w fun e w' => e = .returned (.tuple #[.int .i64 s.size, .nilIface]) ∧ (Lib.BuilderAt 117 5 B b (.pointer (some ⟨b, 0, none⟩)) (bs ++ Lib.strCells s) w' ∧ Below B w w') ∧ OKept b w w' := by
  obtain ⟨i0, hi, hz0, hz1, hz2⟩ := info_parts infoU
  go_enter Tryz.func54, Tryz.ntmps54
  go_wp2_with (go_at_call 111; refine (copyCheck_c B b bs _ h).mono ?_)
  rintro e w1 ⟨rfl, ⟨h1, hb1⟩, hf1⟩
  have HF1 := Lib.hid hf1
  clear hf1
  obtain ⟨hB, v, hbk, hown, hne⟩ := h1
  have c0 : w1.cell? ⟨b, 0, none⟩ = some (.pointer (some ⟨b, 0, none⟩)) := by rw [Lib.cell_of_heap hbk]; rfl
  have c1 : w1.cell? ⟨b, 1, none⟩ = some v := by rw [Lib.cell_of_heap hbk]; rfl
  go_wp2_with (at_builtin; refine Lib.wpList_append_own_string _ rfl _ _ 115 9 rfl B 5 i0 Tryz.underlying115 Tryz.underlying9 hi hz0 hz1 hz2 _ _ _ rfl hown s rfl ?c3 ?c4 ?c5 ?_)
  case c3 => unfold maxLen; omega
  case c4 => omega
  case c5 => have := hb1.size; omega
  intro v' w2 hown' hgrow _
  have hlt : b < w1.heap.size := by
    rcases Nat.lt_or_ge b w1.heap.size with h' | h'
    · exact h'
    · simp [Array.getElem?_eq_none h'] at hbk
  have hb2 : w2.heap[b]? = some (.cells #[.pointer (some ⟨b, 0, none⟩), v] 117 (0, 0)) := by
    rw [hgrow.block b hlt (fun e => hne e.symm)]
    exact hbk
  have d0 : w2.cell? ⟨b, 0, none⟩ = some (.pointer (some ⟨b, 0, none⟩)) := by rw [Lib.cell_of_heap hb2]; rfl
  have d1 : w2.cell? ⟨b, 1, none⟩ = some v := by rw [Lib.cell_of_heap hb2]; rfl
  have f1 : w2.frozen? ⟨b, 1, none⟩ = false := Lib.frozen_of_heap hb2 1
  obtain ⟨ao, n', cap, rfl⟩ : ∃ ao n' cap, v' = .slice ao n' cap := by
    rcases hown'.2 with ⟨hv, _⟩ | ⟨g, cap, cur, hv, _⟩
    · exact ⟨_, _, _, hv⟩
    · exact ⟨_, _, _, hv⟩
  go_wp2
  go_ret2
  refine ⟨rfl, ⟨?_, ?_⟩, ?_⟩
  · exact Lib.BuilderAt.put (T := 117) (e := 5) hB hb2 (bs' := bs ++ Lib.strCells s) (by simpa [Lib.strCells_length] using hown') (by decide)
  · exact (hb1.grown hgrow (by have := hb1.size; omega) (fun k hk => (hown.lt k hk).1)).setCell (p := ⟨b, 1, none⟩) hB _
  · intro g cs T h1 h2 h3
    have h4 := HF1.out.keep h1 h3
    have h5 := Lib.ownBlock_ne hown h4 h2
    have h6 : w2.heap[g]? = _ := (hgrow.block g (hlt' h4) (fun e => h5 e.symm)).trans h4
    rw [Below.heap_setCell _ _ _ _ (by simpa using h3)]
    exact h6

/-! ### A builder among others -/

theorem bld_kept {B b : Nat} {bs : List Value} {w w' : World} (h : Lib.IsBuilder 117 5 B b bs w) (hg : w.grownBy w' none) : Lib.IsBuilder 117 5 B b bs w' := by
  have one : ∀ p, Lib.BuilderAt 117 5 B b p bs w → Lib.BuilderAt 117 5 B b p bs w' := by
    intro p ⟨hB, v, hb, hown, hne⟩
    exact ⟨hB, v, bx hg hb, World.ownsRow.kept hown hg (by cases hv : v.ownBlock with | none => exact .inl rfl | some k => exact .inr (by simp)), hne⟩
  exact h.imp (one _) (one _)

/-- A builder where a block of other things alone has turned. -/
theorem bld_keptS {B b g : Nat} {bs : List Value} {w w' : World} {cs : Array Value} {T : TypeId} (h : Lib.IsBuilder 117 5 B b bs w) (hg : w.grownBy w' (some g)) (hgb : w.heap[g]? = some (.cells cs T (0, 0))) (hT : T ≠ 5) (hne : g ≠ b) : Lib.IsBuilder 117 5 B b bs w' := by
  have one : ∀ p, Lib.BuilderAt 117 5 B b p bs w → Lib.BuilderAt 117 5 B b p bs w' := by
    intro p ⟨hB, v, hb, hown, hn⟩
    have h5 := Lib.ownBlock_ne hown hgb hT
    exact ⟨hB, v, (hg.block b (hlt hb) (by simpa using hne.symm)).trans hb, World.ownsRow.kept hown hg (by cases hv : v.ownBlock with | none => exact .inl rfl | some k => exact .inr (fun e => h5 (hv.trans e))), hn⟩
  exact h.imp (one _) (one _)

theorem bld_new (w : World) (B : Nat) (hB : B ≤ w.heap.size) : Lib.IsBuilder 117 5 B w.heap.size [] (w.alloc (.cells #[.pointer none, .slice none 0 0] 117)) :=
  .inl ⟨hB, .slice none 0 0, heap_alloc_new w _, World.ownsRow_nil _ _ _ _, by simp [Value.ownBlock]⟩

theorem OwnQ.okept {T : TypeId} {w w' : World} {base b : Nat} {v : Value} {l : List (Value × Value)} (h : OwnQ T w base v l) (hg : OKept b w w') (hT : T ≠ 5) (hb : v.ownBlock ≠ some b) : OwnQ T w' base v l :=
  ⟨h.1, h.2.imp id fun ⟨g, cap, cur, e, hh, hb1, r⟩ => ⟨g, cap, cur, e, hh, hg g cur T hb1 hT (fun e2 => hb (by rw [e, e2]; rfl)), r⟩⟩
end Go.Proofs.YtdilncefhfbgeaaGreatDoor
namespace Go.Proofs.YtdilncefhfbgeaaGreatDoor
open Go.RowKit

def ValPost (v : Value) (w : World) (e : Ending) (w' : World) : Prop := e = .returned v ∧ w.grownBy w' none

set_option maxRecDepth 100000 in
theorem Clone_c (s : ByteArray) (w : World) (hlim : s.size ≤ 281474976710656) : Calls Tryz.prog 58 #[.string s] w (ValPost (.string s) w) := by
  have H := Lib.hid (Tryz.stringslite_Clone s w hlim)
  go_enter Tryz.func58, Tryz.ntmps58
  go_wp2_with fail
  refine H.out.mono ?_
  rintro e w1 ⟨rfl, hb⟩
  have HB := Lib.hid hb
  clear hb
  go_wp2_with fail
  go_ret
  exact ⟨rfl, below_gb HB.out⟩

/-- What Lex answers. -/
def LexPost (l : List UInt8) (w : World) (e : Ending) (w' : World) : Prop :=
  w.grownBy w' none ∧ if 65536 < l.length then e = .returned (.tuple #[.slice none 0 0, .agg #[.int .i64 11, .int .i64 0]])
    else if (allE l).2.1 ≠ 0 then e = .returned (.tuple #[.slice none 0 0, .agg #[.int .i64 ((allE l).2.1 : Nat), .int .i64 ((allE l).2.2 : Nat)]])
    else ∃ q c, e = .returned (.tuple #[.slice q (allE l).1.length c, .agg #[.int .i64 0, .int .i64 0]]) ∧ TAt w' q (allE l).1 ∧ (allE l).1.length ≤ c ∧ c ≤ maxLen

theorem tok_parts (s : ByteArray) {p : Nat} (hp : p ≤ s.size) : ∃ a k z, sk false (s.data.toList.drop p) = a ∧ firstE (s.data.toList.drop (p + a)) = (k, z) ∧ k ≤ 5 ∧ p + a + z ≤ s.size ∧ stepE (s.data.toList.drop p) = a + z ∧
    tokE (s.data.toList.drop p) p = ⟨k, (s.extract p (p + a)).data.toList, (s.extract (p + a) (p + a + z)).data.toList, p + a⟩ := by
  obtain ⟨a, ha⟩ : ∃ a, sk false (s.data.toList.drop p) = a := ⟨_, rfl⟩
  obtain ⟨k, z, hkz⟩ : ∃ k z, firstE (s.data.toList.drop (p + a)) = (k, z) := ⟨_, _, rfl⟩
  have h1 := sk_le (s.data.toList.drop p) false
  have h2 := firstE_le (s.data.toList.drop (p + a))
  have h3 := (firstE_kind (s.data.toList.drop (p + a))).1
  rw [ha, List.length_drop, list_len] at h1
  rw [hkz] at h2 h3
  rw [List.length_drop, list_len] at h2
  simp only at h2 h3
  refine ⟨a, k, z, ha, hkz, h3, by omega, ?_, ?_⟩
  · unfold stepE; rw [ha, List.drop_drop, hkz]
  · unfold tokE; rw [ha, List.drop_drop, hkz, ext_take, ext_take]

theorem big_post {s : ByteArray} {w w' : World} {e : Ending} (hs : 65536 < s.size) (hg : w.grownBy w' none) (he : e = .returned (.tuple #[.slice none 0 0, .agg #[.int .i64 11, .int .i64 0]])) : LexPost s.data.toList w e w' := by
  refine ⟨hg, ?_⟩
  rw [list_len, if_pos hs]; exact he
theorem fault_post {s : ByteArray} {w w' : World} {e : Ending} {n p : Nat} (hs : ¬ 65536 < s.size) (hf : (allE s.data.toList).2 = (n, p)) (hn : n ≠ 0) (hg : w.grownBy w' none) (he : e = .returned (.tuple #[.slice none 0 0, .agg #[.int .i64 (n : Int), .int .i64 (p : Int)]])) : LexPost s.data.toList w e w' := by
  refine ⟨hg, ?_⟩
  rw [list_len, if_neg hs, hf, if_pos hn]; exact he
theorem done_post {s : ByteArray} {w w' : World} {e : Ending} {O : List Tok} {q : Option Addr} {c : Nat} (hs : ¬ 65536 < s.size) (hf : allE s.data.toList = (O, 0, 0)) (hg : w.grownBy w' none) (he : e = .returned (.tuple #[.slice q O.length c, .agg #[.int .i64 0, .int .i64 0]])) (ht : TAt w' q O) (h1 : O.length ≤ c) (h2 : c ≤ maxLen) : LexPost s.data.toList w e w' := by
  refine ⟨hg, ?_⟩
  rw [list_len, if_neg hs, hf, if_neg (by simp)]; exact ⟨q, c, he, ht, h1, h2⟩

set_option maxRecDepth 100000 in
set_option maxHeartbeats 8000000 in
theorem Lex_c (s : ByteArray) (w : World) (hs : s.size ≤ 1000000) (hla : LaidE w) : Calls Tryz.prog 97 #[.string s] w (LexPost s.data.toList w) := by
  by_cases hbig : 65536 < s.size
  · have d1 : decide ((65536 : Int) < (s.size : Int)) = true := decide_eq_true (by omega)
    have d1' : decide (65536 < s.size) = true := decide_eq_true hbig
    go_enter Tryz.func97, Tryz.ntmps97
    go_wp2_with fail
    refine bodyPost_ret (v := .tuple #[.slice none 0 0, .agg #[.int .i64 11, .int .i64 0]]) (by simp [results, Tryz.results97, go_sem]) rfl (big_post hbig (World.grownBy_alloc w _ _) rfl)
  · have d1 : decide ((65536 : Int) < (s.size : Int)) = false := decide_eq_false (by omega)
    have d1' : decide (65536 < s.size) = false := decide_eq_false hbig
    have HBIG := Lib.hid hbig
    have HLA := Lib.hid hla
    have HB0 := Lib.hid (heap_alloc_new w (.cells #[.int .i64 0, .int .i64 0] 29))
    have HGA := Lib.hid (World.grownBy_alloc w (.cells #[.int .i64 0, .int .i64 0] 29) none)
    clear hla
    go_enter Tryz.func97, Tryz.ntmps97
    go_wp2_with fail
    refine (Clone_c s _ (by omega)).mono ?_
    rintro e w0 ⟨rfl, hg0⟩
    have HG0 := Lib.hid (gb_trans HGA.out hg0)
    have HBX0 := Lib.hid (bx hg0 HB0.out)
    have HSZ0 : Hid (w.heap.size < w0.heap.size) := Lib.hid (by have := hg0.size; simp at this; omega)
    clear hg0 d1 d1' HB0 HGA
    go_wp2_with fail
    go_loopw [4, 5] (fun ov pv wr => ∃ (p : Nat) (O : List Tok), p ≤ s.size ∧ pv = .int .i64 p ∧ Hid (RestE s.data.toList O p) ∧ Hid (OwnT 113 wr w0.heap.size ov O) ∧ Hid (w0.grownBy wr none)) (fun _ pv _ => s.size - (intOf pv).toNat)
    case atStart => exact ⟨0, [], Nat.zero_le _, rfl, Lib.hid (RestE.start _), Lib.hid (OwnT.nil _ _ _), gb_refl _ _⟩
    case round =>
      obtain ⟨p, O, hp, rfl, HR, HO, HG⟩ := hrel
      obtain ⟨a, k, z, ha, hkz, hk5, hpz, hst, htk⟩ := tok_parts s hp
      have HLS := leadSize_c (s.extract p s.size) wr (by rw [ByteArray.size_extract]; omega)
      rw [ext_end s p _ rfl, ha] at HLS
      have HLE := Lib.hid HLS
      have HF := fun W (h : LaidE W) => first_c (s.extract (p + a) s.size) W (by rw [ByteArray.size_extract]; omega) h
      rw [ext_end s (p + a) _ rfl, hkz] at HF
      simp only at HF
      have HFI := Lib.hid HF
      have HW := Lib.hid (fun W => wrong_c k hk5 (s.extract (p + a) (p + a + z)) W (by rw [ByteArray.size_extract]; omega))
      obtain ⟨n, hn⟩ : ∃ n, wrongE k (s.extract (p + a) (p + a + z)).data.toList = n := ⟨_, rfl⟩
      rw [hn] at HW
      have HTK := Lib.hid htk; have HN := Lib.hid hn; have HST := Lib.hid hst
      have hw1 : IntKind.i64.wrap ((p : Int) + (a : Int)) = (p : Int) + (a : Int) := IntWalk.i64_in _ (by omega)
      have hw2 : IntKind.i64.wrap ((p : Int) + (a : Int) + (z : Int)) = (p : Int) + (a : Int) + (z : Int) := IntWalk.i64_in _ (by omega)
      clear ha hkz hst htk hn HLS HF
      go_wp2_with fail
      refine HLE.out.mono ?_
      rintro e w1 ⟨rfl, hg1⟩
      have HG1 := Lib.hid (gb_trans HG.out hg1)
      have HO1 := Lib.hid (HO.out.kept hg1)
      clear hg1
      go_wp2_with fail
      refine (HFI.out w1 (HLA.out.kept (gb_trans HG0.out HG1.out))).mono ?_
      rintro e w2 ⟨rfl, rfl⟩
      go_wp2_with fail
      refine (HW.out w1).mono ?_
      rintro e w2 ⟨rfl, rfl⟩
      clear HLE HFI HW HG HO
      by_cases hn0 : n = 0
      · subst hn0
        have HLN : Hid (O.length ≤ 1000000) := Lib.hid (by have := HR.out.2.1; omega)
        have HTV : Hid (tokV (tokE (s.data.toList.drop p) p) = [.int .i64 (k : Int), .string (s.extract p (p + a)), .string (s.extract (p + a) (p + a + z)), .int .i64 ((p : Int) + (a : Int))]) := Lib.hid (by rw [HTK.out]; rfl)
        by_cases hk : k = 5
        · subst hk
          have HAL : Hid (allE s.data.toList = (O ++ [tokE (s.data.toList.drop p) p], 0, 0)) := Lib.hid (HR.out.done (by rw [HTK.out]; exact HN.out) (by rw [HTK.out]))
          go_wp2_with (at_builtin; go_loud (refine wpList_appT (t := 23) (T := 113) Tryz.underlying23 infoT rfl (by omega) rfl _ _ rfl w0.heap.size O (tokE (s.data.toList.drop p) p) _ _ _ _ HTV.out u4 rfl HO1.out _ rfl rfl HLN.out HG1.out.size ?_))
          intro g' cap' w6 hO6 hB6
          have HO6 := Lib.hid hO6
          have HG6 : Hid (w0.grownBy w6 none) := Lib.hid (below_gb (Below.trans2 (gb_below HG1.out) hB6))
          clear hO6 hB6 HO1
          obtain ⟨q, c, hq, hqt, hc1, hc2, hqb⟩ := HO6.out.is
          injection hq with hq1 hq2 hq3
          subst hq1; subst hq3
          rw [List.length_append, List.length_singleton] at hc1
          have HQT := Lib.hid hqt; have HC := Lib.hid hc1; have HC2 := Lib.hid hc2; have HQB := Lib.hid hqb
          have HLL : Hid ((O ++ [tokE (s.data.toList.drop p) p]).length = O.length + 1) := Lib.hid (by simp)
          have HBX := Lib.hid (bx HG6.out HBX0.out)
          obtain ⟨c0, c1, cf⟩ := cells2 HBX.out
          clear hqt hc1 hc2 hqb hq2
          go_wp2_with fail
          have hlt6 : w.heap.size < w6.heap.size := by have := HSZ0.out; have := HG6.out.size; omega
          have hne : ∀ a, some (⟨g', 0, none⟩ : Addr) = some a → w.heap.size < a.block := fun a ha => by
            have := HQB.out (by simp) a ha; have := HSZ0.out; omega
          refine bodyPost_ret (v := .tuple #[.slice (some ⟨g', 0, none⟩) (O.length + 1) cap', .agg #[.int .i64 0, .int .i64 0]]) (by simp [results, Tryz.results97, go_sem, c0, c1]) rfl ?_
          rw [← HLL.out]
          refine done_post HBIG.out HAL.out ?_ rfl ?_ ?_ HC2.out
          · exact below_gb (((gb_below (gb_trans HG0.out HG6.out)).setCell (by simp) _).setCell (by simp) _)
          · exact (HQT.out.setBox (fun _ => hne) _ _).setBox (fun _ => hne) _ _
          · rw [HLL.out]; exact HC.out
        · have d5 : ((k : Int) == 5) = false := beq_eq_false_iff_ne.2 (by omega)
          obtain ⟨hr2, hpos⟩ := HR.out.more (by rw [HTK.out]; exact HN.out) (by rw [HTK.out]; exact hk)
          rw [HST.out] at hr2 hpos
          have HR2 := Lib.hid hr2
          clear hr2
          go_wp2_with (at_builtin; go_loud (refine wpList_appT (t := 23) (T := 113) Tryz.underlying23 infoT rfl (by omega) rfl _ _ rfl w0.heap.size O (tokE (s.data.toList.drop p) p) _ _ _ _ HTV.out u4 rfl HO1.out _ rfl rfl HLN.out HG1.out.size ?_))
          intro g' cap' w6 hO6 hB6
          have HO6 := Lib.hid hO6
          have HG6 : Hid (w0.grownBy w6 none) := Lib.hid (below_gb (Below.trans2 (gb_below HG1.out) hB6))
          clear hO6 hB6 HO1
          go_wp2_with fail
          go_roundw
          case rel => exact ⟨p + (a + z), _, by omega, val_of (by omega), HR2, HO6, HG6⟩
          case measure => (simp [intOf] <;> omega)
      · have d1 : ((n : Int) == 0) = false := beq_eq_false_iff_ne.2 (by omega)
        have d2 : ((n : Int) != 0) = true := by rw [bne, d1]; rfl
        have HFA : Hid ((allE s.data.toList).2 = (n, p + a)) := Lib.hid (by
          have := HR.out.fault (by rw [HTK.out]; simp only; rw [HN.out]; exact hn0)
          rw [HTK.out] at this
          simp only at this
          rw [HN.out] at this; exact this)
        have HBX := Lib.hid (bx HG1.out HBX0.out)
        obtain ⟨c0, c1, cf⟩ := cells2 HBX.out
        go_wp2_with fail
        refine bodyPost_ret (v := .tuple #[.slice none 0 0, .agg #[.int .i64 (n : Int), .int .i64 ((p : Int) + (a : Int))]]) (by simp [results, Tryz.results97, go_sem, c0, c1]) rfl (fault_post (p := p + a) HBIG.out HFA.out hn0 ?_ rfl)
        exact below_gb (((gb_below (gb_trans HG0.out HG1.out)).setCell (by simp) _).setCell (by simp) _)
end Go.Proofs.YtdilncefhfbgeaaGreatDoor
namespace Go.Proofs.YtdilncefhfbgeaaGreatDoor
open Go.RowKit

def wholeL (l : List Tok) : List UInt8 := l.flatMap fun t => t.lead ++ t.text

theorem wholeL_append (l r : List Tok) : wholeL (l ++ r) = wholeL l ++ wholeL r := by unfold wholeL; rw [List.flatMap_append]
theorem wholeL_next {l : List Tok} {k : Nat} {t : Tok} (h : l[k]? = some t) : wholeL (l.take (k + 1)) = wholeL (l.take k) ++ t.lead ++ t.text := by
  rw [List.take_add_one, h, wholeL_append]; simp [wholeL]
theorem wholeL_take (l : List Tok) (k : Nat) : (wholeL (l.take k)).length ≤ (wholeL l).length := by
  have h1 : wholeL l = wholeL (l.take k) ++ wholeL (l.drop k) := by rw [← wholeL_append, List.take_append_drop]
  rw [h1, List.length_append]; omega

theorem strCells_mk (x : List UInt8) : Lib.strCells ⟨x.toArray⟩ = Lib.byteCells x := rfl

set_option maxRecDepth 100000 in
set_option maxHeartbeats 8000000 in
theorem Whole_c (q : Option Addr) (c : Nat) (l : List Tok) (w : World) (hl : l.length ≤ 1000000) (hL : (wholeL l).length ≤ 1000000) (h : TAt w q l) : Calls Tryz.prog 71 #[.slice q l.length c] w (StrGb (wholeL l) w) := by
  obtain ⟨m, hm⟩ : ∃ m, l.length = m := ⟨_, rfl⟩
  have HM := Lib.hid hm; have HA := Lib.hid h; have HL := Lib.hid hL
  rw [hm] at hl ⊢
  clear hm h hL
  go_enter Tryz.func71, Tryz.ntmps71
  go_wp2_with fail
  have hbl := bld_new w w.heap.size (Nat.le_refl _)
  have hga := World.grownBy_alloc w (.cells #[.pointer none, .slice none 0 0] 117) none
  generalize (w.alloc (.cells #[.pointer none, .slice none 0 0] 117)) = W at *
  obtain ⟨b, hb⟩ : ∃ b, w.heap.size = b := ⟨_, rfl⟩
  have HBB := Lib.hid hb
  rw [hb] at hbl ⊢
  have HBL := Lib.hid hbl; have HGA := Lib.hid hga
  clear hbl hga hb
  go_loopw [8] (fun i wr => ∃ k : Nat, k ≤ m ∧ i = .int .i64 k ∧ Hid (Lib.IsBuilder 117 5 b b (Lib.byteCells (wholeL (l.take k))) wr) ∧ Hid (w.grownBy wr none)) (fun i _ => m - (intOf i).toNat)
  case atStart => exact ⟨0, Nat.zero_le _, rfl, HBL, HGA⟩
  case round =>
    clear HBL HGA
    obtain ⟨k, hk, rfl, HBL, HG⟩ := hrel
    by_cases hlt : k < m
    · have d1 : decide ((k : Int) < (m : Int)) = true := decide_eq_true (by omega)
      have d1' : decide (k < m) = true := decide_eq_true hlt
      obtain ⟨t, ht⟩ : ∃ t, l[k]? = some t := ⟨l[k]'(by rw [HM.out]; exact hlt), List.getElem?_eq_getElem _⟩
      obtain ⟨g, off, rfl, hgl, hc⟩ := HA.out.resolve_left (fun h => by have h1 := HM.out; rw [h] at h1; simp at h1; omega)
      obtain ⟨c0, c1, c2, c3⟩ := hc k t ht
      have c0 := HG.out.cell c0 (by simp)
      have c1 := HG.out.cell c1 (by simp)
      have c2 := HG.out.cell c2 (by simp)
      have c3 := HG.out.cell c3 (by simp)
      have hnx := wholeL_next ht
      have hle1 := wholeL_take l k
      have hle2 := wholeL_take l (k + 1)
      have hL := HL.out
      rw [hnx] at hle2
      simp only [List.length_append] at hle2
      obtain ⟨x, hx⟩ : ∃ x : ByteArray, (⟨t.lead.toArray⟩ : ByteArray) = x := ⟨_, rfl⟩
      obtain ⟨y, hy⟩ : ∃ y : ByteArray, (⟨t.text.toArray⟩ : ByteArray) = y := ⟨_, rfl⟩
      have hxl : x.data.toList = t.lead := by rw [← hx]
      have hyl : y.data.toList = t.text := by rw [← hy]
      have hxs : x.size = t.lead.length := by rw [← list_len, hxl]
      have hys : y.size = t.text.length := by rw [← list_len, hyl]
      unfold strV at c1 c2
      rw [hx] at c1
      rw [hy] at c2
      have HNX : Hid (Lib.byteCells (wholeL (l.take (k + 1))) = Lib.byteCells (wholeL (l.take k)) ++ Lib.strCells x ++ Lib.strCells y) := Lib.hid (by
        rw [hnx, Lib.byteCells_append, Lib.byteCells_append, ← strCells_mk t.lead, ← strCells_mk t.text, hx, hy])
      have HZ1 : Hid ((Lib.byteCells (wholeL (l.take k))).length + x.size ≤ 140737488355328) := Lib.hid (by rw [Lib.byteCells_length]; omega)
      have HZ2 : Hid ((Lib.byteCells (wholeL (l.take k)) ++ Lib.strCells x).length + y.size ≤ 140737488355328) := Lib.hid (by rw [List.length_append, Lib.byteCells_length, Lib.strCells_length]; omega)
      have HBX := Lib.hid (heap_alloc_new wr (.cells #[.int .i64 (t.kind : Int), .string x, .string y, .int .i64 (t.pos : Int)] 113))
      have hga := World.grownBy_alloc wr (.cells #[.int .i64 (t.kind : Int), .string x, .string y, .int .i64 (t.pos : Int)] 113) none
      have HB2 := Lib.hid (bld_kept HBL.out hga)
      have HG2 := Lib.hid (gb_trans HG.out hga)
      have HXS : Hid (b < wr.heap.size) := Lib.hid (by
        rcases HBL.out with h | h
        · exact h.lt
        · exact h.lt)
      obtain ⟨b0, b1, b2, b3, b4⟩ := cells4 HBX.out
      generalize t.kind = tk at *
      generalize t.pos = tp at *
      clear hc hgl ht hnx hle1 hle2 hL hx hy hxl hyl hxs hys hga HBL HG b4
      go_wp2_with fail
      refine (WriteString_c b b _ x _ HB2.out HZ1.out (by have := HG2.out.size; rw [HBB.out] at this; exact this)).mono ?_
      rintro e w2 ⟨rfl, ⟨hb2, hbe2⟩, hok2⟩
      have HB3 := Lib.hid hb2
      have hgg : w.grownBy w2 none := below_gb (Below.trans2 (gb_below HG2.out) (by rw [HBB.out]; exact hbe2))
      have HG3 := Lib.hid hgg
      have hbx2 := hok2 _ _ _ HBX.out (by decide) (by have := HXS.out; omega)
      obtain ⟨e0, e1, e2, e3, e4⟩ := cells4 hbx2
      clear hb2 hbe2 hok2 hgg hbx2 b0 b1 b2 b3 c0 c1 c2 c3 HB2 e4
      go_wp2_with fail
      refine (WriteString_c b b _ y _ (.inr HB3.out) HZ2.out (by have := HG3.out.size; rw [HBB.out] at this; exact this)).mono ?_
      rintro e w3 ⟨rfl, ⟨hb3, hbe3⟩, -⟩
      rw [← HNX.out] at hb3
      have HB4 : Hid (Lib.IsBuilder 117 5 b b (Lib.byteCells (wholeL (l.take (k + 1)))) w3) := Lib.hid (.inr hb3)
      have hgg : w.grownBy w3 none := below_gb (Below.trans2 (gb_below HG3.out) (by rw [HBB.out]; exact hbe3))
      have HG4 := Lib.hid hgg
      clear hb3 hbe3 hgg HB3 HG2 HG3 e0 e1 e2 e3
      go_wp2_with fail
      go_roundw
      case rel => exact ⟨k + 1, by omega, by go_num, HB4, HG4⟩
      case measure => (simp [intOf] <;> omega)
    · obtain rfl : k = m := by omega
      rw [List.take_of_length_le (by rw [HM.out]; exact Nat.le_refl _)] at HBL
      have HSTR := Lib.hid (Tryz.Builder_String_any_k b b _ wr (Lib.IsBuilderF.of HBL.out) (by have := HG.out.size; rw [HBB.out] at this; exact this))
      go_wp2_with fail
      refine HSTR.out.mono ?_
      rintro e w7 ⟨rfl, -, hbe7, -⟩
      have HG7 : Hid (w.grownBy w7 none) := Lib.hid (below_gb (Below.trans2 (gb_below HG.out) (by rw [HBB.out]; exact hbe7)))
      clear hbe7
      go_wp2_with fail
      go_ret
      exact ⟨⟨_, rfl, rfl⟩, HG7.out⟩
end Go.Proofs.YtdilncefhfbgeaaGreatDoor
namespace Go.Proofs.YtdilncefhfbgeaaGreatDoor

theorem tok_whole (l : List UInt8) (p : Nat) : (tokE l p).lead ++ (tokE l p).text = l.take (stepE l) := by
  unfold tokE stepE; rw [List.take_add]

theorem wholeL_cons (t : Tok) (l : List Tok) : wholeL (t :: l) = t.lead ++ t.text ++ wholeL l := rfl

theorem end_whole {l : List UInt8} {p : Nat} (h5 : (tokE l p).kind = 5) : stepE l = l.length ∧ (tokE l p).text = [] := by
  have h1 := ((firstE_kind (l.drop (sk false l))).2).1 h5
  have h2 : l.length ≤ sk false l := by
    have := congrArg List.length h1; rw [List.length_drop, List.length_nil] at this; omega
  have h3 := sk_le l false
  constructor
  · unfold stepE; rw [h1]; simp [firstE]; omega
  · unfold tokE; rw [h1]; rfl

theorem text_pos {l : List UInt8} {p : Nat} (h : wrongE (tokE l p).kind (tokE l p).text = 0) (h5 : (tokE l p).kind ≠ 5) : (tokE l p).text ≠ [] := by
  have h0 : (firstE (l.drop (sk false l))).1 ≠ 0 := fun e => by
    unfold wrongE at h
    rw [if_pos (.inl e)] at h; cases h
  have h1 := firstE_pos h5 h0
  have h2 := firstE_le (l.drop (sk false l))
  intro e
  have h3 : ((l.drop (sk false l)).take (firstE (l.drop (sk false l))).2).length = ([] : List UInt8).length := congrArg List.length e
  rw [List.length_take, List.length_nil, Nat.min_eq_left h2] at h3
  omega

theorem whole_lexG : ∀ (f : Nat) (l : List UInt8) (p : Nat), l.length < f → (lexG f l p).2.1 = 0 → wholeL (lexG f l p).1 = l
  | 0, l, p, h, _ => by omega
  | f + 1, l, p, h, h0 => by
    by_cases hw : wrongE (tokE l p).kind (tokE l p).text = 0
    · by_cases h5 : (tokE l p).kind = 5
      · rw [lexG_end hw h5, wholeL_cons, tok_whole, (end_whole h5).1, List.take_length]; simp [wholeL]
      · rw [lexG_more hw h5] at h0 ⊢
        have h1 := stepE_pos hw h5
        have h2 := stepE_le l
        rw [wholeL_cons, tok_whole, whole_lexG f (l.drop (stepE l)) _ (by rw [List.length_drop]; omega) h0, List.take_append_drop]
    · rw [lexG_fault hw] at h0
      exact absurd h0 hw

theorem whole_all {l : List UInt8} (h : (allE l).2.1 = 0) : wholeL (allE l).1 = l := whole_lexG _ l 0 (by omega) h

/-- Each token stands at its place; the end alone is empty, and the last one. -/
def PlaceE (p : Nat) (L : List Tok) : Prop := ∀ i t, L[i]? = some t → t.pos = p + (wholeL (L.take i)).length + t.lead.length ∧ (t.kind = 5 ↔ i + 1 = L.length) ∧ (t.text = [] ↔ t.kind = 5)

theorem place_lexG : ∀ (f : Nat) (l : List UInt8) (p : Nat), l.length < f → (lexG f l p).2.1 = 0 → PlaceE p (lexG f l p).1 ∧ (lexG f l p).1 ≠ []
  | 0, l, p, h, _ => by omega
  | f + 1, l, p, h, h0 => by
    by_cases hw : wrongE (tokE l p).kind (tokE l p).text = 0
    · have hlead : (tokE l p).lead.length = sk false l := by
        unfold tokE; simp only [List.length_take]; have := sk_le l false; omega
      by_cases h5 : (tokE l p).kind = 5
      · rw [lexG_end hw h5]
        refine ⟨fun i t hi => ?_, by simp⟩
        match i, hi with
        | 0, hi =>
          simp at hi; subst hi
          refine ⟨?_, by simp [h5], by simp [h5, (end_whole h5).2]⟩
          rw [hlead]; simp [wholeL]; rfl
      · rw [lexG_more hw h5] at h0 ⊢
        have h1 := stepE_pos hw h5
        have h2 := stepE_le l
        obtain ⟨ih, hne⟩ := place_lexG f (l.drop (stepE l)) (p + stepE l) (by rw [List.length_drop]; omega) h0
        refine ⟨fun i t hi => ?_, by simp⟩
        match i, hi with
        | 0, hi =>
          simp at hi; subst hi
          have ht := text_pos hw h5
          refine ⟨?_, ?_, by simp [h5, ht]⟩
          · rw [hlead]; simp [wholeL]; rfl
          · simp [h5]
            intro e; exact hne e
        | i + 1, hi =>
          obtain ⟨a1, a2, a3⟩ := ih i t (by simpa using hi)
          refine ⟨?_, by rw [a2]; simp, a3⟩
          rw [a1, List.take_succ_cons, wholeL_cons, tok_whole, List.length_append, List.length_take, Nat.min_eq_left h2]
          omega
    · rw [lexG_fault hw] at h0
      exact absurd h0 hw

theorem place_all {l : List UInt8} (h : (allE l).2.1 = 0) : PlaceE 0 (allE l).1 ∧ (allE l).1 ≠ [] := place_lexG _ l 0 (by omega) h
theorem len_all {l : List UInt8} (h : (allE l).2.1 = 0) : (allE l).1.length ≤ l.length + 1 := by
  have h1 := (place_all h).1
  have h2 : ∀ (L : List Tok), (∀ i t, L[i]? = some t → (t.text = [] ↔ i + 1 = L.length)) → L.length ≤ (wholeL L).length + 1 := by
    intro L hL
    have key : ∀ (L : List Tok), (∀ t ∈ L, t.text ≠ []) → L.length ≤ (wholeL L).length := by
      intro L
      induction L with
      | nil => intro _; exact Nat.le_refl _
      | cons t L ih =>
        intro hh
        have a := ih (fun t ht => hh t (List.mem_cons_of_mem _ ht))
        have b := List.length_pos_iff.2 (hh t (List.mem_cons_self ..))
        rw [wholeL_cons]; simp only [List.length_cons, List.length_append]; omega
    have h3 := key (L.take (L.length - 1)) (fun t ht => by
      obtain ⟨i, hi⟩ := List.getElem?_of_mem ht
      rw [List.getElem?_take] at hi
      split at hi
      · rename_i hlt
        intro e
        have := (hL i t hi).1 e
        omega
      · cases hi)
    have h4 := wholeL_take L (L.length - 1)
    rw [List.length_take] at h3
    omega
  have h5 := h2 (allE l).1 (fun i t hi => by obtain ⟨_, a, b⟩ := h1 i t hi; rw [b, a])
  rw [whole_all h] at h5; exact h5
end Go.Proofs.YtdilncefhfbgeaaGreatDoor
namespace Go.Proofs.YtdilncefhfbgeaaGreatDoor
open Go.RowKit

def Self (b : Nat) : Nat → Prop := fun k => k = b
def EndT (T : List Tok) : Prop := ∀ (i : Nat) (t : Tok), T[i]? = some t → (t.kind = 5 ↔ i + 1 = T.length)

theorem mine (b : Nat) : Self b b := rfl
theorem fr2_drew {X : Nat → Prop} {a b : World} (h : Fr2 X a b) : Fr2 X a b.drew := ⟨h.os, h.tape, h.output, h.size, h.block⟩

section
variable {T : List Tok}
theorem mul_kind {s : St} (h : isMul T s = true) : (tokQ T s).kind ≠ 5 := by
  unfold isMul at h
  simp only [Bool.or_eq_true] at h
  rcases h with (h | h) | h <;> exact (is_kind h).1
theorem add_kind {s : St} (h : isAdd T s = true) : (tokQ T s).kind ≠ 5 := by
  unfold isAdd at h
  simp only [Bool.or_eq_true] at h
  rcases h with h | h <;> exact (is_kind h).1
theorem cmp_kind {s : St} (h : isCmp T s = true) : (tokQ T s).kind ≠ 5 := by
  unfold isCmp at h
  simp only [Bool.or_eq_true] at h
  rcases h with ((((h | h) | h) | h) | h) | h <;> exact (is_kind h).1
end
theorem fail_e (T : List Tok) {m : Nat} (hm : m ≠ 0) (s : St) : (failQ T m s).e ≠ 0 := by
  unfold failQ; split
  · exact hm
  · assumption

def setIn (v : Bool) (s : St) : St := { s with inn := v }
section
variable (T : List Tok) (ex : St → RQ)
def typB (a : RQ) : RQ :=
  if isQ T [105, 110, 116] a.2 = true ∨ isQ T [98, 111, 111, 108] a.2 = true then (a.1 ++ ([32, 40, 53] ++ (leafQ T a.2).1 ++ [41]), (leafQ T a.2).2)
  else (a.1, failQ T 22 a.2)
def typC (b : RQ) : RQ :=
  if isQ T [123] b.2 = true then
    let f := ex (setIn true (leafQ T b.2).2)
    let m := mustQ T [125] (setIn false f.2)
    (b.1 ++ ([32, 40, 54] ++ (leafQ T b.2).1 ++ f.1 ++ m.1 ++ [41]), m.2)
  else b
def typedQ (s : St) : RQ := typC T ex (typB T (mustQ T [58] s))
def parQ (s : St) : RQ :=
  let k := kindQ T 1 s
  let t := typedQ T ex k.2
  ([32, 40, 52] ++ k.1 ++ t.1 ++ [41], t.2)
def paramsQ (s : St) : RQ := partsQ T (parQ T ex) (fuelQ T (parQ T ex s).2) 1 (parQ T ex s)
def defA (s : St) : RQ := if isQ T [112, 117, 98] s = true then ([32, 40, 51] ++ (leafQ T s).1, (leafQ T s).2) else ([32, 40, 51], s)
def defB (p : RQ) : RQ :=
  let u := mustQ T [102, 117, 110] p.2
  let k := kindQ T 1 u.2
  let o := mustQ T [40] k.2
  (p.1 ++ (u.1 ++ k.1 ++ o.1), o.2)
def defC (o : RQ) : RQ := if o.2.e = 0 ∧ isQ T [41] o.2 = false then (o.1 ++ (paramsQ T ex o.2).1, (paramsQ T ex o.2).2) else o
def defD (r : RQ) : RQ :=
  let c := mustQ T [41] r.2
  let t := typedQ T ex c.2
  let q := mustQ T [61] t.2
  let x := ex q.2
  let m := mustQ T [59] x.2
  (r.1 ++ (c.1 ++ t.1 ++ q.1) ++ x.1 ++ m.1 ++ [41], m.2)
def defQ (s : St) : RQ := defD T ex (defC T ex (defB T (defA T s)))
def impStep (r : RQ) : RQ :=
  let l := leafQ T r.2
  let k := kindQ T 1 l.2
  let m := mustQ T [59] k.2
  (r.1 ++ ([32, 40, 50] ++ l.1 ++ k.1 ++ m.1 ++ [41]), m.2)
/-- Imports, or definitions: none where there are too many. -/
def manyQ (c : St → Bool) (step : RQ → RQ) (most : Nat) : Nat → Nat → RQ → Bool × RQ
  | 0, _, r => (true, r)
  | f + 1, k, r => if c r.2 = true then (if k = most then (false, ([], failQ T 15 r.2)) else manyQ c step most f (k + 1) (step r)) else (true, r)
def isDef (s : St) : Bool := isQ T [112, 117, 98] s || isQ T [102, 117, 110] s
def importsQ (r : RQ) : Bool × RQ := manyQ T (isQ T [105, 109, 112, 111, 114, 116]) (impStep T) 16 (fuelQ T r.2) 0 r
def defStep (r : RQ) : RQ := (r.1 ++ (defQ T ex r.2).1, (defQ T ex r.2).2)
def defsQ (r : RQ) : Bool × RQ := manyQ T (isDef T) (defStep T ex) 64 (fuelQ T r.2) 0 r
def endQ (r : RQ) : RQ := (r.1 ++ (kindQ T 5 r.2).1 ++ [41], (kindQ T 5 r.2).2)
def programQ (s : St) : RQ :=
  if (importsQ T ([40, 49], s)).1 = false then (importsQ T ([40, 49], s)).2
  else if (defsQ T ex (importsQ T ([40, 49], s)).2).1 = false then (defsQ T ex (importsQ T ([40, 49], s)).2).2
  else endQ T (defsQ T ex (importsQ T ([40, 49], s)).2).2
def aloneQ (s : St) : RQ :=
  let x := ex (setIn true s)
  let k := kindQ T 5 x.2
  ([40, 49, 56] ++ x.1 ++ k.1 ++ [41], k.2)
end

theorem end_all {l : List UInt8} (h : (allE l).2.1 = 0) : EndT (allE l).1 ∧ (allE l).1 ≠ [] := ⟨fun i t ht => ((place_all h).1 i t ht).2.1, (place_all h).2⟩

def startQ : St := ⟨0, false, 0, 0⟩
def resQ (r : RQ) : List UInt8 × Nat × Nat := if r.2.e = 0 then (r.1, 0, 0) else ([], r.2.e, r.2.pos)
def treeQ (T : List Tok) (D : Nat) (f : Bool) : RQ := if f = true then aloneQ T (nxQ T D D).expr startQ else programQ T (nxQ T D D).expr startQ
/-- What the reference answers. -/
def parseQ (l : List UInt8) (D : Nat) (f : Bool) : List UInt8 × Nat × Nat :=
  if 65536 < l.length then ([], 11, 0)
  else if (allE l).2.1 ≠ 0 then ([], (allE l).2.1, (allE l).2.2)
  else resQ (treeQ (allE l).1 D f)
end Go.Proofs.YtdilncefhfbgeaaGreatDoor
