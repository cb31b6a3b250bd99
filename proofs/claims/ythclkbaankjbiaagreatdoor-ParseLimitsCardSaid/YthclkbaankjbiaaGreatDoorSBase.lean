/- What stays and what turns in memory; lists of values as slices read them; append of one. -/
import Derived.Test.YthclkbaankjbiaaGreatDoorProg
import Derived.WalkKit
import Derived.WalkSpells
import Derived.WalkLawsBesides
import Derived.Lib.Hide
import Derived.BigQuiet
import Derived.BigRegion
import Derived.Deep.QuietTactic
import Derived.Deep.OwnRows
import Derived.Deep.AppendLies
import Derived.ArgAppend
import Derived.Laws.AppendOwnNone
namespace Go.Proofs.YthclkbaankjbiaaGreatDoor
open Go.RowKit

theorem val_of {k : IntKind} {a b : Int} (h : a = b) : Value.int k a = Value.int k b := by rw [h]

section
variable {w a b c : World} {row : Option Nat}
theorem gb_refl (w : World) (row : Option Nat) : w.grownBy w row := ⟨rfl, rfl, rfl, Nat.le_refl _, fun _ _ _ => rfl⟩
theorem gb_trans (h : a.grownBy b row) (k : b.grownBy c row) : a.grownBy c row :=
  ⟨k.os.trans h.os, k.tape.trans h.tape, k.output.trans h.output, Nat.le_trans h.size k.size, fun i hi hr => (k.block i (Nat.lt_of_lt_of_le hi h.size) hr).trans (h.block i hi hr)⟩
theorem gb_drew (h : a.grownBy b row) : a.grownBy b.drew row := ⟨h.os, h.tape, h.output, h.size, h.block⟩
theorem gb_drewN (h : a.grownBy b row) (n : Nat) : a.grownBy (b.drewN n) row := ⟨h.os, h.tape, h.output, h.size, h.block⟩
theorem gb_alloc (h : a.grownBy b row) (o : Obj) : a.grownBy (b.alloc o) row := gb_trans h (World.grownBy_alloc b o row)
theorem gb_set {g j : Nat} (h : a.grownBy b (some g)) (u : Value) : a.grownBy (b.setCell ⟨g, j, none⟩ u) (some g) :=
  gb_trans h ⟨rfl, rfl, rfl, by simp [World.setCell], fun i _ hr => Below.heap_setCell _ _ _ _ (by intro e; apply hr; rw [e])⟩
theorem gb_setCells (b : Nat) : ∀ (vs : List Value) (o : Nat) (w : World), w.grownBy (w.setCells b o vs) (some b)
  | [], o, w => gb_refl _ _
  | v :: vs, o, w => by
    simp only [World.setCells]
    exact gb_trans (gb_set (gb_refl w (some b)) v) (gb_setCells b vs (o + 1) _)
theorem gb_below (h : a.grownBy b none) : Below a.heap.size a b := ⟨h.os, h.tape, h.output, h.size, fun k hk => h.block k hk (by simp)⟩
theorem below_gb (h : Below a.heap.size a b) : a.grownBy b row := ⟨h.os, h.tape, h.output, h.size, fun k hk _ => h.block k hk⟩
theorem Below.trans2 {B : Nat} (h : Below B a b) (k : Below B b c) : Below B a c :=
  ⟨k.os.trans h.os, k.tape.trans h.tape, k.output.trans h.output, Nat.le_trans h.size k.size, fun i hi => (k.block i hi).trans (h.block i hi)⟩
theorem Below.gb {B : Nat} (h : a.grownBy b none) (hB : B ≤ a.heap.size) : Below B a b := ⟨h.os, h.tape, h.output, h.size, fun k hk => h.block k (by omega) (by simp)⟩
theorem bx {h : Nat} {o : Obj} (hg : a.grownBy b none) (hb : a.heap[h]? = some o) : b.heap[h]? = some o := (hg.block _ (Array.getElem?_eq_some_iff.1 hb).1 (by simp)).trans hb
theorem hlt {h : Nat} {o : Obj} (hb : a.heap[h]? = some o) : h < a.heap.size := (Array.getElem?_eq_some_iff.1 hb).1
end

/-- All as it was, but for blocks of S and new ones. -/
structure Fr2 (S : Nat → Prop) (w w' : World) : Prop where
  os : w'.os = w.os
  tape : w'.tape = w.tape
  output : w'.output = w.output
  size : w.heap.size ≤ w'.heap.size
  block : ∀ k, k < w.heap.size → ¬ S k → w'.heap[k]? = w.heap[k]?

theorem Fr2.refl (S : Nat → Prop) (w : World) : Fr2 S w w := ⟨rfl, rfl, rfl, Nat.le_refl _, fun _ _ _ => rfl⟩
theorem Fr2.trans {S : Nat → Prop} {a b c : World} (h : Fr2 S a b) (k : Fr2 S b c) : Fr2 S a c :=
  ⟨k.os.trans h.os, k.tape.trans h.tape, k.output.trans h.output, Nat.le_trans h.size k.size, fun i hi hr => (k.block i (Nat.lt_of_lt_of_le hi h.size) hr).trans (h.block i hi hr)⟩
theorem Fr2.of {S : Nat → Prop} {a b : World} {row : Option Nat} (h : a.grownBy b row) (hS : ∀ k, row = some k → S k) : Fr2 S a b :=
  ⟨h.os, h.tape, h.output, h.size, fun k hk hn => h.block k hk fun e => hn (hS k e.symm)⟩
theorem Fr2.below {S : Nat → Prop} {a b : World} {B : Nat} (h : Fr2 S a b) (hB : B ≤ a.heap.size) (hS : ∀ k, S k → B ≤ k) : Below B a b :=
  ⟨h.os, h.tape, h.output, h.size, fun k hk => h.block k (by omega) fun hs => by have := hS k hs; omega⟩
theorem Fr2.after {S : Nat → Prop} {a b c : World} (h : a.grownBy b none) (k : Fr2 S b c) (hS : ∀ i, S i → a.heap.size ≤ i) : a.grownBy c none :=
  ⟨k.os.trans h.os, k.tape.trans h.tape, k.output.trans h.output, Nat.le_trans h.size k.size, fun i hi _ => (k.block i (Nat.lt_of_lt_of_le hi h.size) (fun hs => by have := hS i hs; omega)).trans (h.block i hi (by simp))⟩
theorem Fr2.ofBelow {a b : World} {B : Nat} (h : Below B a b) : Fr2 (fun k => B ≤ k) a b :=
  ⟨h.os, h.tape, h.output, h.size, fun k _ hn => h.block k (by omega)⟩
theorem Fr2.low {S : Nat → Prop} {a b c : World} (h : Fr2 S a b) (k : Below a.heap.size b c) : Fr2 S a c :=
  ⟨k.os.trans h.os, k.tape.trans h.tape, k.output.trans h.output, Nat.le_trans h.size k.size, fun i hi hr => (k.block i hi).trans (h.block i hi hr)⟩
theorem Fr2.mono {S S' : Nat → Prop} {a b : World} (h : Fr2 S a b) (hS : ∀ k, S k → S' k) : Fr2 S' a b :=
  ⟨h.os, h.tape, h.output, h.size, fun k hk hn => h.block k hk fun e => hn (hS k e)⟩
theorem Fr2.none {S : Nat → Prop} {a b : World} (h : a.grownBy b none) : Fr2 S a b := Fr2.of h (fun _ e => by cases e)
theorem Fr2.keep {S : Nat → Prop} {a b : World} {k : Nat} {o : Obj} (h : Fr2 S a b) (hb : a.heap[k]? = some o) (hn : ¬ S k) : b.heap[k]? = some o := (h.block k (hlt hb) hn).trans hb
theorem Fr2.setCell {S : Nat → Prop} {a b : World} (h : Fr2 S a b) {g j : Nat} (hg : S g) (u : Value) : Fr2 S a (b.setCell ⟨g, j, Option.none⟩ u) :=
  h.trans (Fr2.of (row := some g) (gb_set (gb_refl _ _) u) (fun k e => by injection e with e; exact e ▸ hg))

theorem cells1 {w : World} {r : Nat} {v : Value} {T : TypeId} (h : w.heap[r]? = some (.cells #[v] T (0, 0))) : w.cell? ⟨r, 0, none⟩ = some v ∧ ∀ o, w.frozen? ⟨r, o, none⟩ = false := ⟨by rw [cell_of_row _ r 0 _ _ (0, 0) h]; rfl, fun o => by simp [World.frozen?, h]⟩
theorem cells3 {w : World} {r : Nat} {u v z : Value} {T : TypeId} (h : w.heap[r]? = some (.cells #[u, v, z] T (0, 0))) : w.cell? ⟨r, 0, none⟩ = some u ∧ w.cell? ⟨r, 1, none⟩ = some v ∧ w.cell? ⟨r, 2, none⟩ = some z ∧ ∀ o, w.frozen? ⟨r, o, none⟩ = false :=
  ⟨by rw [cell_of_row w r 0 _ T (0, 0) h]; rfl, by rw [cell_of_row w r 1 _ T (0, 0) h]; rfl, by rw [cell_of_row w r 2 _ T (0, 0) h]; rfl, fun o => by simp [World.frozen?, h]⟩
theorem cells4 {w : World} {r : Nat} {a b c d : Value} {T : TypeId} (h : w.heap[r]? = some (.cells #[a, b, c, d] T (0, 0))) : w.cell? ⟨r, 0, none⟩ = some a ∧ w.cell? ⟨r, 1, none⟩ = some b ∧ w.cell? ⟨r, 2, none⟩ = some c ∧ w.cell? ⟨r, 3, none⟩ = some d ∧ ∀ o, w.frozen? ⟨r, o, none⟩ = false :=
  ⟨by rw [cell_of_row w r 0 _ T (0, 0) h]; rfl, by rw [cell_of_row w r 1 _ T (0, 0) h]; rfl, by rw [cell_of_row w r 2 _ T (0, 0) h]; rfl, by rw [cell_of_row w r 3 _ T (0, 0) h]; rfl, fun o => by simp [World.frozen?, h]⟩
theorem cells5 {w : World} {r : Nat} {a b c d e : Value} {T : TypeId} (h : w.heap[r]? = some (.cells #[a, b, c, d, e] T (0, 0))) : w.cell? ⟨r, 0, none⟩ = some a ∧ w.cell? ⟨r, 1, none⟩ = some b ∧ w.cell? ⟨r, 2, none⟩ = some c ∧ w.cell? ⟨r, 3, none⟩ = some d ∧ w.cell? ⟨r, 4, none⟩ = some e ∧ ∀ o, w.frozen? ⟨r, o, none⟩ = false :=
  ⟨by rw [cell_of_row w r 0 _ T (0, 0) h]; rfl, by rw [cell_of_row w r 1 _ T (0, 0) h]; rfl, by rw [cell_of_row w r 2 _ T (0, 0) h]; rfl, by rw [cell_of_row w r 3 _ T (0, 0) h]; rfl, by rw [cell_of_row w r 4 _ T (0, 0) h]; rfl, fun o => by simp [World.frozen?, h]⟩

theorem set_cells {W : World} {r i : Nat} {cs : Array Value} {u : Value} {T : TypeId} (hb : W.heap[r]? = some (.cells cs T (0, 0))) : (W.setCell ⟨r, i, none⟩ u).heap[r]? = some (.cells (cs.setIfInBounds i u) T (0, 0)) := by
  simp only [World.setCell, Array.getElem?_modify, hb, if_true, Option.map_some]; rfl

/-! ### Lists of values -/

/-- A slice at p reads as these values. -/
def VAt (w : World) (p : Option Addr) (vs : List Value) : Prop :=
  vs = [] ∨ ∃ g off, p = some ⟨g, off, none⟩ ∧ g < w.heap.size ∧ ∀ j v, vs[j]? = some v → w.cell? ⟨g, off + j, none⟩ = some v

theorem VAt.keptS {S : Nat → Prop} {w w' : World} {p : Option Addr} {vs : List Value} (h : VAt w p vs) (hg : Fr2 S w w') (hS : vs ≠ [] → ∀ a, p = some a → ¬ S a.block) : VAt w' p vs := by
  rcases h with h | ⟨g, off, rfl, hl, hc⟩
  · exact .inl h
  · by_cases h0 : vs = []
    · exact .inl h0
    · exact .inr ⟨g, off, rfl, Nat.lt_of_lt_of_le hl hg.size, fun j v hv => by rw [← hc j v hv]; exact World.cell?_of_block (w := w) (hg.block g hl (hS h0 ⟨g, off, none⟩ rfl))⟩

theorem VAt.kept {w w' : World} {p : Option Addr} {vs : List Value} (h : VAt w p vs) (hg : w.grownBy w' none) : VAt w' p vs := h.keptS (S := fun _ => False) (Fr2.none hg) (fun _ _ _ h => h)

theorem VAt.low {w w' : World} {p : Option Addr} {vs : List Value} {B : Nat} (h : VAt w p vs) (hb : Below B w w') (hB : vs ≠ [] → ∀ a, p = some a → a.block < B) : VAt w' p vs := by
  rcases h with h | ⟨g, off, rfl, hl, hc⟩
  · exact .inl h
  · by_cases h0 : vs = []
    · exact .inl h0
    · exact .inr ⟨g, off, rfl, Nat.lt_of_lt_of_le hl hb.size, fun j v hv => (hb.cell (p := ⟨g, off + j, none⟩) (hB h0 ⟨g, off, none⟩ rfl)).trans (hc j v hv)⟩

/-- A slice of one's own: these values. -/
def OwnV (T : TypeId) (w : World) (base : Nat) (v : Value) (vs : List Value) : Prop := w.ownsRow base T 1 v vs.length vs

theorem OwnV.nil (T : TypeId) (w : World) (base : Nat) : OwnV T w base (.slice none 0 0) [] := World.ownsRow_nil _ _ _ _
theorem OwnV.kept {T : TypeId} {w w' : World} {base : Nat} {v : Value} {vs : List Value} (h : OwnV T w base v vs) (hg : w.grownBy w' none) : OwnV T w' base v vs := World.ownsRow.kept h hg (by
  cases hv : v.ownBlock with
  | none => exact .inl rfl
  | some k => exact .inr (by simp))

theorem OwnV.keptS {S : Nat → Prop} {T : TypeId} {w w' : World} {base : Nat} {v : Value} {vs : List Value} (h : OwnV T w base v vs) (hg : Fr2 S w w') (hS : ∀ g, base ≤ g → v.ownBlock = some g → ¬ S g) : OwnV T w' base v vs := by
  refine ⟨h.1, h.2.imp id fun ⟨g, cap, cur, e, hb, hh, r⟩ => ⟨g, cap, cur, e, hb, hg.keep hh (hS g hb (by rw [e]; rfl)), r⟩⟩

theorem OwnV.is {T : TypeId} {w : World} {base : Nat} {v : Value} {vs : List Value} (h : OwnV T w base v vs) : ∃ p c, v = .slice p vs.length c ∧ VAt w p vs ∧ vs.length ≤ c ∧ c ≤ maxLen := by
  rcases h.2 with ⟨e, h0⟩ | ⟨g, cap, cur, e, hb, hg, hnc, hcm, hs, ht⟩
  · exact ⟨none, 0, by rw [e, h0], .inl (List.eq_nil_of_length_eq_zero h0), by omega, by omega⟩
  · refine ⟨_, cap, e, .inr ⟨g, 0, rfl, hlt hg, fun j u hj => ?_⟩, hnc, hcm⟩
    have hjl : j < vs.length := (List.getElem?_eq_some_iff.1 hj).1
    have e2 : (cur.toList.take (vs.length * 1))[j]? = vs[j]? := by rw [ht]
    rw [List.getElem?_take, if_pos (by omega), Array.getElem?_toList] at e2
    rw [cell_of_row _ g _ cur _ (0, 0) hg, Nat.zero_add, e2, hj]

theorem below_own {w0 w' : World} {base n : Nat} {e : TypeId} {size : Nat} {v : Value} {xs : List Value} (h : w0.ownsRow base e size v n xs) (hb : base ≤ w0.heap.size) (hg : w0.grownBy w' v.ownBlock) : Below base w0 w' :=
  ⟨hg.os, hg.tape, hg.output, hg.size, fun k hk => hg.block k (by omega) fun e => by have := (h.lt k e.symm).1; omega⟩

/-- append of one value, as a step of the walk. -/
theorem wpList_appV {t T : TypeId} {z : Value} {by' : Nat} (ht : Tryz.prog.underlying t = some (.slice T)) (hT : (Tryz.prog.info? T).map (fun i => (i.zero, i.size, i.bytes)) = some (some z, 1, by')) (hz : z.cells.size = 1) (hby : by' ≤ 16)
    {w0 : World} {ops : Array Oper} {rest : List Oper} {o : Oper} {a : Act} {Q : Exit → Act → World → Prop} (hgd : o.guard = none) (s x : Operand) (ho : o.op = .call { callee := .builtin .append, args := #[s, x], argTypes := #[t, t] })
    (base : Nat) (vs : List Value) (y : Value) (hy : y.oneCell' = true) (v : Value) (hs : a.eval s = v) (hown : OwnV T w0 base v vs) (H : Nat) (hH : w0.heap.size = H) (hx : a.eval x = .slice (some ⟨H, 0, none⟩) 1 1) (hn : vs.length ≤ 1000000) (hbase : base ≤ w0.heap.size)
    (K : ∀ g' cap' w', OwnV T w' base (.slice (some ⟨g', 0, none⟩) (vs.length + 1) cap') (vs ++ [y]) → Below base w0 w' → w0.grownBy w' v.ownBlock → (v.ownBlock = some g' ∨ w0.heap.size < g') → wpList Tryz.prog ops Q rest (a.put o.dst (.slice (some ⟨g', 0, none⟩) (vs.length + 1) cap')) w') :
    wpList Tryz.prog ops Q (o :: rest) a (w0.alloc (.cells #[y] T)) := by
  subst hH
  obtain ⟨i0, hi, hi0, hi1, hi2⟩ := info_parts hT
  have h1a := World.ownsRow.alloc hown (.cells #[y] T)
  have hb : (vs.length + 1) * by' ≤ 140737488355328 := by
    have : (vs.length + 1) * by' ≤ (vs.length + 1) * 16 := Nat.mul_le_mul_left _ hby
    omega
  refine wpList_append_lies (P := Tryz.prog) _ hgd s x t ho base T i0 z 1 by' ht hi hi0 hi1 hi2 hz (by decide) _ vs.length vs hs h1a ⟨w0.heap.size, 0, none⟩ 1 1 [y] hx rfl ?_ ?_ (by omega) (by unfold maxLen; omega) hb (by simp; omega) (w0.heap.size + 1) (by simp) ?_
  · intro j u hj
    match j, hj with
    | 0, hj =>
      simp at hj; subst hj
      rw [Addr.add_lit, cell_of_row _ w0.heap.size _ _ _ (0, 0) (heap_alloc_new w0 _)]; rfl
  · intro u hu; simp at hu; subst hu; exact hy
  · intro g' cap' w' h3 h4 h5 _
    have hga : w0.grownBy (w0.alloc (.cells #[y] T)) v.ownBlock := World.grownBy_alloc w0 _ _
    exact K g' cap' w' (by simpa [OwnV] using h3) (Below.trans2 (Below.gb (World.grownBy_alloc w0 _ none) hbase) (below_own h1a (by simp; omega) h4)) (gb_trans hga h4) (h5.imp id fun e => by omega)


/-! ### Lists of pairs of values -/

def cellsQ (l : List (Value × Value)) : List Value := l.flatMap fun p => [p.1, p.2]

theorem cellsQ_cons (p : Value × Value) (l : List (Value × Value)) : cellsQ (p :: l) = p.1 :: p.2 :: cellsQ l := rfl
theorem cellsQ_append (l r : List (Value × Value)) : cellsQ (l ++ r) = cellsQ l ++ cellsQ r := by unfold cellsQ; rw [List.flatMap_append]
theorem cellsQ_len (l : List (Value × Value)) : (cellsQ l).length = l.length * 2 := by
  induction l with
  | nil => rfl
  | cons p l ih => rw [cellsQ_cons, List.length_cons, List.length_cons, ih, List.length_cons]; omega

theorem cellsQ_get (l : List (Value × Value)) (j : Nat) (p : Value × Value) (h : l[j]? = some p) : (cellsQ l)[j * 2]? = some p.1 ∧ (cellsQ l)[j * 2 + 1]? = some p.2 := by
  induction l generalizing j with
  | nil => simp at h
  | cons q l ih =>
    rw [cellsQ_cons]
    match j, h with
    | 0, h => simp at h; subst h; exact ⟨rfl, rfl⟩
    | j + 1, h =>
      have := ih j (by simpa using h)
      rw [show (j + 1) * 2 = j * 2 + 1 + 1 by omega]
      simpa using this

/-- A slice reads as a list of pairs. -/
def QAt (w : World) (p : Option Addr) (l : List (Value × Value)) : Prop :=
  l = [] ∨ ∃ g off, p = some ⟨g, off, none⟩ ∧ g < w.heap.size ∧ ∀ j q, l[j]? = some q → w.cell? ⟨g, off + j * 2, none⟩ = some q.1 ∧ w.cell? ⟨g, off + j * 2 + 1, none⟩ = some q.2

theorem QAt.kept {w w' : World} {p : Option Addr} {l : List (Value × Value)} (h : QAt w p l) (hg : w.grownBy w' none) : QAt w' p l := by
  rcases h with h | ⟨g, off, rfl, hl, hc⟩
  · exact .inl h
  · exact .inr ⟨g, off, rfl, Nat.lt_of_lt_of_le hl hg.size, fun j q hj => ⟨hg.cell (hc j q hj).1 (by simp), hg.cell (hc j q hj).2 (by simp)⟩⟩

theorem QAt.low {w w' : World} {p : Option Addr} {l : List (Value × Value)} {B : Nat} (h : QAt w p l) (hb : Below B w w') (hB : l ≠ [] → ∀ a, p = some a → a.block < B) : QAt w' p l := by
  rcases h with h | ⟨g, off, rfl, hl, hc⟩
  · exact .inl h
  · by_cases h0 : l = []
    · exact .inl h0
    · have hlt := hB h0 ⟨g, off, none⟩ rfl
      exact .inr ⟨g, off, rfl, Nat.lt_of_lt_of_le hl hb.size, fun j q hj => ⟨(hb.cell (p := ⟨g, off + j * 2, none⟩) hlt).trans (hc j q hj).1, (hb.cell (p := ⟨g, off + j * 2 + 1, none⟩) hlt).trans (hc j q hj).2⟩⟩

theorem QAt.blk {w : World} {p : Option Addr} {l : List (Value × Value)} (h : QAt w p l) : l ≠ [] → ∀ a, p = some a → a.block < w.heap.size := fun h0 a ha => by
  obtain ⟨g, off, e, hl, -⟩ := h.resolve_left h0
  have e2 : some a = some (⟨g, off, none⟩ : Addr) := ha.symm.trans e
  injection e2 with e2; subst e2; exact hl

/-- A list of pairs of one's own. -/
def OwnQ (T : TypeId) (w : World) (base : Nat) (v : Value) (l : List (Value × Value)) : Prop := w.ownsRow base T 2 v l.length (cellsQ l)

theorem OwnQ.nil (T : TypeId) (w : World) (base : Nat) : OwnQ T w base (.slice none 0 0) [] := World.ownsRow_nil _ _ _ _
theorem OwnQ.kept {T : TypeId} {w w' : World} {base : Nat} {v : Value} {l : List (Value × Value)} (h : OwnQ T w base v l) (hg : w.grownBy w' none) : OwnQ T w' base v l := World.ownsRow.kept h hg (by
  cases hv : v.ownBlock with
  | none => exact .inl rfl
  | some k => exact .inr (by simp))
theorem OwnQ.keptS {S : Nat → Prop} {T : TypeId} {w w' : World} {base : Nat} {v : Value} {l : List (Value × Value)} (h : OwnQ T w base v l) (hg : Fr2 S w w') (hS : ∀ g, base ≤ g → v.ownBlock = some g → ¬ S g) : OwnQ T w' base v l := by
  refine ⟨h.1, h.2.imp id fun ⟨g, cap, cur, e, hb, hh, r⟩ => ⟨g, cap, cur, e, hb, hg.keep hh (hS g hb (by rw [e]; rfl)), r⟩⟩

theorem OwnQ.is {T : TypeId} {w : World} {base : Nat} {v : Value} {l : List (Value × Value)} (h : OwnQ T w base v l) : ∃ p c, v = .slice p l.length c ∧ QAt w p l ∧ l.length ≤ c ∧ c ≤ maxLen ∧ (l ≠ [] → ∀ a, p = some a → base ≤ a.block) := by
  rcases h.2 with ⟨rfl, h0⟩ | ⟨g, cap, cur, rfl, hb, hg, hnc, hcm, h1, h2⟩
  · have : l = [] := List.eq_nil_of_length_eq_zero h0
    subst this
    exact ⟨none, 0, rfl, .inl rfl, Nat.le_refl _, by unfold maxLen; omega, fun h => absurd rfl h⟩
  · refine ⟨_, cap, rfl, .inr ⟨g, 0, rfl, hlt hg, fun j q hj => ?_⟩, hnc, hcm, fun _ a ha => by injection ha with ha; subst ha; exact hb⟩
    obtain ⟨g1, g2⟩ := cellsQ_get l j q hj
    have hjl : j < l.length := (List.getElem?_eq_some_iff.1 hj).1
    have h' : w.ownsRow base T 2 (.slice (some ⟨g, 0, none⟩) l.length cap) l.length (cellsQ l) := h
    rw [Nat.zero_add]
    exact ⟨by rw [h'.cellAt _ (by omega)]; exact g1, by rw [h'.cellAt _ (by omega)]; exact g2⟩

/-- append of one pair, as a step of the walk. -/
theorem wpList_appQ {t T : TypeId} {z : Value} {by' : Nat} (ht : Tryz.prog.underlying t = some (.slice T)) (hT : (Tryz.prog.info? T).map (fun i => (i.zero, i.size, i.bytes)) = some (some z, 2, by')) (hz : z.cells.size = 2) (hby : by' ≤ 32)
    {w0 : World} {ops : Array Oper} {rest : List Oper} {o : Oper} {a : Act} {Q : Exit → Act → World → Prop} (hgd : o.guard = none) (s x : Operand) (ho : o.op = .call { callee := .builtin .append, args := #[s, x], argTypes := #[t, t] })
    (base : Nat) (l : List (Value × Value)) (y1 y2 : Value) (h1 : y1.oneCell' = true) (h2 : y2.oneCell' = true) (v : Value) (hs : a.eval s = v) (hown : OwnQ T w0 base v l) (H : Nat) (hH : w0.heap.size = H) (hx : a.eval x = .slice (some ⟨H, 0, none⟩) 1 1) (hn : l.length ≤ 1000000) (hbase : base ≤ w0.heap.size)
    (K : ∀ g' cap' w', OwnQ T w' base (.slice (some ⟨g', 0, none⟩) (l.length + 1) cap') (l ++ [(y1, y2)]) → Below base w0 w' → w0.grownBy w' v.ownBlock → wpList Tryz.prog ops Q rest (a.put o.dst (.slice (some ⟨g', 0, none⟩) (l.length + 1) cap')) w') :
    wpList Tryz.prog ops Q (o :: rest) a (w0.alloc (.cells #[y1, y2] T)) := by
  subst hH
  obtain ⟨i0, hi, hi0, hi1, hi2⟩ := info_parts hT
  have h1a := World.ownsRow.alloc hown (.cells #[y1, y2] T)
  have hb : (l.length + 1) * by' ≤ 140737488355328 := by
    have : (l.length + 1) * by' ≤ (l.length + 1) * 32 := Nat.mul_le_mul_left _ hby
    omega
  refine wpList_append_lies (P := Tryz.prog) _ hgd s x t ho base T i0 z 2 by' ht hi hi0 hi1 hi2 hz (by decide) _ l.length (cellsQ l) hs h1a ⟨w0.heap.size, 0, none⟩ 1 1 [y1, y2] hx rfl ?_ ?_ (by omega) (by unfold maxLen; omega) hb (by simp; omega) (w0.heap.size + 1) (by simp) ?_
  · intro j u hj
    rw [Addr.add_lit, cell_of_row _ w0.heap.size _ _ _ (0, 0) (heap_alloc_new w0 _)]
    match j, hj with
    | 0, hj => simp at hj; subst hj; rfl
    | 1, hj => simp at hj; subst hj; rfl
  · intro u hu; simp at hu; rcases hu with rfl | rfl
    · exact h1
    · exact h2
  · intro g' cap' w' h3 h4 h5 _
    have hga : w0.grownBy (w0.alloc (.cells #[y1, y2] T)) v.ownBlock := World.grownBy_alloc w0 _ _
    exact K g' cap' w' (by simpa [OwnQ, cellsQ_append, cellsQ] using h3) (Below.trans2 (Below.gb (World.grownBy_alloc w0 _ none) hbase) (below_own h1a (by simp; omega) h4)) (gb_trans hga h4)

/-- make([]T, 0, n) of pairs. -/
theorem make2_run {t T : TypeId} {z : Value} {by' : Nat} (ht : Tryz.prog.underlying t = some (.slice T)) (hT : (Tryz.prog.info? T).map (fun i => (i.zero, i.size, i.bytes)) = some (some z, 2, by')) (hby : by' ≤ 32) (n : Nat) (hn : n ≤ 1000000) (w : World) :
    (Instr.makeSlice t (.int .i64 0) (.int .i64 (n : Int))).run Tryz.prog w = .ok (.slice (some ⟨w.heap.size, 0, none⟩) 0 n) (w.alloc (.cells (madeCells z.cells (n * 2)) T)) := by
  obtain ⟨i0, hi, hi0, hi1, hi2⟩ := info_parts hT
  have h1 : by' * n ≤ 32 * n := Nat.mul_le_mul_right _ hby
  have hb : (i0.bytes : Int) * (n : Int) ≤ 281474976710656 := by
    rw [hi2, ← Int.natCast_mul]; omega
  have h := run_makeSlice (P := Tryz.prog) (w := w) t T i0 z ht hi hi0 .i64 .i64 0 (n : Int) (by omega) (by omega) (by rw [hi1]; simp; omega) hb (by omega)
  simpa [hi1] using h
end Go.Proofs.YthclkbaankjbiaaGreatDoor
