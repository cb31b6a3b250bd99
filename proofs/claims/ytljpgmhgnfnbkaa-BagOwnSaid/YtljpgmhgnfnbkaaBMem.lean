/- What a slice of numbers reads as, and the small laws on it. -/
import Derived.Test.YtljpgmhgnfnbkaaMath
import Derived.Test.YtljpgmhgnfnbkaaShelf
import Derived.WalkKit
import Derived.WalkSpells
import Derived.WalkLawsBesides
import Derived.Lib.Hide
import Derived.Shelf.Spec.BitsCarry
import Derived.BigQuiet
import Derived.Deep.QuietTactic
import Derived.Deep.OwnRows
namespace Go.Proofs.Ytljpgmhgnfnbkaa
open Go.RowKit

def Bw : Nat := 18446744073709551616
theorem val_of {k : IntKind} {a b : Int} (h : a = b) : Value.int k a = Value.int k b := by rw [h]
theorem Bw_pos : 0 < Bw := by unfold Bw; omega

/-- The n numbers f 0 .. that a slice at p reads as in w. -/
def At (k : IntKind) (w : World) (p : Option Addr) (n : Nat) (f : Nat → Nat) : Prop :=
  n = 0 ∨ ∃ g off, p = some ⟨g, off, none⟩ ∧ g < w.heap.size ∧ ∀ j, j < n → w.cell? ⟨g, off + j, none⟩ = some (.int k (f j))

theorem At.below {k : IntKind} {w w' : World} {p : Option Addr} {n : Nat} {f : Nat → Nat} {B : Nat} (h : At k w p n f) (hb : Below B w w') (hB : ∀ a, p = some a → a.block < B) : At k w' p n f := by
  rcases h with h | ⟨g, off, rfl, hg, hc⟩
  · exact .inl h
  · exact .inr ⟨g, off, rfl, Nat.lt_of_lt_of_le hg hb.size, fun j hj => (hb.cell (p := ⟨g, off + j, none⟩) (show g < B from hB ⟨g, off, none⟩ rfl)).trans (hc j hj)⟩

theorem At.pre {k : IntKind} {w : World} {p : Option Addr} {n m : Nat} {f : Nat → Nat} (h : At k w p n f) (hm : m ≤ n) : At k w p m f := by
  rcases h with h | ⟨g, off, rfl, hg, hc⟩
  · exact .inl (by omega)
  · exact .inr ⟨g, off, rfl, hg, fun j hj => hc j (by omega)⟩

theorem At.grown {k : IntKind} {w w' : World} {p : Option Addr} {n : Nat} {f : Nat → Nat} {row : Option Nat} (h : At k w p n f) (hb : w.grownBy w' row) (hB : ∀ a, p = some a → some a.block ≠ row) : At k w' p n f := by
  rcases h with h | ⟨g, off, rfl, hg, hc⟩
  · exact .inl h
  · exact .inr ⟨g, off, rfl, Nat.lt_of_lt_of_le hg hb.size, fun j hj => hb.cell (hc j hj) (show some g ≠ row from hB ⟨g, off, none⟩ rfl)⟩

/-- A block of M numbers, f 0 .., that may be written. -/
def Blk (k : IntKind) (w : World) (g M : Nat) (f : Nat → Nat) : Prop :=
  ∃ cur T, w.heap[g]? = some (.cells cur T (0, 0)) ∧ cur.size = M ∧ ∀ j, j < M → cur[j]? = some (.int k (f j))

section
variable {k : IntKind} {w w' : World} {g M : Nat} {f : Nat → Nat}
theorem Blk.lt (h : Blk k w g M f) : g < w.heap.size := by
  obtain ⟨cur, T, hg, _⟩ := h
  exact (Array.getElem?_eq_some_iff.1 hg).1
theorem Blk.cell (h : Blk k w g M f) {j : Nat} (hj : j < M) : w.cell? ⟨g, j, none⟩ = some (.int k (f j)) := by
  obtain ⟨cur, T, hg, _, hc⟩ := h
  rw [cell_of_row w g j cur T (0, 0) hg]; exact hc j hj
theorem Blk.free (h : Blk k w g M f) (j : Nat) : w.frozen? ⟨g, j, none⟩ = false := by
  obtain ⟨cur, T, hg, _, hc⟩ := h
  simp [World.frozen?, hg]
theorem Blk.set (h : Blk k w g M f) {j : Nat} (x : Nat) : Blk k (w.setCell ⟨g, j, none⟩ (.int k x)) g M (Mx.upd f j x) := by
  obtain ⟨cur, T, hg, hs, hc⟩ := h
  refine ⟨cur.setIfInBounds j (.int k x), T, ?_, by simpa using hs, fun i hi => ?_⟩
  · simp only [World.setCell, Array.getElem?_modify, hg, if_true, Option.map_some]; rfl
  · rw [Array.getElem?_setIfInBounds]
    by_cases e : j = i
    · subst e; simp [Mx.upd, hs, hi]
    · rw [if_neg e, hc i hi]; simp [Mx.upd, Ne.symm e]
theorem Blk.kept {row : Option Nat} (h : Blk k w g M f) (hg : w.grownBy w' row) (hne : some g ≠ row) : Blk k w' g M f := by
  obtain ⟨cur, T, hh, r⟩ := h
  exact ⟨cur, T, by rw [hg.block g (Array.getElem?_eq_some_iff.1 hh).1 hne]; exact hh, r⟩
theorem Blk.drew (h : Blk k w g M f) : Blk k w.drew g M f := h
theorem Blk.at0 (h : Blk k w g M f) : At k w (some ⟨g, 0, none⟩) M f :=
  .inr ⟨g, 0, rfl, h.lt, fun j hj => by rw [Nat.zero_add]; exact h.cell hj⟩
theorem Blk.at (h : Blk k w g M f) {off n : Nat} (hn : off + n ≤ M) : At k w (some ⟨g, off, none⟩) n (fun j => f (off + j)) :=
  .inr ⟨g, off, rfl, h.lt, fun j hj => h.cell (by omega)⟩
end

theorem lt_upd2 {f : Nat → Nat} {M d c B : Nat} (h : ∀ j, j < M → f j < B) (hd : d < B) (hc : c < B) (k : Nat) : ∀ j, j < M → Mx.upd (Mx.upd f k d) (k + 1) c j < B := by
  intro j hj; unfold Mx.upd; split
  · exact hc
  · split
    · exact hd
    · exact h j hj

section
variable {w a b c : World} {row : Option Nat}
theorem gb_refl (w : World) (row : Option Nat) : w.grownBy w row := ⟨rfl, rfl, rfl, Nat.le_refl _, fun _ _ _ => rfl⟩
theorem gb_trans (h : a.grownBy b row) (k : b.grownBy c row) : a.grownBy c row :=
  ⟨k.os.trans h.os, k.tape.trans h.tape, k.output.trans h.output, Nat.le_trans h.size k.size, fun i hi hr => (k.block i (Nat.lt_of_lt_of_le hi h.size) hr).trans (h.block i hi hr)⟩
theorem gb_drew (h : a.grownBy b row) : a.grownBy b.drew row := ⟨h.os, h.tape, h.output, h.size, h.block⟩
theorem gb_drewN (h : a.grownBy b row) (n : Nat) : a.grownBy (b.drewN n) row := ⟨h.os, h.tape, h.output, h.size, h.block⟩
theorem gb_alloc (h : a.grownBy b row) (o : Obj) : a.grownBy (b.alloc o) row := gb_trans h (World.grownBy_alloc b o row)
theorem gb_set {g j : Nat} (h : a.grownBy b (some g)) (u : Value) : a.grownBy (b.setCell ⟨g, j, none⟩ u) (some g) :=
  gb_trans h ⟨rfl, rfl, rfl, by simp [World.setCell], fun i _ hr => Below.heap_setCell _ _ _ _ (by intro e; apply hr; rw [e])⟩
theorem gb_below (h : a.grownBy b none) : Below a.heap.size a b := ⟨h.os, h.tape, h.output, h.size, fun k hk => h.block k hk (by simp)⟩
theorem bcell (hb : a.grownBy b none) : (∀ k o, k < a.heap.size → b.cell? ⟨k, o, none⟩ = a.cell? ⟨k, o, none⟩) ∧ (∀ k o, k < a.heap.size → b.frozen? ⟨k, o, none⟩ = a.frozen? ⟨k, o, none⟩) :=
  ⟨fun k o h => (gb_below hb).cell (p := ⟨k, o, none⟩) h, fun k o h => (gb_below hb).frozen (p := ⟨k, o, none⟩) h⟩
theorem below_gb (h : Below a.heap.size a b) : a.grownBy b row := ⟨h.os, h.tape, h.output, h.size, fun k hk _ => h.block k hk⟩
/-- Behind a new block, and writes to it alone, nothing that was there has turned. -/
theorem gb_new {g : Nat} (h : Below a.heap.size a b) (hg : a.heap.size ≤ g) (k : b.grownBy c (some g)) : Below a.heap.size a c :=
  ⟨k.os.trans h.os, k.tape.trans h.tape, k.output.trans h.output, Nat.le_trans h.size k.size, fun i hi => (k.block i (Nat.lt_of_lt_of_le hi h.size) (by simp; omega)).trans (h.block i hi)⟩
end

section
variable {P : Program} {f : FuncId} {args : Array Value} {w : World} {a n : Nat} {v : Value}
/-- A callee that leaves the world alone, inside a region that only reads: behind no draws, and behind some. -/
theorem q1 (c : ∀ W : World, Calls P f args W fun e w' => e = .returned v ∧ W = w') : Calls P f args (w.drewN n) fun e w'' => e = .returned v ∧ ∃ m, w'' = w.drewN m :=
  (c _).mono fun _ _ ⟨he, hm⟩ => ⟨he, n, hm.symm⟩
theorem q2 (c : ∀ W : World, Calls P f args W fun e w' => e = .returned v ∧ W = w') : Calls P f args (w.drewN (a + n)) fun e w'' => e = .returned v ∧ ∃ m, w'' = w.drewN (a + m) :=
  (c _).mono fun _ _ ⟨he, hm⟩ => ⟨he, n, hm.symm⟩
/-- The same of a callee that draws. -/
theorem q3 (c : ∀ W : World, Calls P f args W fun e w' => e = .returned v ∧ ∃ m, w' = W.drewN m) : Calls P f args (w.drewN n) fun e w'' => e = .returned v ∧ ∃ m, w'' = w.drewN m :=
  (c _).mono fun _ _ ⟨he, m, hm⟩ => ⟨he, n + m, by rw [hm, World.drewN_drewN]⟩
theorem q4 (c : ∀ W : World, Calls P f args W fun e w' => e = .returned v ∧ ∃ m, w' = W.drewN m) : Calls P f args (w.drewN (a + n)) fun e w'' => e = .returned v ∧ ∃ m, w'' = w.drewN (a + m) :=
  (c _).mono fun _ _ ⟨he, m, hm⟩ => ⟨he, n + m, by rw [hm, World.drewN_drewN, Nat.add_assoc]⟩
end

end Go.Proofs.Ytljpgmhgnfnbkaa
