/- Classes: each number leads to a lesser one. -/
import Derived.Test.YtljpgmhgnfnbkaaBList
namespace Go.Proofs.Ytljpgmhgnfnbkaa
open Go.RowKit Mx

/-! ### Where a number leads -/

def root (f : Nat → Nat) (a : Nat) : Nat := if h : f a < a then root f (f a) else a
termination_by a

theorem root_eq (f : Nat → Nat) (a : Nat) : root f a = if f a < a then root f (f a) else a := by
  rw [root]; split <;> rfl

theorem root_le (f : Nat → Nat) (a : Nat) : root f a ≤ a := by
  induction a using Nat.strongRecOn with
  | ind a ih =>
    rw [root_eq]
    by_cases h : f a < a
    · rw [if_pos h]; exact Nat.le_trans (ih _ h) (Nat.le_of_lt h)
    · rw [if_neg h]; exact Nat.le_refl _

theorem root_self {f : Nat → Nat} {a : Nat} (h : f a = a) : root f a = a := by rw [root_eq, if_neg (by omega)]

section
variable {f : Nat → Nat} (hf : ∀ j, f j ≤ j)
include hf

theorem root_fix (a : Nat) : f (root f a) = root f a := by
  induction a using Nat.strongRecOn with
  | ind a ih =>
    rw [root_eq]
    by_cases h : f a < a
    · rw [if_pos h]; exact ih _ h
    · rw [if_neg h]; have := hf a; omega

theorem root_step (a : Nat) : root f (f a) = root f a := by
  by_cases h : f a < a
  · rw [root_eq f a, if_pos h]
  · have : f a = a := by have := hf a; omega
    rw [this]

theorem root_root (a : Nat) : root f (root f a) = root f a := root_self (root_fix hf a)

theorem half_le (a : Nat) : ∀ j, upd f a (f (f a)) j ≤ j := fun j => by
  unfold upd
  split
  · subst_vars; exact Nat.le_trans (hf _) (hf _)
  · exact hf j

/-- A number led on past the next one: the same least one. -/
theorem root_half (a : Nat) (j : Nat) : root (upd f a (f (f a))) j = root f j := by
  induction j using Nat.strongRecOn with
  | ind j ih =>
    by_cases e : j = a
    · subst e
      rw [root_eq, upd_at]
      by_cases h : f (f j) < j
      · rw [if_pos h, ih _ h, root_step hf, root_step hf]
      · rw [if_neg h]
        have h1 := hf j
        have h2 := hf (f j)
        rw [root_self (by omega)]
    · rw [root_eq, upd_ne e]
      by_cases h : f j < j
      · rw [if_pos h, ih _ h, root_step hf]
      · rw [if_neg h, root_eq, if_neg h]

theorem join_le {lo hi : Nat} (h : lo ≤ hi) : ∀ j, upd f hi lo j ≤ j := fun j => by
  unfold upd
  split
  · subst_vars; exact h
  · exact hf j

/-- Two least ones made one. -/
theorem root_join {lo hi : Nat} (h : lo < hi) (hlo : f lo = lo) (hhi : f hi = hi) (j : Nat) : root (upd f hi lo) j = if root f j = hi then lo else root f j := by
  induction j using Nat.strongRecOn with
  | ind j ih =>
    by_cases e : j = hi
    · subst e
      rw [root_eq, upd_at, if_pos h, ih _ h, root_self hhi, if_pos rfl, root_self hlo, if_neg (by omega)]
    · rw [root_eq, upd_ne e]
      by_cases h2 : f j < j
      · rw [if_pos h2, ih _ h2, root_step hf]
      · have h3 : f j = j := by have := hf j; omega
        rw [if_neg h2, root_self h3, if_neg e]
end

/-! ### What may turn -/

/-- All as it was, but for blocks of S and new ones. -/
structure Fr2 (S : Nat → Prop) (w w' : World) : Prop where
  os : w'.os = w.os
  tape : w'.tape = w.tape
  output : w'.output = w.output
  size : w.heap.size ≤ w'.heap.size
  block : ∀ k, k < w.heap.size → ¬ S k → w'.heap[k]? = w.heap[k]?

theorem Fr2.refl (S : Nat → Prop) (w : World) : Fr2 S w w := ⟨rfl, rfl, rfl, Nat.le_refl _, fun _ _ _ => rfl⟩
theorem Fr2.trans {S : Nat → Prop} {a b c : World} (h : Fr2 S a b) (k : Fr2 S b c) : Fr2 S a c :=
  ⟨k.os.trans h.os, k.tape.trans h.tape, k.output.trans h.output, Nat.le_trans h.size k.size, fun i hi hr => (k.block i (Nat.lt_of_lt_of_le hi h.size) hr).trans (h.block i hi hr)⟩
theorem Fr2.of {S : Nat → Prop} {a b : World} {row : Option Nat} (h : a.grownBy b row) (hS : ∀ k, row = some k → S k) : Fr2 S a b :=
  ⟨h.os, h.tape, h.output, h.size, fun k hk hn => h.block k hk fun e => hn (hS k e.symm)⟩
theorem Fr2.below {S : Nat → Prop} {a b : World} {B : Nat} (h : Fr2 S a b) (hB : B ≤ a.heap.size) (hS : ∀ k, S k → B ≤ k) : Below B a b :=
  ⟨h.os, h.tape, h.output, h.size, fun k hk => h.block k (by omega) fun hs => by have := hS k hs; omega⟩
theorem Fr2.after {S : Nat → Prop} {a b c : World} (h : a.grownBy b none) (k : Fr2 S b c) (hS : ∀ i, S i → a.heap.size ≤ i) : a.grownBy c none :=
  ⟨k.os.trans h.os, k.tape.trans h.tape, k.output.trans h.output, Nat.le_trans h.size k.size, fun i hi _ => (k.block i (Nat.lt_of_lt_of_le hi h.size) (fun hs => by have := hS i hs; omega)).trans (h.block i hi (by simp))⟩

/-! ### The box and its numbers -/

/-- A box of classes at q, whose numbers lie in block g. -/
def Cls (w : World) (q g n : Nat) (f : Nat → Nat) (cnt : Int) : Prop :=
  w.heap[q]? = some (.cells #[.slice (some ⟨g, 0, none⟩) n n, .int .i64 cnt] 110 (0, 0)) ∧ Blk .i64 w g n f ∧ q ≠ g ∧ ∀ j, f j ≤ j

theorem Blk.congr {k : IntKind} {w : World} {g M : Nat} {f f' : Nat → Nat} (h : Blk k w g M f) (e : ∀ j, j < M → f j = f' j) : Blk k w g M f' := by
  obtain ⟨cur, T, h1, h2, h3⟩ := h
  exact ⟨cur, T, h1, h2, fun j hj => by rw [← e j hj]; exact h3 j hj⟩

theorem Cls.cells {w : World} {q g n : Nat} {f : Nat → Nat} {cnt : Int} (h : Cls w q g n f cnt) : w.cell? ⟨q, 0, none⟩ = some (.slice (some ⟨g, 0, none⟩) n n) ∧ w.cell? ⟨q, 1, none⟩ = some (.int .i64 cnt) ∧ (∀ o, w.frozen? ⟨q, o, none⟩ = false) ∧ (∀ o, w.frozen? ⟨g, o, none⟩ = false) ∧ ∀ j, j < n → w.cell? ⟨g, j, none⟩ = some (.int .i64 (f j)) := by
  obtain ⟨h1, h2, -, -⟩ := h
  exact ⟨by rw [cell_of_row w q 0 _ _ (0, 0) h1]; rfl, by rw [cell_of_row w q 1 _ _ (0, 0) h1]; rfl, fun o => by simp [World.frozen?, h1], fun o => h2.free o, fun j hj => h2.cell hj⟩

theorem Cls.kept {w w' : World} {q g n : Nat} {f : Nat → Nat} {cnt : Int} (h : Cls w q g n f cnt) (hg : w.grownBy w' none) : Cls w' q g n f cnt := by
  obtain ⟨h1, h2, h3, h4⟩ := h
  exact ⟨(hg.block _ (Array.getElem?_eq_some_iff.1 h1).1 (by simp)).trans h1, h2.kept hg (by simp), h3, h4⟩

/-- A number led elsewhere. -/
theorem Cls.lead {w : World} {q g n : Nat} {f : Nat → Nat} {cnt : Int} {a x : Nat} (h : Cls w q g n f cnt) (hle : ∀ j, upd f a x j ≤ j) : Cls (w.setCell ⟨g, a, none⟩ (.int .i64 x)) q g n (upd f a x) cnt := by
  obtain ⟨h1, h2, h3, h4⟩ := h
  exact ⟨by rw [Below.heap_setCell _ _ _ _ (by simpa using h3)]; exact h1, h2.set x, h3, hle⟩

/-- Another count. -/
theorem Cls.count {w : World} {q g n : Nat} {f : Nat → Nat} {cnt c' : Int} (h : Cls w q g n f cnt) : Cls (w.setCell ⟨q, 1, none⟩ (.int .i64 c')) q g n f c' := by
  obtain ⟨h1, h2, h3, h4⟩ := h
  refine ⟨?_, h2.kept (gb_set (gb_refl _ _) _) (by simpa using Ne.symm h3), h3, h4⟩
  simp only [World.setCell, Array.getElem?_modify, h1, if_true, Option.map_some]; rfl

theorem makeI_run (n : Nat) (hn : n ≤ 1099511627776) (w : World) : (Instr.makeSlice 22 (.int .i64 (n : Int)) (.int .i64 (n : Int))).run Try.prog w = .ok (.slice (some ⟨w.heap.size, 0, none⟩) n n) (w.alloc (.cells (madeCells #[.int .i64 0] n) 3)) :=
  run_make_row' 22 3 (.int .i64 0) 8 Try.underlying22 infoI rfl .i64 .i64 n (by omega) (by omega) w

theorem BlkI_made (w : World) (n : Nat) (T : TypeId) : Blk .i64 (w.alloc (.cells (madeCells #[.int .i64 0] n) T)) w.heap.size n (fun _ => 0) := by
  refine ⟨_, T, heap_alloc_new w _, size_madeCells _ _, fun j hj => ?_⟩
  rw [← Array.getElem?_toList, toList_madeCells_one]
  simp [hj]

def ClsPost (n : Nat) (w : World) (e : Ending) (w' : World) : Prop :=
  ∃ q g, e = .returned (.tuple #[.pointer (some ⟨q, 0, none⟩), .int .i64 0]) ∧ Cls w' q g n id n ∧ w.grownBy w' none ∧ w.heap.size ≤ q ∧ w.heap.size ≤ g

set_option maxRecDepth 100000 in
set_option maxHeartbeats 2000000 in
theorem NewClasses_c (n : Nat) (hn : n ≤ 65536) (w : World) : Calls Try.prog 41 #[.int .i64 n] w (ClsPost n w) := by
  have hmk := fun w => makeI_run n (by omega) w
  have d1 : decide ((n : Int) < 0) = false := decide_eq_false (by omega)
  have d2 : decide ((65536 : Int) < n) = false := decide_eq_false (by omega)
  have HB0 := Lib.hid (BlkI_made w n 3)
  have HG0 := Lib.hid (World.grownBy_alloc w (.cells (madeCells #[.int .i64 0] n) 3) none)
  go_enter Try.func41, Try.ntmps41
  go_wp2_with fail
  go_loopw [15] (fun i cur => ∃ k : Nat, k ≤ n ∧ i = .int .i64 k ∧ Hid (Blk .i64 cur w.heap.size n (fun j => if j < k then j else 0)) ∧ Hid (w.grownBy cur none) ∧ w.heap.size < cur.heap.size) (fun i _ => n - (intOf i).toNat)
  case atStart => exact ⟨0, by omega, rfl, HB0.out.congr (fun j _ => by simp), HG0, by simp⟩
  case round =>
    obtain ⟨k, hk, rfl, HB, HG, hsz⟩ := hrel
    by_cases hlt : k < n
    · have hc := HB.out.cell hlt
      have hfr := HB.out.free k
      go_wp2_with fail
      go_roundw
      case rel => exact ⟨k + 1, by omega, by go_num, (HB.out.set k).congr (fun j hj => by
          unfold upd
          by_cases e : j = k
          · subst e; simp
          · by_cases e2 : j < k
            · simp [e, e2, show j < k + 1 by omega]
            · simp [e, e2, show ¬ j < k + 1 by omega]), below_gb (gb_new (gb_below HG.out) (Nat.le_refl _) (gb_set (gb_refl _ _) _)), by simpa [World.setCell] using hsz⟩
      case measure => simp [intOf]; omega
    · obtain rfl : k = n := by omega
      go_wp2_with fail
      go_ret2
      refine ⟨wr.heap.size, w.heap.size, rfl, ⟨heap_alloc_new wr _, ((HB.out.congr (f' := id) (fun j hj => by simp [hj])).kept (World.grownBy_alloc wr _ none) (by simp)), by omega, fun j => Nat.le_refl _⟩, gb_alloc HG.out _, HG.out.size, Nat.le_refl _⟩
end Go.Proofs.Ytljpgmhgnfnbkaa
