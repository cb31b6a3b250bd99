/- opening: what a node's dump begins with. -/
import Derived.Test.YtoahgeleenpnjaaGreatDoorE8
import Derived.Test.YtoahgeleenpnjaaGreatDoorE5
import Derived.Test.YtoahgeleenpnjaaGreatDoorE4
import Derived.Test.YtoahgeleenpnjaaGreatDoorE3
import Derived.WalkKit
import Derived.WalkSpells
import Derived.WalkLawsBesides
import Derived.Lib.Hide
import Derived.Shelf.Spec.BitsCarry
import Derived.BigQuiet
import Derived.Deep.QuietTactic
import Derived.Deep.OwnRows
import Derived.Test.YtoahgeleenpnjaaGreatDoorE1
import Derived.Lib.BitFns
import Derived.Deep.DeepCutAuto
import Derived.Deep.CutBlock
import Derived.RegionTactic
import Derived.StillTailTactics
set_option linter.unusedVariables false
set_option linter.unusedSimpArgs false
namespace Go.Proofs.YtoahgeleenpnjaaGreatDoor
open Go.RowKit

def toI (t : Tok) : TokI := ⟨(t.kind : Int), t.lead, t.text, (t.pos : Int)⟩
theorem app_list (a b : ByteArray) : (a ++ b).data.toList = a.data.toList ++ b.data.toList := by rw [ByteArray.data_append, Array.toList_append]
theorem sz_list {a : ByteArray} {l : List UInt8} (h : a.data.toList = l) : a.size = l.length := by rw [← list_len, h]

end Go.Proofs.YtoahgeleenpnjaaGreatDoor
namespace Go.Proofs.YtoahgeleenpnjaaGreatDoor

/-! ### Kids, each once -/

/-! ### The form of each node -/

/-! ### Leaves and dumps -/

/-- A part of a row. -/
def PartAt (N : List Nd) (b : Nat) (P : List Nd) : Prop := ∀ (j : Nat) (x : Nd), P[j]? = some x → N[b + j]? = some x
theorem PartAt.left {N : List Nd} {b : Nat} {P Q : List Nd} (h : PartAt N b (P ++ Q)) : PartAt N b P := fun j x hx => h j x (by rw [List.getElem?_append_left (List.getElem?_eq_some_iff.1 hx).1]; exact hx)
theorem PartAt.right {N : List Nd} {b : Nat} {P Q : List Nd} (h : PartAt N b (P ++ Q)) : PartAt N (b + P.length) Q := fun j x hx => by
  have := h (P.length + j) x (by rw [List.getElem?_append_right (by omega), Nat.add_sub_cancel_left]; exact hx)
  rw [Nat.add_assoc]; exact this
theorem part_self (N : List Nd) : PartAt N 0 N := fun j x hx => by rw [Nat.zero_add]; exact hx
/-! ### How long a dump is -/

end Go.Proofs.YtoahgeleenpnjaaGreatDoor
namespace Go.Proofs.YtoahgeleenpnjaaGreatDoor.Mx

def V (b : Nat) (f : Nat → Nat) (o : Nat) : Nat → Nat
  | 0 => 0
  | n + 1 => V b f o n + f (o + n) * b ^ n

variable {b : Nat} {f g : Nat → Nat} {o p n m : Nat}

theorem V_succ : V b f o (n + 1) = V b f o n + f (o + n) * b ^ n := rfl

theorem V_congr (h : ∀ j, j < n → f (o + j) = g (p + j)) : V b f o n = V b g p n := by
  induction n with
  | zero => rfl
  | succ n ih => rw [V_succ, V_succ, ih (fun j hj => h j (by omega)), h n (by omega)]

theorem V_zeros (h : ∀ j, j < n → f (o + j) = 0) : V b f o n = 0 := by
  induction n with
  | zero => rfl
  | succ n ih => rw [V_succ, ih (fun j hj => h j (by omega)), h n (by omega)]; simp

theorem V_lt (h : ∀ j, j < n → f (o + j) < b) : V b f o n < b ^ n := by
  induction n with
  | zero => simp [V]
  | succ n ih =>
    have h1 := ih (fun j hj => h j (by omega))
    have h2 : f (o + n) + 1 ≤ b := h n (by omega)
    have h3 : (f (o + n) + 1) * b ^ n ≤ b * b ^ n := Nat.mul_le_mul_right _ h2
    rw [V_succ, Nat.pow_succ, Nat.mul_comm (b ^ n) b]
    rw [Nat.add_mul] at h3
    omega

theorem V_split (m : Nat) : V b f o (m + n) = V b f o m + b ^ m * V b f (o + m) n := by
  induction n with
  | zero => simp [V]
  | succ n ih =>
    rw [← Nat.add_assoc, V_succ, ih, V_succ, Nat.pow_add, Nat.add_assoc o m n]
    grind

theorem V_front : V b f o (n + 1) = f o + b * V b f (o + 1) n := by
  rw [Nat.add_comm n 1, V_split]; simp [V]

theorem V_ge (h : f (o + n) ≠ 0) : b ^ n ≤ V b f o (n + 1) := by
  have : 1 * b ^ n ≤ f (o + n) * b ^ n := Nat.mul_le_mul_right _ (by omega)
  rw [V_succ]; omega

theorem V_top (h : n = 0 ∨ f (o + n - 1) ≠ 0) : n = 0 ∨ b ^ (n - 1) ≤ V b f o n := by
  cases n with
  | zero => exact .inl rfl
  | succ n => exact .inr (V_ge (by simpa using h))

theorem V_pad (h : ∀ j, n ≤ j → j < m → f (o + j) = 0) (hnm : n ≤ m) : V b f o m = V b f o n := by
  obtain ⟨k, rfl⟩ : ∃ k, m = n + k := ⟨m - n, by omega⟩
  rw [V_split, V_zeros (n := k) (fun j hj => by rw [Nat.add_assoc]; exact h (n + j) (by omega) (by omega))]; simp

/-- A digit is read off the number. -/
theorem V_digit (hb : 0 < b) (h : ∀ j, j < n → f (o + j) < b) {j : Nat} (hj : j < n) : V b f o n / b ^ j % b = f (o + j) := by
  obtain ⟨k, rfl⟩ : ∃ k, n = j + (k + 1) := ⟨n - j - 1, by omega⟩
  have hlt : V b f o j < b ^ j := V_lt (fun i hi => h i (by omega))
  have hp : 0 < b ^ j := Nat.pow_pos hb
  rw [V_split, Nat.add_mul_div_left _ _ hp, Nat.div_eq_of_lt hlt, Nat.zero_add, V_front, Nat.add_mul_mod_self_left, Nat.mod_eq_of_lt (h j (by omega))]

/-- The digits that stand from `o` on after a write at `k`. -/
def upd (f : Nat → Nat) (k x : Nat) : Nat → Nat := fun j => if j = k then x else f j
theorem upd_at (k x : Nat) : upd f k x k = x := by simp [upd]
theorem upd_ne {k j x : Nat} (h : j ≠ k) : upd f k x j = f j := by simp [upd, h]

theorem V_upd_out {k x : Nat} (h : k < o ∨ o + n ≤ k) : V b (upd f k x) o n = V b f o n :=
  V_congr (fun j hj => upd_ne (by omega))

end Go.Proofs.YtoahgeleenpnjaaGreatDoor.Mx
namespace Go.Proofs.YtoahgeleenpnjaaGreatDoor.Zd
open Go.RowKit

def Bw : Nat := 18446744073709551616
theorem val_of {k : IntKind} {a b : Int} (h : a = b) : Value.int k a = Value.int k b := by rw [h]
theorem Bw_pos : 0 < Bw := by unfold Bw; omega

/-- The n numbers f 0 .. that a slice at p reads as in w. -/
def At (k : IntKind) (w : World) (p : Option Addr) (n : Nat) (f : Nat → Nat) : Prop :=
  n = 0 ∨ ∃ g off, p = some ⟨g, off, none⟩ ∧ g < w.heap.size ∧ ∀ j, j < n → w.cell? ⟨g, off + j, none⟩ = some (.int k (f j))

theorem At.pre {k : IntKind} {w : World} {p : Option Addr} {n m : Nat} {f : Nat → Nat} (h : At k w p n f) (hm : m ≤ n) : At k w p m f := by
  rcases h with h | ⟨g, off, rfl, hg, hc⟩
  · exact .inl (by omega)
  · exact .inr ⟨g, off, rfl, hg, fun j hj => hc j (by omega)⟩

theorem At.grown {k : IntKind} {w w' : World} {p : Option Addr} {n : Nat} {f : Nat → Nat} {row : Option Nat} (h : At k w p n f) (hb : w.grownBy w' row) (hB : ∀ a, p = some a → some a.block ≠ row) : At k w' p n f := by
  rcases h with h | ⟨g, off, rfl, hg, hc⟩
  · exact .inl h
  · exact .inr ⟨g, off, rfl, Nat.lt_of_lt_of_le hg hb.size, fun j hj => hb.cell (hc j hj) (show some g ≠ row from hB ⟨g, off, none⟩ rfl)⟩

/-- A block of M numbers, f 0 .., that may be written. -/
def Blk (k : IntKind) (w : World) (g M : Nat) (f : Nat → Nat) : Prop :=
  ∃ cur T, w.heap[g]? = some (.cells cur T (0, 0)) ∧ cur.size = M ∧ ∀ j, j < M → cur[j]? = some (.int k (f j))

section
variable {k : IntKind} {w w' : World} {g M : Nat} {f : Nat → Nat}
theorem Blk.lt (h : Blk k w g M f) : g < w.heap.size := by
  obtain ⟨cur, T, hg, _⟩ := h
  exact (Array.getElem?_eq_some_iff.1 hg).1
theorem Blk.cell (h : Blk k w g M f) {j : Nat} (hj : j < M) : w.cell? ⟨g, j, none⟩ = some (.int k (f j)) := by
  obtain ⟨cur, T, hg, _, hc⟩ := h
  rw [cell_of_row w g j cur T (0, 0) hg]; exact hc j hj
theorem Blk.free (h : Blk k w g M f) (j : Nat) : w.frozen? ⟨g, j, none⟩ = false := by
  obtain ⟨cur, T, hg, _, hc⟩ := h
  simp [World.frozen?, hg]
theorem Blk.set (h : Blk k w g M f) {j : Nat} (x : Nat) : Blk k (w.setCell ⟨g, j, none⟩ (.int k x)) g M (Mx.upd f j x) := by
  obtain ⟨cur, T, hg, hs, hc⟩ := h
  refine ⟨cur.setIfInBounds j (.int k x), T, ?_, by simpa using hs, fun i hi => ?_⟩
  · simp only [World.setCell, Array.getElem?_modify, hg, if_true, Option.map_some]; rfl
  · rw [Array.getElem?_setIfInBounds]
    by_cases e : j = i
    · subst e; simp [Mx.upd, hs, hi]
    · rw [if_neg e, hc i hi]; simp [Mx.upd, Ne.symm e]
theorem Blk.kept {row : Option Nat} (h : Blk k w g M f) (hg : w.grownBy w' row) (hne : some g ≠ row) : Blk k w' g M f := by
  obtain ⟨cur, T, hh, r⟩ := h
  exact ⟨cur, T, by rw [hg.block g (Array.getElem?_eq_some_iff.1 hh).1 hne]; exact hh, r⟩
theorem Blk.at0 (h : Blk k w g M f) : At k w (some ⟨g, 0, none⟩) M f :=
  .inr ⟨g, 0, rfl, h.lt, fun j hj => by rw [Nat.zero_add]; exact h.cell hj⟩
end

section
variable {w a b c : World} {row : Option Nat}
theorem gb_refl (w : World) (row : Option Nat) : w.grownBy w row := ⟨rfl, rfl, rfl, Nat.le_refl _, fun _ _ _ => rfl⟩
theorem gb_trans (h : a.grownBy b row) (k : b.grownBy c row) : a.grownBy c row :=
  ⟨k.os.trans h.os, k.tape.trans h.tape, k.output.trans h.output, Nat.le_trans h.size k.size, fun i hi hr => (k.block i (Nat.lt_of_lt_of_le hi h.size) hr).trans (h.block i hi hr)⟩
theorem gb_drew (h : a.grownBy b row) : a.grownBy b.drew row := ⟨h.os, h.tape, h.output, h.size, h.block⟩
theorem gb_drewN (h : a.grownBy b row) (n : Nat) : a.grownBy (b.drewN n) row := ⟨h.os, h.tape, h.output, h.size, h.block⟩
theorem gb_alloc (h : a.grownBy b row) (o : Obj) : a.grownBy (b.alloc o) row := gb_trans h (World.grownBy_alloc b o row)
theorem gb_set {g j : Nat} (h : a.grownBy b (some g)) (u : Value) : a.grownBy (b.setCell ⟨g, j, none⟩ u) (some g) :=
  gb_trans h ⟨rfl, rfl, rfl, by simp [World.setCell], fun i _ hr => Below.heap_setCell _ _ _ _ (by intro e; apply hr; rw [e])⟩
theorem gb_below (h : a.grownBy b none) : Below a.heap.size a b := ⟨h.os, h.tape, h.output, h.size, fun k hk => h.block k hk (by simp)⟩
theorem bcell (hb : a.grownBy b none) : (∀ k o, k < a.heap.size → b.cell? ⟨k, o, none⟩ = a.cell? ⟨k, o, none⟩) ∧ (∀ k o, k < a.heap.size → b.frozen? ⟨k, o, none⟩ = a.frozen? ⟨k, o, none⟩) :=
  ⟨fun k o h => (gb_below hb).cell (p := ⟨k, o, none⟩) h, fun k o h => (gb_below hb).frozen (p := ⟨k, o, none⟩) h⟩
theorem below_gb (h : Below a.heap.size a b) : a.grownBy b row := ⟨h.os, h.tape, h.output, h.size, fun k hk _ => h.block k hk⟩
/-- Behind a new block, and writes to it alone, nothing that was there has turned. -/
theorem gb_new {g : Nat} (h : Below a.heap.size a b) (hg : a.heap.size ≤ g) (k : b.grownBy c (some g)) : Below a.heap.size a c :=
  ⟨k.os.trans h.os, k.tape.trans h.tape, k.output.trans h.output, Nat.le_trans h.size k.size, fun i hi => (k.block i (Nat.lt_of_lt_of_le hi h.size) (by simp; omega)).trans (h.block i hi)⟩
end

section
variable {P : Program} {f : FuncId} {args : Array Value} {w : World} {a n : Nat} {v : Value}
/-- A callee that leaves the world alone, inside a region that only reads: behind no draws, and behind some. -/
theorem q1 (c : ∀ W : World, Calls P f args W fun e w' => e = .returned v ∧ W = w') : Calls P f args (w.drewN n) fun e w'' => e = .returned v ∧ ∃ m, w'' = w.drewN m :=
  (c _).mono fun _ _ ⟨he, hm⟩ => ⟨he, n, hm.symm⟩
theorem q2 (c : ∀ W : World, Calls P f args W fun e w' => e = .returned v ∧ W = w') : Calls P f args (w.drewN (a + n)) fun e w'' => e = .returned v ∧ ∃ m, w'' = w.drewN (a + m) :=
  (c _).mono fun _ _ ⟨he, hm⟩ => ⟨he, n, hm.symm⟩
/-- The same of a callee that draws. -/
theorem q3 (c : ∀ W : World, Calls P f args W fun e w' => e = .returned v ∧ ∃ m, w' = W.drewN m) : Calls P f args (w.drewN n) fun e w'' => e = .returned v ∧ ∃ m, w'' = w.drewN m :=
  (c _).mono fun _ _ ⟨he, m, hm⟩ => ⟨he, n + m, by rw [hm, World.drewN_drewN]⟩
theorem q4 (c : ∀ W : World, Calls P f args W fun e w' => e = .returned v ∧ ∃ m, w' = W.drewN m) : Calls P f args (w.drewN (a + n)) fun e w'' => e = .returned v ∧ ∃ m, w'' = w.drewN (a + m) :=
  (c _).mono fun _ _ ⟨he, m, hm⟩ => ⟨he, n + m, by rw [hm, World.drewN_drewN, Nat.add_assoc]⟩
end

theorem add64_run (x y c : Nat) (hc : c ≤ 1) (hx : x < Bw) (hy : y < Bw) : ∃ s c' : Nat, (∀ w, (callFunc 142 #[.int .u64 x, .int .u64 y, .int .u64 c]).run Tryz.prog w = .ok (.value (.tuple #[.int .u64 s, .int .u64 c'])) w) ∧ s < Bw ∧ c' ≤ 1 ∧ s + c' * Bw = x + y + c := by
  unfold Bw at *
  refine ⟨(x + y + c) % 18446744073709551616, (x + y + c) / 18446744073709551616, fun w => ?_, ?_, ?_, ?_⟩
  · rw [run_callFunc_extern Tryz.func142 (by kernel_rfl) (by kernel_rfl) (by kernel_rfl) (e := add64Entry) (by kernel_rfl), run_add64 x y c (by omega) (by omega) (by omega) (by omega)]
    simp only [Result.andThen]
    congr 5 <;> omega
  · omega
  · omega
  · omega

theorem mul64_c (x y : Nat) (hx : x < Bw) (hy : y < Bw) : ∃ hi lo : Nat, (∀ w, Calls Tryz.prog 141 #[.int .u64 x, .int .u64 y] w fun e w' => e = .returned (.tuple #[.int .u64 hi, .int .u64 lo]) ∧ w = w') ∧ hi < Bw ∧ lo < Bw ∧ hi * Bw + lo = x * y := by
  refine ⟨x * y / 18446744073709551616, x * y % 18446744073709551616, fun w => (Tryz.bits_Mul64 x y hx hy w).mono (by rintro e w' ⟨h1, h2⟩; exact ⟨h1, h2.symm⟩), ?_, ?_, ?_⟩
  · have : x * y < 18446744073709551616 * 18446744073709551616 := Nat.mul_lt_mul'' hx hy
    unfold Bw; omega
  · unfold Bw; omega
  · unfold Bw; omega

end Go.Proofs.YtoahgeleenpnjaaGreatDoor.Zd
namespace Go.Proofs.YtoahgeleenpnjaaGreatDoor.Mx

/-- u * 2^32 + d by Y = yn1 * 2^32 + yn0. -/
structure Half (u d Y yn1 yn0 : Nat) : Prop where
  hY : Y = yn1 * 4294967296 + yn0
  h0 : yn0 < 4294967296
  h1 : 2147483648 ≤ yn1
  h2 : yn1 < 4294967296
  hu : u < Y
  hd : d < 4294967296

section
variable {u d Y yn1 yn0 q r : Nat}

theorem Half.pos (h : Half u d Y yn1 yn0) : 0 < Y := by have := h.hY; have := h.h1; omega

theorem Half.lt (h : Half u d Y yn1 yn0) : (u * 4294967296 + d) / Y < 4294967296 := by
  rw [Nat.div_lt_iff_lt_mul h.pos]
  have := h.hu; have := h.hd; omega

theorem mulY (h : Half u d Y yn1 yn0) (e : q * yn1 + r = u) : q * Y + r * 4294967296 = u * 4294967296 + q * yn0 := by
  rw [h.hY, ← e]; grind

theorem Half.stop (h : Half u d Y yn1 yn0) (e : q * yn1 + r = u) (hQ : (u * 4294967296 + d) / Y ≤ q) (t : q * yn0 ≤ 4294967296 * r + d) : q = (u * 4294967296 + d) / Y := by
  have m := mulY h e
  have : q ≤ (u * 4294967296 + d) / Y := by
    rw [Nat.le_div_iff_mul_le h.pos]; omega
  omega

theorem Half.more (h : Half u d Y yn1 yn0) (e : q * yn1 + r = u) (t : 4294967296 ≤ q ∨ 4294967296 * r + d < q * yn0) : (u * 4294967296 + d) / Y < q := by
  rcases t with t | t
  · have := h.lt; omega
  · have m := mulY h e
    rw [Nat.div_lt_iff_lt_mul h.pos]; omega

theorem Half.brk (h : Half u d Y yn1 yn0) (e : q * yn1 + r = u) (hQ : (u * 4294967296 + d) / Y ≤ q) (hr : 4294967296 ≤ r) (hq : q ≤ 4294967296) : q = (u * 4294967296 + d) / Y := by
  have m := mulY h e
  have : q * yn0 ≤ 4294967296 * 4294967295 := Nat.mul_le_mul hq (by have := h.h0; omega)
  have : q ≤ (u * 4294967296 + d) / Y := by
    rw [Nat.le_div_iff_mul_le h.pos]; omega
  omega

theorem Half.start (h : Half u d Y yn1 yn0) : (u / yn1) * yn1 + u % yn1 = u ∧ (u * 4294967296 + d) / Y ≤ u / yn1 ∧ u / yn1 ≤ 4294967297 ∧ u % yn1 < 4294967296 ∧ 0 < yn1 := by
  have h1 := h.h1; have h2 := h.h2; have hu := h.hu; have hY := h.hY; have h0 := h.h0; have hd := h.hd
  have e : (u / yn1) * yn1 + u % yn1 = u := by rw [Nat.mul_comm]; exact Nat.div_add_mod u yn1
  have hm : u % yn1 < yn1 := Nat.mod_lt _ (by omega)
  refine ⟨e, ?_, ?_, by omega, by omega⟩
  · rw [Nat.le_div_iff_mul_le (by omega)]
    have k : (u * 4294967296 + d) / Y * Y ≤ u * 4294967296 + d := Nat.div_mul_le_self _ _
    generalize (u * 4294967296 + d) / Y = Q at *
    have e2 : Q * Y = Q * yn1 * 4294967296 + Q * yn0 := by rw [hY]; grind
    omega
  · have : u / yn1 < 4294967298 := by
      rw [Nat.div_lt_iff_lt_mul (by omega)]; omega
    omega

theorem Half.rest (h : Half u d Y yn1 yn0) : (u * 4294967296 + d) % Y < Y ∧ (u * 4294967296 + d) / Y * Y + (u * 4294967296 + d) % Y = u * 4294967296 + d := by
  refine ⟨Nat.mod_lt _ h.pos, ?_⟩
  rw [Nat.mul_comm]; exact Nat.div_add_mod _ _
end

open Go.Lib in
theorem bitLenAux_b : ∀ (f x : Nat), x < 2 ^ f → x < 2 ^ bitLenAux f x ∧ (x ≠ 0 → 2 ^ bitLenAux f x ≤ 2 * x) ∧ bitLenAux f x ≤ f
  | 0, x, h => by simp at h; subst h; simp [bitLenAux]
  | f + 1, x, h => by
    rw [Nat.pow_succ] at h
    obtain ⟨a, b, c⟩ := bitLenAux_b f (x / 2) (by omega)
    by_cases h0 : x = 0
    · subst h0; simp [bitLenAux]
    · have e : bitLenAux (f + 1) x = 1 + bitLenAux f (x / 2) := by simp [bitLenAux, h0]
      rw [e, Nat.pow_add]
      refine ⟨by omega, fun _ => ?_, by omega⟩
      by_cases h1 : x / 2 = 0
      · have : bitLenAux f (x / 2) = 0 := by rw [h1]; cases f <;> simp [bitLenAux]
        rw [this]; omega
      · have := b h1; omega

/-- A word moved up till its highest bit is set. -/
theorem shift_of (y : Nat) (h0 : 0 < y) (h : y < 18446744073709551616) : ∃ s, s ≤ 63 ∧ Go.Lib.bitLen y + s = 64 ∧ y * 2 ^ s < 18446744073709551616 ∧ 9223372036854775808 ≤ y * 2 ^ s := by
  obtain ⟨a, b, c⟩ := bitLenAux_b 64 y h
  have b := b (by omega)
  change y < 2 ^ Go.Lib.bitLen y at a
  change 2 ^ Go.Lib.bitLen y ≤ 2 * y at b
  change Go.Lib.bitLen y ≤ 64 at c
  have hpos : Go.Lib.bitLen y ≠ 0 := by intro e; rw [e] at a; omega
  obtain ⟨s, hs⟩ : ∃ s, Go.Lib.bitLen y + s = 64 := ⟨64 - Go.Lib.bitLen y, by omega⟩
  have hp : 2 ^ Go.Lib.bitLen y * 2 ^ s = 18446744073709551616 := by rw [← Nat.pow_add, hs]
  have hs0 : 0 < 2 ^ s := Nat.pow_pos (by omega)
  refine ⟨s, by omega, hs, ?_, ?_⟩
  · calc y * 2 ^ s < 2 ^ Go.Lib.bitLen y * 2 ^ s := Nat.mul_lt_mul_of_pos_right a hs0
      _ = _ := hp
  · have : 2 ^ Go.Lib.bitLen y * 2 ^ s ≤ 2 * y * 2 ^ s := Nat.mul_le_mul_right _ b
    rw [hp, Nat.mul_assoc] at this
    omega
end Go.Proofs.YtoahgeleenpnjaaGreatDoor.Mx
namespace Go.Proofs.YtoahgeleenpnjaaGreatDoor.Zd
open Go.RowKit Mx

def DivPost (hi lo y : Nat) (w : World) (e : Ending) (w' : World) : Prop :=
  ∃ q r : Nat, e = .returned (.tuple #[.int .u64 q, .int .u64 r]) ∧ q < Bw ∧ r < y ∧ q * y + r = hi * Bw + lo ∧ ∃ m, w' = w.drewN m

set_option maxHeartbeats 400000 in
theorem div64_zero (lo y : Nat) (w : World) (hy : 0 < y) (hyB : y < Bw) (hlo : lo < Bw) :
    Calls Tryz.prog 147 #[.int .u64 0, .int .u64 lo, .int .u64 y] w (DivPost 0 lo y w) := by
  have h1 : ((y : Int) == 0) = false := beq_eq_false_iff_ne.2 (by omega)
  have h2 : (1:Int) ≤ y := by omega
  have h3 : (y : Int) ≤ 18446744073709551615 := by unfold Bw at hyB; omega
  have h4 : (lo : Int) ≤ 18446744073709551615 := by unfold Bw at hlo; omega
  have h5 : (0 : Int) ≤ lo := by omega
  go_enter Tryz.func147, Tryz.ntmps147
  go_wp2
  go_region
  all_goals go_wp2
  all_goals exact bodyPost_ret (v := .tuple #[.int .u64 (IntKind.u64.wrap (↑lo / ↑y)), .int .u64 (↑lo % ↑y)]) (by simp [results, Tryz.results147, go_sem]) rfl (by
    have e1 : IntKind.u64.wrap ((lo : Int) / (y : Int)) = ((lo / y : Nat) : Int) := by
      rw [IntKind.wrap_u64, ← Int.natCast_ediv]
      have : lo / y ≤ lo := Nat.div_le_self _ _
      unfold Bw at hlo
      generalize lo / y = q at *
      omega
    refine ⟨lo / y, lo % y, ?_, Nat.lt_of_le_of_lt (Nat.div_le_self _ _) hlo, Nat.mod_lt _ hy, ?_, 1, rfl⟩
    · rw [e1, ← Int.natCast_emod]
    · rw [Nat.zero_mul, Nat.zero_add, Nat.mul_comm]; exact Nat.div_add_mod lo y)

/-- The numbers that Div64 makes ahead of its two halves. -/
theorem div_setup (hi lo y s : Nat) (hs : s ≤ 63) (hy : hi < y) (hlo : lo < Bw) (hY1 : y * 2 ^ s < 18446744073709551616) (hY2 : 9223372036854775808 ≤ y * 2 ^ s) :
    ∃ Y yn1 yn0 U L un1 un0 : Nat, IntKind.u64.wrap ((y : Int) * 2 ^ s) = (Y : Int) ∧ (Y : Int) / 4294967296 = (yn1 : Int) ∧ bits .and .u64 (Y : Int) 4294967295 = (yn0 : Int) ∧
      bits .or .u64 (IntKind.u64.wrap ((hi : Int) * 2 ^ s)) ((lo : Int) / 2 ^ (64 - s)) = (U : Int) ∧ IntKind.u64.wrap ((lo : Int) * 2 ^ s) = (L : Int) ∧ (L : Int) / 4294967296 = (un1 : Int) ∧ bits .and .u64 (L : Int) 4294967295 = (un0 : Int) ∧
      Half U un1 Y yn1 yn0 ∧ un0 < 4294967296 ∧ Y = y * 2 ^ s ∧ (hi * Bw + lo) * 2 ^ s = (U * 4294967296 + un1) * 4294967296 + un0 ∧ Y < 18446744073709551616 ∧ U < 18446744073709551616 := by
  unfold Bw at *
  have hp : 0 < 2 ^ s := Nat.pow_pos (by omega)
  have hp2 : 0 < 2 ^ (64 - s) := Nat.pow_pos (by omega)
  have hpp : 2 ^ s * 2 ^ (64 - s) = 18446744073709551616 := by rw [← Nat.pow_add, show s + (64 - s) = 64 from by omega]
  have h1 : (hi + 1) * 2 ^ s ≤ y * 2 ^ s := Nat.mul_le_mul_right _ hy
  have hlo2 : lo / 2 ^ (64 - s) < 2 ^ s := by rw [Nat.div_lt_iff_lt_mul hp2, hpp]; exact hlo
  have hU : hi * 2 ^ s + lo / 2 ^ (64 - s) < y * 2 ^ s := by rw [Nat.add_mul] at h1; omega
  have hor : hi * 2 ^ s ||| lo / 2 ^ (64 - s) = hi * 2 ^ s + lo / 2 ^ (64 - s) := by
    rw [Nat.mul_comm]; exact (Nat.two_pow_add_eq_or_of_lt hlo2 hi).symm
  -- what is lost on the left of lo's move stands in U
  have hL : lo * 2 ^ s = lo / 2 ^ (64 - s) * 18446744073709551616 + lo % 2 ^ (64 - s) * 2 ^ s := by
    have := Nat.div_add_mod lo (2 ^ (64 - s))
    generalize lo / 2 ^ (64 - s) = a at *
    generalize lo % 2 ^ (64 - s) = b at *
    rw [← this, ← hpp]; grind
  have hb : lo % 2 ^ (64 - s) * 2 ^ s < 18446744073709551616 := by
    rw [← hpp, Nat.mul_comm (2 ^ s)]
    exact Nat.mul_lt_mul_of_pos_right (Nat.mod_lt _ hp2) hp
  have hLm : lo * 2 ^ s % 18446744073709551616 = lo % 2 ^ (64 - s) * 2 ^ s := by omega
  refine ⟨y * 2 ^ s, y * 2 ^ s / 4294967296, y * 2 ^ s % 4294967296, hi * 2 ^ s + lo / 2 ^ (64 - s), lo * 2 ^ s % 18446744073709551616, lo * 2 ^ s % 18446744073709551616 / 4294967296, lo * 2 ^ s % 18446744073709551616 % 4294967296,
    ?_, by omega, Mul64.maskN _ hY1, ?_, ?_, by omega, Mul64.maskN _ (by omega), ⟨by omega, by omega, by omega, by omega, hU, by omega⟩, by omega, rfl, ?_, hY1, by omega⟩
  · have e : ((y : Int) * 2 ^ s) = ((y * 2 ^ s : Nat) : Int) := by simp
    rw [e]; exact Mul64.wrapN _ hY1
  · have e : ((hi : Int) * 2 ^ s) = ((hi * 2 ^ s : Nat) : Int) := by simp
    have e2 : ((lo : Int) / 2 ^ (64 - s)) = ((lo / 2 ^ (64 - s) : Nat) : Int) := by simp
    rw [e, Mul64.wrapN _ (by omega), e2, bits_or_u64_nat _ _ (by omega) (by omega), hor]
  · have e : ((lo : Int) * 2 ^ s) = ((lo * 2 ^ s : Nat) : Int) := by simp
    rw [e]; exact Mul64.wrapM _
  · have e : (hi * 18446744073709551616 + lo) * 2 ^ s = hi * 2 ^ s * 18446744073709551616 + lo * 2 ^ s := by grind
    rw [e]; omega

theorem lz_c (y : Nat) (h0 : 0 < y) (h : y < Bw) : ∃ s : Nat, s ≤ 63 ∧ (∀ w, Calls Tryz.prog 158 #[.int .u64 y] w fun e w' => e = .returned (.int .i64 s) ∧ w = w') ∧ y * 2 ^ s < 18446744073709551616 ∧ 9223372036854775808 ≤ y * 2 ^ s := by
  obtain ⟨s, h1, h2, h3, h4⟩ := shift_of y h0 h
  refine ⟨s, h1, fun w => (Tryz.bits_LeadingZeros64 (y : Int) w (by omega) (by unfold Bw at h; omega)).mono ?_, h3, h4⟩
  rintro e w' ⟨rfl, rfl⟩
  refine ⟨?_, rfl⟩
  have : (64 - (Go.Lib.bitLen (y : Int).toNat : Int)) = (s : Int) := by rw [Int.toNat_natCast]; omega
  rw [this]

theorem val_eq {k : IntKind} {a b : Int} (h : a = b) : Value.int k a = Value.int k b := by rw [h]

theorem half_start {u d Y yn1 yn0 : Nat} (h : Half u d Y yn1 yn0) (hu : u < 18446744073709551616) : ∃ q r : Nat, IntKind.u64.wrap ((u : Int) / (yn1 : Int)) = (q : Int) ∧ IntKind.u64.wrap ((u : Int) - IntKind.u64.wrap ((q : Int) * (yn1 : Int))) = (r : Int) ∧ q * yn1 + r = u ∧ (u * 4294967296 + d) / Y ≤ q ∧ q ≤ 4294967297 ∧ r < 4294967296 := by
  obtain ⟨a, b, c, e, f⟩ := h.start
  refine ⟨u / yn1, u % yn1, ?_, ?_, a, b, c, e⟩
  · rw [Mul64.wrapN _ hu |> fun _ => IntKind.wrap_u64, ← Int.natCast_ediv]
    generalize u / yn1 = q at *
    omega
  · rw [← Int.natCast_mul]
    generalize u / yn1 * yn1 = P at *
    generalize u % yn1 = R at *
    rw [IntKind.wrap_u64, IntKind.wrap_u64]
    omega

theorem half_rest {u d Y yn1 yn0 : Nat} (h : Half u d Y yn1 yn0) (hY : Y < 18446744073709551616) (hu : u < 18446744073709551616) : ∃ q r : Nat, q = (u * 4294967296 + d) / Y ∧ q < 4294967296 ∧ q * Y + r = u * 4294967296 + d ∧ r < Y ∧
    IntKind.u64.wrap (IntKind.u64.wrap (IntKind.u64.wrap ((u : Int) * 4294967296) + (d : Int)) - IntKind.u64.wrap ((q : Int) * (Y : Int))) = (r : Int) := by
  obtain ⟨a, b⟩ := h.rest
  have := h.lt
  refine ⟨_, _, rfl, this, b, a, ?_⟩
  rw [← Int.natCast_mul]
  generalize (u * 4294967296 + d) / Y * Y = P at *
  generalize (u * 4294967296 + d) % Y = R at *
  simp only [IntKind.wrap_u64]
  omega

theorem div_end {hi lo y s Y U un1 un0 Q1 R1 Q2 R2 : Nat} (w : World) (hY : Y = y * 2 ^ s) (hN : (hi * Bw + lo) * 2 ^ s = (U * 4294967296 + un1) * 4294967296 + un0) (h1 : Q1 * Y + R1 = U * 4294967296 + un1) (h2 : Q2 * Y + R2 = R1 * 4294967296 + un0)
    (hq1 : Q1 < 4294967296) (hq2 : Q2 < 4294967296) (hr : R2 < Y) :
    DivPost hi lo y w (.returned (.tuple #[.int .u64 ((Q1 : Int) * 4294967296 + (Q2 : Int)), .int .u64 ((R2 : Int) / 2 ^ s)])) w := by
  have hp : 0 < 2 ^ s := Nat.pow_pos (by omega)
  have e : (hi * Bw + lo) * 2 ^ s = (Q1 * 4294967296 + Q2) * y * 2 ^ s + R2 := by
    rw [hN, ← h1]
    have : (Q1 * Y + R1) * 4294967296 + un0 = Q1 * 4294967296 * Y + (R1 * 4294967296 + un0) := by grind
    rw [this, ← h2, hY]; grind
  unfold DivPost
  generalize hi * Bw + lo = N at *
  have hq : (Q1 * 4294967296 + Q2) * y ≤ N := Nat.le_of_mul_le_mul_right (by rw [e]; omega) hp
  have e2 : (N - (Q1 * 4294967296 + Q2) * y) * 2 ^ s = R2 := by rw [Nat.sub_mul, e]; omega
  have e3 : R2 / 2 ^ s = N - (Q1 * 4294967296 + Q2) * y := by rw [← e2]; exact Nat.mul_div_cancel _ hp
  have hlt : R2 / 2 ^ s < y := by rw [Nat.div_lt_iff_lt_mul hp, ← hY]; exact hr
  refine ⟨Q1 * 4294967296 + Q2, R2 / 2 ^ s, ?_, by unfold Bw; omega, hlt, by rw [e3]; omega, 0, rfl⟩
  simp

set_option maxRecDepth 100000 in
set_option maxHeartbeats 1000000 in
theorem div64_pos (hi lo y : Nat) (w : World) (hh : 0 < hi) (hy : hi < y) (hyB : y < Bw) (hlo : lo < Bw) :
    Calls Tryz.prog 147 #[.int .u64 hi, .int .u64 lo, .int .u64 y] w (DivPost hi lo y w) := by
  have h1 : ((y : Int) == 0) = false := beq_eq_false_iff_ne.2 (by omega)
  have h2 : (1:Int) ≤ y := by omega
  have h3 : (y : Int) ≤ 18446744073709551615 := by unfold Bw at hyB; omega
  have h4 : (lo : Int) ≤ 18446744073709551615 := by unfold Bw at hlo; omega
  have h5 : (0 : Int) ≤ lo := by omega
  have h6 : ((hi : Int) == 0) = false := beq_eq_false_iff_ne.2 (by omega)
  have h7 : (hi : Int) < y := by omega
  obtain ⟨s, hs63, HL, hY1, hY2⟩ := lz_c y (by omega) hyB
  have HL := Lib.hid HL
  go_enter Tryz.func147, Tryz.ntmps147
  obtain ⟨Y, yn1, yn0, U, L, un1, un0, hEY, hE1, hE0, hEU, hEL, hL1, hL0, hH1, hu0, hYy, hN, hYb, hUb⟩ := div_setup hi lo y s hs63 hy hlo hY1 hY2
  have HEY := Lib.hid hEY; have HE1 := Lib.hid hE1; have HE0 := Lib.hid hE0; have HEU := Lib.hid hEU; have HEL := Lib.hid hEL; have HL1 := Lib.hid hL1; have HL0 := Lib.hid hL0
  have HYy := Lib.hid hYy; have HN := Lib.hid hN
  clear hEY hE1 hE0 hEU hEL hL1 hL0 hYy hN
  go_upto_region 15 with (go_at_call 158; refine (HL.out _).mono ?_; rintro e w' ⟨rfl, rfl⟩)
  simp only [HEY.out, HE1.out, HE0.out, HEU.out, HEL.out, HL1.out, HL0.out]
  clear HL
  have hyn := hH1.h1
  have g1 : (1 : Int) ≤ yn1 := by omega
  have g2 : ((yn1 : Int) == 0) = false := beq_eq_false_iff_ne.2 (by omega)
  obtain ⟨q0, r0, b1, b2, a1, a2, A3, A4⟩ := half_start hH1 hUb
  have A1 := Lib.hid a1; have HH1 := Lib.hid hH1
  have hy1 := hH1.h2
  obtain ⟨Q1, R1, hQ1, hQ1b, hR1, hR1b, hR1w⟩ := half_rest hH1 hYb hUb
  have HQ1 := Lib.hid hQ1; have HR1 := Lib.hid hR1
  rw [← hQ1] at a2
  have hH2 : Half R1 un0 Y yn1 yn0 := ⟨hH1.hY, hH1.h0, hH1.h1, hH1.h2, hR1b, hu0⟩
  have A2 := Lib.hid a2
  clear a1 a2 hH1 hQ1 hR1
  go_upto_block 0 with fail
  clear b1 b2
  go_cut [15] (fun v wx => v = .int .u64 (Q1 : Nat) ∧ wx = w)
  case first =>
    go_wp2_with fail
    go_loop [15, 16] (fun q r => ∃ qn rn : Nat, q = .int .u64 qn ∧ r = .int .u64 rn ∧ Hid (qn * yn1 + rn = U) ∧ Hid (Q1 ≤ qn) ∧ qn ≤ 4294967297 ∧ rn < 4294967296) (fun q _ => (intOf q).toNat)
    case atStart => exact ⟨q0, r0, rfl, rfl, A1.out, A2.out, A3, A4⟩
    case round =>
      obtain ⟨qn, rn, rfl, rfl, E1, E2, hq3, hr3⟩ := hrel
      by_cases t1 : 4294967296 ≤ qn
      · have t1' : (4294967296 : Int) ≤ qn := by omega
        have hm : Q1 < qn := by rw [HQ1.out]; exact HH1.out.more E1.out (.inl t1)
        have HM := Lib.hid hm
        have E1' : Hid ((qn - 1) * yn1 + (rn + yn1) = U) := by have := E1.out; rw [Nat.sub_mul]; show _ = _; have : 1 * yn1 ≤ qn * yn1 := Nat.mul_le_mul_right _ (by omega); omega
        have E2' : Hid (Q1 ≤ qn - 1) := by show _ ≤ _; omega
        clear hm
        by_cases t2 : 4294967296 ≤ rn + yn1
        · have t2' : (4294967296 : Int) ≤ rn + yn1 := by omega
          have hfin : qn - 1 = Q1 := by rw [HQ1.out]; exact HH1.out.brk E1'.out (by rw [← HQ1.out]; exact E2'.out) t2 (by omega)
          have HFIN := Lib.hid hfin
          clear hfin
          go_wp2
          go_meet
          exact ⟨val_eq (by have := HFIN.out; omega), rfl⟩
        · have t2' : decide ((4294967296 : Int) ≤ (rn : Int) + (yn1 : Int)) = false := decide_eq_false (by omega)
          have HT2 := Lib.hid t2
          clear t2
          go_wp2
          go_round
          case rel => exact ⟨qn - 1, rn + yn1, val_eq (by omega), by go_num, E1', E2', by omega, by have := HT2.out; omega⟩
          case measure => simp [intOf]; omega
      · have t1' : decide ((4294967296 : Int) ≤ (qn : Int)) = false := decide_eq_false (by omega)
        have HQ3 := Lib.hid hq3; have HR3 := Lib.hid hr3; have HT1 := Lib.hid t1
        have hb1 : qn * yn0 ≤ 4294967295 * 4294967295 := Nat.mul_le_mul (by omega) (by have := HH1.out.h0; omega)
        have hb2 : (qn : Int) * yn0 ≤ 18446744065119617025 := by rw [← Int.natCast_mul]; omega
        have hb3 : (0 : Int) ≤ (qn : Int) * yn0 := by rw [← Int.natCast_mul]; omega
        have hd1 := HH1.out.hd
        by_cases t3 : 4294967296 * rn + un1 < qn * yn0
        · have t3' : (4294967296 : Int) * rn + un1 < (qn : Int) * yn0 := by rw [← Int.natCast_mul]; omega
          have hm : Q1 < qn := by rw [HQ1.out]; exact HH1.out.more E1.out (.inr t3)
          have hq0 : 1 ≤ qn := by omega
          have E1' : Hid ((qn - 1) * yn1 + (rn + yn1) = U) := by have := E1.out; rw [Nat.sub_mul]; show _ = _; have : 1 * yn1 ≤ qn * yn1 := Nat.mul_le_mul_right _ (by omega); omega
          have E2' : Hid (Q1 ≤ qn - 1) := by show _ ≤ _; omega
          clear hm hb1 t3
          by_cases t2 : 4294967296 ≤ rn + yn1
          · have t2' : (4294967296 : Int) ≤ rn + yn1 := by omega
            have hfin : qn - 1 = Q1 := by rw [HQ1.out]; exact HH1.out.brk E1'.out (by rw [← HQ1.out]; exact E2'.out) t2 (by omega)
            have HFIN := Lib.hid hfin
            clear hfin
            go_wp2
            go_meet
            exact ⟨val_eq (by have := HFIN.out; omega), rfl⟩
          · have t2' : decide ((4294967296 : Int) ≤ (rn : Int) + (yn1 : Int)) = false := decide_eq_false (by omega)
            have HT2 := Lib.hid t2
            clear t2
            go_wp2
            go_round
            case rel => exact ⟨qn - 1, rn + yn1, val_eq (by omega), by go_num, E1', E2', by omega, by have := HT2.out; omega⟩
            case measure => simp [intOf]; omega
        · have t3' : (qn : Int) * yn0 ≤ (4294967296 : Int) * rn + un1 := by rw [← Int.natCast_mul]; omega
          have hfin : qn = Q1 := by rw [HQ1.out]; exact HH1.out.stop E1.out (by rw [← HQ1.out]; exact E2.out) (by omega)
          have HFIN := Lib.hid hfin
          clear hfin hb1 t3
          go_wp2
          go_meet
          exact ⟨val_eq (by have := HFIN.out; omega), rfl⟩
  case rest =>
    obtain ⟨rfl, hwc⟩ := hcut; obtain rfl : w = _ := hwc.symm
    obtain ⟨q1, r1, b1, b2, a1, a2, C3, C4⟩ := half_start hH2 (by omega)
    obtain ⟨Q2, R2, hQ2, hQ2b, hR2, hR2b, hR2w⟩ := half_rest hH2 hYb (by omega)
    have C1 := Lib.hid a1; have HH2 := Lib.hid hH2
    have HQ2 := Lib.hid hQ2; have HR2 := Lib.hid hR2
    rw [← hQ2] at a2
    have C2 := Lib.hid a2
    clear a1 a2 hH2 hQ2 hR2
    go_upto_block 2 with fail
    clear b1 b2 hR1w
    go_cut [18] (fun v wx => v = .int .u64 (Q2 : Nat) ∧ wx = w)
    case first =>
      go_wp2_with fail
      go_loop [18, 16] (fun q r => ∃ qn rn : Nat, q = .int .u64 qn ∧ r = .int .u64 rn ∧ Hid (qn * yn1 + rn = R1) ∧ Hid (Q2 ≤ qn) ∧ qn ≤ 4294967297 ∧ rn < 4294967296) (fun q _ => (intOf q).toNat)
      case atStart => exact ⟨q1, r1, rfl, rfl, C1.out, C2.out, C3, C4⟩
      case round =>
        obtain ⟨qn, rn, rfl, rfl, E1, E2, hq3, hr3⟩ := hrel
        by_cases t1 : 4294967296 ≤ qn
        · have t1' : (4294967296 : Int) ≤ qn := by omega
          have hm : Q2 < qn := by rw [HQ2.out]; exact HH2.out.more E1.out (.inl t1)
          have HM := Lib.hid hm
          have E1' : Hid ((qn - 1) * yn1 + (rn + yn1) = R1) := by have := E1.out; rw [Nat.sub_mul]; show _ = _; have : 1 * yn1 ≤ qn * yn1 := Nat.mul_le_mul_right _ (by omega); omega
          have E2' : Hid (Q2 ≤ qn - 1) := by show _ ≤ _; omega
          clear hm
          by_cases t2 : 4294967296 ≤ rn + yn1
          · have t2' : (4294967296 : Int) ≤ rn + yn1 := by omega
            have hfin : qn - 1 = Q2 := by rw [HQ2.out]; exact HH2.out.brk E1'.out (by rw [← HQ2.out]; exact E2'.out) t2 (by omega)
            have HFIN := Lib.hid hfin
            clear hfin
            go_wp2
            go_meet
            exact ⟨val_eq (by have := HFIN.out; omega), rfl⟩
          · have t2' : decide ((4294967296 : Int) ≤ (rn : Int) + (yn1 : Int)) = false := decide_eq_false (by omega)
            have HT2 := Lib.hid t2
            clear t2
            go_wp2
            go_round
            case rel => exact ⟨qn - 1, rn + yn1, val_eq (by omega), by go_num, E1', E2', by omega, by have := HT2.out; omega⟩
            case measure => simp [intOf]; omega
        · have t1' : decide ((4294967296 : Int) ≤ (qn : Int)) = false := decide_eq_false (by omega)
          have HQ3 := Lib.hid hq3; have HR3 := Lib.hid hr3; have HT1 := Lib.hid t1
          have hb1 : qn * yn0 ≤ 4294967295 * 4294967295 := Nat.mul_le_mul (by omega) (by have := HH2.out.h0; omega)
          have hb2 : (qn : Int) * yn0 ≤ 18446744065119617025 := by rw [← Int.natCast_mul]; omega
          have hb3 : (0 : Int) ≤ (qn : Int) * yn0 := by rw [← Int.natCast_mul]; omega
          have hd1 := HH2.out.hd
          by_cases t3 : 4294967296 * rn + un0 < qn * yn0
          · have t3' : (4294967296 : Int) * rn + un0 < (qn : Int) * yn0 := by rw [← Int.natCast_mul]; omega
            have hm : Q2 < qn := by rw [HQ2.out]; exact HH2.out.more E1.out (.inr t3)
            have hq0 : 1 ≤ qn := by omega
            have E1' : Hid ((qn - 1) * yn1 + (rn + yn1) = R1) := by have := E1.out; rw [Nat.sub_mul]; show _ = _; have : 1 * yn1 ≤ qn * yn1 := Nat.mul_le_mul_right _ (by omega); omega
            have E2' : Hid (Q2 ≤ qn - 1) := by show _ ≤ _; omega
            clear hm hb1 t3
            by_cases t2 : 4294967296 ≤ rn + yn1
            · have t2' : (4294967296 : Int) ≤ rn + yn1 := by omega
              have hfin : qn - 1 = Q2 := by rw [HQ2.out]; exact HH2.out.brk E1'.out (by rw [← HQ2.out]; exact E2'.out) t2 (by omega)
              have HFIN := Lib.hid hfin
              clear hfin
              go_wp2
              go_meet
              exact ⟨val_eq (by have := HFIN.out; omega), rfl⟩
            · have t2' : decide ((4294967296 : Int) ≤ (rn : Int) + (yn1 : Int)) = false := decide_eq_false (by omega)
              have HT2 := Lib.hid t2
              clear t2
              go_wp2
              go_round
              case rel => exact ⟨qn - 1, rn + yn1, val_eq (by omega), by go_num, E1', E2', by omega, by have := HT2.out; omega⟩
              case measure => simp [intOf]; omega
          · have t3' : (qn : Int) * yn0 ≤ (4294967296 : Int) * rn + un0 := by rw [← Int.natCast_mul]; omega
            have hfin : qn = Q2 := by rw [HQ2.out]; exact HH2.out.stop E1.out (by rw [← HQ2.out]; exact E2.out) (by omega)
            have HFIN := Lib.hid hfin
            clear hfin hb1 t3
            go_wp2
            go_meet
            exact ⟨val_eq (by have := HFIN.out; omega), rfl⟩
    case rest =>
      obtain ⟨rfl, hwc⟩ := hcut; obtain rfl : w = _ := hwc.symm
      have hfin := div_end w HYy.out HN.out HR1.out HR2.out hQ1b hQ2b hR2b
      have HFIN := Lib.hid hfin
      clear hfin
      go_wp2
      go_ret2
      exact HFIN.out

/-- math/bits.Div64, where it doesn't panic. -/
theorem div64_c (hi lo y : Nat) (w : World) (hy : hi < y) (hyB : y < Bw) (hlo : lo < Bw) :
    Calls Tryz.prog 147 #[.int .u64 hi, .int .u64 lo, .int .u64 y] w (DivPost hi lo y w) := by
  by_cases h : hi = 0
  · subst h; exact div64_zero lo y w hy hyB hlo
  · exact div64_pos hi lo y w (by omega) hy hyB hlo

end Go.Proofs.YtoahgeleenpnjaaGreatDoor.Zd
namespace Go.Proofs.YtoahgeleenpnjaaGreatDoor.Zd
open Go.RowKit Mx

theorem lt_upd {f : Nat → Nat} {M k s B : Nat} (h : ∀ j, j < M → f j < B) (hs : s < B) : ∀ j, j < M → upd f k s j < B := by
  intro j hj; unfold upd; split <;> first | exact hs | exact h j hj

theorem mul_top {q x : Nat} (hq : q < Bw) (hx : x < Bw) : q * x ≤ 340282366920938463426481119284349108225 := by
  have : q * x ≤ 18446744073709551615 * 18446744073709551615 := Nat.mul_le_mul (by unfold Bw at hq; omega) (by unfold Bw at hx; omega)
  omega

def TrimPost (p : Option Addr) (n cap : Nat) (f : Nat → Nat) (w : World) (e : Ending) (w' : World) : Prop :=
  ∃ m p' cap', e = .returned (.slice p' m cap') ∧ m ≤ n ∧ m ≤ cap' ∧ cap' ≤ cap ∧ (m = 0 ∨ f (m - 1) ≠ 0) ∧ (∀ j, m ≤ j → j < n → f j = 0) ∧ (m = 0 → p' = none) ∧ (0 < m → p' = p) ∧ w = w'

set_option maxHeartbeats 400000 in
theorem trim_c (p : Option Addr) (n cap : Nat) (f : Nat → Nat) (w : World) (hn : n ≤ cap) (hc : cap ≤ maxLen) (h : At .u64 w p n f) :
    Calls Tryz.prog 131 #[.slice p n cap] w (TrimPost p n cap f w) := by
  unfold maxLen at hc
  go_enter Tryz.func131, Tryz.ntmps131
  go_wp2
  go_loop [3] (fun i => ∃ m : Nat, m ≤ n ∧ i = .int .i64 m ∧ Hid (∀ j, m ≤ j → j < n → f j = 0)) (fun i => (intOf i).toNat)
  case atStart => exact ⟨n, Nat.le_refl _, rfl, fun j h1 h2 => by omega⟩
  case round =>
    obtain ⟨m, hm, rfl, HZ⟩ := hrel
    by_cases h0 : 0 < m
    · rcases h with h | ⟨g, off, rfl, hg, hcell⟩
      · omega
      have hk := hcell (m - 1) (by omega)
      clear hcell
      have hi : (0:Int) < (m : Int) := by omega
      by_cases hv : f (m - 1) = 0
      · rw [hv] at hk
        have HV := Lib.hid hv
        clear hv
        go_wp2
        go_round
        case rel => exact ⟨m - 1, by omega, val_of (by omega), fun j h1 h2 => by
          by_cases e : j = m - 1
          · subst e; exact HV.out
          · exact HZ.out j (by omega) h2⟩
        case measure => simp [intOf]; omega
      · have hfin : TrimPost (some ⟨g, off, none⟩) n cap f w (.returned (.slice (some ⟨g, off, none⟩) m cap)) w := ⟨m, _, cap, rfl, hm, by omega, by omega, .inr hv, HZ.out, fun e => by omega, fun _ => rfl, rfl⟩
        have HFIN := Lib.hid hfin
        have hv1 : ((f (m - 1) : Int) == 0) = false := beq_eq_false_iff_ne.2 (by omega)
        have hv2 : ((m : Int) == 0) = false := beq_eq_false_iff_ne.2 (by omega)
        clear hfin
        go_wp2
        go_ret
        exact HFIN.out
    · obtain rfl : m = 0 := by omega
      have hfin : TrimPost p n cap f w (.returned (.slice none 0 0)) w := ⟨0, none, 0, rfl, by omega, by omega, by omega, .inl rfl, HZ.out, fun _ => rfl, fun e => by omega, rfl⟩
      have HFIN := Lib.hid hfin
      clear hfin
      go_wp2
      go_ret
      exact HFIN.out

theorem info64 : (Tryz.prog.info? 183).map (fun i => (i.zero, i.size, i.bytes)) = some (some (.int .u64 0), 1, 8) := by kernel_rfl

theorem Blk_made (w : World) (n : Nat) (T : TypeId) : Blk .u64 (w.alloc (.cells (madeCells #[.int .u64 0] n) T)) w.heap.size n (fun _ => 0) := by
  refine ⟨_, T, heap_alloc_new w _, size_madeCells _ _, fun j hj => ?_⟩
  rw [← Array.getElem?_toList, toList_madeCells_one]
  simp [hj]

theorem make64_run (n : Nat) (hn : n ≤ 1099511627776) (w : World) : (Instr.makeSlice 56 (.int .i64 (n : Int)) (.int .i64 (n : Int))).run Tryz.prog w = .ok (.slice (some ⟨w.heap.size, 0, none⟩) n n) (w.alloc (.cells (madeCells #[.int .u64 0] n) 183)) :=
  run_make_row' 56 183 (.int .u64 0) 8 Tryz.underlying56 info64 rfl .i64 .i64 n (by omega) (by omega) w

def ShortPost (g off n M d : Nat) (f : Nat → Nat) (w : World) (e : Ending) (w' : World) : Prop :=
  ∃ (r : Nat) (f' : Nat → Nat), e = .returned (.int .u64 r) ∧ r < d ∧ Blk .u64 w' g M f' ∧ (∀ j, j < M → f' j < Bw) ∧ (∀ j, (j < off ∨ off + n ≤ j) → f' j = f j) ∧ V Bw f' off n * d + r = V Bw f off n ∧ w.grownBy w' (some g)

theorem short_alg {A F d B q r r2 x : Nat} (HV : A * d + r = F) (hq : q * d + r2 = r * B + x) : (q + B * A) * d + r2 = x + B * F := by
  rw [← HV]
  have e : (q + B * A) * d + r2 = (q * d + r2) + B * (A * d) := by grind
  rw [e, hq]; grind

theorem short_step {f fk : Nat → Nat} {off n k d q r r2 : Nat} (hk : k < n) (HO : ∀ j, (j < off + (k + 1) ∨ off + n ≤ j) → fk j = f j) (HV : V Bw fk (off + (k + 1)) (n - (k + 1)) * d + r = V Bw f (off + (k + 1)) (n - (k + 1)))
    (hq : q * d + r2 = r * Bw + fk (off + k)) :
    (∀ j, (j < off + k ∨ off + n ≤ j) → upd fk (off + k) q j = f j) ∧ V Bw (upd fk (off + k) q) (off + k) (n - k) * d + r2 = V Bw f (off + k) (n - k) := by
  refine ⟨fun j hj => ?_, ?_⟩
  · rw [upd_ne (by omega)]; exact HO j (by omega)
  · obtain ⟨m, rfl⟩ : ∃ m, n = k + 1 + m := ⟨n - (k + 1), by omega⟩
    have e1 : k + 1 + m - k = m + 1 := by omega
    have e2 : k + 1 + m - (k + 1) = m := by omega
    rw [e2] at HV
    rw [e1, V_front, V_front, upd_at, V_upd_out (by omega), Nat.add_assoc off k 1, ← HO (off + k) (by omega)]
    exact short_alg HV hq

theorem heap_cell {w w' : World} (h : w'.heap = w.heap) (a : Addr) : w'.cell? a = w.cell? a := by simp [World.cell?, h]
theorem heap_frozen {w w' : World} (h : w'.heap = w.heap) (a : Addr) : w'.frozen? a = w.frozen? a := by simp [World.frozen?, h]
theorem heap_blk {k : IntKind} {w w' : World} {g M : Nat} {f : Nat → Nat} (h : w'.heap = w.heap) (hb : Blk k w g M f) : Blk k w' g M f := by
  unfold Blk; rw [h]; exact hb

set_option maxHeartbeats 400000 in
theorem divideInPlace_c (g off n cap M d : Nat) (f : Nat → Nat) (w : World) (hB : Blk .u64 w g M f) (hl : off + n ≤ M) (hM : M ≤ 1099511627776) (hf : ∀ j, j < M → f j < Bw) (hd : 0 < d) (hdB : d < Bw) :
    Calls Tryz.prog 130 #[.slice (some ⟨g, off, none⟩) n cap, .int .u64 d] w (ShortPost g off n M d f w) := by
  go_enter Tryz.func130, Tryz.ntmps130
  go_wp2
  go_loopw [5, 6] (fun r i wr => ∃ (k rn : Nat) (fk : Nat → Nat), k ≤ n ∧ i = .int .i64 ((k : Int) - 1) ∧ r = .int .u64 rn ∧ rn < d ∧ Hid (Blk .u64 wr g M fk) ∧ Hid (∀ j, j < M → fk j < Bw) ∧ Hid (∀ j, (j < off + k ∨ off + n ≤ j) → fk j = f j) ∧
      Hid (V Bw fk (off + k) (n - k) * d + rn = V Bw f (off + k) (n - k)) ∧ Hid (w.grownBy wr (some g)))
    (fun _ i _ => (intOf i + 1).toNat)
  case atStart => exact ⟨n, 0, f, by omega, rfl, rfl, hd, hB, hf, fun _ _ => rfl, by simp [Hid, V], gb_refl _ _⟩
  case round =>
    obtain ⟨k1, rn, fk, hk1, rfl, rfl, hr, HB, HF, HO, HV, HG⟩ := hrel
    by_cases h0 : 0 < k1
    · obtain ⟨k, rfl⟩ : ∃ k, k1 = k + 1 := ⟨k1 - 1, by omega⟩
      have hc1 := HB.out.cell (j := off + k) (by omega)
      have hf1 := HB.out.free (off + k)
      have hx := HF.out (off + k) (by omega)
      have HST := Lib.hid (fun q r2 h => short_step (q := q) (r2 := r2) (show k < n by omega) HO.out HV.out h)
      have HDV := Lib.hid (fun w => div64_c rn (fk (off + k)) d w hr hdB hx)
      have hfd := HF.out
      have HFD := Lib.hid hfd
      have hkk : ((k + 1 : Nat) : Int) - 1 = (k : Int) := by omega
      rw [hkk]
      clear hf hB hfd hx hkk
      go_wp2_with (go_at_call 147; refine (HDV.out _).mono ?_; rintro e w1 ⟨q, r2, rfl, hq, hr2, hdv, m, hw1⟩; (have hh1 : w1.heap = wr.heap := by rw [hw1]; rfl); (have hg1 : wr.grownBy w1 none := by rw [hw1]; exact gb_drewN (gb_refl _ _) _); clear hw1; have HQ := Lib.hid hq; have HDD := Lib.hid hdv; have HH := Lib.hid hh1; have HG1 := Lib.hid hg1; have hf2 := (heap_frozen hh1 _).trans hf1; have hc2 := (heap_cell hh1 _).trans hc1; clear hq hdv hh1 hg1 hf1 hc1)
      go_roundw
      case rel => exact ⟨k, r2, _, by omega, rfl, rfl, hr2, (heap_blk HH.out HB.out).set q, lt_upd HF.out HQ.out, (HST.out q r2 HDD.out).1, (HST.out q r2 HDD.out).2, gb_set (gb_trans HG.out (below_gb (gb_below HG1.out))) _⟩
      case measure => simp [intOf]
    · obtain rfl : k1 = 0 := by omega
      have hfin : ShortPost g off n M d f w (.returned (.int .u64 rn)) wr := ⟨rn, fk, rfl, hr, HB.out, HF.out, HO.out, HV.out, HG.out⟩
      have HFIN := Lib.hid hfin
      clear hfin hf hB
      go_wp2
      go_ret
      exact HFIN.out
end Go.Proofs.YtoahgeleenpnjaaGreatDoor.Zd
namespace Go.Proofs.YtoahgeleenpnjaaGreatDoor.Zd
open Go.RowKit Mx

/-- The slice v reads as the number N. -/
def Num (w : World) (v : Value) (N : Nat) : Prop :=
  ∃ p n cap f, v = .slice p n cap ∧ n ≤ cap ∧ cap ≤ maxLen ∧ At .u64 w p n f ∧ (∀ j, j < n → f j < Bw) ∧ (n = 0 ∨ f (n - 1) ≠ 0) ∧ V Bw f 0 n = N

theorem Num.kept {w w' : World} {v : Value} {N : Nat} (h : Num w v N) (hg : w.grownBy w' none) : Num w' v N := by
  obtain ⟨p, n, cap, f, rfl, h1, h2, h3, r⟩ := h
  exact ⟨p, n, cap, f, rfl, h1, h2, h3.grown hg (by simp), r⟩

/-- No number here is as long as this. -/
def LimN : Nat := 100000
def Lim : Nat := Bw ^ LimN
theorem lim_len {n : Nat} {f : Nat → Nat} (t : n = 0 ∨ f (n - 1) ≠ 0) (h : V Bw f 0 n < Lim) : n ≤ LimN := by
  rcases V_top (b := Bw) (f := f) (o := 0) (n := n) (by simpa using t) with e | e
  · omega
  · by_cases hn : n ≤ LimN
    · exact hn
    · have : Bw ^ LimN ≤ Bw ^ (n - 1) := Nat.pow_le_pow_right Bw_pos (by omega)
      unfold Lim at h
      omega

theorem addr_add (g o j : Nat) : (⟨g, o, none⟩ : Addr).add j = ⟨g, o + j, none⟩ := by unfold Addr.add; split <;> simp_all

/-- What is handed over by copy into a block of one's own. -/
theorem copy_run (w : World) (g M : Nat) (fz f : Nat → Nat) (p : Option Addr) (n cap : Nat) (hB : Blk .u64 w g M fz) (h : At .u64 w p n f) (hn : n ≤ M) :
    ∃ w', (Builtin.copy_ #[56, 56] 3 #[.slice (some ⟨g, 0, none⟩) M M, .slice p n cap]).run Tryz.prog w = .ok (.int .i64 n) w' ∧ Blk .u64 w' g M (fun j => if j < n then f j else fz j) ∧ w.grownBy w' (some g) := by
  by_cases h0 : n = 0
  · subst h0
    refine ⟨w, ?_, by simpa using hB, gb_refl _ _⟩
    exact run_copy_none w 56 56 3 183 _ _ _ _ _ _ Tryz.underlying56 (by kernel_rfl) (by simp)
  · rcases h with h | ⟨gb, ob, rfl, hg, hc⟩
    · omega
    obtain ⟨cur, T, hgg, hs, hcur⟩ := hB
    obtain ⟨L, hl, hL⟩ : ∃ L : List Value, L.length = n ∧ ∀ j, j < n → L[j]? = some (.int .u64 (f j)) := ⟨(List.range n).map fun j => Value.int .u64 (f j), by simp, fun j hj => by simp [hj]⟩
    have hmem : ∀ v ∈ L, v.oneCell' = true := by
      intro v hv
      obtain ⟨j, hj, rfl⟩ := List.getElem_of_mem hv
      have := hL j (by omega)
      rw [List.getElem?_eq_getElem hj] at this
      injection this with this
      rw [this]; rfl
    have hr := run_copy_row (P := Tryz.prog) w 56 56 3 183 g 0 M M ⟨gb, ob, none⟩ n cap cur T L Tryz.underlying56 (by kernel_rfl) hgg
      (by rw [hl]; exact (Nat.min_eq_left hn).symm) (fun j v hj => by
        have hjn : j < n := by rw [← hl]; exact (List.getElem?_eq_some_iff.1 hj).1
        rw [hL j hjn] at hj
        injection hj with hj
        rw [addr_add, ← hj]; exact hc j hjn) (by omega) hmem
    refine ⟨w.setRow g (cur.toList.take 0 ++ L ++ cur.toList.drop (0 + L.length)).toArray, ?_, ?_, ?_⟩
    · rw [hr, hl]; rfl
    · refine ⟨_, T, setRow_heap w g _ _ T _ hgg, by simp; omega, fun j hj => ?_⟩
      rw [List.getElem?_toArray, List.take_zero, List.nil_append, Nat.zero_add, hl, List.getElem?_append, hl]
      by_cases hjn : j < n
      · rw [if_pos hjn]; simp only [hjn, if_true]; exact hL j hjn
      · rw [if_neg hjn, List.getElem?_drop, Array.getElem?_toList, show n + (j - n) = j from by omega]
        simp only [hjn, if_false]
        exact hcur j hj
    · exact ⟨rfl, rfl, rfl, by simp [World.setRow], fun k _ hr => setRow_other w g k _ (by intro e; apply hr; rw [e])⟩

/-- copy as a step of the walk. -/
theorem wpList_copy64 {w : World} {ops : Array Oper} {rest : List Oper} {o : Oper} {a : Act} {Q : Exit → Act → World → Prop} (hgd : o.guard = none) (d s : Operand)
    (ho : o.op = .call { callee := .builtin .copy, args := #[d, s], argTypes := #[56, 56] }) (hty : o.type = 3)
    (g M n cap : Nat) (p : Option Addr) (fz f : Nat → Nat) (hd : a.eval d = .slice (some ⟨g, 0, none⟩) M M) (hs : a.eval s = .slice p n cap) (hB : Blk .u64 w g M fz) (h : At .u64 w p n f) (hn : n ≤ M)
    (K : ∀ w', Hid (Blk .u64 w' g M (fun j => if j < n then f j else fz j)) → Hid (w.grownBy w' (some g)) → wpList Tryz.prog ops Q rest (a.put o.dst (.int .i64 n)) w') :
    wpList Tryz.prog ops Q (o :: rest) a w := by
  refine wpList_plain hgd fun K' hK => ?_
  obtain ⟨w', hrun, h1, h2⟩ := copy_run w g M fz f p n cap hB h hn
  unfold Oper.wp
  simp [execOp, ho, resolve, invoke, builtin, hd, hs, hty, hrun, Result.andThen]
  exact hK _ _ (K w' h1 h2)
end Go.Proofs.YtoahgeleenpnjaaGreatDoor.Zd
namespace Go.Proofs.YtoahgeleenpnjaaGreatDoor.Zd
open Go.RowKit Mx

def lst (k : IntKind) (n : Nat) (f : Nat → Nat) : List Value := (List.range n).map fun j => Value.int k (f j)
theorem lst_len {k : IntKind} {n : Nat} {f : Nat → Nat} : (lst k n f).length = n := by simp [lst]
theorem lst_get {k : IntKind} {n : Nat} {f : Nat → Nat} {j : Nat} (h : j < n) : (lst k n f)[j]? = some (.int k (f j)) := by simp [lst, h]
theorem lst_succ {k : IntKind} {n : Nat} {f : Nat → Nat} {y : Nat} : lst k (n + 1) (upd f n y) = lst k n f ++ [.int k y] := by
  unfold lst
  rw [List.range_succ, List.map_append]
  congr 1
  · apply List.map_congr_left
    intro j hj
    rw [upd_ne (by simp at hj; omega)]
  · simp [upd]
theorem lst_take {k : IntKind} {n m : Nat} {f : Nat → Nat} (h : m ≤ n) : (lst k n f).take m = lst k m f := by
  unfold lst
  rw [← List.map_take, List.take_range, Nat.min_eq_left h]

/-- The slice v, of the call's own blocks from base on, holds the n numbers f 0 .. -/
def Own (k : IntKind) (e : TypeId) (w : World) (base : Nat) (v : Value) (n : Nat) (f : Nat → Nat) : Prop := w.ownsRow base e 1 v n (lst k n f)

section
variable {k : IntKind} {e : TypeId} {w w' : World} {base : Nat} {v : Value} {n : Nat} {f : Nat → Nat}
theorem Own.shape (h : Own k e w base v n f) : (v = .slice none 0 0 ∧ n = 0) ∨ ∃ g cap, v = .slice (some ⟨g, 0, none⟩) n cap ∧ base ≤ g ∧ g < w.heap.size ∧ n ≤ cap ∧ cap ≤ maxLen := by
  rcases h.2 with h2 | ⟨g, cap, cur, hv, hb, hg, hn, hc, _⟩
  · exact .inl h2
  · exact .inr ⟨g, cap, hv, hb, (Array.getElem?_eq_some_iff.1 hg).1, hn, hc⟩
theorem Own.at {p : Option Addr} {m cap : Nat} (h : Own k e w base (.slice p m cap) n f) : m = n ∧ At k w p n f := by
  rcases h.2 with ⟨hv, hn⟩ | ⟨g, cap', cur, hv, hb, hg, hn, hc, hs, htake⟩
  · injection hv with h1 h2; subst h1; subst h2; exact ⟨hn.symm, .inl hn⟩
  · injection hv with h1 h2 h3; subst h1; subst h2; subst h3
    refine ⟨rfl, .inr ⟨g, 0, rfl, (Array.getElem?_eq_some_iff.1 hg).1, fun j hj => ?_⟩⟩
    have := World.ownsRow.cells (w := w) (base := base) (e := e) (size := 1) (v := .slice (some ⟨g, 0, none⟩) m cap) (n := m) (xs := lst k m f) ⟨by simp [lst], .inr ⟨g, cap, cur, rfl, hb, hg, hn, hc, hs, htake⟩⟩ (g := g) rfl j (.int k (f j)) (lst_get hj)
    rwa [addr_add] at this
theorem Own.kept {row : Option Nat} (h : Own k e w base v n f) (hg : w.grownBy w' row) (hne : v.ownBlock = none ∨ v.ownBlock ≠ row) : Own k e w' base v n f := World.ownsRow.kept h hg hne
theorem Own.cut {g cap m : Nat} (h : Own k e w base (.slice (some ⟨g, 0, none⟩) n cap) n f) (hm : m ≤ n) : Own k e w base (.slice (some ⟨g, 0, none⟩) m cap) m f := by
  rcases h.2 with ⟨hv, _⟩ | ⟨g', cap', cur, hv, hb, hg, hn, hc, hs, htake⟩
  · cases hv
  · injection hv with h1 h2 h3
    injection h1 with h1
    injection h1 with h1
    subst h1; subst h3
    refine ⟨by simp [lst], .inr ⟨g, cap, cur, rfl, hb, hg, by omega, hc, hs, ?_⟩⟩
    rw [Nat.mul_one] at htake ⊢
    rw [← lst_take hm, ← htake, List.take_take, Nat.min_eq_left hm]
theorem Own.far (h : Own k e w base v n f) : ∀ g, v.ownBlock = some g → base ≤ g := by
  intro g hg
  rcases h.shape with ⟨rfl, _⟩ | ⟨g', cap, rfl, hb, _⟩
  · cases hg
  · simp [Value.ownBlock] at hg; omega
theorem Own.mono {base' : Nat} (h : Own k e w base v n f) (hb : base' ≤ base) : Own k e w base' v n f := by
  refine ⟨h.1, ?_⟩
  rcases h.2 with h2 | ⟨g, cap, cur, hv, hg, r⟩
  · exact .inl h2
  · exact .inr ⟨g, cap, cur, hv, by omega, r⟩
theorem gb_own {a : World} (h : a.grownBy w none) (ho : Own k e w base v n f) (hb : a.heap.size ≤ base) (hg : w.grownBy w' v.ownBlock) : a.grownBy w' none := by
  have hf := ho.far
  exact ⟨hg.os.trans h.os, hg.tape.trans h.tape, hg.output.trans h.output, Nat.le_trans h.size hg.size, fun i hi _ => (hg.block i (Nat.lt_of_lt_of_le hi h.size) (fun e => by have := hf i e.symm; omega)).trans (h.block i hi (by simp))⟩
theorem Own.nil : Own k e w base (.slice none 0 0) 0 f := World.ownsRow_nil w base e 1
theorem Own.congr {f2 : Nat → Nat} (h : Own k e w base v n f) (hf : ∀ j, j < n → f j = f2 j) : Own k e w base v n f2 := by
  have : lst k n f2 = lst k n f := by
    unfold lst
    apply List.map_congr_left
    intro j hj
    rw [hf j (by simpa using hj)]
  unfold Own
  rw [this]; exact h
theorem Own.set {g cap j x : Nat} (h : Own k e w base (.slice (some ⟨g, 0, none⟩) n cap) n f) (hj : j < n) : Own k e (w.setCell ⟨g, j, none⟩ (.int k x)) base (.slice (some ⟨g, 0, none⟩) n cap) n (upd f j x) := by
  have h2 := (World.ownsRow.stored h j (.int k x)).1
  have e : (lst k n f).set j (.int k x) = lst k n (upd f j x) := by
    apply List.ext_getElem?
    intro i
    rw [List.getElem?_set, lst_len]
    by_cases hi : i < n
    · rw [lst_get hi]
      by_cases hij : j = i
      · subst hij; rw [lst_get hi, upd_at]; simp [hi]
      · rw [if_neg hij, lst_get hi, upd_ne (by omega)]
    · rw [if_neg (by omega), List.getElem?_eq_none (by rw [lst_len]; omega), List.getElem?_eq_none (by rw [lst_len]; omega)]
  rw [e] at h2
  exact h2
theorem Own.cell {g cap j : Nat} (h : Own k e w base (.slice (some ⟨g, 0, none⟩) n cap) n f) (hj : j < n) : w.cell? ⟨g, j, none⟩ = some (.int k (f j)) := by
  rw [World.ownsRow.cellAt h j (by omega)]; exact lst_get hj
theorem Own.free {g cap j : Nat} (h : Own k e w base (.slice (some ⟨g, 0, none⟩) n cap) n f) : w.frozen? ⟨g, j, none⟩ = false := World.ownsRow.frozenAt h j
end

/-- append of one number, as a step of the walk. -/
theorem wpList_app1 {k : IntKind} {t e : TypeId} {bytes : Nat} (ht : Tryz.prog.underlying t = some (.slice e)) (hinfo : (Tryz.prog.info? e).map (fun i => (i.zero, i.size, i.bytes)) = some (some (.int k 0), 1, bytes)) (hby : bytes ≤ 8)
    {w0 : World} {ops : Array Oper} {rest : List Oper} {o : Oper} {a : Act} {Q : Exit → Act → World → Prop} (hgd : o.guard = none) (s x : Operand) (ho : o.op = .call { callee := .builtin .append, args := #[s, x], argTypes := #[t, t] })
    (base : Nat) (v : Value) (n : Nat) (f : Nat → Nat) (Y : Int) (y : Nat) (hY : Y = (y : Int)) (hs : a.eval s = v) (hown : Own k e w0 base v n f) (hx : a.eval x = .slice (some ⟨w0.heap.size, 0, none⟩) 1 1) (hn : n ≤ 1000000000) (hbase : base ≤ w0.heap.size)
    (K : ∀ v' w', Own k e w' base v' (n + 1) (upd f n y) → w0.grownBy w' v.ownBlock → wpList Tryz.prog ops Q rest (a.put o.dst v') w') :
    wpList Tryz.prog ops Q (o :: rest) a (w0.alloc (.cells #[.int k Y] e)) := by
  subst hY
  obtain ⟨i0, hi, hz0, hz1, hz2⟩ := info_parts hinfo
  refine wpList_append_own (P := Tryz.prog) _ hgd s x t ho base e i0 (.int k 0) 1 bytes ht hi hz0 hz1 hz2 rfl (by decide) v n (lst k n f) hs (hown.alloc _) ⟨w0.heap.size, 0, none⟩ 1 1 [.int k y] hx rfl ?_ ?_ (by unfold maxLen; omega) ?_ (by simp; omega) ?_
  · intro j u hj
    match j, hj with
    | 0, hj => simp at hj; subst hj; simp [Addr.add]
  · intro u hu; simp at hu; subst hu; rfl
  · have : (n + 1) * bytes ≤ (n + 1) * 8 := Nat.mul_le_mul_left _ hby
    omega
  · intro v' w' h1 h2 _
    refine K v' w' ?_ ⟨h2.os, h2.tape, h2.output, Nat.le_trans (by simp) h2.size, fun j hj hr => (h2.block j (by simp; omega) hr).trans (Below.heap_alloc w0 _ j hj)⟩
    unfold Own
    rw [lst_succ]; exact h1
theorem own_below {w w1 w2 : World} (h : Below w.heap.size w w1) {o : Obj} (hg : (w1.alloc o).grownBy w2 (some w1.heap.size)) : w.grownBy w2 none :=
  below_gb (gb_new (h.alloc h.size o) h.size hg)

theorem lt_cut {f : Nat → Nat} {n M : Nat} (h : ∀ j, j < n → f j < Bw) : ∀ j, j < M → (fun j => if j < n then f j else 0) j < Bw := by
  intro j _
  show (if j < n then f j else 0) < Bw
  split
  · exact h j ‹_›
  · exact Bw_pos

theorem num_pos {n : Nat} {f : Nat → Nat} (hB : V Bw f 0 n ≠ 0) : 0 < n := by
  rcases Nat.eq_zero_or_pos n with h | h
  · subst h; exact absurd rfl hB
  · exact h
end Go.Proofs.YtoahgeleenpnjaaGreatDoor.Zd
