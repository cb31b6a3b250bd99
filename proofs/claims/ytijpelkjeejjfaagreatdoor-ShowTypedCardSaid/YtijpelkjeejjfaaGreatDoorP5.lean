/- Lemmas. -/
import Derived.Shelf.Spec.BitsCarry
import Derived.Test.YtijpelkjeejjfaaGreatDoorP0
import Derived.Test.YtijpelkjeejjfaaGreatDoorP1
set_option linter.unusedVariables false
set_option linter.unusedSimpArgs false
namespace Go.Proofs.YtijpelkjeejjfaaGreatDoor
open Go.RowKit

def Wid (s : Nat) (l : List (List Value)) : Prop := ∀ q ∈ l, q.length = s ∧ ∀ u ∈ q, u.oneCell' = true

theorem flat_get {s : Nat} {l : List (List Value)} (hw : Wid s l) : ∀ (j : Nat) (q : List Value), l[j]? = some q → ∀ (i : Nat) (v : Value), q[i]? = some v → l.flatten[j * s + i]? = some v := by
  induction l with
  | nil => intro j q h; simp at h
  | cons a l ih =>
    intro j q hj i v hi
    have ha := (hw a List.mem_cons_self).1
    rw [List.flatten_cons]
    match j, hj with
    | 0, hj =>
      simp at hj; subst hj
      rw [Nat.zero_mul, Nat.zero_add, List.getElem?_append_left (List.getElem?_eq_some_iff.1 hi).1]; exact hi
    | j + 1, hj =>
      have h2 : (j + 1) * s + i = a.length + (j * s + i) := by rw [ha, Nat.add_mul]; omega
      rw [h2, List.getElem?_append_right (by omega), Nat.add_sub_cancel_left]
      exact ih (fun q hq => hw q (List.mem_cons_of_mem _ hq)) j q (by simpa using hj) i v hi

theorem flat_len {s : Nat} {l : List (List Value)} (hw : Wid s l) : l.flatten.length = l.length * s := by
  induction l with
  | nil => simp
  | cons a l ih => rw [List.flatten_cons, List.length_append, ih fun q hq => hw q (List.mem_cons_of_mem _ hq), (hw a List.mem_cons_self).1, List.length_cons, Nat.add_mul]; omega

/-- A slice reads as a list of structs of s cells. -/
def GAt (s : Nat) (w : World) (p : Option Addr) (l : List (List Value)) : Prop :=
  l = [] ∨ ∃ g off, p = some ⟨g, off, none⟩ ∧ g < w.heap.size ∧ ∀ (j : Nat) (q : List Value), l[j]? = some q → ∀ (i : Nat) (v : Value), q[i]? = some v → w.cell? ⟨g, off + j * s + i, none⟩ = some v

theorem GAt.kept {s : Nat} {w w' : World} {p : Option Addr} {l : List (List Value)} (h : GAt s w p l) (hg : w.grownBy w' none) : GAt s w' p l := by
  rcases h with h | ⟨g, off, rfl, hl, hc⟩
  · exact .inl h
  · exact .inr ⟨g, off, rfl, Nat.lt_of_lt_of_le hl hg.size, fun j q hj i v hi => hg.cell (hc j q hj i v hi) (by simp)⟩

theorem GAt.keptS {S : Nat → Prop} {s : Nat} {w w' : World} {p : Option Addr} {l : List (List Value)} (h : GAt s w p l) (hg : Fr2 S w w') (hS : l ≠ [] → ∀ a, p = some a → ¬ S a.block) : GAt s w' p l := by
  rcases h with h | ⟨g, off, rfl, hl, hc⟩
  · exact .inl h
  · by_cases h0 : l = []
    · exact .inl h0
    · exact .inr ⟨g, off, rfl, Nat.lt_of_lt_of_le hl hg.size, fun j q hj i v hi => by rw [World.cell?_of_block (w := w) (hg.block g hl (hS h0 ⟨g, off, none⟩ rfl))]; exact hc j q hj i v hi⟩

theorem GAt.blk {s : Nat} {w : World} {p : Option Addr} {l : List (List Value)} (h : GAt s w p l) : l ≠ [] → ∀ a, p = some a → a.block < w.heap.size := fun h0 a ha => by
  obtain ⟨g, off, rfl, hl, -⟩ := h.resolve_left h0
  injection ha with ha; subst ha; exact hl

theorem GAt.nil {s : Nat} {w : World} {p : Option Addr} : GAt s w p [] := .inl rfl

/-- A row of one's own. -/
def OwnG (s : Nat) (T : TypeId) (w : World) (base : Nat) (v : Value) (l : List (List Value)) : Prop := w.ownsRow base T s v l.length l.flatten ∧ Wid s l

theorem OwnG.nil (s : Nat) (T : TypeId) (w : World) (base : Nat) : OwnG s T w base (.slice none 0 0) [] := ⟨World.ownsRow_nil _ _ _ _, fun q hq => by simp at hq⟩
theorem OwnG.kept {s : Nat} {T : TypeId} {w w' : World} {base : Nat} {v : Value} {l : List (List Value)} (h : OwnG s T w base v l) (hg : w.grownBy w' none) : OwnG s T w' base v l := ⟨World.ownsRow.kept h.1 hg (by
  cases hv : v.ownBlock with
  | none => exact .inl rfl
  | some k => exact .inr (by simp)), h.2⟩

theorem OwnG.keptS {S : Nat → Prop} {s : Nat} {T : TypeId} {w w' : World} {base : Nat} {v : Value} {l : List (List Value)} (h : OwnG s T w base v l) (hg : Fr2 S w w') (hS : ∀ g, base ≤ g → ¬ S g) : OwnG s T w' base v l :=
  ⟨⟨h.1.1, h.1.2.imp id fun ⟨g, cap, cur, e, hb, hh, r⟩ => ⟨g, cap, cur, e, hb, hg.keep hh (hS g hb), r⟩⟩, h.2⟩

theorem OwnG.is {s : Nat} {T : TypeId} {w : World} {base : Nat} {v : Value} {l : List (List Value)} (h : OwnG s T w base v l) : ∃ p c, v = .slice p l.length c ∧ GAt s w p l ∧ l.length ≤ c ∧ c ≤ maxLen ∧ (l ≠ [] → ∀ a, p = some a → base ≤ a.block) := by
  rcases h.1.2 with ⟨rfl, h0⟩ | ⟨g, cap, cur, rfl, hb, hg, hnc, hcm, h1, h2⟩
  · have : l = [] := List.eq_nil_of_length_eq_zero h0
    subst this
    exact ⟨none, 0, rfl, .inl rfl, Nat.le_refl _, by unfold maxLen; omega, fun h => absurd rfl h⟩
  · refine ⟨_, cap, rfl, .inr ⟨g, 0, rfl, hlt hg, fun j q hj i v hi => ?_⟩, hnc, hcm, fun _ a ha => by injection ha with ha; subst ha; exact hb⟩
    have h3 := flat_get h.2 j q hj i v hi
    have h' : w.ownsRow base T s (.slice (some ⟨g, 0, none⟩) l.length cap) l.length l.flatten := h.1
    have h4 := (List.getElem?_eq_some_iff.1 h3).1
    rw [flat_len h.2] at h4
    rw [Nat.zero_add, h'.cellAt _ h4]; exact h3

theorem OwnG.lt {s : Nat} {T : TypeId} {w : World} {base : Nat} {v : Value} {l : List (List Value)} (h : OwnG s T w base v l) {p : Option Addr} {n c : Nat} (hv : v = .slice p n c) (hn : 0 < n) : ∃ a, p = some a ∧ base ≤ a.block ∧ a.block < w.heap.size := by
  rcases h.1.2 with ⟨h1, h0⟩ | ⟨g, cap, cur, h1, hb, hg, -⟩
  · rw [hv] at h1; injection h1 with h1 h2 h3; omega
  · rw [hv] at h1; injection h1 with h1 h2 h3; subst h1; exact ⟨_, rfl, hb, hlt hg⟩

/-- append of no element. -/
theorem run_append_zero {P : Program} {w : World} (base : Nat) (t ty e : TypeId) (i : TypeInfo) (size : Nat) (ht : P.underlying t = some (.slice e)) (hi : P.info? e = some i)
    (v : Value) (n : Nat) (xs : List Value) (hown : w.ownsRow base e size v n xs) (p : Option Addr) (c : Nat) :
    (Builtin.append_ #[t, t] ty #[v, .slice p 0 c]).run P w = .ok v w := by
  rcases hown.2 with ⟨rfl, rfl⟩ | ⟨g, cap, cur, rfl, _, _, hnc, _⟩
  · cases p <;> simp [Builtin.append_, run_underlying ht, sizeOf, typeInfo, hi, Builtin.lenOf, Builtin.firstCells, loadCells, loadCellsFrom]
  · cases p <;> simp [Builtin.append_, run_underlying ht, sizeOf, typeInfo, hi, Builtin.lenOf, Builtin.firstCells, hnc, storeCells, loadCells, loadCellsFrom]

theorem wpList_append_zero {P : Program} {w : World} {ops : Array Oper} {rest : List Oper} {o : Oper} {a : Act} {Q : Exit → Act → World → Prop} (hgd : o.guard = none) (s x : Operand) (t : TypeId)
    (ho : o.op = .call { callee := .builtin .append, args := #[s, x], argTypes := #[t, t] })
    (base : Nat) (e : TypeId) (i : TypeInfo) (size : Nat) (ht : P.underlying t = some (.slice e)) (hi : P.info? e = some i)
    (v : Value) (n : Nat) (xs : List Value) (hs : a.eval s = v) (hown : w.ownsRow base e size v n xs) (p : Option Addr) (c : Nat) (hx : a.eval x = .slice p 0 c)
    (h : wpList P ops Q rest (a.put o.dst v) w) : wpList P ops Q (o :: rest) a w := by
  refine wpList_plain hgd fun K hK => ?_
  have hrun := run_append_zero (P := P) (w := w) base t o.type e i size ht hi v n xs hown p c
  unfold Oper.wp
  simp [execOp, ho, resolve, invoke, builtin, hs, hx, hrun, Result.andThen]
  exact hK _ _ h
/-- append of a whole row onto one's own. -/
theorem wpList_appGs {s : Nat} {t T : TypeId} {z : Value} {by' : Nat} (hs0 : 0 < s) (ht : Tryz.prog.underlying t = some (.slice T)) (hT : (Tryz.prog.info? T).map (fun i => (i.zero, i.size, i.bytes)) = some (some z, s, by')) (hz : z.cells.size = s) (hby : by' ≤ 1000)
    {w0 : World} {ops : Array Oper} {rest : List Oper} {o : Oper} {a : Act} {Q : Exit → Act → World → Prop} (hgd : o.guard = none) (os ox : Operand) (ho : o.op = .call { callee := .builtin .append, args := #[os, ox], argTypes := #[t, t] })
    (base : Nat) (l ys : List (List Value)) (hy : Wid s ys) (v : Value) (hs : a.eval os = v) (hown : OwnG s T w0 base v l) (p : Option Addr) (m c : Nat) (hx : a.eval ox = .slice p m c) (hm : ys.length = m) (hys : GAt s w0 p ys) (hn : l.length ≤ 1000000) (hn2 : m ≤ 1000000) (hbase : base ≤ w0.heap.size)
    (K : ∀ p' n' cap' w', n' = l.length + m → OwnG s T w' base (.slice p' n' cap') (l ++ ys) → Below base w0 w' → w0.grownBy w' v.ownBlock → wpList Tryz.prog ops Q rest (a.put o.dst (.slice p' n' cap')) w') :
    wpList Tryz.prog ops Q (o :: rest) a w0 := by
  obtain ⟨i0, hi, hi0, hi1, hi2⟩ := info_parts hT
  by_cases hm0 : m = 0
  · subst hm0
    have : ys = [] := List.eq_nil_of_length_eq_zero hm
    subst this
    obtain ⟨p', c', rfl, -⟩ := hown.is
    exact wpList_append_zero hgd os ox t ho base T i0 s ht hi _ _ _ hs hown.1 p c hx (K p' _ c' w0 rfl (by simpa using hown) (Below.refl _ _) (gb_refl _ _))
  have hm0 : 0 < m := by omega
  have hb : (l.length + m) * by' ≤ 140737488355328 := by
    have : (l.length + m) * by' ≤ (l.length + m) * 1000 := Nat.mul_le_mul_left _ hby
    omega
  obtain ⟨g, off, rfl, hgl, hc⟩ := hys.resolve_left (fun h => by rw [h] at hm; simp at hm; omega)
  refine wpList_append_lies (P := Tryz.prog) _ hgd os ox t ho base T i0 z s by' ht hi hi0 hi1 hi2 hz hs0 _ l.length l.flatten hs hown.1 ⟨g, off, none⟩ m c ys.flatten hx (by rw [flat_len hy, hm]) ?_ ?_ hm0 (by unfold maxLen; omega) hb hbase w0.heap.size rfl ?_
  · intro j u hj
    have hj2 := (List.getElem?_eq_some_iff.1 hj).1
    rw [flat_len hy] at hj2
    have hq : j / s < ys.length := (Nat.div_lt_iff_lt_mul hs0).2 hj2
    have h3 := List.getElem?_eq_getElem hq
    have hr : j % s < (ys[j / s]).length := by rw [(hy _ (List.getElem_mem hq)).1]; exact Nat.mod_lt _ hs0
    have h4 := List.getElem?_eq_getElem hr
    have h5 := flat_get hy _ _ h3 _ _ h4
    have h6 : j / s * s + j % s = j := by rw [Nat.mul_comm]; exact Nat.div_add_mod j s
    rw [h6, hj] at h5
    have h5 := Option.some.inj h5
    rw [Addr.add_lit, h5, ← hc _ _ h3 _ _ h4, Nat.add_assoc, h6]
  · intro u hu
    obtain ⟨q, hq, hu⟩ := List.mem_flatten.1 hu
    exact (hy q hq).2 u hu
  · intro g' cap' w' h3 h4 h5 _
    refine K _ _ cap' w' rfl ⟨by simpa [hm] using h3, fun q hq => ?_⟩ (below_own hown.1 hbase h4) h4
    rcases List.mem_append.1 hq with hq | hq
    · exact hown.2 q hq
    · exact hy q hq

/-! ### Rows of one cell each -/

def one (zs : List Value) : List (List Value) := zs.map ([·])
theorem one_len (zs : List Value) : (one zs).length = zs.length := List.length_map _
theorem one_flat (zs : List Value) : (one zs).flatten = zs := by
  induction zs with
  | nil => rfl
  | cons a l ih => simpa [one] using ih
theorem one_wid {zs : List Value} (h : ∀ u ∈ zs, u.oneCell' = true) : Wid 1 (one zs) := fun q hq => by
  obtain ⟨u, hu, rfl⟩ := List.mem_map.1 hq
  exact ⟨rfl, fun v hv => by simp at hv; subst hv; exact h _ hu⟩
theorem g_of_v {w : World} {p : Option Addr} {zs : List Value} (h : VAt w p zs) : GAt 1 w p (one zs) := by
  rcases h with rfl | ⟨g, off, rfl, hl, hc⟩
  · exact .inl rfl
  · refine .inr ⟨g, off, rfl, hl, fun j q hj i v hi => ?_⟩
    unfold one at hj
    rw [List.getElem?_map] at hj
    obtain ⟨u, hu, rfl⟩ := Option.map_eq_some_iff.1 hj
    match i, hi with
    | 0, hi => simp at hi; subst hi; simpa using hc j _ hu
theorem v_of_g {w : World} {p : Option Addr} {zs : List Value} (h : GAt 1 w p (one zs)) : VAt w p zs := by
  rcases h with h | ⟨g, off, rfl, hl, hc⟩
  · refine .inl ?_
    unfold one at h; exact List.map_eq_nil_iff.1 h
  · refine .inr ⟨g, off, rfl, hl, fun j u hj => ?_⟩
    have := hc j [u] (by unfold one; rw [List.getElem?_map, hj]; rfl) 0 u rfl
    simpa using this
end Go.Proofs.YtijpelkjeejjfaaGreatDoor
namespace Go.Proofs.YtijpelkjeejjfaaGreatDoor.Mx

def V (b : Nat) (f : Nat → Nat) (o : Nat) : Nat → Nat
  | 0 => 0
  | n + 1 => V b f o n + f (o + n) * b ^ n

variable {b : Nat} {f g : Nat → Nat} {o p n m : Nat}

theorem V_succ : V b f o (n + 1) = V b f o n + f (o + n) * b ^ n := rfl

theorem V_congr (h : ∀ j, j < n → f (o + j) = g (p + j)) : V b f o n = V b g p n := by
  induction n with
  | zero => rfl
  | succ n ih => rw [V_succ, V_succ, ih (fun j hj => h j (by omega)), h n (by omega)]

theorem V_zeros (h : ∀ j, j < n → f (o + j) = 0) : V b f o n = 0 := by
  induction n with
  | zero => rfl
  | succ n ih => rw [V_succ, ih (fun j hj => h j (by omega)), h n (by omega)]; simp

theorem V_lt (h : ∀ j, j < n → f (o + j) < b) : V b f o n < b ^ n := by
  induction n with
  | zero => simp [V]
  | succ n ih =>
    have h1 := ih (fun j hj => h j (by omega))
    have h2 : f (o + n) + 1 ≤ b := h n (by omega)
    have h3 : (f (o + n) + 1) * b ^ n ≤ b * b ^ n := Nat.mul_le_mul_right _ h2
    rw [V_succ, Nat.pow_succ, Nat.mul_comm (b ^ n) b]
    rw [Nat.add_mul] at h3
    omega

theorem V_split (m : Nat) : V b f o (m + n) = V b f o m + b ^ m * V b f (o + m) n := by
  induction n with
  | zero => simp [V]
  | succ n ih =>
    rw [← Nat.add_assoc, V_succ, ih, V_succ, Nat.pow_add, Nat.add_assoc o m n]
    grind

theorem V_front : V b f o (n + 1) = f o + b * V b f (o + 1) n := by
  rw [Nat.add_comm n 1, V_split]; simp [V]

theorem V_ge (h : f (o + n) ≠ 0) : b ^ n ≤ V b f o (n + 1) := by
  have : 1 * b ^ n ≤ f (o + n) * b ^ n := Nat.mul_le_mul_right _ (by omega)
  rw [V_succ]; omega

theorem V_top (h : n = 0 ∨ f (o + n - 1) ≠ 0) : n = 0 ∨ b ^ (n - 1) ≤ V b f o n := by
  cases n with
  | zero => exact .inl rfl
  | succ n => exact .inr (V_ge (by simpa using h))

theorem V_pad (h : ∀ j, n ≤ j → j < m → f (o + j) = 0) (hnm : n ≤ m) : V b f o m = V b f o n := by
  obtain ⟨k, rfl⟩ : ∃ k, m = n + k := ⟨m - n, by omega⟩
  rw [V_split, V_zeros (n := k) (fun j hj => by rw [Nat.add_assoc]; exact h (n + j) (by omega) (by omega))]; simp

/-- A digit is read off the number. -/
theorem V_digit (hb : 0 < b) (h : ∀ j, j < n → f (o + j) < b) {j : Nat} (hj : j < n) : V b f o n / b ^ j % b = f (o + j) := by
  obtain ⟨k, rfl⟩ : ∃ k, n = j + (k + 1) := ⟨n - j - 1, by omega⟩
  have hlt : V b f o j < b ^ j := V_lt (fun i hi => h i (by omega))
  have hp : 0 < b ^ j := Nat.pow_pos hb
  rw [V_split, Nat.add_mul_div_left _ _ hp, Nat.div_eq_of_lt hlt, Nat.zero_add, V_front, Nat.add_mul_mod_self_left, Nat.mod_eq_of_lt (h j (by omega))]

/-- The digits that stand from `o` on after a write at `k`. -/
def upd (f : Nat → Nat) (k x : Nat) : Nat → Nat := fun j => if j = k then x else f j
theorem upd_at (k x : Nat) : upd f k x k = x := by simp [upd]
theorem upd_ne {k j x : Nat} (h : j ≠ k) : upd f k x j = f j := by simp [upd, h]

theorem V_upd_out {k x : Nat} (h : k < o ∨ o + n ≤ k) : V b (upd f k x) o n = V b f o n :=
  V_congr (fun j hj => upd_ne (by omega))

end Go.Proofs.YtijpelkjeejjfaaGreatDoor.Mx
namespace Go.Proofs.YtijpelkjeejjfaaGreatDoor.Zd
open Go.RowKit

def Bw : Nat := 18446744073709551616
theorem val_of {k : IntKind} {a b : Int} (h : a = b) : Value.int k a = Value.int k b := by rw [h]
theorem Bw_pos : 0 < Bw := by unfold Bw; omega

/-- The n numbers f 0 .. that a slice at p reads as in w. -/
def At (k : IntKind) (w : World) (p : Option Addr) (n : Nat) (f : Nat → Nat) : Prop :=
  n = 0 ∨ ∃ g off, p = some ⟨g, off, none⟩ ∧ g < w.heap.size ∧ ∀ j, j < n → w.cell? ⟨g, off + j, none⟩ = some (.int k (f j))

theorem At.pre {k : IntKind} {w : World} {p : Option Addr} {n m : Nat} {f : Nat → Nat} (h : At k w p n f) (hm : m ≤ n) : At k w p m f := by
  rcases h with h | ⟨g, off, rfl, hg, hc⟩
  · exact .inl (by omega)
  · exact .inr ⟨g, off, rfl, hg, fun j hj => hc j (by omega)⟩

theorem At.grown {k : IntKind} {w w' : World} {p : Option Addr} {n : Nat} {f : Nat → Nat} {row : Option Nat} (h : At k w p n f) (hb : w.grownBy w' row) (hB : ∀ a, p = some a → some a.block ≠ row) : At k w' p n f := by
  rcases h with h | ⟨g, off, rfl, hg, hc⟩
  · exact .inl h
  · exact .inr ⟨g, off, rfl, Nat.lt_of_lt_of_le hg hb.size, fun j hj => hb.cell (hc j hj) (show some g ≠ row from hB ⟨g, off, none⟩ rfl)⟩

/-- A block of M numbers, f 0 .., that may be written. -/
def Blk (k : IntKind) (w : World) (g M : Nat) (f : Nat → Nat) : Prop :=
  ∃ cur T, w.heap[g]? = some (.cells cur T (0, 0)) ∧ cur.size = M ∧ ∀ j, j < M → cur[j]? = some (.int k (f j))

section
variable {k : IntKind} {w w' : World} {g M : Nat} {f : Nat → Nat}
theorem Blk.lt (h : Blk k w g M f) : g < w.heap.size := by
  obtain ⟨cur, T, hg, _⟩ := h
  exact (Array.getElem?_eq_some_iff.1 hg).1
theorem Blk.cell (h : Blk k w g M f) {j : Nat} (hj : j < M) : w.cell? ⟨g, j, none⟩ = some (.int k (f j)) := by
  obtain ⟨cur, T, hg, _, hc⟩ := h
  rw [cell_of_row w g j cur T (0, 0) hg]; exact hc j hj
theorem Blk.free (h : Blk k w g M f) (j : Nat) : w.frozen? ⟨g, j, none⟩ = false := by
  obtain ⟨cur, T, hg, _, hc⟩ := h
  simp [World.frozen?, hg]
theorem Blk.set (h : Blk k w g M f) {j : Nat} (x : Nat) : Blk k (w.setCell ⟨g, j, none⟩ (.int k x)) g M (Mx.upd f j x) := by
  obtain ⟨cur, T, hg, hs, hc⟩ := h
  refine ⟨cur.setIfInBounds j (.int k x), T, ?_, by simpa using hs, fun i hi => ?_⟩
  · simp only [World.setCell, Array.getElem?_modify, hg, if_true, Option.map_some]; rfl
  · rw [Array.getElem?_setIfInBounds]
    by_cases e : j = i
    · subst e; simp [Mx.upd, hs, hi]
    · rw [if_neg e, hc i hi]; simp [Mx.upd, Ne.symm e]
theorem Blk.kept {row : Option Nat} (h : Blk k w g M f) (hg : w.grownBy w' row) (hne : some g ≠ row) : Blk k w' g M f := by
  obtain ⟨cur, T, hh, r⟩ := h
  exact ⟨cur, T, by rw [hg.block g (Array.getElem?_eq_some_iff.1 hh).1 hne]; exact hh, r⟩
theorem Blk.at0 (h : Blk k w g M f) : At k w (some ⟨g, 0, none⟩) M f :=
  .inr ⟨g, 0, rfl, h.lt, fun j hj => by rw [Nat.zero_add]; exact h.cell hj⟩
end

section
variable {w a b c : World} {row : Option Nat}
theorem gb_refl (w : World) (row : Option Nat) : w.grownBy w row := ⟨rfl, rfl, rfl, Nat.le_refl _, fun _ _ _ => rfl⟩
theorem gb_trans (h : a.grownBy b row) (k : b.grownBy c row) : a.grownBy c row :=
  ⟨k.os.trans h.os, k.tape.trans h.tape, k.output.trans h.output, Nat.le_trans h.size k.size, fun i hi hr => (k.block i (Nat.lt_of_lt_of_le hi h.size) hr).trans (h.block i hi hr)⟩
theorem gb_drew (h : a.grownBy b row) : a.grownBy b.drew row := ⟨h.os, h.tape, h.output, h.size, h.block⟩
theorem gb_drewN (h : a.grownBy b row) (n : Nat) : a.grownBy (b.drewN n) row := ⟨h.os, h.tape, h.output, h.size, h.block⟩
theorem gb_alloc (h : a.grownBy b row) (o : Obj) : a.grownBy (b.alloc o) row := gb_trans h (World.grownBy_alloc b o row)
theorem gb_set {g j : Nat} (h : a.grownBy b (some g)) (u : Value) : a.grownBy (b.setCell ⟨g, j, none⟩ u) (some g) :=
  gb_trans h ⟨rfl, rfl, rfl, by simp [World.setCell], fun i _ hr => Below.heap_setCell _ _ _ _ (by intro e; apply hr; rw [e])⟩
theorem gb_below (h : a.grownBy b none) : Below a.heap.size a b := ⟨h.os, h.tape, h.output, h.size, fun k hk => h.block k hk (by simp)⟩
theorem bcell (hb : a.grownBy b none) : (∀ k o, k < a.heap.size → b.cell? ⟨k, o, none⟩ = a.cell? ⟨k, o, none⟩) ∧ (∀ k o, k < a.heap.size → b.frozen? ⟨k, o, none⟩ = a.frozen? ⟨k, o, none⟩) :=
  ⟨fun k o h => (gb_below hb).cell (p := ⟨k, o, none⟩) h, fun k o h => (gb_below hb).frozen (p := ⟨k, o, none⟩) h⟩
theorem below_gb (h : Below a.heap.size a b) : a.grownBy b row := ⟨h.os, h.tape, h.output, h.size, fun k hk _ => h.block k hk⟩
/-- Behind a new block, and writes to it alone, nothing that was there has turned. -/
theorem gb_new {g : Nat} (h : Below a.heap.size a b) (hg : a.heap.size ≤ g) (k : b.grownBy c (some g)) : Below a.heap.size a c :=
  ⟨k.os.trans h.os, k.tape.trans h.tape, k.output.trans h.output, Nat.le_trans h.size k.size, fun i hi => (k.block i (Nat.lt_of_lt_of_le hi h.size) (by simp; omega)).trans (h.block i hi)⟩
end

section
variable {P : Program} {f : FuncId} {args : Array Value} {w : World} {a n : Nat} {v : Value}
/-- A callee that leaves the world alone, inside a region that only reads: behind no draws, and behind some. -/
theorem q1 (c : ∀ W : World, Calls P f args W fun e w' => e = .returned v ∧ W = w') : Calls P f args (w.drewN n) fun e w'' => e = .returned v ∧ ∃ m, w'' = w.drewN m :=
  (c _).mono fun _ _ ⟨he, hm⟩ => ⟨he, n, hm.symm⟩
theorem q2 (c : ∀ W : World, Calls P f args W fun e w' => e = .returned v ∧ W = w') : Calls P f args (w.drewN (a + n)) fun e w'' => e = .returned v ∧ ∃ m, w'' = w.drewN (a + m) :=
  (c _).mono fun _ _ ⟨he, hm⟩ => ⟨he, n, hm.symm⟩
/-- The same of a callee that draws. -/
theorem q3 (c : ∀ W : World, Calls P f args W fun e w' => e = .returned v ∧ ∃ m, w' = W.drewN m) : Calls P f args (w.drewN n) fun e w'' => e = .returned v ∧ ∃ m, w'' = w.drewN m :=
  (c _).mono fun _ _ ⟨he, m, hm⟩ => ⟨he, n + m, by rw [hm, World.drewN_drewN]⟩
theorem q4 (c : ∀ W : World, Calls P f args W fun e w' => e = .returned v ∧ ∃ m, w' = W.drewN m) : Calls P f args (w.drewN (a + n)) fun e w'' => e = .returned v ∧ ∃ m, w'' = w.drewN (a + m) :=
  (c _).mono fun _ _ ⟨he, m, hm⟩ => ⟨he, n + m, by rw [hm, World.drewN_drewN, Nat.add_assoc]⟩
end

theorem add64_run (x y c : Nat) (hc : c ≤ 1) (hx : x < Bw) (hy : y < Bw) : ∃ s c' : Nat, (∀ w, (callFunc 55 #[.int .u64 x, .int .u64 y, .int .u64 c]).run Tryz.prog w = .ok (.value (.tuple #[.int .u64 s, .int .u64 c'])) w) ∧ s < Bw ∧ c' ≤ 1 ∧ s + c' * Bw = x + y + c := by
  unfold Bw at *
  refine ⟨(x + y + c) % 18446744073709551616, (x + y + c) / 18446744073709551616, fun w => ?_, ?_, ?_, ?_⟩
  · rw [run_callFunc_extern Tryz.func55 (by kernel_rfl) (by kernel_rfl) (by kernel_rfl) (e := add64Entry) (by kernel_rfl), run_add64 x y c (by omega) (by omega) (by omega) (by omega)]
    simp only [Result.andThen]
    congr 5 <;> omega
  · omega
  · omega
  · omega

theorem mul64_c (x y : Nat) (hx : x < Bw) (hy : y < Bw) : ∃ hi lo : Nat, (∀ w, Calls Tryz.prog 54 #[.int .u64 x, .int .u64 y] w fun e w' => e = .returned (.tuple #[.int .u64 hi, .int .u64 lo]) ∧ w = w') ∧ hi < Bw ∧ lo < Bw ∧ hi * Bw + lo = x * y := by
  refine ⟨x * y / 18446744073709551616, x * y % 18446744073709551616, fun w => (Tryz.bits_Mul64 x y hx hy w).mono (by rintro e w' ⟨h1, h2⟩; exact ⟨h1, h2.symm⟩), ?_, ?_, ?_⟩
  · have : x * y < 18446744073709551616 * 18446744073709551616 := Nat.mul_lt_mul'' hx hy
    unfold Bw; omega
  · unfold Bw; omega
  · unfold Bw; omega

end Go.Proofs.YtijpelkjeejjfaaGreatDoor.Zd
namespace Go.Proofs.YtijpelkjeejjfaaGreatDoor.Mx

/-- u * 2^32 + d by Y = yn1 * 2^32 + yn0. -/
structure Half (u d Y yn1 yn0 : Nat) : Prop where
  hY : Y = yn1 * 4294967296 + yn0
  h0 : yn0 < 4294967296
  h1 : 2147483648 ≤ yn1
  h2 : yn1 < 4294967296
  hu : u < Y
  hd : d < 4294967296

section
variable {u d Y yn1 yn0 q r : Nat}

theorem Half.pos (h : Half u d Y yn1 yn0) : 0 < Y := by have := h.hY; have := h.h1; omega

theorem Half.lt (h : Half u d Y yn1 yn0) : (u * 4294967296 + d) / Y < 4294967296 := by
  rw [Nat.div_lt_iff_lt_mul h.pos]
  have := h.hu; have := h.hd; omega

theorem mulY (h : Half u d Y yn1 yn0) (e : q * yn1 + r = u) : q * Y + r * 4294967296 = u * 4294967296 + q * yn0 := by
  rw [h.hY, ← e]; grind

theorem Half.stop (h : Half u d Y yn1 yn0) (e : q * yn1 + r = u) (hQ : (u * 4294967296 + d) / Y ≤ q) (t : q * yn0 ≤ 4294967296 * r + d) : q = (u * 4294967296 + d) / Y := by
  have m := mulY h e
  have : q ≤ (u * 4294967296 + d) / Y := by
    rw [Nat.le_div_iff_mul_le h.pos]; omega
  omega

theorem Half.more (h : Half u d Y yn1 yn0) (e : q * yn1 + r = u) (t : 4294967296 ≤ q ∨ 4294967296 * r + d < q * yn0) : (u * 4294967296 + d) / Y < q := by
  rcases t with t | t
  · have := h.lt; omega
  · have m := mulY h e
    rw [Nat.div_lt_iff_lt_mul h.pos]; omega

theorem Half.brk (h : Half u d Y yn1 yn0) (e : q * yn1 + r = u) (hQ : (u * 4294967296 + d) / Y ≤ q) (hr : 4294967296 ≤ r) (hq : q ≤ 4294967296) : q = (u * 4294967296 + d) / Y := by
  have m := mulY h e
  have : q * yn0 ≤ 4294967296 * 4294967295 := Nat.mul_le_mul hq (by have := h.h0; omega)
  have : q ≤ (u * 4294967296 + d) / Y := by
    rw [Nat.le_div_iff_mul_le h.pos]; omega
  omega

theorem Half.start (h : Half u d Y yn1 yn0) : (u / yn1) * yn1 + u % yn1 = u ∧ (u * 4294967296 + d) / Y ≤ u / yn1 ∧ u / yn1 ≤ 4294967297 ∧ u % yn1 < 4294967296 ∧ 0 < yn1 := by
  have h1 := h.h1; have h2 := h.h2; have hu := h.hu; have hY := h.hY; have h0 := h.h0; have hd := h.hd
  have e : (u / yn1) * yn1 + u % yn1 = u := by rw [Nat.mul_comm]; exact Nat.div_add_mod u yn1
  have hm : u % yn1 < yn1 := Nat.mod_lt _ (by omega)
  refine ⟨e, ?_, ?_, by omega, by omega⟩
  · rw [Nat.le_div_iff_mul_le (by omega)]
    have k : (u * 4294967296 + d) / Y * Y ≤ u * 4294967296 + d := Nat.div_mul_le_self _ _
    generalize (u * 4294967296 + d) / Y = Q at *
    have e2 : Q * Y = Q * yn1 * 4294967296 + Q * yn0 := by rw [hY]; grind
    omega
  · have : u / yn1 < 4294967298 := by
      rw [Nat.div_lt_iff_lt_mul (by omega)]; omega
    omega

theorem Half.rest (h : Half u d Y yn1 yn0) : (u * 4294967296 + d) % Y < Y ∧ (u * 4294967296 + d) / Y * Y + (u * 4294967296 + d) % Y = u * 4294967296 + d := by
  refine ⟨Nat.mod_lt _ h.pos, ?_⟩
  rw [Nat.mul_comm]; exact Nat.div_add_mod _ _
end

open Go.Lib in
theorem bitLenAux_b : ∀ (f x : Nat), x < 2 ^ f → x < 2 ^ bitLenAux f x ∧ (x ≠ 0 → 2 ^ bitLenAux f x ≤ 2 * x) ∧ bitLenAux f x ≤ f
  | 0, x, h => by simp at h; subst h; simp [bitLenAux]
  | f + 1, x, h => by
    rw [Nat.pow_succ] at h
    obtain ⟨a, b, c⟩ := bitLenAux_b f (x / 2) (by omega)
    by_cases h0 : x = 0
    · subst h0; simp [bitLenAux]
    · have e : bitLenAux (f + 1) x = 1 + bitLenAux f (x / 2) := by simp [bitLenAux, h0]
      rw [e, Nat.pow_add]
      refine ⟨by omega, fun _ => ?_, by omega⟩
      by_cases h1 : x / 2 = 0
      · have : bitLenAux f (x / 2) = 0 := by rw [h1]; cases f <;> simp [bitLenAux]
        rw [this]; omega
      · have := b h1; omega

/-- A word moved up till its highest bit is set. -/
theorem shift_of (y : Nat) (h0 : 0 < y) (h : y < 18446744073709551616) : ∃ s, s ≤ 63 ∧ Go.Lib.bitLen y + s = 64 ∧ y * 2 ^ s < 18446744073709551616 ∧ 9223372036854775808 ≤ y * 2 ^ s := by
  obtain ⟨a, b, c⟩ := bitLenAux_b 64 y h
  have b := b (by omega)
  change y < 2 ^ Go.Lib.bitLen y at a
  change 2 ^ Go.Lib.bitLen y ≤ 2 * y at b
  change Go.Lib.bitLen y ≤ 64 at c
  have hpos : Go.Lib.bitLen y ≠ 0 := by intro e; rw [e] at a; omega
  obtain ⟨s, hs⟩ : ∃ s, Go.Lib.bitLen y + s = 64 := ⟨64 - Go.Lib.bitLen y, by omega⟩
  have hp : 2 ^ Go.Lib.bitLen y * 2 ^ s = 18446744073709551616 := by rw [← Nat.pow_add, hs]
  have hs0 : 0 < 2 ^ s := Nat.pow_pos (by omega)
  refine ⟨s, by omega, hs, ?_, ?_⟩
  · calc y * 2 ^ s < 2 ^ Go.Lib.bitLen y * 2 ^ s := Nat.mul_lt_mul_of_pos_right a hs0
      _ = _ := hp
  · have : 2 ^ Go.Lib.bitLen y * 2 ^ s ≤ 2 * y * 2 ^ s := Nat.mul_le_mul_right _ b
    rw [hp, Nat.mul_assoc] at this
    omega
end Go.Proofs.YtijpelkjeejjfaaGreatDoor.Mx
