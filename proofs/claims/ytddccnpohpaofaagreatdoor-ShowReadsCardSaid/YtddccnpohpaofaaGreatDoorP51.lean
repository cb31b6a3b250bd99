/- Lemmas. -/
import Derived.ProofKit
import Derived.SevenTiedAt
import Derived.Test.YtddccnpohpaofaaGreatDoorCards
import Derived.Test.YtddccnpohpaofaaGreatDoorP0
import Derived.Test.YtddccnpohpaofaaGreatDoorP1
set_option linter.unusedVariables false
set_option linter.unusedSimpArgs false
namespace Go.Proofs.YtddccnpohpaofaaGreatDoor
open Go.RowKit

theorem sizeB : (Tryz.prog.info? 75).map (·.size) = some 2 := by kernel_rfl
theorem liesB : liesAt Tryz.prog Tryz.prog.depth 75 (2 / Tryz.prog.cellsOf 75) 0 75 1 = true := by kernel_rfl
theorem infoU : (Tryz.prog.info? 5).map (fun i => (i.zero, i.size, i.bytes)) = some (some (.int .u8 0), 1, 1) := by kernel_rfl

set_option maxHeartbeats 1000000 in
set_option maxRecDepth 100000 in
theorem copyCheck_used (b : Nat) (w : World) (h0 : w.cell? ⟨b, 0, none⟩ = some (.pointer (some ⟨b, 0, none⟩))) :
    Calls Tryz.prog 51 #[.pointer (some ⟨b, 0, none⟩)] w fun e w' => e = .returned (.tuple #[]) ∧ w' = w := by
  obtain ⟨j, hj, _⟩ := Option.map_eq_some_iff.1 sizeB
  go_enter Tryz.func51, Tryz.ntmps51
  go_wp2
  rw [Lib.run_neq_ptr_same w _ Tryz.underlying72 hj]
  go_wp2
  go_end0
  exact ⟨rfl, rfl⟩

set_option maxHeartbeats 1000000 in
set_option maxRecDepth 100000 in
theorem copyCheck_fresh (b : Nat) (w : World) (h0 : w.cell? ⟨b, 0, none⟩ = some (.pointer none)) (hsh : w.shape? b = some (75, 2)) (hfz : w.frozen? ⟨b, 0, none⟩ = false) :
    Calls Tryz.prog 51 #[.pointer (some ⟨b, 0, none⟩)] w fun e w' => e = .returned (.tuple #[]) ∧ w' = w.setCell ⟨b, 0, none⟩ (.pointer (some ⟨b, 0, none⟩)) := by
  obtain ⟨j, hj, hjs⟩ := Option.map_eq_some_iff.1 sizeB
  go_enter Tryz.func51, Tryz.ntmps51
  go_wp2
  rw [Lib.run_to_unsafe w ⟨b, 0, none⟩ Tryz.underlying72 Tryz.underlying153 hj (by rw [hjs]; decide) hsh (Nat.zero_lt_succ 1)]
  simp only [Result.andThen]
  rw [Oper.upon_value]
  go_wp2
  rw [run_callFunc_extern Tryz.func86 (by kernel_rfl) (by kernel_rfl) (by kernel_rfl) (e := Extern.AbiNoEscape.same) (by kernel_rfl)]
  rw [Lib.run_noEscape]
  simp only [Result.andThen]
  rw [Oper.upon_value]
  go_wp2
  rw [Lib.run_from_unsafe w ⟨b, 0, none⟩ Tryz.underlying153 Tryz.underlying72 hj hsh liesB]
  simp only [Result.andThen]
  rw [Oper.upon_value]
  go_wp2
  go_end0
  exact ⟨rfl, rfl⟩

/-- Blocks of other things than bytes, but b, are as they were. -/
def OKept (b : Nat) (w w' : World) : Prop := ∀ (g : Nat) (cs : Array Value) (T : TypeId), w.heap[g]? = some (.cells cs T (0, 0)) → T ≠ 5 → g ≠ b → w'.heap[g]? = some (.cells cs T (0, 0))

theorem OKept.trans {b : Nat} {w w1 w2 : World} (h : OKept b w w1) (k : OKept b w1 w2) : OKept b w w2 := fun g cs T h1 h2 h3 => k g cs T (h g cs T h1 h2 h3) h2 h3
theorem OKept.none {b : Nat} {w w' : World} (h : w.grownBy w' Option.none) : OKept b w w' := fun g cs T h1 _ _ => bx h h1

theorem hlt' {a : World} {h : Nat} {o : Obj} (hb : a.heap[h]? = some o) : h < a.heap.size := hlt hb

theorem copyCheck_c (B b : Nat) (bs : List Value) (w : World) (h : Lib.IsBuilder 75 5 B b bs w) :
    Calls Tryz.prog 51 #[.pointer (some ⟨b, 0, none⟩)] w fun e w' => e = .returned (.tuple #[]) ∧ (Lib.BuilderAt 75 5 B b (.pointer (some ⟨b, 0, none⟩)) bs w' ∧ Below B w w') ∧ Fr2 (fun k => k = b) w w' := by
  rcases h with h | h
  · refine (copyCheck_fresh b w h.cell0 h.shape h.frozen0).mono ?_
    rintro e w' ⟨rfl, rfl⟩
    exact ⟨rfl, ⟨h.used _, (Below.refl B w).setCell (p := ⟨b, 0, none⟩) h.1 _⟩, Fr2.setCell (S := fun k => k = b) (Fr2.refl _ _) rfl _⟩
  · refine (copyCheck_used b w h.cell0).mono ?_
    rintro e w' ⟨rfl, rfl⟩
    exact ⟨rfl, ⟨h, Below.refl B _⟩, Fr2.refl _ _⟩

set_option maxHeartbeats 1000000 in
set_option maxRecDepth 100000 in
theorem WriteString_c (B b : Nat) (bs : List Value) (s : ByteArray) (w : World) (h : Lib.IsBuilder 75 5 B b bs w) (hlen : bs.length + s.size ≤ 140737488355328) (hBw : B ≤ w.heap.size) :
    Calls Tryz.prog 25 #[.pointer (some ⟨b, 0, none⟩), .string s] w fun e w' => e = .returned (.tuple #[.int .i64 s.size, .nilIface]) ∧ (Lib.BuilderAt 75 5 B b (.pointer (some ⟨b, 0, none⟩)) (bs ++ Lib.strCells s) w' ∧ Below B w w') ∧ OKept b w w' := by
  obtain ⟨i0, hi, hz0, hz1, hz2⟩ := info_parts infoU
  go_enter Tryz.func25, Tryz.ntmps25
  go_wp2_with (go_at_call 51; refine (copyCheck_c B b bs _ h).mono ?_)
  rintro e w1 ⟨rfl, ⟨h1, hb1⟩, hf1⟩
  have HF1 := Lib.hid hf1
  clear hf1
  obtain ⟨hB, v, hbk, hown, hne⟩ := h1
  have c0 : w1.cell? ⟨b, 0, none⟩ = some (.pointer (some ⟨b, 0, none⟩)) := by rw [Lib.cell_of_heap hbk]; rfl
  have c1 : w1.cell? ⟨b, 1, none⟩ = some v := by rw [Lib.cell_of_heap hbk]; rfl
  go_wp2_with (at_builtin; refine Lib.wpList_append_own_string _ rfl _ _ 73 9 rfl B 5 i0 Tryz.underlying73 Tryz.underlying9 hi hz0 hz1 hz2 _ _ _ rfl hown s rfl ?c3 ?c4 ?c5 ?_)
  case c3 => unfold maxLen; omega
  case c4 => omega
  case c5 => have := hb1.size; omega
  intro v' w2 hown' hgrow _
  have hlt : b < w1.heap.size := by
    rcases Nat.lt_or_ge b w1.heap.size with h' | h'
    · exact h'
    · simp [Array.getElem?_eq_none h'] at hbk
  have hb2 : w2.heap[b]? = some (.cells #[.pointer (some ⟨b, 0, none⟩), v] 75 (0, 0)) := by
    rw [hgrow.block b hlt (fun e => hne e.symm)]
    exact hbk
  have d0 : w2.cell? ⟨b, 0, none⟩ = some (.pointer (some ⟨b, 0, none⟩)) := by rw [Lib.cell_of_heap hb2]; rfl
  have d1 : w2.cell? ⟨b, 1, none⟩ = some v := by rw [Lib.cell_of_heap hb2]; rfl
  have f1 : w2.frozen? ⟨b, 1, none⟩ = false := Lib.frozen_of_heap hb2 1
  obtain ⟨ao, n', cap, rfl⟩ : ∃ ao n' cap, v' = .slice ao n' cap := by
    rcases hown'.2 with ⟨hv, _⟩ | ⟨g, cap, cur, hv, _⟩
    · exact ⟨_, _, _, hv⟩
    · exact ⟨_, _, _, hv⟩
  go_wp2
  go_ret2
  refine ⟨rfl, ⟨?_, ?_⟩, ?_⟩
  · exact Lib.BuilderAt.put (T := 75) (e := 5) hB hb2 (bs' := bs ++ Lib.strCells s) (by simpa [Lib.strCells_length] using hown') (by decide)
  · exact (hb1.grown hgrow (by have := hb1.size; omega) (fun k hk => (hown.lt k hk).1)).setCell (p := ⟨b, 1, none⟩) hB _
  · intro g cs T h1 h2 h3
    have h4 := HF1.out.keep h1 h3
    have h5 := Lib.ownBlock_ne hown h4 h2
    have h6 : w2.heap[g]? = _ := (hgrow.block g (hlt' h4) (fun e => h5 e.symm)).trans h4
    rw [Below.heap_setCell _ _ _ _ (by simpa using h3)]
    exact h6

/-! ### A builder among others -/

theorem bld_kept {B b : Nat} {bs : List Value} {w w' : World} (h : Lib.IsBuilder 75 5 B b bs w) (hg : w.grownBy w' none) : Lib.IsBuilder 75 5 B b bs w' := by
  have one : ∀ p, Lib.BuilderAt 75 5 B b p bs w → Lib.BuilderAt 75 5 B b p bs w' := by
    intro p ⟨hB, v, hb, hown, hne⟩
    exact ⟨hB, v, bx hg hb, World.ownsRow.kept hown hg (by cases hv : v.ownBlock with | none => exact .inl rfl | some k => exact .inr (by simp)), hne⟩
  exact h.imp (one _) (one _)

/-- A builder where a block of other things alone has turned. -/
theorem bld_keptS {B b g : Nat} {bs : List Value} {w w' : World} {cs : Array Value} {T : TypeId} (h : Lib.IsBuilder 75 5 B b bs w) (hg : w.grownBy w' (some g)) (hgb : w.heap[g]? = some (.cells cs T (0, 0))) (hT : T ≠ 5) (hne : g ≠ b) : Lib.IsBuilder 75 5 B b bs w' := by
  have one : ∀ p, Lib.BuilderAt 75 5 B b p bs w → Lib.BuilderAt 75 5 B b p bs w' := by
    intro p ⟨hB, v, hb, hown, hn⟩
    have h5 := Lib.ownBlock_ne hown hgb hT
    exact ⟨hB, v, (hg.block b (hlt hb) (by simpa using hne.symm)).trans hb, World.ownsRow.kept hown hg (by cases hv : v.ownBlock with | none => exact .inl rfl | some k => exact .inr (fun e => h5 (hv.trans e))), hn⟩
  exact h.imp (one _) (one _)

theorem bld_new (w : World) (B : Nat) (hB : B ≤ w.heap.size) : Lib.IsBuilder 75 5 B w.heap.size [] (w.alloc (.cells #[.pointer none, .slice none 0 0] 75)) :=
  .inl ⟨hB, .slice none 0 0, heap_alloc_new w _, World.ownsRow_nil _ _ _ _, by simp [Value.ownBlock]⟩


structure TokI where
  kind : Int
  lead : List UInt8
  text : List UInt8
  pos : Int
structure Nd where
  kind : Int
  tok : Int
  kids : List Int

/-- Recursion on places. -/
def rc {α : Type} (d : α) (F : Nd → (Int → α) → α) (N : List Nd) : Nat → Nat → α
  | 0, _ => d
  | f + 1, n => match N[n]? with
    | none => d
    | some x => F x (fun k => rc d F N f k.toNat)
def rcw {α : Type} (d : α) (F : Nd → (Int → α) → α) (N : List Nd) (n : Nat) : α := rc d F N (n + 1) n

/-! ### Leaves, sizes, dumps -/

def lvF (x : Nd) (g : Int → List Int) : List Int := if x.kind = 19 then [x.tok] else x.kids.flatMap g
def szF (x : Nd) (g : Int → Nat) : Nat := 1 + (x.kids.map g).sum
def lv (N : List Nd) (n : Nat) : List Int := rcw [] lvF N n
def sz (N : List Nd) (n : Nat) : Nat := rcw 0 szF N n
/-! ### The right form -/

/-! ### How many -/


def Wid (s : Nat) (l : List (List Value)) : Prop := ∀ q ∈ l, q.length = s ∧ ∀ u ∈ q, u.oneCell' = true

theorem flat_get {s : Nat} {l : List (List Value)} (hw : Wid s l) : ∀ (j : Nat) (q : List Value), l[j]? = some q → ∀ (i : Nat) (v : Value), q[i]? = some v → l.flatten[j * s + i]? = some v := by
  induction l with
  | nil => intro j q h; simp at h
  | cons a l ih =>
    intro j q hj i v hi
    have ha := (hw a List.mem_cons_self).1
    rw [List.flatten_cons]
    match j, hj with
    | 0, hj =>
      simp at hj; subst hj
      rw [Nat.zero_mul, Nat.zero_add, List.getElem?_append_left (List.getElem?_eq_some_iff.1 hi).1]; exact hi
    | j + 1, hj =>
      have h2 : (j + 1) * s + i = a.length + (j * s + i) := by rw [ha, Nat.add_mul]; omega
      rw [h2, List.getElem?_append_right (by omega), Nat.add_sub_cancel_left]
      exact ih (fun q hq => hw q (List.mem_cons_of_mem _ hq)) j q (by simpa using hj) i v hi

theorem flat_len {s : Nat} {l : List (List Value)} (hw : Wid s l) : l.flatten.length = l.length * s := by
  induction l with
  | nil => simp
  | cons a l ih => rw [List.flatten_cons, List.length_append, ih fun q hq => hw q (List.mem_cons_of_mem _ hq), (hw a List.mem_cons_self).1, List.length_cons, Nat.add_mul]; omega

/-- A slice reads as a list of structs of s cells. -/
def GAt (s : Nat) (w : World) (p : Option Addr) (l : List (List Value)) : Prop :=
  l = [] ∨ ∃ g off, p = some ⟨g, off, none⟩ ∧ g < w.heap.size ∧ ∀ (j : Nat) (q : List Value), l[j]? = some q → ∀ (i : Nat) (v : Value), q[i]? = some v → w.cell? ⟨g, off + j * s + i, none⟩ = some v

theorem GAt.kept {s : Nat} {w w' : World} {p : Option Addr} {l : List (List Value)} (h : GAt s w p l) (hg : w.grownBy w' none) : GAt s w' p l := by
  rcases h with h | ⟨g, off, rfl, hl, hc⟩
  · exact .inl h
  · exact .inr ⟨g, off, rfl, Nat.lt_of_lt_of_le hl hg.size, fun j q hj i v hi => hg.cell (hc j q hj i v hi) (by simp)⟩

theorem GAt.keptS {S : Nat → Prop} {s : Nat} {w w' : World} {p : Option Addr} {l : List (List Value)} (h : GAt s w p l) (hg : Fr2 S w w') (hS : l ≠ [] → ∀ a, p = some a → ¬ S a.block) : GAt s w' p l := by
  rcases h with h | ⟨g, off, rfl, hl, hc⟩
  · exact .inl h
  · by_cases h0 : l = []
    · exact .inl h0
    · exact .inr ⟨g, off, rfl, Nat.lt_of_lt_of_le hl hg.size, fun j q hj i v hi => by rw [World.cell?_of_block (w := w) (hg.block g hl (hS h0 ⟨g, off, none⟩ rfl))]; exact hc j q hj i v hi⟩

theorem GAt.blk {s : Nat} {w : World} {p : Option Addr} {l : List (List Value)} (h : GAt s w p l) : l ≠ [] → ∀ a, p = some a → a.block < w.heap.size := fun h0 a ha => by
  obtain ⟨g, off, rfl, hl, -⟩ := h.resolve_left h0
  injection ha with ha; subst ha; exact hl

theorem GAt.nil {s : Nat} {w : World} {p : Option Addr} : GAt s w p [] := .inl rfl

/-- A row of one's own. -/
def OwnG (s : Nat) (T : TypeId) (w : World) (base : Nat) (v : Value) (l : List (List Value)) : Prop := w.ownsRow base T s v l.length l.flatten ∧ Wid s l

theorem OwnG.nil (s : Nat) (T : TypeId) (w : World) (base : Nat) : OwnG s T w base (.slice none 0 0) [] := ⟨World.ownsRow_nil _ _ _ _, fun q hq => by simp at hq⟩
theorem OwnG.kept {s : Nat} {T : TypeId} {w w' : World} {base : Nat} {v : Value} {l : List (List Value)} (h : OwnG s T w base v l) (hg : w.grownBy w' none) : OwnG s T w' base v l := ⟨World.ownsRow.kept h.1 hg (by
  cases hv : v.ownBlock with
  | none => exact .inl rfl
  | some k => exact .inr (by simp)), h.2⟩

theorem OwnG.keptS {S : Nat → Prop} {s : Nat} {T : TypeId} {w w' : World} {base : Nat} {v : Value} {l : List (List Value)} (h : OwnG s T w base v l) (hg : Fr2 S w w') (hS : ∀ g, base ≤ g → ¬ S g) : OwnG s T w' base v l :=
  ⟨⟨h.1.1, h.1.2.imp id fun ⟨g, cap, cur, e, hb, hh, r⟩ => ⟨g, cap, cur, e, hb, hg.keep hh (hS g hb), r⟩⟩, h.2⟩

theorem OwnG.is {s : Nat} {T : TypeId} {w : World} {base : Nat} {v : Value} {l : List (List Value)} (h : OwnG s T w base v l) : ∃ p c, v = .slice p l.length c ∧ GAt s w p l ∧ l.length ≤ c ∧ c ≤ maxLen ∧ (l ≠ [] → ∀ a, p = some a → base ≤ a.block) := by
  rcases h.1.2 with ⟨rfl, h0⟩ | ⟨g, cap, cur, rfl, hb, hg, hnc, hcm, h1, h2⟩
  · have : l = [] := List.eq_nil_of_length_eq_zero h0
    subst this
    exact ⟨none, 0, rfl, .inl rfl, Nat.le_refl _, by unfold maxLen; omega, fun h => absurd rfl h⟩
  · refine ⟨_, cap, rfl, .inr ⟨g, 0, rfl, hlt hg, fun j q hj i v hi => ?_⟩, hnc, hcm, fun _ a ha => by injection ha with ha; subst ha; exact hb⟩
    have h3 := flat_get h.2 j q hj i v hi
    have h' : w.ownsRow base T s (.slice (some ⟨g, 0, none⟩) l.length cap) l.length l.flatten := h.1
    have h4 := (List.getElem?_eq_some_iff.1 h3).1
    rw [flat_len h.2] at h4
    rw [Nat.zero_add, h'.cellAt _ h4]; exact h3

theorem OwnG.lt {s : Nat} {T : TypeId} {w : World} {base : Nat} {v : Value} {l : List (List Value)} (h : OwnG s T w base v l) {p : Option Addr} {n c : Nat} (hv : v = .slice p n c) (hn : 0 < n) : ∃ a, p = some a ∧ base ≤ a.block ∧ a.block < w.heap.size := by
  rcases h.1.2 with ⟨h1, h0⟩ | ⟨g, cap, cur, h1, hb, hg, -⟩
  · rw [hv] at h1; injection h1 with h1 h2 h3; omega
  · rw [hv] at h1; injection h1 with h1 h2 h3; subst h1; exact ⟨_, rfl, hb, hlt hg⟩

/-- append of no element. -/
theorem run_append_zero {P : Program} {w : World} (base : Nat) (t ty e : TypeId) (i : TypeInfo) (size : Nat) (ht : P.underlying t = some (.slice e)) (hi : P.info? e = some i)
    (v : Value) (n : Nat) (xs : List Value) (hown : w.ownsRow base e size v n xs) (p : Option Addr) (c : Nat) :
    (Builtin.append_ #[t, t] ty #[v, .slice p 0 c]).run P w = .ok v w := by
  rcases hown.2 with ⟨rfl, rfl⟩ | ⟨g, cap, cur, rfl, _, _, hnc, _⟩
  · cases p <;> simp [Builtin.append_, run_underlying ht, sizeOf, typeInfo, hi, Builtin.lenOf, Builtin.firstCells, loadCells, loadCellsFrom]
  · cases p <;> simp [Builtin.append_, run_underlying ht, sizeOf, typeInfo, hi, Builtin.lenOf, Builtin.firstCells, hnc, storeCells, loadCells, loadCellsFrom]

theorem wpList_append_zero {P : Program} {w : World} {ops : Array Oper} {rest : List Oper} {o : Oper} {a : Act} {Q : Exit → Act → World → Prop} (hgd : o.guard = none) (s x : Operand) (t : TypeId)
    (ho : o.op = .call { callee := .builtin .append, args := #[s, x], argTypes := #[t, t] })
    (base : Nat) (e : TypeId) (i : TypeInfo) (size : Nat) (ht : P.underlying t = some (.slice e)) (hi : P.info? e = some i)
    (v : Value) (n : Nat) (xs : List Value) (hs : a.eval s = v) (hown : w.ownsRow base e size v n xs) (p : Option Addr) (c : Nat) (hx : a.eval x = .slice p 0 c)
    (h : wpList P ops Q rest (a.put o.dst v) w) : wpList P ops Q (o :: rest) a w := by
  refine wpList_plain hgd fun K hK => ?_
  have hrun := run_append_zero (P := P) (w := w) base t o.type e i size ht hi v n xs hown p c
  unfold Oper.wp
  simp [execOp, ho, resolve, invoke, builtin, hs, hx, hrun, Result.andThen]
  exact hK _ _ h
/-- append of a whole row onto one's own. -/
theorem wpList_appGs {s : Nat} {t T : TypeId} {z : Value} {by' : Nat} (hs0 : 0 < s) (ht : Tryz.prog.underlying t = some (.slice T)) (hT : (Tryz.prog.info? T).map (fun i => (i.zero, i.size, i.bytes)) = some (some z, s, by')) (hz : z.cells.size = s) (hby : by' ≤ 1000)
    {w0 : World} {ops : Array Oper} {rest : List Oper} {o : Oper} {a : Act} {Q : Exit → Act → World → Prop} (hgd : o.guard = none) (os ox : Operand) (ho : o.op = .call { callee := .builtin .append, args := #[os, ox], argTypes := #[t, t] })
    (base : Nat) (l ys : List (List Value)) (hy : Wid s ys) (v : Value) (hs : a.eval os = v) (hown : OwnG s T w0 base v l) (p : Option Addr) (m c : Nat) (hx : a.eval ox = .slice p m c) (hm : ys.length = m) (hys : GAt s w0 p ys) (hn : l.length ≤ 1000000) (hn2 : m ≤ 1000000) (hbase : base ≤ w0.heap.size)
    (K : ∀ p' n' cap' w', n' = l.length + m → OwnG s T w' base (.slice p' n' cap') (l ++ ys) → Below base w0 w' → w0.grownBy w' v.ownBlock → wpList Tryz.prog ops Q rest (a.put o.dst (.slice p' n' cap')) w') :
    wpList Tryz.prog ops Q (o :: rest) a w0 := by
  obtain ⟨i0, hi, hi0, hi1, hi2⟩ := info_parts hT
  by_cases hm0 : m = 0
  · subst hm0
    have : ys = [] := List.eq_nil_of_length_eq_zero hm
    subst this
    obtain ⟨p', c', rfl, -⟩ := hown.is
    exact wpList_append_zero hgd os ox t ho base T i0 s ht hi _ _ _ hs hown.1 p c hx (K p' _ c' w0 rfl (by simpa using hown) (Below.refl _ _) (gb_refl _ _))
  have hm0 : 0 < m := by omega
  have hb : (l.length + m) * by' ≤ 140737488355328 := by
    have : (l.length + m) * by' ≤ (l.length + m) * 1000 := Nat.mul_le_mul_left _ hby
    omega
  obtain ⟨g, off, rfl, hgl, hc⟩ := hys.resolve_left (fun h => by rw [h] at hm; simp at hm; omega)
  refine wpList_append_lies (P := Tryz.prog) _ hgd os ox t ho base T i0 z s by' ht hi hi0 hi1 hi2 hz hs0 _ l.length l.flatten hs hown.1 ⟨g, off, none⟩ m c ys.flatten hx (by rw [flat_len hy, hm]) ?_ ?_ hm0 (by unfold maxLen; omega) hb hbase w0.heap.size rfl ?_
  · intro j u hj
    have hj2 := (List.getElem?_eq_some_iff.1 hj).1
    rw [flat_len hy] at hj2
    have hq : j / s < ys.length := (Nat.div_lt_iff_lt_mul hs0).2 hj2
    have h3 := List.getElem?_eq_getElem hq
    have hr : j % s < (ys[j / s]).length := by rw [(hy _ (List.getElem_mem hq)).1]; exact Nat.mod_lt _ hs0
    have h4 := List.getElem?_eq_getElem hr
    have h5 := flat_get hy _ _ h3 _ _ h4
    have h6 : j / s * s + j % s = j := by rw [Nat.mul_comm]; exact Nat.div_add_mod j s
    rw [h6, hj] at h5
    have h5 := Option.some.inj h5
    rw [Addr.add_lit, h5, ← hc _ _ h3 _ _ h4, Nat.add_assoc, h6]
  · intro u hu
    obtain ⟨q, hq, hu⟩ := List.mem_flatten.1 hu
    exact (hy q hq).2 u hu
  · intro g' cap' w' h3 h4 h5 _
    refine K _ _ cap' w' rfl ⟨by simpa [hm] using h3, fun q hq => ?_⟩ (below_own hown.1 hbase h4) h4
    rcases List.mem_append.1 hq with hq | hq
    · exact hown.2 q hq
    · exact hy q hq

/-! ### Rows of one cell each -/

def one (zs : List Value) : List (List Value) := zs.map ([·])
theorem one_len (zs : List Value) : (one zs).length = zs.length := List.length_map _
theorem one_flat (zs : List Value) : (one zs).flatten = zs := by
  induction zs with
  | nil => rfl
  | cons a l ih => simpa [one] using ih
theorem one_wid {zs : List Value} (h : ∀ u ∈ zs, u.oneCell' = true) : Wid 1 (one zs) := fun q hq => by
  obtain ⟨u, hu, rfl⟩ := List.mem_map.1 hq
  exact ⟨rfl, fun v hv => by simp at hv; subst hv; exact h _ hu⟩
theorem g_of_v {w : World} {p : Option Addr} {zs : List Value} (h : VAt w p zs) : GAt 1 w p (one zs) := by
  rcases h with rfl | ⟨g, off, rfl, hl, hc⟩
  · exact .inl rfl
  · refine .inr ⟨g, off, rfl, hl, fun j q hj i v hi => ?_⟩
    unfold one at hj
    rw [List.getElem?_map] at hj
    obtain ⟨u, hu, rfl⟩ := Option.map_eq_some_iff.1 hj
    match i, hi with
    | 0, hi => simp at hi; subst hi; simpa using hc j _ hu
theorem v_of_g {w : World} {p : Option Addr} {zs : List Value} (h : GAt 1 w p (one zs)) : VAt w p zs := by
  rcases h with h | ⟨g, off, rfl, hl, hc⟩
  · refine .inl ?_
    unfold one at h; exact List.map_eq_nil_iff.1 h
  · refine .inr ⟨g, off, rfl, hl, fun j u hj => ?_⟩
    have := hc j [u] (by unfold one; rw [List.getElem?_map, hj]; rfl) 0 u rfl
    simpa using this
end Go.Proofs.YtddccnpohpaofaaGreatDoor
namespace Go.Proofs.YtddccnpohpaofaaGreatDoor.showReads
open Go.ChangeShapes Go.WideShapes Go.ChangeAt Go.RowKit

theorem p1 : Rows.showReadsRow.wfByText (OpenSpec.ofChange Rows.showReadsSpec) = true := by kernel_rfl
theorem p2 : Tryz.prog.mainIs = some (Rows.showReadsCard.stood.harness.1, Rows.showReadsCard.stood.harness.2.toList) := by kernel_rfl
theorem p3 : false = Tryz.prog.looks [] := by kernel_rfl
theorem p4 : false = Rows.showReadsRow.goesBy Tryz.prog := by kernel_rfl
end Go.Proofs.YtddccnpohpaofaaGreatDoor.showReads
