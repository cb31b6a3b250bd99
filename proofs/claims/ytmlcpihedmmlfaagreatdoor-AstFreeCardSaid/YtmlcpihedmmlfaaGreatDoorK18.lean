/- Rows of texts: sets of them made and told (as in stage 2, over strings). -/
import Derived.WalkKit
import Derived.WalkSpells
import Derived.WalkLawsBesides
import Derived.Lib.Hide
import Derived.Shelf.Spec.BitsCarry
import Derived.BigQuiet
import Derived.Deep.QuietTactic
import Derived.Deep.OwnRows
import Derived.Deep.AppendLies
import Derived.Laws.AppendOwnNone
import Derived.Sort.Grow
import Derived.Lib.OwnBridge
import Derived.BigRegion
import Derived.Test.YtmlcpihedmmlfaaGreatDoorK17
import Derived.Test.YtmlcpihedmmlfaaGreatDoorK0
set_option linter.unusedVariables false
set_option linter.unusedSimpArgs false
namespace Go.Proofs.YtmlcpihedmmlfaaGreatDoor.Bg
open Go.RowKit Go.Sort

/- What a slice of numbers reads as, and the small laws on it. -/

/-- The n numbers f 0 .. that a slice at p reads as in w. -/
def At (k : IntKind) (w : World) (p : Option Addr) (n : Nat) (f : Nat → Nat) : Prop :=
  n = 0 ∨ ∃ g off, p = some ⟨g, off, none⟩ ∧ g < w.heap.size ∧ ∀ j, j < n → w.cell? ⟨g, off + j, none⟩ = some (.int k (f j))

theorem At.grown {k : IntKind} {w w' : World} {p : Option Addr} {n : Nat} {f : Nat → Nat} {row : Option Nat} (h : At k w p n f) (hb : w.grownBy w' row) (hB : ∀ a, p = some a → some a.block ≠ row) : At k w' p n f := by
  rcases h with h | ⟨g, off, rfl, hg, hc⟩
  · exact .inl h
  · exact .inr ⟨g, off, rfl, Nat.lt_of_lt_of_le hg hb.size, fun j hj => hb.cell (hc j hj) (show some g ≠ row from hB ⟨g, off, none⟩ rfl)⟩

/-- A block of M numbers, f 0 .., that may be written. -/
def Blk (k : IntKind) (w : World) (g M : Nat) (f : Nat → Nat) : Prop :=
  ∃ cur T, w.heap[g]? = some (.cells cur T (0, 0)) ∧ cur.size = M ∧ ∀ j, j < M → cur[j]? = some (.int k (f j))

section
variable {k : IntKind} {w w' : World} {g M : Nat} {f : Nat → Nat}
theorem Blk.lt (h : Blk k w g M f) : g < w.heap.size := by
  obtain ⟨cur, T, hg, _⟩ := h
  exact (Array.getElem?_eq_some_iff.1 hg).1
theorem Blk.cell (h : Blk k w g M f) {j : Nat} (hj : j < M) : w.cell? ⟨g, j, none⟩ = some (.int k (f j)) := by
  obtain ⟨cur, T, hg, _, hc⟩ := h
  rw [cell_of_row w g j cur T (0, 0) hg]; exact hc j hj
theorem Blk.kept {row : Option Nat} (h : Blk k w g M f) (hg : w.grownBy w' row) (hne : some g ≠ row) : Blk k w' g M f := by
  obtain ⟨cur, T, hh, r⟩ := h
  exact ⟨cur, T, by rw [hg.block g (Array.getElem?_eq_some_iff.1 hh).1 hne]; exact hh, r⟩
end

section
variable {w a b c : World} {row : Option Nat}
theorem gb_refl (w : World) (row : Option Nat) : w.grownBy w row := ⟨rfl, rfl, rfl, Nat.le_refl _, fun _ _ _ => rfl⟩
theorem gb_trans (h : a.grownBy b row) (k : b.grownBy c row) : a.grownBy c row :=
  ⟨k.os.trans h.os, k.tape.trans h.tape, k.output.trans h.output, Nat.le_trans h.size k.size, fun i hi hr => (k.block i (Nat.lt_of_lt_of_le hi h.size) hr).trans (h.block i hi hr)⟩
theorem gb_set {g j : Nat} (h : a.grownBy b (some g)) (u : Value) : a.grownBy (b.setCell ⟨g, j, none⟩ u) (some g) :=
  gb_trans h ⟨rfl, rfl, rfl, by simp [World.setCell], fun i _ hr => Below.heap_setCell _ _ _ _ (by intro e; apply hr; rw [e])⟩
theorem gb_below (h : a.grownBy b none) : Below a.heap.size a b := ⟨h.os, h.tape, h.output, h.size, fun k hk => h.block k hk (by simp)⟩
theorem below_gb (h : Below a.heap.size a b) : a.grownBy b row := ⟨h.os, h.tape, h.output, h.size, fun k hk _ => h.block k hk⟩
/-- Behind a new block, and writes to it alone, nothing that was there has turned. -/
theorem gb_new {g : Nat} (h : Below a.heap.size a b) (hg : a.heap.size ≤ g) (k : b.grownBy c (some g)) : Below a.heap.size a c :=
  ⟨k.os.trans h.os, k.tape.trans h.tape, k.output.trans h.output, Nat.le_trans h.size k.size, fun i hi => (k.block i (Nat.lt_of_lt_of_le hi h.size) (by simp; omega)).trans (h.block i hi)⟩
end

section
variable {P : Program} {f : FuncId} {args : Array Value} {w : World} {a n : Nat} {v : Value}
end

/- Lists of numbers as slices read them; rising lists. -/

/-! ### What a slice reads as -/

/-- Its elements lie in blocks from B on. -/
def Fr (B : Nat) (v : Value) : Prop := ∀ p n c, v = .slice p n c → 0 < n → ∃ a, p = some a ∧ B ≤ a.block

theorem Fr.le {B B' : Nat} {v : Value} (h : Fr B v) (hb : B' ≤ B) : Fr B' v := fun p n c e hn => by
  obtain ⟨a, h1, h2⟩ := h p n c e hn
  exact ⟨a, h1, Nat.le_trans hb h2⟩

theorem fr_nil (B : Nat) (p : Option Addr) (c : Nat) : Fr B (.slice p 0 c) := fun p n c e hn => by
  injection e with _ e; omega

theorem gb_putRow {α : Type} [Inhabited α] (enc : α → Value) (w : World) (n g : Nat) (d : Array α) : w.grownBy (putRow enc (Sort.ahead w n) g 0 d) (some g) := by
  refine ⟨rfl, rfl, rfl, by simp [putRow, mapBlock, Sort.ahead], fun k hk hne => ?_⟩
  have : g ≠ k := fun e => hne (by rw [e])
  simp [putRow, mapBlock, Sort.ahead, Array.getElem?_modify, this]

theorem gb_grow {w w' : World} {row : Option Nat} (h : w.grownBy w' row) (os : Array Obj) : w.grownBy (grow w' os) row :=
  gb_trans h ⟨rfl, rfl, rfl, by simp, fun k hk _ => heap_grow_old _ _ hk⟩

/-- append of no element. -/
theorem run_append_zero {P : Program} {w : World} (base : Nat) (t ty e : TypeId) (i : TypeInfo) (size : Nat) (ht : P.underlying t = some (.slice e)) (hi : P.info? e = some i)
    (v : Value) (n : Nat) (xs : List Value) (hown : w.ownsRow base e size v n xs) (p : Option Addr) (c : Nat) :
    (Builtin.append_ #[t, t] ty #[v, .slice p 0 c]).run P w = .ok v w := by
  rcases hown.2 with ⟨rfl, rfl⟩ | ⟨g, cap, cur, rfl, _, _, hnc, _⟩
  · cases p <;> simp [Builtin.append_, run_underlying ht, sizeOf, typeInfo, hi, Builtin.lenOf, Builtin.firstCells, loadCells, loadCellsFrom]
  · cases p <;> simp [Builtin.append_, run_underlying ht, sizeOf, typeInfo, hi, Builtin.lenOf, Builtin.firstCells, hnc, storeCells, loadCells, loadCellsFrom]

theorem wpList_append_zero {P : Program} {w : World} {ops : Array Oper} {rest : List Oper} {o : Oper} {a : Act} {Q : Exit → Act → World → Prop} (hgd : o.guard = none) (s x : Operand) (t : TypeId)
    (ho : o.op = .call { callee := .builtin .append, args := #[s, x], argTypes := #[t, t] })
    (base : Nat) (e : TypeId) (i : TypeInfo) (size : Nat) (ht : P.underlying t = some (.slice e)) (hi : P.info? e = some i)
    (v : Value) (n : Nat) (xs : List Value) (hs : a.eval s = v) (hown : w.ownsRow base e size v n xs) (p : Option Addr) (c : Nat) (hx : a.eval x = .slice p 0 c)
    (h : wpList P ops Q rest (a.put o.dst v) w) : wpList P ops Q (o :: rest) a w := by
  refine wpList_plain hgd fun K hK => ?_
  have hrun := run_append_zero (P := P) (w := w) base t o.type e i size ht hi v n xs hown p c
  unfold Oper.wp
  simp [execOp, ho, resolve, invoke, builtin, hs, hx, hrun, Result.andThen]
  exact hK _ _ h
/- Sets made and told. -/

theorem box1 {W : World} {r : Nat} {a0 u : Value} {T : TypeId} (hb : W.heap[r]? = some (.cells #[a0] T (0, 0))) : (W.setCell ⟨r, 0, none⟩ u).heap[r]? = some (.cells #[u] T (0, 0)) ∧ (W.setCell ⟨r, 0, none⟩ u).cell? ⟨r, 0, none⟩ = some u := by
  have h1 : (W.setCell ⟨r, 0, none⟩ u).heap[r]? = some (.cells #[u] T (0, 0)) := by
    simp only [World.setCell, Array.getElem?_modify, hb, if_true, Option.map_some]; rfl
  exact ⟨h1, by rw [cell_of_row _ r 0 _ T (0, 0) h1]; rfl⟩

/- The document's lists: has, put, of, both, same. -/

/-- A list of one's own. -/
def OwnL (w : World) (base : Nat) (v : Value) (zs : List Int) : Prop := w.ownsRow base 3 1 v zs.length (zs.map (Value.int .i64))

/- Lists of texts as slices read them; sets of texts made and told. -/

def AscS (l : List (List UInt8)) : Prop := l.Pairwise (· < ·)

theorem bl_of {a b : List UInt8} (h : a ≤ b) (k : a ≠ b) : a < b := Classical.byContradiction fun n => k (List.le_antisymm h n)

theorem compactUpTo_ascS (d : Array (List UInt8)) (hs : ∀ i j, i ≤ j → j < d.size → d[i]! ≤ d[j]!) : ∀ m, m ≤ d.size → AscS (Lib.compactUpTo d m) ∧ ∀ x, x ∈ Lib.compactUpTo d m ↔ ∃ j, j < m ∧ d[j]! = x
  | 0, _ => ⟨by simp [Lib.compactUpTo, AscS], fun x => by simp [Lib.compactUpTo]⟩
  | m + 1, hm => by
    obtain ⟨h1, h2⟩ := compactUpTo_ascS d hs m (by omega)
    rw [Lib.compactUpTo_succ]
    by_cases hk : Lib.keeps d m = true
    · rw [if_pos hk]
      have hlt : ∀ x, x ∈ Lib.compactUpTo d m → x < d[m]! := fun x hx => by
        obtain ⟨j, hj, rfl⟩ := (h2 x).1 hx
        have e1 := hs j (m - 1) (by omega) (by omega)
        have e2 := hs (m - 1) m (by omega) (by omega)
        have e3 : d[m]! ≠ d[m - 1]! := by
          have := hk
          simp [Lib.keeps] at this
          rcases this with h | h
          · omega
          · exact h
        exact bl_of (List.le_trans e1 e2) fun e => e3 (List.le_antisymm (e ▸ e1) e2)
      refine ⟨List.pairwise_append.2 ⟨h1, by simp, fun a ha b hb => ?_⟩, fun x => ?_⟩
      · simp at hb; subst hb; exact hlt a ha
      · rw [List.mem_append, h2]
        constructor
        · rintro (⟨j, hj, e⟩ | e)
          · exact ⟨j, by omega, e⟩
          · simp at e; exact ⟨m, by omega, e.symm⟩
        · rintro ⟨j, hj, e⟩
          by_cases hjm : j = m
          · subst hjm; exact .inr (by simp [e])
          · exact .inl ⟨j, by omega, e⟩
    · rw [if_neg hk, List.append_nil]
      refine ⟨h1, fun x => ?_⟩
      rw [h2]
      constructor
      · rintro ⟨j, hj, e⟩; exact ⟨j, by omega, e⟩
      · rintro ⟨j, hj, e⟩
        by_cases hjm : j = m
        · subst hjm
          have : j ≠ 0 ∧ d[j]! = d[j - 1]! := by
            simp [Lib.keeps] at hk; exact hk
          exact ⟨j - 1, by omega, by rw [← this.2]; exact e⟩
        · exact ⟨j, by omega, e⟩

theorem compact_sortedS (zs : List (List UInt8)) : AscS (Lib.compact (zs.mergeSort fun x y => decide (x ≤ y))) ∧ ∀ x, x ∈ Lib.compact (zs.mergeSort fun x y => decide (x ≤ y)) ↔ x ∈ zs := by
  have hp : (zs.mergeSort fun x y => decide (x ≤ y)).Pairwise (fun a b => decide (a ≤ b) = true) := List.pairwise_mergeSort (fun a b c h1 h2 => by simp only [decide_eq_true_eq] at *; exact List.le_trans h1 h2) (fun a b => by have := List.le_total a b; simpa using this) zs
  have hm : ∀ x, x ∈ (zs.mergeSort fun x y => decide (x ≤ y)) ↔ x ∈ zs := fun x => (List.mergeSort_perm zs _).mem_iff
  generalize (zs.mergeSort fun x y => decide (x ≤ y)) = ys at hp hm
  have hs : ∀ i j, i ≤ j → j < ys.toArray.size → ys.toArray[i]! ≤ ys.toArray[j]! := fun i j hij hj => by
    have hj : j < ys.length := by simpa using hj
    rw [getElem!_pos _ _ (by simp; omega), getElem!_pos _ _ (by simpa using hj)]
    rcases Nat.eq_or_lt_of_le hij with e | e
    · subst e; exact List.le_refl _
    · have := List.pairwise_iff_getElem.1 hp i j (by omega) hj e
      exact of_decide_eq_true this
  obtain ⟨h1, h2⟩ := compactUpTo_ascS ys.toArray hs ys.length (by simp)
  refine ⟨h1, fun x => ?_⟩
  show x ∈ Lib.compactUpTo ys.toArray ys.length ↔ _
  rw [h2, ← hm, List.mem_iff_getElem]
  constructor
  · rintro ⟨j, hj, e⟩; exact ⟨j, hj, by rw [getElem!_pos _ _ (by simpa using hj)] at e; simpa using e⟩
  · rintro ⟨j, hj, e⟩; exact ⟨j, hj, by rw [getElem!_pos _ _ (by simpa using hj)]; simpa using e⟩

theorem infoS : (Tryz.prog.info? 9).map (fun i => (i.zero, i.size, i.bytes)) = some (some (.string ByteArray.empty), 1, 16) := by kernel_rfl

theorem infoS_parts : ∃ i, Tryz.prog.info? 9 = some i ∧ i.zero = some (.string ByteArray.empty) ∧ i.size = 1 ∧ i.bytes = 16 := by
  have h := infoS
  rcases hi : Tryz.prog.info? 9 with _ | i
  · rw [hi] at h; cases h
  · rw [hi] at h
    simp at h
    exact ⟨i, rfl, h.1, h.2.1, h.2.2⟩

def SAt (w : World) (p : Option Addr) (zs : List (List UInt8)) : Prop :=
  zs = [] ∨ ∃ g off, p = some ⟨g, off, none⟩ ∧ g < w.heap.size ∧ ∀ j, j < zs.length → w.cell? ⟨g, off + j, none⟩ = some (encStr (zs.getD j []))

theorem SAt.grown {w w' : World} {p : Option Addr} {zs : List (List UInt8)} {row : Option Nat} (h : SAt w p zs) (hg : w.grownBy w' row) (hp : zs ≠ [] → ∀ a, p = some a → some a.block ≠ row) : SAt w' p zs := by
  rcases h with h | ⟨g, off, rfl, hl, hc⟩
  · exact .inl h
  · by_cases h0 : zs = []
    · exact .inl h0
    · exact .inr ⟨g, off, rfl, Nat.lt_of_lt_of_le hl hg.size, fun j hj => hg.cell (hc j hj) (show some g ≠ row from hp h0 ⟨g, off, none⟩ rfl)⟩

theorem SAt.kept {w w' : World} {p : Option Addr} {zs : List (List UInt8)} (h : SAt w p zs) (hg : w.grownBy w' none) : SAt w' p zs := h.grown hg (fun _ _ _ => by simp)

/-- A slice that reads as a list. -/
def IsSL (w : World) (v : Value) (zs : List (List UInt8)) : Prop := ∃ p c, v = .slice p zs.length c ∧ zs.length ≤ c ∧ c ≤ maxLen ∧ SAt w p zs

theorem isSL_nil (w : World) : IsSL w (.slice none 0 0) [] := ⟨none, 0, rfl, Nat.le_refl _, by omega, .inl rfl⟩

theorem sat_of_holds {w : World} {g : Nat} {zs : List (List UInt8)} (h : Holds encStr w g 0 zs.toArray) (hg : g < w.heap.size) : SAt w (some ⟨g, 0, none⟩) zs :=
  .inr ⟨g, 0, rfl, hg, fun j hj => by
    have := (h j (by simpa using hj)).1
    rw [this, getElem!_pos _ _ (by simpa using hj)]
    simp [List.getD, hj]⟩

/-- A rising list, of just those. -/
def SetOfS (S zs : List (List UInt8)) : Prop := AscS S ∧ ∀ x, x ∈ S ↔ x ∈ zs

def OfPostS (zs : List (List UInt8)) (w : World) (e : Ending) (w' : World) : Prop :=
  ∃ S p n c, e = .returned (.agg #[.slice p n c]) ∧ SetOfS S zs ∧ IsSL w' (.slice p n c) S ∧ Fr w.heap.size (.slice p n c) ∧ S.length ≤ zs.length ∧ w.grownBy w' none

set_option maxRecDepth 100000 in
set_option maxHeartbeats 2000000 in
theorem OfS_c (p : Option Addr) (c : Nat) (zs : List (List UInt8)) (w : World) (hl : zs.length ≤ 1000000) (hc : zs.length ≤ c) (h : SAt w p zs) : Calls Tryz.prog 82 #[.slice p zs.length c] w (OfPostS zs w) := by
  have hbx := heap_alloc_new w (.cells #[.slice none 0 0] 148)
  have hga := World.grownBy_alloc w (.cells #[.slice none 0 0] 148) none
  have HBX := Lib.hid hbx; have HGA := Lib.hid hga
  obtain ⟨i0, hi, hi0, hi1, hi2⟩ := infoS_parts
  by_cases hz0 : zs = []
  · subst hz0
    clear h
    clear hbx hga
    have HZ : ∀ W, Calls Tryz.prog 121 #[.slice none 0 0] W fun e w' => e = .returned (.tuple #[]) ∧ w' = W := fun W => Tryz.slices_Sort_string_none none 0 W
    have HCP : ∀ W, Calls Tryz.prog 122 #[.slice none 0 0] W fun e w' => e = .returned (.slice none 0 0) ∧ w' = W := fun W => Tryz.slices_Compact_string_empty none 0 W
    have hcl : (w.alloc (.cells #[.slice none 0 0] 148)).cell? ⟨w.heap.size, 0, none⟩ = some (.slice none 0 0) := by rw [cell_of_row _ w.heap.size 0 _ _ (0, 0) HBX.out]; rfl
    go_enter Tryz.func82, Tryz.ntmps82
    go_wp2_with (first
      | (at_builtin; go_loud (refine wpList_append_zero rfl _ _ _ rfl w.heap.size 9 i0 1 Tryz.underlying38 hi _ _ _ rfl (World.ownsRow_nil _ _ _ _) p c rfl ?_))
      | (go_at_call 121; refine (HZ _).mono ?_; rintro e w2 ⟨rfl, rfl⟩)
      | (go_at_call 122; refine (HCP _).mono ?_; rintro e w2 ⟨rfl, rfl⟩))
    exact bodyPost_ret (v := .agg #[.slice none 0 0]) (by simp [results, Tryz.results82, go_sem, hcl]) rfl ⟨[], none, 0, 0, rfl, ⟨by simp [AscS], fun x => by simp⟩, isSL_nil _, fr_nil _ _ _, Nat.le_refl _, HGA.out⟩
  · obtain ⟨g, off, rfl, hg, hcell⟩ := h.resolve_left hz0
    obtain ⟨n, hn⟩ : ∃ n, zs.length = n := ⟨_, rfl⟩
    have hne : n ≠ 0 := fun e => hz0 (List.eq_nil_of_length_eq_zero (hn.trans e))
    have HC := Lib.hid hcell; have HN := Lib.hid hn
    have hcells : ∀ j u, (zs.map encStr)[j]? = some u → (w.alloc (.cells #[.slice none 0 0] 148)).cell? ((⟨g, off, none⟩ : Addr).add j) = some u := by
      intro j u hj
      have hjn : j < zs.length := by
        have := (List.getElem?_eq_some_iff.1 hj).1
        simpa using this
      rw [Addr.add_lit]
      refine hga.cell ?_ (by simp)
      rw [hcell j hjn]
      have e : (zs.map encStr)[j]? = some (encStr (zs.getD j [])) := by simp [List.getD, hjn]
      rw [e] at hj
      exact hj
    have HCE := Lib.hid hcells
    rw [hn] at hl hc ⊢
    clear hbx hga hcell hn hcells
    go_enter Tryz.func82, Tryz.ntmps82
    go_wp2_with (at_builtin; go_loud (refine wpList_append_lies (P := Tryz.prog) _ rfl _ _ _ rfl w.heap.size 9 i0 (.string ByteArray.empty) 1 16 Tryz.underlying38 hi hi0 hi1 hi2 rfl (by decide) (.slice none 0 0) 0 [] rfl (World.ownsRow_nil _ _ _ _) ⟨g, off, none⟩ n c (zs.map encStr) rfl (by simp; exact HN.out) HCE.out (by intro u hu; obtain ⟨x, _, rfl⟩ := List.mem_map.1 hu; rfl) (by omega) (by unfold maxLen; omega) (by omega) (by simp) (w.heap.size + 1) (by simp) ?_))
    intro g1 cap1 w1 h3 h4 h5 h6
    have h3 : w1.ownsRow w.heap.size 9 1 (.slice (some ⟨g1, 0, none⟩) n cap1) n (zs.map encStr) := by simpa using h3
    have hg1 : w.heap.size + 1 ≤ g1 := by
      rcases h5 with h5 | h5
      · simp [Value.ownBlock] at h5
      · omega
    have G1 : Hid (w.grownBy w1 none) := Lib.hid (gb_trans HGA.out (below_gb (gb_below (show (w.alloc (.cells #[.slice none 0 0] 148)).grownBy w1 none from h4))))
    have HB1 := Lib.hid ((show (w.alloc (.cells #[.slice none 0 0] 148)).grownBy w1 none from h4).block _ (Array.getElem?_eq_some_iff.1 HBX.out).1 (by simp) |>.trans HBX.out)
    obtain ⟨g', cap', he, -, -, hnc, hcm, hlen, hH⟩ := Lib.holds_of_ownsRow (enc := encStr) h3 (by simp)
    injection he with he1 _ he3
    injection he1 with he1
    injection he1 with he1
    subst he1; subst he3
    have hsort := Tryz.slices_Sort_string g1 0 cap1 zs w1 hH h6 (by omega)
    have hl2 : (zs.mergeSort fun x y => decide (x ≤ y)).length = zs.length := List.length_mergeSort zs
    obtain ⟨hS1, hS2⟩ := compact_sortedS zs
    have hle := Lib.compact_length_le (zs.mergeSort fun x y => decide (x ≤ y))
    generalize (zs.mergeSort fun x y => decide (x ≤ y)) = ys at *
    rw [hlen] at hsort hl2
    have HS := Lib.hid hsort; have HH := Lib.hid hH; have HSET : Hid (SetOfS (Lib.compact ys) zs) := Lib.hid ⟨hS1, hS2⟩
    have HL2 := Lib.hid hl2; have HLE := Lib.hid hle; have HG1 := Lib.hid hg1; have H6 := Lib.hid h6; have HNC := Lib.hid hnc; have HCM := Lib.hid hcm
    clear h3 h4 h5 h6 hg1 hH hsort hS1 hS2 hl2 hle hlen hnc hcm HCE HC
    go_wp2_with fail
    refine HS.out.mono ?_
    rintro e w2 ⟨rfl, nn, os, hw2⟩
    have hg2 : w1.grownBy w2 (some g1) := by rw [hw2]; exact gb_grow (gb_putRow _ _ _ _ _) os
    have hH2 : Holds encStr w2 g1 0 ys.toArray := by
      rw [hw2]
      exact holds_grow _ _ os g1 0 _ (by simpa [putRow, mapBlock, Sort.ahead] using H6.out) (holds_putRow _ _ g1 0 _ _ (holds_ahead _ w1 nn g1 0 _ HH.out) (by simp [HL2.out, HN.out]))
    clear hw2
    have hcomp := Tryz.slices_Compact_string g1 0 cap1 ys w2 hH2 (by have := HL2.out; omega) (by have := HL2.out; have := HNC.out; omega)
    rw [HL2.out] at hcomp
    have HS2 := Lib.hid hcomp; have HG2 := Lib.hid hg2; have HH2 := Lib.hid hH2
    clear hcomp hg2 hH2 HS HH
    go_wp2_with fail
    refine HS2.out.mono ?_
    rintro e w3 ⟨rfl, q, hw3⟩
    have hg3 : w2.grownBy w3 (some g1) := by rw [hw3]; exact gb_putRow _ _ _ _ _
    have hH3 : Holds encStr w3 g1 0 (Lib.compact ys ++ List.replicate (n - (Lib.compact ys).length) []).toArray := by
      rw [hw3]
      exact holds_putRow _ _ g1 0 _ _ (holds_ahead _ w2 q g1 0 _ HH2.out) (by have := HL2.out; have := HLE.out; simp; omega)
    clear hw3 HS2 HH2
    have hg13 := gb_trans HG2.out hg3
    have hb3 := (hg13.block _ (Array.getElem?_eq_some_iff.1 HB1.out).1 (by have := HG1.out; simp; omega)).trans HB1.out
    have hl3 : SAt w3 (some ⟨g1, 0, none⟩) (Lib.compact ys) := .inr ⟨g1, 0, rfl, Nat.lt_of_lt_of_le H6.out hg13.size, fun j hj => by
      have := (hH3 j (by simp; omega)).1
      rw [this, getElem!_pos _ _ (by simp; omega)]
      simp [List.getD, hj]⟩
    obtain ⟨b1, b2⟩ := box1 (u := .slice (some ⟨g1, 0, none⟩) (Lib.compact ys).length cap1) hb3
    have hcl : w3.cell? ⟨w.heap.size, 0, none⟩ = some (.slice none 0 0) := by rw [cell_of_row _ w.heap.size 0 _ _ (0, 0) hb3]; rfl
    have hfr : w3.frozen? ⟨w.heap.size, 0, none⟩ = false := by simp [World.frozen?, hb3]
    have HL3 := Lib.hid hl3; have HG3 := Lib.hid (gb_new (gb_below G1.out) (by have := HG1.out; omega) hg13)
    clear hg3 hH3 hg13 hb3 hl3 HG2
    go_wp2_with fail
    exact bodyPost_ret (v := .agg #[.slice (some ⟨g1, 0, none⟩) (Lib.compact ys).length cap1]) (by simp [results, Tryz.results82, go_sem, b2]) rfl ⟨Lib.compact ys, _, _, _, rfl, HSET.out, ⟨_, _, rfl, by have := HLE.out; have := HL2.out; have := HNC.out; omega, HCM.out, HL3.out.grown (gb_set (gb_refl _ _) _) (fun _ a ha => by injection ha with ha; subst ha; have := HG1.out; simp; omega)⟩, (fun p n c e hn => by injection e with e1; subst e1; exact ⟨_, rfl, by have := HG1.out; simp; omega⟩), by have := HLE.out; have := HL2.out; rw [HN.out]; omega, below_gb (gb_new HG3.out (Nat.le_refl _) (gb_set (gb_refl _ _) _))⟩

def LPostS (S : List (List UInt8)) (w : World) (e : Ending) (w' : World) : Prop := ∃ p n c, e = .returned (.slice p n c) ∧ IsSL w' (.slice p n c) S ∧ Fr w.heap.size (.slice p n c) ∧ w.grownBy w' none

theorem isSL_of_row {w : World} {base : Nat} {e : TypeId} {v : Value} {S : List (List UInt8)} (h : w.ownsRow base e 1 v S.length (S.map encStr)) : IsSL w v S ∧ Fr base v := by
  by_cases hv : v = .slice none 0 0
  · subst hv
    rcases h.2 with ⟨-, h0⟩ | ⟨g, cap, cur, he, _⟩
    · obtain rfl := List.eq_nil_of_length_eq_zero h0
      exact ⟨isSL_nil _, fr_nil _ _ _⟩
    · cases he
  · obtain ⟨g, cap, rfl, h1, h2, h3, h4, h5, h6⟩ := Lib.holds_of_ownsRow (enc := encStr) h hv
    exact ⟨⟨_, _, rfl, h3, h4, sat_of_holds h6 h2⟩, fun p n c e hn => by injection e with e1; subst e1; exact ⟨_, rfl, h1⟩⟩

theorem CloneS_c (p : Option Addr) (c : Nat) (S : List (List UInt8)) (w : World) (hl : S.length ≤ 1000000) (h : SAt w p S) : Calls Tryz.prog 123 #[.slice p S.length c] w (LPostS S w) := by
  have hfin : ∀ e w', (∃ v', e = Ending.returned v' ∧ w'.ownsRow w.heap.size 9 1 v' S.length (S.map encStr) ∧ v' ≠ .slice none 0 0 ∧ Below w.heap.size w w') → LPostS S w e w' := by
    rintro e w' ⟨v', rfl, h1, -, h2⟩
    obtain ⟨k1, k2⟩ := isSL_of_row h1
    obtain ⟨p, c, rfl, r⟩ := k1
    exact ⟨_, _, _, rfl, ⟨p, c, rfl, r⟩, k2, below_gb h2⟩
  by_cases h0 : S = []
  · subst h0
    cases p with
    | none => exact (Tryz.slices_Clone_string_nil 0 c w).mono fun e w' ⟨h1, h2⟩ => ⟨none, 0, 0, h1, by subst h2; exact isSL_nil _, fr_nil _ _ _, by subst h2; exact gb_refl _ _⟩
    | some a => exact (Tryz.slices_Clone_string_zero a c w).mono fun e w' h => hfin e w' (by simpa using h)
  · obtain ⟨g, off, rfl, hg, hc⟩ := h.resolve_left h0
    exact (Tryz.slices_Clone_string g off S.length c (S.map fun l => ⟨l.toArray⟩) w (by simp) (by omega) (fun j hj => by have h1 := hc j (by simpa using hj); rw [h1]; have hj2 : j < S.length := (by simpa using hj); simp [List.getD, hj2])).mono fun e w' h => hfin e w' (by obtain ⟨v, e1, e2, e3⟩ := h; refine ⟨v, e1, ?_, e3⟩; have e4 : (S.map fun l => (⟨l.toArray⟩ : ByteArray)).take S.length = S.map fun l => ⟨l.toArray⟩ := List.take_of_length_le (by simp); rw [e4, List.map_map] at e2; exact e2)

set_option maxRecDepth 100000 in
theorem ItemsS_c (p : Option Addr) (c : Nat) (S : List (List UInt8)) (w : World) (hl : S.length ≤ 1000000) (h : SAt w p S) : Calls Tryz.prog 83 #[.agg #[.slice p S.length c]] w (LPostS S w) := by
  have hga := World.grownBy_alloc w (.cells #[.slice p S.length c] 148) none
  have HC := Lib.hid (CloneS_c p c S _ hl (h.kept hga))
  have HGA := Lib.hid hga
  have hcl : (w.alloc (.cells #[.slice p S.length c] 148)).cell? ⟨w.heap.size, 0, none⟩ = some (.slice p S.length c) := by rw [cell_of_row _ w.heap.size 0 _ _ (0, 0) (heap_alloc_new w _)]; rfl
  clear h hga
  generalize S.length = n at *
  go_enter Tryz.func83, Tryz.ntmps83
  go_wp2_with (go_at_call 123; refine HC.out.mono ?_; rintro e w2 ⟨p2, n2, c2, rfl, h1, h2, h3⟩; have H1 := Lib.hid h1; have H2 := Lib.hid h2; have H3 := Lib.hid h3; clear h1 h2 h3)
  go_ret
  exact ⟨_, _, _, rfl, H1.out, H2.out.le (by simp), gb_trans HGA.out H3.out⟩
end Go.Proofs.YtmlcpihedmmlfaaGreatDoor.Bg
