/- Trees of tokens, over lists: the right form; leaves, sizes and dumps by recursion on places; how many leaves there are. -/
import Derived.Test.YtmlcpihedmmlfaaGreatDoorM0
import Derived.Laws.OwnMore
import Derived.Deep.RegionWith
import Derived.Deep.RegionLaw
import Derived.Test.YtmlcpihedmmlfaaGreatDoorM3
import Derived.RangeFuncNested
import Derived.RangeFuncBound
import Derived.RangeFuncCalls
import Derived.RangeFuncLeaves
import Derived.Shelf.Abstract
import Derived.Shelf.RegionOpen
import Derived.WalkKit
import Derived.OwnWalkIn
import Derived.TacticsInMore
import Derived.LoopNIn
import Derived.LoopIn
import Derived.Maps.OwnIn
set_option linter.unusedVariables false
set_option linter.unusedSimpArgs false
namespace Go.Proofs.YtmlcpihedmmlfaaGreatDoor

structure TokI where
  kind : Int
  lead : List UInt8
  text : List UInt8
  pos : Int
structure Nd where
  kind : Int
  tok : Int
  kids : List Int

/-- Recursion on places. -/
def rc {α : Type} (d : α) (F : Nd → (Int → α) → α) (N : List Nd) : Nat → Nat → α
  | 0, _ => d
  | f + 1, n => match N[n]? with
    | none => d
    | some x => F x (fun k => rc d F N f k.toNat)
def rcw {α : Type} (d : α) (F : Nd → (Int → α) → α) (N : List Nd) (n : Nat) : α := rc d F N (n + 1) n

def KidsAhead (N : List Nd) : Prop := ∀ (i : Nat) (x : Nd), N[i]? = some x → ∀ k ∈ x.kids, 0 ≤ k ∧ k < (i : Int)

def Cong {α : Type} (F : Nd → (Int → α) → α) : Prop := ∀ x g g', (∀ k ∈ x.kids, g k = g' k) → F x g = F x g'

theorem rc_same {α : Type} {d : α} {F : Nd → (Int → α) → α} {N : List Nd} (hN : KidsAhead N) (hF : Cong F) : ∀ n f f', n < f → n < f' → rc d F N f n = rc d F N f' n := by
  intro n
  induction n using Nat.strongRecOn with
  | ind n ih =>
    intro f f' hf hf'
    match f, f', hf, hf' with
    | f + 1, f' + 1, hf, hf' =>
      unfold rc
      cases hx : N[n]? with
      | none => rfl
      | some x =>
        refine hF x _ _ fun k hk => ?_
        have := hN n x hx k hk
        exact ih k.toNat (by omega) f f' (by omega) (by omega)

theorem rcw_eq {α : Type} {d : α} {F : Nd → (Int → α) → α} {N : List Nd} (hN : KidsAhead N) (hF : Cong F) {n : Nat} {x : Nd} (hx : N[n]? = some x) : rcw d F N n = F x (fun k => rcw d F N k.toNat) := by
  unfold rcw
  rw [rc, hx]
  refine hF x _ _ fun k hk => ?_
  have := hN n x hx k hk
  exact rc_same hN hF _ _ _ (by omega) (by omega)

/-! ### Leaves, sizes, dumps -/

def lvF (x : Nd) (g : Int → List Int) : List Int := if x.kind = 19 then [x.tok] else x.kids.flatMap g
def szF (x : Nd) (g : Int → Nat) : Nat := 1 + (x.kids.map g).sum
def digL (k : Int) : List UInt8 := if k < 10 then [UInt8.ofNat (48 + k).toNat] else [UInt8.ofNat (48 + k / 10).toNat, UInt8.ofNat (48 + k % 10).toNat]
def tokL (T : List TokI) (j : Int) : List UInt8 := match T[j.toNat]? with
  | none => []
  | some t => if t.kind = 5 then 36 :: t.text else t.text
def dpF (T : List TokI) (x : Nd) (g : Int → List UInt8) : List UInt8 := if x.kind = 19 then tokL T x.tok else [40] ++ digL x.kind ++ (x.kids.flatMap fun k => 32 :: g k) ++ [41]

def lv (N : List Nd) (n : Nat) : List Int := rcw [] lvF N n
def sz (N : List Nd) (n : Nat) : Nat := rcw 0 szF N n
def dp (T : List TokI) (N : List Nd) (n : Nat) : List UInt8 := rcw [] (dpF T) N n

theorem flatMap_cong {α β : Type} {l : List α} {g g' : α → List β} (h : ∀ k ∈ l, g k = g' k) : l.flatMap g = l.flatMap g' := by
  induction l with
  | nil => rfl
  | cons a l ih => rw [List.flatMap_cons, List.flatMap_cons, h a List.mem_cons_self, ih fun k hk => h k (List.mem_cons_of_mem _ hk)]

theorem lvF_cong : Cong lvF := fun x g g' h => by unfold lvF; rw [flatMap_cong h]
theorem szF_cong : Cong szF := fun x g g' h => by unfold szF; rw [List.map_congr_left h]
theorem dpF_cong (T : List TokI) : Cong (dpF T) := fun x g g' h => by unfold dpF; rw [flatMap_cong fun k hk => by rw [h k hk]]

theorem lv_eq {N : List Nd} (hN : KidsAhead N) {n : Nat} {x : Nd} (hx : N[n]? = some x) : lv N n = if x.kind = 19 then [x.tok] else x.kids.flatMap fun k => lv N k.toNat := rcw_eq hN lvF_cong hx
theorem sz_eq {N : List Nd} (hN : KidsAhead N) {n : Nat} {x : Nd} (hx : N[n]? = some x) : sz N n = 1 + (x.kids.map fun k => sz N k.toNat).sum := rcw_eq hN szF_cong hx
theorem dp_eq {T : List TokI} {N : List Nd} (hN : KidsAhead N) {n : Nat} {x : Nd} (hx : N[n]? = some x) : dp T N n = if x.kind = 19 then tokL T x.tok else [40] ++ digL x.kind ++ (x.kids.flatMap fun k => 32 :: dp T N k.toNat) ++ [41] := rcw_eq hN (dpF_cong T) hx

/-! ### The right form -/

def allKids (N : List Nd) : List Int := N.flatMap (·.kids)
def times (N : List Nd) (j : Nat) : Nat := (allKids N).count (j : Int)

def okNd (m i : Nat) (x : Nd) : Prop := 1 ≤ x.kind ∧ x.kind ≤ 19 ∧ (x.kind = 19 → x.kids = [] ∧ 0 ≤ x.tok ∧ x.tok < (m : Int)) ∧ (x.kind ≠ 19 → x.tok = -1) ∧ ∀ k ∈ x.kids, 0 ≤ k ∧ k < (i : Int)
def Forms (m : Nat) (N : List Nd) : Prop := N ≠ [] ∧ (∀ (i : Nat) (x : Nd), N[i]? = some x → okNd m i x) ∧ ∀ j : Nat, j + 1 < N.length → times N j = 1
def rightT (m : Nat) (N : List Nd) : Prop := Forms m N ∧ lv N (N.length - 1) = (List.range m).map (fun (i : Nat) => (i : Int))

theorem Forms.ahead {m : Nat} {N : List Nd} (h : Forms m N) : KidsAhead N := fun i x hx => (h.2.1 i x hx).2.2.2.2

/-! ### How many -/

theorem sum_split (c : Int → Nat) (m : Int) (L : List Int) : (L.map c).sum = L.count m * c m + ((L.filter fun k => decide (k ≠ m)).map c).sum := by
  induction L with
  | nil => simp
  | cons a L ih =>
    rw [List.map_cons, List.sum_cons, ih, List.count_cons]
    by_cases h : a = m
    · subst h; simp; rw [Nat.add_mul]; omega
    · rw [List.filter_cons_of_pos (by simpa using h)]
      simp [h]; omega

theorem count_filter_le (m : Int) (L : List Int) (j : Int) : (L.filter fun k => decide (k ≠ m)).count j ≤ L.count j := List.Sublist.count_le _ List.filter_sublist

theorem sum_le (c : Int → Nat) : ∀ (m : Nat) (L : List Int), (∀ k ∈ L, 0 ≤ k ∧ k < (m : Int)) → (∀ j : Nat, j < m → L.count (j : Int) ≤ 1) → (L.map c).sum ≤ ((List.range m).map fun (i : Nat) => c i).sum := by
  intro m
  induction m with
  | zero =>
    intro L h _
    cases L with
    | nil => simp
    | cons a L => have := h a List.mem_cons_self; omega
  | succ m ih =>
    intro L h hc
    rw [sum_split c (m : Int) L, List.range_succ, List.map_append, List.sum_append]
    have h1 := ih (L.filter fun k => decide (k ≠ (m : Int))) (fun k hk => by
      obtain ⟨h2, h3⟩ := List.mem_filter.1 hk
      have := h k h2
      simp at h3
      omega) (fun j hj => Nat.le_trans (count_filter_le _ _ _) (hc j (by omega)))
    have h2 := hc m (by omega)
    have h3 : L.count (m : Int) * c m ≤ 1 * c m := Nat.mul_le_mul_right _ h2
    simp only [List.map_cons, List.map_nil, List.sum_cons, List.sum_nil]
    omega

theorem range_map_get {N : List Nd} (hN : KidsAhead N) : ∀ i, i ≤ N.length → ((List.range i).map fun (j : Nat) => sz N j).sum = i + ((allKids (N.take i)).map fun k => sz N k.toNat).sum := by
  intro i
  induction i with
  | zero => intro _; simp [allKids]
  | succ i ih =>
    intro hi
    obtain ⟨x, hx⟩ : ∃ x, N[i]? = some x := ⟨N[i]'(by omega), List.getElem?_eq_getElem _⟩
    rw [List.range_succ, List.map_append, List.sum_append, ih (by omega), List.take_add_one, hx]
    unfold allKids
    rw [List.flatMap_append, List.map_append, List.sum_append]
    simp only [List.map_cons, List.map_nil, List.sum_cons, List.sum_nil, Option.toList_some, List.flatMap_cons, List.flatMap_nil, List.append_nil]
    rw [sz_eq hN hx]
    omega

theorem count_take (N : List Nd) (i j : Nat) : times (N.take i) j ≤ times N j := by
  unfold times allKids
  have : N.flatMap (·.kids) = (N.take i).flatMap (·.kids) ++ (N.drop i).flatMap (·.kids) := by rw [← List.flatMap_append, List.take_append_drop]
  rw [this, List.count_append]; omega

theorem sz_le {m : Nat} {N : List Nd} (h : Forms m N) {n : Nat} (hn : n < N.length) : sz N n ≤ n + 1 := by
  have hN := h.ahead
  have h1 := range_map_get hN (n + 1) (by omega)
  rw [List.range_succ, List.map_append, List.sum_append] at h1
  simp only [List.map_cons, List.map_nil, List.sum_cons, List.sum_nil] at h1
  have h2 := sum_le (fun k => sz N k.toNat) n (allKids (N.take (n + 1))) (fun k hk => by
    unfold allKids at hk
    obtain ⟨x, hx, hk⟩ := List.mem_flatMap.1 hk
    obtain ⟨i, hi⟩ := List.getElem?_of_mem hx
    have hi2 : i < n + 1 := by
      have := (List.getElem?_eq_some_iff.1 hi).1
      rw [List.length_take] at this; omega
    rw [List.getElem?_take_of_lt hi2] at hi
    have := hN i x hi k hk
    omega) (fun j hj => by
      have h3 := count_take N (n + 1) j
      rw [h.2.2 j (by omega)] at h3
      exact h3)
  simp only [Int.toNat_natCast] at h2
  omega

theorem kids_len {m : Nat} {N : List Nd} (h : Forms m N) {n : Nat} {x : Nd} (hx : N[n]? = some x) : x.kids.length + 1 ≤ sz N n := by
  have hN := h.ahead
  have hn := (List.getElem?_eq_some_iff.1 hx).1
  rw [sz_eq hN hx]
  have : ∀ L : List Int, (∀ k ∈ L, 0 ≤ k ∧ k < (n : Int)) → L.length ≤ (L.map fun k => sz N k.toNat).sum := by
    intro L
    induction L with
    | nil => intro _; simp
    | cons a L ih2 =>
      intro hL
      have h0 := hL a List.mem_cons_self
      have h2 := ih2 fun k hk => hL k (List.mem_cons_of_mem _ hk)
      obtain ⟨y, hy⟩ : ∃ y, N[a.toNat]? = some y := ⟨N[a.toNat]'(by omega), List.getElem?_eq_getElem _⟩
      have h3 := sz_eq hN hy
      simp only [List.length_cons, List.map_cons, List.sum_cons]
      omega
  have := this x.kids (hN n x hx)
  omega

theorem digL_len (k : Int) : (digL k).length ≤ 2 := by unfold digL; split <;> simp

end Go.Proofs.YtmlcpihedmmlfaaGreatDoor
namespace Go.Proofs.YtmlcpihedmmlfaaGreatDoor
open Go.RowKit

def Wid (s : Nat) (l : List (List Value)) : Prop := ∀ q ∈ l, q.length = s ∧ ∀ u ∈ q, u.oneCell' = true

theorem flat_get {s : Nat} {l : List (List Value)} (hw : Wid s l) : ∀ (j : Nat) (q : List Value), l[j]? = some q → ∀ (i : Nat) (v : Value), q[i]? = some v → l.flatten[j * s + i]? = some v := by
  induction l with
  | nil => intro j q h; simp at h
  | cons a l ih =>
    intro j q hj i v hi
    have ha := (hw a List.mem_cons_self).1
    rw [List.flatten_cons]
    match j, hj with
    | 0, hj =>
      simp at hj; subst hj
      rw [Nat.zero_mul, Nat.zero_add, List.getElem?_append_left (List.getElem?_eq_some_iff.1 hi).1]; exact hi
    | j + 1, hj =>
      have h2 : (j + 1) * s + i = a.length + (j * s + i) := by rw [ha, Nat.add_mul]; omega
      rw [h2, List.getElem?_append_right (by omega), Nat.add_sub_cancel_left]
      exact ih (fun q hq => hw q (List.mem_cons_of_mem _ hq)) j q (by simpa using hj) i v hi

theorem flat_len {s : Nat} {l : List (List Value)} (hw : Wid s l) : l.flatten.length = l.length * s := by
  induction l with
  | nil => simp
  | cons a l ih => rw [List.flatten_cons, List.length_append, ih fun q hq => hw q (List.mem_cons_of_mem _ hq), (hw a List.mem_cons_self).1, List.length_cons, Nat.add_mul]; omega

/-- A slice reads as a list of structs of s cells. -/
def GAt (s : Nat) (w : World) (p : Option Addr) (l : List (List Value)) : Prop :=
  l = [] ∨ ∃ g off, p = some ⟨g, off, none⟩ ∧ g < w.heap.size ∧ ∀ (j : Nat) (q : List Value), l[j]? = some q → ∀ (i : Nat) (v : Value), q[i]? = some v → w.cell? ⟨g, off + j * s + i, none⟩ = some v

theorem GAt.kept {s : Nat} {w w' : World} {p : Option Addr} {l : List (List Value)} (h : GAt s w p l) (hg : w.grownBy w' none) : GAt s w' p l := by
  rcases h with h | ⟨g, off, rfl, hl, hc⟩
  · exact .inl h
  · exact .inr ⟨g, off, rfl, Nat.lt_of_lt_of_le hl hg.size, fun j q hj i v hi => hg.cell (hc j q hj i v hi) (by simp)⟩

theorem GAt.keptS {S : Nat → Prop} {s : Nat} {w w' : World} {p : Option Addr} {l : List (List Value)} (h : GAt s w p l) (hg : Fr2 S w w') (hS : l ≠ [] → ∀ a, p = some a → ¬ S a.block) : GAt s w' p l := by
  rcases h with h | ⟨g, off, rfl, hl, hc⟩
  · exact .inl h
  · by_cases h0 : l = []
    · exact .inl h0
    · exact .inr ⟨g, off, rfl, Nat.lt_of_lt_of_le hl hg.size, fun j q hj i v hi => by rw [World.cell?_of_block (w := w) (hg.block g hl (hS h0 ⟨g, off, none⟩ rfl))]; exact hc j q hj i v hi⟩

theorem GAt.blk {s : Nat} {w : World} {p : Option Addr} {l : List (List Value)} (h : GAt s w p l) : l ≠ [] → ∀ a, p = some a → a.block < w.heap.size := fun h0 a ha => by
  obtain ⟨g, off, rfl, hl, -⟩ := h.resolve_left h0
  injection ha with ha; subst ha; exact hl

theorem GAt.nil {s : Nat} {w : World} {p : Option Addr} : GAt s w p [] := .inl rfl

/-- A row of one's own. -/
def OwnG (s : Nat) (T : TypeId) (w : World) (base : Nat) (v : Value) (l : List (List Value)) : Prop := w.ownsRow base T s v l.length l.flatten ∧ Wid s l

theorem OwnG.nil (s : Nat) (T : TypeId) (w : World) (base : Nat) : OwnG s T w base (.slice none 0 0) [] := ⟨World.ownsRow_nil _ _ _ _, fun q hq => by simp at hq⟩
theorem OwnG.kept {s : Nat} {T : TypeId} {w w' : World} {base : Nat} {v : Value} {l : List (List Value)} (h : OwnG s T w base v l) (hg : w.grownBy w' none) : OwnG s T w' base v l := ⟨World.ownsRow.kept h.1 hg (by
  cases hv : v.ownBlock with
  | none => exact .inl rfl
  | some k => exact .inr (by simp)), h.2⟩

theorem OwnG.keptS {S : Nat → Prop} {s : Nat} {T : TypeId} {w w' : World} {base : Nat} {v : Value} {l : List (List Value)} (h : OwnG s T w base v l) (hg : Fr2 S w w') (hS : ∀ g, base ≤ g → ¬ S g) : OwnG s T w' base v l :=
  ⟨⟨h.1.1, h.1.2.imp id fun ⟨g, cap, cur, e, hb, hh, r⟩ => ⟨g, cap, cur, e, hb, hg.keep hh (hS g hb), r⟩⟩, h.2⟩

theorem OwnG.is {s : Nat} {T : TypeId} {w : World} {base : Nat} {v : Value} {l : List (List Value)} (h : OwnG s T w base v l) : ∃ p c, v = .slice p l.length c ∧ GAt s w p l ∧ l.length ≤ c ∧ c ≤ maxLen ∧ (l ≠ [] → ∀ a, p = some a → base ≤ a.block) := by
  rcases h.1.2 with ⟨rfl, h0⟩ | ⟨g, cap, cur, rfl, hb, hg, hnc, hcm, h1, h2⟩
  · have : l = [] := List.eq_nil_of_length_eq_zero h0
    subst this
    exact ⟨none, 0, rfl, .inl rfl, Nat.le_refl _, by unfold maxLen; omega, fun h => absurd rfl h⟩
  · refine ⟨_, cap, rfl, .inr ⟨g, 0, rfl, hlt hg, fun j q hj i v hi => ?_⟩, hnc, hcm, fun _ a ha => by injection ha with ha; subst ha; exact hb⟩
    have h3 := flat_get h.2 j q hj i v hi
    have h' : w.ownsRow base T s (.slice (some ⟨g, 0, none⟩) l.length cap) l.length l.flatten := h.1
    have h4 := (List.getElem?_eq_some_iff.1 h3).1
    rw [flat_len h.2] at h4
    rw [Nat.zero_add, h'.cellAt _ h4]; exact h3

theorem OwnG.lt {s : Nat} {T : TypeId} {w : World} {base : Nat} {v : Value} {l : List (List Value)} (h : OwnG s T w base v l) {p : Option Addr} {n c : Nat} (hv : v = .slice p n c) (hn : 0 < n) : ∃ a, p = some a ∧ base ≤ a.block ∧ a.block < w.heap.size := by
  rcases h.1.2 with ⟨h1, h0⟩ | ⟨g, cap, cur, h1, hb, hg, -⟩
  · rw [hv] at h1; injection h1 with h1 h2 h3; omega
  · rw [hv] at h1; injection h1 with h1 h2 h3; subst h1; exact ⟨_, rfl, hb, hlt hg⟩

/-- append of no element. -/
theorem run_append_zero {P : Program} {w : World} (base : Nat) (t ty e : TypeId) (i : TypeInfo) (size : Nat) (ht : P.underlying t = some (.slice e)) (hi : P.info? e = some i)
    (v : Value) (n : Nat) (xs : List Value) (hown : w.ownsRow base e size v n xs) (p : Option Addr) (c : Nat) :
    (Builtin.append_ #[t, t] ty #[v, .slice p 0 c]).run P w = .ok v w := by
  rcases hown.2 with ⟨rfl, rfl⟩ | ⟨g, cap, cur, rfl, _, _, hnc, _⟩
  · cases p <;> simp [Builtin.append_, run_underlying ht, sizeOf, typeInfo, hi, Builtin.lenOf, Builtin.firstCells, loadCells, loadCellsFrom]
  · cases p <;> simp [Builtin.append_, run_underlying ht, sizeOf, typeInfo, hi, Builtin.lenOf, Builtin.firstCells, hnc, storeCells, loadCells, loadCellsFrom]

theorem wpList_append_zero {P : Program} {w : World} {ops : Array Oper} {rest : List Oper} {o : Oper} {a : Act} {Q : Exit → Act → World → Prop} (hgd : o.guard = none) (s x : Operand) (t : TypeId)
    (ho : o.op = .call { callee := .builtin .append, args := #[s, x], argTypes := #[t, t] })
    (base : Nat) (e : TypeId) (i : TypeInfo) (size : Nat) (ht : P.underlying t = some (.slice e)) (hi : P.info? e = some i)
    (v : Value) (n : Nat) (xs : List Value) (hs : a.eval s = v) (hown : w.ownsRow base e size v n xs) (p : Option Addr) (c : Nat) (hx : a.eval x = .slice p 0 c)
    (h : wpList P ops Q rest (a.put o.dst v) w) : wpList P ops Q (o :: rest) a w := by
  refine wpList_plain hgd fun K hK => ?_
  have hrun := run_append_zero (P := P) (w := w) base t o.type e i size ht hi v n xs hown p c
  unfold Oper.wp
  simp [execOp, ho, resolve, invoke, builtin, hs, hx, hrun, Result.andThen]
  exact hK _ _ h
/-- append of a whole row onto one's own. -/
theorem wpList_appGs {s : Nat} {t T : TypeId} {z : Value} {by' : Nat} (hs0 : 0 < s) (ht : Tryz.prog.underlying t = some (.slice T)) (hT : (Tryz.prog.info? T).map (fun i => (i.zero, i.size, i.bytes)) = some (some z, s, by')) (hz : z.cells.size = s) (hby : by' ≤ 1000)
    {w0 : World} {ops : Array Oper} {rest : List Oper} {o : Oper} {a : Act} {Q : Exit → Act → World → Prop} (hgd : o.guard = none) (os ox : Operand) (ho : o.op = .call { callee := .builtin .append, args := #[os, ox], argTypes := #[t, t] })
    (base : Nat) (l ys : List (List Value)) (hy : Wid s ys) (v : Value) (hs : a.eval os = v) (hown : OwnG s T w0 base v l) (p : Option Addr) (m c : Nat) (hx : a.eval ox = .slice p m c) (hm : ys.length = m) (hys : GAt s w0 p ys) (hn : l.length ≤ 1000000) (hn2 : m ≤ 1000000) (hbase : base ≤ w0.heap.size)
    (K : ∀ p' n' cap' w', n' = l.length + m → OwnG s T w' base (.slice p' n' cap') (l ++ ys) → Below base w0 w' → w0.grownBy w' v.ownBlock → wpList Tryz.prog ops Q rest (a.put o.dst (.slice p' n' cap')) w') :
    wpList Tryz.prog ops Q (o :: rest) a w0 := by
  obtain ⟨i0, hi, hi0, hi1, hi2⟩ := info_parts hT
  by_cases hm0 : m = 0
  · subst hm0
    have : ys = [] := List.eq_nil_of_length_eq_zero hm
    subst this
    obtain ⟨p', c', rfl, -⟩ := hown.is
    exact wpList_append_zero hgd os ox t ho base T i0 s ht hi _ _ _ hs hown.1 p c hx (K p' _ c' w0 rfl (by simpa using hown) (Below.refl _ _) (gb_refl _ _))
  have hm0 : 0 < m := by omega
  have hb : (l.length + m) * by' ≤ 140737488355328 := by
    have : (l.length + m) * by' ≤ (l.length + m) * 1000 := Nat.mul_le_mul_left _ hby
    omega
  obtain ⟨g, off, rfl, hgl, hc⟩ := hys.resolve_left (fun h => by rw [h] at hm; simp at hm; omega)
  refine wpList_append_lies (P := Tryz.prog) _ hgd os ox t ho base T i0 z s by' ht hi hi0 hi1 hi2 hz hs0 _ l.length l.flatten hs hown.1 ⟨g, off, none⟩ m c ys.flatten hx (by rw [flat_len hy, hm]) ?_ ?_ hm0 (by unfold maxLen; omega) hb hbase w0.heap.size rfl ?_
  · intro j u hj
    have hj2 := (List.getElem?_eq_some_iff.1 hj).1
    rw [flat_len hy] at hj2
    have hq : j / s < ys.length := (Nat.div_lt_iff_lt_mul hs0).2 hj2
    have h3 := List.getElem?_eq_getElem hq
    have hr : j % s < (ys[j / s]).length := by rw [(hy _ (List.getElem_mem hq)).1]; exact Nat.mod_lt _ hs0
    have h4 := List.getElem?_eq_getElem hr
    have h5 := flat_get hy _ _ h3 _ _ h4
    have h6 : j / s * s + j % s = j := by rw [Nat.mul_comm]; exact Nat.div_add_mod j s
    rw [h6, hj] at h5
    have h5 := Option.some.inj h5
    rw [Addr.add_lit, h5, ← hc _ _ h3 _ _ h4, Nat.add_assoc, h6]
  · intro u hu
    obtain ⟨q, hq, hu⟩ := List.mem_flatten.1 hu
    exact (hy q hq).2 u hu
  · intro g' cap' w' h3 h4 h5 _
    refine K _ _ cap' w' rfl ⟨by simpa [hm] using h3, fun q hq => ?_⟩ (below_own hown.1 hbase h4) h4
    rcases List.mem_append.1 hq with hq | hq
    · exact hown.2 q hq
    · exact hy q hq

/-! ### Rows of one cell each -/

def one (zs : List Value) : List (List Value) := zs.map ([·])
theorem one_len (zs : List Value) : (one zs).length = zs.length := List.length_map _
theorem one_flat (zs : List Value) : (one zs).flatten = zs := by
  induction zs with
  | nil => rfl
  | cons a l ih => simpa [one] using ih
theorem one_append (a b : List Value) : one (a ++ b) = one a ++ one b := List.map_append
theorem one_wid {zs : List Value} (h : ∀ u ∈ zs, u.oneCell' = true) : Wid 1 (one zs) := fun q hq => by
  obtain ⟨u, hu, rfl⟩ := List.mem_map.1 hq
  exact ⟨rfl, fun v hv => by simp at hv; subst hv; exact h _ hu⟩
theorem g_of_v {w : World} {p : Option Addr} {zs : List Value} (h : VAt w p zs) : GAt 1 w p (one zs) := by
  rcases h with rfl | ⟨g, off, rfl, hl, hc⟩
  · exact .inl rfl
  · refine .inr ⟨g, off, rfl, hl, fun j q hj i v hi => ?_⟩
    unfold one at hj
    rw [List.getElem?_map] at hj
    obtain ⟨u, hu, rfl⟩ := Option.map_eq_some_iff.1 hj
    match i, hi with
    | 0, hi => simp at hi; subst hi; simpa using hc j _ hu
theorem v_of_g {w : World} {p : Option Addr} {zs : List Value} (h : GAt 1 w p (one zs)) : VAt w p zs := by
  rcases h with h | ⟨g, off, rfl, hl, hc⟩
  · refine .inl ?_
    unfold one at h; exact List.map_eq_nil_iff.1 h
  · refine .inr ⟨g, off, rfl, hl, fun j u hj => ?_⟩
    have := hc j [u] (by unfold one; rw [List.getElem?_map, hj]; rfl) 0 u rfl
    simpa using this
end Go.Proofs.YtmlcpihedmmlfaaGreatDoor
namespace Go.Proofs.YtmlcpihedmmlfaaGreatDoor
open Go.RowKit

def tokVI (t : TokI) : List Value := [.int .i64 t.kind, strV t.lead, strV t.text, .int .i64 t.pos]
def intsV (l : List Int) : List Value := l.map (Value.int .i64)
def ndV (K : Nat → Option Addr × Nat) (i : Nat) (x : Nd) : List Value := [.int .i64 x.kind, .int .i64 x.tok, .slice (K i).1 x.kids.length (K i).2]
def ndsV (K : Nat → Option Addr × Nat) (N : List Nd) : List (List Value) := N.mapIdx (ndV K)
def toksV (T : List TokI) : List (List Value) := T.map tokVI

def KidsAt (w : World) (N : List Nd) (K : Nat → Option Addr × Nat) : Prop := ∀ (i : Nat) (x : Nd), N[i]? = some x → VAt w (K i).1 (intsV x.kids)
def NodesAt (w : World) (p : Option Addr) (N : List Nd) (K : Nat → Option Addr × Nat) : Prop := GAt 3 w p (ndsV K N) ∧ KidsAt w N K
def ToksAt (w : World) (p : Option Addr) (T : List TokI) : Prop := GAt 4 w p (toksV T)

theorem NodesAt.kept {w w' : World} {p : Option Addr} {N : List Nd} {K : Nat → Option Addr × Nat} (h : NodesAt w p N K) (hg : w.grownBy w' none) : NodesAt w' p N K := ⟨h.1.kept hg, fun i x hx => (h.2 i x hx).kept hg⟩
theorem ToksAt.kept {w w' : World} {p : Option Addr} {T : List TokI} (h : ToksAt w p T) (hg : w.grownBy w' none) : ToksAt w' p T := GAt.kept h hg

theorem intsV_len (l : List Int) : (intsV l).length = l.length := List.length_map _
theorem intsV_one (l : List Int) : ∀ u ∈ intsV l, u.oneCell' = true := fun u hu => by obtain ⟨x, -, rfl⟩ := List.mem_map.1 hu; rfl
theorem intsV_append (a b : List Int) : intsV (a ++ b) = intsV a ++ intsV b := List.map_append
theorem intsV_get {l : List Int} {j : Nat} {x : Int} (h : l[j]? = some x) : (intsV l)[j]? = some (.int .i64 x) := by unfold intsV; rw [List.getElem?_map, h]; rfl

/-- A node's cells. -/
theorem node_at {w : World} {p : Option Addr} {N : List Nd} {K : Nat → Option Addr × Nat} (h : NodesAt w p N K) {n : Nat} {x : Nd} (hx : N[n]? = some x) : ∃ g off, p = some ⟨g, off, none⟩ ∧ g < w.heap.size ∧
    w.cell? ⟨g, off + n * 3, none⟩ = some (.int .i64 x.kind) ∧ w.cell? ⟨g, off + n * 3 + 1, none⟩ = some (.int .i64 x.tok) ∧ w.cell? ⟨g, off + n * 3 + 2, none⟩ = some (.slice (K n).1 x.kids.length (K n).2) := by
  have h1 : (ndsV K N)[n]? = some (ndV K n x) := by unfold ndsV; rw [List.getElem?_mapIdx, hx]; rfl
  obtain ⟨g, off, rfl, hl, hc⟩ := h.1.resolve_left (fun h0 => by rw [h0] at h1; simp at h1)
  exact ⟨g, off, rfl, hl, hc n _ h1 0 _ rfl, hc n _ h1 1 _ rfl, hc n _ h1 2 _ rfl⟩

theorem tok_at {w : World} {p : Option Addr} {T : List TokI} (h : ToksAt w p T) {n : Nat} {t : TokI} (hx : T[n]? = some t) : ∃ g off, p = some ⟨g, off, none⟩ ∧ g < w.heap.size ∧
    w.cell? ⟨g, off + n * 4, none⟩ = some (.int .i64 t.kind) ∧ w.cell? ⟨g, off + n * 4 + 1, none⟩ = some (strV t.lead) ∧ w.cell? ⟨g, off + n * 4 + 2, none⟩ = some (strV t.text) ∧ w.cell? ⟨g, off + n * 4 + 3, none⟩ = some (.int .i64 t.pos) := by
  have h1 : (toksV T)[n]? = some (tokVI t) := by unfold toksV; rw [List.getElem?_map, hx]; rfl
  obtain ⟨g, off, rfl, hl, hc⟩ := Or.resolve_left h (fun h0 => by rw [h0] at h1; simp at h1)
  exact ⟨g, off, rfl, hl, hc n _ h1 0 _ rfl, hc n _ h1 1 _ rfl, hc n _ h1 2 _ rfl, hc n _ h1 3 _ rfl⟩

/-- A kid's cell. -/
theorem kid_at {w : World} {p : Option Addr} {l : List Int} (h : VAt w p (intsV l)) {j : Nat} {x : Int} (hx : l[j]? = some x) : ∃ g off, p = some ⟨g, off, none⟩ ∧ g < w.heap.size ∧ w.cell? ⟨g, off + j, none⟩ = some (.int .i64 x) := by
  have h1 := intsV_get hx
  obtain ⟨g, off, rfl, hl, hc⟩ := h.resolve_left (fun h0 => by rw [h0] at h1; simp at h1)
  exact ⟨g, off, rfl, hl, hc j _ h1⟩

theorem infoI : (Tryz.prog.info? 3).map (fun i => (i.zero, i.size, i.bytes)) = some (some (.int .i64 0), 1, 8) := by kernel_rfl

def sliceOf (l : List Int) (w : World) (e : Ending) (w' : World) : Prop := w.grownBy w' none ∧ ∃ p c, e = .returned (.slice p l.length c) ∧ VAt w' p (intsV l)
end Go.Proofs.YtmlcpihedmmlfaaGreatDoor
namespace Go.Proofs.YtmlcpihedmmlfaaGreatDoor

/-! ### Leaves -/

def restL (N : List Nd) (S : List Int) : List Int := S.reverse.flatMap fun k => lv N k.toNat
def szL (N : List Nd) (S : List Int) : Nat := (S.map fun k => sz N k.toNat).sum

theorem restL_pop (N : List Nd) (S : List Int) (k : Int) : restL N (S ++ [k]) = lv N k.toNat ++ restL N S := by
  unfold restL; simp
theorem restL_push (N : List Nd) (S kids : List Int) : restL N (S ++ kids.reverse) = (kids.flatMap fun k => lv N k.toNat) ++ restL N S := by
  unfold restL; simp
theorem szL_append (N : List Nd) (S R : List Int) : szL N (S ++ R) = szL N S + szL N R := by
  unfold szL; simp
theorem szL_one (N : List Nd) (k : Int) : szL N [k] = sz N k.toNat := by unfold szL; simp
theorem szL_rev (N : List Nd) (l : List Int) : szL N l.reverse = szL N l := by
  unfold szL
  induction l with
  | nil => rfl
  | cons a l ih => rw [List.reverse_cons, List.map_append, List.sum_append, ih, List.map_cons, List.sum_cons]; simp; omega
theorem szL_len {N : List Nd} (hN : KidsAhead N) {S : List Int} (h : ∀ k ∈ S, 0 ≤ k ∧ k < (N.length : Int)) : S.length ≤ szL N S := by
  unfold szL
  induction S with
  | nil => simp
  | cons a S ih =>
    have h0 := h a List.mem_cons_self
    have h1 := ih fun k hk => h k (List.mem_cons_of_mem _ hk)
    obtain ⟨y, hy⟩ : ∃ y, N[a.toNat]? = some y := ⟨N[a.toNat]'(by omega), List.getElem?_eq_getElem _⟩
    have h3 := sz_eq hN hy
    simp only [List.length_cons, List.map_cons, List.sum_cons]
    omega

theorem leaf_step {m : Nat} {N : List Nd} (h : Forms m N) {S : List Int} {k : Int} {x : Nd} (hx : N[k.toNat]? = some x) (hk : x.kind = 19) : restL N (S ++ [k]) = x.tok :: restL N S ∧ x.kids = [] ∧ szL N (S ++ [k]) = szL N S + 1 := by
  have hN := h.ahead
  have h1 := ((h.2.1 _ _ hx).2.2.1 hk).1
  refine ⟨?_, h1, ?_⟩
  · rw [restL_pop, lv_eq hN hx, if_pos hk]; rfl
  · rw [szL_append, szL_one, sz_eq hN hx, h1]; simp
theorem node_step {m : Nat} {N : List Nd} (h : Forms m N) {S : List Int} {k : Int} {x : Nd} (hx : N[k.toNat]? = some x) (hk : x.kind ≠ 19) : restL N (S ++ [k]) = restL N (S ++ x.kids.reverse) ∧ szL N (S ++ [k]) = szL N (S ++ x.kids.reverse) + 1 := by
  have hN := h.ahead
  refine ⟨?_, ?_⟩
  · rw [restL_pop, restL_push, lv_eq hN hx, if_neg hk]
  · rw [szL_append, szL_append, szL_one, szL_rev, sz_eq hN hx]; unfold szL; omega
theorem kids_in {m : Nat} {N : List Nd} (h : Forms m N) {n : Nat} {x : Nd} (hx : N[n]? = some x) : ∀ k ∈ x.kids.reverse, 0 ≤ k ∧ k < (n : Int) := fun k hk => h.ahead n x hx k (List.mem_reverse.1 hk)

/-! ### Dumps -/

def pieceD (T : List TokI) (N : List Nd) (n : Nat) (k : Int) : List UInt8 := if k = -1 then [41] else (if k = (n : Int) then [] else [32]) ++ dp T N k.toNat
def restD (T : List TokI) (N : List Nd) (n : Nat) (S : List Int) : List UInt8 := S.reverse.flatMap (pieceD T N n)
def szD (N : List Nd) (S : List Int) : Nat := (S.map fun k => if k = -1 then 1 else 2 * sz N k.toNat).sum
def openD (T : List TokI) (x : Nd) : List UInt8 := if x.kind = 19 then tokL T x.tok else [40] ++ digL x.kind

theorem restD_append (T : List TokI) (N : List Nd) (n : Nat) (S R : List Int) : restD T N n (S ++ R) = restD T N n R ++ restD T N n S := by unfold restD; simp
theorem restD_one (T : List TokI) (N : List Nd) (n : Nat) (k : Int) : restD T N n [k] = pieceD T N n k := by unfold restD; simp
theorem restD_rev (T : List TokI) (N : List Nd) (n : Nat) (l : List Int) : restD T N n l.reverse = l.flatMap (pieceD T N n) := by unfold restD; simp
theorem szD_append (N : List Nd) (S R : List Int) : szD N (S ++ R) = szD N S + szD N R := by unfold szD; simp
theorem szD_kids {N : List Nd} (l : List Int) (h : ∀ k ∈ l, 0 ≤ k) : szD N l.reverse = 2 * (l.map fun k => sz N k.toNat).sum := by
  unfold szD
  induction l with
  | nil => rfl
  | cons a l ih =>
    have h0 := h a List.mem_cons_self
    rw [List.reverse_cons, List.map_append, List.sum_append, ih fun k hk => h k (List.mem_cons_of_mem _ hk), List.map_cons, List.sum_cons]
    simp only [List.map_cons, List.map_nil, List.sum_cons, List.sum_nil]
    rw [if_neg (by omega)]; omega

theorem dump_close (T : List TokI) (N : List Nd) (n : Nat) (S : List Int) : restD T N n (S ++ [-1]) = 41 :: restD T N n S ∧ szD N (S ++ [-1]) = szD N S + 1 := by
  refine ⟨?_, ?_⟩
  · rw [restD_append, restD_one]; rfl
  · rw [szD_append]; rfl
theorem dump_leaf {m : Nat} {T : List TokI} {N : List Nd} (h : Forms m N) {n : Nat} {S : List Int} {k : Int} (h0 : 0 ≤ k) {x : Nd} (hx : N[k.toNat]? = some x) (hk : x.kind = 19) : restD T N n (S ++ [k]) = (if k = (n : Int) then [] else [32]) ++ openD T x ++ restD T N n S ∧ szD N S + 1 ≤ szD N (S ++ [k]) := by
  have hN := h.ahead
  refine ⟨?_, ?_⟩
  · rw [restD_append, restD_one]; unfold pieceD openD; rw [if_neg (by omega), dp_eq hN hx, if_pos hk, if_pos hk]
  · rw [szD_append]
    have h1 := sz_eq hN hx
    unfold szD
    simp only [List.map_cons, List.map_nil, List.sum_cons, List.sum_nil]
    rw [if_neg (by omega)]; omega
theorem dump_node {m : Nat} {T : List TokI} {N : List Nd} (h : Forms m N) {n : Nat} {S : List Int} {k : Int} (h0 : 0 ≤ k) (hkn : k ≤ (n : Int)) {x : Nd} (hx : N[k.toNat]? = some x) (hk : x.kind ≠ 19) : restD T N n (S ++ [k]) = (if k = (n : Int) then [] else [32]) ++ openD T x ++ restD T N n (S ++ [-1] ++ x.kids.reverse) ∧ szD N (S ++ [-1] ++ x.kids.reverse) + 1 ≤ szD N (S ++ [k]) := by
  have hN := h.ahead
  have hkd := hN _ x hx
  refine ⟨?_, ?_⟩
  · rw [restD_append, restD_append, restD_append, restD_one, restD_one, restD_rev]
    have h1 : x.kids.flatMap (pieceD T N n) = x.kids.flatMap fun k => 32 :: dp T N k.toNat := flatMap_cong fun j hj => by
      have := hkd j hj
      unfold pieceD; rw [if_neg (by omega), if_neg (by omega)]; rfl
    rw [h1]
    have h2 : pieceD T N n (-1) = [41] := rfl
    rw [h2]
    unfold pieceD openD
    rw [if_neg (by omega), dp_eq hN hx, if_neg hk, if_neg hk]
    simp
  · rw [szD_append, szD_append, szD_append, szD_kids x.kids fun j hj => (hkd j hj).1]
    have h1 := sz_eq hN hx
    unfold szD
    simp only [List.map_cons, List.map_nil, List.sum_cons, List.sum_nil]
    rw [if_pos trivial, if_neg (show ¬ k = -1 by omega)]; omega

/-! ### Kids, each once -/

theorem kid_new {m : Nat} {N : List Nd} (h : Forms m N) {P R : List Int} {k : Int} (hs : P ++ k :: R = allKids N) : k ∉ P ∧ 0 ≤ k ∧ k < (N.length : Int) := by
  have hk : k ∈ allKids N := by rw [← hs]; simp
  have hk0 := hk
  unfold allKids at hk
  obtain ⟨x, hx, hk⟩ := List.mem_flatMap.1 hk
  obtain ⟨i, hi⟩ := List.getElem?_of_mem hx
  have h1 := h.ahead i x hi k hk
  have h2 := (List.getElem?_eq_some_iff.1 hi).1
  have h3 := h.2.2 k.toNat (by omega)
  unfold times at h3
  rw [Int.toNat_of_nonneg h1.1, ← hs, List.count_append, List.count_cons_self] at h3
  exact ⟨List.count_eq_zero.1 (by omega), by omega, by omega⟩
theorem kid_each {m : Nat} {N : List Nd} (h : Forms m N) {j : Nat} (hj : j + 1 < N.length) : (j : Int) ∈ allKids N := by
  have := h.2.2 j hj
  unfold times at this
  exact List.count_pos_iff.1 (by omega)
theorem kids_split {N : List Nd} {i : Nat} {x : Nd} (hx : N[i]? = some x) (j : Nat) (hj : j ≤ x.kids.length) : allKids (N.take i) ++ x.kids.take j ++ (x.kids.drop j ++ allKids (N.drop (i + 1))) = allKids N := by
  have h1 : N = N.take i ++ x :: N.drop (i + 1) := by
    obtain ⟨hi, rfl⟩ := List.getElem?_eq_some_iff.1 hx
    rw [← List.drop_eq_getElem_cons hi, List.take_append_drop]
  conv => rhs; rw [h1]
  unfold allKids
  rw [List.flatMap_append, List.flatMap_cons, List.append_assoc, ← List.append_assoc (x.kids.take j), List.take_append_drop]
theorem kids_done {N : List Nd} {i : Nat} {x : Nd} (hx : N[i]? = some x) : allKids (N.take (i + 1)) = allKids (N.take i) ++ x.kids := by
  rw [List.take_add_one, hx]; unfold allKids; rw [List.flatMap_append]; simp

/-! ### The flat tree -/

/-! ### The tree of the example -/

end Go.Proofs.YtmlcpihedmmlfaaGreatDoor
namespace Go.Proofs.YtmlcpihedmmlfaaGreatDoor
open Go.RowKit Go.Shelf

attribute [local go_sem] Oper.semAt_some

/-- What has come when k rounds are over. -/
def uptoB (zs : List Int) (k : Nat) : List (Int × Int) := (List.range k).map fun j => (((zs.length - 1 - j : Nat) : Int), zs[zs.length - 1 - j]?.getD 0)
theorem uptoB_succ (zs : List Int) (k : Nat) : uptoB zs (k + 1) = uptoB zs k ++ [(((zs.length - 1 - k : Nat) : Int), zs[zs.length - 1 - k]?.getD 0)] := by simp [uptoB, List.range_succ]
theorem uptoB_length (zs : List Int) (k : Nat) : (uptoB zs k).length = k := by simp [uptoB]
theorem uptoB_all (zs : List Int) : (uptoB zs zs.length).map (·.2) = zs.reverse := by
  apply List.ext_getElem
  · simp [uptoB]
  · intro i h1 h2
    have h3 : i < zs.length := by simpa using h2
    simp [uptoB]
    rw [List.getElem?_eq_getElem (by omega)]; rfl

/-- What a round keeps: what lay ahead of the loop, but for some blocks. -/
structure KpS (n₀ : Nat) (S : Nat → Prop) (A B : World) : Prop where
  size : A.heap.size ≤ B.heap.size
  block : ∀ k, k < n₀ → ¬ S k → B.heap[k]? = A.heap[k]?
theorem KpS.refl (n₀ : Nat) (S : Nat → Prop) (A : World) : KpS n₀ S A A := ⟨Nat.le_refl _, fun _ _ _ => rfl⟩
theorem KpS.trans {n₀ : Nat} {S : Nat → Prop} {A B C : World} (h : KpS n₀ S A B) (k : KpS n₀ S B C) : KpS n₀ S A C := ⟨Nat.le_trans h.size k.size, fun i h1 h2 => (k.block i h1 h2).trans (h.block i h1 h2)⟩
theorem KpS.cell {n₀ : Nat} {S : Nat → Prop} {A B : World} (h : KpS n₀ S A B) {a : Addr} (h1 : a.block < n₀) (h2 : ¬ S a.block) : B.cell? a = A.cell? a := World.cell?_of_block (h.block _ h1 h2)

set_option maxRecDepth 100000 in
set_option maxHeartbeats 2000000 in
theorem back1_in (F : Fence) (n : Nat) (h7 : F.fn 120) (hro : F.round = none) (hn : 1 ≤ n) (l Bs n₀ : Nat) (S : Nat → Prop) (p : Option Addr) (cap : Nat) (zs : List Int) (hz : zs.length ≤ 1000000) (hp : zs ≠ [] → ∀ a, p = some a → a.block < n₀ ∧ ¬ S a.block) (hB : Bs < n₀ ∧ ¬ S Bs) (J Jx : List (Int × Int) → World → Prop)
    (hY : ∀ pre x W, J pre W → pre.length < zs.length → YieldAt F (n - 1) Tryz.prog l #[.int .i64 x.1, .int .i64 x.2] W fun e W' =>
      (e = .returned (.bool true) ∧ J (pre ++ [x]) W' ∧ KpS n₀ S W W') ∨ (e = .returned (.bool false) ∧ Jx (pre ++ [x]) W'))
    (W : World) (hBs : W.cell? ⟨Bs, 0, none⟩ = some (.slice p zs.length cap)) (hc : VAt W p (intsV zs)) (h0 : J [] W) :
    CallsIn F n Tryz.prog 120 #[.func (.yield l) #[] #[], .pointer (some ⟨Bs, 0, none⟩)] W fun e W' => (∃ v, e = .returned v) ∧
      ((∃ ys, ys = uptoB zs zs.length ∧ J ys W') ∨ (∃ pre, (∃ k, k ≤ zs.length ∧ pre = uptoB zs k) ∧ Jx pre W')) := by
  obtain ⟨m, hm⟩ : ∃ m, zs.length = m := ⟨_, rfl⟩
  rw [hm] at hBs hz
  have HM := Lib.hid hm
  have hw0 : IntKind.i64.wrap ((m : Int) - 1) = (m : Int) - 1 := IntWalk.i64_in _ (by omega)
  rw [hm] at hY ⊢
  clear hm
  refine callsIn_of_wp Tryz.func120 rfl h7 ?_ hro
  simp only [Tryz.ntmps120, List.size_toArray, List.length_cons, List.length_nil, Nat.reduceAdd, Nat.reduceSub, Array.replicate_succ, Array.replicate_zero, List.push_toArray, List.append_toArray, List.nil_append, List.cons_append]
  gi_wp2
  gi_loopw [3] (fun i wr => ∃ q k : Nat, q + k = m ∧ i = .int .i64 ((q : Int) - 1) ∧ J (uptoB zs k) wr ∧ KpS n₀ S W wr)
    (fun i _ => (intOf i + 1).toNat)
  case atStart => exact ⟨m, 0, by omega, rfl, h0, KpS.refl _ _ _⟩
  case round =>
    obtain ⟨q, k, hk, rfl, hJs, hnx⟩ := hrel
    by_cases hlt : 0 < q
    · obtain ⟨q', rfl⟩ : ∃ q', q = q' + 1 := ⟨q - 1, by omega⟩
      have hidx : zs.length - 1 - k = q' := by rw [HM.out]; omega
      obtain ⟨x, hx⟩ : ∃ x, zs[q']? = some x := ⟨zs[q']'(by rw [HM.out]; omega), List.getElem?_eq_getElem _⟩
      have hi : (((q' + 1 : Nat) : Int) - 1) = (q' : Int) := by omega
      rw [hi]
      obtain ⟨g, off, rfl, hgl, hcx⟩ := hc.resolve_left (fun h => by
        have := congrArg List.length h; rw [intsV_len, HM.out] at this; simp at this; omega)
      obtain ⟨hp1, hp2⟩ := hp (fun h => by rw [h] at hx; simp at hx) _ rfl
      have hcx' : wr.cell? ⟨g, off + q', none⟩ = some (.int .i64 x) := (hnx.cell (a := ⟨g, off + q', none⟩) hp1 hp2).trans (hcx q' _ (intsV_get hx))
      have hbs : wr.cell? ⟨Bs, 0, none⟩ = some (.slice (some ⟨g, off, none⟩) m cap) := (hnx.cell (a := ⟨Bs, 0, none⟩) hB.1 hB.2).trans hBs
      have HU : Hid (uptoB zs (k + 1) = uptoB zs k ++ [((q' : Int), x)]) := Lib.hid (by rw [uptoB_succ, hidx, hx]; rfl)
      obtain ⟨fn, tmps, assign, body, hy, hR⟩ := hY _ ((q' : Int), x) wr hJs (by rw [uptoB_length]; omega)
      dsimp only at hy
      have d1 : decide ((0 : Int) ≤ (q' : Int)) = true := decide_eq_true (by omega)
      have d2 : decide (q' < m) = true := decide_eq_true (by omega)
      have d2' : decide ((q' : Int) < (m : Int)) = true := decide_eq_true (by omega)
      have hw1 : IntKind.i64.wrap ((q' : Int) - 1) = (q' : Int) - 1 := IntWalk.i64_in _ (by omega)
      gi_wp2
      refine hR.mono ?_
      rintro e W3 (⟨rfl, hJ3, hk3⟩ | ⟨rfl, hJx3⟩)
      · rw [← HU.out] at hJ3
        gi_wp2
        go_roundw
        case rel => exact ⟨q', k + 1, by omega, by rfl, hJ3, hnx.trans hk3⟩
        case measure => simp [intOf] <;> omega
      · rw [← HU.out] at hJx3
        gi_wp2
        refine bodyPost_ret (results_none rfl _ _ _) rfl ?_
        exact ⟨⟨_, rfl⟩, .inr ⟨_, ⟨k + 1, by omega, rfl⟩, hJx3⟩⟩
    · obtain rfl : q = 0 := by omega
      obtain rfl : k = m := by omega
      gi_wp2
      go_end0
      exact ⟨⟨_, rfl⟩, .inl ⟨_, rfl, hJs⟩⟩

set_option maxHeartbeats 1000000 in
theorem back_in (F : Fence) (n : Nat) (h5 : F.fn 80) (hro : F.round = none) (a : Option Addr) (len cap : Nat) (w : World) :
    CallsIn F n Tryz.prog 80 #[.slice a len cap] w fun e w' => e = .returned (.func (.func 120) #[] #[.pointer (some ⟨w.heap.size, 0, none⟩)]) ∧ w' = w.alloc (.cells #[.slice a len cap] 52) := by
  refine callsIn_of_wp Tryz.func80 rfl h5 ?_ hro
  simp only [Tryz.ntmps80, List.size_toArray, List.length_cons, List.length_nil, Nat.reduceAdd, Nat.reduceSub, Array.replicate_succ, Array.replicate_zero, List.push_toArray, List.append_toArray, List.nil_append, List.cons_append]
  gi_wp2
  go_ret
  exact ⟨rfl, rfl⟩

theorem back_stops (F : Fence) (n : Nat) (h7 : F.fn 120) (hro : F.round = none) (hn : 1 ≤ n) (Bs n₀ : Nat) (S : Nat → Prop) (p : Option Addr) (cap : Nat) (zs : List Int) (hz : zs.length ≤ 1000000) (w : World) (hn₀ : n₀ ≤ w.heap.size)
    (hp : zs ≠ [] → ∀ a, p = some a → a.block < n₀ ∧ ¬ S a.block) (hB : Bs < n₀ ∧ ¬ S Bs) (hBs : w.cell? ⟨Bs, 0, none⟩ = some (.slice p zs.length cap)) (hc : VAt w p (intsV zs)) :
    SeqStopsK F n Tryz.prog 120 #[.pointer (some ⟨Bs, 0, none⟩)] (fun x : Int × Int => #[Value.int .i64 x.1, Value.int .i64 x.2]) (KpS n₀ S) (fun ys => ys = uptoB zs zs.length) (fun pre => ∃ k, k ≤ zs.length ∧ pre = uptoB zs k) zs.length w := fun l J Jx W hW _ _ hY h0 =>
  back1_in F n h7 hro hn l Bs n₀ S p cap zs hz hp hB J Jx hY W ((hW.cell (p := ⟨Bs, 0, none⟩) (by have := hB.1; show Bs < _; omega)).trans hBs)
    (hc.imp id fun ⟨g, off, e, hl, hcx⟩ => ⟨g, off, e, Nat.lt_of_lt_of_le hl hW.size, fun j v hj => (hW.cell (p := ⟨g, off + j, none⟩) hl).trans (hcx j v hj)⟩) h0

/-- The new list: it owns the elder and the kids behind it; nothing else has turned. -/
def PutPost (base : Nat) (v : Value) (l : List Int) (w : World) (e : Ending) (w' : World) : Prop :=
  ∃ v', e = .returned v' ∧ OwnG 1 3 w' base v' (one (intsV l)) ∧ Fr2 (fun k => some k = v.ownBlock) w w' ∧ ∀ k, v'.ownBlock = some k → v.ownBlock = some k ∨ w.heap.size ≤ k

theorem ownFrom_fr2 {β : Type} {B : Nat} {S : Nat → Prop} {w : World} (hB : w.heap.size ≤ B) : OwnFrom B (fun (_ : β) W => Fr2 S w W) :=
  fun _ _ W' row hs hg hr => ⟨hg.os.trans hs.os, hg.tape.trans hs.tape, hg.output.trans hs.output, Nat.le_trans hs.size hg.size, fun k hk hn =>
    (hg.block k (Nat.lt_of_lt_of_le hk hs.size) (fun e => by have := (hr k e.symm).1; omega)).trans (hs.block k hk hn)⟩

theorem kpS_b {n₀ B : Nat} {S : Nat → Prop} (h : n₀ ≤ B) (W : World) (l : Nat) (o o' : Obj) (hl : B ≤ l) (hh : W.heap[l]? = some o) (_ : o.isCells = false) (_ : o.isWalk = false) : KpS n₀ S W (W.putObj l o') :=
  ⟨by simp [World.putObj], fun k hk _ => World.putObj_heap_other (by omega)⟩

set_option maxRecDepth 100000 in
set_option maxHeartbeats 4000000 in
theorem appendBackward_in (F : Fence) (n : Nat) (hro : F.round = none) (hn : 3 ≤ n) (hF1 : F.fn 49) (hF2 : F.fn 80) (hF3 : F.fn 120) (base : Nat) (S kids : List Int) (v : Value) (p : Option Addr) (c : Nat) (w : World) (hbase : base ≤ w.heap.size) (hown : OwnG 1 3 w base v (one (intsV S))) (hk : VAt w p (intsV kids)) (hkb : kids ≠ [] → ∀ a, p = some a → a.block < w.heap.size ∧ v.ownBlock ≠ some a.block) (hl : S.length + kids.length ≤ 1000000) :
    CallsIn F n Tryz.prog 49 #[v, .slice p kids.length c] w (PutPost base v (S ++ kids.reverse) w) := by
  have h1 : 1 ≤ n := by omega
  obtain ⟨i0, hi, hz0, hz1, hz2⟩ := info_parts infoI
  have hrow0 := hown.1
  rw [one_len, one_flat, intsV_len] at hrow0
  obtain ⟨p0, c0, e0, -⟩ := hown.is
  rw [one_len, intsV_len] at e0
  obtain ⟨bo, hbo⟩ : ∃ bo, v.ownBlock = bo := ⟨_, rfl⟩
  have hblt : ∀ k, bo = some k → k < w.heap.size := fun k e => (hrow0.lt k (hbo.trans e)).2
  have HP : Hid (∀ v' W', OwnG 1 3 W' base v' (one (intsV (S ++ kids.reverse))) → Fr2 (fun k => some k = bo) w W' → (∀ k, v'.ownBlock = some k → bo = some k ∨ w.heap.size ≤ k) → PutPost base v (S ++ kids.reverse) w (.returned v') W') := Lib.hid (fun v' W' h1 h2 h3 => ⟨v', rfl, h1, by rw [hbo]; exact h2, by rw [hbo]; exact h3⟩)
  rw [hbo] at hkb
  have hvb : ∀ k, v.ownBlock = some k → bo = some k ∨ w.heap.size + 2 ≤ k := fun k e => .inl (hbo.symm.trans e)
  generalize PutPost base v (S ++ kids.reverse) w = Q at HP
  clear hbo
  refine callsIn_of_wp_marks Tryz.func49 rfl hF1 ?_ hro
  simp only [Tryz.ntmps49, List.size_toArray, List.length_cons, List.length_nil, Nat.reduceAdd, Nat.reduceSub, Array.replicate_succ, Array.replicate_zero, List.push_toArray, List.append_toArray, List.nil_append, List.cons_append]
  subst e0
  gi_wp2_with (gi_at_call 80; refine (back_in F (n - 1) hF2 hro _ _ _ _).mono ?_; rintro e w' ⟨rfl, rfl⟩)
  have bO := Boxed.new w 52 (.slice p0 S.length c0)
  have bN := Boxed.new (w.alloc (.cells #[.slice p0 S.length c0] 52)) 52 (.slice p kids.length c)
  rw [World.size_alloc] at bN
  have hg1 := World.grownBy_alloc w (.cells #[.slice p0 S.length c0] 52) none
  have hg2 := World.grownBy_alloc (w.alloc (.cells #[.slice p0 S.length c0] 52)) (.cells #[.slice p kids.length c] 52) none
  have hfr : Fr2 (fun k => some k = bo) w ((w.alloc (.cells #[.slice p0 S.length c0] 52)).alloc (.cells #[.slice p kids.length c] 52)) := (Fr2.none hg1).trans (Fr2.none hg2)
  have hS0 : ∀ k, k < w.heap.size + 2 → (some k = bo ∨ k = w.heap.size) ∨ ¬ (some k = bo ∨ k = w.heap.size) := fun k _ => Classical.em _
  refine wpIn_rangeFunc_ownG hro h1 (gf := 120) (lb := #[.pointer (some ⟨w.heap.size + 1, 0, none⟩)]) rfl hF3 (enters_of Tryz.func120 (by kernel_rfl) rfl)
    (back_stops F (n - 1) hF3 hro (by omega) (w.heap.size + 1) (w.heap.size + 2) (fun k => some k = bo ∨ k = w.heap.size) p c kids (by omega) _ (by simp) (fun h a ha => ⟨by have := (hkb h a ha).1; omega, fun hh => by
      rcases hh with hh | hh
      · exact (hkb h a ha).2 hh.symm
      · have := (hkb h a ha).1; omega⟩) ⟨by omega, fun hh => by
      rcases hh with hh | hh
      · have := hblt _ hh.symm; omega
      · omega⟩ bN.cell (((hk.kept hg1).kept hg2))) KpS.trans (kpS_b (by simp)) (Below.refl _ _) (fun _ => rfl)
    (fun pre W => (∃ u, Boxed W w.heap.size 52 u ∧ W.ownsRow base 3 1 u (S.length + pre.length) (intsV (S ++ pre.map (·.2))) ∧ (∀ k, u.ownBlock = some k → bo = some k ∨ w.heap.size + 2 ≤ k)) ∧ (Fr2 (fun k => some k = bo) w W ∧ w.heap.size + 2 ≤ W.heap.size))
    (fun _ _ _ => False)
    (OwnFrom.and (Own.from (holdsRow_own base w.heap.size 52 3 1 (fun pre : List (Int × Int) => S.length + pre.length) (fun pre => intsV (S ++ pre.map (·.2))) (fun _ u => ∀ k, u.ownBlock = some k → bo = some k ∨ w.heap.size + 2 ≤ k)) _) (OwnFrom.and (ownFrom_fr2 (by simp; omega)) (fun _ _ _ _ hs hg _ => Nat.le_trans hs hg.size)))
    (fun _ _ _ _ _ hs _ _ => hs)
    ⟨⟨_, bO.alloc _, by simpa using (hrow0.alloc _).alloc _, hvb⟩, hfr, by simp⟩
    (fun x => { tmps := #[.slice p0 S.length c0, .slice p kids.length c, .pointer (some ⟨w.heap.size, 0, none⟩), undef, .slice none 0 0, undef, .int .i64 x.2, .slice p kids.length c, .func (.func 120) #[] #[.pointer (some ⟨w.heap.size + 1, 0, none⟩)], .int .i64 x.1, .int .i64 x.2, undef, undef, undef, undef, undef], defers := [] }) ?assign ?body ?done ?stop
  case assign =>
    intro l x W K hK
    gi_wp2
    exact hK
  case body =>
    rintro l pre x W ⟨⟨u, hv, hrow, hub⟩, hF, hsz3⟩ hlt
    have hc := hv.cell
    have hsz := hF.size
    have hsz2 : w.heap.size < W.heap.size := hv.lt
    gi_wp2_with (gi_at_builtin; refine wpListIn_append_own_at _ rfl _ _ 52 rfl base 3 i0 (.int .i64 0) 1 8 Tryz.underlying52 hi hz0 hz1 hz2 rfl (by decide) u _ _ rfl (hrow.alloc _) ⟨W.heap.size, 0, none⟩ 1 1 [.int .i64 x.2] rfl rfl (cell_one_new _ _ _) (by simp [Value.oneCell']) (by unfold maxLen; omega) (by omega) (by simp; omega) ?_; intro v' w1 hown' hgrow _ hat; obtain ⟨g', cap', rfl⟩ := ownsRow_succ hown'; have hv1 := (hv.alloc _).kept hgrow (hv.not_row (by decide) hrow); have hc1 := hv1.cell; have hf1 := hv1.frozen)
    have hold : ∀ k, k < W.heap.size → k ≠ w.heap.size → some k ≠ u.ownBlock → (w1.setCell ⟨w.heap.size, 0, none⟩ (.slice (some ⟨g', 0, none⟩) (S.length + pre.length + 1) cap')).heap[k]? = W.heap[k]? := fun k h1 h2 h3 => by
      rw [Below.heap_setCell _ _ _ k (by first | omega | (simp; omega)), hgrow.block k (by simp; omega) h3]
      exact Below.heap_alloc _ _ k h1
    have hsize : W.heap.size ≤ (w1.setCell ⟨w.heap.size, 0, none⟩ (.slice (some ⟨g', 0, none⟩) (S.length + pre.length + 1) cap')).heap.size := by
      have := hgrow.size; simp at this; simp [World.setCell]; omega
    have hne : ∀ k, k < w.heap.size + 2 → some k ≠ bo → some k ≠ u.ownBlock := fun k h1 h2 h3 => by
      rcases hub k h3.symm with h | h
      · exact h2 h.symm
      · omega
    refine ⟨(((KeepsOthers.alloc W _).trans (KeepsOthers.of_grownBy hgrow fun j o ej hj => ?_)).trans (KeepsOthers.setCell _ _ _)).from _, ?_, ⟨_, hv1.set _, ?_, ?_⟩, ?_, by omega⟩
    · rcases (hrow.alloc (.cells #[.int .i64 x.2] 3)).2 with ⟨rfl, _⟩ | ⟨g, cap, cur, rfl, _, hgb, _⟩
      · simp [Value.ownBlock] at ej
      · obtain rfl : g = j := by simpa [Value.ownBlock] using ej
        rw [hgb] at hj; cases hj; rfl
    · exact ⟨hsize, fun k hk hn => hold k (by omega) (fun e => hn (.inr e)) (hne k hk (fun e => hn (.inl e)))⟩
    · have h5 := hown'.kept (grownBy_setCell' w1 w.heap.size (.slice (some ⟨g', 0, none⟩) (S.length + pre.length + 1) cap')) (.inr (hv1.not_row (by decide) hown').symm)
      simpa [intsV, Nat.add_assoc] using h5
    · intro k e
      rcases hat with h | h
      · exact hub k (h ▸ e)
      · rw [h] at e
        simp at e
        exact .inr (by omega)
    · exact ⟨hgrow.os.trans hF.os, hgrow.tape.trans hF.tape, hgrow.output.trans hF.output, Nat.le_trans hF.size hsize, fun k hk hn => (hold k (by omega) (by omega) (hne k (by omega) hn)).trans (hF.block k hk hn)⟩
  case done =>
    rintro D ys W hD rfl ⟨⟨u, hv, hrow, hub⟩, hF, hsz3⟩ hK
    have hc := hv.cell
    gi_wp2
    refine ⟨by simp, .inl ⟨_, _, rfl, run_takeDeferred hK, ?_⟩⟩
    have hgp := grownBy_putObj' W D (.deferred none)
    refine ⟨u, by simp [results, Tryz.results49, go_sem], HP.out u _ ⟨?_, one_wid (intsV_one _)⟩ ?_ (fun k e => (hub k e).imp id (fun h => by omega))⟩
    · have h5 := ownsRow_putObj hrow (.deferred none) hK rfl
      rw [uptoB_all, uptoB_length] at h5
      rw [one_len, one_flat, intsV_len, List.length_append, List.length_reverse]
      exact h5
    · exact ⟨hgp.os.trans hF.os, hgp.tape.trans hF.tape, hgp.output.trans hF.output, Nat.le_trans hF.size hgp.size, fun k hk hn => (hgp.block k (by omega) (fun e => by simp at hD; injection e with e; omega)).trans (hF.block k hk hn)⟩
  case stop =>
    rintro D c pre W _ _ h _
    exact h.elim

theorem appendBackward_c (base : Nat) (S kids : List Int) (v : Value) (p : Option Addr) (c : Nat) (w : World) (hbase : base ≤ w.heap.size) (hown : OwnG 1 3 w base v (one (intsV S))) (hk : VAt w p (intsV kids)) (hkb : kids ≠ [] → ∀ a, p = some a → a.block < w.heap.size ∧ v.ownBlock ≠ some a.block) (hl : S.length + kids.length ≤ 1000000) :
    Calls Tryz.prog 49 #[v, .slice p kids.length c] w (PutPost base v (S ++ kids.reverse) w) :=
  callsIn_wide.1 (appendBackward_in Fence.wide 3 rfl (by omega) trivial trivial trivial base S kids v p c w hbase hown hk hkb hl)
end Go.Proofs.YtmlcpihedmmlfaaGreatDoor
