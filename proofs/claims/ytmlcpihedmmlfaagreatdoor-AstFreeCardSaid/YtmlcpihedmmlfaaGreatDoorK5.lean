/- What the parser of trees answers of a text: its dump, its leaves, two depths. -/
import Derived.Test.YtmlcpihedmmlfaaGreatDoorK3
import Derived.Test.YtmlcpihedmmlfaaGreatDoorK4
import Derived.Test.YtmlcpihedmmlfaaGreatDoorK0
import Derived.Laws.OwnMore
import Derived.Deep.RegionWith
import Derived.Deep.RegionLaw
import Derived.RangeFuncNested
import Derived.RangeFuncBound
import Derived.RangeFuncCalls
import Derived.RangeFuncLeaves
import Derived.Shelf.Abstract
import Derived.Shelf.RegionOpen
import Derived.WalkKit
import Derived.OwnWalkIn
import Derived.TacticsInMore
import Derived.LoopNIn
import Derived.LoopIn
import Derived.Maps.OwnIn
set_option linter.unusedVariables false
set_option linter.unusedSimpArgs false
namespace Go.Proofs.YtmlcpihedmmlfaaGreatDoor

theorem whole_mono (T : List Tok) {i j : Nat} (h : i ≤ j) : (wholeL (T.take i)).length ≤ (wholeL (T.take j)).length := by
  have h1 : (T.take j).take i = T.take i := by rw [List.take_take]; congr 1; omega
  rw [← h1]; exact wholeL_take _ _
theorem grow_all {l : List UInt8} (h : (allE l).2.1 = 0) : Grow (allE l).1 := by
  intro s t hle hlt
  have hp := (place_all h).1
  have hs : (allE l).1[s.i]? = some (tokQ (allE l).1 s) := by unfold tokQ; rw [List.getElem?_eq_getElem (Nat.lt_of_le_of_lt hle hlt)]; rfl
  have ht : (allE l).1[t.i]? = some (tokQ (allE l).1 t) := by unfold tokQ; rw [List.getElem?_eq_getElem hlt]; rfl
  have p1 := (hp _ _ hs).1
  have p2 := (hp _ _ ht).1
  rcases Nat.eq_or_lt_of_le hle with e | hl
  · rw [show tokQ (allE l).1 s = tokQ (allE l).1 t from by unfold tokQ; rw [e]]; exact Nat.le_refl _
  · have h1 := whole_mono (allE l).1 (i := s.i + 1) (j := t.i) hl
    rw [wholeL_next hs, List.length_append, List.length_append] at h1
    omega

/-- The tree of a text that has tokens, and the state at its end. -/
def treeT (T : List Tok) (D : Nat) (f : Bool) : RT := if f = true then aloneT T (nxT T D D).expr startQ else programT T (nxT T D D).expr startQ
theorem tree_m (T : List Tok) (D : Nat) (f : Bool) : (treeQ T D f).2 = (treeT T D f).2 ∧ ((treeT T D f).2.e = 0 → (treeQ T D f).1 = dmp T (.nd (if f = true then 18 else 1) (treeT T D f).1)) := by
  have hx := (nx_m T D D).expr
  unfold treeQ treeT
  cases f
  · exact program_m T _ hx startQ
  · exact ⟨(alone_m T _ hx startQ).1, fun _ => (alone_m T _ hx startQ).2⟩
/-- What is answered, of a text that has tokens. -/
theorem parse_good {l : List UInt8} (hl : l.length ≤ 65536) (h : (allE l).2.1 = 0) (D : Nat) (f : Bool) :
    parseQ l D f = if (treeT (allE l).1 D f).2.e = 0 then (dmp (allE l).1 (.nd (if f = true then 18 else 1) (treeT (allE l).1 D f).1), 0, 0) else ([], (treeT (allE l).1 D f).2.e, (treeT (allE l).1 D f).2.pos) := by
  obtain ⟨h1, h2⟩ := tree_m (allE l).1 D f
  unfold parseQ
  rw [if_neg (by omega), if_neg (by omega)]
  unfold resQ
  rw [h1]
  split
  · rename_i he; rw [h2 he]
  · rfl
/-- The leaves of a tree are all tokens. -/
theorem tree_leaves {l : List UInt8} (h : (allE l).2.1 = 0) (D : Nat) (f : Bool) (he : (treeT (allE l).1 D f).2.e = 0) : lvTs (treeT (allE l).1 D f).1 = List.range (allE l).1.length := by
  obtain ⟨hE, hne⟩ := end_all h
  have hpos : startQ.i < (allE l).1.length := List.length_pos_iff.2 hne
  have hx := (nx_run (allE l).1 D D).expr
  have hg := (nx_good (allE l).1 D D).expr
  cases f
  · have hok : (programT (allE l).1 (nxT (allE l).1 D D).expr startQ).2.i < (allE l).1.length := by
      unfold programT
      have i1 := many_good (allE l).1 (most := 16) (c := isQ (allE l).1 [105, 109, 112, 111, 114, 116]) (step := impStepT (allE l).1) (s := startQ) (fun r hc hr => impStep_good _ hr hc) (fuelQ (allE l).1 startQ) 0 ([], startQ) (Good.nil _ _)
      have i2 := many_good (allE l).1 (most := 64) (c := isDef (allE l).1) (step := defStepT (allE l).1 (nxT (allE l).1 D D).expr) (s := startQ) (fun r hc hr => hr.app (def_good _ hg _)) (fuelQ (allE l).1 (importsT (allE l).1 ([], startQ)).2.2) 0 (importsT (allE l).1 ([], startQ)).2 i1
      split
      · exact i1.inr hE hpos
      split
      · exact i2.inr hE hpos
      · exact (i2.app (kind_good _ 5 _)).inr hE hpos
    exact program_run _ hx hE rfl hok he
  · have hok : (aloneT (allE l).1 (nxT (allE l).1 D D).expr startQ).2.i < (allE l).1.length :=
      ((hg (setIn true startQ)).app (kind_good _ 5 _)).inr hE hpos
    exact alone_run _ hx hE rfl hok he
/-- Two depths: the same answer, or the smaller one is refused for its depth. -/
theorem parse_depths {l : List UInt8} (h : (allE l).2.1 = 0) {D D' : Nat} (hD : D ≤ D') (h1 : 1 ≤ D) (f : Bool) :
    treeT (allE l).1 D f = treeT (allE l).1 D' f ∨ ((treeT (allE l).1 D f).2.e = 23 ∧ ((treeT (allE l).1 D' f).2.e = 23 → (treeT (allE l).1 D f).2.pos ≤ (treeT (allE l).1 D' f).2.pos)) := by
  obtain ⟨hE, hne⟩ := end_all h
  have hpos : startQ.i < (allE l).1.length := List.length_pos_iff.2 hne
  have key := depths_rs hE (grow_all h) hD h1 startQ hpos
  have fin : ∀ a b : RT, RS (allE l).1 a b → a = b ∨ (a.2.e = 23 ∧ (b.2.e = 23 → a.2.pos ≤ b.2.pos)) := fun a b hr => by
    rcases hr with e | hb
    · exact .inl e
    · exact .inr ⟨hb.deep, hb.late⟩
  unfold treeT
  cases f
  · exact fin _ _ key.1
  · exact fin _ _ key.2
end Go.Proofs.YtmlcpihedmmlfaaGreatDoor
namespace Go.Proofs.YtmlcpihedmmlfaaGreatDoor

structure TokI where
  kind : Int
  lead : List UInt8
  text : List UInt8
  pos : Int
structure Nd where
  kind : Int
  tok : Int
  kids : List Int

/-- Recursion on places. -/
def rc {α : Type} (d : α) (F : Nd → (Int → α) → α) (N : List Nd) : Nat → Nat → α
  | 0, _ => d
  | f + 1, n => match N[n]? with
    | none => d
    | some x => F x (fun k => rc d F N f k.toNat)
def rcw {α : Type} (d : α) (F : Nd → (Int → α) → α) (N : List Nd) (n : Nat) : α := rc d F N (n + 1) n

/-! ### Leaves, sizes, dumps -/

def lvF (x : Nd) (g : Int → List Int) : List Int := if x.kind = 19 then [x.tok] else x.kids.flatMap g
def lv (N : List Nd) (n : Nat) : List Int := rcw [] lvF N n
/-! ### The right form -/

/-! ### How many -/

end Go.Proofs.YtmlcpihedmmlfaaGreatDoor
namespace Go.Proofs.YtmlcpihedmmlfaaGreatDoor
open Go.RowKit

def Wid (s : Nat) (l : List (List Value)) : Prop := ∀ q ∈ l, q.length = s ∧ ∀ u ∈ q, u.oneCell' = true

theorem flat_get {s : Nat} {l : List (List Value)} (hw : Wid s l) : ∀ (j : Nat) (q : List Value), l[j]? = some q → ∀ (i : Nat) (v : Value), q[i]? = some v → l.flatten[j * s + i]? = some v := by
  induction l with
  | nil => intro j q h; simp at h
  | cons a l ih =>
    intro j q hj i v hi
    have ha := (hw a List.mem_cons_self).1
    rw [List.flatten_cons]
    match j, hj with
    | 0, hj =>
      simp at hj; subst hj
      rw [Nat.zero_mul, Nat.zero_add, List.getElem?_append_left (List.getElem?_eq_some_iff.1 hi).1]; exact hi
    | j + 1, hj =>
      have h2 : (j + 1) * s + i = a.length + (j * s + i) := by rw [ha, Nat.add_mul]; omega
      rw [h2, List.getElem?_append_right (by omega), Nat.add_sub_cancel_left]
      exact ih (fun q hq => hw q (List.mem_cons_of_mem _ hq)) j q (by simpa using hj) i v hi

theorem flat_len {s : Nat} {l : List (List Value)} (hw : Wid s l) : l.flatten.length = l.length * s := by
  induction l with
  | nil => simp
  | cons a l ih => rw [List.flatten_cons, List.length_append, ih fun q hq => hw q (List.mem_cons_of_mem _ hq), (hw a List.mem_cons_self).1, List.length_cons, Nat.add_mul]; omega

/-- A slice reads as a list of structs of s cells. -/
def GAt (s : Nat) (w : World) (p : Option Addr) (l : List (List Value)) : Prop :=
  l = [] ∨ ∃ g off, p = some ⟨g, off, none⟩ ∧ g < w.heap.size ∧ ∀ (j : Nat) (q : List Value), l[j]? = some q → ∀ (i : Nat) (v : Value), q[i]? = some v → w.cell? ⟨g, off + j * s + i, none⟩ = some v

theorem GAt.kept {s : Nat} {w w' : World} {p : Option Addr} {l : List (List Value)} (h : GAt s w p l) (hg : w.grownBy w' none) : GAt s w' p l := by
  rcases h with h | ⟨g, off, rfl, hl, hc⟩
  · exact .inl h
  · exact .inr ⟨g, off, rfl, Nat.lt_of_lt_of_le hl hg.size, fun j q hj i v hi => hg.cell (hc j q hj i v hi) (by simp)⟩

theorem GAt.keptS {S : Nat → Prop} {s : Nat} {w w' : World} {p : Option Addr} {l : List (List Value)} (h : GAt s w p l) (hg : Fr2 S w w') (hS : l ≠ [] → ∀ a, p = some a → ¬ S a.block) : GAt s w' p l := by
  rcases h with h | ⟨g, off, rfl, hl, hc⟩
  · exact .inl h
  · by_cases h0 : l = []
    · exact .inl h0
    · exact .inr ⟨g, off, rfl, Nat.lt_of_lt_of_le hl hg.size, fun j q hj i v hi => by rw [World.cell?_of_block (w := w) (hg.block g hl (hS h0 ⟨g, off, none⟩ rfl))]; exact hc j q hj i v hi⟩

theorem GAt.blk {s : Nat} {w : World} {p : Option Addr} {l : List (List Value)} (h : GAt s w p l) : l ≠ [] → ∀ a, p = some a → a.block < w.heap.size := fun h0 a ha => by
  obtain ⟨g, off, rfl, hl, -⟩ := h.resolve_left h0
  injection ha with ha; subst ha; exact hl

theorem GAt.nil {s : Nat} {w : World} {p : Option Addr} : GAt s w p [] := .inl rfl

/-- A row of one's own. -/
def OwnG (s : Nat) (T : TypeId) (w : World) (base : Nat) (v : Value) (l : List (List Value)) : Prop := w.ownsRow base T s v l.length l.flatten ∧ Wid s l

theorem OwnG.nil (s : Nat) (T : TypeId) (w : World) (base : Nat) : OwnG s T w base (.slice none 0 0) [] := ⟨World.ownsRow_nil _ _ _ _, fun q hq => by simp at hq⟩
theorem OwnG.kept {s : Nat} {T : TypeId} {w w' : World} {base : Nat} {v : Value} {l : List (List Value)} (h : OwnG s T w base v l) (hg : w.grownBy w' none) : OwnG s T w' base v l := ⟨World.ownsRow.kept h.1 hg (by
  cases hv : v.ownBlock with
  | none => exact .inl rfl
  | some k => exact .inr (by simp)), h.2⟩

theorem OwnG.keptS {S : Nat → Prop} {s : Nat} {T : TypeId} {w w' : World} {base : Nat} {v : Value} {l : List (List Value)} (h : OwnG s T w base v l) (hg : Fr2 S w w') (hS : ∀ g, base ≤ g → ¬ S g) : OwnG s T w' base v l :=
  ⟨⟨h.1.1, h.1.2.imp id fun ⟨g, cap, cur, e, hb, hh, r⟩ => ⟨g, cap, cur, e, hb, hg.keep hh (hS g hb), r⟩⟩, h.2⟩

theorem OwnG.is {s : Nat} {T : TypeId} {w : World} {base : Nat} {v : Value} {l : List (List Value)} (h : OwnG s T w base v l) : ∃ p c, v = .slice p l.length c ∧ GAt s w p l ∧ l.length ≤ c ∧ c ≤ maxLen ∧ (l ≠ [] → ∀ a, p = some a → base ≤ a.block) := by
  rcases h.1.2 with ⟨rfl, h0⟩ | ⟨g, cap, cur, rfl, hb, hg, hnc, hcm, h1, h2⟩
  · have : l = [] := List.eq_nil_of_length_eq_zero h0
    subst this
    exact ⟨none, 0, rfl, .inl rfl, Nat.le_refl _, by unfold maxLen; omega, fun h => absurd rfl h⟩
  · refine ⟨_, cap, rfl, .inr ⟨g, 0, rfl, hlt hg, fun j q hj i v hi => ?_⟩, hnc, hcm, fun _ a ha => by injection ha with ha; subst ha; exact hb⟩
    have h3 := flat_get h.2 j q hj i v hi
    have h' : w.ownsRow base T s (.slice (some ⟨g, 0, none⟩) l.length cap) l.length l.flatten := h.1
    have h4 := (List.getElem?_eq_some_iff.1 h3).1
    rw [flat_len h.2] at h4
    rw [Nat.zero_add, h'.cellAt _ h4]; exact h3

theorem OwnG.lt {s : Nat} {T : TypeId} {w : World} {base : Nat} {v : Value} {l : List (List Value)} (h : OwnG s T w base v l) {p : Option Addr} {n c : Nat} (hv : v = .slice p n c) (hn : 0 < n) : ∃ a, p = some a ∧ base ≤ a.block ∧ a.block < w.heap.size := by
  rcases h.1.2 with ⟨h1, h0⟩ | ⟨g, cap, cur, h1, hb, hg, -⟩
  · rw [hv] at h1; injection h1 with h1 h2 h3; omega
  · rw [hv] at h1; injection h1 with h1 h2 h3; subst h1; exact ⟨_, rfl, hb, hlt hg⟩

/-- append of no element. -/
theorem run_append_zero {P : Program} {w : World} (base : Nat) (t ty e : TypeId) (i : TypeInfo) (size : Nat) (ht : P.underlying t = some (.slice e)) (hi : P.info? e = some i)
    (v : Value) (n : Nat) (xs : List Value) (hown : w.ownsRow base e size v n xs) (p : Option Addr) (c : Nat) :
    (Builtin.append_ #[t, t] ty #[v, .slice p 0 c]).run P w = .ok v w := by
  rcases hown.2 with ⟨rfl, rfl⟩ | ⟨g, cap, cur, rfl, _, _, hnc, _⟩
  · cases p <;> simp [Builtin.append_, run_underlying ht, sizeOf, typeInfo, hi, Builtin.lenOf, Builtin.firstCells, loadCells, loadCellsFrom]
  · cases p <;> simp [Builtin.append_, run_underlying ht, sizeOf, typeInfo, hi, Builtin.lenOf, Builtin.firstCells, hnc, storeCells, loadCells, loadCellsFrom]

theorem wpList_append_zero {P : Program} {w : World} {ops : Array Oper} {rest : List Oper} {o : Oper} {a : Act} {Q : Exit → Act → World → Prop} (hgd : o.guard = none) (s x : Operand) (t : TypeId)
    (ho : o.op = .call { callee := .builtin .append, args := #[s, x], argTypes := #[t, t] })
    (base : Nat) (e : TypeId) (i : TypeInfo) (size : Nat) (ht : P.underlying t = some (.slice e)) (hi : P.info? e = some i)
    (v : Value) (n : Nat) (xs : List Value) (hs : a.eval s = v) (hown : w.ownsRow base e size v n xs) (p : Option Addr) (c : Nat) (hx : a.eval x = .slice p 0 c)
    (h : wpList P ops Q rest (a.put o.dst v) w) : wpList P ops Q (o :: rest) a w := by
  refine wpList_plain hgd fun K hK => ?_
  have hrun := run_append_zero (P := P) (w := w) base t o.type e i size ht hi v n xs hown p c
  unfold Oper.wp
  simp [execOp, ho, resolve, invoke, builtin, hs, hx, hrun, Result.andThen]
  exact hK _ _ h
/-- append of a whole row onto one's own. -/
theorem wpList_appGs {s : Nat} {t T : TypeId} {z : Value} {by' : Nat} (hs0 : 0 < s) (ht : Tryz.prog.underlying t = some (.slice T)) (hT : (Tryz.prog.info? T).map (fun i => (i.zero, i.size, i.bytes)) = some (some z, s, by')) (hz : z.cells.size = s) (hby : by' ≤ 1000)
    {w0 : World} {ops : Array Oper} {rest : List Oper} {o : Oper} {a : Act} {Q : Exit → Act → World → Prop} (hgd : o.guard = none) (os ox : Operand) (ho : o.op = .call { callee := .builtin .append, args := #[os, ox], argTypes := #[t, t] })
    (base : Nat) (l ys : List (List Value)) (hy : Wid s ys) (v : Value) (hs : a.eval os = v) (hown : OwnG s T w0 base v l) (p : Option Addr) (m c : Nat) (hx : a.eval ox = .slice p m c) (hm : ys.length = m) (hys : GAt s w0 p ys) (hn : l.length ≤ 1000000) (hn2 : m ≤ 1000000) (hbase : base ≤ w0.heap.size)
    (K : ∀ p' n' cap' w', n' = l.length + m → OwnG s T w' base (.slice p' n' cap') (l ++ ys) → Below base w0 w' → w0.grownBy w' v.ownBlock → wpList Tryz.prog ops Q rest (a.put o.dst (.slice p' n' cap')) w') :
    wpList Tryz.prog ops Q (o :: rest) a w0 := by
  obtain ⟨i0, hi, hi0, hi1, hi2⟩ := info_parts hT
  by_cases hm0 : m = 0
  · subst hm0
    have : ys = [] := List.eq_nil_of_length_eq_zero hm
    subst this
    obtain ⟨p', c', rfl, -⟩ := hown.is
    exact wpList_append_zero hgd os ox t ho base T i0 s ht hi _ _ _ hs hown.1 p c hx (K p' _ c' w0 rfl (by simpa using hown) (Below.refl _ _) (gb_refl _ _))
  have hm0 : 0 < m := by omega
  have hb : (l.length + m) * by' ≤ 140737488355328 := by
    have : (l.length + m) * by' ≤ (l.length + m) * 1000 := Nat.mul_le_mul_left _ hby
    omega
  obtain ⟨g, off, rfl, hgl, hc⟩ := hys.resolve_left (fun h => by rw [h] at hm; simp at hm; omega)
  refine wpList_append_lies (P := Tryz.prog) _ hgd os ox t ho base T i0 z s by' ht hi hi0 hi1 hi2 hz hs0 _ l.length l.flatten hs hown.1 ⟨g, off, none⟩ m c ys.flatten hx (by rw [flat_len hy, hm]) ?_ ?_ hm0 (by unfold maxLen; omega) hb hbase w0.heap.size rfl ?_
  · intro j u hj
    have hj2 := (List.getElem?_eq_some_iff.1 hj).1
    rw [flat_len hy] at hj2
    have hq : j / s < ys.length := (Nat.div_lt_iff_lt_mul hs0).2 hj2
    have h3 := List.getElem?_eq_getElem hq
    have hr : j % s < (ys[j / s]).length := by rw [(hy _ (List.getElem_mem hq)).1]; exact Nat.mod_lt _ hs0
    have h4 := List.getElem?_eq_getElem hr
    have h5 := flat_get hy _ _ h3 _ _ h4
    have h6 : j / s * s + j % s = j := by rw [Nat.mul_comm]; exact Nat.div_add_mod j s
    rw [h6, hj] at h5
    have h5 := Option.some.inj h5
    rw [Addr.add_lit, h5, ← hc _ _ h3 _ _ h4, Nat.add_assoc, h6]
  · intro u hu
    obtain ⟨q, hq, hu⟩ := List.mem_flatten.1 hu
    exact (hy q hq).2 u hu
  · intro g' cap' w' h3 h4 h5 _
    refine K _ _ cap' w' rfl ⟨by simpa [hm] using h3, fun q hq => ?_⟩ (below_own hown.1 hbase h4) h4
    rcases List.mem_append.1 hq with hq | hq
    · exact hown.2 q hq
    · exact hy q hq

/-! ### Rows of one cell each -/

def one (zs : List Value) : List (List Value) := zs.map ([·])
theorem one_len (zs : List Value) : (one zs).length = zs.length := List.length_map _
theorem one_flat (zs : List Value) : (one zs).flatten = zs := by
  induction zs with
  | nil => rfl
  | cons a l ih => simpa [one] using ih
theorem one_append (a b : List Value) : one (a ++ b) = one a ++ one b := List.map_append
theorem one_wid {zs : List Value} (h : ∀ u ∈ zs, u.oneCell' = true) : Wid 1 (one zs) := fun q hq => by
  obtain ⟨u, hu, rfl⟩ := List.mem_map.1 hq
  exact ⟨rfl, fun v hv => by simp at hv; subst hv; exact h _ hu⟩
theorem g_of_v {w : World} {p : Option Addr} {zs : List Value} (h : VAt w p zs) : GAt 1 w p (one zs) := by
  rcases h with rfl | ⟨g, off, rfl, hl, hc⟩
  · exact .inl rfl
  · refine .inr ⟨g, off, rfl, hl, fun j q hj i v hi => ?_⟩
    unfold one at hj
    rw [List.getElem?_map] at hj
    obtain ⟨u, hu, rfl⟩ := Option.map_eq_some_iff.1 hj
    match i, hi with
    | 0, hi => simp at hi; subst hi; simpa using hc j _ hu
theorem v_of_g {w : World} {p : Option Addr} {zs : List Value} (h : GAt 1 w p (one zs)) : VAt w p zs := by
  rcases h with h | ⟨g, off, rfl, hl, hc⟩
  · refine .inl ?_
    unfold one at h; exact List.map_eq_nil_iff.1 h
  · refine .inr ⟨g, off, rfl, hl, fun j u hj => ?_⟩
    have := hc j [u] (by unfold one; rw [List.getElem?_map, hj]; rfl) 0 u rfl
    simpa using this
end Go.Proofs.YtmlcpihedmmlfaaGreatDoor
namespace Go.Proofs.YtmlcpihedmmlfaaGreatDoor
open Go.RowKit

def tokVI (t : TokI) : List Value := [.int .i64 t.kind, strV t.lead, strV t.text, .int .i64 t.pos]
def intsV (l : List Int) : List Value := l.map (Value.int .i64)
def ndV (K : Nat → Option Addr × Nat) (i : Nat) (x : Nd) : List Value := [.int .i64 x.kind, .int .i64 x.tok, .slice (K i).1 x.kids.length (K i).2]
def ndsV (K : Nat → Option Addr × Nat) (N : List Nd) : List (List Value) := N.mapIdx (ndV K)
def toksV (T : List TokI) : List (List Value) := T.map tokVI

def KidsAt (w : World) (N : List Nd) (K : Nat → Option Addr × Nat) : Prop := ∀ (i : Nat) (x : Nd), N[i]? = some x → VAt w (K i).1 (intsV x.kids)
def NodesAt (w : World) (p : Option Addr) (N : List Nd) (K : Nat → Option Addr × Nat) : Prop := GAt 3 w p (ndsV K N) ∧ KidsAt w N K
def ToksAt (w : World) (p : Option Addr) (T : List TokI) : Prop := GAt 4 w p (toksV T)

theorem NodesAt.kept {w w' : World} {p : Option Addr} {N : List Nd} {K : Nat → Option Addr × Nat} (h : NodesAt w p N K) (hg : w.grownBy w' none) : NodesAt w' p N K := ⟨h.1.kept hg, fun i x hx => (h.2 i x hx).kept hg⟩
theorem ToksAt.kept {w w' : World} {p : Option Addr} {T : List TokI} (h : ToksAt w p T) (hg : w.grownBy w' none) : ToksAt w' p T := GAt.kept h hg

theorem intsV_len (l : List Int) : (intsV l).length = l.length := List.length_map _
theorem intsV_one (l : List Int) : ∀ u ∈ intsV l, u.oneCell' = true := fun u hu => by obtain ⟨x, -, rfl⟩ := List.mem_map.1 hu; rfl
theorem intsV_append (a b : List Int) : intsV (a ++ b) = intsV a ++ intsV b := List.map_append
theorem intsV_get {l : List Int} {j : Nat} {x : Int} (h : l[j]? = some x) : (intsV l)[j]? = some (.int .i64 x) := by unfold intsV; rw [List.getElem?_map, h]; rfl

/-- A node's cells. -/
theorem node_at {w : World} {p : Option Addr} {N : List Nd} {K : Nat → Option Addr × Nat} (h : NodesAt w p N K) {n : Nat} {x : Nd} (hx : N[n]? = some x) : ∃ g off, p = some ⟨g, off, none⟩ ∧ g < w.heap.size ∧
    w.cell? ⟨g, off + n * 3, none⟩ = some (.int .i64 x.kind) ∧ w.cell? ⟨g, off + n * 3 + 1, none⟩ = some (.int .i64 x.tok) ∧ w.cell? ⟨g, off + n * 3 + 2, none⟩ = some (.slice (K n).1 x.kids.length (K n).2) := by
  have h1 : (ndsV K N)[n]? = some (ndV K n x) := by unfold ndsV; rw [List.getElem?_mapIdx, hx]; rfl
  obtain ⟨g, off, rfl, hl, hc⟩ := h.1.resolve_left (fun h0 => by rw [h0] at h1; simp at h1)
  exact ⟨g, off, rfl, hl, hc n _ h1 0 _ rfl, hc n _ h1 1 _ rfl, hc n _ h1 2 _ rfl⟩

theorem tok_at {w : World} {p : Option Addr} {T : List TokI} (h : ToksAt w p T) {n : Nat} {t : TokI} (hx : T[n]? = some t) : ∃ g off, p = some ⟨g, off, none⟩ ∧ g < w.heap.size ∧
    w.cell? ⟨g, off + n * 4, none⟩ = some (.int .i64 t.kind) ∧ w.cell? ⟨g, off + n * 4 + 1, none⟩ = some (strV t.lead) ∧ w.cell? ⟨g, off + n * 4 + 2, none⟩ = some (strV t.text) ∧ w.cell? ⟨g, off + n * 4 + 3, none⟩ = some (.int .i64 t.pos) := by
  have h1 : (toksV T)[n]? = some (tokVI t) := by unfold toksV; rw [List.getElem?_map, hx]; rfl
  obtain ⟨g, off, rfl, hl, hc⟩ := Or.resolve_left h (fun h0 => by rw [h0] at h1; simp at h1)
  exact ⟨g, off, rfl, hl, hc n _ h1 0 _ rfl, hc n _ h1 1 _ rfl, hc n _ h1 2 _ rfl, hc n _ h1 3 _ rfl⟩

/-- A kid's cell. -/
theorem kid_at {w : World} {p : Option Addr} {l : List Int} (h : VAt w p (intsV l)) {j : Nat} {x : Int} (hx : l[j]? = some x) : ∃ g off, p = some ⟨g, off, none⟩ ∧ g < w.heap.size ∧ w.cell? ⟨g, off + j, none⟩ = some (.int .i64 x) := by
  have h1 := intsV_get hx
  obtain ⟨g, off, rfl, hl, hc⟩ := h.resolve_left (fun h0 => by rw [h0] at h1; simp at h1)
  exact ⟨g, off, rfl, hl, hc j _ h1⟩

theorem infoI : (Tryz.prog.info? 3).map (fun i => (i.zero, i.size, i.bytes)) = some (some (.int .i64 0), 1, 8) := by kernel_rfl

end Go.Proofs.YtmlcpihedmmlfaaGreatDoor
namespace Go.Proofs.YtmlcpihedmmlfaaGreatDoor
open Go.RowKit

def okB (n : Nat) (l : List Int) : Bool := l.all fun k => decide (0 ≤ k ∧ k < (n : Int))
theorem okB_true {n : Nat} {l : List Int} (h : ∀ k ∈ l, 0 ≤ k ∧ k < (n : Int)) : okB n l = true := by
  unfold okB; rw [List.all_eq_true]; exact fun k hk => decide_eq_true (h k hk)
theorem okB_false {n : Nat} {l : List Int} {j : Nat} {x : Int} (hx : l[j]? = some x) (h : ¬ (0 ≤ x ∧ x < (n : Int))) : okB n l = false := by
  unfold okB; rw [List.all_eq_false]; exact ⟨x, List.mem_of_getElem? hx, by simpa using h⟩
set_option maxRecDepth 100000 in
set_option maxHeartbeats 4000000 in
theorem eachBelow_c (n : Nat) (l : List Int) (p : Option Addr) (c : Nat) (w : World) (hn : n ≤ 1000000) (hl : l.length ≤ 1000000) (h : VAt w p (intsV l)) :
    Calls Tryz.prog 101 #[.int .i64 (n : Int), .slice p l.length c] w (ValPost (.bool (okB n l)) w) := by
  obtain ⟨m, hm⟩ : ∃ m, l.length = m := ⟨_, rfl⟩
  have HM := Lib.hid hm
  have HV := Lib.hid h
  rw [hm] at hl ⊢
  clear hm h
  go_enter Tryz.func101, Tryz.ntmps101
  go_wp2_with fail
  go_loopw [9] (fun v wr => ∃ k : Nat, k ≤ m ∧ v = .int .i64 k ∧ wr = w ∧ Hid (∀ (j : Nat) (x : Int), j < k → l[j]? = some x → 0 ≤ x ∧ x < (n : Int))) (fun v _ => m - (intOf v).toNat)
  case atStart => exact ⟨0, Nat.zero_le _, rfl, rfl, Lib.hid (fun j x h => by omega)⟩
  case round =>
    obtain ⟨k, hk, rfl, rfl, HK⟩ := hrel
    by_cases hlt : k < m
    · have d1 : decide ((k : Int) < (m : Int)) = true := decide_eq_true (by omega)
      have d1' : decide (k < m) = true := decide_eq_true hlt
      obtain ⟨x, hx⟩ : ∃ x, l[k]? = some x := ⟨l[k]'(by rw [HM.out]; exact hlt), List.getElem?_eq_getElem _⟩
      obtain ⟨g, off, rfl, hgl, c0⟩ := kid_at HV.out hx
      have HX := Lib.hid hx
      clear hx
      by_cases h0 : x < 0
      · have d2 : decide (x < 0) = true := decide_eq_true h0
        go_wp2_with fail
        go_ret
        exact ⟨by rw [okB_false HX.out (by omega)]; rfl, gb_refl _ _⟩
      · have d2 : decide (x < 0) = false := decide_eq_false h0
        by_cases h1 : (n : Int) ≤ x
        · have d3 : decide ((n : Int) ≤ x) = true := decide_eq_true h1
          go_wp2_with fail
          go_ret
          exact ⟨by rw [okB_false HX.out (by omega)]; rfl, gb_refl _ _⟩
        · have d3 : decide ((n : Int) ≤ x) = false := decide_eq_false h1
          go_wp2_with fail
          go_roundw
          case rel => exact ⟨k + 1, by omega, by go_num, by first | rfl | trivial, Lib.hid (fun j y hj hy => by
            by_cases e : j = k
            · subst e; rw [HX.out] at hy; cases hy; omega
            · exact HK.out j y (by omega) hy)⟩
          case measure => (simp [intOf] <;> omega)
    · obtain rfl : k = m := by omega
      go_wp2_with fail
      go_ret
      exact ⟨by rw [okB_true fun y hy => by
        obtain ⟨j, hj⟩ := List.getElem?_of_mem hy
        have := (List.getElem?_eq_some_iff.1 hj).1
        rw [HM.out] at this
        exact HK.out j y this hj]; rfl, gb_refl _ _⟩

end Go.Proofs.YtmlcpihedmmlfaaGreatDoor
namespace Go.Proofs.YtmlcpihedmmlfaaGreatDoor

mutual
/-- How many nodes a tree has. -/
def szR : Tr → Nat
  | .lf _ => 1
  | .nd _ l => szRs l + 1
def szRs : List Tr → Nat
  | [] => 0
  | t :: l => szR t + szRs l
end
/-- Where the roots of trees stand that begin at b. -/
def idxs : Nat → List Tr → List Int
  | _, [] => []
  | b, t :: l => ((b + szR t - 1 : Nat) : Int) :: idxs (b + szR t) l
mutual
/-- A tree's nodes from b on. -/
def post : Nat → Tr → List Nd
  | _, .lf i => [⟨19, (i : Int), []⟩]
  | b, .nd k l => posts b l ++ [⟨(k : Int), -1, idxs b l⟩]
def posts : Nat → List Tr → List Nd
  | _, [] => []
  | b, t :: l => post b t ++ posts (b + szR t) l
end

theorem szR_pos (t : Tr) : 1 ≤ szR t := by cases t <;> (unfold szR; omega)
theorem idxs_append (a c : List Tr) : ∀ b, idxs b (a ++ c) = idxs b a ++ idxs (b + szRs a) c := by
  induction a with
  | nil => intro b; simp [idxs, szRs]
  | cons t a ih =>
    intro b
    simp only [List.cons_append, idxs, szRs, ih]
    rw [show b + szR t + szRs a = b + (szR t + szRs a) by omega]
theorem posts_append (a c : List Tr) : ∀ b, posts b (a ++ c) = posts b a ++ posts (b + szRs a) c := by
  induction a with
  | nil => intro b; simp [posts, szRs]
  | cons t a ih =>
    intro b
    simp only [List.cons_append, posts, szRs, ih, List.append_assoc]
    rw [show b + szR t + szRs a = b + (szR t + szRs a) by omega]
mutual
theorem post_len : ∀ (t : Tr) (b : Nat), (post b t).length = szR t
  | .lf i, b => by simp [post, szR]
  | .nd k l, b => by simp [post, szR, posts_len l b]
theorem posts_len : ∀ (l : List Tr) (b : Nat), (posts b l).length = szRs l
  | [], b => by simp [posts, szRs]
  | t :: l, b => by simp [posts, szRs, post_len t b, posts_len l (b + szR t)]
end
theorem idxs_in : ∀ (l : List Tr) (b : Nat) (k : Int), k ∈ idxs b l → (b : Int) ≤ k ∧ k < ((b + szRs l : Nat) : Int)
  | [], b, k, h => by simp [idxs] at h
  | t :: l, b, k, h => by
    have hp := szR_pos t
    simp only [idxs, List.mem_cons] at h
    simp only [szRs]
    rcases h with rfl | h
    · omega
    · have := idxs_in l (b + szR t) k h
      omega
theorem idxs_len : ∀ (l : List Tr) (b : Nat), (idxs b l).length = l.length
  | [], b => rfl
  | t :: l, b => by simp [idxs, idxs_len l]

/-- What a reading leaves: k more of room than it takes. -/
def OutL (k : Nat) (N : List Nd) (s : St) (r : RT) (N' : List Nd) (vs : List Int) : Prop :=
  (r.2.e = 0 → N' = N ++ posts N.length r.1 ∧ vs = idxs N.length r.1 ∧ N'.length + 2 * s.i + k ≤ N.length + 2 * r.2.i) ∧ N'.length + 2 * s.i ≤ N.length + 2 * r.2.i
structure OutD (k : Nat) (N : List Nd) (s : St) (r : RT) (N' : List Nd) (vs : List Int) : Prop where
  out : OutL k N s r N' vs
  dead : r.2.e ≠ 0 → (-1 : Int) ∈ vs
/-- The same state; the same trees, where there is no fault. -/
def Eqv (a b : RT) : Prop := a.2 = b.2 ∧ (b.2.e = 0 → a.1 = b.1)
theorem Eqv.refl (a : RT) : Eqv a a := ⟨rfl, fun _ => rfl⟩

theorem OutL.nil (N : List Nd) (s : St) : OutL 0 N s ([], s) N [] := ⟨fun _ => ⟨by simp [posts], rfl, Nat.le_refl _⟩, Nat.le_refl _⟩
theorem OutL.app {k1 k2 : Nat} {N N1 N2 : List Nd} {s : St} {a b : RT} {v1 v2 : List Int} (h1 : OutL k1 N s a N1 v1) (h2 : OutL k2 N1 a.2 b N2 v2) (hd : a.2.e ≠ 0 → b.2.e ≠ 0) : OutL (k1 + k2) N s (a.1 ++ b.1, b.2) N2 (v1 ++ v2) := by
  refine ⟨fun e => ?_, ?_⟩
  · have ea : a.2.e = 0 := by
      rcases Nat.eq_zero_or_pos a.2.e with h | h
      · exact h
      · exact absurd e (hd (by omega))
    obtain ⟨e1, e2, e3⟩ := h1.1 ea
    obtain ⟨f1, f2, f3⟩ := h2.1 e
    have hl : N1.length = N.length + szRs a.1 := by rw [e1, List.length_append, posts_len]
    refine ⟨?_, ?_, ?_⟩
    · rw [f1, hl, posts_append, ← List.append_assoc, ← e1]
    · rw [f2, e2, hl, idxs_append]
    · show N2.length + 2 * s.i + (k1 + k2) ≤ N.length + 2 * b.2.i; omega
  · have := h1.2; have := h2.2
    show N2.length + 2 * s.i ≤ N.length + 2 * b.2.i; omega
theorem OutD.app {k1 k2 : Nat} {N N1 N2 : List Nd} {s : St} {a b : RT} {v1 v2 : List Int} (h1 : OutL k1 N s a N1 v1) (h2 : OutD k2 N1 a.2 b N2 v2) (hd : a.2.e ≠ 0 → b.2.e ≠ 0) : OutD (k1 + k2) N s (a.1 ++ b.1, b.2) N2 (v1 ++ v2) :=
  ⟨h1.app h2.out hd, fun e => List.mem_append_right _ (h2.dead e)⟩
theorem OutL.weak {k j : Nat} {N N' : List Nd} {s : St} {r : RT} {vs : List Int} (h : OutL k N s r N' vs) (hj : j ≤ k) : OutL j N s r N' vs :=
  ⟨fun e => ⟨(h.1 e).1, (h.1 e).2.1, by have := (h.1 e).2.2; omega⟩, h.2⟩
theorem OutD.weak {k j : Nat} {N N' : List Nd} {s : St} {r : RT} {vs : List Int} (h : OutD k N s r N' vs) (hj : j ≤ k) : OutD j N s r N' vs := ⟨h.out.weak hj, h.dead⟩
theorem OutL.eqv {k : Nat} {N N' : List Nd} {s : St} {a b : RT} {vs : List Int} (h : OutL k N s a N' vs) (he : Eqv a b) : OutL k N s b N' vs :=
  ⟨fun e => by rw [← he.1, ← he.2 e]; exact h.1 (by rw [he.1]; exact e), by rw [← he.1]; exact h.2⟩
theorem OutD.eqv {k : Nat} {N N' : List Nd} {s : St} {a b : RT} {vs : List Int} (h : OutD k N s a N' vs) (he : Eqv a b) : OutD k N s b N' vs :=
  ⟨h.out.eqv he, fun e => h.dead (by rw [he.1]; exact e)⟩

/-- A node of what was read. -/
theorem OutD.ok {k : Nat} {N N1 : List Nd} {s : St} {r : RT} {vs : List Int} (h : OutD k N s r N1 vs) (e : r.2.e = 0) : okB N1.length vs = true := by
  obtain ⟨e1, e2, -⟩ := h.out.1 e
  refine okB_true fun j hj => ?_
  rw [e2] at hj
  have := idxs_in _ _ _ hj
  rw [e1, List.length_append, posts_len]
  omega
theorem OutD.no {k : Nat} {N N1 : List Nd} {s : St} {r : RT} {vs : List Int} (h : OutD k N s r N1 vs) (e : r.2.e ≠ 0) : okB N1.length vs = false := by
  obtain ⟨j, hj⟩ := List.getElem?_of_mem (h.dead e)
  exact okB_false hj (by omega)
theorem OutD.node {k kind : Nat} {N N1 : List Nd} {s : St} {r : RT} {vs : List Int} (h : OutD (k + 1) N s r N1 vs) (e : r.2.e = 0) : OutD k N s ([.nd kind r.1], r.2) (N1 ++ [⟨(kind : Int), -1, vs⟩]) [(N1.length : Int)] := by
  obtain ⟨e1, e2, e3⟩ := h.out.1 e
  have hl : N1.length = N.length + szRs r.1 := by rw [e1, List.length_append, posts_len]
  refine ⟨⟨fun _ => ⟨?_, ?_, ?_⟩, ?_⟩, fun h => absurd e h⟩
  · simp only [posts, post, List.append_nil]; rw [← List.append_assoc, ← e1, e2]
  · simp only [idxs, szR]; rw [hl]; congr 1
  · rw [List.length_append]; show N1.length + 1 + 2 * s.i + k ≤ N.length + 2 * r.2.i; omega
  · rw [List.length_append]; show N1.length + 1 + 2 * s.i ≤ N.length + 2 * r.2.i; omega
theorem OutD.none {k kind : Nat} {N N1 : List Nd} {s : St} {r : RT} {vs : List Int} (h : OutD (k + 1) N s r N1 vs) (e : r.2.e ≠ 0) : OutD k N s ([.nd kind r.1], r.2) N1 [-1] :=
  ⟨⟨fun h => absurd h e, h.out.2⟩, fun _ => List.mem_singleton.2 rfl⟩
theorem OutD.leaf {T : List Tok} {N : List Nd} {s : St} (hk : (tokQ T s).kind ≠ 5) (he : s.e = 0) : OutD 1 N s (leafT T s) (N ++ [⟨19, (s.i : Int), []⟩]) [(N.length : Int)] := by
  have h1 := leaf_fits hk
  refine ⟨⟨fun _ => ⟨?_, ?_, ?_⟩, ?_⟩, fun h => absurd ?_ h⟩
  · simp [leafT, posts, post]
  · simp [leafT, idxs, szR]
  · rw [List.length_append]; show N.length + 1 + 2 * s.i + 1 ≤ N.length + 2 * (leafQ T s).2.i; omega
  · rw [List.length_append]; show N.length + 1 + 2 * s.i ≤ N.length + 2 * (leafQ T s).2.i; omega
  · show (leafQ T s).2.e = 0; unfold leafQ; split <;> exact he
theorem OutD.fail {T : List Tok} {N : List Nd} {s : St} {k m : Nat} (hm : m ≠ 0) (l : List Tr) : OutD k N s (l, failQ T m s) N [-1] :=
  ⟨⟨fun h => absurd h (fail_e T hm s), by show N.length + 2 * s.i ≤ N.length + 2 * (failQ T m s).i; rw [fail_i]; omega⟩, fun _ => List.mem_singleton.2 rfl⟩
end Go.Proofs.YtmlcpihedmmlfaaGreatDoor
namespace Go.Proofs.YtmlcpihedmmlfaaGreatDoor

structure Keep (s : St) (r : RT) : Prop where
  inn : r.2.inn = s.inn
  dead : s.e ≠ 0 → r.2 = s
theorem Keep.nil (s : St) : Keep s ([], s) := ⟨rfl, fun _ => rfl⟩
theorem Keep.app {s : St} {a b : RT} (h1 : Keep s a) (h2 : Keep a.2 b) {l : List Tr} : Keep s (l, b.2) := by
  refine ⟨h2.inn.trans h1.inn, fun e => ?_⟩
  have ha := h1.dead e
  show b.2 = s
  rw [h2.dead (by rw [ha]; exact e), ha]
theorem Keep.node {s : St} {a : RT} (h : Keep s a) {l : List Tr} : Keep s (l, a.2) := ⟨h.inn, h.dead⟩

section
variable (T : List Tok)
theorem fail_same {n : Nat} {s : St} (h : s.e ≠ 0) : failQ T n s = s := by unfold failQ; rw [if_neg h]
theorem fail_keep (n : Nat) (s : St) (l : List Tr) : Keep s (l, failQ T n s) := ⟨by show (failQ T n s).inn = s.inn; unfold failQ; split <;> rfl, fun h => fail_same T h⟩
theorem nest_same {D n : Nat} {s : St} (h : s.e ≠ 0) : nestQ T D n s = s := by unfold nestQ; split; exact fail_same T h; rfl
theorem nest_inn (D n : Nat) (s : St) : (nestQ T D n s).inn = s.inn := by unfold nestQ; split; exact (fail_keep T 23 s []).inn; rfl
theorem nest_keep {D n : Nat} {s : St} {r : RT} (h : Keep (nestQ T D n s) r) : Keep s r :=
  ⟨h.inn.trans (nest_inn T D n s), fun e => by have h1 := nest_same T (D := D) (n := n) e; rw [h.dead (by rw [h1]; exact e), h1]⟩
theorem leaf_keep {s : St} (h : s.e = 0) : Keep s (leafT T s) := ⟨by show (leafQ T s).2.inn = s.inn; unfold leafQ; split <;> rfl, fun e => absurd h e⟩
theorem must_keep (x : List UInt8) (s : St) : Keep s (mustT T x s) := by
  unfold mustT; split
  · rename_i h; exact leaf_keep T (is_kind h).2
  · exact fail_keep T 22 s []
theorem kind_keep (k : Nat) (s : St) : Keep s (kindT T k s) := by
  unfold kindT; split
  · rename_i h; exact leaf_keep T h.1
  · exact fail_keep T 22 s []
theorem row_keep {c : St → Bool} {sub : St → RT} (hc : ∀ s, c s = true → s.e = 0) (hs : ∀ s, Keep s (sub s)) {s : St} : ∀ f r, Keep s r → Keep s (rwT T c sub f r)
  | 0, r, h => h
  | f + 1, r, h => by
    unfold rwT
    split
    · rename_i hcc
      exact row_keep hc hs f _ ((h.app (leaf_keep T (hc _ hcc)) (l := [])).app (hs _))
    · exact h
theorem parts_keep {sub : St → RT} (hs : ∀ s, Keep s (sub s)) {s : St} : ∀ f k r, Keep s r → Keep s (partsT T sub f k r)
  | 0, k, r, h => h
  | f + 1, k, r, h => by
    unfold partsT
    split
    · rename_i hcc
      refine parts_keep hs f _ _ ?_
      refine (h.app (leaf_keep T (is_kind hcc).2) (l := [])).app ?_
      show Keep (leafT T r.2).2 _
      split
      · exact (fail_keep T 15 _ []).app (hs _)
      · exact hs _
    · exact h
structure NxK (nt : NxT) : Prop where
  expr : ∀ s, Keep s (nt.expr s)
  formula : ∀ s, Keep s (nt.formula s)
  nots : ∀ s, Keep s (nt.nots s)
  factor : ∀ s, Keep s (nt.factor s)
end

section
variable (T : List Tok) (D n : Nat) {nt : NxT} (h : NxK nt)
include h
theorem args_keep (s : St) : Keep s (argsT T nt s) := parts_keep T h.expr _ _ _ (h.expr s)
omit h in
theorem nameB_keep {s : St} {a : RT} (ha : Keep s a) : Keep s (nameBT T a) := by
  unfold nameBT; split
  · rename_i hc; exact (ha.app (leaf_keep T (is_kind hc).2) (l := [])).app (kind_keep T _ _)
  · exact ha
omit h in
theorem nameC_keep {s : St} {a : RT} (ha : Keep s a) : Keep s (nameCT T a) := ha.app (must_keep T _ _)
theorem nameD_keep {s : St} {a : RT} (ha : Keep s a) : Keep s (nameDT T nt a) := by
  unfold nameDT; split
  · exact ha
  · exact ha.app (args_keep T h _)
omit h in
theorem nameE_keep {s : St} {a : RT} (ha : Keep s a) : Keep s (nameET T a) := ha.app (must_keep T _ _)
theorem name_keep {s : St} (hk : s.e = 0) : Keep s (nameT T nt s) := by
  unfold nameT; split
  · exact (leaf_keep T hk).node
  · exact nameE_keep T (nameD_keep T h (nameC_keep T (nameB_keep T (leaf_keep T hk))))
theorem atom_keep (s : St) : Keep s (atomT T nt s) := by
  unfold atomT
  split
  · exact Keep.nil s
  rename_i he
  have he : s.e = 0 := by omega
  split
  · exact (leaf_keep T he).node
  split
  · exact (leaf_keep T he).node
  split
  · exact (leaf_keep T he).node
  split
  · exact ((leaf_keep T he).app (h.expr _) (l := [])).app (must_keep T _ _)
  split
  · exact name_keep T h he
  · exact fail_keep T 22 s []
omit h in
theorem sign_keep {sub : St → RT} (hs : ∀ s, Keep s (sub s)) {s : St} (hk : s.e = 0) : Keep s (signT T D n sub s) := by
  unfold signT
  simp only []
  split
  · exact (leaf_keep T hk).app (nest_keep T (Keep.nil _))
  · exact (leaf_keep T hk).app (nest_keep T (hs _))
theorem factor_keep (s : St) : Keep s (factorT T D n nt s) := by
  unfold factorT; split
  · rename_i hk; exact sign_keep T D n h.factor (is_kind hk).2
  · exact atom_keep T h s
theorem product_keep (s : St) : Keep s (productT T D n nt s) := row_keep T (fun _ hc => mul_e hc) (factor_keep T D n h) _ _ (factor_keep T D n h s)
theorem sum_keep (s : St) : Keep s (sumT T D n nt s) := row_keep T (fun _ hc => add_e hc) (product_keep T D n h) _ _ (product_keep T D n h s)
theorem not_keep (s : St) : Keep s (notT T D n nt s) := by
  unfold notT
  simp only []
  split
  · rename_i hk; exact sign_keep T D n h.nots (is_kind hk).2
  split
  · rename_i hk; exact ((sum_keep T D n h s).app (leaf_keep T (cmp_e hk)) (l := [])).app (sum_keep T D n h _)
  · exact sum_keep T D n h s
theorem and_keep (s : St) : Keep s (andT T D n nt s) := row_keep T (fun _ hc => (is_kind hc).2) (not_keep T D n h) _ _ (not_keep T D n h s)
theorem or_keep (s : St) : Keep s (orT T D n nt s) := row_keep T (fun _ hc => (is_kind hc).2) (and_keep T D n h) _ _ (and_keep T D n h s)
theorem formula_keep (s : St) : Keep s (formulaT T D n nt s) := by
  unfold formulaT
  simp only []
  split
  · rename_i hk
    split
    · exact ((or_keep T D n h s).app (leaf_keep T (is_kind hk).2) (l := [])).app (nest_keep T (Keep.nil _))
    · exact ((or_keep T D n h s).app (leaf_keep T (is_kind hk).2) (l := [])).app (nest_keep T (h.formula _))
  · exact or_keep T D n h s
theorem let_keep {s : St} (hk : s.e = 0) : Keep s (letT T nt s) :=
  (((((leaf_keep T hk).app (kind_keep T _ _) (l := [])).app (must_keep T _ _) (l := [])).app (h.expr _) (l := [])).app (must_keep T _ _) (l := [])).app (h.expr _)
theorem if_keep {s : St} (hk : s.e = 0) : Keep s (ifT T nt s) :=
  (((((leaf_keep T hk).app (h.expr _) (l := [])).app (must_keep T _ _) (l := [])).app (h.expr _) (l := [])).app (must_keep T _ _) (l := [])).app (h.expr _)
theorem assert_keep {s : St} (hk : s.e = 0) : Keep s (assertT T nt s) :=
  (((leaf_keep T hk).app (h.expr _) (l := [])).app (must_keep T _ _) (l := [])).app (h.expr _)
theorem expr_keep (s : St) : Keep s (exprT T D n nt s) := by
  unfold exprT
  simp only []
  split
  · exact nest_keep T (Keep.nil _)
  split
  · rename_i hk; exact nest_keep T (let_keep T h (is_kind hk.2).2)
  split
  · rename_i hk; exact nest_keep T (if_keep T h (is_kind hk.2).2)
  split
  · rename_i hk; exact nest_keep T (assert_keep T h (is_kind hk.2).2)
  · exact nest_keep T (formula_keep T D n h _)
end
theorem nx_keep (T : List Tok) (D : Nat) : ∀ d, NxK (nxT T D d)
  | 0 => ⟨fun s => nest_keep T (Keep.nil _), fun s => Keep.nil s, fun s => Keep.nil s, fun s => Keep.nil s⟩
  | d + 1 => ⟨expr_keep T D _ (nx_keep T D d), formula_keep T D _ (nx_keep T D d), not_keep T D _ (nx_keep T D d), factor_keep T D _ (nx_keep T D d)⟩

/-! ### What is nested -/

/-- What the program reads where nothing but an expression stands: no nesting is counted. -/
def bodyE (T : List Tok) (D n : Nat) (nt : NxT) (s : St) : RT :=
  if isQ T [108, 101, 116] s = true then letT T nt s
  else if isQ T [105, 102] s = true then ifT T nt s
  else if isQ T [97, 115, 115, 101, 114, 116] s = true then assertT T nt s
  else formulaT T D n nt s
theorem body_keep (T : List Tok) (D n : Nat) {nt : NxT} (h : NxK nt) (s : St) : Keep s (bodyE T D n nt s) := by
  unfold bodyE
  split
  · rename_i hk; exact let_keep T h (is_kind hk).2
  split
  · rename_i hk; exact if_keep T h (is_kind hk).2
  split
  · rename_i hk; exact assert_keep T h (is_kind hk).2
  · exact formula_keep T D n h s
/-- All that is nested by more than n. -/
abbrev NT (T : List Tok) (D n : Nat) : NxT := nxT T D (D - n)
def nestP (T : List Tok) (D n : Nat) (sub : St → RT) (s : St) : RT := if n = D then ([], failQ T 23 s) else sub s
theorem NT_succ (T : List Tok) {D n : Nat} (h : n < D) : NT T D n = { expr := exprT T D (n + 1) (NT T D (n + 1)), formula := formulaT T D (n + 1) (NT T D (n + 1)), nots := notT T D (n + 1) (NT T D (n + 1)), factor := factorT T D (n + 1) (NT T D (n + 1)) } := by
  show nxT T D (D - n) = _
  have h1 : D - n = (D - (n + 1)) + 1 := by omega
  have h2 : D - (D - (n + 1)) = n + 1 := by omega
  rw [h1]
  show { expr := exprT T D (D - (D - (n + 1))) _, formula := formulaT T D (D - (D - (n + 1))) _, nots := notT T D (D - (D - (n + 1))) _, factor := factorT T D (D - (D - (n + 1))) _ : NxT } = _
  rw [h2]
theorem nest_deep (T : List Tok) (D : Nat) (s : St) : nestQ T D (D + 1) s = failQ T 23 s := by unfold nestQ; rw [if_pos (by omega)]
theorem nest_flat (T : List Tok) {D n : Nat} (h : n < D) (s : St) : nestQ T D (n + 1) s = s := by unfold nestQ; rw [if_neg (by omega)]
theorem expr_nest (T : List Tok) {D n : Nat} (hn : n ≤ D) (s : St) (hi : s.inn = false) : Eqv (nestP T D n (bodyE T D (n + 1) (NT T D (n + 1))) s) ((NT T D n).expr s) := by
  unfold nestP
  split
  · rename_i h
    subst h
    have : (NT T n n).expr s = ([], nestQ T n (n + 1) s) := by unfold NT; rw [Nat.sub_self]; rfl
    rw [this, nest_deep]; exact Eqv.refl _
  · rename_i h
    have hlt : n < D := by omega
    rw [NT_succ T hlt]
    show Eqv (bodyE T D (n + 1) (NT T D (n + 1)) s) (exprT T D (n + 1) (NT T D (n + 1)) s)
    unfold exprT
    rw [nest_flat T hlt]
    simp only []
    by_cases he : s.e ≠ 0
    · rw [if_pos he]
      exact ⟨(body_keep T D (n + 1) (nx_keep T D _) s).dead he, fun e => absurd e he⟩
    · rw [if_neg he]
      unfold bodyE
      simp only [hi, true_and]
      exact Eqv.refl _
theorem form_nest (T : List Tok) {D n : Nat} (hn : n ≤ D) (s : St) (hi : s.inn = true) : Eqv (nestP T D n (formulaT T D (n + 1) (NT T D (n + 1))) s) ((NT T D n).expr s) := by
  unfold nestP
  split
  · rename_i h
    subst h
    have : (NT T n n).expr s = ([], nestQ T n (n + 1) s) := by unfold NT; rw [Nat.sub_self]; rfl
    rw [this, nest_deep]; exact Eqv.refl _
  · rename_i h
    have hlt : n < D := by omega
    rw [NT_succ T hlt]
    show Eqv (formulaT T D (n + 1) (NT T D (n + 1)) s) (exprT T D (n + 1) (NT T D (n + 1)) s)
    unfold exprT
    rw [nest_flat T hlt]
    simp only []
    by_cases he : s.e ≠ 0
    · rw [if_pos he]
      exact ⟨(formula_keep T D (n + 1) (nx_keep T D _) s).dead he, fun e => absurd e he⟩
    · rw [if_neg he]
      simp only [hi, Bool.true_eq_false, false_and, if_false]
      exact Eqv.refl _
theorem leaf_live (T : List Tok) {s : St} (h : s.e = 0) : (leafT T s).2.e = 0 := by show (leafQ T s).2.e = 0; unfold leafQ; split <;> exact h
/-- A sign, and what is nested behind it. -/
theorem sign_eqv (T : List Tok) {D n : Nat} (hn : n ≤ D) {sub sub' : St → RT} (hs : n < D → sub' = sub) (s : St) (hk : s.e = 0) :
    Eqv ([.nd 11 ((leafT T s).1 ++ (nestP T D n sub (leafT T s).2).1)], (nestP T D n sub (leafT T s).2).2) (signT T D n sub' s) := by
  unfold signT nestP
  simp only []
  by_cases h : n = D
  · subst h
    rw [if_pos rfl, nest_deep, if_pos (fail_e T (by decide) _)]
    exact ⟨rfl, fun e => absurd e (fail_e T (by decide) _)⟩
  · have hlt : n < D := by omega
    rw [if_neg h, nest_flat T hlt, hs hlt, if_neg (by rw [leaf_live T hk]; decide)]
    exact Eqv.refl _
/-- A formula with what is nested behind its sign. -/
theorem form_eqv (T : List Tok) {D n : Nat} (hn : n ≤ D) {sub : St → RT} {nt : NxT} (hs : n < D → nt.formula = sub) (s : St) (hk : isQ T [61, 62] (orT T D n nt s).2 = true) :
    Eqv ([.nd 10 ((orT T D n nt s).1 ++ (leafT T (orT T D n nt s).2).1 ++ (nestP T D n sub (leafT T (orT T D n nt s).2).2).1)], (nestP T D n sub (leafT T (orT T D n nt s).2).2).2) (formulaT T D n nt s) := by
  unfold formulaT nestP
  simp only []
  rw [if_pos hk]
  by_cases h : n = D
  · subst h
    rw [if_pos rfl, nest_deep, if_pos (fail_e T (by decide) _)]
    exact ⟨rfl, fun e => absurd e (fail_e T (by decide) _)⟩
  · have hlt : n < D := by omega
    rw [if_neg h, nest_flat T hlt, hs hlt, if_neg (by rw [leaf_live T (is_kind hk).2]; decide)]
    exact Eqv.refl _

/-! ### Loops -/

theorem rwT_stop {T : List Tok} {c : St → Bool} {sub : St → RT} {r : RT} (hc : c r.2 = false) : ∀ f, rwT T c sub f r = r
  | 0 => rfl
  | f + 1 => by unfold rwT; rw [hc]; rfl
def rowS (T : List Tok) (sub : St → RT) (r : RT) : RT := ([.nd 10 (r.1 ++ (leafT T r.2).1 ++ (sub (leafT T r.2).2).1)], (sub (leafT T r.2).2).2)
def LeftR (T : List Tok) (c : St → Bool) (sub : St → RT) (R r : RT) : Prop := ∃ f, T.length - r.2.i + 1 ≤ f ∧ rwT T c sub f r = R
theorem LeftR.start (T : List Tok) (c : St → Bool) (sub : St → RT) (s : St) : LeftR T c sub (rwT T c sub (fuelQ T (sub s).2) (sub s)) (sub s) := ⟨_, Nat.le_refl _, rfl⟩
theorem LeftR.stop {T : List Tok} {c : St → Bool} {sub : St → RT} {R r : RT} (h : LeftR T c sub R r) (hc : c r.2 = false) : R = r := by
  obtain ⟨f, -, hf⟩ := h; rw [← hf, rwT_stop hc]
theorem leaf_i {T : List Tok} {s : St} (hk : (tokQ T s).kind ≠ 5) : (leafT T s).2.i = s.i + 1 := (leaf_fits hk).2
theorem LeftR.next {T : List Tok} {c : St → Bool} {sub : St → RT} {R r : RT} (h : LeftR T c sub R r) (hc : c r.2 = true) (hk : (tokQ T r.2).kind ≠ 5) (hi : r.2.i < T.length) (hm : (leafT T r.2).2.i ≤ (sub (leafT T r.2).2).2.i) : LeftR T c sub R (rowS T sub r) ∧ r.2.i < (rowS T sub r).2.i := by
  obtain ⟨f, hf, hr⟩ := h
  have h1 := leaf_i hk
  have h2 : r.2.i < (rowS T sub r).2.i := by show r.2.i < (sub (leafT T r.2).2).2.i; omega
  refine ⟨⟨f - 1, by omega, ?_⟩, h2⟩
  obtain ⟨k, rfl⟩ : ∃ k, f = k + 1 := ⟨f - 1, by omega⟩
  unfold rwT at hr
  rw [if_pos hc] at hr
  exact hr

/-- Parts with commas, as the program goes at them: j rounds are left. -/
def loopP (T : List Tok) (sub : St → RT) : Nat → RT → RT
  | 0, r => (r.1, failQ T 15 r.2)
  | j + 1, r => if isQ T [44] (sub r.2).2 = true then loopP T sub j (r.1 ++ (sub r.2).1 ++ (leafT T (sub r.2).2).1, (leafT T (sub r.2).2).2) else (r.1 ++ (sub r.2).1, (sub r.2).2)
def listP (T : List Tok) (sub : St → RT) (s : St) : RT := if isQ T [41] s = true then ([], s) else loopP T sub 8 ([], s)
theorem parts_stopT {T : List Tok} {sub : St → RT} {r : RT} {k : Nat} (hc : isQ T [44] r.2 = false) : ∀ f, partsT T sub f k r = r
  | 0 => rfl
  | f + 1 => by unfold partsT; rw [hc]; rfl
theorem is_live {T : List Tok} {x : List UInt8} {s : St} (h : s.e ≠ 0) : isQ T x s = false := by unfold isQ; exact decide_eq_false (fun e => h e.1)
theorem loop_parts (T : List Tok) {sub : St → RT} (hs : ∀ s, Good T s (sub s)) (hk : ∀ s, s.e ≠ 0 → (sub s).2 = s) : ∀ (j f : Nat) (r : RT), j + 1 ≤ 8 → T.length - (sub r.2).2.i + 1 ≤ f → r.2.i ≤ T.length → Eqv (loopP T sub (j + 1) r) (partsT T sub f (8 - j) (r.1 ++ (sub r.2).1, (sub r.2).2)) := by
  intro j
  induction j with
  | zero =>
    intro f r _ hf hr
    unfold loopP
    by_cases hc : isQ T [44] (sub r.2).2 = true
    · obtain ⟨g, rfl⟩ : ∃ g, f = g + 1 := ⟨f - 1, by omega⟩
      rw [if_pos hc]
      unfold partsT
      rw [if_pos hc]
      simp only [Nat.sub_zero, if_true]
      have hd : (failQ T 15 (leafT T (sub r.2).2).2).e ≠ 0 := fail_e T (by decide) _
      have h2 := hk _ hd
      rw [h2, parts_stopT (is_live hd)]
      exact ⟨rfl, fun e => absurd e hd⟩
    · rw [if_neg hc, parts_stopT (by simpa using hc)]
      exact Eqv.refl _
  | succ j ih =>
    intro f r hj hf hr
    have e1 : loopP T sub (j + 1 + 1) r = if isQ T [44] (sub r.2).2 = true then loopP T sub (j + 1) (r.1 ++ (sub r.2).1 ++ (leafT T (sub r.2).2).1, (leafT T (sub r.2).2).2) else (r.1 ++ (sub r.2).1, (sub r.2).2) := by rw [loopP]
    rw [e1]
    by_cases hc : isQ T [44] (sub r.2).2 = true
    · obtain ⟨g, rfl⟩ : ∃ g, f = g + 1 := ⟨f - 1, by omega⟩
      rw [if_pos hc]
      unfold partsT
      rw [if_pos hc]
      simp only []
      rw [if_neg (show ¬ 8 - (j + 1) = 8 by omega), show 8 - (j + 1) + 1 = 8 - j by omega]
      have hki := (is_kind hc).1
      have hl := leaf_i (T := T) (s := (sub r.2).2) hki
      have hm := (hs (leafT T (sub r.2).2).2).mono
      have hlt : (sub r.2).2.i < T.length := by
        rcases Nat.lt_or_ge (sub r.2).2.i T.length with h | h
        · exact h
        · exact absurd (by unfold tokQ; rw [List.getElem?_eq_none h]; rfl) hki
      exact ih g (r.1 ++ (sub r.2).1 ++ (leafT T (sub r.2).2).1, (leafT T (sub r.2).2).2) (by omega) (by show T.length - (sub (leafT T (sub r.2).2).2).2.i + 1 ≤ g; omega) (by show (leafT T (sub r.2).2).2.i ≤ T.length; omega)
    · rw [if_neg hc, parts_stopT (by simpa using hc)]
      exact Eqv.refl _
/-- Parts, or none, up to a parenthesis. -/
theorem list_parts (T : List Tok) {sub : St → RT} (hs : ∀ s, Good T s (sub s)) (hk : ∀ s, s.e ≠ 0 → (sub s).2 = s) (s : St) (hi : s.i ≤ T.length) : Eqv (listP T sub s) (if isQ T [41] s = true then ([], s) else partsT T sub (fuelQ T (sub s).2) 1 (sub s)) := by
  unfold listP
  split
  · exact Eqv.refl _
  · have h := loop_parts T hs hk 7 (fuelQ T (sub s).2) ([], s) (by omega) (Nat.le_refl _) hi
    simpa using h
end Go.Proofs.YtmlcpihedmmlfaaGreatDoor
