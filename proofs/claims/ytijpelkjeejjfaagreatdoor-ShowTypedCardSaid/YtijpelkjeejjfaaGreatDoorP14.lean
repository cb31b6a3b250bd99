/- Lemmas. -/
import Derived.Deep.RegionHeld3
import Derived.Test.YtijpelkjeejjfaaGreatDoorP11
import Derived.Test.YtijpelkjeejjfaaGreatDoorP2
set_option linter.unusedVariables false
set_option linter.unusedSimpArgs false
namespace Go.Proofs.YtijpelkjeejjfaaGreatDoor
open Go.RowKit

theorem OwnG.blkS {s : Nat} {T : TypeId} {w : World} {base g n c : Nat} {l : List (List Value)} (h : OwnG s T w base (.slice (some ⟨g, 0, none⟩) n c) l) : base ≤ g ∧ ∃ cur, w.heap[g]? = some (.cells cur T (0, 0)) := by
  rcases h.1.2 with ⟨h1, h0⟩ | ⟨g', cap, cur, e, hb, hg, r⟩
  · cases h1
  · injection e with e1 e2 e3
    injection e1 with e1
    injection e1 with e1
    subst e1
    exact ⟨hb, cur, hg⟩

theorem OwnG.popS {s n c : Nat} {T : TypeId} {w : World} {base : Nat} {p : Option Addr} {l : List (List Value)} {q : List Value} (h : OwnG s T w base (.slice p n c) (l ++ [q])) : n = l.length + 1 ∧ OwnG s T w base (.slice p l.length c) l ∧ ∃ g, p = some ⟨g, 0, none⟩ := by
  have h2 := h.1
  have hw := h.2
  rw [List.length_append, List.length_singleton] at h2
  rcases h2.2 with ⟨e, h0⟩ | ⟨g, cap, cur, e, hb, hg, hnc, hcm, hsz, ht⟩
  · omega
  · injection e with e1 e2 e3
    subst e1; subst e2; subst e3
    refine ⟨rfl, ⟨⟨flat_len (fun q hq => hw q (List.mem_append_left _ hq)), .inr ⟨g, c, cur, rfl, hb, hg, by omega, hcm, hsz, ?_⟩⟩, fun q hq => hw q (List.mem_append_left _ hq)⟩, g, rfl⟩
    have hfl := flat_len (fun q hq => hw q (List.mem_append_left _ hq) : Wid s l)
    have h3 : (cur.toList.take ((l.length + 1) * s)).take (l.length * s) = l.flatten := by
      rw [ht, List.flatten_append, List.take_append_of_le_length (by omega), List.take_of_length_le (by omega)]
    rw [List.take_take, Nat.min_eq_left (Nat.mul_le_mul_right _ (by omega))] at h3
    exact h3
theorem OwnG.newS {s : Nat} {T : TypeId} (w : World) (base : Nat) (y : List Value) (hy : y.length = s) (h1 : ∀ u ∈ y, u.oneCell' = true) (hb : base ≤ w.heap.size) : OwnG s T (w.alloc (.cells y.toArray T)) base (.slice (some ⟨w.heap.size, 0, none⟩) 1 1) [y] := by
  refine ⟨⟨by simp [hy], .inr ⟨w.heap.size, 1, y.toArray, rfl, hb, heap_alloc_new w _, Nat.le_refl _, by unfold maxLen; omega, by simp [hy], ?_⟩⟩, fun q hq => by simp at hq; subst hq; exact ⟨hy, h1⟩⟩
  subst hy
  simp
theorem OwnG.last2S {n c g : Nat} {T : TypeId} {w : World} {base : Nat} {l : List (List Value)} {a b u : Value} (hu : u.oneCell' = true) (h : OwnG 2 T w base (.slice (some ⟨g, 0, none⟩) n c) (l ++ [[a, b]])) : OwnG 2 T (w.setCell ⟨g, l.length * 2 + 1, none⟩ u) base (.slice (some ⟨g, 0, none⟩) n c) (l ++ [[a, u]]) ∧ w.grownBy (w.setCell ⟨g, l.length * 2 + 1, none⟩ u) (some g) := by
  have hn := h.popS.1
  subst hn
  have hw := h.2
  have hwl : Wid 2 l := fun q hq => hw q (List.mem_append_left _ hq)
  have h1 := h.1
  rw [List.length_append, List.length_singleton] at h1
  have h2 := World.ownsRow.stored h1 (l.length * 2 + 1) u
  refine ⟨⟨?_, fun q hq => ?_⟩, h2.2⟩
  · have e : (l ++ [[a, u]]).flatten = ((l ++ [[a, b]]).flatten).set (l.length * 2 + 1) u := by
      rw [List.flatten_append, List.flatten_append, List.set_append, if_neg (by rw [flat_len hwl]; omega), flat_len hwl]
      simp
    rw [e, List.length_append, List.length_singleton]
    exact h2.1
  · rcases List.mem_append.1 hq with hq | hq
    · exact hwl q hq
    · simp at hq; subst hq
      refine ⟨rfl, fun v hv => ?_⟩
      simp at hv
      rcases hv with rfl | rfl
      · exact (hw [v, b] (by simp)).2 v (by simp)
      · exact hu
theorem OwnG.top2S {n c g : Nat} {T : TypeId} {w : World} {base : Nat} {l : List (List Value)} {a b : Value} (h : OwnG 2 T w base (.slice (some ⟨g, 0, none⟩) n c) (l ++ [[a, b]])) : w.cell? ⟨g, l.length * 2, none⟩ = some a ∧ w.cell? ⟨g, l.length * 2 + 1, none⟩ = some b ∧ (∀ j, w.frozen? ⟨g, j, none⟩ = false) ∧ g < w.heap.size ∧ l.length + 1 ≤ c ∧ c ≤ maxLen := by
  have hn := h.popS.1
  subst hn
  obtain ⟨p, c', e, hga, h1, h2, -⟩ := h.is
  injection e with e1 e2 e3
  subst e1; subst e3
  obtain ⟨g2, o2, hp2, hgl, hcs⟩ := hga.resolve_left (by simp)
  injection hp2 with hp2; injection hp2 with hp2 hp3; subst hp2 hp3
  have a0 := hcs l.length [a, b] (by simp) 0 _ rfl
  have a1 := hcs l.length [a, b] (by simp) 1 _ rfl
  rw [Nat.zero_add, Nat.add_zero] at a0
  rw [Nat.zero_add] at a1
  have h3 := h.1
  rw [List.length_append, List.length_singleton] at h3 h1
  exact ⟨a0, a1, fun j => World.ownsRow.frozenAt h3 j, hgl, h1, h2⟩
theorem OwnG.cellS {s n c g : Nat} {T : TypeId} {w : World} {base j i : Nat} {l : List (List Value)} {q : List Value} {v : Value} (h : OwnG s T w base (.slice (some ⟨g, 0, none⟩) n c) l) (hj : l[j]? = some q) (hi : q[i]? = some v) : w.cell? ⟨g, j * s + i, none⟩ = some v := by
  obtain ⟨p, c', e, hga, -⟩ := h.is
  injection e with e1 e2 e3
  subst e1
  obtain ⟨g2, o2, hp2, -, hcs⟩ := hga.resolve_left (fun e => by rw [e] at hj; simp at hj)
  injection hp2 with hp2; injection hp2 with hp2 hp3; subst hp2 hp3
  have := hcs j q hj i v hi
  rwa [Nat.zero_add] at this
theorem list_lastS {α : Type} (l : List α) : l = [] ∨ ∃ l' x, l = l' ++ [x] := by
  rcases List.eq_nil_or_concat l with h | ⟨l', x, h⟩
  · exact .inl h
  · exact .inr ⟨l', x, by simpa using h⟩

/-- An expression of any Op: its Op, its name, its module, its number, its truth, its kids, its place. -/
inductive Sx where
  | mk (op : Int) (nm md : List UInt8) (nu : Int) (ys : Bool) (ks : List Sx) (ps : Int)
def Sx.op : Sx → Int | .mk op _ _ _ _ _ _ => op
def Sx.ks : Sx → List Sx | .mk _ _ _ _ _ ks _ => ks

/-- Is a text one word, and no key? -/
def plainB (l : List UInt8) : Bool := decide ((firstE l).1 = 1 ∧ (firstE l).2 = l.length ∧ wrongE 1 l = 0)
def countB (op : Int) (n : Nat) : Bool :=
  if op ≤ 4 then decide (n = 0) else if op ≤ 6 then decide (n = 1) else if op ≤ 20 ∨ op = 22 ∨ op = 23 then decide (n = 2) else if op = 21 then decide (n = 3) else decide (n ≤ 8)
def namesB (op : Int) (nm md : List UInt8) : Bool :=
  if op = 3 ∨ op = 22 then plainB nm && decide (md = []) else if op = 24 then plainB nm && (decide (md = []) || plainB md) else decide (nm = []) && decide (md = [])
/-- Is a number right for an Op: of at most 60 digits, none below 0; none (0) for another Op? -/
def numB (op : Int) (nu : Int) : Bool := if op = 1 then decide (0 ≤ nu) && decide ((Zd.txtL nu).length ≤ 60) else decide (nu = 0)
/-- Is an expression right, but for its kids? -/
def aloneB (op : Int) (nm md : List UInt8) (nu : Int) (ys : Bool) (n : Nat) : Bool :=
  decide (1 ≤ op) && decide (op ≤ 24) && countB op n && namesB op nm md && numB op nu && (decide (op = 2) || !ys)
def mayB (f : Bool) (op : Int) : Bool := if f then decide (op < 21) else decide (op ≠ 4)
mutual
/-- Is an expression right, as a formula (f), or as a body? -/
def rightB (f : Bool) : Sx → Bool
  | .mk op nm md nu ys ks _ => mayB f op && aloneB op nm md nu ys ks.length && rightBs f ks
def rightBs (f : Bool) : List Sx → Bool
  | [] => true
  | x :: l => rightB f x && rightBs f l
end
mutual
def sizS : Sx → Nat
  | .mk _ _ _ _ _ ks _ => 1 + sizSs ks
def sizSs : List Sx → Nat
  | [] => 0
  | x :: l => sizS x + sizSs l
end
theorem sizS_pos (x : Sx) : 0 < sizS x := by cases x; simp only [sizS]; omega
theorem sizSs_mem : ∀ {l : List Sx} {j : Nat} {x : Sx}, l[j]? = some x → sizS x ≤ sizSs l
  | [], j, x, h => by simp at h
  | y :: l, 0, x, h => by simp at h; subst h; simp only [sizSs]; omega
  | y :: l, j + 1, x, h => by
    have := sizSs_mem (l := l) (j := j) (x := x) (by simpa using h)
    simp only [sizSs]; omega
theorem sizS_kid {x k : Sx} {j : Nat} (h : x.ks[j]? = some k) : sizS k < sizS x := by
  cases x with
  | mk op nm md nu ys ks ps => simp only [Sx.ks] at h; have := sizSs_mem h; simp only [sizS]; omega
theorem rightBs_take {f : Bool} : ∀ {l : List Sx} {j : Nat} {x : Sx}, l[j]? = some x → rightBs f (l.take (j + 1)) = (rightBs f (l.take j) && rightB f x)
  | [], j, x, h => by simp at h
  | y :: l, 0, x, h => by simp at h; subst h; simp [rightBs]
  | y :: l, j + 1, x, h => by
    have := rightBs_take (f := f) (l := l) (j := j) (x := x) (by simpa using h)
    simp only [List.take_succ_cons, rightBs, this, Bool.and_assoc]

/-- The level of an Op. -/
def levS (op : Int) : Nat :=
  if op = 5 then 8 else if op = 6 then 4 else if op = 7 ∨ op = 8 then 6 else if 9 ≤ op ∧ op ≤ 11 then 7 else if 12 ≤ op ∧ op ≤ 17 then 5 else if op = 18 then 3 else if op = 19 then 2 else if op = 20 then 1
  else if 21 ≤ op ∧ op ≤ 23 then 0 else 9
def sideA (l : Nat) : Nat := if l = 1 then 2 else if l = 5 then 6 else l
def sideB (l : Nat) : Nat := if l = 1 then 1 else l + 1
def signS (op : Int) : List UInt8 :=
  [[43], [45], [42], [47], [37], [61], [60, 62], [60], [60, 61], [62], [62, 61], [38, 38], [124, 124], [61, 62]].getD (op - 7).toNat []
/-- A piece: bytes, or an expression with the level that it may have. -/
inductive Pc where
  | bs (l : List UInt8)
  | ex (x : Sx) (least : Nat)
/-- A text in parentheses if its level is less. -/
def wrapT (op : Int) (t : List UInt8) (least : Nat) : List UInt8 := if levS op < least then [40] ++ t ++ [41] else t
def joinT : List (List UInt8) → List UInt8
  | [] => []
  | [t] => t
  | t :: l => t ++ [44, 32] ++ joinT l
/-- The text of an expression, of the Ops and texts of its kids. -/
def nodeT (op : Int) (nm md : List UInt8) (nu : Int) (ys : Bool) (k : List (Int × List UInt8)) : List UInt8 :=
  let K := fun j least => wrapT (k.getD j (1, [])).1 (k.getD j (1, [])).2 least
  if op = 1 then Zd.txtL nu else if op = 2 then (if ys then [116, 114, 117, 101] else [102, 97, 108, 115, 101]) else if op = 3 then nm else if op = 4 then [114, 101, 115]
  else if op = 5 then [45] ++ K 0 9 else if op = 6 then [110, 111, 116, 32] ++ K 0 4
  else if op = 21 then [105, 102, 32] ++ K 0 0 ++ [32, 116, 104, 101, 110, 32] ++ K 1 0 ++ [32, 101, 108, 115, 101, 32] ++ K 2 0
  else if op = 22 then [108, 101, 116, 32] ++ nm ++ [32, 61, 32] ++ K 0 0 ++ [32, 105, 110, 32] ++ K 1 0
  else if op = 23 then [97, 115, 115, 101, 114, 116, 32] ++ K 0 0 ++ [32, 105, 110, 32] ++ K 1 0
  else if op = 24 then (if md = [] then [] else md ++ [46]) ++ nm ++ [40] ++ joinT (k.map (·.2)) ++ [41]
  else K 0 (sideA (levS op)) ++ ([32] ++ signS op ++ [32]) ++ K 1 (sideB (levS op))
mutual
def txS : Sx → List UInt8
  | .mk op nm md nu ys ks _ => nodeT op nm md nu ys (txSs ks)
def txSs : List Sx → List (Int × List UInt8)
  | [] => []
  | x :: l => (x.op, txS x) :: txSs l
end
def wrapS (x : Sx) (least : Nat) : List UInt8 := wrapT x.op (txS x) least
theorem txSs_get : ∀ (l : List Sx) (j : Nat), (txSs l)[j]? = l[j]?.map (fun x => (x.op, txS x))
  | [], j => by simp [txSs]
  | x :: l, 0 => by simp [txSs]
  | x :: l, j + 1 => by simp [txSs, txSs_get l j]
def textP : Pc → List UInt8
  | .bs l => l
  | .ex x least => wrapS x least
def textPs (l : List Pc) : List UInt8 := l.flatMap textP
/-- The pieces that a call's kids make: with a comma between. -/
def argsP : List Sx → List Pc
  | [] => []
  | [x] => [.ex x 0]
  | x :: l => .ex x 0 :: .bs [44, 32] :: argsP l
def nilS : Sx := .mk 1 [] [] 0 false [] 0
/-- The pieces of an expression, its kids whole. -/
def bareP : Sx → List Pc
  | .mk op nm md nu ys ks _ =>
    let K := fun j => ks.getD j nilS
    if op = 1 then [.bs (Zd.txtL nu)] else if op = 2 then [.bs (if ys then [116, 114, 117, 101] else [102, 97, 108, 115, 101])] else if op = 3 then [.bs nm] else if op = 4 then [.bs [114, 101, 115]]
    else if op = 5 then [.bs [45], .ex (K 0) 9] else if op = 6 then [.bs [110, 111, 116, 32], .ex (K 0) 4]
    else if op = 21 then [.bs [105, 102, 32], .ex (K 0) 0, .bs [32, 116, 104, 101, 110, 32], .ex (K 1) 0, .bs [32, 101, 108, 115, 101, 32], .ex (K 2) 0]
    else if op = 22 then [.bs ([108, 101, 116, 32] ++ nm ++ [32, 61, 32]), .ex (K 0) 0, .bs [32, 105, 110, 32], .ex (K 1) 0]
    else if op = 23 then [.bs [97, 115, 115, 101, 114, 116, 32], .ex (K 0) 0, .bs [32, 105, 110, 32], .ex (K 1) 0]
    else if op = 24 then (if md = [] then [] else [.bs (md ++ [46])]) ++ [.bs (nm ++ [40])] ++ argsP ks ++ [.bs [41]]
    else [.ex (K 0) (sideA (levS op)), .bs ([32] ++ signS op ++ [32]), .ex (K 1) (sideB (levS op))]
def openP (x : Sx) (least : Nat) : List Pc := if levS x.op < least then .bs [40] :: bareP x ++ [.bs [41]] else bareP x

theorem wrapT0 (op : Int) (t : List UInt8) : wrapT op t 0 = t := by simp [wrapT]
theorem args_text : ∀ l : List Sx, textPs (argsP l) = joinT ((txSs l).map (·.2))
  | [] => rfl
  | [x] => by simp [argsP, textPs, textP, wrapS, wrapT0, txSs, joinT]
  | x :: y :: l => by
    have := args_text (y :: l)
    simp only [textPs] at this
    simp only [argsP, textPs, List.flatMap_cons, this, textP, wrapS, wrapT0]
    simp [txSs, joinT]
theorem kid_get {ks : List Sx} {j least : Nat} (h : j < ks.length) : wrapT ((txSs ks).getD j (1, [])).1 ((txSs ks).getD j (1, [])).2 least = wrapS (ks.getD j nilS) least := by
  have h1 : (txSs ks).getD j (1, []) = ((ks.getD j nilS).op, txS (ks.getD j nilS)) := by
    simp only [List.getD_eq_getElem?_getD, txSs_get, List.getElem?_eq_getElem h, Option.map_some, Option.getD_some]
  rw [h1]; rfl
theorem bare_text {op : Int} {nm md : List UInt8} {nu : Int} {ys : Bool} {ks : List Sx} {ps : Int} (h1 : 1 ≤ op) (h2 : op ≤ 24) (hc : countB op ks.length = true) :
    textPs (bareP (.mk op nm md nu ys ks ps)) = txS (.mk op nm md nu ys ks ps) := by
  have hk : (5 ≤ op ∧ op ≤ 6 → 1 = ks.length) ∧ (7 ≤ op ∧ op ≤ 20 ∨ op = 22 ∨ op = 23 → 2 = ks.length) ∧ (op = 21 → 3 = ks.length) := by
    unfold countB at hc
    refine ⟨fun h => ?_, fun h => ?_, fun h => ?_⟩
    · rw [if_neg (by omega), if_pos (by omega)] at hc; exact (of_decide_eq_true hc).symm
    · rw [if_neg (by omega), if_neg (by omega), if_pos (by omega)] at hc; exact (of_decide_eq_true hc).symm
    · rw [if_neg (by omega), if_neg (by omega), if_neg (by omega), if_pos h] at hc; exact (of_decide_eq_true hc).symm
  simp only [bareP, txS, nodeT]
  by_cases e1 : op = 1
  · simp [e1, textPs, textP]
  rw [if_neg e1, if_neg e1]
  by_cases e2 : op = 2
  · simp [e2, textPs, textP]
  rw [if_neg e2, if_neg e2]
  by_cases e3 : op = 3
  · simp [e3, textPs, textP]
  rw [if_neg e3, if_neg e3]
  by_cases e4 : op = 4
  · simp [e4, textPs, textP]
  rw [if_neg e4, if_neg e4]
  by_cases e5 : op = 5
  · rw [if_pos e5, if_pos e5, kid_get (by omega)]; simp [textPs, textP]
  rw [if_neg e5, if_neg e5]
  by_cases e6 : op = 6
  · rw [if_pos e6, if_pos e6, kid_get (by omega)]; simp [textPs, textP]
  rw [if_neg e6, if_neg e6]
  by_cases e21 : op = 21
  · have := hk.2.2 e21
    rw [if_pos e21, if_pos e21, kid_get (by omega), kid_get (by omega), kid_get (by omega)]; simp [textPs, textP]
  rw [if_neg e21, if_neg e21]
  by_cases e22 : op = 22
  · have := hk.2.1 (by omega)
    rw [if_pos e22, if_pos e22, kid_get (by omega), kid_get (by omega)]; simp [textPs, textP]
  rw [if_neg e22, if_neg e22]
  by_cases e23 : op = 23
  · have := hk.2.1 (by omega)
    rw [if_pos e23, if_pos e23, kid_get (by omega), kid_get (by omega)]; simp [textPs, textP]
  rw [if_neg e23, if_neg e23]
  by_cases e24 : op = 24
  · rw [if_pos e24, if_pos e24]
    have := args_text ks
    simp only [textPs] at this
    by_cases hm : md = []
    · simp [hm, textPs, textP, this]
    · simp [hm, textPs, textP, this]
  rw [if_neg e24, if_neg e24]
  have := hk.2.1 (by omega)
  rw [kid_get (by omega), kid_get (by omega)]; simp [textPs, textP]
theorem open_text {x : Sx} (least : Nat) (h1 : 1 ≤ x.op) (h2 : x.op ≤ 24) (hc : countB x.op x.ks.length = true) : textPs (openP x least) = wrapS x least := by
  cases x with
  | mk op nm md nu ys ks ps =>
    simp only [Sx.op, Sx.ks] at h1 h2 hc
    have h := bare_text (nm := nm) (md := md) (nu := nu) (ys := ys) (ps := ps) h1 h2 hc
    show textPs (if levS op < least then Pc.bs [40] :: bareP (.mk op nm md nu ys ks ps) ++ [.bs [41]] else bareP (.mk op nm md nu ys ks ps)) = if levS op < least then [40] ++ txS (.mk op nm md nu ys ks ps) ++ [41] else txS (.mk op nm md nu ys ks ps)
    by_cases hl : levS op < least
    · rw [if_pos hl, if_pos hl]; simp only [textPs] at h; simp [textPs, textP, h]
    · rw [if_neg hl, if_neg hl]; exact h
mutual
/-- How many turns an expression takes at most, till its text is written. -/
def wgS : Sx → Nat
  | .mk _ _ _ _ _ ks _ => 6 + wgSs ks
def wgSs : List Sx → Nat
  | [] => 0
  | x :: l => 2 + wgS x + wgSs l
end
def wgP : Pc → Nat
  | .bs _ => 1
  | .ex x _ => wgS x
def wgPs (l : List Pc) : Nat := (l.map wgP).sum
theorem wgPs_append (a b : List Pc) : wgPs (a ++ b) = wgPs a + wgPs b := by simp [wgPs, List.map_append, List.sum_append]
theorem wgPs_cons (a : Pc) (b : List Pc) : wgPs (a :: b) = wgP a + wgPs b := by simp [wgPs]
theorem args_wg : ∀ l : List Sx, wgPs (argsP l) ≤ wgSs l
  | [] => by simp [argsP, wgPs, wgSs]
  | [x] => by simp [argsP, wgPs, wgSs, wgP]
  | x :: y :: l => by
    have := args_wg (y :: l)
    simp only [argsP, wgPs_cons, wgP, wgSs] at this ⊢; omega
theorem get_wg : ∀ {ks : List Sx} {n : Nat}, ks.length = n → (n = 1 → wgSs ks = 2 + wgS (ks.getD 0 nilS)) ∧ (n = 2 → wgSs ks = 4 + wgS (ks.getD 0 nilS) + wgS (ks.getD 1 nilS)) ∧ (n = 3 → wgSs ks = 6 + wgS (ks.getD 0 nilS) + wgS (ks.getD 1 nilS) + wgS (ks.getD 2 nilS))
  | [], n, h => by simp at h; subst h; simp
  | [x], n, h => by simp at h; subst h; simp [wgSs]
  | [x, y], n, h => by simp at h; subst h; simp [wgSs]; omega
  | [x, y, z], n, h => by simp at h; subst h; simp [wgSs]; omega
  | x :: y :: z :: u :: l, n, h => by simp at h; omega
theorem bare_wg {op : Int} {nm md : List UInt8} {nu : Int} {ys : Bool} {ks : List Sx} {ps : Int} (h1 : 1 ≤ op) (h2 : op ≤ 24) (hc : countB op ks.length = true) :
    wgPs (bareP (.mk op nm md nu ys ks ps)) + 2 < wgS (.mk op nm md nu ys ks ps) := by
  have hk : (5 ≤ op ∧ op ≤ 6 → ks.length = 1) ∧ (7 ≤ op ∧ op ≤ 20 ∨ op = 22 ∨ op = 23 → ks.length = 2) ∧ (op = 21 → ks.length = 3) := by
    unfold countB at hc
    refine ⟨fun h => ?_, fun h => ?_, fun h => ?_⟩
    · rw [if_neg (by omega), if_pos (by omega)] at hc; exact of_decide_eq_true hc
    · rw [if_neg (by omega), if_neg (by omega), if_pos (by omega)] at hc; exact of_decide_eq_true hc
    · rw [if_neg (by omega), if_neg (by omega), if_neg (by omega), if_pos h] at hc; exact of_decide_eq_true hc
  obtain ⟨g1, g2, g3⟩ := get_wg (ks := ks) rfl
  simp only [bareP, wgS]
  by_cases e1 : op = 1
  · rw [if_pos e1]; simp only [wgPs, List.map, wgP, List.sum_cons, List.sum_nil]; omega
  rw [if_neg e1]
  by_cases e2 : op = 2
  · rw [if_pos e2]; simp only [wgPs, List.map, wgP, List.sum_cons, List.sum_nil]; omega
  rw [if_neg e2]
  by_cases e3 : op = 3
  · rw [if_pos e3]; simp only [wgPs, List.map, wgP, List.sum_cons, List.sum_nil]; omega
  rw [if_neg e3]
  by_cases e4 : op = 4
  · rw [if_pos e4]; simp only [wgPs, List.map, wgP, List.sum_cons, List.sum_nil]; omega
  rw [if_neg e4]
  by_cases e5 : op = 5
  · rw [if_pos e5]; have := g1 (hk.1 (by omega)); simp only [wgPs, List.map, wgP, List.sum_cons, List.sum_nil]; omega
  rw [if_neg e5]
  by_cases e6 : op = 6
  · rw [if_pos e6]; have := g1 (hk.1 (by omega)); simp only [wgPs, List.map, wgP, List.sum_cons, List.sum_nil]; omega
  rw [if_neg e6]
  by_cases e21 : op = 21
  · rw [if_pos e21]; have := g3 (hk.2.2 e21); simp only [wgPs, List.map, wgP, List.sum_cons, List.sum_nil]; omega
  rw [if_neg e21]
  by_cases e22 : op = 22
  · rw [if_pos e22]; have := g2 (hk.2.1 (by omega)); simp only [wgPs, List.map, wgP, List.sum_cons, List.sum_nil]; omega
  rw [if_neg e22]
  by_cases e23 : op = 23
  · rw [if_pos e23]; have := g2 (hk.2.1 (by omega)); simp only [wgPs, List.map, wgP, List.sum_cons, List.sum_nil]; omega
  rw [if_neg e23]
  by_cases e24 : op = 24
  · rw [if_pos e24]
    have := args_wg ks
    by_cases hm : md = []
    · rw [if_pos hm]; simp only [wgPs_append, wgPs_cons, wgP, List.nil_append]; simp only [wgPs, List.map_nil, List.sum_nil] at *; omega
    · rw [if_neg hm]; simp only [wgPs_append, wgPs_cons, wgP]; simp only [wgPs, List.map_nil, List.sum_nil] at *; omega
  rw [if_neg e24]
  have := g2 (hk.2.1 (by omega))
  simp only [wgPs, List.map, wgP, List.sum_cons, List.sum_nil]; omega
theorem open_wg {x : Sx} (least : Nat) (h1 : 1 ≤ x.op) (h2 : x.op ≤ 24) (hc : countB x.op x.ks.length = true) : wgPs (openP x least) < wgS x := by
  cases x with
  | mk op nm md nu ys ks ps =>
    simp only [Sx.op, Sx.ks] at h1 h2 hc
    have h := bare_wg (nm := nm) (md := md) (nu := nu) (ys := ys) (ps := ps) h1 h2 hc
    show wgPs (if levS op < least then Pc.bs [40] :: bareP (.mk op nm md nu ys ks ps) ++ [.bs [41]] else bareP (.mk op nm md nu ys ks ps)) < _
    by_cases hl : levS op < least
    · rw [if_pos hl]; simp only [List.cons_append, wgPs_cons, wgPs_append, wgP] at *; simp only [wgPs, List.map_nil, List.sum_nil] at *; omega
    · rw [if_neg hl]; omega

theorem isLet_bl {a : UInt8} (h : isLet a = true) : isBl a = false ∧ a ≠ 45 := by
  unfold isLet at h
  have e : ∀ b : UInt8, isLet b = true → isBl b = false ∧ b ≠ 45 := by
    intro b hb
    unfold isLet at hb
    simp only [Bool.or_eq_true, Bool.and_eq_true, decide_eq_true_eq] at hb
    refine ⟨?_, ?_⟩
    · unfold isBl
      simp only [Bool.or_eq_false_iff, beq_eq_false_iff_ne]
      refine ⟨⟨⟨?_, ?_⟩, ?_⟩, ?_⟩ <;> (rintro rfl; revert hb; decide)
    · rintro rfl; revert hb; decide
  exact e a (by unfold isLet; exact h)
theorem first_let {l : List UInt8} (h : (firstE l).1 = 1) : ∃ a r, l = a :: r ∧ isLet a = true := by
  cases l with
  | nil => simp [firstE] at h
  | cons a r =>
    rw [firstE_cons] at h
    by_cases hl : isLet a = true
    · exact ⟨a, r, rfl, hl⟩
    · rw [if_neg hl] at h
      split at h
      · simp at h
      · split at h <;> simp at h
theorem sk_let {a : UInt8} {r : List UInt8} (h : isLet a = true) : sk false (a :: r) = 0 := by
  refine sk_zero (fun b hb => ?_) ?_
  · simp at hb; subst hb; exact (isLet_bl h).1
  · have := (isLet_bl h).2
    simp [List.isPrefixOf, beq_eq_false_iff_ne.2 (Ne.symm this)]
theorem tok_nil (p : Nat) : tokE [] p = ⟨5, [], [], p⟩ := by
  have h : sk false [] = 0 := sk_zero (fun b hb => by simp at hb) rfl
  unfold tokE
  rw [h]; rfl
theorem plain_all (l : List UInt8) : ((allE l).2.1 = 0 ∧ ∃ a b, (allE l).1 = [a, b] ∧ a.kind = 1 ∧ a.text = l) ↔ plainB l = true := by
  unfold plainB allE
  rw [decide_eq_true_eq]
  constructor
  · rintro ⟨h0, a, b, hab, hk, ht⟩
    by_cases hf : wrongE (tokE l 0).kind (tokE l 0).text = 0
    · by_cases h5 : (tokE l 0).kind = 5
      · rw [lexG_end hf h5] at hab; simp at hab
      · rw [lexG_more hf h5] at hab
        simp only [List.cons.injEq] at hab
        obtain ⟨rfl, -⟩ := hab
        have hk' : (firstE (l.drop (sk false l))).1 = 1 := hk
        have ht' : (l.drop (sk false l)).take (firstE (l.drop (sk false l))).2 = l := ht
        obtain ⟨c, r, hc, -⟩ := first_let hk'
        have hlen := congrArg List.length ht'
        rw [List.length_take, List.length_drop] at hlen
        have hpos : 0 < (l.drop (sk false l)).length := by rw [hc]; simp
        rw [List.length_drop] at hpos
        have hs : sk false l = 0 := by omega
        rw [hs, List.drop_zero] at hk' hlen
        rw [hs, List.drop_zero] at ht'
        have hle := firstE_le l
        refine ⟨hk', by omega, ?_⟩
        have e : wrongE (tokE l 0).kind (tokE l 0).text = wrongE 1 l := by rw [hk, ht]
        rw [← e]; exact hf
    · rw [lexG_fault hf] at hab; simp at hab
  · rintro ⟨h1, h2, h3⟩
    obtain ⟨a, r, rfl, hl⟩ := first_let h1
    have hs := sk_let (r := r) hl
    have hk : (tokE (a :: r) 0).kind = 1 := by show (firstE ((a :: r).drop (sk false (a :: r)))).1 = 1; rw [hs]; exact h1
    have ht : (tokE (a :: r) 0).text = a :: r := by
      show ((a :: r).drop (sk false (a :: r))).take (firstE ((a :: r).drop (sk false (a :: r)))).2 = a :: r
      rw [hs, List.drop_zero, h2, List.take_length]
    have hst : stepE (a :: r) = (a :: r).length := by unfold stepE; rw [hs, List.drop_zero, h2, Nat.zero_add]
    have hf : wrongE (tokE (a :: r) 0).kind (tokE (a :: r) 0).text = 0 := by rw [hk, ht]; exact h3
    rw [lexG_more hf (by rw [hk]; decide), hst, List.drop_length]
    rw [List.length_cons, lexG_end (by rw [tok_nil]; rfl) (by rw [tok_nil])]
    exact ⟨rfl, _, _, rfl, hk, ht⟩

/-- What is answered: a truth, all memory as it was. -/
def TruePost (b : Bool) (w : World) (e : Ending) (w' : World) : Prop := e = .returned (.bool b) ∧ w.grownBy w' none

set_option maxRecDepth 100000 in
set_option maxHeartbeats 8000000 in
theorem Plain_c (s : ByteArray) (w : World) (hs : s.size ≤ 60000) (hla : LaidE w) : Calls Tryz.prog 135 #[.string s] w (TruePost (plainB s.data.toList) w) := by
  have HF := Lib.hid (first_c s w (by omega) hla)
  have HW := Lib.hid (fun W => wrong_c 1 (by omega) s W (by omega))
  have hb : plainB s.data.toList = (decide ((firstE s.data.toList).1 = 1) && (decide ((firstE s.data.toList).2 = s.size) && decide (wrongE 1 s.data.toList = 0))) := by
    unfold plainB
    rw [list_len]
    by_cases h1 : (firstE s.data.toList).1 = 1 <;> by_cases h2 : (firstE s.data.toList).2 = s.size <;> by_cases h3 : wrongE 1 s.data.toList = 0 <;> simp [h1, h2, h3]
  rw [hb]
  obtain ⟨k, hk⟩ : ∃ k, (firstE s.data.toList).1 = k := ⟨_, rfl⟩
  obtain ⟨z, hz⟩ : ∃ z, (firstE s.data.toList).2 = z := ⟨_, rfl⟩
  obtain ⟨v, hv⟩ : ∃ v, wrongE 1 s.data.toList = v := ⟨_, rfl⟩
  rw [hk, hz] at HF
  rw [hv] at HW
  rw [hk, hz, hv]
  have HE : Hid (((v : Int) == 0) = decide (v = 0)) := Lib.hid (by
    by_cases h : v = 0
    · subst h; rfl
    · rw [decide_eq_false h]; exact beq_eq_false_iff_ne.2 (by omega))
  clear hk hz hv hs hla hb
  by_cases h1 : k = 1
  · subst h1
    by_cases h2 : z = s.size
    · have e2 : ((z : Int) == (s.size : Int)) = true := by simp [h2]
      rw [decide_eq_true h2]
      clear h2
      go_enter Tryz.func135, Tryz.ntmps135
      go_wp2_with (first | (go_at_call 88; refine HF.out.mono ?_; rintro e w1 ⟨rfl, rfl⟩; skip) | (go_at_call 89; refine (HW.out _).mono ?_; rintro e w1 ⟨rfl, rfl⟩; skip))
      go_ret
      exact ⟨by rw [HE.out]; simp, by repeat (first | with_reducible exact gb_refl _ _ | with_reducible refine gb_drew ?_ | with_reducible refine gb_alloc ?_ _)⟩
    · have e2 : ((z : Int) == (s.size : Int)) = false := beq_eq_false_iff_ne.2 (by omega)
      rw [decide_eq_false h2]
      clear h2
      go_enter Tryz.func135, Tryz.ntmps135
      go_wp2_with (go_at_call 88; refine HF.out.mono ?_; rintro e w1 ⟨rfl, rfl⟩; skip)
      go_ret
      exact ⟨by simp, by repeat (first | with_reducible exact gb_refl _ _ | with_reducible refine gb_drew ?_ | with_reducible refine gb_alloc ?_ _)⟩
  · have e1 : ((k : Int) == 1) = false := beq_eq_false_iff_ne.2 (by omega)
    rw [decide_eq_false h1]
    clear h1
    go_enter Tryz.func135, Tryz.ntmps135
    go_wp2_with (go_at_call 88; refine HF.out.mono ?_; rintro e w1 ⟨rfl, rfl⟩; skip)
    go_ret
    exact ⟨by simp, by repeat (first | with_reducible exact gb_refl _ _ | with_reducible refine gb_drew ?_ | with_reducible refine gb_alloc ?_ _)⟩

theorem nat_beq (n k : Nat) : ((n : Int) == (k : Int)) = decide (n = k) := by
  by_cases h : n = k
  · subst h; simp
  · rw [decide_eq_false h]; exact beq_eq_false_iff_ne.2 (by omega)
theorem nat_ble (n k : Nat) : decide ((n : Int) ≤ (k : Int)) = decide (n ≤ k) := by
  by_cases h : n ≤ k
  · rw [decide_eq_true h]; exact decide_eq_true (by omega)
  · rw [decide_eq_false h]; exact decide_eq_false (by omega)
def inB (op : Int) (n : Nat) : Bool := decide (1 ≤ op) && decide (op ≤ 24) && countB op n

set_option maxRecDepth 100000 in
set_option maxHeartbeats 16000000 in
theorem rightCount_c (op : Int) (n : Nat) (w : World) : Calls Tryz.prog 108 #[.int .i64 op, .int .i64 n] w (TruePost (inB op n) w) := by
  by_cases hA : 1 ≤ op ∧ op ≤ 4
  · have hb : inB op n = ((n : Int) == 0) := by
      rw [show (0 : Int) = ((0 : Nat) : Int) from rfl, nat_beq]; unfold inB countB
      rw [decide_eq_true hA.1, decide_eq_true (by omega : op ≤ 24), if_pos hA.2]; rfl
    rw [hb]
    have hop : op = 1 ∨ op = 2 ∨ op = 3 ∨ op = 4 := by omega
    clear hb hA
    rcases hop with rfl | rfl | rfl | rfl
    all_goals
      go_enter Tryz.func108, Tryz.ntmps108
      go_wp2
      go_ret
      exact ⟨rfl, gb_refl _ _⟩
  by_cases hB : op = 5 ∨ op = 6
  · have hb : inB op n = ((n : Int) == 1) := by
      rw [show (1 : Int) = ((1 : Nat) : Int) from rfl, nat_beq]; unfold inB countB
      rw [decide_eq_true (by omega : 1 ≤ op), decide_eq_true (by omega : op ≤ 24), if_neg (by omega), if_pos (by omega)]; rfl
    rw [hb]
    clear hb hA
    rcases hB with rfl | rfl
    all_goals
      go_enter Tryz.func108, Tryz.ntmps108
      go_wp2
      go_ret
      exact ⟨rfl, gb_refl _ _⟩
  by_cases hC : op = 21
  · subst hC
    have hb : inB 21 n = ((n : Int) == 3) := by
      rw [show (3 : Int) = ((3 : Nat) : Int) from rfl, nat_beq]; rfl
    rw [hb]
    clear hb hA hB
    go_enter Tryz.func108, Tryz.ntmps108
    go_wp2
    go_ret
    exact ⟨rfl, gb_refl _ _⟩
  by_cases hD : op = 24
  · subst hD
    have hb : inB 24 n = decide ((n : Int) ≤ 8) := by
      rw [show (8 : Int) = ((8 : Nat) : Int) from rfl, nat_ble]; rfl
    rw [hb]
    clear hb hA hB hC
    go_enter Tryz.func108, Tryz.ntmps108
    go_wp2
    go_ret
    exact ⟨rfl, gb_refl _ _⟩
  have e1 : (op == 1) = false := beq_eq_false_iff_ne.2 (by omega)
  have e2 : (op == 2) = false := beq_eq_false_iff_ne.2 (by omega)
  have e3 : (op == 3) = false := beq_eq_false_iff_ne.2 (by omega)
  have e4 : (op == 4) = false := beq_eq_false_iff_ne.2 (by omega)
  have e5 : (op == 5) = false := beq_eq_false_iff_ne.2 (by omega)
  have e6 : (op == 6) = false := beq_eq_false_iff_ne.2 (by omega)
  have e21 : (op == 21) = false := beq_eq_false_iff_ne.2 hC
  have e24 : (op == 24) = false := beq_eq_false_iff_ne.2 hD
  by_cases hE : 6 < op ∧ op < 24
  · have hb : inB op n = ((n : Int) == 2) := by
      rw [show (2 : Int) = ((2 : Nat) : Int) from rfl, nat_beq]; unfold inB countB
      rw [decide_eq_true (by omega : 1 ≤ op), decide_eq_true (by omega : op ≤ 24), if_neg (by omega), if_neg (by omega), if_pos (by omega)]; rfl
    rw [hb]
    have d1 : decide (6 < op) = true := decide_eq_true hE.1
    have d2 : decide (op < 24) = true := decide_eq_true hE.2
    clear hb hA hB hC hD hE
    go_enter Tryz.func108, Tryz.ntmps108
    go_wp2
    go_ret
    exact ⟨rfl, gb_refl _ _⟩
  · have hb : inB op n = false := by
      unfold inB
      by_cases h1 : 1 ≤ op
      · rw [decide_eq_false (by omega : ¬ op ≤ 24)]; simp
      · rw [decide_eq_false h1]; rfl
    rw [hb]
    by_cases h6 : 6 < op
    · have d1 : decide (6 < op) = true := decide_eq_true h6
      have d2 : decide (op < 24) = false := decide_eq_false (by omega)
      clear hb hA hB hC hD hE h6
      go_enter Tryz.func108, Tryz.ntmps108
      go_wp2
      go_ret
      exact ⟨rfl, gb_refl _ _⟩
    · have d1 : decide (6 < op) = false := decide_eq_false h6
      clear hb hA hB hC hD hE h6
      go_enter Tryz.func108, Tryz.ntmps108
      go_wp2
      go_ret
      exact ⟨rfl, gb_refl _ _⟩
/-- What is answered: a number, all memory as it was. -/
def NumPost (n : Int) (w : World) (e : Ending) (w' : World) : Prop := e = .returned (.int .i64 n) ∧ w.grownBy w' none
theorem ops_of {op : Int} (h1 : 1 ≤ op) (h2 : op ≤ 24) : op = 1 ∨ op = 2 ∨ op = 3 ∨ op = 4 ∨ op = 5 ∨ op = 6 ∨ op = 7 ∨ op = 8 ∨ op = 9 ∨ op = 10 ∨ op = 11 ∨ op = 12 ∨ op = 13 ∨ op = 14 ∨ op = 15 ∨ op = 16 ∨ op = 17 ∨ op = 18 ∨ op = 19 ∨ op = 20 ∨ op = 21 ∨ op = 22 ∨ op = 23 ∨ op = 24 := by omega
set_option maxRecDepth 100000 in
set_option maxHeartbeats 16000000 in
theorem level_c (op : Int) (h1 : 1 ≤ op) (h2 : op ≤ 24) (w : World) : Calls Tryz.prog 61 #[.int .i64 op] w (NumPost (levS op) w) := by
  have h := ops_of h1 h2
  clear h1 h2
  rcases h with rfl | rfl | rfl | rfl | rfl | rfl | rfl | rfl | rfl | rfl | rfl | rfl | rfl | rfl | rfl | rfl | rfl | rfl | rfl | rfl | rfl | rfl | rfl | rfl
  all_goals
    go_enter Tryz.func61, Tryz.ntmps61
    go_wp2
    go_ret
    exact ⟨rfl, gb_refl _ _⟩
set_option maxRecDepth 100000 in
set_option maxHeartbeats 16000000 in
theorem sides_c (l : Nat) (hl : l ≤ 9) (w : World) : Calls Tryz.prog 119 #[.int .i64 (l : Int)] w (fun e w' => e = .returned (.tuple #[.int .i64 (sideA l : Nat), .int .i64 (sideB l : Nat)]) ∧ w.grownBy w' none) := by
  have h : l = 0 ∨ l = 1 ∨ l = 2 ∨ l = 3 ∨ l = 4 ∨ l = 5 ∨ l = 6 ∨ l = 7 ∨ l = 8 ∨ l = 9 := by omega
  clear hl
  rcases h with rfl | rfl | rfl | rfl | rfl | rfl | rfl | rfl | rfl | rfl
  all_goals
    go_enter Tryz.func119, Tryz.ntmps119
    go_wp2
    go_ret2
    exact ⟨rfl, gb_refl _ _⟩
open Go

section
variable {P : Program} {ops : Array Oper} {Q : Exit → Act → World → Prop} {md : Region.Mode} {S : World → Prop} {z : Nat}

/-- Whatever comes up next, S holds behind it, but behind number z. -/
def wpG (P : Program) (md : Region.Mode) (ops : Array Oper) (Q : Exit → Act → World → Prop) (S : World → Prop) (z : Nat) : Nat → Array Bool → Act → World → Prop
  | 0, L, a, w => Region.ready md ops L = [] ∧ Q .normal a w
  | n + 1, L, a, w => (Region.ready md ops L = [] → Q .normal a w) ∧ ∀ i ∈ Region.ready md ops L, wpOp P ops Q i (fun a' w' => (i ≠ z → S w') ∧ wpG P md ops Q S z n (L.setIfInBounds i true) a' w') a w

theorem wpG_any : ∀ (n : Nat) (L : Array Bool) (a : Act) (w : World), wpG P md ops Q S z n L a w → wpAny P md ops Q n L a w
  | 0, _, _, _, h => h
  | n + 1, _, _, _, h => ⟨h.1, fun i hi => wpOp_mono (fun a' w' k => wpG_any n _ a' w' k.2) (h.2 i hi)⟩

/-- What waits for something that hasn't come up can't come up. -/
theorem not_ready {L : Array Bool} {i : Nat} (hz : Region.waitsFor md ops z i = true) (hi : L.getD i true = false) : z ∉ Region.ready md ops L := fun h => by
  obtain ⟨oz, hoz, e, he, hb, hei⟩ := Region.waitsFor_spec hz
  obtain ⟨-, o, ho, hall⟩ := mem_ready.1 h
  obtain rfl : o = oz := Option.some.inj (ho.symm.trans hoz)
  have h1 := hall e he hb
  rw [hei] at h1
  have h2 := getD_both hi
  rw [h1] at h2
  cases h2

theorem wpG_first {i : Nat} {oi : Oper} {v : Value} (hi : ops[i]? = some oi) (hsel : ∀ (j : Nat) (o : Oper) cs b, ops[j]? = some o → o.op ≠ .select cs b) (hz : Region.waitsFor md ops z i = true)
    (hQ : ∀ c a w, Q (.panic c) (a.put oi.dst v) w → Q (.panic c) a w) : ∀ (n : Nat) (L : Array Bool) (a : Act) (w : World),
      (∀ j oj, ops[j]? = some oj → j ≠ i → L.getD j true = false → (∀ e ∈ oj.after, Region.binds md e = true → e.on ≠ i) → oi.apart ops oj = true) →
      i ∈ Region.ready md ops L → YieldsIf P ops S oi v a → S w → wpG P md ops Q S z n (L.setIfInBounds i true) (a.put oi.dst v) w → wpG P md ops Q S z (n + 1) L a w := by
  intro n
  induction n with
  | zero =>
    intro L a w _ hr hy hS H
    refine ⟨fun h0 => (by rw [h0] at hr; cases hr), fun j hj => ?_⟩
    by_cases hne : j = i
    · subst hne; exact hy.wpOp hi hS ⟨fun _ => hS, H⟩
    · have h1 := ready_mono hj hne
      rw [H.1] at h1; cases h1
  | succ n ih =>
    intro L a w hap hr hy hS H
    refine ⟨fun h0 => (by rw [h0] at hr; cases hr), fun j hj => ?_⟩
    by_cases hne : j = i
    · subst hne; exact hy.wpOp hi hS ⟨fun _ => hS, H⟩
    · have hil := (mem_ready.1 hr).1
      have hjz : j ≠ z := fun e => not_ready hz hil (e ▸ hj)
      obtain ⟨hjl, oj, hoj, hall⟩ := mem_ready.1 hj
      have hno : ∀ e ∈ oj.after, Region.binds md e = true → e.on ≠ i := fun e he hb h0 => by
        have h1 := hall e he hb
        rw [h0, getD_both hil] at h1
        cases h1
      have hstep := wpOp_putIf hoj (hap j oj hoj hne hjl hno) (fun cs b => hsel i oi cs b hi) (fun cs b => hsel j oj cs b hoj) hQ hy (H.2 j (ready_mono hj hne))
      refine wpOp_mono (fun a' w' k => ⟨fun _ => k.2.1 hjz, ih (L.setIfInBounds j true) a' w' (fun m om hm hmi hml hmn => hap m om hm hmi ?_ hmn) (ready_mono hr (Ne.symm hne)) k.1 (k.2.1 hjz) ?_⟩) hstep
      · by_cases hjm : j = m
        · subst hjm; exact hjl
        · rwa [getD_set_ne true hjm] at hml
      · have hc := Array.setIfInBounds_comm (xs := L) true true hne
        rw [hc]; exact k.2.2

theorem wpG_take {i : Nat} {oi : Oper} {v : Value} {n : Nat} {L : Array Bool} {a : Act} {w : World} (hi : ops[i]? = some oi) (hs : Region.noSelect ops = true) (hf : Region.free md ops L i = true) (hr : (Region.ready md ops L).contains i = true) (hz : Region.waitsFor md ops z i = true)
    (hQ : ∀ c a w, Q (.panic c) (a.put oi.dst v) w → Q (.panic c) a w) (hw : Region.wanted oi (yielded ops a.tmps) = true) (hy : ∀ w, S w → (execOp a.eval oi).run P w = .ok (.value v) w) (hS : S w)
    (h : wpG P md ops Q S z n (L.setIfInBounds i true) (a.put oi.dst v) w) : wpG P md ops Q S z (n + 1) L a w :=
  wpG_first hi (Region.noSelect_spec hs) hz hQ n L a w (Region.free_spec hi hf) (by simpa using hr) (.inl ⟨hw, hy⟩) hS h

theorem wpG_step {i : Nat} {o : Oper} {n : Nat} {L : Array Bool} {a : Act} {w : World} (hr : Region.ready md ops L = [i]) (ho : ops[i]? = some o)
    (h : ∀ K : Act → World → Prop, Shut (∀ a' w', (i ≠ z → S w') → ((i ≠ z → S w') → wpG P md ops Q S z n (L.setIfInBounds i true) a' w') → K a' w') → if Region.wanted o (yielded ops a.tmps) = true then Oper.wp P o a w K Q else K (a.put o.dst undef) w) : wpG P md ops Q S z (n + 1) L a w :=
  ⟨fun h0 => (by rw [hr] at h0; cases h0), fun j hj => by
    rw [hr] at hj
    obtain rfl : j = i := by simpa using hj
    exact wpOp_step ho (fun K hK => h K (fun a' w' h1 h2 => hK a' w' ⟨h1, h2 h1⟩))⟩

theorem wpG_done {n : Nat} {L : Array Bool} {a : Act} {w : World} (hr : Region.ready md ops L = []) (h : Q .normal a w) : wpG P md ops Q S z n L a w := by
  cases n with
  | zero => exact ⟨hr, h⟩
  | succ n => exact ⟨fun _ => h, fun i hi => (by rw [hr] at hi; cases hi)⟩

theorem wp_region_G {id : Nat} {a : Act} {w : World} (hm : P.follows .mixedOrders = true) (hS : S w.drew)
    (h : S w.drew → wpG P .any ops Q S z ops.size (Array.replicate ops.size false) a w.drew) : (Code.region id ops true).wp P Q a w :=
  wp_region_any hm (wpG_any _ _ _ _ (h hS))
end
end Go.Proofs.YtijpelkjeejjfaaGreatDoor
