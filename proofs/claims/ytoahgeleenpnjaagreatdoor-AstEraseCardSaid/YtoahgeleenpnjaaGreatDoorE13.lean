/- An expression, read out of a tree's nodes. -/
import Derived.Deep.LoopGhost
import Derived.Deep.CutBlock
import Derived.Deep.DeepCutAuto
import Derived.Test.YtoahgeleenpnjaaGreatDoorE12
import Derived.Test.YtoahgeleenpnjaaGreatDoorE5
import Derived.Test.YtoahgeleenpnjaaGreatDoorE11
import Derived.Test.YtoahgeleenpnjaaGreatDoorE9
import Derived.Test.YtoahgeleenpnjaaGreatDoorE10
set_option linter.unusedVariables false
set_option linter.unusedSimpArgs false
namespace Go.Proofs.YtoahgeleenpnjaaGreatDoor
open Go.RowKit

def withK : Ex → List Ex → Ex
  | .mk op nm md nu ys _ ps, ks => .mk op nm md nu ys ks ps
theorem nodeE_with (k : Nat) (o : Nat → Tok) (ks : List Ex) : nodeE k o ks = withK (nodeE k o []) ks := by
  unfold nodeE
  repeat' (split)
  all_goals (first | rfl | (split <;> rfl))
theorem nodeE_kids (k : Nat) (o : Nat → Tok) : ∃ op nm md nu ys ps, nodeE k o [] = .mk op nm md nu ys [] ps := by
  cases h : nodeE k o [] with
  | mk op nm md nu ys ks ps =>
    have h1 := nodeE_with k o []
    rw [h] at h1
    simp only [withK, Ex.mk.injEq, true_and, and_true] at h1
    exact ⟨op, nm, md, nu, ys, ps, by rw [h1]⟩

theorem NumAt.bound {F : Nat → Prop} {w : World} {op : Nat} {nu : List UInt8} {s : Bool} {p : Option Addr} {n c : Nat} (h : NumAt F w op nu s p n c) : NumAt (fun k => F k ∧ k < w.heap.size) w op nu s p n c := by
  unfold NumAt at h ⊢
  split
  · rename_i ho
    rw [if_pos ho] at h
    refine ⟨h.1, h.2.1, fun h0 => ?_⟩
    obtain ⟨a, ha, hF⟩ := h.2.2 h0
    refine ⟨a, ha, hF, ?_⟩
    obtain ⟨s', v, M, he, ⟨p', n', c', f, rfl, h1, h2, h3, h4⟩, r⟩ := h.1
    simp only [Value.agg.injEq, Array.mk.injEq, List.cons.injEq, Value.bool.injEq, Value.slice.injEq, and_true] at he
    obtain ⟨rfl, rfl, rfl, rfl⟩ := he
    obtain ⟨g, off, hp, hl, -⟩ := Or.resolve_left h3 (by omega)
    rw [ha] at hp; injection hp with hp; subst hp; exact hl
  · rename_i ho
    rw [if_neg ho] at h; exact h
mutual
theorem EAt.bound {F : Nat → Prop} {w : World} : ∀ {x : Ex} {q : List Value}, EAt F w x q → EAt (fun k => F k ∧ k < w.heap.size) w x q
  | .mk op nm md nu ys ks ps, q, h => by
    simp only [EAt] at h ⊢
    obtain ⟨s, pw, nw, cw, pk, ck, rows, h1, h2, h3, h4, h5⟩ := h
    refine ⟨s, pw, nw, cw, pk, ck, rows, h1, h2.bound, h3, LsE.bound h4, fun h0 => ?_⟩
    obtain ⟨a, ha, h6⟩ := h5 h0
    have hr := Ls_len h4
    exact ⟨a, ha, h6, GAt.blk h3 (fun e => by rw [e] at hr; exact h0 (List.eq_nil_of_length_eq_zero hr.symm)) a ha⟩
theorem LsE.bound {F : Nat → Prop} {w : World} : ∀ {l : List Ex} {r : List (List Value)}, LsE F w l r → LsE (fun k => F k ∧ k < w.heap.size) w l r
  | [], r, h => by simp only [LsE] at h ⊢; exact h
  | x :: l, r, h => by
    simp only [LsE] at h ⊢
    obtain ⟨q, r', h1, h2, h3⟩ := h
    exact ⟨q, r', h1, EAt.bound h2, LsE.bound h3⟩
end
theorem EAt.parts {F : Nat → Prop} {w : World} {op ps : Nat} {nm md nu : List UInt8} {ys : Bool} {q : List Value} (h : EAt F w (.mk op nm md nu ys [] ps) q) (h0 : q[6]? = some (.slice none 0 0)) : ∃ s pw nw cw, q = [.int .i64 (op : Int), .string ⟨nm.toArray⟩, .string ⟨md.toArray⟩, .bool s, .slice pw nw cw, .bool ys, .slice none 0 0, .int .i64 (ps : Int)] ∧ NumAt F w op nu s pw nw cw := by
  simp only [EAt] at h
  obtain ⟨s, pw, nw, cw, pk, ck, rows, rfl, h2, -⟩ := h
  simp at h0
  obtain ⟨rfl, rfl⟩ := h0
  exact ⟨s, pw, nw, cw, rfl, h2⟩
theorem EAt.one {F : Nat → Prop} {w : World} {x : Ex} {q : List Value} (h : EAt F w x q) : q.length = 8 ∧ ∀ u ∈ q, u.oneCell' = true := by
  cases x with
  | mk op nm md nu ys ks ps =>
    simp only [EAt] at h
    obtain ⟨s, pw, nw, cw, pk, ck, rows, rfl, -⟩ := h
    exact ⟨rfl, fun u hu => by simp at hu; rcases hu with rfl | rfl | rfl | rfl | rfl | rfl | rfl | rfl <;> rfl⟩

theorem axTs_append (T : List Tok) : ∀ a b : List Tr, axTs T (a ++ b) = axTs T a ++ axTs T b
  | [], b => by simp [axTs]
  | t :: a, b => by
    simp only [List.cons_append, axTs, axTs_append T a b]
    split <;> simp
theorem axTs_nd (T : List Tok) {l : List Tr} {j : Nat} {t : Tr} (h : l[j]? = some t) (ht : isN t = true) : axTs T (l.take (j + 1)) = axTs T (l.take j) ++ [axT T t] := by
  rw [take_snoc h, axTs_append]; simp [axTs, ht]
theorem axTs_lf (T : List Tok) {l : List Tr} {j i : Nat} (h : l[j]? = some (.lf i)) : axTs T (l.take (j + 1)) = axTs T (l.take j) := by
  rw [take_snoc h, axTs_append]; simp [axTs, isN]
theorem axTs_len (T : List Tok) : ∀ l : List Tr, (axTs T l).length ≤ l.length
  | [] => by simp [axTs]
  | t :: l => by
    have := axTs_len T l
    simp only [axTs, List.length_cons]
    split
    · simp only [List.length_cons]; omega
    · omega
theorem WEs_get {T : List Tok} : ∀ {l : List Tr} {j : Nat} {t : Tr}, WEs T l → l[j]? = some t → WE T t
  | [], j, t, _, h => by simp at h
  | u :: l, j, t, hk, h => by
    simp only [WEs] at hk
    match j, h with
    | 0, h => simp at h; subst h; exact hk.1
    | j + 1, h => exact WEs_get hk.2 (by simpa using h)
theorem lvTs_get : ∀ {l : List Tr} {j : Nat} {t : Tr}, l[j]? = some t → ∀ i ∈ lvT t, i ∈ lvTs l
  | [], j, t, h => by simp at h
  | u :: l, j, t, h => fun i hi => by
    simp only [lvTs, List.mem_append]
    match j, h with
    | 0, h => simp at h; subst h; exact .inl hi
    | j + 1, h => exact .inr (lvTs_get (l := l) (j := j) (by simpa using h) i hi)
theorem szRs_get : ∀ {l : List Tr} {j : Nat} {t : Tr}, l[j]? = some t → szR t ≤ szRs l
  | [], j, t, h => by simp at h
  | u :: l, j, t, h => by
    simp only [szRs]
    match j, h with
    | 0, h => simp at h; subst h; omega
    | j + 1, h => have := szRs_get (l := l) (j := j) (t := t) (by simpa using h); omega
theorem len_szRs : ∀ l : List Tr, l.length ≤ szRs l
  | [] => Nat.zero_le _
  | u :: l => by have := len_szRs l; have := szR_pos u; simp only [szRs, List.length_cons]; omega

/-- withoutKids at whatever kind the form allows. -/
theorem with_all {T : List Tok} {k : Nat} {l : List Tr} (hs : ShE T k l) (hk : k ≠ 12) (p : Option Addr) (c : Nat) (w : World) (hl : l.length ≤ 150000) (ht : TAt w p ((ownL l).map (tkT T))) (hla : LaidS w) :
    Calls Tryz.prog 68 #[.int .i64 (k : Int), .slice p (ownL l).length c] w (ExPost0 (nodeE k (fun j => tkT T ((ownL l).getD j T.length)) []) w) := by
  have ho : (fun j => tkT T ((ownL l).getD j T.length)) = tkT ((ownL l).map (tkT T)) := by
    funext j
    unfold tkT
    rw [List.getElem?_map, List.getD_eq_getElem?_getD]
    cases h : (ownL l)[j]? with
    | none => simp
    | some i => rfl
  have hlen : ((ownL l).map (tkT T)).length = (ownL l).length := List.length_map _
  have hlim : ((ownL l).map (tkT T)).length ≤ 150000 := by have := ownL_len l; omega
  rw [ho, ← hlen]
  cases hs with
  | let_ i j k' m t u h1 h2 =>
    cases t with
    | lf _ => simp [isN] at h1
    | nd _ _ => cases u with
      | lf _ => simp [isN] at h2
      | nd _ _ => exact with7 _ p c w hlim (by simp [ownL]) (by simp [ownL]) ht
  | if_ i j k' t u v h1 h2 h3 => exact with8 _ p c w hlim (by simp [ownL]) ht
  | assert_ i j t u h1 h2 => exact with9 _ p c w hlim (by simp [ownL]) ht
  | bin i t u h1 h2 h3 =>
    cases t with
    | lf _ => simp [isN] at h1
    | nd _ _ => exact with10 _ p c w hlim (by simp [ownL]) hla ht
  | una i t h1 h2 => exact with11 _ p c w hlim (by simp [ownL]) ht
  | grp i j t h1 => exact absurd rfl hk
  | call i j l' h1 => exact with13 _ p c w hlim (by simp [ownL]) (by simp [ownL]) (fun e => absurd (by simpa [ownL, tkT] using e) h1) ht
  | callm i j m l' h1 => exact with13 _ p c w hlim (by simp [ownL]) (by simp [ownL]) (fun _ => by simp [ownL]) ht
  | nam i => exact with14 _ p c w hlim (by simp [ownL]) ht
  | num i h1 => exact with15 _ p c w hlim (by simp [ownL]) (by simpa [ownL, tkT] using h1) ht
  | tru i => exact with16 _ p c w hlim (by simp [ownL]) ht
  | res i => exact with17 _ p c w hlim (by simp [ownL]) ht

theorem EAt.fill {F : Nat → Prop} {w : World} {op ps : Nat} {nm md nu : List UInt8} {ys s : Bool} {pw pk : Option Addr} {nw cw ck : Nat} {ks : List Ex} {rows : List (List Value)} (h : NumAt F w op nu s pw nw cw) (hr : GAt 8 w pk rows) (hl : LsE F w ks rows) (hf : ks ≠ [] → ∃ a, pk = some a ∧ F a.block) : EAt F w (.mk op nm md nu ys ks ps) [.int .i64 (op : Int), .string ⟨nm.toArray⟩, .string ⟨md.toArray⟩, .bool s, .slice pw nw cw, .bool ys, .slice pk ks.length ck, .int .i64 (ps : Int)] := by
  simp only [EAt]
  exact ⟨s, pw, nw, cw, pk, ck, rows, rfl, h, hr, hl, hf⟩
theorem infoEx : (Tryz.prog.info? 60).map (fun i => (i.zero, i.size, i.bytes)) = some (some (.agg #[.int .i64 0, .string ⟨#[]⟩, .string ⟨#[]⟩, .bool false, .slice none 0 0, .bool false, .slice none 0 0, .int .i64 0]), 8, 112) := by kernel_rfl
theorem two (w : World) (A B : Obj) : ∃ (W : World) (b0 b1 : Nat), W = (w.alloc A).alloc B ∧ w.heap.size = b0 ∧ w.heap.size + 1 = b1 ∧ W.heap[b0]? = some A ∧ W.heap[b1]? = some B ∧ w.grownBy W none ∧ b0 < b1 := by
  have h1 := heap_alloc_new w A
  have h2 := heap_alloc_new (w.alloc A) B
  have s1 : (w.alloc A).heap.size = w.heap.size + 1 := by simp
  rw [s1] at h2
  exact ⟨_, _, _, rfl, rfl, rfl, bx (World.grownBy_alloc _ _ none) h1, h2, gb_alloc (gb_alloc (gb_refl _ _) _) _, by omega⟩

/-- Where an expression without its kids lies in a box of its own. -/
def AfterE (w : World) (b1 op ps : Nat) (nm md nu : List UInt8) (ys : Bool) (t5 : Value) (wx : World) : Prop :=
  ∃ (b2 : Nat) (s : Bool) (pw : Option Addr) (nw cw : Nat), t5 = .pointer (some ⟨b2, 0, none⟩) ∧ wx.heap[b2]? = some (.cells #[.int .i64 (op : Int), .string ⟨nm.toArray⟩, .string ⟨md.toArray⟩, .bool s, .slice pw nw cw, .bool ys, .slice none 0 0, .int .i64 (ps : Int)] 60 (0, 0)) ∧ NumAt (fun k => b1 + 1 ≤ k ∧ k < wx.heap.size ∧ k ≠ b2) wx op nu s pw nw cw ∧ b1 < b2 ∧ w.grownBy wx none
theorem after_new {w w3 w4 : World} {b1 op ps : Nat} {nm md nu : List UInt8} {ys s : Bool} {pw : Option Addr} {nw cw : Nat} (hg : w.grownBy w4 none) (h3 : w.heap.size ≤ w3.heap.size) (hb : b1 < w4.heap.size) (hb3 : b1 < w3.heap.size) (hn : NumAt (fun k => w3.heap.size ≤ k) w4 op nu s pw nw cw) :
    AfterE w b1 op ps nm md nu ys (.pointer (some ⟨w4.heap.size, 0, none⟩)) (w4.alloc (.cells #[.int .i64 (op : Int), .string ⟨nm.toArray⟩, .string ⟨md.toArray⟩, .bool s, .slice pw nw cw, .bool ys, .slice none 0 0, .int .i64 (ps : Int)] 60)) := by
  refine ⟨w4.heap.size, s, pw, nw, cw, rfl, heap_alloc_new w4 _, ?_, hb, gb_alloc hg _⟩
  exact ((hn.bound).same (S := fun _ => False) (Fr2.none (World.grownBy_alloc w4 _ none)) (fun _ _ h => h)).mono (fun k hk => ⟨by omega, by simp; omega, by omega⟩)
theorem after_old {w w3 w4 : World} {b b1 op ps : Nat} {nm md nu : List UInt8} {ys s : Bool} {pw : Option Addr} {nw cw : Nat} {x0 x1 x2 x3 x4 x5 x6 x7 : Value} (hg : w.grownBy w4 none) (h3 : w.heap.size ≤ w3.heap.size) (hb : b1 < b) (hwb : w.heap.size ≤ b) (hb3 : b < w3.heap.size) (h0 : w4.heap[b]? = some (.cells #[x0, x1, x2, x3, x4, x5, x6, x7] 60 (0, 0))) (hn : NumAt (fun k => w3.heap.size ≤ k) w4 op nu s pw nw cw) :
    AfterE w b1 op ps nm md nu ys (.pointer (some ⟨b, 0, none⟩)) ((((((((w4.setCell ⟨b, 0, none⟩ (.int .i64 (op : Int))).setCell ⟨b, 1, none⟩ (.string ⟨nm.toArray⟩)).setCell ⟨b, 2, none⟩ (.string ⟨md.toArray⟩)).setCell ⟨b, 3, none⟩ (.bool s)).setCell ⟨b, 4, none⟩ (.slice pw nw cw)).setCell ⟨b, 5, none⟩ (.bool ys)).setCell ⟨b, 6, none⟩ (.slice none 0 0)).setCell ⟨b, 7, none⟩ (.int .i64 (ps : Int))) := by
  obtain ⟨hp, hf⟩ := put8c h0 (.int .i64 (op : Int)) (.string ⟨nm.toArray⟩) (.string ⟨md.toArray⟩) (.bool s) (.slice pw nw cw) (.bool ys) (.slice none 0 0) (.int .i64 (ps : Int))
  refine ⟨b, s, pw, nw, cw, rfl, hp, ?_, hb, Fr2.after hg hf (fun j hj => by have e : j = b := hj; omega)⟩
  exact ((hn.bound).same hf (fun k hk e => by have e : k = b := e; omega)).mono (fun k hk => ⟨by omega, Nat.lt_of_lt_of_le hk.2 hf.size, by omega⟩)
theorem old_gb {w1 w4 : World} {b : Nat} {x0 x1 x2 x3 x4 x5 x6 x7 : Value} {a0 a1 a2 a3 a4 a5 a6 a7 : Value} (hg : w1.grownBy w4 none) (hb : w1.heap.size ≤ b) (h0 : w4.heap[b]? = some (.cells #[x0, x1, x2, x3, x4, x5, x6, x7] 60 (0, 0))) :
    w1.grownBy ((((((((w4.setCell ⟨b, 0, none⟩ a0).setCell ⟨b, 1, none⟩ a1).setCell ⟨b, 2, none⟩ a2).setCell ⟨b, 3, none⟩ a3).setCell ⟨b, 4, none⟩ a4).setCell ⟨b, 5, none⟩ a5).setCell ⟨b, 6, none⟩ a6).setCell ⟨b, 7, none⟩ a7) none :=
  Fr2.after hg (put8c h0 a0 a1 a2 a3 a4 a5 a6 a7).2 (fun j hj => by have e : j = b := hj; omega)
theorem grp_ax (T : List Tok) (i j : Nat) {u : Tr} (hu : isN u = true) : axT T (.nd 12 [.lf i, u, .lf j]) = axT T u := by
  have h : axTs T [.lf i, u, .lf j] = [axT T u] := by
    rw [axTs, axTs, axTs, axTs, if_neg (by simp [isN]), if_pos hu, if_neg (by simp [isN])]
  rw [axT, if_pos rfl, h]; rfl

theorem EAt.eight {F : Nat → Prop} {w : World} {x : Ex} {q : List Value} (h : EAt F w x q) : ∃ a0 a1 a2 a3 a4 a5 a6 a7, q = [a0, a1, a2, a3, a4, a5, a6, a7] := by
  cases x with
  | mk op nm md nu ys ks ps =>
    simp only [EAt] at h
    obtain ⟨s, pw, nw, cw, pk, ck, rows, rfl, -⟩ := h
    exact ⟨_, _, _, _, _, _, _, _, rfl⟩
/-- A kid is put behind the others: all of them still read as they did. -/
theorem push_kid {wr w7 wa w9 W9 : World} {B b2 base nv cv g9 n9 cap9 : Nat} {pv : Option Addr} {rows : List (List Value)} {q : List Value} {ks : List Ex} {x : Ex} {u : Value} (hw : B ≤ wr.heap.size) (hO : OwnG 8 60 wr base (.slice pv nv cv) rows) (hb2 : b2 < base) (hb2r : b2 < wr.heap.size)
    (hLS : LsE (fun k => B ≤ k ∧ k < wr.heap.size ∧ k ≠ b2 ∧ (Value.slice pv nv cv).ownBlock ≠ some k) wr ks rows) (hg7 : wr.grownBy w7 none) (hq : EAt (fun k => wr.heap.size ≤ k) w7 x q) (hga : w7.grownBy wa none) (hsa : wa.heap.size = w7.heap.size + 1)
    (hg9 : wa.grownBy w9 (Value.slice pv nv cv).ownBlock) (hl9 : (Value.slice pv nv cv).ownBlock = some g9 ∨ g9 = w7.heap.size + 1) (hf : (w9.setCell ⟨b2, 6, none⟩ u).grownBy W9 none) :
    LsE (fun k => B ≤ k ∧ k < W9.heap.size ∧ k ≠ b2 ∧ (Value.slice (some ⟨g9, 0, none⟩) n9 cap9).ownBlock ≠ some k) W9 (ks ++ [x]) (rows ++ [q]) := by
  have hat := OwnG.at hO
  have s7 := hg7.size
  have s9 := hg9.size
  have sf := hf.size
  have sc : (w9.setCell ⟨b2, 6, none⟩ u).heap.size = w9.heap.size := by simp [World.setCell]
  have fr : Fr2 (fun k => (Value.slice pv nv cv).ownBlock = some k ∨ k = b2) w7 W9 :=
    ((Fr2.none hga).trans ((Fr2.of hg9 (fun k e => .inl e)).trans ((Fr2.setCell (Fr2.refl _ _) (.inr rfl) u).trans (Fr2.none hf))))
  have hne : ∀ k, k < w7.heap.size → (Value.slice pv nv cv).ownBlock ≠ some k → (Value.slice (some ⟨g9, 0, none⟩) n9 cap9).ownBlock ≠ some k := fun k hk h1 e => by
    have e : g9 = k := Option.some.inj (show some g9 = some k from e)
    rcases hl9 with h | h
    · exact h1 (by rw [h, e])
    · omega
  have hno : ∀ k, wr.heap.size ≤ k → (Value.slice pv nv cv).ownBlock ≠ some k := fun k hk e => by have := hat _ e; omega
  refine Ls_snoc ?_ ?_
  · have h1 := EAt.same fr (fun k (hk : wr.heap.size ≤ k ∧ k < w7.heap.size) => fun e => by
      rcases e with e | e
      · exact hno k hk.1 e
      · omega) hq.bound
    exact EAt.mono (fun k hk => ⟨by omega, by omega, by omega, hne k hk.2 (hno k hk.1)⟩) h1
  · have h1 := LsE.same fr (fun k (hk : B ≤ k ∧ k < wr.heap.size ∧ k ≠ b2 ∧ (Value.slice pv nv cv).ownBlock ≠ some k) => fun e => by
      rcases e with e | e
      · exact hk.2.2.2 e
      · exact hk.2.2.1 e) (hLS.kept hg7)
    exact LsE.mono (fun k hk => ⟨hk.1, by omega, hk.2.2.1, hne k (by omega) hk.2.2.2⟩) h1

theorem ax_nd (T : List Tok) {k : Nat} {l : List Tr} (hk : k ≠ 12) : axT T (.nd k l) = withK (nodeE k (fun j => tkT T ((ownL l).getD j T.length)) []) (axTs T l) := by
  rw [axT, if_neg hk, nodeE_with]
theorem OwnG.rows {s n c : Nat} {T : TypeId} {w : World} {base : Nat} {p : Option Addr} {l : List (List Value)} (h : OwnG s T w base (.slice p n c) l) : n = l.length ∧ GAt s w p l ∧ (l ≠ [] → ∃ a, p = some a ∧ base ≤ a.block ∧ a.block < w.heap.size) := by
  obtain ⟨p', c', e, h1, h2, h3, h4⟩ := h.is
  injection e with e1 e2 e3
  subst e1
  refine ⟨e2, h1, fun h0 => ?_⟩
  have hl := List.length_pos_iff.2 h0
  obtain ⟨a, ha, hb, hc⟩ := OwnG.lt h rfl (by omega)
  exact ⟨a, ha, hb, hc⟩

/-- A tree that an expression is read of. -/
structure GoodE (T : List Tok) (N : List Nd) (k : Int) (t : Tr) : Prop where
  nd : isN t = true
  we : WE T t
  ko : kOk t
  lv : ∀ i ∈ lvT t, i < T.length
  pl : TrAt N k t

end Go.Proofs.YtoahgeleenpnjaaGreatDoor
namespace Go.Proofs.YtoahgeleenpnjaaGreatDoor
open Go.RowKit

/-- What lay there before. -/
def OldB (F : Nat → Prop) (base : Nat) : Nat → Prop := fun k => F k ∧ k < base
/-- That, and what was made since, but the block behind the root's. -/
def OffB (F : Nat → Prop) (base : Nat) : Nat → Prop := fun k => (F k ∧ k < base) ∨ (base ≤ k ∧ k ≠ base + 1)
/-- A part that is still to be done: where it lies, and what it reads as. -/
abbrev Pd := Nat × Nat × Ex
def InZ (P : List Pd) (g i : Nat) : Prop := ∃ p ∈ P, p.1 = g ∧ p.2.1 ≤ i ∧ i < p.2.1 + 8
/-- A block of expressions that was made since. -/
def IsD (base : Nat) (w : World) (g : Nat) : Prop := base ≤ g ∧ ∃ cs, w.heap[g]? = some (.cells cs 60 (0, 0))
theorem IsD.lt {base : Nat} {w : World} {g : Nat} (h : IsD base w g) : g < w.heap.size := by obtain ⟨-, cs, h⟩ := h; exact hlt h
structure Agr (base : Nat) (Z : Nat → Nat → Prop) (w w' : World) : Prop where
  os : w'.os = w.os
  tape : w'.tape = w.tape
  output : w'.output = w.output
  size : w.heap.size ≤ w'.heap.size
  old : ∀ k, k < base → k < w.heap.size → w'.heap[k]? = w.heap[k]?
  isd : ∀ g, IsD base w g → IsD base w' g
  cell : ∀ g i v, IsD base w g → ¬ Z g i → w.cell? ⟨g, i, none⟩ = some v → w'.cell? ⟨g, i, none⟩ = some v
theorem Agr.refl (base : Nat) (Z : Nat → Nat → Prop) (w : World) : Agr base Z w w := ⟨rfl, rfl, rfl, Nat.le_refl _, fun _ _ _ => rfl, fun _ h => h, fun _ _ _ _ _ h => h⟩
theorem Agr.trans {base : Nat} {Z Y : Nat → Nat → Prop} {a b c : World} (h1 : Agr base Z a b) (h2 : Agr base Y b c) (X : Nat → Nat → Prop) (hx : ∀ g i, IsD base a g → Z g i → X g i) (hy : ∀ g i, IsD base a g → Y g i → X g i) : Agr base X a c :=
  ⟨h2.os.trans h1.os, h2.tape.trans h1.tape, h2.output.trans h1.output, Nat.le_trans h1.size h2.size, fun k hk hl => (h2.old k hk (Nat.lt_of_lt_of_le hl h1.size)).trans (h1.old k hk hl), fun g hg => h2.isd g (h1.isd g hg),
   fun g i v hg hn hc => h2.cell g i v (h1.isd g hg) (fun e => hn (hy g i hg e)) (h1.cell g i v hg (fun e => hn (hx g i hg e)) hc)⟩
theorem Agr.fr {base : Nat} {Z : Nat → Nat → Prop} {w w' : World} (h : Agr base Z w w') : Fr2 (fun k => base ≤ k) w w' := ⟨h.os, h.tape, h.output, h.size, fun k hk hn => h.old k (by omega) hk⟩
theorem Agr.gb {base : Nat} {w w' : World} (Z : Nat → Nat → Prop) (h : w.grownBy w' none) : Agr base Z w w' :=
  ⟨h.os, h.tape, h.output, h.size, fun k _ hl => h.block k hl (by simp), fun g hg => ⟨hg.1, by obtain ⟨cs, e⟩ := hg.2; exact ⟨cs, bx h e⟩⟩, fun g i v hg _ hc => h.cell hc (by simp)⟩
theorem old_e {F : Nat → Prop} {base : Nat} {Z : Nat → Nat → Prop} {w w' : World} {x : Ex} {q : List Value} (h : Agr base Z w w') (hx : EAt (OldB F base) w x q) : EAt (OldB F base) w' x q := EAt.same h.fr (fun k h1 h2 => by have h1 : k < base := h1.2; have h2 : base ≤ k := h2; omega) hx

structure CpI (F : Nat → Prop) (base r : Nat) (x : Ex) (P : List Pd) (w : World) : Prop where
  le : base ≤ w.heap.size
  pend : ∀ p ∈ P, IsD base w p.1 ∧ ∃ q, q.length = 8 ∧ (∀ (i : Nat) (v : Value), q[i]? = some v → w.cell? ⟨p.1, p.2.1 + i, none⟩ = some v) ∧ EAt (OldB F base) w p.2.2 q
  apart : ∀ (i j : Nat) (p q : Pd), P[i]? = some p → P[j]? = some q → i ≠ j → p.1 ≠ q.1 ∨ p.2.1 + 8 ≤ q.2.1 ∨ q.2.1 + 8 ≤ p.2.1
  wand : ∀ w', Agr base (InZ P) w w' → (∀ p ∈ P, PAtE (OffB F base) w' p.1 p.2.1 p.2.2) → PAtE (OffB F base) w' r 0 x
theorem CpI.done {F : Nat → Prop} {base r : Nat} {x : Ex} {w : World} (h : CpI F base r x [] w) : PAtE (OffB F base) w r 0 x := h.wand w (Agr.refl _ _ _) (fun p hp => by simp at hp)
theorem CpI.keep {F : Nat → Prop} {base r : Nat} {x : Ex} {P : List Pd} {w w2 : World} (h : CpI F base r x P w) (ha : Agr base (fun _ _ => False) w w2) : CpI F base r x P w2 where
  le := Nat.le_trans h.le ha.size
  pend := fun p hp => by
    obtain ⟨h1, q, h2, h3, h4⟩ := h.pend p hp
    exact ⟨ha.isd _ h1, q, h2, fun i v hi => ha.cell _ _ _ h1 (fun e => e) (h3 i v hi), old_e ha h4⟩
  apart := h.apart
  wand := fun w' hw hp => h.wand w' (ha.trans hw _ (fun _ _ _ e => e.elim) (fun _ _ _ e => e)) hp
theorem rows_of {F : Nat → Prop} {w : World} {h base : Nat} : ∀ {ks : List Ex} {o : Nat}, (∀ (j : Nat) (k : Ex), ks[j]? = some k → PAtE (OffB F base) w h (o + j * 8) k) → ∃ rows, LsE (OffB F base) w ks rows ∧ ∀ (j : Nat) (q : List Value), rows[j]? = some q → ∀ (i : Nat) (v : Value), q[i]? = some v → w.cell? ⟨h, o + j * 8 + i, none⟩ = some v
  | [], o, _ => ⟨[], by simp [LsE], fun j q hj => by simp at hj⟩
  | k :: ks, o, hk => by
    obtain ⟨-, -, q, -, hc, he⟩ := hk 0 k rfl
    obtain ⟨rows, h1, h2⟩ := rows_of (ks := ks) (o := o + 8) (fun j k' hj => by
      have := hk (j + 1) k' (by simpa using hj)
      rw [show o + (j + 1) * 8 = o + 8 + j * 8 by omega] at this; exact this)
    refine ⟨q :: rows, by simp only [LsE]; exact ⟨q, rows, rfl, he, h1⟩, fun j r hj => ?_⟩
    match j, hj with
    | 0, hj => simp at hj; subst hj; intro i v hi; rw [Nat.zero_mul, Nat.add_zero]; have := hc i v hi; rw [Nat.zero_mul, Nat.add_zero] at this; exact this
    | j + 1, hj =>
      intro i v hi
      have := h2 j r (by simpa using hj) i v hi
      rw [show o + (j + 1) * 8 = o + 8 + j * 8 by omega]; exact this
/-- The kids of a part, as parts to be done. -/
def kidsP (h : Nat) (ks : List Ex) : List Pd := ks.mapIdx (fun j k => (h, j * 8, k))
theorem kidsP_get {h : Nat} {ks : List Ex} {j : Nat} {p : Pd} (hp : (kidsP h ks)[j]? = some p) : ∃ k, ks[j]? = some k ∧ p = (h, j * 8, k) := by
  unfold kidsP at hp
  rw [List.getElem?_mapIdx] at hp
  cases hk : ks[j]? with
  | none => rw [hk] at hp; simp at hp
  | some k => rw [hk] at hp; simp at hp; exact ⟨k, rfl, hp.symm⟩
theorem kidsP_len (h : Nat) (ks : List Ex) : (kidsP h ks).length = ks.length := by unfold kidsP; simp
theorem kidsP_mem {h : Nat} {ks : List Ex} {p : Pd} (hp : p ∈ kidsP h ks) : ∃ j k, ks[j]? = some k ∧ p = (h, j * 8, k) := by
  obtain ⟨j, hj⟩ := List.getElem?_of_mem hp
  obtain ⟨k, h1, h2⟩ := kidsP_get hj
  exact ⟨j, k, h1, h2⟩
theorem kidsP_in {h : Nat} {ks : List Ex} {j : Nat} {k : Ex} (hk : ks[j]? = some k) : (h, j * 8, k) ∈ kidsP h ks := by
  have : (kidsP h ks)[j]? = some (h, j * 8, k) := by unfold kidsP; rw [List.getElem?_mapIdx, hk]; rfl
  exact List.mem_of_getElem? this
/-- A part's kids are laid anew: it is done, they are to be done. -/
theorem CpI.step {F : Nat → Prop} {base r : Nat} {x : Ex} {P : List Pd} {g o : Nat} {y : Ex} {w w2 : World} (hI : CpI F base r x (P ++ [(g, o, y)]) w) {ph : Option Addr} {h cap : Nat} (hg1 : g ≠ base + 1) (hs2 : base + 2 ≤ w.heap.size)
    (ha : Agr base (fun g' i => g' = g ∧ i = o + 6) w w2) (hc6 : w2.cell? ⟨g, o + 6, none⟩ = some (.slice ph (kidsE y).length cap))
    (hrow : kidsE y ≠ [] → ph = some ⟨h, 0, none⟩ ∧ w.heap.size ≤ h ∧ IsD base w2 h ∧ ∀ (j : Nat) (k : Ex), (kidsE y)[j]? = some k → ∃ q, q.length = 8 ∧ (∀ (i : Nat) (v : Value), q[i]? = some v → w2.cell? ⟨h, j * 8 + i, none⟩ = some v) ∧ EAt (OldB F base) w2 k q) :
    CpI F base r x (P ++ kidsP h (kidsE y)) w2 := by
  have hlast : (P ++ [(g, o, y)])[P.length]? = some (g, o, y) := by simp
  obtain ⟨hgD, q0, hq0, hc0, he0⟩ := hI.pend (g, o, y) (by simp)
  have hne : ∀ p ∈ P, p.1 ≠ g ∨ p.2.1 + 8 ≤ o ∨ o + 8 ≤ p.2.1 := fun p hp => by
    obtain ⟨i, hi⟩ := List.getElem?_of_mem hp
    have hl := (List.getElem?_eq_some_iff.1 hi).1
    exact hI.apart i P.length p (g, o, y) (by rw [List.getElem?_append_left hl]; exact hi) hlast (by omega)
  have hkn : ∀ p ∈ kidsP h (kidsE y), kidsE y ≠ [] := fun p hp e => by rw [e] at hp; simp [kidsP] at hp
  have hnew : ∀ p ∈ kidsP h (kidsE y), p.1 = h ∧ w.heap.size ≤ h := fun p hp => by
    obtain ⟨j, k, -, rfl⟩ := kidsP_mem hp
    exact ⟨rfl, (hrow (hkn _ hp)).2.1⟩
  refine ⟨Nat.le_trans hI.le ha.size, fun p hp => ?_, fun i j p q hi hj hij => ?_, fun w' hw hp => ?_⟩
  · rcases List.mem_append.1 hp with hp | hp
    · obtain ⟨h1, q, h2, h3, h4⟩ := hI.pend p (List.mem_append_left _ hp)
      refine ⟨ha.isd _ h1, q, h2, fun i v hi => ha.cell _ _ _ h1 (fun e => ?_) (h3 i v hi), old_e ha h4⟩
      have hi8 : i < 8 := by have := (List.getElem?_eq_some_iff.1 hi).1; omega
      rcases hne p hp with h9 | h9 | h9
      · exact h9 e.1
      · have := e.2; omega
      · have := e.2; omega
    · obtain ⟨h1, h2, h3, h4⟩ := hrow (hkn _ hp)
      obtain ⟨j, k, hk, rfl⟩ := kidsP_mem hp
      exact ⟨h3, h4 j k hk⟩
  · rcases Nat.lt_or_ge i P.length with hi1 | hi1
    · rw [List.getElem?_append_left hi1] at hi
      rcases Nat.lt_or_ge j P.length with hj1 | hj1
      · rw [List.getElem?_append_left hj1] at hj
        exact hI.apart i j p q (by rw [List.getElem?_append_left hi1]; exact hi) (by rw [List.getElem?_append_left hj1]; exact hj) hij
      · rw [List.getElem?_append_right hj1] at hj
        have h1 := hnew q (List.mem_of_getElem? hj)
        have h2 := (hI.pend p (List.mem_append_left _ (List.mem_of_getElem? hi))).1.lt
        exact .inl (by omega)
    · rw [List.getElem?_append_right hi1] at hi
      have h1 := hnew p (List.mem_of_getElem? hi)
      rcases Nat.lt_or_ge j P.length with hj1 | hj1
      · rw [List.getElem?_append_left hj1] at hj
        have h2 := (hI.pend q (List.mem_append_left _ (List.mem_of_getElem? hj))).1.lt
        exact .inl (by omega)
      · rw [List.getElem?_append_right hj1] at hj
        obtain ⟨k1, -, rfl⟩ := kidsP_get hi
        obtain ⟨k2, -, rfl⟩ := kidsP_get hj
        exact .inr (by simp only; omega)
  · have hz : ∀ g' i, IsD base w g' → InZ (P ++ kidsP h (kidsE y)) g' i → InZ P g' i := fun g' i hg' e => by
      obtain ⟨p, hp, h1, h2, h3⟩ := e
      rcases List.mem_append.1 hp with hp | hp
      · exact ⟨p, hp, h1, h2, h3⟩
      · have h4 := hnew p hp
        have h5 := hg'.lt
        exact absurd h1 (by omega)
    refine hI.wand w' (ha.trans hw (InZ (P ++ [(g, o, y)])) (fun g' i _ e => ⟨(g, o, y), by simp, e.1.symm, by simp only; omega, by simp only; omega⟩) (fun g' i hg' e => ?_)) (fun p hp0 => ?_)
    · obtain ⟨p, hp, h1⟩ := hz g' i hg' e
      exact ⟨p, List.mem_append_left _ hp, h1⟩
    · rcases List.mem_append.1 hp0 with hp1 | hp1
      · exact hp p (List.mem_append_left _ hp1)
      · simp at hp1
        subst hp1
        have hsz : w.heap.size ≤ w'.heap.size := Nat.le_trans ha.size hw.size
        have hcell : ∀ i v, i < 8 → i ≠ 6 → w.cell? ⟨g, o + i, none⟩ = some v → w'.cell? ⟨g, o + i, none⟩ = some v := fun i v hi h6 hc =>
          hw.cell _ _ _ (ha.isd _ hgD) (fun e => by
            obtain ⟨p, hp, h1, h2, h3⟩ := hz _ _ hgD e
            rcases hne p hp with h9 | h9 | h9
            · exact h9 h1
            · omega
            · omega) (ha.cell _ _ _ hgD (fun e => by have := e.2; omega) hc)
        have hcell6 : w'.cell? ⟨g, o + 6, none⟩ = some (.slice ph (kidsE y).length cap) :=
          hw.cell _ _ _ (ha.isd _ hgD) (fun e => by
            obtain ⟨p, hp, h1, h2, h3⟩ := hz _ _ hgD e
            rcases hne p hp with h9 | h9 | h9
            · exact h9 h1
            · omega
            · omega) hc6
        have heo := old_e hw (old_e ha he0)
        obtain ⟨rows, hls, hrc⟩ := rows_of (F := F) (w := w') (h := h) (base := base) (ks := kidsE y) (o := 0) (fun j k hk => by
          rw [Nat.zero_add]; exact hp _ (List.mem_append_right _ (kidsP_in hk)))
        cases y with
        | mk op nm md nu ys ks ps =>
          simp only [kidsE] at hls hrow hcell6 hrc hkn
          simp only [EAt] at heo
          obtain ⟨s, pw, nw, cw, pk, ck, rows0, rfl, h2, -, -, -⟩ := heo
          refine ⟨.inr ⟨hgD.1, hg1⟩, Nat.lt_of_lt_of_le hgD.lt hsz, [.int .i64 (op : Int), strV nm, strV md, .bool s, .slice pw nw cw, .bool ys, .slice ph ks.length cap, .int .i64 (ps : Int)], rfl, fun i v hi => ?_, ?_⟩
          · match i, hi with
            | 0, hi => injection hi with hi; subst hi; exact hcell 0 _ (by omega) (by omega) (hc0 0 _ rfl)
            | 1, hi => injection hi with hi; subst hi; exact hcell 1 _ (by omega) (by omega) (hc0 1 _ rfl)
            | 2, hi => injection hi with hi; subst hi; exact hcell 2 _ (by omega) (by omega) (hc0 2 _ rfl)
            | 3, hi => injection hi with hi; subst hi; exact hcell 3 _ (by omega) (by omega) (hc0 3 _ rfl)
            | 4, hi => injection hi with hi; subst hi; exact hcell 4 _ (by omega) (by omega) (hc0 4 _ rfl)
            | 5, hi => injection hi with hi; subst hi; exact hcell 5 _ (by omega) (by omega) (hc0 5 _ rfl)
            | 6, hi => injection hi with hi; subst hi; exact hcell6
            | 7, hi => injection hi with hi; subst hi; exact hcell 7 _ (by omega) (by omega) (hc0 7 _ rfl)
            | i + 8, hi => simp at hi
          · simp only [EAt]
            refine ⟨s, pw, nw, cw, ph, cap, rows, rfl, ?_, ?_, hls, fun h0 => ?_⟩
            · unfold NumAt at h2 ⊢
              split
              · rename_i h1
                rw [if_pos h1] at h2
                exact ⟨h2.1, h2.2.1, fun h3 => by obtain ⟨a, ha, hlb⟩ := h2.2.2 h3; exact ⟨a, ha, .inl hlb⟩⟩
              · rename_i h1
                rw [if_neg h1] at h2; exact h2
            · by_cases h0 : ks = []
              · subst h0
                simp only [LsE] at hls
                exact .inl hls
              · obtain ⟨rfl, h4, h5, -⟩ := hrow h0
                refine .inr ⟨h, 0, rfl, Nat.lt_of_lt_of_le h5.lt hw.size, fun j q hj i v hi => hrc j q hj i v hi⟩
            · obtain ⟨rfl, h4, -⟩ := hrow h0
              exact ⟨_, rfl, .inr ⟨by show base ≤ h; omega, by show h ≠ base + 1; omega⟩⟩
/-- At the start the whole is to be done. -/
theorem CpI.start {F : Nat → Prop} {base r : Nat} {x : Ex} {q : List Value} {w : World} (hb : base ≤ r) (hB : w.heap[r]? = some (.cells q.toArray 60 (0, 0))) (hx : EAt (OldB F base) w x q) : CpI F base r x [(r, 0, x)] w where
  le := Nat.le_trans hb (Nat.le_of_lt (hlt hB))
  pend := fun p hp => by
    simp at hp; subst hp
    refine ⟨⟨hb, _, hB⟩, q, hx.one.1, fun i v hi => ?_, hx⟩
    show w.cell? ⟨r, 0 + i, none⟩ = some v
    rw [Nat.zero_add, cell_of_row w r i _ _ (0, 0) hB]; simpa using hi
  apart := fun i j p q hi hj hij => by
    have h1 := (List.getElem?_eq_some_iff.1 hi).1; have h2 := (List.getElem?_eq_some_iff.1 hj).1
    simp at h1 h2; omega
  wand := fun w' hw hp => hp (r, 0, x) (by simp)
end Go.Proofs.YtoahgeleenpnjaaGreatDoor
namespace Go.Proofs.YtoahgeleenpnjaaGreatDoor
open Go.RowKit

/-- What a function that is told does, and what it needs. -/
structure Tell {σ : Type} (st : σ → Ex → Nat → σ) (tf b B : Nat) (F : Nat → Prop) (P : σ → World → Prop) (L : σ → Prop) (Q : Ex → Prop) : Prop where
  below : ∀ k, F k → k < B
  box : B ≤ b
  tell : ∀ (s : σ) (f : Fm) (w : World), P s w → B ≤ w.heap.size → PAtE F w f.g f.o f.x → f.d ≤ (kidsE f.x).length → Q f.x → L (st s f.x f.d) → Calls Tryz.prog tf #[.pointer (some ⟨f.g, f.o, none⟩), .int .i64 (f.d : Int), .pointer (some ⟨b, 0, none⟩)] w (fun e w' => e = .returned (.tuple #[]) ∧ P (st s f.x f.d) w' ∧ Below B w w' ∧ OKept b w w')
  mono : ∀ s x d, L (st s x d) → L s
  kids : ∀ x k, Q x → k ∈ kidsE x → Q k
  grown : ∀ s w w', P s w → w.grownBy w' none → P s w'
  placed : ∀ s w w' g cs, P s w → w.grownBy w' (some g) → w.heap[g]? = some (.cells cs 136 (0, 0)) → g ≠ b → P s w'
theorem Tell.at {σ : Type} {st : σ → Ex → Nat → σ} {tf b B : Nat} {F : Nat → Prop} {P : σ → World → Prop} {L : σ → Prop} {Q : Ex → Prop} (h : Tell st tf b B F P L Q) {w w' : World} {g o : Nat} {x : Ex} (hp : PAtE F w g o x) (hb : Below B w w') : PAtE F w' g o x :=
  hp.same (Fr2.ofBelow hb) (fun k hk e => by have := h.below k hk; omega)

mutual
theorem runE_mono {σ : Type} {st : σ → Ex → Nat → σ} {L : σ → Prop} (hm : ∀ s x d, L (st s x d) → L s) : ∀ (x : Ex) (s : σ), L (runE st x s) → L s
  | .mk op nm md nu ys ks ps, s, h => by
    simp only [runE] at h
    exact hm _ _ _ (runK_mono hm _ _ ks _ h)
theorem runK_mono {σ : Type} {st : σ → Ex → Nat → σ} {L : σ → Prop} (hm : ∀ s x d, L (st s x d) → L s) (x : Ex) : ∀ (j : Nat) (l : List Ex) (s : σ), L (runK st x j l s) → L s
  | _, [], s, h => by simp only [runK] at h; exact h
  | j, k :: l, s, h => by
    simp only [runK] at h
    exact runE_mono hm k s (hm _ _ _ (runK_mono hm x (j + 1) l _ h))
end
theorem runG_mono {σ : Type} {st : σ → Ex → Nat → σ} {L : σ → Prop} (hm : ∀ s x d, L (st s x d) → L s) : ∀ (G : List Fm) (s : σ), L (runG st G s) → L s
  | [], s, h => h
  | f :: G, s, h => by
    have e : runG st (f :: G) s = rsF st f (runG st G s) := rfl
    rw [e] at h
    exact runG_mono hm G s (hm _ _ _ (runK_mono hm _ _ _ _ h))
/-- What is told next stays within what is told in the end. -/
theorem next_mono {σ : Type} {st : σ → Ex → Nat → σ} {L : σ → Prop} (hm : ∀ s x d, L (st s x d) → L s) {G : List Fm} {f : Fm} {s : σ} (h : L (runG st (G ++ [f]) s)) : L (st s f.x f.d) := by
  rw [runG_snoc] at h
  exact runK_mono hm _ _ _ _ (runG_mono hm G _ h)
end Go.Proofs.YtoahgeleenpnjaaGreatDoor
namespace Go.Proofs.YtoahgeleenpnjaaGreatDoor
open Go.RowKit

def decN (k : Nat) : List UInt8 := if k < 10 then [UInt8.ofNat (48 + k)] else [UInt8.ofNat (48 + k / 10), UInt8.ofNat (48 + k % 10)]
theorem dec_small : ∀ k, k < 100 → Lib.decDigits k = decN k := by
  intro k h
  unfold decN Lib.decDigits
  by_cases h1 : k < 10
  · rw [dif_pos h1, if_pos h1]
  · rw [dif_neg h1, if_neg h1]
    unfold Lib.decDigits
    rw [dif_pos (by omega)]; rfl
def nmE : Ex → List UInt8
  | .mk _ nm md _ _ _ _ => if md ≠ [] then 32 :: (md ++ 46 :: nm) else if nm ≠ [] then 32 :: nm else []
def tailE : Ex → List UInt8
  | .mk op _ _ nu ys _ _ => if op = 1 then 32 :: nu else if op = 2 then 32 :: (if ys = true then [116, 114, 117, 101] else [102, 97, 108, 115, 101]) else []
/-- What an expression's dump begins with, ahead of its kids. -/
def openE : Ex → List UInt8
  | .mk op nm md nu ys ks ps => 91 :: decN op ++ nmE (.mk op nm md nu ys ks ps) ++ tailE (.mk op nm md nu ys ks ps)
/-- What is asked of an expression's parts. -/
def smallE : Ex → Prop
  | .mk op nm md nu _ _ _ => op < 100 ∧ nm.length ≤ 1000000 ∧ md.length ≤ 1000000 ∧ nu.length ≤ 1000000

set_option maxRecDepth 100000 in
set_option maxHeartbeats 16000000 in
theorem aOpen_c (F : Nat → Prop) (x : Ex) (g o : Nat) (w : World) (hx : PAtE F w g o x) (hs : smallE x) :
    Calls Tryz.prog 43 #[.pointer (some ⟨g, o, none⟩)] w (StrGb (openE x) w) := by
  cases x with
  | mk op nm md nu ys ks ps =>
    obtain ⟨hF, hgl, q, hq, hc, he⟩ := hx
    obtain ⟨s1, s2, s3, s4⟩ := hs
    simp only [EAt] at he
    obtain ⟨s, pw, nw, cw, pk, ck, rows, rfl, hnum, -⟩ := he
    have c0 := hc 0 _ rfl
    have c1 := hc 1 _ rfl
    have c2 := hc 2 _ rfl
    have c3 := hc 3 _ rfl
    have c4 := hc 4 _ rfl
    have c5 := hc 5 _ rfl
    rw [Nat.add_zero] at c0
    obtain ⟨y, hy⟩ : ∃ y : ByteArray, (⟨nm.toArray⟩ : ByteArray) = y := ⟨_, rfl⟩
    obtain ⟨z, hz⟩ : ∃ z : ByteArray, (⟨md.toArray⟩ : ByteArray) = z := ⟨_, rfl⟩
    unfold strV at c1 c2
    rw [hy] at c1
    rw [hz] at c2
    have hyl : y.data.toList = nm := by rw [← hy]
    have hzl : z.data.toList = md := by rw [← hz]
    have hys := sz_list hyl
    have hzs := sz_list hzl
    have y1 : y.size ≤ 1000000 := by omega
    have z1 : z.size ≤ 1000000 := by omega
    have HIT := Lib.hid (Tryz.strconv_Itoa_small op s1)
    have HFB := Lib.hid (Tryz.strconv_FormatBool ys)
    have HNUM := Lib.hid hnum
    have HYL := Lib.hid hyl; have HZL := Lib.hid hzl
    have HD : Hid ((⟨(Lib.decDigits op).toArray⟩ : ByteArray).data.toList = decN op) := Lib.hid (by rw [← dec_small op s1])
    have hds : (⟨(Lib.decDigits op).toArray⟩ : ByteArray).size ≤ 2 := by
      rw [sz_list HD.out]; unfold decN; split <;> simp
    generalize (⟨(Lib.decDigits op).toArray⟩ : ByteArray) = dg at *
    clear hc hq hF hnum hy hz hyl hzl hys hzs
    have hze : z.toList.isEmpty = decide (md = []) := by
      rw [toList_data, HZL.out]; cases md <;> simp
    have hye : y.toList.isEmpty = decide (nm = []) := by
      rw [toList_data, HYL.out]; cases nm <;> simp
    go_enter Tryz.func43, Tryz.ntmps43
    go_wp2_with fail
    refine (HIT.out _).mono ?_
    rintro e w1 ⟨rfl, rfl⟩
    by_cases hm : md = []
    · have f1 : decide (md = []) = true := decide_eq_true hm
      by_cases hn0 : nm = []
      · have f2 : decide (nm = []) = true := decide_eq_true hn0
        have HMD := Lib.hid hm; have HNM := Lib.hid hn0
        clear hm hn0
        by_cases h1 : op = 1
        · have e1 : ((op : Int) == 1) = true := by rw [h1]; rfl
          have e1' : (op == 1) = true := by rw [h1]; rfl
          have hn := HNUM.out
          unfold NumAt at hn
          rw [if_pos h1] at hn
          have HST := Lib.hid (fun W (h : w1.grownBy W none) => Zd.String_c _ _ W (hn.1.kept h) (Zd.parseV_lim nu))
          have HTX : Hid (Zd.txt (Zd.parseV nu) = .string ⟨nu.toArray⟩) := Lib.hid (by unfold Zd.txt; rw [Zd.txtL_parse hn.2.1])
          rw [HTX.out] at HST
          obtain ⟨v, hv⟩ : ∃ v : ByteArray, (⟨nu.toArray⟩ : ByteArray) = v := ⟨_, rfl⟩
          have HVL : Hid (v.data.toList = nu) := Lib.hid (by rw [← hv])
          have v1 : v.size ≤ 1000000 := by rw [sz_list HVL.out]; exact s4
          rw [hv] at HST
          have H1 := Lib.hid h1
          clear hn hv HTX h1
          go_wp2_with fail
          (try (go_quiet (fail); go_wp2_with fail))
          refine (HST.out _ (by repeat (first | with_reducible exact gb_refl _ _ | with_reducible refine gb_drewN ?_ _))).mono ?_
          rintro e w2 ⟨rfl, hg2⟩
          have HG2 : Hid (w1.grownBy w2 none) := Lib.hid (gb_trans (by repeat (first | with_reducible exact gb_refl _ _ | with_reducible refine gb_drewN ?_ _)) hg2)
          clear hg2
          go_wp2_with fail
          go_ret
          exact ⟨⟨_, rfl, by simp [app_list, openE, nmE, tailE, HD.out, HYL.out, HZL.out, HVL.out, H1.out, HMD.out, HNM.out]⟩, by repeat (first | with_reducible exact HG2.out | with_reducible refine gb_drewN ?_ _)⟩
        · have e1 : ((op : Int) == 1) = false := beq_eq_false_iff_ne.2 (by omega)
          have e1' : (op == 1) = false := beq_eq_false_iff_ne.2 h1
          have H1 := Lib.hid h1
          by_cases h2 : op = 2
          · have e2 : ((op : Int) == 2) = true := by rw [h2]; rfl
            have e2' : (op == 2) = true := by rw [h2]; rfl
            have HVL : Hid ((⟨(Lib.formatBool ys).toArray⟩ : ByteArray).data.toList = if ys = true then [116, 114, 117, 101] else [102, 97, 108, 115, 101]) := Lib.hid (by cases ys <;> rfl)
            obtain ⟨v, hv⟩ : ∃ v : ByteArray, (⟨(Lib.formatBool ys).toArray⟩ : ByteArray) = v := ⟨_, rfl⟩
            rw [hv] at HVL HFB
            have v1 : v.size ≤ 1000000 := by rw [sz_list HVL.out]; split <;> simp
            have H2 := Lib.hid h2
            clear hv h1 h2
            go_wp2_with fail
            (try (go_quiet (fail); go_wp2_with fail))
            refine (HFB.out _).mono ?_
            rintro e w2 ⟨rfl, rfl⟩
            go_wp2_with fail
            go_ret
            exact ⟨⟨_, rfl, by simp [app_list, openE, nmE, tailE, HD.out, HYL.out, HZL.out, HVL.out, H2.out, HMD.out, HNM.out]⟩, by repeat (first | with_reducible exact gb_refl _ _ | with_reducible refine gb_drewN ?_ _)⟩
          · have e2 : ((op : Int) == 2) = false := beq_eq_false_iff_ne.2 (by omega)
            have e2' : (op == 2) = false := beq_eq_false_iff_ne.2 h2
            have H2 := Lib.hid h2
            clear h1 h2
            go_wp2_with fail
            (try (go_quiet (fail); go_wp2_with fail))
            go_ret
            exact ⟨⟨_, rfl, by simp [app_list, openE, nmE, tailE, HD.out, HYL.out, HZL.out, H1.out, H2.out, HMD.out, HNM.out]⟩, by repeat (first | with_reducible exact gb_refl _ _ | with_reducible refine gb_drewN ?_ _)⟩
      · have f2 : decide (nm = []) = false := decide_eq_false hn0
        have HMD := Lib.hid hm; have HNM := Lib.hid hn0
        clear hm hn0
        by_cases h1 : op = 1
        · have e1 : ((op : Int) == 1) = true := by rw [h1]; rfl
          have e1' : (op == 1) = true := by rw [h1]; rfl
          have hn := HNUM.out
          unfold NumAt at hn
          rw [if_pos h1] at hn
          have HST := Lib.hid (fun W (h : w1.grownBy W none) => Zd.String_c _ _ W (hn.1.kept h) (Zd.parseV_lim nu))
          have HTX : Hid (Zd.txt (Zd.parseV nu) = .string ⟨nu.toArray⟩) := Lib.hid (by unfold Zd.txt; rw [Zd.txtL_parse hn.2.1])
          rw [HTX.out] at HST
          obtain ⟨v, hv⟩ : ∃ v : ByteArray, (⟨nu.toArray⟩ : ByteArray) = v := ⟨_, rfl⟩
          have HVL : Hid (v.data.toList = nu) := Lib.hid (by rw [← hv])
          have v1 : v.size ≤ 1000000 := by rw [sz_list HVL.out]; exact s4
          rw [hv] at HST
          have H1 := Lib.hid h1
          clear hn hv HTX h1
          go_wp2_with fail
          (try (go_quiet (fail); go_wp2_with fail))
          refine (HST.out _ (by repeat (first | with_reducible exact gb_refl _ _ | with_reducible refine gb_drewN ?_ _))).mono ?_
          rintro e w2 ⟨rfl, hg2⟩
          have HG2 : Hid (w1.grownBy w2 none) := Lib.hid (gb_trans (by repeat (first | with_reducible exact gb_refl _ _ | with_reducible refine gb_drewN ?_ _)) hg2)
          clear hg2
          go_wp2_with fail
          go_ret
          exact ⟨⟨_, rfl, by simp [app_list, openE, nmE, tailE, HD.out, HYL.out, HZL.out, HVL.out, H1.out, HMD.out, HNM.out]⟩, by repeat (first | with_reducible exact HG2.out | with_reducible refine gb_drewN ?_ _)⟩
        · have e1 : ((op : Int) == 1) = false := beq_eq_false_iff_ne.2 (by omega)
          have e1' : (op == 1) = false := beq_eq_false_iff_ne.2 h1
          have H1 := Lib.hid h1
          by_cases h2 : op = 2
          · have e2 : ((op : Int) == 2) = true := by rw [h2]; rfl
            have e2' : (op == 2) = true := by rw [h2]; rfl
            have HVL : Hid ((⟨(Lib.formatBool ys).toArray⟩ : ByteArray).data.toList = if ys = true then [116, 114, 117, 101] else [102, 97, 108, 115, 101]) := Lib.hid (by cases ys <;> rfl)
            obtain ⟨v, hv⟩ : ∃ v : ByteArray, (⟨(Lib.formatBool ys).toArray⟩ : ByteArray) = v := ⟨_, rfl⟩
            rw [hv] at HVL HFB
            have v1 : v.size ≤ 1000000 := by rw [sz_list HVL.out]; split <;> simp
            have H2 := Lib.hid h2
            clear hv h1 h2
            go_wp2_with fail
            (try (go_quiet (fail); go_wp2_with fail))
            refine (HFB.out _).mono ?_
            rintro e w2 ⟨rfl, rfl⟩
            go_wp2_with fail
            go_ret
            exact ⟨⟨_, rfl, by simp [app_list, openE, nmE, tailE, HD.out, HYL.out, HZL.out, HVL.out, H2.out, HMD.out, HNM.out]⟩, by repeat (first | with_reducible exact gb_refl _ _ | with_reducible refine gb_drewN ?_ _)⟩
          · have e2 : ((op : Int) == 2) = false := beq_eq_false_iff_ne.2 (by omega)
            have e2' : (op == 2) = false := beq_eq_false_iff_ne.2 h2
            have H2 := Lib.hid h2
            clear h1 h2
            go_wp2_with fail
            (try (go_quiet (fail); go_wp2_with fail))
            go_ret
            exact ⟨⟨_, rfl, by simp [app_list, openE, nmE, tailE, HD.out, HYL.out, HZL.out, H1.out, H2.out, HMD.out, HNM.out]⟩, by repeat (first | with_reducible exact gb_refl _ _ | with_reducible refine gb_drewN ?_ _)⟩
    · have f1 : decide (md = []) = false := decide_eq_false hm
      have HMD := Lib.hid hm
      clear hm
      by_cases h1 : op = 1
      · have e1 : ((op : Int) == 1) = true := by rw [h1]; rfl
        have e1' : (op == 1) = true := by rw [h1]; rfl
        have hn := HNUM.out
        unfold NumAt at hn
        rw [if_pos h1] at hn
        have HST := Lib.hid (fun W (h : w1.grownBy W none) => Zd.String_c _ _ W (hn.1.kept h) (Zd.parseV_lim nu))
        have HTX : Hid (Zd.txt (Zd.parseV nu) = .string ⟨nu.toArray⟩) := Lib.hid (by unfold Zd.txt; rw [Zd.txtL_parse hn.2.1])
        rw [HTX.out] at HST
        obtain ⟨v, hv⟩ : ∃ v : ByteArray, (⟨nu.toArray⟩ : ByteArray) = v := ⟨_, rfl⟩
        have HVL : Hid (v.data.toList = nu) := Lib.hid (by rw [← hv])
        have v1 : v.size ≤ 1000000 := by rw [sz_list HVL.out]; exact s4
        rw [hv] at HST
        have H1 := Lib.hid h1
        clear hn hv HTX h1
        go_wp2_with fail
        (try (go_quiet (fail); go_wp2_with fail))
        refine (HST.out _ (by repeat (first | with_reducible exact gb_refl _ _ | with_reducible refine gb_drewN ?_ _))).mono ?_
        rintro e w2 ⟨rfl, hg2⟩
        have HG2 : Hid (w1.grownBy w2 none) := Lib.hid (gb_trans (by repeat (first | with_reducible exact gb_refl _ _ | with_reducible refine gb_drewN ?_ _)) hg2)
        clear hg2
        go_wp2_with fail
        go_ret
        exact ⟨⟨_, rfl, by simp [app_list, openE, nmE, tailE, HD.out, HYL.out, HZL.out, HVL.out, H1.out, HMD.out]⟩, by repeat (first | with_reducible exact HG2.out | with_reducible refine gb_drewN ?_ _)⟩
      · have e1 : ((op : Int) == 1) = false := beq_eq_false_iff_ne.2 (by omega)
        have e1' : (op == 1) = false := beq_eq_false_iff_ne.2 h1
        have H1 := Lib.hid h1
        by_cases h2 : op = 2
        · have e2 : ((op : Int) == 2) = true := by rw [h2]; rfl
          have e2' : (op == 2) = true := by rw [h2]; rfl
          have HVL : Hid ((⟨(Lib.formatBool ys).toArray⟩ : ByteArray).data.toList = if ys = true then [116, 114, 117, 101] else [102, 97, 108, 115, 101]) := Lib.hid (by cases ys <;> rfl)
          obtain ⟨v, hv⟩ : ∃ v : ByteArray, (⟨(Lib.formatBool ys).toArray⟩ : ByteArray) = v := ⟨_, rfl⟩
          rw [hv] at HVL HFB
          have v1 : v.size ≤ 1000000 := by rw [sz_list HVL.out]; split <;> simp
          have H2 := Lib.hid h2
          clear hv h1 h2
          go_wp2_with fail
          (try (go_quiet (fail); go_wp2_with fail))
          refine (HFB.out _).mono ?_
          rintro e w2 ⟨rfl, rfl⟩
          go_wp2_with fail
          go_ret
          exact ⟨⟨_, rfl, by simp [app_list, openE, nmE, tailE, HD.out, HYL.out, HZL.out, HVL.out, H2.out, HMD.out]⟩, by repeat (first | with_reducible exact gb_refl _ _ | with_reducible refine gb_drewN ?_ _)⟩
        · have e2 : ((op : Int) == 2) = false := beq_eq_false_iff_ne.2 (by omega)
          have e2' : (op == 2) = false := beq_eq_false_iff_ne.2 h2
          have H2 := Lib.hid h2
          clear h1 h2
          go_wp2_with fail
          (try (go_quiet (fail); go_wp2_with fail))
          go_ret
          exact ⟨⟨_, rfl, by simp [app_list, openE, nmE, tailE, HD.out, HYL.out, HZL.out, H1.out, H2.out, HMD.out]⟩, by repeat (first | with_reducible exact gb_refl _ _ | with_reducible refine gb_drewN ?_ _)⟩
end Go.Proofs.YtoahgeleenpnjaaGreatDoor
namespace Go.Proofs.YtoahgeleenpnjaaGreatDoor
open Go.RowKit

mutual
/-- An expression's dump. -/
def dmpE : Ex → List UInt8
  | .mk op nm md nu ys ks ps => openE (.mk op nm md nu ys ks ps) ++ dmpK ks ++ [93]
def dmpK : List Ex → List UInt8
  | [] => []
  | k :: l => 32 :: dmpE k ++ dmpK l
end
def stD (s : List UInt8) (x : Ex) (d : Nat) : List UInt8 := s ++ ((if d = 0 then openE x else []) ++ (if d = (kidsE x).length then [93] else [32]))
mutual
theorem runE_D : ∀ (x : Ex) (s : List UInt8), runE stD x s = s ++ dmpE x
  | .mk op nm md nu ys ks ps, s => by
    simp only [runE, dmpE]
    have h := runK_D (.mk op nm md nu ys ks ps) 0 ks (s ++ openE (.mk op nm md nu ys ks ps)) (by simp [kidsE])
    have e : stD s (.mk op nm md nu ys ks ps) 0 = s ++ openE (.mk op nm md nu ys ks ps) ++ (if ks = [] then [93] else [32]) := by
      unfold stD; rw [if_pos rfl]
      show s ++ (_ ++ (if 0 = ks.length then [93] else [32])) = _
      rw [List.append_assoc]
      by_cases hk : ks = []
      · subst hk; rfl
      · rw [if_neg hk, if_neg (by intro h0; exact hk (List.eq_nil_of_length_eq_zero h0.symm))]
    rw [e, h]; simp
theorem runK_D (x : Ex) : ∀ (j : Nat) (l : List Ex) (s : List UInt8), j + l.length = (kidsE x).length → runK stD x j l (s ++ (if l = [] then [93] else [32])) = s ++ dmpK l ++ [93]
  | j, [], s, h => by simp [runK, dmpK]
  | j, k :: l, s, h => by
    simp only [runK, dmpK]
    rw [if_neg (by simp), runE_D k]
    have h1 : j + 1 + l.length = (kidsE x).length := by simp at h; omega
    have e : stD (s ++ [32] ++ dmpE k) x (j + 1) = (s ++ 32 :: dmpE k) ++ (if l = [] then [93] else [32]) := by
      unfold stD
      rw [if_neg (by omega)]
      by_cases hl : l = []
      · subst hl
        rw [if_pos rfl, if_pos (by simpa using h1)]; simp
      · have : 0 < l.length := List.length_pos_iff.2 hl
        rw [if_neg hl, if_neg (by omega)]; simp
    rw [e, runK_D x (j + 1) l _ h1]; simp
end
mutual
/-- All parts of an expression are small. -/
def allS : Ex → Prop
  | .mk op nm md nu ys ks ps => smallE (.mk op nm md nu ys ks ps) ∧ allSs ks
def allSs : List Ex → Prop
  | [] => True
  | k :: l => allS k ∧ allSs l
end
theorem allSs_mem : ∀ {l : List Ex} {k : Ex}, allSs l → k ∈ l → allS k
  | [], k, _, h => by cases h
  | y :: l, k, hs, h => by
    simp only [allSs] at hs
    rcases List.mem_cons.1 h with h | h
    · subst h; exact hs.1
    · exact allSs_mem hs.2 h
theorem allS_kid {x k : Ex} (h : allS x) (hk : k ∈ kidsE x) : allS k := by
  cases x with
  | mk op nm md nu ys ks ps => simp only [allS] at h; exact allSs_mem h.2 hk
theorem allS_small {x : Ex} (h : allS x) : smallE x := by
  cases x with
  | mk op nm md nu ys ks ps => simp only [allS] at h; exact h.1

def PD (B b : Nat) (s : List UInt8) (w : World) : Prop := Lib.IsBuilder 97 5 B b (Lib.byteCells s) w ∧ B ≤ w.heap.size
def LD (s : List UInt8) : Prop := s.length ≤ 1000000

theorem PD.gb {B b : Nat} {s : List UInt8} {w w' : World} (h : PD B b s w) (hg : w.grownBy w' none) : PD B b s w' := ⟨bld_kept h.1 hg, Nat.le_trans h.2 hg.size⟩

set_option maxRecDepth 100000 in
set_option maxHeartbeats 16000000 in
theorem dump1_c (F : Nat → Prop) (B b : Nat) (hF : ∀ k, F k → k < B) (s : List UInt8) (f : Fm) (w : World) (hp : PD B b s w) (hx : PAtE F w f.g f.o f.x) (hd : f.d ≤ (kidsE f.x).length) (hq : allS f.x) (hl : LD (stD s f.x f.d)) :
    Calls Tryz.prog 42 #[.pointer (some ⟨f.g, f.o, none⟩), .int .i64 (f.d : Int), .pointer (some ⟨b, 0, none⟩)] w (fun e w' => e = .returned (.tuple #[]) ∧ PD B b (stD s f.x f.d) w' ∧ Below B w w' ∧ OKept b w w') := by
  have HOP := Lib.hid (aOpen_c F f.x f.g f.o w hx (allS_small hq))
  obtain ⟨pk, ck, c6, -⟩ := hx.kids
  have hgl := hx.2.1
  have HGB : Hid (f.g < B) := Lib.hid (hF _ hx.1)
  have HP := Lib.hid hp; have HL := Lib.hid hl
  obtain ⟨fg, hfg⟩ : ∃ fg, f.g = fg := ⟨_, rfl⟩
  obtain ⟨fo, hfo⟩ : ∃ fo, f.o = fo := ⟨_, rfl⟩
  obtain ⟨fd, hfd⟩ : ∃ fd, f.d = fd := ⟨_, rfl⟩
  obtain ⟨kn, hkn⟩ : ∃ kn, (kidsE f.x).length = kn := ⟨_, rfl⟩
  obtain ⟨x, hxx⟩ : ∃ x, f.x = x := ⟨_, rfl⟩
  rw [hfg, hfo] at HOP c6
  rw [hfg] at hgl HGB
  rw [hkn] at c6 hd
  rw [hfd] at HL hd
  rw [hfg, hfo, hfd]
  rw [hxx] at HOP HL hkn ⊢
  have HC6 := Lib.hid c6
  have HGL := Lib.hid hgl
  have HBW : Hid (B ≤ w.heap.size) := Lib.hid hp.2
  have HE : Hid (stD s x fd = s ++ ((if fd = 0 then openE x else []) ++ (if fd = kn then [93] else [32]))) := Lib.hid (by unfold stD; rw [hkn])
  clear hx hq hp hl hF hfg hfo hfd hkn hxx
  have HLL : Hid (s.length + (if fd = 0 then openE x else []).length + 1 ≤ 1000000) := Lib.hid (by
    have h := HL.out
    rw [HE.out] at h
    unfold LD at h
    simp only [List.length_append] at h
    have h3 : (if fd = kn then [93] else [32] : List UInt8).length = 1 := by split <;> rfl
    omega)
  -- the last byte told
  have HLAST : ∀ (t : List UInt8) (W : World), Hid (PD B b t W) → Hid (t.length + 1 ≤ 1000000) → ∀ (z : UInt8), Hid (Calls Tryz.prog 29 #[.pointer (some ⟨b, 0, none⟩), .string ⟨#[z]⟩] W (fun e w' => e = .returned (.tuple #[.int .i64 1, .nilIface]) ∧ PD B b (t ++ [z]) w' ∧ Below B W w' ∧ OKept b W w')) := fun t W h1 h2 z => Lib.hid ((WriteString_c B b _ ⟨#[z]⟩ W h1.out.1 (by rw [Lib.byteCells_length]; show t.length + 1 ≤ _; have := h2.out; omega) h1.out.2).mono (by
    rintro e w' ⟨rfl, ⟨h3, h4⟩, h5⟩
    refine ⟨rfl, ⟨.inr (by rw [Lib.byteCells_append]; exact h3), Nat.le_trans h1.out.2 h4.size⟩, h4, h5⟩))
  go_enter Tryz.func42, Tryz.ntmps42
  by_cases h0 : fd = 0
  · have e1 : ((fd : Int) == 0) = true := by rw [h0]; rfl
    have e1' : (fd == 0) = true := by rw [h0]; rfl
    have HLL2 : Hid (s.length + (openE x).length + 1 ≤ 1000000) := Lib.hid (by have h := HLL.out; rw [if_pos h0] at h; exact h)
    have HE2 : Hid (stD s x fd = s ++ openE x ++ (if fd = kn then [93] else [32])) := Lib.hid (by rw [HE.out, if_pos h0, List.append_assoc])
    clear h0 HE HLL
    go_wp2_with fail
    refine HOP.out.mono ?_
    rintro e w1 ⟨⟨y, rfl, hy⟩, hg1⟩
    have HY := Lib.hid hy; have HG1 := Lib.hid hg1
    have hys := sz_list hy
    have HYS : Hid (y.size ≤ 1000000) := Lib.hid (by rw [hys]; have := HLL2.out; omega)
    have HP1 := Lib.hid (HP.out.gb hg1)
    have HWS1 := Lib.hid (WriteString_c B b _ y w1 HP1.out.1 (by rw [Lib.byteCells_length, hys]; have := HLL2.out; omega) HP1.out.2)
    have c6 := hg1.cell c6 (by simp)
    have hgl := Nat.lt_of_lt_of_le hgl hg1.size
    clear hy hg1 HOP hys
    go_wp2_with fail
    refine HWS1.out.mono ?_
    rintro e w2 ⟨rfl, ⟨hb2, hbe2⟩, hok2⟩
    have HP2 : Hid (PD B b (s ++ openE x) w2) := Lib.hid ⟨.inr (by rw [← HY.out, Lib.byteCells_append]; exact hb2), Nat.le_trans HP1.out.2 hbe2.size⟩
    have HBE2 := Lib.hid (Below.trans2 (Below.gb HG1.out HBW.out) hbe2)
    have HOK2 := Lib.hid (OKept.trans (OKept.none HG1.out) hok2)
    have c6 := (World.cell?_of_block (a := ⟨fg, fo + 6, none⟩) (hbe2.block fg HGB.out)).trans c6
    have hgl := Nat.lt_of_lt_of_le hgl hbe2.size
    have HLA := fun z => HLAST _ _ HP2 (Lib.hid (by rw [List.length_append]; exact HLL2.out)) z
    clear hb2 hbe2 hok2 HWS1 HLAST
    by_cases hk : fd = kn
    · have e2 : ((fd : Int) == (kn : Int)) = true := beq_iff_eq.2 (by omega)
      have e2' : (fd == kn) = true := beq_iff_eq.2 hk
      have HK := Lib.hid hk
      have HLZ := HLA 93
      clear hk HLA
      go_wp2_with fail
      refine HLZ.out.mono ?_
      rintro e w3 ⟨rfl, hp3, hb3, ho3⟩
      go_wp2_with fail
      refine bodyPost_end (results_none rfl _ _ _) rfl ?_
      exact ⟨rfl, by rw [HE2.out, if_pos HK.out]; exact hp3, Below.trans2 HBE2.out hb3, OKept.trans HOK2.out ho3⟩
    · have e2 : ((fd : Int) == (kn : Int)) = false := beq_eq_false_iff_ne.2 (by omega)
      have e2' : (fd == kn) = false := beq_eq_false_iff_ne.2 hk
      have HK := Lib.hid hk
      have HLZ := HLA 32
      clear hk HLA
      go_wp2_with fail
      refine HLZ.out.mono ?_
      rintro e w3 ⟨rfl, hp3, hb3, ho3⟩
      go_wp2_with fail
      refine bodyPost_end (results_none rfl _ _ _) rfl ?_
      exact ⟨rfl, by rw [HE2.out, if_neg HK.out]; exact hp3, Below.trans2 HBE2.out hb3, OKept.trans HOK2.out ho3⟩
  · have e1 : ((fd : Int) == 0) = false := beq_eq_false_iff_ne.2 (by omega)
    have e1' : (fd == 0) = false := beq_eq_false_iff_ne.2 h0
    have HLL2 : Hid (s.length + 1 ≤ 1000000) := Lib.hid (by have h := HLL.out; omega)
    have HE2 : Hid (stD s x fd = s ++ (if fd = kn then [93] else [32])) := Lib.hid (by rw [HE.out, if_neg h0]; rfl)
    have HLA := fun z => HLAST _ _ HP HLL2 z
    clear h0 HE HLL HOP HLAST
    by_cases hk : fd = kn
    · have e2 : ((fd : Int) == (kn : Int)) = true := beq_iff_eq.2 (by omega)
      have e2' : (fd == kn) = true := beq_iff_eq.2 hk
      have HK := Lib.hid hk
      have HLZ := HLA 93
      clear hk HLA
      go_wp2_with fail
      refine HLZ.out.mono ?_
      rintro e w3 ⟨rfl, hp3, hb3, ho3⟩
      go_wp2_with fail
      refine bodyPost_end (results_none rfl _ _ _) rfl ?_
      exact ⟨rfl, by rw [HE2.out, if_pos HK.out]; exact hp3, hb3, ho3⟩
    · have e2 : ((fd : Int) == (kn : Int)) = false := beq_eq_false_iff_ne.2 (by omega)
      have e2' : (fd == kn) = false := beq_eq_false_iff_ne.2 hk
      have HK := Lib.hid hk
      have HLZ := HLA 32
      clear hk HLA
      go_wp2_with fail
      refine HLZ.out.mono ?_
      rintro e w3 ⟨rfl, hp3, hb3, ho3⟩
      go_wp2_with fail
      refine bodyPost_end (results_none rfl _ _ _) rfl ?_
      exact ⟨rfl, by rw [HE2.out, if_neg HK.out]; exact hp3, hb3, ho3⟩
end Go.Proofs.YtoahgeleenpnjaaGreatDoor
