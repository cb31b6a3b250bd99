/- An expression, read out of a tree's nodes. -/
import Derived.Deep.LoopGhost
import Derived.Deep.CutBlock
import Derived.Deep.DeepCutAuto
import Derived.Test.YtmlcpihedmmlfaaGreatDoorK21
import Derived.Test.YtmlcpihedmmlfaaGreatDoorK6
import Derived.Test.YtmlcpihedmmlfaaGreatDoorK19
import Derived.Test.YtmlcpihedmmlfaaGreatDoorK20
import Derived.Test.YtmlcpihedmmlfaaGreatDoorK17
import Derived.Test.YtmlcpihedmmlfaaGreatDoorK18
import Derived.Test.YtmlcpihedmmlfaaGreatDoorK5
set_option linter.unusedVariables false
set_option linter.unusedSimpArgs false
namespace Go.Proofs.YtmlcpihedmmlfaaGreatDoor
open Go.RowKit

def withK : Ex → List Ex → Ex
  | .mk op nm md nu ys _ ps, ks => .mk op nm md nu ys ks ps
theorem nodeE_with (k : Nat) (o : Nat → Tok) (ks : List Ex) : nodeE k o ks = withK (nodeE k o []) ks := by
  unfold nodeE
  repeat' (split)
  all_goals (first | rfl | (split <;> rfl))
theorem nodeE_kids (k : Nat) (o : Nat → Tok) : ∃ op nm md nu ys ps, nodeE k o [] = .mk op nm md nu ys [] ps := by
  cases h : nodeE k o [] with
  | mk op nm md nu ys ks ps =>
    have h1 := nodeE_with k o []
    rw [h] at h1
    simp only [withK, Ex.mk.injEq, true_and, and_true] at h1
    exact ⟨op, nm, md, nu, ys, ps, by rw [h1]⟩

theorem NumAt.bound {F : Nat → Prop} {w : World} {op : Nat} {nu : List UInt8} {s : Bool} {p : Option Addr} {n c : Nat} (h : NumAt F w op nu s p n c) : NumAt (fun k => F k ∧ k < w.heap.size) w op nu s p n c := by
  unfold NumAt at h ⊢
  split
  · rename_i ho
    rw [if_pos ho] at h
    refine ⟨h.1, h.2.1, fun h0 => ?_⟩
    obtain ⟨a, ha, hF⟩ := h.2.2 h0
    refine ⟨a, ha, hF, ?_⟩
    obtain ⟨s', v, M, he, ⟨p', n', c', f, rfl, h1, h2, h3, h4⟩, r⟩ := h.1
    simp only [Value.agg.injEq, Array.mk.injEq, List.cons.injEq, Value.bool.injEq, Value.slice.injEq, and_true] at he
    obtain ⟨rfl, rfl, rfl, rfl⟩ := he
    obtain ⟨g, off, hp, hl, -⟩ := Or.resolve_left h3 (by omega)
    rw [ha] at hp; injection hp with hp; subst hp; exact hl
  · rename_i ho
    rw [if_neg ho] at h; exact h
mutual
theorem EAt.bound {F : Nat → Prop} {w : World} : ∀ {x : Ex} {q : List Value}, EAt F w x q → EAt (fun k => F k ∧ k < w.heap.size) w x q
  | .mk op nm md nu ys ks ps, q, h => by
    simp only [EAt] at h ⊢
    obtain ⟨s, pw, nw, cw, pk, ck, rows, h1, h2, h3, h4, h5⟩ := h
    refine ⟨s, pw, nw, cw, pk, ck, rows, h1, h2.bound, h3, LsE.bound h4, fun h0 => ?_⟩
    obtain ⟨a, ha, h6⟩ := h5 h0
    have hr := Ls_len h4
    exact ⟨a, ha, h6, GAt.blk h3 (fun e => by rw [e] at hr; exact h0 (List.eq_nil_of_length_eq_zero hr.symm)) a ha⟩
theorem LsE.bound {F : Nat → Prop} {w : World} : ∀ {l : List Ex} {r : List (List Value)}, LsE F w l r → LsE (fun k => F k ∧ k < w.heap.size) w l r
  | [], r, h => by simp only [LsE] at h ⊢; exact h
  | x :: l, r, h => by
    simp only [LsE] at h ⊢
    obtain ⟨q, r', h1, h2, h3⟩ := h
    exact ⟨q, r', h1, EAt.bound h2, LsE.bound h3⟩
end
theorem EAt.parts {F : Nat → Prop} {w : World} {op ps : Nat} {nm md nu : List UInt8} {ys : Bool} {q : List Value} (h : EAt F w (.mk op nm md nu ys [] ps) q) (h0 : q[6]? = some (.slice none 0 0)) : ∃ s pw nw cw, q = [.int .i64 (op : Int), .string ⟨nm.toArray⟩, .string ⟨md.toArray⟩, .bool s, .slice pw nw cw, .bool ys, .slice none 0 0, .int .i64 (ps : Int)] ∧ NumAt F w op nu s pw nw cw := by
  simp only [EAt] at h
  obtain ⟨s, pw, nw, cw, pk, ck, rows, rfl, h2, -⟩ := h
  simp at h0
  obtain ⟨rfl, rfl⟩ := h0
  exact ⟨s, pw, nw, cw, rfl, h2⟩
theorem EAt.one {F : Nat → Prop} {w : World} {x : Ex} {q : List Value} (h : EAt F w x q) : q.length = 8 ∧ ∀ u ∈ q, u.oneCell' = true := by
  cases x with
  | mk op nm md nu ys ks ps =>
    simp only [EAt] at h
    obtain ⟨s, pw, nw, cw, pk, ck, rows, rfl, -⟩ := h
    exact ⟨rfl, fun u hu => by simp at hu; rcases hu with rfl | rfl | rfl | rfl | rfl | rfl | rfl | rfl <;> rfl⟩

theorem axTs_append (T : List Tok) : ∀ a b : List Tr, axTs T (a ++ b) = axTs T a ++ axTs T b
  | [], b => by simp [axTs]
  | t :: a, b => by
    simp only [List.cons_append, axTs, axTs_append T a b]
    split <;> simp
theorem axTs_nd (T : List Tok) {l : List Tr} {j : Nat} {t : Tr} (h : l[j]? = some t) (ht : isN t = true) : axTs T (l.take (j + 1)) = axTs T (l.take j) ++ [axT T t] := by
  rw [take_snoc h, axTs_append]; simp [axTs, ht]
theorem axTs_lf (T : List Tok) {l : List Tr} {j i : Nat} (h : l[j]? = some (.lf i)) : axTs T (l.take (j + 1)) = axTs T (l.take j) := by
  rw [take_snoc h, axTs_append]; simp [axTs, isN]
theorem axTs_len (T : List Tok) : ∀ l : List Tr, (axTs T l).length ≤ l.length
  | [] => by simp [axTs]
  | t :: l => by
    have := axTs_len T l
    simp only [axTs, List.length_cons]
    split
    · simp only [List.length_cons]; omega
    · omega
theorem WEs_get {T : List Tok} : ∀ {l : List Tr} {j : Nat} {t : Tr}, WEs T l → l[j]? = some t → WE T t
  | [], j, t, _, h => by simp at h
  | u :: l, j, t, hk, h => by
    simp only [WEs] at hk
    match j, h with
    | 0, h => simp at h; subst h; exact hk.1
    | j + 1, h => exact WEs_get hk.2 (by simpa using h)
theorem lvTs_get : ∀ {l : List Tr} {j : Nat} {t : Tr}, l[j]? = some t → ∀ i ∈ lvT t, i ∈ lvTs l
  | [], j, t, h => by simp at h
  | u :: l, j, t, h => fun i hi => by
    simp only [lvTs, List.mem_append]
    match j, h with
    | 0, h => simp at h; subst h; exact .inl hi
    | j + 1, h => exact .inr (lvTs_get (l := l) (j := j) (by simpa using h) i hi)
theorem szRs_get : ∀ {l : List Tr} {j : Nat} {t : Tr}, l[j]? = some t → szR t ≤ szRs l
  | [], j, t, h => by simp at h
  | u :: l, j, t, h => by
    simp only [szRs]
    match j, h with
    | 0, h => simp at h; subst h; omega
    | j + 1, h => have := szRs_get (l := l) (j := j) (t := t) (by simpa using h); omega
theorem len_szRs : ∀ l : List Tr, l.length ≤ szRs l
  | [] => Nat.zero_le _
  | u :: l => by have := len_szRs l; have := szR_pos u; simp only [szRs, List.length_cons]; omega

/-- withoutKids at whatever kind the form allows. -/
theorem with_all {T : List Tok} {k : Nat} {l : List Tr} (hs : ShE T k l) (hk : k ≠ 12) (p : Option Addr) (c : Nat) (w : World) (hl : l.length ≤ 150000) (ht : TAt w p ((ownL l).map (tkT T))) (hla : LaidS w) :
    Calls Tryz.prog 77 #[.int .i64 (k : Int), .slice p (ownL l).length c] w (ExPost0 (nodeE k (fun j => tkT T ((ownL l).getD j T.length)) []) w) := by
  have ho : (fun j => tkT T ((ownL l).getD j T.length)) = tkT ((ownL l).map (tkT T)) := by
    funext j
    unfold tkT
    rw [List.getElem?_map, List.getD_eq_getElem?_getD]
    cases h : (ownL l)[j]? with
    | none => simp
    | some i => rfl
  have hlen : ((ownL l).map (tkT T)).length = (ownL l).length := List.length_map _
  have hlim : ((ownL l).map (tkT T)).length ≤ 150000 := by have := ownL_len l; omega
  rw [ho, ← hlen]
  cases hs with
  | let_ i j k' m t u h1 h2 =>
    cases t with
    | lf _ => simp [isN] at h1
    | nd _ _ => cases u with
      | lf _ => simp [isN] at h2
      | nd _ _ => exact with7 _ p c w hlim (by simp [ownL]) (by simp [ownL]) ht
  | if_ i j k' t u v h1 h2 h3 => exact with8 _ p c w hlim (by simp [ownL]) ht
  | assert_ i j t u h1 h2 => exact with9 _ p c w hlim (by simp [ownL]) ht
  | bin i t u h1 h2 h3 =>
    cases t with
    | lf _ => simp [isN] at h1
    | nd _ _ => exact with10 _ p c w hlim (by simp [ownL]) hla ht
  | una i t h1 h2 => exact with11 _ p c w hlim (by simp [ownL]) ht
  | grp i j t h1 => exact absurd rfl hk
  | call i j l' h1 => exact with13 _ p c w hlim (by simp [ownL]) (by simp [ownL]) (fun e => absurd (by simpa [ownL, tkT] using e) h1) ht
  | callm i j m l' h1 => exact with13 _ p c w hlim (by simp [ownL]) (by simp [ownL]) (fun _ => by simp [ownL]) ht
  | nam i => exact with14 _ p c w hlim (by simp [ownL]) ht
  | num i h1 => exact with15 _ p c w hlim (by simp [ownL]) (by simpa [ownL, tkT] using h1) ht
  | tru i => exact with16 _ p c w hlim (by simp [ownL]) ht
  | res i => exact with17 _ p c w hlim (by simp [ownL]) ht

theorem EAt.fill {F : Nat → Prop} {w : World} {op ps : Nat} {nm md nu : List UInt8} {ys s : Bool} {pw pk : Option Addr} {nw cw ck : Nat} {ks : List Ex} {rows : List (List Value)} (h : NumAt F w op nu s pw nw cw) (hr : GAt 8 w pk rows) (hl : LsE F w ks rows) (hf : ks ≠ [] → ∃ a, pk = some a ∧ F a.block) : EAt F w (.mk op nm md nu ys ks ps) [.int .i64 (op : Int), .string ⟨nm.toArray⟩, .string ⟨md.toArray⟩, .bool s, .slice pw nw cw, .bool ys, .slice pk ks.length ck, .int .i64 (ps : Int)] := by
  simp only [EAt]
  exact ⟨s, pw, nw, cw, pk, ck, rows, rfl, h, hr, hl, hf⟩
theorem infoEx : (Tryz.prog.info? 60).map (fun i => (i.zero, i.size, i.bytes)) = some (some (.agg #[.int .i64 0, .string ⟨#[]⟩, .string ⟨#[]⟩, .bool false, .slice none 0 0, .bool false, .slice none 0 0, .int .i64 0]), 8, 112) := by kernel_rfl
theorem two (w : World) (A B : Obj) : ∃ (W : World) (b0 b1 : Nat), W = (w.alloc A).alloc B ∧ w.heap.size = b0 ∧ w.heap.size + 1 = b1 ∧ W.heap[b0]? = some A ∧ W.heap[b1]? = some B ∧ w.grownBy W none ∧ b0 < b1 := by
  have h1 := heap_alloc_new w A
  have h2 := heap_alloc_new (w.alloc A) B
  have s1 : (w.alloc A).heap.size = w.heap.size + 1 := by simp
  rw [s1] at h2
  exact ⟨_, _, _, rfl, rfl, rfl, bx (World.grownBy_alloc _ _ none) h1, h2, gb_alloc (gb_alloc (gb_refl _ _) _) _, by omega⟩

/-- Where an expression without its kids lies in a box of its own. -/
def AfterE (w : World) (b1 op ps : Nat) (nm md nu : List UInt8) (ys : Bool) (t5 : Value) (wx : World) : Prop :=
  ∃ (b2 : Nat) (s : Bool) (pw : Option Addr) (nw cw : Nat), t5 = .pointer (some ⟨b2, 0, none⟩) ∧ wx.heap[b2]? = some (.cells #[.int .i64 (op : Int), .string ⟨nm.toArray⟩, .string ⟨md.toArray⟩, .bool s, .slice pw nw cw, .bool ys, .slice none 0 0, .int .i64 (ps : Int)] 60 (0, 0)) ∧ NumAt (fun k => b1 + 1 ≤ k ∧ k < wx.heap.size ∧ k ≠ b2) wx op nu s pw nw cw ∧ b1 < b2 ∧ w.grownBy wx none
theorem after_new {w w3 w4 : World} {b1 op ps : Nat} {nm md nu : List UInt8} {ys s : Bool} {pw : Option Addr} {nw cw : Nat} (hg : w.grownBy w4 none) (h3 : w.heap.size ≤ w3.heap.size) (hb : b1 < w4.heap.size) (hb3 : b1 < w3.heap.size) (hn : NumAt (fun k => w3.heap.size ≤ k) w4 op nu s pw nw cw) :
    AfterE w b1 op ps nm md nu ys (.pointer (some ⟨w4.heap.size, 0, none⟩)) (w4.alloc (.cells #[.int .i64 (op : Int), .string ⟨nm.toArray⟩, .string ⟨md.toArray⟩, .bool s, .slice pw nw cw, .bool ys, .slice none 0 0, .int .i64 (ps : Int)] 60)) := by
  refine ⟨w4.heap.size, s, pw, nw, cw, rfl, heap_alloc_new w4 _, ?_, hb, gb_alloc hg _⟩
  exact ((hn.bound).same (S := fun _ => False) (Fr2.none (World.grownBy_alloc w4 _ none)) (fun _ _ h => h)).mono (fun k hk => ⟨by omega, by simp; omega, by omega⟩)
theorem after_old {w w3 w4 : World} {b b1 op ps : Nat} {nm md nu : List UInt8} {ys s : Bool} {pw : Option Addr} {nw cw : Nat} {x0 x1 x2 x3 x4 x5 x6 x7 : Value} (hg : w.grownBy w4 none) (h3 : w.heap.size ≤ w3.heap.size) (hb : b1 < b) (hwb : w.heap.size ≤ b) (hb3 : b < w3.heap.size) (h0 : w4.heap[b]? = some (.cells #[x0, x1, x2, x3, x4, x5, x6, x7] 60 (0, 0))) (hn : NumAt (fun k => w3.heap.size ≤ k) w4 op nu s pw nw cw) :
    AfterE w b1 op ps nm md nu ys (.pointer (some ⟨b, 0, none⟩)) ((((((((w4.setCell ⟨b, 0, none⟩ (.int .i64 (op : Int))).setCell ⟨b, 1, none⟩ (.string ⟨nm.toArray⟩)).setCell ⟨b, 2, none⟩ (.string ⟨md.toArray⟩)).setCell ⟨b, 3, none⟩ (.bool s)).setCell ⟨b, 4, none⟩ (.slice pw nw cw)).setCell ⟨b, 5, none⟩ (.bool ys)).setCell ⟨b, 6, none⟩ (.slice none 0 0)).setCell ⟨b, 7, none⟩ (.int .i64 (ps : Int))) := by
  obtain ⟨hp, hf⟩ := put8c h0 (.int .i64 (op : Int)) (.string ⟨nm.toArray⟩) (.string ⟨md.toArray⟩) (.bool s) (.slice pw nw cw) (.bool ys) (.slice none 0 0) (.int .i64 (ps : Int))
  refine ⟨b, s, pw, nw, cw, rfl, hp, ?_, hb, Fr2.after hg hf (fun j hj => by have e : j = b := hj; omega)⟩
  exact ((hn.bound).same hf (fun k hk e => by have e : k = b := e; omega)).mono (fun k hk => ⟨by omega, Nat.lt_of_lt_of_le hk.2 hf.size, by omega⟩)
theorem old_gb {w1 w4 : World} {b : Nat} {x0 x1 x2 x3 x4 x5 x6 x7 : Value} {a0 a1 a2 a3 a4 a5 a6 a7 : Value} (hg : w1.grownBy w4 none) (hb : w1.heap.size ≤ b) (h0 : w4.heap[b]? = some (.cells #[x0, x1, x2, x3, x4, x5, x6, x7] 60 (0, 0))) :
    w1.grownBy ((((((((w4.setCell ⟨b, 0, none⟩ a0).setCell ⟨b, 1, none⟩ a1).setCell ⟨b, 2, none⟩ a2).setCell ⟨b, 3, none⟩ a3).setCell ⟨b, 4, none⟩ a4).setCell ⟨b, 5, none⟩ a5).setCell ⟨b, 6, none⟩ a6).setCell ⟨b, 7, none⟩ a7) none :=
  Fr2.after hg (put8c h0 a0 a1 a2 a3 a4 a5 a6 a7).2 (fun j hj => by have e : j = b := hj; omega)
theorem grp_ax (T : List Tok) (i j : Nat) {u : Tr} (hu : isN u = true) : axT T (.nd 12 [.lf i, u, .lf j]) = axT T u := by
  have h : axTs T [.lf i, u, .lf j] = [axT T u] := by
    rw [axTs, axTs, axTs, axTs, if_neg (by simp [isN]), if_pos hu, if_neg (by simp [isN])]
  rw [axT, if_pos rfl, h]; rfl

theorem EAt.eight {F : Nat → Prop} {w : World} {x : Ex} {q : List Value} (h : EAt F w x q) : ∃ a0 a1 a2 a3 a4 a5 a6 a7, q = [a0, a1, a2, a3, a4, a5, a6, a7] := by
  cases x with
  | mk op nm md nu ys ks ps =>
    simp only [EAt] at h
    obtain ⟨s, pw, nw, cw, pk, ck, rows, rfl, -⟩ := h
    exact ⟨_, _, _, _, _, _, _, _, rfl⟩
/-- A kid is put behind the others: all of them still read as they did. -/
theorem push_kid {wr w7 wa w9 W9 : World} {B b2 base nv cv g9 n9 cap9 : Nat} {pv : Option Addr} {rows : List (List Value)} {q : List Value} {ks : List Ex} {x : Ex} {u : Value} (hw : B ≤ wr.heap.size) (hO : OwnG 8 60 wr base (.slice pv nv cv) rows) (hb2 : b2 < base) (hb2r : b2 < wr.heap.size)
    (hLS : LsE (fun k => B ≤ k ∧ k < wr.heap.size ∧ k ≠ b2 ∧ (Value.slice pv nv cv).ownBlock ≠ some k) wr ks rows) (hg7 : wr.grownBy w7 none) (hq : EAt (fun k => wr.heap.size ≤ k) w7 x q) (hga : w7.grownBy wa none) (hsa : wa.heap.size = w7.heap.size + 1)
    (hg9 : wa.grownBy w9 (Value.slice pv nv cv).ownBlock) (hl9 : (Value.slice pv nv cv).ownBlock = some g9 ∨ g9 = w7.heap.size + 1) (hf : (w9.setCell ⟨b2, 6, none⟩ u).grownBy W9 none) :
    LsE (fun k => B ≤ k ∧ k < W9.heap.size ∧ k ≠ b2 ∧ (Value.slice (some ⟨g9, 0, none⟩) n9 cap9).ownBlock ≠ some k) W9 (ks ++ [x]) (rows ++ [q]) := by
  have hat := OwnG.at hO
  have s7 := hg7.size
  have s9 := hg9.size
  have sf := hf.size
  have sc : (w9.setCell ⟨b2, 6, none⟩ u).heap.size = w9.heap.size := by simp [World.setCell]
  have fr : Fr2 (fun k => (Value.slice pv nv cv).ownBlock = some k ∨ k = b2) w7 W9 :=
    ((Fr2.none hga).trans ((Fr2.of hg9 (fun k e => .inl e)).trans ((Fr2.setCell (Fr2.refl _ _) (.inr rfl) u).trans (Fr2.none hf))))
  have hne : ∀ k, k < w7.heap.size → (Value.slice pv nv cv).ownBlock ≠ some k → (Value.slice (some ⟨g9, 0, none⟩) n9 cap9).ownBlock ≠ some k := fun k hk h1 e => by
    have e : g9 = k := Option.some.inj (show some g9 = some k from e)
    rcases hl9 with h | h
    · exact h1 (by rw [h, e])
    · omega
  have hno : ∀ k, wr.heap.size ≤ k → (Value.slice pv nv cv).ownBlock ≠ some k := fun k hk e => by have := hat _ e; omega
  refine Ls_snoc ?_ ?_
  · have h1 := EAt.same fr (fun k (hk : wr.heap.size ≤ k ∧ k < w7.heap.size) => fun e => by
      rcases e with e | e
      · exact hno k hk.1 e
      · omega) hq.bound
    exact EAt.mono (fun k hk => ⟨by omega, by omega, by omega, hne k hk.2 (hno k hk.1)⟩) h1
  · have h1 := LsE.same fr (fun k (hk : B ≤ k ∧ k < wr.heap.size ∧ k ≠ b2 ∧ (Value.slice pv nv cv).ownBlock ≠ some k) => fun e => by
      rcases e with e | e
      · exact hk.2.2.2 e
      · exact hk.2.2.1 e) (hLS.kept hg7)
    exact LsE.mono (fun k hk => ⟨hk.1, by omega, hk.2.2.1, hne k (by omega) hk.2.2.2⟩) h1

theorem ax_nd (T : List Tok) {k : Nat} {l : List Tr} (hk : k ≠ 12) : axT T (.nd k l) = withK (nodeE k (fun j => tkT T ((ownL l).getD j T.length)) []) (axTs T l) := by
  rw [axT, if_neg hk, nodeE_with]
theorem OwnG.rows {s n c : Nat} {T : TypeId} {w : World} {base : Nat} {p : Option Addr} {l : List (List Value)} (h : OwnG s T w base (.slice p n c) l) : n = l.length ∧ GAt s w p l ∧ (l ≠ [] → ∃ a, p = some a ∧ base ≤ a.block ∧ a.block < w.heap.size) := by
  obtain ⟨p', c', e, h1, h2, h3, h4⟩ := h.is
  injection e with e1 e2 e3
  subst e1
  refine ⟨e2, h1, fun h0 => ?_⟩
  have hl := List.length_pos_iff.2 h0
  obtain ⟨a, ha, hb, hc⟩ := OwnG.lt h rfl (by omega)
  exact ⟨a, ha, hb, hc⟩

/-- A tree that an expression is read of. -/
structure GoodE (T : List Tok) (N : List Nd) (k : Int) (t : Tr) : Prop where
  nd : isN t = true
  we : WE T t
  ko : kOk t
  lv : ∀ i ∈ lvT t, i < T.length
  pl : TrAt N k t

end Go.Proofs.YtmlcpihedmmlfaaGreatDoor
namespace Go.Proofs.YtmlcpihedmmlfaaGreatDoor
open Go.RowKit

theorem tellD (F : Nat → Prop) (B : Nat) (hF : ∀ k, F k → k < B) : Tell stD 54 B B F (PD B B) LD allS where
  below := hF
  box := Nat.le_refl _
  tell := fun s f w hp _ hx hd hq hl => dump1_c F B B hF s f w hp hx hd hq hl
  mono := fun s x d h => by unfold LD stD at h; unfold LD; rw [List.length_append] at h; omega
  kids := fun x k h hk => allS_kid h hk
  grown := fun s w w' h hg => h.gb hg
  placed := fun s w w' g cs h hg hc hne => ⟨bld_keptS h.1 hg hc (by decide) hne, Nat.le_trans h.2 hg.size⟩

/-- An expression laid into a box of its own. -/
theorem EAt.box {F : Nat → Prop} {w : World} {x : Ex} {q : List Value} (h : EAt F w x q) : PAtE (fun k => k ≤ w.heap.size) (w.alloc (.cells q.toArray 60)) w.heap.size 0 x :=
  ⟨Nat.le_refl _, by simp, q, h.len, fun i v hi => by
    rw [Nat.zero_add]; unfold World.cell?; rw [show (⟨w.heap.size, i, none⟩ : Addr).block = w.heap.size from rfl, heap_alloc_new w]; simpa using hi,
   (h.bound.mono (fun k hk => Nat.le_of_lt hk.2)).kept (World.grownBy_alloc w _ none)⟩

set_option maxRecDepth 100000 in
set_option maxHeartbeats 16000000 in
theorem Dump_c2 (F : Nat → Prop) (x : Ex) (q : List Value) (w : World) (hx : EAt F w x q) (hs : allS x) (hc : cntE x ≤ 1000000) (hD : (dmpE x).length ≤ 1000000) :
    Calls Tryz.prog 28 #[.agg q.toArray] w (StrGb (dmpE x) w) := by
  have hb := hx.box
  have HS := Lib.hid hs; have HC := Lib.hid hc; have HD := Lib.hid hD
  obtain ⟨v0, v1, v2, v3, v4, v5, v6, v7, rfl⟩ : ∃ v0 v1 v2 v3 v4 v5 v6 v7, q = [v0, v1, v2, v3, v4, v5, v6, v7] := by
    have := hx.len
    match q, this with
    | [v0, v1, v2, v3, v4, v5, v6, v7], _ => exact ⟨_, _, _, _, _, _, _, _, rfl⟩
  have hA := World.grownBy_alloc w (.cells #[v0, v1, v2, v3, v4, v5, v6, v7] 60) none
  clear hx hs hc hD
  go_enter Tryz.func28, Tryz.ntmps28
  go_wp2_with fail
  change PAtE _ (w.alloc (.cells #[v0, v1, v2, v3, v4, v5, v6, v7] 60)) _ _ _ at hb
  obtain ⟨b, hbb⟩ : ∃ b, w.heap.size = b := ⟨_, rfl⟩
  have hsz : (w.alloc (.cells #[v0, v1, v2, v3, v4, v5, v6, v7] 60)).heap.size = b + 1 := by simp [hbb]
  generalize (w.alloc (.cells #[v0, v1, v2, v3, v4, v5, v6, v7] 60)) = WA at *
  have hbl := bld_new WA (b + 1) (by omega)
  have hgB := World.grownBy_alloc WA (.cells #[.pointer none, .slice none 0 0] 101) none
  have hsB : (WA.alloc (.cells #[.pointer none, .slice none 0 0] 101)).heap.size = b + 2 := by simp [hsz]
  generalize (WA.alloc (.cells #[.pointer none, .slice none 0 0] 101)) = WB at *
  rw [hsz] at hbl
  rw [hbb] at hb ⊢
  have hb2 := (hb.same (S := fun _ => False) (Fr2.none hgB) (fun _ _ h => h))
  have HW := Lib.hid (walkD_c stD (b + 1) (b + 1) _ (PD (b + 1) (b + 1)) LD allS (tellD (fun k => k ≤ b) (b + 1) (fun k hk => by omega)) x b 0 [] WB ⟨hbl, by omega⟩ hb2 (by omega) HC.out (by rw [runE_D]; exact HD.out) HS.out)
  have HG : Hid (w.grownBy WB none) := Lib.hid (gb_trans hA hgB)
  have HB1 : Hid (w.heap.size = b) := Lib.hid hbb
  have HZB : Hid (WB.heap.size = b + 2) := Lib.hid hsB
  clear hb hb2 hbl hsB hgB hsz hA hbb
  refine HW.out.mono ?_
  rintro e W3 ⟨rfl, hp3, hbe3⟩
  rw [runE_D, List.nil_append] at hp3
  have HSTR := Lib.hid (Tryz.Builder_String_any_k (b + 1) (b + 1) _ W3 (Lib.IsBuilderF.of hp3.1) hp3.2)
  have HBE3 := Lib.hid hbe3
  clear hp3 hbe3 HW
  go_wp2_with fail
  refine HSTR.out.mono ?_
  rintro e w7 ⟨rfl, -, hbe7, -⟩
  have HG7 : Hid (w.grownBy w7 none) := Lib.hid (below_gb (Below.mono (Below.trans2 (Below.gb HG.out (by rw [HB1.out]; exact Nat.le_refl _)) ((Below.trans2 HBE3.out hbe7).mono (by omega))) (by rw [HB1.out]; exact Nat.le_refl _)))
  clear hbe7
  go_wp2_with fail
  go_ret
  exact ⟨⟨_, rfl, rfl⟩, HG7.out⟩
end Go.Proofs.YtmlcpihedmmlfaaGreatDoor
namespace Go.Proofs.YtmlcpihedmmlfaaGreatDoor
open Go.RowKit

/-- A rising row of just the free names. -/
def FreePost (x : Ex) (w : World) (e : Ending) (w' : World) : Prop := w.grownBy w' none ∧ ∃ S p c, e = .returned (.slice p (List.length S) c) ∧ Bg.AscS S ∧ (∀ n, n ∈ S ↔ frE x n) ∧ Bg.SAt w' p S ∧ S.length ≤ 1000000
theorem sat_of_own {w : World} {base : Nat} {v : Value} {l : List (List UInt8)} (h : OwnG 1 9 w base v (rowW l)) : ∃ p c, v = .slice p l.length c ∧ l.length ≤ c ∧ Bg.SAt w p l := by
  obtain ⟨p, c, e, hg, hc, -, -⟩ := h.is
  rw [rowW_len] at e hc
  refine ⟨p, c, e, hc, ?_⟩
  rcases v_of_g (show GAt 1 w p (one (l.map strV)) from hg) with h0 | ⟨g, off, e2, hl, hcs⟩
  · exact .inl (List.map_eq_nil_iff.1 h0)
  · refine .inr ⟨g, off, e2, hl, fun j hj => ?_⟩
    have h1 : (l.map strV)[j]? = some (strV l[j]) := by rw [List.getElem?_map, List.getElem?_eq_getElem hj]; rfl
    have h2 := hcs j _ h1
    have h3 : l.getD j [] = l[j] := by simp [List.getD, hj]
    rw [h2, h3]; rfl
def s0F : FrS := ⟨[], fun _ => 0, 0⟩

set_option maxRecDepth 100000 in
set_option maxHeartbeats 16000000 in
theorem Free_c (F : Nat → Prop) (x : Ex) (q : List Value) (w : World) (hx : EAt F w x q) (hl : letE x) (hq : frQ x) (hc : cntE x ≤ 1000000) :
    Calls Tryz.prog 50 #[.agg q.toArray] w (FreePost x w) := by
  have hb := hx.box
  have hmm := @run_makeMap Tryz.prog
  have HC := Lib.hid hc; have HQ := Lib.hid hq
  have hrun := run_fr x s0F hl (fun _ => Int.le_refl _)
  have hrn := run_n x s0F
  obtain ⟨fin, hfin⟩ : ∃ fin, runE stF x s0F = fin := ⟨_, rfl⟩
  have HFI := Lib.hid hfin
  rw [hfin] at hrun hrn
  have HMEM : Hid (∀ n, n ∈ fin.out ↔ frE x n) := Lib.hid (by
    obtain ⟨-, L, h1, h2⟩ := hrun
    intro n
    rw [h1]
    show n ∈ [] ++ L ↔ _
    rw [List.nil_append, h2]
    exact ⟨fun h => h.1, fun h => ⟨h, rfl⟩⟩)
  have HLEN : Hid (fin.out.length ≤ 1000000 ∧ fin.n ≤ 1000000) := Lib.hid (by
    have h1 : fin.out.length ≤ 0 + cntE x := hrn.2
    have h2 : fin.n = 0 + cntE x := hrn.1
    omega)
  obtain ⟨v0, v1, v2, v3, v4, v5, v6, v7, rfl⟩ : ∃ v0 v1 v2 v3 v4 v5 v6 v7, q = [v0, v1, v2, v3, v4, v5, v6, v7] := by
    have := hx.len
    match q, this with
    | [v0, v1, v2, v3, v4, v5, v6, v7], _ => exact ⟨_, _, _, _, _, _, _, _, rfl⟩
  have hA := World.grownBy_alloc w (.cells #[v0, v1, v2, v3, v4, v5, v6, v7] 60) none
  clear hx hc hrun hrn hl hq hfin
  go_enter Tryz.func50, Tryz.ntmps50
  go_wp2_with fail
  change PAtE _ (w.alloc (.cells #[v0, v1, v2, v3, v4, v5, v6, v7] 60)) _ _ _ at hb
  obtain ⟨b, hbb⟩ : ∃ b, w.heap.size = b := ⟨_, rfl⟩
  have HB1 : Hid (w.heap.size = b) := Lib.hid hbb
  have hsz : (w.alloc (.cells #[v0, v1, v2, v3, v4, v5, v6, v7] 60)).heap.size = b + 1 := by simp [hbb]
  rw [hbb] at hb
  try rw [hbb]
  generalize (w.alloc (.cells #[v0, v1, v2, v3, v4, v5, v6, v7] 60)) = WA at *
  have h1 := heap_alloc_new WA (.cells #[.slice none 0 0] 38)
  have g1 := World.grownBy_alloc WA (.cells #[.slice none 0 0] 38) none
  have s1 : (WA.alloc (.cells #[.slice none 0 0] 38)).heap.size = b + 2 := by simp [hsz]
  rw [hsz] at h1
  generalize (WA.alloc (.cells #[.slice none 0 0] 38)) = WB at *
  have h2 := World.ownsMap_made (H := Unit) WB Tryz.prog 9 (plainElem Tryz.prog 3)
  have g2 := World.grownBy_alloc WB (.map #[] 0) none
  have s2 : (WB.alloc (.map #[] 0)).heap.size = b + 3 := by simp [s1]
  rw [s1] at h2
  generalize (WB.alloc (.map #[] 0)) = WC at *
  have h3 := heap_alloc_new WC (.cells #[.map (some (b + 2))] 146)
  have g3 := World.grownBy_alloc WC (.cells #[.map (some (b + 2))] 146) none
  have s3 : (WC.alloc (.cells #[.map (some (b + 2))] 146)).heap.size = b + 4 := by simp [s2]
  rw [s2] at h3
  generalize (WC.alloc (.cells #[.map (some (b + 2))] 146)) = WD at *
  have hP : PFr b s0F WD := ⟨by omega, h3, ⟨.map [], h2.kept g3 (by simp), fun k => rfl⟩, ⟨none, 0, 0, bx (gb_trans g2 g3) h1, OwnG.nil _ _ _ _⟩, fun k => ⟨by simp [s0F], by simp [s0F]⟩, Nat.le_refl _⟩
  have hb2 := (hb.same (S := fun _ => False) (Fr2.none (gb_trans g1 (gb_trans g2 g3))) (fun _ _ h => h))
  have HW := Lib.hid (walkF_c stF (b + 3) (b + 1) (b + 1) _ (PFr b) LFr frQ (tellF (fun k => k ≤ b) b (fun k hk => by omega)) x b 0 s0F WD hP hb2 (by omega) HC.out (by rw [HFI.out]; exact HLEN.out.2) HQ.out)
  have HG : Hid (w.grownBy WD none) := Lib.hid (gb_trans hA (gb_trans g1 (gb_trans g2 g3)))
  clear hb hb2 hsz hA hbb h1 h2 h3 g1 g2 g3 s1 s2 s3 hP hmm
  refine HW.out.mono ?_
  rintro e W3 ⟨rfl, hp3, hbe3⟩
  rw [HFI.out] at hp3
  obtain ⟨h31, -, -, ⟨pv, nv, cv, hsl, hO⟩, -⟩ := hp3
  obtain ⟨p, c, e1, hc1, hS⟩ := sat_of_own hO
  injection e1 with e1 e2 e3
  subst e1 e2 e3
  have HG3 : Hid (w.grownBy W3 none) := Lib.hid (below_gb (Below.mono (Below.trans2 (Below.gb HG.out (by rw [HB1.out]; exact Nat.le_refl _)) (hbe3.mono (by omega))) (by rw [HB1.out]; exact Nat.le_refl _)))
  have x1 : W3.cell? ⟨b + 1, 0, none⟩ = some (.slice pv fin.out.length cv) := by rw [cell_of_row W3 (b + 1) 0 _ _ (0, 0) hsl]; rfl
  have hb1 : b + 1 < W3.heap.size := by omega
  have HOF := Lib.hid (Bg.OfS_c pv cv fin.out W3 HLEN.out.1 hc1 hS)
  obtain ⟨n, hn⟩ : ∃ n, fin.out.length = n := ⟨_, rfl⟩
  rw [hn] at x1 HOF
  try rw [hn]
  clear hsl hO hS hbe3 HW h31 hn hc1
  go_wp2_with fail
  refine HOF.out.mono ?_
  rintro e W4 ⟨S, p4, n4, c4, rfl, hset, hsl, -, hle, hg4⟩
  obtain ⟨p5, c5, e5, -, -, hsat⟩ := hsl
  injection e5 with e5 e6 e7
  subst e5 e6 e7
  have HG4 := Lib.hid (gb_trans HG3.out hg4)
  have HSE := Lib.hid hset
  have HSL : Hid (S.length ≤ 1000000) := Lib.hid (Nat.le_trans hle HLEN.out.1)
  have HIT := Lib.hid (Bg.ItemsS_c p4 c4 S W4 HSL.out hsat)
  obtain ⟨m, hm⟩ : ∃ m, S.length = m := ⟨_, rfl⟩
  have HM := Lib.hid hm
  rw [hm] at HIT
  try rw [hm]
  clear hset hle hg4 hsat hm HOF x1 hb1
  go_wp2_with fail
  refine HIT.out.mono ?_
  rintro e W5 ⟨p6, n6, c6, rfl, hsl6, -, hg5⟩
  obtain ⟨p7, c7, e7, -, -, hsat7⟩ := hsl6
  injection e7 with e7 e8 e9
  subst e7 e8 e9
  have HG5 := Lib.hid (gb_trans HG4.out hg5)
  have HP : Hid (FreePost x w (.returned (.slice p6 S.length c6)) W5) := Lib.hid ⟨HG5.out, S, p6, c6, rfl, HSE.out.1, fun y => (HSE.out.2 y).trans (HMEM.out y), hsat7, HSL.out⟩
  rw [HM.out] at HP
  try rw [HM.out]
  clear hg5 hsat7 HIT
  go_wp2_with fail
  go_ret
  exact HP.out
end Go.Proofs.YtmlcpihedmmlfaaGreatDoor
namespace Go.Proofs.YtmlcpihedmmlfaaGreatDoor
open Go.RowKit

def BoolOf (p : Prop) (w : World) (e : Ending) (w' : World) : Prop := w.grownBy w' none ∧ ∃ b : Bool, e = .returned (.bool b) ∧ (b = true ↔ p)
theorem ret_false {p : Prop} {w w' : World} (hg : w.grownBy w' none) (h : ¬ p) : BoolOf p w (.returned (.bool false)) w' := ⟨hg, false, rfl, by simp [h]⟩
end Go.Proofs.YtmlcpihedmmlfaaGreatDoor
