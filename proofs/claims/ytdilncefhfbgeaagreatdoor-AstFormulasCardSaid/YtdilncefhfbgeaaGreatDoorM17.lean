/- An expression, read out of a tree's nodes. -/
import Derived.Deep.LoopGhost
import Derived.Deep.CutBlock
import Derived.Deep.DeepCutAuto
import Derived.Test.YtdilncefhfbgeaaGreatDoorAWith2
import Derived.Test.YtdilncefhfbgeaaGreatDoorM8
import Derived.Laws.StructEq
set_option linter.unusedVariables false
set_option linter.unusedSimpArgs false
namespace Go.Proofs.YtdilncefhfbgeaaGreatDoor
open Go.RowKit

def withK : Ex → List Ex → Ex
  | .mk op nm md nu ys _ ps, ks => .mk op nm md nu ys ks ps
theorem nodeE_with (k : Nat) (o : Nat → Tok) (ks : List Ex) : nodeE k o ks = withK (nodeE k o []) ks := by
  unfold nodeE
  repeat' (split)
  all_goals (first | rfl | (split <;> rfl))
theorem nodeE_kids (k : Nat) (o : Nat → Tok) : ∃ op nm md nu ys ps, nodeE k o [] = .mk op nm md nu ys [] ps := by
  cases h : nodeE k o [] with
  | mk op nm md nu ys ks ps =>
    have h1 := nodeE_with k o []
    rw [h] at h1
    simp only [withK, Ex.mk.injEq, true_and, and_true] at h1
    exact ⟨op, nm, md, nu, ys, ps, by rw [h1]⟩

theorem NumAt.bound {F : Nat → Prop} {w : World} {op : Nat} {nu : List UInt8} {s : Bool} {p : Option Addr} {n c : Nat} (h : NumAt F w op nu s p n c) : NumAt (fun k => F k ∧ k < w.heap.size) w op nu s p n c := by
  unfold NumAt at h ⊢
  split
  · rename_i ho
    rw [if_pos ho] at h
    refine ⟨h.1, h.2.1, fun h0 => ?_⟩
    obtain ⟨a, ha, hF⟩ := h.2.2 h0
    refine ⟨a, ha, hF, ?_⟩
    obtain ⟨s', v, M, he, ⟨p', n', c', f, rfl, h1, h2, h3, h4⟩, r⟩ := h.1
    simp only [Value.agg.injEq, Array.mk.injEq, List.cons.injEq, Value.bool.injEq, Value.slice.injEq, and_true] at he
    obtain ⟨rfl, rfl, rfl, rfl⟩ := he
    obtain ⟨g, off, hp, hl, -⟩ := Or.resolve_left h3 (by omega)
    rw [ha] at hp; injection hp with hp; subst hp; exact hl
  · rename_i ho
    rw [if_neg ho] at h; exact h
mutual
theorem EAt.bound {F : Nat → Prop} {w : World} : ∀ {x : Ex} {q : List Value}, EAt F w x q → EAt (fun k => F k ∧ k < w.heap.size) w x q
  | .mk op nm md nu ys ks ps, q, h => by
    simp only [EAt] at h ⊢
    obtain ⟨s, pw, nw, cw, pk, ck, rows, h1, h2, h3, h4, h5⟩ := h
    refine ⟨s, pw, nw, cw, pk, ck, rows, h1, h2.bound, h3, LsE.bound h4, fun h0 => ?_⟩
    obtain ⟨a, ha, h6⟩ := h5 h0
    have hr := Ls_len h4
    exact ⟨a, ha, h6, GAt.blk h3 (fun e => by rw [e] at hr; exact h0 (List.eq_nil_of_length_eq_zero hr.symm)) a ha⟩
theorem LsE.bound {F : Nat → Prop} {w : World} : ∀ {l : List Ex} {r : List (List Value)}, LsE F w l r → LsE (fun k => F k ∧ k < w.heap.size) w l r
  | [], r, h => by simp only [LsE] at h ⊢; exact h
  | x :: l, r, h => by
    simp only [LsE] at h ⊢
    obtain ⟨q, r', h1, h2, h3⟩ := h
    exact ⟨q, r', h1, EAt.bound h2, LsE.bound h3⟩
end
theorem EAt.parts {F : Nat → Prop} {w : World} {op ps : Nat} {nm md nu : List UInt8} {ys : Bool} {q : List Value} (h : EAt F w (.mk op nm md nu ys [] ps) q) (h0 : q[6]? = some (.slice none 0 0)) : ∃ s pw nw cw, q = [.int .i64 (op : Int), .string ⟨nm.toArray⟩, .string ⟨md.toArray⟩, .bool s, .slice pw nw cw, .bool ys, .slice none 0 0, .int .i64 (ps : Int)] ∧ NumAt F w op nu s pw nw cw := by
  simp only [EAt] at h
  obtain ⟨s, pw, nw, cw, pk, ck, rows, rfl, h2, -⟩ := h
  simp at h0
  obtain ⟨rfl, rfl⟩ := h0
  exact ⟨s, pw, nw, cw, rfl, h2⟩
theorem EAt.one {F : Nat → Prop} {w : World} {x : Ex} {q : List Value} (h : EAt F w x q) : q.length = 8 ∧ ∀ u ∈ q, u.oneCell' = true := by
  cases x with
  | mk op nm md nu ys ks ps =>
    simp only [EAt] at h
    obtain ⟨s, pw, nw, cw, pk, ck, rows, rfl, -⟩ := h
    exact ⟨rfl, fun u hu => by simp at hu; rcases hu with rfl | rfl | rfl | rfl | rfl | rfl | rfl | rfl <;> rfl⟩

theorem axTs_append (T : List Tok) : ∀ a b : List Tr, axTs T (a ++ b) = axTs T a ++ axTs T b
  | [], b => by simp [axTs]
  | t :: a, b => by
    simp only [List.cons_append, axTs, axTs_append T a b]
    split <;> simp
theorem axTs_nd (T : List Tok) {l : List Tr} {j : Nat} {t : Tr} (h : l[j]? = some t) (ht : isN t = true) : axTs T (l.take (j + 1)) = axTs T (l.take j) ++ [axT T t] := by
  rw [take_snoc h, axTs_append]; simp [axTs, ht]
theorem axTs_lf (T : List Tok) {l : List Tr} {j i : Nat} (h : l[j]? = some (.lf i)) : axTs T (l.take (j + 1)) = axTs T (l.take j) := by
  rw [take_snoc h, axTs_append]; simp [axTs, isN]
theorem axTs_len (T : List Tok) : ∀ l : List Tr, (axTs T l).length ≤ l.length
  | [] => by simp [axTs]
  | t :: l => by
    have := axTs_len T l
    simp only [axTs, List.length_cons]
    split
    · simp only [List.length_cons]; omega
    · omega
theorem WEs_get {T : List Tok} : ∀ {l : List Tr} {j : Nat} {t : Tr}, WEs T l → l[j]? = some t → WE T t
  | [], j, t, _, h => by simp at h
  | u :: l, j, t, hk, h => by
    simp only [WEs] at hk
    match j, h with
    | 0, h => simp at h; subst h; exact hk.1
    | j + 1, h => exact WEs_get hk.2 (by simpa using h)
theorem lvTs_get : ∀ {l : List Tr} {j : Nat} {t : Tr}, l[j]? = some t → ∀ i ∈ lvT t, i ∈ lvTs l
  | [], j, t, h => by simp at h
  | u :: l, j, t, h => fun i hi => by
    simp only [lvTs, List.mem_append]
    match j, h with
    | 0, h => simp at h; subst h; exact .inl hi
    | j + 1, h => exact .inr (lvTs_get (l := l) (j := j) (by simpa using h) i hi)
theorem szRs_get : ∀ {l : List Tr} {j : Nat} {t : Tr}, l[j]? = some t → szR t ≤ szRs l
  | [], j, t, h => by simp at h
  | u :: l, j, t, h => by
    simp only [szRs]
    match j, h with
    | 0, h => simp at h; subst h; omega
    | j + 1, h => have := szRs_get (l := l) (j := j) (t := t) (by simpa using h); omega
theorem len_szRs : ∀ l : List Tr, l.length ≤ szRs l
  | [] => Nat.zero_le _
  | u :: l => by have := len_szRs l; have := szR_pos u; simp only [szRs, List.length_cons]; omega

/-- withoutKids at whatever kind the form allows. -/
theorem with_all {T : List Tok} {k : Nat} {l : List Tr} (hs : ShE T k l) (hk : k ≠ 12) (p : Option Addr) (c : Nat) (w : World) (hl : l.length ≤ 150000) (ht : TAt w p ((ownL l).map (tkT T))) (hla : LaidS w) :
    Calls Tryz.prog 117 #[.int .i64 (k : Int), .slice p (ownL l).length c] w (ExPost0 (nodeE k (fun j => tkT T ((ownL l).getD j T.length)) []) w) := by
  have ho : (fun j => tkT T ((ownL l).getD j T.length)) = tkT ((ownL l).map (tkT T)) := by
    funext j
    unfold tkT
    rw [List.getElem?_map, List.getD_eq_getElem?_getD]
    cases h : (ownL l)[j]? with
    | none => simp
    | some i => rfl
  have hlen : ((ownL l).map (tkT T)).length = (ownL l).length := List.length_map _
  have hlim : ((ownL l).map (tkT T)).length ≤ 150000 := by have := ownL_len l; omega
  rw [ho, ← hlen]
  cases hs with
  | let_ i j k' m t u h1 h2 =>
    cases t with
    | lf _ => simp [isN] at h1
    | nd _ _ => cases u with
      | lf _ => simp [isN] at h2
      | nd _ _ => exact with7 _ p c w hlim (by simp [ownL]) (by simp [ownL]) ht
  | if_ i j k' t u v h1 h2 h3 => exact with8 _ p c w hlim (by simp [ownL]) ht
  | assert_ i j t u h1 h2 => exact with9 _ p c w hlim (by simp [ownL]) ht
  | bin i t u h1 h2 h3 =>
    cases t with
    | lf _ => simp [isN] at h1
    | nd _ _ => exact with10 _ p c w hlim (by simp [ownL]) hla ht
  | una i t h1 h2 => exact with11 _ p c w hlim (by simp [ownL]) ht
  | grp i j t h1 => exact absurd rfl hk
  | call i j l' h1 => exact with13 _ p c w hlim (by simp [ownL]) (by simp [ownL]) (fun e => absurd (by simpa [ownL, tkT] using e) h1) ht
  | callm i j m l' h1 => exact with13 _ p c w hlim (by simp [ownL]) (by simp [ownL]) (fun _ => by simp [ownL]) ht
  | nam i => exact with14 _ p c w hlim (by simp [ownL]) ht
  | num i h1 => exact with15 _ p c w hlim (by simp [ownL]) (by simpa [ownL, tkT] using h1) ht
  | tru i => exact with16 _ p c w hlim (by simp [ownL]) ht
  | res i => exact with17 _ p c w hlim (by simp [ownL]) ht

theorem EAt.fill {F : Nat → Prop} {w : World} {op ps : Nat} {nm md nu : List UInt8} {ys s : Bool} {pw pk : Option Addr} {nw cw ck : Nat} {ks : List Ex} {rows : List (List Value)} (h : NumAt F w op nu s pw nw cw) (hr : GAt 8 w pk rows) (hl : LsE F w ks rows) (hf : ks ≠ [] → ∃ a, pk = some a ∧ F a.block) : EAt F w (.mk op nm md nu ys ks ps) [.int .i64 (op : Int), .string ⟨nm.toArray⟩, .string ⟨md.toArray⟩, .bool s, .slice pw nw cw, .bool ys, .slice pk ks.length ck, .int .i64 (ps : Int)] := by
  simp only [EAt]
  exact ⟨s, pw, nw, cw, pk, ck, rows, rfl, h, hr, hl, hf⟩
theorem infoEx : (Tryz.prog.info? 60).map (fun i => (i.zero, i.size, i.bytes)) = some (some (.agg #[.int .i64 0, .string ⟨#[]⟩, .string ⟨#[]⟩, .bool false, .slice none 0 0, .bool false, .slice none 0 0, .int .i64 0]), 8, 112) := by kernel_rfl
theorem two (w : World) (A B : Obj) : ∃ (W : World) (b0 b1 : Nat), W = (w.alloc A).alloc B ∧ w.heap.size = b0 ∧ w.heap.size + 1 = b1 ∧ W.heap[b0]? = some A ∧ W.heap[b1]? = some B ∧ w.grownBy W none ∧ b0 < b1 := by
  have h1 := heap_alloc_new w A
  have h2 := heap_alloc_new (w.alloc A) B
  have s1 : (w.alloc A).heap.size = w.heap.size + 1 := by simp
  rw [s1] at h2
  exact ⟨_, _, _, rfl, rfl, rfl, bx (World.grownBy_alloc _ _ none) h1, h2, gb_alloc (gb_alloc (gb_refl _ _) _) _, by omega⟩

/-- Where an expression without its kids lies in a box of its own. -/
def AfterE (w : World) (b1 op ps : Nat) (nm md nu : List UInt8) (ys : Bool) (t5 : Value) (wx : World) : Prop :=
  ∃ (b2 : Nat) (s : Bool) (pw : Option Addr) (nw cw : Nat), t5 = .pointer (some ⟨b2, 0, none⟩) ∧ wx.heap[b2]? = some (.cells #[.int .i64 (op : Int), .string ⟨nm.toArray⟩, .string ⟨md.toArray⟩, .bool s, .slice pw nw cw, .bool ys, .slice none 0 0, .int .i64 (ps : Int)] 60 (0, 0)) ∧ NumAt (fun k => b1 + 1 ≤ k ∧ k < wx.heap.size ∧ k ≠ b2) wx op nu s pw nw cw ∧ b1 < b2 ∧ w.grownBy wx none
theorem after_new {w w3 w4 : World} {b1 op ps : Nat} {nm md nu : List UInt8} {ys s : Bool} {pw : Option Addr} {nw cw : Nat} (hg : w.grownBy w4 none) (h3 : w.heap.size ≤ w3.heap.size) (hb : b1 < w4.heap.size) (hb3 : b1 < w3.heap.size) (hn : NumAt (fun k => w3.heap.size ≤ k) w4 op nu s pw nw cw) :
    AfterE w b1 op ps nm md nu ys (.pointer (some ⟨w4.heap.size, 0, none⟩)) (w4.alloc (.cells #[.int .i64 (op : Int), .string ⟨nm.toArray⟩, .string ⟨md.toArray⟩, .bool s, .slice pw nw cw, .bool ys, .slice none 0 0, .int .i64 (ps : Int)] 60)) := by
  refine ⟨w4.heap.size, s, pw, nw, cw, rfl, heap_alloc_new w4 _, ?_, hb, gb_alloc hg _⟩
  exact ((hn.bound).same (S := fun _ => False) (Fr2.none (World.grownBy_alloc w4 _ none)) (fun _ _ h => h)).mono (fun k hk => ⟨by omega, by simp; omega, by omega⟩)
theorem after_old {w w3 w4 : World} {b b1 op ps : Nat} {nm md nu : List UInt8} {ys s : Bool} {pw : Option Addr} {nw cw : Nat} {x0 x1 x2 x3 x4 x5 x6 x7 : Value} (hg : w.grownBy w4 none) (h3 : w.heap.size ≤ w3.heap.size) (hb : b1 < b) (hwb : w.heap.size ≤ b) (hb3 : b < w3.heap.size) (h0 : w4.heap[b]? = some (.cells #[x0, x1, x2, x3, x4, x5, x6, x7] 60 (0, 0))) (hn : NumAt (fun k => w3.heap.size ≤ k) w4 op nu s pw nw cw) :
    AfterE w b1 op ps nm md nu ys (.pointer (some ⟨b, 0, none⟩)) ((((((((w4.setCell ⟨b, 0, none⟩ (.int .i64 (op : Int))).setCell ⟨b, 1, none⟩ (.string ⟨nm.toArray⟩)).setCell ⟨b, 2, none⟩ (.string ⟨md.toArray⟩)).setCell ⟨b, 3, none⟩ (.bool s)).setCell ⟨b, 4, none⟩ (.slice pw nw cw)).setCell ⟨b, 5, none⟩ (.bool ys)).setCell ⟨b, 6, none⟩ (.slice none 0 0)).setCell ⟨b, 7, none⟩ (.int .i64 (ps : Int))) := by
  obtain ⟨hp, hf⟩ := put8c h0 (.int .i64 (op : Int)) (.string ⟨nm.toArray⟩) (.string ⟨md.toArray⟩) (.bool s) (.slice pw nw cw) (.bool ys) (.slice none 0 0) (.int .i64 (ps : Int))
  refine ⟨b, s, pw, nw, cw, rfl, hp, ?_, hb, Fr2.after hg hf (fun j hj => by have e : j = b := hj; omega)⟩
  exact ((hn.bound).same hf (fun k hk e => by have e : k = b := e; omega)).mono (fun k hk => ⟨by omega, Nat.lt_of_lt_of_le hk.2 hf.size, by omega⟩)
theorem old_gb {w1 w4 : World} {b : Nat} {x0 x1 x2 x3 x4 x5 x6 x7 : Value} {a0 a1 a2 a3 a4 a5 a6 a7 : Value} (hg : w1.grownBy w4 none) (hb : w1.heap.size ≤ b) (h0 : w4.heap[b]? = some (.cells #[x0, x1, x2, x3, x4, x5, x6, x7] 60 (0, 0))) :
    w1.grownBy ((((((((w4.setCell ⟨b, 0, none⟩ a0).setCell ⟨b, 1, none⟩ a1).setCell ⟨b, 2, none⟩ a2).setCell ⟨b, 3, none⟩ a3).setCell ⟨b, 4, none⟩ a4).setCell ⟨b, 5, none⟩ a5).setCell ⟨b, 6, none⟩ a6).setCell ⟨b, 7, none⟩ a7) none :=
  Fr2.after hg (put8c h0 a0 a1 a2 a3 a4 a5 a6 a7).2 (fun j hj => by have e : j = b := hj; omega)
theorem AfterE.drew {w wx : World} {b1 op ps : Nat} {nm md nu : List UInt8} {ys : Bool} {t5 : Value} (h : AfterE w b1 op ps nm md nu ys t5 wx) : AfterE w b1 op ps nm md nu ys t5 wx.drew := by
  obtain ⟨b2, s, pw, nw, cw, h1, h2, h3, h4, h5⟩ := h
  exact ⟨b2, s, pw, nw, cw, h1, h2, h3.same (S := fun _ => False) (Fr2.none (gb_drew (gb_refl _ _))) (fun _ _ h => h), h4, gb_drew h5⟩

theorem grp_ax (T : List Tok) (i j : Nat) {u : Tr} (hu : isN u = true) : axT T (.nd 12 [.lf i, u, .lf j]) = axT T u := by
  have h : axTs T [.lf i, u, .lf j] = [axT T u] := by
    rw [axTs, axTs, axTs, axTs, if_neg (by simp [isN]), if_pos hu, if_neg (by simp [isN])]
  rw [axT, if_pos rfl, h]; rfl

theorem EAt.eight {F : Nat → Prop} {w : World} {x : Ex} {q : List Value} (h : EAt F w x q) : ∃ a0 a1 a2 a3 a4 a5 a6 a7, q = [a0, a1, a2, a3, a4, a5, a6, a7] := by
  cases x with
  | mk op nm md nu ys ks ps =>
    simp only [EAt] at h
    obtain ⟨s, pw, nw, cw, pk, ck, rows, rfl, -⟩ := h
    exact ⟨_, _, _, _, _, _, _, _, rfl⟩
/-- A kid is put behind the others: all of them still read as they did. -/
theorem push_kid {wr w7 wa w9 W9 : World} {B b2 base nv cv g9 n9 cap9 : Nat} {pv : Option Addr} {rows : List (List Value)} {q : List Value} {ks : List Ex} {x : Ex} {u : Value} (hw : B ≤ wr.heap.size) (hO : OwnG 8 60 wr base (.slice pv nv cv) rows) (hb2 : b2 < base) (hb2r : b2 < wr.heap.size)
    (hLS : LsE (fun k => B ≤ k ∧ k < wr.heap.size ∧ k ≠ b2 ∧ (Value.slice pv nv cv).ownBlock ≠ some k) wr ks rows) (hg7 : wr.grownBy w7 none) (hq : EAt (fun k => wr.heap.size ≤ k) w7 x q) (hga : w7.grownBy wa none) (hsa : wa.heap.size = w7.heap.size + 1)
    (hg9 : wa.grownBy w9 (Value.slice pv nv cv).ownBlock) (hl9 : (Value.slice pv nv cv).ownBlock = some g9 ∨ g9 = w7.heap.size + 1) (hf : (w9.setCell ⟨b2, 6, none⟩ u).grownBy W9 none) :
    LsE (fun k => B ≤ k ∧ k < W9.heap.size ∧ k ≠ b2 ∧ (Value.slice (some ⟨g9, 0, none⟩) n9 cap9).ownBlock ≠ some k) W9 (ks ++ [x]) (rows ++ [q]) := by
  have hat := OwnG.at hO
  have s7 := hg7.size
  have s9 := hg9.size
  have sf := hf.size
  have sc : (w9.setCell ⟨b2, 6, none⟩ u).heap.size = w9.heap.size := by simp [World.setCell]
  have fr : Fr2 (fun k => (Value.slice pv nv cv).ownBlock = some k ∨ k = b2) w7 W9 :=
    ((Fr2.none hga).trans ((Fr2.of hg9 (fun k e => .inl e)).trans ((Fr2.setCell (Fr2.refl _ _) (.inr rfl) u).trans (Fr2.none hf))))
  have hne : ∀ k, k < w7.heap.size → (Value.slice pv nv cv).ownBlock ≠ some k → (Value.slice (some ⟨g9, 0, none⟩) n9 cap9).ownBlock ≠ some k := fun k hk h1 e => by
    have e : g9 = k := Option.some.inj (show some g9 = some k from e)
    rcases hl9 with h | h
    · exact h1 (by rw [h, e])
    · omega
  have hno : ∀ k, wr.heap.size ≤ k → (Value.slice pv nv cv).ownBlock ≠ some k := fun k hk e => by have := hat _ e; omega
  refine Ls_snoc ?_ ?_
  · have h1 := EAt.same fr (fun k (hk : wr.heap.size ≤ k ∧ k < w7.heap.size) => fun e => by
      rcases e with e | e
      · exact hno k hk.1 e
      · omega) hq.bound
    exact EAt.mono (fun k hk => ⟨by omega, by omega, by omega, hne k hk.2 (hno k hk.1)⟩) h1
  · have h1 := LsE.same fr (fun k (hk : B ≤ k ∧ k < wr.heap.size ∧ k ≠ b2 ∧ (Value.slice pv nv cv).ownBlock ≠ some k) => fun e => by
      rcases e with e | e
      · exact hk.2.2.2 e
      · exact hk.2.2.1 e) (hLS.kept hg7)
    exact LsE.mono (fun k hk => ⟨hk.1, by omega, hk.2.2.1, hne k (by omega) hk.2.2.2⟩) h1

theorem ax_nd (T : List Tok) {k : Nat} {l : List Tr} (hk : k ≠ 12) : axT T (.nd k l) = withK (nodeE k (fun j => tkT T ((ownL l).getD j T.length)) []) (axTs T l) := by
  rw [axT, if_neg hk, nodeE_with]
theorem OwnG.rows {s n c : Nat} {T : TypeId} {w : World} {base : Nat} {p : Option Addr} {l : List (List Value)} (h : OwnG s T w base (.slice p n c) l) : n = l.length ∧ GAt s w p l ∧ (l ≠ [] → ∃ a, p = some a ∧ base ≤ a.block ∧ a.block < w.heap.size) := by
  obtain ⟨p', c', e, h1, h2, h3, h4⟩ := h.is
  injection e with e1 e2 e3
  subst e1
  refine ⟨e2, h1, fun h0 => ?_⟩
  have hl := List.length_pos_iff.2 h0
  obtain ⟨a, ha, hb, hc⟩ := OwnG.lt h rfl (by omega)
  exact ⟨a, ha, hb, hc⟩

/-- A tree that an expression is read of. -/
structure GoodE (T : List Tok) (N : List Nd) (k : Int) (t : Tr) : Prop where
  nd : isN t = true
  we : WE T t
  ko : kOk t
  lv : ∀ i ∈ lvT t, i < T.length
  pl : TrAt N k t

end Go.Proofs.YtdilncefhfbgeaaGreatDoor
namespace Go.Proofs.YtdilncefhfbgeaaGreatDoor
open Go.RowKit

set_option maxRecDepth 100000 in
set_option maxHeartbeats 8000000 in
theorem eqToks_c (T : List Tok) (hT : T.length ≤ 150000) (p p' : Option Addr) (c c' : Nat) (w : World) (h : TAt w p T) (h' : TAt w p' T) :
    Calls Tryz.prog 166 #[.slice p T.length c, .slice p' T.length c'] w (ValPost (.bool true) w) := by
  have HA := Lib.hid h; have HB := Lib.hid h'
  obtain ⟨m, hm⟩ : ∃ m, T.length = m := ⟨_, rfl⟩
  have HM := Lib.hid hm
  rw [hm] at hT ⊢
  clear h h' hm
  go_enter Tryz.func166, Tryz.ntmps166
  go_wp2_with fail
  go_loopw [13] (fun iv wr => ∃ j : Nat, j ≤ m ∧ iv = .int .i64 (j : Int) ∧ Hid (w.grownBy wr none)) (fun iv _ => m - (intOf iv).toNat)
  case atStart => exact ⟨0, Nat.zero_le _, rfl, gb_refl _ _⟩
  case round =>
    obtain ⟨j, hj, rfl, HG⟩ := hrel
    by_cases hlt : j < m
    · obtain ⟨g, off, rfl, hgl, t0, t1, t2, t3⟩ := tok_cells (HA.out.kept HG.out) (i := j) (by rw [HM.out]; exact hlt)
      obtain ⟨g', off', rfl, hgl', u0, u1, u2, u3⟩ := tok_cells (HB.out.kept HG.out) (i := j) (by rw [HM.out]; exact hlt)
      have y1 : (0 : Int) ≤ (j : Int) := by omega
      have y2 : (j : Int) < (m : Int) := by omega
      have y3 : decide (j < m) = true := decide_eq_true hlt
      have y4 : decide ((j : Int) < (m : Int)) = true := decide_eq_true y2
      unfold strV at t1 t2 u1 u2
      generalize (⟨(tkT T j).lead.toArray⟩ : ByteArray) = le at *
      generalize (⟨(tkT T j).text.toArray⟩ : ByteArray) = te at *
      generalize (tkT T j).kind = k at *
      generalize (tkT T j).pos = ps at *
      go_wp2_with fail
      go_quiet (fail)
      go_wp2_with fail
      go_roundw
      case rel => exact ⟨j + 1, by omega, by go_num, Lib.hid (gb_drewN HG.out _)⟩
      case measure => simp [intOf]; omega
    · obtain rfl : j = m := by omega
      go_wp2_with fail
      go_ret
      exact ⟨rfl, HG.out⟩

set_option maxRecDepth 100000 in
set_option maxHeartbeats 8000000 in
theorem eqInts_c (l : List Int) (hl : l.length ≤ 150000) (p p' : Option Addr) (c c' : Nat) (w : World) (h : VAt w p (intsV l)) (h' : VAt w p' (intsV l)) :
    Calls Tryz.prog 213 #[.slice p l.length c, .slice p' l.length c'] w (ValPost (.bool true) w) := by
  have HA := Lib.hid h; have HB := Lib.hid h'
  obtain ⟨m, hm⟩ : ∃ m, l.length = m := ⟨_, rfl⟩
  have HM := Lib.hid hm
  rw [hm] at hl ⊢
  clear h h' hm
  go_enter Tryz.func213, Tryz.ntmps213
  go_wp2_with fail
  go_loopw [13] (fun iv wr => ∃ j : Nat, j ≤ m ∧ iv = .int .i64 (j : Int) ∧ Hid (w.grownBy wr none)) (fun iv _ => m - (intOf iv).toNat)
  case atStart => exact ⟨0, Nat.zero_le _, rfl, gb_refl _ _⟩
  case round =>
    obtain ⟨j, hj, rfl, HG⟩ := hrel
    by_cases hlt : j < m
    · obtain ⟨x, hx⟩ : ∃ x, l[j]? = some x := ⟨l[j]'(by rw [HM.out]; exact hlt), List.getElem?_eq_getElem _⟩
      obtain ⟨g, off, rfl, hgl, t0⟩ := kid_at (HA.out.kept HG.out) hx
      obtain ⟨g', off', rfl, hgl', u0⟩ := kid_at (HB.out.kept HG.out) hx
      have y1 : (0 : Int) ≤ (j : Int) := by omega
      have y2 : (j : Int) < (m : Int) := by omega
      have y3 : decide (j < m) = true := decide_eq_true hlt
      have y4 : decide ((j : Int) < (m : Int)) = true := decide_eq_true y2
      clear hx
      go_wp2_with fail
      go_quiet (fail)
      go_wp2_with fail
      go_roundw
      case rel => exact ⟨j + 1, by omega, by go_num, Lib.hid (gb_drewN HG.out _)⟩
      case measure => simp [intOf]; omega
    · obtain rfl : j = m := by omega
      go_wp2_with fail
      go_ret
      exact ⟨rfl, HG.out⟩

set_option maxRecDepth 100000 in
set_option maxHeartbeats 8000000 in
theorem sameNode_c (k t : Int) (l : List Int) (hl : l.length ≤ 150000) (p p' : Option Addr) (c c' : Nat) (w : World) (h : VAt w p (intsV l)) (h' : VAt w p' (intsV l)) :
    Calls Tryz.prog 168 #[.agg #[.int .i64 k, .int .i64 t, .slice p l.length c], .agg #[.int .i64 k, .int .i64 t, .slice p' l.length c']] w (ValPost (.bool true) w) := by
  have HE := Lib.hid (fun W h1 h2 => eqInts_c l hl p p' c c' W h1 h2)
  have HA := Lib.hid h; have HB := Lib.hid h'
  generalize l.length = m at *
  clear h h' hl
  go_enter Tryz.func168, Tryz.ntmps168
  go_wp2_with fail
  refine (HE.out _ (HA.out.kept (gb_alloc (gb_alloc (gb_refl _ _) _) _)) (HB.out.kept (gb_alloc (gb_alloc (gb_refl _ _) _) _))).mono ?_
  rintro e w1 ⟨rfl, hg1⟩
  have HG1 := Lib.hid (gb_trans (gb_alloc (gb_alloc (gb_refl w _) _) _) hg1)
  clear hg1 HE
  go_wp2_with fail
  go_ret
  exact ⟨rfl, HG1.out⟩

set_option maxRecDepth 100000 in
set_option maxHeartbeats 16000000 in
theorem eqNodes_c (N : List Nd) (K K' : Kf) (hN : N.length ≤ 150000) (hk : ∀ (i : Nat) (x : Nd), N[i]? = some x → x.kids.length ≤ 150000) (p p' : Option Addr) (c c' : Nat) (w : World) (h : NodesAt w p N K) (h' : NodesAt w p' N K') :
    Calls Tryz.prog 167 #[.slice p N.length c, .slice p' N.length c', .func (.func 168) #[] #[]] w (ValPost (.bool true) w) := by
  have HA := Lib.hid h; have HB := Lib.hid h'; have HK := Lib.hid hk
  obtain ⟨m, hm⟩ : ∃ m, N.length = m := ⟨_, rfl⟩
  have HM := Lib.hid hm
  rw [hm] at hN ⊢
  clear h h' hm hk
  go_enter Tryz.func167, Tryz.ntmps167
  go_wp2_with fail
  go_loopw [17] (fun iv wr => ∃ j : Nat, j ≤ m ∧ iv = .int .i64 (j : Int) ∧ Hid (w.grownBy wr none)) (fun iv _ => m - (intOf iv).toNat)
  case atStart => exact ⟨0, Nat.zero_le _, rfl, gb_refl _ _⟩
  case round =>
    obtain ⟨j, hj, rfl, HG⟩ := hrel
    by_cases hlt : j < m
    · obtain ⟨x, hx⟩ : ∃ x, N[j]? = some x := ⟨N[j]'(by rw [HM.out]; exact hlt), List.getElem?_eq_getElem _⟩
      have HAr := Lib.hid (HA.out.kept HG.out); have HBr := Lib.hid (HB.out.kept HG.out)
      obtain ⟨g, off, rfl, hgl, t0, t1, t2⟩ := node_at HAr.out hx
      obtain ⟨g', off', rfl, hgl', u0, u1, u2⟩ := node_at HBr.out hx
      have y1 : (0 : Int) ≤ (j : Int) := by omega
      have y2 : (j : Int) < (m : Int) := by omega
      have y3 : decide (j < m) = true := decide_eq_true hlt
      have y4 : decide ((j : Int) < (m : Int)) = true := decide_eq_true y2
      have HS := Lib.hid (fun W h1 h2 => sameNode_c x.kind x.tok x.kids (HK.out j x hx) (K j).1 (K' j).1 (K j).2 (K' j).2 W h1 h2)
      have HV := Lib.hid (HAr.out.2 j x hx); have HV' := Lib.hid (HBr.out.2 j x hx)
      generalize (K j).1 = pk at *
      generalize (K j).2 = ck at *
      generalize (K' j).1 = pk' at *
      generalize (K' j).2 = ck' at *
      generalize x.kids.length = kl at *
      generalize x.kind = xk at *
      generalize x.tok = xt at *
      have v0 := (World.grownBy_alloc wr (.cells #[.int .i64 xk, .int .i64 xt, .slice pk kl ck] 79) none).cell u0 (by simp)
      have v1 := (World.grownBy_alloc wr (.cells #[.int .i64 xk, .int .i64 xt, .slice pk kl ck] 79) none).cell u1 (by simp)
      have v2 := (World.grownBy_alloc wr (.cells #[.int .i64 xk, .int .i64 xt, .slice pk kl ck] 79) none).cell u2 (by simp)
      clear hx
      go_wp2_with fail
      refine (HS.out _ (HV.out.kept (gb_alloc (gb_alloc (gb_refl _ _) _) _)) (HV'.out.kept (gb_alloc (gb_alloc (gb_refl _ _) _) _))).mono ?_
      rintro e w1 ⟨rfl, hg1⟩
      have HG1 := Lib.hid (gb_trans HG.out (gb_trans (gb_alloc (gb_alloc (gb_refl wr _) _) _) hg1))
      clear hg1 HS
      go_wp2_with fail
      go_roundw
      case rel => exact ⟨j + 1, by omega, by go_num, HG1⟩
      case measure => simp [intOf]; omega
    · obtain rfl : j = m := by omega
      go_wp2_with fail
      go_ret
      exact ⟨rfl, HG.out⟩

set_option maxRecDepth 100000 in
set_option maxHeartbeats 8000000 in
theorem sameTree_c (T : List Tok) (N : List Nd) (K K' : Kf) (hT : T.length ≤ 150000) (hN : N.length ≤ 150000) (hk : ∀ (i : Nat) (x : Nd), N[i]? = some x → x.kids.length ≤ 150000) (pt pt' pn pn' : Option Addr) (ct ct' cn cn' : Nat) (w : World) (ht : TAt w pt T) (ht' : TAt w pt' T) (h : NodesAt w pn N K) (h' : NodesAt w pn' N K') :
    Calls Tryz.prog 106 #[.agg #[.slice pt T.length ct, .slice pn N.length cn], .agg #[.slice pt' T.length ct', .slice pn' N.length cn']] w (ValPost (.bool true) w) := by
  have HE := Lib.hid (fun W h1 h2 => eqToks_c T hT pt pt' ct ct' W h1 h2)
  have HF := Lib.hid (fun W h1 h2 => eqNodes_c N K K' hN hk pn pn' cn cn' W h1 h2)
  have HA := Lib.hid ht; have HB := Lib.hid ht'; have HC := Lib.hid h; have HD := Lib.hid h'
  generalize T.length = m at *
  generalize N.length = M at *
  clear h h' ht ht' hk
  have HGW : Hid (w.grownBy ((w.alloc (.cells #[.slice pt m ct, .slice pn M cn] 26)).alloc (.cells #[.slice pt' m ct', .slice pn' M cn'] 26)) none) := Lib.hid (gb_alloc (gb_alloc (gb_refl _ _) _) _)
  go_enter Tryz.func106, Tryz.ntmps106
  go_wp2_with fail
  refine (HE.out _ (HA.out.kept HGW.out) (HB.out.kept HGW.out)).mono ?_
  rintro e w1 ⟨rfl, hg1⟩
  have HG1 := Lib.hid (gb_trans HGW.out hg1)
  obtain ⟨W0, b0, b1, hW, e0, e1, hB0, hB1, -, -⟩ := two w (.cells #[.slice pt m ct, .slice pn M cn] 26) (.cells #[.slice pt' m ct', .slice pn' M cn'] 26)
  rw [← hW] at hg1
  obtain ⟨a0, a1, a2⟩ := cells2 (bx hg1 hB0)
  obtain ⟨c0, c1, c2⟩ := cells2 (bx hg1 hB1)
  rw [← e0] at a0 a1 a2
  rw [← e1] at c0 c1 c2
  clear hg1 HE hB0 hB1 hW e0 e1
  go_wp2_with fail
  refine (HF.out _ (HC.out.kept HG1.out) (HD.out.kept HG1.out)).mono ?_
  rintro e w2 ⟨rfl, hg2⟩
  have HG2 := Lib.hid (gb_trans HG1.out hg2)
  clear hg2 HF
  go_wp2_with fail
  go_ret
  exact ⟨rfl, HG2.out⟩
end Go.Proofs.YtdilncefhfbgeaaGreatDoor
namespace Go.Proofs.YtdilncefhfbgeaaGreatDoor
open Go.RowKit

def FarK (N : List Nd) (K : Kf) (A : Nat → Prop) : Prop := ∀ (i : Nat) (x : Nd), N[i]? = some x → x.kids ≠ [] → ∀ a, (K i).1 = some a → A a.block
def FarV (w : World) (b : Nat) (l : List Tok) (u : Nat) (N : List Nd) (vn : Value) (A : Nat → Prop) : Prop := ∃ pt ct K, Bld w b pt ct l u vn N K ∧ FarK N K A
theorem FarV.bld {w : World} {b : Nat} {l : List Tok} {u : Nat} {N : List Nd} {vn : Value} {A : Nat → Prop} (h : FarV w b l u N vn A) : BldV w b l u N vn := by
  obtain ⟨pt, ct, K, h, -⟩ := h
  exact ⟨pt, ct, K, h⟩
theorem FarV.kept {w w' : World} {b : Nat} {l : List Tok} {u : Nat} {N : List Nd} {vn : Value} {A : Nat → Prop} (h : FarV w b l u N vn A) (hg : w.grownBy w' none) : FarV w' b l u N vn A := by
  obtain ⟨pt, ct, K, h, hf⟩ := h
  exact ⟨pt, ct, K, h.kept hg, hf⟩
/-- Beside turns of blocks that are far from it; the blocks to be far from may then be others. -/
theorem FarV.keptF {S : Nat → Prop} {w w' : World} {b : Nat} {l : List Tok} {u : Nat} {N : List Nd} {vn : Value} {A A' : Nat → Prop} (h : FarV w b l u N vn A) (hf : Fr2 S w w') (hS : ∀ k, k ≤ b → ¬ S k) (hv : ∀ k, vn.ownBlock = some k → ¬ S k) (hA : ∀ k, A k → ¬ S k) (hA' : ∀ k, k < w.heap.size → A k → A' k) : FarV w' b l u N vn A' := by
  obtain ⟨pt, ct, K, h, hk⟩ := h
  exact ⟨pt, ct, K, h.keptF hf hS hv fun i x hx hn a ha => hA _ (hk i x hx hn a ha), fun i x hx hn a ha => hA' _ (h.khi i x hx hn a ha).2.1 (hk i x hx hn a ha)⟩

def AddFar (w : World) (b : Nat) (l : List Tok) (u : Nat) (N : List Nd) (x : Nd) (vn : Value) (A : Nat → Prop) (e : Ending) (w' : World) : Prop :=
  e = .returned (.int .i64 (N.length : Int)) ∧ ∃ vn', FarV w' b l u (N ++ [x]) vn' A ∧ Fr2 (Turn b vn) w w' ∧ ∀ k, vn'.ownBlock = some k → vn.ownBlock = some k ∨ w.heap.size ≤ k

theorem AddFar.after {w w1 : World} {b : Nat} {l : List Tok} {u : Nat} {N : List Nd} {x : Nd} {vn : Value} {A : Nat → Prop} {e : Ending} {w' : World} (h : AddFar w1 b l u N x vn A e w') (hf : Fr2 (Turn b vn) w w1) : AddFar w b l u N x vn A e w' := by
  obtain ⟨he, vn', h1, h2, h3⟩ := h
  exact ⟨he, vn', h1, hf.trans h2, fun k hk => (h3 k hk).imp id fun h => Nat.le_trans hf.size h⟩

/-- A node more. -/
theorem Bld.addF {A : Nat → Prop} {w w5 : World} {b : Nat} {pt : Option Addr} {ct : Nat} {l : List Tok} {u u' : Nat} {vn : Value} {N : List Nd} {K : Kf} (h : Bld w b pt ct l u vn N K) (hf : Fr2 (Turn b vn) w w5) {g9 n9 cap9 : Nat} (hbox : w5.heap[b]? = some (.cells #[.slice pt l.length ct, .int .i64 (u' : Int), .slice (some ⟨g9, 0, none⟩) n9 cap9] 222 (0, 0)))
    {x : Nd} {p : Option Addr} {c : Nat} (hown : OwnG 3 79 w5 (b + 1) (.slice (some ⟨g9, 0, none⟩) n9 cap9) (ndsV K N ++ [[.int .i64 x.kind, .int .i64 x.tok, .slice p x.kids.length c]])) (hk : VAt w p (intsV x.kids)) (hkb : x.kids ≠ [] → ∀ a, p = some a → b < a.block ∧ vn.ownBlock ≠ some a.block)
    (hl9 : vn.ownBlock = some g9 ∨ w.heap.size ≤ g9) (hFK : FarK N K A) (hpA : x.kids ≠ [] → ∀ a, p = some a → A a.block) : FarV w5 b l u' (N ++ [x]) (.slice (some ⟨g9, 0, none⟩) n9 cap9) A := by
  obtain ⟨K', hK1, hK2⟩ := kf_snoc K N.length p c
  have hkn : ∀ (i : Nat) (y : Nd), (N ++ [x])[i]? = some y → (i < N.length ∧ N[i]? = some y ∧ K' i = K i) ∨ (i = N.length ∧ y = x ∧ K' i = (p, c)) := fun i y hy => by
    by_cases hi : i < N.length
    · rw [List.getElem?_append_left hi] at hy; exact .inl ⟨hi, hy, hK2 i (by omega)⟩
    · have h1 := (List.getElem?_eq_some_iff.1 hy).1
      rw [List.length_append, List.length_singleton] at h1
      obtain rfl : i = N.length := by omega
      rw [List.getElem?_append_right (Nat.le_refl _)] at hy
      simp at hy
      exact .inr ⟨rfl, hy.symm, hK1⟩
  refine ⟨pt, ct, K', ⟨hbox, h.cap, h.toks.keptF hf (fun h0 a ha => ?_), h.tlow, by rw [ndsV_snoc hK1 hK2]; exact hown, fun i y hy => ?_, fun i y hy hn a ha => ?_⟩, fun i y hy hn a ha => ?_⟩
  · have h1 := h.tlow h0 a ha
    rintro (e | e)
    · omega
    · have := (h.turn _ e).1; omega
  · rcases hkn i y hy with ⟨-, hy, e⟩ | ⟨-, rfl, e⟩
    · rw [e]
      refine (h.kids i y hy).keptF hf fun h0 a ha => ?_
      obtain ⟨h1, h2, h3⟩ := h.khi i y hy (intsV_ne h0) a ha
      rintro (e | e)
      · omega
      · exact h3 e
    · rw [e]
      refine hk.keptF hf fun h0 a ha => ?_
      obtain ⟨h1, h3⟩ := hkb (intsV_ne h0) a ha
      rintro (e | e)
      · omega
      · exact h3 e
  · have hx9 : ∀ k, (Value.slice (some ⟨g9, 0, none⟩) n9 cap9).ownBlock = some k → g9 = k := fun k e => by simpa [Value.ownBlock] using e
    rcases hkn i y hy with ⟨-, hy, e⟩ | ⟨-, rfl, e⟩
    · rw [e] at ha
      obtain ⟨h1, h2, h3⟩ := h.khi i y hy hn a ha
      refine ⟨h1, Nat.lt_of_lt_of_le h2 hf.size, fun e9 => ?_⟩
      have := hx9 _ e9
      subst this
      rcases hl9 with h | h
      · exact h3 h
      · omega
    · rw [e] at ha
      obtain ⟨h1, h3⟩ := hkb hn a ha
      have h2 := hk.lt (ne_intsV hn) a ha
      refine ⟨h1, Nat.lt_of_lt_of_le h2 hf.size, fun e9 => ?_⟩
      have := hx9 _ e9
      subst this
      rcases hl9 with h | h
      · exact h3 h
      · omega
  · rcases hkn i y hy with ⟨-, hy, e⟩ | ⟨-, rfl, e⟩
    · rw [e] at ha; exact hFK i y hy hn a ha
    · rw [e] at ha; exact hpA hn a ha

set_option maxRecDepth 100000 in
set_option maxHeartbeats 8000000 in
theorem add_far (A : Nat → Prop) (b : Nat) (l : List Tok) (u : Nat) (N : List Nd) (vn : Value) (x : Nd) (p : Option Addr) (c : Nat) (w : World) (hN : N.length ≤ 100000) (h : FarV w b l u N vn A) (hk : VAt w p (intsV x.kids)) (hkb : x.kids ≠ [] → ∀ a, p = some a → b < a.block ∧ vn.ownBlock ≠ some a.block) (hpA : x.kids ≠ [] → ∀ a, p = some a → A a.block) :
    Calls Tryz.prog 164 #[.pointer (some ⟨b, 0, none⟩), .agg #[.int .i64 x.kind, .int .i64 x.tok, .slice p x.kids.length c]] w (AddFar w b l u N x vn A) := by
  obtain ⟨pt, ct, K, h, hFK⟩ := h
  have HFK := Lib.hid hFK; have HPA := Lib.hid hpA; have H := Lib.hid h; have HK := Lib.hid hk; have HKB := Lib.hid hkb
  obtain ⟨pv, cv, e1, -, hcv, -⟩ := h.own.is
  rw [nds_len] at e1 hcv
  subst e1
  obtain ⟨B, hB⟩ : ∃ B, w.heap.size = B := ⟨_, rfl⟩
  have HBW := Lib.hid hB
  have hbB : b < B := by rw [← hB]; exact hlt' h.box
  have HOWN := Lib.hid h.own
  have HLE : Hid ((ndsV K N).length ≤ 1000000) := Lib.hid (by rw [nds_len]; omega)
  have HNL : Hid ((ndsV K N).length = N.length) := Lib.hid (nds_len K N)
  obtain ⟨m, hm⟩ : ∃ m, l.length = m := ⟨_, rfl⟩
  obtain ⟨M, hM⟩ : ∃ M, N.length = M := ⟨_, rfl⟩
  have HML := Lib.hid hM
  have HLL := Lib.hid hm
  obtain ⟨kl, hkl⟩ : ∃ kl, x.kids.length = kl := ⟨_, rfl⟩
  have HKL := Lib.hid hkl
  rw [hM] at HOWN
  obtain ⟨xk, hxk⟩ : ∃ xk, x.kind = xk := ⟨_, rfl⟩
  obtain ⟨xt, hxt⟩ : ∃ xt, x.tok = xt := ⟨_, rfl⟩
  have HXK := Lib.hid hxk; have HXT := Lib.hid hxt
  have hbox := h.box
  rw [hm, hM] at hbox
  rw [hxk, hxt, hkl]
  have hA := heap_alloc_new w (.cells #[.int .i64 xk, .int .i64 xt, .slice p kl c] 79)
  have hgA := World.grownBy_alloc w (.cells #[.int .i64 xk, .int .i64 xt, .slice p kl c] 79) none
  have hsA : (w.alloc (.cells #[.int .i64 xk, .int .i64 xt, .slice p kl c] 79)).heap.size = B + 1 := by simp [hB]
  obtain ⟨d0, d1, d2, d3⟩ := cells3' (bx hgA hbox)
  have HBX := Lib.hid hbox
  rw [hB] at hA
  obtain ⟨a0, a1, a2, a3⟩ := cells3' hA
  clear hFK hpA hbox hm hM hkl hxk hxt h hk hkb hcv
  go_enter Tryz.func164, Tryz.ntmps164
  go_wp2_with fail
  try rw [hB]
  generalize (w.alloc (.cells #[.int .i64 xk, .int .i64 xt, .slice p kl c] 79)) = W at *
  have HOW := Lib.hid (OwnG.kept HOWN.out hgA)
  have HGA := Lib.hid hgA
  have hnew := heap_alloc_new W (.cells #[.int .i64 xk, .int .i64 xt, .slice p kl c] 79)
  rw [hsA] at hnew
  have HNEW := Lib.hid hnew
  have HBX2 := Lib.hid (bx (World.grownBy_alloc W (.cells #[.int .i64 xk, .int .i64 xt, .slice p kl c] 79) none) (bx hgA HBX.out))
  have hoa : ∀ k, (Value.slice pv M cv).ownBlock = some k → b + 1 ≤ k ∧ k < B + 1 := fun k e => by
    obtain ⟨h1, h2⟩ := OwnG.at HOW.out k e
    omega
  have HOA := Lib.hid hoa
  clear hA hgA hB hnew hoa
  go_region_law (refine step_appGl (s := 3) (t := 24) (T := 79) (by decide) Tryz.underlying24 infoTN rfl (by omega) rfl _ _ rfl (b + 1) (ndsV K N) [.int .i64 xk, .int .i64 xt, .slice p kl c] rfl (fun u hu => by simp at hu; rcases hu with rfl | rfl | rfl <;> rfl) (.slice pv M cv) rfl (OwnG.kept HOW.out (by repeat (first | with_reducible exact gb_refl _ _ | with_reducible refine gb_drew ?_ | with_reducible refine gb_alloc ?_ _))) (B + 1) _ rfl (by exact HNEW.out) rfl HLE.out (by simp; omega) (B + 2) (by simp; omega) ?_; intro g9 cap9 w9 hO9 hg9 hl9; have hb9 := (hg9.block b (by simp; omega) (fun e => by have := (HOA.out b e.symm).1; omega)).trans HBX2.out; obtain ⟨f0, f1, f2, f3⟩ := cells3' hb9; have HB9 := Lib.hid hb9; have HO9 := Lib.hid hO9; have HG9 := Lib.hid hg9; have HL9 := Lib.hid hl9; clear hO9 hg9 hl9 hb9)
  all_goals
    rw [HNL.out, HML.out] at HO9 ⊢
    have HF9 : Hid (Fr2 (Turn b (.slice pv M cv)) w w9) := Lib.hid (Fr2.trans (b := (W.alloc (.cells #[.int .i64 xk, .int .i64 xt, .slice p kl c] 79)).drew) (Fr2.none (gb_trans HGA.out (gb_drew (gb_alloc (gb_refl _ _) _)))) (Fr2.of (S := Turn b (.slice pv M cv)) HG9.out (fun k e => Or.inr e)))
    have HF10 := Lib.hid (HF9.out.setCell (g := b) (j := 2) (.inl rfl) (.slice (some ⟨g9, 0, none⟩) (M + 1) cap9))
    have HB10 := Lib.hid (show (w9.setCell ⟨b, 2, none⟩ (.slice (some ⟨g9, 0, none⟩) (M + 1) cap9)).heap[b]? = some (.cells #[.slice pt m ct, .int .i64 (u : Int), .slice (some ⟨g9, 0, none⟩) (M + 1) cap9] 222 (0, 0)) from set_cells (i := 2) HB9.out)
    have HO10 := Lib.hid (OwnG.keptF HO9.out (Fr2.setCell (S := fun k => k = b) (Fr2.refl _ w9) (g := b) (j := 2) rfl (.slice (some ⟨g9, 0, none⟩) (M + 1) cap9)) (fun k e => by have := (OwnG.at HO9.out k e).1; omega))
    obtain ⟨W5, hW5⟩ : ∃ W5, (w9.setCell ⟨b, 2, none⟩ (.slice (some ⟨g9, 0, none⟩) (M + 1) cap9)) = W5 := ⟨_, rfl⟩
    rw [hW5] at HF10 HB10 HO10 ⊢
    clear HF9 HB9 HO9 hW5 d0 d1 d2 d3 f0 f1 f2 f3 a0 a1 a2 a3 HG9
    obtain ⟨f0, f1, f2, f3⟩ := cells3' HB10.out
    have hw1 : IntKind.i64.wrap (M : Int) = (M : Int) := IntWalk.i64_in _ (by have := HML.out; omega)
    have hw2 : IntKind.i64.wrap (((M + 1 : Nat) : Int) - 1) = (M : Int) := by rw [show (((M + 1 : Nat) : Int) - 1) = (M : Int) by omega]; exact hw1
    go_wp2_with fail
    go_ret
    refine ⟨by rw [HML.out]; rfl, _, Bld.addF H.out (by rw [HML.out]; exact HF10.out) (by rw [HLL.out]; exact HB10.out) (by rw [HXK.out, HXT.out, HKL.out]; exact HO10.out) HK.out HKB.out (by rw [HML.out, HBW.out]; exact HL9.out.imp id (fun h => by omega)) HFK.out HPA.out, by rw [HML.out]; exact HF10.out, fun k e => ?_⟩
    have h1 : g9 = k := by simpa [Value.ownBlock] using e
    subst h1
    rw [HML.out, HBW.out]
    exact HL9.out.imp id (fun h => by omega)
set_option maxRecDepth 100000 in
set_option maxHeartbeats 8000000 in
theorem Leaf_far (A : Nat → Prop) (b : Nat) (l : List Tok) (u : Nat) (N : List Nd) (vn : Value) (w : World) (hl : l.length ≤ 100000) (hu : u < l.length) (hN : N.length ≤ 100000) (h : FarV w b l u N vn A) :
    Calls Tryz.prog 208 #[.pointer (some ⟨b, 0, none⟩)] w (AddFar w b l (u + 1) N ⟨19, (u : Int), []⟩ vn A) := by
  obtain ⟨pt, ct, K, h, hFK⟩ := h
  have hbox := h.box
  have HADD := Lib.hid (fun W (h : FarV W b l (u + 1) N vn A) => add_far A b l (u + 1) N vn ⟨19, (u : Int), []⟩ none 0 W hN h (.inl rfl) (fun h => absurd rfl h) (fun h => absurd rfl h))
  obtain ⟨pv, cv, e1, -, -, -⟩ := h.own.is
  have HH := Lib.hid h
  obtain ⟨m, hm⟩ : ∃ m, l.length = m := ⟨_, rfl⟩
  rw [hm] at hbox hu hl
  have HP : Hid (∀ W e w', Fr2 (Turn b vn) w W → AddFar W b l (u + 1) N ⟨19, (u : Int), []⟩ vn A e w' → AddFar w b l (u + 1) N ⟨19, (u : Int), []⟩ vn A e w') := Lib.hid (fun _ _ _ h1 h2 => h2.after h1)
  have HF : Hid (∀ W, w.grownBy W none → Fr2 (Turn b vn) w (W.setCell ⟨b, 1, none⟩ (.int .i64 ((u + 1 : Nat) : Int))) ∧ FarV (W.setCell ⟨b, 1, none⟩ (.int .i64 ((u + 1 : Nat) : Int))) b l (u + 1) N vn A) := Lib.hid (fun W hg => ⟨(Fr2.none hg).setCell (g := b) (j := 1) (.inl rfl) _, pt, ct, K, (HH.out.kept hg).setUsed (u + 1), hFK⟩)
  obtain ⟨d0, d1, d2, d3⟩ := cells3' hbox
  have e1 : ((u : Int) == (m : Int)) = false := beq_eq_false_iff_ne.2 (by omega)
  have e2 : (u == m) = false := beq_eq_false_iff_ne.2 (by omega)
  have hw1 : IntKind.i64.wrap ((u : Int) + 1) = ((u + 1 : Nat) : Int) := by rw [IntWalk.i64_in _ (by omega)]; omega
  have hw2 : IntKind.i64.wrap (((u + 1 : Nat) : Int) - 1) = (u : Int) := by rw [IntWalk.i64_in _ (by omega)]; omega
  generalize AddFar w b l (u + 1) N ⟨19, (u : Int), []⟩ vn A = Q at HP
  obtain ⟨u1, hu1⟩ : ∃ u1, u + 1 = u1 := ⟨_, rfl⟩
  rw [hu1] at hw1 hw2 HF HADD HP
  clear hbox hm h hu1
  go_enter Tryz.func208, Tryz.ntmps208
  go_wp2_with fail
  go_quiet (fail)
  go_wp2_with fail
  obtain ⟨hf1, hb1⟩ := HF.out (w.drewN nq) (gb_drewN (gb_refl _ _) _)
  refine (HADD.out _ hb1).mono ?_
  rintro e w' hp
  have HP1 := Lib.hid (HP.out _ _ _ hf1 hp)
  obtain rfl := hp.1
  clear hp hf1 hb1 HP HF HADD
  go_wp2_with fail
  exact HP1.out

set_option maxRecDepth 100000 in
set_option maxHeartbeats 8000000 in
theorem Node_far (A : Nat → Prop) (b : Nat) (l : List Tok) (u : Nat) (N : List Nd) (vn : Value) (kind : Int) (kids : List Int) (q : Option Addr) (c : Nat) (w : World) (hN : N.length ≤ 100000) (hk : kids.length ≤ 100000) (h : FarV w b l u N vn A) (hA : ∀ k, w.heap.size ≤ k → A k) (hq : VAt w q (intsV kids)) (hok : okB N.length kids = true) :
    Calls Tryz.prog 104 #[.pointer (some ⟨b, 0, none⟩), .int .i64 kind, .slice q kids.length c] w (AddFar w b l u N ⟨kind, -1, kids⟩ vn A) := by
  obtain ⟨pt, ct, K, h, hFK⟩ := h
  have hbox := h.box
  have HH := Lib.hid h
  have HFK := Lib.hid hFK; have HFA := Lib.hid hA
  have HADD := Lib.hid (fun W p' c' (h : FarV W b l u N vn A) h1 h2 h3 => add_far A b l u N vn ⟨kind, -1, kids⟩ p' c' W hN h h1 h2 h3)
  have HE := Lib.hid (eachBelow_c N.length kids q c w (by omega) (by omega) hq)
  rw [hok] at HE
  have HON := Lib.hid (fun W h => ownNode_c kind (-1) kids q c W hk h)
  have HQ := Lib.hid hq
  have HTN := Lib.hid h.turn
  have hbl := hlt' h.box
  have HBL := Lib.hid hbl
  have HP : Hid (∀ W e w', Fr2 (Turn b vn) w W → AddFar W b l u N ⟨kind, -1, kids⟩ vn A e w' → AddFar w b l u N ⟨kind, -1, kids⟩ vn A e w') := Lib.hid (fun _ _ _ h1 h2 => h2.after h1)
  obtain ⟨pv, cv, e1, -, -, -⟩ := h.own.is
  rw [nds_len] at e1
  obtain ⟨m, hm⟩ : ∃ m, l.length = m := ⟨_, rfl⟩
  obtain ⟨M, hM⟩ : ∃ M, N.length = M := ⟨_, rfl⟩
  obtain ⟨kl, hkl⟩ : ∃ kl, kids.length = kl := ⟨_, rfl⟩
  have HM := Lib.hid hM; have HKL := Lib.hid hkl
  rw [hM] at e1
  rw [hm, e1] at hbox
  rw [hM, hkl] at HE
  rw [hkl] at HON
  rw [hkl]
  generalize AddFar w b l u N ⟨kind, -1, kids⟩ vn A = Q at HP
  obtain ⟨d0, d1, d2, d3⟩ := cells3' hbox
  clear hFK hA hbox hm h hM hkl hok hq hk hN e1 hbl
  go_enter Tryz.func104, Tryz.ntmps104
  go_wp2_with fail
  refine HE.out.mono ?_
  rintro e w1 ⟨rfl, hg⟩
  have HG := Lib.hid hg
  clear hg HE
  go_wp2_with fail
  refine (HON.out _ (HQ.out.kept HG.out)).mono ?_
  rintro e w2 ⟨hg2, p2, c2, rfl, hv2, -, hb2⟩
  have HG2 := Lib.hid (gb_trans HG.out hg2)
  have HV2 := Lib.hid hv2
  have HB2 := Lib.hid hb2
  have hgs := HG.out.size
  have HGS := Lib.hid hgs
  rw [HKL.out]
  clear hg2 hv2 hb2 hgs HON
  go_wp2_with fail
  have HA := Lib.hid (HADD.out w2 p2 c2 ⟨pt, ct, K, HH.out.kept HG2.out, HFK.out⟩ HV2.out (fun hne a ha => by
    obtain ⟨h1, -⟩ := HB2.out hne a ha
    have h2 := HGS.out
    have h3 := HBL.out
    refine ⟨by omega, fun e => ?_⟩
    have := (HTN.out _ e).2
    omega) (fun hne a ha => HFA.out _ (by
    have h1 := (HB2.out hne a ha).1
    have h2 := HGS.out
    omega)))
  rw [HKL.out] at HA
  refine HA.out.mono ?_
  rintro e w' hp
  have HP1 := Lib.hid (HP.out _ _ _ (Fr2.none HG2.out) hp)
  obtain rfl := hp.1
  clear hp HP HADD HA
  go_wp2_with fail
  exact HP1.out
end Go.Proofs.YtdilncefhfbgeaaGreatDoor
