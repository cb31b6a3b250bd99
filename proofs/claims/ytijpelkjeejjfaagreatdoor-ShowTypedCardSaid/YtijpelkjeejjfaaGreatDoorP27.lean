/- Lemmas. -/
import Derived.Test.YtijpelkjeejjfaaGreatDoorP16
import Derived.Test.YtijpelkjeejjfaaGreatDoorP25
set_option linter.unusedVariables false
set_option linter.unusedSimpArgs false
namespace Go.Proofs.YtijpelkjeejjfaaGreatDoor
open Go.RowKit

theorem pop_w {S F : Nat → Prop} {B b bb g n cap : Nat} {w : World} {R0 : List (List Value)} {q : List Value} {l : List Pc} {p : Pc} {out : List Value} (h : WrAt S B b w (R0 ++ [q])) (hp0 : PcsAt F w l R0) (hp1 : PcAt F w p q) (hF : ∀ k, F k → S k) (hbl : BldI bb out w) (c0 : w.cell? ⟨b, 0, none⟩ = some (.slice (some ⟨g, 0, none⟩) n cap)) :
    WrAt S B b ((w.setCell ⟨b, 0, none⟩ (.slice (some ⟨g, 0, none⟩) R0.length cap)).alloc (.cells q.toArray 94)) R0 ∧ PcsAt F ((w.setCell ⟨b, 0, none⟩ (.slice (some ⟨g, 0, none⟩) R0.length cap)).alloc (.cells q.toArray 94)) l R0 ∧ PcAt F ((w.setCell ⟨b, 0, none⟩ (.slice (some ⟨g, 0, none⟩) R0.length cap)).alloc (.cells q.toArray 94)) p q ∧ BldI bb out ((w.setCell ⟨b, 0, none⟩ (.slice (some ⟨g, 0, none⟩) R0.length cap)).alloc (.cells q.toArray 94)) ∧ Fr2 (fun k => ¬ S k) w ((w.setCell ⟨b, 0, none⟩ (.slice (some ⟨g, 0, none⟩) R0.length cap)).alloc (.cells q.toArray 94)) ∧ ((w.setCell ⟨b, 0, none⟩ (.slice (some ⟨g, 0, none⟩) R0.length cap)).alloc (.cells q.toArray 94)).heap[w.heap.size]? = some (.cells q.toArray 94 (0, 0)) ∧ b < w.heap.size := by
  obtain ⟨S2, hS2, hW2, hk⟩ := h.bld hbl
  have hbw : b < w.heap.size := by obtain ⟨v, hb, -⟩ := h; exact hlt hb
  obtain ⟨h3, hf3⟩ := hW2.pop c0
  have hga := World.grownBy_alloc (w.setCell ⟨b, 0, none⟩ (.slice (some ⟨g, 0, none⟩) R0.length cap)) (.cells q.toArray 94) none
  have hf : Fr2 (fun k => ¬ S2 k) w _ := hf3.trans (Fr2.none hga)
  have hf1 : Fr2 (fun k => ¬ S k) w _ := hf.mono (fun k e h => e (hS2 k h))
  have hsz : (w.setCell ⟨b, 0, none⟩ (.slice (some ⟨g, 0, none⟩) R0.length cap)).heap.size = w.heap.size := by simp
  refine ⟨(h3.kept hga).weak hS2, hp0.same hf1 (fun k hk e => e (hF k hk)), hp1.same hf1 (fun k hk e => e (hF k hk)), hk _ hf, hf1, ?_, hbw⟩
  rw [← hsz]
  exact heap_alloc_new _ _
/-- What the last row's cells are, and where they lie. -/
theorem WrAt.last {S : Nat → Prop} {B b g n cap : Nat} {w : World} {R0 : List (List Value)} {q : List Value} (h : WrAt S B b w (R0 ++ [q])) (c0 : w.cell? ⟨b, 0, none⟩ = some (.slice (some ⟨g, 0, none⟩) n cap)) :
    n = R0.length + 1 ∧ ∀ i v, q[i]? = some v → w.cell? ⟨g, R0.length * 3 + i, none⟩ = some v := by
  obtain ⟨v, hb, hO, hbB, hB, hSb, hSv, hSs⟩ := h
  rw [cell_of_row w b 0 _ _ (0, 0) hb] at c0
  have c0 : v = .slice (some ⟨g, 0, none⟩) n cap := Option.some.inj c0
  subst c0
  exact ⟨hO.popS.1, fun i v hi => hO.cellS (j := R0.length) (by simp) hi⟩
theorem ite_ne {α : Type} {c : Prop} [Decidable c] {a b : List α} (ha : a ≠ []) (hb : b ≠ []) : (if c then a else b) ≠ [] := by
  split
  · exact ha
  · exact hb
theorem openP_ne (x : Sx) (least : Nat) : openP x least ≠ [] := by
  cases x with
  | mk op nm md nu ys ks ps =>
    unfold openP
    refine ite_ne (by simp) ?_
    simp only [bareP]
    repeat' (first | exact List.cons_ne_nil _ _ | refine ite_ne ?_ ?_)
    simp
theorem wgP_pos (p : Pc) : 1 ≤ wgP p := by
  cases p with
  | bs s => exact Nat.le_refl _
  | ex x l => cases x with | mk op nm md nu ys ks ps => simp only [wgP, wgS]; omega
theorem len_wgPs : ∀ l : List Pc, l.length ≤ wgPs l
  | [] => Nat.le_refl _
  | p :: l => by
    have h1 := len_wgPs l
    have h2 := wgP_pos p
    rw [wgPs_cons, List.length_cons]; omega
theorem fit_wg {x : Sx} (h : fitS x) (least : Nat) : wgPs (openP x least) < wgS x := by
  cases x with
  | mk op nm md nu ys ks ps =>
    simp only [fitS] at h
    exact open_wg (x := .mk op nm md nu ys ks ps) least h.1.1 h.1.2.1 h.1.2.2.1
theorem fit_text {x : Sx} (h : fitS x) (least : Nat) : textPs (openP x least) = wrapS x least := by
  cases x with
  | mk op nm md nu ys ks ps =>
    simp only [fitS] at h
    exact open_text (x := .mk op nm md nu ys ks ps) least h.1.1 h.1.2.1 h.1.2.2.1

def prow (p : Pq) : List Value := [.pointer (some p.1), .int .i64 (p.2.2 : Int)]
theorem infoPl : (Tryz.prog.info? 141).map (fun i => (i.zero, i.size, i.bytes)) = some (some (.agg #[.pointer none, .int .i64 0]), 2, 16) := by kernel_rfl
theorem infoExS : (Tryz.prog.info? 31).map (fun i => (i.zero, i.size, i.bytes)) = some (some (.agg #[.int .i64 0, .string ⟨#[]⟩, .string ⟨#[]⟩, .bool false, .slice none 0 0, .bool false, .slice none 0 0, .int .i64 0]), 8, 112) := by kernel_rfl
/-- Pointers to expressions at unlike places are unlike. -/
theorem ptr_ne {w : World} {a b : Addr} (hne : a ≠ b) (ha : Flat w a.block) (hb : Flat w b.block) : (binOp .eql 72 (.pointer (some a)) (.pointer (some b))).run Tryz.prog w = .ok (.bool false) w := by
  obtain ⟨ca, ta, ha⟩ := ha
  obtain ⟨cb, tb, hb⟩ := hb
  obtain ⟨j, hj, hjs⟩ := Option.map_eq_some_iff.1 infoExS
  simp only [Prod.mk.injEq] at hjs
  exact run_eql_ptr_other w Tryz.underlying72 hj (by rw [hjs.2.1]; decide) hne ha hb
mutual
/-- Are an expression's names and numbers small enough to be looked at? -/
def okS : Sx → Prop
  | .mk _ nm md nu _ ks _ => (nm.length ≤ 60000 ∧ md.length ≤ 60000 ∧ nu.natAbs < Zd.Lim) ∧ okSs ks
def okSs : List Sx → Prop
  | [] => True
  | x :: l => okS x ∧ okSs l
end
theorem okSs_get : ∀ {l : List Sx} {j : Nat} {x : Sx}, okSs l → l[j]? = some x → okS x
  | [], j, x, _, h => by simp at h
  | y :: l, 0, x, hr, h => by simp at h; subst h; simp only [okSs] at hr; exact hr.1
  | y :: l, j + 1, x, hr, h => by simp only [okSs] at hr; exact okSs_get hr.2 (by simpa using h)
theorem len_sizSs : ∀ l : List Sx, l.length ≤ sizSs l
  | [] => Nat.le_refl _
  | x :: l => by have := len_sizSs l; have := sizS_pos x; simp only [List.length_cons, sizSs]; omega
theorem cstP_len : ∀ P : List Pq, P.length ≤ cstP P
  | [] => Nat.le_refl _
  | p :: P => by
    have := cstP_len P
    simp only [List.length_cons, cstP, List.map_cons, List.sum_cons, cst1] at *
    omega
theorem mayF_c (op : Int) (w : World) : Calls Tryz.prog 51 #[.int .i64 op] w (fun e w' => e = .returned (.bool (mayB true op)) ∧ w' = w) := by
  go_enter Tryz.func51, Tryz.ntmps51
  go_wp2
  go_ret
  exact ⟨rfl, rfl⟩
theorem mayG_c (op : Int) (w : World) : Calls Tryz.prog 52 #[.int .i64 op] w (fun e w' => e = .returned (.bool (mayB false op)) ∧ w' = w) := by
  have h : mayB false op = (op != 4) := by
    unfold mayB
    rw [if_neg (by simp)]
    by_cases h : op = 4
    · subst h; rfl
    · rw [decide_eq_true h]; simp [bne, h]
  rw [h]
  go_enter Tryz.func52, Tryz.ntmps52
  go_wp2
  go_ret
  exact ⟨rfl, rfl⟩

mutual
theorem RSt.bound {F : Nat → Prop} {w : World} : ∀ {x : Sx} {q : List Value}, RSt F w x q → RSt (fun k => F k ∧ k < w.heap.size) w x q
  | .mk op nm md nu ys ks ps, q, h => by
    simp only [RSt] at h ⊢
    obtain ⟨pk, ck, rows, h1, h3, h4, h5⟩ := h
    refine ⟨pk, ck, rows, h1, h3, LsU.bound h4, fun h0 => ?_⟩
    obtain ⟨a, ha, h6⟩ := h5 h0
    have hr := h4.len
    rcases h3 with e | ⟨g, off, e, hg, -⟩
    · rw [e] at hr; exact absurd (List.eq_nil_of_length_eq_zero hr.symm) h0
    · rw [ha] at e; injection e with e; subst e; exact ⟨_, ha, h6, hg⟩
theorem LsU.bound {F : Nat → Prop} {w : World} : ∀ {l : List Sx} {r : List (List Value)}, LsU F w l r → LsU (fun k => F k ∧ k < w.heap.size) w l r
  | [], r, h => by simp only [LsU] at h ⊢; exact h
  | x :: l, r, h => by
    simp only [LsU] at h ⊢
    obtain ⟨q, r', h1, h2, h3⟩ := h
    exact ⟨q, r', h1, RSt.bound h2, LsU.bound h3⟩
end
theorem RSt.seven {F : Nat → Prop} {w : World} {x : Sx} {q : List Value} (h : RSt F w x q) : ∃ a0 a1 a2 a3 a4 a5 a6, q = [a0, a1, a2, a3, a4, a5, a6] := by
  cases x with
  | mk op nm md nu ys ks ps =>
    simp only [RSt] at h
    obtain ⟨pk, ck, rows, rfl, -⟩ := h
    exact ⟨_, _, _, _, _, _, _, rfl⟩
theorem RSt.one {F : Nat → Prop} {w : World} {x : Sx} {q : List Value} (h : RSt F w x q) : q.length = 7 ∧ ∀ u ∈ q, u.oneCell' = true := by
  refine ⟨h.len, ?_⟩
  cases x with
  | mk op nm md nu ys ks ps =>
    simp only [RSt] at h
    obtain ⟨pk, ck, rows, rfl, -⟩ := h
    intro u hu
    simp only [List.mem_cons, List.not_mem_nil, or_false] at hu
    rcases hu with rfl | rfl | rfl | rfl | rfl | rfl | rfl <;> rfl
def ExPostS (x : Sx) (w : World) (e : Ending) (w' : World) : Prop := w.grownBy w' none ∧ ∃ q, e = .returned (.agg q.toArray) ∧ RSt (fun k => w.heap.size ≤ k) w' x q
theorem set7u {W : World} {B : Nat} {T : TypeId} {x0 x1 x2 x3 x4 x5 x6 : Value} (h0 : W.heap[B]? = some (.cells #[x0, x1, x2, x3, x4, x5, x6] T (0, 0))) (a b c d e f g : Value) : (((((((W.setCell ⟨B, 0, none⟩ a).setCell ⟨B, 1, none⟩ b).setCell ⟨B, 2, none⟩ c).setCell ⟨B, 3, none⟩ d).setCell ⟨B, 4, none⟩ e).setCell ⟨B, 5, none⟩ f).setCell ⟨B, 6, none⟩ g).heap[B]? = some (.cells #[a, b, c, d, e, f, g] T (0, 0)) ∧ Fr2 (fun k => k = B) W (((((((W.setCell ⟨B, 0, none⟩ a).setCell ⟨B, 1, none⟩ b).setCell ⟨B, 2, none⟩ c).setCell ⟨B, 3, none⟩ d).setCell ⟨B, 4, none⟩ e).setCell ⟨B, 5, none⟩ f).setCell ⟨B, 6, none⟩ g) := by
  have h1 : (W.setCell ⟨B, 0, none⟩ a).heap[B]? = some (.cells #[a, x1, x2, x3, x4, x5, x6] T (0, 0)) := set_cells (i := 0) (u := a) h0
  have h2 : ((W.setCell ⟨B, 0, none⟩ a).setCell ⟨B, 1, none⟩ b).heap[B]? = some (.cells #[a, b, x2, x3, x4, x5, x6] T (0, 0)) := set_cells (i := 1) (u := b) h1
  have h3 : (((W.setCell ⟨B, 0, none⟩ a).setCell ⟨B, 1, none⟩ b).setCell ⟨B, 2, none⟩ c).heap[B]? = some (.cells #[a, b, c, x3, x4, x5, x6] T (0, 0)) := set_cells (i := 2) (u := c) h2
  have h4 : ((((W.setCell ⟨B, 0, none⟩ a).setCell ⟨B, 1, none⟩ b).setCell ⟨B, 2, none⟩ c).setCell ⟨B, 3, none⟩ d).heap[B]? = some (.cells #[a, b, c, d, x4, x5, x6] T (0, 0)) := set_cells (i := 3) (u := d) h3
  have h5 : (((((W.setCell ⟨B, 0, none⟩ a).setCell ⟨B, 1, none⟩ b).setCell ⟨B, 2, none⟩ c).setCell ⟨B, 3, none⟩ d).setCell ⟨B, 4, none⟩ e).heap[B]? = some (.cells #[a, b, c, d, e, x5, x6] T (0, 0)) := set_cells (i := 4) (u := e) h4
  have h6 : ((((((W.setCell ⟨B, 0, none⟩ a).setCell ⟨B, 1, none⟩ b).setCell ⟨B, 2, none⟩ c).setCell ⟨B, 3, none⟩ d).setCell ⟨B, 4, none⟩ e).setCell ⟨B, 5, none⟩ f).heap[B]? = some (.cells #[a, b, c, d, e, f, x6] T (0, 0)) := set_cells (i := 5) (u := f) h5
  have hs : (fun k => k = B) B := rfl
  exact ⟨set_cells (i := 6) (u := g) h6, ((((((((Fr2.refl (fun k => k = B) W).setCell hs a).setCell hs b).setCell hs c).setCell hs d).setCell hs e).setCell hs f).setCell hs g)⟩
theorem cells7u {w : World} {r : Nat} {a b c d e f g : Value} {T : TypeId} (h0 : w.heap[r]? = some (.cells #[a, b, c, d, e, f, g] T (0, 0))) : w.cell? ⟨r, 0, none⟩ = some a ∧ w.cell? ⟨r, 1, none⟩ = some b ∧ w.cell? ⟨r, 2, none⟩ = some c ∧ w.cell? ⟨r, 3, none⟩ = some d ∧ w.cell? ⟨r, 4, none⟩ = some e ∧ w.cell? ⟨r, 5, none⟩ = some f ∧ w.cell? ⟨r, 6, none⟩ = some g ∧ ∀ o, w.frozen? ⟨r, o, none⟩ = false :=
  ⟨by rw [cell_of_row w r 0 _ T (0, 0) h0]; rfl, by rw [cell_of_row w r 1 _ T (0, 0) h0]; rfl, by rw [cell_of_row w r 2 _ T (0, 0) h0]; rfl, by rw [cell_of_row w r 3 _ T (0, 0) h0]; rfl, by rw [cell_of_row w r 4 _ T (0, 0) h0]; rfl, by rw [cell_of_row w r 5 _ T (0, 0) h0]; rfl, by rw [cell_of_row w r 6 _ T (0, 0) h0]; rfl, fun o => by simp [World.frozen?, h0]⟩
theorem infoRU : (Tryz.prog.info? 34).map (fun i => (i.zero, i.size, i.bytes)) = some (some (.agg #[.int .i64 0, .string ⟨#[]⟩, .string ⟨#[]⟩, .string ⟨#[]⟩, .bool false, .slice none 0 0, .int .i64 0]), 7, 96) := by kernel_rfl
theorem fr_after {S : Nat → Prop} {w a b : World} (h : w.grownBy a none) (k : Fr2 S a b) (hS : ∀ i, S i → w.heap.size ≤ i) : w.grownBy b none :=
  below_gb ⟨k.os.trans h.os, k.tape.trans h.tape, k.output.trans h.output, Nat.le_trans h.size k.size, fun i hi => (k.block i (Nat.lt_of_lt_of_le hi h.size) (fun hs => by have := hS i hs; omega)).trans (h.block i hi (by simp))⟩
/-- Seven cells stored where the result lies. -/
theorem exu_put {w w4 : World} {b1 : Nat} {T : TypeId} {x0 x1 x2 x3 x4 x5 x6 a b c d e f g : Value} {F : Nat → Prop} {x : Sx} (hgw : w.grownBy w4 none) (hb : w.heap.size ≤ b1) (hB : w4.heap[b1]? = some (.cells #[x0, x1, x2, x3, x4, x5, x6] T (0, 0))) (hX : RSt F w4 x [a, b, c, d, e, f, g]) (hF : ∀ k, F k → w.heap.size ≤ k ∧ k ≠ b1) :
    ExPostS x w (.returned (.agg #[a, b, c, d, e, f, g])) (((((((w4.setCell ⟨b1, 0, none⟩ a).setCell ⟨b1, 1, none⟩ b).setCell ⟨b1, 2, none⟩ c).setCell ⟨b1, 3, none⟩ d).setCell ⟨b1, 4, none⟩ e).setCell ⟨b1, 5, none⟩ f).setCell ⟨b1, 6, none⟩ g) := by
  obtain ⟨hp, hf⟩ := set7u hB a b c d e f g
  refine ⟨fr_after hgw hf (fun j hj => by have e : j = b1 := hj; omega), [a, b, c, d, e, f, g], rfl, ?_⟩
  exact RSt.mono (fun k hk => (hF k hk).1) (RSt.same hf (fun k hk e => (hF k hk).2 e) hX)
def EBoxU (W : World) (v0 v1 v2 v3 v4 v5 v6 : Value) (t3 : Value) (wx : World) : Prop := ∃ b2, t3 = .pointer (some ⟨b2, 0, none⟩) ∧ wx.heap[b2]? = some (.cells #[v0, v1, v2, v3, v4, v5, v6] 34 (0, 0)) ∧ W.heap.size ≤ b2 ∧ W.grownBy wx none
theorem ebox_new {W w2 : World} {v0 v1 v2 v3 v4 v5 v6 : Value} (h : W.grownBy w2 none) : EBoxU W v0 v1 v2 v3 v4 v5 v6 (.pointer (some ⟨w2.heap.size, 0, none⟩)) (w2.alloc (.cells #[v0, v1, v2, v3, v4, v5, v6] 34)) :=
  ⟨w2.heap.size, rfl, heap_alloc_new w2 _, h.size, gb_alloc h _⟩
theorem ebox_old {W w2 : World} {b : Nat} {v0 v1 v2 v3 v4 v5 v6 x0 x1 x2 x3 x4 x5 x6 : Value} (h : W.grownBy w2 none) (hb : W.heap.size ≤ b) (hB : w2.heap[b]? = some (.cells #[x0, x1, x2, x3, x4, x5, x6] 34 (0, 0))) : EBoxU W v0 v1 v2 v3 v4 v5 v6 (.pointer (some ⟨b, 0, none⟩)) (((((((w2.setCell ⟨b, 0, none⟩ v0).setCell ⟨b, 1, none⟩ v1).setCell ⟨b, 2, none⟩ v2).setCell ⟨b, 3, none⟩ v3).setCell ⟨b, 4, none⟩ v4).setCell ⟨b, 5, none⟩ v5).setCell ⟨b, 6, none⟩ v6) := by
  obtain ⟨hp, hf⟩ := set7u hB v0 v1 v2 v3 v4 v5 v6
  exact ⟨b, rfl, hp, hb, fr_after h hf (fun j hj => by have e : j = b := hj; omega)⟩
theorem OwnG.rowsU {s n c : Nat} {T : TypeId} {w : World} {base : Nat} {p : Option Addr} {l : List (List Value)} (h : OwnG s T w base (.slice p n c) l) : n = l.length ∧ GAt s w p l ∧ (l ≠ [] → ∃ a, p = some a ∧ base ≤ a.block ∧ a.block < w.heap.size) := by
  obtain ⟨p', c', e, h1, h2, h3, h4⟩ := h.is
  injection e with e1 e2 e3
  subst e1
  refine ⟨e2, h1, fun h0 => ?_⟩
  have hl := List.length_pos_iff.2 h0
  obtain ⟨a, ha, hb, hc⟩ := OwnG.lt h rfl (by omega)
  exact ⟨a, ha, hb, hc⟩
/-- A kid more in a row. -/
theorem push_u {wr w7 wa w9 W9 : World} {B b2 base nv cv g9 n9 cap9 : Nat} {pv : Option Addr} {rows : List (List Value)} {q : List Value} {ks : List Sx} {x : Sx} {u : Value} (hw : B ≤ wr.heap.size) (hO : OwnG 7 34 wr base (.slice pv nv cv) rows) (hb2 : b2 < base) (hb2r : b2 < wr.heap.size)
    (hLS : LsU (fun k => B ≤ k ∧ k < wr.heap.size ∧ k ≠ b2 ∧ (Value.slice pv nv cv).ownBlock ≠ some k) wr ks rows) (hg7 : wr.grownBy w7 none) (hq : RSt (fun k => wr.heap.size ≤ k) w7 x q) (hga : w7.grownBy wa none) (hsa : wa.heap.size = w7.heap.size + 1)
    (hg9 : wa.grownBy w9 (Value.slice pv nv cv).ownBlock) (hl9 : (Value.slice pv nv cv).ownBlock = some g9 ∨ g9 = w7.heap.size + 1) (hf : (w9.setCell ⟨b2, 5, none⟩ u).grownBy W9 none) :
    LsU (fun k => B ≤ k ∧ k < W9.heap.size ∧ k ≠ b2 ∧ (Value.slice (some ⟨g9, 0, none⟩) n9 cap9).ownBlock ≠ some k) W9 (ks ++ [x]) (rows ++ [q]) := by
  have hat := OwnG.at hO
  have s7 := hg7.size
  have s9 := hg9.size
  have sf := hf.size
  have sc : (w9.setCell ⟨b2, 5, none⟩ u).heap.size = w9.heap.size := by simp [World.setCell]
  have fr : Fr2 (fun k => (Value.slice pv nv cv).ownBlock = some k ∨ k = b2) w7 W9 :=
    ((Fr2.none hga).trans ((Fr2.of hg9 (fun k e => .inl e)).trans ((Fr2.setCell (Fr2.refl _ _) (.inr rfl) u).trans (Fr2.none hf))))
  have hne : ∀ k, k < w7.heap.size → (Value.slice pv nv cv).ownBlock ≠ some k → (Value.slice (some ⟨g9, 0, none⟩) n9 cap9).ownBlock ≠ some k := fun k hk h1 e => by
    have e : g9 = k := Option.some.inj (show some g9 = some k from e)
    rcases hl9 with h | h
    · exact h1 (by rw [h, e])
    · omega
  have hno : ∀ k, wr.heap.size ≤ k → (Value.slice pv nv cv).ownBlock ≠ some k := fun k hk e => by have := hat _ e; omega
  refine LsU.snoc ?_ ?_
  · have h1 := RSt.same fr (fun k (hk : wr.heap.size ≤ k ∧ k < w7.heap.size) => fun e => by
      rcases e with e | e
      · exact hno k hk.1 e
      · omega) hq.bound
    exact RSt.mono (fun k hk => ⟨by omega, by omega, by omega, hne k hk.2 (hno k hk.1)⟩) h1
  · have h1 := LsU.same fr (fun k (hk : B ≤ k ∧ k < wr.heap.size ∧ k ≠ b2 ∧ (Value.slice pv nv cv).ownBlock ≠ some k) => fun e => by
      rcases e with e | e
      · exact hk.2.2.2 e
      · exact hk.2.2.1 e) (hLS.kept hg7)
    exact LsU.mono (fun k hk => ⟨hk.1, by omega, hk.2.2.1, hne k (by omega) hk.2.2.2⟩) h1

theorem ret_bp {p : Prop} {w w' : World} {b : Bool} (hg : w.grownBy w' none) (h : b = true ↔ p) : BoolOf p w (.returned (.bool b)) w' := ⟨hg, b, rfl, h⟩
theorem first_eq {α : Type} {l l' : List α} {m : Nat} (h1 : l.length = m) (h2 : l'.length = m) (h : ∀ i, i < m → l[i]? = l'[i]?) : l = l' := by
  refine List.ext_getElem? fun i => ?_
  rcases Nat.lt_or_ge i m with hi | hi
  · exact h i hi
  · rw [List.getElem?_eq_none (by omega), List.getElem?_eq_none (by omega)]
theorem bytes_ne {a b : List UInt8} (h : a ≠ b) : ((⟨a.toArray⟩ : ByteArray).toList == (⟨b.toArray⟩ : ByteArray).toList) = false := by
  rw [toList_data, toList_data]; exact beq_eq_false_iff_ne.2 h
theorem bytes_eq {a b : List UInt8} (h : a = b) : ((⟨a.toArray⟩ : ByteArray).toList == (⟨b.toArray⟩ : ByteArray).toList) = true := by rw [h]; exact beq_self_eq_true _

set_option maxRecDepth 100000 in
set_option maxHeartbeats 8000000 in
theorem eqToksI_c (T T' : List TokI) (hT : T.length ≤ 150000) (hT' : T'.length ≤ 150000) (p p' : Option Addr) (c c' : Nat) (w : World) (h : ToksAt w p T) (h' : ToksAt w p' T') :
    Calls Tryz.prog 101 #[.slice p T.length c, .slice p' T'.length c'] w (BoolOf (T = T') w) := by
  have HA := Lib.hid h; have HB := Lib.hid h'
  obtain ⟨m, hm⟩ : ∃ m, T.length = m := ⟨_, rfl⟩
  obtain ⟨m', hm'⟩ : ∃ m', T'.length = m' := ⟨_, rfl⟩
  have HM := Lib.hid hm; have HM' := Lib.hid hm'
  rw [hm] at hT ⊢
  rw [hm'] at hT' ⊢
  clear h h' hm hm'
  by_cases hmm : m = m'
  · subst hmm
    go_enter Tryz.func101, Tryz.ntmps101
    go_wp2_with fail
    go_loopw [13] (fun iv wr => ∃ j : Nat, j ≤ m ∧ iv = .int .i64 (j : Int) ∧ Hid (w.grownBy wr none) ∧ Hid (∀ i, i < j → T[i]? = T'[i]?)) (fun iv _ => m - (intOf iv).toNat)
    case atStart => exact ⟨0, Nat.zero_le _, rfl, gb_refl _ _, Lib.hid (fun i hi => by omega)⟩
    case round =>
      obtain ⟨j, hj, rfl, HG, HE⟩ := hrel
      by_cases hlt : j < m
      · obtain ⟨t, ht⟩ : ∃ t, T[j]? = some t := ⟨T[j]'(by rw [HM.out]; exact hlt), List.getElem?_eq_getElem _⟩
        obtain ⟨u, hu⟩ : ∃ u, T'[j]? = some u := ⟨T'[j]'(by rw [HM'.out]; exact hlt), List.getElem?_eq_getElem _⟩
        obtain ⟨g, off, rfl, hgl, t0, t1, t2, t3⟩ := tok_at (HA.out.kept HG.out) ht
        obtain ⟨g', off', rfl, hgl', u0, u1, u2, u3⟩ := tok_at (HB.out.kept HG.out) hu
        have y1 : (0 : Int) ≤ (j : Int) := by omega
        have y2 : (j : Int) < (m : Int) := by omega
        have y3 : decide (j < m) = true := decide_eq_true hlt
        have y4 : decide ((j : Int) < (m : Int)) = true := decide_eq_true y2
        have HTU : Hid (T[j]? = some t ∧ T'[j]? = some u) := Lib.hid ⟨ht, hu⟩
        have HNE : Hid (t ≠ u → ¬ T = T') := Lib.hid (fun hne e => by rw [e, hu] at ht; injection ht with ht; exact hne ht.symm)
        have HEQ : Hid (t = u → ∀ i, i < j + 1 → T[i]? = T'[i]?) := Lib.hid (fun e i hi => by
          rcases Nat.lt_or_ge i j with h1 | h1
          · exact HE.out i h1
          · obtain rfl : i = j := by omega
            rw [ht, hu, e])
        clear ht hu
        obtain ⟨tk, tl, tx, tp⟩ := t
        obtain ⟨uk, ul, ux, up⟩ := u
        unfold strV at t1 t2 u1 u2
        simp only at t0 t1 t2 t3 u0 u1 u2 u3
        by_cases k0 : tk = uk
        · have q0 : (tk == uk) = true := beq_iff_eq.2 k0
          by_cases k1 : tl = ul
          · have q1 := bytes_eq k1
            by_cases k2 : tx = ux
            · have q2 := bytes_eq k2
              by_cases k3 : tp = up
              · have q3 : (tp == up) = true := beq_iff_eq.2 k3
                have HJ := Lib.hid (HEQ.out (by rw [k0, k1, k2, k3]))
                clear k0 k1 k2 k3
                generalize (⟨tl.toArray⟩ : ByteArray) = le at *
                generalize (⟨tx.toArray⟩ : ByteArray) = te at *
                generalize (⟨ul.toArray⟩ : ByteArray) = le' at *
                generalize (⟨ux.toArray⟩ : ByteArray) = te' at *
                go_wp2_with fail
                go_quiet (fail)
                go_wp2_with fail
                go_roundw
                case rel => exact ⟨j + 1, by omega, by go_num, Lib.hid (gb_drewN HG.out _), HJ⟩
                case measure => simp [intOf]; omega
              · have q3 : (tp == up) = false := beq_eq_false_iff_ne.2 k3
                have HJ := Lib.hid (HNE.out (fun e => by injection e; contradiction))
                clear k0 k1 k2 k3
                generalize (⟨tl.toArray⟩ : ByteArray) = le at *
                generalize (⟨tx.toArray⟩ : ByteArray) = te at *
                generalize (⟨ul.toArray⟩ : ByteArray) = le' at *
                generalize (⟨ux.toArray⟩ : ByteArray) = te' at *
                go_wp2_with fail
                go_quiet (fail)
                go_wp2_with fail
                go_ret
                exact ret_false (gb_drewN HG.out _) HJ.out
            · have q2 := bytes_ne k2
              have HJ := Lib.hid (HNE.out (fun e => by injection e; contradiction))
              clear k0 k1 k2
              generalize (⟨tl.toArray⟩ : ByteArray) = le at *
              generalize (⟨tx.toArray⟩ : ByteArray) = te at *
              generalize (⟨ul.toArray⟩ : ByteArray) = le' at *
              generalize (⟨ux.toArray⟩ : ByteArray) = te' at *
              go_wp2_with fail
              go_quiet (fail)
              go_wp2_with fail
              go_ret
              exact ret_false (gb_drewN HG.out _) HJ.out
          · have q1 := bytes_ne k1
            have HJ := Lib.hid (HNE.out (fun e => by injection e; contradiction))
            clear k0 k1
            generalize (⟨tl.toArray⟩ : ByteArray) = le at *
            generalize (⟨tx.toArray⟩ : ByteArray) = te at *
            generalize (⟨ul.toArray⟩ : ByteArray) = le' at *
            generalize (⟨ux.toArray⟩ : ByteArray) = te' at *
            go_wp2_with fail
            go_quiet (fail)
            go_wp2_with fail
            go_ret
            exact ret_false (gb_drewN HG.out _) HJ.out
        · have q0 : (tk == uk) = false := beq_eq_false_iff_ne.2 k0
          have HJ := Lib.hid (HNE.out (fun e => by injection e; contradiction))
          clear k0
          generalize (⟨tl.toArray⟩ : ByteArray) = le at *
          generalize (⟨tx.toArray⟩ : ByteArray) = te at *
          generalize (⟨ul.toArray⟩ : ByteArray) = le' at *
          generalize (⟨ux.toArray⟩ : ByteArray) = te' at *
          go_wp2_with fail
          go_quiet (fail)
          go_wp2_with fail
          go_ret
          exact ret_false (gb_drewN HG.out _) HJ.out
      · obtain rfl : j = m := by omega
        go_wp2_with fail
        go_ret
        exact ret_bp HG.out ⟨fun _ => first_eq HM.out HM'.out HE.out, fun _ => rfl⟩
  · have d1 : ((m : Int) != (m' : Int)) = true := bne_iff_ne.2 (by omega)
    have d2 : (m != m') = true := bne_iff_ne.2 hmm
    have d3 : ((m : Int) == (m' : Int)) = false := beq_eq_false_iff_ne.2 (by omega)
    have d4 : (m == m') = false := beq_eq_false_iff_ne.2 hmm
    have HJ : Hid (¬ T = T') := Lib.hid (fun e => hmm (by rw [← HM.out, ← HM'.out, e]))
    clear hmm
    go_enter Tryz.func101, Tryz.ntmps101
    go_wp2_with fail
    go_ret
    exact ret_false (gb_refl _ _) HJ.out

set_option maxRecDepth 100000 in
set_option maxHeartbeats 8000000 in
theorem eqIntsI_c (l l' : List Int) (hl : l.length ≤ 150000) (hl' : l'.length ≤ 150000) (p p' : Option Addr) (c c' : Nat) (w : World) (h : VAt w p (intsV l)) (h' : VAt w p' (intsV l')) :
    Calls Tryz.prog 134 #[.slice p l.length c, .slice p' l'.length c'] w (BoolOf (l = l') w) := by
  have HA := Lib.hid h; have HB := Lib.hid h'
  obtain ⟨m, hm⟩ : ∃ m, l.length = m := ⟨_, rfl⟩
  obtain ⟨m', hm'⟩ : ∃ m', l'.length = m' := ⟨_, rfl⟩
  have HM := Lib.hid hm; have HM' := Lib.hid hm'
  rw [hm] at hl ⊢
  rw [hm'] at hl' ⊢
  clear h h' hm hm'
  by_cases hmm : m = m'
  · subst hmm
    go_enter Tryz.func134, Tryz.ntmps134
    go_wp2_with fail
    go_loopw [13] (fun iv wr => ∃ j : Nat, j ≤ m ∧ iv = .int .i64 (j : Int) ∧ Hid (w.grownBy wr none) ∧ Hid (∀ i, i < j → l[i]? = l'[i]?)) (fun iv _ => m - (intOf iv).toNat)
    case atStart => exact ⟨0, Nat.zero_le _, rfl, gb_refl _ _, Lib.hid (fun i hi => by omega)⟩
    case round =>
      obtain ⟨j, hj, rfl, HG, HE⟩ := hrel
      by_cases hlt : j < m
      · obtain ⟨x, hx⟩ : ∃ x, l[j]? = some x := ⟨l[j]'(by rw [HM.out]; exact hlt), List.getElem?_eq_getElem _⟩
        obtain ⟨y, hy⟩ : ∃ y, l'[j]? = some y := ⟨l'[j]'(by rw [HM'.out]; exact hlt), List.getElem?_eq_getElem _⟩
        obtain ⟨g, off, rfl, hgl, t0⟩ := kid_at (HA.out.kept HG.out) hx
        obtain ⟨g', off', rfl, hgl', u0⟩ := kid_at (HB.out.kept HG.out) hy
        have y1 : (0 : Int) ≤ (j : Int) := by omega
        have y2 : (j : Int) < (m : Int) := by omega
        have y3 : decide (j < m) = true := decide_eq_true hlt
        have y4 : decide ((j : Int) < (m : Int)) = true := decide_eq_true y2
        by_cases k0 : x = y
        · have q0 : (x == y) = true := beq_iff_eq.2 k0
          have q1 : (x != y) = false := by rw [bne, q0]; rfl
          have HJ : Hid (∀ i, i < j + 1 → l[i]? = l'[i]?) := Lib.hid (fun i hi => by
            rcases Nat.lt_or_ge i j with h1 | h1
            · exact HE.out i h1
            · obtain rfl : i = j := by omega
              rw [hx, hy, k0])
          clear k0 hx hy
          go_wp2_with fail
          go_quiet (fail)
          go_wp2_with fail
          go_roundw
          case rel => exact ⟨j + 1, by omega, by go_num, Lib.hid (gb_drewN HG.out _), HJ⟩
          case measure => simp [intOf]; omega
        · have q0 : (x == y) = false := beq_eq_false_iff_ne.2 k0
          have q1 : (x != y) = true := bne_iff_ne.2 k0
          have HJ : Hid (¬ l = l') := Lib.hid (fun e => by rw [e, hy] at hx; injection hx with hx; exact k0 hx.symm)
          clear k0 hx hy
          go_wp2_with fail
          go_quiet (fail)
          go_wp2_with fail
          go_ret
          exact ret_false (gb_drewN HG.out _) HJ.out
      · obtain rfl : j = m := by omega
        go_wp2_with fail
        go_ret
        exact ret_bp HG.out ⟨fun _ => first_eq HM.out HM'.out HE.out, fun _ => rfl⟩
  · have d1 : ((m : Int) != (m' : Int)) = true := bne_iff_ne.2 (by omega)
    have d2 : (m != m') = true := bne_iff_ne.2 hmm
    have d3 : ((m : Int) == (m' : Int)) = false := beq_eq_false_iff_ne.2 (by omega)
    have d4 : (m == m') = false := beq_eq_false_iff_ne.2 hmm
    have HJ : Hid (¬ l = l') := Lib.hid (fun e => hmm (by rw [← HM.out, ← HM'.out, e]))
    clear hmm
    go_enter Tryz.func134, Tryz.ntmps134
    go_wp2_with fail
    go_ret
    exact ret_false (gb_refl _ _) HJ.out

set_option maxRecDepth 100000 in
set_option maxHeartbeats 8000000 in
theorem sameNodeI_c (k t k' t' : Int) (l l' : List Int) (hl : l.length ≤ 150000) (hl' : l'.length ≤ 150000) (p p' : Option Addr) (c c' : Nat) (w : World) (h : VAt w p (intsV l)) (h' : VAt w p' (intsV l')) :
    Calls Tryz.prog 103 #[.agg #[.int .i64 k, .int .i64 t, .slice p l.length c], .agg #[.int .i64 k', .int .i64 t', .slice p' l'.length c']] w (BoolOf (k = k' ∧ t = t' ∧ l = l') w) := by
  have HE := Lib.hid (fun W h1 h2 => eqIntsI_c l l' hl hl' p p' c c' W h1 h2)
  have HA := Lib.hid h; have HB := Lib.hid h'
  generalize l.length = m at *
  generalize l'.length = m' at *
  clear h h' hl hl'
  by_cases k0 : k = k'
  · have q0 : (k == k') = true := beq_iff_eq.2 k0
    by_cases k1 : t = t'
    · have q1 : (t == t') = true := beq_iff_eq.2 k1
      have HK : Hid (k = k' ∧ t = t') := Lib.hid ⟨k0, k1⟩
      clear k0 k1
      go_enter Tryz.func103, Tryz.ntmps103
      go_wp2_with fail
      refine (HE.out _ (HA.out.kept (gb_alloc (gb_alloc (gb_refl _ _) _) _)) (HB.out.kept (gb_alloc (gb_alloc (gb_refl _ _) _) _))).mono ?_
      rintro e w1 ⟨hg1, b, rfl, hb⟩
      have HG1 := Lib.hid (gb_trans (gb_alloc (gb_alloc (gb_refl w _) _) _) hg1)
      have HBB := Lib.hid hb
      clear hg1 HE hb
      go_wp2_with fail
      go_ret
      exact ret_bp HG1.out ⟨fun h => ⟨HK.out.1, HK.out.2, HBB.out.1 h⟩, fun h => HBB.out.2 h.2.2⟩
    · have q1 : (t == t') = false := beq_eq_false_iff_ne.2 k1
      have HK : Hid (¬ (k = k' ∧ t = t' ∧ l = l')) := Lib.hid (fun h => k1 h.2.1)
      clear k0 k1
      go_enter Tryz.func103, Tryz.ntmps103
      go_wp2_with fail
      go_ret
      exact ret_false (gb_alloc (gb_alloc (gb_refl _ _) _) _) HK.out
  · have q0 : (k == k') = false := beq_eq_false_iff_ne.2 k0
    have HK : Hid (¬ (k = k' ∧ t = t' ∧ l = l')) := Lib.hid (fun h => k0 h.1)
    clear k0
    go_enter Tryz.func103, Tryz.ntmps103
    go_wp2_with fail
    go_ret
    exact ret_false (gb_alloc (gb_alloc (gb_refl _ _) _) _) HK.out

theorem nd_eq {x y : Nd} (h : x.kind = y.kind ∧ x.tok = y.tok ∧ x.kids = y.kids) : x = y := by
  obtain ⟨a, b, c⟩ := x; obtain ⟨a', b', c'⟩ := y
  simp only at h
  obtain ⟨rfl, rfl, rfl⟩ := h; rfl

set_option maxRecDepth 100000 in
set_option maxHeartbeats 16000000 in
theorem eqNodesI_c (N N' : List Nd) (K K' : Kf) (hN : N.length ≤ 150000) (hN' : N'.length ≤ 150000) (hk : ∀ (i : Nat) (x : Nd), N[i]? = some x → x.kids.length ≤ 150000) (hk' : ∀ (i : Nat) (x : Nd), N'[i]? = some x → x.kids.length ≤ 150000) (p p' : Option Addr) (c c' : Nat) (w : World) (h : NodesAt w p N K) (h' : NodesAt w p' N' K') :
    Calls Tryz.prog 102 #[.slice p N.length c, .slice p' N'.length c', .func (.func 103) #[] #[]] w (BoolOf (N = N') w) := by
  have HA := Lib.hid h; have HB := Lib.hid h'; have HK := Lib.hid hk; have HK' := Lib.hid hk'
  obtain ⟨m, hm⟩ : ∃ m, N.length = m := ⟨_, rfl⟩
  obtain ⟨m', hm'⟩ : ∃ m', N'.length = m' := ⟨_, rfl⟩
  have HM := Lib.hid hm; have HM' := Lib.hid hm'
  rw [hm] at hN ⊢
  rw [hm'] at hN' ⊢
  clear h h' hm hm' hk hk'
  by_cases hmm : m = m'
  · subst hmm
    go_enter Tryz.func102, Tryz.ntmps102
    go_wp2_with fail
    go_loopw [17] (fun iv wr => ∃ j : Nat, j ≤ m ∧ iv = .int .i64 (j : Int) ∧ Hid (w.grownBy wr none) ∧ Hid (∀ i, i < j → N[i]? = N'[i]?)) (fun iv _ => m - (intOf iv).toNat)
    case atStart => exact ⟨0, Nat.zero_le _, rfl, gb_refl _ _, Lib.hid (fun i hi => by omega)⟩
    case round =>
      obtain ⟨j, hj, rfl, HG, HE⟩ := hrel
      by_cases hlt : j < m
      · obtain ⟨x, hx⟩ : ∃ x, N[j]? = some x := ⟨N[j]'(by rw [HM.out]; exact hlt), List.getElem?_eq_getElem _⟩
        obtain ⟨y, hy⟩ : ∃ y, N'[j]? = some y := ⟨N'[j]'(by rw [HM'.out]; exact hlt), List.getElem?_eq_getElem _⟩
        have HAr := Lib.hid (HA.out.kept HG.out); have HBr := Lib.hid (HB.out.kept HG.out)
        obtain ⟨g, off, rfl, hgl, t0, t1, t2⟩ := node_at HAr.out hx
        obtain ⟨g', off', rfl, hgl', u0, u1, u2⟩ := node_at HBr.out hy
        have y1 : (0 : Int) ≤ (j : Int) := by omega
        have y2 : (j : Int) < (m : Int) := by omega
        have y3 : decide (j < m) = true := decide_eq_true hlt
        have y4 : decide ((j : Int) < (m : Int)) = true := decide_eq_true y2
        have HS := Lib.hid (fun W h1 h2 => sameNodeI_c x.kind x.tok y.kind y.tok x.kids y.kids (HK.out j x hx) (HK'.out j y hy) (K j).1 (K' j).1 (K j).2 (K' j).2 W h1 h2)
        have HV := Lib.hid (HAr.out.2 j x hx); have HV' := Lib.hid (HBr.out.2 j y hy)
        obtain ⟨P, hP⟩ : ∃ P : Prop, (x.kind = y.kind ∧ x.tok = y.tok ∧ x.kids = y.kids) = P := ⟨_, rfl⟩
        have HNE : Hid (¬ P → ¬ N = N') := Lib.hid (fun hne e => hne (by rw [e, hy] at hx; injection hx with hx; rw [← hP, hx]; exact ⟨rfl, rfl, rfl⟩))
        have HEQ : Hid (P → ∀ i, i < j + 1 → N[i]? = N'[i]?) := Lib.hid (fun e i hi => by
          rcases Nat.lt_or_ge i j with h1 | h1
          · exact HE.out i h1
          · obtain rfl : i = j := by omega
            rw [hx, hy, nd_eq (x := x) (y := y) (by rw [hP]; exact e)])
        rw [hP] at HS
        clear hx hy hP
        generalize (K j).1 = pk at *
        generalize (K j).2 = ck at *
        generalize (K' j).1 = pk' at *
        generalize (K' j).2 = ck' at *
        generalize x.kids.length = kl at *
        generalize y.kids.length = kl' at *
        generalize x.kind = xk at *
        generalize x.tok = xt at *
        generalize y.kind = yk at *
        generalize y.tok = yt at *
        have v0 := (World.grownBy_alloc wr (.cells #[.int .i64 xk, .int .i64 xt, .slice pk kl ck] 139) none).cell u0 (by simp)
        have v1 := (World.grownBy_alloc wr (.cells #[.int .i64 xk, .int .i64 xt, .slice pk kl ck] 139) none).cell u1 (by simp)
        have v2 := (World.grownBy_alloc wr (.cells #[.int .i64 xk, .int .i64 xt, .slice pk kl ck] 139) none).cell u2 (by simp)
        go_wp2_with fail
        refine (HS.out _ (HV.out.kept (gb_alloc (gb_alloc (gb_refl _ _) _) _)) (HV'.out.kept (gb_alloc (gb_alloc (gb_refl _ _) _) _))).mono ?_
        rintro e w1 ⟨hg1, b, rfl, hb⟩
        have HG1 := Lib.hid (gb_trans HG.out (gb_trans (gb_alloc (gb_alloc (gb_refl wr _) _) _) hg1))
        have HBB := Lib.hid hb
        clear hg1 HS hb
        cases b
        · go_wp2_with fail
          go_ret
          exact ret_false HG1.out (HNE.out (fun h => by have := HBB.out.2 h; cases this))
        · go_wp2_with fail
          go_roundw
          case rel => exact ⟨j + 1, by omega, by go_num, HG1, Lib.hid (HEQ.out (HBB.out.1 (by simp)))⟩
          case measure => simp [intOf]; omega
      · obtain rfl : j = m := by omega
        go_wp2_with fail
        go_ret
        exact ret_bp HG.out ⟨fun _ => first_eq HM.out HM'.out HE.out, fun _ => rfl⟩
  · have d1 : ((m : Int) != (m' : Int)) = true := bne_iff_ne.2 (by omega)
    have d2 : (m != m') = true := bne_iff_ne.2 hmm
    have d3 : ((m : Int) == (m' : Int)) = false := beq_eq_false_iff_ne.2 (by omega)
    have d4 : (m == m') = false := beq_eq_false_iff_ne.2 hmm
    have HJ : Hid (¬ N = N') := Lib.hid (fun e => hmm (by rw [← HM.out, ← HM'.out, e]))
    clear hmm
    go_enter Tryz.func102, Tryz.ntmps102
    go_wp2_with fail
    go_ret
    exact ret_false (gb_refl _ _) HJ.out

set_option maxRecDepth 100000 in
set_option maxHeartbeats 8000000 in
theorem sameTreeI_c (T T' : List TokI) (N N' : List Nd) (K K' : Kf) (hT : T.length ≤ 150000) (hT' : T'.length ≤ 150000) (hN : N.length ≤ 150000) (hN' : N'.length ≤ 150000) (hk : ∀ (i : Nat) (x : Nd), N[i]? = some x → x.kids.length ≤ 150000) (hk' : ∀ (i : Nat) (x : Nd), N'[i]? = some x → x.kids.length ≤ 150000) (pt pt' pn pn' : Option Addr) (ct ct' cn cn' : Nat) (w : World) (ht : ToksAt w pt T) (ht' : ToksAt w pt' T') (h : NodesAt w pn N K) (h' : NodesAt w pn' N' K') :
    Calls Tryz.prog 72 #[.agg #[.slice pt T.length ct, .slice pn N.length cn], .agg #[.slice pt' T'.length ct', .slice pn' N'.length cn']] w (BoolOf (T = T' ∧ N = N') w) := by
  have HE := Lib.hid (fun W h1 h2 => eqToksI_c T T' hT hT' pt pt' ct ct' W h1 h2)
  have HF := Lib.hid (fun W h1 h2 => eqNodesI_c N N' K K' hN hN' hk hk' pn pn' cn cn' W h1 h2)
  have HA := Lib.hid ht; have HB := Lib.hid ht'; have HC := Lib.hid h; have HD := Lib.hid h'
  generalize T.length = m at *
  generalize N.length = M at *
  generalize T'.length = m' at *
  generalize N'.length = M' at *
  clear h h' ht ht' hk hk'
  have HGW : Hid (w.grownBy ((w.alloc (.cells #[.slice pt m ct, .slice pn M cn] 64)).alloc (.cells #[.slice pt' m' ct', .slice pn' M' cn'] 64)) none) := Lib.hid (gb_alloc (gb_alloc (gb_refl _ _) _) _)
  go_enter Tryz.func72, Tryz.ntmps72
  go_wp2_with fail
  refine (HE.out _ (HA.out.kept HGW.out) (HB.out.kept HGW.out)).mono ?_
  rintro e w1 ⟨hg1, b, rfl, hb⟩
  have HG1 := Lib.hid (gb_trans HGW.out hg1)
  obtain ⟨W0, b0, b1, hW, e0, e1, hB0, hB1, -, -⟩ := two w (.cells #[.slice pt m ct, .slice pn M cn] 64) (.cells #[.slice pt' m' ct', .slice pn' M' cn'] 64)
  rw [← hW] at hg1
  obtain ⟨a0, a1, a2⟩ := cells2 (bx hg1 hB0)
  obtain ⟨c0, c1, c2⟩ := cells2 (bx hg1 hB1)
  rw [← e0] at a0 a1 a2
  rw [← e1] at c0 c1 c2
  have HBB := Lib.hid hb
  clear hg1 HE hB0 hB1 hW e0 e1 hb
  cases b
  · go_wp2_with fail
    go_ret
    exact ret_false HG1.out (fun h => by have := HBB.out.2 h.1; cases this)
  · go_wp2_with fail
    refine (HF.out _ (HC.out.kept HG1.out) (HD.out.kept HG1.out)).mono ?_
    rintro e w2 ⟨hg2, b, rfl, hb⟩
    have HG2 := Lib.hid (gb_trans HG1.out hg2)
    have HB2 := Lib.hid hb
    clear hg2 HF hb
    go_wp2_with fail
    go_ret
    exact ret_bp HG2.out ⟨fun h => ⟨HBB.out.1 (by simp), HB2.out.1 h⟩, fun h => HB2.out.2 h.2⟩

def wholeI (l : List TokI) : List UInt8 := l.flatMap fun t => t.lead ++ t.text

theorem wholeI_append (l r : List TokI) : wholeI (l ++ r) = wholeI l ++ wholeI r := by unfold wholeI; rw [List.flatMap_append]
theorem wholeI_next {l : List TokI} {k : Nat} {t : TokI} (h : l[k]? = some t) : wholeI (l.take (k + 1)) = wholeI (l.take k) ++ t.lead ++ t.text := by
  rw [List.take_add_one, h, wholeI_append]; simp [wholeI]
theorem wholeI_take (l : List TokI) (k : Nat) : (wholeI (l.take k)).length ≤ (wholeI l).length := by
  have h1 : wholeI l = wholeI (l.take k) ++ wholeI (l.drop k) := by rw [← wholeI_append, List.take_append_drop]
  rw [h1, List.length_append]; omega

set_option maxRecDepth 100000 in
set_option maxHeartbeats 8000000 in
theorem WholeI_c (q : Option Addr) (c : Nat) (l : List TokI) (w : World) (hl : l.length ≤ 1000000) (hL : (wholeI l).length ≤ 1000000) (h : ToksAt w q l) : Calls Tryz.prog 100 #[.slice q l.length c] w (StrGb (wholeI l) w) := by
  obtain ⟨m, hm⟩ : ∃ m, l.length = m := ⟨_, rfl⟩
  have HM := Lib.hid hm; have HA := Lib.hid h; have HL := Lib.hid hL
  rw [hm] at hl ⊢
  clear hm h hL
  go_enter Tryz.func100, Tryz.ntmps100
  go_wp2_with fail
  have hbl := bld_new w w.heap.size (Nat.le_refl _)
  have hga := World.grownBy_alloc w (.cells #[.pointer none, .slice none 0 0] 91) none
  generalize (w.alloc (.cells #[.pointer none, .slice none 0 0] 91)) = W at *
  obtain ⟨b, hb⟩ : ∃ b, w.heap.size = b := ⟨_, rfl⟩
  have HBB := Lib.hid hb
  rw [hb] at hbl ⊢
  have HBL := Lib.hid hbl; have HGA := Lib.hid hga
  clear hbl hga hb
  go_loopw [8] (fun i wr => ∃ k : Nat, k ≤ m ∧ i = .int .i64 k ∧ Hid (Lib.IsBuilder 91 5 b b (Lib.byteCells (wholeI (l.take k))) wr) ∧ Hid (w.grownBy wr none)) (fun i _ => m - (intOf i).toNat)
  case atStart => exact ⟨0, Nat.zero_le _, rfl, HBL, HGA⟩
  case round =>
    clear HBL HGA
    obtain ⟨k, hk, rfl, HBL, HG⟩ := hrel
    by_cases hlt : k < m
    · have d1 : decide ((k : Int) < (m : Int)) = true := decide_eq_true (by omega)
      have d1' : decide (k < m) = true := decide_eq_true hlt
      obtain ⟨t, ht⟩ : ∃ t, l[k]? = some t := ⟨l[k]'(by rw [HM.out]; exact hlt), List.getElem?_eq_getElem _⟩
      obtain ⟨g, off, rfl, hgl, c0, c1, c2, c3⟩ := tok_at HA.out ht
      have c0 := HG.out.cell c0 (by simp)
      have c1 := HG.out.cell c1 (by simp)
      have c2 := HG.out.cell c2 (by simp)
      have c3 := HG.out.cell c3 (by simp)
      have hnx := wholeI_next ht
      have hle1 := wholeI_take l k
      have hle2 := wholeI_take l (k + 1)
      have hL := HL.out
      rw [hnx] at hle2
      simp only [List.length_append] at hle2
      obtain ⟨x, hx⟩ : ∃ x : ByteArray, (⟨t.lead.toArray⟩ : ByteArray) = x := ⟨_, rfl⟩
      obtain ⟨y, hy⟩ : ∃ y : ByteArray, (⟨t.text.toArray⟩ : ByteArray) = y := ⟨_, rfl⟩
      have hxl : x.data.toList = t.lead := by rw [← hx]
      have hyl : y.data.toList = t.text := by rw [← hy]
      have hxs : x.size = t.lead.length := by rw [← list_len, hxl]
      have hys : y.size = t.text.length := by rw [← list_len, hyl]
      unfold strV at c1 c2
      rw [hx] at c1
      rw [hy] at c2
      have HNX : Hid (Lib.byteCells (wholeI (l.take (k + 1))) = Lib.byteCells (wholeI (l.take k)) ++ Lib.strCells x ++ Lib.strCells y) := Lib.hid (by
        rw [hnx, Lib.byteCells_append, Lib.byteCells_append, ← strCells_mk t.lead, ← strCells_mk t.text, hx, hy])
      have HZ1 : Hid ((Lib.byteCells (wholeI (l.take k))).length + x.size ≤ 140737488355328) := Lib.hid (by rw [Lib.byteCells_length]; omega)
      have HZ2 : Hid ((Lib.byteCells (wholeI (l.take k)) ++ Lib.strCells x).length + y.size ≤ 140737488355328) := Lib.hid (by rw [List.length_append, Lib.byteCells_length, Lib.strCells_length]; omega)
      have HBX := Lib.hid (heap_alloc_new wr (.cells #[.int .i64 t.kind, .string x, .string y, .int .i64 t.pos] 128))
      have hga := World.grownBy_alloc wr (.cells #[.int .i64 t.kind, .string x, .string y, .int .i64 t.pos] 128) none
      have HB2 := Lib.hid (bld_kept HBL.out hga)
      have HG2 := Lib.hid (gb_trans HG.out hga)
      have HXS : Hid (b < wr.heap.size) := Lib.hid (by
        rcases HBL.out with h | h
        · exact h.lt
        · exact h.lt)
      obtain ⟨b0, b1, b2, b3, b4⟩ := cells4 HBX.out
      generalize t.kind = tk at *
      generalize t.pos = tp at *
      clear hgl ht hnx hle1 hle2 hL hx hy hxl hyl hxs hys hga HBL HG b4
      go_wp2_with fail
      refine (WriteString_c b b _ x _ HB2.out HZ1.out (by have := HG2.out.size; rw [HBB.out] at this; exact this)).mono ?_
      rintro e w2 ⟨rfl, ⟨hb2, hbe2⟩, hok2⟩
      have HB3 := Lib.hid hb2
      have hgg : w.grownBy w2 none := below_gb (Below.trans2 (gb_below HG2.out) (by rw [HBB.out]; exact hbe2))
      have HG3 := Lib.hid hgg
      have hbx2 := hok2 _ _ _ HBX.out (by decide) (by have := HXS.out; omega)
      obtain ⟨e0, e1, e2, e3, e4⟩ := cells4 hbx2
      clear hb2 hbe2 hok2 hgg hbx2 b0 b1 b2 b3 c0 c1 c2 c3 HB2 e4
      go_wp2_with fail
      refine (WriteString_c b b _ y _ (.inr HB3.out) HZ2.out (by have := HG3.out.size; rw [HBB.out] at this; exact this)).mono ?_
      rintro e w3 ⟨rfl, ⟨hb3, hbe3⟩, -⟩
      rw [← HNX.out] at hb3
      have HB4 : Hid (Lib.IsBuilder 91 5 b b (Lib.byteCells (wholeI (l.take (k + 1)))) w3) := Lib.hid (.inr hb3)
      have hgg : w.grownBy w3 none := below_gb (Below.trans2 (gb_below HG3.out) (by rw [HBB.out]; exact hbe3))
      have HG4 := Lib.hid hgg
      clear hb3 hbe3 hgg HB3 HG2 HG3 e0 e1 e2 e3
      go_wp2_with fail
      go_roundw
      case rel => exact ⟨k + 1, by omega, by go_num, HB4, HG4⟩
      case measure => (simp [intOf] <;> omega)
    · obtain rfl : k = m := by omega
      rw [List.take_of_length_le (by rw [HM.out]; exact Nat.le_refl _)] at HBL
      have HSTR := Lib.hid (Tryz.Builder_String_any_k b b _ wr (Lib.IsBuilderF.of HBL.out) (by have := HG.out.size; rw [HBB.out] at this; exact this))
      go_wp2_with fail
      refine HSTR.out.mono ?_
      rintro e w7 ⟨rfl, -, hbe7, -⟩
      have HG7 : Hid (w.grownBy w7 none) := Lib.hid (below_gb (Below.trans2 (gb_below HG.out) (by rw [HBB.out]; exact hbe7)))
      clear hbe7
      go_wp2_with fail
      go_ret
      exact ⟨⟨_, rfl, rfl⟩, HG7.out⟩
set_option maxRecDepth 100000 in
set_option maxHeartbeats 4000000 in
theorem ShowI_c (l : List TokI) (pt pn : Option Addr) (ct M cn : Nat) (w : World) (hl : l.length ≤ 1000000) (hL : (wholeI l).length ≤ 1000000) (h : ToksAt w pt l) :
    Calls Tryz.prog 71 #[.agg #[.slice pt l.length ct, .slice pn M cn]] w (StrGb (wholeI l) w) := by
  have HWH := Lib.hid (fun W (h : ToksAt W pt l) => WholeI_c pt ct l W hl hL h)
  have HT := Lib.hid h
  obtain ⟨m, hm⟩ : ∃ m, l.length = m := ⟨_, rfl⟩
  rw [hm] at HWH ⊢
  clear hm h hl hL
  go_enter Tryz.func71, Tryz.ntmps71
  go_wp2_with fail
  have hgA := World.grownBy_alloc w (.cells #[.slice pt m ct, .slice pn M cn] 64) none
  refine (HWH.out _ (HT.out.kept hgA)).mono ?_
  rintro e w1 ⟨⟨s, rfl, hs⟩, hg⟩
  have HS := Lib.hid hs
  have HG := Lib.hid (gb_trans hgA hg)
  clear hgA hg hs
  go_wp2_with fail
  go_ret
  exact ⟨⟨s, rfl, HS.out⟩, HG.out⟩
theorem wholeI_toI (l : List Tok) : wholeI (l.map toI) = wholeL l := by unfold wholeI wholeL; rw [List.flatMap_map]; rfl

/-- What a call that answers a list of places leaves. -/
def CLPost (b bb : Nat) (T : List Tok) (D n k : Nat) (A0 : Nat → Prop) (vn0 : Value) (w0 : World) (s : St) (r : RT) (N : List Nd) (L : List (Value × Th)) (e : Ending) (w' : World) : Prop :=
  ∃ (v : Value) (vs : List Int) (N' : List Nd) (vn' : Value), e = .returned v ∧ KX b bb T D n A0 vn0 w0 w' r.2 r.2.i N' vn' ((v, .ints vs) :: L) ∧ OutL k N s r N' vs ∧ (s.e ≠ 0 → r.2.e ≠ 0) ∧ vs.length ≤ 300
def boxV (g : Nat) : Value := .slice (some ⟨g, 0, none⟩) 1 1
def boxT (b : Nat) : Th := .box (.pointer (some ⟨b, 0, none⟩))
/-- What a closure over the parser does. -/
def SubF (b bb : Nat) (T : List Tok) (D n : Nat) (P : St → Prop) (f : Nat) (sub : St → RT) : Prop :=
  ∀ (A0 : Nat → Prop) (vn0 : Value) (w0 w : World) (s : St) (N : List Nd) (vn : Value) (L : List (Value × Th)) (g : Nat), P s → KX b bb T D n A0 vn0 w0 w s s.i N vn L → (boxV g, boxT b) ∈ L → Calls Tryz.prog f #[.pointer (some ⟨g, 0, none⟩)] w (CPost b bb T D n 0 A0 vn0 w0 s (sub s) N L)

section
variable {b bb : Nat} {T : List Tok} {D n : Nat} {A0 : Nat → Prop} {vn0 : Value} {w0 w w' : World} {s : St} {u : Nat} {N : List Nd} {vn : Value} {L : List (Value × Th)}
theorem KX.room (h : KX b bb T D n A0 vn0 w0 w s u N vn L) : N.length ≤ 2 * u := by
  obtain ⟨A, h1, -⟩ := h
  exact h1.few
theorem KX.boxc {g : Nat} {x : Value} (h : KX b bb T D n A0 vn0 w0 w s u N vn L) (hm : (boxV g, Th.box x) ∈ L) : w.cell? ⟨g, 0, none⟩ = some x := by
  obtain ⟨A, h1, h2, h3, -⟩ := h
  obtain ⟨g', e, hc⟩ := (h3 _ hm).1
  unfold boxV at e
  injection e with e1 e2 e3
  injection e1 with e1
  injection e1 with e1
  rw [e1]; exact hc
theorem vat1 (w : World) (x : Int) : VAt (w.alloc (.cells #[.int .i64 x] 3)) (some ⟨w.heap.size, 0, none⟩) (intsV [x]) := by
  refine .inr ⟨w.heap.size, 0, rfl, by simp, fun j v hj => ?_⟩
  rw [Nat.zero_add, cell_of_row _ _ j _ _ (0, 0) (heap_alloc_new w _)]
  simpa [intsV] using hj
end

section
variable (b bb : Nat) (T : List Tok) (D n : Nat)

set_option maxRecDepth 100000 in
set_option maxHeartbeats 8000000 in
theorem list_args (hC : TokC T) (sub : St → RT) (hS : SubF b bb T D n (fun s => s.inn = false) 172 sub) (hI : ∀ s, s.inn = false → (sub s).2.inn = false) {A0 : Nat → Prop} {vn0 : Value} {w0 w : World} {s : St} {N : List Nd} {vn : Value} {L : List (Value × Th)} {g : Nat} (hk : KX b bb T D n A0 vn0 w0 w s s.i N vn L) (hm : (boxV g, boxT b) ∈ L) (hi : s.inn = false) :
    Calls Tryz.prog 171 #[.pointer (some ⟨b, 0, none⟩), .func (.func 172) #[] #[.pointer (some ⟨g, 0, none⟩)]] w (CLPost b bb T D n 0 A0 vn0 w0 s (listP T sub s) N L) := by
  have HCC := Lib.hid hC; have HS := Lib.hid hS; have HI := Lib.hid hI; have HM := Lib.hid hm; have HIN := Lib.hid hi
  have HK := Lib.hid hk
  obtain ⟨R, hR⟩ : ∃ R, listP T sub s = R := ⟨_, rfl⟩
  have HRT : Hid (isQ T [41] s = true → R = ([], s)) := Lib.hid (fun h => by rw [← hR]; unfold listP; rw [if_pos h])
  have HRN : Hid (isQ T [41] s = false → loopP T sub 8 ([], s) = R) := Lib.hid (fun h => by rw [← hR]; unfold listP; rw [if_neg (by rw [h]; decide)])
  rw [hR]
  clear hC hS hI hm hk hi hR
  go_enter Tryz.func171, Tryz.ntmps171
  go_wp2_with fail
  refine (KX.at (ws := [[41]]) (HK.out.strs1 _ _) (List.mem_cons_self ..) (by decide)).mono ?_
  rintro e w1 ⟨rfl, hk⟩
  have HK := Lib.hid (hk.few (List.sublist_cons_self _ _))
  obtain ⟨a, ha⟩ : ∃ a, isQ T [41] s = a := ⟨_, rfl⟩
  rw [at_one HCC.out (by decide), ha]
  have HV := Lib.hid ha
  clear hk ha
  cases a
  · have HR := Lib.hid (HRN.out HV.out)
    go_wp2_with fail
    go_loopw [5, 9] (fun kv jv wr => ∃ (j : Nat) (r : RT) (N' : List Nd) (vn' : Value) (vs : List Int), j ≤ 8 ∧ jv = .int .i64 j ∧ Hid (KX b bb T D n A0 vn0 w0 wr r.2 r.2.i N' vn' ((kv, .ints vs) :: L)) ∧ Hid (OutL 0 N s r N' vs) ∧ Hid (loopP T sub (8 - j) r = R) ∧ Hid (vs.length ≤ 2 * j) ∧ Hid (s.e ≠ 0 → r.2.e ≠ 0) ∧ Hid (r.2.inn = false)) (fun _ jv _ => 8 - (intOf jv).toNat)
    case atStart => exact ⟨0, ([], s), N, vn, [], Nat.zero_le _, rfl, Lib.hid HK.out.nilS, Lib.hid (OutL.nil N s), HR, Lib.hid (Nat.le_refl _), Lib.hid (fun h => h), HIN⟩
    case round =>
      clear HK HR
      obtain ⟨j, r, N', vn', vs, hj, rfl, HK, HA, HR, HVS, HDD, HIN⟩ := hrel
      by_cases hlt : j < 8
      · have d1 : decide ((j : Int) < 8) = true := decide_eq_true (by omega)
        have d1' : decide (j < 8) = true := decide_eq_true hlt
        obtain ⟨m, hm⟩ : ∃ m, 8 - j = m + 1 := ⟨7 - j, by omega⟩
        have HMM := Lib.hid hm
        have HLP : Hid (loopP T sub (8 - j) r = if isQ T [44] (sub r.2).2 = true then loopP T sub m (r.1 ++ (sub r.2).1 ++ (leafT T (sub r.2).2).1, (leafT T (sub r.2).2).2) else (r.1 ++ (sub r.2).1, (sub r.2).2)) := Lib.hid (by rw [hm, loopP])
        rw [HLP.out] at HR
        clear hm HLP
        go_wp2_with fail
        refine (HS.out _ _ _ _ _ _ _ _ g HIN.out HK.out (List.mem_cons_of_mem _ HM.out)).mono ?_
        rintro e w2 ⟨v9, N9, vn9, rfl, hk9, ho9, hd9⟩
        have HK := Lib.hid hk9; have HA := Lib.hid (HA.out.app ho9.out hd9); have HDD := Lib.hid (fun h => hd9 (HDD.out h)); have HIN := Lib.hid (HI.out _ HIN.out)
        clear hk9 ho9 hd9
        go_wp2_with (at_builtin; go_loud (refine wpList_kx rfl _ _ rfl (HK.out.ints1 v9) (List.sublist_cons_self _ _) rfl rfl (l2 := [v9]) rfl (vat1 _ _) (by have := HVS.out; omega) (by simp) ?_))
        intro kv2 w3 hk3
        have HK := Lib.hid hk3; have HVS : Hid ((vs ++ [v9]).length ≤ 2 * j + 1) := Lib.hid (by have := HVS.out; rw [List.length_append]; show vs.length + 1 ≤ _; omega)
        clear hk3
        go_wp2_with fail
        refine (KX.at (ws := [[44]]) (HK.out.strs1 _ _) (List.mem_cons_self ..) (by decide)).mono ?_
        rintro e w4 ⟨rfl, hk⟩
        have HK := Lib.hid (hk.few (List.sublist_cons_self _ _))
        obtain ⟨a, ha⟩ : ∃ a, isQ T [44] (sub r.2).2 = a := ⟨_, rfl⟩
        rw [at_one HCC.out (by decide), ha]
        rw [ha] at HR
        have HV := Lib.hid ha
        clear hk ha
        cases a
        · rw [if_neg (by decide)] at HR
          go_wp2_with fail
          go_ret
          rw [← HR.out]
          exact ⟨_, _, _, _, rfl, HK.out, HA.out.weak (Nat.zero_le _), HDD.out, by have := HVS.out; omega⟩
        · rw [if_pos rfl] at HR
          have HLI := Lib.hid (is_kind HV.out)
          go_wp2_with fail
          refine (HK.out.take HCC.out HLI.out.1 HLI.out.2).mono ?_
          rintro e w5 ⟨v8, N8, vn8, rfl, hk8, ho8, hd8⟩
          have HK := Lib.hid hk8; have HA := Lib.hid (HA.out.app ho8.out hd8); have HDD := Lib.hid (fun h => hd8 (HDD.out h)); have HIN := Lib.hid ((leaf_keep T HLI.out.2).inn.trans HIN.out)
          clear hk8 ho8 hd8
          go_wp2_with (at_builtin; go_loud (refine wpList_kx rfl _ _ rfl (HK.out.ints1 v8) (List.sublist_cons_self _ _) rfl rfl (l2 := [v8]) rfl (vat1 _ _) (by have := HVS.out; omega) (by simp) ?_))
          intro kv3 w6 hk6
          have HK := Lib.hid hk6; have HVS : Hid ((vs ++ [v9, v8]).length ≤ 2 * (j + 1)) := Lib.hid (by have := HVS.out; rw [List.length_append] at this ⊢; simp only [List.length_cons, List.length_nil] at this ⊢; omega)
          clear hk6
          have HM1 : Hid (8 - (j + 1) = m) := Lib.hid (by have := HMM.out; omega)
          go_wp2_with fail
          go_roundw
          case rel => exact ⟨j + 1, (r.1 ++ (sub r.2).1 ++ (leafT T (sub r.2).2).1, (leafT T (sub r.2).2).2), N8, vn8, vs ++ [v9, v8], by omega, by go_num, HK, Lib.hid (by have h9 := HA.out.weak (Nat.zero_le _); rw [List.append_assoc vs] at h9; exact h9), Lib.hid (by rw [HM1.out]; exact HR.out), HVS, HDD, HIN⟩
          case measure => (simp [intOf] <;> omega)
      · obtain rfl : j = 8 := by omega
        have d1 : decide (((8 : Nat) : Int) < 8) = false := by decide
        have HRF : Hid (R = (r.1, failQ T 15 r.2)) := Lib.hid (by rw [← HR.out]; rfl)
        go_wp2_with fail
        refine (HK.out.fail 15 (by decide)).mono ?_
        rintro e w2 ⟨v9, N9, vn9, rfl, hk9, ho9, hd9⟩
        have HK := Lib.hid hk9; have HA := Lib.hid (HA.out.app ho9.out hd9); have HDD := Lib.hid (fun h => hd9 (HDD.out h))
        clear hk9 ho9 hd9
        go_wp2_with fail
        go_ret
        rw [HRF.out]
        exact ⟨_, _, _, _, rfl, HK.out, ⟨fun e => absurd e (fail_e T (by decide) _), HA.out.2⟩, HDD.out, by have := HVS.out; omega⟩
  · go_wp2_with fail
    go_ret
    rw [HRT.out HV.out]
    exact ⟨_, [], N, vn, rfl, HK.out.nilS, OutL.nil N s, fun h => h, by simp⟩

end
end Go.Proofs.YtijpelkjeejjfaaGreatDoor
namespace Go.Proofs.YtijpelkjeejjfaaGreatDoor

def baseT (base : Int) : List UInt8 := if base = 1 then [105, 110, 116] else [98, 111, 111, 108]
def clsT (x : Sx) : List UInt8 := [32, 123] ++ txS x ++ [125]
def tydT (base : Int) (l : List Sx) : List UInt8 := baseT base ++ l.flatMap clsT
def clsP (x : Sx) : List Pc := [.bs [32, 123], .ex x 0, .bs [125]]
/-- The pieces of a list of clauses: an empty one between (the writer puts "" there). -/
def clausesP : List Sx → List Pc
  | [] => []
  | [x] => clsP x
  | x :: l => clsP x ++ .bs [] :: clausesP l
def tydP (base : Int) (l : List Sx) : List Pc := .bs (baseT base) :: clausesP l
theorem clause_text (x : Sx) : textPs (clsP x) = clsT x := by simp [clsP, textPs, textP, wrapS, wrapT0, clsT]
theorem clauses_text : ∀ l : List Sx, textPs (clausesP l) = l.flatMap clsT
  | [] => rfl
  | [x] => by simp [clausesP, clause_text]
  | x :: y :: l => by
    have h := clauses_text (y :: l)
    have hc := clause_text x
    simp only [textPs] at h hc ⊢
    simp only [clausesP, List.flatMap_append, List.flatMap_cons, hc, h, textP]
    simp
theorem typed_text (base : Int) (l : List Sx) : textPs (tydP base l) = tydT base l := by
  have h := clauses_text l
  simp only [textPs] at h
  simp only [tydP, textPs, List.flatMap_cons, h, textP, tydT]
theorem clause_fit {x : Sx} (h : fitS x) : ∀ p ∈ clsP x, fitP p := by
  intro p hp
  simp only [clsP, List.mem_cons, List.not_mem_nil, or_false] at hp
  rcases hp with rfl | rfl | rfl
  · trivial
  · exact h
  · trivial
theorem clauses_fit : ∀ {l : List Sx}, (∀ x ∈ l, fitS x) → ∀ p ∈ clausesP l, fitP p
  | [], _, p, hp => by cases hp
  | [x], h, p, hp => clause_fit (h x List.mem_cons_self) p hp
  | x :: y :: l, h, p, hp => by
    simp only [clausesP] at hp
    rcases List.mem_append.1 hp with hp | hp
    · exact clause_fit (h x List.mem_cons_self) p hp
    · rcases List.mem_cons.1 hp with rfl | hp
      · trivial
      · exact clauses_fit (l := y :: l) (fun z hz => h z (List.mem_cons_of_mem _ hz)) p hp
theorem clause_wg (x : Sx) : wgPs (clsP x) = 2 + wgS x := by simp [clsP, wgPs, wgP]; omega
theorem clauses_wg : ∀ l : List Sx, wgPs (clausesP l) ≤ 1 + l.length + wgSs l
  | [] => by simp [clausesP, wgPs]
  | [x] => by simp only [clausesP, clause_wg, wgSs, List.length_cons, List.length_nil]; omega
  | x :: y :: l => by
    have := clauses_wg (y :: l)
    simp only [clausesP, wgPs_append, wgPs_cons, clause_wg, wgP, wgSs, List.length_cons] at this ⊢; omega
theorem typed_wg (base : Int) (l : List Sx) : wgPs (tydP base l) ≤ 2 + l.length + wgSs l := by
  have := clauses_wg l
  simp only [tydP, wgPs_cons, wgP]; omega
end Go.Proofs.YtijpelkjeejjfaaGreatDoor
