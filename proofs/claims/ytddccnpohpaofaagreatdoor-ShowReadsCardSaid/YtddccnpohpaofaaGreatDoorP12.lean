/- Lemmas. -/
import Derived.Test.YtddccnpohpaofaaGreatDoorP23
set_option linter.unusedVariables false
set_option linter.unusedSimpArgs false
namespace Go.Proofs.YtddccnpohpaofaaGreatDoor
open Go.RowKit

theorem put4c {W : World} {B : Nat} {T : TypeId} {x0 x1 x2 x3 : Value} (h0 : W.heap[B]? = some (.cells #[x0, x1, x2, x3] T (0, 0))) (a b c d : Value) : ((((W.setCell ⟨B, 0, none⟩ a).setCell ⟨B, 1, none⟩ b).setCell ⟨B, 2, none⟩ c).setCell ⟨B, 3, none⟩ d).heap[B]? = some (.cells #[a, b, c, d] T (0, 0)) ∧ Fr2 (Self B) W ((((W.setCell ⟨B, 0, none⟩ a).setCell ⟨B, 1, none⟩ b).setCell ⟨B, 2, none⟩ c).setCell ⟨B, 3, none⟩ d) := by
  have h1 : (W.setCell ⟨B, 0, none⟩ a).heap[B]? = some (.cells #[a, x1, x2, x3] T (0, 0)) := set_cells (i := 0) (u := a) h0
  have h2 : ((W.setCell ⟨B, 0, none⟩ a).setCell ⟨B, 1, none⟩ b).heap[B]? = some (.cells #[a, b, x2, x3] T (0, 0)) := set_cells (i := 1) (u := b) h1
  have h3 : (((W.setCell ⟨B, 0, none⟩ a).setCell ⟨B, 1, none⟩ b).setCell ⟨B, 2, none⟩ c).heap[B]? = some (.cells #[a, b, c, x3] T (0, 0)) := set_cells (i := 2) (u := c) h2
  have h4 : ((((W.setCell ⟨B, 0, none⟩ a).setCell ⟨B, 1, none⟩ b).setCell ⟨B, 2, none⟩ c).setCell ⟨B, 3, none⟩ d).heap[B]? = some (.cells #[a, b, c, d] T (0, 0)) := set_cells (i := 3) (u := d) h3
  exact ⟨h4, (Fr2.setCell (Fr2.setCell (Fr2.setCell (Fr2.setCell (Fr2.refl (Self B) W) (g := B) (j := 0) (mine B) a) (g := B) (j := 1) (mine B) b) (g := B) (j := 2) (mine B) c) (g := B) (j := 3) (mine B) d)⟩
theorem put8c {W : World} {B : Nat} {T : TypeId} {x0 x1 x2 x3 x4 x5 x6 x7 : Value} (h0 : W.heap[B]? = some (.cells #[x0, x1, x2, x3, x4, x5, x6, x7] T (0, 0))) (a b c d e f g h : Value) : ((((((((W.setCell ⟨B, 0, none⟩ a).setCell ⟨B, 1, none⟩ b).setCell ⟨B, 2, none⟩ c).setCell ⟨B, 3, none⟩ d).setCell ⟨B, 4, none⟩ e).setCell ⟨B, 5, none⟩ f).setCell ⟨B, 6, none⟩ g).setCell ⟨B, 7, none⟩ h).heap[B]? = some (.cells #[a, b, c, d, e, f, g, h] T (0, 0)) ∧ Fr2 (Self B) W ((((((((W.setCell ⟨B, 0, none⟩ a).setCell ⟨B, 1, none⟩ b).setCell ⟨B, 2, none⟩ c).setCell ⟨B, 3, none⟩ d).setCell ⟨B, 4, none⟩ e).setCell ⟨B, 5, none⟩ f).setCell ⟨B, 6, none⟩ g).setCell ⟨B, 7, none⟩ h) := by
  have h1 : (W.setCell ⟨B, 0, none⟩ a).heap[B]? = some (.cells #[a, x1, x2, x3, x4, x5, x6, x7] T (0, 0)) := set_cells (i := 0) (u := a) h0
  have h2 : ((W.setCell ⟨B, 0, none⟩ a).setCell ⟨B, 1, none⟩ b).heap[B]? = some (.cells #[a, b, x2, x3, x4, x5, x6, x7] T (0, 0)) := set_cells (i := 1) (u := b) h1
  have h3 : (((W.setCell ⟨B, 0, none⟩ a).setCell ⟨B, 1, none⟩ b).setCell ⟨B, 2, none⟩ c).heap[B]? = some (.cells #[a, b, c, x3, x4, x5, x6, x7] T (0, 0)) := set_cells (i := 2) (u := c) h2
  have h4 : ((((W.setCell ⟨B, 0, none⟩ a).setCell ⟨B, 1, none⟩ b).setCell ⟨B, 2, none⟩ c).setCell ⟨B, 3, none⟩ d).heap[B]? = some (.cells #[a, b, c, d, x4, x5, x6, x7] T (0, 0)) := set_cells (i := 3) (u := d) h3
  have h5 : (((((W.setCell ⟨B, 0, none⟩ a).setCell ⟨B, 1, none⟩ b).setCell ⟨B, 2, none⟩ c).setCell ⟨B, 3, none⟩ d).setCell ⟨B, 4, none⟩ e).heap[B]? = some (.cells #[a, b, c, d, e, x5, x6, x7] T (0, 0)) := set_cells (i := 4) (u := e) h4
  have h6 : ((((((W.setCell ⟨B, 0, none⟩ a).setCell ⟨B, 1, none⟩ b).setCell ⟨B, 2, none⟩ c).setCell ⟨B, 3, none⟩ d).setCell ⟨B, 4, none⟩ e).setCell ⟨B, 5, none⟩ f).heap[B]? = some (.cells #[a, b, c, d, e, f, x6, x7] T (0, 0)) := set_cells (i := 5) (u := f) h5
  have h7 : (((((((W.setCell ⟨B, 0, none⟩ a).setCell ⟨B, 1, none⟩ b).setCell ⟨B, 2, none⟩ c).setCell ⟨B, 3, none⟩ d).setCell ⟨B, 4, none⟩ e).setCell ⟨B, 5, none⟩ f).setCell ⟨B, 6, none⟩ g).heap[B]? = some (.cells #[a, b, c, d, e, f, g, x7] T (0, 0)) := set_cells (i := 6) (u := g) h6
  have h8 : ((((((((W.setCell ⟨B, 0, none⟩ a).setCell ⟨B, 1, none⟩ b).setCell ⟨B, 2, none⟩ c).setCell ⟨B, 3, none⟩ d).setCell ⟨B, 4, none⟩ e).setCell ⟨B, 5, none⟩ f).setCell ⟨B, 6, none⟩ g).setCell ⟨B, 7, none⟩ h).heap[B]? = some (.cells #[a, b, c, d, e, f, g, h] T (0, 0)) := set_cells (i := 7) (u := h) h7
  exact ⟨h8, (Fr2.setCell (Fr2.setCell (Fr2.setCell (Fr2.setCell (Fr2.setCell (Fr2.setCell (Fr2.setCell (Fr2.setCell (Fr2.refl (Self B) W) (g := B) (j := 0) (mine B) a) (g := B) (j := 1) (mine B) b) (g := B) (j := 2) (mine B) c) (g := B) (j := 3) (mine B) d) (g := B) (j := 4) (mine B) e) (g := B) (j := 5) (mine B) f) (g := B) (j := 6) (mine B) g) (g := B) (j := 7) (mine B) h)⟩
theorem cells8x {w : World} {r : Nat} {a b c d e f g h : Value} {T : TypeId} (h0 : w.heap[r]? = some (.cells #[a, b, c, d, e, f, g, h] T (0, 0))) : w.cell? ⟨r, 0, none⟩ = some a ∧ w.cell? ⟨r, 1, none⟩ = some b ∧ w.cell? ⟨r, 2, none⟩ = some c ∧ w.cell? ⟨r, 3, none⟩ = some d ∧ w.cell? ⟨r, 4, none⟩ = some e ∧ w.cell? ⟨r, 5, none⟩ = some f ∧ w.cell? ⟨r, 6, none⟩ = some g ∧ w.cell? ⟨r, 7, none⟩ = some h ∧ ∀ o, w.frozen? ⟨r, o, none⟩ = false :=
  ⟨by rw [cell_of_row w r 0 _ T (0, 0) h0]; rfl, by rw [cell_of_row w r 1 _ T (0, 0) h0]; rfl, by rw [cell_of_row w r 2 _ T (0, 0) h0]; rfl, by rw [cell_of_row w r 3 _ T (0, 0) h0]; rfl, by rw [cell_of_row w r 4 _ T (0, 0) h0]; rfl, by rw [cell_of_row w r 5 _ T (0, 0) h0]; rfl, by rw [cell_of_row w r 6 _ T (0, 0) h0]; rfl, by rw [cell_of_row w r 7 _ T (0, 0) h0]; rfl, fun o => by simp [World.frozen?, h0]⟩

set_option maxRecDepth 100000 in
set_option maxHeartbeats 4000000 in
theorem kind_r {N : List Nd} {K : Kf} (hN : N.length ≤ 150000) {n : Nat} {x : Nd} (hx : N[n]? = some x) (pt pn : Option Addr) (mt ct cn : Nat) (w : World) (h : NodesAt w pn N K) :
    Calls Tryz.prog 48 #[.agg #[.slice pt mt ct, .slice pn N.length cn], .int .i64 (n : Int)] w (ValPost (.int .i64 x.kind) w) := by
  obtain ⟨g, off, rfl, hgl, c0, c1, c2⟩ := node_at h hx
  have hn := (List.getElem?_eq_some_iff.1 hx).1
  obtain ⟨M, hM⟩ : ∃ M, N.length = M := ⟨_, rfl⟩
  rw [hM] at hN hn ⊢
  have x1 : (0 : Int) ≤ (n : Int) := by omega
  have x2 : (n : Int) < (M : Int) := by omega
  have x3 : decide (n < M) = true := decide_eq_true hn
  have x4 : decide ((n : Int) < (M : Int)) = true := decide_eq_true x2
  clear h hx hM
  go_enter Tryz.func48, Tryz.ntmps48
  go_wp2_with fail
  go_ret
  exact ⟨rfl, World.grownBy_alloc w _ none⟩

set_option maxRecDepth 100000 in
set_option maxHeartbeats 4000000 in
theorem kids_r {N : List Nd} {K : Kf} (hN : N.length ≤ 150000) {n : Nat} {x : Nd} (hx : N[n]? = some x) (pt pn : Option Addr) (mt ct cn : Nat) (w : World) (h : NodesAt w pn N K) :
    Calls Tryz.prog 21 #[.agg #[.slice pt mt ct, .slice pn N.length cn], .int .i64 (n : Int)] w (ValPost (.slice (K n).1 x.kids.length (K n).2) w) := by
  obtain ⟨g, off, rfl, hgl, c0, c1, c2⟩ := node_at h hx
  have hn := (List.getElem?_eq_some_iff.1 hx).1
  obtain ⟨M, hM⟩ : ∃ M, N.length = M := ⟨_, rfl⟩
  rw [hM] at hN hn ⊢
  have x1 : (0 : Int) ≤ (n : Int) := by omega
  have x2 : (n : Int) < (M : Int) := by omega
  have x3 : decide (n < M) = true := decide_eq_true hn
  have x4 : decide ((n : Int) < (M : Int)) = true := decide_eq_true x2
  generalize (K n).1 = pk at *
  generalize (K n).2 = ck at *
  clear h hx hM
  go_enter Tryz.func21, Tryz.ntmps21
  go_wp2_with fail
  go_ret
  exact ⟨rfl, World.grownBy_alloc w _ none⟩

/-- The four cells of a token in a slice. -/
theorem tok_cells {w : World} {p : Option Addr} {T : List Tok} (h : TAt w p T) {i : Nat} (hi : i < T.length) : ∃ g off, p = some ⟨g, off, none⟩ ∧ g < w.heap.size ∧ w.cell? ⟨g, off + i * 4, none⟩ = some (.int .i64 ((tkT T i).kind : Int)) ∧ w.cell? ⟨g, off + i * 4 + 1, none⟩ = some (strV (tkT T i).lead) ∧ w.cell? ⟨g, off + i * 4 + 2, none⟩ = some (strV (tkT T i).text) ∧ w.cell? ⟨g, off + i * 4 + 3, none⟩ = some (.int .i64 ((tkT T i).pos : Int)) := by
  have ht : T[i]? = some (tkT T i) := by unfold tkT; rw [List.getElem?_eq_getElem hi]; rfl
  obtain ⟨g, off, rfl, hl, hc⟩ := h.resolve_left (fun e => by rw [e] at hi; simp at hi)
  exact ⟨g, off, rfl, hl, hc i _ ht⟩
def tokVal (t : Tok) : Value := .agg #[.int .i64 (t.kind : Int), strV t.lead, strV t.text, .int .i64 (t.pos : Int)]

set_option maxRecDepth 100000 in
set_option maxHeartbeats 8000000 in
theorem token_r {T : List Tok} {N : List Nd} {K : Kf} (hT : T.length ≤ 150000) (hN : N.length ≤ 150000) {n i : Nat} (hx : N[n]? = some ⟨19, (i : Int), []⟩) (hi : i < T.length) (pt pn : Option Addr) (ct cn : Nat) (w : World) (ht : TAt w pt T) (h : NodesAt w pn N K) :
    Calls Tryz.prog 85 #[.agg #[.slice pt T.length ct, .slice pn N.length cn], .int .i64 (n : Int)] w (ValPost (tokVal (tkT T i)) w) := by
  obtain ⟨g, off, rfl, hgl, c0, c1, c2⟩ := node_at h hx
  obtain ⟨g2, off2, rfl, hgl2, t0, t1, t2, t3⟩ := tok_cells ht hi
  have hn := (List.getElem?_eq_some_iff.1 hx).1
  obtain ⟨M, hM⟩ : ∃ M, N.length = M := ⟨_, rfl⟩
  obtain ⟨m, hm⟩ : ∃ m, T.length = m := ⟨_, rfl⟩
  rw [hM] at hN hn ⊢
  rw [hm] at hT hi ⊢
  have x1 : (0 : Int) ≤ (n : Int) := by omega
  have x2 : (n : Int) < (M : Int) := by omega
  have x3 : decide (n < M) = true := decide_eq_true hn
  have x4 : decide ((n : Int) < (M : Int)) = true := decide_eq_true x2
  have y1 : (0 : Int) ≤ (i : Int) := by omega
  have y2 : (i : Int) < (m : Int) := by omega
  have y3 : decide (i < m) = true := decide_eq_true hi
  have y4 : decide ((i : Int) < (m : Int)) = true := decide_eq_true y2
  unfold tokVal
  unfold strV at t1 t2 ⊢
  generalize (⟨(tkT T i).lead.toArray⟩ : ByteArray) = le at *
  generalize (⟨(tkT T i).text.toArray⟩ : ByteArray) = te at *
  generalize (tkT T i).kind = k at *
  generalize (tkT T i).pos = p at *
  clear h hx hM ht hm c0 c2
  go_enter Tryz.func85, Tryz.ntmps85
  go_wp2_with fail
  have hA := heap_alloc_new w (.cells #[.slice (some ⟨g2, off2, none⟩) m ct, .slice (some ⟨g, off, none⟩) M cn] 66)
  have hgA := World.grownBy_alloc w (.cells #[.slice (some ⟨g2, off2, none⟩) m ct, .slice (some ⟨g, off, none⟩) M cn] 66) none
  have hsA : (w.alloc (.cells #[.slice (some ⟨g2, off2, none⟩) m ct, .slice (some ⟨g, off, none⟩) M cn] 66)).heap.size = w.heap.size + 1 := by simp
  generalize (w.alloc (.cells #[.slice (some ⟨g2, off2, none⟩) m ct, .slice (some ⟨g, off, none⟩) M cn] 66)) = W1 at *
  have hB := heap_alloc_new W1 (.cells #[.int .i64 0, .string ⟨#[]⟩, .string ⟨#[]⟩, .int .i64 0] 98)
  have hgB := World.grownBy_alloc W1 (.cells #[.int .i64 0, .string ⟨#[]⟩, .string ⟨#[]⟩, .int .i64 0] 98) none
  rw [hsA] at hB
  generalize (W1.alloc (.cells #[.int .i64 0, .string ⟨#[]⟩, .string ⟨#[]⟩, .int .i64 0] 98)) = W at *
  obtain ⟨b, hb⟩ : ∃ b, w.heap.size = b := ⟨_, rfl⟩
  have HBW := Lib.hid hb
  rw [hb] at hA hB ⊢
  obtain ⟨b1, hb1⟩ : ∃ x, b + 1 = x := ⟨_, rfl⟩
  rw [hb1] at hB ⊢
  have hlt : b < b1 := by omega
  have hA2 := bx hgB hA
  obtain ⟨a0, a1, a2⟩ := cells2 hA2
  have HG0 := Lib.hid (gb_trans hgA hgB)
  have c1 := HG0.out.cell c1 (by simp)
  have t0 := HG0.out.cell t0 (by simp)
  have t1 := HG0.out.cell t1 (by simp)
  have t2 := HG0.out.cell t2 (by simp)
  have t3 := HG0.out.cell t3 (by simp)
  have HB := Lib.hid hB
  obtain ⟨r0, r1, r2, r3, r4⟩ := cells4' hB
  clear hA hA2 hB hgA hgB hsA hb hb1
  go_region
  all_goals
    obtain ⟨hb5, hf5⟩ := put4c HB.out (.int .i64 (k : Int)) (.string le) (.string te) (.int .i64 (p : Int))
    have HF5 := Lib.hid hf5
    obtain ⟨k0, k1, k2, k3, -⟩ := cells4' hb5
    clear a0 a1 a2 r0 r1 r2 r3 r4 c1 t0 t1 t2 t3 HB hb5 hf5
    generalize ((((W.setCell ⟨b1, 0, none⟩ (.int .i64 (k : Int))).setCell ⟨b1, 1, none⟩ (.string le)).setCell ⟨b1, 2, none⟩ (.string te)).setCell ⟨b1, 3, none⟩ (.int .i64 (p : Int))) = W5 at *
    go_wp2_with fail
    refine bodyPost_ret (v := .agg #[.int .i64 (k : Int), .string le, .string te, .int .i64 (p : Int)]) (by simp [results, Tryz.results85, go_sem, k0, k1, k2, k3]) rfl ⟨rfl, Fr2.after HG0.out (fr2_drew HF5.out) (fun j hj => by have e : j = b1 := hj; rw [HBW.out]; omega)⟩

set_option maxRecDepth 100000 in
set_option maxHeartbeats 4000000 in
theorem unary_c (x : ByteArray) (w : World) : Calls Tryz.prog 83 #[.string x] w (ValPost (.int .i64 (unE x.data.toList : Nat)) w) := by
  have hx : x.toList = x.data.toList := ByteArray.toList_eq x
  by_cases h : x.data.toList = [45]
  · have e : unE x.data.toList = 5 := by unfold unE; rw [if_pos h]
    have e1 : (x.toList == [45]) = true := by rw [hx]; simpa using h
    rw [e]
    clear hx h e
    go_enter Tryz.func83, Tryz.ntmps83
    go_wp2_with fail
    go_ret
    exact ⟨rfl, gb_refl _ _⟩
  · have e : unE x.data.toList = 6 := by unfold unE; rw [if_neg h]
    have e1 : (x.toList == [45]) = false := by rw [hx]; simpa using h
    rw [e]
    clear hx h e
    go_enter Tryz.func83, Tryz.ntmps83
    go_wp2_with fail
    go_ret
    exact ⟨rfl, gb_refl _ _⟩

set_option maxRecDepth 100000 in
set_option maxHeartbeats 4000000 in
theorem called_c (T : List Tok) (p : Option Addr) (c : Nat) (w : World) (hT : T.length ≤ 150000) (h1 : 1 < T.length) (h2 : (tkT T 1).text = [46] → 2 < T.length) (ht : TAt w p T) :
    Calls Tryz.prog 84 #[.slice p T.length c] w (fun e w' => e = .returned (.tuple #[strV (if (tkT T 1).text = [46] then (tkT T 0).text else []), strV (if (tkT T 1).text = [46] then (tkT T 2).text else (tkT T 0).text)]) ∧ w.grownBy w' none) := by
  obtain ⟨g, off, rfl, hgl, -, -, t2, -⟩ := tok_cells ht (i := 0) (by omega)
  obtain ⟨g1, off1, hp1, -, -, -, u2, -⟩ := tok_cells ht (i := 1) h1
  injection hp1 with hp1; injection hp1 with hp1 hp2; subst hp1 hp2
  have hx : (⟨(tkT T 1).text.toArray⟩ : ByteArray).toList = (tkT T 1).text := by rw [ByteArray.toList_eq]
  unfold strV at t2 u2 ⊢
  obtain ⟨m, hm⟩ : ∃ m, T.length = m := ⟨_, rfl⟩
  have y0 : decide ((0 : Int) < (m : Int)) = true := decide_eq_true (by omega)
  have y1 : decide ((1 : Int) < (m : Int)) = true := decide_eq_true (by omega)
  have z0 : decide (0 < m) = true := decide_eq_true (by omega)
  have z1 : decide (1 < m) = true := decide_eq_true (by omega)
  by_cases hd : (tkT T 1).text = [46]
  · obtain ⟨g3, off3, hp3, -, -, -, v2, -⟩ := tok_cells ht (i := 2) (h2 hd)
    injection hp3 with hp3; injection hp3 with hp3 hp4; subst hp3 hp4
    unfold strV at v2
    have h2 := h2 hd
    have y2 : decide ((2 : Int) < (m : Int)) = true := decide_eq_true (by omega)
    have z2 : decide (2 < m) = true := decide_eq_true (by omega)
    have e1 : ((⟨(tkT T 1).text.toArray⟩ : ByteArray).toList == [46]) = true := by rw [hx]; simpa using hd
    rw [if_pos hd, if_pos hd, hm]
    generalize (⟨(tkT T 1).text.toArray⟩ : ByteArray) = x1 at *
    generalize (⟨(tkT T 0).text.toArray⟩ : ByteArray) = x0 at *
    generalize (⟨(tkT T 2).text.toArray⟩ : ByteArray) = x2 at *
    rw [hm] at hT h1 h2
    clear hx ht hd hm
    go_enter Tryz.func84, Tryz.ntmps84
    go_wp2_with fail
    go_quiet (fail)
    go_wp2_with fail
    go_ret2
    exact ⟨rfl, gb_drewN (gb_refl _ _) _⟩
  · have e1 : ((⟨(tkT T 1).text.toArray⟩ : ByteArray).toList == [46]) = false := by rw [hx]; simpa using hd
    rw [if_neg hd, if_neg hd, hm]
    generalize (⟨(tkT T 1).text.toArray⟩ : ByteArray) = x1 at *
    generalize (⟨(tkT T 0).text.toArray⟩ : ByteArray) = x0 at *
    rw [hm] at hT h1
    clear hx ht hd hm h2
    go_enter Tryz.func84, Tryz.ntmps84
    go_wp2_with fail
    go_quiet (fail)
    go_wp2_with fail
    go_ret2
    exact ⟨rfl, gb_drewN (gb_refl _ _) _⟩
end Go.Proofs.YtddccnpohpaofaaGreatDoor
