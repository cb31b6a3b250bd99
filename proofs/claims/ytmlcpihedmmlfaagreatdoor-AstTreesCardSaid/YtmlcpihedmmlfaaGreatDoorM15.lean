/- The reader's small parts: kind, kids, token; unary, called. -/
import Derived.Test.YtmlcpihedmmlfaaGreatDoorM14
import Derived.Test.YtmlcpihedmmlfaaGreatDoorM2
import Derived.Test.YtmlcpihedmmlfaaGreatDoorM7
import Derived.Test.YtmlcpihedmmlfaaGreatDoorM12
set_option linter.unusedVariables false
set_option linter.unusedSimpArgs false
namespace Go.Proofs.YtmlcpihedmmlfaaGreatDoor
open Go.RowKit

theorem put4c {W : World} {B : Nat} {T : TypeId} {x0 x1 x2 x3 : Value} (h0 : W.heap[B]? = some (.cells #[x0, x1, x2, x3] T (0, 0))) (a b c d : Value) : ((((W.setCell ⟨B, 0, none⟩ a).setCell ⟨B, 1, none⟩ b).setCell ⟨B, 2, none⟩ c).setCell ⟨B, 3, none⟩ d).heap[B]? = some (.cells #[a, b, c, d] T (0, 0)) ∧ Fr2 (Self B) W ((((W.setCell ⟨B, 0, none⟩ a).setCell ⟨B, 1, none⟩ b).setCell ⟨B, 2, none⟩ c).setCell ⟨B, 3, none⟩ d) := by
  have h1 : (W.setCell ⟨B, 0, none⟩ a).heap[B]? = some (.cells #[a, x1, x2, x3] T (0, 0)) := set_cells (i := 0) (u := a) h0
  have h2 : ((W.setCell ⟨B, 0, none⟩ a).setCell ⟨B, 1, none⟩ b).heap[B]? = some (.cells #[a, b, x2, x3] T (0, 0)) := set_cells (i := 1) (u := b) h1
  have h3 : (((W.setCell ⟨B, 0, none⟩ a).setCell ⟨B, 1, none⟩ b).setCell ⟨B, 2, none⟩ c).heap[B]? = some (.cells #[a, b, c, x3] T (0, 0)) := set_cells (i := 2) (u := c) h2
  have h4 : ((((W.setCell ⟨B, 0, none⟩ a).setCell ⟨B, 1, none⟩ b).setCell ⟨B, 2, none⟩ c).setCell ⟨B, 3, none⟩ d).heap[B]? = some (.cells #[a, b, c, d] T (0, 0)) := set_cells (i := 3) (u := d) h3
  exact ⟨h4, (Fr2.setCell (Fr2.setCell (Fr2.setCell (Fr2.setCell (Fr2.refl (Self B) W) (g := B) (j := 0) (mine B) a) (g := B) (j := 1) (mine B) b) (g := B) (j := 2) (mine B) c) (g := B) (j := 3) (mine B) d)⟩
theorem put8c {W : World} {B : Nat} {T : TypeId} {x0 x1 x2 x3 x4 x5 x6 x7 : Value} (h0 : W.heap[B]? = some (.cells #[x0, x1, x2, x3, x4, x5, x6, x7] T (0, 0))) (a b c d e f g h : Value) : ((((((((W.setCell ⟨B, 0, none⟩ a).setCell ⟨B, 1, none⟩ b).setCell ⟨B, 2, none⟩ c).setCell ⟨B, 3, none⟩ d).setCell ⟨B, 4, none⟩ e).setCell ⟨B, 5, none⟩ f).setCell ⟨B, 6, none⟩ g).setCell ⟨B, 7, none⟩ h).heap[B]? = some (.cells #[a, b, c, d, e, f, g, h] T (0, 0)) ∧ Fr2 (Self B) W ((((((((W.setCell ⟨B, 0, none⟩ a).setCell ⟨B, 1, none⟩ b).setCell ⟨B, 2, none⟩ c).setCell ⟨B, 3, none⟩ d).setCell ⟨B, 4, none⟩ e).setCell ⟨B, 5, none⟩ f).setCell ⟨B, 6, none⟩ g).setCell ⟨B, 7, none⟩ h) := by
  have h1 : (W.setCell ⟨B, 0, none⟩ a).heap[B]? = some (.cells #[a, x1, x2, x3, x4, x5, x6, x7] T (0, 0)) := set_cells (i := 0) (u := a) h0
  have h2 : ((W.setCell ⟨B, 0, none⟩ a).setCell ⟨B, 1, none⟩ b).heap[B]? = some (.cells #[a, b, x2, x3, x4, x5, x6, x7] T (0, 0)) := set_cells (i := 1) (u := b) h1
  have h3 : (((W.setCell ⟨B, 0, none⟩ a).setCell ⟨B, 1, none⟩ b).setCell ⟨B, 2, none⟩ c).heap[B]? = some (.cells #[a, b, c, x3, x4, x5, x6, x7] T (0, 0)) := set_cells (i := 2) (u := c) h2
  have h4 : ((((W.setCell ⟨B, 0, none⟩ a).setCell ⟨B, 1, none⟩ b).setCell ⟨B, 2, none⟩ c).setCell ⟨B, 3, none⟩ d).heap[B]? = some (.cells #[a, b, c, d, x4, x5, x6, x7] T (0, 0)) := set_cells (i := 3) (u := d) h3
  have h5 : (((((W.setCell ⟨B, 0, none⟩ a).setCell ⟨B, 1, none⟩ b).setCell ⟨B, 2, none⟩ c).setCell ⟨B, 3, none⟩ d).setCell ⟨B, 4, none⟩ e).heap[B]? = some (.cells #[a, b, c, d, e, x5, x6, x7] T (0, 0)) := set_cells (i := 4) (u := e) h4
  have h6 : ((((((W.setCell ⟨B, 0, none⟩ a).setCell ⟨B, 1, none⟩ b).setCell ⟨B, 2, none⟩ c).setCell ⟨B, 3, none⟩ d).setCell ⟨B, 4, none⟩ e).setCell ⟨B, 5, none⟩ f).heap[B]? = some (.cells #[a, b, c, d, e, f, x6, x7] T (0, 0)) := set_cells (i := 5) (u := f) h5
  have h7 : (((((((W.setCell ⟨B, 0, none⟩ a).setCell ⟨B, 1, none⟩ b).setCell ⟨B, 2, none⟩ c).setCell ⟨B, 3, none⟩ d).setCell ⟨B, 4, none⟩ e).setCell ⟨B, 5, none⟩ f).setCell ⟨B, 6, none⟩ g).heap[B]? = some (.cells #[a, b, c, d, e, f, g, x7] T (0, 0)) := set_cells (i := 6) (u := g) h6
  have h8 : ((((((((W.setCell ⟨B, 0, none⟩ a).setCell ⟨B, 1, none⟩ b).setCell ⟨B, 2, none⟩ c).setCell ⟨B, 3, none⟩ d).setCell ⟨B, 4, none⟩ e).setCell ⟨B, 5, none⟩ f).setCell ⟨B, 6, none⟩ g).setCell ⟨B, 7, none⟩ h).heap[B]? = some (.cells #[a, b, c, d, e, f, g, h] T (0, 0)) := set_cells (i := 7) (u := h) h7
  exact ⟨h8, (Fr2.setCell (Fr2.setCell (Fr2.setCell (Fr2.setCell (Fr2.setCell (Fr2.setCell (Fr2.setCell (Fr2.setCell (Fr2.refl (Self B) W) (g := B) (j := 0) (mine B) a) (g := B) (j := 1) (mine B) b) (g := B) (j := 2) (mine B) c) (g := B) (j := 3) (mine B) d) (g := B) (j := 4) (mine B) e) (g := B) (j := 5) (mine B) f) (g := B) (j := 6) (mine B) g) (g := B) (j := 7) (mine B) h)⟩
theorem cells8x {w : World} {r : Nat} {a b c d e f g h : Value} {T : TypeId} (h0 : w.heap[r]? = some (.cells #[a, b, c, d, e, f, g, h] T (0, 0))) : w.cell? ⟨r, 0, none⟩ = some a ∧ w.cell? ⟨r, 1, none⟩ = some b ∧ w.cell? ⟨r, 2, none⟩ = some c ∧ w.cell? ⟨r, 3, none⟩ = some d ∧ w.cell? ⟨r, 4, none⟩ = some e ∧ w.cell? ⟨r, 5, none⟩ = some f ∧ w.cell? ⟨r, 6, none⟩ = some g ∧ w.cell? ⟨r, 7, none⟩ = some h ∧ ∀ o, w.frozen? ⟨r, o, none⟩ = false :=
  ⟨by rw [cell_of_row w r 0 _ T (0, 0) h0]; rfl, by rw [cell_of_row w r 1 _ T (0, 0) h0]; rfl, by rw [cell_of_row w r 2 _ T (0, 0) h0]; rfl, by rw [cell_of_row w r 3 _ T (0, 0) h0]; rfl, by rw [cell_of_row w r 4 _ T (0, 0) h0]; rfl, by rw [cell_of_row w r 5 _ T (0, 0) h0]; rfl, by rw [cell_of_row w r 6 _ T (0, 0) h0]; rfl, by rw [cell_of_row w r 7 _ T (0, 0) h0]; rfl, fun o => by simp [World.frozen?, h0]⟩

set_option maxRecDepth 100000 in
set_option maxHeartbeats 4000000 in
theorem kind_r {N : List Nd} {K : Kf} (hN : N.length ≤ 150000) {n : Nat} {x : Nd} (hx : N[n]? = some x) (pt pn : Option Addr) (mt ct cn : Nat) (w : World) (h : NodesAt w pn N K) :
    Calls Tryz.prog 67 #[.agg #[.slice pt mt ct, .slice pn N.length cn], .int .i64 (n : Int)] w (ValPost (.int .i64 x.kind) w) := by
  obtain ⟨g, off, rfl, hgl, c0, c1, c2⟩ := node_at h hx
  have hn := (List.getElem?_eq_some_iff.1 hx).1
  obtain ⟨M, hM⟩ : ∃ M, N.length = M := ⟨_, rfl⟩
  rw [hM] at hN hn ⊢
  have x1 : (0 : Int) ≤ (n : Int) := by omega
  have x2 : (n : Int) < (M : Int) := by omega
  have x3 : decide (n < M) = true := decide_eq_true hn
  have x4 : decide ((n : Int) < (M : Int)) = true := decide_eq_true x2
  clear h hx hM
  go_enter Tryz.func67, Tryz.ntmps67
  go_wp2_with fail
  go_ret
  exact ⟨rfl, World.grownBy_alloc w _ none⟩

set_option maxRecDepth 100000 in
set_option maxHeartbeats 4000000 in
theorem kids_r {N : List Nd} {K : Kf} (hN : N.length ≤ 150000) {n : Nat} {x : Nd} (hx : N[n]? = some x) (pt pn : Option Addr) (mt ct cn : Nat) (w : World) (h : NodesAt w pn N K) :
    Calls Tryz.prog 45 #[.agg #[.slice pt mt ct, .slice pn N.length cn], .int .i64 (n : Int)] w (ValPost (.slice (K n).1 x.kids.length (K n).2) w) := by
  obtain ⟨g, off, rfl, hgl, c0, c1, c2⟩ := node_at h hx
  have hn := (List.getElem?_eq_some_iff.1 hx).1
  obtain ⟨M, hM⟩ : ∃ M, N.length = M := ⟨_, rfl⟩
  rw [hM] at hN hn ⊢
  have x1 : (0 : Int) ≤ (n : Int) := by omega
  have x2 : (n : Int) < (M : Int) := by omega
  have x3 : decide (n < M) = true := decide_eq_true hn
  have x4 : decide ((n : Int) < (M : Int)) = true := decide_eq_true x2
  generalize (K n).1 = pk at *
  generalize (K n).2 = ck at *
  clear h hx hM
  go_enter Tryz.func45, Tryz.ntmps45
  go_wp2_with fail
  go_ret
  exact ⟨rfl, World.grownBy_alloc w _ none⟩

/-- The four cells of a token in a slice. -/
theorem tok_cells {w : World} {p : Option Addr} {T : List Tok} (h : TAt w p T) {i : Nat} (hi : i < T.length) : ∃ g off, p = some ⟨g, off, none⟩ ∧ g < w.heap.size ∧ w.cell? ⟨g, off + i * 4, none⟩ = some (.int .i64 ((tkT T i).kind : Int)) ∧ w.cell? ⟨g, off + i * 4 + 1, none⟩ = some (strV (tkT T i).lead) ∧ w.cell? ⟨g, off + i * 4 + 2, none⟩ = some (strV (tkT T i).text) ∧ w.cell? ⟨g, off + i * 4 + 3, none⟩ = some (.int .i64 ((tkT T i).pos : Int)) := by
  have ht : T[i]? = some (tkT T i) := by unfold tkT; rw [List.getElem?_eq_getElem hi]; rfl
  obtain ⟨g, off, rfl, hl, hc⟩ := h.resolve_left (fun e => by rw [e] at hi; simp at hi)
  exact ⟨g, off, rfl, hl, hc i _ ht⟩
def tokVal (t : Tok) : Value := .agg #[.int .i64 (t.kind : Int), strV t.lead, strV t.text, .int .i64 (t.pos : Int)]

set_option maxRecDepth 100000 in
set_option maxHeartbeats 8000000 in
theorem token_r {T : List Tok} {N : List Nd} {K : Kf} (hT : T.length ≤ 150000) (hN : N.length ≤ 150000) {n i : Nat} (hx : N[n]? = some ⟨19, (i : Int), []⟩) (hi : i < T.length) (pt pn : Option Addr) (ct cn : Nat) (w : World) (ht : TAt w pt T) (h : NodesAt w pn N K) :
    Calls Tryz.prog 107 #[.agg #[.slice pt T.length ct, .slice pn N.length cn], .int .i64 (n : Int)] w (ValPost (tokVal (tkT T i)) w) := by
  obtain ⟨g, off, rfl, hgl, c0, c1, c2⟩ := node_at h hx
  obtain ⟨g2, off2, rfl, hgl2, t0, t1, t2, t3⟩ := tok_cells ht hi
  have hn := (List.getElem?_eq_some_iff.1 hx).1
  obtain ⟨M, hM⟩ : ∃ M, N.length = M := ⟨_, rfl⟩
  obtain ⟨m, hm⟩ : ∃ m, T.length = m := ⟨_, rfl⟩
  rw [hM] at hN hn ⊢
  rw [hm] at hT hi ⊢
  have x1 : (0 : Int) ≤ (n : Int) := by omega
  have x2 : (n : Int) < (M : Int) := by omega
  have x3 : decide (n < M) = true := decide_eq_true hn
  have x4 : decide ((n : Int) < (M : Int)) = true := decide_eq_true x2
  have y1 : (0 : Int) ≤ (i : Int) := by omega
  have y2 : (i : Int) < (m : Int) := by omega
  have y3 : decide (i < m) = true := decide_eq_true hi
  have y4 : decide ((i : Int) < (m : Int)) = true := decide_eq_true y2
  unfold tokVal
  unfold strV at t1 t2 ⊢
  generalize (⟨(tkT T i).lead.toArray⟩ : ByteArray) = le at *
  generalize (⟨(tkT T i).text.toArray⟩ : ByteArray) = te at *
  generalize (tkT T i).kind = k at *
  generalize (tkT T i).pos = p at *
  clear h hx hM ht hm c0 c2
  go_enter Tryz.func107, Tryz.ntmps107
  go_wp2_with fail
  have hA := heap_alloc_new w (.cells #[.slice (some ⟨g2, off2, none⟩) m ct, .slice (some ⟨g, off, none⟩) M cn] 87)
  have hgA := World.grownBy_alloc w (.cells #[.slice (some ⟨g2, off2, none⟩) m ct, .slice (some ⟨g, off, none⟩) M cn] 87) none
  have hsA : (w.alloc (.cells #[.slice (some ⟨g2, off2, none⟩) m ct, .slice (some ⟨g, off, none⟩) M cn] 87)).heap.size = w.heap.size + 1 := by simp
  generalize (w.alloc (.cells #[.slice (some ⟨g2, off2, none⟩) m ct, .slice (some ⟨g, off, none⟩) M cn] 87)) = W1 at *
  have hB := heap_alloc_new W1 (.cells #[.int .i64 0, .string ⟨#[]⟩, .string ⟨#[]⟩, .int .i64 0] 96)
  have hgB := World.grownBy_alloc W1 (.cells #[.int .i64 0, .string ⟨#[]⟩, .string ⟨#[]⟩, .int .i64 0] 96) none
  rw [hsA] at hB
  generalize (W1.alloc (.cells #[.int .i64 0, .string ⟨#[]⟩, .string ⟨#[]⟩, .int .i64 0] 96)) = W at *
  obtain ⟨b, hb⟩ : ∃ b, w.heap.size = b := ⟨_, rfl⟩
  have HBW := Lib.hid hb
  rw [hb] at hA hB ⊢
  obtain ⟨b1, hb1⟩ : ∃ x, b + 1 = x := ⟨_, rfl⟩
  rw [hb1] at hB ⊢
  have hlt : b < b1 := by omega
  have hA2 := bx hgB hA
  obtain ⟨a0, a1, a2⟩ := cells2 hA2
  have HG0 := Lib.hid (gb_trans hgA hgB)
  have c1 := HG0.out.cell c1 (by simp)
  have t0 := HG0.out.cell t0 (by simp)
  have t1 := HG0.out.cell t1 (by simp)
  have t2 := HG0.out.cell t2 (by simp)
  have t3 := HG0.out.cell t3 (by simp)
  have HB := Lib.hid hB
  obtain ⟨r0, r1, r2, r3, r4⟩ := cells4' hB
  clear hA hA2 hB hgA hgB hsA hb hb1
  go_region
  all_goals
    obtain ⟨hb5, hf5⟩ := put4c HB.out (.int .i64 (k : Int)) (.string le) (.string te) (.int .i64 (p : Int))
    have HF5 := Lib.hid hf5
    obtain ⟨k0, k1, k2, k3, -⟩ := cells4' hb5
    clear a0 a1 a2 r0 r1 r2 r3 r4 c1 t0 t1 t2 t3 HB hb5 hf5
    generalize ((((W.setCell ⟨b1, 0, none⟩ (.int .i64 (k : Int))).setCell ⟨b1, 1, none⟩ (.string le)).setCell ⟨b1, 2, none⟩ (.string te)).setCell ⟨b1, 3, none⟩ (.int .i64 (p : Int))) = W5 at *
    go_wp2_with fail
    refine bodyPost_ret (v := .agg #[.int .i64 (k : Int), .string le, .string te, .int .i64 (p : Int)]) (by simp [results, Tryz.results107, go_sem, k0, k1, k2, k3]) rfl ⟨rfl, Fr2.after HG0.out (fr2_drew HF5.out) (fun j hj => by have e : j = b1 := hj; rw [HBW.out]; omega)⟩

set_option maxRecDepth 100000 in
set_option maxHeartbeats 4000000 in
theorem unary_c (x : ByteArray) (w : World) : Calls Tryz.prog 113 #[.string x] w (ValPost (.int .i64 (unE x.data.toList : Nat)) w) := by
  have hx : x.toList = x.data.toList := ByteArray.toList_eq x
  by_cases h : x.data.toList = [45]
  · have e : unE x.data.toList = 5 := by unfold unE; rw [if_pos h]
    have e1 : (x.toList == [45]) = true := by rw [hx]; simpa using h
    rw [e]
    clear hx h e
    go_enter Tryz.func113, Tryz.ntmps113
    go_wp2_with fail
    go_ret
    exact ⟨rfl, gb_refl _ _⟩
  · have e : unE x.data.toList = 6 := by unfold unE; rw [if_neg h]
    have e1 : (x.toList == [45]) = false := by rw [hx]; simpa using h
    rw [e]
    clear hx h e
    go_enter Tryz.func113, Tryz.ntmps113
    go_wp2_with fail
    go_ret
    exact ⟨rfl, gb_refl _ _⟩

set_option maxRecDepth 100000 in
set_option maxHeartbeats 4000000 in
theorem called_c (T : List Tok) (p : Option Addr) (c : Nat) (w : World) (hT : T.length ≤ 150000) (h1 : 1 < T.length) (h2 : (tkT T 1).text = [46] → 2 < T.length) (ht : TAt w p T) :
    Calls Tryz.prog 114 #[.slice p T.length c] w (fun e w' => e = .returned (.tuple #[strV (if (tkT T 1).text = [46] then (tkT T 0).text else []), strV (if (tkT T 1).text = [46] then (tkT T 2).text else (tkT T 0).text)]) ∧ w.grownBy w' none) := by
  obtain ⟨g, off, rfl, hgl, -, -, t2, -⟩ := tok_cells ht (i := 0) (by omega)
  obtain ⟨g1, off1, hp1, -, -, -, u2, -⟩ := tok_cells ht (i := 1) h1
  injection hp1 with hp1; injection hp1 with hp1 hp2; subst hp1 hp2
  have hx : (⟨(tkT T 1).text.toArray⟩ : ByteArray).toList = (tkT T 1).text := by rw [ByteArray.toList_eq]
  unfold strV at t2 u2 ⊢
  obtain ⟨m, hm⟩ : ∃ m, T.length = m := ⟨_, rfl⟩
  have y0 : decide ((0 : Int) < (m : Int)) = true := decide_eq_true (by omega)
  have y1 : decide ((1 : Int) < (m : Int)) = true := decide_eq_true (by omega)
  have z0 : decide (0 < m) = true := decide_eq_true (by omega)
  have z1 : decide (1 < m) = true := decide_eq_true (by omega)
  by_cases hd : (tkT T 1).text = [46]
  · obtain ⟨g3, off3, hp3, -, -, -, v2, -⟩ := tok_cells ht (i := 2) (h2 hd)
    injection hp3 with hp3; injection hp3 with hp3 hp4; subst hp3 hp4
    unfold strV at v2
    have h2 := h2 hd
    have y2 : decide ((2 : Int) < (m : Int)) = true := decide_eq_true (by omega)
    have z2 : decide (2 < m) = true := decide_eq_true (by omega)
    have e1 : ((⟨(tkT T 1).text.toArray⟩ : ByteArray).toList == [46]) = true := by rw [hx]; simpa using hd
    rw [if_pos hd, if_pos hd, hm]
    generalize (⟨(tkT T 1).text.toArray⟩ : ByteArray) = x1 at *
    generalize (⟨(tkT T 0).text.toArray⟩ : ByteArray) = x0 at *
    generalize (⟨(tkT T 2).text.toArray⟩ : ByteArray) = x2 at *
    rw [hm] at hT h1 h2
    clear hx ht hd hm
    go_enter Tryz.func114, Tryz.ntmps114
    go_wp2_with fail
    go_quiet (fail)
    go_wp2_with fail
    go_ret2
    exact ⟨rfl, gb_drewN (gb_refl _ _) _⟩
  · have e1 : ((⟨(tkT T 1).text.toArray⟩ : ByteArray).toList == [46]) = false := by rw [hx]; simpa using hd
    rw [if_neg hd, if_neg hd, hm]
    generalize (⟨(tkT T 1).text.toArray⟩ : ByteArray) = x1 at *
    generalize (⟨(tkT T 0).text.toArray⟩ : ByteArray) = x0 at *
    rw [hm] at hT h1
    clear hx ht hd hm h2
    go_enter Tryz.func114, Tryz.ntmps114
    go_wp2_with fail
    go_quiet (fail)
    go_wp2_with fail
    go_ret2
    exact ⟨rfl, gb_drewN (gb_refl _ _) _⟩
end Go.Proofs.YtmlcpihedmmlfaaGreatDoor
namespace Go.Proofs.YtmlcpihedmmlfaaGreatDoor
open Go.RowKit

theorem ownL_append : ∀ a b : List Tr, ownL (a ++ b) = ownL a ++ ownL b
  | [], b => rfl
  | .lf i :: a, b => by simp [ownL, ownL_append a b]
  | .nd k l :: a, b => by simp [ownL, ownL_append a b]
theorem ownL_len : ∀ l : List Tr, (ownL l).length ≤ l.length
  | [] => Nat.le_refl _
  | .lf i :: a => by have := ownL_len a; simp only [ownL, List.length_cons]; omega
  | .nd k l :: a => by have := ownL_len a; simp only [ownL, List.length_cons]; omega
theorem take_snoc {α : Type} {l : List α} {j : Nat} {t : α} (h : l[j]? = some t) : l.take (j + 1) = l.take j ++ [t] := by
  rw [List.take_add_one, h]; rfl
theorem ownL_lf {l : List Tr} {j i : Nat} (h : l[j]? = some (.lf i)) : ownL (l.take (j + 1)) = ownL (l.take j) ++ [i] := by
  rw [take_snoc h, ownL_append]; rfl
theorem ownL_nd {l : List Tr} {j k : Nat} {m : List Tr} (h : l[j]? = some (.nd k m)) : ownL (l.take (j + 1)) = ownL (l.take j) := by
  rw [take_snoc h, ownL_append]; simp [ownL]
theorem lv_mem : ∀ {l : List Tr} {j i : Nat}, l[j]? = some (.lf i) → i ∈ lvTs l
  | [], j, i, h => by simp at h
  | t :: l, j, i, h => by
    simp only [lvTs, List.mem_append]
    match j, h with
    | 0, h => simp at h; subst h; left; simp [lvT]
    | j + 1, h => right; exact lv_mem (by simpa using h)
theorem kOks_get : ∀ {l : List Tr} {j : Nat} {t : Tr}, kOks l → l[j]? = some t → kOk t
  | [], j, t, _, h => by simp at h
  | u :: l, j, t, hk, h => by
    simp only [kOks] at hk
    match j, h with
    | 0, h => simp at h; subst h; exact hk.1
    | j + 1, h => exact kOks_get hk.2 (by simpa using h)

def OwnTok (T : List Tok) (l : List Tr) (w : World) (e : Ending) (w' : World) : Prop :=
  w.grownBy w' none ∧ ∃ p c, e = .returned (.slice p (ownL l).length c) ∧ TAt w' p ((ownL l).map (tkT T))

set_option maxRecDepth 100000 in
set_option maxHeartbeats 8000000 in
theorem aTokens_c {T : List Tok} {N : List Nd} {K : Kf} (hT : T.length ≤ 150000) (hN : N.length ≤ 150000) {n : Nat} {kd : Int} {tk : Int} {ks : List Int} {l : List Tr} (hx : N[n]? = some ⟨kd, tk, ks⟩) (hkt : KT N n ks l) (hko : kOks l) (hlv : ∀ i ∈ lvTs l, i < T.length) (hlm : l.length ≤ 150000) (pt pn : Option Addr) (ct cn : Nat) (w : World) (ht : TAt w pt T) (h : NodesAt w pn N K) :
    Calls Tryz.prog 68 #[.agg #[.slice pt T.length ct, .slice pn N.length cn], .int .i64 (n : Int)] w (OwnTok T l w) := by
  have hgA := World.grownBy_alloc w (.cells #[.slice pt T.length ct, .slice pn N.length cn] 87) none
  have hA := heap_alloc_new w (.cells #[.slice pt T.length ct, .slice pn N.length cn] 87)
  have HKI := Lib.hid (fun (n : Nat) (x : Nd) W (hx : N[n]? = some x) h => kind_r (K := K) hN hx pt pn T.length ct cn W h)
  have HKD := Lib.hid (fun W h => kids_r (K := K) hN hx pt pn T.length ct cn W h)
  have HTK := Lib.hid (fun (n i : Nat) W (hx : N[n]? = some ⟨19, (i : Int), []⟩) (hi : i < T.length) h1 h2 => token_r (K := K) hT hN hx hi pt pn ct cn W h1 h2)
  have HKV := Lib.hid (fun W (h : NodesAt W pn N K) => (h.2 n _ hx))
  have HT := Lib.hid (ht.kept hgA); have HN := Lib.hid (h.kept hgA); have HKT := Lib.hid hkt; have HKO := Lib.hid hko; have HLV := Lib.hid hlv
  have hkl := hkt.1
  obtain ⟨b, hb⟩ : ∃ b, w.heap.size = b := ⟨_, rfl⟩
  have HBW := Lib.hid hb
  rw [hb] at hA
  obtain ⟨W, hW⟩ : ∃ W, w.alloc (.cells #[.slice pt T.length ct, .slice pn N.length cn] 87) = W := ⟨_, rfl⟩
  rw [hW] at hA hgA HT HN
  obtain ⟨mt, hmt⟩ : ∃ mt, T.length = mt := ⟨_, rfl⟩
  obtain ⟨mn, hmn⟩ : ∃ mn, N.length = mn := ⟨_, rfl⟩
  obtain ⟨M, hM⟩ : ∃ M, ks.length = M := ⟨_, rfl⟩
  have HM := Lib.hid hM
  rw [hmt] at hA hW HKI HKD HTK ⊢
  rw [hmn] at hA hW HKI HKD HTK ⊢
  rw [hM] at HKD hkl
  have hMm : M ≤ 150000 := by omega
  have HKL := Lib.hid hkl
  have HA := Lib.hid hA; have HGA := Lib.hid hgA
  have HTL := Lib.hid hmt
  obtain ⟨a0, a1, a2⟩ := cells2 hA
  have HKS : Hid (K n = ((K n).1, (K n).2)) := Lib.hid rfl
  generalize (K n).1 = pk at *
  generalize (K n).2 = ck at *
  clear ht h hkt hko hlv hx hA hgA hmt hmn hM hT hN hkl hlm
  go_enter Tryz.func68, Tryz.ntmps68
  go_wp2_with fail
  try rw [hb]
  clear hb hW
  refine (HKD.out _ HN.out).mono ?_
  rintro e w1 ⟨rfl, hg1⟩
  have HG1 := Lib.hid hg1
  have HT := Lib.hid (HT.out.kept hg1); have HN := Lib.hid (HN.out.kept hg1)
  have HA := Lib.hid (bx hg1 HA.out)
  have hA := HA.out
  obtain ⟨a0, a1, a2⟩ := cells2 hA
  clear hA hg1
  go_wp2_with fail
  go_loopw [5, 12] (fun ov iv wr => ∃ j : Nat, j ≤ M ∧ iv = .int .i64 (j : Int) ∧ Hid (OwnT 96 wr w1.heap.size ov ((ownL (l.take j)).map (tkT T))) ∧ Hid (Below w1.heap.size w1 wr)) (fun _ iv _ => M - (intOf iv).toNat)
  case atStart => exact ⟨0, Nat.zero_le _, rfl, Lib.hid (by simpa [ownL] using OwnT.nil _ _ _), Below.refl _ _⟩
  case round =>
    obtain ⟨j, hj, rfl, HO, HB⟩ := hrel
    have HGW : Hid (w1.grownBy wr none) := Lib.hid (below_gb HB.out)
    have HAr := Lib.hid (bx HGW.out HA.out)
    have hAr := HAr.out
    obtain ⟨a0, a1, a2⟩ := cells2 hAr
    have HNr := Lib.hid (HN.out.kept HGW.out); have HTr := Lib.hid (HT.out.kept HGW.out)
    clear hAr
    by_cases hlt : j < M
    · obtain ⟨t, ht⟩ : ∃ t, l[j]? = some t := ⟨l[j]'(by have := HKL.out; omega), List.getElem?_eq_getElem _⟩
      obtain ⟨k, hk, hta, hkn⟩ := HKT.out.2 j t ht
      obtain ⟨g, off, rfl, hgl, ck0⟩ := kid_at (HKV.out _ HNr.out) hk
      have HLL := Lib.hid (ownL_len (l.take j))
      have y1 : (0 : Int) ≤ (j : Int) := by omega
      have y2 : (j : Int) < (M : Int) := by omega
      have y3 : decide (j < M) = true := decide_eq_true hlt
      have y4 : decide ((j : Int) < (M : Int)) = true := decide_eq_true y2
      cases t with
      | lf i =>
        obtain ⟨n', hn', hnx⟩ := hta.lf
        have hn' : k = n' := by omega
        subst hn'
        have hil := HLV.out i (lv_mem ht)
        rw [HTL.out] at hil
        have HK1 := Lib.hid (HKI.out k _ wr hnx HNr.out)
        have HK2 := Lib.hid (fun W h1 h2 => HTK.out k i W hnx hil h1 h2)
        have HTE := Lib.hid (ownL_lf ht)
        clear ht hk hta hkn hnx hil
        go_wp2_with fail
        refine HK1.out.mono ?_
        rintro e w2 ⟨rfl, hg2⟩
        have hA2 := bx hg2 HAr.out
        have HA2 := Lib.hid hA2
        obtain ⟨a0, a1, a2⟩ := cells2 hA2
        have HG2 := Lib.hid hg2
        have HT2 := Lib.hid (HTr.out.kept hg2); have HN2 := Lib.hid (HNr.out.kept hg2)
        clear hA2 hg2 HK1
        go_wp2_with fail
        refine (HK2.out _ HT2.out HN2.out).mono ?_
        rintro e w3 ⟨rfl, hg3⟩
        have HG3 := Lib.hid (gb_trans HG2.out hg3)
        have HO3 := Lib.hid (HO.out.kept HG3.out)
        have HB3 := Lib.hid (Below.trans2 HB.out (Below.gb HG3.out HB.out.size))
        clear hg3 HK2
        unfold tokVal
        have HTV : Hid (tokV (tkT T i) = [.int .i64 ((tkT T i).kind : Int), strV (tkT T i).lead, strV (tkT T i).text, .int .i64 ((tkT T i).pos : Int)]) := Lib.hid rfl
        unfold strV at HTV ⊢
        have HLM : Hid (((ownL (l.take j)).map (tkT T)).length ≤ 1000000) := Lib.hid (by have h1 := HLL.out; have h2 := List.length_take (i := j) (l := l); rw [List.length_map]; omega)
        go_wp2_with (at_builtin; go_loud (refine wpList_appT (t := 23) Tryz.underlying23 infoT rfl (by decide) rfl _ _ rfl w1.heap.size ((ownL (l.take j)).map (tkT T)) (tkT T i) _ _ _ _ HTV.out u5 rfl HO3.out _ rfl rfl HLM.out HB3.out.size ?_))
        intro g' cap' w4 hO4 hB4
        have HO4 : Hid (OwnT 96 w4 w1.heap.size (.slice (some ⟨g', 0, none⟩) ((ownL (l.take j)).length + 1) cap') ((ownL (l.take (j + 1))).map (tkT T))) := Lib.hid (by rw [HTE.out, List.map_append]; exact hO4)
        have HB4 := Lib.hid (Below.trans2 HB3.out hB4)
        clear hO4 hB4
        go_wp2_with fail
        go_roundw
        case rel => exact ⟨j + 1, by omega, by go_num, HO4, HB4⟩
        case measure => simp [intOf]; omega
      | nd m q =>
        obtain ⟨n', ks', hn', hnx, -⟩ := hta.nd
        have hn' : k = n' := by omega
        subst hn'
        have hkd := kOks_get HKO.out ht
        simp only [kOk] at hkd
        have hne : ((m : Int) == 19) = false := beq_eq_false_iff_ne.2 (by omega)
        have hne' : (m == 19) = false := beq_eq_false_iff_ne.2 (by omega)
        have HK1 := Lib.hid (HKI.out k _ wr hnx HNr.out)
        have HTE := Lib.hid (ownL_nd ht)
        clear ht hk hta hkn hnx hkd
        go_wp2_with fail
        refine HK1.out.mono ?_
        rintro e w2 ⟨rfl, hg2⟩
        have HG2 := Lib.hid hg2
        clear hg2 HK1
        go_wp2_with fail
        go_roundw
        case rel => exact ⟨j + 1, by omega, by go_num, Lib.hid (by rw [HTE.out]; exact HO.out.kept HG2.out), Lib.hid (Below.trans2 HB.out (Below.gb HG2.out HB.out.size))⟩
        case measure => simp [intOf]; omega
    · obtain rfl : j = M := by omega
      have hO := HO.out
      rw [List.take_of_length_le (by have := HKL.out; omega)] at hO
      obtain ⟨p, c, rfl, hta, -, -, -⟩ := hO.is
      have HTA := Lib.hid hta
      have HLE : Hid (((ownL l).map (tkT T)).length = (ownL l).length) := Lib.hid (List.length_map _)
      rw [HLE.out]
      have HGE := Lib.hid (gb_trans (gb_trans HGA.out HG1.out) HGW.out)
      have HPE : Hid (∀ w', w.grownBy w' none → TAt w' p ((ownL l).map (tkT T)) → OwnTok T l w (.returned (.slice p (ownL l).length c)) w') := Lib.hid (fun w' h1 h2 => ⟨h1, p, c, rfl, h2⟩)
      generalize (ownL l).length = L at *
      clear hta hO
      go_wp2_with fail
      go_ret
      exact HPE.out _ HGE.out HTA.out
end Go.Proofs.YtmlcpihedmmlfaaGreatDoor
namespace Go.Proofs.YtmlcpihedmmlfaaGreatDoor
open Go.RowKit

/-- The package's variable holds the signs. -/
def LaidS (w : World) : Prop := ∀ j v, (signs8.map strV)[j]? = some v → w.cell? ⟨0, j, none⟩ = some v
theorem LaidS.kept {w w' : World} (h : LaidS w) (hg : w.grownBy w' none) : LaidS w' := fun j v hj => hg.cell (h j v hj) (by simp)
theorem sizeS8 : (Tryz.prog.info? 195).map (·.size) = some (signs8.map strV).length := by kernel_rfl

/-- Where a text stands in the rest of a list, if it doesn't stand ahead. -/
theorem idx_at {L : List (List UInt8)} {k : Nat} {x : List UInt8} (hx : L[k]? = some x) (hb : ∀ j y, j < k → L[j]? = some y → y ≠ x) : L.idxOf x = k := by
  induction L generalizing k with
  | nil => simp at hx
  | cons a L ih =>
    match k, hx, hb with
    | 0, hx, _ => simp at hx; subst hx; simp
    | k + 1, hx, hb =>
      have ha : a ≠ x := hb 0 a (by omega) rfl
      have hbx : (a == x) = false := by simpa using ha
      rw [List.idxOf_cons, hbx, cond_false, ih (k := k) (by simpa using hx) (fun j y hj hy => hb (j + 1) y (by omega) (by simpa using hy))]
theorem binE_at {k : Nat} {x : List UInt8} (hx : signs8[k]? = some x) (hb : ∀ j y, j < k → signs8[j]? = some y → y ≠ x) : binE x = 7 + k := by
  unfold binE
  rw [idx_at hx hb, if_pos (by have := (List.getElem?_eq_some_iff.1 hx).1; exact this)]
theorem binE_none {x : List UInt8} (hb : ∀ j y, j < 14 → signs8[j]? = some y → y ≠ x) : binE x = 0 := by
  unfold binE
  rw [if_neg]
  intro h
  have h1 : signs8.idxOf x < signs8.length := h
  have h2 := List.getElem_idxOf h1
  exact hb _ _ h (List.getElem?_eq_getElem h1) h2

set_option maxRecDepth 100000 in
set_option maxHeartbeats 4000000 in
theorem binary_c (s : ByteArray) (w : World) (h : LaidS w) : Calls Tryz.prog 112 #[.string s] w (ValPost (.int .i64 (binE s.data.toList : Nat)) w) := by
  have hr : w.rangeAt 0 0 (signs8.map strV) := fun j v hj => by rw [Nat.zero_add]; exact h j v hj
  have HRG := Lib.hid hr
  clear hr h
  have HSL := Lib.hid (toList_data s)
  go_enter Tryz.func112, Tryz.ntmps112
  go_wp2_with (refine wpList_load_mid rfl 195 _ rfl 0 0 rfl (signs8.map strV) _ HRG.out Tryz.underlying195 rfl sizeS8 ?_)
  have HA : Hid (ArrIs (.agg (signs8.map strV).toArray) signs8) := Lib.hid rfl
  generalize Value.agg (signs8.map strV).toArray = A at *
  go_wp2
  go_loopw [6] (fun i wr => ∃ k : Nat, k ≤ 14 ∧ i = .int .i64 k ∧ Hid (∀ j y, j < k → signs8[j]? = some y → y ≠ s.data.toList) ∧ wr = w) (fun i _ => 14 - (intOf i).toNat)
  case atStart => exact ⟨0, Nat.zero_le _, rfl, Lib.hid (fun j y hj => by omega), rfl⟩
  case round =>
    obtain ⟨k, hk, rfl, HC, rfl⟩ := hrel
    by_cases hlt : k < 14
    · have d1 : decide ((k : Int) < 14) = true := decide_eq_true (by omega)
      have d1' : decide (k < 14) = true := decide_eq_true hlt
      obtain ⟨x, hx⟩ : ∃ x, signs8[k]? = some x := ⟨signs8[k]'hlt, List.getElem?_eq_getElem _⟩
      have hrun := HA.out.run (t := 195) (n := 14) Tryz.underlying195 rfl hx
      obtain ⟨y, hy⟩ : ∃ y : ByteArray, (⟨x.toArray⟩ : ByteArray) = y := ⟨_, rfl⟩
      have hyl : y.toList = x := by rw [toList_data, ← hy]
      rw [hy] at hrun
      have hw : IntKind.i64.wrap (7 + (k : Int)) = ((7 + k : Nat) : Int) := by rw [IntWalk.i64_in _ (by omega)]; omega
      by_cases he : x = s.data.toList
      · have d2 : (s.toList == y.toList) = true := by rw [hyl, HSL.out, he]; simp
        have HR : Hid (binE s.data.toList = 7 + k) := Lib.hid (by rw [← he]; exact binE_at hx (fun j z hj hz => by rw [he]; exact HC.out j z hj hz))
        clear hx he hyl hy
        go_wp2
        go_ret
        exact ⟨by rw [HR.out]; show Ending.returned (.int .i64 (7 + (k : Int))) = _; rw [show (((7 + k : Nat)) : Int) = 7 + (k : Int) by omega], gb_refl _ _⟩
      · have d2 : (s.toList == y.toList) = false := by rw [hyl, HSL.out]; simpa using fun e => he e.symm
        have HR : Hid (∀ j y, j < k + 1 → signs8[j]? = some y → y ≠ s.data.toList) := Lib.hid (fun j z hj hz => by
          by_cases e : j = k
          · subst e; rw [hx] at hz; cases hz; exact he
          · exact HC.out j z (by omega) hz)
        clear hx he hyl hy
        go_wp2
        go_roundw
        case rel => exact ⟨k + 1, by omega, by go_num, HR, by first | rfl | trivial⟩
        case measure => (simp [intOf] <;> omega)
    · obtain rfl : k = 14 := by omega
      have HR : Hid (binE s.data.toList = 0) := Lib.hid (binE_none HC.out)
      go_wp2
      go_ret
      exact ⟨by rw [HR.out]; rfl, gb_refl _ _⟩
end Go.Proofs.YtmlcpihedmmlfaaGreatDoor
namespace Go.Proofs.YtmlcpihedmmlfaaGreatDoor

/-- A parameter, or a result: its name, base, clause (none or one), place, and the place behind its base, or -1. -/
structure Fx where
  nm : List UInt8
  base : Nat
  cl : List Ex
  ps : Nat
  bare : Int
/-- A definition: its parameters, its result (with its own name and place), its body. -/
structure Dx where
  pub : Bool
  ps : List Fx
  res : Fx
  body : Ex
structure Px where
  imps : List (List UInt8 × Nat)
  defs : List Dx

def intT : List UInt8 := [105, 110, 116]
def boolT : List UInt8 := [98, 111, 111, 108]
def pubT : List UInt8 := [112, 117, 98]
def baseN (t : List UInt8) : Nat := if t = intT then 1 else 2
def headL (T : List Tok) (l : List Tr) : Tok := tkT T ((ownL l).getD 0 T.length)
/-- What one kid tells of a parameter, or of a result. -/
def stepF (T : List Tok) (f : Fx) : Tr → Fx
  | .lf i => if (tkT T i).kind = 1 then { f with nm := (tkT T i).text, ps := (tkT T i).pos } else f
  | .nd k l => if k = 5 then { f with base := baseN (headL T l).text, bare := ((headL T l).pos + (headL T l).text.length : Nat) } else if k = 6 then { f with cl := [(axTs T l).headD nilE], bare := -1 } else f
def fieldX (T : List Tok) (l : List Tr) : Fx := l.foldl (stepF T) ⟨[], 0, [], 0, 0⟩
def kidsT : Tr → List Tr
  | .lf _ => []
  | .nd _ l => l
def kindT' : Tr → Nat
  | .lf _ => 19
  | .nd k _ => k
def paramsX (T : List Tok) (l : List Tr) : List Fx := (l.filter (fun t => kindT' t == 4)).map (fun t => fieldX T (kidsT t))
def defX (T : List Tok) (l : List Tr) : Dx := ⟨decide ((headL T l).text = pubT), paramsX T l, fieldX T l, axT T (l.getD (l.length - 2) (.lf 0))⟩
def impX (T : List Tok) (l : List Tr) : List UInt8 × Nat := ((tkT T ((ownL l).getD 1 T.length)).text, (tkT T ((ownL l).getD 1 T.length)).pos)
def progX (T : List Tok) (l : List Tr) : Px := ⟨(l.filter (fun t => kindT' t == 2)).map (fun t => impX T (kidsT t)), (l.filter (fun t => kindT' t == 3)).map (fun t => defX T (kidsT t))⟩

/-! ### The forms -/

inductive ShC (T : List Tok) : List Tr → Prop where
  | no : ShC T []
  | yes (i j : Nat) (e : Tr) : isN e = true → WE T e → ShC T [.nd 6 [.lf i, e, .lf j]]
inductive ShT (T : List Tok) : List Tr → Prop where
  | mk (c b : Nat) (cl : List Tr) : (tkT T c).kind ≠ 1 → (tkT T b).text = intT ∨ (tkT T b).text = boolT → ShC T cl → ShT T (.lf c :: .nd 5 [.lf b] :: cl)
inductive ShP (T : List Tok) : Tr → Prop where
  | mk (n : Nat) (l : List Tr) : (tkT T n).kind = 1 → ShT T l → ShP T (.nd 4 (.lf n :: l))
inductive ShPs (T : List Tok) : List Tr → Prop where
  | one (p : Tr) : ShP T p → ShPs T [p]
  | more (l : List Tr) (c : Nat) (p : Tr) : ShPs T l → (tkT T c).kind ≠ 1 → ShP T p → ShPs T (l ++ [.lf c] ++ [p])
inductive ShD (T : List Tok) : Tr → Prop where
  | mk (pb : List Tr) (f n o : Nat) (ps : List Tr) (c : Nat) (tl : List Tr) (q : Nat) (body : Tr) (m : Nat) : (pb = [] ∨ ∃ p, pb = [.lf p] ∧ (tkT T p).text = pubT ∧ (tkT T p).kind ≠ 1) → (tkT T f).text = [102, 117, 110] → (tkT T f).kind ≠ 1 → (tkT T n).kind = 1 → (tkT T o).kind ≠ 1 → (ps = [] ∨ ShPs T ps) → (tkT T c).kind ≠ 1 → ShT T tl → (tkT T q).kind ≠ 1 → isN body = true → WE T body → (tkT T m).kind ≠ 1 →
      ShD T (.nd 3 (pb ++ [.lf f, .lf n, .lf o] ++ ps ++ [.lf c] ++ tl ++ [.lf q] ++ [body] ++ [.lf m]))
inductive ShI (T : List Tok) : Tr → Prop where
  | mk (i n m : Nat) : (tkT T n).kind = 1 → ShI T (.nd 2 [.lf i, .lf n, .lf m])
/-- Imports, definitions, the end. -/
def ShProg (T : List Tok) (l : List Tr) : Prop := ∃ is ds e, l = is ++ ds ++ [.lf e] ∧ (∀ t ∈ is, ShI T t) ∧ (∀ t ∈ ds, ShD T t)

section
variable (T : List Tok)
theorem must_k {w : List UInt8} {s : St} (h : (mustT T w s).2.e = 0) : ∃ i, (mustT T w s).1 = [.lf i] ∧ (tkT T i).text = w ∧ (tkT T i).kind ≠ 1 ∧ s.e = 0 := by
  obtain ⟨h1, h2, h3, h4⟩ := must_w T h
  exact ⟨_, h1, h2, by omega, h4⟩
theorem is_k {w : List UInt8} {s : St} (h : isQ T w s = true) : (leafT T s).1 = [.lf s.i] ∧ (tkT T s.i).text = w ∧ (tkT T s.i).kind ≠ 1 ∧ s.e = 0 := by
  obtain ⟨h1, h2, h3⟩ := is_w T h
  exact ⟨rfl, h1, by omega, h3⟩
variable {et : St → RT} (hx : ∀ s, WO T (et s)) (hk : ∀ s, Keep s (et s))
theorem typB_w {a : RT} (h : (typBT T a).2.e = 0) : ∃ b, (typBT T a).1 = a.1 ++ [.nd 5 [.lf b]] ∧ ((tkT T b).text = intT ∨ (tkT T b).text = boolT) ∧ a.2.e = 0 := by
  unfold typBT at h ⊢
  split
  · rename_i hc
    rcases hc with hc | hc
    · exact ⟨a.2.i, rfl, .inl (is_w T hc).1, (is_w T hc).2.2⟩
    · exact ⟨a.2.i, rfl, .inr (is_w T hc).1, (is_w T hc).2.2⟩
  · rename_i hc
    rw [if_neg hc] at h
    exact absurd h (fail_e T (by decide) _)
include hx
theorem typed_w {s : St} (h : (typedT T et s).2.e = 0) : ShT T (typedT T et s).1 ∧ s.e = 0 := by
  unfold typedT at h ⊢
  have key : ∀ b : RT, (typCT T et b).2.e = 0 → ∃ cl, (typCT T et b).1 = b.1 ++ cl ∧ ShC T cl ∧ b.2.e = 0 := fun b hb => by
    unfold typCT at hb ⊢
    split
    · rename_i hc
      rw [if_pos hc] at hb
      obtain ⟨j, hj, -, -, he⟩ := must_k T hb
      have he : (et (setIn true (leafT T b.2).2)).2.e = 0 := he
      obtain ⟨u, hu, hu1, hu2⟩ := hx _ he
      simp only []
      rw [hj, hu]
      exact ⟨_, rfl, ShC.yes _ _ u hu1 hu2, (is_w T hc).2.2⟩
    · rename_i hc
      rw [if_neg hc] at hb
      exact ⟨[], by simp, ShC.no, hb⟩
  obtain ⟨cl, h1, h2, h3⟩ := key _ h
  obtain ⟨b, h4, h5, h6⟩ := typB_w T h3
  obtain ⟨c, h7, -, h8, h9⟩ := must_k T h6
  rw [h1, h4, h7]
  exact ⟨ShT.mk c b cl h8 h5 h2, h9⟩
theorem par_w {s : St} (h : (parT T et s).2.e = 0) : (∃ p, (parT T et s).1 = [p] ∧ ShP T p) ∧ s.e = 0 := by
  unfold parT at h ⊢
  obtain ⟨h1, h2⟩ := typed_w T hx h
  obtain ⟨h3, h4, h5⟩ := kind_w T h2
  simp only []
  rw [h3]
  exact ⟨⟨_, rfl, ShP.mk _ _ h4 h1⟩, h5⟩
theorem parts_p : ∀ f k r, (r.2.e = 0 → ShPs T r.1) → (partsT T (parT T et) f k r).2.e = 0 → ShPs T (partsT T (parT T et) f k r).1
  | 0, k, r, h, he => h he
  | f + 1, k, r, h, he => by
    unfold partsT at he ⊢
    split
    · rename_i hcc
      rw [if_pos hcc] at he
      refine parts_p f _ _ (fun he => ?_) he
      have he : (parT T et (if k = 8 then failQ T 15 (leafT T r.2).2 else (leafT T r.2).2)).2.e = 0 := he
      obtain ⟨⟨p, hp, hp2⟩, -⟩ := par_w T hx he
      show ShPs T (r.1 ++ (leafT T r.2).1 ++ (parT T et (if k = 8 then failQ T 15 (leafT T r.2).2 else (leafT T r.2).2)).1)
      rw [hp, leaf_1]
      exact ShPs.more _ _ _ (h (is_w T hcc).2.2) (is_k T hcc).2.2.1 hp2
    · rename_i hcc
      rw [if_neg hcc] at he
      exact h he
theorem params_w {s : St} (h : (paramsT T et s).2.e = 0) : ShPs T (paramsT T et s).1 := by
  unfold paramsT at h ⊢
  refine parts_p T hx _ _ _ (fun he => ?_) h
  obtain ⟨⟨p, hp, hp2⟩, -⟩ := par_w T hx he
  rw [hp]; exact ShPs.one p hp2
omit hx in
theorem defB_w {p : RT} (h : (defBT T p).2.e = 0) : ∃ f n o, (defBT T p).1 = p.1 ++ [.lf f, .lf n, .lf o] ∧ (tkT T f).text = [102, 117, 110] ∧ (tkT T f).kind ≠ 1 ∧ (tkT T n).kind = 1 ∧ (tkT T o).kind ≠ 1 ∧ p.2.e = 0 := by
  unfold defBT at h ⊢
  simp only [] at h ⊢
  obtain ⟨o, ho, -, hok, e7⟩ := must_k T h
  obtain ⟨hn, hnk, e8⟩ := kind_w T e7
  obtain ⟨f, hf, hft, hfk, e9⟩ := must_k T e8
  rw [ho, hn, hf]
  exact ⟨f, _, o, rfl, hft, hfk, hnk, hok, e9⟩
theorem defC_w {o : RT} (h : (defCT T et o).2.e = 0) : ∃ ps, (defCT T et o).1 = o.1 ++ ps ∧ (ps = [] ∨ ShPs T ps) ∧ o.2.e = 0 := by
  unfold defCT at h ⊢
  split
  · rename_i hcc
    rw [if_pos hcc] at h
    exact ⟨_, rfl, .inr (params_w T hx h), hcc.1⟩
  · rename_i hcc
    rw [if_neg hcc] at h
    exact ⟨[], by simp, .inl rfl, h⟩
include hk
theorem defD_w {r : RT} (h : (defDT T et r).2.e = 0) : ∃ c tl q u m, (defDT T et r).1 = r.1 ++ [.lf c] ++ tl ++ [.lf q] ++ [u] ++ [.lf m] ∧ (tkT T c).kind ≠ 1 ∧ ShT T tl ∧ (tkT T q).kind ≠ 1 ∧ isN u = true ∧ WE T u ∧ (tkT T m).kind ≠ 1 ∧ r.2.e = 0 := by
  unfold defDT at h ⊢
  simp only [] at h ⊢
  obtain ⟨m, hm, -, hmk, e1⟩ := must_k T h
  obtain ⟨u, hu, hu1, hu2⟩ := hx _ e1
  have e2 := alive (hk _) e1
  obtain ⟨q, hq, -, hqk, e3⟩ := must_k T e2
  obtain ⟨ht, e4⟩ := typed_w T hx e3
  obtain ⟨c, hc, -, hck, e5⟩ := must_k T e4
  rw [hm, hu, hq, hc]
  exact ⟨c, _, q, u, m, by simp only [List.append_assoc], hck, ht, hqk, hu1, hu2, hmk, e5⟩
theorem def_w {s : St} (h : (defT T et s).2.e = 0) : ∃ d, (defT T et s).1 = [d] ∧ ShD T d := by
  unfold defT at h ⊢
  simp only [] at h ⊢
  obtain ⟨c, tl, q, u, m, h1, hck, ht, hqk, hu1, hu2, hmk, e1⟩ := defD_w T hx hk h
  obtain ⟨ps, hps, hpw, e2⟩ := defC_w T hx e1
  obtain ⟨f, n, o, hB, hft, hfk, hnk, hok, e3⟩ := defB_w T e2
  obtain ⟨pb, hpb, hpw2⟩ : ∃ pb, (defAT T s).1 = pb ∧ (pb = [] ∨ ∃ p, pb = [.lf p] ∧ (tkT T p).text = pubT ∧ (tkT T p).kind ≠ 1) := by
    unfold defAT
    split
    · rename_i hcc
      exact ⟨_, rfl, .inr ⟨_, (is_k T hcc).1, (is_k T hcc).2.1, (is_k T hcc).2.2.1⟩⟩
    · exact ⟨[], rfl, .inl rfl⟩
  rw [h1, hps, hB, hpb]
  exact ⟨_, rfl, ShD.mk pb f n o ps c tl q u m hpw2 hft hfk hnk hok hpw hck ht hqk hu1 hu2 hmk⟩
omit hx hk
theorem many_all {c : St → Bool} {step : RT → RT} {most : Nat} {Q : Tr → Prop} (hs : ∀ r, c r.2 = true → (step r).2.e = 0 → ∃ t, (step r).1 = r.1 ++ [t] ∧ Q t ∧ r.2.e = 0) :
    ∀ f k (r : RT), (manyT T c step most f k r).1 = true → (manyT T c step most f k r).2.2.e = 0 → ∃ l, (manyT T c step most f k r).2.1 = r.1 ++ l ∧ (∀ t ∈ l, Q t) ∧ r.2.e = 0
  | 0, k, r, _, he => ⟨[], by simp [manyT], fun t ht => by simp at ht, he⟩
  | f + 1, k, r, h1, he => by
    unfold manyT at h1 he ⊢
    split
    · rename_i hc
      rw [if_pos hc] at h1 he
      split
      · rename_i hk
        rw [if_pos hk] at h1; cases h1
      · rename_i hk
        rw [if_neg hk] at h1 he
        obtain ⟨l, h2, h3, h4⟩ := many_all hs f _ _ h1 he
        obtain ⟨t, h5, h6, h7⟩ := hs r hc h4
        refine ⟨t :: l, by rw [h2, h5]; simp, fun u hu => ?_, h7⟩
        rcases List.mem_cons.1 hu with rfl | hu
        · exact h6
        · exact h3 u hu
    · rename_i hc
      rw [if_neg hc] at h1 he
      exact ⟨[], by simp, fun t ht => by simp at ht, he⟩
end
theorem prog_w {T : List Tok} (hT : NumTok T) {D : Nat} (he : (treeT T D false).2.e = 0) : ShProg T (treeT T D false).1 := by
  have hw := nx_w T hT D D (Nat.le_refl _)
  have hk := nx_keep T D D
  have e0 : treeT T D false = programT T (nxT T D D).expr startQ := rfl
  rw [e0] at he ⊢
  unfold programT at he ⊢
  by_cases h1 : (importsT T ([], startQ)).1 = false
  · rw [if_pos h1] at he
    exact absurd he (many_bad T _ _ _ h1)
  · have h1' : (importsT T ([], startQ)).1 = true := by simpa using h1
    rw [if_neg h1] at he ⊢
    by_cases h2 : (defsT T (nxT T D D).expr (importsT T ([], startQ)).2).1 = false
    · rw [if_pos h2] at he
      exact absurd he (many_bad T _ _ _ h2)
    · have h2' : (defsT T (nxT T D D).expr (importsT T ([], startQ)).2).1 = true := by simpa using h2
      rw [if_neg h2] at he ⊢
      obtain ⟨k1, -, e1⟩ := kind_w T he
      obtain ⟨ds, hd, hd2, e2⟩ := many_all T (Q := ShD T) (fun r hc hs => by
        obtain ⟨d, hd, hd2⟩ := def_w T hw.expr hk.expr (s := r.2) hs
        refine ⟨d, ?_, hd2, ?_⟩
        · show r.1 ++ (defT T (nxT T D D).expr r.2).1 = _
          rw [hd]
        · unfold isDef at hc
          rcases Bool.or_eq_true_iff.1 hc with hc | hc <;> exact (is_w T hc).2.2) _ _ _ h2' e1
      obtain ⟨is, hi, hi2, -⟩ := many_all T (Q := ShI T) (fun r hc hs => by
        unfold impStepT at hs ⊢
        simp only [] at hs ⊢
        obtain ⟨m, hm, -, -, e3⟩ := must_k T hs
        obtain ⟨hn, hnk, e4⟩ := kind_w T e3
        refine ⟨_, ?_, ShI.mk r.2.i _ m hnk, (is_w T hc).2.2⟩
        rw [hm, hn, leaf_1]; rfl) _ _ _ h1' e2
      have hd' : (defsT T (nxT T D D).expr (importsT T ([], startQ)).2).2.1 = (importsT T ([], startQ)).2.1 ++ ds := hd
      have hi' : (importsT T ([], startQ)).2.1 = [] ++ is := hi
      refine ⟨is, ds, (defsT T (nxT T D D).expr (importsT T ([], startQ)).2).2.2.i, ?_, hi2, hd2⟩
      show (defsT T (nxT T D D).expr (importsT T ([], startQ)).2).2.1 ++ (kindT T 5 (defsT T (nxT T D D).expr (importsT T ([], startQ)).2).2.2).1 = _
      rw [k1, hd', hi']; rfl
end Go.Proofs.YtmlcpihedmmlfaaGreatDoor
