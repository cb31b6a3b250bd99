/- Lemmas. -/
import Derived.Test.YtccokidhngdjnaaGreatDoorP32
import Derived.Test.YtccokidhngdjnaaGreatDoorP9
set_option linter.unusedVariables false
set_option linter.unusedSimpArgs false
namespace Go.Proofs.YtccokidhngdjnaaGreatDoor
open Go.RowKit

theorem put4c {W : World} {B : Nat} {T : TypeId} {x0 x1 x2 x3 : Value} (h0 : W.heap[B]? = some (.cells #[x0, x1, x2, x3] T (0, 0))) (a b c d : Value) : ((((W.setCell ⟨B, 0, none⟩ a).setCell ⟨B, 1, none⟩ b).setCell ⟨B, 2, none⟩ c).setCell ⟨B, 3, none⟩ d).heap[B]? = some (.cells #[a, b, c, d] T (0, 0)) ∧ Fr2 (Self B) W ((((W.setCell ⟨B, 0, none⟩ a).setCell ⟨B, 1, none⟩ b).setCell ⟨B, 2, none⟩ c).setCell ⟨B, 3, none⟩ d) := by
  have h1 : (W.setCell ⟨B, 0, none⟩ a).heap[B]? = some (.cells #[a, x1, x2, x3] T (0, 0)) := set_cells (i := 0) (u := a) h0
  have h2 : ((W.setCell ⟨B, 0, none⟩ a).setCell ⟨B, 1, none⟩ b).heap[B]? = some (.cells #[a, b, x2, x3] T (0, 0)) := set_cells (i := 1) (u := b) h1
  have h3 : (((W.setCell ⟨B, 0, none⟩ a).setCell ⟨B, 1, none⟩ b).setCell ⟨B, 2, none⟩ c).heap[B]? = some (.cells #[a, b, c, x3] T (0, 0)) := set_cells (i := 2) (u := c) h2
  have h4 : ((((W.setCell ⟨B, 0, none⟩ a).setCell ⟨B, 1, none⟩ b).setCell ⟨B, 2, none⟩ c).setCell ⟨B, 3, none⟩ d).heap[B]? = some (.cells #[a, b, c, d] T (0, 0)) := set_cells (i := 3) (u := d) h3
  exact ⟨h4, (Fr2.setCell (Fr2.setCell (Fr2.setCell (Fr2.setCell (Fr2.refl (Self B) W) (g := B) (j := 0) (mine B) a) (g := B) (j := 1) (mine B) b) (g := B) (j := 2) (mine B) c) (g := B) (j := 3) (mine B) d)⟩
theorem put8c {W : World} {B : Nat} {T : TypeId} {x0 x1 x2 x3 x4 x5 x6 x7 : Value} (h0 : W.heap[B]? = some (.cells #[x0, x1, x2, x3, x4, x5, x6, x7] T (0, 0))) (a b c d e f g h : Value) : ((((((((W.setCell ⟨B, 0, none⟩ a).setCell ⟨B, 1, none⟩ b).setCell ⟨B, 2, none⟩ c).setCell ⟨B, 3, none⟩ d).setCell ⟨B, 4, none⟩ e).setCell ⟨B, 5, none⟩ f).setCell ⟨B, 6, none⟩ g).setCell ⟨B, 7, none⟩ h).heap[B]? = some (.cells #[a, b, c, d, e, f, g, h] T (0, 0)) ∧ Fr2 (Self B) W ((((((((W.setCell ⟨B, 0, none⟩ a).setCell ⟨B, 1, none⟩ b).setCell ⟨B, 2, none⟩ c).setCell ⟨B, 3, none⟩ d).setCell ⟨B, 4, none⟩ e).setCell ⟨B, 5, none⟩ f).setCell ⟨B, 6, none⟩ g).setCell ⟨B, 7, none⟩ h) := by
  have h1 : (W.setCell ⟨B, 0, none⟩ a).heap[B]? = some (.cells #[a, x1, x2, x3, x4, x5, x6, x7] T (0, 0)) := set_cells (i := 0) (u := a) h0
  have h2 : ((W.setCell ⟨B, 0, none⟩ a).setCell ⟨B, 1, none⟩ b).heap[B]? = some (.cells #[a, b, x2, x3, x4, x5, x6, x7] T (0, 0)) := set_cells (i := 1) (u := b) h1
  have h3 : (((W.setCell ⟨B, 0, none⟩ a).setCell ⟨B, 1, none⟩ b).setCell ⟨B, 2, none⟩ c).heap[B]? = some (.cells #[a, b, c, x3, x4, x5, x6, x7] T (0, 0)) := set_cells (i := 2) (u := c) h2
  have h4 : ((((W.setCell ⟨B, 0, none⟩ a).setCell ⟨B, 1, none⟩ b).setCell ⟨B, 2, none⟩ c).setCell ⟨B, 3, none⟩ d).heap[B]? = some (.cells #[a, b, c, d, x4, x5, x6, x7] T (0, 0)) := set_cells (i := 3) (u := d) h3
  have h5 : (((((W.setCell ⟨B, 0, none⟩ a).setCell ⟨B, 1, none⟩ b).setCell ⟨B, 2, none⟩ c).setCell ⟨B, 3, none⟩ d).setCell ⟨B, 4, none⟩ e).heap[B]? = some (.cells #[a, b, c, d, e, x5, x6, x7] T (0, 0)) := set_cells (i := 4) (u := e) h4
  have h6 : ((((((W.setCell ⟨B, 0, none⟩ a).setCell ⟨B, 1, none⟩ b).setCell ⟨B, 2, none⟩ c).setCell ⟨B, 3, none⟩ d).setCell ⟨B, 4, none⟩ e).setCell ⟨B, 5, none⟩ f).heap[B]? = some (.cells #[a, b, c, d, e, f, x6, x7] T (0, 0)) := set_cells (i := 5) (u := f) h5
  have h7 : (((((((W.setCell ⟨B, 0, none⟩ a).setCell ⟨B, 1, none⟩ b).setCell ⟨B, 2, none⟩ c).setCell ⟨B, 3, none⟩ d).setCell ⟨B, 4, none⟩ e).setCell ⟨B, 5, none⟩ f).setCell ⟨B, 6, none⟩ g).heap[B]? = some (.cells #[a, b, c, d, e, f, g, x7] T (0, 0)) := set_cells (i := 6) (u := g) h6
  have h8 : ((((((((W.setCell ⟨B, 0, none⟩ a).setCell ⟨B, 1, none⟩ b).setCell ⟨B, 2, none⟩ c).setCell ⟨B, 3, none⟩ d).setCell ⟨B, 4, none⟩ e).setCell ⟨B, 5, none⟩ f).setCell ⟨B, 6, none⟩ g).setCell ⟨B, 7, none⟩ h).heap[B]? = some (.cells #[a, b, c, d, e, f, g, h] T (0, 0)) := set_cells (i := 7) (u := h) h7
  exact ⟨h8, (Fr2.setCell (Fr2.setCell (Fr2.setCell (Fr2.setCell (Fr2.setCell (Fr2.setCell (Fr2.setCell (Fr2.setCell (Fr2.refl (Self B) W) (g := B) (j := 0) (mine B) a) (g := B) (j := 1) (mine B) b) (g := B) (j := 2) (mine B) c) (g := B) (j := 3) (mine B) d) (g := B) (j := 4) (mine B) e) (g := B) (j := 5) (mine B) f) (g := B) (j := 6) (mine B) g) (g := B) (j := 7) (mine B) h)⟩
theorem cells8x {w : World} {r : Nat} {a b c d e f g h : Value} {T : TypeId} (h0 : w.heap[r]? = some (.cells #[a, b, c, d, e, f, g, h] T (0, 0))) : w.cell? ⟨r, 0, none⟩ = some a ∧ w.cell? ⟨r, 1, none⟩ = some b ∧ w.cell? ⟨r, 2, none⟩ = some c ∧ w.cell? ⟨r, 3, none⟩ = some d ∧ w.cell? ⟨r, 4, none⟩ = some e ∧ w.cell? ⟨r, 5, none⟩ = some f ∧ w.cell? ⟨r, 6, none⟩ = some g ∧ w.cell? ⟨r, 7, none⟩ = some h ∧ ∀ o, w.frozen? ⟨r, o, none⟩ = false :=
  ⟨by rw [cell_of_row w r 0 _ T (0, 0) h0]; rfl, by rw [cell_of_row w r 1 _ T (0, 0) h0]; rfl, by rw [cell_of_row w r 2 _ T (0, 0) h0]; rfl, by rw [cell_of_row w r 3 _ T (0, 0) h0]; rfl, by rw [cell_of_row w r 4 _ T (0, 0) h0]; rfl, by rw [cell_of_row w r 5 _ T (0, 0) h0]; rfl, by rw [cell_of_row w r 6 _ T (0, 0) h0]; rfl, by rw [cell_of_row w r 7 _ T (0, 0) h0]; rfl, fun o => by simp [World.frozen?, h0]⟩

set_option maxRecDepth 100000 in
set_option maxHeartbeats 4000000 in
theorem kind_r {N : List Nd} {K : Kf} (hN : N.length ≤ 150000) {n : Nat} {x : Nd} (hx : N[n]? = some x) (pt pn : Option Addr) (mt ct cn : Nat) (w : World) (h : NodesAt w pn N K) :
    Calls Tryz.prog 64 #[.agg #[.slice pt mt ct, .slice pn N.length cn], .int .i64 (n : Int)] w (ValPost (.int .i64 x.kind) w) := by
  obtain ⟨g, off, rfl, hgl, c0, c1, c2⟩ := node_at h hx
  have hn := (List.getElem?_eq_some_iff.1 hx).1
  obtain ⟨M, hM⟩ : ∃ M, N.length = M := ⟨_, rfl⟩
  rw [hM] at hN hn ⊢
  have x1 : (0 : Int) ≤ (n : Int) := by omega
  have x2 : (n : Int) < (M : Int) := by omega
  have x3 : decide (n < M) = true := decide_eq_true hn
  have x4 : decide ((n : Int) < (M : Int)) = true := decide_eq_true x2
  clear h hx hM
  go_enter Tryz.func64, Tryz.ntmps64
  go_wp2_with fail
  go_ret
  exact ⟨rfl, World.grownBy_alloc w _ none⟩

set_option maxRecDepth 100000 in
set_option maxHeartbeats 4000000 in
theorem kids_r {N : List Nd} {K : Kf} (hN : N.length ≤ 150000) {n : Nat} {x : Nd} (hx : N[n]? = some x) (pt pn : Option Addr) (mt ct cn : Nat) (w : World) (h : NodesAt w pn N K) :
    Calls Tryz.prog 40 #[.agg #[.slice pt mt ct, .slice pn N.length cn], .int .i64 (n : Int)] w (ValPost (.slice (K n).1 x.kids.length (K n).2) w) := by
  obtain ⟨g, off, rfl, hgl, c0, c1, c2⟩ := node_at h hx
  have hn := (List.getElem?_eq_some_iff.1 hx).1
  obtain ⟨M, hM⟩ : ∃ M, N.length = M := ⟨_, rfl⟩
  rw [hM] at hN hn ⊢
  have x1 : (0 : Int) ≤ (n : Int) := by omega
  have x2 : (n : Int) < (M : Int) := by omega
  have x3 : decide (n < M) = true := decide_eq_true hn
  have x4 : decide ((n : Int) < (M : Int)) = true := decide_eq_true x2
  generalize (K n).1 = pk at *
  generalize (K n).2 = ck at *
  clear h hx hM
  go_enter Tryz.func40, Tryz.ntmps40
  go_wp2_with fail
  go_ret
  exact ⟨rfl, World.grownBy_alloc w _ none⟩

/-- The four cells of a token in a slice. -/
theorem tok_cells {w : World} {p : Option Addr} {T : List Tok} (h : TAt w p T) {i : Nat} (hi : i < T.length) : ∃ g off, p = some ⟨g, off, none⟩ ∧ g < w.heap.size ∧ w.cell? ⟨g, off + i * 4, none⟩ = some (.int .i64 ((tkT T i).kind : Int)) ∧ w.cell? ⟨g, off + i * 4 + 1, none⟩ = some (strV (tkT T i).lead) ∧ w.cell? ⟨g, off + i * 4 + 2, none⟩ = some (strV (tkT T i).text) ∧ w.cell? ⟨g, off + i * 4 + 3, none⟩ = some (.int .i64 ((tkT T i).pos : Int)) := by
  have ht : T[i]? = some (tkT T i) := by unfold tkT; rw [List.getElem?_eq_getElem hi]; rfl
  obtain ⟨g, off, rfl, hl, hc⟩ := h.resolve_left (fun e => by rw [e] at hi; simp at hi)
  exact ⟨g, off, rfl, hl, hc i _ ht⟩
def tokVal (t : Tok) : Value := .agg #[.int .i64 (t.kind : Int), strV t.lead, strV t.text, .int .i64 (t.pos : Int)]

set_option maxRecDepth 100000 in
set_option maxHeartbeats 8000000 in
theorem token_r {T : List Tok} {N : List Nd} {K : Kf} (hT : T.length ≤ 150000) (hN : N.length ≤ 150000) {n i : Nat} (hx : N[n]? = some ⟨19, (i : Int), []⟩) (hi : i < T.length) (pt pn : Option Addr) (ct cn : Nat) (w : World) (ht : TAt w pt T) (h : NodesAt w pn N K) :
    Calls Tryz.prog 99 #[.agg #[.slice pt T.length ct, .slice pn N.length cn], .int .i64 (n : Int)] w (ValPost (tokVal (tkT T i)) w) := by
  obtain ⟨g, off, rfl, hgl, c0, c1, c2⟩ := node_at h hx
  obtain ⟨g2, off2, rfl, hgl2, t0, t1, t2, t3⟩ := tok_cells ht hi
  have hn := (List.getElem?_eq_some_iff.1 hx).1
  obtain ⟨M, hM⟩ : ∃ M, N.length = M := ⟨_, rfl⟩
  obtain ⟨m, hm⟩ : ∃ m, T.length = m := ⟨_, rfl⟩
  rw [hM] at hN hn ⊢
  rw [hm] at hT hi ⊢
  have x1 : (0 : Int) ≤ (n : Int) := by omega
  have x2 : (n : Int) < (M : Int) := by omega
  have x3 : decide (n < M) = true := decide_eq_true hn
  have x4 : decide ((n : Int) < (M : Int)) = true := decide_eq_true x2
  have y1 : (0 : Int) ≤ (i : Int) := by omega
  have y2 : (i : Int) < (m : Int) := by omega
  have y3 : decide (i < m) = true := decide_eq_true hi
  have y4 : decide ((i : Int) < (m : Int)) = true := decide_eq_true y2
  unfold tokVal
  unfold strV at t1 t2 ⊢
  generalize (⟨(tkT T i).lead.toArray⟩ : ByteArray) = le at *
  generalize (⟨(tkT T i).text.toArray⟩ : ByteArray) = te at *
  generalize (tkT T i).kind = k at *
  generalize (tkT T i).pos = p at *
  clear h hx hM ht hm c0 c2
  go_enter Tryz.func99, Tryz.ntmps99
  go_wp2_with fail
  have hA := heap_alloc_new w (.cells #[.slice (some ⟨g2, off2, none⟩) m ct, .slice (some ⟨g, off, none⟩) M cn] 85)
  have hgA := World.grownBy_alloc w (.cells #[.slice (some ⟨g2, off2, none⟩) m ct, .slice (some ⟨g, off, none⟩) M cn] 85) none
  have hsA : (w.alloc (.cells #[.slice (some ⟨g2, off2, none⟩) m ct, .slice (some ⟨g, off, none⟩) M cn] 85)).heap.size = w.heap.size + 1 := by simp
  generalize (w.alloc (.cells #[.slice (some ⟨g2, off2, none⟩) m ct, .slice (some ⟨g, off, none⟩) M cn] 85)) = W1 at *
  have hB := heap_alloc_new W1 (.cells #[.int .i64 0, .string ⟨#[]⟩, .string ⟨#[]⟩, .int .i64 0] 123)
  have hgB := World.grownBy_alloc W1 (.cells #[.int .i64 0, .string ⟨#[]⟩, .string ⟨#[]⟩, .int .i64 0] 123) none
  rw [hsA] at hB
  generalize (W1.alloc (.cells #[.int .i64 0, .string ⟨#[]⟩, .string ⟨#[]⟩, .int .i64 0] 123)) = W at *
  obtain ⟨b, hb⟩ : ∃ b, w.heap.size = b := ⟨_, rfl⟩
  have HBW := Lib.hid hb
  rw [hb] at hA hB ⊢
  obtain ⟨b1, hb1⟩ : ∃ x, b + 1 = x := ⟨_, rfl⟩
  rw [hb1] at hB ⊢
  have hlt : b < b1 := by omega
  have hA2 := bx hgB hA
  obtain ⟨a0, a1, a2⟩ := cells2 hA2
  have HG0 := Lib.hid (gb_trans hgA hgB)
  have c1 := HG0.out.cell c1 (by simp)
  have t0 := HG0.out.cell t0 (by simp)
  have t1 := HG0.out.cell t1 (by simp)
  have t2 := HG0.out.cell t2 (by simp)
  have t3 := HG0.out.cell t3 (by simp)
  have HB := Lib.hid hB
  obtain ⟨r0, r1, r2, r3, r4⟩ := cells4' hB
  clear hA hA2 hB hgA hgB hsA hb hb1
  go_region
  all_goals
    obtain ⟨hb5, hf5⟩ := put4c HB.out (.int .i64 (k : Int)) (.string le) (.string te) (.int .i64 (p : Int))
    have HF5 := Lib.hid hf5
    obtain ⟨k0, k1, k2, k3, -⟩ := cells4' hb5
    clear a0 a1 a2 r0 r1 r2 r3 r4 c1 t0 t1 t2 t3 HB hb5 hf5
    generalize ((((W.setCell ⟨b1, 0, none⟩ (.int .i64 (k : Int))).setCell ⟨b1, 1, none⟩ (.string le)).setCell ⟨b1, 2, none⟩ (.string te)).setCell ⟨b1, 3, none⟩ (.int .i64 (p : Int))) = W5 at *
    go_wp2_with fail
    refine bodyPost_ret (v := .agg #[.int .i64 (k : Int), .string le, .string te, .int .i64 (p : Int)]) (by simp [results, Tryz.results99, go_sem, k0, k1, k2, k3]) rfl ⟨rfl, Fr2.after HG0.out (fr2_drew HF5.out) (fun j hj => by have e : j = b1 := hj; rw [HBW.out]; omega)⟩

set_option maxRecDepth 100000 in
set_option maxHeartbeats 4000000 in
theorem unary_c (x : ByteArray) (w : World) : Calls Tryz.prog 97 #[.string x] w (ValPost (.int .i64 (unE x.data.toList : Nat)) w) := by
  have hx : x.toList = x.data.toList := ByteArray.toList_eq x
  by_cases h : x.data.toList = [45]
  · have e : unE x.data.toList = 5 := by unfold unE; rw [if_pos h]
    have e1 : (x.toList == [45]) = true := by rw [hx]; simpa using h
    rw [e]
    clear hx h e
    go_enter Tryz.func97, Tryz.ntmps97
    go_wp2_with fail
    go_ret
    exact ⟨rfl, gb_refl _ _⟩
  · have e : unE x.data.toList = 6 := by unfold unE; rw [if_neg h]
    have e1 : (x.toList == [45]) = false := by rw [hx]; simpa using h
    rw [e]
    clear hx h e
    go_enter Tryz.func97, Tryz.ntmps97
    go_wp2_with fail
    go_ret
    exact ⟨rfl, gb_refl _ _⟩

set_option maxRecDepth 100000 in
set_option maxHeartbeats 4000000 in
theorem called_c (T : List Tok) (p : Option Addr) (c : Nat) (w : World) (hT : T.length ≤ 150000) (h1 : 1 < T.length) (h2 : (tkT T 1).text = [46] → 2 < T.length) (ht : TAt w p T) :
    Calls Tryz.prog 98 #[.slice p T.length c] w (fun e w' => e = .returned (.tuple #[strV (if (tkT T 1).text = [46] then (tkT T 0).text else []), strV (if (tkT T 1).text = [46] then (tkT T 2).text else (tkT T 0).text)]) ∧ w.grownBy w' none) := by
  obtain ⟨g, off, rfl, hgl, -, -, t2, -⟩ := tok_cells ht (i := 0) (by omega)
  obtain ⟨g1, off1, hp1, -, -, -, u2, -⟩ := tok_cells ht (i := 1) h1
  injection hp1 with hp1; injection hp1 with hp1 hp2; subst hp1 hp2
  have hx : (⟨(tkT T 1).text.toArray⟩ : ByteArray).toList = (tkT T 1).text := by rw [ByteArray.toList_eq]
  unfold strV at t2 u2 ⊢
  obtain ⟨m, hm⟩ : ∃ m, T.length = m := ⟨_, rfl⟩
  have y0 : decide ((0 : Int) < (m : Int)) = true := decide_eq_true (by omega)
  have y1 : decide ((1 : Int) < (m : Int)) = true := decide_eq_true (by omega)
  have z0 : decide (0 < m) = true := decide_eq_true (by omega)
  have z1 : decide (1 < m) = true := decide_eq_true (by omega)
  by_cases hd : (tkT T 1).text = [46]
  · obtain ⟨g3, off3, hp3, -, -, -, v2, -⟩ := tok_cells ht (i := 2) (h2 hd)
    injection hp3 with hp3; injection hp3 with hp3 hp4; subst hp3 hp4
    unfold strV at v2
    have h2 := h2 hd
    have y2 : decide ((2 : Int) < (m : Int)) = true := decide_eq_true (by omega)
    have z2 : decide (2 < m) = true := decide_eq_true (by omega)
    have e1 : ((⟨(tkT T 1).text.toArray⟩ : ByteArray).toList == [46]) = true := by rw [hx]; simpa using hd
    rw [if_pos hd, if_pos hd, hm]
    generalize (⟨(tkT T 1).text.toArray⟩ : ByteArray) = x1 at *
    generalize (⟨(tkT T 0).text.toArray⟩ : ByteArray) = x0 at *
    generalize (⟨(tkT T 2).text.toArray⟩ : ByteArray) = x2 at *
    rw [hm] at hT h1 h2
    clear hx ht hd hm
    go_enter Tryz.func98, Tryz.ntmps98
    go_wp2_with fail
    go_quiet (fail)
    go_wp2_with fail
    go_ret2
    exact ⟨rfl, gb_drewN (gb_refl _ _) _⟩
  · have e1 : ((⟨(tkT T 1).text.toArray⟩ : ByteArray).toList == [46]) = false := by rw [hx]; simpa using hd
    rw [if_neg hd, if_neg hd, hm]
    generalize (⟨(tkT T 1).text.toArray⟩ : ByteArray) = x1 at *
    generalize (⟨(tkT T 0).text.toArray⟩ : ByteArray) = x0 at *
    rw [hm] at hT h1
    clear hx ht hd hm h2
    go_enter Tryz.func98, Tryz.ntmps98
    go_wp2_with fail
    go_quiet (fail)
    go_wp2_with fail
    go_ret2
    exact ⟨rfl, gb_drewN (gb_refl _ _) _⟩

/-- What a call that answers a list of places leaves. -/
def CLPost (b bb : Nat) (T : List Tok) (D n k : Nat) (A0 : Nat → Prop) (vn0 : Value) (w0 : World) (s : St) (r : RT) (N : List Nd) (L : List (Value × Th)) (e : Ending) (w' : World) : Prop :=
  ∃ (v : Value) (vs : List Int) (N' : List Nd) (vn' : Value), e = .returned v ∧ KX b bb T D n A0 vn0 w0 w' r.2 r.2.i N' vn' ((v, .ints vs) :: L) ∧ OutL k N s r N' vs ∧ (s.e ≠ 0 → r.2.e ≠ 0) ∧ vs.length ≤ 300
def boxV (g : Nat) : Value := .slice (some ⟨g, 0, none⟩) 1 1
def boxT (b : Nat) : Th := .box (.pointer (some ⟨b, 0, none⟩))
/-- What a closure over the parser does. -/
def SubF (b bb : Nat) (T : List Tok) (D n : Nat) (P : St → Prop) (f : Nat) (sub : St → RT) : Prop :=
  ∀ (A0 : Nat → Prop) (vn0 : Value) (w0 w : World) (s : St) (N : List Nd) (vn : Value) (L : List (Value × Th)) (g : Nat), P s → KX b bb T D n A0 vn0 w0 w s s.i N vn L → (boxV g, boxT b) ∈ L → Calls Tryz.prog f #[.pointer (some ⟨g, 0, none⟩)] w (CPost b bb T D n 0 A0 vn0 w0 s (sub s) N L)

section
variable {b bb : Nat} {T : List Tok} {D n : Nat} {A0 : Nat → Prop} {vn0 : Value} {w0 w w' : World} {s : St} {u : Nat} {N : List Nd} {vn : Value} {L : List (Value × Th)}
theorem KX.room (h : KX b bb T D n A0 vn0 w0 w s u N vn L) : N.length ≤ 2 * u := by
  obtain ⟨A, h1, -⟩ := h
  exact h1.few
theorem KX.boxc {g : Nat} {x : Value} (h : KX b bb T D n A0 vn0 w0 w s u N vn L) (hm : (boxV g, Th.box x) ∈ L) : w.cell? ⟨g, 0, none⟩ = some x := by
  obtain ⟨A, h1, h2, h3, -⟩ := h
  obtain ⟨g', e, hc⟩ := (h3 _ hm).1
  unfold boxV at e
  injection e with e1 e2 e3
  injection e1 with e1
  injection e1 with e1
  rw [e1]; exact hc
theorem vat1 (w : World) (x : Int) : VAt (w.alloc (.cells #[.int .i64 x] 3)) (some ⟨w.heap.size, 0, none⟩) (intsV [x]) := by
  refine .inr ⟨w.heap.size, 0, rfl, by simp, fun j v hj => ?_⟩
  rw [Nat.zero_add, cell_of_row _ _ j _ _ (0, 0) (heap_alloc_new w _)]
  simpa [intsV] using hj
end

section
variable (b bb : Nat) (T : List Tok) (D n : Nat)

set_option maxRecDepth 100000 in
set_option maxHeartbeats 8000000 in
theorem list_args (hC : TokC T) (sub : St → RT) (hS : SubF b bb T D n (fun s => s.inn = false) 167 sub) (hI : ∀ s, s.inn = false → (sub s).2.inn = false) {A0 : Nat → Prop} {vn0 : Value} {w0 w : World} {s : St} {N : List Nd} {vn : Value} {L : List (Value × Th)} {g : Nat} (hk : KX b bb T D n A0 vn0 w0 w s s.i N vn L) (hm : (boxV g, boxT b) ∈ L) (hi : s.inn = false) :
    Calls Tryz.prog 166 #[.pointer (some ⟨b, 0, none⟩), .func (.func 167) #[] #[.pointer (some ⟨g, 0, none⟩)]] w (CLPost b bb T D n 0 A0 vn0 w0 s (listP T sub s) N L) := by
  have HCC := Lib.hid hC; have HS := Lib.hid hS; have HI := Lib.hid hI; have HM := Lib.hid hm; have HIN := Lib.hid hi
  have HK := Lib.hid hk
  obtain ⟨R, hR⟩ : ∃ R, listP T sub s = R := ⟨_, rfl⟩
  have HRT : Hid (isQ T [41] s = true → R = ([], s)) := Lib.hid (fun h => by rw [← hR]; unfold listP; rw [if_pos h])
  have HRN : Hid (isQ T [41] s = false → loopP T sub 8 ([], s) = R) := Lib.hid (fun h => by rw [← hR]; unfold listP; rw [if_neg (by rw [h]; decide)])
  rw [hR]
  clear hC hS hI hm hk hi hR
  go_enter Tryz.func166, Tryz.ntmps166
  go_wp2_with fail
  refine (KX.at (ws := [[41]]) (HK.out.strs1 _ _) (List.mem_cons_self ..) (by decide)).mono ?_
  rintro e w1 ⟨rfl, hk⟩
  have HK := Lib.hid (hk.few (List.sublist_cons_self _ _))
  obtain ⟨a, ha⟩ : ∃ a, isQ T [41] s = a := ⟨_, rfl⟩
  rw [at_one HCC.out (by decide), ha]
  have HV := Lib.hid ha
  clear hk ha
  cases a
  · have HR := Lib.hid (HRN.out HV.out)
    go_wp2_with fail
    go_loopw [5, 9] (fun kv jv wr => ∃ (j : Nat) (r : RT) (N' : List Nd) (vn' : Value) (vs : List Int), j ≤ 8 ∧ jv = .int .i64 j ∧ Hid (KX b bb T D n A0 vn0 w0 wr r.2 r.2.i N' vn' ((kv, .ints vs) :: L)) ∧ Hid (OutL 0 N s r N' vs) ∧ Hid (loopP T sub (8 - j) r = R) ∧ Hid (vs.length ≤ 2 * j) ∧ Hid (s.e ≠ 0 → r.2.e ≠ 0) ∧ Hid (r.2.inn = false)) (fun _ jv _ => 8 - (intOf jv).toNat)
    case atStart => exact ⟨0, ([], s), N, vn, [], Nat.zero_le _, rfl, Lib.hid HK.out.nilS, Lib.hid (OutL.nil N s), HR, Lib.hid (Nat.le_refl _), Lib.hid (fun h => h), HIN⟩
    case round =>
      clear HK HR
      obtain ⟨j, r, N', vn', vs, hj, rfl, HK, HA, HR, HVS, HDD, HIN⟩ := hrel
      by_cases hlt : j < 8
      · have d1 : decide ((j : Int) < 8) = true := decide_eq_true (by omega)
        have d1' : decide (j < 8) = true := decide_eq_true hlt
        obtain ⟨m, hm⟩ : ∃ m, 8 - j = m + 1 := ⟨7 - j, by omega⟩
        have HMM := Lib.hid hm
        have HLP : Hid (loopP T sub (8 - j) r = if isQ T [44] (sub r.2).2 = true then loopP T sub m (r.1 ++ (sub r.2).1 ++ (leafT T (sub r.2).2).1, (leafT T (sub r.2).2).2) else (r.1 ++ (sub r.2).1, (sub r.2).2)) := Lib.hid (by rw [hm, loopP])
        rw [HLP.out] at HR
        clear hm HLP
        go_wp2_with fail
        refine (HS.out _ _ _ _ _ _ _ _ g HIN.out HK.out (List.mem_cons_of_mem _ HM.out)).mono ?_
        rintro e w2 ⟨v9, N9, vn9, rfl, hk9, ho9, hd9⟩
        have HK := Lib.hid hk9; have HA := Lib.hid (HA.out.app ho9.out hd9); have HDD := Lib.hid (fun h => hd9 (HDD.out h)); have HIN := Lib.hid (HI.out _ HIN.out)
        clear hk9 ho9 hd9
        go_wp2_with (at_builtin; go_loud (refine wpList_kx rfl _ _ rfl (HK.out.ints1 v9) (List.sublist_cons_self _ _) rfl rfl (l2 := [v9]) rfl (vat1 _ _) (by have := HVS.out; omega) (by simp) ?_))
        intro kv2 w3 hk3
        have HK := Lib.hid hk3; have HVS : Hid ((vs ++ [v9]).length ≤ 2 * j + 1) := Lib.hid (by have := HVS.out; rw [List.length_append]; show vs.length + 1 ≤ _; omega)
        clear hk3
        go_wp2_with fail
        refine (KX.at (ws := [[44]]) (HK.out.strs1 _ _) (List.mem_cons_self ..) (by decide)).mono ?_
        rintro e w4 ⟨rfl, hk⟩
        have HK := Lib.hid (hk.few (List.sublist_cons_self _ _))
        obtain ⟨a, ha⟩ : ∃ a, isQ T [44] (sub r.2).2 = a := ⟨_, rfl⟩
        rw [at_one HCC.out (by decide), ha]
        rw [ha] at HR
        have HV := Lib.hid ha
        clear hk ha
        cases a
        · rw [if_neg (by decide)] at HR
          go_wp2_with fail
          go_ret
          rw [← HR.out]
          exact ⟨_, _, _, _, rfl, HK.out, HA.out.weak (Nat.zero_le _), HDD.out, by have := HVS.out; omega⟩
        · rw [if_pos rfl] at HR
          have HLI := Lib.hid (is_kind HV.out)
          go_wp2_with fail
          refine (HK.out.take HCC.out HLI.out.1 HLI.out.2).mono ?_
          rintro e w5 ⟨v8, N8, vn8, rfl, hk8, ho8, hd8⟩
          have HK := Lib.hid hk8; have HA := Lib.hid (HA.out.app ho8.out hd8); have HDD := Lib.hid (fun h => hd8 (HDD.out h)); have HIN := Lib.hid ((leaf_keep T HLI.out.2).inn.trans HIN.out)
          clear hk8 ho8 hd8
          go_wp2_with (at_builtin; go_loud (refine wpList_kx rfl _ _ rfl (HK.out.ints1 v8) (List.sublist_cons_self _ _) rfl rfl (l2 := [v8]) rfl (vat1 _ _) (by have := HVS.out; omega) (by simp) ?_))
          intro kv3 w6 hk6
          have HK := Lib.hid hk6; have HVS : Hid ((vs ++ [v9, v8]).length ≤ 2 * (j + 1)) := Lib.hid (by have := HVS.out; rw [List.length_append] at this ⊢; simp only [List.length_cons, List.length_nil] at this ⊢; omega)
          clear hk6
          have HM1 : Hid (8 - (j + 1) = m) := Lib.hid (by have := HMM.out; omega)
          go_wp2_with fail
          go_roundw
          case rel => exact ⟨j + 1, (r.1 ++ (sub r.2).1 ++ (leafT T (sub r.2).2).1, (leafT T (sub r.2).2).2), N8, vn8, vs ++ [v9, v8], by omega, by go_num, HK, Lib.hid (by have h9 := HA.out.weak (Nat.zero_le _); rw [List.append_assoc vs] at h9; exact h9), Lib.hid (by rw [HM1.out]; exact HR.out), HVS, HDD, HIN⟩
          case measure => (simp [intOf] <;> omega)
      · obtain rfl : j = 8 := by omega
        have d1 : decide (((8 : Nat) : Int) < 8) = false := by decide
        have HRF : Hid (R = (r.1, failQ T 15 r.2)) := Lib.hid (by rw [← HR.out]; rfl)
        go_wp2_with fail
        refine (HK.out.fail 15 (by decide)).mono ?_
        rintro e w2 ⟨v9, N9, vn9, rfl, hk9, ho9, hd9⟩
        have HK := Lib.hid hk9; have HA := Lib.hid (HA.out.app ho9.out hd9); have HDD := Lib.hid (fun h => hd9 (HDD.out h))
        clear hk9 ho9 hd9
        go_wp2_with fail
        go_ret
        rw [HRF.out]
        exact ⟨_, _, _, _, rfl, HK.out, ⟨fun e => absurd e (fail_e T (by decide) _), HA.out.2⟩, HDD.out, by have := HVS.out; omega⟩
  · go_wp2_with fail
    go_ret
    rw [HRT.out HV.out]
    exact ⟨_, [], N, vn, rfl, HK.out.nilS, OutL.nil N s, fun h => h, by simp⟩

end
end Go.Proofs.YtccokidhngdjnaaGreatDoor
namespace Go.Proofs.YtccokidhngdjnaaGreatDoor
open Go.RowKit

section
variable {b bb : Nat} {T : List Tok} {D n : Nat} {A0 : Nat → Prop} {vn0 : Value} {w0 w w' : World} {s : St} {u : Nat} {N : List Nd} {vn : Value} {L : List (Value × Th)}
theorem vat2 (w : World) (x y : Int) : VAt (w.alloc (.cells #[.int .i64 x, .int .i64 y] 3)) (some ⟨w.heap.size, 0, none⟩) (intsV [x, y]) := by
  refine .inr ⟨w.heap.size, 0, rfl, by simp, fun j v hj => ?_⟩
  rw [Nat.zero_add, cell_of_row _ _ j _ _ (0, 0) (heap_alloc_new w _)]
  simpa [intsV] using hj
theorem name_short (h : ¬ ((leafT T s).2.inn = true ∨ (isQ T [46] (leafT T s).2 = false ∧ isQ T [40] (leafT T s).2 = false))) {nt : NxT} : nameT T nt s = nameET T (nameDT T nt (nameCT T (nameBT T (leafT T s)))) := by unfold nameT; rw [if_neg h]
theorem name_word (h : (leafT T s).2.inn = true ∨ (isQ T [46] (leafT T s).2 = false ∧ isQ T [40] (leafT T s).2 = false)) {nt : NxT} : nameT T nt s = ([.nd 14 (leafT T s).1], (leafT T s).2) := by unfold nameT; rw [if_pos h]
/-- A call's end, where its arguments were read as the program does. -/
theorem name_end {nt : NxT} {c d : RT} (h : Eqv d (listP T nt.expr c.2)) (he : Eqv (listP T nt.expr c.2) (if isQ T [41] c.2 = true then ([], c.2) else argsT T nt c.2)) :
    Eqv ([.nd 13 (c.1 ++ d.1 ++ (mustT T [41] d.2).1)], (mustT T [41] d.2).2) (nameET T (nameDT T nt c)) := by
  have h1 : d.2 = (nameDT T nt c).2 ∧ ((nameDT T nt c).2.e = 0 → c.1 ++ d.1 = (nameDT T nt c).1) := by
    unfold nameDT
    by_cases hq : isQ T [41] c.2 = true
    · rw [if_pos hq] at he
      rw [if_pos hq]
      exact ⟨h.1.trans he.1, fun e => by rw [h.2 (by rw [he.1]; exact e), he.2 e, List.append_nil]⟩
    · rw [if_neg hq] at he
      rw [if_neg hq]
      exact ⟨h.1.trans he.1, fun e => by rw [h.2 (by rw [he.1]; exact e), he.2 e]⟩
  unfold nameET
  rw [h1.1]
  refine ⟨rfl, fun e => ?_⟩
  have h2 : (nameDT T nt c).2.e = 0 := by
    rcases Nat.eq_zero_or_pos (nameDT T nt c).2.e with h | h
    · exact h
    · exact absurd e (by show ¬ (mustT T [41] (nameDT T nt c).2).2.e = 0; rw [(must_keep T [41] (nameDT T nt c).2).dead (by omega)]; omega)
  show [Tr.nd 13 _] = [Tr.nd 13 _]
  rw [h1.2 h2]
end

section
variable (b bb : Nat) (T : List Tok) (D n : Nat)

set_option maxRecDepth 100000 in
set_option maxHeartbeats 4000000 in
theorem args_f (hX : SubI b bb T D n (fun s => s.inn = false) 168 (NT T D n).expr) : SubF b bb T D n (fun s => s.inn = false) 167 (NT T D n).expr := by
  intro A0 vn0 w0 w s N vn L g hP hk hm
  have HSX := Lib.hid hX; have HK := Lib.hid hk; have HPP := Lib.hid hP
  have c0 := hk.boxc hm
  clear hX hk hP hm
  go_enter Tryz.func167, Tryz.ntmps167
  go_wp2_with fail
  refine (HK.out.sub HSX.out HPP.out).mono ?_
  rintro e w9 ⟨v9, N9, vn9, rfl, hk9, ho9, hd9⟩
  have HQ : Hid (CPost b bb T D n 0 A0 vn0 w0 s ((NT T D n).expr s) N L (.returned (.int .i64 v9)) w9) := Lib.hid ⟨v9, N9, vn9, rfl, hk9, ho9, hd9⟩
  clear hk9 ho9 hd9
  go_wp2_with fail
  go_ret
  exact HQ.out

set_option maxRecDepth 100000 in
set_option maxHeartbeats 8000000 in
theorem named_p (hC : TokC T) (hX : SubI b bb T D n (fun s => s.inn = false) 168 (NT T D n).expr) : SubI b bb T D n (fun s => s.e = 0 ∧ (tokQ T s).kind = 1) 163 (nameT T (NT T D n)) := by
  intro s N vn A w hP h
  have HCC := Lib.hid hC
  have HLI := Lib.hid (show (tokQ T s).kind ≠ 5 ∧ s.e = 0 from ⟨by omega, hP.1⟩)
  have HFEW := Lib.hid h.few
  have HSF := Lib.hid (args_f b bb T D n hX)
  have HKE := Lib.hid (nx_keep T D (D - n)).expr
  have HLIST := Lib.hid (fun (s : St) (hi : s.i ≤ T.length) => list_parts T (nx_good T D (D - n)).expr (fun s he => ((nx_keep T D (D - n)).expr s).dead he) s hi)
  obtain ⟨g, hg⟩ : ∃ g, w.heap.size = g := ⟨_, rfl⟩
  have HK : Hid (KX b bb T D n A vn w (w.alloc (.cells #[.pointer (some ⟨b, 0, none⟩)] 83)) s s.i N vn [(boxV g, boxT b)]) := Lib.hid (by rw [← hg]; exact (KX.start h).boxed _ _)
  have c0 := HK.out.boxc (List.mem_cons_self ..)
  have HA := Lib.hid (OutL.nil N s)
  clear h hX hC hP
  go_enter Tryz.func163, Tryz.ntmps163
  go_wp2_with fail
  try rw [hg]
  refine (HK.out.take HCC.out HLI.out.1 HLI.out.2).mono ?_
  rintro e w1 ⟨v3, N1, vn1, rfl, hk, ho, hd⟩
  have HK := Lib.hid hk; have HO := Lib.hid ho; have HA := Lib.hid (HA.out.app ho.out hd); have HDD : Hid (s.e ≠ 0 → (leafT T s).2.e ≠ 0) := Lib.hid hd
  have HLV := Lib.hid (leaf_live T HLI.out.2)
  clear hk ho hd c0 hg
  have c0 := HK.out.boxc (List.mem_cons_self ..)
  have d0 := HK.out.cell
  have d7 := HK.out.innc
  obtain ⟨I, hI⟩ : ∃ I, (leafT T s).2.inn = I := ⟨_, rfl⟩
  have HI := Lib.hid hI
  rw [hI] at d7
  clear hI
  cases I
  rotate_left
  · go_wp2_with fail
    refine (KX.node (k := 0) (kind := 14) (HK.out.ints1 _) (List.mem_cons_self ..) HCC.out.len HO.out rfl HFEW.out (by simp)).mono ?_
    rintro e w9 ⟨v9, N9, vn9, rfl, hk9, ho9⟩
    have HQ := Lib.hid (KX.fin ho9 hk9 HDD.out (r' := nameT T (NT T D n) s) (by rw [name_word (.inl HI.out)]; exact Eqv.refl _))
    clear hk9 ho9
    go_wp2_with fail
    go_ret
    exact HQ.out
  · go_wp2_with fail
    refine (KX.at (ws := [[46], [40]]) (HK.out.strs2 _ _ _) (List.mem_cons_self ..) (by decide)).mono ?_
    rintro e w2 ⟨rfl, hk⟩
    have HK := Lib.hid (hk.few (List.sublist_cons_self _ _))
    obtain ⟨b2, hb⟩ : ∃ b2, atQ T [[46], [40]] (leafT T s).2 = b2 := ⟨_, rfl⟩
    rw [hb]
    have HV2 : Hid ((isQ T [46] (leafT T s).2 || isQ T [40] (leafT T s).2) = b2) := Lib.hid (by rw [← hb, at_any HCC.out (by decide)]; simp)
    clear hk hb c0 d0 d7
    have c0 := HK.out.boxc (List.mem_cons_self ..)
    have d0 := HK.out.cell
    cases b2
    · go_wp2_with fail
      refine (KX.node (k := 0) (kind := 14) (HK.out.ints1 _) (List.mem_cons_self ..) HCC.out.len HO.out rfl HFEW.out (by simp)).mono ?_
      rintro e w9 ⟨v9, N9, vn9, rfl, hk9, ho9⟩
      have HQ := Lib.hid (KX.fin ho9 hk9 HDD.out (r' := nameT T (NT T D n) s) (by rw [name_word (.inr (Bool.or_eq_false_iff.1 HV2.out))]; exact Eqv.refl _))
      clear hk9 ho9
      go_wp2_with fail
      go_ret
      exact HQ.out
    · have HSH := Lib.hid (name_short (T := T) (s := s) (nt := NT T D n) (fun e => by
        rcases e with e | e
        · rw [HI.out] at e; cases e
        · have h9 := HV2.out; rw [e.1, e.2] at h9; cases h9))
      have HK := Lib.hid (HK.out.ints1 v3)
      clear c0 d0
      have c0 := HK.out.boxc (List.mem_cons_of_mem _ (List.mem_cons_self ..))
      go_wp2_with fail
      refine (KX.atx (ws := [[46]]) (HK.out.strs1 _ _) ⟨_, by simp, List.mem_cons_self ..⟩ (by decide)).mono ?_
      rintro e w3 ⟨rfl, hk⟩
      have HK := Lib.hid (hk.few (List.sublist_cons_self _ _))
      obtain ⟨b3, hb⟩ : ∃ b3, isQ T [46] (leafT T s).2 = b3 := ⟨_, rfl⟩
      rw [at_one HCC.out (by decide), hb]
      have HV3 := Lib.hid hb
      clear hk hb c0
      cases b3
      · obtain ⟨a, vs, HAE, HK, HA, HVS, HDD, HIN⟩ : ∃ (a : RT) (vs : List Int), Hid (nameBT T (leafT T s) = a) ∧ Hid (KX b bb T D n A vn w w3 a.2 a.2.i N1 vn1 [(.slice (some ⟨w2.heap.size, 0, none⟩) 1 1, .ints vs), (boxV g, boxT b)]) ∧ Hid (OutL 1 N s a N1 vs) ∧ Hid (vs.length ≤ 3) ∧ Hid (s.e ≠ 0 → a.2.e ≠ 0) ∧ Hid (a.2.inn = false) :=
          ⟨leafT T s, [v3], Lib.hid (by unfold nameBT; rw [if_neg (by rw [HV3.out]; decide)]), HK, Lib.hid HO.out.out, Lib.hid (by simp), HDD, HI⟩
        have c0 := HK.out.boxc (List.mem_cons_of_mem _ (List.mem_cons_self ..))
        go_wp2_with fail
        refine (KX.one1 [40] (HK.out.strs1 _ _) HCC.out (by decide) ⟨_, rfl, List.mem_cons_self ..⟩).mono ?_
        rintro e w5 ⟨v5, N5, vn5, rfl, hk, ho, hd⟩
        have HK := Lib.hid (hk.few (List.sublist_cons_self _ _)); have HIN := Lib.hid ((must_keep T [40] a.2).inn.trans HIN.out)
        obtain ⟨l5, hl5⟩ : ∃ l5, vs ++ [v5] = l5 := ⟨_, rfl⟩
        have HL5 : Hid (l5.length ≤ 4) := Lib.hid (by rw [← hl5, List.length_append]; have := HVS.out; simp; omega)
        have HA : Hid (OutL 1 N s (nameCT T a) N5 l5) := Lib.hid (by rw [← hl5]; exact (HA.out.app ho.out hd).weak (by decide)); have HDD : Hid (s.e ≠ 0 → (nameCT T a).2.e ≠ 0) := Lib.hid (fun h => hd (HDD.out h))
        have HE5 := Lib.hid hl5
        clear hk ho hd c0 hl5
        go_wp2_with (at_builtin; go_loud (refine wpList_kx rfl _ _ rfl (HK.out.ints1 v5) (List.sublist_cons_self _ _) rfl rfl (l2 := [v5]) rfl (vat1 _ _) (by have := HVS.out; omega) (by simp) ?_))
        intro kv6 w6 hk6
        rw [HE5.out] at hk6
        have HK : Hid (KX b bb T D n A vn w w6 (nameCT T a).2 (nameCT T a).2.i N5 vn5 [(kv6, .ints l5), (boxV g, boxT b)]) := Lib.hid hk6
        have HIN : Hid ((nameCT T a).2.inn = false) := HIN
        obtain ⟨c, hc⟩ : ∃ c, nameCT T a = c := ⟨_, rfl⟩
        have HCE := Lib.hid hc
        rw [hc] at HK HA HDD HIN
        have HCI : Hid (c.2.i ≤ T.length) := Lib.hid (Nat.le_of_lt HK.out.ok)
        clear hk6 hc
        have c0 := HK.out.boxc (List.mem_cons_of_mem _ (List.mem_cons_self ..))
        go_wp2_with fail
        refine (list_args b bb T D n HCC.out _ HSF.out (fun s hs => ((HKE.out s).inn).trans hs) HK.out (List.mem_cons_of_mem _ (List.mem_cons_self ..)) HIN.out).mono ?_
        rintro e w7 ⟨lv, ls, N7, vn7, rfl, hk7, ho7, hd7, hl7⟩
        obtain ⟨q7, c7, rfl, hv7, -, -⟩ := hk7.list (List.mem_cons_self ..)
        have HK := Lib.hid hk7; have HVV := Lib.hid hv7; have HL7 := Lib.hid hl7
        obtain ⟨l7, hl77⟩ : ∃ l7, l5 ++ ls = l7 := ⟨_, rfl⟩
        have HE7 := Lib.hid hl77
        have HLL : Hid (l7.length ≤ 310) := Lib.hid (by rw [← hl77, List.length_append]; have := HL5.out; omega)
        have HA : Hid (OutL 1 N s (c.1 ++ (listP T (NT T D n).expr c.2).1, (listP T (NT T D n).expr c.2).2) N7 l7) := Lib.hid (by rw [← hl77]; exact (HA.out.app ho7 hd7).weak (by decide)); have HDD := Lib.hid (fun h => hd7 (HDD.out h))
        obtain ⟨m7, hm7⟩ : ∃ m7, ls.length = m7 := ⟨_, rfl⟩
        have HM7 := Lib.hid hm7
        rw [hm7] at HK ⊢
        clear hk7 ho7 hd7 hl7 hv7 hl77 hm7 c0
        go_wp2_with (at_builtin; go_loud (refine wpList_kx rfl _ _ rfl HK.out (List.sublist_cons_self _ _) rfl rfl (l2 := ls) HM7.out HVV.out (by have := HL5.out; omega) (by have := HL7.out; omega) ?_))
        intro kv8 w8 hk8
        rw [HE7.out] at hk8
        have HK := Lib.hid hk8; have HBM : Hid ((boxV g, boxT b) ∈ [(kv8, Th.ints l7), (boxV g, boxT b)]) := Lib.hid (List.mem_cons_of_mem _ (List.mem_cons_self ..))
        clear hk8
        go_wp2_with fail
        have HKD := HK
        have HK := Lib.hid HK.out.drew
        have HKS1 : Hid ([41] ∈ KS) := Lib.hid (by decide)
        go_region_held3 (fun w' => w'.cell? ⟨g, 0, none⟩ = some (.pointer (some ⟨b, 0, none⟩)) ∧ w'.cell? ⟨b, 0, none⟩ = some (.pointer (some ⟨bb, 0, none⟩))) (first | exact ⟨HK.out.boxc (by first | exact (List.mem_cons_of_mem _ (List.mem_cons_self ..)) | exact (List.mem_cons_of_mem _ (List.mem_cons_of_mem _ (List.mem_cons_self ..)))), HK.out.cell⟩ | exact ⟨(HK.out.alloc _).boxc (by first | exact (List.mem_cons_of_mem _ (List.mem_cons_self ..)) | exact (List.mem_cons_of_mem _ (List.mem_cons_of_mem _ (List.mem_cons_self ..)))), (HK.out.alloc _).cell⟩ | exact ⟨(HKD.out.alloc _).drew.boxc (by first | exact (List.mem_cons_of_mem _ (List.mem_cons_self ..)) | exact (List.mem_cons_of_mem _ (List.mem_cons_of_mem _ (List.mem_cons_self ..)))), (HKD.out.alloc _).drew.cell⟩ | exact ⟨((HK.out.alloc _).alloc _).boxc (by first | exact (List.mem_cons_of_mem _ (List.mem_cons_self ..)) | exact (List.mem_cons_of_mem _ (List.mem_cons_of_mem _ (List.mem_cons_self ..)))), ((HK.out.alloc _).alloc _).cell⟩)
          (first
            | (refine step_kx rfl _ _ rfl ((HK.out.few (List.sublist_cons_self _ _)).ints1 _) (List.sublist_cons_self _ _) rfl rfl (l2 := [_]) rfl (vat1 _ _) (by have := HLL.out; omega) (by simp) ?_; intro v8 w9 hk9; have HK := Lib.hid hk9; clear hk9)
            | (go_at_call 165; (first | with_reducible refine (KX.one1 [41] (HK.out.strs1 _ _) HCC.out HKS1.out ?_).mono ?_ | with_reducible refine (KX.one1 [41] (HKD.out.strs1 _ _).drew HCC.out HKS1.out ?_).mono ?_); (refine ⟨_, ?_, List.mem_cons_self ..⟩; first | rfl | (simp; done)); rintro e w9 ⟨v9, N9, vn9, rfl, hk9, ho9, hd9⟩; have HK := Lib.hid hk9; have HD := Lib.hid (OutD.app HA.out ho9 hd9); clear hk9 ho9 hd9)
            | (go_at_call 58; have HDW := Lib.hid (HD.out.weak (j := 0 + 1) (by decide)); refine (KX.node (k := 0) (kind := 13) HK.out ?_ HCC.out.len HDW.out ?_ HFEW.out ?_).mono ?_; exact List.mem_cons_self ..; rfl; (have := HLL.out; rw [List.length_append]; simp; omega); rintro e w9 ⟨v9, N9, vn9, rfl, hk9, ho9⟩; have HK := Lib.hid hk9; have HZ := Lib.hid ho9; clear hk9 ho9))
        all_goals
          have HQ := Lib.hid (KX.fin HZ.out HK.out (fun he => absurd HLI.out.2 he) (r' := nameT T (NT T D n) s) (by rw [HSH.out, HAE.out, HCE.out]; exact name_end (Eqv.refl _) (HLIST.out c.2 HCI.out)))
          go_wp2_with fail
          go_ret
          exact HQ.out
      · have HLJ := Lib.hid (is_kind HV3.out)
        go_wp2_with fail
        have HKD := HK
        have HK := Lib.hid HK.out.drew
        have HA := Lib.hid HO.out.out
        have HBM : Hid ((boxV g, boxT b) ∈ [(.slice (some ⟨w2.heap.size, 0, none⟩) 1 1, Th.ints [v3]), (boxV g, boxT b)]) := Lib.hid (List.mem_cons_of_mem _ (List.mem_cons_self ..))
        go_region_held3 (fun w' => w'.cell? ⟨g, 0, none⟩ = some (.pointer (some ⟨b, 0, none⟩))) (first | exact HK.out.boxc (List.mem_cons_of_mem _ (List.mem_cons_self ..)) | exact (HK.out.alloc _).boxc (List.mem_cons_of_mem _ (List.mem_cons_self ..)))
          (first
            | (refine step_kx rfl _ _ rfl (HK.out.ints2 _ _) (List.sublist_cons_self _ _) rfl rfl (l2 := [_, _]) rfl (vat2 _ _ _) (by simp) (by simp) ?_; intro kv4 w9 hk9; have HK := Lib.hid hk9; clear hk9)
            | (go_at_call 90; (with_reducible refine (HK.out.take HCC.out HLJ.out.1 HLJ.out.2).mono ?_); rintro e w9 ⟨v9, N9, vn9, rfl, hk9, ho9, hd9⟩; have HK := Lib.hid hk9; have HA := Lib.hid (HA.out.app ho9.out hd9); clear hk9 ho9 hd9)
            | (go_at_call 61; (with_reducible refine (HK.out.word HCC.out).mono ?_); rintro e w9 ⟨v9, N9, vn9, rfl, hk9, ho9, hd9⟩; have HK := Lib.hid hk9; have HA := Lib.hid (HA.out.app ho9.out hd9); clear hk9 ho9 hd9))
        all_goals
          obtain ⟨a, vs, HAE, HK, HA, HVS, HDD, HIN⟩ : ∃ (a : RT) (vs : List Int), Hid (nameBT T (leafT T s) = a) ∧ Hid (KX b bb T D n A vn w w9 a.2 a.2.i N9 vn9 [(kv4, .ints vs), (boxV g, boxT b)]) ∧ Hid (OutL 1 N s a N9 vs) ∧ Hid (vs.length ≤ 3) ∧ Hid (s.e ≠ 0 → a.2.e ≠ 0) ∧ Hid (a.2.inn = false) :=
            ⟨((leafT T s).1 ++ (leafT T (leafT T s).2).1 ++ (kindT T 1 (leafT T (leafT T s).2).2).1, (kindT T 1 (leafT T (leafT T s).2).2).2), _, Lib.hid (by unfold nameBT; rw [if_pos HV3.out]), HK, Lib.hid (by have h9 := HA.out.weak (j := 1) (by decide); rw [List.append_assoc [v3]] at h9; exact h9), Lib.hid (by simp), Lib.hid (fun h => absurd HLI.out.2 h), Lib.hid ((kind_keep T 1 _).inn.trans ((leaf_keep T HLJ.out.2).inn.trans HI.out))⟩
          have c0 := HK.out.boxc (List.mem_cons_of_mem _ (List.mem_cons_self ..))
          go_wp2_with fail
          refine (KX.one1 [40] (HK.out.strs1 _ _) HCC.out (by decide) ⟨_, rfl, List.mem_cons_self ..⟩).mono ?_
          rintro e w5 ⟨v5, N5, vn5, rfl, hk, ho, hd⟩
          have HK := Lib.hid (hk.few (List.sublist_cons_self _ _)); have HIN := Lib.hid ((must_keep T [40] a.2).inn.trans HIN.out)
          obtain ⟨l5, hl5⟩ : ∃ l5, vs ++ [v5] = l5 := ⟨_, rfl⟩
          have HL5 : Hid (l5.length ≤ 4) := Lib.hid (by rw [← hl5, List.length_append]; have := HVS.out; simp; omega)
          have HA : Hid (OutL 1 N s (nameCT T a) N5 l5) := Lib.hid (by rw [← hl5]; exact (HA.out.app ho.out hd).weak (by decide)); have HDD : Hid (s.e ≠ 0 → (nameCT T a).2.e ≠ 0) := Lib.hid (fun h => hd (HDD.out h))
          have HE5 := Lib.hid hl5
          clear hk ho hd c0 hl5
          go_wp2_with (at_builtin; go_loud (refine wpList_kx rfl _ _ rfl (HK.out.ints1 v5) (List.sublist_cons_self _ _) rfl rfl (l2 := [v5]) rfl (vat1 _ _) (by have := HVS.out; omega) (by simp) ?_))
          intro kv6 w6 hk6
          rw [HE5.out] at hk6
          have HK : Hid (KX b bb T D n A vn w w6 (nameCT T a).2 (nameCT T a).2.i N5 vn5 [(kv6, .ints l5), (boxV g, boxT b)]) := Lib.hid hk6
          have HIN : Hid ((nameCT T a).2.inn = false) := HIN
          obtain ⟨c, hc⟩ : ∃ c, nameCT T a = c := ⟨_, rfl⟩
          have HCE := Lib.hid hc
          rw [hc] at HK HA HDD HIN
          have HCI : Hid (c.2.i ≤ T.length) := Lib.hid (Nat.le_of_lt HK.out.ok)
          clear hk6 hc
          have c0 := HK.out.boxc (List.mem_cons_of_mem _ (List.mem_cons_self ..))
          go_wp2_with fail
          refine (list_args b bb T D n HCC.out _ HSF.out (fun s hs => ((HKE.out s).inn).trans hs) HK.out (List.mem_cons_of_mem _ (List.mem_cons_self ..)) HIN.out).mono ?_
          rintro e w7 ⟨lv, ls, N7, vn7, rfl, hk7, ho7, hd7, hl7⟩
          obtain ⟨q7, c7, rfl, hv7, -, -⟩ := hk7.list (List.mem_cons_self ..)
          have HK := Lib.hid hk7; have HVV := Lib.hid hv7; have HL7 := Lib.hid hl7
          obtain ⟨l7, hl77⟩ : ∃ l7, l5 ++ ls = l7 := ⟨_, rfl⟩
          have HE7 := Lib.hid hl77
          have HLL : Hid (l7.length ≤ 310) := Lib.hid (by rw [← hl77, List.length_append]; have := HL5.out; omega)
          have HA : Hid (OutL 1 N s (c.1 ++ (listP T (NT T D n).expr c.2).1, (listP T (NT T D n).expr c.2).2) N7 l7) := Lib.hid (by rw [← hl77]; exact (HA.out.app ho7 hd7).weak (by decide)); have HDD := Lib.hid (fun h => hd7 (HDD.out h))
          obtain ⟨m7, hm7⟩ : ∃ m7, ls.length = m7 := ⟨_, rfl⟩
          have HM7 := Lib.hid hm7
          rw [hm7] at HK ⊢
          clear hk7 ho7 hd7 hl7 hv7 hl77 hm7 c0
          go_wp2_with (at_builtin; go_loud (refine wpList_kx rfl _ _ rfl HK.out (List.sublist_cons_self _ _) rfl rfl (l2 := ls) HM7.out HVV.out (by have := HL5.out; omega) (by have := HL7.out; omega) ?_))
          intro kv8 w8 hk8
          rw [HE7.out] at hk8
          have HK := Lib.hid hk8; have HBM : Hid ((boxV g, boxT b) ∈ [(kv8, Th.ints l7), (boxV g, boxT b)]) := Lib.hid (List.mem_cons_of_mem _ (List.mem_cons_self ..))
          clear hk8
          go_wp2_with fail
          have HKD := HK
          have HK := Lib.hid HK.out.drew
          have HKS1 : Hid ([41] ∈ KS) := Lib.hid (by decide)
          go_region_held3 (fun w' => w'.cell? ⟨g, 0, none⟩ = some (.pointer (some ⟨b, 0, none⟩)) ∧ w'.cell? ⟨b, 0, none⟩ = some (.pointer (some ⟨bb, 0, none⟩))) (first | exact ⟨HK.out.boxc (by first | exact (List.mem_cons_of_mem _ (List.mem_cons_self ..)) | exact (List.mem_cons_of_mem _ (List.mem_cons_of_mem _ (List.mem_cons_self ..)))), HK.out.cell⟩ | exact ⟨(HK.out.alloc _).boxc (by first | exact (List.mem_cons_of_mem _ (List.mem_cons_self ..)) | exact (List.mem_cons_of_mem _ (List.mem_cons_of_mem _ (List.mem_cons_self ..)))), (HK.out.alloc _).cell⟩ | exact ⟨(HKD.out.alloc _).drew.boxc (by first | exact (List.mem_cons_of_mem _ (List.mem_cons_self ..)) | exact (List.mem_cons_of_mem _ (List.mem_cons_of_mem _ (List.mem_cons_self ..)))), (HKD.out.alloc _).drew.cell⟩ | exact ⟨((HK.out.alloc _).alloc _).boxc (by first | exact (List.mem_cons_of_mem _ (List.mem_cons_self ..)) | exact (List.mem_cons_of_mem _ (List.mem_cons_of_mem _ (List.mem_cons_self ..)))), ((HK.out.alloc _).alloc _).cell⟩)
            (first
              | (refine step_kx rfl _ _ rfl ((HK.out.few (List.sublist_cons_self _ _)).ints1 _) (List.sublist_cons_self _ _) rfl rfl (l2 := [_]) rfl (vat1 _ _) (by have := HLL.out; omega) (by simp) ?_; intro v8 w9 hk9; have HK := Lib.hid hk9; clear hk9)
              | (go_at_call 165; (first | with_reducible refine (KX.one1 [41] (HK.out.strs1 _ _) HCC.out HKS1.out ?_).mono ?_ | with_reducible refine (KX.one1 [41] (HKD.out.strs1 _ _).drew HCC.out HKS1.out ?_).mono ?_); (refine ⟨_, ?_, List.mem_cons_self ..⟩; first | rfl | (simp; done)); rintro e w9 ⟨v9, N9, vn9, rfl, hk9, ho9, hd9⟩; have HK := Lib.hid hk9; have HD := Lib.hid (OutD.app HA.out ho9 hd9); clear hk9 ho9 hd9)
              | (go_at_call 58; have HDW := Lib.hid (HD.out.weak (j := 0 + 1) (by decide)); refine (KX.node (k := 0) (kind := 13) HK.out ?_ HCC.out.len HDW.out ?_ HFEW.out ?_).mono ?_; exact List.mem_cons_self ..; rfl; (have := HLL.out; rw [List.length_append]; simp; omega); rintro e w9 ⟨v9, N9, vn9, rfl, hk9, ho9⟩; have HK := Lib.hid hk9; have HZ := Lib.hid ho9; clear hk9 ho9))
          all_goals
            have HQ := Lib.hid (KX.fin HZ.out HK.out (fun he => absurd HLI.out.2 he) (r' := nameT T (NT T D n) s) (by rw [HSH.out, HAE.out, HCE.out]; exact name_end (Eqv.refl _) (HLIST.out c.2 HCI.out)))
            go_wp2_with fail
            go_ret
            exact HQ.out
end
end Go.Proofs.YtccokidhngdjnaaGreatDoor
