/- A definition in memory; rows of parameters; what is needed of a definition's kids. -/
import Derived.Deep.MidRow
import Derived.Test.YtoahgeleenpnjaaGreatDoorE21
set_option linter.unusedVariables false
set_option linter.unusedSimpArgs false
namespace Go.Proofs.YtoahgeleenpnjaaGreatDoor
open Go.RowKit

/-- Rows of five cells read as parameters. -/
def PsAt (F : Nat → Prop) (w : World) : List Fx → List (List Value) → Prop
  | [], r => r = []
  | x :: l, r => ∃ q r', r = q :: r' ∧ PAt F w x q ∧ PsAt F w l r'
theorem Ps_len {F : Nat → Prop} {w : World} : ∀ {l : List Fx} {r : List (List Value)}, PsAt F w l r → r.length = l.length
  | [], r, h => by simp only [PsAt] at h; rw [h]; rfl
  | x :: l, r, h => by
    simp only [PsAt] at h
    obtain ⟨q, r', rfl, -, h2⟩ := h
    rw [List.length_cons, Ps_len h2]; rfl
theorem Ps_snoc {F : Nat → Prop} {w : World} {x : Fx} {q : List Value} (hx : PAt F w x q) : ∀ {l : List Fx} {r : List (List Value)}, PsAt F w l r → PsAt F w (l ++ [x]) (r ++ [q])
  | [], r, h => by simp only [PsAt] at h; subst h; simp only [List.nil_append, PsAt]; exact ⟨q, [], rfl, hx, rfl⟩
  | y :: l, r, h => by
    simp only [PsAt] at h
    obtain ⟨q', r', rfl, h1, h2⟩ := h
    simp only [List.cons_append, PsAt]
    exact ⟨q', _, rfl, h1, Ps_snoc hx h2⟩
theorem Ps_same {F S : Nat → Prop} {w w' : World} (hg : Fr2 S w w') (hS : ∀ k, F k → ¬ S k) : ∀ {l : List Fx} {r : List (List Value)}, PsAt F w l r → PsAt F w' l r
  | [], r, h => by simp only [PsAt] at h ⊢; exact h
  | x :: l, r, h => by
    simp only [PsAt] at h ⊢
    obtain ⟨q, r', h1, h2, h3⟩ := h
    exact ⟨q, r', h1, PAt.same hg hS h2, Ps_same hg hS h3⟩
theorem Ps_mono {F F' : Nat → Prop} {w : World} (hF : ∀ k, F k → F' k) : ∀ {l : List Fx} {r : List (List Value)}, PsAt F w l r → PsAt F' w l r
  | [], r, h => by simp only [PsAt] at h ⊢; exact h
  | x :: l, r, h => by
    simp only [PsAt] at h ⊢
    obtain ⟨q, r', h1, h2, h3⟩ := h
    exact ⟨q, r', h1, PAt.mono hF h2, Ps_mono hF h3⟩
theorem Ps_kept {F : Nat → Prop} {w w' : World} {l : List Fx} {r : List (List Value)} (h : PsAt F w l r) (hg : w.grownBy w' none) : PsAt F w' l r := Ps_same (S := fun _ => False) (Fr2.none hg) (fun _ _ h => h) h
theorem PAt.five {F : Nat → Prop} {w : World} {f : Fx} {q : List Value} (h : PAt F w f q) : q.length = 5 ∧ (∀ u ∈ q, u.oneCell' = true) ∧ ∃ a0 a1 a2 a3 a4, q = [a0, a1, a2, a3, a4] := by
  obtain ⟨pc, nc, cc, rfl⟩ := h.form
  exact ⟨rfl, fun u hu => by simp at hu; rcases hu with rfl | rfl | rfl | rfl | rfl <;> rfl, _, _, _, _, _, rfl⟩

/-- Fifteen cells read as a definition. -/
def DAt (F : Nat → Prop) (w : World) (d : Dx) (q : List Value) : Prop := ∃ pp np cp prow pc nc cc qb, q = [.bool d.pub, strV d.res.nm, .slice pp np cp, .int .i64 (d.res.base : Int), .slice pc nc cc] ++ qb ++ [.int .i64 (d.res.ps : Int), .int .i64 d.res.bare] ∧
  PAt F w d.res [strV d.res.nm, .int .i64 (d.res.base : Int), .slice pc nc cc, .int .i64 (d.res.ps : Int), .int .i64 d.res.bare] ∧ EAt F w d.body qb ∧ np = d.ps.length ∧ GAt 5 w pp prow ∧ PsAt F w d.ps prow ∧ (d.ps ≠ [] → ∃ a, pp = some a ∧ F a.block)
def DefPost (x : Dx) (w : World) (e : Ending) (w' : World) : Prop := w.grownBy w' none ∧ ∃ q, e = .returned (.agg q.toArray) ∧ DAt (fun k => w.heap.size ≤ k) w' x q

theorem infoPar : (Tryz.prog.info? 73).map (fun i => (i.zero, i.size, i.bytes)) = some (some (.agg #[.string ⟨#[]⟩, .int .i64 0, .slice none 0 0, .int .i64 0, .int .i64 0]), 5, 64) := by kernel_rfl
theorem field_lex (a d : Int) (b c : ByteArray) (w : World) : (Instr.field 92 (.agg #[.int .i64 a, .string b, .string c, .int .i64 d]) 2).run Tryz.prog w = .ok (.string c) w := by kernel_rfl

theorem paramsX_next (T : List Tok) {l : List Tr} {j : Nat} {t : Tr} (h : l[j]? = some t) : paramsX T (l.take (j + 1)) = paramsX T (l.take j) ++ (if kindT' t = 4 then [fieldX T (kidsT t)] else []) := by
  unfold paramsX
  rw [take_snoc h, List.filter_append, List.map_append]
  congr 1
  by_cases h4 : kindT' t = 4
  · simp [h4]
  · simp [h4]
theorem paramsX_len (T : List Tok) (l : List Tr) : (paramsX T l).length ≤ l.length := by
  unfold paramsX
  rw [List.length_map]; exact List.length_filter_le _ _

theorem keep5 {w2 : World} {B gg j : Nat} {v a b c d e : Value} (h : w2.cell? ⟨gg, j, none⟩ = some v) (hne : gg ≠ B) : (((((w2.setCell ⟨B, 0, none⟩ a).setCell ⟨B, 1, none⟩ b).setCell ⟨B, 2, none⟩ c).setCell ⟨B, 3, none⟩ d).setCell ⟨B, 4, none⟩ e).cell? ⟨gg, j, none⟩ = some v := by
  rw [World.cell?_setCell_far _ _ _ _ (fun e => hne e.symm), World.cell?_setCell_far _ _ _ _ (fun e => hne e.symm), World.cell?_setCell_far _ _ _ _ (fun e => hne e.symm), World.cell?_setCell_far _ _ _ _ (fun e => hne e.symm), World.cell?_setCell_far _ _ _ _ (fun e => hne e.symm)]
  exact h

theorem put15c {W : World} {B : Nat} {T : TypeId} {x0 x1 x2 x3 x4 x5 x6 x7 x8 x9 x10 x11 x12 x13 x14 : Value} (h0 : W.heap[B]? = some (.cells #[x0, x1, x2, x3, x4, x5, x6, x7, x8, x9, x10, x11, x12, x13, x14] T (0, 0))) (a0 a1 a2 a3 a4 a5 a6 a7 a8 a9 a10 a11 a12 a13 a14 : Value) : (((((((((((((((W.setCell ⟨B, 0, none⟩ a0).setCell ⟨B, 1, none⟩ a1).setCell ⟨B, 2, none⟩ a2).setCell ⟨B, 3, none⟩ a3).setCell ⟨B, 4, none⟩ a4).setCell ⟨B, 5, none⟩ a5).setCell ⟨B, 6, none⟩ a6).setCell ⟨B, 7, none⟩ a7).setCell ⟨B, 8, none⟩ a8).setCell ⟨B, 9, none⟩ a9).setCell ⟨B, 10, none⟩ a10).setCell ⟨B, 11, none⟩ a11).setCell ⟨B, 12, none⟩ a12).setCell ⟨B, 13, none⟩ a13).setCell ⟨B, 14, none⟩ a14).heap[B]? = some (.cells #[a0, a1, a2, a3, a4, a5, a6, a7, a8, a9, a10, a11, a12, a13, a14] T (0, 0)) ∧ Fr2 (Self B) W (((((((((((((((W.setCell ⟨B, 0, none⟩ a0).setCell ⟨B, 1, none⟩ a1).setCell ⟨B, 2, none⟩ a2).setCell ⟨B, 3, none⟩ a3).setCell ⟨B, 4, none⟩ a4).setCell ⟨B, 5, none⟩ a5).setCell ⟨B, 6, none⟩ a6).setCell ⟨B, 7, none⟩ a7).setCell ⟨B, 8, none⟩ a8).setCell ⟨B, 9, none⟩ a9).setCell ⟨B, 10, none⟩ a10).setCell ⟨B, 11, none⟩ a11).setCell ⟨B, 12, none⟩ a12).setCell ⟨B, 13, none⟩ a13).setCell ⟨B, 14, none⟩ a14) := by
  have h1 : (W.setCell ⟨B, 0, none⟩ a0).heap[B]? = some (.cells #[a0, x1, x2, x3, x4, x5, x6, x7, x8, x9, x10, x11, x12, x13, x14] T (0, 0)) := set_cells (i := 0) (u := a0) h0
  have h2 : ((W.setCell ⟨B, 0, none⟩ a0).setCell ⟨B, 1, none⟩ a1).heap[B]? = some (.cells #[a0, a1, x2, x3, x4, x5, x6, x7, x8, x9, x10, x11, x12, x13, x14] T (0, 0)) := set_cells (i := 1) (u := a1) h1
  have h3 : (((W.setCell ⟨B, 0, none⟩ a0).setCell ⟨B, 1, none⟩ a1).setCell ⟨B, 2, none⟩ a2).heap[B]? = some (.cells #[a0, a1, a2, x3, x4, x5, x6, x7, x8, x9, x10, x11, x12, x13, x14] T (0, 0)) := set_cells (i := 2) (u := a2) h2
  have h4 : ((((W.setCell ⟨B, 0, none⟩ a0).setCell ⟨B, 1, none⟩ a1).setCell ⟨B, 2, none⟩ a2).setCell ⟨B, 3, none⟩ a3).heap[B]? = some (.cells #[a0, a1, a2, a3, x4, x5, x6, x7, x8, x9, x10, x11, x12, x13, x14] T (0, 0)) := set_cells (i := 3) (u := a3) h3
  have h5 : (((((W.setCell ⟨B, 0, none⟩ a0).setCell ⟨B, 1, none⟩ a1).setCell ⟨B, 2, none⟩ a2).setCell ⟨B, 3, none⟩ a3).setCell ⟨B, 4, none⟩ a4).heap[B]? = some (.cells #[a0, a1, a2, a3, a4, x5, x6, x7, x8, x9, x10, x11, x12, x13, x14] T (0, 0)) := set_cells (i := 4) (u := a4) h4
  have h6 : ((((((W.setCell ⟨B, 0, none⟩ a0).setCell ⟨B, 1, none⟩ a1).setCell ⟨B, 2, none⟩ a2).setCell ⟨B, 3, none⟩ a3).setCell ⟨B, 4, none⟩ a4).setCell ⟨B, 5, none⟩ a5).heap[B]? = some (.cells #[a0, a1, a2, a3, a4, a5, x6, x7, x8, x9, x10, x11, x12, x13, x14] T (0, 0)) := set_cells (i := 5) (u := a5) h5
  have h7 : (((((((W.setCell ⟨B, 0, none⟩ a0).setCell ⟨B, 1, none⟩ a1).setCell ⟨B, 2, none⟩ a2).setCell ⟨B, 3, none⟩ a3).setCell ⟨B, 4, none⟩ a4).setCell ⟨B, 5, none⟩ a5).setCell ⟨B, 6, none⟩ a6).heap[B]? = some (.cells #[a0, a1, a2, a3, a4, a5, a6, x7, x8, x9, x10, x11, x12, x13, x14] T (0, 0)) := set_cells (i := 6) (u := a6) h6
  have h8 : ((((((((W.setCell ⟨B, 0, none⟩ a0).setCell ⟨B, 1, none⟩ a1).setCell ⟨B, 2, none⟩ a2).setCell ⟨B, 3, none⟩ a3).setCell ⟨B, 4, none⟩ a4).setCell ⟨B, 5, none⟩ a5).setCell ⟨B, 6, none⟩ a6).setCell ⟨B, 7, none⟩ a7).heap[B]? = some (.cells #[a0, a1, a2, a3, a4, a5, a6, a7, x8, x9, x10, x11, x12, x13, x14] T (0, 0)) := set_cells (i := 7) (u := a7) h7
  have h9 : (((((((((W.setCell ⟨B, 0, none⟩ a0).setCell ⟨B, 1, none⟩ a1).setCell ⟨B, 2, none⟩ a2).setCell ⟨B, 3, none⟩ a3).setCell ⟨B, 4, none⟩ a4).setCell ⟨B, 5, none⟩ a5).setCell ⟨B, 6, none⟩ a6).setCell ⟨B, 7, none⟩ a7).setCell ⟨B, 8, none⟩ a8).heap[B]? = some (.cells #[a0, a1, a2, a3, a4, a5, a6, a7, a8, x9, x10, x11, x12, x13, x14] T (0, 0)) := set_cells (i := 8) (u := a8) h8
  have h10 : ((((((((((W.setCell ⟨B, 0, none⟩ a0).setCell ⟨B, 1, none⟩ a1).setCell ⟨B, 2, none⟩ a2).setCell ⟨B, 3, none⟩ a3).setCell ⟨B, 4, none⟩ a4).setCell ⟨B, 5, none⟩ a5).setCell ⟨B, 6, none⟩ a6).setCell ⟨B, 7, none⟩ a7).setCell ⟨B, 8, none⟩ a8).setCell ⟨B, 9, none⟩ a9).heap[B]? = some (.cells #[a0, a1, a2, a3, a4, a5, a6, a7, a8, a9, x10, x11, x12, x13, x14] T (0, 0)) := set_cells (i := 9) (u := a9) h9
  have h11 : (((((((((((W.setCell ⟨B, 0, none⟩ a0).setCell ⟨B, 1, none⟩ a1).setCell ⟨B, 2, none⟩ a2).setCell ⟨B, 3, none⟩ a3).setCell ⟨B, 4, none⟩ a4).setCell ⟨B, 5, none⟩ a5).setCell ⟨B, 6, none⟩ a6).setCell ⟨B, 7, none⟩ a7).setCell ⟨B, 8, none⟩ a8).setCell ⟨B, 9, none⟩ a9).setCell ⟨B, 10, none⟩ a10).heap[B]? = some (.cells #[a0, a1, a2, a3, a4, a5, a6, a7, a8, a9, a10, x11, x12, x13, x14] T (0, 0)) := set_cells (i := 10) (u := a10) h10
  have h12 : ((((((((((((W.setCell ⟨B, 0, none⟩ a0).setCell ⟨B, 1, none⟩ a1).setCell ⟨B, 2, none⟩ a2).setCell ⟨B, 3, none⟩ a3).setCell ⟨B, 4, none⟩ a4).setCell ⟨B, 5, none⟩ a5).setCell ⟨B, 6, none⟩ a6).setCell ⟨B, 7, none⟩ a7).setCell ⟨B, 8, none⟩ a8).setCell ⟨B, 9, none⟩ a9).setCell ⟨B, 10, none⟩ a10).setCell ⟨B, 11, none⟩ a11).heap[B]? = some (.cells #[a0, a1, a2, a3, a4, a5, a6, a7, a8, a9, a10, a11, x12, x13, x14] T (0, 0)) := set_cells (i := 11) (u := a11) h11
  have h13 : (((((((((((((W.setCell ⟨B, 0, none⟩ a0).setCell ⟨B, 1, none⟩ a1).setCell ⟨B, 2, none⟩ a2).setCell ⟨B, 3, none⟩ a3).setCell ⟨B, 4, none⟩ a4).setCell ⟨B, 5, none⟩ a5).setCell ⟨B, 6, none⟩ a6).setCell ⟨B, 7, none⟩ a7).setCell ⟨B, 8, none⟩ a8).setCell ⟨B, 9, none⟩ a9).setCell ⟨B, 10, none⟩ a10).setCell ⟨B, 11, none⟩ a11).setCell ⟨B, 12, none⟩ a12).heap[B]? = some (.cells #[a0, a1, a2, a3, a4, a5, a6, a7, a8, a9, a10, a11, a12, x13, x14] T (0, 0)) := set_cells (i := 12) (u := a12) h12
  have h14 : ((((((((((((((W.setCell ⟨B, 0, none⟩ a0).setCell ⟨B, 1, none⟩ a1).setCell ⟨B, 2, none⟩ a2).setCell ⟨B, 3, none⟩ a3).setCell ⟨B, 4, none⟩ a4).setCell ⟨B, 5, none⟩ a5).setCell ⟨B, 6, none⟩ a6).setCell ⟨B, 7, none⟩ a7).setCell ⟨B, 8, none⟩ a8).setCell ⟨B, 9, none⟩ a9).setCell ⟨B, 10, none⟩ a10).setCell ⟨B, 11, none⟩ a11).setCell ⟨B, 12, none⟩ a12).setCell ⟨B, 13, none⟩ a13).heap[B]? = some (.cells #[a0, a1, a2, a3, a4, a5, a6, a7, a8, a9, a10, a11, a12, a13, x14] T (0, 0)) := set_cells (i := 13) (u := a13) h13
  have h15 : (((((((((((((((W.setCell ⟨B, 0, none⟩ a0).setCell ⟨B, 1, none⟩ a1).setCell ⟨B, 2, none⟩ a2).setCell ⟨B, 3, none⟩ a3).setCell ⟨B, 4, none⟩ a4).setCell ⟨B, 5, none⟩ a5).setCell ⟨B, 6, none⟩ a6).setCell ⟨B, 7, none⟩ a7).setCell ⟨B, 8, none⟩ a8).setCell ⟨B, 9, none⟩ a9).setCell ⟨B, 10, none⟩ a10).setCell ⟨B, 11, none⟩ a11).setCell ⟨B, 12, none⟩ a12).setCell ⟨B, 13, none⟩ a13).setCell ⟨B, 14, none⟩ a14).heap[B]? = some (.cells #[a0, a1, a2, a3, a4, a5, a6, a7, a8, a9, a10, a11, a12, a13, a14] T (0, 0)) := set_cells (i := 14) (u := a14) h14
  exact ⟨h15, (Fr2.setCell (Fr2.setCell (Fr2.setCell (Fr2.setCell (Fr2.setCell (Fr2.setCell (Fr2.setCell (Fr2.setCell (Fr2.setCell (Fr2.setCell (Fr2.setCell (Fr2.setCell (Fr2.setCell (Fr2.setCell (Fr2.setCell (Fr2.refl (Self B) W) (g := B) (j := 0) (mine B) a0) (g := B) (j := 1) (mine B) a1) (g := B) (j := 2) (mine B) a2) (g := B) (j := 3) (mine B) a3) (g := B) (j := 4) (mine B) a4) (g := B) (j := 5) (mine B) a5) (g := B) (j := 6) (mine B) a6) (g := B) (j := 7) (mine B) a7) (g := B) (j := 8) (mine B) a8) (g := B) (j := 9) (mine B) a9) (g := B) (j := 10) (mine B) a10) (g := B) (j := 11) (mine B) a11) (g := B) (j := 12) (mine B) a12) (g := B) (j := 13) (mine B) a13) (g := B) (j := 14) (mine B) a14)⟩
theorem cells15c {w : World} {r : Nat} {a0 a1 a2 a3 a4 a5 a6 a7 a8 a9 a10 a11 a12 a13 a14 : Value} {T : TypeId} (h0 : w.heap[r]? = some (.cells #[a0, a1, a2, a3, a4, a5, a6, a7, a8, a9, a10, a11, a12, a13, a14] T (0, 0))) : w.cell? ⟨r, 0, none⟩ = some a0 ∧ w.cell? ⟨r, 1, none⟩ = some a1 ∧ w.cell? ⟨r, 2, none⟩ = some a2 ∧ w.cell? ⟨r, 3, none⟩ = some a3 ∧ w.cell? ⟨r, 4, none⟩ = some a4 ∧ w.cell? ⟨r, 5, none⟩ = some a5 ∧ w.cell? ⟨r, 6, none⟩ = some a6 ∧ w.cell? ⟨r, 7, none⟩ = some a7 ∧ w.cell? ⟨r, 8, none⟩ = some a8 ∧ w.cell? ⟨r, 9, none⟩ = some a9 ∧ w.cell? ⟨r, 10, none⟩ = some a10 ∧ w.cell? ⟨r, 11, none⟩ = some a11 ∧ w.cell? ⟨r, 12, none⟩ = some a12 ∧ w.cell? ⟨r, 13, none⟩ = some a13 ∧ w.cell? ⟨r, 14, none⟩ = some a14 ∧ ∀ o, w.frozen? ⟨r, o, none⟩ = false :=
  ⟨by rw [cell_of_row w r 0 _ T (0, 0) h0]; rfl, by rw [cell_of_row w r 1 _ T (0, 0) h0]; rfl, by rw [cell_of_row w r 2 _ T (0, 0) h0]; rfl, by rw [cell_of_row w r 3 _ T (0, 0) h0]; rfl, by rw [cell_of_row w r 4 _ T (0, 0) h0]; rfl, by rw [cell_of_row w r 5 _ T (0, 0) h0]; rfl, by rw [cell_of_row w r 6 _ T (0, 0) h0]; rfl, by rw [cell_of_row w r 7 _ T (0, 0) h0]; rfl, by rw [cell_of_row w r 8 _ T (0, 0) h0]; rfl, by rw [cell_of_row w r 9 _ T (0, 0) h0]; rfl, by rw [cell_of_row w r 10 _ T (0, 0) h0]; rfl, by rw [cell_of_row w r 11 _ T (0, 0) h0]; rfl, by rw [cell_of_row w r 12 _ T (0, 0) h0]; rfl, by rw [cell_of_row w r 13 _ T (0, 0) h0]; rfl, by rw [cell_of_row w r 14 _ T (0, 0) h0]; rfl, fun o => by simp [World.frozen?, h0]⟩
theorem push_par {wr w7 wa w9 W9 : World} {B b2 base nv cv g9 n9 cap9 j2 : Nat} {pv : Option Addr} {rows : List (List Value)} {q : List Value} {ks : List Fx} {x : Fx} {u : Value} (hw : B ≤ wr.heap.size) (hO : OwnG 5 73 wr base (.slice pv nv cv) rows) (hb2 : b2 < base) (hb2r : b2 < wr.heap.size)
    (hLS : PsAt (fun k => B ≤ k ∧ k < wr.heap.size ∧ k ≠ b2 ∧ (Value.slice pv nv cv).ownBlock ≠ some k) wr ks rows) (hg7 : wr.grownBy w7 none) (hq : PAt (fun k => wr.heap.size ≤ k) w7 x q) (hga : w7.grownBy wa none) (hsa : wa.heap.size = w7.heap.size + 1)
    (hg9 : wa.grownBy w9 (Value.slice pv nv cv).ownBlock) (hl9 : (Value.slice pv nv cv).ownBlock = some g9 ∨ g9 = w7.heap.size + 1) (hf : (w9.setCell ⟨b2, j2, none⟩ u).grownBy W9 none) :
    PsAt (fun k => B ≤ k ∧ k < W9.heap.size ∧ k ≠ b2 ∧ (Value.slice (some ⟨g9, 0, none⟩) n9 cap9).ownBlock ≠ some k) W9 (ks ++ [x]) (rows ++ [q]) := by
  have hat := OwnG.at hO
  have s7 := hg7.size
  have s9 := hg9.size
  have sf := hf.size
  have sc : (w9.setCell ⟨b2, j2, none⟩ u).heap.size = w9.heap.size := by simp [World.setCell]
  have fr : Fr2 (fun k => (Value.slice pv nv cv).ownBlock = some k ∨ k = b2) w7 W9 :=
    ((Fr2.none hga).trans ((Fr2.of hg9 (fun k e => .inl e)).trans ((Fr2.setCell (Fr2.refl _ _) (.inr rfl) u).trans (Fr2.none hf))))
  have hne : ∀ k, k < w7.heap.size → (Value.slice pv nv cv).ownBlock ≠ some k → (Value.slice (some ⟨g9, 0, none⟩) n9 cap9).ownBlock ≠ some k := fun k hk h1 e => by
    have e : g9 = k := Option.some.inj (show some g9 = some k from e)
    rcases hl9 with h | h
    · exact h1 (by rw [h, e])
    · omega
  have hno : ∀ k, wr.heap.size ≤ k → (Value.slice pv nv cv).ownBlock ≠ some k := fun k hk e => by have := hat _ e; omega
  refine Ps_snoc ?_ ?_
  · have h1 := PAt.same fr (fun k (hk : wr.heap.size ≤ k ∧ k < w7.heap.size) => fun e => by
      rcases e with e | e
      · exact hno k hk.1 e
      · omega) hq.bound
    exact PAt.mono (fun k hk => ⟨by omega, by omega, by omega, hne k hk.2 (hno k hk.1)⟩) h1
  · have h1 := Ps_same fr (fun k (hk : B ≤ k ∧ k < wr.heap.size ∧ k ≠ b2 ∧ (Value.slice pv nv cv).ownBlock ≠ some k) => fun e => by
      rcases e with e | e
      · exact hk.2.2.2 e
      · exact hk.2.2.1 e) (Ps_kept hLS hg7)
    exact Ps_mono (fun k hk => ⟨hk.1, by omega, hk.2.2.1, hne k (by omega) hk.2.2.2⟩) h1

theorem keep8o {w2 : World} {B gg j : Nat} {v a b c d e f g h : Value} (hv : w2.cell? ⟨gg, j, none⟩ = some v) (hne : B ≠ gg) : ((((((((w2.setCell ⟨B, 5, none⟩ a).setCell ⟨B, 6, none⟩ b).setCell ⟨B, 7, none⟩ c).setCell ⟨B, 8, none⟩ d).setCell ⟨B, 9, none⟩ e).setCell ⟨B, 10, none⟩ f).setCell ⟨B, 11, none⟩ g).setCell ⟨B, 12, none⟩ h).cell? ⟨gg, j, none⟩ = some v := by
  rw [World.cell?_setCell_far _ _ _ _ hne, World.cell?_setCell_far _ _ _ _ hne, World.cell?_setCell_far _ _ _ _ hne, World.cell?_setCell_far _ _ _ _ hne, World.cell?_setCell_far _ _ _ _ hne, World.cell?_setCell_far _ _ _ _ hne, World.cell?_setCell_far _ _ _ _ hne, World.cell?_setCell_far _ _ _ _ hne]
  exact hv

theorem put8o {W : World} {B : Nat} {T : TypeId} {x0 x1 x2 x3 x4 x5 x6 x7 x8 x9 x10 x11 x12 x13 x14 : Value} (h0 : W.heap[B]? = some (.cells #[x0, x1, x2, x3, x4, x5, x6, x7, x8, x9, x10, x11, x12, x13, x14] T (0, 0))) (a b c d e f g h : Value) : ((((((((W.setCell ⟨B, 5, none⟩ a).setCell ⟨B, 6, none⟩ b).setCell ⟨B, 7, none⟩ c).setCell ⟨B, 8, none⟩ d).setCell ⟨B, 9, none⟩ e).setCell ⟨B, 10, none⟩ f).setCell ⟨B, 11, none⟩ g).setCell ⟨B, 12, none⟩ h).heap[B]? = some (.cells #[x0, x1, x2, x3, x4, a, b, c, d, e, f, g, h, x13, x14] T (0, 0)) ∧ Fr2 (Self B) W ((((((((W.setCell ⟨B, 5, none⟩ a).setCell ⟨B, 6, none⟩ b).setCell ⟨B, 7, none⟩ c).setCell ⟨B, 8, none⟩ d).setCell ⟨B, 9, none⟩ e).setCell ⟨B, 10, none⟩ f).setCell ⟨B, 11, none⟩ g).setCell ⟨B, 12, none⟩ h) := by
  have h1 : (W.setCell ⟨B, 5, none⟩ a).heap[B]? = some (.cells #[x0, x1, x2, x3, x4, a, x6, x7, x8, x9, x10, x11, x12, x13, x14] T (0, 0)) := set_cells (i := 5) (u := a) h0
  have h2 : ((W.setCell ⟨B, 5, none⟩ a).setCell ⟨B, 6, none⟩ b).heap[B]? = some (.cells #[x0, x1, x2, x3, x4, a, b, x7, x8, x9, x10, x11, x12, x13, x14] T (0, 0)) := set_cells (i := 6) (u := b) h1
  have h3 : (((W.setCell ⟨B, 5, none⟩ a).setCell ⟨B, 6, none⟩ b).setCell ⟨B, 7, none⟩ c).heap[B]? = some (.cells #[x0, x1, x2, x3, x4, a, b, c, x8, x9, x10, x11, x12, x13, x14] T (0, 0)) := set_cells (i := 7) (u := c) h2
  have h4 : ((((W.setCell ⟨B, 5, none⟩ a).setCell ⟨B, 6, none⟩ b).setCell ⟨B, 7, none⟩ c).setCell ⟨B, 8, none⟩ d).heap[B]? = some (.cells #[x0, x1, x2, x3, x4, a, b, c, d, x9, x10, x11, x12, x13, x14] T (0, 0)) := set_cells (i := 8) (u := d) h3
  have h5 : (((((W.setCell ⟨B, 5, none⟩ a).setCell ⟨B, 6, none⟩ b).setCell ⟨B, 7, none⟩ c).setCell ⟨B, 8, none⟩ d).setCell ⟨B, 9, none⟩ e).heap[B]? = some (.cells #[x0, x1, x2, x3, x4, a, b, c, d, e, x10, x11, x12, x13, x14] T (0, 0)) := set_cells (i := 9) (u := e) h4
  have h6 : ((((((W.setCell ⟨B, 5, none⟩ a).setCell ⟨B, 6, none⟩ b).setCell ⟨B, 7, none⟩ c).setCell ⟨B, 8, none⟩ d).setCell ⟨B, 9, none⟩ e).setCell ⟨B, 10, none⟩ f).heap[B]? = some (.cells #[x0, x1, x2, x3, x4, a, b, c, d, e, f, x11, x12, x13, x14] T (0, 0)) := set_cells (i := 10) (u := f) h5
  have h7 : (((((((W.setCell ⟨B, 5, none⟩ a).setCell ⟨B, 6, none⟩ b).setCell ⟨B, 7, none⟩ c).setCell ⟨B, 8, none⟩ d).setCell ⟨B, 9, none⟩ e).setCell ⟨B, 10, none⟩ f).setCell ⟨B, 11, none⟩ g).heap[B]? = some (.cells #[x0, x1, x2, x3, x4, a, b, c, d, e, f, g, x12, x13, x14] T (0, 0)) := set_cells (i := 11) (u := g) h6
  have h8 : ((((((((W.setCell ⟨B, 5, none⟩ a).setCell ⟨B, 6, none⟩ b).setCell ⟨B, 7, none⟩ c).setCell ⟨B, 8, none⟩ d).setCell ⟨B, 9, none⟩ e).setCell ⟨B, 10, none⟩ f).setCell ⟨B, 11, none⟩ g).setCell ⟨B, 12, none⟩ h).heap[B]? = some (.cells #[x0, x1, x2, x3, x4, a, b, c, d, e, f, g, h, x13, x14] T (0, 0)) := set_cells (i := 12) (u := h) h7
  exact ⟨h8, (Fr2.setCell (Fr2.setCell (Fr2.setCell (Fr2.setCell (Fr2.setCell (Fr2.setCell (Fr2.setCell (Fr2.setCell (Fr2.refl (Self B) W) (g := B) (j := 5) (mine B) a) (g := B) (j := 6) (mine B) b) (g := B) (j := 7) (mine B) c) (g := B) (j := 8) (mine B) d) (g := B) (j := 9) (mine B) e) (g := B) (j := 10) (mine B) f) (g := B) (j := 11) (mine B) g) (g := B) (j := 12) (mine B) h)⟩

theorem range_of {w : World} {b : Nat} {cs : List Value} {T : TypeId} (h : w.heap[b]? = some (.cells cs.toArray T (0, 0))) : w.rangeAt b 0 cs := fun j v hv => by
  rw [Nat.zero_add, cell_of_row w b j _ T (0, 0) h, List.getElem?_toArray]; exact hv
theorem sizeDef : (Tryz.prog.info? 62).map (·.size) = some 15 := by kernel_rfl

/-- Where a parameter lies in a box of its own. -/
def ParBox (W : World) (B : Nat) (x : Fx) (t6 : Value) (wx : World) : Prop := ∃ b q, t6 = .pointer (some ⟨b, 0, none⟩) ∧ wx.heap[b]? = some (.cells q.toArray 73 (0, 0)) ∧ PAt (fun k => B ≤ k ∧ k < wx.heap.size ∧ k ≠ b) wx x q ∧ B ≤ b ∧ W.grownBy wx none
theorem par_new {W w0 w2 : World} {B : Nat} {x : Fx} {a b c d e : Value} (h : W.grownBy w2 none) (hB : B ≤ w0.heap.size) (hB2 : B ≤ w2.heap.size) (hq : PAt (fun k => w0.heap.size ≤ k) w2 x [a, b, c, d, e]) : ParBox W B x (.pointer (some ⟨w2.heap.size, 0, none⟩)) (w2.alloc (.cells #[a, b, c, d, e] 73)) :=
  ⟨w2.heap.size, _, rfl, heap_alloc_new w2 _, PAt.mono (fun k hk => ⟨by have := hk.1; omega, by have := hk.2; simp; omega, by have := hk.2; omega⟩) (PAt.kept hq.bound (World.grownBy_alloc _ _ none)), hB2, gb_alloc h _⟩
theorem par_old {W w0 w2 : World} {B b0 : Nat} {x : Fx} {a b c d e : Value} {x0 x1 x2 x3 x4 : Value} (h : W.grownBy w2 none) (hb : W.heap.size ≤ b0) (hB : B ≤ b0) (hb0 : b0 < w0.heap.size) (hbx : w2.heap[b0]? = some (.cells #[x0, x1, x2, x3, x4] 73 (0, 0))) (hq : PAt (fun k => w0.heap.size ≤ k) w2 x [a, b, c, d, e]) :
    ParBox W B x (.pointer (some ⟨b0, 0, none⟩)) (((((w2.setCell ⟨b0, 0, none⟩ a).setCell ⟨b0, 1, none⟩ b).setCell ⟨b0, 2, none⟩ c).setCell ⟨b0, 3, none⟩ d).setCell ⟨b0, 4, none⟩ e) := by
  obtain ⟨hp, hf⟩ := put5c hbx a b c d e
  refine ⟨b0, _, rfl, hp, ?_, hB, Fr2.after h hf (fun j hj => by have e : j = b0 := hj; omega)⟩
  exact PAt.mono (fun k hk => ⟨by have := hk.1; omega, Nat.lt_of_lt_of_le hk.2 hf.size, by have := hk.1; omega⟩) (PAt.same hf (fun k hk e => by have e : k = b0 := e; have := hk.1; omega) hq.bound)
theorem def_fin {T : List Tok} {w W9 wr w8 WS : World} {b0 b1 b6 b7 wcs : Nat} {l : List Tr} {u : Tr} {F : Fx} {pub bs by8 : Bool} {sa sb : ByteArray} {op ps8 : Int} {pv pc pw pk : Option Addr} {nv cv nc cc nw cw nk ck8 : Nat} {rows : List (List Value)} {x0 x1 x2 x3 x4 x5 x6 x7 x8 x9 x10 x11 x12 x13 x14 : Value}
    (hw0 : w.heap.size = b0) (h01 : b0 < b1) (h17 : b1 < b7) (hGr : w.grownBy wr none) (hG8 : wr.grownBy w8 none) (hFS : Fr2 (Self b7) w8 WS) (hB1 : WS.heap[b1]? = some (.cells #[x0, x1, x2, x3, x4, x5, x6, x7, x8, x9, x10, x11, x12, x13, x14] 62 (0, 0)))
    (hsc : wcs = b7) (hS9 : b7 + 1 ≤ W9.heap.size) (hSr : b7 + 1 ≤ wr.heap.size) (hQ : PAt (fun k => b1 + 1 ≤ k ∧ k < wcs ∧ k ≠ b6) W9 F [strV F.nm, .int .i64 (F.base : Int), .slice pc nc cc, .int .i64 (F.ps : Int), .int .i64 F.bare]) (hF : Fr2 (fun k => k = b7) W9 wr)
    (hO : OwnG 5 73 wr W9.heap.size (.slice pv nv cv) rows) (hls : PsAt (fun k => b7 + 1 ≤ k ∧ k < wr.heap.size ∧ k ≠ b7 ∧ (Value.slice pv nv cv).ownBlock ≠ some k) wr (paramsX T l) rows)
    (hE : EAt (fun k => wr.heap.size ≤ k) w8 (axT T u) [.int .i64 op, .string sa, .string sb, .bool bs, .slice pw nw cw, .bool by8, .slice pk nk ck8, .int .i64 ps8]) :
    DefPost ⟨pub, paramsX T l, F, axT T u⟩ w (.returned (.agg #[.bool pub, .string ⟨F.nm.toArray⟩, .slice pv nv cv, .int .i64 (F.base : Int), .slice pc nc cc, .int .i64 op, .string sa, .string sb, .bool bs, .slice pw nw cw, .bool by8, .slice pk nk ck8, .int .i64 ps8, .int .i64 (F.ps : Int), .int .i64 F.bare])) (((((((((((((((WS.setCell ⟨b1, 0, none⟩ (.bool pub)).setCell ⟨b1, 1, none⟩ (.string ⟨F.nm.toArray⟩)).setCell ⟨b1, 2, none⟩ (.slice pv nv cv)).setCell ⟨b1, 3, none⟩ (.int .i64 (F.base : Int))).setCell ⟨b1, 4, none⟩ (.slice pc nc cc)).setCell ⟨b1, 5, none⟩ (.int .i64 op)).setCell ⟨b1, 6, none⟩ (.string sa)).setCell ⟨b1, 7, none⟩ (.string sb)).setCell ⟨b1, 8, none⟩ (.bool bs)).setCell ⟨b1, 9, none⟩ (.slice pw nw cw)).setCell ⟨b1, 10, none⟩ (.bool by8)).setCell ⟨b1, 11, none⟩ (.slice pk nk ck8)).setCell ⟨b1, 12, none⟩ (.int .i64 ps8)).setCell ⟨b1, 13, none⟩ (.int .i64 (F.ps : Int))).setCell ⟨b1, 14, none⟩ (.int .i64 F.bare)) := by
  obtain ⟨hp, hf⟩ := put15c hB1 (.bool pub) (.string ⟨F.nm.toArray⟩) (.slice pv nv cv) (.int .i64 (F.base : Int)) (.slice pc nc cc) (.int .i64 op) (.string sa) (.string sb) (.bool bs) (.slice pw nw cw) (.bool by8) (.slice pk nk ck8) (.int .i64 ps8) (.int .i64 (F.ps : Int)) (.int .i64 F.bare)
  have hfS : Fr2 (fun k => k = b7 ∨ k = b1) w8 (((((((((((((((WS.setCell ⟨b1, 0, none⟩ (.bool pub)).setCell ⟨b1, 1, none⟩ (.string ⟨F.nm.toArray⟩)).setCell ⟨b1, 2, none⟩ (.slice pv nv cv)).setCell ⟨b1, 3, none⟩ (.int .i64 (F.base : Int))).setCell ⟨b1, 4, none⟩ (.slice pc nc cc)).setCell ⟨b1, 5, none⟩ (.int .i64 op)).setCell ⟨b1, 6, none⟩ (.string sa)).setCell ⟨b1, 7, none⟩ (.string sb)).setCell ⟨b1, 8, none⟩ (.bool bs)).setCell ⟨b1, 9, none⟩ (.slice pw nw cw)).setCell ⟨b1, 10, none⟩ (.bool by8)).setCell ⟨b1, 11, none⟩ (.slice pk nk ck8)).setCell ⟨b1, 12, none⟩ (.int .i64 ps8)).setCell ⟨b1, 13, none⟩ (.int .i64 (F.ps : Int))).setCell ⟨b1, 14, none⟩ (.int .i64 F.bare)) := (hFS.mono (fun k e => .inl e)).trans (hf.mono (fun k e => .inr e))
  have hfr : Fr2 (fun k => k = b7 ∨ k = b1) wr (((((((((((((((WS.setCell ⟨b1, 0, none⟩ (.bool pub)).setCell ⟨b1, 1, none⟩ (.string ⟨F.nm.toArray⟩)).setCell ⟨b1, 2, none⟩ (.slice pv nv cv)).setCell ⟨b1, 3, none⟩ (.int .i64 (F.base : Int))).setCell ⟨b1, 4, none⟩ (.slice pc nc cc)).setCell ⟨b1, 5, none⟩ (.int .i64 op)).setCell ⟨b1, 6, none⟩ (.string sa)).setCell ⟨b1, 7, none⟩ (.string sb)).setCell ⟨b1, 8, none⟩ (.bool bs)).setCell ⟨b1, 9, none⟩ (.slice pw nw cw)).setCell ⟨b1, 10, none⟩ (.bool by8)).setCell ⟨b1, 11, none⟩ (.slice pk nk ck8)).setCell ⟨b1, 12, none⟩ (.int .i64 ps8)).setCell ⟨b1, 13, none⟩ (.int .i64 (F.ps : Int))).setCell ⟨b1, 14, none⟩ (.int .i64 F.bare)) := (Fr2.none hG8).trans hfS
  have hsz := hGr.size
  obtain ⟨hnv, hrow, hblk⟩ := hO.rows
  refine ⟨Fr2.after (gb_trans hGr hG8) hfS (fun k e => by rcases e with e | e <;> omega), _, rfl, pv, nv, cv, rows, pc, nc, cc, [.int .i64 op, .string sa, .string sb, .bool bs, .slice pw nw cw, .bool by8, .slice pk nk ck8, .int .i64 ps8], rfl, ?_, ?_, hnv.trans (Ps_len hls), ?_, ?_, fun h0 => ?_⟩
  · exact PAt.mono (fun k hk => by have h1 := hk.1; omega) (PAt.same hfr (fun k hk e => by have h1 := hk.1; have h2 := hk.2.1; rcases e with e | e <;> omega) (PAt.same hF (fun k hk e => by have h2 := hk.2.1; omega) hQ))
  · exact EAt.mono (fun k hk => Nat.le_trans hsz hk) (EAt.same hfS (fun k hk e => by have hk : wr.heap.size ≤ k := hk; rcases e with e | e <;> omega) hE)
  · exact hrow.keptS hfr (fun h0 a ha e => by
      obtain ⟨a', ha', hb', -⟩ := hblk h0
      rw [ha] at ha'; injection ha' with ha'; subst ha'
      rcases e with e | e <;> omega)
  · exact Ps_mono (fun k hk => by have h1 := hk.1; omega) (Ps_same hfr (fun k hk e => by have h1 := hk.1; rcases e with e | e <;> omega) hls)
  · obtain ⟨a', ha', hb', -⟩ := hblk (fun e => by have h9 := Ps_len hls; rw [e] at h9; exact h0 (List.eq_nil_of_length_eq_zero h9.symm))
    exact ⟨a', ha', by omega⟩
end Go.Proofs.YtoahgeleenpnjaaGreatDoor
