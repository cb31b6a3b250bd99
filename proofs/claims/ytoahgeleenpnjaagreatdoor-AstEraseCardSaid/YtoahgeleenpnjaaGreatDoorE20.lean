/- How big the expression of a tree is. -/
import Derived.Deep.DeepCutAuto
import Derived.Deep.CutBlock
import Derived.Test.YtoahgeleenpnjaaGreatDoorE11
import Derived.Test.YtoahgeleenpnjaaGreatDoorE16
import Derived.Test.YtoahgeleenpnjaaGreatDoorE13
import Derived.Deep.RegionHeld3
import Derived.Test.YtoahgeleenpnjaaGreatDoorE18
import Derived.Test.YtoahgeleenpnjaaGreatDoorE19
set_option linter.unusedVariables false
set_option linter.unusedSimpArgs false
namespace Go.Proofs.YtoahgeleenpnjaaGreatDoor
open Go.RowKit

mutual
theorem cntE_sizE : ∀ x : Ex, cntE x + 1 = 2 * sizE x
  | .mk op nm md nu ys ks ps => by simp only [cntE, sizE]; have := cntK_sizK ks; omega
theorem cntK_sizK : ∀ l : List Ex, cntK l = 2 * sizK l
  | [] => by simp [cntK, sizK]
  | k :: l => by have := cntE_sizE k; have := cntK_sizK l; simp only [cntK, sizK]; omega
end
theorem sizE_nodeE (k : Nat) (o : Nat → Tok) (ks : List Ex) : sizE (nodeE k o ks) = 1 + sizK ks := by
  unfold nodeE
  repeat' split
  all_goals simp only [sizE]
mutual
theorem sizE_axT (T : List Tok) : ∀ t : Tr, sizE (axT T t) ≤ szR t
  | .lf i => by simp only [axT, nilE, sizE, sizK, szR]; omega
  | .nd k l => by
    have h := sizK_axTs T l
    simp only [axT, szR]
    split
    · cases hx : axTs T l with
      | nil => simp only [List.headD, nilE, sizE, sizK]; omega
      | cons y r => rw [hx] at h; simp only [List.headD, sizK] at h ⊢; omega
    · rw [sizE_nodeE]; omega
theorem sizK_axTs (T : List Tok) : ∀ l : List Tr, sizK (axTs T l) ≤ szRs l
  | [] => by simp [axTs, sizK]
  | t :: l => by
    have h1 := sizE_axT T t
    have h2 := sizK_axTs T l
    simp only [axTs, szRs]
    split
    · simp only [sizK]; omega
    · omega
end
theorem binE_lt (s : List UInt8) : binE s < 100 := by unfold binE; split <;> omega
theorem unE_lt (s : List UInt8) : unE s < 100 := by unfold unE; split <;> omega
/-- Small texts make small parts. -/
theorem small_nodeE (k : Nat) (o : Nat → Tok) (ks : List Ex) (ho : ∀ j, (o j).text.length ≤ 1000000) : smallE (nodeE k o ks) := by
  unfold nodeE
  repeat' split
  all_goals
    refine ⟨?_, ?_, ?_, ?_⟩
    all_goals first | exact ho _ | exact binE_lt _ | exact unE_lt _ | simp
theorem allS_mk {x : Ex} (h : smallE x) (hk : allSs (kidsE x)) : allS x := by
  cases x with
  | mk op nm md nu ys ks ps => simp only [allS]; exact ⟨h, hk⟩
theorem kidsE_nodeE (k : Nat) (o : Nat → Tok) (ks : List Ex) : kidsE (nodeE k o ks) = ks := by
  unfold nodeE
  repeat' split
  all_goals rfl
theorem small_nil : allS nilE := by simp [nilE, allS, allSs, smallE]
mutual
theorem allS_axT (T : List Tok) (hT : ∀ t ∈ T, t.text.length ≤ 1000000) : ∀ t : Tr, allS (axT T t)
  | .lf i => by simp only [axT]; exact small_nil
  | .nd k l => by
    have h := allSs_axTs T hT l
    simp only [axT]
    split
    · cases hx : axTs T l with
      | nil => exact small_nil
      | cons y r => rw [hx] at h; simp only [allSs] at h; exact h.1
    · refine allS_mk (small_nodeE _ _ _ (fun j => ?_)) (by rw [kidsE_nodeE]; exact h)
      unfold tkT
      cases ht : T[(ownL l).getD j T.length]? with
      | none => simp
      | some t => exact hT t (List.mem_of_getElem? ht)
theorem allSs_axTs (T : List Tok) (hT : ∀ t ∈ T, t.text.length ≤ 1000000) : ∀ l : List Tr, allSs (axTs T l)
  | [] => by simp [axTs, allSs]
  | t :: l => by
    have h1 := allS_axT T hT t
    have h2 := allSs_axTs T hT l
    simp only [axTs]
    split
    · simp only [allSs]; exact ⟨h1, h2⟩
    · exact h2
end
end Go.Proofs.YtoahgeleenpnjaaGreatDoor
namespace Go.Proofs.YtoahgeleenpnjaaGreatDoor
open Go.RowKit

def sumTx (T : List Tok) (l : List Nat) : Nat := (l.map (fun i => (tkT T i).text.length)).sum
theorem sumTx_nil (T : List Tok) : sumTx T [] = 0 := rfl
theorem sumTx_cons (T : List Tok) (i : Nat) (l : List Nat) : sumTx T (i :: l) = (tkT T i).text.length + sumTx T l := by unfold sumTx; simp
theorem sumTx_append (T : List Tok) (a b : List Nat) : sumTx T (a ++ b) = sumTx T a + sumTx T b := by unfold sumTx; simp
theorem tk_end (T : List Tok) : (tkT T T.length).text = [] := by unfold tkT; simp
theorem own3 (T : List Tok) (L : List Nat) : (tkT T (L.getD 0 T.length)).text.length + (tkT T (L.getD 1 T.length)).text.length + (tkT T (L.getD 2 T.length)).text.length ≤ sumTx T L := by
  match L with
  | [] => simp [tk_end, sumTx_nil]
  | [a] => simp [tk_end, sumTx_cons, sumTx_nil]
  | [a, b] => simp [tk_end, sumTx_cons, sumTx_nil]
  | a :: b :: c :: r => simp only [sumTx_cons, List.getD_cons_zero, List.getD_cons_succ]; omega
theorem open_node (k : Nat) (o : Nat → Tok) (ks : List Ex) : (openE (nodeE k o ks)).length ≤ 11 + ((o 0).text.length + (o 1).text.length + (o 2).text.length) := by
  have d : ∀ n, (decN n).length ≤ 2 := fun n => by unfold decN; split <;> simp
  unfold nodeE
  repeat' split
  all_goals
    simp only [openE, nmE, tailE]
    have d24 := d 24; have d22 := d 22; have d21 := d 21; have d23 := d 23; have d3 := d 3; have d1 := d 1; have d2 := d 2; have d4 := d 4; have db := d (binE (o 0).text); have du := d (unE (o 0).text)
    repeat' split
    all_goals (simp only [List.length_append, List.length_cons, List.length_nil]; omega)
theorem dmpE_open (x : Ex) : (dmpE x).length = (openE x).length + (dmpK (kidsE x)).length + 1 := by
  cases x with
  | mk op nm md nu ys ks ps => simp only [dmpE, kidsE, List.length_append, List.length_singleton]
mutual
theorem dmpE_axT (T : List Tok) : ∀ t : Tr, (dmpE (axT T t)).length + 1 ≤ 13 * szR t + sumTx T (lvT t)
  | .lf i => by
    have : (dmpE nilE).length = 3 := by decide
    simp only [axT, szR]; omega
  | .nd k l => by
    have h := dmpK_axTs T l
    simp only [axT, szR, lvT]
    split
    · cases hx : axTs T l with
      | nil =>
        have : (dmpE nilE).length = 3 := by decide
        simp only [List.headD]; omega
      | cons y r =>
        rw [hx] at h
        simp only [List.headD, dmpK, List.length_append, List.length_cons] at h ⊢
        omega
    · rw [dmpE_open, kidsE_nodeE]
      have h2 := open_node k (fun j => tkT T ((ownL l).getD j T.length)) (axTs T l)
      have h3 := own3 T (ownL l)
      omega
theorem dmpK_axTs (T : List Tok) : ∀ l : List Tr, (dmpK (axTs T l)).length + sumTx T (ownL l) ≤ 13 * szRs l + sumTx T (lvTs l)
  | [] => by simp [axTs, dmpK, ownL, sumTx, lvTs, szRs]
  | .lf i :: l => by
    have h2 := dmpK_axTs T l
    simp only [axTs, isN, ownL, lvTs, lvT, szRs, szR, sumTx_cons, sumTx_append, List.cons_append, List.nil_append]
    simp only [Bool.false_eq_true, if_false]
    omega
  | .nd k r :: l => by
    have h1 := dmpE_axT T (.nd k r)
    have h2 := dmpK_axTs T l
    simp only [axTs, isN, ownL, lvTs, szRs, sumTx_append, if_true, dmpK, List.length_append, List.length_cons]
    omega
end
end Go.Proofs.YtoahgeleenpnjaaGreatDoor
namespace Go.Proofs.YtoahgeleenpnjaaGreatDoor
open Go.RowKit

/-! ### What an expression is, kind by kind -/

section
variable (T : List Tok)
end

theorem one0 (w : World) (A : Obj) : ∃ (W : World) (b0 : Nat), W = w.alloc A ∧ w.heap.size = b0 ∧ W.heap[b0]? = some A ∧ w.grownBy W none ∧ W.heap.size = b0 + 1 := ⟨_, _, rfl, rfl, heap_alloc_new w A, World.grownBy_alloc w A none, by simp⟩

end Go.Proofs.YtoahgeleenpnjaaGreatDoor
namespace Go.Proofs.YtoahgeleenpnjaaGreatDoor
open Go.RowKit

/-- Five cells read as a parameter. -/
def PAt (F : Nat → Prop) (w : World) (f : Fx) (q : List Value) : Prop := ∃ pc cc rows, q = [strV f.nm, .int .i64 (f.base : Int), .slice pc f.cl.length cc, .int .i64 (f.ps : Int), .int .i64 f.bare] ∧ GAt 8 w pc rows ∧ LsE F w f.cl rows ∧ (f.cl ≠ [] → ∃ a, pc = some a ∧ F a.block)
theorem PAt.same {F S : Nat → Prop} {w w' : World} {f : Fx} {q : List Value} (hg : Fr2 S w w') (hS : ∀ k, F k → ¬ S k) (h : PAt F w f q) : PAt F w' f q := by
  obtain ⟨pc, cc, rows, h1, h2, h3, h4⟩ := h
  exact ⟨pc, cc, rows, h1, gat_same (Ls_len h3) h2 (fun h0 => h4 (List.length_pos_iff.1 h0)) hg hS, LsE.same hg hS h3, h4⟩
theorem PAt.mono {F F' : Nat → Prop} {w : World} {f : Fx} {q : List Value} (hF : ∀ k, F k → F' k) (h : PAt F w f q) : PAt F' w f q := by
  obtain ⟨pc, cc, rows, h1, h2, h3, h4⟩ := h
  exact ⟨pc, cc, rows, h1, h2, LsE.mono hF h3, fun h0 => by obtain ⟨a, ha, h5⟩ := h4 h0; exact ⟨a, ha, hF _ h5⟩⟩
theorem PAt.kept {F : Nat → Prop} {w w' : World} {f : Fx} {q : List Value} (h : PAt F w f q) (hg : w.grownBy w' none) : PAt F w' f q := PAt.same (S := fun _ => False) (Fr2.none hg) (fun _ _ h => h) h
theorem PAt.bound {F : Nat → Prop} {w : World} {f : Fx} {q : List Value} (h : PAt F w f q) : PAt (fun k => F k ∧ k < w.heap.size) w f q := by
  obtain ⟨pc, cc, rows, h1, h2, h3, h4⟩ := h
  refine ⟨pc, cc, rows, h1, h2, LsE.bound h3, fun h0 => ?_⟩
  obtain ⟨a, ha, h5⟩ := h4 h0
  have hr := Ls_len h3
  exact ⟨a, ha, h5, GAt.blk h2 (fun e => by rw [e] at hr; exact h0 (List.eq_nil_of_length_eq_zero hr.symm)) a ha⟩
theorem PAt.form {F : Nat → Prop} {w : World} {f : Fx} {q : List Value} (h : PAt F w f q) : ∃ pc nc cc, q = [.string ⟨f.nm.toArray⟩, .int .i64 (f.base : Int), .slice pc nc cc, .int .i64 (f.ps : Int), .int .i64 f.bare] := by
  obtain ⟨pc, cc, rows, rfl, -⟩ := h
  exact ⟨pc, _, cc, rfl⟩
/-- Another name and place, base and end: the clause stays. -/
theorem PAt.turn {F : Nat → Prop} {w : World} {f : Fx} {a b c d : Value} {pc : Option Addr} {nc cc : Nat} (h : PAt F w f [a, b, .slice pc nc cc, c, d]) (nm : List UInt8) (base ps : Nat) (bare : Int) : PAt F w { f with nm := nm, base := base, ps := ps, bare := bare } [.string ⟨nm.toArray⟩, .int .i64 (base : Int), .slice pc nc cc, .int .i64 (ps : Int), .int .i64 bare] := by
  obtain ⟨pc', cc', rows, h1, h2, h3, h4⟩ := h
  injection h1 with _ h1; injection h1 with _ h1; injection h1 with h1 _; injection h1 with h5 h6 h7
  subst h5 h6 h7
  exact ⟨_, _, rows, rfl, h2, h3, h4⟩
def ParPost (x : Fx) (w : World) (e : Ending) (w' : World) : Prop := w.grownBy w' none ∧ ∃ q, e = .returned (.agg q.toArray) ∧ PAt (fun k => w.heap.size ≤ k) w' x q

/-- What is asked of a kid of a parameter or a definition. -/
def OkK (T : List Tok) : Tr → Prop
  | .lf _ => True
  | .nd k l => (k = 5 → ∃ b, l = [.lf b]) ∧ (k = 6 → ∃ i e j, l = [.lf i, e, .lf j] ∧ isN e = true ∧ WE T e)

set_option maxRecDepth 100000 in
set_option maxHeartbeats 4000000 in
theorem base_c (x : ByteArray) (w : World) : Calls Tryz.prog 122 #[.string x] w (ValPost (.int .i64 (baseN x.data.toList : Int)) w) := by
  by_cases h : x.data.toList = intT
  · have e1 : (x.toList == [105, 110, 116]) = true := by rw [toList_data, h]; rfl
    have hb : baseN x.data.toList = 1 := by unfold baseN; rw [if_pos h]
    rw [hb]
    clear h hb
    go_enter Tryz.func122, Tryz.ntmps122
    go_wp2_with fail
    go_ret
    exact ⟨rfl, gb_refl _ _⟩
  · have e1 : (x.toList == [105, 110, 116]) = false := by rw [toList_data]; exact beq_eq_false_iff_ne.2 h
    have hb : baseN x.data.toList = 2 := by unfold baseN; rw [if_neg h]
    rw [hb]
    clear h hb
    go_enter Tryz.func122, Tryz.ntmps122
    go_wp2_with fail
    go_ret
    exact ⟨rfl, gb_refl _ _⟩
theorem put5c {W : World} {B : Nat} {T : TypeId} {x0 x1 x2 x3 x4 : Value} (h0 : W.heap[B]? = some (.cells #[x0, x1, x2, x3, x4] T (0, 0))) (a b c d e : Value) : (((((W.setCell ⟨B, 0, none⟩ a).setCell ⟨B, 1, none⟩ b).setCell ⟨B, 2, none⟩ c).setCell ⟨B, 3, none⟩ d).setCell ⟨B, 4, none⟩ e).heap[B]? = some (.cells #[a, b, c, d, e] T (0, 0)) ∧ Fr2 (Self B) W (((((W.setCell ⟨B, 0, none⟩ a).setCell ⟨B, 1, none⟩ b).setCell ⟨B, 2, none⟩ c).setCell ⟨B, 3, none⟩ d).setCell ⟨B, 4, none⟩ e) := by
  have h1 : (W.setCell ⟨B, 0, none⟩ a).heap[B]? = some (.cells #[a, x1, x2, x3, x4] T (0, 0)) := set_cells (i := 0) (u := a) h0
  have h2 : ((W.setCell ⟨B, 0, none⟩ a).setCell ⟨B, 1, none⟩ b).heap[B]? = some (.cells #[a, b, x2, x3, x4] T (0, 0)) := set_cells (i := 1) (u := b) h1
  have h3 : (((W.setCell ⟨B, 0, none⟩ a).setCell ⟨B, 1, none⟩ b).setCell ⟨B, 2, none⟩ c).heap[B]? = some (.cells #[a, b, c, x3, x4] T (0, 0)) := set_cells (i := 2) (u := c) h2
  have h4 : ((((W.setCell ⟨B, 0, none⟩ a).setCell ⟨B, 1, none⟩ b).setCell ⟨B, 2, none⟩ c).setCell ⟨B, 3, none⟩ d).heap[B]? = some (.cells #[a, b, c, d, x4] T (0, 0)) := set_cells (i := 3) (u := d) h3
  have h5 : (((((W.setCell ⟨B, 0, none⟩ a).setCell ⟨B, 1, none⟩ b).setCell ⟨B, 2, none⟩ c).setCell ⟨B, 3, none⟩ d).setCell ⟨B, 4, none⟩ e).heap[B]? = some (.cells #[a, b, c, d, e] T (0, 0)) := set_cells (i := 4) (u := e) h4
  exact ⟨h5, (Fr2.setCell (Fr2.setCell (Fr2.setCell (Fr2.setCell (Fr2.setCell (Fr2.refl (Self B) W) (g := B) (j := 0) (mine B) a) (g := B) (j := 1) (mine B) b) (g := B) (j := 2) (mine B) c) (g := B) (j := 3) (mine B) d) (g := B) (j := 4) (mine B) e)⟩
theorem cells5c {w : World} {r : Nat} {a b c d e : Value} {T : TypeId} (h0 : w.heap[r]? = some (.cells #[a, b, c, d, e] T (0, 0))) : w.cell? ⟨r, 0, none⟩ = some a ∧ w.cell? ⟨r, 1, none⟩ = some b ∧ w.cell? ⟨r, 2, none⟩ = some c ∧ w.cell? ⟨r, 3, none⟩ = some d ∧ w.cell? ⟨r, 4, none⟩ = some e ∧ ∀ o, w.frozen? ⟨r, o, none⟩ = false :=
  ⟨by rw [cell_of_row w r 0 _ T (0, 0) h0]; rfl, by rw [cell_of_row w r 1 _ T (0, 0) h0]; rfl, by rw [cell_of_row w r 2 _ T (0, 0) h0]; rfl, by rw [cell_of_row w r 3 _ T (0, 0) h0]; rfl, by rw [cell_of_row w r 4 _ T (0, 0) h0]; rfl, fun o => by simp [World.frozen?, h0]⟩
theorem gat_one {w : World} {z : Nat} {q : List Value} {T : TypeId} {k : Nat} (h : w.heap[z]? = some (.cells q.toArray T (0, 0))) : GAt k w (some ⟨z, 0, none⟩) [q] := by
  refine .inr ⟨z, 0, rfl, hlt h, fun j q' hj i v hi => ?_⟩
  match j, hj with
  | 0, hj =>
    simp at hj; subst hj
    rw [show 0 + 0 * k + i = i by omega, cell_of_row w z i _ T (0, 0) h, List.getElem?_toArray]
    exact hi
theorem fieldX_next (T : List Tok) {l : List Tr} {j : Nat} {t : Tr} (h : l[j]? = some t) : fieldX T (l.take (j + 1)) = stepF T (fieldX T (l.take j)) t := by
  unfold fieldX
  rw [take_snoc h, List.foldl_append]; rfl
end Go.Proofs.YtoahgeleenpnjaaGreatDoor
