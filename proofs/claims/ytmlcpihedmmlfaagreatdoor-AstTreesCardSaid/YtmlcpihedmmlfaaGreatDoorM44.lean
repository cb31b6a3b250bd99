/- What Parse and Formula answer, as trees that are right and have the document's dump. -/
import Derived.Test.YtmlcpihedmmlfaaGreatDoorPRead
import Derived.Test.YtmlcpihedmmlfaaGreatDoorM12
import Derived.Test.YtmlcpihedmmlfaaGreatDoorUDump
import Derived.Laws.StructEq
import Derived.Test.YtmlcpihedmmlfaaGreatDoorAExpr
import Derived.Test.YtmlcpihedmmlfaaGreatDoorURight
import Derived.Test.YtmlcpihedmmlfaaGreatDoorAEForm
import Derived.Test.YtmlcpihedmmlfaaGreatDoorAPrg2
import Derived.Test.YtmlcpihedmmlfaaGreatDoorM5
set_option linter.unusedVariables false
set_option linter.unusedSimpArgs false
namespace Go.Proofs.YtmlcpihedmmlfaaGreatDoor
open Go.RowKit

structure TreeF (l : List UInt8) (D : Int) (f : Bool) : Prop where
  lex : (allE l).2.1 = 0
  right : rightT (allE l).1.length (nodesQ l D f)
  dump : dp ((allE l).1.map toI) (nodesQ l D f) ((nodesQ l D f).length - 1) = (ansQ l D f).1
  bare : EndsBare (allE l).1
  root : ∃ ks, (nodesQ l D f)[(nodesQ l D f).length - 1]? = some ⟨(kindR f : Int), -1, ks⟩
  short : (ansQ l D f).1.length ≤ 5 * (nodesQ l D f).length + l.length + (allE l).1.length
theorem tree_facts {l : List UInt8} {D : Int} {f : Bool} (hl : l.length ≤ 30000) (h : (ansQ l D f).2.1 = 0) : TreeF l D f := by
  have hr : ¬ (D < 1 ∨ 200 < D) := fun e => by
    unfold ansQ at h; rw [if_pos e] at h; cases h
  have hx : (allE l).2.1 = 0 := by
    rcases Nat.eq_zero_or_pos (allE l).2.1 with h9 | h9
    · exact h9
    · rw [ans_lex hr (by omega) (by omega)] at h
      have h : (allE l).2.1 = 0 := h
      omega
  have ht : (treeT (allE l).1 D.toNat f).2.e = 0 := by
    have h9 := ans_good (f := f) hr (by omega) hx
    rcases Nat.eq_zero_or_pos (treeT (allE l).1 D.toNat f).2.e with h8 | h8
    · exact h8
    · rw [if_neg (by omega)] at h9
      rw [h9] at h
      have h : (treeT (allE l).1 D.toNat f).2.e = 0 := h
      omega
  have hk : kOk (.nd (kindR f) (treeT (allE l).1 D.toNat f).1) := by
    have := tree_ko (allE l).1 D.toNat f
    simp only [kOk]
    refine ⟨?_, ?_, this⟩ <;> (unfold kindR; split <;> decide)
  have hlv : lvT (.nd (kindR f) (treeT (allE l).1 D.toNat f).1) = List.range (allE l).1.length := by
    simp only [lvT]; exact tree_leaves hx D.toNat f ht
  have hb : EndsBare (allE l).1 := fun t ht hk5 => by
    obtain ⟨i, hi⟩ := List.getElem?_of_mem ht
    have := (place_all hx).1 i t hi
    exact this.2.2.2 hk5
  have hans : (ansQ l D f).1 = dmp (allE l).1 (.nd (kindR f) (treeT (allE l).1 D.toNat f).1) := by
    unfold ansQ
    rw [if_neg hr, parse_good (by omega) hx, if_pos ht]
    rfl
  refine ⟨hx, post_right hk hlv, by rw [hans]; exact post_dump hb hk hlv, hb, ?_, ?_⟩
  · refine ⟨idxs 0 (treeT (allE l).1 D.toNat f).1, ?_⟩
    unfold nodesQ
    rw [post_len]
    simp only [post, szR]
    rw [Nat.add_sub_cancel, List.getElem?_append_right (by rw [posts_len]; exact Nat.le_refl _), posts_len]
    simp
  · have h1 := dmp_len (allE l).1 (.nd (kindR f) (treeT (allE l).1 D.toNat f).1)
    have h2 := toks_sum (allE l).1
    rw [hlv] at h1
    rw [whole_all hx] at h2
    rw [hans]
    unfold nodesQ
    rw [post_len]
    omega
theorem dump_tree {l : List UInt8} {D : Int} {f : Bool} (hl : l.length ≤ 25000) (h : (ansQ l D f).2.1 = 0) {w : World} {pt pn : Option Addr} {ct cn : Nat} {K : Kf} (ht : TAt w pt (allE l).1) (hn : NodesAt w pn (nodesQ l D f) K) (hN : (nodesQ l D f).length ≤ 2 * (allE l).1.length) :
    Calls Tryz.prog 23 #[.agg #[.slice pt (allE l).1.length ct, .slice pn (nodesQ l D f).length cn], .int .i64 (((nodesQ l D f).length - 1 : Nat) : Int)] w (DumpOk (ansQ l D f).1 w) := by
  have hF := tree_facts (by omega) h
  have h1 := len_all hF.lex
  have h0 : 0 < (nodesQ l D f).length := List.length_pos_iff.2 hF.right.1.1
  rw [← hF.dump]
  exact Dump_c (allE l).1 (nodesQ l D f) K hF.right (by omega) (by omega) hF.bare pt pn ct cn _ (by omega) (by rw [hF.dump]; have := hF.short; omega) w ht hn
theorem root_tree {l : List UInt8} {D : Int} {f : Bool} (hl : l.length ≤ 25000) (h : (ansQ l D f).2.1 = 0) (hN : (nodesQ l D f).length ≤ 2 * (allE l).1.length) (w : World) (pt pn : Option Addr) (ct cn : Nat) :
    Calls Tryz.prog 24 #[.agg #[.slice pt (allE l).1.length ct, .slice pn (nodesQ l D f).length cn]] w (ValPost (.int .i64 (((nodesQ l D f).length - 1 : Nat) : Int)) w) := by
  have hF := tree_facts (by omega) h
  have h1 := len_all hF.lex
  exact Root_c pt pn _ ct _ cn (List.length_pos_iff.2 hF.right.1.1) (by omega) w
end Go.Proofs.YtmlcpihedmmlfaaGreatDoor
namespace Go.Proofs.YtmlcpihedmmlfaaGreatDoor
open Go.RowKit

/-- What is read with some depth is the same with 200. -/
structure ReadF (l : List UInt8) (D : Int) (f : Bool) : Prop where
  d1 : 1 ≤ D
  d2 : D ≤ 200
  lex : (allE l).2.1 = 0
  ok : (treeT (allE l).1 D.toNat f).2.e = 0
  same : treeT (allE l).1 200 f = treeT (allE l).1 D.toNat f
  nodes : nodesQ l 200 f = nodesQ l D f
  ans : (ansQ l 200 f).2.1 = 0
theorem read_f {l : List UInt8} {D : Int} {f : Bool} (hl : l.length ≤ 30000) (h : (ansQ l D f).2.1 = 0) : ReadF l D f := by
  have hr : ¬ (D < 1 ∨ 200 < D) := fun e => by
    unfold ansQ at h; rw [if_pos e] at h; cases h
  have hx : (allE l).2.1 = 0 := by
    rcases Nat.eq_zero_or_pos (allE l).2.1 with h9 | h9
    · exact h9
    · rw [ans_lex hr (by omega) (by omega)] at h
      have h : (allE l).2.1 = 0 := h
      omega
  have ht : (treeT (allE l).1 D.toNat f).2.e = 0 := by
    have h9 := ans_good (f := f) hr (by omega) hx
    rcases Nat.eq_zero_or_pos (treeT (allE l).1 D.toNat f).2.e with h8 | h8
    · exact h8
    · rw [if_neg (by omega)] at h9
      rw [h9] at h
      have h : (treeT (allE l).1 D.toNat f).2.e = 0 := h
      omega
  have hs : treeT (allE l).1 200 f = treeT (allE l).1 D.toNat f := by
    rcases parse_depths hx (D := D.toNat) (D' := 200) (by omega) (by omega) f with e | ⟨e, -⟩
    · exact e.symm
    · rw [ht] at e; cases e
  refine ⟨by omega, by omega, hx, ht, hs, ?_, ?_⟩
  · unfold nodesQ
    rw [show ((200 : Int)).toNat = 200 from rfl, hs]
  · have h9 := ans_good (D := 200) (f := f) (by omega) (by omega) hx
    rw [show ((200 : Int)).toNat = 200 from rfl, hs, if_pos ht] at h9
    rw [h9]

/-- The tree of a formula alone: an expression, and the end. -/
theorem alone_one {l : List UInt8} {D : Int} (h : ReadF l D true) : ∃ t i, (treeT (allE l).1 D.toNat true).1 = [t, .lf i] ∧ isN t = true ∧ WE (allE l).1 t := by
  have h0 := h.ok
  unfold treeT at h0 ⊢
  rw [if_pos rfl] at h0 ⊢
  obtain ⟨k1, -, k3⟩ := kind_w (allE l).1 (k := 5) (s := ((nxT (allE l).1 D.toNat D.toNat).expr (setIn true startQ)).2) h0
  have hw := nx_w (allE l).1 (num_all l) D.toNat D.toNat (Nat.le_refl _)
  obtain ⟨t, ht, h1, h2⟩ := hw.expr (setIn true startQ) k3
  refine ⟨t, ((nxT (allE l).1 D.toNat D.toNat).expr (setIn true startQ)).2.i, ?_, h1, h2⟩
  show ((nxT (allE l).1 D.toNat D.toNat).expr (setIn true startQ)).1 ++ (kindT (allE l).1 5 ((nxT (allE l).1 D.toNat D.toNat).expr (setIn true startQ)).2).1 = _
  rw [ht, k1]; rfl
/-- How many kids a node may have. -/
theorem kids_few {l : List UInt8} {D : Int} {f : Bool} (hN : (nodesQ l D f).length ≤ 150000) : ∀ (i : Nat) (x : Nd), (nodesQ l D f)[i]? = some x → x.kids.length ≤ 150000 := fun i x hx => by
  have h1 := kids_room (.nd (kindR f) (treeT (allE l).1 D.toNat f).1) 0 x (List.mem_of_getElem? hx)
  have h2 : (nodesQ l D f).length = (post 0 (.nd (kindR f) (treeT (allE l).1 D.toNat f).1)).length := rfl
  omega
/-- The expression of a formula's tree. -/
def formE (l : List UInt8) (D : Int) : Ex := (axTs (allE l).1 (treeT (allE l).1 D.toNat true).1).headD nilE

/-! ### FormulaOf -/

def FormPost (x : Ex) (w : World) (e : Ending) (w' : World) : Prop := w.grownBy w' none ∧ ∃ q, e = .returned (.tuple #[.agg q.toArray, .int .i64 0]) ∧ EAt (fun k => w.heap.size ≤ k) w' x q

theorem form_root {l : List UInt8} {D : Int} (h : ReadF l D true) : ∃ (t : Tr) (ks : List Int) (k0 : Nat), (nodesQ l D true)[(nodesQ l D true).length - 1]? = some ⟨18, -1, ks⟩ ∧ ks[0]? = some (k0 : Int) ∧ GoodE (allE l).1 (nodesQ l D true) (k0 : Int) t ∧ axT (allE l).1 t = formE l D ∧ szR t ≤ (nodesQ l D true).length := by
  obtain ⟨t, i, ht, h1, h2⟩ := alone_one h
  have hr := TrAt.root (.nd 18 (treeT (allE l).1 D.toNat true).1)
  have hNN : nodesQ l D true = post 0 (.nd 18 (treeT (allE l).1 D.toNat true).1) := rfl
  obtain ⟨n, ks, hn, hx, hkt⟩ := hr.nd
  have hlen : (nodesQ l D true).length = szR (.nd 18 (treeT (allE l).1 D.toNat true).1) := by rw [hNN, post_len]
  have hn' : n = (nodesQ l D true).length - 1 := by omega
  rw [← hNN] at hx hkt
  rw [hn'] at hx
  obtain ⟨k0, hk0, hta, -⟩ := hkt.2 0 t (by rw [ht]; rfl)
  have hko := tree_ko (allE l).1 D.toNat true
  have hlv := tree_leaves h.lex D.toNat true h.ok
  rw [KO, ht] at hko
  rw [ht] at hlv
  simp only [kOks] at hko
  refine ⟨t, ks, k0, hx, hk0, ⟨h1, h2, hko.1, fun j hj => ?_, hta⟩, ?_, ?_⟩
  · have : j ∈ lvTs [t, .lf i] := by simp only [lvTs, List.mem_append]; exact .inl hj
    rw [hlv] at this
    exact List.mem_range.1 this
  · unfold formE
    rw [ht]
    rw [axTs, if_pos h1]; rfl
  · rw [hlen, ht]
    simp only [szR, szRs]; omega
end Go.Proofs.YtmlcpihedmmlfaaGreatDoor
namespace Go.Proofs.YtmlcpihedmmlfaaGreatDoor
open Go.RowKit

/-- The program of a text. -/
def progE (l : List UInt8) (D : Int) : Px := progX (allE l).1 (treeT (allE l).1 D.toNat false).1
theorem text_in {L : List Tok} : ∀ {t : Tok}, t ∈ L → t.lead.length + t.text.length ≤ (wholeL L).length := by
  induction L with
  | nil => intro t h; simp at h
  | cons a L ih =>
    intro t h
    have e : wholeL (a :: L) = a.lead ++ a.text ++ wholeL L := rfl
    rw [e, List.length_append, List.length_append]
    rcases List.mem_cons.1 h with rfl | h
    · omega
    · have := ih h; omega
theorem toks_small {l : List UInt8} (hl : l.length ≤ 30000) (h : (allE l).2.1 = 0) : ∀ i, (tkT (allE l).1 i).pos ≤ 1000000 ∧ (tkT (allE l).1 i).text.length ≤ 1000000 := fun i => by
  unfold tkT
  cases ht : (allE l).1[i]? with
  | none => exact ⟨by simp, by simp⟩
  | some t =>
    have h1 := text_in (List.mem_of_getElem? ht)
    have h2 := ((place_all h).1 i t ht).1
    have h3 := wholeL_take (allE l).1 i
    rw [whole_all h] at h1 h3
    simp only [Option.getD_some]
    omega
theorem prog_root {l : List UInt8} {D : Int} (h : ReadF l D false) : ∃ (ks : List Int), (nodesQ l D false)[(nodesQ l D false).length - 1]? = some ⟨((1 : Nat) : Int), -1, ks⟩ ∧ KT (nodesQ l D false) ((nodesQ l D false).length - 1) ks (treeT (allE l).1 D.toNat false).1 ∧ kOks (treeT (allE l).1 D.toNat false).1 ∧ (∀ i ∈ lvTs (treeT (allE l).1 D.toNat false).1, i < (allE l).1.length) ∧ szRs (treeT (allE l).1 D.toNat false).1 ≤ (nodesQ l D false).length ∧ ∀ t ∈ (treeT (allE l).1 D.toNat false).1, OkP (allE l).1 t := by
  have hr := TrAt.root (.nd 1 (treeT (allE l).1 D.toNat false).1)
  have hNN : nodesQ l D false = post 0 (.nd 1 (treeT (allE l).1 D.toNat false).1) := rfl
  obtain ⟨n, ks, hn, hx, hkt⟩ := hr.nd
  have hlen : (nodesQ l D false).length = szR (.nd 1 (treeT (allE l).1 D.toNat false).1) := by rw [hNN, post_len]
  have hn' : n = (nodesQ l D false).length - 1 := by omega
  rw [← hNN] at hx hkt
  rw [hn'] at hx hkt
  refine ⟨ks, hx, hkt, tree_ko (allE l).1 D.toNat false, fun i hi => ?_, ?_, okp_of (prog_w (num_all l) h.ok)⟩
  · rw [tree_leaves h.lex D.toNat false h.ok] at hi
    exact List.mem_range.1 hi
  · rw [hlen]; simp only [szR]; omega
/-- The program of the tree that is made anew, read. -/
theorem prog_read {l : List UInt8} {D : Int} (hl : l.length ≤ 25000) (h : ReadF l D false) (hN : (nodesQ l D false).length ≤ 2 * (allE l).1.length) {K : Kf} (pt pn : Option Addr) (ct cn : Nat) (w : World) (ht : TAt w pt (allE l).1) (hn : NodesAt w pn (nodesQ l D false) K) (hla : LaidS w) :
    Calls Tryz.prog 33 #[.agg #[.slice pt (allE l).1.length ct, .slice pn (nodesQ l D false).length cn]] w (PrgPost (progE l D) w) := by
  obtain ⟨ks, hx, hkt, hko, hlv, hsz, hok⟩ := prog_root h
  have hlen := len_all h.lex
  exact program_c (K := K) (by omega) (by omega) rfl hx hkt hko hlv (by omega) hok (toks_small (by omega) h.lex) pt pn ct cn w ht hn hla
end Go.Proofs.YtmlcpihedmmlfaaGreatDoor
namespace Go.Proofs.YtmlcpihedmmlfaaGreatDoor
open Go.RowKit

def BoolOf (p : Prop) (w : World) (e : Ending) (w' : World) : Prop := w.grownBy w' none ∧ ∃ b : Bool, e = .returned (.bool b) ∧ (b = true ↔ p)
theorem ret_false {p : Prop} {w w' : World} (hg : w.grownBy w' none) (h : ¬ p) : BoolOf p w (.returned (.bool false)) w' := ⟨hg, false, rfl, by simp [h]⟩
def smTok (t : TokI) : Prop := t.lead.length ≤ 100 ∧ t.text.length ≤ 100
def smallT (T : List TokI) (N : List Nd) : Prop := T.length ≤ 100 ∧ N.length ≤ 200 ∧ (∀ t ∈ T, smTok t) ∧ ∀ x ∈ N, x.kids.length ≤ 100

set_option maxRecDepth 100000 in
set_option maxHeartbeats 8000000 in
theorem Small_c (T : List TokI) (N : List Nd) (K : Nat → Option Addr × Nat) (pt pn : Option Addr) (ct cn : Nat) (w : World) (hTm : T.length ≤ maxLen) (hNm : N.length ≤ maxLen) (ht : ToksAt w pt T) (hw : NodesAt w pn N K) :
    Calls Tryz.prog 20 #[.agg #[.slice pt T.length ct, .slice pn N.length cn]] w (BoolOf (smallT T N) w) := by
  unfold maxLen at hTm hNm
  have HT := Lib.hid ht; have HW := Lib.hid hw
  have HS : Hid (smallT T N ↔ T.length ≤ 100 ∧ N.length ≤ 200 ∧ (∀ t ∈ T, smTok t) ∧ ∀ x ∈ N, x.kids.length ≤ 100) := Lib.hid Iff.rfl
  obtain ⟨m, hm⟩ : ∃ m, T.length = m := ⟨_, rfl⟩
  obtain ⟨M, hM⟩ : ∃ M, N.length = M := ⟨_, rfl⟩
  rw [hm, hM] at HS
  rw [hm] at hTm ⊢
  rw [hM] at hNm ⊢
  have HM := Lib.hid hM; have HTL := Lib.hid hm
  clear ht hw hm hM
  by_cases k1 : 100 < m
  · have d1 : decide (100 < m) = true := decide_eq_true k1
    have d1' : decide ((100 : Int) < (m : Int)) = true := decide_eq_true (by omega)
    go_enter Tryz.func20, Tryz.ntmps20
    go_wp2_with fail
    go_ret
    exact ret_false (gb_alloc (gb_refl _ _) _) (fun h => by have := (HS.out.1 h).1; omega)
  · have d1 : decide (100 < m) = false := decide_eq_false k1
    have d1' : decide ((100 : Int) < (m : Int)) = false := decide_eq_false (by omega)
    by_cases k2 : 200 < M
    · have d2 : decide (200 < M) = true := decide_eq_true k2
      have d2' : decide ((200 : Int) < (M : Int)) = true := decide_eq_true (by omega)
      go_enter Tryz.func20, Tryz.ntmps20
      go_wp2_with fail
      go_ret
      exact ret_false (gb_alloc (gb_refl _ _) _) (fun h => by have := (HS.out.1 h).2.1; omega)
    · have d2 : decide (200 < M) = false := decide_eq_false k2
      have d2' : decide ((200 : Int) < (M : Int)) = false := decide_eq_false (by omega)
      go_enter Tryz.func20, Tryz.ntmps20
      go_wp2_with fail
      have hA := heap_alloc_new w (.cells #[.slice pt m ct, .slice pn M cn] 26)
      have hgA := World.grownBy_alloc w (.cells #[.slice pt m ct, .slice pn M cn] 26) none
      generalize (w.alloc (.cells #[.slice pt m ct, .slice pn M cn] 26)) = W at *
      obtain ⟨b, hb⟩ : ∃ b, w.heap.size = b := ⟨_, rfl⟩
      rw [hb] at hA ⊢
      have HA := Lib.hid hA; have HGA := Lib.hid hgA
      clear hA hgA hb
      go_loopw [20] (fun v wr => ∃ k : Nat, k ≤ m ∧ v = .int .i64 k ∧ Hid (∀ (j : Nat) (t : TokI), j < k → T[j]? = some t → smTok t) ∧ Hid (W.grownBy wr none)) (fun v _ => m - (intOf v).toNat)
      case atStart => exact ⟨0, Nat.zero_le _, rfl, Lib.hid (fun j t h => by omega), Lib.hid (gb_refl _ _)⟩
      case round =>
        obtain ⟨k, hk, rfl, HK, HG⟩ := hrel
        by_cases hlt : k < m
        · have d3 : decide ((k : Int) < (m : Int)) = true := decide_eq_true (by omega)
          have d3' : decide (k < m) = true := decide_eq_true hlt
          obtain ⟨t, hx⟩ : ∃ t, T[k]? = some t := ⟨T[k]'(by rw [HTL.out]; exact hlt), List.getElem?_eq_getElem _⟩
          obtain ⟨g, off, rfl, hgl, c0, c1, c2, c3⟩ := tok_at HT.out hx
          have hgw := gb_trans HGA.out HG.out
          have c0 := hgw.cell c0 (by simp)
          have c1 := hgw.cell c1 (by simp)
          have c2 := hgw.cell c2 (by simp)
          have c3 := hgw.cell c3 (by simp)
          obtain ⟨x, hxe⟩ : ∃ x : ByteArray, (⟨t.lead.toArray⟩ : ByteArray) = x := ⟨_, rfl⟩
          obtain ⟨y, hye⟩ : ∃ y : ByteArray, (⟨t.text.toArray⟩ : ByteArray) = y := ⟨_, rfl⟩
          have hxs : x.size = t.lead.length := by rw [← list_len, ← hxe]
          have hys : y.size = t.text.length := by rw [← list_len, ← hye]
          unfold strV at c1 c2
          rw [hxe] at c1
          rw [hye] at c2
          have HX := Lib.hid hx
          have HT1 : Hid (smTok t ↔ x.size ≤ 100 ∧ y.size ≤ 100) := Lib.hid (by rw [hxs, hys]; exact Iff.rfl)
          have HNF := Lib.hid (fun (h : ¬ smTok t) W' (hg : w.grownBy W' none) => ret_false (p := smallT T N) hg (fun hs => h ((HS.out.1 hs).2.2.1 t (List.mem_of_getElem? HX.out))))
          have HGW := Lib.hid hgw
          generalize t.kind = tk at *
          generalize t.pos = tp at *
          clear hx hxe hye hxs hys hgw
          by_cases k3 : 100 < x.size
          · have d4 : decide (100 < x.size) = true := decide_eq_true k3
            have d4' : decide ((100 : Int) < (x.size : Int)) = true := decide_eq_true (by omega)
            go_wp2_with fail
            go_ret
            exact HNF.out (fun h => by have := (HT1.out.1 h).1; omega) _ (gb_alloc HGW.out _)
          · have d4 : decide (100 < x.size) = false := decide_eq_false k3
            have d4' : decide ((100 : Int) < (x.size : Int)) = false := decide_eq_false (by omega)
            by_cases k4 : 100 < y.size
            · have d5 : decide (100 < y.size) = true := decide_eq_true k4
              have d5' : decide ((100 : Int) < (y.size : Int)) = true := decide_eq_true (by omega)
              go_wp2_with fail
              go_ret
              exact HNF.out (fun h => by have := (HT1.out.1 h).2; omega) _ (gb_alloc HGW.out _)
            · have d5 : decide (100 < y.size) = false := decide_eq_false k4
              have d5' : decide ((100 : Int) < (y.size : Int)) = false := decide_eq_false (by omega)
              go_wp2_with fail
              go_roundw
              case rel => exact ⟨k + 1, by omega, by go_num, Lib.hid (fun j t' hj hx => by
                by_cases e : j = k
                · subst e; rw [HX.out] at hx; injection hx with hx; subst hx; exact HT1.out.2 ⟨by omega, by omega⟩
                · exact HK.out j t' (by omega) hx), Lib.hid (gb_alloc HG.out _)⟩
              case measure => (simp [intOf] <;> omega)
        · obtain rfl : k = m := by omega
          obtain ⟨a0, a1, a2⟩ := cells2 (bx HG.out HA.out)
          have HTS : Hid (∀ t ∈ T, smTok t) := Lib.hid (fun t ht => by
            obtain ⟨j, hj⟩ := List.getElem?_of_mem ht
            exact HK.out j t (by have := (List.getElem?_eq_some_iff.1 hj).1; rw [HTL.out] at this; exact this) hj)
          have HGW := Lib.hid (gb_trans HGA.out HG.out)
          obtain ⟨W3, hW3⟩ : ∃ W3, wr = W3 := ⟨_, rfl⟩
          rw [hW3] at HGW a0 a1 a2 ⊢
          clear HK HG hW3
          go_wp2_with fail
          go_loopw [38] (fun v wr => ∃ k : Nat, k ≤ M ∧ v = .int .i64 k ∧ Hid (∀ (j : Nat) (x : Nd), j < k → N[j]? = some x → x.kids.length ≤ 100) ∧ Hid (W3.grownBy wr none)) (fun v _ => M - (intOf v).toNat)
          case atStart => exact ⟨0, Nat.zero_le _, rfl, Lib.hid (fun j t h => by omega), Lib.hid (gb_refl _ _)⟩
          case round =>
            obtain ⟨k, hk, rfl, HK, HG⟩ := hrel
            have HGW2 := Lib.hid (gb_trans HGW.out HG.out)
            by_cases hlt : k < M
            · have d3 : decide ((k : Int) < (M : Int)) = true := decide_eq_true (by omega)
              have d3' : decide (k < M) = true := decide_eq_true hlt
              obtain ⟨x, hx⟩ : ∃ x, N[k]? = some x := ⟨N[k]'(by rw [HM.out]; exact hlt), List.getElem?_eq_getElem _⟩
              obtain ⟨g, off, rfl, hgl, c0, c1, c2⟩ := node_at HW.out hx
              have c0 := HGW2.out.cell c0 (by simp)
              have c1 := HGW2.out.cell c1 (by simp)
              have c2 := HGW2.out.cell c2 (by simp)
              have HX := Lib.hid hx
              obtain ⟨kl, hkl⟩ : ∃ kl, x.kids.length = kl := ⟨_, rfl⟩
              have HKL := Lib.hid hkl
              have HNF := Lib.hid (fun (h : ¬ x.kids.length ≤ 100) W' (hg : w.grownBy W' none) => ret_false (p := smallT T N) hg (fun hs => h ((HS.out.1 hs).2.2.2 x (List.mem_of_getElem? HX.out))))
              rw [hkl] at c2 HNF
              generalize x.kind = xk at *
              generalize x.tok = xt at *
              generalize (K k) = kn at *
              obtain ⟨q, kc⟩ := kn
              simp only at c2
              clear hx hkl
              by_cases k3 : 100 < kl
              · have d4 : decide (100 < kl) = true := decide_eq_true k3
                have d4' : decide ((100 : Int) < (kl : Int)) = true := decide_eq_true (by omega)
                go_wp2_with fail
                go_ret
                exact HNF.out (by omega) _ (gb_alloc HGW2.out _)
              · have d4 : decide (100 < kl) = false := decide_eq_false k3
                have d4' : decide ((100 : Int) < (kl : Int)) = false := decide_eq_false (by omega)
                go_wp2_with fail
                go_roundw
                case rel => exact ⟨k + 1, by omega, by go_num, Lib.hid (fun j x' hj hx => by
                  by_cases e : j = k
                  · subst e; rw [HX.out] at hx; injection hx with hx; subst hx; rw [HKL.out]; omega
                  · exact HK.out j x' (by omega) hx), Lib.hid (gb_alloc HG.out _)⟩
                case measure => (simp [intOf] <;> omega)
            · obtain rfl : k = M := by omega
              go_wp2_with fail
              go_ret
              exact ⟨HGW2.out, true, rfl, by
                refine iff_of_true rfl (HS.out.2 ⟨by omega, by omega, HTS.out, fun x hx => ?_⟩)
                obtain ⟨j, hj⟩ := List.getElem?_of_mem hx
                exact HK.out j x (by have := (List.getElem?_eq_some_iff.1 hj).1; rw [HM.out] at this; exact this) hj⟩
end Go.Proofs.YtmlcpihedmmlfaaGreatDoor
