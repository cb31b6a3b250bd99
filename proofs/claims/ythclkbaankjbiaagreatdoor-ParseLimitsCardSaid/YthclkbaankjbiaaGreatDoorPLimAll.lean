/- The laws on whole texts, on two depths and on limits, walked. -/
import Derived.Test.YthclkbaankjbiaaGreatDoorM51
namespace Go.Proofs.YthclkbaankjbiaaGreatDoor
open Go.RowKit

theorem tok_pos_le {l : List UInt8} (h : (allE l).2.1 = 0) (s : St) : (tokQ (allE l).1 s).pos ≤ l.length := by
  unfold tokQ
  cases ht : (allE l).1[s.i]? with
  | none => exact Nat.zero_le _
  | some t =>
    have h1 := ((place_all h).1 s.i t ht).1
    have h2 := wholeL_next ht
    have h3 := wholeL_take (allE l).1 (s.i + 1)
    rw [whole_all h] at h3
    rw [h2, List.length_append, List.length_append] at h3
    show t.pos ≤ l.length
    omega
theorem tree_pos {l : List UInt8} (h : (allE l).2.1 = 0) (D : Nat) (f : Bool) (he : (treeT (allE l).1 D f).2.e ≠ 0) : (treeT (allE l).1 D f).2.pos ≤ l.length := by
  have hg := (nx_good (allE l).1 D D).expr
  have key : (treeT (allE l).1 D f).2.pos = (tokQ (allE l).1 (treeT (allE l).1 D f).2).pos := by
    unfold treeT at he ⊢
    cases f
    · have hgd : Good (allE l).1 startQ (programT (allE l).1 (nxT (allE l).1 D D).expr startQ) := by
        unfold programT
        have i1 := many_good (allE l).1 (most := 16) (c := isQ (allE l).1 [105, 109, 112, 111, 114, 116]) (step := impStepT (allE l).1) (s := startQ) (fun r hc hr => impStep_good _ hr hc) (fuelQ (allE l).1 startQ) 0 ([], startQ) (Good.nil _ _)
        have i2 := many_good (allE l).1 (most := 64) (c := isDef (allE l).1) (step := defStepT (allE l).1 (nxT (allE l).1 D D).expr) (s := startQ) (fun r hc hr => hr.app (def_good _ hg _)) (fuelQ (allE l).1 (importsT (allE l).1 ([], startQ)).2.2) 0 (importsT (allE l).1 ([], startQ)).2 i1
        split
        · exact i1
        split
        · exact i2
        · exact i2.app (kind_good _ 5 _)
      exact hgd.place rfl he
    · have hgd : Good (allE l).1 (setIn true startQ) (aloneT (allE l).1 (nxT (allE l).1 D D).expr startQ) := (hg (setIn true startQ)).app (kind_good _ 5 _)
      exact hgd.place rfl he
  rw [key]
  exact tok_pos_le h _
theorem ans_pos {l : List UInt8} (hl : l.length ≤ 65536) (D : Int) (f : Bool) : (ansQ l D f).2.2 ≤ l.length := by
  by_cases hr : D < 1 ∨ 200 < D
  · unfold ansQ; rw [if_pos hr]; exact Nat.zero_le _
  · by_cases hx : (allE l).2.1 = 0
    · rw [ans_good (f := f) hr hl hx]
      split
      · exact Nat.zero_le _
      · rename_i he; exact tree_pos hx D.toNat f he
    · rw [ans_lex hr hl hx]
      have := fault_le (l.length + 1) l 0
      show (allE l).2.2 ≤ l.length
      unfold allE
      omega

set_option maxRecDepth 100000 in
set_option maxHeartbeats 8000000 in
theorem whole_c (s : ByteArray) (D : Int) (w : World) (hla : LaidE w) : Calls Tryz.prog 5 #[.string s, .int .i64 D] w (ValPost (.bool true) w) := by
  have HAN := Lib.hid (anchor7_c w hla)
  have HLA := Lib.hid hla
  by_cases hbig : 1500 < s.size
  · have d1 : decide (1500 < s.size) = true := decide_eq_true hbig
    have d1' : decide ((1500 : Int) < (s.size : Int)) = true := decide_eq_true (by omega)
    clear hbig hla
    go_enter Tryz.func5, Tryz.ntmps5
    go_wp2_with fail
    refine HAN.out.mono ?_
    rintro e w0 ⟨rfl, hg0⟩
    have HG0 := Lib.hid hg0
    clear hg0
    go_wp2_with fail
    go_ret
    exact ⟨rfl, HG0.out⟩
  · have d1 : decide (1500 < s.size) = false := decide_eq_false hbig
    have d1' : decide ((1500 : Int) < (s.size : Int)) = false := decide_eq_false (by omega)
    have HP := Lib.hid (fun W h => Parse_p s D W (by omega) h)
    obtain ⟨l, hl⟩ : ∃ l, s.data.toList = l := ⟨_, rfl⟩
    have hlen : l.length = s.size := by rw [← hl, list_len]
    have HLN := Lib.hid hlen
    have HLL : Hid (l.length ≤ 2000) := Lib.hid (by omega)
    have HSL := Lib.hid hl
    rw [hl] at HP
    have HPOS := Lib.hid (ans_pos (l := l) (by omega) D false)
    clear hbig hla hl hlen
    go_enter Tryz.func5, Tryz.ntmps5
    go_wp2_with fail
    refine HAN.out.mono ?_
    rintro e w0 ⟨rfl, hg0⟩
    have HG0 := Lib.hid hg0
    clear hg0 HAN
    go_wp2_with fail
    refine (HP.out _ (HLA.out.kept HG0.out)).mono ?_
    rintro e w1 ⟨hg1, he⟩
    have HG1 := Lib.hid (gb_trans HG0.out hg1)
    clear hg1 HP HLA HG0
    by_cases hne : (ansQ l D false).2.1 ≠ 0
    · rw [if_pos hne] at he
      subst he
      unfold badV
      obtain ⟨E, hE⟩ : ∃ E, (ansQ l D false).2.1 = E := ⟨_, rfl⟩
      obtain ⟨P, hP⟩ : ∃ P, (ansQ l D false).2.2 = P := ⟨_, rfl⟩
      rw [hE] at hne
      rw [hE, hP]
      rw [hP] at HPOS
      have e1 : ((E : Int) != 0) = true := bne_iff_ne.2 (by omega)
      have e1' : (E != 0) = true := bne_iff_ne.2 hne
      have e2 : decide ((0 : Int) ≤ (P : Int)) = true := decide_eq_true (by omega)
      have hps : P ≤ s.size := by have := HPOS.out; have := HLN.out; omega
      have e3 : decide ((P : Int) ≤ (s.size : Int)) = true := decide_eq_true (by omega)
      have e3' : decide (P ≤ s.size) = true := decide_eq_true hps
      clear hE hP hne
      go_wp2_with fail
      go_ret
      exact ⟨by first | rfl | simp, gb_alloc (gb_alloc HG1.out _) _⟩
    · rw [if_neg hne] at he
      have h0 : (ansQ l D false).2.1 = 0 := by omega
      obtain ⟨pt, ct, pn, cn, K, rfl, hta, hct, hna, -, -, -, hN⟩ := he
      have hF := tree_facts (by have := HLL.out; omega) h0
      have h1 := len_all hF.lex
      have hpos : 0 < (nodesQ l D false).length := List.length_pos_iff.2 hF.right.1.1
      have HRT := Lib.hid (fun W => root_tree HLL.out h0 hN W pt pn ct cn)
      have HRI := Lib.hid (fun W h => Right_c (nodesQ l D false) K hF.right (by have := HLL.out; omega) (by have := HLL.out; omega) pt pn ct cn W h)
      have HSH := Lib.hid (fun W h => Show_c (allE l).1 pt pn ct (nodesQ l D false).length cn W (by have := HLL.out; omega) (by rw [whole_all hF.lex]; have := HLL.out; omega) h)
      rw [whole_all hF.lex] at HSH
      obtain ⟨ks, hks⟩ := hF.root
      obtain ⟨g, off, rfl, hgl, c0, -, -⟩ := node_at hna hks
      have HC0 : Hid (w1.cell? ⟨g, off + ((nodesQ l D false).length - 1) * 3, none⟩ = some (.int .i64 1)) := Lib.hid c0
      have HTA := Lib.hid hta; have HNA := Lib.hid hna
      obtain ⟨m, hm⟩ : ∃ m, (allE l).1.length = m := ⟨_, rfl⟩
      obtain ⟨M, hM⟩ : ∃ M, (nodesQ l D false).length = M := ⟨_, rfl⟩
      rw [hm, hM] at HRT HRI HSH ⊢
      rw [hM] at HC0 hpos
      obtain ⟨R, hR⟩ : ∃ R, M - 1 = R := ⟨_, rfl⟩
      rw [hR] at HRT HC0
      have hRM : R < M := by omega
      have x1 : (0 : Int) ≤ (R : Int) := by omega
      have x2 : (R : Int) < (M : Int) := by omega
      have x3 : decide (R < M) = true := decide_eq_true hRM
      have x4 : decide ((R : Int) < (M : Int)) = true := decide_eq_true x2
      obtain ⟨B, hB⟩ : ∃ B, w1.heap.size = B := ⟨_, rfl⟩
      have HBX : Hid (((w1.alloc (.cells #[.slice pt m ct, .slice (some ⟨g, off, none⟩) M cn] 26)).alloc (.cells #[.int .i64 0, .int .i64 0] 29)).heap[B]? = some (.cells #[.slice pt m ct, .slice (some ⟨g, off, none⟩) M cn] 26 (0, 0))) := Lib.hid (by rw [← hB]; exact bx (World.grownBy_alloc _ _ none) (heap_alloc_new w1 _))
      have HGA : Hid (w1.grownBy ((w1.alloc (.cells #[.slice pt m ct, .slice (some ⟨g, off, none⟩) M cn] 26)).alloc (.cells #[.int .i64 0, .int .i64 0] 29)) none) := Lib.hid (gb_alloc (gb_alloc (gb_refl _ _) _) _)
      have HF0 : Hid (((w1.alloc (.cells #[.slice pt m ct, .slice (some ⟨g, off, none⟩) M cn] 26)).alloc (.cells #[.int .i64 0, .int .i64 0] 29)).heap[B + 1]? = some (.cells #[.int .i64 0, .int .i64 0] 29 (0, 0))) := Lib.hid (by
        have h9 := heap_alloc_new (w1.alloc (.cells #[.slice pt m ct, .slice (some ⟨g, off, none⟩) M cn] 26)) (.cells #[.int .i64 0, .int .i64 0] 29)
        rw [show (w1.alloc (.cells #[.slice pt m ct, .slice (some ⟨g, off, none⟩) M cn] 26)).heap.size = B + 1 by simp [hB]] at h9
        exact h9)
      have HC1 := Lib.hid (HGA.out.cell HC0.out (by simp))
      have HG2 := Lib.hid (gb_trans HG1.out HGA.out)
      obtain ⟨f0, f1, -⟩ := cells2 HF0.out
      clear hne h0 hta hna hct hF h1 hpos hks c0 hN hm hM hR hgl HC0
      go_wp2_with fail
      try rw [hB]
      clear hB f0 f1 HF0
      generalize ((w1.alloc (.cells #[.slice pt m ct, .slice (some ⟨g, off, none⟩) M cn] 26)).alloc (.cells #[.int .i64 0, .int .i64 0] 29)) = W at *
      have HBX := Lib.hid (bx (gb_drew (gb_refl _ none)) HBX.out); have HC1 := Lib.hid ((gb_drew (gb_refl W none)).cell HC1.out (by simp)); have HGA := Lib.hid (gb_drew HGA.out); have HG2 := Lib.hid (gb_drew HG2.out)
      go_region_held3 (fun w' => w'.cell? ⟨B, 0, none⟩ = some (.slice pt m ct) ∧ w'.cell? ⟨B, 1, none⟩ = some (.slice (some ⟨g, off, none⟩) M cn) ∧ w'.cell? ⟨g, off + R * 3, none⟩ = some (.int .i64 1)) (exact ⟨(cells2 HBX.out).1, (cells2 HBX.out).2.1, HC1.out⟩)
        (first
          | (go_at_call 13; refine (HSH.out _ (HTA.out.kept HGA.out)).mono ?_; rintro e w9 ⟨⟨y, rfl, hy⟩, hg9⟩; have hyx : y = s := ByteArray.ext (Array.toList_inj.1 (hy.trans HSL.out.symm)); subst hyx; have HBX := Lib.hid (bx hg9 HBX.out); have HC1 := Lib.hid (hg9.cell HC1.out (by simp)); have HGA := Lib.hid (gb_trans HGA.out hg9); have HG2 := Lib.hid (gb_trans HG2.out hg9); clear hg9 hy)
          | (go_at_call 14; refine (HRI.out _ (HNA.out.kept HGA.out)).mono ?_; rintro e w9 ⟨rfl, hg9⟩; have HBX := Lib.hid (bx hg9 HBX.out); have HC1 := Lib.hid (hg9.cell HC1.out (by simp)); have HGA := Lib.hid (gb_trans HGA.out hg9); have HG2 := Lib.hid (gb_trans HG2.out hg9); clear hg9)
          | (go_at_call 15; refine (HRT.out _).mono ?_; rintro e w9 ⟨rfl, hg9⟩; have HBX := Lib.hid (bx hg9 HBX.out); have HC1 := Lib.hid (hg9.cell HC1.out (by simp)); have HGA := Lib.hid (gb_trans HGA.out hg9); have HG2 := Lib.hid (gb_trans HG2.out hg9); clear hg9))
      all_goals
        go_wp2_with fail
        go_ret
        exact ⟨by first | rfl | simp, HG2.out⟩

/-! ### What is answered, whether a tree or none -/

def TreeV (l : List UInt8) (D : Int) (f : Bool) (w : World) (p : Option Addr) (n c : Nat) (p' : Option Addr) (n' c' : Nat) : Prop :=
  ((ansQ l D f).2.1 ≠ 0 ∧ p = none ∧ n = 0 ∧ c = 0 ∧ p' = none ∧ n' = 0 ∧ c' = 0) ∨ ((ansQ l D f).2.1 = 0 ∧ n = (allE l).1.length ∧ n' = (nodesQ l D f).length ∧ TAt w p (allE l).1 ∧ (∃ K, NodesAt w p' (nodesQ l D f) K) ∧ n' ≤ 2 * n)
theorem TreeV.kept {l : List UInt8} {D : Int} {f : Bool} {w w' : World} {p p' : Option Addr} {n c n' c' : Nat} (h : TreeV l D f w p n c p' n' c') (hg : w.grownBy w' none) : TreeV l D f w' p n c p' n' c' := by
  rcases h with h | ⟨h1, h2, h3, h4, ⟨K, h5⟩, h6⟩
  · exact .inl h
  · exact .inr ⟨h1, h2, h3, h4.kept hg, ⟨K, h5.kept hg⟩, h6⟩
theorem rd_any {l : List UInt8} {D : Int} {f : Bool} {w w' : World} {e : Ending} (h : RdPost l D f w e w') : w.grownBy w' none ∧ ∃ p n c p' n' c', e = .returned (.tuple #[.agg #[.slice p n c, .slice p' n' c'], .agg #[.int .i64 ((ansQ l D f).2.1 : Int), .int .i64 ((ansQ l D f).2.2 : Int)]]) ∧ TreeV l D f w' p n c p' n' c' := by
  obtain ⟨hg, h⟩ := h
  refine ⟨hg, ?_⟩
  by_cases hne : (ansQ l D f).2.1 ≠ 0
  · rw [if_pos hne] at h
    exact ⟨none, 0, 0, none, 0, 0, h, .inl ⟨hne, rfl, rfl, rfl, rfl, rfl, rfl⟩⟩
  · rw [if_neg hne] at h
    obtain ⟨pt, ct, pn, cn, K, he, hta, hct, hna, -, -, -, hN⟩ := h
    have h0 : (ansQ l D f).2.1 = 0 := by omega
    have hp : (ansQ l D f).2.2 = 0 := by
      have hr : ¬ (D < 1 ∨ 200 < D) := fun e9 => by unfold ansQ at h0; rw [if_pos e9] at h0; cases h0
      unfold ansQ at h0 ⊢
      rw [if_neg hr] at h0 ⊢
      unfold parseQ at h0 ⊢
      by_cases c1 : 65536 < l.length
      · rw [if_pos c1] at h0; cases h0
      · rw [if_neg c1] at h0 ⊢
        by_cases c2 : (allE l).2.1 ≠ 0
        · rw [if_pos c2] at h0; exact absurd h0 c2
        · rw [if_neg c2] at h0 ⊢
          unfold resQ at h0 ⊢
          by_cases c3 : (treeQ (allE l).1 D.toNat f).2.e = 0
          · rw [if_pos c3]
          · rw [if_neg c3] at h0; exact absurd h0 c3
    refine ⟨pt, _, ct, pn, _, cn, ?_, .inr ⟨h0, rfl, rfl, hta, ⟨K, hna⟩, hN⟩⟩
    rw [h0, hp]; exact he

set_option maxRecDepth 100000 in
set_option maxHeartbeats 4000000 in
theorem Root_none (w : World) : Calls Tryz.prog 15 #[.agg #[.slice none 0 0, .slice none 0 0]] w (ValPost (.int .i64 (-1)) w) := by
  go_enter Tryz.func15, Tryz.ntmps15
  go_wp2_with fail
  go_ret
  exact ⟨rfl, World.grownBy_alloc w _ none⟩
set_option maxRecDepth 100000 in
set_option maxHeartbeats 4000000 in
theorem Right_none (w : World) : Calls Tryz.prog 14 #[.agg #[.slice none 0 0, .slice none 0 0]] w (ValPost (.bool false) w) := by
  go_enter Tryz.func14, Tryz.ntmps14
  go_wp2_with fail
  go_ret
  exact ⟨rfl, by repeat (first | with_reducible exact gb_refl _ _ | with_reducible refine gb_drewN ?_ _ | with_reducible refine gb_drew ?_ | with_reducible refine gb_alloc ?_ _)⟩
def ErrPost (w : World) (e : Ending) (w' : World) : Prop := (∃ n : Int, n ≠ 0 ∧ e = .returned (.int .i64 n)) ∧ w.grownBy w' none
set_option maxRecDepth 100000 in
set_option maxHeartbeats 4000000 in
theorem wrong_none (n : Int) (w : World) : Calls Tryz.prog 28 #[.agg #[.slice none 0 0, .slice none 0 0], .int .i64 n] w (ErrPost w) := by
  have HR := Lib.hid (fun W => Right_none W)
  go_enter Tryz.func28, Tryz.ntmps28
  go_wp2_with fail
  refine (HR.out _).mono ?_
  rintro e w1 ⟨rfl, hg1⟩
  have HG := Lib.hid (gb_trans (World.grownBy_alloc w _ none) hg1)
  clear hg1
  go_wp2_with fail
  go_ret
  exact ⟨⟨_, by decide, rfl⟩, HG.out⟩
def DumpAny (v : List UInt8) (w : World) (e : Ending) (w' : World) : Prop := w.grownBy w' none ∧ ∃ (r : ByteArray) (n : Int), e = .returned (.tuple #[.string r, .int .i64 n]) ∧ r.data.toList = v
set_option maxRecDepth 100000 in
set_option maxHeartbeats 4000000 in
theorem Dump_none (n : Int) (w : World) : Calls Tryz.prog 16 #[.agg #[.slice none 0 0, .slice none 0 0], .int .i64 n] w (DumpAny [] w) := by
  have HW := Lib.hid (fun W => wrong_none n W)
  go_enter Tryz.func16, Tryz.ntmps16
  go_wp2_with fail
  refine (HW.out _).mono ?_
  rintro e w1 ⟨⟨k, hk, rfl⟩, hg1⟩
  have HG := Lib.hid (gb_trans (World.grownBy_alloc w _ none) hg1)
  have e1 : (k != 0) = true := bne_iff_ne.2 hk
  clear hg1 hk
  go_wp2_with fail
  refine bodyPost_ret (v := .tuple #[.string ⟨#[]⟩, .int .i64 k]) (by simp [results, Tryz.results16, go_sem]) rfl ?_
  exact ⟨HG.out, _, _, rfl, rfl⟩

theorem root_any {l : List UInt8} {D : Int} {f : Bool} (hl : l.length ≤ 2000) {w : World} {p p' : Option Addr} {n c n' c' : Nat} (h : TreeV l D f w p n c p' n' c') (W : World) : Calls Tryz.prog 15 #[.agg #[.slice p n c, .slice p' n' c']] W (ValPost (.int .i64 ((n' : Int) - 1)) W) := by
  rcases h with ⟨-, rfl, rfl, rfl, rfl, rfl, rfl⟩ | ⟨h1, rfl, rfl, h4, ⟨K, h5⟩, h6⟩
  · exact Root_none W
  · have hF := tree_facts (by omega) h1
    have h0 : 0 < (nodesQ l D f).length := List.length_pos_iff.2 hF.right.1.1
    have := root_tree hl h1 h6 W p p' c c'
    rw [show (((nodesQ l D f).length : Nat) : Int) - 1 = (((nodesQ l D f).length - 1 : Nat) : Int) by omega]
    exact this
theorem ans_none {l : List UInt8} {D : Int} {f : Bool} (hl : l.length ≤ 65536) (h : (ansQ l D f).2.1 ≠ 0) : (ansQ l D f).1 = [] := by
  unfold ansQ at h ⊢
  split
  · rfl
  · rename_i hr
    rw [if_neg hr] at h
    unfold parseQ at h ⊢
    rw [if_neg (by omega)] at h ⊢
    split
    · rfl
    · rename_i hx
      rw [if_neg hx] at h
      unfold resQ at h ⊢
      split
      · rename_i h9; rw [if_pos h9] at h; exact absurd rfl h
      · rfl
theorem dump_any {l : List UInt8} {D : Int} {f : Bool} (hl : l.length ≤ 2000) {w : World} {p p' : Option Addr} {n c n' c' : Nat} (h : TreeV l D f w p n c p' n' c') : Calls Tryz.prog 16 #[.agg #[.slice p n c, .slice p' n' c'], .int .i64 ((n' : Int) - 1)] w (DumpAny (ansQ l D f).1 w) := by
  rcases h with ⟨h1, rfl, rfl, rfl, rfl, rfl, rfl⟩ | ⟨h1, rfl, rfl, h4, ⟨K, h5⟩, h6⟩
  · rw [ans_none (by omega) h1]; exact Dump_none _ w
  · have hF := tree_facts (by omega) h1
    have h0 : 0 < (nodesQ l D f).length := List.length_pos_iff.2 hF.right.1.1
    rw [show (((nodesQ l D f).length : Nat) : Int) - 1 = (((nodesQ l D f).length - 1 : Nat) : Int) by omega]
    refine (dump_tree hl h1 h4 h5 h6).mono ?_
    rintro e w' ⟨hg, y, rfl, hy⟩
    exact ⟨hg, y, 0, rfl, hy⟩

theorem ans_depths {l : List UInt8} (hl : l.length ≤ 65536) {D D' : Int} (h1 : 1 ≤ D) (h2 : D ≤ D') (h3 : D' ≤ 200) (f : Bool) : ansQ l D f = ansQ l D' f ∨ ((ansQ l D f).2.1 = 23 ∧ ((ansQ l D' f).2.1 = 23 → (ansQ l D f).2.2 ≤ (ansQ l D' f).2.2)) := by
  unfold ansQ
  rw [if_neg (by omega), if_neg (by omega)]
  by_cases hx : (allE l).2.1 = 0
  · rw [parse_good hl hx, parse_good hl hx]
    rcases parse_depths hx (D := D.toNat) (D' := D'.toNat) (by omega) (by omega) f with e | ⟨e1, e2⟩
    · rw [e]; exact .inl rfl
    · right
      rw [if_neg (by omega)]
      refine ⟨e1, fun e3 => ?_⟩
      by_cases h0 : (treeT (allE l).1 D'.toNat f).2.e = 0
      · rw [if_pos h0] at e3; cases e3
      · rw [if_neg h0] at e3 ⊢
        exact e2 e3
  · have key : ∀ d, parseQ l d f = ([], (allE l).2.1, (allE l).2.2) := fun d => by
      unfold parseQ; rw [if_neg (by omega), if_pos hx]
    rw [key, key]; exact .inl rfl

set_option maxRecDepth 100000 in
set_option maxHeartbeats 8000000 in
theorem depths_yes (s : ByteArray) (D D' : Int) (w : World) (hs : s.size ≤ 1500) (h1 : 1 ≤ D) (h2 : D ≤ D') (h3 : D' ≤ 200) (hla : LaidE w) : Calls Tryz.prog 6 #[.string s, .int .i64 D, .int .i64 D'] w (ValPost (.bool true) w) := by
  have HAN := Lib.hid (anchor7_c w hla)
  have HLA := Lib.hid hla
  have d1 : decide (1500 < s.size) = false := decide_eq_false (by omega)
  have d1' : decide ((1500 : Int) < (s.size : Int)) = false := decide_eq_false (by omega)
  have d2 : decide (D < 1) = false := decide_eq_false (by omega)
  have d3 : decide (D' < D) = false := decide_eq_false (by omega)
  have d4 : decide (200 < D') = false := decide_eq_false (by omega)
  have HP1 := Lib.hid (fun W h => Parse_p s D W (by omega) h)
  have HP2 := Lib.hid (fun W h => Parse_p s D' W (by omega) h)
  obtain ⟨l, hl⟩ : ∃ l, s.data.toList = l := ⟨_, rfl⟩
  have HLL : Hid (l.length ≤ 2000) := Lib.hid (by rw [← hl, list_len]; omega)
  rw [hl] at HP1 HP2
  have HDE := Lib.hid (ans_depths (l := l) (by have := HLL.out; omega) h1 h2 h3 false)
  clear hs h1 h2 h3 hla hl
  go_enter Tryz.func6, Tryz.ntmps6
  go_wp2_with fail
  refine HAN.out.mono ?_
  rintro e w0 ⟨rfl, hg0⟩
  have HG0 := Lib.hid hg0
  clear hg0 HAN
  go_wp2_with fail
  refine (HP1.out _ (HLA.out.kept HG0.out)).mono ?_
  rintro e w1 hp
  obtain ⟨hg1, p, n, c, p', n', c', rfl, hv⟩ := rd_any hp
  have HG1 := Lib.hid (gb_trans HG0.out hg1)
  have HV1 := Lib.hid hv
  obtain ⟨a, ha⟩ : ∃ a, ansQ l D false = a := ⟨_, rfl⟩
  have HA := Lib.hid ha
  rw [ha] at HDE ⊢
  obtain ⟨E, hE⟩ : ∃ E, a.2.1 = E := ⟨_, rfl⟩
  obtain ⟨P, hP⟩ : ∃ P, a.2.2 = P := ⟨_, rfl⟩
  have HE := Lib.hid hE; have HP := Lib.hid hP
  rw [hE, hP] at HDE ⊢
  obtain ⟨B, hB⟩ : ∃ B, w1.heap.size = B := ⟨_, rfl⟩
  have HBX : Hid (((w1.alloc (.cells #[.slice p n c, .slice p' n' c'] 26)).alloc (.cells #[.int .i64 (E : Int), .int .i64 (P : Int)] 29)).heap[B]? = some (.cells #[.slice p n c, .slice p' n' c'] 26 (0, 0))) := Lib.hid (by rw [← hB]; exact bx (World.grownBy_alloc _ _ none) (heap_alloc_new w1 _))
  have HFX : Hid (((w1.alloc (.cells #[.slice p n c, .slice p' n' c'] 26)).alloc (.cells #[.int .i64 (E : Int), .int .i64 (P : Int)] 29)).heap[B + 1]? = some (.cells #[.int .i64 (E : Int), .int .i64 (P : Int)] 29 (0, 0))) := Lib.hid (by
    have h9 := heap_alloc_new (w1.alloc (.cells #[.slice p n c, .slice p' n' c'] 26)) (.cells #[.int .i64 (E : Int), .int .i64 (P : Int)] 29)
    rw [show (w1.alloc (.cells #[.slice p n c, .slice p' n' c'] 26)).heap.size = B + 1 by simp [hB]] at h9
    exact h9)
  have HGA : Hid (w1.grownBy ((w1.alloc (.cells #[.slice p n c, .slice p' n' c'] 26)).alloc (.cells #[.int .i64 (E : Int), .int .i64 (P : Int)] 29)) none) := Lib.hid (gb_alloc (gb_alloc (gb_refl _ _) _) _)
  clear hp hg1 hv ha hE hP HP1
  go_wp2_with fail
  try rw [hB]
  clear hB
  generalize ((w1.alloc (.cells #[.slice p n c, .slice p' n' c'] 26)).alloc (.cells #[.int .i64 (E : Int), .int .i64 (P : Int)] 29)) = W1 at *
  refine (HP2.out _ (HLA.out.kept (gb_trans HG1.out HGA.out))).mono ?_
  rintro e w2 hp
  obtain ⟨hg2, q, m, d, q', m', d', rfl, hv⟩ := rd_any hp
  have HV2 := Lib.hid hv
  obtain ⟨b, hb⟩ : ∃ b, ansQ l D' false = b := ⟨_, rfl⟩
  have HBA := Lib.hid hb
  rw [hb] at HDE ⊢
  obtain ⟨F, hF⟩ : ∃ F, b.2.1 = F := ⟨_, rfl⟩
  obtain ⟨Q, hQ⟩ : ∃ Q, b.2.2 = Q := ⟨_, rfl⟩
  have HF := Lib.hid hF; have HQ := Lib.hid hQ
  rw [hF, hQ] at HDE ⊢
  have HBX := Lib.hid (bx hg2 HBX.out); have HFX := Lib.hid (bx hg2 HFX.out); have HGA := Lib.hid (gb_trans HGA.out hg2)
  obtain ⟨Z, hZ⟩ : ∃ Z, w2.heap.size = Z := ⟨_, rfl⟩
  have HTX : Hid (((w2.alloc (.cells #[.slice q m d, .slice q' m' d'] 26)).alloc (.cells #[.int .i64 (F : Int), .int .i64 (Q : Int)] 29)).heap[Z]? = some (.cells #[.slice q m d, .slice q' m' d'] 26 (0, 0))) := Lib.hid (by rw [← hZ]; exact bx (World.grownBy_alloc _ _ none) (heap_alloc_new w2 _))
  have HZX : Hid (((w2.alloc (.cells #[.slice q m d, .slice q' m' d'] 26)).alloc (.cells #[.int .i64 (F : Int), .int .i64 (Q : Int)] 29)).heap[Z + 1]? = some (.cells #[.int .i64 (F : Int), .int .i64 (Q : Int)] 29 (0, 0))) := Lib.hid (by
    have h9 := heap_alloc_new (w2.alloc (.cells #[.slice q m d, .slice q' m' d'] 26)) (.cells #[.int .i64 (F : Int), .int .i64 (Q : Int)] 29)
    rw [show (w2.alloc (.cells #[.slice q m d, .slice q' m' d'] 26)).heap.size = Z + 1 by simp [hZ]] at h9
    exact h9)
  have hgb : w2.grownBy ((w2.alloc (.cells #[.slice q m d, .slice q' m' d'] 26)).alloc (.cells #[.int .i64 (F : Int), .int .i64 (Q : Int)] 29)) none := gb_alloc (gb_alloc (gb_refl _ _) _) _
  have HGB := Lib.hid hgb
  have HBX := Lib.hid (bx hgb HBX.out); have HFX := Lib.hid (bx hgb HFX.out); have HGA := Lib.hid (gb_trans HGA.out hgb)
  obtain ⟨f0, f1, -⟩ := cells2 HFX.out
  obtain ⟨z0, z1, -⟩ := cells2 HZX.out
  clear hp hg2 hv hb hF hQ hgb HP2
  by_cases h23 : E = 23
  · have x0 : ((E : Int) == 23) = true := beq_iff_eq.2 (by omega)
    have x0' : (E == 23) = true := beq_iff_eq.2 h23
    have hpost : F ≠ 23 ∨ P ≤ Q := by
      rcases HDE.out with e | ⟨-, e⟩
      · right
        have : P = Q := by rw [← HP.out, ← HQ.out, e]
        omega
      · by_cases h9 : F = 23
        · exact .inr (e h9)
        · exact .inl h9
    clear h23
    by_cases h9 : F = 23
    · have x2 : ((F : Int) != 23) = false := by rw [h9]; rfl
      have x2' : (F != 23) = false := by rw [h9]; rfl
      have hpq : P ≤ Q := by rcases hpost with h | h; exact absurd h9 h; exact h
      have x1 : decide ((P : Int) ≤ (Q : Int)) = true := decide_eq_true (by omega)
      have x1' : decide (P ≤ Q) = true := decide_eq_true hpq
      clear hpost h9 hpq
      go_wp2_with fail
      go_ret
      exact ⟨by first | rfl | simp, gb_trans HG1.out HGA.out⟩
    · have x1 : ((F : Int) != 23) = true := bne_iff_ne.2 (by omega)
      have x1' : (F != 23) = true := bne_iff_ne.2 h9
      clear hpost h9
      go_wp2_with fail
      go_ret
      exact ⟨by first | rfl | simp, gb_trans HG1.out HGA.out⟩
  · have hab : a = b := by
      rcases HDE.out with e | ⟨e, -⟩
      · exact e
      · exact absurd e h23
    have hEF : E = F := by rw [← HE.out, ← HF.out, hab]
    have hPQ : P = Q := by rw [← HP.out, ← HQ.out, hab]
    subst hEF; subst hPQ
    have x1 : ((E : Int) == 23) = false := beq_eq_false_iff_ne.2 (by omega)
    have x1' : (E == 23) = false := beq_eq_false_iff_ne.2 h23
    have HAB : Hid ((ansQ l D false).1 = (ansQ l D' false).1) := Lib.hid (by rw [HA.out, HBA.out, hab])
    have HG2 := Lib.hid (gb_trans HG1.out HGA.out)
    have HV1 := Lib.hid (HV1.out.kept HGA.out)
    have HV2 := Lib.hid (HV2.out.kept HGB.out)
    have HR1 := Lib.hid (fun W => root_any HLL.out HV1.out W)
    have HR2 := Lib.hid (fun W => root_any HLL.out HV2.out W)
    clear HDE HA HBA hab h23 HE HP HF HQ HLA HG1 HGA HGB
    go_wp2_with fail
    try rw [hZ]
    clear hZ
    have HTZ := HTX
    have HTF := HZX
    generalize ((w2.alloc (.cells #[.slice q m d, .slice q' m' d'] 26)).alloc (.cells #[.int .i64 (E : Int), .int .i64 (P : Int)] 29)) = W2 at *
    have HGc := Lib.hid (gb_refl W2 none)
    go_region_held3 (fun w' => w'.cell? ⟨B, 0, none⟩ = some (.slice p n c) ∧ w'.cell? ⟨B, 1, none⟩ = some (.slice p' n' c')) (exact ⟨(cells2 (bx (by repeat (first | with_reducible exact HGc.out | with_reducible exact gb_refl _ _ | with_reducible refine gb_drew ?_)) HBX.out)).1, (cells2 (bx (by repeat (first | with_reducible exact HGc.out | with_reducible exact gb_refl _ _ | with_reducible refine gb_drew ?_)) HBX.out)).2.1⟩)
      (first
        | (go_at_call 15; refine (HR1.out _).mono ?_; rintro e w9 ⟨rfl, hg9⟩; have HGc := Lib.hid (gb_trans (show W2.grownBy _ none from (by repeat (first | with_reducible exact HGc.out | with_reducible exact gb_refl _ _ | with_reducible refine gb_drew ?_))) hg9); clear hg9)
        | (go_at_call 16; refine (dump_any HLL.out (HV1.out.kept (show W2.grownBy _ none from (by repeat (first | with_reducible exact HGc.out | with_reducible exact gb_refl _ _ | with_reducible refine gb_drew ?_))))).mono ?_; rintro e w9 ⟨hg9, y1, k1, rfl, hy1⟩; have HY1 := Lib.hid hy1; have HGc := Lib.hid (gb_trans (show W2.grownBy _ none from (by repeat (first | with_reducible exact HGc.out | with_reducible exact gb_refl _ _ | with_reducible refine gb_drew ?_))) hg9); clear hg9 hy1))
    clear f0 f1 z0 z1
    go_wp2_with fail
    go_region_held3 (fun w' => w'.cell? ⟨Z, 0, none⟩ = some (.slice q m d) ∧ w'.cell? ⟨Z, 1, none⟩ = some (.slice q' m' d')) (exact ⟨(cells2 (bx (by repeat (first | with_reducible exact HGc.out | with_reducible exact gb_refl _ _ | with_reducible refine gb_drew ?_)) HTX.out)).1, (cells2 (bx (by repeat (first | with_reducible exact HGc.out | with_reducible exact gb_refl _ _ | with_reducible refine gb_drew ?_)) HTX.out)).2.1⟩)
      (first
        | (go_at_call 15; refine (HR2.out _).mono ?_; rintro e w9 ⟨rfl, hg9⟩; have HGc := Lib.hid (gb_trans (show W2.grownBy _ none from (by repeat (first | with_reducible exact HGc.out | with_reducible exact gb_refl _ _ | with_reducible refine gb_drew ?_))) hg9); clear hg9)
        | (go_at_call 16; refine (dump_any HLL.out (HV2.out.kept (show W2.grownBy _ none from (by repeat (first | with_reducible exact HGc.out | with_reducible exact gb_refl _ _ | with_reducible refine gb_drew ?_))))).mono ?_; rintro e w9 ⟨hg9, y2, k2, rfl, hy2⟩; have HY2 := Lib.hid hy2; have HGc := Lib.hid (gb_trans (show W2.grownBy _ none from (by repeat (first | with_reducible exact HGc.out | with_reducible exact gb_refl _ _ | with_reducible refine gb_drew ?_))) hg9); clear hg9 hy2))
    have hyy : y2 = y1 := ByteArray.ext (Array.toList_inj.1 (HY2.out.trans (HAB.out.symm.trans HY1.out.symm)))
    subst hyy
    have HFX := Lib.hid (bx HGc.out HFX.out); have HZX := Lib.hid (bx HGc.out HZX.out); have HG3 := Lib.hid (gb_trans HG2.out HGc.out)
    obtain ⟨f0, f1, -⟩ := cells2 HFX.out
    obtain ⟨z0, z1, -⟩ := cells2 HZX.out
    go_wp2_with fail
    go_ret
    exact ⟨by first | rfl | simp, HG3.out⟩

set_option maxRecDepth 100000 in
set_option maxHeartbeats 8000000 in
theorem depths_out (s : ByteArray) (D D' : Int) (w : World) (hla : LaidE w) (h : 1500 < s.size ∨ D < 1 ∨ D' < D ∨ 200 < D') : Calls Tryz.prog 6 #[.string s, .int .i64 D, .int .i64 D'] w (ValPost (.bool true) w) := by
  have HAN := Lib.hid (anchor7_c w hla)
  clear hla
  by_cases h1 : 1500 < s.size
  · have d1 : decide (1500 < s.size) = true := decide_eq_true h1
    have d1' : decide ((1500 : Int) < (s.size : Int)) = true := decide_eq_true (by omega)
    clear h h1
    go_enter Tryz.func6, Tryz.ntmps6
    go_wp2_with fail
    refine HAN.out.mono ?_
    rintro e w0 ⟨rfl, hg0⟩
    have HG0 := Lib.hid hg0
    clear hg0
    go_wp2_with fail
    go_ret
    exact ⟨rfl, HG0.out⟩
  have d1 : decide (1500 < s.size) = false := decide_eq_false h1
  have d1' : decide ((1500 : Int) < (s.size : Int)) = false := decide_eq_false (by omega)
  by_cases h2 : D < 1
  · have d2 : decide (D < 1) = true := decide_eq_true h2
    clear h h1 h2
    go_enter Tryz.func6, Tryz.ntmps6
    go_wp2_with fail
    refine HAN.out.mono ?_
    rintro e w0 ⟨rfl, hg0⟩
    have HG0 := Lib.hid hg0
    clear hg0
    go_wp2_with fail
    go_ret
    exact ⟨rfl, HG0.out⟩
  have d2 : decide (D < 1) = false := decide_eq_false h2
  by_cases h3 : D' < D
  · have d3 : decide (D' < D) = true := decide_eq_true h3
    clear h h1 h2 h3
    go_enter Tryz.func6, Tryz.ntmps6
    go_wp2_with fail
    refine HAN.out.mono ?_
    rintro e w0 ⟨rfl, hg0⟩
    have HG0 := Lib.hid hg0
    clear hg0
    go_wp2_with fail
    go_ret
    exact ⟨rfl, HG0.out⟩
  have d3 : decide (D' < D) = false := decide_eq_false h3
  have h4 : 200 < D' := by omega
  have d4 : decide (200 < D') = true := decide_eq_true h4
  clear h h1 h2 h3 h4
  go_enter Tryz.func6, Tryz.ntmps6
  go_wp2_with fail
  refine HAN.out.mono ?_
  rintro e w0 ⟨rfl, hg0⟩
  have HG0 := Lib.hid hg0
  clear hg0
  go_wp2_with fail
  go_ret
  exact ⟨rfl, HG0.out⟩
theorem depths_c (s : ByteArray) (D D' : Int) (w : World) (hla : LaidE w) : Calls Tryz.prog 6 #[.string s, .int .i64 D, .int .i64 D'] w (ValPost (.bool true) w) := by
  by_cases h : 1500 < s.size ∨ D < 1 ∨ D' < D ∨ 200 < D'
  · exact depths_out s D D' w hla h
  · exact depths_yes s D D' w (by omega) (by omega) (by omega) (by omega) hla
end Go.Proofs.YthclkbaankjbiaaGreatDoor
namespace Go.Proofs.YthclkbaankjbiaaGreatDoor

/-- `import m;` and its tokens. -/
def impB : List UInt8 := [105, 109, 112, 111, 114, 116, 32, 109, 59]
def impTk (p : Nat) : List Tok := [⟨2, [], [105, 109, 112, 111, 114, 116], p⟩, ⟨1, [32], [109], p + 7⟩, ⟨4, [], [59], p + 8⟩]
theorem imp_lex (f : Nat) (R : List UInt8) (p : Nat) : lexG (f + 3) (impB ++ R) p = (impTk p ++ (lexG f R (p + 9)).1, (lexG f R (p + 9)).2) := by kernel_rfl
/-- `fun f():int=1;` and its tokens. -/
def defB1 : List UInt8 := [102, 117, 110, 32, 102, 40, 41, 58, 105, 110, 116, 61, 49, 59]
def defTk (p : Nat) : List Tok := [⟨2, [], [102, 117, 110], p⟩, ⟨1, [32], [102], p + 4⟩, ⟨4, [], [40], p + 5⟩, ⟨4, [], [41], p + 6⟩, ⟨4, [], [58], p + 7⟩, ⟨2, [], [105, 110, 116], p + 8⟩, ⟨4, [], [61], p + 11⟩, ⟨3, [], [49], p + 12⟩, ⟨4, [], [59], p + 13⟩]
theorem def_lex (f : Nat) (R : List UInt8) (p : Nat) : lexG (f + 9) (defB1 ++ R) p = (defTk p ++ (lexG f R (p + 14)).1, (lexG f R (p + 14)).2) := by kernel_rfl
/-- `fun g(`. -/
def funB : List UInt8 := [102, 117, 110, 32, 103, 40]
def funTk (p : Nat) : List Tok := [⟨2, [], [102, 117, 110], p⟩, ⟨1, [32], [103], p + 4⟩, ⟨4, [], [40], p + 5⟩]
theorem fun_lex (f : Nat) (R : List UInt8) (p : Nat) : lexG (f + 3) (funB ++ R) p = (funTk p ++ (lexG f R (p + 6)).1, (lexG f R (p + 6)).2) := by kernel_rfl
/-- `x:int`, ahead of a sign. -/
def parB : List UInt8 := [120, 58, 105, 110, 116]
def parTk (p : Nat) : List Tok := [⟨1, [], [120], p⟩, ⟨4, [], [58], p + 1⟩, ⟨2, [], [105, 110, 116], p + 2⟩]
theorem par_lex {b : UInt8} (hb : b = 44 ∨ b = 41) (f : Nat) (R : List UInt8) (p : Nat) : lexG (f + 3) (parB ++ b :: R) p = (parTk p ++ (lexG f (b :: R) (p + 5)).1, (lexG f (b :: R) (p + 5)).2) := by
  rcases hb with rfl | rfl
  · kernel_rfl
  · kernel_rfl
def comTk (p : Nat) : Tok := ⟨4, [], [44], p⟩
theorem com_lex (f : Nat) (R : List UInt8) (p : Nat) : lexG (f + 1) (44 :: R) p = (comTk p :: (lexG f R (p + 1)).1, (lexG f R (p + 1)).2) := by kernel_rfl
/-- `):int=h(`. -/
def midB : List UInt8 := [41, 58, 105, 110, 116, 61, 104, 40]
def midTk (p : Nat) : List Tok := [⟨4, [], [41], p⟩, ⟨4, [], [58], p + 1⟩, ⟨2, [], [105, 110, 116], p + 2⟩, ⟨4, [], [61], p + 5⟩, ⟨1, [], [104], p + 6⟩, ⟨4, [], [40], p + 7⟩]
theorem mid_lex (f : Nat) (R : List UInt8) (p : Nat) : lexG (f + 6) (midB ++ R) p = (midTk p ++ (lexG f R (p + 8)).1, (lexG f R (p + 8)).2) := by kernel_rfl
def oneTk (p : Nat) : Tok := ⟨3, [], [49], p⟩
theorem one_lex {b : UInt8} (hb : b = 44 ∨ b = 41) (f : Nat) (R : List UInt8) (p : Nat) : lexG (f + 1) (49 :: b :: R) p = (oneTk p :: (lexG f (b :: R) (p + 1)).1, (lexG f (b :: R) (p + 1)).2) := by
  rcases hb with rfl | rfl
  · kernel_rfl
  · kernel_rfl
/-- `);` at the text's end. -/
def endB : List UInt8 := [41, 59]
def endTk (p : Nat) : List Tok := [⟨4, [], [41], p⟩, ⟨4, [], [59], p + 1⟩, ⟨5, [], [], p + 2⟩]
theorem end_lex (f : Nat) (p : Nat) : lexG (f + 3) endB p = (endTk p, 0, 0) := by kernel_rfl

def impsB : Nat → List UInt8
  | 0 => []
  | n + 1 => impB ++ impsB n
def impsTk : Nat → Nat → List Tok
  | 0, _ => []
  | n + 1, p => impTk p ++ impsTk n (p + 9)
theorem imps_lex (f : Nat) (R : List UInt8) : ∀ (n p : Nat), lexG (f + n * 3) (impsB n ++ R) p = (impsTk n p ++ (lexG f R (p + n * 9)).1, (lexG f R (p + n * 9)).2)
  | 0, p => by simp [impsB, impsTk]
  | n + 1, p => by
    rw [show f + (n + 1) * 3 = (f + n * 3) + 3 by omega, impsB, List.append_assoc, imp_lex, imps_lex f R n (p + 9), impsTk, show p + 9 + n * 9 = p + (n + 1) * 9 by omega, List.append_assoc]
def defsB : Nat → List UInt8
  | 0 => []
  | n + 1 => defB1 ++ defsB n
def defsTk : Nat → Nat → List Tok
  | 0, _ => []
  | n + 1, p => defTk p ++ defsTk n (p + 14)
theorem defs_lex (f : Nat) (R : List UInt8) : ∀ (n p : Nat), lexG (f + n * 9) (defsB n ++ R) p = (defsTk n p ++ (lexG f R (p + n * 14)).1, (lexG f R (p + n * 14)).2)
  | 0, p => by simp [defsB, defsTk]
  | n + 1, p => by
    rw [show f + (n + 1) * 9 = (f + n * 9) + 9 by omega, defsB, List.append_assoc, def_lex, defs_lex f R n (p + 14), defsTk, show p + 14 + n * 14 = p + (n + 1) * 14 by omega, List.append_assoc]
/-- What follows the first parameter. -/
def parMB : Nat → List UInt8
  | 0 => []
  | n + 1 => 44 :: (parB ++ parMB n)
def parMTk : Nat → Nat → List Tok
  | 0, _ => []
  | n + 1, p => comTk p :: (parTk (p + 1) ++ parMTk n (p + 6))
theorem parM_head (n : Nat) (R : List UInt8) : ∃ b X, parMB n ++ 41 :: R = b :: X ∧ (b = 44 ∨ b = 41) := by
  cases n with
  | zero => exact ⟨41, R, rfl, .inr rfl⟩
  | succ n => exact ⟨44, _, rfl, .inl rfl⟩
theorem parM_lex (f : Nat) (R : List UInt8) : ∀ (n p : Nat), lexG (f + n * 4) (parMB n ++ 41 :: R) p = (parMTk n p ++ (lexG f (41 :: R) (p + n * 6)).1, (lexG f (41 :: R) (p + n * 6)).2)
  | 0, p => by simp [parMB, parMTk]
  | n + 1, p => by
    have ih := parM_lex f R n (p + 6)
    obtain ⟨b, X, hX, hb⟩ := parM_head n R
    rw [show f + (n + 1) * 4 = ((f + n * 4) + 3) + 1 by omega, parMB, List.cons_append, com_lex, List.append_assoc, hX, par_lex hb, ← hX, show p + 1 + 5 = p + 6 from rfl, ih, parMTk, show p + 6 + n * 6 = p + (n + 1) * 6 by omega]
    simp
def parsB : Nat → List UInt8
  | 0 => []
  | n + 1 => parB ++ parMB n
def parsTk : Nat → Nat → List Tok
  | 0, _ => []
  | n + 1, p => parTk p ++ parMTk n (p + 5)
def parsN (n : Nat) : Nat := n * 6 - 1
def parsK (n : Nat) : Nat := n * 4 - 1
theorem pars_lex (f : Nat) (R : List UInt8) (n p : Nat) : lexG (f + parsK n) (parsB n ++ 41 :: R) p = (parsTk n p ++ (lexG f (41 :: R) (p + parsN n)).1, (lexG f (41 :: R) (p + parsN n)).2) := by
  cases n with
  | zero => simp [parsB, parsTk, parsN, parsK]
  | succ n =>
    obtain ⟨b, X, hX, hb⟩ := parM_head n R
    rw [show f + parsK (n + 1) = (f + n * 4) + 3 by unfold parsK; omega, parsB, List.append_assoc, hX, par_lex hb, ← hX, parM_lex, parsTk, show p + 5 + n * 6 = p + parsN (n + 1) by unfold parsN; omega]
    simp
def argMB : Nat → List UInt8
  | 0 => []
  | n + 1 => 44 :: 49 :: argMB n
def argMTk : Nat → Nat → List Tok
  | 0, _ => []
  | n + 1, p => comTk p :: oneTk (p + 1) :: argMTk n (p + 2)
theorem argM_head (n : Nat) (R : List UInt8) : ∃ b X, argMB n ++ 41 :: R = b :: X ∧ (b = 44 ∨ b = 41) := by
  cases n with
  | zero => exact ⟨41, R, rfl, .inr rfl⟩
  | succ n => exact ⟨44, _, rfl, .inl rfl⟩
theorem argM_lex (f : Nat) (R : List UInt8) : ∀ (n p : Nat), lexG (f + n * 2) (argMB n ++ 41 :: R) p = (argMTk n p ++ (lexG f (41 :: R) (p + n * 2)).1, (lexG f (41 :: R) (p + n * 2)).2)
  | 0, p => by simp [argMB, argMTk]
  | n + 1, p => by
    have ih := argM_lex f R n (p + 2)
    obtain ⟨b, X, hX, hb⟩ := argM_head n R
    rw [show f + (n + 1) * 2 = ((f + n * 2) + 1) + 1 by omega, argMB, List.cons_append, com_lex, List.cons_append, hX, one_lex hb, ← hX, show p + 1 + 1 = p + 2 from rfl, ih, argMTk, show p + 2 + n * 2 = p + (n + 1) * 2 by omega]
    simp
def argsB : Nat → List UInt8
  | 0 => []
  | n + 1 => 49 :: argMB n
def argsTk : Nat → Nat → List Tok
  | 0, _ => []
  | n + 1, p => oneTk p :: argMTk n (p + 1)
def argsN (n : Nat) : Nat := n * 2 - 1
theorem args_lex (f : Nat) (R : List UInt8) (n p : Nat) : lexG (f + argsN n) (argsB n ++ 41 :: R) p = (argsTk n p ++ (lexG f (41 :: R) (p + argsN n)).1, (lexG f (41 :: R) (p + argsN n)).2) := by
  cases n with
  | zero => simp [argsB, argsTk, argsN]
  | succ n =>
    obtain ⟨b, X, hX, hb⟩ := argM_head n R
    rw [show f + argsN (n + 1) = (f + n * 2) + 1 by unfold argsN; omega, argsB, List.cons_append, hX, one_lex hb, ← hX, argM_lex, argsTk, show p + 1 + n * 2 = p + argsN (n + 1) by unfold argsN; omega]
    simp

def limB (a b c d : Nat) : List UInt8 := impsB a ++ (defsB b ++ (funB ++ (parsB c ++ (midB ++ (argsB d ++ endB)))))
def limTk (a b c d : Nat) : List Tok := impsTk a 0 ++ (defsTk b (a * 9) ++ (funTk (a * 9 + b * 14) ++ (parsTk c (a * 9 + b * 14 + 6) ++ (midTk (a * 9 + b * 14 + 6 + parsN c) ++ (argsTk d (a * 9 + b * 14 + 6 + parsN c + 8) ++ endTk (a * 9 + b * 14 + 6 + parsN c + 8 + argsN d))))))
theorem impsB_len : ∀ n, (impsB n).length = n * 9
  | 0 => rfl
  | n + 1 => by rw [impsB, List.length_append, impsB_len n]; show 9 + n * 9 = _; omega
theorem defsB_len : ∀ n, (defsB n).length = n * 14
  | 0 => rfl
  | n + 1 => by rw [defsB, List.length_append, defsB_len n]; show 14 + n * 14 = _; omega
theorem parMB_len : ∀ n, (parMB n).length = n * 6
  | 0 => rfl
  | n + 1 => by rw [parMB, List.length_cons, List.length_append, parMB_len n]; show 5 + n * 6 + 1 = _; omega
theorem parsB_len (n : Nat) : (parsB n).length = parsN n := by
  cases n with
  | zero => rfl
  | succ n => rw [parsB, List.length_append, parMB_len]; show 5 + n * 6 = (n + 1) * 6 - 1; omega
theorem argMB_len : ∀ n, (argMB n).length = n * 2
  | 0 => rfl
  | n + 1 => by rw [argMB, List.length_cons, List.length_cons, argMB_len n]; omega
theorem argsB_len (n : Nat) : (argsB n).length = argsN n := by
  cases n with
  | zero => rfl
  | succ n => rw [argsB, List.length_cons, argMB_len]; show n * 2 + 1 = (n + 1) * 2 - 1; omega
theorem limB_len (a b c d : Nat) : (limB a b c d).length = a * 9 + b * 14 + 6 + parsN c + 8 + argsN d + 2 := by
  unfold limB
  rw [List.length_append, List.length_append, List.length_append, List.length_append, List.length_append, List.length_append, impsB_len, defsB_len, parsB_len, argsB_len, show funB.length = 6 from rfl, show midB.length = 8 from rfl, show endB.length = 2 from rfl]
  omega
theorem lim_lex (a b c d : Nat) : allE (limB a b c d) = (limTk a b c d, 0, 0) := by
  unfold allE
  rw [limB_len]
  have hk : parsK c ≤ parsN c := by unfold parsK parsN; omega
  obtain ⟨F, hF⟩ : ∃ F, a * 9 + b * 14 + 6 + parsN c + 8 + argsN d + 2 + 1 = ((((((F + 3) + argsN d) + 6) + parsK c) + 3) + b * 9) + a * 3 := ⟨a * 9 + b * 14 + 6 + parsN c + 8 + argsN d + 2 + 1 - (3 + argsN d + 6 + parsK c + 3 + b * 9 + a * 3), by omega⟩
  rw [hF]
  unfold limB limTk
  rw [imps_lex, defs_lex, fun_lex, show midB ++ (argsB d ++ endB) = 41 :: ([58, 105, 110, 116, 61, 104, 40] ++ (argsB d ++ endB)) from rfl, pars_lex, show (41 :: ([58, 105, 110, 116, 61, 104, 40] ++ (argsB d ++ endB)) : List UInt8) = midB ++ (argsB d ++ endB) from rfl, mid_lex, show endB = 41 :: [59] from rfl, args_lex, show (41 :: [59] : List UInt8) = endB from rfl, end_lex]
  simp only [Nat.zero_add]

/-! ### The text as the law makes it, piece by piece at its end -/

theorem impsB_snoc : ∀ n, impsB (n + 1) = impsB n ++ impB
  | 0 => rfl
  | n + 1 => by
    show impB ++ impsB (n + 1) = (impB ++ impsB n) ++ impB
    rw [impsB_snoc n, List.append_assoc]
theorem defsB_snoc : ∀ n, defsB (n + 1) = defsB n ++ defB1
  | 0 => rfl
  | n + 1 => by
    show defB1 ++ defsB (n + 1) = (defB1 ++ defsB n) ++ defB1
    rw [defsB_snoc n, List.append_assoc]
theorem parMB_snoc : ∀ n, parMB (n + 1) = parMB n ++ 44 :: parB
  | 0 => rfl
  | n + 1 => by
    show 44 :: (parB ++ parMB (n + 1)) = (44 :: (parB ++ parMB n)) ++ 44 :: parB
    rw [parMB_snoc n]; simp
theorem parsB_snoc (n : Nat) : parsB (n + 2) = parsB (n + 1) ++ 44 :: parB := by
  rw [parsB, parMB_snoc, parsB, List.append_assoc]
theorem argMB_snoc : ∀ n, argMB (n + 1) = argMB n ++ [44, 49]
  | 0 => rfl
  | n + 1 => by
    show 44 :: 49 :: argMB (n + 1) = (44 :: 49 :: argMB n) ++ [44, 49]
    rw [argMB_snoc n]; rfl
theorem argsB_snoc (n : Nat) : argsB (n + 2) = argsB (n + 1) ++ [44, 49] := by
  rw [argsB, argMB_snoc, argsB]; rfl
end Go.Proofs.YthclkbaankjbiaaGreatDoor
namespace Go.Proofs.YthclkbaankjbiaaGreatDoor

def up (k : Nat) (s : St) : St := { s with i := s.i + k }
theorem up_up (a b : Nat) (s : St) : up b (up a s) = up (a + b) s := by unfold up; simp [Nat.add_assoc]
theorem up_e (k : Nat) (s : St) : (up k s).e = s.e := rfl
theorem up_i (k : Nat) (s : St) : (up k s).i = s.i + k := rfl
theorem up_inn (k : Nat) (s : St) : (up k s).inn = s.inn := rfl
theorem tok_st {T : List Tok} {s : St} {t : Tok} (h : T[s.i]? = some t) : tokQ T s = t := by unfold tokQ; rw [h]; rfl
theorem leaf_st {T : List Tok} {s : St} {t : Tok} (h : T[s.i]? = some t) (h5 : t.kind ≠ 5) : (leafT T s).2 = up 1 s := by
  show (leafQ T s).2 = _
  unfold leafQ
  rw [tok_st h, if_neg h5]; rfl
theorem is_st {T : List Tok} {s : St} {t : Tok} {w : List UInt8} (h : T[s.i]? = some t) (he : s.e = 0) : isQ T w s = decide ((t.kind = 2 ∨ t.kind = 4) ∧ t.text = w) := by
  unfold isQ
  rw [tok_st h]; simp [he]
theorem must_st {T : List Tok} {s : St} {t : Tok} {w : List UInt8} (h : T[s.i]? = some t) (he : s.e = 0) (hk : t.kind = 2 ∨ t.kind = 4) (hw : t.text = w) : (mustT T w s).2 = up 1 s := by
  unfold mustT
  rw [is_st h he, if_pos (by simp [hk, hw])]
  exact leaf_st h (by omega)
theorem kind_st {T : List Tok} {s : St} {t : Tok} {k : Nat} (h : T[s.i]? = some t) (he : s.e = 0) (hk : t.kind = k) (h5 : k ≠ 5) : (kindT T k s).2 = up 1 s := by
  unfold kindT
  rw [if_pos ⟨he, by rw [tok_st h]; exact hk⟩]
  exact leaf_st h (by omega)
theorem nest_st {T : List Tok} {D n : Nat} {s : St} (h : n ≤ D) : nestQ T D n s = s := by unfold nestQ; rw [if_neg (by omega)]

/-- A token that is a sign of that text stands there. -/
def SignAt (T : List Tok) (i : Nat) (w : List UInt8) : Prop := ∃ t, T[i]? = some t ∧ t.kind = 4 ∧ t.text = w
theorem SignAt.is {T : List Tok} {s : St} {w v : List UInt8} (h : SignAt T s.i w) (he : s.e = 0) : isQ T v s = decide (w = v) := by
  obtain ⟨t, h1, h2, h3⟩ := h
  rw [is_st h1 he, h2, h3]; simp
theorem SignAt.must {T : List Tok} {s : St} {w : List UInt8} (h : SignAt T s.i w) (he : s.e = 0) : (mustT T w s).2 = up 1 s := by
  obtain ⟨t, h1, h2, h3⟩ := h
  exact must_st h1 he (.inr h2) h3
theorem SignAt.leaf {T : List Tok} {s : St} {w : List UInt8} (h : SignAt T s.i w) : (leafT T s).2 = up 1 s := by
  obtain ⟨t, h1, h2, h3⟩ := h
  exact leaf_st h1 (by omega)
/-- A sign that ends a formula. -/
def Ends (T : List Tok) (i : Nat) : Prop := ∃ w, SignAt T i w ∧ (w = [44] ∨ w = [41] ∨ w = [59])
theorem Ends.not {T : List Tok} {s : St} (h : Ends T s.i) (he : s.e = 0) {v : List UInt8} (h1 : v ≠ [44]) (h2 : v ≠ [41]) (h3 : v ≠ [59]) : isQ T v s = false := by
  obtain ⟨w, hs, hw⟩ := h
  rw [hs.is he, decide_eq_false_iff_not]
  rintro rfl
  rcases hw with hw | hw | hw
  · exact h1 hw
  · exact h2 hw
  · exact h3 hw

theorem rwt_stop {T : List Tok} {c : St → Bool} {sub : St → RT} {f : Nat} {r : RT} (h : c r.2 = false) : rwT T c sub (f + 1) r = r := by
  unfold rwT; rw [if_neg (by rw [h]; exact Bool.false_ne_true)]
theorem fuel_succ (T : List Tok) (s : St) : fuelQ T s = (T.length - s.i) + 1 := rfl

/-- What an atom that stands alone makes of an expression. -/
theorem expr_atom {T : List Tok} {D n : Nat} {nt : NxT} {s s' : St} (hn : n ≤ D) (he : s.e = 0) (hnk : ∀ w, isQ T w s = true → w = [40] ∨ w = [116, 114, 117, 101]) (ha : (atomT T nt s).2 = s') (hend : ∀ v : List UInt8, v ≠ [44] → v ≠ [41] → v ≠ [59] → isQ T v s' = false) : (exprT T D n nt s).2 = s' := by
  have no : ∀ w, w ≠ [40] → w ≠ [116, 114, 117, 101] → isQ T w s = false := fun w h1 h2 => by
    cases h : isQ T w s with
    | false => rfl
    | true => rcases hnk w h with e | e; exact absurd e h1; exact absurd e h2
  have hf : factorT T D n nt s = atomT T nt s := by
    unfold factorT; rw [no _ (by decide) (by decide)]; rfl
  have hp : productT T D n nt s = atomT T nt s := by
    unfold productT
    rw [hf, fuel_succ]
    refine rwt_stop ?_
    rw [ha]; unfold isMul
    rw [hend _ (by decide) (by decide) (by decide), hend _ (by decide) (by decide) (by decide), hend _ (by decide) (by decide) (by decide)]; rfl
  have hs : sumT T D n nt s = atomT T nt s := by
    unfold sumT
    rw [hp, fuel_succ]
    refine rwt_stop ?_
    rw [ha]; unfold isAdd
    rw [hend _ (by decide) (by decide) (by decide), hend _ (by decide) (by decide) (by decide)]; rfl
  have hno : notT T D n nt s = atomT T nt s := by
    have hc : isCmp T s' = false := by
      unfold isCmp
      rw [hend _ (by decide) (by decide) (by decide), hend _ (by decide) (by decide) (by decide), hend _ (by decide) (by decide) (by decide), hend _ (by decide) (by decide) (by decide), hend _ (by decide) (by decide) (by decide), hend _ (by decide) (by decide) (by decide)]; rfl
    unfold notT
    rw [no _ (by decide) (by decide)]
    simp only [Bool.false_eq_true, if_false]
    rw [hs, ha, hc]; simp
  have han : andT T D n nt s = atomT T nt s := by
    unfold andT
    rw [hno, fuel_succ]
    refine rwt_stop ?_
    rw [ha, hend _ (by decide) (by decide) (by decide)]
  have hor : orT T D n nt s = atomT T nt s := by
    unfold orT
    rw [han, fuel_succ]
    refine rwt_stop ?_
    rw [ha, hend _ (by decide) (by decide) (by decide)]
  have hfo : formulaT T D n nt s = atomT T nt s := by
    unfold formulaT
    simp only []
    rw [hor, ha, hend _ (by decide) (by decide) (by decide)]; simp
  unfold exprT
  simp only []
  rw [nest_st hn, if_neg (by simp [he]), no _ (by decide) (by decide), no _ (by decide) (by decide), no _ (by decide) (by decide)]
  simp only [Bool.false_eq_true, and_false, if_false]
  rw [hfo, ha]
/-- A number. -/
theorem expr_one {T : List Tok} {D n : Nat} {nt : NxT} {s : St} {p : Nat} (hn : n ≤ D) (he : s.e = 0) (h : T[s.i]? = some (oneTk p)) (hend : Ends T (s.i + 1)) : (exprT T D n nt s).2 = up 1 s := by
  refine expr_atom hn he (fun w hw => ?_) ?_ (fun v h1 h2 h3 => Ends.not (s := up 1 s) hend he h1 h2 h3)
  · rw [is_st h he] at hw
    simp [oneTk] at hw
  · unfold atomT
    rw [if_neg (by simp [he]), if_pos (by rw [tok_st h]; rfl)]
    exact leaf_st h (show (3 : Nat) ≠ 5 by decide)

/-! ### Parts between commas -/

theorem pts_stop {T : List Tok} {sub : St → RT} {f k : Nat} {r : RT} (h : isQ T [44] r.2 = false) : partsT T sub (f + 1) k r = r := by
  unfold partsT; rw [if_neg (by rw [h]; exact Bool.false_ne_true)]
theorem is_bad {T : List Tok} {w : List UInt8} {s : St} (h : s.e ≠ 0) : isQ T w s = false := by
  unfold isQ; simp [h]
theorem pts_run {T : List Tok} {sub : St → RT} {m : Nat} : ∀ (n k f : Nat) (r : RT) (i : Nat), r.2.e = 0 → r.2.i = i → (∀ j, j < n → SignAt T (i + j * (m + 1)) [44]) → (∀ j, j < n → ∀ s : St, s.e = 0 → s.i = i + j * (m + 1) + 1 → (sub s).2 = up m s) → SignAt T (i + n * (m + 1)) [41] → k + n ≤ 8 → (partsT T sub (f + n + 1) k r).2 = up (n * (m + 1)) r.2
  | 0, k, f, r, i, he, hi, _, _, hend, _ => by
    rw [Nat.zero_mul, Nat.add_zero] at hend
    rw [← hi] at hend
    rw [pts_stop (by rw [hend.is he]; decide)]
    unfold up; simp
  | n + 1, k, f, r, i, he, hi, hc, hs, hend, hk => by
    have h0 := hc 0 (by omega)
    rw [Nat.zero_mul, Nat.add_zero, ← hi] at h0
    rw [show f + (n + 1) + 1 = (f + n + 1) + 1 by omega, partsT]
    rw [if_pos (by rw [h0.is he]; decide)]
    simp only []
    rw [if_neg (by omega), h0.leaf]
    have hsub := hs 0 (by omega) (up 1 r.2) he (by rw [up_i, hi, Nat.zero_mul, Nat.add_zero])
    rw [pts_run n (k + 1) f _ (i + (m + 1)) (by rw [hsub]; exact he) (by rw [hsub, up_up, up_i, hi]; omega) (fun j hj => by have := hc (j + 1) (by omega); rw [show i + (j + 1) * (m + 1) = i + (m + 1) + j * (m + 1) by rw [Nat.add_mul]; omega] at this; exact this) (fun j hj s h1 h2 => hs (j + 1) (by omega) s h1 (by rw [h2, Nat.add_mul]; omega)) (by rw [show i + (n + 1) * (m + 1) = i + (m + 1) + n * (m + 1) by rw [Nat.add_mul]; omega] at hend; exact hend) (by omega)]
    rw [hsub, up_up, up_up, Nat.add_mul]
    congr 1; omega
theorem pts_full {T : List Tok} {sub : St → RT} {m : Nat} (hg : ∀ s, Good T s (sub s)) : ∀ (n k f : Nat) (r : RT) (i : Nat), r.2.e = 0 → r.2.i = i → (∀ j, j < n → SignAt T (i + j * (m + 1)) [44]) → (∀ j, j < n → ∀ s : St, s.e = 0 → s.i = i + j * (m + 1) + 1 → (sub s).2 = up m s) → k ≤ 8 → 8 < k + n → (partsT T sub (f + n + 1) k r).2.e = 15 ∧ (partsT T sub (f + n + 1) k r).2.pos = (T[i + (8 - k) * (m + 1) + 1]?.getD ⟨5, [], [], 0⟩).pos
  | 0, k, f, r, i, _, _, _, _, h1, h2 => by omega
  | n + 1, k, f, r, i, he, hi, hc, hs, hk, hkn => by
    have h0 := hc 0 (by omega)
    rw [Nat.zero_mul, Nat.add_zero, ← hi] at h0
    rw [show f + (n + 1) + 1 = (f + n + 1) + 1 by omega, partsT]
    rw [if_pos (by rw [h0.is he]; decide)]
    simp only []
    by_cases h8 : k = 8
    · rw [if_pos h8, h0.leaf]
      have hfe : (failQ T 15 (up 1 r.2)).e = 15 ∧ (failQ T 15 (up 1 r.2)).pos = (tokQ T (up 1 r.2)).pos := by
        unfold failQ; rw [if_pos (show (up 1 r.2).e = 0 from he)]; exact ⟨rfl, rfl⟩
      obtain ⟨s1, s2, -⟩ := (hg (failQ T 15 (up 1 r.2))).stay (by rw [hfe.1]; decide)
      rw [pts_stop (is_bad (by show (sub (failQ T 15 (up 1 r.2))).2.e ≠ 0; rw [s1, hfe.1]; decide))]
      refine ⟨by rw [s1]; exact hfe.1, ?_⟩
      rw [s2, hfe.2, h8]
      unfold tokQ
      rw [up_i, hi, Nat.sub_self, Nat.zero_mul, Nat.add_zero]
    · rw [if_neg h8, h0.leaf]
      have hsub := hs 0 (by omega) (up 1 r.2) he (by rw [up_i, hi, Nat.zero_mul, Nat.add_zero])
      have := pts_full hg n (k + 1) f (r.1 ++ (leafT T r.2).1 ++ (sub (up 1 r.2)).1, (sub (up 1 r.2)).2) (i + (m + 1)) (by rw [hsub]; exact he) (by rw [hsub, up_up, up_i, hi]; omega) (fun j hj => by have := hc (j + 1) (by omega); rw [show i + (j + 1) * (m + 1) = i + (m + 1) + j * (m + 1) by rw [Nat.add_mul]; omega] at this; exact this) (fun j hj s h1 h2 => hs (j + 1) (by omega) s h1 (by rw [h2, Nat.add_mul]; omega)) (by omega) (by omega)
      rw [show i + (m + 1) + (8 - (k + 1)) * (m + 1) + 1 = i + (8 - k) * (m + 1) + 1 by rw [show 8 - k = (8 - (k + 1)) + 1 by omega, Nat.add_mul]; omega] at this
      exact this

/-! ### Types, imports, definitions -/

theorem typed_st {T : List Tok} {et : St → RT} {s : St} {t : Tok} {w : List UInt8} (he : s.e = 0) (h0 : SignAt T s.i [58]) (h1 : T[s.i + 1]? = some t) (hk : t.kind = 2) (hw : t.text = [105, 110, 116]) (h2 : SignAt T (s.i + 2) w) (hne : w ≠ [123]) : (typedT T et s).2 = up 2 s := by
  have m0 := h0.must he
  have hb : (typBT T (mustT T [58] s)).2 = up 2 s := by
    unfold typBT
    rw [m0, is_st (s := up 1 s) h1 he, if_pos (.inl (by simp [hk, hw]))]
    show (leafT T (up 1 s)).2 = _
    rw [leaf_st (s := up 1 s) h1 (by omega), up_up]
  unfold typedT typCT
  rw [hb, h2.is (s := up 2 s) he, if_neg (by simp [hne])]
  exact hb
theorem imp_st {T : List Tok} {r : RT} {a b : Tok} (he : r.2.e = 0) (h0 : T[r.2.i]? = some a) (h0k : a.kind = 2) (h1 : T[r.2.i + 1]? = some b) (h1k : b.kind = 1) (h2 : SignAt T (r.2.i + 2) [59]) : (impStepT T r).2 = up 3 r.2 := by
  unfold impStepT
  simp only []
  rw [leaf_st h0 (by omega), kind_st (s := up 1 r.2) h1 he h1k (by decide), up_up, h2.must (s := up 2 r.2) he, up_up]
theorem defB_st {T : List Tok} {p : RT} {a b : Tok} (he : p.2.e = 0) (h0 : T[p.2.i]? = some a) (h0k : a.kind = 2) (h0t : a.text = [102, 117, 110]) (h1 : T[p.2.i + 1]? = some b) (h1k : b.kind = 1) (h2 : SignAt T (p.2.i + 2) [40]) : (defBT T p).2 = up 3 p.2 := by
  unfold defBT
  simp only []
  rw [must_st h0 he (.inl h0k) h0t, kind_st (s := up 1 p.2) h1 he h1k (by decide), up_up, h2.must (s := up 2 p.2) he, up_up]
theorem defA_st {T : List Tok} {s : St} {a : Tok} (he : s.e = 0) (h0 : T[s.i]? = some a) (h0t : a.text = [102, 117, 110]) : defAT T s = ([], s) := by
  unfold defAT
  rw [is_st h0 he, if_neg (by simp [h0t])]
theorem defD_st {T : List Tok} {et : St → RT} {r : RT} {t : Tok} {c : Nat} (he : r.2.e = 0) (h0 : SignAt T r.2.i [41]) (h1 : SignAt T (r.2.i + 1) [58]) (h2 : T[r.2.i + 2]? = some t) (hk : t.kind = 2) (hw : t.text = [105, 110, 116]) (h3 : SignAt T (r.2.i + 3) [61]) (hx : (et (up 4 r.2)).2 = up (4 + c) r.2) (h4 : SignAt T (r.2.i + (4 + c)) [59]) : (defDT T et r).2 = up (5 + c) r.2 := by
  unfold defDT
  simp only []
  rw [h0.must he, typed_st (s := up 1 r.2) (w := [61]) he h1 h2 hk hw h3 (by decide), up_up, h3.must (s := up 3 r.2) he, up_up, hx, h4.must (s := up (4 + c) r.2) he, up_up]
  congr 1; omega
end Go.Proofs.YthclkbaankjbiaaGreatDoor
namespace Go.Proofs.YthclkbaankjbiaaGreatDoor

def Seg (T : List Tok) (i : Nat) (L : List Tok) : Prop := ∀ k t, L[k]? = some t → T[i + k]? = some t
theorem Seg.left {T : List Tok} {i : Nat} {A B : List Tok} (h : Seg T i (A ++ B)) : Seg T i A := fun k t hk => h k t (by
  have hlt : k < A.length := (List.getElem?_eq_some_iff.1 hk).1
  rw [List.getElem?_append_left hlt]; exact hk)
theorem Seg.right {T : List Tok} {i : Nat} {A B : List Tok} (h : Seg T i (A ++ B)) : Seg T (i + A.length) B := fun k t hk => by
  have := h (A.length + k) t (by rw [List.getElem?_append_right (by omega), Nat.add_sub_cancel_left]; exact hk)
  rw [Nat.add_assoc]; exact this
theorem Seg.head {T : List Tok} {i : Nat} {a : Tok} {B : List Tok} (h : Seg T i (a :: B)) : T[i]? = some a := h 0 a rfl
theorem Seg.tail {T : List Tok} {i : Nat} {a : Tok} {B : List Tok} (h : Seg T i (a :: B)) : Seg T (i + 1) B := fun k t hk => by
  have := h (k + 1) t hk
  rw [show i + 1 + k = i + (k + 1) by omega]; exact this
theorem Seg.self (T : List Tok) : Seg T 0 T := fun k t h => by rw [Nat.zero_add]; exact h

theorem parM_at {T : List Tok} : ∀ (n i p : Nat), Seg T i (parMTk n p) → ∀ j, j < n → SignAt T (i + j * 4) [44] ∧ Seg T (i + j * 4 + 1) (parTk (p + j * 6 + 1))
  | n + 1, i, p, h, 0, _ => by
    simp only [Nat.zero_mul, Nat.add_zero]
    exact ⟨⟨_, h.head, rfl, rfl⟩, h.tail.left⟩
  | n + 1, i, p, h, j + 1, hj => by
    have := parM_at n (i + 1 + 3) (p + 6) h.tail.right j (by omega)
    rw [show i + (j + 1) * 4 = i + 1 + 3 + j * 4 by omega, show p + (j + 1) * 6 + 1 = p + 6 + j * 6 + 1 by omega]
    exact this
theorem argM_at {T : List Tok} : ∀ (n i p : Nat), Seg T i (argMTk n p) → ∀ j, j < n → SignAt T (i + j * 2) [44] ∧ T[i + j * 2 + 1]? = some (oneTk (p + j * 2 + 1))
  | n + 1, i, p, h, 0, _ => by
    simp only [Nat.zero_mul, Nat.add_zero]
    exact ⟨⟨_, h.head, rfl, rfl⟩, h.tail.head⟩
  | n + 1, i, p, h, j + 1, hj => by
    have := argM_at n (i + 1 + 1) (p + 2) h.tail.tail j (by omega)
    rw [show i + (j + 1) * 2 = i + 1 + 1 + j * 2 by omega, show p + (j + 1) * 2 + 1 = p + 2 + j * 2 + 1 by omega]
    exact this
theorem impsTk_len : ∀ n p, (impsTk n p).length = n * 3
  | 0, _ => rfl
  | n + 1, p => by rw [impsTk, List.length_append, impsTk_len n]; show 3 + n * 3 = _; omega
theorem defsTk_len : ∀ n p, (defsTk n p).length = n * 9
  | 0, _ => rfl
  | n + 1, p => by rw [defsTk, List.length_append, defsTk_len n]; show 9 + n * 9 = _; omega
theorem parMTk_len : ∀ n p, (parMTk n p).length = n * 4
  | 0, _ => rfl
  | n + 1, p => by rw [parMTk, List.length_cons, List.length_append, parMTk_len n]; show 3 + n * 4 + 1 = _; omega
theorem parsTk_len (n p : Nat) : (parsTk n p).length = parsK n := by
  cases n with
  | zero => rfl
  | succ n => rw [parsTk, List.length_append, parMTk_len]; show 3 + n * 4 = (n + 1) * 4 - 1; omega
theorem argMTk_len : ∀ n p, (argMTk n p).length = n * 2
  | 0, _ => rfl
  | n + 1, p => by rw [argMTk, List.length_cons, List.length_cons, argMTk_len n]; omega
theorem argsTk_len (n p : Nat) : (argsTk n p).length = argsN n := by
  cases n with
  | zero => rfl
  | succ n => rw [argsTk, List.length_cons, argMTk_len]; show n * 2 + 1 = (n + 1) * 2 - 1; omega
theorem imps_at {T : List Tok} : ∀ (n i p : Nat), Seg T i (impsTk n p) → ∀ j, j < n → Seg T (i + j * 3) (impTk (p + j * 9))
  | n + 1, i, p, h, 0, _ => by
    simp only [Nat.zero_mul, Nat.add_zero]; exact h.left
  | n + 1, i, p, h, j + 1, hj => by
    have := imps_at n (i + 3) (p + 9) h.right j (by omega)
    rw [show i + (j + 1) * 3 = i + 3 + j * 3 by omega, show p + (j + 1) * 9 = p + 9 + j * 9 by omega]
    exact this
theorem defTks_at {T : List Tok} : ∀ (n i p : Nat), Seg T i (defsTk n p) → ∀ j, j < n → Seg T (i + j * 9) (defTk (p + j * 14))
  | n + 1, i, p, h, 0, _ => by
    simp only [Nat.zero_mul, Nat.add_zero]; exact h.left
  | n + 1, i, p, h, j + 1, hj => by
    have := defTks_at n (i + 9) (p + 14) h.right j (by omega)
    rw [show i + (j + 1) * 9 = i + 9 + j * 9 by omega, show p + (j + 1) * 14 = p + 14 + j * 14 by omega]
    exact this

/-! ### One parameter, one definition -/

theorem par_st {T : List Tok} {et : St → RT} {s : St} {p : Nat} {w : List UInt8} (he : s.e = 0) (h : Seg T s.i (parTk p)) (h3 : SignAt T (s.i + 3) w) (hw : w ≠ [123]) : (parT T et s).2 = up 3 s := by
  unfold parT
  simp only []
  rw [kind_st (k := 1) h.head he rfl (by decide), typed_st (s := up 1 s) (w := w) he ⟨_, h.tail.head, rfl, rfl⟩ h.tail.tail.head rfl rfl h3 hw, up_up]
theorem params_at {T : List Tok} {et : St → RT} {i p n : Nat} (h : Seg T i (parTk p ++ parMTk n (p + 5))) (hend : SignAt T (i + 3 + n * 4) [41]) {s : St} (he : s.e = 0) (hi : s.i = i) : (parT T et s).2 = up 3 s ∧ (∀ j, j < n → SignAt T (i + 3 + j * 4) [44]) ∧ ∀ j, j < n → ∀ s : St, s.e = 0 → s.i = i + 3 + j * 4 + 1 → (parT T et s).2 = up 3 s := by
  have h1 := h.left
  have h2 : Seg T (i + 3) (parMTk n (p + 5)) := h.right
  have hat := parM_at n (i + 3) (p + 5) h2
  have nxt : ∀ j, j ≤ n → ∃ w, SignAt T (i + 3 + j * 4) w ∧ w ≠ [123] := fun j hj => by
    by_cases e : j = n
    · subst e; exact ⟨_, hend, by decide⟩
    · exact ⟨_, (hat j (by omega)).1, by decide⟩
  refine ⟨?_, fun j hj => (hat j hj).1, fun j hj s he hs => ?_⟩
  · obtain ⟨w, hw, hne⟩ := nxt 0 (by omega)
    rw [Nat.zero_mul, Nat.add_zero, ← hi] at hw
    rw [← hi] at h1
    exact par_st he h1 hw hne
  · obtain ⟨w, hw, hne⟩ := nxt (j + 1) (by omega)
    have h5 := (hat j hj).2
    rw [← hs] at h5
    exact par_st he h5 (by rw [hs]; rw [show i + 3 + j * 4 + 1 + 3 = i + 3 + (j + 1) * 4 by omega]; exact hw) hne
theorem params_ok {T : List Tok} {et : St → RT} {p n : Nat} {s : St} (he : s.e = 0) (h : Seg T s.i (parTk p ++ parMTk n (p + 5))) (hend : SignAt T (s.i + 3 + n * 4) [41]) (hn : n ≤ 7) (hlen : s.i + 3 + n * 4 < T.length) : (paramsT T et s).2 = up (3 + n * 4) s := by
  obtain ⟨h1, h2, h3⟩ := params_at (et := et) h hend he rfl
  unfold paramsT
  rw [h1]
  have hf : fuelQ T (up 3 s) = (T.length - (s.i + 3) - n) + n + 1 := by
    unfold fuelQ; rw [up_i]; omega
  rw [hf, pts_run (m := 3) n 1 _ (parT T et s) (s.i + 3) (by rw [h1]; exact he) (by rw [h1]; rfl) h2 h3 hend (by omega), h1, up_up]
theorem params_over {T : List Tok} {et : St → RT} (hg : ∀ s, Good T s (et s)) {p n : Nat} {s : St} (he : s.e = 0) (h : Seg T s.i (parTk p ++ parMTk n (p + 5))) (hend : SignAt T (s.i + 3 + n * 4) [41]) (hn : 7 < n) (hlen : s.i + 3 + n * 4 < T.length) : (paramsT T et s).2.e = 15 ∧ (paramsT T et s).2.pos = p + 48 := by
  obtain ⟨h1, h2, h3⟩ := params_at (et := et) h hend he rfl
  unfold paramsT
  rw [h1]
  have hf : fuelQ T (up 3 s) = (T.length - (s.i + 3) - n) + n + 1 := by
    unfold fuelQ; rw [up_i]; omega
  rw [hf]
  obtain ⟨r1, r2⟩ := pts_full (m := 3) (sub := parT T et) (par_good T hg) n 1 (T.length - (s.i + 3) - n) (parT T et s) (s.i + 3) (by rw [h1]; exact he) (by rw [h1]; rfl) h2 h3 (by omega) (by omega)
  refine ⟨r1, ?_⟩
  rw [r2]
  have h7 := (parM_at n (s.i + 3) (p + 5) h.right 7 hn).2.head
  rw [show s.i + 3 + (8 - 1) * (3 + 1) + 1 = s.i + 3 + 7 * 4 + 1 by omega, h7]
  show p + 5 + 7 * 6 + 1 = p + 48
  omega

/-! ### Arguments, the call -/

theorem args_at {T : List Tok} {D n : Nat} {nt : NxT} (hD : n ≤ D) {i p m : Nat} (h : Seg T i (oneTk p :: argMTk m (p + 1))) (hend : SignAt T (i + 1 + m * 2) [41]) {s : St} (he : s.e = 0) (hi : s.i = i) : (exprT T D n nt s).2 = up 1 s ∧ (∀ j, j < m → SignAt T (i + 1 + j * 2) [44]) ∧ ∀ j, j < m → ∀ s : St, s.e = 0 → s.i = i + 1 + j * 2 + 1 → (exprT T D n nt s).2 = up 1 s := by
  have hat := argM_at m (i + 1) (p + 1) h.tail
  have nxt : ∀ j, j ≤ m → Ends T (i + 1 + j * 2) := fun j hj => by
    by_cases e : j = m
    · subst e; exact ⟨_, hend, .inr (.inl rfl)⟩
    · exact ⟨_, (hat j (by omega)).1, .inl rfl⟩
  refine ⟨?_, fun j hj => (hat j hj).1, fun j hj s he hs => ?_⟩
  · have := nxt 0 (by omega)
    rw [Nat.zero_mul, Nat.add_zero, ← hi] at this
    exact expr_one hD he (by rw [hi]; exact h.head) this
  · refine expr_one hD he (by rw [hs]; exact (hat j hj).2) ?_
    rw [hs, show i + 1 + j * 2 + 1 + 1 = i + 1 + (j + 1) * 2 by omega]
    exact nxt (j + 1) (by omega)
theorem args_ok {T : List Tok} {D n : Nat} {nt nt' : NxT} (hnt : nt.expr = exprT T D n nt') (hD : n ≤ D) {p m : Nat} {s : St} (he : s.e = 0) (h : Seg T s.i (oneTk p :: argMTk m (p + 1))) (hend : SignAt T (s.i + 1 + m * 2) [41]) (hn : m ≤ 7) (hlen : s.i + 1 + m * 2 < T.length) : (argsT T nt s).2 = up (1 + m * 2) s := by
  obtain ⟨h1, h2, h3⟩ := args_at (nt := nt') hD h hend he rfl
  unfold argsT
  rw [hnt, h1]
  have hf : fuelQ T (up 1 s) = (T.length - (s.i + 1) - m) + m + 1 := by
    unfold fuelQ; rw [up_i]; omega
  rw [hf, pts_run (m := 1) m 1 _ (exprT T D n nt' s) (s.i + 1) (by rw [h1]; exact he) (by rw [h1]; rfl) h2 h3 hend (by omega), h1, up_up]
theorem args_over {T : List Tok} {D n : Nat} {nt nt' : NxT} (hnt : nt.expr = exprT T D n nt') (hg : ∀ s, Good T s (exprT T D n nt' s)) (hD : n ≤ D) {p m : Nat} {s : St} (he : s.e = 0) (h : Seg T s.i (oneTk p :: argMTk m (p + 1))) (hend : SignAt T (s.i + 1 + m * 2) [41]) (hn : 7 < m) (hlen : s.i + 1 + m * 2 < T.length) : (argsT T nt s).2.e = 15 ∧ (argsT T nt s).2.pos = p + 16 := by
  obtain ⟨h1, h2, h3⟩ := args_at (nt := nt') hD h hend he rfl
  unfold argsT
  rw [hnt, h1]
  have hf : fuelQ T (up 1 s) = (T.length - (s.i + 1) - m) + m + 1 := by
    unfold fuelQ; rw [up_i]; omega
  rw [hf]
  obtain ⟨r1, r2⟩ := pts_full (m := 1) (sub := exprT T D n nt') hg m 1 (T.length - (s.i + 1) - m) (exprT T D n nt' s) (s.i + 1) (by rw [h1]; exact he) (by rw [h1]; rfl) h2 h3 (by omega) (by omega)
  refine ⟨r1, ?_⟩
  rw [r2]
  have h7 := (argM_at m (s.i + 1) (p + 1) h.tail 7 hn).2
  rw [show s.i + 1 + (8 - 1) * (1 + 1) + 1 = s.i + 1 + 7 * 2 + 1 by omega, h7]
  show p + 1 + 7 * 2 + 1 = p + 16
  omega
end Go.Proofs.YthclkbaankjbiaaGreatDoor
namespace Go.Proofs.YthclkbaankjbiaaGreatDoor

theorem is_word {T : List Tok} {s : St} {t : Tok} {w : List UInt8} (h : T[s.i]? = some t) (he : s.e = 0) (h2 : t.kind ≠ 2) (h4 : t.kind ≠ 4) : isQ T w s = false := by
  rw [is_st h he, decide_eq_false_iff_not]
  rintro ⟨h | h, -⟩
  · exact h2 h
  · exact h4 h

section
variable {T : List Tok} {D n : Nat} {nt nt' : NxT}
theorem call_name {s : St} (he : s.e = 0) (hinn : s.inn = false) {h : Tok} (h0 : T[s.i]? = some h) (hk : h.kind = 1) (h1 : SignAt T (s.i + 1) [40]) : (atomT T nt s).2 = (nameET T (nameDT T nt (nameCT T (leafT T s)))).2 ∧ (nameCT T (leafT T s)).2 = up 2 s := by
  have hl := leaf_st (s := s) h0 (by omega)
  have hw : ∀ w, isQ T w s = false := fun w => is_word h0 he (by omega) (by omega)
  have hB : nameBT T (leafT T s) = leafT T s := by
    unfold nameBT
    rw [hl, h1.is (s := up 1 s) he, if_neg (by decide)]
  constructor
  · unfold atomT
    rw [if_neg (by simp [he]), if_neg (by rw [tok_st h0, hk]; decide), hw, hw, hw, hw, if_neg (by simp), if_neg (by simp), if_neg (by simp), if_pos (by rw [tok_st h0, hk])]
    unfold nameT
    rw [if_neg (by rw [hl, h1.is (s := up 1 s) he, h1.is (s := up 1 s) he, up_inn, hinn]; simp), hB]
  · unfold nameCT
    show (mustT T [40] (leafT T s).2).2 = _
    rw [hl, h1.must (s := up 1 s) he, up_up]
theorem call_ok (hnt : nt.expr = exprT T D n nt') (hD : n ≤ D) {s : St} {p d : Nat} (he : s.e = 0) (hinn : s.inn = false) {h : Tok} (h0 : T[s.i]? = some h) (hk : h.kind = 1) (h1 : SignAt T (s.i + 1) [40]) (ha : Seg T (s.i + 2) (argsTk d p)) (h2 : SignAt T (s.i + 2 + argsN d) [41]) (hd : d ≤ 8) (hlen : s.i + 2 + argsN d < T.length) : (atomT T nt s).2 = up (3 + argsN d) s := by
  obtain ⟨e1, e2⟩ := call_name (nt := nt) he hinn h0 hk h1
  rw [e1]
  have hDd : (nameDT T nt (nameCT T (leafT T s))).2 = up (2 + argsN d) s := by
    unfold nameDT
    cases d with
    | zero =>
      rw [e2, h2.is (s := up 2 s) he, if_pos (by decide), e2]; rfl
    | succ d =>
      have hlen' : s.i + 2 + (d * 2 + 1) < T.length := by unfold argsN at hlen; omega
      have h2' : SignAt T (s.i + 2 + 1 + d * 2) [41] := by
        have : s.i + 2 + argsN (d + 1) = s.i + 2 + 1 + d * 2 := by unfold argsN; omega
        rw [this] at h2; exact h2
      rw [e2, is_word (s := up 2 s) ha.head he (show (3 : Nat) ≠ 2 by decide) (show (3 : Nat) ≠ 4 by decide), if_neg (by decide)]
      show (argsT T nt (up 2 s)).2 = _
      rw [args_ok (s := up 2 s) hnt hD he ha h2' (by omega) (by show s.i + 2 + 1 + d * 2 < _; omega), up_up]
      congr 1; unfold argsN; omega
  show (mustT T [41] (nameDT T nt (nameCT T (leafT T s))).2).2 = _
  rw [hDd, SignAt.must (s := up (2 + argsN d) s) (by rw [up_i, ← Nat.add_assoc]; exact h2) he, up_up]
  congr 1; omega
theorem call_over (hnt : nt.expr = exprT T D n nt') (hg : ∀ s, Good T s (exprT T D n nt' s)) (hD : n ≤ D) {s : St} {p d : Nat} (he : s.e = 0) (hinn : s.inn = false) {h : Tok} (h0 : T[s.i]? = some h) (hk : h.kind = 1) (h1 : SignAt T (s.i + 1) [40]) (ha : Seg T (s.i + 2) (argsTk d p)) (h2 : SignAt T (s.i + 2 + argsN d) [41]) (hd : 8 < d) (hlen : s.i + 2 + argsN d < T.length) : (atomT T nt s).2.e = 15 ∧ (atomT T nt s).2.pos = p + 16 := by
  obtain ⟨e1, e2⟩ := call_name (nt := nt) he hinn h0 hk h1
  rw [e1]
  have hDd : (nameDT T nt (nameCT T (leafT T s))).2.e = 15 ∧ (nameDT T nt (nameCT T (leafT T s))).2.pos = p + 16 := by
    unfold nameDT
    cases d with
    | zero => omega
    | succ d =>
      have hlen' : s.i + 2 + (d * 2 + 1) < T.length := by unfold argsN at hlen; omega
      have h2' : SignAt T (s.i + 2 + 1 + d * 2) [41] := by
        have : s.i + 2 + argsN (d + 1) = s.i + 2 + 1 + d * 2 := by unfold argsN; omega
        rw [this] at h2; exact h2
      rw [e2, is_word (s := up 2 s) ha.head he (show (3 : Nat) ≠ 2 by decide) (show (3 : Nat) ≠ 4 by decide), if_neg (by decide)]
      exact args_over (s := up 2 s) hnt hg hD he ha h2' (by omega) (by show s.i + 2 + 1 + d * 2 < _; omega)
  obtain ⟨s1, s2, -⟩ := (must_good T [41] (nameDT T nt (nameCT T (leafT T s))).2).stay (by rw [hDd.1]; decide)
  exact ⟨s1.trans hDd.1, s2.trans hDd.2⟩

/-- The last definition: where its parts stand. -/
structure DefAt (T : List Tok) (i c d p3 p5 : Nat) : Prop where
  f0 : ∃ t, T[i]? = some t ∧ t.kind = 2 ∧ t.text = [102, 117, 110]
  f1 : ∃ t, T[i + 1]? = some t ∧ t.kind = 1
  f2 : SignAt T (i + 2) [40]
  ps : Seg T (i + 3) (parsTk c p3)
  m0 : SignAt T (i + (3 + parsK c)) [41]
  m1 : SignAt T (i + (3 + parsK c) + 1) [58]
  m2 : ∃ t, T[i + (3 + parsK c) + 2]? = some t ∧ t.kind = 2 ∧ t.text = [105, 110, 116]
  m3 : SignAt T (i + (3 + parsK c) + 3) [61]
  m4 : ∃ t, T[i + (3 + parsK c) + 4]? = some t ∧ t.kind = 1
  m5 : SignAt T (i + (3 + parsK c) + 4 + 1) [40]
  ag : Seg T (i + (3 + parsK c) + 4 + 2) (argsTk d p5)
  e0 : SignAt T (i + (3 + parsK c) + 4 + 2 + argsN d) [41]
  e1 : SignAt T (i + (3 + parsK c) + (4 + (3 + argsN d))) [59]
  len : i + (3 + parsK c) + (4 + (3 + argsN d)) < T.length

theorem def_front {et : St → RT} {s : St} {c d p3 p5 : Nat} (he : s.e = 0) (h : DefAt T s.i c d p3 p5) : defAT T s = ([], s) ∧ (defBT T ([], s)).2 = up 3 s := by
  obtain ⟨a, a0, a1, a2⟩ := h.f0
  obtain ⟨b, b0, b1⟩ := h.f1
  exact ⟨defA_st he a0 a2, defB_st (p := ([], s)) he a0 a1 a2 b0 b1 h.f2⟩
theorem defC_ok {et : St → RT} {s : St} {c d p3 p5 : Nat} (he : s.e = 0) (h : DefAt T s.i c d p3 p5) (hc : c ≤ 8) : (defCT T et (defBT T ([], s))).2 = up (3 + parsK c) s := by
  obtain ⟨-, hb⟩ := def_front (et := et) he h
  unfold defCT
  cases c with
  | zero =>
    rw [hb, SignAt.is (s := up 3 s) (w := [41]) h.m0 he, if_neg (by simp), hb]; rfl
  | succ c =>
    rw [hb, is_word (s := up 3 s) h.ps.head he (show (1 : Nat) ≠ 2 by decide) (show (1 : Nat) ≠ 4 by decide), if_pos ⟨he, rfl⟩]
    show (paramsT T et (up 3 s)).2 = _
    have hk : parsK (c + 1) = 3 + c * 4 := by unfold parsK; omega
    have hm := h.m0
    have hl := h.len
    rw [hk] at hm hl ⊢
    rw [params_ok (s := up 3 s) he h.ps (by rw [up_i, show s.i + 3 + 3 + c * 4 = s.i + (3 + (3 + c * 4)) by omega]; exact hm) (by omega) (by rw [up_i]; omega), up_up]
theorem defC_over {et : St → RT} (hg : ∀ s, Good T s (et s)) {s : St} {c d p3 p5 : Nat} (he : s.e = 0) (h : DefAt T s.i c d p3 p5) (hc : 8 < c) : (defCT T et (defBT T ([], s))).2.e = 15 ∧ (defCT T et (defBT T ([], s))).2.pos = p3 + 48 := by
  obtain ⟨-, hb⟩ := def_front (et := et) he h
  unfold defCT
  cases c with
  | zero => omega
  | succ c =>
    rw [hb, is_word (s := up 3 s) h.ps.head he (show (1 : Nat) ≠ 2 by decide) (show (1 : Nat) ≠ 4 by decide), if_pos ⟨he, rfl⟩]
    have hk : parsK (c + 1) = 3 + c * 4 := by unfold parsK; omega
    have hm := h.m0
    have hl := h.len
    rw [hk] at hm hl
    exact params_over hg (s := up 3 s) he h.ps (by rw [up_i, show s.i + 3 + 3 + c * 4 = s.i + (3 + (3 + c * 4)) by omega]; exact hm) (by omega) (by rw [up_i]; omega)
theorem def_ok {n0 : Nat} (h0 : n0 ≤ D) (hnt : nt.expr = exprT T D n nt') (hD : n ≤ D) {s : St} {c d p3 p5 : Nat} (he : s.e = 0) (hinn : s.inn = false) (h : DefAt T s.i c d p3 p5) (hc : c ≤ 8) (hd : d ≤ 8) : (defT T (exprT T D n0 nt) s).2 = up (3 + parsK c + (5 + (3 + argsN d))) s := by
  obtain ⟨ha, -⟩ := def_front (et := exprT T D n0 nt) he h
  have hC := defC_ok (et := exprT T D n0 nt) he h hc
  show (defDT T _ (defCT T _ (defBT T (defAT T s)))).2 = _
  rw [ha]
  obtain ⟨t, t0, t1, t2⟩ := h.m2
  obtain ⟨b, b0, b1⟩ := h.m4
  generalize hr : defCT T (exprT T D n0 nt) (defBT T ([], s)) = r at hC ⊢
  have hri : r.2.i = s.i + (3 + parsK c) := by rw [hC, up_i]
  have hre : r.2.e = 0 := by rw [hC]; exact he
  have hrn : r.2.inn = false := by rw [hC]; exact hinn
  have hcall := call_ok (s := up 4 r.2) hnt hD hre hrn (h := b) (by rw [up_i, hri]; exact b0) b1 (by rw [up_i, hri]; exact h.m5) (by rw [up_i, hri]; exact h.ag) (by rw [up_i, hri]; exact h.e0) hd (by have := h.len; rw [up_i, hri]; omega)
  rw [up_up] at hcall
  have hx : (exprT T D n0 nt (up 4 r.2)).2 = up (4 + (3 + argsN d)) r.2 := by
    refine expr_atom h0 hre (fun w hw => ?_) hcall (fun v h1 h2 h3 => Ends.not (s := up (4 + (3 + argsN d)) r.2) ⟨_, by rw [up_i, hri]; exact h.e1, .inr (.inr rfl)⟩ hre h1 h2 h3)
    rw [is_word (s := up 4 r.2) (by rw [up_i, hri]; exact b0) hre (by omega) (by omega)] at hw
    cases hw
  rw [defD_st (c := 3 + argsN d) (t := t) hre (by rw [hri]; exact h.m0) (by rw [hri]; exact h.m1) (by rw [hri]; exact t0) t1 t2 (by rw [hri]; exact h.m3) hx (by rw [hri]; exact h.e1), hC, up_up]
theorem def_overP {et : St → RT} (hg : ∀ s, Good T s (et s)) {s : St} {c d p3 p5 : Nat} (he : s.e = 0) (h : DefAt T s.i c d p3 p5) (hc : 8 < c) : (defT T et s).2.e = 15 ∧ (defT T et s).2.pos = p3 + 48 := by
  obtain ⟨ha, -⟩ := def_front (et := et) he h
  have hC := defC_over hg he h hc
  show (defDT T _ (defCT T _ (defBT T (defAT T s)))).2.e = 15 ∧ (defDT T _ (defCT T _ (defBT T (defAT T s)))).2.pos = _
  rw [ha]
  obtain ⟨s1, s2, -⟩ := (defD_good T hg (Good.self T (defCT T et (defBT T ([], s))))).stay (by rw [hC.1]; decide)
  exact ⟨s1.trans hC.1, s2.trans hC.2⟩
theorem def_overA {n0 : Nat} (h0 : n0 ≤ D) (hnt : nt.expr = exprT T D n nt') (hg : ∀ s, Good T s (exprT T D n nt' s)) (hD : n ≤ D) {s : St} {c d p3 p5 : Nat} (he : s.e = 0) (hinn : s.inn = false) (h : DefAt T s.i c d p3 p5) (hc : c ≤ 8) (hd : 8 < d) : (defT T (exprT T D n0 nt) s).2.e = 15 ∧ (defT T (exprT T D n0 nt) s).2.pos = p5 + 16 := by
  obtain ⟨ha, -⟩ := def_front (et := exprT T D n0 nt) he h
  have hC := defC_ok (et := exprT T D n0 nt) he h hc
  show (defDT T _ (defCT T _ (defBT T (defAT T s)))).2.e = 15 ∧ (defDT T _ (defCT T _ (defBT T (defAT T s)))).2.pos = _
  rw [ha]
  obtain ⟨t, t0, t1, t2⟩ := h.m2
  obtain ⟨b, b0, b1⟩ := h.m4
  generalize hr : defCT T (exprT T D n0 nt) (defBT T ([], s)) = r at hC ⊢
  have hri : r.2.i = s.i + (3 + parsK c) := by rw [hC, up_i]
  have hre : r.2.e = 0 := by rw [hC]; exact he
  have hrn : r.2.inn = false := by rw [hC]; exact hinn
  have hcall := call_over (s := up 4 r.2) hnt hg hD hre hrn (h := b) (by rw [up_i, hri]; exact b0) b1 (by rw [up_i, hri]; exact h.m5) (by rw [up_i, hri]; exact h.ag) (by rw [up_i, hri]; exact h.e0) hd (by have := h.len; rw [up_i, hri]; omega)
  have hx : (exprT T D n0 nt (up 4 r.2)).2 = (atomT T nt (up 4 r.2)).2 := by
    refine expr_atom h0 hre (fun w hw => ?_) rfl (fun v _ _ _ => is_bad (by rw [hcall.1]; decide))
    rw [is_word (s := up 4 r.2) (by rw [up_i, hri]; exact b0) hre (by omega) (by omega)] at hw
    cases hw
  unfold defDT
  simp only []
  rw [SignAt.must (s := r.2) (w := [41]) (by rw [hri]; exact h.m0) hre, typed_st (s := up 1 r.2) (w := [61]) hre (by rw [up_i, hri]; exact h.m1) (by rw [up_i, hri]; exact t0) t1 t2 (by rw [up_i, hri]; exact h.m3) (by decide), up_up, SignAt.must (s := up (1 + 2) r.2) (w := [61]) (by rw [up_i, hri]; exact h.m3) hre, up_up]
  obtain ⟨s1, s2, -⟩ := (must_good T [59] (exprT T D n0 nt (up 4 r.2)).2).stay (by rw [hx, hcall.1]; decide)
  exact ⟨s1.trans (by rw [hx]; exact hcall.1), s2.trans (by rw [hx]; exact hcall.2)⟩
end
end Go.Proofs.YthclkbaankjbiaaGreatDoor
namespace Go.Proofs.YthclkbaankjbiaaGreatDoor

section
variable {T : List Tok}
theorem mny_stop {c : St → Bool} {step : RT → RT} {most f k : Nat} {r : RT} (h : c r.2 = false) : manyT T c step most (f + 1) k r = (true, r) := by
  unfold manyT; rw [if_neg (by rw [h]; exact Bool.false_ne_true)]
theorem mny_full {c : St → Bool} {step : RT → RT} {most f : Nat} {r : RT} (h : c r.2 = true) : manyT T c step most (f + 1) most r = (false, ([], failQ T 15 r.2)) := by
  unfold manyT; rw [if_pos h, if_pos rfl]
theorem mny_step {c : St → Bool} {step : RT → RT} {most f k : Nat} {r : RT} (h : c r.2 = true) (hk : k ≠ most) : manyT T c step most (f + 1) k r = manyT T c step most f (k + 1) (step r) := by
  rw [manyT, if_pos h, if_neg hk]
theorem mny_run {c : St → Bool} {step : RT → RT} {most m : Nat} : ∀ (n k f : Nat) (r : RT) (i : Nat), r.2.e = 0 → r.2.inn = false → r.2.i = i → (∀ j, j < n → ∀ r' : RT, r'.2.e = 0 → r'.2.inn = false → r'.2.i = i + j * m → c r'.2 = true ∧ (step r').2 = up m r'.2) → k + n ≤ most → ∃ r', manyT T c step most (f + n) k r = manyT T c step most f (k + n) r' ∧ r'.2 = up (n * m) r.2
  | 0, k, f, r, i, _, _, _, _, _ => ⟨r, rfl, by unfold up; simp⟩
  | n + 1, k, f, r, i, he, hn, hi, hs, hk => by
    obtain ⟨h1, h2⟩ := hs 0 (by omega) r he hn (by omega)
    obtain ⟨r', h3, h4⟩ := mny_run (c := c) (step := step) (most := most) (m := m) n (k + 1) f (step r) (i + m) (by rw [h2]; exact he) (by rw [h2]; exact hn) (by rw [h2, up_i, hi]) (fun j hj r' a1 a2 a3 => hs (j + 1) (by omega) r' a1 a2 (by rw [a3, Nat.add_mul]; omega)) (by omega)
    refine ⟨r', ?_, ?_⟩
    · rw [show f + (n + 1) = (f + n) + 1 by omega, mny_step h1 (by omega), h3, show k + 1 + n = k + (n + 1) by omega]
    · rw [h4, h2, up_up, Nat.add_mul]
      congr 1; omega

/-- The word that a definition begins with. -/
def FunAt (T : List Tok) (i p : Nat) : Prop := ∃ t, T[i]? = some t ∧ t.kind = 2 ∧ t.text = [102, 117, 110] ∧ t.pos = p
theorem FunAt.defs {i p : Nat} (h : FunAt T i p) {s : St} (he : s.e = 0) (hi : s.i = i) : isDef T s = true := by
  obtain ⟨t, t0, t1, t2, -⟩ := h
  unfold isDef
  rw [is_st (t := t) (w := [102, 117, 110]) (by rw [hi]; exact t0) he, decide_eq_true (show (t.kind = 2 ∨ t.kind = 4) ∧ t.text = [102, 117, 110] from ⟨.inl t1, t2⟩), Bool.or_true]
theorem def_plain {D n : Nat} {nt : NxT} (hD : n ≤ D) {s : St} {p : Nat} (he : s.e = 0) (h : Seg T s.i (defTk p)) : (defT T (exprT T D n nt) s).2 = up 9 s := by
  have g0 := h.head
  have h1 := h.tail; have g1 := h1.head
  have h2 := h1.tail; have g2 := h2.head
  have h3 := h2.tail; have g3 := h3.head
  have h4 := h3.tail; have g4 := h4.head
  have h5 := h4.tail; have g5 := h5.head
  have h6 := h5.tail; have g6 := h6.head
  have h7 := h6.tail; have g7 := h7.head
  have g8 := h7.tail.head
  have hb : (defBT T ([], s)).2 = up 3 s := defB_st (p := ([], s)) he g0 rfl rfl g1 rfl ⟨_, g2, rfl, rfl⟩
  have hc : defCT T (exprT T D n nt) (defBT T ([], s)) = defBT T ([], s) := by
    unfold defCT
    rw [hb, SignAt.is (s := up 3 s) (w := [41]) ⟨_, g3, rfl, rfl⟩ he, if_neg (by simp)]
  show (defDT T _ (defCT T _ (defBT T (defAT T s)))).2 = _
  rw [defA_st he g0 rfl, hc]
  have hx : (exprT T D n nt (up 4 (defBT T ([], s)).2)).2 = up (4 + 1) (defBT T ([], s)).2 := by
    rw [hb, up_up, up_up]
    exact expr_one (s := up 7 s) hD he g7 ⟨_, ⟨_, g8, rfl, rfl⟩, .inr (.inr rfl)⟩
  rw [defD_st (r := defBT T ([], s)) (c := 1) (by rw [hb]; exact he) (by rw [hb]; exact ⟨_, g3, rfl, rfl⟩) (by rw [hb]; exact ⟨_, g4, rfl, rfl⟩) (by rw [hb]; exact g5) rfl rfl (by rw [hb]; exact ⟨_, g6, rfl, rfl⟩) hx (by rw [hb]; exact ⟨_, g8, rfl, rfl⟩), hb, up_up]

theorem imps_step {a : Nat} (h : Seg T 0 (impsTk a 0)) {j : Nat} (hj : j < a) {r' : RT} (he : r'.2.e = 0) (hi : r'.2.i = 0 + j * 3) : isQ T [105, 109, 112, 111, 114, 116] r'.2 = true ∧ (impStepT T r').2 = up 3 r'.2 := by
  have hs := imps_at a 0 0 h j hj
  rw [← hi] at hs
  refine ⟨?_, imp_st he hs.head rfl hs.tail.head rfl ⟨_, hs.tail.tail.head, rfl, rfl⟩⟩
  rw [is_st hs.head he]; rfl
theorem imps_all {a p : Nat} (h : Seg T 0 (impsTk a 0)) (ha : a ≤ 16) (hl : a ≤ T.length) (hf : FunAt T (a * 3) p) : ∃ r, importsT T ([], startQ) = (true, r) ∧ r.2 = up (a * 3) startQ := by
  obtain ⟨r, h1, h2⟩ := mny_run (T := T) (c := isQ T [105, 109, 112, 111, 114, 116]) (step := impStepT T) (most := 16) (m := 3) a 0 (T.length - a + 1) ([], startQ) 0 rfl rfl rfl (fun j hj r' e1 _ e3 => imps_step h hj e1 e3) (by omega)
  refine ⟨r, ?_, h2⟩
  unfold importsT
  rw [show fuelQ T (([], startQ) : RT).2 = T.length - a + 1 + a by show T.length - 0 + 1 = _; omega, h1]
  refine mny_stop ?_
  obtain ⟨t, t0, t1, t2, -⟩ := hf
  rw [is_st (t := t) (by rw [h2]; show T[0 + a * 3]? = _; rw [Nat.zero_add]; exact t0) (by rw [h2]; rfl), t2]
  simp
theorem imps_over {a : Nat} (h : Seg T 0 (impsTk a 0)) (ha : 16 < a) (hl : a ≤ T.length) : (importsT T ([], startQ)).1 = false ∧ (importsT T ([], startQ)).2.2.e = 15 ∧ (importsT T ([], startQ)).2.2.pos = 144 := by
  obtain ⟨r, h1, h2⟩ := mny_run (T := T) (c := isQ T [105, 109, 112, 111, 114, 116]) (step := impStepT T) (most := 16) (m := 3) 16 0 (T.length - 16 + 1) ([], startQ) 0 rfl rfl rfl (fun j hj r' e1 _ e3 => imps_step h (by omega) e1 e3) (by omega)
  have he : r.2.e = 0 := by rw [h2]; rfl
  have hi : r.2.i = 0 + 16 * 3 := by rw [h2]; rfl
  have hs := imps_at a 0 0 h 16 ha
  rw [← hi] at hs
  have key : importsT T ([], startQ) = (false, ([], failQ T 15 r.2)) := by
    unfold importsT
    rw [show fuelQ T (([], startQ) : RT).2 = T.length - 16 + 1 + 16 by show T.length - 0 + 1 = _; omega, h1]
    exact mny_full (imps_step h ha he hi).1
  rw [key]
  refine ⟨rfl, ?_, ?_⟩
  · unfold failQ; rw [if_pos he]
  · unfold failQ; rw [if_pos he]
    show (tokQ T r.2).pos = 144
    rw [tok_st hs.head]
theorem defs_all {D n : Nat} {nt : NxT} (hD : n ≤ D) {a b p q : Nat} {r : RT} (hr : r.2 = up a startQ) (h : Seg T a (defsTk b q)) (hb : b ≤ 63) (hl : a + b + 1 ≤ T.length) (hf : FunAt T (a + b * 9) p) {x : St} (hx : (defT T (exprT T D n nt) (up (a + b * 9) startQ)).2 = x) (hn : isDef T x = false) : (defsT T (exprT T D n nt) r).1 = true ∧ (defsT T (exprT T D n nt) r).2.2 = x := by
  obtain ⟨r', h1, h2⟩ := mny_run (T := T) (c := isDef T) (step := defStepT T (exprT T D n nt)) (most := 64) (m := 9) b 0 (T.length - a - b - 1 + 1 + 1) r a (by rw [hr]; rfl) (by rw [hr]; rfl) (by rw [hr]; show 0 + a = a; omega) (fun j hj r' e1 _ e3 => by
    have hs := defTks_at b a q h j hj
    exact ⟨FunAt.defs (p := q + j * 14) ⟨_, hs.head, rfl, rfl, rfl⟩ e1 e3, def_plain hD e1 (by rw [e3]; exact hs)⟩) (by omega)
  have h3 : r'.2 = up (a + b * 9) startQ := by rw [h2, hr, up_up]
  have key : defsT T (exprT T D n nt) r = (true, defStepT T (exprT T D n nt) r') := by
    unfold defsT
    rw [show fuelQ T r.2 = T.length - a - b - 1 + 1 + 1 + b by unfold fuelQ; rw [hr]; show T.length - (0 + a) + 1 = _; omega, h1]
    rw [mny_step (hf.defs (by rw [h3]; rfl) (by rw [h3]; show 0 + (a + b * 9) = _; omega)) (by omega)]
    refine mny_stop ?_
    show isDef T (defT T (exprT T D n nt) r'.2).2 = false
    rw [h3, hx]; exact hn
  rw [key]
  refine ⟨rfl, ?_⟩
  show (defT T (exprT T D n nt) r'.2).2 = x
  rw [h3, hx]
theorem defs_over {D n : Nat} {nt : NxT} (hD : n ≤ D) {a b p q : Nat} {r : RT} (hr : r.2 = up a startQ) (h : Seg T a (defsTk b q)) (hb : 63 < b) (hl : a + b + 1 ≤ T.length) (hf : FunAt T (a + 64 * 9) p) : (defsT T (exprT T D n nt) r).1 = false ∧ (defsT T (exprT T D n nt) r).2.2.e = 15 ∧ (defsT T (exprT T D n nt) r).2.2.pos = p := by
  obtain ⟨r', h1, h2⟩ := mny_run (T := T) (c := isDef T) (step := defStepT T (exprT T D n nt)) (most := 64) (m := 9) 64 0 (T.length - a - 64 + 1) r a (by rw [hr]; rfl) (by rw [hr]; rfl) (by rw [hr]; show 0 + a = a; omega) (fun j hj r' e1 _ e3 => by
    have hs := defTks_at b a q h j (by omega)
    exact ⟨FunAt.defs (p := q + j * 14) ⟨_, hs.head, rfl, rfl, rfl⟩ e1 e3, def_plain hD e1 (by rw [e3]; exact hs)⟩) (by omega)
  have h3 : r'.2 = up (a + 64 * 9) startQ := by rw [h2, hr, up_up]
  have he : r'.2.e = 0 := by rw [h3]; rfl
  have hi : r'.2.i = a + 64 * 9 := by rw [h3]; show 0 + (a + 64 * 9) = _; omega
  have key : defsT T (exprT T D n nt) r = (false, ([], failQ T 15 r'.2)) := by
    unfold defsT
    rw [show fuelQ T r.2 = T.length - a - 64 + 1 + 64 by unfold fuelQ; rw [hr]; show T.length - (0 + a) + 1 = _; omega, h1]
    exact mny_full (hf.defs he hi)
  obtain ⟨t, t0, t1, t2, t3⟩ := hf
  rw [key]
  refine ⟨rfl, ?_, ?_⟩
  · unfold failQ; rw [if_pos he]
  · unfold failQ; rw [if_pos he]
    show (tokQ T r'.2).pos = p
    rw [tok_st (by rw [hi]; exact t0)]; exact t3
end
end Go.Proofs.YthclkbaankjbiaaGreatDoor
namespace Go.Proofs.YthclkbaankjbiaaGreatDoor

theorem midTk_len (p : Nat) : (midTk p).length = 6 := rfl
theorem lim_len (a b c d : Nat) : (limTk a b c d).length = a * 3 + b * 9 + (3 + parsK c) + (4 + (3 + argsN d)) + 2 := by
  unfold limTk
  rw [List.length_append, List.length_append, List.length_append, List.length_append, List.length_append, List.length_append, impsTk_len, defsTk_len, parsTk_len, argsTk_len, midTk_len]
  show a * 3 + (b * 9 + (3 + (parsK c + (6 + (argsN d + 3))))) = _
  omega
theorem lim_imps (a b c d : Nat) : Seg (limTk a b c d) 0 (impsTk a 0) := (Seg.self (limTk a b c d)).left
theorem lim_rest (a b c d : Nat) : Seg (limTk a b c d) (a * 3) (defsTk b (a * 9) ++ (funTk (a * 9 + b * 14) ++ (parsTk c (a * 9 + b * 14 + 6) ++ (midTk (a * 9 + b * 14 + 6 + parsN c) ++ (argsTk d (a * 9 + b * 14 + 6 + parsN c + 8) ++ endTk (a * 9 + b * 14 + 6 + parsN c + 8 + argsN d)))))) := by
  have := (Seg.self (limTk a b c d)).right (A := impsTk a 0)
  rw [impsTk_len, Nat.zero_add] at this
  exact this
theorem lim_defs (a b c d : Nat) : Seg (limTk a b c d) (a * 3) (defsTk b (a * 9)) := (lim_rest a b c d).left
theorem lim_def (a b c d : Nat) : DefAt (limTk a b c d) (a * 3 + b * 9) c d (a * 9 + b * 14 + 6) (a * 9 + b * 14 + 6 + parsN c + 8) ∧ FunAt (limTk a b c d) (a * 3 + b * 9) (a * 9 + b * 14) ∧ ∃ t, (limTk a b c d)[a * 3 + b * 9 + (3 + parsK c + (5 + (3 + argsN d)))]? = some t ∧ t.kind = 5 := by
  have h1 := (lim_rest a b c d).right
  rw [defsTk_len] at h1
  have h2 := h1.right
  have h3 := h2.right
  rw [parsTk_len] at h3
  have h4 := h3.right
  have h5 := h4.right
  rw [argsTk_len] at h5
  have f0 := h1.left
  have m0 := h3.left
  have e0 := h5
  have i3 : a * 3 + b * 9 + 3 + parsK c = a * 3 + b * 9 + (3 + parsK c) := by omega
  have hm : Seg (limTk a b c d) (a * 3 + b * 9 + (3 + parsK c)) (midTk (a * 9 + b * 14 + 6 + parsN c)) := by rw [← i3]; exact m0
  have ha : Seg (limTk a b c d) (a * 3 + b * 9 + (3 + parsK c) + 4 + 2) (argsTk d (a * 9 + b * 14 + 6 + parsN c + 8)) := by
    rw [show a * 3 + b * 9 + (3 + parsK c) + 4 + 2 = a * 3 + b * 9 + 3 + parsK c + 6 by omega]; exact h4.left
  have he : Seg (limTk a b c d) (a * 3 + b * 9 + (3 + parsK c) + 4 + 2 + argsN d) (endTk (a * 9 + b * 14 + 6 + parsN c + 8 + argsN d)) := by
    rw [show a * 3 + b * 9 + (3 + parsK c) + 4 + 2 + argsN d = a * 3 + b * 9 + 3 + parsK c + 6 + argsN d by omega]; exact h5
  refine ⟨⟨⟨_, f0.head, rfl, rfl⟩, ⟨_, f0.tail.head, rfl⟩, ⟨_, f0.tail.tail.head, rfl, rfl⟩, h2.left, ⟨_, hm.head, rfl, rfl⟩, ⟨_, hm.tail.head, rfl, rfl⟩, ⟨_, hm.tail.tail.head, rfl, rfl⟩, ⟨_, hm.tail.tail.tail.head, rfl, rfl⟩, ⟨_, hm.tail.tail.tail.tail.head, rfl⟩, ⟨_, hm.tail.tail.tail.tail.tail.head, rfl, rfl⟩, ha, ⟨_, he.head, rfl, rfl⟩, ⟨⟨4, [], [59], a * 9 + b * 14 + 6 + parsN c + 8 + argsN d + 1⟩, ?_, rfl, rfl⟩, ?_⟩, ⟨_, f0.head, rfl, rfl, rfl⟩, ⟨⟨5, [], [], a * 9 + b * 14 + 6 + parsN c + 8 + argsN d + 2⟩, ?_, rfl⟩⟩
  · have := he.tail.head
    rw [show a * 3 + b * 9 + (3 + parsK c) + (4 + (3 + argsN d)) = a * 3 + b * 9 + (3 + parsK c) + 4 + 2 + argsN d + 1 by omega]; exact this
  · rw [lim_len]; omega
  · have := he.tail.tail.head
    rw [show a * 3 + b * 9 + (3 + parsK c + (5 + (3 + argsN d))) = a * 3 + b * 9 + (3 + parsK c) + 4 + 2 + argsN d + 1 + 1 by omega]; exact this
theorem lim_fun (a b c d : Nat) : ∃ p, FunAt (limTk a b c d) (a * 3) p := by
  cases b with
  | zero =>
    have := (lim_def a 0 c d).2.1
    rw [Nat.zero_mul, Nat.add_zero] at this
    exact ⟨_, this⟩
  | succ b =>
    have := defTks_at (b + 1) _ _ (lim_defs a (b + 1) c d) 0 (by omega)
    rw [Nat.zero_mul, Nat.add_zero] at this
    exact ⟨_, _, this.head, rfl, rfl, rfl⟩
theorem lim_fun64 {a b c d : Nat} (hb : 63 < b) : FunAt (limTk a b c d) (a * 3 + 64 * 9) (a * 9 + 896) := by
  by_cases h : b = 64
  · subst h
    exact (lim_def a 64 c d).2.1
  · have := defTks_at b _ _ (lim_defs a b c d) 64 (by omega)
    exact ⟨_, this.head, rfl, rfl, rfl⟩

/-- What is told of the law's text. -/
def limF (a b c d : Nat) : Option Nat :=
  if 16 < a then some 144 else if 63 < b then some (a * 9 + 896) else if 8 < c then some (a * 9 + b * 14 + 54) else if 8 < d then some (a * 9 + b * 14 + 6 + parsN c + 24) else none
theorem lim_tree (a b c d : Nat) : match limF a b c d with
    | none => (treeT (limTk a b c d) 9 false).2.e = 0
    | some p => (treeT (limTk a b c d) 9 false).2.e = 15 ∧ (treeT (limTk a b c d) 9 false).2.pos = p := by
  have hl := lim_len a b c d
  obtain ⟨hd, hf, t, t0, t1⟩ := lim_def a b c d
  generalize hT : limTk a b c d = T at *
  have hI := lim_imps a b c d
  have hD := lim_defs a b c d
  obtain ⟨q, hq⟩ := lim_fun a b c d
  rw [hT] at hI hD hq
  have ht : treeT T 9 false = programT T (nxT T 9 9).expr startQ := rfl
  rw [ht]
  have hg : ∀ s, Good T s ((nxT T 9 9).expr s) := (nx_good T 9 9).expr
  have hg' : ∀ s, Good T s ((nxT T 9 8).expr s) := (nx_good T 9 8).expr
  have hx : (nxT T 9 9).expr = exprT T 9 1 (nxT T 9 8) := rfl
  have hx' : (nxT T 9 8).expr = exprT T 9 2 (nxT T 9 7) := rfl
  rw [hx] at hg ⊢
  rw [hx'] at hg'
  unfold limF
  by_cases h1 : 16 < a
  · rw [if_pos h1]
    obtain ⟨r1, r2, r3⟩ := imps_over hI h1 (by omega)
    unfold programT
    rw [if_pos r1]
    exact ⟨r2, r3⟩
  rw [if_neg h1]
  obtain ⟨r, hr, hru⟩ := imps_all hI (by omega) (by omega) hq
  have hp : ∀ x, (defsT T (exprT T 9 1 (nxT T 9 8)) r).1 = true → (defsT T (exprT T 9 1 (nxT T 9 8)) r).2.2 = x → (programT T (exprT T 9 1 (nxT T 9 8)) startQ).2 = (kindT T 5 x).2 := fun x e1 e2 => by
    unfold programT
    rw [hr, if_neg (show ¬ (true = false) by decide), if_neg (by rw [e1]; decide)]
    show (kindT T 5 (defsT T (exprT T 9 1 (nxT T 9 8)) r).2.2).2 = _
    rw [e2]
  by_cases h2 : 63 < b
  · rw [if_pos h2]
    have hf64 := lim_fun64 (a := a) (c := c) (d := d) h2
    rw [hT] at hf64
    obtain ⟨r1, r2, r3⟩ := defs_over (D := 9) (n := 1) (nt := nxT T 9 8) (by omega) hru hD h2 (by omega) hf64
    have hpp : (programT T (exprT T 9 1 (nxT T 9 8)) startQ) = (defsT T (exprT T 9 1 (nxT T 9 8)) r).2 := by
      unfold programT
      rw [hr, if_neg (show ¬ (true = false) by decide), if_pos r1]
    rw [hpp]
    exact ⟨r2, r3⟩
  rw [if_neg h2]
  have hbad : ∀ x : St, (defT T (exprT T 9 1 (nxT T 9 8)) (up (a * 3 + b * 9) startQ)).2 = x → x.e = 15 → (programT T (exprT T 9 1 (nxT T 9 8)) startQ).2.e = 15 ∧ (programT T (exprT T 9 1 (nxT T 9 8)) startQ).2.pos = x.pos := fun x e1 e2 => by
    obtain ⟨r1, r2⟩ := defs_all (D := 9) (n := 1) (nt := nxT T 9 8) (by omega) hru hD (by omega) (by omega) hf e1 (by unfold isDef; rw [is_bad (by rw [e2]; decide), is_bad (by rw [e2]; decide)]; rfl)
    rw [hp x r1 r2]
    obtain ⟨s1, s2, -⟩ := (kind_good T 5 x).stay (by rw [e2]; decide)
    exact ⟨s1.trans e2, s2⟩
  have hdi : DefAt T (up (a * 3 + b * 9) startQ).i c d (a * 9 + b * 14 + 6) (a * 9 + b * 14 + 6 + parsN c + 8) := by
    rw [up_i, show startQ.i = 0 from rfl, Nat.zero_add]; exact hd
  by_cases h3 : 8 < c
  · rw [if_pos h3]
    obtain ⟨r1, r2⟩ := def_overP hg (s := up (a * 3 + b * 9) startQ) rfl hdi h3
    obtain ⟨q1, q2⟩ := hbad _ rfl r1
    exact ⟨q1, q2.trans (r2.trans (by omega))⟩
  rw [if_neg h3]
  by_cases h4 : 8 < d
  · rw [if_pos h4]
    obtain ⟨r1, r2⟩ := def_overA (D := 9) (n := 2) (n0 := 1) (nt := nxT T 9 8) (nt' := nxT T 9 7) (by omega) hx' hg' (by omega) (s := up (a * 3 + b * 9) startQ) rfl rfl hdi (by omega) h4
    obtain ⟨q1, q2⟩ := hbad _ rfl r1
    exact ⟨q1, q2.trans (r2.trans (by omega))⟩
  rw [if_neg h4]
  have hok := def_ok (D := 9) (n := 2) (n0 := 1) (nt := nxT T 9 8) (nt' := nxT T 9 7) (by omega) hx' (by omega) (s := up (a * 3 + b * 9) startQ) rfl rfl hdi (by omega) (by omega)
  rw [up_up] at hok
  have hi : (up (a * 3 + b * 9 + (3 + parsK c + (5 + (3 + argsN d)))) startQ).i = a * 3 + b * 9 + (3 + parsK c + (5 + (3 + argsN d))) := by rw [up_i]; exact Nat.zero_add _
  obtain ⟨r1, r2⟩ := defs_all (D := 9) (n := 1) (nt := nxT T 9 8) (by omega) hru hD (by omega) (by omega) hf hok (by
    unfold isDef
    rw [is_word (t := t) (by rw [hi]; exact t0) rfl (by omega) (by omega), is_word (t := t) (by rw [hi]; exact t0) rfl (by omega) (by omega)]; rfl)
  show (programT T (exprT T 9 1 (nxT T 9 8)) startQ).2.e = 0
  rw [hp _ r1 r2]
  have ht5 : tokQ T (up (a * 3 + b * 9 + (3 + parsK c + (5 + (3 + argsN d)))) startQ) = t := tok_st (by rw [hi]; exact t0)
  unfold kindT
  rw [if_pos ⟨rfl, by rw [ht5]; exact t1⟩]
  show (leafQ T _).2.e = 0
  unfold leafQ
  rw [ht5, if_pos t1]
  rfl
end Go.Proofs.YthclkbaankjbiaaGreatDoor
namespace Go.Proofs.YthclkbaankjbiaaGreatDoor
open Go.RowKit

def limW (a b c d : Nat) : Nat × Nat := match limF a b c d with
  | none => (0, 0)
  | some p => (15, p)
theorem lim_ans {a b c d : Nat} (h : (limB a b c d).length ≤ 65536) : (ansQ (limB a b c d) 9 false).2 = limW a b c d := by
  have hx : (allE (limB a b c d)).2.1 = 0 := by rw [lim_lex]
  rw [ans_good (by omega) h hx, lim_lex]
  have ht := lim_tree a b c d
  unfold limW
  show (if (treeT (limTk a b c d) 9 false).2.e = 0 then (0, 0) else ((treeT (limTk a b c d) 9 false).2.e, (treeT (limTk a b c d) 9 false).2.pos)) = _
  cases hf : limF a b c d with
  | none => rw [hf] at ht; rw [if_pos ht]
  | some p => rw [hf] at ht; rw [if_neg (by rw [ht.1]; decide), ht.1, ht.2]

def ntW (o : Bool) (n : Nat) (w : Nat × Nat) : Nat × Nat := if o = true ∧ w.1 = 0 then (15, n) else w
theorem ntW_ne {k m : Nat} (h : k ≠ m) (n : Nat) (w : Nat × Nat) : ntW (k == m) n w = w := by
  unfold ntW; rw [if_neg]; rintro ⟨e, -⟩; exact h (by simpa using e)
theorem ntW_bad {o : Bool} {n : Nat} {w : Nat × Nat} (h : w.1 ≠ 0) : ntW o n w = w := by
  unfold ntW; rw [if_neg]; rintro ⟨-, e⟩; exact h e
theorem ntW_zero (n p : Nat) : ntW true n (0, p) = (15, n) := rfl
def W1 (k : Nat) : Nat × Nat := if 16 < k then (15, 144) else (0, 0)
theorem W1_step (k : Nat) : W1 (k + 1) = ntW (k == 16) (k * 9) (W1 k) := by
  by_cases h : k = 16
  · subst h; rfl
  · rw [ntW_ne h]
    unfold W1
    by_cases h2 : 16 < k
    · rw [if_pos (by omega), if_pos h2]
    · rw [if_neg (by omega), if_neg h2]
def W2 (a k : Nat) : Nat × Nat := if 16 < a then (15, 144) else if 64 < k then (15, a * 9 + 896) else (0, 0)
theorem W2_start (a : Nat) : W2 a 0 = W1 a := by unfold W2 W1; simp
theorem W2_over {a k : Nat} (h : 16 < a) : W2 a k = (15, 144) := by unfold W2; rw [if_pos h]
theorem W2_step (a k : Nat) : W2 a (k + 1) = ntW (k == 64) (a * 9 + k * 14) (W2 a k) := by
  by_cases ha : 16 < a
  · rw [W2_over ha, W2_over ha, ntW_bad (show (15 : Nat) ≠ 0 by decide)]
  by_cases h : k = 64
  · subst h
    have : W2 a 64 = (0, 0) := by unfold W2; rw [if_neg ha, if_neg (by omega)]
    rw [this]
    show W2 a 65 = (15, a * 9 + 896)
    unfold W2; rw [if_neg ha, if_pos (by omega)]
  · rw [ntW_ne h]
    unfold W2
    rw [if_neg ha, if_neg ha]
    by_cases h2 : 64 < k
    · rw [if_pos (by omega), if_pos h2]
    · rw [if_neg (by omega), if_neg h2]
def W3 (a b k : Nat) : Nat × Nat := if 16 < a then (15, 144) else if 63 < b then (15, a * 9 + 896) else if 8 < k then (15, a * 9 + b * 14 + 54) else (0, 0)
theorem W3_start (a b : Nat) : W3 a b 0 = ntW (decide (64 ≤ b)) (a * 9 + b * 14) (W2 a b) := by
  by_cases ha : 16 < a
  · rw [W2_over ha, ntW_bad (by decide)]; unfold W3; rw [if_pos ha]
  by_cases h : 64 < b
  · have : W2 a b = (15, a * 9 + 896) := by unfold W2; rw [if_neg ha, if_pos h]
    rw [this, ntW_bad (show (15 : Nat) ≠ 0 by decide)]; unfold W3; rw [if_neg ha, if_pos (by omega)]
  · have : W2 a b = (0, 0) := by unfold W2; rw [if_neg ha, if_neg h]
    rw [this]
    by_cases h2 : b = 64
    · subst h2
      show W3 a 64 0 = (15, a * 9 + 896)
      unfold W3; rw [if_neg ha, if_pos (by omega)]
    · rw [decide_eq_false (show ¬ 64 ≤ b by omega)]
      show W3 a b 0 = (0, 0)
      unfold W3; rw [if_neg ha, if_neg (by omega), if_neg (by omega)]
theorem W3_step (a b k n : Nat) (hn : k = 8 → n = a * 9 + b * 14 + 54) : W3 a b (k + 1) = ntW (k == 8) n (W3 a b k) := by
  by_cases ha : 16 < a
  · have e : ∀ k, W3 a b k = (15, 144) := fun k => by unfold W3; rw [if_pos ha]
    rw [e, e, ntW_bad (by decide)]
  by_cases hb : 63 < b
  · have e : ∀ k, W3 a b k = (15, a * 9 + 896) := fun k => by unfold W3; rw [if_neg ha, if_pos hb]
    rw [e, e, ntW_bad (by show (15 : Nat) ≠ 0; decide)]
  have e : ∀ k, W3 a b k = if 8 < k then (15, a * 9 + b * 14 + 54) else (0, 0) := fun k => by unfold W3; rw [if_neg ha, if_neg hb]
  rw [e, e]
  by_cases h : k = 8
  · have := hn h
    subst h; subst this; rfl
  · rw [ntW_ne h]
    by_cases h2 : 8 < k
    · rw [if_pos (by omega), if_pos h2]
    · rw [if_neg (by omega), if_neg h2]
def W4 (a b c k : Nat) : Nat × Nat := if 16 < a then (15, 144) else if 63 < b then (15, a * 9 + 896) else if 8 < c then (15, a * 9 + b * 14 + 54) else if 8 < k then (15, a * 9 + b * 14 + 6 + parsN c + 24) else (0, 0)
theorem W4_start (a b c : Nat) : W4 a b c 0 = W3 a b c := by unfold W4 W3; simp
theorem W4_step (a b c k n : Nat) (hn : k = 8 → n = a * 9 + b * 14 + 6 + parsN c + 24) : W4 a b c (k + 1) = ntW (k == 8) n (W4 a b c k) := by
  by_cases ha : 16 < a
  · have e : ∀ k, W4 a b c k = (15, 144) := fun k => by unfold W4; rw [if_pos ha]
    rw [e, e, ntW_bad (by decide)]
  by_cases hb : 63 < b
  · have e : ∀ k, W4 a b c k = (15, a * 9 + 896) := fun k => by unfold W4; rw [if_neg ha, if_pos hb]
    rw [e, e, ntW_bad (by show (15 : Nat) ≠ 0; decide)]
  by_cases hc : 8 < c
  · have e : ∀ k, W4 a b c k = (15, a * 9 + b * 14 + 54) := fun k => by unfold W4; rw [if_neg ha, if_neg hb, if_pos hc]
    rw [e, e, ntW_bad (by show (15 : Nat) ≠ 0; decide)]
  have e : ∀ k, W4 a b c k = if 8 < k then (15, a * 9 + b * 14 + 6 + parsN c + 24) else (0, 0) := fun k => by unfold W4; rw [if_neg ha, if_neg hb, if_neg hc]
  rw [e, e]
  by_cases h : k = 8
  · have := hn h
    subst h; subst this; rfl
  · rw [ntW_ne h]
    by_cases h2 : 8 < k
    · rw [if_pos (by omega), if_pos h2]
    · rw [if_neg (by omega), if_neg h2]
theorem W4_end (a b c d : Nat) : W4 a b c d = limW a b c d := by
  unfold W4 limW limF
  by_cases ha : 16 < a
  · rw [if_pos ha, if_pos ha]
  rw [if_neg ha, if_neg ha]
  by_cases hb : 63 < b
  · rw [if_pos hb, if_pos hb]
  rw [if_neg hb, if_neg hb]
  by_cases hc : 8 < c
  · rw [if_pos hc, if_pos hc]
  rw [if_neg hc, if_neg hc]
  by_cases hd : 8 < d
  · rw [if_pos hd, if_pos hd]
  · rw [if_neg hd, if_neg hd]

/-- The law's two boxes: the text so far, and what is wanted. -/
structure Box (w : World) (q : Nat) (l : List UInt8) (x : Nat × Nat) : Prop where
  text : ∃ s : ByteArray, w.heap[q]? = some (.cells #[.string s] 9 (0, 0)) ∧ s.data.toList = l
  want : w.heap[q + 1]? = some (.cells #[.int .i64 (x.1 : Int), .int .i64 (x.2 : Int)] 29 (0, 0))
theorem boxC1 {w : World} {r : Nat} {u : Value} {T : TypeId} (h : w.heap[r]? = some (.cells #[u] T (0, 0))) : w.cell? ⟨r, 0, none⟩ = some u ∧ ∀ o, w.frozen? ⟨r, o, none⟩ = false :=
  ⟨by rw [cell_of_row w r 0 _ T (0, 0) h]; rfl, fun o => by simp [World.frozen?, h]⟩
theorem set_other {W : World} {r i q : Nat} {u : Value} (h : r ≠ q) : (W.setCell ⟨r, i, none⟩ u).heap[q]? = W.heap[q]? := by
  simp only [World.setCell, Array.getElem?_modify, if_neg h]
theorem Box.put {w : World} {q : Nat} {l : List UInt8} {x : Nat × Nat} (h : Box w q l x) (s : ByteArray) : Box (w.setCell ⟨q, 0, none⟩ (.string s)) q s.data.toList x := by
  obtain ⟨⟨y, h1, -⟩, h2⟩ := h
  exact ⟨⟨s, set_cells h1, rfl⟩, by rw [set_other (by omega)]; exact h2⟩
theorem Box.ask {w : World} {q : Nat} {l : List UInt8} {x : Nat × Nat} (h : Box w q l x) (e p : Nat) : Box ((w.setCell ⟨q + 1, 0, none⟩ (.int .i64 (e : Int))).setCell ⟨q + 1, 1, none⟩ (.int .i64 (p : Int))) q l (e, p) := by
  obtain ⟨⟨y, h1, hl⟩, h2⟩ := h
  exact ⟨⟨y, by rw [set_other (by omega), set_other (by omega)]; exact h1, hl⟩, set_cells (set_cells h2)⟩
theorem Box.kept {w w' : World} {q : Nat} {l : List UInt8} {x : Nat × Nat} (h : Box w q l x) (hg : w.grownBy w' none) : Box w' q l x := by
  obtain ⟨⟨y, h1, hl⟩, h2⟩ := h
  exact ⟨⟨y, bx hg h1, hl⟩, bx hg h2⟩

def NotePost (q : Nat) (l : List UInt8) (x : Nat × Nat) (w : World) (e : Ending) (w' : World) : Prop := e = .returned (.tuple #[]) ∧ Box w' q l x ∧ w.grownBy w' (some (q + 1))
set_option maxRecDepth 100000 in
set_option maxHeartbeats 4000000 in
theorem note_c (o : Bool) {q : Nat} {l : List UInt8} {x : Nat × Nat} {w : World} (h : Box w q l x) : Calls Tryz.prog 17 #[.bool o, .pointer (some ⟨q + 1, 0, none⟩), .pointer (some ⟨q, 0, none⟩)] w (NotePost q l (ntW o l.length x) w) := by
  obtain ⟨E, P⟩ := x
  have HB := Lib.hid h
  obtain ⟨⟨s, c0, hl⟩, c1⟩ := h
  have hsz : s.size = l.length := by rw [← hl, list_len]
  obtain ⟨m, hm⟩ : ∃ m, s.size = m := ⟨_, rfl⟩
  rw [← hsz, hm]
  obtain ⟨x0, z0⟩ := boxC1 c0
  obtain ⟨x1, x2, y0⟩ := cells2 c1
  have z1 := y0 0
  have z2 := y0 1
  clear hsz hl c0 c1 y0 z0
  cases o
  · go_enter Tryz.func17, Tryz.ntmps17
    go_wp2_with fail
    go_end0
    exact ⟨rfl, HB.out, gb_refl _ _⟩
  · by_cases he : E = 0
    · subst he
      go_enter Tryz.func17, Tryz.ntmps17
      go_wp2_with fail
      go_end0
      refine ⟨rfl, ?_, gb_set (gb_set (gb_refl _ _) _) _⟩
      rw [ntW_zero]
      exact HB.out.ask 15 m
    · have e1 : ((E : Int) == 0) = false := beq_eq_false_iff_ne.2 (by omega)
      have e2 : (E == 0) = false := beq_eq_false_iff_ne.2 he
      have hno : ntW true m (E, P) = (E, P) := ntW_bad he
      rw [hno]
      clear he hno
      go_enter Tryz.func17, Tryz.ntmps17
      go_wp2_with fail
      go_end0
      exact ⟨rfl, HB.out, gb_refl _ _⟩
end Go.Proofs.YthclkbaankjbiaaGreatDoor
namespace Go.Proofs.YthclkbaankjbiaaGreatDoor
open Go.RowKit

theorem int_beq (k m : Nat) : ((k : Int) == (m : Int)) = (k == m) := by
  by_cases h : k = m
  · subst h; simp
  · rw [beq_eq_false_iff_ne.2 h, beq_eq_false_iff_ne.2 (by omega)]

theorem gq {w a b : World} {g : Nat} (h : w.grownBy a none) (k : a.grownBy b (some g)) (hg : w.heap.size ≤ g) : w.grownBy b none := h.andThen k (fun j e => .inl (by cases e; exact hg))
theorem ap_list (s t : ByteArray) : (s ++ t).data.toList = s.data.toList ++ t.data.toList := by
  rw [ByteArray.data_append, Array.toList_append]
theorem box_step {W : World} {q : Nat} {l l' : List UInt8} {x : Nat × Nat} {s t : ByteArray} (h : Box W q l x) (hs : s.data.toList = l) (ht : l ++ t.data.toList = l') : Box (W.setCell ⟨q, 0, none⟩ (.string (s ++ t))) q l' x := by
  have := h.put (s ++ t)
  rw [ap_list, hs, ht] at this
  exact this
theorem W4_e (a b c d : Nat) : (W4 a b c d).1 = 0 ∨ (W4 a b c d).1 = 15 := by
  unfold W4
  repeat' split
  all_goals first | exact .inl rfl | exact .inr rfl
theorem box_cell {W : World} {q : Nat} {l : List UInt8} {x : Nat × Nat} (h : Box W q l x) : ∃ s : ByteArray, W.cell? ⟨q, 0, none⟩ = some (.string s) ∧ W.frozen? ⟨q, 0, none⟩ = false ∧ s.data.toList = l := by
  obtain ⟨s, h1, h2⟩ := h.text
  obtain ⟨a, b⟩ := boxC1 h1
  exact ⟨s, a, b 0, h2⟩

set_option maxRecDepth 100000 in
set_option maxHeartbeats 8000000 in
theorem limits_yes (a b c d : Nat) (w : World) (ha : a ≤ 20) (hb : b ≤ 70) (hc : c ≤ 12) (hd : d ≤ 12) (hla : LaidE w) : Calls Tryz.prog 7 #[.int .i64 a, .int .i64 b, .int .i64 c, .int .i64 d] w (ValPost (.bool true) w) := by
  have HAN := Lib.hid (anchor7_c w hla)
  have HLA := Lib.hid hla
  have HA := Lib.hid ha; have HB := Lib.hid hb; have HC := Lib.hid hc; have HD := Lib.hid hd
  have a1 : decide ((a : Int) < 0) = false := decide_eq_false (by omega)
  have a2 : decide ((20 : Int) < (a : Int)) = false := decide_eq_false (by omega)
  have b1 : decide ((b : Int) < 0) = false := decide_eq_false (by omega)
  have b2 : decide ((70 : Int) < (b : Int)) = false := decide_eq_false (by omega)
  have c1 : decide ((c : Int) < 0) = false := decide_eq_false (by omega)
  have c2 : decide ((12 : Int) < (c : Int)) = false := decide_eq_false (by omega)
  have d1 : decide ((d : Int) < 0) = false := decide_eq_false (by omega)
  have d2 : decide ((12 : Int) < (d : Int)) = false := decide_eq_false (by omega)
  clear ha hb hc hd hla
  go_enter Tryz.func7, Tryz.ntmps7
  go_wp2_with fail
  refine HAN.out.mono ?_
  rintro e w0 ⟨rfl, hg0⟩
  have HG0 := Lib.hid hg0
  obtain ⟨q, hq⟩ : ∃ q, w0.heap.size = q := ⟨_, rfl⟩
  have HQ : Hid (w.heap.size ≤ q) := Lib.hid (by rw [← hq]; exact hg0.size)
  clear hg0 HAN
  go_wp2_with fail
  have HBX0 : Hid (Box ((w0.alloc (.cells #[.string ⟨#[]⟩] 9)).alloc (.cells #[.int .i64 0, .int .i64 0] 29)) q (impsB 0) (W1 0)) := Lib.hid (by
    refine ⟨⟨⟨#[]⟩, ?_, rfl⟩, ?_⟩
    · rw [← hq]; exact bx (World.grownBy_alloc _ _ none) (heap_alloc_new w0 _)
    · have h9 := heap_alloc_new (w0.alloc (.cells #[.string ⟨#[]⟩] 9)) (.cells #[.int .i64 0, .int .i64 0] 29)
      rw [show (w0.alloc (.cells #[.string ⟨#[]⟩] 9)).heap.size = q + 1 by simp [hq]] at h9
      exact h9)
  clear hq
  go_loopw [53] (fun i wr => ∃ k : Nat, k ≤ a ∧ i = .int .i64 k ∧ Hid (Box wr q (impsB k) (W1 k)) ∧ Hid (w.grownBy wr none)) (fun i _ => a - (intOf i).toNat)
  case atStart => exact ⟨0, Nat.zero_le _, rfl, HBX0, Lib.hid (gb_alloc (gb_alloc HG0.out _) _)⟩
  case round =>
    clear HBX0 HG0
    obtain ⟨k, hk, rfl, HBX, HG⟩ := hrel
    by_cases hlt : k < a
    · have e1 : decide ((k : Int) < (a : Int)) = true := decide_eq_true (by omega)
      have e1' : decide (k < a) = true := decide_eq_true hlt
      have e2 : ((k : Int) == 16) = (k == 16) := int_beq k 16
      go_wp2_with fail
      refine (note_c _ HBX.out).mono ?_
      rintro e w9 ⟨rfl, hbx, hg9⟩
      rw [impsB_len, ← W1_step] at hbx
      obtain ⟨s, x0, x1, hs⟩ := box_cell hbx
      have z9 : ¬ 9223372036854775807 < s.size + 9 := by
        have h8 : s.size = k * 9 := by rw [← impsB_len, ← hs, list_len]
        have := HA.out; omega
      have HB9 := Lib.hid hbx; have HS := Lib.hid hs
      have HG9 := Lib.hid (gq HG.out hg9 (by have := HQ.out; omega))
      clear hbx hs hg9
      have hA := HA.out
      go_wp2_with fail
      go_roundw
      case rel => exact ⟨k + 1, by omega, by go_num, Lib.hid (box_step HB9.out HS.out (impsB_snoc k).symm), Lib.hid (gq HG9.out (gb_set (gb_refl _ _) _) HQ.out)⟩
      case measure => (simp [intOf] <;> omega)
    · obtain rfl : k = a := by omega
      have e1 : decide ((k : Int) < (k : Int)) = false := decide_eq_false (by omega)
      go_wp2_with fail
      have HBX : Hid (Box wr q (impsB k ++ defsB 0) (W2 k 0)) := Lib.hid (by rw [W2_start, show defsB 0 = [] from rfl, List.append_nil]; exact HBX.out)
      go_loopw [64] (fun i wr => ∃ j : Nat, j ≤ b ∧ i = .int .i64 j ∧ Hid (Box wr q (impsB k ++ defsB j) (W2 k j)) ∧ Hid (w.grownBy wr none)) (fun i _ => b - (intOf i).toNat)
      case atStart => exact ⟨0, Nat.zero_le _, rfl, HBX, HG⟩
      case round =>
        clear HBX HG e1
        obtain ⟨j, hj, rfl, HBX, HG⟩ := hrel
        by_cases hlt2 : j < b
        · have e1 : decide ((j : Int) < (b : Int)) = true := decide_eq_true (by omega)
          have e1' : decide (j < b) = true := decide_eq_true hlt2
          have e2 : ((j : Int) == 64) = (j == 64) := int_beq j 64
          go_wp2_with fail
          refine (note_c _ HBX.out).mono ?_
          rintro e w9 ⟨rfl, hbx, hg9⟩
          rw [List.length_append, impsB_len, defsB_len, ← W2_step] at hbx
          obtain ⟨s, x0, x1, hs⟩ := box_cell hbx
          have z9 : ¬ 9223372036854775807 < s.size + 14 := by
            have h8 : s.size = k * 9 + j * 14 := by rw [← impsB_len, ← defsB_len, ← List.length_append, ← hs, list_len]
            have := HA.out; have := HB.out; omega
          have HB9 := Lib.hid hbx; have HS := Lib.hid hs
          have HG9 := Lib.hid (gq HG.out hg9 (by have := HQ.out; omega))
          clear hbx hs hg9
          have hB := HB.out
          go_wp2_with fail
          go_roundw
          case rel => exact ⟨j + 1, by omega, by go_num, Lib.hid (box_step HB9.out HS.out (by rw [List.append_assoc, defsB_snoc]; rfl)), Lib.hid (gq HG9.out (gb_set (gb_refl _ _) _) HQ.out)⟩
          case measure => (simp [intOf] <;> omega)
        · obtain rfl : j = b := by omega
          have e1 : decide ((j : Int) < (j : Int)) = false := decide_eq_false (by omega)
          go_wp2_with fail
          have e3 : decide ((64 : Int) ≤ (j : Int)) = decide (64 ≤ j) := decide_eq_decide.2 (by omega)
          refine (note_c _ HBX.out).mono ?_
          rintro e w9 ⟨rfl, hbx, hg9⟩
          rw [e3, List.length_append, impsB_len, defsB_len, ← W3_start] at hbx
          obtain ⟨s, x0, x1, hs⟩ := box_cell hbx
          have hsz : s.size = k * 9 + j * 14 := by rw [← impsB_len, ← defsB_len, ← List.length_append, ← hs, list_len]
          have z9 : ¬ 9223372036854775807 < s.size + 6 := by
            have := HA.out; have := HB.out; omega
          have HG9 := Lib.hid (gq HG.out hg9 (by have := HQ.out; omega))
          obtain ⟨L, hL⟩ : ∃ L, (impsB k ++ defsB j) ++ funB = L := ⟨_, rfl⟩
          have HL := Lib.hid hL
          have HLN : Hid (L.length = k * 9 + j * 14 + 6) := Lib.hid (by rw [← hL, List.length_append, List.length_append, impsB_len, defsB_len]; rfl)
          have HBX : Hid (Box (w9.setCell ⟨q, 0, none⟩ (.string (s ++ ⟨#[102, 117, 110, 32, 103, 40]⟩))) q (L ++ parsB 0) (W3 k j 0)) := Lib.hid (by
            rw [show parsB 0 = [] from rfl, List.append_nil]; exact box_step hbx hs hL)
          have HG := Lib.hid (gq HG9.out (gb_set (j := 0) (gb_refl w9 (some q)) (.string (s ++ ⟨#[102, 117, 110, 32, 103, 40]⟩))) HQ.out)
          clear hbx hs hg9 hL hsz e1 e3
          go_wp2_with fail
          clear z9 x0 x1
          generalize (w9.setCell ⟨q, 0, none⟩ (.string (s ++ ⟨#[102, 117, 110, 32, 103, 40]⟩))) = W3w at *
          go_loopw [81] (fun i wr => ∃ m : Nat, m ≤ c ∧ i = .int .i64 m ∧ Hid (Box wr q (L ++ parsB m) (W3 k j m)) ∧ Hid (w.grownBy wr none)) (fun i _ => c - (intOf i).toNat)
          case atStart => exact ⟨0, Nat.zero_le _, rfl, HBX, HG⟩
          case round =>
            clear HBX HG
            obtain ⟨m, hm, rfl, HBX, HG⟩ := hrel
            by_cases hlt3 : m < c
            · have e1 : decide ((m : Int) < (c : Int)) = true := decide_eq_true (by omega)
              have e1' : decide (m < c) = true := decide_eq_true hlt3
              have e2 : ((m : Int) == 8) = (m == 8) := int_beq m 8
              by_cases h0 : m = 0
              · subst h0
                go_wp2_with fail
                refine (note_c false HBX.out).mono ?_
                rintro e w9 ⟨rfl, hbx, hg9⟩
                have hbx : Box w9 q (L ++ parsB 0) (W3 k j (0 + 1)) := by
                  rw [W3_step k j 0 (L ++ parsB 0).length (by omega)]; exact hbx
                obtain ⟨s, x0, x1, hs⟩ := box_cell hbx
                have z9 : ¬ 9223372036854775807 < s.size + 5 := by
                  have h8 : s.size = (k * 9 + j * 14 + 6) + 0 := by rw [← HLN.out, ← list_len, hs, List.length_append]; rfl
                  have := HA.out; have := HB.out; omega
                have HB9 := Lib.hid hbx; have HS := Lib.hid hs
                have HG9 := Lib.hid (gq HG.out hg9 (by have := HQ.out; omega))
                clear hbx hs hg9
                have hC := HC.out
                go_wp2_with fail
                go_roundw
                case rel => exact ⟨1, by omega, by go_num, Lib.hid (box_step HB9.out HS.out (by rw [List.append_assoc]; rfl)), Lib.hid (gq HG9.out (gb_set (gb_refl _ _) _) HQ.out)⟩
                case measure => (simp [intOf] <;> omega)
              · have e4 : decide ((0 : Int) < (m : Int)) = true := decide_eq_true (by omega)
                have e4' : decide (0 < m) = true := decide_eq_true (by omega)
                obtain ⟨s0, y0, y1, hs0⟩ := box_cell HBX.out
                have hs0z : s0.size = (k * 9 + j * 14 + 6) + parsN m := by rw [← HLN.out, ← parsB_len, ← List.length_append, ← hs0, list_len]
                have z8 : ¬ 9223372036854775807 < s0.size + 1 := by
                  have := HA.out; have := HB.out; have := HC.out; unfold parsN at hs0z; omega
                have HBY : Hid (Box (wr.setCell ⟨q, 0, none⟩ (.string (s0 ++ ⟨#[44]⟩))) q (L ++ parsB m ++ [44]) (W3 k j m)) := Lib.hid (box_step HBX.out hs0 rfl)
                have HGY := Lib.hid (gq HG.out (gb_set (j := 0) (gb_refl wr (some q)) (.string (s0 ++ ⟨#[44]⟩))) HQ.out)
                clear hs0 hs0z
                go_wp2_with fail
                refine (note_c _ HBY.out).mono ?_
                rintro e w9 ⟨rfl, hbx, hg9⟩
                have hln : (L ++ parsB m ++ [44]).length = k * 9 + j * 14 + 6 + parsN m + 1 := by rw [List.length_append, List.length_append, HLN.out, parsB_len]; rfl
                rw [← W3_step k j m _ (by intro e8; subst e8; rw [hln]; show k * 9 + j * 14 + 6 + 47 + 1 = _; omega)] at hbx
                obtain ⟨s, x0, x1, hs⟩ := box_cell hbx
                have z9 : ¬ 9223372036854775807 < s.size + 5 := by
                  have h8 : s.size = k * 9 + j * 14 + 6 + parsN m + 1 := by rw [← hln, ← hs, list_len]
                  have := HA.out; have := HB.out; have := HC.out; unfold parsN at h8; omega
                have HB9 := Lib.hid hbx; have HS := Lib.hid hs
                have HG9 := Lib.hid (gq HGY.out hg9 (by have := HQ.out; omega))
                clear hbx hs hg9 hln y0 y1 z8
                have hC := HC.out
                go_wp2_with fail
                go_roundw
                case rel => exact ⟨m + 1, by omega, by go_num, Lib.hid (box_step HB9.out HS.out (by
                  obtain ⟨m, rfl⟩ : ∃ m', m = m' + 1 := ⟨m - 1, by omega⟩
                  rw [parsB_snoc]; simp only [List.append_assoc]; rfl)), Lib.hid (gq HG9.out (gb_set (gb_refl _ _) _) HQ.out)⟩
                case measure => (simp [intOf] <;> omega)
            · obtain rfl : m = c := by omega
              have e1 : decide ((m : Int) < (m : Int)) = false := decide_eq_false (by omega)
              obtain ⟨s, x0, x1, hs⟩ := box_cell HBX.out
              have hsz : s.size = (k * 9 + j * 14 + 6) + parsN m := by rw [← HLN.out, ← parsB_len, ← List.length_append, ← hs, list_len]
              have z9 : ¬ 9223372036854775807 < s.size + 8 := by
                have := HA.out; have := HB.out; have := HC.out; unfold parsN at hsz; omega
              obtain ⟨M, hM⟩ : ∃ M, (L ++ parsB m) ++ midB = M := ⟨_, rfl⟩
              have HM := Lib.hid hM
              have HMN : Hid (M.length = k * 9 + j * 14 + 6 + parsN m + 8) := Lib.hid (by rw [← hM, List.length_append, List.length_append, HLN.out, parsB_len]; rfl)
              have HBZ : Hid (Box (wr.setCell ⟨q, 0, none⟩ (.string (s ++ ⟨#[41, 58, 105, 110, 116, 61, 104, 40]⟩))) q (M ++ argsB 0) (W4 k j m 0)) := Lib.hid (by
                rw [show argsB 0 = [] from rfl, List.append_nil, W4_start]; exact box_step HBX.out hs hM)
              have HGZ := Lib.hid (gq HG.out (gb_set (j := 0) (gb_refl wr (some q)) (.string (s ++ ⟨#[41, 58, 105, 110, 116, 61, 104, 40]⟩))) HQ.out)
              clear hs hM hsz
              go_wp2_with fail
              clear z9 x0 x1 e1
              generalize (wr.setCell ⟨q, 0, none⟩ (.string (s ++ ⟨#[41, 58, 105, 110, 116, 61, 104, 40]⟩))) = W4w at *
              go_loopw [98] (fun i wr => ∃ n : Nat, n ≤ d ∧ i = .int .i64 n ∧ Hid (Box wr q (M ++ argsB n) (W4 k j m n)) ∧ Hid (w.grownBy wr none)) (fun i _ => d - (intOf i).toNat)
              case atStart => exact ⟨0, Nat.zero_le _, rfl, HBZ, HGZ⟩
              case round =>
                clear HBZ HGZ HBX HG
                obtain ⟨n, hn, rfl, HBX, HG⟩ := hrel
                by_cases hlt4 : n < d
                · have e1 : decide ((n : Int) < (d : Int)) = true := decide_eq_true (by omega)
                  have e1' : decide (n < d) = true := decide_eq_true hlt4
                  have e2 : ((n : Int) == 8) = (n == 8) := int_beq n 8
                  by_cases h0 : n = 0
                  · subst h0
                    go_wp2_with fail
                    refine (note_c false HBX.out).mono ?_
                    rintro e w9 ⟨rfl, hbx, hg9⟩
                    have hbx : Box w9 q (M ++ argsB 0) (W4 k j m (0 + 1)) := by
                      rw [W4_step k j m 0 (M ++ argsB 0).length (by omega)]; exact hbx
                    obtain ⟨s, x0, x1, hs⟩ := box_cell hbx
                    have z9 : ¬ 9223372036854775807 < s.size + 1 := by
                      have h8 : s.size = (k * 9 + j * 14 + 6 + parsN m + 8) + 0 := by rw [← HMN.out, ← list_len, hs, List.length_append]; rfl
                      have := HA.out; have := HB.out; have := HC.out; unfold parsN at h8; omega
                    have HB9 := Lib.hid hbx; have HS := Lib.hid hs
                    have HG9 := Lib.hid (gq HG.out hg9 (by have := HQ.out; omega))
                    clear hbx hs hg9
                    have hD := HD.out
                    go_wp2_with fail
                    go_roundw
                    case rel => exact ⟨1, by omega, by go_num, Lib.hid (box_step HB9.out HS.out (by rw [List.append_assoc]; rfl)), Lib.hid (gq HG9.out (gb_set (gb_refl _ _) _) HQ.out)⟩
                    case measure => (simp [intOf] <;> omega)
                  · have e4 : decide ((0 : Int) < (n : Int)) = true := decide_eq_true (by omega)
                    have e4' : decide (0 < n) = true := decide_eq_true (by omega)
                    obtain ⟨s0, y0, y1, hs0⟩ := box_cell HBX.out
                    have hs0z : s0.size = (k * 9 + j * 14 + 6 + parsN m + 8) + argsN n := by rw [← HMN.out, ← argsB_len, ← List.length_append, ← hs0, list_len]
                    have z8 : ¬ 9223372036854775807 < s0.size + 1 := by
                      have := HA.out; have := HB.out; have := HC.out; have := HD.out; unfold parsN argsN at hs0z; omega
                    have HBY : Hid (Box (wr.setCell ⟨q, 0, none⟩ (.string (s0 ++ ⟨#[44]⟩))) q (M ++ argsB n ++ [44]) (W4 k j m n)) := Lib.hid (box_step HBX.out hs0 rfl)
                    have HGY := Lib.hid (gq HG.out (gb_set (j := 0) (gb_refl wr (some q)) (.string (s0 ++ ⟨#[44]⟩))) HQ.out)
                    clear hs0 hs0z
                    go_wp2_with fail
                    refine (note_c _ HBY.out).mono ?_
                    rintro e w9 ⟨rfl, hbx, hg9⟩
                    have hln : (M ++ argsB n ++ [44]).length = k * 9 + j * 14 + 6 + parsN m + 8 + argsN n + 1 := by rw [List.length_append, List.length_append, HMN.out, argsB_len]; rfl
                    rw [← W4_step k j m n _ (by intro e8; subst e8; rw [hln]; show k * 9 + j * 14 + 6 + parsN m + 8 + 15 + 1 = _; omega)] at hbx
                    obtain ⟨s, x0, x1, hs⟩ := box_cell hbx
                    have z9 : ¬ 9223372036854775807 < s.size + 1 := by
                      have h8 : s.size = k * 9 + j * 14 + 6 + parsN m + 8 + argsN n + 1 := by rw [← hln, ← hs, list_len]
                      have := HA.out; have := HB.out; have := HC.out; have := HD.out; unfold parsN argsN at h8; omega
                    have HB9 := Lib.hid hbx; have HS := Lib.hid hs
                    have HG9 := Lib.hid (gq HGY.out hg9 (by have := HQ.out; omega))
                    clear hbx hs hg9 hln y0 y1 z8
                    have hD := HD.out
                    go_wp2_with fail
                    go_roundw
                    case rel => exact ⟨n + 1, by omega, by go_num, Lib.hid (box_step HB9.out HS.out (by
                      obtain ⟨n, rfl⟩ : ∃ n', n = n' + 1 := ⟨n - 1, by omega⟩
                      rw [argsB_snoc]; simp only [List.append_assoc]; rfl)), Lib.hid (gq HG9.out (gb_set (gb_refl _ _) _) HQ.out)⟩
                    case measure => (simp [intOf] <;> omega)
                · obtain rfl : n = d := by omega
                  have e1 : decide ((n : Int) < (n : Int)) = false := decide_eq_false (by omega)
                  obtain ⟨s, x0, x1, hs⟩ := box_cell HBX.out
                  have hsz : s.size = (k * 9 + j * 14 + 6 + parsN m + 8) + argsN n := by rw [← HMN.out, ← argsB_len, ← List.length_append, ← hs, list_len]
                  have z9 : ¬ 9223372036854775807 < s.size + 2 := by
                    have := HA.out; have := HB.out; have := HC.out; have := HD.out; unfold parsN argsN at hsz; omega
                  have hlim : (M ++ argsB n) ++ endB = limB k j m n := by
                    rw [← HM.out, ← HL.out]; unfold limB; simp only [List.append_assoc]
                  obtain ⟨S, hS⟩ : ∃ S, s ++ (⟨#[41, 59]⟩ : ByteArray) = S := ⟨_, rfl⟩
                  have HSL : Hid (S.data.toList = limB k j m n) := Lib.hid (by rw [← hS, ap_list, hs]; exact hlim)
                  have HBZ : Hid (Box (wr.setCell ⟨q, 0, none⟩ (.string (s ++ ⟨#[41, 59]⟩))) q (limB k j m n) (W4 k j m n)) := Lib.hid (box_step HBX.out hs hlim)
                  have HGZ := Lib.hid (gq HG.out (gb_set (j := 0) (gb_refl wr (some q)) (.string (s ++ ⟨#[41, 59]⟩))) HQ.out)
                  have hlen : (limB k j m n).length ≤ 1500 := by
                    rw [limB_len]
                    have := HA.out; have := HB.out; have := HC.out; have := HD.out; unfold parsN argsN; omega
                  have hSs : S.size ≤ 1500 := by rw [← list_len, HSL.out]; exact hlen
                  have HLEN := Lib.hid hlen
                  have HSS := Lib.hid hSs
                  rw [hS] at HBZ HGZ
                  clear hs hsz hlim hlen hSs
                  go_wp2_with fail
                  refine (Parse_p S 9 _ (by have := HSS.out; omega) (HLA.out.kept HGZ.out)).mono ?_
                  clear hS x0 x1 z9 e1
                  rintro e w2 hp
                  rw [HSL.out] at hp
                  obtain ⟨hg2, p, N, ct, p', N', cn, rfl, hv⟩ := rd_any hp
                  have hw := lim_ans (a := k) (b := j) (c := m) (d := n) (by have := HLEN.out; omega)
                  obtain ⟨l, hl⟩ : ∃ l, limB k j m n = l := ⟨_, rfl⟩
                  rw [hl] at hw hv HBZ HSL HLEN hp ⊢
                  obtain ⟨E, hE⟩ : ∃ E, (ansQ l 9 false).2.1 = E := ⟨_, rfl⟩
                  obtain ⟨P, hP⟩ : ∃ P, (ansQ l 9 false).2.2 = P := ⟨_, rfl⟩
                  have hEP : W4 k j m n = (E, P) := by rw [W4_end, ← hw, ← hE, ← hP]
                  have hE15 : E = 0 ∨ E = 15 := by
                    have := W4_e k j m n
                    rw [hEP] at this; exact this
                  have HE15 := Lib.hid hE15
                  rw [hE, hP]
                  rw [hEP] at HBZ
                  have HB2 := Lib.hid (HBZ.out.kept hg2)
                  have HG2 := Lib.hid (gb_trans HGZ.out hg2)
                  have HV := Lib.hid hv
                  have HE := Lib.hid hE
                  clear hp hg2 hv hw hl hE hP hEP hE15 HBZ HGZ
                  obtain ⟨Z, hZ⟩ : ∃ Z, w2.heap.size = Z := ⟨_, rfl⟩
                  have HTX : Hid (((w2.alloc (.cells #[.slice p N ct, .slice p' N' cn] 26)).alloc (.cells #[.int .i64 (E : Int), .int .i64 (P : Int)] 29)).heap[Z]? = some (.cells #[.slice p N ct, .slice p' N' cn] 26 (0, 0))) := Lib.hid (by rw [← hZ]; exact bx (World.grownBy_alloc _ _ none) (heap_alloc_new w2 _))
                  have HZX : Hid (((w2.alloc (.cells #[.slice p N ct, .slice p' N' cn] 26)).alloc (.cells #[.int .i64 (E : Int), .int .i64 (P : Int)] 29)).heap[Z + 1]? = some (.cells #[.int .i64 (E : Int), .int .i64 (P : Int)] 29 (0, 0))) := Lib.hid (by
                    have h9 := heap_alloc_new (w2.alloc (.cells #[.slice p N ct, .slice p' N' cn] 26)) (.cells #[.int .i64 (E : Int), .int .i64 (P : Int)] 29)
                    rw [show (w2.alloc (.cells #[.slice p N ct, .slice p' N' cn] 26)).heap.size = Z + 1 by simp [hZ]] at h9
                    exact h9)
                  have hgb : w2.grownBy ((w2.alloc (.cells #[.slice p N ct, .slice p' N' cn] 26)).alloc (.cells #[.int .i64 (E : Int), .int .i64 (P : Int)] 29)) none := gb_alloc (gb_alloc (gb_refl _ _) _) _
                  have HB3 := Lib.hid (HB2.out.kept hgb)
                  have HG3 := Lib.hid (gb_trans HG2.out hgb)
                  have HV3 := Lib.hid (HV.out.kept hgb)
                  clear hgb
                  go_wp2_with fail
                  try rw [hZ]
                  clear hZ
                  generalize ((w2.alloc (.cells #[.slice p N ct, .slice p' N' cn] 26)).alloc (.cells #[.int .i64 (E : Int), .int .i64 (P : Int)] 29)) = W2 at *
                  obtain ⟨s', t0, ht'⟩ := HB3.out.text
                  obtain rfl : s' = S := ByteArray.ext (Array.toList_inj.1 (ht'.trans HSL.out.symm))
                  have HXT := Lib.hid t0
                  have HXW := Lib.hid HB3.out.want
                  clear t0 ht'
                  by_cases h0 : E = 0
                  · subst h0
                    have HGc := Lib.hid (gb_refl W2 none)
                    rcases HV3.out with ⟨hbad, -⟩ | ⟨-, hN1, hN2, hta, -, hN⟩
                    · exact absurd HE.out hbad
                    have hF := tree_facts (D := 9) (f := false) (by have := HLEN.out; omega) HE.out
                    have h1 := len_all hF.lex
                    have HTA := Lib.hid hta
                    have HSH := Lib.hid (fun W h => Show_c (allE l).1 p p' ct (nodesQ l 9 false).length cn W (by have := HLEN.out; omega) (by rw [whole_all hF.lex]; have := HLEN.out; omega) h)
                    rw [whole_all hF.lex, ← hN1, ← hN2] at HSH
                    clear hta hF h1 hN hN1 hN2
                    go_region_held3 (fun w' => w'.cell? ⟨Z, 0, none⟩ = some (.slice p N ct) ∧ w'.cell? ⟨Z, 1, none⟩ = some (.slice p' N' cn) ∧ w'.cell? ⟨Z + 1, 0, none⟩ = some (.int .i64 0) ∧ w'.cell? ⟨Z + 1, 1, none⟩ = some (.int .i64 (P : Int)) ∧ w'.cell? ⟨q + 1, 0, none⟩ = some (.int .i64 0) ∧ w'.cell? ⟨q + 1, 1, none⟩ = some (.int .i64 (P : Int)) ∧ w'.cell? ⟨q, 0, none⟩ = some (.string s')) (exact ⟨(cells2 (bx (by repeat (first | with_reducible exact HGc.out | with_reducible exact gb_refl _ _ | with_reducible refine gb_drew ?_)) HTX.out)).1, (cells2 (bx (by repeat (first | with_reducible exact HGc.out | with_reducible exact gb_refl _ _ | with_reducible refine gb_drew ?_)) HTX.out)).2.1, (cells2 (bx (by repeat (first | with_reducible exact HGc.out | with_reducible exact gb_refl _ _ | with_reducible refine gb_drew ?_)) HZX.out)).1, (cells2 (bx (by repeat (first | with_reducible exact HGc.out | with_reducible exact gb_refl _ _ | with_reducible refine gb_drew ?_)) HZX.out)).2.1, (cells2 (bx (by repeat (first | with_reducible exact HGc.out | with_reducible exact gb_refl _ _ | with_reducible refine gb_drew ?_)) HXW.out)).1, (cells2 (bx (by repeat (first | with_reducible exact HGc.out | with_reducible exact gb_refl _ _ | with_reducible refine gb_drew ?_)) HXW.out)).2.1, (boxC1 (bx (by repeat (first | with_reducible exact HGc.out | with_reducible exact gb_refl _ _ | with_reducible refine gb_drew ?_)) HXT.out)).1⟩)
                      (first
                        | (go_at_call 13; refine (HSH.out _ (HTA.out.kept (show W2.grownBy _ none from (by repeat (first | with_reducible exact HGc.out | with_reducible exact gb_refl _ _ | with_reducible refine gb_drew ?_))))).mono ?_; rintro e w9 ⟨⟨y, rfl, hy⟩, hg9⟩; have hyx : y = s' := ByteArray.ext (Array.toList_inj.1 (hy.trans HSL.out.symm)); subst hyx; have HGc := Lib.hid (gb_trans (show W2.grownBy _ none from (by repeat (first | with_reducible exact HGc.out | with_reducible exact gb_refl _ _ | with_reducible refine gb_drew ?_))) hg9); clear hg9 hy))
                    all_goals
                      go_wp2_with fail
                      go_ret
                      exact ⟨by first | rfl | simp, gb_trans HG3.out HGc.out⟩
                  · obtain rfl : E = 15 := by rcases HE15.out with e | e; exact absurd e h0; exact e
                    clear h0
                    obtain ⟨f0, f1, -⟩ := cells2 HZX.out
                    obtain ⟨g0, g1, -⟩ := cells2 HXW.out
                    have f0 : W2.cell? ⟨Z + 1, 0, none⟩ = some (.int .i64 15) := f0
                    have g0 : W2.cell? ⟨q + 1, 0, none⟩ = some (.int .i64 15) := g0
                    go_quiet (fail)
                    all_goals
                      go_wp2_with fail
                      go_ret
                      exact ⟨by first | rfl | simp, by repeat (first | with_reducible exact HG3.out | with_reducible refine gb_drewN ?_ _ | with_reducible refine gb_drew ?_)⟩

set_option maxRecDepth 100000 in
set_option maxHeartbeats 8000000 in
theorem limits_out (a b c d : Int) (w : World) (hla : LaidE w) (h : a < 0 ∨ 20 < a ∨ b < 0 ∨ 70 < b ∨ c < 0 ∨ 12 < c ∨ d < 0 ∨ 12 < d) : Calls Tryz.prog 7 #[.int .i64 a, .int .i64 b, .int .i64 c, .int .i64 d] w (ValPost (.bool true) w) := by
  have HAN := Lib.hid (anchor7_c w hla)
  clear hla
  by_cases h1 : a < 0
  · have x1 : decide (a < 0) = true := decide_eq_true h1
    clear h h1
    go_enter Tryz.func7, Tryz.ntmps7
    go_wp2_with fail
    refine HAN.out.mono ?_
    rintro e w0 ⟨rfl, hg0⟩
    have HG0 := Lib.hid hg0
    clear hg0
    go_wp2_with fail
    go_ret
    exact ⟨rfl, HG0.out⟩
  have x1 : decide (a < 0) = false := decide_eq_false h1
  by_cases h2 : 20 < a
  · have x2 : decide (20 < a) = true := decide_eq_true h2
    clear h h1 h2
    go_enter Tryz.func7, Tryz.ntmps7
    go_wp2_with fail
    refine HAN.out.mono ?_
    rintro e w0 ⟨rfl, hg0⟩
    have HG0 := Lib.hid hg0
    clear hg0
    go_wp2_with fail
    go_ret
    exact ⟨rfl, HG0.out⟩
  have x2 : decide (20 < a) = false := decide_eq_false h2
  by_cases h3 : b < 0
  · have x3 : decide (b < 0) = true := decide_eq_true h3
    clear h h1 h2 h3
    go_enter Tryz.func7, Tryz.ntmps7
    go_wp2_with fail
    refine HAN.out.mono ?_
    rintro e w0 ⟨rfl, hg0⟩
    have HG0 := Lib.hid hg0
    clear hg0
    go_wp2_with fail
    go_ret
    exact ⟨rfl, HG0.out⟩
  have x3 : decide (b < 0) = false := decide_eq_false h3
  by_cases h4 : 70 < b
  · have x4 : decide (70 < b) = true := decide_eq_true h4
    clear h h1 h2 h3 h4
    go_enter Tryz.func7, Tryz.ntmps7
    go_wp2_with fail
    refine HAN.out.mono ?_
    rintro e w0 ⟨rfl, hg0⟩
    have HG0 := Lib.hid hg0
    clear hg0
    go_wp2_with fail
    go_ret
    exact ⟨rfl, HG0.out⟩
  have x4 : decide (70 < b) = false := decide_eq_false h4
  by_cases h5 : c < 0
  · have x5 : decide (c < 0) = true := decide_eq_true h5
    clear h h1 h2 h3 h4 h5
    go_enter Tryz.func7, Tryz.ntmps7
    go_wp2_with fail
    refine HAN.out.mono ?_
    rintro e w0 ⟨rfl, hg0⟩
    have HG0 := Lib.hid hg0
    clear hg0
    go_wp2_with fail
    go_ret
    exact ⟨rfl, HG0.out⟩
  have x5 : decide (c < 0) = false := decide_eq_false h5
  by_cases h6 : 12 < c
  · have x6 : decide (12 < c) = true := decide_eq_true h6
    clear h h1 h2 h3 h4 h5 h6
    go_enter Tryz.func7, Tryz.ntmps7
    go_wp2_with fail
    refine HAN.out.mono ?_
    rintro e w0 ⟨rfl, hg0⟩
    have HG0 := Lib.hid hg0
    clear hg0
    go_wp2_with fail
    go_ret
    exact ⟨rfl, HG0.out⟩
  have x6 : decide (12 < c) = false := decide_eq_false h6
  by_cases h7 : d < 0
  · have x7 : decide (d < 0) = true := decide_eq_true h7
    clear h h1 h2 h3 h4 h5 h6 h7
    go_enter Tryz.func7, Tryz.ntmps7
    go_wp2_with fail
    refine HAN.out.mono ?_
    rintro e w0 ⟨rfl, hg0⟩
    have HG0 := Lib.hid hg0
    clear hg0
    go_wp2_with fail
    go_ret
    exact ⟨rfl, HG0.out⟩
  have x7 : decide (d < 0) = false := decide_eq_false h7
  have h8 : 12 < d := by omega
  have x8 : decide (12 < d) = true := decide_eq_true h8
  clear h h1 h2 h3 h4 h5 h6 h7 h8
  go_enter Tryz.func7, Tryz.ntmps7
  go_wp2_with fail
  refine HAN.out.mono ?_
  rintro e w0 ⟨rfl, hg0⟩
  have HG0 := Lib.hid hg0
  clear hg0
  go_wp2_with fail
  go_ret
  exact ⟨rfl, HG0.out⟩
theorem limits_c (a b c d : Int) (w : World) (hla : LaidE w) : Calls Tryz.prog 7 #[.int .i64 a, .int .i64 b, .int .i64 c, .int .i64 d] w (ValPost (.bool true) w) := by
  by_cases h : a < 0 ∨ 20 < a ∨ b < 0 ∨ 70 < b ∨ c < 0 ∨ 12 < c ∨ d < 0 ∨ 12 < d
  · exact limits_out a b c d w hla h
  · obtain ⟨a, rfl⟩ : ∃ n : Nat, a = (n : Int) := ⟨a.toNat, by omega⟩
    obtain ⟨b, rfl⟩ : ∃ n : Nat, b = (n : Int) := ⟨b.toNat, by omega⟩
    obtain ⟨c, rfl⟩ : ∃ n : Nat, c = (n : Int) := ⟨c.toNat, by omega⟩
    obtain ⟨d, rfl⟩ : ∃ n : Nat, d = (n : Int) := ⟨d.toNat, by omega⟩
    exact limits_yes a b c d w (by omega) (by omega) (by omega) (by omega) hla
end Go.Proofs.YthclkbaankjbiaaGreatDoor
