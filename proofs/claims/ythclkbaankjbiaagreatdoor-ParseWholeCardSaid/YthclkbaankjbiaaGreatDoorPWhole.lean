/- The laws on whole texts and on two depths, walked. -/
import Derived.Test.YthclkbaankjbiaaGreatDoorM51
namespace Go.Proofs.YthclkbaankjbiaaGreatDoor
open Go.RowKit

theorem tok_pos_le {l : List UInt8} (h : (allE l).2.1 = 0) (s : St) : (tokQ (allE l).1 s).pos ≤ l.length := by
  unfold tokQ
  cases ht : (allE l).1[s.i]? with
  | none => exact Nat.zero_le _
  | some t =>
    have h1 := ((place_all h).1 s.i t ht).1
    have h2 := wholeL_next ht
    have h3 := wholeL_take (allE l).1 (s.i + 1)
    rw [whole_all h] at h3
    rw [h2, List.length_append, List.length_append] at h3
    show t.pos ≤ l.length
    omega
theorem tree_pos {l : List UInt8} (h : (allE l).2.1 = 0) (D : Nat) (f : Bool) (he : (treeT (allE l).1 D f).2.e ≠ 0) : (treeT (allE l).1 D f).2.pos ≤ l.length := by
  have hg := (nx_good (allE l).1 D D).expr
  have key : (treeT (allE l).1 D f).2.pos = (tokQ (allE l).1 (treeT (allE l).1 D f).2).pos := by
    unfold treeT at he ⊢
    cases f
    · have hgd : Good (allE l).1 startQ (programT (allE l).1 (nxT (allE l).1 D D).expr startQ) := by
        unfold programT
        have i1 := many_good (allE l).1 (most := 16) (c := isQ (allE l).1 [105, 109, 112, 111, 114, 116]) (step := impStepT (allE l).1) (s := startQ) (fun r hc hr => impStep_good _ hr hc) (fuelQ (allE l).1 startQ) 0 ([], startQ) (Good.nil _ _)
        have i2 := many_good (allE l).1 (most := 64) (c := isDef (allE l).1) (step := defStepT (allE l).1 (nxT (allE l).1 D D).expr) (s := startQ) (fun r hc hr => hr.app (def_good _ hg _)) (fuelQ (allE l).1 (importsT (allE l).1 ([], startQ)).2.2) 0 (importsT (allE l).1 ([], startQ)).2 i1
        split
        · exact i1
        split
        · exact i2
        · exact i2.app (kind_good _ 5 _)
      exact hgd.place rfl he
    · have hgd : Good (allE l).1 (setIn true startQ) (aloneT (allE l).1 (nxT (allE l).1 D D).expr startQ) := (hg (setIn true startQ)).app (kind_good _ 5 _)
      exact hgd.place rfl he
  rw [key]
  exact tok_pos_le h _
theorem ans_pos {l : List UInt8} (hl : l.length ≤ 65536) (D : Int) (f : Bool) : (ansQ l D f).2.2 ≤ l.length := by
  by_cases hr : D < 1 ∨ 200 < D
  · unfold ansQ; rw [if_pos hr]; exact Nat.zero_le _
  · by_cases hx : (allE l).2.1 = 0
    · rw [ans_good (f := f) hr hl hx]
      split
      · exact Nat.zero_le _
      · rename_i he; exact tree_pos hx D.toNat f he
    · rw [ans_lex hr hl hx]
      have := fault_le (l.length + 1) l 0
      show (allE l).2.2 ≤ l.length
      unfold allE
      omega

set_option maxRecDepth 100000 in
set_option maxHeartbeats 8000000 in
theorem whole_c (s : ByteArray) (D : Int) (w : World) (hla : LaidE w) : Calls Tryz.prog 5 #[.string s, .int .i64 D] w (ValPost (.bool true) w) := by
  have HAN := Lib.hid (anchor7_c w hla)
  have HLA := Lib.hid hla
  by_cases hbig : 1500 < s.size
  · have d1 : decide (1500 < s.size) = true := decide_eq_true hbig
    have d1' : decide ((1500 : Int) < (s.size : Int)) = true := decide_eq_true (by omega)
    clear hbig hla
    go_enter Tryz.func5, Tryz.ntmps5
    go_wp2_with fail
    refine HAN.out.mono ?_
    rintro e w0 ⟨rfl, hg0⟩
    have HG0 := Lib.hid hg0
    clear hg0
    go_wp2_with fail
    go_ret
    exact ⟨rfl, HG0.out⟩
  · have d1 : decide (1500 < s.size) = false := decide_eq_false hbig
    have d1' : decide ((1500 : Int) < (s.size : Int)) = false := decide_eq_false (by omega)
    have HP := Lib.hid (fun W h => Parse_p s D W (by omega) h)
    obtain ⟨l, hl⟩ : ∃ l, s.data.toList = l := ⟨_, rfl⟩
    have hlen : l.length = s.size := by rw [← hl, list_len]
    have HLN := Lib.hid hlen
    have HLL : Hid (l.length ≤ 2000) := Lib.hid (by omega)
    have HSL := Lib.hid hl
    rw [hl] at HP
    have HPOS := Lib.hid (ans_pos (l := l) (by omega) D false)
    clear hbig hla hl hlen
    go_enter Tryz.func5, Tryz.ntmps5
    go_wp2_with fail
    refine HAN.out.mono ?_
    rintro e w0 ⟨rfl, hg0⟩
    have HG0 := Lib.hid hg0
    clear hg0 HAN
    go_wp2_with fail
    refine (HP.out _ (HLA.out.kept HG0.out)).mono ?_
    rintro e w1 ⟨hg1, he⟩
    have HG1 := Lib.hid (gb_trans HG0.out hg1)
    clear hg1 HP HLA HG0
    by_cases hne : (ansQ l D false).2.1 ≠ 0
    · rw [if_pos hne] at he
      subst he
      unfold badV
      obtain ⟨E, hE⟩ : ∃ E, (ansQ l D false).2.1 = E := ⟨_, rfl⟩
      obtain ⟨P, hP⟩ : ∃ P, (ansQ l D false).2.2 = P := ⟨_, rfl⟩
      rw [hE] at hne
      rw [hE, hP]
      rw [hP] at HPOS
      have e1 : ((E : Int) != 0) = true := bne_iff_ne.2 (by omega)
      have e1' : (E != 0) = true := bne_iff_ne.2 hne
      have e2 : decide ((0 : Int) ≤ (P : Int)) = true := decide_eq_true (by omega)
      have hps : P ≤ s.size := by have := HPOS.out; have := HLN.out; omega
      have e3 : decide ((P : Int) ≤ (s.size : Int)) = true := decide_eq_true (by omega)
      have e3' : decide (P ≤ s.size) = true := decide_eq_true hps
      clear hE hP hne
      go_wp2_with fail
      go_ret
      exact ⟨by first | rfl | simp, gb_alloc (gb_alloc HG1.out _) _⟩
    · rw [if_neg hne] at he
      have h0 : (ansQ l D false).2.1 = 0 := by omega
      obtain ⟨pt, ct, pn, cn, K, rfl, hta, hct, hna, -, -, -, hN⟩ := he
      have hF := tree_facts (by have := HLL.out; omega) h0
      have h1 := len_all hF.lex
      have hpos : 0 < (nodesQ l D false).length := List.length_pos_iff.2 hF.right.1.1
      have HRT := Lib.hid (fun W => root_tree HLL.out h0 hN W pt pn ct cn)
      have HRI := Lib.hid (fun W h => Right_c (nodesQ l D false) K hF.right (by have := HLL.out; omega) (by have := HLL.out; omega) pt pn ct cn W h)
      have HSH := Lib.hid (fun W h => Show_c (allE l).1 pt pn ct (nodesQ l D false).length cn W (by have := HLL.out; omega) (by rw [whole_all hF.lex]; have := HLL.out; omega) h)
      rw [whole_all hF.lex] at HSH
      obtain ⟨ks, hks⟩ := hF.root
      obtain ⟨g, off, rfl, hgl, c0, -, -⟩ := node_at hna hks
      have HC0 : Hid (w1.cell? ⟨g, off + ((nodesQ l D false).length - 1) * 3, none⟩ = some (.int .i64 1)) := Lib.hid c0
      have HTA := Lib.hid hta; have HNA := Lib.hid hna
      obtain ⟨m, hm⟩ : ∃ m, (allE l).1.length = m := ⟨_, rfl⟩
      obtain ⟨M, hM⟩ : ∃ M, (nodesQ l D false).length = M := ⟨_, rfl⟩
      rw [hm, hM] at HRT HRI HSH ⊢
      rw [hM] at HC0 hpos
      obtain ⟨R, hR⟩ : ∃ R, M - 1 = R := ⟨_, rfl⟩
      rw [hR] at HRT HC0
      have hRM : R < M := by omega
      have x1 : (0 : Int) ≤ (R : Int) := by omega
      have x2 : (R : Int) < (M : Int) := by omega
      have x3 : decide (R < M) = true := decide_eq_true hRM
      have x4 : decide ((R : Int) < (M : Int)) = true := decide_eq_true x2
      obtain ⟨B, hB⟩ : ∃ B, w1.heap.size = B := ⟨_, rfl⟩
      have HBX : Hid (((w1.alloc (.cells #[.slice pt m ct, .slice (some ⟨g, off, none⟩) M cn] 26)).alloc (.cells #[.int .i64 0, .int .i64 0] 29)).heap[B]? = some (.cells #[.slice pt m ct, .slice (some ⟨g, off, none⟩) M cn] 26 (0, 0))) := Lib.hid (by rw [← hB]; exact bx (World.grownBy_alloc _ _ none) (heap_alloc_new w1 _))
      have HGA : Hid (w1.grownBy ((w1.alloc (.cells #[.slice pt m ct, .slice (some ⟨g, off, none⟩) M cn] 26)).alloc (.cells #[.int .i64 0, .int .i64 0] 29)) none) := Lib.hid (gb_alloc (gb_alloc (gb_refl _ _) _) _)
      have HF0 : Hid (((w1.alloc (.cells #[.slice pt m ct, .slice (some ⟨g, off, none⟩) M cn] 26)).alloc (.cells #[.int .i64 0, .int .i64 0] 29)).heap[B + 1]? = some (.cells #[.int .i64 0, .int .i64 0] 29 (0, 0))) := Lib.hid (by
        have h9 := heap_alloc_new (w1.alloc (.cells #[.slice pt m ct, .slice (some ⟨g, off, none⟩) M cn] 26)) (.cells #[.int .i64 0, .int .i64 0] 29)
        rw [show (w1.alloc (.cells #[.slice pt m ct, .slice (some ⟨g, off, none⟩) M cn] 26)).heap.size = B + 1 by simp [hB]] at h9
        exact h9)
      have HC1 := Lib.hid (HGA.out.cell HC0.out (by simp))
      have HG2 := Lib.hid (gb_trans HG1.out HGA.out)
      obtain ⟨f0, f1, -⟩ := cells2 HF0.out
      clear hne h0 hta hna hct hF h1 hpos hks c0 hN hm hM hR hgl HC0
      go_wp2_with fail
      try rw [hB]
      clear hB f0 f1 HF0
      generalize ((w1.alloc (.cells #[.slice pt m ct, .slice (some ⟨g, off, none⟩) M cn] 26)).alloc (.cells #[.int .i64 0, .int .i64 0] 29)) = W at *
      have HBX := Lib.hid (bx (gb_drew (gb_refl _ none)) HBX.out); have HC1 := Lib.hid ((gb_drew (gb_refl W none)).cell HC1.out (by simp)); have HGA := Lib.hid (gb_drew HGA.out); have HG2 := Lib.hid (gb_drew HG2.out)
      go_region_held3 (fun w' => w'.cell? ⟨B, 0, none⟩ = some (.slice pt m ct) ∧ w'.cell? ⟨B, 1, none⟩ = some (.slice (some ⟨g, off, none⟩) M cn) ∧ w'.cell? ⟨g, off + R * 3, none⟩ = some (.int .i64 1)) (exact ⟨(cells2 HBX.out).1, (cells2 HBX.out).2.1, HC1.out⟩)
        (first
          | (go_at_call 13; refine (HSH.out _ (HTA.out.kept HGA.out)).mono ?_; rintro e w9 ⟨⟨y, rfl, hy⟩, hg9⟩; have hyx : y = s := ByteArray.ext (Array.toList_inj.1 (hy.trans HSL.out.symm)); subst hyx; have HBX := Lib.hid (bx hg9 HBX.out); have HC1 := Lib.hid (hg9.cell HC1.out (by simp)); have HGA := Lib.hid (gb_trans HGA.out hg9); have HG2 := Lib.hid (gb_trans HG2.out hg9); clear hg9 hy)
          | (go_at_call 14; refine (HRI.out _ (HNA.out.kept HGA.out)).mono ?_; rintro e w9 ⟨rfl, hg9⟩; have HBX := Lib.hid (bx hg9 HBX.out); have HC1 := Lib.hid (hg9.cell HC1.out (by simp)); have HGA := Lib.hid (gb_trans HGA.out hg9); have HG2 := Lib.hid (gb_trans HG2.out hg9); clear hg9)
          | (go_at_call 15; refine (HRT.out _).mono ?_; rintro e w9 ⟨rfl, hg9⟩; have HBX := Lib.hid (bx hg9 HBX.out); have HC1 := Lib.hid (hg9.cell HC1.out (by simp)); have HGA := Lib.hid (gb_trans HGA.out hg9); have HG2 := Lib.hid (gb_trans HG2.out hg9); clear hg9))
      all_goals
        go_wp2_with fail
        go_ret
        exact ⟨by first | rfl | simp, HG2.out⟩

/-! ### What is answered, whether a tree or none -/

def TreeV (l : List UInt8) (D : Int) (f : Bool) (w : World) (p : Option Addr) (n c : Nat) (p' : Option Addr) (n' c' : Nat) : Prop :=
  ((ansQ l D f).2.1 ≠ 0 ∧ p = none ∧ n = 0 ∧ c = 0 ∧ p' = none ∧ n' = 0 ∧ c' = 0) ∨ ((ansQ l D f).2.1 = 0 ∧ n = (allE l).1.length ∧ n' = (nodesQ l D f).length ∧ TAt w p (allE l).1 ∧ (∃ K, NodesAt w p' (nodesQ l D f) K) ∧ n' ≤ 2 * n)
theorem TreeV.kept {l : List UInt8} {D : Int} {f : Bool} {w w' : World} {p p' : Option Addr} {n c n' c' : Nat} (h : TreeV l D f w p n c p' n' c') (hg : w.grownBy w' none) : TreeV l D f w' p n c p' n' c' := by
  rcases h with h | ⟨h1, h2, h3, h4, ⟨K, h5⟩, h6⟩
  · exact .inl h
  · exact .inr ⟨h1, h2, h3, h4.kept hg, ⟨K, h5.kept hg⟩, h6⟩
theorem rd_any {l : List UInt8} {D : Int} {f : Bool} {w w' : World} {e : Ending} (h : RdPost l D f w e w') : w.grownBy w' none ∧ ∃ p n c p' n' c', e = .returned (.tuple #[.agg #[.slice p n c, .slice p' n' c'], .agg #[.int .i64 ((ansQ l D f).2.1 : Int), .int .i64 ((ansQ l D f).2.2 : Int)]]) ∧ TreeV l D f w' p n c p' n' c' := by
  obtain ⟨hg, h⟩ := h
  refine ⟨hg, ?_⟩
  by_cases hne : (ansQ l D f).2.1 ≠ 0
  · rw [if_pos hne] at h
    exact ⟨none, 0, 0, none, 0, 0, h, .inl ⟨hne, rfl, rfl, rfl, rfl, rfl, rfl⟩⟩
  · rw [if_neg hne] at h
    obtain ⟨pt, ct, pn, cn, K, he, hta, hct, hna, -, -, -, hN⟩ := h
    have h0 : (ansQ l D f).2.1 = 0 := by omega
    have hp : (ansQ l D f).2.2 = 0 := by
      have hr : ¬ (D < 1 ∨ 200 < D) := fun e9 => by unfold ansQ at h0; rw [if_pos e9] at h0; cases h0
      unfold ansQ at h0 ⊢
      rw [if_neg hr] at h0 ⊢
      unfold parseQ at h0 ⊢
      by_cases c1 : 65536 < l.length
      · rw [if_pos c1] at h0; cases h0
      · rw [if_neg c1] at h0 ⊢
        by_cases c2 : (allE l).2.1 ≠ 0
        · rw [if_pos c2] at h0; exact absurd h0 c2
        · rw [if_neg c2] at h0 ⊢
          unfold resQ at h0 ⊢
          by_cases c3 : (treeQ (allE l).1 D.toNat f).2.e = 0
          · rw [if_pos c3]
          · rw [if_neg c3] at h0; exact absurd h0 c3
    refine ⟨pt, _, ct, pn, _, cn, ?_, .inr ⟨h0, rfl, rfl, hta, ⟨K, hna⟩, hN⟩⟩
    rw [h0, hp]; exact he

set_option maxRecDepth 100000 in
set_option maxHeartbeats 4000000 in
theorem Root_none (w : World) : Calls Tryz.prog 15 #[.agg #[.slice none 0 0, .slice none 0 0]] w (ValPost (.int .i64 (-1)) w) := by
  go_enter Tryz.func15, Tryz.ntmps15
  go_wp2_with fail
  go_ret
  exact ⟨rfl, World.grownBy_alloc w _ none⟩
set_option maxRecDepth 100000 in
set_option maxHeartbeats 4000000 in
theorem Right_none (w : World) : Calls Tryz.prog 14 #[.agg #[.slice none 0 0, .slice none 0 0]] w (ValPost (.bool false) w) := by
  go_enter Tryz.func14, Tryz.ntmps14
  go_wp2_with fail
  go_ret
  exact ⟨rfl, by repeat (first | with_reducible exact gb_refl _ _ | with_reducible refine gb_drewN ?_ _ | with_reducible refine gb_drew ?_ | with_reducible refine gb_alloc ?_ _)⟩
def ErrPost (w : World) (e : Ending) (w' : World) : Prop := (∃ n : Int, n ≠ 0 ∧ e = .returned (.int .i64 n)) ∧ w.grownBy w' none
set_option maxRecDepth 100000 in
set_option maxHeartbeats 4000000 in
theorem wrong_none (n : Int) (w : World) : Calls Tryz.prog 28 #[.agg #[.slice none 0 0, .slice none 0 0], .int .i64 n] w (ErrPost w) := by
  have HR := Lib.hid (fun W => Right_none W)
  go_enter Tryz.func28, Tryz.ntmps28
  go_wp2_with fail
  refine (HR.out _).mono ?_
  rintro e w1 ⟨rfl, hg1⟩
  have HG := Lib.hid (gb_trans (World.grownBy_alloc w _ none) hg1)
  clear hg1
  go_wp2_with fail
  go_ret
  exact ⟨⟨_, by decide, rfl⟩, HG.out⟩
def DumpAny (v : List UInt8) (w : World) (e : Ending) (w' : World) : Prop := w.grownBy w' none ∧ ∃ (r : ByteArray) (n : Int), e = .returned (.tuple #[.string r, .int .i64 n]) ∧ r.data.toList = v
set_option maxRecDepth 100000 in
set_option maxHeartbeats 4000000 in
theorem Dump_none (n : Int) (w : World) : Calls Tryz.prog 16 #[.agg #[.slice none 0 0, .slice none 0 0], .int .i64 n] w (DumpAny [] w) := by
  have HW := Lib.hid (fun W => wrong_none n W)
  go_enter Tryz.func16, Tryz.ntmps16
  go_wp2_with fail
  refine (HW.out _).mono ?_
  rintro e w1 ⟨⟨k, hk, rfl⟩, hg1⟩
  have HG := Lib.hid (gb_trans (World.grownBy_alloc w _ none) hg1)
  have e1 : (k != 0) = true := bne_iff_ne.2 hk
  clear hg1 hk
  go_wp2_with fail
  refine bodyPost_ret (v := .tuple #[.string ⟨#[]⟩, .int .i64 k]) (by simp [results, Tryz.results16, go_sem]) rfl ?_
  exact ⟨HG.out, _, _, rfl, rfl⟩

theorem root_any {l : List UInt8} {D : Int} {f : Bool} (hl : l.length ≤ 2000) {w : World} {p p' : Option Addr} {n c n' c' : Nat} (h : TreeV l D f w p n c p' n' c') (W : World) : Calls Tryz.prog 15 #[.agg #[.slice p n c, .slice p' n' c']] W (ValPost (.int .i64 ((n' : Int) - 1)) W) := by
  rcases h with ⟨-, rfl, rfl, rfl, rfl, rfl, rfl⟩ | ⟨h1, rfl, rfl, h4, ⟨K, h5⟩, h6⟩
  · exact Root_none W
  · have hF := tree_facts (by omega) h1
    have h0 : 0 < (nodesQ l D f).length := List.length_pos_iff.2 hF.right.1.1
    have := root_tree hl h1 h6 W p p' c c'
    rw [show (((nodesQ l D f).length : Nat) : Int) - 1 = (((nodesQ l D f).length - 1 : Nat) : Int) by omega]
    exact this
theorem ans_none {l : List UInt8} {D : Int} {f : Bool} (hl : l.length ≤ 65536) (h : (ansQ l D f).2.1 ≠ 0) : (ansQ l D f).1 = [] := by
  unfold ansQ at h ⊢
  split
  · rfl
  · rename_i hr
    rw [if_neg hr] at h
    unfold parseQ at h ⊢
    rw [if_neg (by omega)] at h ⊢
    split
    · rfl
    · rename_i hx
      rw [if_neg hx] at h
      unfold resQ at h ⊢
      split
      · rename_i h9; rw [if_pos h9] at h; exact absurd rfl h
      · rfl
theorem dump_any {l : List UInt8} {D : Int} {f : Bool} (hl : l.length ≤ 2000) {w : World} {p p' : Option Addr} {n c n' c' : Nat} (h : TreeV l D f w p n c p' n' c') : Calls Tryz.prog 16 #[.agg #[.slice p n c, .slice p' n' c'], .int .i64 ((n' : Int) - 1)] w (DumpAny (ansQ l D f).1 w) := by
  rcases h with ⟨h1, rfl, rfl, rfl, rfl, rfl, rfl⟩ | ⟨h1, rfl, rfl, h4, ⟨K, h5⟩, h6⟩
  · rw [ans_none (by omega) h1]; exact Dump_none _ w
  · have hF := tree_facts (by omega) h1
    have h0 : 0 < (nodesQ l D f).length := List.length_pos_iff.2 hF.right.1.1
    rw [show (((nodesQ l D f).length : Nat) : Int) - 1 = (((nodesQ l D f).length - 1 : Nat) : Int) by omega]
    refine (dump_tree hl h1 h4 h5 h6).mono ?_
    rintro e w' ⟨hg, y, rfl, hy⟩
    exact ⟨hg, y, 0, rfl, hy⟩

theorem ans_depths {l : List UInt8} (hl : l.length ≤ 65536) {D D' : Int} (h1 : 1 ≤ D) (h2 : D ≤ D') (h3 : D' ≤ 200) (f : Bool) : ansQ l D f = ansQ l D' f ∨ ((ansQ l D f).2.1 = 23 ∧ ((ansQ l D' f).2.1 = 23 → (ansQ l D f).2.2 ≤ (ansQ l D' f).2.2)) := by
  unfold ansQ
  rw [if_neg (by omega), if_neg (by omega)]
  by_cases hx : (allE l).2.1 = 0
  · rw [parse_good hl hx, parse_good hl hx]
    rcases parse_depths hx (D := D.toNat) (D' := D'.toNat) (by omega) (by omega) f with e | ⟨e1, e2⟩
    · rw [e]; exact .inl rfl
    · right
      rw [if_neg (by omega)]
      refine ⟨e1, fun e3 => ?_⟩
      by_cases h0 : (treeT (allE l).1 D'.toNat f).2.e = 0
      · rw [if_pos h0] at e3; cases e3
      · rw [if_neg h0] at e3 ⊢
        exact e2 e3
  · have key : ∀ d, parseQ l d f = ([], (allE l).2.1, (allE l).2.2) := fun d => by
      unfold parseQ; rw [if_neg (by omega), if_pos hx]
    rw [key, key]; exact .inl rfl

set_option maxRecDepth 100000 in
set_option maxHeartbeats 8000000 in
theorem depths_yes (s : ByteArray) (D D' : Int) (w : World) (hs : s.size ≤ 1500) (h1 : 1 ≤ D) (h2 : D ≤ D') (h3 : D' ≤ 200) (hla : LaidE w) : Calls Tryz.prog 6 #[.string s, .int .i64 D, .int .i64 D'] w (ValPost (.bool true) w) := by
  have HAN := Lib.hid (anchor7_c w hla)
  have HLA := Lib.hid hla
  have d1 : decide (1500 < s.size) = false := decide_eq_false (by omega)
  have d1' : decide ((1500 : Int) < (s.size : Int)) = false := decide_eq_false (by omega)
  have d2 : decide (D < 1) = false := decide_eq_false (by omega)
  have d3 : decide (D' < D) = false := decide_eq_false (by omega)
  have d4 : decide (200 < D') = false := decide_eq_false (by omega)
  have HP1 := Lib.hid (fun W h => Parse_p s D W (by omega) h)
  have HP2 := Lib.hid (fun W h => Parse_p s D' W (by omega) h)
  obtain ⟨l, hl⟩ : ∃ l, s.data.toList = l := ⟨_, rfl⟩
  have HLL : Hid (l.length ≤ 2000) := Lib.hid (by rw [← hl, list_len]; omega)
  rw [hl] at HP1 HP2
  have HDE := Lib.hid (ans_depths (l := l) (by have := HLL.out; omega) h1 h2 h3 false)
  clear hs h1 h2 h3 hla hl
  go_enter Tryz.func6, Tryz.ntmps6
  go_wp2_with fail
  refine HAN.out.mono ?_
  rintro e w0 ⟨rfl, hg0⟩
  have HG0 := Lib.hid hg0
  clear hg0 HAN
  go_wp2_with fail
  refine (HP1.out _ (HLA.out.kept HG0.out)).mono ?_
  rintro e w1 hp
  obtain ⟨hg1, p, n, c, p', n', c', rfl, hv⟩ := rd_any hp
  have HG1 := Lib.hid (gb_trans HG0.out hg1)
  have HV1 := Lib.hid hv
  obtain ⟨a, ha⟩ : ∃ a, ansQ l D false = a := ⟨_, rfl⟩
  have HA := Lib.hid ha
  rw [ha] at HDE ⊢
  obtain ⟨E, hE⟩ : ∃ E, a.2.1 = E := ⟨_, rfl⟩
  obtain ⟨P, hP⟩ : ∃ P, a.2.2 = P := ⟨_, rfl⟩
  have HE := Lib.hid hE; have HP := Lib.hid hP
  rw [hE, hP] at HDE ⊢
  obtain ⟨B, hB⟩ : ∃ B, w1.heap.size = B := ⟨_, rfl⟩
  have HBX : Hid (((w1.alloc (.cells #[.slice p n c, .slice p' n' c'] 26)).alloc (.cells #[.int .i64 (E : Int), .int .i64 (P : Int)] 29)).heap[B]? = some (.cells #[.slice p n c, .slice p' n' c'] 26 (0, 0))) := Lib.hid (by rw [← hB]; exact bx (World.grownBy_alloc _ _ none) (heap_alloc_new w1 _))
  have HFX : Hid (((w1.alloc (.cells #[.slice p n c, .slice p' n' c'] 26)).alloc (.cells #[.int .i64 (E : Int), .int .i64 (P : Int)] 29)).heap[B + 1]? = some (.cells #[.int .i64 (E : Int), .int .i64 (P : Int)] 29 (0, 0))) := Lib.hid (by
    have h9 := heap_alloc_new (w1.alloc (.cells #[.slice p n c, .slice p' n' c'] 26)) (.cells #[.int .i64 (E : Int), .int .i64 (P : Int)] 29)
    rw [show (w1.alloc (.cells #[.slice p n c, .slice p' n' c'] 26)).heap.size = B + 1 by simp [hB]] at h9
    exact h9)
  have HGA : Hid (w1.grownBy ((w1.alloc (.cells #[.slice p n c, .slice p' n' c'] 26)).alloc (.cells #[.int .i64 (E : Int), .int .i64 (P : Int)] 29)) none) := Lib.hid (gb_alloc (gb_alloc (gb_refl _ _) _) _)
  clear hp hg1 hv ha hE hP HP1
  go_wp2_with fail
  try rw [hB]
  clear hB
  generalize ((w1.alloc (.cells #[.slice p n c, .slice p' n' c'] 26)).alloc (.cells #[.int .i64 (E : Int), .int .i64 (P : Int)] 29)) = W1 at *
  refine (HP2.out _ (HLA.out.kept (gb_trans HG1.out HGA.out))).mono ?_
  rintro e w2 hp
  obtain ⟨hg2, q, m, d, q', m', d', rfl, hv⟩ := rd_any hp
  have HV2 := Lib.hid hv
  obtain ⟨b, hb⟩ : ∃ b, ansQ l D' false = b := ⟨_, rfl⟩
  have HBA := Lib.hid hb
  rw [hb] at HDE ⊢
  obtain ⟨F, hF⟩ : ∃ F, b.2.1 = F := ⟨_, rfl⟩
  obtain ⟨Q, hQ⟩ : ∃ Q, b.2.2 = Q := ⟨_, rfl⟩
  have HF := Lib.hid hF; have HQ := Lib.hid hQ
  rw [hF, hQ] at HDE ⊢
  have HBX := Lib.hid (bx hg2 HBX.out); have HFX := Lib.hid (bx hg2 HFX.out); have HGA := Lib.hid (gb_trans HGA.out hg2)
  obtain ⟨Z, hZ⟩ : ∃ Z, w2.heap.size = Z := ⟨_, rfl⟩
  have HTX : Hid (((w2.alloc (.cells #[.slice q m d, .slice q' m' d'] 26)).alloc (.cells #[.int .i64 (F : Int), .int .i64 (Q : Int)] 29)).heap[Z]? = some (.cells #[.slice q m d, .slice q' m' d'] 26 (0, 0))) := Lib.hid (by rw [← hZ]; exact bx (World.grownBy_alloc _ _ none) (heap_alloc_new w2 _))
  have HZX : Hid (((w2.alloc (.cells #[.slice q m d, .slice q' m' d'] 26)).alloc (.cells #[.int .i64 (F : Int), .int .i64 (Q : Int)] 29)).heap[Z + 1]? = some (.cells #[.int .i64 (F : Int), .int .i64 (Q : Int)] 29 (0, 0))) := Lib.hid (by
    have h9 := heap_alloc_new (w2.alloc (.cells #[.slice q m d, .slice q' m' d'] 26)) (.cells #[.int .i64 (F : Int), .int .i64 (Q : Int)] 29)
    rw [show (w2.alloc (.cells #[.slice q m d, .slice q' m' d'] 26)).heap.size = Z + 1 by simp [hZ]] at h9
    exact h9)
  have hgb : w2.grownBy ((w2.alloc (.cells #[.slice q m d, .slice q' m' d'] 26)).alloc (.cells #[.int .i64 (F : Int), .int .i64 (Q : Int)] 29)) none := gb_alloc (gb_alloc (gb_refl _ _) _) _
  have HGB := Lib.hid hgb
  have HBX := Lib.hid (bx hgb HBX.out); have HFX := Lib.hid (bx hgb HFX.out); have HGA := Lib.hid (gb_trans HGA.out hgb)
  obtain ⟨f0, f1, -⟩ := cells2 HFX.out
  obtain ⟨z0, z1, -⟩ := cells2 HZX.out
  clear hp hg2 hv hb hF hQ hgb HP2
  by_cases h23 : E = 23
  · have x0 : ((E : Int) == 23) = true := beq_iff_eq.2 (by omega)
    have x0' : (E == 23) = true := beq_iff_eq.2 h23
    have hpost : F ≠ 23 ∨ P ≤ Q := by
      rcases HDE.out with e | ⟨-, e⟩
      · right
        have : P = Q := by rw [← HP.out, ← HQ.out, e]
        omega
      · by_cases h9 : F = 23
        · exact .inr (e h9)
        · exact .inl h9
    clear h23
    by_cases h9 : F = 23
    · have x2 : ((F : Int) != 23) = false := by rw [h9]; rfl
      have x2' : (F != 23) = false := by rw [h9]; rfl
      have hpq : P ≤ Q := by rcases hpost with h | h; exact absurd h9 h; exact h
      have x1 : decide ((P : Int) ≤ (Q : Int)) = true := decide_eq_true (by omega)
      have x1' : decide (P ≤ Q) = true := decide_eq_true hpq
      clear hpost h9 hpq
      go_wp2_with fail
      go_ret
      exact ⟨by first | rfl | simp, gb_trans HG1.out HGA.out⟩
    · have x1 : ((F : Int) != 23) = true := bne_iff_ne.2 (by omega)
      have x1' : (F != 23) = true := bne_iff_ne.2 h9
      clear hpost h9
      go_wp2_with fail
      go_ret
      exact ⟨by first | rfl | simp, gb_trans HG1.out HGA.out⟩
  · have hab : a = b := by
      rcases HDE.out with e | ⟨e, -⟩
      · exact e
      · exact absurd e h23
    have hEF : E = F := by rw [← HE.out, ← HF.out, hab]
    have hPQ : P = Q := by rw [← HP.out, ← HQ.out, hab]
    subst hEF; subst hPQ
    have x1 : ((E : Int) == 23) = false := beq_eq_false_iff_ne.2 (by omega)
    have x1' : (E == 23) = false := beq_eq_false_iff_ne.2 h23
    have HAB : Hid ((ansQ l D false).1 = (ansQ l D' false).1) := Lib.hid (by rw [HA.out, HBA.out, hab])
    have HG2 := Lib.hid (gb_trans HG1.out HGA.out)
    have HV1 := Lib.hid (HV1.out.kept HGA.out)
    have HV2 := Lib.hid (HV2.out.kept HGB.out)
    have HR1 := Lib.hid (fun W => root_any HLL.out HV1.out W)
    have HR2 := Lib.hid (fun W => root_any HLL.out HV2.out W)
    clear HDE HA HBA hab h23 HE HP HF HQ HLA HG1 HGA HGB
    go_wp2_with fail
    try rw [hZ]
    clear hZ
    have HTZ := HTX
    have HTF := HZX
    generalize ((w2.alloc (.cells #[.slice q m d, .slice q' m' d'] 26)).alloc (.cells #[.int .i64 (E : Int), .int .i64 (P : Int)] 29)) = W2 at *
    have HGc := Lib.hid (gb_refl W2 none)
    go_region_held3 (fun w' => w'.cell? ⟨B, 0, none⟩ = some (.slice p n c) ∧ w'.cell? ⟨B, 1, none⟩ = some (.slice p' n' c')) (exact ⟨(cells2 (bx (by repeat (first | with_reducible exact HGc.out | with_reducible exact gb_refl _ _ | with_reducible refine gb_drew ?_)) HBX.out)).1, (cells2 (bx (by repeat (first | with_reducible exact HGc.out | with_reducible exact gb_refl _ _ | with_reducible refine gb_drew ?_)) HBX.out)).2.1⟩)
      (first
        | (go_at_call 15; refine (HR1.out _).mono ?_; rintro e w9 ⟨rfl, hg9⟩; have HGc := Lib.hid (gb_trans (show W2.grownBy _ none from (by repeat (first | with_reducible exact HGc.out | with_reducible exact gb_refl _ _ | with_reducible refine gb_drew ?_))) hg9); clear hg9)
        | (go_at_call 16; refine (dump_any HLL.out (HV1.out.kept (show W2.grownBy _ none from (by repeat (first | with_reducible exact HGc.out | with_reducible exact gb_refl _ _ | with_reducible refine gb_drew ?_))))).mono ?_; rintro e w9 ⟨hg9, y1, k1, rfl, hy1⟩; have HY1 := Lib.hid hy1; have HGc := Lib.hid (gb_trans (show W2.grownBy _ none from (by repeat (first | with_reducible exact HGc.out | with_reducible exact gb_refl _ _ | with_reducible refine gb_drew ?_))) hg9); clear hg9 hy1))
    clear f0 f1 z0 z1
    go_wp2_with fail
    go_region_held3 (fun w' => w'.cell? ⟨Z, 0, none⟩ = some (.slice q m d) ∧ w'.cell? ⟨Z, 1, none⟩ = some (.slice q' m' d')) (exact ⟨(cells2 (bx (by repeat (first | with_reducible exact HGc.out | with_reducible exact gb_refl _ _ | with_reducible refine gb_drew ?_)) HTX.out)).1, (cells2 (bx (by repeat (first | with_reducible exact HGc.out | with_reducible exact gb_refl _ _ | with_reducible refine gb_drew ?_)) HTX.out)).2.1⟩)
      (first
        | (go_at_call 15; refine (HR2.out _).mono ?_; rintro e w9 ⟨rfl, hg9⟩; have HGc := Lib.hid (gb_trans (show W2.grownBy _ none from (by repeat (first | with_reducible exact HGc.out | with_reducible exact gb_refl _ _ | with_reducible refine gb_drew ?_))) hg9); clear hg9)
        | (go_at_call 16; refine (dump_any HLL.out (HV2.out.kept (show W2.grownBy _ none from (by repeat (first | with_reducible exact HGc.out | with_reducible exact gb_refl _ _ | with_reducible refine gb_drew ?_))))).mono ?_; rintro e w9 ⟨hg9, y2, k2, rfl, hy2⟩; have HY2 := Lib.hid hy2; have HGc := Lib.hid (gb_trans (show W2.grownBy _ none from (by repeat (first | with_reducible exact HGc.out | with_reducible exact gb_refl _ _ | with_reducible refine gb_drew ?_))) hg9); clear hg9 hy2))
    have hyy : y2 = y1 := ByteArray.ext (Array.toList_inj.1 (HY2.out.trans (HAB.out.symm.trans HY1.out.symm)))
    subst hyy
    have HFX := Lib.hid (bx HGc.out HFX.out); have HZX := Lib.hid (bx HGc.out HZX.out); have HG3 := Lib.hid (gb_trans HG2.out HGc.out)
    obtain ⟨f0, f1, -⟩ := cells2 HFX.out
    obtain ⟨z0, z1, -⟩ := cells2 HZX.out
    go_wp2_with fail
    go_ret
    exact ⟨by first | rfl | simp, HG3.out⟩

set_option maxRecDepth 100000 in
set_option maxHeartbeats 8000000 in
theorem depths_out (s : ByteArray) (D D' : Int) (w : World) (hla : LaidE w) (h : 1500 < s.size ∨ D < 1 ∨ D' < D ∨ 200 < D') : Calls Tryz.prog 6 #[.string s, .int .i64 D, .int .i64 D'] w (ValPost (.bool true) w) := by
  have HAN := Lib.hid (anchor7_c w hla)
  clear hla
  by_cases h1 : 1500 < s.size
  · have d1 : decide (1500 < s.size) = true := decide_eq_true h1
    have d1' : decide ((1500 : Int) < (s.size : Int)) = true := decide_eq_true (by omega)
    clear h h1
    go_enter Tryz.func6, Tryz.ntmps6
    go_wp2_with fail
    refine HAN.out.mono ?_
    rintro e w0 ⟨rfl, hg0⟩
    have HG0 := Lib.hid hg0
    clear hg0
    go_wp2_with fail
    go_ret
    exact ⟨rfl, HG0.out⟩
  have d1 : decide (1500 < s.size) = false := decide_eq_false h1
  have d1' : decide ((1500 : Int) < (s.size : Int)) = false := decide_eq_false (by omega)
  by_cases h2 : D < 1
  · have d2 : decide (D < 1) = true := decide_eq_true h2
    clear h h1 h2
    go_enter Tryz.func6, Tryz.ntmps6
    go_wp2_with fail
    refine HAN.out.mono ?_
    rintro e w0 ⟨rfl, hg0⟩
    have HG0 := Lib.hid hg0
    clear hg0
    go_wp2_with fail
    go_ret
    exact ⟨rfl, HG0.out⟩
  have d2 : decide (D < 1) = false := decide_eq_false h2
  by_cases h3 : D' < D
  · have d3 : decide (D' < D) = true := decide_eq_true h3
    clear h h1 h2 h3
    go_enter Tryz.func6, Tryz.ntmps6
    go_wp2_with fail
    refine HAN.out.mono ?_
    rintro e w0 ⟨rfl, hg0⟩
    have HG0 := Lib.hid hg0
    clear hg0
    go_wp2_with fail
    go_ret
    exact ⟨rfl, HG0.out⟩
  have d3 : decide (D' < D) = false := decide_eq_false h3
  have h4 : 200 < D' := by omega
  have d4 : decide (200 < D') = true := decide_eq_true h4
  clear h h1 h2 h3 h4
  go_enter Tryz.func6, Tryz.ntmps6
  go_wp2_with fail
  refine HAN.out.mono ?_
  rintro e w0 ⟨rfl, hg0⟩
  have HG0 := Lib.hid hg0
  clear hg0
  go_wp2_with fail
  go_ret
  exact ⟨rfl, HG0.out⟩
theorem depths_c (s : ByteArray) (D D' : Int) (w : World) (hla : LaidE w) : Calls Tryz.prog 6 #[.string s, .int .i64 D, .int .i64 D'] w (ValPost (.bool true) w) := by
  by_cases h : 1500 < s.size ∨ D < 1 ∨ D' < D ∨ 200 < D'
  · exact depths_out s D D' w hla h
  · exact depths_yes s D D' w (by omega) (by omega) (by omega) (by omega) hla
end Go.Proofs.YthclkbaankjbiaaGreatDoor
