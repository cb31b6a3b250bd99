/- Lemmas. -/
import Derived.Test.YtddccnpohpaofaaGreatDoorP14
set_option linter.unusedVariables false
set_option linter.unusedSimpArgs false
namespace Go.Proofs.YtddccnpohpaofaaGreatDoor
open Go.RowKit

theorem WrAt.kept {S : Nat → Prop} {B b : Nat} {w w2 : World} {rows : List (List Value)} (h : WrAt S B b w rows) (hg : w.grownBy w2 none) : WrAt S B b w2 rows := by
  obtain ⟨v, hb, hO, hbB, hB, hSb, hSv, hSs⟩ := h
  exact ⟨v, bx hg hb, hO.kept hg, hbB, Nat.le_trans hB hg.size, hSb, hSv, fun k hk => Nat.lt_of_lt_of_le (hSs k hk) hg.size⟩
theorem WrAt.more {S : Nat → Prop} {B b c : Nat} {w w2 : World} {rows : List (List Value)} (h : WrAt S B b w rows) (hg : w.grownBy w2 none) (hc : w.heap.size ≤ c) (hc2 : c < w2.heap.size) : WrAt (fun k => S k ∨ k = c) B b w2 rows := by
  obtain ⟨v, hb, hO, hbB, hB, hSb, hSv, hSs⟩ := h
  have hbw := hlt hb
  refine ⟨v, bx hg hb, hO.kept hg, hbB, Nat.le_trans hB hg.size, fun e => ?_, fun k hk e => ?_, fun k hk => ?_⟩
  · rcases e with e | e
    · exact hSb e
    · omega
  · have := (hO.at k hk).2
    rcases e with e | e
    · exact hSv k hk e
    · omega
  · rcases hk with e | e
    · exact Nat.lt_of_lt_of_le (hSs k e) hg.size
    · omega
theorem WrAt.less {S : Nat → Prop} {B b c : Nat} {w : World} {rows : List (List Value)} (h : WrAt (fun k => S k ∨ k = c) B b w rows) : WrAt S B b w rows := by
  obtain ⟨v, hb, hO, hbB, hB, hSb, hSv, hSs⟩ := h
  exact ⟨v, hb, hO, hbB, hB, fun e => hSb (.inl e), fun k hk e => hSv k hk (.inl e), fun k hk => hSs k (.inl hk)⟩
theorem cat_eq (l : List UInt8) (x : UInt8) : ((⟨l.toArray⟩ : ByteArray) ++ (⟨#[x]⟩ : ByteArray)) = ⟨(l ++ [x]).toArray⟩ := by
  apply ByteArray.ext
  rw [ByteArray.data_append]
  apply Array.toList_inj.1
  simp
set_option maxRecDepth 100000 in
set_option maxHeartbeats 16000000 in
theorem list_nil9 (S : Nat → Prop) (B b : Nat) (rows : List (List Value)) (s : ByteArray) (p : Option Addr) (ck : Nat) (fv : Value) (w : World) (h : WrAt S B b w rows) :
    Calls Tryz.prog 133 #[.pointer (some ⟨b, 0, none⟩), .slice p 0 ck, .string s, fv] w (PcPost S B b rows w) := by
  have HW := Lib.hid h
  clear h
  go_enter Tryz.func133, Tryz.ntmps133
  go_wp2_with fail
  go_loopw [11] (fun iv wr => iv = .int .i64 0 ∧ wr = w) (fun _ _ => 0)
  case atStart => exact ⟨rfl, rfl⟩
  case round =>
    obtain ⟨rfl, rfl⟩ := hrel
    go_wp2_with fail
    go_end0
    exact ⟨rfl, HW.out, Fr2.refl _ _⟩
def callR (nm md : List UInt8) (gk ok n : Nat) : List (List Value) := (if md = [] then [] else [rowB (md ++ [46])]) ++ [rowB (nm ++ [40])] ++ argsR [44, 32] gk ok n ++ [rowB [41]]
set_option maxRecDepth 100000 in
set_option maxHeartbeats 16000000 in
theorem call_c9 (S : Nat → Prop) (B b : Nat) (rows : List (List Value)) (fg fo gk ok n ck : Nat) (pk : Option Addr) (nm md : List UInt8) (w : World) (h : WrAt S B b w rows) (hl : rows.length ≤ 800000) (hn : n ≤ 8) (hnl : nm.length ≤ 60000) (hml : md.length ≤ 60000) (hSf : S fg) (hpk : 0 < n → pk = some ⟨gk, ok, none⟩)
    (c1 : w.cell? ⟨fg, fo + 1, none⟩ = some (.string ⟨nm.toArray⟩)) (c2 : w.cell? ⟨fg, fo + 2, none⟩ = some (.string ⟨md.toArray⟩)) (c6 : w.cell? ⟨fg, fo + 6, none⟩ = some (.slice pk n ck)) :
    Calls Tryz.prog 118 #[.pointer (some ⟨b, 0, none⟩), .pointer (some ⟨fg, fo, none⟩)] w (PcPost S B b (rows ++ callR nm md gk ok n) w) := by
  have hfgw : fg < w.heap.size := by obtain ⟨v, -, -, -, -, -, -, hh⟩ := h; exact hh _ hSf
  obtain ⟨cb, hcb⟩ : ∃ cb, w.heap.size = cb := ⟨_, rfl⟩
  have hg := World.grownBy_alloc w (.cells #[.pointer (some ⟨b, 0, none⟩)] 128) none
  have hA := heap_alloc_new w (.cells #[.pointer (some ⟨b, 0, none⟩)] 128)
  have hsz : (w.alloc (.cells #[.pointer (some ⟨b, 0, none⟩)] 128)).heap.size = cb + 1 := by simp [hcb]
  rw [hcb] at hA
  have hW := h.more hg (Nat.le_of_eq hcb) (by rw [hsz]; omega)
  have hHS : ∀ k, S k → k < w.heap.size := by obtain ⟨v, -, -, -, -, -, -, hh⟩ := h; exact hh
  have d1 := hg.cell c1 (by simp)
  have d2 := hg.cell c2 (by simp)
  have d6 := hg.cell c6 (by simp)
  go_enter Tryz.func118, Tryz.ntmps118
  clear c1 c2 c6
  go_upto_region 1 with fail
  try rw [hcb]
  generalize (w.alloc (.cells #[.pointer (some ⟨b, 0, none⟩)] 128)) = W at *
  have z1 : ¬ 9223372036854775807 < md.length + 1 := by omega
  have z2 : ¬ 9223372036854775807 < nm.length + 1 := by omega
  have q0 : W.cell? ⟨cb, 0, none⟩ = some (.pointer (some ⟨b, 0, none⟩)) := by rw [cell_of_row W cb 0 _ _ (0, 0) hA]; rfl
  have hcw : cb < W.heap.size := by omega
  have hfW : fg < W.heap.size := Nat.lt_of_lt_of_le hfgw hg.size
  obtain ⟨S2, hS2⟩ : ∃ S2 : Nat → Prop, S2 = fun k => S k ∨ k = cb := ⟨_, rfl⟩
  have hSc : S2 cb := by rw [hS2]; exact .inr rfl
  have hSf2 : S2 fg := by rw [hS2]; exact .inl hSf
  have HEND : Hid (∀ rows' w', WrAt S2 B b w' rows' → Fr2 (fun k => ¬ S2 k) W w' → PcPost S B b rows' w (.returned (.tuple #[])) w') := Lib.hid (fun rows' w' h1 h2 => by
    rw [hS2] at h1 h2
    exact ⟨rfl, h1.less, (Fr2.none hg).trans (h2.mono (fun k hk e => hk (.inl e)))⟩)
  rw [← hS2] at hW
  have HKP : Hid (∀ W', Fr2 (fun k => ¬ S2 k) W W' → W'.cell? ⟨cb, 0, none⟩ = some (.pointer (some ⟨b, 0, none⟩)) ∧ W'.cell? ⟨fg, fo + 1, none⟩ = some (.string ⟨nm.toArray⟩) ∧ W'.cell? ⟨fg, fo + 2, none⟩ = some (.string ⟨md.toArray⟩) ∧ W'.cell? ⟨fg, fo + 6, none⟩ = some (.slice pk n ck) ∧ cb < W'.heap.size ∧ fg < W'.heap.size) := Lib.hid (fun W' hf =>
    ⟨by rw [World.cell?_of_block (w := W) (hf.block cb hcw (fun e => e hSc))]; exact q0, by rw [World.cell?_of_block (w := W) (hf.block fg hfW (fun e => e hSf2))]; exact d1, by rw [World.cell?_of_block (w := W) (hf.block fg hfW (fun e => e hSf2))]; exact d2, by rw [World.cell?_of_block (w := W) (hf.block fg hfW (fun e => e hSf2))]; exact d6, Nat.lt_of_lt_of_le hcw hf.size, Nat.lt_of_lt_of_le hfW hf.size⟩)
  have HPUT := Lib.hid (fun rows s W h h2 => put_c9 S2 B b rows s W h h2)
  have HLIST : Hid (∀ (R : List (List Value)) (W' : World), WrAt S2 B b W' R → R.length ≤ 900000 → W'.cell? ⟨cb, 0, none⟩ = some (.pointer (some ⟨b, 0, none⟩)) → Calls Tryz.prog 133 #[.pointer (some ⟨b, 0, none⟩), .slice pk n ck, .string ⟨#[44, 32]⟩, .func (.func 134) #[] #[.pointer (some ⟨cb, 0, none⟩)]] W' (PcPost S2 B b (R ++ argsR [44, 32] gk ok n) W')) := Lib.hid (fun R W' h1 h2 h3 => by
    rcases Nat.eq_zero_or_pos n with h0 | h0
    · subst h0
      have := list_nil9 S2 B b R ⟨#[44, 32]⟩ pk ck (.func (.func 134) #[] #[.pointer (some ⟨cb, 0, none⟩)]) W' h1
      simpa [argsR] using this
    · rw [hpk h0]
      exact list_c9 S2 B b cb R [44, 32] gk ok n ck W' h1 h2 (by omega) hSc h3)
  have HW0 := Lib.hid hW; have HL := Lib.hid hl; have HPK := Lib.hid hpk; have HN := Lib.hid hn
  clear hS2 hSc hSf2 hW h hl hA hsz hHS hg hSf hfgw hpk
  obtain ⟨R0, hR0⟩ : ∃ R0, rows ++ (if md = [] then [] else [rowB (md ++ [46])]) = R0 := ⟨_, rfl⟩
  have HR0 := Lib.hid hR0
  clear hR0
  by_cases hm : md = []
  focus
    have e1 : md.isEmpty = true := by subst hm; rfl
    have HW2 : Hid (WrAt S2 B b W R0) := Lib.hid (by rw [← HR0.out, if_pos hm, List.append_nil]; exact HW0.out)
    have HLR : Hid (R0.length ≤ 800001) := Lib.hid (by rw [← HR0.out, if_pos hm, List.append_nil]; have := HL.out; omega)
    clear hm
    go_wp2_with fail
    obtain ⟨w2, hw2⟩ : ∃ w2, W = w2 := ⟨W, rfl⟩
    have HF2 : Hid (Fr2 (fun k => ¬ S2 k) W w2) := Lib.hid (by rw [← hw2]; exact Fr2.refl _ _)
    rw [hw2] at HW2 q0 d1 d2 d6 hcw hfW ⊢
    clear hw2 e1
  rotate_left 1
  focus
    have e1 : md.isEmpty = false := by rw [emp_dec]; exact decide_eq_false hm
    go_wp2_with fail
    go_region_held3 (fun w' => w'.cell? ⟨cb, 0, none⟩ = some (.pointer (some ⟨b, 0, none⟩)) ∧ w'.cell? ⟨fg, fo + 1, none⟩ = some (.string ⟨nm.toArray⟩) ∧ w'.cell? ⟨fg, fo + 2, none⟩ = some (.string ⟨md.toArray⟩) ∧ w'.cell? ⟨fg, fo + 6, none⟩ = some (.slice pk n ck))
      (first | with_reducible exact ⟨q0, d1, d2, d6⟩ | go_keep)
      (first | (go_at_call 96; refine (HPUT.out _ _ _ (HW0.out.kept (by repeat (first | with_reducible exact gb_refl _ _ | with_reducible refine gb_drew ?_ | with_reducible refine gb_drewN ?_ _ | with_reducible refine gb_alloc ?_ _))) (by have := HL.out; omega)).mono ?_; rintro e w2 ⟨rfl, hw2, hf2⟩; have HW2 := Lib.hid hw2; have HF2 := Lib.hid ((Fr2.none (show W.grownBy _ none from (by repeat (first | with_reducible exact gb_refl _ _ | with_reducible refine gb_drew ?_ | with_reducible refine gb_drewN ?_ _ | with_reducible refine gb_alloc ?_ _)))).trans hf2); obtain ⟨q0, d1, d2, d6, hcw, hfW⟩ := HKP.out _ HF2.out; clear hw2 hf2))
    have HLR : Hid (R0.length ≤ 800001) := Lib.hid (by rw [← HR0.out, if_neg hm, List.length_append]; have := HL.out; simp; omega)
    have HW2 : Hid (WrAt S2 B b w2 R0) := Lib.hid (by
      have h := HW2.out
      rw [← HR0.out, if_neg hm]
      rw [cat_eq] at h
      exact h)
    clear hm e1
    go_wp2_with fail
  all_goals
    go_region_held3 (fun w' => w'.cell? ⟨cb, 0, none⟩ = some (.pointer (some ⟨b, 0, none⟩)) ∧ w'.cell? ⟨fg, fo + 1, none⟩ = some (.string ⟨nm.toArray⟩) ∧ w'.cell? ⟨fg, fo + 2, none⟩ = some (.string ⟨md.toArray⟩) ∧ w'.cell? ⟨fg, fo + 6, none⟩ = some (.slice pk n ck))
      (first | with_reducible exact ⟨q0, d1, d2, d6⟩ | go_keep)
      (first | (go_at_call 96; refine (HPUT.out _ _ _ (HW2.out.kept (by repeat (first | with_reducible exact gb_refl _ _ | with_reducible refine gb_drew ?_ | with_reducible refine gb_drewN ?_ _ | with_reducible refine gb_alloc ?_ _))) (by have := HLR.out; omega)).mono ?_; rintro e w3 ⟨rfl, hw3, hf3⟩; have HW3 := Lib.hid hw3; have HF3 := Lib.hid (HF2.out.trans ((Fr2.none (show w2.grownBy _ none from (by repeat (first | with_reducible exact gb_refl _ _ | with_reducible refine gb_drew ?_ | with_reducible refine gb_drewN ?_ _ | with_reducible refine gb_alloc ?_ _)))).trans hf3)); obtain ⟨q0, d1, d2, d6, hcw, hfW⟩ := HKP.out _ HF3.out; clear hw3 hf3))
    have HW3 : Hid (WrAt S2 B b w3 (R0 ++ [rowB (nm ++ [40])])) := Lib.hid (by
      have h := HW3.out
      rw [cat_eq] at h
      exact h)
    have HL3 : Hid ((R0 ++ [rowB (nm ++ [40])]).length ≤ 800002) := Lib.hid (by rw [List.length_append]; have := HLR.out; simp; omega)
    clear HW2
    go_wp2_with fail
    go_region_held3 (fun w' => w'.cell? ⟨cb, 0, none⟩ = some (.pointer (some ⟨b, 0, none⟩)) ∧ w'.cell? ⟨fg, fo + 1, none⟩ = some (.string ⟨nm.toArray⟩) ∧ w'.cell? ⟨fg, fo + 2, none⟩ = some (.string ⟨md.toArray⟩) ∧ w'.cell? ⟨fg, fo + 6, none⟩ = some (.slice pk n ck))
      (first | with_reducible exact ⟨q0, d1, d2, d6⟩ | go_keep)
      (first | (go_at_call 133; refine (HLIST.out _ _ (HW3.out.kept (by repeat (first | with_reducible exact gb_refl _ _ | with_reducible refine gb_drew ?_ | with_reducible refine gb_drewN ?_ _ | with_reducible refine gb_alloc ?_ _))) (by have := HL3.out; omega) (by first | with_reducible exact q0 | go_keep)).mono ?_; rintro e w4 ⟨rfl, hw4, hf4⟩; have HW4 := Lib.hid hw4; have HF4 := Lib.hid (HF3.out.trans ((Fr2.none (show w3.grownBy _ none from (by repeat (first | with_reducible exact gb_refl _ _ | with_reducible refine gb_drew ?_ | with_reducible refine gb_drewN ?_ _ | with_reducible refine gb_alloc ?_ _)))).trans hf4)); obtain ⟨q0, d1, d2, d6, hcw, hfW⟩ := HKP.out _ HF4.out; clear hw4 hf4))
    have HL4 : Hid ((R0 ++ [rowB (nm ++ [40])] ++ argsR [44, 32] gk ok n).length ≤ 800020) := Lib.hid (by rw [List.length_append]; have := HL3.out; have := argsR_len [44, 32] gk ok n; have := HN.out; omega)
    go_wp2_with fail
    refine (HPUT.out _ _ w4 HW4.out (by have := HL4.out; omega)).mono ?_
    rintro e w5 ⟨rfl, hw5, hf5⟩
    have HF5 := Lib.hid (HF4.out.trans hf5)
    have HW5 : Hid (WrAt S2 B b w5 (rows ++ callR nm md gk ok n)) := Lib.hid (by
      unfold callR
      rw [← List.append_assoc, ← List.append_assoc, ← List.append_assoc, HR0.out]
      exact hw5)
    clear hw5 hf5
    go_wp2_with fail
    go_end0
    exact HEND.out _ _ HW5.out HF5.out

def signs9 : List (List UInt8) := [[43], [45], [42], [47], [37], [61], [60, 62], [60], [60, 61], [62], [62, 61], [38, 38], [124, 124], [61, 62]]
/-- The signs of the shows lie in their variable. -/
def LaidW (w : World) : Prop := ∀ (j : Nat) (l : List UInt8), signs9[j]? = some l → w.cell? ⟨5, j, none⟩ = some (.string ⟨l.toArray⟩)
theorem signT_get {j : Nat} {l : List UInt8} (h : signs9[j]? = some l) : signS ((7 + j : Nat) : Int) = l := by
  unfold signS
  rw [show (((7 + j : Nat) : Int) - 7).toNat = j by omega]
  show signs9.getD j [] = l
  rw [List.getD_eq_getElem?_getD, h]; rfl
theorem sign_len {j : Nat} {l : List UInt8} (h : signs9[j]? = some l) : l.length ≤ 2 := by
  have h1 := List.mem_of_getElem? h
  revert h1
  have : ∀ x ∈ signs9, x.length ≤ 2 := by decide
  exact fun h1 => this l h1
theorem cat_eq3 (l : List UInt8) : ((⟨#[32]⟩ : ByteArray) ++ (⟨l.toArray⟩ : ByteArray) ++ (⟨#[32]⟩ : ByteArray)) = ⟨([32] ++ l ++ [32]).toArray⟩ := by
  apply ByteArray.ext
  rw [ByteArray.data_append, ByteArray.data_append]
  apply Array.toList_inj.1
  simp
set_option maxRecDepth 100000 in
set_option maxHeartbeats 16000000 in
theorem signed_c9 (S : Nat → Prop) (B b : Nat) (rows : List (List Value)) (fg fo gk ok ck j : Nat) (sg : List UInt8) (w : World) (h : WrAt S B b w rows) (hl : rows.length ≤ 800000) (hj : signs9[j]? = some sg) (hSf : S fg) (hSg : S 5) (hla : LaidW w)
    (c0 : w.cell? ⟨fg, fo, none⟩ = some (.int .i64 ((7 + j : Nat) : Int))) (c6 : w.cell? ⟨fg, fo + 6, none⟩ = some (.slice (some ⟨gk, ok, none⟩) 2 ck)) :
    Calls Tryz.prog 119 #[.pointer (some ⟨b, 0, none⟩), .pointer (some ⟨fg, fo, none⟩)] w (PcPost S B b (rows ++ [rowX gk ok (sideA (levS ((7 + j : Nat) : Int)) : Nat), rowB ([32] ++ sg ++ [32]), rowX gk (ok + 8) (sideB (levS ((7 + j : Nat) : Int)) : Nat)]) w) := by
  have hj14 : j < 14 := (List.getElem?_eq_some_iff.1 hj).1
  have hsl := sign_len hj
  have HLV := Lib.hid (fun W => level_c ((7 + j : Nat) : Int) (by omega) (by omega) W)
  obtain ⟨lv, hlv⟩ : ∃ lv, levS ((7 + j : Nat) : Int) = lv := ⟨_, rfl⟩
  have hlv9 : lv ≤ 9 := by rw [← hlv]; unfold levS; repeat (first | omega | split)
  rw [hlv] at HLV ⊢
  have HSD := Lib.hid (fun W => sides_c lv hlv9 W)
  obtain ⟨sa, hsa⟩ : ∃ x, sideA lv = x := ⟨_, rfl⟩
  obtain ⟨sb, hsb⟩ : ∃ x, sideB lv = x := ⟨_, rfl⟩
  rw [hsa, hsb] at HSD ⊢
  have HEXP := Lib.hid (fun rows a (l : Int) W h h2 => expr_c9 S B b rows a l W h h2)
  have HPUT := Lib.hid (fun rows s W h h2 => put_c9 S B b rows s W h h2)
  have HHS : Hid (∀ k, S k → k < w.heap.size) := Lib.hid (by obtain ⟨v, -, -, -, -, -, -, hh⟩ := h; exact hh)
  have hfgw : fg < w.heap.size := HHS.out _ hSf
  have hgw : 5 < w.heap.size := HHS.out _ hSg
  have cs : w.cell? ⟨5, j, none⟩ = some (.string ⟨sg.toArray⟩) := hla j sg hj
  have HKP : Hid (∀ W', Fr2 (fun k => ¬ S k) w W' → W'.cell? ⟨fg, fo, none⟩ = some (.int .i64 ((7 + j : Nat) : Int)) ∧ W'.cell? ⟨fg, fo + 6, none⟩ = some (.slice (some ⟨gk, ok, none⟩) 2 ck) ∧ W'.cell? ⟨5, j, none⟩ = some (.string ⟨sg.toArray⟩) ∧ fg < W'.heap.size ∧ 5 < W'.heap.size) := Lib.hid (fun W' hf =>
    ⟨by rw [World.cell?_of_block (w := w) (hf.block fg hfgw (fun e => e hSf))]; exact c0, by rw [World.cell?_of_block (w := w) (hf.block fg hfgw (fun e => e hSf))]; exact c6, by rw [World.cell?_of_block (w := w) (hf.block 5 hgw (fun e => e hSg))]; exact cs, Nat.lt_of_lt_of_le hfgw hf.size, Nat.lt_of_lt_of_le hgw hf.size⟩)
  have HW := Lib.hid h; have HL := Lib.hid hl
  have hw7 : IntKind.i64.wrap (((7 + j : Nat) : Int) - 7) = (j : Int) := by rw [IntWalk.i64_in _ (by omega)]; omega
  obtain ⟨op, hop⟩ : ∃ op : Int, ((7 + j : Nat) : Int) = op := ⟨_, rfl⟩
  rw [hop] at hw7 c0 HKP HLV
  have z1 : (0 : Int) ≤ (j : Int) := by omega
  have z2 : (j : Int) < 14 := by omega
  have z3 : decide (j < 14) = true := decide_eq_true hj14
  have z4 : ¬ 9223372036854775807 < 1 + sg.length := by omega
  have z5 : ¬ 9223372036854775807 < 1 + sg.length + 1 := by omega
  have z6 : ¬ 9223372036854775807 < sg.length + 1 := by omega
  have z7 : ¬ 9223372036854775807 < sg.length + 1 + 1 := by omega
  clear h hl hla hSf hSg hfgw hgw hlv hlv9 hsa hsb hj hsl hop
  go_enter Tryz.func119, Tryz.ntmps119
  go_wp2_with fail
  refine (HLV.out w).mono ?_
  rintro e w1 ⟨rfl, hg1⟩
  have HG1 := Lib.hid hg1
  clear hg1
  go_wp2_with fail
  refine (HSD.out w1).mono ?_
  rintro e w2 ⟨rfl, hg2⟩
  have HG2 := Lib.hid (gb_trans HG1.out hg2)
  have HW2 := Lib.hid (HW.out.kept HG2.out)
  have HF2 : Hid (Fr2 (fun k => ¬ S k) w w2) := Lib.hid (Fr2.none HG2.out)
  clear hg2
  obtain ⟨c0, c6, cs, hfw, hgw⟩ := HKP.out _ HF2.out
  go_wp2_with fail
  refine (HEXP.out _ _ _ w2 HW2.out (by have := HL.out; omega)).mono ?_
  rintro e w3 ⟨rfl, hw3, hf3⟩
  have HW3 := Lib.hid hw3; have HF3 := Lib.hid (HF2.out.trans hf3)
  clear hw3 hf3
  obtain ⟨c0, c6, cs, hfw, hgw⟩ := HKP.out _ HF3.out
  go_wp2_with fail
  refine (HPUT.out _ _ w3 HW3.out (by have h := HL.out; simp only [List.length_append, List.length_cons, List.length_nil]; omega)).mono ?_
  rintro e w4 ⟨rfl, hw4, hf4⟩
  rw [cat_eq3] at hw4
  have HW4 := Lib.hid hw4; have HF4 := Lib.hid (HF3.out.trans hf4)
  clear hw4 hf4
  obtain ⟨c0, c6, cs, hfw, hgw⟩ := HKP.out _ HF4.out
  go_wp2_with fail
  refine (HEXP.out _ _ _ w4 HW4.out (by have h := HL.out; simp only [List.length_append, List.length_cons, List.length_nil]; omega)).mono ?_
  rintro e w5 ⟨rfl, hw5, hf5⟩
  have HF5 := Lib.hid (HF4.out.trans hf5)
  have HW5 : Hid (WrAt S B b w5 (rows ++ [rowX gk ok (sa : Nat), rowB ([32] ++ sg ++ [32]), rowX gk (ok + 8) (sb : Nat)])) := Lib.hid (by
    simp only [List.append_assoc, List.cons_append, List.nil_append] at hw5 ⊢
    exact hw5)
  clear hw5 hf5
  go_wp2_with fail
  go_end0
  exact ⟨rfl, HW5.out, HF5.out⟩
end Go.Proofs.YtddccnpohpaofaaGreatDoor
namespace Go.Proofs.YtddccnpohpaofaaGreatDoor.Zd
open Go.RowKit Mx

set_option maxHeartbeats 400000 in
/-- length: how many binary digits. -/
theorem length_c (p : Option Addr) (n cap : Nat) (f : Nat → Nat) (w : World) (hn : n ≤ 1099511627776) (h : At .u64 w p n f) (hf : ∀ j, j < n → f j < Bw) (t : n = 0 ∨ f (n - 1) ≠ 0) :
    Calls Tryz.prog 132 #[.slice p n cap] w (LenPost (V Bw f 0 n) w) := by
  by_cases h0 : n = 0
  · subst h0
    have hfin : LenPost (V Bw f 0 0) w (.returned (.int .i64 0)) w := ⟨0, rfl, fun _ => rfl, fun h => absurd rfl h, rfl⟩
    have HFIN := Lib.hid hfin
    clear hfin hf
    go_enter Tryz.func132, Tryz.ntmps132
    go_wp2
    go_ret
    exact HFIN.out
  · rcases h with h | ⟨g, off, rfl, hg, hc⟩
    · omega
    obtain ⟨m, rfl⟩ : ∃ m, n = m + 1 := ⟨n - 1, by omega⟩
    have hcell := hc m (by omega)
    have ht : f m ≠ 0 := by simpa using t
    have hfm : f m < 18446744073709551616 := hf m (by omega)
    obtain ⟨a, b, c⟩ := bitLenAux_b 64 (f m) hfm
    have b := b ht
    change f m < 2 ^ Go.Lib.bitLen (f m) at a
    change 2 ^ Go.Lib.bitLen (f m) ≤ 2 * f m at b
    change Go.Lib.bitLen (f m) ≤ 64 at c
    have hcc : ∀ w, Calls Tryz.prog 142 #[.int .u64 (f m)] w fun e w' => e = .returned (.int .i64 (Go.Lib.bitLen (f m))) ∧ w = w' := by
      intro w
      refine (Tryz.bits_Len64 (f m : Int) w (by omega) (by omega)).mono ?_
      rintro e w' ⟨rfl, rfl⟩
      exact ⟨by rw [Int.toNat_natCast], rfl⟩
    generalize Go.Lib.bitLen (f m) = L at *
    have hpos : 0 < L := by
      rcases Nat.eq_zero_or_pos L with e | e
      · subst e; omega
      · exact e
    have hB : Bw ^ m = 2 ^ (64 * m) := by rw [Nat.pow_mul]; rfl
    have hlow : V Bw f 0 m < Bw ^ m := V_lt (fun j hj => by simpa using hf j (by omega))
    have hfin : LenPost (V Bw f 0 (m + 1)) w (.returned (.int .i64 (64 * (m : Int) + L))) w := by
      have hv : V Bw f 0 (m + 1) = V Bw f 0 m + f m * Bw ^ m := by rw [V_succ, Nat.zero_add]
      rw [hv]
      rw [hB] at hlow ⊢
      have hp : 0 < 2 ^ (64 * m) := Nat.pow_pos (by omega)
      have k1 : 1 * 2 ^ (64 * m) ≤ f m * 2 ^ (64 * m) := Nat.mul_le_mul_right _ (by omega)
      refine ⟨64 * m + L, by simp, fun e => by omega, fun _ => ⟨?_, ?_, by omega⟩, rfl⟩
      · have e1 : 2 ^ (64 * m + L - 1) = 2 ^ (L - 1) * 2 ^ (64 * m) := by rw [← Nat.pow_add]; congr 1; omega
        have e2 : 2 ^ L = 2 * 2 ^ (L - 1) := by rw [← Nat.pow_succ']; congr 1; omega
        have : 2 ^ (L - 1) * 2 ^ (64 * m) ≤ f m * 2 ^ (64 * m) := Nat.mul_le_mul_right _ (by omega)
        omega
      · have e1 : 2 ^ (64 * m + L) = 2 ^ L * 2 ^ (64 * m) := by rw [← Nat.pow_add]; congr 1; omega
        have : (f m + 1) * 2 ^ (64 * m) ≤ 2 ^ L * 2 ^ (64 * m) := Nat.mul_le_mul_right _ (by omega)
        rw [Nat.add_mul] at this
        omega
    have HFIN := Lib.hid hfin
    have HCC := Lib.hid hcc
    clear hfin hcc hf hc a b t hlow hB
    go_enter Tryz.func132, Tryz.ntmps132
    go_wp2_with (go_at_call 142; refine (HCC.out _).mono ?_; rintro e w' ⟨rfl, rfl⟩)
    go_ret
    exact HFIN.out
def sg (Z : Int) : Int := if Z < 0 then -1 else if Z = 0 then 0 else 1

set_option maxHeartbeats 400000 in
theorem Sign_c (x : Value) (Z : Int) (w : World) (h : IsInt w x Z) : Calls Tryz.prog 115 #[x] w (ValPost (.int .i64 (sg Z)) w) := by
  obtain ⟨s, p, n, cap, f, rfl, h1, h2, h3, h4, h5, h6, rfl⟩ := int_open h
  have hg := World.grownBy_alloc w (.cells #[.bool s, .slice p n cap] 27) none
  by_cases hn : n = 0
  · subst hn
    have hfin : ValPost (.int .i64 (sg (sgn s (V Bw f 0 0)))) w (.returned (.int .i64 0)) (w.alloc (.cells #[.bool s, .slice p 0 cap] 27)) := ⟨by cases s <;> simp [sg, sgn, V], hg⟩
    have HFIN := Lib.hid hfin
    clear hfin h h3 h4 h5 h6 hg
    go_enter Tryz.func115, Tryz.ntmps115
    go_wp2
    go_ret
    exact HFIN.out
  · have hv := (num_len h5).1 (by omega)
    have hne : ((n : Int) == 0) = false := beq_eq_false_iff_ne.2 (by omega)
    cases s
    · have hfin : ValPost (.int .i64 (sg (sgn false (V Bw f 0 n)))) w (.returned (.int .i64 1)) (w.alloc (.cells #[.bool false, .slice p n cap] 27)) := ⟨by
        have : sg (sgn false (V Bw f 0 n)) = 1 := by simp only [sg, sgn]; simp; omega
        rw [this], hg⟩
      have HFIN := Lib.hid hfin
      clear hfin h h3 h4 h5 h6 hg hv
      go_enter Tryz.func115, Tryz.ntmps115
      go_wp2
      go_ret
      exact HFIN.out
    · have hfin : ValPost (.int .i64 (sg (sgn true (V Bw f 0 n)))) w (.returned (.int .i64 (-1))) (w.alloc (.cells #[.bool true, .slice p n cap] 27)) := ⟨by
        have : sg (sgn true (V Bw f 0 n)) = -1 := by simp only [sg, sgn]; simp; omega
        rw [this], hg⟩
      have HFIN := Lib.hid hfin
      clear hfin h h3 h4 h5 h6 hg hv
      go_enter Tryz.func115, Tryz.ntmps115
      go_wp2
      go_ret
      exact HFIN.out

set_option maxHeartbeats 400000 in
theorem Bits_c (x : Value) (Z : Int) (w : World) (h : IsInt w x Z) (hZ : Z.natAbs < Lim) : Calls Tryz.prog 116 #[x] w fun e w' => ∃ n : Nat, e = .returned (.int .i64 n) ∧ (Z = 0 → n = 0) ∧ (Z ≠ 0 → 2 ^ (n - 1) ≤ Z.natAbs ∧ Z.natAbs < 2 ^ n ∧ 0 < n) ∧ w.grownBy w' none := by
  obtain ⟨s, p, n, cap, f, rfl, h1, h2, h3, h4, h5, h6, rfl⟩ := int_open h
  have hg := World.grownBy_alloc w (.cells #[.bool s, .slice p n cap] 27) none
  have hab : (sgn s (V Bw f 0 n)).natAbs = V Bw f 0 n := by cases s <;> simp [sgn]
  rw [hab] at hZ
  have hn := lim_len h5 hZ
  unfold LimN at hn
  have HC := Lib.hid (length_c p n cap f _ (by omega) (h3.grown hg (by simp)) h4 h5)
  have HG := Lib.hid hg
  have HAB := Lib.hid hab
  clear h hg h3 h4 h5 h6 hZ hab
  go_enter Tryz.func116, Tryz.ntmps116
  go_wp2_with (go_at_call 132; refine HC.out.mono ?_; rintro e w1 ⟨k, rfl, hk1, hk2, rfl⟩; have HK1 := Lib.hid hk1; have HK2 := Lib.hid hk2; clear hk1 hk2)
  go_ret
  refine ⟨k, rfl, fun e => HK1.out ?_, fun e => ?_, HG.out⟩
  · rw [← HAB.out, e]; rfl
  · rw [HAB.out]; exact HK2.out (by intro e2; apply e; rw [e2]; cases s <;> rfl)

end Go.Proofs.YtddccnpohpaofaaGreatDoor.Zd
namespace Go.Proofs.YtddccnpohpaofaaGreatDoor
open Go.RowKit

theorem decL_len (N : Nat) : (Zd.decL N).length = Zd.nd N := by simp [Zd.decL]
theorem txt_small {Z : Int} (h0 : 0 ≤ Z) (h : (Zd.txtL Z).length ≤ 60) : Z.natAbs < 10 ^ 60 := by
  by_cases hz : Z = 0
  · subst hz; exact Nat.pow_pos (by omega)
  · have e : Zd.txtL Z = Zd.decL Z.natAbs := by unfold Zd.txtL; rw [if_neg hz, if_neg (by omega)]
    rw [e, decL_len] at h
    exact Nat.lt_of_lt_of_le (Zd.nd_lt _) (Nat.pow_le_pow_right (by omega) h)
theorem ten_two : 10 ^ 60 ≤ 2 ^ 200 := by decide
theorem bits_small {N n : Nat} (h : N < 10 ^ 60) (h2 : 2 ^ (n - 1) ≤ N) : n ≤ 240 := by
  have h3 : 2 ^ (n - 1) < 2 ^ 200 := Nat.lt_of_le_of_lt h2 (Nat.lt_of_lt_of_le h ten_two)
  have h4 := (Nat.pow_lt_pow_iff_right (by omega : 1 < 2)).1 h3
  omega
theorem sg_zero (Z : Int) : (Zd.sg Z == 0) = decide (Z = 0) := by
  unfold Zd.sg
  by_cases h : Z = 0
  · subst h; rfl
  · rw [decide_eq_false h]
    split
    · rfl
    · rfl
theorem sg_pos (Z : Int) : decide (0 ≤ Zd.sg Z) = decide (0 ≤ Z) := by
  unfold Zd.sg
  by_cases h : Z < 0
  · rw [if_pos h, decide_eq_false (by omega : ¬ 0 ≤ Z)]; rfl
  · rw [if_neg h, decide_eq_true (by omega : 0 ≤ Z)]; split <;> rfl
set_option maxRecDepth 100000 in
set_option maxHeartbeats 16000000 in
theorem num_other (op : Int) (hop : op ≠ 1) (g off : Nat) (nu : Int) (s : Bool) (pw : Option Addr) (nw cw : Nat) (w : World) (c0 : w.cell? ⟨g, off, none⟩ = some (.int .i64 op)) (c3 : w.cell? ⟨g, off + 3, none⟩ = some (.bool s)) (c4 : w.cell? ⟨g, off + 4, none⟩ = some (.slice pw nw cw)) (hi : Zd.IsInt w (.agg #[.bool s, .slice pw nw cw]) nu) :
    Calls Tryz.prog 93 #[.pointer (some ⟨g, off, none⟩)] w (TruePost (decide (nu = 0)) w) := by
  have HS := Lib.hid (Zd.Sign_c _ nu w hi)
  have d1 : (op == 1) = false := beq_eq_false_iff_ne.2 hop
  have d1' : (op != 1) = true := by rw [bne, d1]; rfl
  have c4' : w.cell? ⟨g, off + 3 + 1, none⟩ = some (.slice pw nw cw) := c4
  have HZ := Lib.hid (sg_zero nu)
  clear hi hop
  go_enter Tryz.func93, Tryz.ntmps93
  go_wp2_with fail
  refine HS.out.mono ?_
  rintro e w1 ⟨rfl, hg⟩
  have HG := Lib.hid hg
  clear hg
  go_wp2_with fail
  go_ret
  exact ⟨by rw [← HZ.out]; rfl, HG.out⟩
set_option maxRecDepth 100000 in
set_option maxHeartbeats 16000000 in
theorem num_lit (g off : Nat) (nu : Int) (s : Bool) (pw : Option Addr) (nw cw : Nat) (w : World) (c0 : w.cell? ⟨g, off, none⟩ = some (.int .i64 1)) (c3 : w.cell? ⟨g, off + 3, none⟩ = some (.bool s)) (c4 : w.cell? ⟨g, off + 4, none⟩ = some (.slice pw nw cw)) (hi : Zd.IsInt w (.agg #[.bool s, .slice pw nw cw]) nu) (hZ : nu.natAbs < Zd.Lim) :
    Calls Tryz.prog 93 #[.pointer (some ⟨g, off, none⟩)] w (TruePost (decide (0 ≤ nu) && decide ((Zd.txtL nu).length ≤ 60)) w) := by
  have HS := Lib.hid (Zd.Sign_c _ nu w hi)
  have HB := Lib.hid (fun W (h : w.grownBy W none) => Zd.Bits_c _ nu W (hi.kept h) hZ)
  have HT := Lib.hid (fun W (h : w.grownBy W none) => Zd.String_c _ nu W (hi.kept h) hZ)
  have HP := Lib.hid (sg_pos nu)
  have HSM := Lib.hid (fun h0 h => @txt_small nu h0 h)
  have c4' : w.cell? ⟨g, off + 3 + 1, none⟩ = some (.slice pw nw cw) := c4
  have HC3 := Lib.hid c3
  have HC4 := Lib.hid c4'
  have HX0 := Lib.hid c0
  clear hi hZ
  by_cases h0 : 0 ≤ nu
  · have d0 : decide (0 ≤ Zd.sg nu) = true := by rw [HP.out]; exact decide_eq_true h0
    rw [decide_eq_true h0]
    have HH0 := Lib.hid h0
    obtain ⟨sz, hsz⟩ : ∃ z, Zd.sg nu = z := ⟨_, rfl⟩
    rw [hsz] at HS d0
    obtain ⟨TX, hTX⟩ : ∃ z, Zd.txtL nu = z := ⟨_, rfl⟩
    have HTX := Lib.hid hTX
    have HV : Hid (Zd.txt nu = .string ⟨TX.toArray⟩) := Lib.hid (by unfold Zd.txt; rw [hTX])
    rw [hTX] at HSM ⊢
    clear h0 hsz HP hTX
    go_enter Tryz.func93, Tryz.ntmps93
    go_wp2_with fail
    refine HS.out.mono ?_
    rintro e w1 ⟨rfl, hg⟩
    have HG := Lib.hid hg
    have c3 := hg.cell HC3.out (by simp)
    have c4 := hg.cell HC4.out (by simp)
    clear hg
    go_wp2_with fail
    refine (HB.out _ HG.out).mono ?_
    rintro e w2 ⟨n, rfl, hn0, hn1, hg2⟩
    have HG2 := Lib.hid (gb_trans HG.out hg2)
    have c3 := HG2.out.cell HC3.out (by simp)
    have c4 := HG2.out.cell HC4.out (by simp)
    have HN0 := Lib.hid hn0; have HN1 := Lib.hid hn1
    clear hg2 hn0 hn1
    by_cases hn : n ≤ 240
    · have e1 : decide ((n : Int) ≤ 240) = true := decide_eq_true (by omega)
      have e2 : decide (n ≤ 240) = true := decide_eq_true hn
      clear hn
      go_wp2_with fail
      refine (HT.out _ HG2.out).mono ?_
      rintro e w3 ⟨rfl, hg3⟩
      have HG3 := Lib.hid (gb_trans HG2.out hg3)
      rw [HV.out]
      clear hg3
      have HL : Hid (decide ((TX.length : Int) ≤ 60) = decide (TX.length ≤ 60)) := Lib.hid (nat_ble TX.length 60)
      go_wp2_with fail
      go_ret
      exact ⟨by rw [Bool.true_and, ← HL.out]; rfl, HG3.out⟩
    · have e1 : decide ((n : Int) ≤ 240) = false := decide_eq_false (by omega)
      have e2 : decide (n ≤ 240) = false := decide_eq_false hn
      have hb : decide (TX.length ≤ 60) = false := decide_eq_false (fun h => by
        have h1 := HSM.out HH0.out h
        by_cases hz : nu = 0
        · have := HN0.out hz; omega
        · exact hn (bits_small h1 (HN1.out hz).1))
      have HBF := Lib.hid hb
      clear hn hb
      go_wp2_with fail
      go_ret
      exact ⟨by rw [HBF.out]; simp, HG2.out⟩
  · have d0 : decide (0 ≤ Zd.sg nu) = false := by rw [HP.out]; exact decide_eq_false h0
    rw [decide_eq_false h0]
    obtain ⟨sz, hsz⟩ : ∃ z, Zd.sg nu = z := ⟨_, rfl⟩
    rw [hsz] at HS d0
    clear h0 hsz HP
    go_enter Tryz.func93, Tryz.ntmps93
    go_wp2_with fail
    refine HS.out.mono ?_
    rintro e w1 ⟨rfl, hg⟩
    have HG := Lib.hid hg
    clear hg
    go_wp2_with fail
    go_ret
    exact ⟨by simp, HG.out⟩
theorem rightNumber_c (F : Nat → Prop) (a : Addr) (op : Int) (nm md : List UInt8) (nu : Int) (ys : Bool) (ks : List Sx) (ps : Int) (q : List Value) (w : World) (hc : CAt w a q) (hx : SAt F w (.mk op nm md nu ys ks ps) q) (hZ : nu.natAbs < Zd.Lim) :
    Calls Tryz.prog 93 #[.pointer (some a)] w (TruePost (numB op nu) w) := by
  simp only [SAt] at hx
  obtain ⟨s, pw, nw, cw, pk, ck, rows, rfl, hi, -⟩ := hx
  obtain ⟨g, off, rfl, hg, hc⟩ := hc
  have c0 := hc 0 _ rfl
  have c3 := hc 3 _ rfl
  have c4 := hc 4 _ rfl
  rw [Nat.add_zero] at c0
  unfold numB
  by_cases h1 : op = 1
  · subst h1; rw [if_pos rfl]; exact num_lit g off nu s pw nw cw w c0 c3 c4 hi hZ
  · rw [if_neg h1]; exact num_other op h1 g off nu s pw nw cw w c0 c3 c4 hi

def fbT (ys : Bool) : List UInt8 := if ys then [116, 114, 117, 101] else [102, 97, 108, 115, 101]
set_option maxRecDepth 100000 in
set_option maxHeartbeats 16000000 in
theorem bare_lit (S : Nat → Prop) (B b : Nat) (rows : List (List Value)) (fg fo : Nat) (nu : Int) (s : Bool) (pw : Option Addr) (nw cw : Nat) (w : World) (h : WrAt S B b w rows) (hl : rows.length ≤ 700000)
    (c0 : w.cell? ⟨fg, fo, none⟩ = some (.int .i64 1)) (c3 : w.cell? ⟨fg, fo + 3, none⟩ = some (.bool s)) (c4 : w.cell? ⟨fg, fo + 4, none⟩ = some (.slice pw nw cw)) (hi : Zd.IsInt w (.agg #[.bool s, .slice pw nw cw]) nu) (hZ : nu.natAbs < Zd.Lim) :
    Calls Tryz.prog 95 #[.pointer (some ⟨b, 0, none⟩), .pointer (some ⟨fg, fo, none⟩)] w (PcPost S B b (rows ++ [rowB (Zd.txtL nu)]) w) := by
  have HPUT := Lib.hid (fun rows s W h h2 => put_c9 S B b rows s W h h2)
  have HT := Lib.hid (Zd.String_c _ nu w hi hZ)
  have HW := Lib.hid h; have HL := Lib.hid hl
  have c4' : w.cell? ⟨fg, fo + 3 + 1, none⟩ = some (.slice pw nw cw) := c4
  obtain ⟨TX, hTX⟩ : ∃ z, Zd.txtL nu = z := ⟨_, rfl⟩
  have HV : Hid (Zd.txt nu = .string ⟨TX.toArray⟩) := Lib.hid (by unfold Zd.txt; rw [hTX])
  rw [hTX]
  clear h hl hi hZ hTX
  go_enter Tryz.func95, Tryz.ntmps95
  go_wp2_with fail
  refine HT.out.mono ?_
  rintro e w1 ⟨rfl, hg⟩
  rw [HV.out]
  have HG := Lib.hid hg
  clear hg
  go_wp2_with fail
  refine (HPUT.out _ _ w1 (HW.out.kept HG.out) (by have := HL.out; omega)).mono ?_
  rintro e w2 ⟨rfl, hw2, hf2⟩
  have HW2 := Lib.hid hw2; have HF2 := Lib.hid ((Fr2.none HG.out).trans hf2)
  clear hw2 hf2
  go_wp2_with fail
  go_end0
  exact ⟨rfl, HW2.out, HF2.out⟩
set_option maxRecDepth 100000 in
set_option maxHeartbeats 16000000 in
theorem bare_truth (S : Nat → Prop) (B b : Nat) (rows : List (List Value)) (fg fo : Nat) (ys : Bool) (w : World) (h : WrAt S B b w rows) (hl : rows.length ≤ 700000)
    (c0 : w.cell? ⟨fg, fo, none⟩ = some (.int .i64 2)) (c5 : w.cell? ⟨fg, fo + 5, none⟩ = some (.bool ys)) :
    Calls Tryz.prog 95 #[.pointer (some ⟨b, 0, none⟩), .pointer (some ⟨fg, fo, none⟩)] w (PcPost S B b (rows ++ [rowB (fbT ys)]) w) := by
  have HP := Lib.hid (put_c9 S B b rows ⟨(fbT ys).toArray⟩ w h (by omega))
  have HFB : Hid (Calls Tryz.prog 53 #[.bool ys] w fun e w' => e = .returned (.string ⟨(fbT ys).toArray⟩) ∧ w' = w) := Lib.hid (by
    have h := Tryz.strconv_FormatBool ys w
    have e : Lib.formatBool ys = fbT ys := by cases ys <;> rfl
    rw [e] at h; exact h)
  clear h hl
  go_enter Tryz.func95, Tryz.ntmps95
  go_wp2_with fail
  refine HFB.out.mono ?_
  rintro e w1 ⟨rfl, rfl⟩
  go_wp2_with fail
  refine HP.out.mono ?_
  rintro e w2 ⟨rfl, hw2, hf2⟩
  have HW2 := Lib.hid hw2; have HF2 := Lib.hid hf2
  clear hw2 hf2
  go_wp2_with fail
  go_end0
  exact ⟨rfl, HW2.out, HF2.out⟩
set_option maxRecDepth 100000 in
set_option maxHeartbeats 16000000 in
theorem bare_word (S : Nat → Prop) (B b : Nat) (rows : List (List Value)) (fg fo : Nat) (nm : List UInt8) (op : Int) (hop : op = 3 ∨ op = 4) (w : World) (h : WrAt S B b w rows) (hl : rows.length ≤ 700000)
    (c0 : w.cell? ⟨fg, fo, none⟩ = some (.int .i64 op)) (c1 : w.cell? ⟨fg, fo + 1, none⟩ = some (.string ⟨nm.toArray⟩)) :
    Calls Tryz.prog 95 #[.pointer (some ⟨b, 0, none⟩), .pointer (some ⟨fg, fo, none⟩)] w (PcPost S B b (rows ++ [rowB (if op = 3 then nm else [114, 101, 115])]) w) := by
  have HP := Lib.hid (fun s => put_c9 S B b rows s w h (by omega))
  clear h hl
  rcases hop with rfl | rfl
  all_goals
    go_enter Tryz.func95, Tryz.ntmps95
    go_wp2_with fail
    refine (HP.out _).mono ?_
    rintro e w2 ⟨rfl, hw2, hf2⟩
    have HW2 := Lib.hid hw2; have HF2 := Lib.hid hf2
    clear hw2 hf2
    go_wp2_with fail
    go_end0
    exact ⟨rfl, HW2.out, HF2.out⟩
set_option maxRecDepth 100000 in
set_option maxHeartbeats 16000000 in
theorem bare_one (S : Nat → Prop) (B b : Nat) (rows : List (List Value)) (fg fo gk ok ck : Nat) (op : Int) (hop : op = 5 ∨ op = 6) (w : World) (h : WrAt S B b w rows) (hl : rows.length ≤ 700000) (hSf : S fg)
    (c0 : w.cell? ⟨fg, fo, none⟩ = some (.int .i64 op)) (c6 : w.cell? ⟨fg, fo + 6, none⟩ = some (.slice (some ⟨gk, ok, none⟩) 1 ck)) :
    Calls Tryz.prog 95 #[.pointer (some ⟨b, 0, none⟩), .pointer (some ⟨fg, fo, none⟩)] w (PcPost S B b (rows ++ [rowB (if op = 5 then [45] else [110, 111, 116, 32]), rowX gk ok (if op = 5 then 9 else 4)]) w) := by
  have HP := Lib.hid (fun s => put_c9 S B b rows s w h (by omega))
  have HEXP := Lib.hid (fun rows a (l : Int) W h h2 => expr_c9 S B b rows a l W h h2)
  have hfgw : fg < w.heap.size := by obtain ⟨v, -, -, -, -, -, -, hh⟩ := h; exact hh _ hSf
  have HKP : Hid (∀ W', Fr2 (fun k => ¬ S k) w W' → W'.cell? ⟨fg, fo + 6, none⟩ = some (.slice (some ⟨gk, ok, none⟩) 1 ck) ∧ fg < W'.heap.size) := Lib.hid (fun W' hf =>
    ⟨by rw [World.cell?_of_block (w := w) (hf.block fg hfgw (fun e => e hSf))]; exact c6, Nat.lt_of_lt_of_le hfgw hf.size⟩)
  have HL := Lib.hid hl
  clear h hl hSf
  rcases hop with rfl | rfl
  all_goals
    go_enter Tryz.func95, Tryz.ntmps95
    go_wp2_with fail
    refine (HP.out _).mono ?_
    rintro e w2 ⟨rfl, hw2, hf2⟩
    have HW2 := Lib.hid hw2; have HF2 := Lib.hid hf2
    obtain ⟨c6, hfw⟩ := HKP.out _ HF2.out
    clear hw2 hf2
    go_wp2_with fail
    refine (HEXP.out _ _ _ w2 HW2.out (by have h := HL.out; simp only [List.length_append, List.length_cons, List.length_nil]; omega)).mono ?_
    rintro e w3 ⟨rfl, hw3, hf3⟩
    simp only [List.append_assoc, List.cons_append, List.nil_append] at hw3
    have HW3 := Lib.hid hw3; have HF3 := Lib.hid (HF2.out.trans hf3)
    clear hw3 hf3
    go_wp2_with fail
    go_end0
    exact ⟨rfl, HW3.out, HF3.out⟩
end Go.Proofs.YtddccnpohpaofaaGreatDoor
