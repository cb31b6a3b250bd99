/- What Parse and Formula answer, as trees that are right and have the document's dump. -/
import Derived.Test.YthclkbaankjbiaaGreatDoorPRead
import Derived.Test.YthclkbaankjbiaaGreatDoorM49
import Derived.Test.YthclkbaankjbiaaGreatDoorUDump
import Derived.Deep.RegionHeld3
namespace Go.Proofs.YthclkbaankjbiaaGreatDoor
open Go.RowKit

structure TreeF (l : List UInt8) (D : Int) (f : Bool) : Prop where
  lex : (allE l).2.1 = 0
  right : rightT (allE l).1.length (nodesQ l D f)
  dump : dp ((allE l).1.map toI) (nodesQ l D f) ((nodesQ l D f).length - 1) = (ansQ l D f).1
  bare : EndsBare (allE l).1
  root : ∃ ks, (nodesQ l D f)[(nodesQ l D f).length - 1]? = some ⟨(kindR f : Int), -1, ks⟩
  short : (ansQ l D f).1.length ≤ 5 * (nodesQ l D f).length + l.length + (allE l).1.length
theorem tree_facts {l : List UInt8} {D : Int} {f : Bool} (hl : l.length ≤ 10000) (h : (ansQ l D f).2.1 = 0) : TreeF l D f := by
  have hr : ¬ (D < 1 ∨ 200 < D) := fun e => by
    unfold ansQ at h; rw [if_pos e] at h; cases h
  have hx : (allE l).2.1 = 0 := by
    rcases Nat.eq_zero_or_pos (allE l).2.1 with h9 | h9
    · exact h9
    · rw [ans_lex hr (by omega) (by omega)] at h
      have h : (allE l).2.1 = 0 := h
      omega
  have ht : (treeT (allE l).1 D.toNat f).2.e = 0 := by
    have h9 := ans_good (f := f) hr (by omega) hx
    rcases Nat.eq_zero_or_pos (treeT (allE l).1 D.toNat f).2.e with h8 | h8
    · exact h8
    · rw [if_neg (by omega)] at h9
      rw [h9] at h
      have h : (treeT (allE l).1 D.toNat f).2.e = 0 := h
      omega
  have hk : kOk (.nd (kindR f) (treeT (allE l).1 D.toNat f).1) := by
    have := tree_ko (allE l).1 D.toNat f
    simp only [kOk]
    refine ⟨?_, ?_, this⟩ <;> (unfold kindR; split <;> decide)
  have hlv : lvT (.nd (kindR f) (treeT (allE l).1 D.toNat f).1) = List.range (allE l).1.length := by
    simp only [lvT]; exact tree_leaves hx D.toNat f ht
  have hb : EndsBare (allE l).1 := fun t ht hk5 => by
    obtain ⟨i, hi⟩ := List.getElem?_of_mem ht
    have := (place_all hx).1 i t hi
    exact this.2.2.2 hk5
  have hans : (ansQ l D f).1 = dmp (allE l).1 (.nd (kindR f) (treeT (allE l).1 D.toNat f).1) := by
    unfold ansQ
    rw [if_neg hr, parse_good (by omega) hx, if_pos ht]
    rfl
  refine ⟨hx, post_right hk hlv, by rw [hans]; exact post_dump hb hk hlv, hb, ?_, ?_⟩
  · refine ⟨idxs 0 (treeT (allE l).1 D.toNat f).1, ?_⟩
    unfold nodesQ
    rw [post_len]
    simp only [post, szR]
    rw [Nat.add_sub_cancel, List.getElem?_append_right (by rw [posts_len]; exact Nat.le_refl _), posts_len]
    simp
  · have h1 := dmp_len (allE l).1 (.nd (kindR f) (treeT (allE l).1 D.toNat f).1)
    have h2 := toks_sum (allE l).1
    rw [hlv] at h1
    rw [whole_all hx] at h2
    rw [hans]
    unfold nodesQ
    rw [post_len]
    omega
theorem dump_tree {l : List UInt8} {D : Int} {f : Bool} (hl : l.length ≤ 2000) (h : (ansQ l D f).2.1 = 0) {w : World} {pt pn : Option Addr} {ct cn : Nat} {K : Kf} (ht : TAt w pt (allE l).1) (hn : NodesAt w pn (nodesQ l D f) K) (hN : (nodesQ l D f).length ≤ 2 * (allE l).1.length) :
    Calls Tryz.prog 16 #[.agg #[.slice pt (allE l).1.length ct, .slice pn (nodesQ l D f).length cn], .int .i64 (((nodesQ l D f).length - 1 : Nat) : Int)] w (DumpOk (ansQ l D f).1 w) := by
  have hF := tree_facts (by omega) h
  have h1 := len_all hF.lex
  have h0 : 0 < (nodesQ l D f).length := List.length_pos_iff.2 hF.right.1.1
  rw [← hF.dump]
  exact Dump_c (allE l).1 (nodesQ l D f) K hF.right (by omega) (by omega) hF.bare pt pn ct cn _ (by omega) (by rw [hF.dump]; have := hF.short; omega) w ht hn
theorem root_tree {l : List UInt8} {D : Int} {f : Bool} (hl : l.length ≤ 2000) (h : (ansQ l D f).2.1 = 0) (hN : (nodesQ l D f).length ≤ 2 * (allE l).1.length) (w : World) (pt pn : Option Addr) (ct cn : Nat) :
    Calls Tryz.prog 15 #[.agg #[.slice pt (allE l).1.length ct, .slice pn (nodesQ l D f).length cn]] w (ValPost (.int .i64 (((nodesQ l D f).length - 1 : Nat) : Int)) w) := by
  have hF := tree_facts (by omega) h
  have h1 := len_all hF.lex
  exact Root_c pt pn _ ct _ cn (List.length_pos_iff.2 hF.right.1.1) (by omega) w
end Go.Proofs.YthclkbaankjbiaaGreatDoor
namespace Go.Proofs.YthclkbaankjbiaaGreatDoor
open Go.RowKit

/-! ### told -/

set_option maxRecDepth 100000 in
set_option maxHeartbeats 4000000 in
theorem told_bad (e p : Nat) (x : ByteArray) (w : World) (he : e ≠ 0) : Calls Tryz.prog 11 #[.agg #[.slice none 0 0, .slice none 0 0], .agg #[.int .i64 (e : Int), .int .i64 (p : Int)], .string x, .int .i64 (e : Int), .int .i64 (p : Int)] w (ValPost (.bool true) w) := by
  have e1 : ((e : Int) != 0) = true := bne_iff_ne.2 (by omega)
  have e1' : (e != 0) = true := bne_iff_ne.2 he
  clear he
  go_enter Tryz.func11, Tryz.ntmps11
  go_wp2_with fail
  go_ret
  exact ⟨by first | rfl | simp, by repeat (first | with_reducible exact gb_refl _ _ | with_reducible refine gb_drewN ?_ _ | with_reducible refine gb_drew ?_ | with_reducible refine gb_alloc ?_ _)⟩

set_option maxRecDepth 100000 in
set_option maxHeartbeats 8000000 in
theorem told_good {l : List UInt8} {D : Int} {f : Bool} (hl : l.length ≤ 2000) (h : (ansQ l D f).2.1 = 0) {w : World} {pt pn : Option Addr} {ct cn : Nat} {K : Kf} (ht : TAt w pt (allE l).1) (hn : NodesAt w pn (nodesQ l D f) K) (hN : (nodesQ l D f).length ≤ 2 * (allE l).1.length) (x : ByteArray) (hx : x.data.toList = (ansQ l D f).1) (p : Int) :
    Calls Tryz.prog 11 #[.agg #[.slice pt (allE l).1.length ct, .slice pn (nodesQ l D f).length cn], .agg #[.int .i64 0, .int .i64 0], .string x, .int .i64 0, .int .i64 p] w (ValPost (.bool true) w) := by
  have HDM := Lib.hid (fun W (h1 : TAt W pt (allE l).1) (h2 : NodesAt W pn (nodesQ l D f) K) => dump_tree hl h h1 h2 hN (ct := ct) (cn := cn))
  have HRT := Lib.hid (fun W => root_tree hl h hN W pt pn ct cn)
  have HTA := Lib.hid ht; have HNA := Lib.hid hn; have HX := Lib.hid hx
  obtain ⟨m, hm⟩ : ∃ m, (allE l).1.length = m := ⟨_, rfl⟩
  obtain ⟨M, hM⟩ : ∃ M, (nodesQ l D f).length = M := ⟨_, rfl⟩
  rw [hm, hM] at HDM HRT ⊢
  obtain ⟨R, hR⟩ : ∃ R, M - 1 = R := ⟨_, rfl⟩
  rw [hR] at HDM HRT
  obtain ⟨B, hB⟩ : ∃ B, w.heap.size = B := ⟨_, rfl⟩
  have HB := Lib.hid hB
  have HBX : Hid (((w.alloc (.cells #[.slice pt m ct, .slice pn M cn] 26)).alloc (.cells #[.int .i64 0, .int .i64 0] 29)).heap[B]? = some (.cells #[.slice pt m ct, .slice pn M cn] 26 (0, 0))) := Lib.hid (by rw [← hB]; exact bx (World.grownBy_alloc _ _ none) (heap_alloc_new w _))
  have HFX : Hid (((w.alloc (.cells #[.slice pt m ct, .slice pn M cn] 26)).alloc (.cells #[.int .i64 0, .int .i64 0] 29)).heap[B + 1]? = some (.cells #[.int .i64 0, .int .i64 0] 29 (0, 0))) := Lib.hid (by
    have h9 := heap_alloc_new (w.alloc (.cells #[.slice pt m ct, .slice pn M cn] 26)) (.cells #[.int .i64 0, .int .i64 0] 29)
    rw [show (w.alloc (.cells #[.slice pt m ct, .slice pn M cn] 26)).heap.size = B + 1 by simp [hB]] at h9
    exact h9)
  have HGW : Hid (w.grownBy ((w.alloc (.cells #[.slice pt m ct, .slice pn M cn] 26)).alloc (.cells #[.int .i64 0, .int .i64 0] 29)) none) := Lib.hid (gb_alloc (gb_alloc (gb_refl _ _) _) _)
  clear hl h ht hn hN hx hm hM hR
  go_enter Tryz.func11, Tryz.ntmps11
  go_wp2_with fail
  try rw [hB]
  clear hB
  generalize ((w.alloc (.cells #[.slice pt m ct, .slice pn M cn] 26)).alloc (.cells #[.int .i64 0, .int .i64 0] 29)) = W at *
  have HBX := Lib.hid (bx (gb_drew (gb_refl _ none)) HBX.out)
  have HFX := Lib.hid (bx (gb_drew (gb_refl _ none)) HFX.out)
  have HGW := Lib.hid (gb_drew HGW.out)
  go_region_held3 (fun w' => w'.cell? ⟨B, 0, none⟩ = some (.slice pt m ct) ∧ w'.cell? ⟨B, 1, none⟩ = some (.slice pn M cn)) (exact ⟨(cells2 HBX.out).1, (cells2 HBX.out).2.1⟩)
    (first
      | (go_at_call 15; refine (HRT.out _).mono ?_; rintro e w9 ⟨rfl, hg9⟩; have HBX := Lib.hid (bx hg9 HBX.out); have HFX := Lib.hid (bx hg9 HFX.out); have HGW := Lib.hid (gb_trans HGW.out hg9); clear hg9)
      | (go_at_call 16; refine (HDM.out _ (HTA.out.kept HGW.out) (HNA.out.kept HGW.out)).mono ?_; rintro e w9 ⟨hg9, y, rfl, hy⟩; have HBX := Lib.hid (bx hg9 HBX.out); have HFX := Lib.hid (bx hg9 HFX.out); have HGW := Lib.hid (gb_trans HGW.out hg9); have HY := Lib.hid hy; clear hg9 hy))
  all_goals
    obtain ⟨f0, f1, -⟩ := cells2 HFX.out
    have hyx : y = x := by
      have h9 := HY.out.trans HX.out.symm
      exact ByteArray.ext (Array.toList_inj.1 h9)
    subst hyx
    clear HY HX
    go_wp2_with fail
    go_ret
    exact ⟨by first | rfl | simp, HGW.out⟩
end Go.Proofs.YthclkbaankjbiaaGreatDoor
namespace Go.Proofs.YthclkbaankjbiaaGreatDoor
open Go.RowKit

def exP : List UInt8 := [102, 117, 110, 32, 102, 40, 120, 58, 105, 110, 116, 41, 58, 105, 110, 116, 61, 120, 43, 49, 59]
def exD : List UInt8 := [40, 49, 32, 40, 51, 32, 102, 117, 110, 32, 102, 32, 40, 32, 40, 52, 32, 120, 32, 58, 32, 40, 53, 32, 105, 110, 116, 41, 41, 32, 41, 32, 58, 32, 40, 53, 32, 105, 110, 116, 41, 32, 61, 32, 40, 49, 48, 32, 40, 49, 52, 32, 120, 41, 32, 43, 32, 40, 49, 53, 32, 49, 41, 41, 32, 59, 41, 32, 36, 41]
def exB : List UInt8 := [102, 117, 110, 32, 102, 40, 58]
theorem exP_ans : ansQ exP 1 false = (exD, 0, 0) := by kernel_rfl
theorem exB_ans : ansQ exB 9 false = ([], 22, 6) := by kernel_rfl

set_option maxRecDepth 100000 in
set_option maxHeartbeats 16000000 in
theorem anchor7_c (w : World) (hla : LaidE w) : Calls Tryz.prog 8 #[] w (ValPost (.bool true) w) := by
  have HP1 := Lib.hid (Parse_p ⟨#[102, 117, 110, 32, 102, 40, 120, 58, 105, 110, 116, 41, 58, 105, 110, 116, 61, 120, 43, 49, 59]⟩ 1 w (by decide) hla)
  have HP2 := Lib.hid (fun W h => Parse_p ⟨#[102, 117, 110, 32, 102, 40, 58]⟩ 9 W (by decide) h)
  have HLA := Lib.hid hla
  clear hla
  go_enter Tryz.func8, Tryz.ntmps8
  go_wp2_with fail
  refine HP1.out.mono ?_
  rintro e w1 ⟨hg1, he⟩
  have ha1 : ansQ (⟨#[102, 117, 110, 32, 102, 40, 120, 58, 105, 110, 116, 41, 58, 105, 110, 116, 61, 120, 43, 49, 59]⟩ : ByteArray).data.toList 1 false = (exD, 0, 0) := exP_ans
  rw [ha1, if_neg (by decide)] at he
  obtain ⟨pt, ct, pn, cn, K, rfl, hta, hct, hna, -, -, -, hN⟩ := he
  have HG1 := Lib.hid hg1
  have hz : (ansQ exP 1 false).2.1 = 0 := by rw [exP_ans]
  have HDM := Lib.hid (fun W (h1 : TAt W pt (allE exP).1) (h2 : NodesAt W pn (nodesQ exP 1 false) K) => dump_tree (l := exP) (by decide) hz h1 h2 hN (ct := ct) (cn := cn))
  have HRT := Lib.hid (fun W => root_tree (l := exP) (by decide) hz hN W pt pn ct cn)
  have HTA : Hid (TAt w1 pt (allE exP).1) := Lib.hid hta
  have HNA : Hid (NodesAt w1 pn (nodesQ exP 1 false) K) := Lib.hid hna
  obtain ⟨m, hm⟩ : ∃ m, (allE exP).1.length = m := ⟨_, rfl⟩
  obtain ⟨M, hM⟩ : ∃ M, (nodesQ exP 1 false).length = M := ⟨_, rfl⟩
  rw [hm, hM] at HDM HRT
  have hm' : (allE (⟨#[102, 117, 110, 32, 102, 40, 120, 58, 105, 110, 116, 41, 58, 105, 110, 116, 61, 120, 43, 49, 59]⟩ : ByteArray).data.toList).1.length = m := hm
  have hM' : (nodesQ (⟨#[102, 117, 110, 32, 102, 40, 120, 58, 105, 110, 116, 41, 58, 105, 110, 116, 61, 120, 43, 49, 59]⟩ : ByteArray).data.toList 1 false).length = M := hM
  rw [hm', hM']
  obtain ⟨R, hR⟩ : ∃ R, M - 1 = R := ⟨_, rfl⟩
  rw [hR] at HDM HRT
  obtain ⟨B, hB⟩ : ∃ B, w1.heap.size = B := ⟨_, rfl⟩
  have HB := Lib.hid hB
  have HBX : Hid (((w1.alloc (.cells #[.slice pt m ct, .slice pn M cn] 26)).alloc (.cells #[.int .i64 0, .int .i64 0] 29)).heap[B]? = some (.cells #[.slice pt m ct, .slice pn M cn] 26 (0, 0))) := Lib.hid (by rw [← hB]; exact bx (World.grownBy_alloc _ _ none) (heap_alloc_new w1 _))
  have HFX : Hid (((w1.alloc (.cells #[.slice pt m ct, .slice pn M cn] 26)).alloc (.cells #[.int .i64 0, .int .i64 0] 29)).heap[B + 1]? = some (.cells #[.int .i64 0, .int .i64 0] 29 (0, 0))) := Lib.hid (by
    have h9 := heap_alloc_new (w1.alloc (.cells #[.slice pt m ct, .slice pn M cn] 26)) (.cells #[.int .i64 0, .int .i64 0] 29)
    rw [show (w1.alloc (.cells #[.slice pt m ct, .slice pn M cn] 26)).heap.size = B + 1 by simp [hB]] at h9
    exact h9)
  have HGW : Hid (w1.grownBy ((w1.alloc (.cells #[.slice pt m ct, .slice pn M cn] 26)).alloc (.cells #[.int .i64 0, .int .i64 0] 29)) none) := Lib.hid (gb_alloc (gb_alloc (gb_refl _ _) _) _)
  clear hg1 ha1 hta hct hna hN hz hm hM hm' hM' hR HP1
  go_wp2_with fail
  try rw [hB]
  clear hB
  generalize ((w1.alloc (.cells #[.slice pt m ct, .slice pn M cn] 26)).alloc (.cells #[.int .i64 0, .int .i64 0] 29)) = W1 at *
  refine (HP2.out _ (HLA.out.kept (gb_trans HG1.out HGW.out))).mono ?_
  rintro e w2 ⟨hg2, he⟩
  have ha2 : ansQ (⟨#[102, 117, 110, 32, 102, 40, 58]⟩ : ByteArray).data.toList 9 false = ([], 22, 6) := exB_ans
  rw [ha2, if_pos (by decide)] at he
  subst he
  unfold badV
  have HBX := Lib.hid (bx hg2 HBX.out); have HFX := Lib.hid (bx hg2 HFX.out); have HGW := Lib.hid (gb_trans HGW.out hg2)
  obtain ⟨Z, hZ⟩ : ∃ Z, w2.heap.size = Z := ⟨_, rfl⟩
  have HZX : Hid (((w2.alloc (.cells #[.slice none 0 0, .slice none 0 0] 26)).alloc (.cells #[.int .i64 22, .int .i64 6] 29)).heap[Z + 1]? = some (.cells #[.int .i64 22, .int .i64 6] 29 (0, 0))) := Lib.hid (by
    have h9 := heap_alloc_new (w2.alloc (.cells #[.slice none 0 0, .slice none 0 0] 26)) (.cells #[.int .i64 22, .int .i64 6] 29)
    rw [show (w2.alloc (.cells #[.slice none 0 0, .slice none 0 0] 26)).heap.size = Z + 1 by simp [hZ]] at h9
    exact h9)
  have hga : w2.grownBy ((w2.alloc (.cells #[.slice none 0 0, .slice none 0 0] 26)).alloc (.cells #[.int .i64 22, .int .i64 6] 29)) none := gb_alloc (gb_alloc (gb_refl _ _) _) _
  have HBX := Lib.hid (bx hga HBX.out); have HFX := Lib.hid (bx hga HFX.out); have HGW := Lib.hid (gb_trans HGW.out hga)
  clear hg2 ha2 hga HP2
  go_wp2_with fail
  try rw [hZ]
  clear hZ
  generalize ((w2.alloc (.cells #[.slice none 0 0, .slice none 0 0] 26)).alloc (.cells #[.int .i64 22, .int .i64 6] 29)) = W2 at *
  have HBX := Lib.hid (bx (gb_drew (gb_refl _ none)) HBX.out); have HFX := Lib.hid (bx (gb_drew (gb_refl _ none)) HFX.out); have HZX := Lib.hid (bx (gb_drew (gb_refl _ none)) HZX.out); have HGW := Lib.hid (gb_drew HGW.out)
  go_region_held3 (fun w' => w'.cell? ⟨B, 0, none⟩ = some (.slice pt m ct) ∧ w'.cell? ⟨B, 1, none⟩ = some (.slice pn M cn)) (exact ⟨(cells2 HBX.out).1, (cells2 HBX.out).2.1⟩)
    (first
      | (go_at_call 15; refine (HRT.out _).mono ?_; rintro e w9 ⟨rfl, hg9⟩; have HBX := Lib.hid (bx hg9 HBX.out); have HFX := Lib.hid (bx hg9 HFX.out); have HZX := Lib.hid (bx hg9 HZX.out); have HGW := Lib.hid (gb_trans HGW.out hg9); clear hg9)
      | (go_at_call 16; refine (HDM.out _ (HTA.out.kept HGW.out) (HNA.out.kept HGW.out)).mono ?_; rintro e w9 ⟨hg9, y, rfl, hy⟩; have HBX := Lib.hid (bx hg9 HBX.out); have HFX := Lib.hid (bx hg9 HFX.out); have HZX := Lib.hid (bx hg9 HZX.out); have HGW := Lib.hid (gb_trans HGW.out hg9); have HY := Lib.hid hy; clear hg9 hy))
  all_goals
    obtain ⟨f0, f1, -⟩ := cells2 HFX.out
    obtain ⟨z0, z1, -⟩ := cells2 HZX.out
    have hyx : y = ⟨exD.toArray⟩ := by
      have h9 := HY.out
      rw [exP_ans] at h9
      exact ByteArray.ext (Array.toList_inj.1 h9)
    subst hyx
    clear HY
    go_wp2_with fail
    go_ret
    exact ⟨by first | rfl | (simp [exD]; done) | kernel_rfl, gb_trans HG1.out HGW.out⟩
end Go.Proofs.YthclkbaankjbiaaGreatDoor
namespace Go.Proofs.YthclkbaankjbiaaGreatDoor
open Go.RowKit

set_option maxRecDepth 100000 in
set_option maxHeartbeats 8000000 in
theorem tells_c (s : ByteArray) (D : Int) (w : World) (hla : LaidE w) : Calls Tryz.prog 3 #[.string s, .int .i64 D] w (ValPost (.bool true) w) := by
  have HAN := Lib.hid (anchor7_c w hla)
  have HLA := Lib.hid hla
  by_cases hbig : 1500 < s.size
  · have d1 : decide (1500 < s.size) = true := decide_eq_true hbig
    have d1' : decide ((1500 : Int) < (s.size : Int)) = true := decide_eq_true (by omega)
    clear hbig hla
    go_enter Tryz.func3, Tryz.ntmps3
    go_wp2_with fail
    refine HAN.out.mono ?_
    rintro e w0 ⟨rfl, hg0⟩
    have HG0 := Lib.hid hg0
    clear hg0
    go_wp2_with fail
    go_ret
    exact ⟨rfl, HG0.out⟩
  · have d1 : decide (1500 < s.size) = false := decide_eq_false hbig
    have d1' : decide ((1500 : Int) < (s.size : Int)) = false := decide_eq_false (by omega)
    have HP := Lib.hid (fun W h => Parse_p s D W (by omega) h)
    have HR := Lib.hid (fun W => RParse_any s D false W (by omega))
    obtain ⟨l, hl⟩ : ∃ l, s.data.toList = l := ⟨_, rfl⟩
    have HLL : Hid (l.length ≤ 2000) := Lib.hid (by rw [← hl, list_len]; omega)
    rw [hl] at HP HR
    clear hbig hla hl
    go_enter Tryz.func3, Tryz.ntmps3
    go_wp2_with fail
    refine HAN.out.mono ?_
    rintro e w0 ⟨rfl, hg0⟩
    have HG0 := Lib.hid hg0
    clear hg0 HAN
    go_wp2_with fail
    refine (HP.out _ (HLA.out.kept HG0.out)).mono ?_
    rintro e w1 ⟨hg1, he⟩
    have HG1 := Lib.hid (gb_trans HG0.out hg1)
    clear hg1 HP HLA HG0
    by_cases hne : (ansQ l D false).2.1 ≠ 0
    · rw [if_pos hne] at he
      subst he
      have HTO := Lib.hid (fun (x : ByteArray) W => told_bad (ansQ l D false).2.1 (ansQ l D false).2.2 x W hne)
      obtain ⟨r, hr⟩ : ∃ r, ansQ l D false = r := ⟨_, rfl⟩
      rw [hr] at HTO HR ⊢
      unfold badV
      obtain ⟨E, hE⟩ : ∃ E, r.2.1 = E := ⟨_, rfl⟩
      obtain ⟨P, hP⟩ : ∃ P, r.2.2 = P := ⟨_, rfl⟩
      have HRE := Lib.hid hE; have HRP := Lib.hid hP
      rw [hE, hP] at HTO ⊢
      have hga : w1.grownBy ((w1.alloc (.cells #[.slice none 0 0, .slice none 0 0] 26)).alloc (.cells #[.int .i64 (E : Int), .int .i64 (P : Int)] 29)) none := gb_alloc (gb_alloc (gb_refl _ _) _) _
      obtain ⟨B, hB⟩ : ∃ B, w1.heap.size = B := ⟨_, rfl⟩
      have hb1 : ((w1.alloc (.cells #[.slice none 0 0, .slice none 0 0] 26)).alloc (.cells #[.int .i64 (E : Int), .int .i64 (P : Int)] 29)).heap[B]? = some (.cells #[.slice none 0 0, .slice none 0 0] 26 (0, 0)) := by rw [← hB]; exact bx (World.grownBy_alloc _ _ none) (heap_alloc_new w1 _)
      have hb2 : ((w1.alloc (.cells #[.slice none 0 0, .slice none 0 0] 26)).alloc (.cells #[.int .i64 (E : Int), .int .i64 (P : Int)] 29)).heap[B + 1]? = some (.cells #[.int .i64 (E : Int), .int .i64 (P : Int)] 29 (0, 0)) := by
        have h9 := heap_alloc_new (w1.alloc (.cells #[.slice none 0 0, .slice none 0 0] 26)) (.cells #[.int .i64 (E : Int), .int .i64 (P : Int)] 29)
        rw [show (w1.alloc (.cells #[.slice none 0 0, .slice none 0 0] 26)).heap.size = B + 1 by simp [hB]] at h9
        exact h9
      have HG2 := Lib.hid (gb_trans HG1.out hga)
      have HB1 := Lib.hid hb1; have HB2 := Lib.hid hb2
      clear hr hE hP hne hga hb1 hb2
      go_wp2_with fail
      try rw [hB]
      clear hB
      generalize ((w1.alloc (.cells #[.slice none 0 0, .slice none 0 0] 26)).alloc (.cells #[.int .i64 (E : Int), .int .i64 (P : Int)] 29)) = W at *
      refine (HR.out _).mono ?_
      rintro e w2 ⟨⟨x, rfl, -⟩, hg2⟩
      rw [HRE.out, HRP.out]
      obtain ⟨t0, t1, t2⟩ := cells2 (bx hg2 HB1.out)
      obtain ⟨f0, f1, f2⟩ := cells2 (bx hg2 HB2.out)
      have HG3 := Lib.hid (gb_trans HG2.out hg2)
      clear hg2 HR
      go_wp2_with fail
      refine (HTO.out x _).mono ?_
      rintro e w3 ⟨rfl, hg3⟩
      have HG4 := Lib.hid (gb_trans HG3.out hg3)
      clear hg3
      go_wp2_with fail
      go_ret
      exact ⟨rfl, HG4.out⟩
    · rw [if_neg hne] at he
      have h0 : (ansQ l D false).2.1 = 0 := by omega
      obtain ⟨pt, ct, pn, cn, K, rfl, hta, hct, hna, -, -, -, hN⟩ := he
      have HTO := Lib.hid (fun W (h1 : TAt W pt (allE l).1) (h2 : NodesAt W pn (nodesQ l D false) K) (x : ByteArray) (hx : x.data.toList = (ansQ l D false).1) (p : Int) => told_good HLL.out h0 h1 h2 hN x hx p (ct := ct) (cn := cn))
      have HTA := Lib.hid hta; have HNA := Lib.hid hna
      obtain ⟨m, hm⟩ : ∃ m, (allE l).1.length = m := ⟨_, rfl⟩
      obtain ⟨M, hM⟩ : ∃ M, (nodesQ l D false).length = M := ⟨_, rfl⟩
      rw [hm, hM] at HTO ⊢
      have H0 := Lib.hid h0
      have hga : w1.grownBy ((w1.alloc (.cells #[.slice pt m ct, .slice pn M cn] 26)).alloc (.cells #[.int .i64 0, .int .i64 0] 29)) none := gb_alloc (gb_alloc (gb_refl _ _) _) _
      obtain ⟨B, hB⟩ : ∃ B, w1.heap.size = B := ⟨_, rfl⟩
      have hb1 : ((w1.alloc (.cells #[.slice pt m ct, .slice pn M cn] 26)).alloc (.cells #[.int .i64 0, .int .i64 0] 29)).heap[B]? = some (.cells #[.slice pt m ct, .slice pn M cn] 26 (0, 0)) := by rw [← hB]; exact bx (World.grownBy_alloc _ _ none) (heap_alloc_new w1 _)
      have hb2 : ((w1.alloc (.cells #[.slice pt m ct, .slice pn M cn] 26)).alloc (.cells #[.int .i64 0, .int .i64 0] 29)).heap[B + 1]? = some (.cells #[.int .i64 0, .int .i64 0] 29 (0, 0)) := by
        have h9 := heap_alloc_new (w1.alloc (.cells #[.slice pt m ct, .slice pn M cn] 26)) (.cells #[.int .i64 0, .int .i64 0] 29)
        rw [show (w1.alloc (.cells #[.slice pt m ct, .slice pn M cn] 26)).heap.size = B + 1 by simp [hB]] at h9
        exact h9
      have HGA := Lib.hid hga
      have HB1 := Lib.hid hb1; have HB2 := Lib.hid hb2
      clear h0 hne hga hb1 hb2 hta hct hna hN hm hM
      go_wp2_with fail
      try rw [hB]
      clear hB
      generalize ((w1.alloc (.cells #[.slice pt m ct, .slice pn M cn] 26)).alloc (.cells #[.int .i64 0, .int .i64 0] 29)) = W at *
      refine (HR.out _).mono ?_
      rintro e w2 ⟨⟨x, rfl, hx⟩, hg2⟩
      rw [H0.out]
      have HX := Lib.hid hx
      obtain ⟨P, hP⟩ : ∃ P, (ansQ l D false).2.2 = P := ⟨_, rfl⟩
      rw [hP]
      obtain ⟨t0, t1, t2⟩ := cells2 (bx hg2 HB1.out)
      obtain ⟨f0, f1, f2⟩ := cells2 (bx hg2 HB2.out)
      have HG3 := Lib.hid (gb_trans HGA.out hg2)
      clear hg2 HR hx hP
      go_wp2_with fail
      refine (HTO.out _ (HTA.out.kept HG3.out) (HNA.out.kept HG3.out) x HX.out _).mono ?_
      rintro e w3 ⟨rfl, hg3⟩
      have HG4 := Lib.hid (gb_trans (gb_trans HG1.out HG3.out) hg3)
      clear hg3
      go_wp2_with fail
      go_ret
      exact ⟨rfl, HG4.out⟩

set_option maxRecDepth 100000 in
set_option maxHeartbeats 8000000 in
theorem formulas_c (s : ByteArray) (D : Int) (w : World) (hla : LaidE w) : Calls Tryz.prog 4 #[.string s, .int .i64 D] w (ValPost (.bool true) w) := by
  have HAN := Lib.hid (anchor7_c w hla)
  have HLA := Lib.hid hla
  by_cases hbig : 1500 < s.size
  · have d1 : decide (1500 < s.size) = true := decide_eq_true hbig
    have d1' : decide ((1500 : Int) < (s.size : Int)) = true := decide_eq_true (by omega)
    clear hbig hla
    go_enter Tryz.func4, Tryz.ntmps4
    go_wp2_with fail
    refine HAN.out.mono ?_
    rintro e w0 ⟨rfl, hg0⟩
    have HG0 := Lib.hid hg0
    clear hg0
    go_wp2_with fail
    go_ret
    exact ⟨rfl, HG0.out⟩
  · have d1 : decide (1500 < s.size) = false := decide_eq_false hbig
    have d1' : decide ((1500 : Int) < (s.size : Int)) = false := decide_eq_false (by omega)
    have HP := Lib.hid (fun W h => Formula_p s D W (by omega) h)
    have HR := Lib.hid (fun W => RParse_any s D true W (by omega))
    obtain ⟨l, hl⟩ : ∃ l, s.data.toList = l := ⟨_, rfl⟩
    have HLL : Hid (l.length ≤ 2000) := Lib.hid (by rw [← hl, list_len]; omega)
    rw [hl] at HP HR
    clear hbig hla hl
    go_enter Tryz.func4, Tryz.ntmps4
    go_wp2_with fail
    refine HAN.out.mono ?_
    rintro e w0 ⟨rfl, hg0⟩
    have HG0 := Lib.hid hg0
    clear hg0 HAN
    go_wp2_with fail
    refine (HP.out _ (HLA.out.kept HG0.out)).mono ?_
    rintro e w1 ⟨hg1, he⟩
    have HG1 := Lib.hid (gb_trans HG0.out hg1)
    clear hg1 HP HLA HG0
    by_cases hne : (ansQ l D true).2.1 ≠ 0
    · rw [if_pos hne] at he
      subst he
      have HTO := Lib.hid (fun (x : ByteArray) W => told_bad (ansQ l D true).2.1 (ansQ l D true).2.2 x W hne)
      obtain ⟨r, hr⟩ : ∃ r, ansQ l D true = r := ⟨_, rfl⟩
      rw [hr] at HTO HR ⊢
      unfold badV
      obtain ⟨E, hE⟩ : ∃ E, r.2.1 = E := ⟨_, rfl⟩
      obtain ⟨P, hP⟩ : ∃ P, r.2.2 = P := ⟨_, rfl⟩
      have HRE := Lib.hid hE; have HRP := Lib.hid hP
      rw [hE, hP] at HTO ⊢
      have hga : w1.grownBy ((w1.alloc (.cells #[.slice none 0 0, .slice none 0 0] 26)).alloc (.cells #[.int .i64 (E : Int), .int .i64 (P : Int)] 29)) none := gb_alloc (gb_alloc (gb_refl _ _) _) _
      obtain ⟨B, hB⟩ : ∃ B, w1.heap.size = B := ⟨_, rfl⟩
      have hb1 : ((w1.alloc (.cells #[.slice none 0 0, .slice none 0 0] 26)).alloc (.cells #[.int .i64 (E : Int), .int .i64 (P : Int)] 29)).heap[B]? = some (.cells #[.slice none 0 0, .slice none 0 0] 26 (0, 0)) := by rw [← hB]; exact bx (World.grownBy_alloc _ _ none) (heap_alloc_new w1 _)
      have hb2 : ((w1.alloc (.cells #[.slice none 0 0, .slice none 0 0] 26)).alloc (.cells #[.int .i64 (E : Int), .int .i64 (P : Int)] 29)).heap[B + 1]? = some (.cells #[.int .i64 (E : Int), .int .i64 (P : Int)] 29 (0, 0)) := by
        have h9 := heap_alloc_new (w1.alloc (.cells #[.slice none 0 0, .slice none 0 0] 26)) (.cells #[.int .i64 (E : Int), .int .i64 (P : Int)] 29)
        rw [show (w1.alloc (.cells #[.slice none 0 0, .slice none 0 0] 26)).heap.size = B + 1 by simp [hB]] at h9
        exact h9
      have HG2 := Lib.hid (gb_trans HG1.out hga)
      have HB1 := Lib.hid hb1; have HB2 := Lib.hid hb2
      clear hr hE hP hne hga hb1 hb2
      go_wp2_with fail
      try rw [hB]
      clear hB
      generalize ((w1.alloc (.cells #[.slice none 0 0, .slice none 0 0] 26)).alloc (.cells #[.int .i64 (E : Int), .int .i64 (P : Int)] 29)) = W at *
      refine (HR.out _).mono ?_
      rintro e w2 ⟨⟨x, rfl, -⟩, hg2⟩
      rw [HRE.out, HRP.out]
      obtain ⟨t0, t1, t2⟩ := cells2 (bx hg2 HB1.out)
      obtain ⟨f0, f1, f2⟩ := cells2 (bx hg2 HB2.out)
      have HG3 := Lib.hid (gb_trans HG2.out hg2)
      clear hg2 HR
      go_wp2_with fail
      refine (HTO.out x _).mono ?_
      rintro e w3 ⟨rfl, hg3⟩
      have HG4 := Lib.hid (gb_trans HG3.out hg3)
      clear hg3
      go_wp2_with fail
      go_ret
      exact ⟨rfl, HG4.out⟩
    · rw [if_neg hne] at he
      have h0 : (ansQ l D true).2.1 = 0 := by omega
      obtain ⟨pt, ct, pn, cn, K, rfl, hta, hct, hna, -, -, -, hN⟩ := he
      have HTO := Lib.hid (fun W (h1 : TAt W pt (allE l).1) (h2 : NodesAt W pn (nodesQ l D true) K) (x : ByteArray) (hx : x.data.toList = (ansQ l D true).1) (p : Int) => told_good HLL.out h0 h1 h2 hN x hx p (ct := ct) (cn := cn))
      have HTA := Lib.hid hta; have HNA := Lib.hid hna
      obtain ⟨m, hm⟩ : ∃ m, (allE l).1.length = m := ⟨_, rfl⟩
      obtain ⟨M, hM⟩ : ∃ M, (nodesQ l D true).length = M := ⟨_, rfl⟩
      rw [hm, hM] at HTO ⊢
      have H0 := Lib.hid h0
      have hga : w1.grownBy ((w1.alloc (.cells #[.slice pt m ct, .slice pn M cn] 26)).alloc (.cells #[.int .i64 0, .int .i64 0] 29)) none := gb_alloc (gb_alloc (gb_refl _ _) _) _
      obtain ⟨B, hB⟩ : ∃ B, w1.heap.size = B := ⟨_, rfl⟩
      have hb1 : ((w1.alloc (.cells #[.slice pt m ct, .slice pn M cn] 26)).alloc (.cells #[.int .i64 0, .int .i64 0] 29)).heap[B]? = some (.cells #[.slice pt m ct, .slice pn M cn] 26 (0, 0)) := by rw [← hB]; exact bx (World.grownBy_alloc _ _ none) (heap_alloc_new w1 _)
      have hb2 : ((w1.alloc (.cells #[.slice pt m ct, .slice pn M cn] 26)).alloc (.cells #[.int .i64 0, .int .i64 0] 29)).heap[B + 1]? = some (.cells #[.int .i64 0, .int .i64 0] 29 (0, 0)) := by
        have h9 := heap_alloc_new (w1.alloc (.cells #[.slice pt m ct, .slice pn M cn] 26)) (.cells #[.int .i64 0, .int .i64 0] 29)
        rw [show (w1.alloc (.cells #[.slice pt m ct, .slice pn M cn] 26)).heap.size = B + 1 by simp [hB]] at h9
        exact h9
      have HGA := Lib.hid hga
      have HB1 := Lib.hid hb1; have HB2 := Lib.hid hb2
      clear h0 hne hga hb1 hb2 hta hct hna hN hm hM
      go_wp2_with fail
      try rw [hB]
      clear hB
      generalize ((w1.alloc (.cells #[.slice pt m ct, .slice pn M cn] 26)).alloc (.cells #[.int .i64 0, .int .i64 0] 29)) = W at *
      refine (HR.out _).mono ?_
      rintro e w2 ⟨⟨x, rfl, hx⟩, hg2⟩
      rw [H0.out]
      have HX := Lib.hid hx
      obtain ⟨P, hP⟩ : ∃ P, (ansQ l D true).2.2 = P := ⟨_, rfl⟩
      rw [hP]
      obtain ⟨t0, t1, t2⟩ := cells2 (bx hg2 HB1.out)
      obtain ⟨f0, f1, f2⟩ := cells2 (bx hg2 HB2.out)
      have HG3 := Lib.hid (gb_trans HGA.out hg2)
      clear hg2 HR hx hP
      go_wp2_with fail
      refine (HTO.out _ (HTA.out.kept HG3.out) (HNA.out.kept HG3.out) x HX.out _).mono ?_
      rintro e w3 ⟨rfl, hg3⟩
      have HG4 := Lib.hid (gb_trans (gb_trans HG1.out HG3.out) hg3)
      clear hg3
      go_wp2_with fail
      go_ret
      exact ⟨rfl, HG4.out⟩
end Go.Proofs.YthclkbaankjbiaaGreatDoor
