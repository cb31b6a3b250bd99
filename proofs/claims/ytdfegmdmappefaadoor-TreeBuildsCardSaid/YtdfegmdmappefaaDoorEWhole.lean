/- The text of tokens. -/
import Derived.Test.YtdfegmdmappefaaDoorELex
namespace Go.Proofs.YtdfegmdmappefaaDoor
open Go.RowKit

def wholeL (l : List Tok) : List UInt8 := l.flatMap fun t => t.lead ++ t.text

theorem wholeL_append (l r : List Tok) : wholeL (l ++ r) = wholeL l ++ wholeL r := by unfold wholeL; rw [List.flatMap_append]
theorem wholeL_next {l : List Tok} {k : Nat} {t : Tok} (h : l[k]? = some t) : wholeL (l.take (k + 1)) = wholeL (l.take k) ++ t.lead ++ t.text := by
  rw [List.take_add_one, h, wholeL_append]; simp [wholeL]
theorem wholeL_take (l : List Tok) (k : Nat) : (wholeL (l.take k)).length ≤ (wholeL l).length := by
  have h1 : wholeL l = wholeL (l.take k) ++ wholeL (l.drop k) := by rw [← wholeL_append, List.take_append_drop]
  rw [h1, List.length_append]; omega

theorem strCells_mk (x : List UInt8) : Lib.strCells ⟨x.toArray⟩ = Lib.byteCells x := rfl

set_option maxRecDepth 100000 in
set_option maxHeartbeats 8000000 in
theorem Whole_c (q : Option Addr) (c : Nat) (l : List Tok) (w : World) (hl : l.length ≤ 1000000) (hL : (wholeL l).length ≤ 1000000) (h : TAt w q l) : Calls Tryd.prog 48 #[.slice q l.length c] w (StrGb (wholeL l) w) := by
  obtain ⟨m, hm⟩ : ∃ m, l.length = m := ⟨_, rfl⟩
  have HM := Lib.hid hm; have HA := Lib.hid h; have HL := Lib.hid hL
  rw [hm] at hl ⊢
  clear hm h hL
  go_enter Tryd.func48, Tryd.ntmps48
  go_wp2_with fail
  have hbl := bld_new w w.heap.size (Nat.le_refl _)
  have hga := World.grownBy_alloc w (.cells #[.pointer none, .slice none 0 0] 69) none
  generalize (w.alloc (.cells #[.pointer none, .slice none 0 0] 69)) = W at *
  obtain ⟨b, hb⟩ : ∃ b, w.heap.size = b := ⟨_, rfl⟩
  have HBB := Lib.hid hb
  rw [hb] at hbl ⊢
  have HBL := Lib.hid hbl; have HGA := Lib.hid hga
  clear hbl hga hb
  go_loopw [8] (fun i wr => ∃ k : Nat, k ≤ m ∧ i = .int .i64 k ∧ Hid (Lib.IsBuilder 69 5 b b (Lib.byteCells (wholeL (l.take k))) wr) ∧ Hid (w.grownBy wr none)) (fun i _ => m - (intOf i).toNat)
  case atStart => exact ⟨0, Nat.zero_le _, rfl, HBL, HGA⟩
  case round =>
    clear HBL HGA
    obtain ⟨k, hk, rfl, HBL, HG⟩ := hrel
    by_cases hlt : k < m
    · have d1 : decide ((k : Int) < (m : Int)) = true := decide_eq_true (by omega)
      have d1' : decide (k < m) = true := decide_eq_true hlt
      obtain ⟨t, ht⟩ : ∃ t, l[k]? = some t := ⟨l[k]'(by rw [HM.out]; exact hlt), List.getElem?_eq_getElem _⟩
      obtain ⟨g, off, rfl, hgl, hc⟩ := HA.out.resolve_left (fun h => by have h1 := HM.out; rw [h] at h1; simp at h1; omega)
      obtain ⟨c0, c1, c2, c3⟩ := hc k t ht
      have c0 := HG.out.cell c0 (by simp)
      have c1 := HG.out.cell c1 (by simp)
      have c2 := HG.out.cell c2 (by simp)
      have c3 := HG.out.cell c3 (by simp)
      have hnx := wholeL_next ht
      have hle1 := wholeL_take l k
      have hle2 := wholeL_take l (k + 1)
      have hL := HL.out
      rw [hnx] at hle2
      simp only [List.length_append] at hle2
      obtain ⟨x, hx⟩ : ∃ x : ByteArray, (⟨t.lead.toArray⟩ : ByteArray) = x := ⟨_, rfl⟩
      obtain ⟨y, hy⟩ : ∃ y : ByteArray, (⟨t.text.toArray⟩ : ByteArray) = y := ⟨_, rfl⟩
      have hxl : x.data.toList = t.lead := by rw [← hx]
      have hyl : y.data.toList = t.text := by rw [← hy]
      have hxs : x.size = t.lead.length := by rw [← list_len, hxl]
      have hys : y.size = t.text.length := by rw [← list_len, hyl]
      unfold strV at c1 c2
      rw [hx] at c1
      rw [hy] at c2
      have HNX : Hid (Lib.byteCells (wholeL (l.take (k + 1))) = Lib.byteCells (wholeL (l.take k)) ++ Lib.strCells x ++ Lib.strCells y) := Lib.hid (by
        rw [hnx, Lib.byteCells_append, Lib.byteCells_append, ← strCells_mk t.lead, ← strCells_mk t.text, hx, hy])
      have HZ1 : Hid ((Lib.byteCells (wholeL (l.take k))).length + x.size ≤ 140737488355328) := Lib.hid (by rw [Lib.byteCells_length]; omega)
      have HZ2 : Hid ((Lib.byteCells (wholeL (l.take k)) ++ Lib.strCells x).length + y.size ≤ 140737488355328) := Lib.hid (by rw [List.length_append, Lib.byteCells_length, Lib.strCells_length]; omega)
      have HBX := Lib.hid (heap_alloc_new wr (.cells #[.int .i64 (t.kind : Int), .string x, .string y, .int .i64 (t.pos : Int)] 53))
      have hga := World.grownBy_alloc wr (.cells #[.int .i64 (t.kind : Int), .string x, .string y, .int .i64 (t.pos : Int)] 53) none
      have HB2 := Lib.hid (bld_kept HBL.out hga)
      have HG2 := Lib.hid (gb_trans HG.out hga)
      have HXS : Hid (b < wr.heap.size) := Lib.hid (by
        rcases HBL.out with h | h
        · exact h.lt
        · exact h.lt)
      obtain ⟨b0, b1, b2, b3, b4⟩ := cells4 HBX.out
      generalize t.kind = tk at *
      generalize t.pos = tp at *
      clear hc hgl ht hnx hle1 hle2 hL hx hy hxl hyl hxs hys hga HBL HG b4
      go_wp2_with fail
      refine (WriteString_c b b _ x _ HB2.out HZ1.out (by have := HG2.out.size; rw [HBB.out] at this; exact this)).mono ?_
      rintro e w2 ⟨rfl, ⟨hb2, hbe2⟩, hok2⟩
      have HB3 := Lib.hid hb2
      have hgg : w.grownBy w2 none := below_gb (Below.trans2 (gb_below HG2.out) (by rw [HBB.out]; exact hbe2))
      have HG3 := Lib.hid hgg
      have hbx2 := hok2 _ _ _ HBX.out (by decide) (by have := HXS.out; omega)
      obtain ⟨e0, e1, e2, e3, e4⟩ := cells4 hbx2
      clear hb2 hbe2 hok2 hgg hbx2 b0 b1 b2 b3 c0 c1 c2 c3 HB2 e4
      go_wp2_with fail
      refine (WriteString_c b b _ y _ (.inr HB3.out) HZ2.out (by have := HG3.out.size; rw [HBB.out] at this; exact this)).mono ?_
      rintro e w3 ⟨rfl, ⟨hb3, hbe3⟩, -⟩
      rw [← HNX.out] at hb3
      have HB4 : Hid (Lib.IsBuilder 69 5 b b (Lib.byteCells (wholeL (l.take (k + 1)))) w3) := Lib.hid (.inr hb3)
      have hgg : w.grownBy w3 none := below_gb (Below.trans2 (gb_below HG3.out) (by rw [HBB.out]; exact hbe3))
      have HG4 := Lib.hid hgg
      clear hb3 hbe3 hgg HB3 HG2 HG3 e0 e1 e2 e3
      go_wp2_with fail
      go_roundw
      case rel => exact ⟨k + 1, by omega, by go_num, HB4, HG4⟩
      case measure => (simp [intOf] <;> omega)
    · obtain rfl : k = m := by omega
      rw [List.take_of_length_le (by rw [HM.out]; exact Nat.le_refl _)] at HBL
      have HSTR := Lib.hid (Tryd.Builder_String_any_k b b _ wr (Lib.IsBuilderF.of HBL.out) (by have := HG.out.size; rw [HBB.out] at this; exact this))
      go_wp2_with fail
      refine HSTR.out.mono ?_
      rintro e w7 ⟨rfl, -, hbe7, -⟩
      have HG7 : Hid (w.grownBy w7 none) := Lib.hid (below_gb (Below.trans2 (gb_below HG.out) (by rw [HBB.out]; exact hbe7)))
      clear hbe7
      go_wp2_with fail
      go_ret
      exact ⟨⟨_, rfl, rfl⟩, HG7.out⟩
end Go.Proofs.YtdfegmdmappefaaDoor
