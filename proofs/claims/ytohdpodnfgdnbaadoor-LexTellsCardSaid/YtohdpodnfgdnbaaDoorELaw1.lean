/- The law on all tokens, walked. -/
import Derived.Test.YtohdpodnfgdnbaaDoorEMath2
namespace Go.Proofs.YtohdpodnfgdnbaaDoor
open Go.RowKit

theorem ba_ext {a b : ByteArray} (h : a.data.toList = b.data.toList) : a = b := by
  rw [ba_data a h]

set_option maxRecDepth 100000 in
set_option maxHeartbeats 8000000 in
theorem tells_yes (s : ByteArray) (w : World) (hs : s.size ≤ 2000) (hla : LaidE w) : Calls Tryd.prog 3 #[.string s] w (ValPost (.bool true) w) := by
  have d1 : decide ((2000 : Int) < (s.size : Int)) = false := decide_eq_false (by omega)
  have d1' : decide (2000 < s.size) = false := decide_eq_false (by omega)
  have HLA := Lib.hid hla
  have HBIG : Hid (¬ 65536 < s.data.toList.length) := Lib.hid (by rw [list_len]; omega)
  have HLX := Lib.hid (fun W (h : LaidE W) => Lex_c s W (by omega) h)
  have HRX := Lib.hid (fun W => RLex_c s W (by omega))
  have HS := Lib.hid hs
  clear hla hs
  go_enter Tryd.func3, Tryd.ntmps3
  go_wp2_with fail
  refine (anchor_c _ HLA.out).mono ?_
  rintro e w0 ⟨rfl, hg0⟩
  have HG0 := Lib.hid hg0
  clear hg0
  go_wp2_with fail
  refine (HLX.out w0 (HLA.out.kept HG0.out)).mono ?_
  rintro e w1 ⟨hg1, h1⟩
  rw [if_neg HBIG.out] at h1
  have HG1 := Lib.hid (gb_trans HG0.out hg1)
  clear hg1 d1 d1'
  obtain ⟨n, hn⟩ : ∃ n, (allE s.data.toList).2.1 = n := ⟨_, rfl⟩
  by_cases hn0 : n = 0
  · subst hn0
    rw [hn, if_neg (by simp)] at h1
    obtain ⟨q1, c1, rfl, hq1, hl1, hm1⟩ := h1
    obtain ⟨L, hL⟩ : ∃ L, (allE s.data.toList).1 = L := ⟨_, rfl⟩
    obtain ⟨m, hm⟩ : ∃ m, L.length = m := ⟨_, rfl⟩
    have hw := whole_all hn
    have hll := len_all hn
    have hp2 : (allE s.data.toList).2.2 = 0 := fault_none _ _ _ hn
    rw [hL] at hq1 hw hll ⊢
    rw [hm] at hll ⊢
    rw [list_len] at hll
    have HN := Lib.hid hn; have HLL := Lib.hid hL; have HM := Lib.hid hm; have HW := Lib.hid hw; have HQ1 := Lib.hid hq1; have HP2 := Lib.hid hp2; have HML := Lib.hid hll
    clear hn hL hm hw hq1 hl1 hm1 hp2 hll
    go_wp2_with fail
    have hga := World.grownBy_alloc w1 (.cells #[.int .i64 0, .int .i64 0] 26) none
    have HBX := Lib.hid (heap_alloc_new w1 (.cells #[.int .i64 0, .int .i64 0] 26))
    generalize w1.alloc (.cells #[.int .i64 0, .int .i64 0] 26) = W1 at *
    have HG2 := Lib.hid (gb_trans HG1.out hga)
    have HQ2 := Lib.hid (HQ1.out.kept hga)
    clear hga
    refine (HRX.out W1).mono ?_
    rintro e w2 ⟨hg2, h2⟩
    rw [if_neg HBIG.out, HN.out, if_neg (by simp)] at h2
    obtain ⟨q2, c2, rfl, hq2, hl2, hm2⟩ := h2
    rw [HLL.out] at hq2 ⊢
    rw [HM.out]
    obtain ⟨b0, b1, -⟩ := cells2 (bx hg2 HBX.out)
    have HG3 := Lib.hid (gb_trans HG2.out hg2)
    have HQ3 := Lib.hid (HQ2.out.kept hg2)
    have HR3 := Lib.hid hq2
    clear hg2 hq2 hl2 hm2 HBX HRX HLX HQ1 HQ2
    go_wp2_with fail
    clear b0 b1
    have hm6 : m ≤ 2001 := by have := HML.out; have := HS.out; omega
    go_loopw [45] (fun i wr => ∃ k : Nat, k ≤ m ∧ i = .int .i64 k ∧ Hid (w2.grownBy wr none)) (fun i _ => m - (intOf i).toNat)
    case atStart => exact ⟨0, Nat.zero_le _, rfl, gb_refl _ _⟩
    case round =>
      obtain ⟨k, hk, rfl, HG⟩ := hrel
      by_cases hlt : k < m
      · have d1 : decide ((k : Int) < (m : Int)) = true := decide_eq_true (by omega)
        have d1' : decide (k < m) = true := decide_eq_true hlt
        obtain ⟨t, ht⟩ : ∃ t, L[k]? = some t := ⟨L[k]'(by rw [HM.out]; exact hlt), List.getElem?_eq_getElem _⟩
        obtain ⟨g1, o1, rfl, hgl1, hc1⟩ := HQ3.out.resolve_left (fun h => by have h1 := HM.out; rw [h] at h1; simp at h1; omega)
        obtain ⟨g2, o2, rfl, hgl2, hc2⟩ := HR3.out.resolve_left (fun h => by have h1 := HM.out; rw [h] at h1; simp at h1; omega)
        obtain ⟨x0, x1, x2, x3⟩ := hc1 k t ht
        obtain ⟨y0, y1, y2, y3⟩ := hc2 k t ht
        unfold strV at x1 x2 y1 y2
        generalize (⟨t.lead.toArray⟩ : ByteArray) = tl at *
        generalize (⟨t.text.toArray⟩ : ByteArray) = tt at *
        generalize t.kind = tk at *
        generalize t.pos = tp at *
        have a0 := HG.out.cell x0 (by simp)
        have a1 := HG.out.cell x1 (by simp)
        have a2 := HG.out.cell x2 (by simp)
        have a3 := HG.out.cell x3 (by simp)
        have e0 := HG.out.cell y0 (by simp)
        have e1 := HG.out.cell y1 (by simp)
        have e2 := HG.out.cell y2 (by simp)
        have e3 := HG.out.cell y3 (by simp)
        clear hc1 hc2 hgl1 hgl2 ht x0 x1 x2 x3 y0 y1 y2 y3
        go_wp2_with fail
        have hga := World.grownBy_alloc wr (.cells #[.int .i64 (tk : Int), .string tl, .string tt, .int .i64 (tp : Int)] 33) none
        have hbx := heap_alloc_new wr (.cells #[.int .i64 (tk : Int), .string tl, .string tt, .int .i64 (tp : Int)] 33)
        have f0 := hga.cell e0 (by simp)
        have f1 := hga.cell e1 (by simp)
        have f2 := hga.cell e2 (by simp)
        have f3 := hga.cell e3 (by simp)
        obtain ⟨b0, b1, b2, b3, -⟩ := cells4 hbx
        have HG4 := Lib.hid (gb_trans HG.out hga)
        generalize wr.alloc (.cells #[.int .i64 (tk : Int), .string tl, .string tt, .int .i64 (tp : Int)] 33) = W2 at *
        clear hga hbx a0 a1 a2 a3 e0 e1 e2 e3
        go_quiet (fail)
        go_wp2_with fail
        go_roundw
        case rel => exact ⟨k + 1, by omega, by go_num, Lib.hid (gb_drewN HG4.out _)⟩
        case measure => (simp [intOf] <;> omega)
      · obtain rfl : k = m := by omega
        have d1 : decide ((k : Int) < (k : Int)) = false := decide_eq_false (by omega)
        have HWH := Lib.hid (Whole_c q1 c1 L wr (by have := HM.out; have := HML.out; have := HS.out; omega) (by rw [HW.out, list_len]; have := HS.out; omega) (HQ3.out.kept HG.out))
        rw [HM.out, HW.out] at HWH
        go_wp2_with fail
        refine HWH.out.mono ?_
        rintro e w5 ⟨⟨r, rfl, hr⟩, hg5⟩
        obtain rfl : r = s := ba_ext hr
        have HG5 := Lib.hid (gb_trans HG3.out (gb_trans HG.out hg5))
        have hrr : (r.toList == r.toList) = true := by simp
        clear HWH hr hg5
        go_wp2_with fail
        go_ret
        exact ⟨rfl, HG5.out⟩
  · rw [hn, if_pos hn0] at h1
    subst h1
    obtain ⟨z, hz⟩ : ∃ z, (allE s.data.toList).2.2 = z := ⟨_, rfl⟩
    rw [hz]
    have HN := Lib.hid hn; have HZ := Lib.hid hz
    clear hn hz
    go_wp2_with fail
    have hga := World.grownBy_alloc w1 (.cells #[.int .i64 (n : Int), .int .i64 (z : Int)] 26) none
    have HBX := Lib.hid (heap_alloc_new w1 (.cells #[.int .i64 (n : Int), .int .i64 (z : Int)] 26))
    generalize w1.alloc (.cells #[.int .i64 (n : Int), .int .i64 (z : Int)] 26) = W1 at *
    have HG2 := Lib.hid (gb_trans HG1.out hga)
    clear hga
    refine (HRX.out W1).mono ?_
    rintro e w2 ⟨hg2, h2⟩
    rw [if_neg HBIG.out, HN.out, if_pos hn0, HZ.out] at h2
    subst h2
    obtain ⟨b0, b1, -⟩ := cells2 (bx hg2 HBX.out)
    have HG3 := Lib.hid (gb_trans HG2.out hg2)
    have d5 : ((n : Int) == 0) = false := beq_eq_false_iff_ne.2 (by omega)
    have d6 : ((n : Int) != 0) = true := by rw [bne, d5]; rfl
    clear hg2 HBX HRX HLX
    go_wp2_with fail
    go_loopw [45] (fun i wr => i = .int .i64 0 ∧ wr = w2) (fun _ _ => 0)
    case atStart => exact ⟨rfl, rfl⟩
    case round =>
      obtain ⟨rfl, rfl⟩ := hrel
      go_wp2_with fail
      go_ret
      exact ⟨rfl, HG3.out⟩

set_option maxRecDepth 100000 in
set_option maxHeartbeats 2000000 in
theorem tells_c (s : ByteArray) (w : World) (hs : s.size < 9223372036854775808) (hla : LaidE w) : Calls Tryd.prog 3 #[.string s] w (ValPost (.bool true) w) := by
  by_cases hb : 2000 < s.size
  · have d1 : decide ((2000 : Int) < (s.size : Int)) = true := decide_eq_true (by omega)
    have d1' : decide (2000 < s.size) = true := decide_eq_true hb
    have HLA := Lib.hid hla
    clear hla
    go_enter Tryd.func3, Tryd.ntmps3
    go_wp2_with fail
    refine (anchor_c _ HLA.out).mono ?_
    rintro e w0 ⟨rfl, hg0⟩
    have HG0 := Lib.hid hg0
    clear hg0
    go_wp2_with fail
    go_ret
    exact ⟨rfl, HG0.out⟩
  · exact tells_yes s w (by omega) hla
end Go.Proofs.YtohdpodnfgdnbaaDoor
