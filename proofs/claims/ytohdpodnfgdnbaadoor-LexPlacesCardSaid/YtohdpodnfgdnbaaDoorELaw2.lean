/- The law on the tokens' places, walked. -/
import Derived.Test.YtohdpodnfgdnbaaDoorEMath2
namespace Go.Proofs.YtohdpodnfgdnbaaDoor
open Go.RowKit

theorem ba_ext {a b : ByteArray} (h : a.data.toList = b.data.toList) : a = b := by
  rw [ba_data a h]

theorem wholeL_split {L : List Tok} {k : Nat} {t : Tok} (h : L[k]? = some t) : wholeL L = wholeL (L.take k) ++ t.lead ++ t.text ++ wholeL (L.drop (k + 1)) := by
  have h1 : wholeL L = wholeL (L.take (k + 1)) ++ wholeL (L.drop (k + 1)) := by rw [← wholeL_append, List.take_append_drop]
  rw [h1, wholeL_next h]

set_option maxRecDepth 100000 in
set_option maxHeartbeats 8000000 in
theorem places_yes (s : ByteArray) (w : World) (hs : s.size ≤ 3000) (hla : LaidE w) : Calls Tryd.prog 5 #[.string s] w (ValPost (.bool true) w) := by
  have d1 : decide ((3000 : Int) < (s.size : Int)) = false := decide_eq_false (by omega)
  have d1' : decide (3000 < s.size) = false := decide_eq_false (by omega)
  have HLA := Lib.hid hla
  have HBIG : Hid (¬ 65536 < s.data.toList.length) := Lib.hid (by rw [list_len]; omega)
  have HLX := Lib.hid (fun W (h : LaidE W) => Lex_c s W (by omega) h)
  have HS := Lib.hid hs
  clear hla hs
  go_enter Tryd.func5, Tryd.ntmps5
  go_wp2_with fail
  refine (anchor_c _ HLA.out).mono ?_
  rintro e w0 ⟨rfl, hg0⟩
  have HG0 := Lib.hid hg0
  clear hg0
  go_wp2_with fail
  refine (HLX.out w0 (HLA.out.kept HG0.out)).mono ?_
  rintro e w1 ⟨hg1, h1⟩
  rw [if_neg HBIG.out] at h1
  have HG1 := Lib.hid (gb_trans HG0.out hg1)
  clear hg1 d1 d1'
  obtain ⟨n, hn⟩ : ∃ n, (allE s.data.toList).2.1 = n := ⟨_, rfl⟩
  by_cases hn0 : n = 0
  · subst hn0
    rw [hn, if_neg (by simp)] at h1
    obtain ⟨q1, c1, rfl, hq1, hl1, hm1⟩ := h1
    obtain ⟨L, hL⟩ : ∃ L, (allE s.data.toList).1 = L := ⟨_, rfl⟩
    obtain ⟨m, hm⟩ : ∃ m, L.length = m := ⟨_, rfl⟩
    have hw := whole_all hn
    have hll := len_all hn
    have hpl := place_all hn
    rw [hL] at hq1 hw hll hpl ⊢
    rw [hm] at hll ⊢
    rw [list_len] at hll
    have hm6 : m ≤ 3001 := by have := HS.out; omega
    have hm0 : 0 < m := by rw [← hm]; exact List.length_pos_iff.2 hpl.2
    have HM := Lib.hid hm; have HW := Lib.hid hw; have HQ1 := Lib.hid hq1; have HPL := Lib.hid hpl.1
    clear hn hL hm hw hq1 hl1 hm1 hll hpl
    have hga := World.grownBy_alloc w1 (.cells #[.int .i64 0, .int .i64 0] 26) none
    obtain ⟨b0, b1, -⟩ := cells2 (heap_alloc_new w1 (.cells #[.int .i64 0, .int .i64 0] 26))
    have HG2 := Lib.hid (gb_trans HG1.out hga)
    have HQ2 := Lib.hid (HQ1.out.kept hga)
    clear hga
    go_wp2_with fail
    generalize w1.alloc (.cells #[.int .i64 0, .int .i64 0] 26) = W1 at *
    clear b0 b1 HQ1
    go_loopw [5, 38] (fun av i wr => ∃ (k a : Nat), k ≤ m ∧ a ≤ s.size ∧ i = .int .i64 k ∧ av = .int .i64 a ∧ Hid (a = (wholeL (L.take k)).length) ∧ Hid (W1.grownBy wr none)) (fun _ i _ => m - (intOf i).toNat)
    case atStart => exact ⟨0, 0, Nat.zero_le _, Nat.zero_le _, rfl, rfl, Lib.hid rfl, gb_refl _ _⟩
    case round =>
      obtain ⟨k, a, hk, ha, rfl, rfl, HAK, HG⟩ := hrel
      by_cases hlt : k < m
      · have d1 : decide ((k : Int) < (m : Int)) = true := decide_eq_true (by omega)
        have d1' : decide (k < m) = true := decide_eq_true hlt
        obtain ⟨t, ht⟩ : ∃ t, L[k]? = some t := ⟨L[k]'(by rw [HM.out]; exact hlt), List.getElem?_eq_getElem _⟩
        obtain ⟨g1, o1, rfl, hgl1, hc1⟩ := HQ2.out.resolve_left (fun h => by have h1 := HM.out; rw [h] at h1; simp at h1; omega)
        obtain ⟨x0, x1, x2, x3⟩ := hc1 k t ht
        obtain ⟨p1, p2, p3⟩ := HPL.out k t ht
        have hsp := wholeL_split ht
        rw [HW.out] at hsp
        rw [HM.out] at p2
        rw [← HAK.out, Nat.zero_add] at p1
        unfold strV at x1 x2
        obtain ⟨tl, htl⟩ : ∃ tl : ByteArray, (⟨t.lead.toArray⟩ : ByteArray) = tl := ⟨_, rfl⟩
        obtain ⟨tt, htt⟩ : ∃ tt : ByteArray, (⟨t.text.toArray⟩ : ByteArray) = tt := ⟨_, rfl⟩
        have hls : tl.size = t.lead.length := by rw [← list_len, ← htl]
        have hts : tt.size = t.text.length := by rw [← list_len, ← htt]
        have htd : tt.data.toList = t.text := by rw [← htt]
        rw [htl] at x1
        rw [htt] at x2
        have hsum : a + tl.size + tt.size ≤ s.size := by
          have h1 := congrArg List.length hsp
          have := HAK.out
          simp only [List.length_append, list_len] at h1
          omega
        have hpos : t.pos = a + tl.size := by rw [p1, hls]
        have htake : (wholeL (L.take (k + 1))).length = a + tl.size + tt.size := by
          rw [wholeL_next ht]; have := HAK.out; simp only [List.length_append]; omega
        have hsub : s.extract (a + tl.size) (a + tl.size + tt.size) = tt := ba_ext (by
          rw [ext_take, htd, hsp, List.append_assoc, List.drop_left' (by have := HAK.out; simp only [List.length_append]; omega), List.take_left' hts.symm])
        have hemp : tt.toList.isEmpty = decide (t.kind = 5) := by
          rw [toList_data, htd, Bool.eq_iff_iff, List.isEmpty_iff, p3]; simp
        have hlast : decide (t.kind = 5) = decide (k + 1 = m) := by
          rw [Bool.eq_iff_iff]; simp [p2]
        rw [hpos] at x3
        have HTA := Lib.hid htake; have HSUB := Lib.hid hsub; have HEM := Lib.hid hemp; have HLS := Lib.hid hlast
        generalize t.kind = tk at *
        clear hsp p1 p2 p3 htl htt hls hts htd hpos htake hsub hemp hlast ht
        have a0 := HG.out.cell x0 (by simp)
        have a1 := HG.out.cell x1 (by simp)
        have a2 := HG.out.cell x2 (by simp)
        have a3 := HG.out.cell x3 (by simp)
        rw [Int.natCast_add] at a3
        clear x0 x1 x2 x3 hc1 hgl1
        have hw1 : IntKind.i64.wrap ((a : Int) + (tl.size : Int)) = (a : Int) + (tl.size : Int) := IntWalk.i64_in _ (by have := HS.out; omega)
        have hw2 : IntKind.i64.wrap ((a : Int) + (tl.size : Int) + (tt.size : Int)) = (a : Int) + (tl.size : Int) + (tt.size : Int) := IntWalk.i64_in _ (by have := HS.out; omega)
        have hw3 : IntKind.i64.wrap ((m : Int) - 1) = (m : Int) - 1 := IntWalk.i64_in _ (by omega)
        have hs6 : s.size ≤ 3000 := HS.out
        have d2 : ((s.extract (a + tl.size) (a + tl.size + tt.size)).toList == tt.toList) = true := by rw [HSUB.out]; simp
        have d2' : ((s.extract (a + tl.size) (a + tl.size + tt.size)).toList != tt.toList) = false := by rw [HSUB.out]; simp
        by_cases h5 : tk = 5
        · subst h5
          have hk1 : k + 1 = m := by have := HLS.out; simpa using this
          have d3 : ((k : Int) == (m : Int) - 1) = true := by rw [← hk1]; simp
          have d4 : tt.toList.isEmpty = true := by rw [HEM.out]; rfl
          clear hk1
          go_wp2_with fail
          have hga := World.grownBy_alloc wr (.cells #[.int .i64 5, .string tl, .string tt, .int .i64 ((a : Int) + (tl.size : Int))] 33) none
          have hbx := heap_alloc_new wr (.cells #[.int .i64 5, .string tl, .string tt, .int .i64 ((a : Int) + (tl.size : Int))] 33)
          obtain ⟨b0, b1, b2, b3, -⟩ := cells4 hbx
          have HG4 := Lib.hid (gb_trans HG.out hga)
          generalize wr.alloc (.cells #[.int .i64 5, .string tl, .string tt, .int .i64 ((a : Int) + (tl.size : Int))] 33) = W2 at *
          clear hga hbx a0 a1 a2 a3
          go_quiet (fail)
          go_wp2_with fail
          go_roundw
          case rel => exact ⟨k + 1, a + tl.size + tt.size, by omega, by omega, by go_num, by first | rfl | go_num, Lib.hid HTA.out.symm, Lib.hid (gb_drewN HG4.out _)⟩
          case measure => (simp [intOf] <;> omega)
        · have hk1 : ¬ k + 1 = m := by have := HLS.out; simpa [h5] using this.symm
          have d3 : ((k : Int) == (m : Int) - 1) = false := by rw [beq_eq_false_iff_ne]; omega
          have d4 : tt.toList.isEmpty = false := by rw [HEM.out]; simpa using h5
          have d5 : ((tk : Int) == 5) = false := by rw [beq_eq_false_iff_ne]; omega
          clear hk1 h5
          go_wp2_with fail
          have hga := World.grownBy_alloc wr (.cells #[.int .i64 (tk : Int), .string tl, .string tt, .int .i64 ((a : Int) + (tl.size : Int))] 33) none
          have hbx := heap_alloc_new wr (.cells #[.int .i64 (tk : Int), .string tl, .string tt, .int .i64 ((a : Int) + (tl.size : Int))] 33)
          obtain ⟨b0, b1, b2, b3, -⟩ := cells4 hbx
          have HG4 := Lib.hid (gb_trans HG.out hga)
          generalize wr.alloc (.cells #[.int .i64 (tk : Int), .string tl, .string tt, .int .i64 ((a : Int) + (tl.size : Int))] 33) = W2 at *
          clear hga hbx a0 a1 a2 a3
          go_quiet (fail)
          go_wp2_with fail
          go_roundw
          case rel => exact ⟨k + 1, a + tl.size + tt.size, by omega, by omega, by go_num, by first | rfl | go_num, Lib.hid HTA.out.symm, Lib.hid (gb_drewN HG4.out _)⟩
          case measure => (simp [intOf] <;> omega)
      · obtain rfl : k = m := by omega
        have d1 : decide ((k : Int) < (k : Int)) = false := decide_eq_false (by omega)
        have ha2 : a = s.size := by
          have h1 := HAK.out
          rw [List.take_of_length_le (by rw [HM.out]; exact Nat.le_refl _), HW.out, list_len] at h1; exact h1
        have d2 : ((a : Int) == (s.size : Int)) = true := by rw [ha2]; simp
        clear ha2
        go_wp2_with fail
        go_ret
        exact ⟨rfl, gb_trans HG2.out HG.out⟩
  · rw [hn, if_pos hn0] at h1
    subst h1
    obtain ⟨z, hz⟩ : ∃ z, (allE s.data.toList).2.2 = z := ⟨_, rfl⟩
    have hzl : z ≤ s.size := by
      have h1 := fault_le (s.data.toList.length + 1) s.data.toList 0
      change (allE s.data.toList).2.2 ≤ _ at h1
      rw [hz, list_len] at h1; omega
    rw [hz]
    clear hn hz
    have hga := World.grownBy_alloc w1 (.cells #[.int .i64 (n : Int), .int .i64 (z : Int)] 26) none
    obtain ⟨b0, b1, -⟩ := cells2 (heap_alloc_new w1 (.cells #[.int .i64 (n : Int), .int .i64 (z : Int)] 26))
    have HG2 := Lib.hid (gb_trans HG1.out hga)
    have d5 : ((n : Int) == 0) = false := beq_eq_false_iff_ne.2 (by omega)
    have d6 : ((n : Int) != 0) = true := by rw [bne, d5]; rfl
    have d7 : decide ((0 : Int) ≤ (z : Int)) = true := decide_eq_true (by omega)
    have d8 : decide ((z : Int) ≤ (s.size : Int)) = true := decide_eq_true (by omega)
    have d8' : decide (z ≤ s.size) = true := decide_eq_true hzl
    clear hga HLX
    go_wp2_with fail
    go_ret
    exact ⟨rfl, HG2.out⟩

set_option maxRecDepth 100000 in
set_option maxHeartbeats 2000000 in
theorem places_c (s : ByteArray) (w : World) (hs : s.size < 9223372036854775808) (hla : LaidE w) : Calls Tryd.prog 5 #[.string s] w (ValPost (.bool true) w) := by
  by_cases hb : 3000 < s.size
  · have d1 : decide ((3000 : Int) < (s.size : Int)) = true := decide_eq_true (by omega)
    have d1' : decide (3000 < s.size) = true := decide_eq_true hb
    have HLA := Lib.hid hla
    clear hla
    go_enter Tryd.func5, Tryd.ntmps5
    go_wp2_with fail
    refine (anchor_c _ HLA.out).mono ?_
    rintro e w0 ⟨rfl, hg0⟩
    have HG0 := Lib.hid hg0
    clear hg0
    go_wp2_with fail
    go_ret
    exact ⟨rfl, HG0.out⟩
  · exact places_yes s w (by omega) hla
end Go.Proofs.YtohdpodnfgdnbaaDoor
