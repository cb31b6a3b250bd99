/- The law on blanks and remarks, walked. -/
import Derived.Test.YtohdpodnfgdnbaaDoorEMath3
namespace Go.Proofs.YtohdpodnfgdnbaaDoor
open Go.RowKit

/-- A slice of ints reads as a list. -/
def ZAt (w : World) (p : Option Addr) (zs : List Int) : Prop :=
  zs = [] ∨ ∃ g off, p = some ⟨g, off, none⟩ ∧ g < w.heap.size ∧ ∀ j z, zs[j]? = some z → w.cell? ⟨g, off + j, none⟩ = some (.int .i64 z)

theorem ZAt.kept {w w' : World} {p : Option Addr} {l : List Int} (h : ZAt w p l) (hg : w.grownBy w' none) : ZAt w' p l := by
  rcases h with h | ⟨g, off, rfl, hl, hc⟩
  · exact .inl h
  · exact .inr ⟨g, off, rfl, Nat.lt_of_lt_of_le hl hg.size, fun j q hj => hg.cell (hc j q hj) (by simp)⟩

theorem ba_ext {a b : ByteArray} (h : a.data.toList = b.data.toList) : a = b := by
  rw [ba_data a h]

theorem app_list (a b : ByteArray) : (a ++ b).data.toList = a.data.toList ++ b.data.toList := by
  rw [ByteArray.data_append, Array.toList_append]

theorem wrap_tmod (z : Int) : IntKind.i64.wrap (z.tmod 4) = z.tmod 4 := by
  have h1 := Int.lt_tmod_of_pos z (show (0 : Int) < 4 by decide)
  have h2 := Int.tmod_lt_of_pos z (show (0 : Int) < 4 by decide)
  exact IntWalk.i64_in _ (by omega)

set_option maxRecDepth 100000 in
set_option maxHeartbeats 16000000 in
theorem blanks_yes (s : ByteArray) (q : Option Addr) (c : Nat) (Z : List Int) (w : World) (hs : s.size ≤ 1000) (hz : Z.length ≤ 300) (hq : ZAt w q Z) (hla : LaidE w) : Calls Tryd.prog 4 #[.string s, .slice q Z.length c] w (ValPost (.bool true) w) := by
  have d1 : decide ((1000 : Int) < (s.size : Int)) = false := decide_eq_false (by omega)
  have d1' : decide (1000 < s.size) = false := decide_eq_false (by omega)
  obtain ⟨nz, hnz⟩ : ∃ nz, Z.length = nz := ⟨_, rfl⟩
  have HNZ := Lib.hid hnz
  rw [hnz] at hz ⊢
  have d2 : decide ((300 : Int) < (nz : Int)) = false := decide_eq_false (by omega)
  have d2' : decide (300 < nz) = false := decide_eq_false (by omega)
  have HLA := Lib.hid hla
  have HBIG : Hid (¬ 65536 < s.data.toList.length) := Lib.hid (by rw [list_len]; omega)
  have HLX := Lib.hid (fun W (h : LaidE W) => Lex_c s W (by omega) h)
  have HS := Lib.hid hs; have HZ := Lib.hid hz; have HQ := Lib.hid hq
  clear hla hs hnz hq
  go_enter Tryd.func4, Tryd.ntmps4
  go_wp2_with fail
  refine (anchor_c _ HLA.out).mono ?_
  rintro e w0 ⟨rfl, hg0⟩
  have HG0 := Lib.hid hg0
  clear hg0
  go_wp2_with fail
  refine (HLX.out w0 (HLA.out.kept HG0.out)).mono ?_
  rintro e w1 ⟨hg1, h1⟩
  rw [if_neg HBIG.out] at h1
  have HG1 := Lib.hid (gb_trans HG0.out hg1)
  clear hg1 d1 d1' d2 d2' HLX
  obtain ⟨n, hn⟩ : ∃ n, (allE s.data.toList).2.1 = n := ⟨_, rfl⟩
  by_cases hn0 : n = 0
  · subst hn0
    rw [hn, if_neg (by simp)] at h1
    obtain ⟨q1, c1, rfl, hq1, hl1, hm1⟩ := h1
    obtain ⟨J, hJ⟩ : ∃ J : Nat → List UInt8, (fun i => insE ((Z.getD i 0).tmod 4)) = J := ⟨_, rfl⟩
    obtain ⟨j1, j2⟩ := join_all (J := J) (fun i => by rw [← hJ]; exact insE_closed _) hn
    have hjl := joinE_len J (fun i => by rw [← hJ]; exact insE_len _) (allE s.data.toList).1 0
    obtain ⟨L, hL⟩ : ∃ L, (allE s.data.toList).1 = L := ⟨_, rfl⟩
    obtain ⟨m, hm⟩ : ∃ m, L.length = m := ⟨_, rfl⟩
    have hw := whole_all hn
    have hll := len_all hn
    rw [hL] at hq1 hw hll j1 j2 hjl ⊢
    rw [hm] at hll hjl ⊢
    rw [hw] at hjl
    rw [list_len] at hll hjl
    have hm6 : m ≤ 1001 := by have := HS.out; omega
    have HM := Lib.hid hm; have HW := Lib.hid hw; have HQ1 := Lib.hid hq1; have HJ := Lib.hid hJ; have HJ1 := Lib.hid j1; have HJ2 := Lib.hid j2; have HJL := Lib.hid hjl
    clear hn hL hm hw hq1 hl1 hm1 hll j1 j2 hjl hJ
    have hga := World.grownBy_alloc w1 (.cells #[.int .i64 0, .int .i64 0] 26) none
    obtain ⟨b0, b1, -⟩ := cells2 (heap_alloc_new w1 (.cells #[.int .i64 0, .int .i64 0] 26))
    have HG2 := Lib.hid (gb_trans HG1.out hga)
    have HQ2 := Lib.hid (HQ1.out.kept hga)
    clear hga
    go_wp2_with fail
    generalize w1.alloc (.cells #[.int .i64 0, .int .i64 0] 26) = W1 at *
    have HQZ := Lib.hid (HQ.out.kept HG2.out)
    clear b0 b1 HQ1 HQ
    go_loopw [7, 35] (fun tv i wr => ∃ (k : Nat) (u : ByteArray), k ≤ m ∧ i = .int .i64 k ∧ tv = .string u ∧ Hid (u.data.toList = joinE J 0 (L.take k)) ∧ Hid (W1.grownBy wr none)) (fun _ i _ => m - (intOf i).toNat)
    case atStart => exact ⟨0, ⟨#[]⟩, Nat.zero_le _, rfl, rfl, Lib.hid rfl, gb_refl _ _⟩
    case round =>
      obtain ⟨k, u, hk, rfl, rfl, HUD, HG⟩ := hrel
      by_cases hlt : k < m
      · have d1 : decide ((k : Int) < (m : Int)) = true := decide_eq_true (by omega)
        have d1' : decide (k < m) = true := decide_eq_true hlt
        obtain ⟨t, ht⟩ : ∃ t, L[k]? = some t := ⟨L[k]'(by rw [HM.out]; exact hlt), List.getElem?_eq_getElem _⟩
        obtain ⟨g1, o1, rfl, hgl1, hc1⟩ := HQ2.out.resolve_left (fun h => by have h1 := HM.out; rw [h] at h1; simp at h1; omega)
        obtain ⟨x0, x1, x2, x3⟩ := hc1 k t ht
        unfold strV at x1 x2
        obtain ⟨tl, htl⟩ : ∃ tl : ByteArray, (⟨t.lead.toArray⟩ : ByteArray) = tl := ⟨_, rfl⟩
        obtain ⟨tt, htt⟩ : ∃ tt : ByteArray, (⟨t.text.toArray⟩ : ByteArray) = tt := ⟨_, rfl⟩
        have htld : tl.data.toList = t.lead := by rw [← htl]
        have httd : tt.data.toList = t.text := by rw [← htt]
        rw [htl] at x1
        rw [htt] at x2
        have HJN : Hid (∀ x : ByteArray, x.data.toList = joinE J 0 (L.take k) ++ (insE ((Z.getD k 0).tmod 4) ++ (t.lead ++ t.text)) → x.data.toList = joinE J 0 (L.take (k + 1))) := Lib.hid (fun x hx => by
          rw [hx, List.take_add_one, ht, Option.toList_some, joinE_snoc, Nat.zero_add, List.length_take, HM.out, Nat.min_eq_left hk, ← HJ.out])
        rw [← htld, ← httd] at HJN
        have hus : u.size ≤ 20000 := by
          have e1 := joinE_len J (fun i => by rw [← HJ.out]; exact insE_len _) (L.take k) 0
          have e2 := wholeL_take L k
          rw [← HUD.out, list_len] at e1
          rw [HW.out, list_len] at e2
          rw [List.length_take] at e1
          have := HS.out
          omega
        have htls : tl.size + tt.size ≤ 1000 := by
          have e1 := wholeL_take L (k + 1)
          rw [wholeL_next ht, HW.out, list_len, ← htld, ← httd] at e1
          simp only [List.length_append, list_len] at e1
          have := HS.out
          omega
        have a0 := HG.out.cell x0 (by simp)
        have a1 := HG.out.cell x1 (by simp)
        have a2 := HG.out.cell x2 (by simp)
        have a3 := HG.out.cell x3 (by simp)
        have hgl := Nat.lt_of_lt_of_le hgl1 HG.out.size
        generalize t.kind = tk at *
        generalize t.pos = tp at *
        clear x0 x1 x2 x3 hc1 hgl1 ht htl htt htld httd
        by_cases hz2 : k < nz
        · have d3 : decide ((k : Int) < (nz : Int)) = true := decide_eq_true (by omega)
          have d3' : decide (k < nz) = true := decide_eq_true hz2
          obtain ⟨z, hzz⟩ : ∃ z, Z[k]? = some z := ⟨Z[k]'(by rw [HNZ.out]; exact hz2), List.getElem?_eq_getElem _⟩
          obtain ⟨g2, o2, rfl, hgl2, hc2⟩ := HQZ.out.resolve_left (fun h => by have h1 := HNZ.out; rw [h] at h1; simp at h1; omega)
          have z0 := HG.out.cell (hc2 k z hzz) (by simp)
          have hzg : Z.getD k 0 = z := by rw [List.getD_eq_getElem?_getD, hzz]; rfl
          rw [hzg] at HJN
          have hgl3 := Nat.lt_of_lt_of_le hgl2 HG.out.size
          have hwz := wrap_tmod z
          obtain ⟨rr, hrr⟩ : ∃ rr, z.tmod 4 = rr := ⟨_, rfl⟩
          rw [hrr] at HJN
          clear hc2 hgl2 hzz hzg
          by_cases h1 : rr = 1
          · have e1 : (rr == 1) = true := by simp [h1]
            have HRV : Hid (insE rr = [32, 9, 13, 10]) := Lib.hid (by unfold insE; rw [if_pos h1])
            clear h1
            go_wp2_with fail
            all_goals (try (exfalso; omega))
            go_roundw
            case rel => exact ⟨k + 1, (u ++ (⟨#[32, 9, 13, 10]⟩ : ByteArray)) ++ (tl ++ tt), by omega, by go_num, rfl, Lib.hid (HJN.out _ (by simp [app_list, HUD.out, HRV.out])), Lib.hid (gb_alloc HG.out _)⟩
            case measure => (simp [intOf] <;> omega)
          · have e1 : (rr == 1) = false := by simp [h1]
            by_cases h2 : rr = 2
            · have e2 : (rr == 2) = true := by simp [h2]
              have HRV : Hid (insE rr = [10, 45, 45, 108, 101, 116, 32, 39, 120, 10]) := Lib.hid (by unfold insE; rw [if_neg h1, if_pos h2])
              clear h1 h2
              go_wp2_with fail
              all_goals (try (exfalso; omega))
              go_roundw
              case rel => exact ⟨k + 1, (u ++ (⟨#[10, 45, 45, 108, 101, 116, 32, 39, 120, 10]⟩ : ByteArray)) ++ (tl ++ tt), by omega, by go_num, rfl, Lib.hid (HJN.out _ (by simp [app_list, HUD.out, HRV.out])), Lib.hid (gb_alloc HG.out _)⟩
              case measure => (simp [intOf] <;> omega)
            · have e2 : (rr == 2) = false := by simp [h2]
              by_cases h3 : rr = 3
              · have e3 : (rr == 3) = true := by simp [h3]
                have HRV : Hid (insE rr = [32, 45, 45, 32, 45, 45, 32, 40, 32, 10, 45, 45, 10]) := Lib.hid (by unfold insE; rw [if_neg h1, if_neg h2, if_pos h3])
                clear h1 h2 h3
                go_wp2_with fail
                all_goals (try (exfalso; omega))
                go_roundw
                case rel => exact ⟨k + 1, (u ++ (⟨#[32, 45, 45, 32, 45, 45, 32, 40, 32, 10, 45, 45, 10]⟩ : ByteArray)) ++ (tl ++ tt), by omega, by go_num, rfl, Lib.hid (HJN.out _ (by simp [app_list, HUD.out, HRV.out])), Lib.hid (gb_alloc HG.out _)⟩
                case measure => (simp [intOf] <;> omega)
              · have e3 : (rr == 3) = false := by simp [h3]
                have HRV : Hid (insE rr = []) := Lib.hid (by unfold insE; rw [if_neg h1, if_neg h2, if_neg h3])
                clear h1 h2 h3
                go_wp2_with fail
                all_goals (try (exfalso; omega))
                go_roundw
                case rel => exact ⟨k + 1, u ++ (tl ++ tt), by omega, by go_num, rfl, Lib.hid (HJN.out _ (by simp [app_list, HUD.out, HRV.out])), Lib.hid (gb_alloc HG.out _)⟩
                case measure => (simp [intOf] <;> omega)
        · have d3 : decide ((k : Int) < (nz : Int)) = false := decide_eq_false (by omega)
          have d3' : decide (k < nz) = false := decide_eq_false hz2
          have hzg : Z.getD k 0 = 0 := by rw [List.getD_eq_getElem?_getD, List.getElem?_eq_none (by rw [HNZ.out]; omega)]; rfl
          rw [hzg] at HJN
          have HRV : Hid (insE 0 = []) := Lib.hid (by decide)
          clear hzg
          go_wp2_with fail
          all_goals (try (exfalso; omega))
          go_roundw
          case rel => exact ⟨k + 1, u ++ (tl ++ tt), by omega, by go_num, rfl, Lib.hid (HJN.out _ (by simp [app_list, HUD.out, HRV.out])), Lib.hid (gb_alloc HG.out _)⟩
          case measure => (simp [intOf] <;> omega)
      · obtain rfl : k = m := by omega
        have d1 : decide ((k : Int) < (k : Int)) = false := decide_eq_false (by omega)
        rw [List.take_of_length_le (by rw [HM.out]; exact Nat.le_refl _)] at HUD
        have husz : u.size ≤ 20000 := by
          have := HJL.out
          rw [← HUD.out, list_len] at this
          have := HS.out
          omega
        have HLY := Lib.hid (fun W (h : LaidE W) => Lex_c u W (by omega) h)
        have HUS := Lib.hid husz
        go_wp2_with fail
        refine (HLY.out wr (HLA.out.kept (gb_trans HG2.out HG.out))).mono ?_
        rintro e w3 ⟨hg3, h3⟩
        rw [if_neg (by rw [list_len]; omega), HUD.out, if_neg (by rw [HJ1.out]; simp)] at h3
        obtain ⟨q3, c3, rfl, hq3, -, -⟩ := h3
        obtain ⟨M, hM⟩ : ∃ M, (allE (joinE J 0 L)).1 = M := ⟨_, rfl⟩
        have hsame := HJ2.out
        have hwm := whole_all HJ1.out
        have hlm := len_all HJ1.out
        rw [hM] at hq3 hsame hwm hlm ⊢
        rw [hsame.len, HM.out] at hlm ⊢
        rw [← HUD.out] at hwm
        have HSM := Lib.hid hsame; have HWM := Lib.hid hwm; have HQ3 := Lib.hid hq3
        have HLM : Hid (M.length = k) := Lib.hid (by rw [hsame.len, HM.out])
        have HG3 := Lib.hid (gb_trans HG.out hg3)
        clear HLY hg3 hq3 hsame hwm hlm hM husz
        have hga := World.grownBy_alloc w3 (.cells #[.int .i64 0, .int .i64 0] 26) none
        obtain ⟨b0, b1, -⟩ := cells2 (heap_alloc_new w3 (.cells #[.int .i64 0, .int .i64 0] 26))
        have HG4 := Lib.hid (gb_trans HG3.out hga)
        have HQ4 := Lib.hid (HQ3.out.kept hga)
        have HQ5 := Lib.hid (HQ2.out.kept HG4.out)
        clear hga
        go_wp2_with fail
        generalize w3.alloc (.cells #[.int .i64 0, .int .i64 0] 26) = W3 at *
        clear b0 b1 HQ3 HQ2
        go_loopw [85] (fun i wr => ∃ j : Nat, j ≤ k ∧ i = .int .i64 j ∧ Hid (W3.grownBy wr none)) (fun i _ => k - (intOf i).toNat)
        case atStart => exact ⟨0, Nat.zero_le _, rfl, gb_refl _ _⟩
        case round =>
          obtain ⟨j, hj, rfl, HGJ⟩ := hrel
          by_cases hlt2 : j < k
          · have d4 : decide ((j : Int) < (k : Int)) = true := decide_eq_true (by omega)
            have d4' : decide (j < k) = true := decide_eq_true hlt2
            obtain ⟨t, ht⟩ : ∃ t, L[j]? = some t := ⟨L[j]'(by rw [HM.out]; exact hlt2), List.getElem?_eq_getElem _⟩
            obtain ⟨r, hr⟩ : ∃ r, M[j]? = some r := ⟨M[j]'(by rw [HLM.out]; exact hlt2), List.getElem?_eq_getElem _⟩
            obtain ⟨s1, s2, s3⟩ := HSM.out.get ht hr
            obtain ⟨g1, o1, rfl, hgl1, hc1⟩ := HQ5.out.resolve_left (fun h => by have h1 := HM.out; rw [h] at h1; simp at h1; omega)
            obtain ⟨g2, o2, rfl, hgl2, hc2⟩ := HQ4.out.resolve_left (fun h => by have h1 := HLM.out; rw [h] at h1; simp at h1; omega)
            obtain ⟨x0, x1, x2, x3⟩ := hc1 j t ht
            obtain ⟨y0, y1, y2, y3⟩ := hc2 j r hr
            rw [← s1] at y0
            rw [← s2] at y2
            unfold strV at x2 y2 y1
            generalize (⟨t.text.toArray⟩ : ByteArray) = tt at *
            generalize (⟨r.lead.toArray⟩ : ByteArray) = rl at *
            generalize t.kind = tk at *
            generalize t.pos = tp at *
            generalize r.pos = rp at *
            have a0 := HGJ.out.cell x0 (by simp)
            have a2 := HGJ.out.cell x2 (by simp)
            have a3 := HGJ.out.cell x3 (by simp)
            have e0 := HGJ.out.cell y0 (by simp)
            have e1 := HGJ.out.cell y1 (by simp)
            have e2 := HGJ.out.cell y2 (by simp)
            have e3 := HGJ.out.cell y3 (by simp)
            have d5 : decide ((rp : Int) < (tp : Int)) = false := decide_eq_false (by omega)
            have d5' : decide (rp < tp) = false := decide_eq_false (by omega)
            clear hc1 hc2 hgl1 hgl2 ht hr s1 s2 x0 x1 x2 x3 y0 y1 y2 y3
            go_wp2_with fail
            have hga := World.grownBy_alloc wr (.cells #[.int .i64 (tk : Int), .string rl, .string tt, .int .i64 (rp : Int)] 33) none
            have hbx := heap_alloc_new wr (.cells #[.int .i64 (tk : Int), .string rl, .string tt, .int .i64 (rp : Int)] 33)
            have f0 := hga.cell a0 (by simp)
            have f2 := hga.cell a2 (by simp)
            have f3 := hga.cell a3 (by simp)
            obtain ⟨b0, b1, b2, b3, -⟩ := cells4 hbx
            have HG6 := Lib.hid (gb_trans HGJ.out hga)
            generalize wr.alloc (.cells #[.int .i64 (tk : Int), .string rl, .string tt, .int .i64 (rp : Int)] 33) = W4 at *
            clear hga hbx a0 a2 a3 e0 e1 e2 e3
            go_quiet (fail)
            go_wp2_with fail
            go_roundw
            case rel => exact ⟨j + 1, by omega, by go_num, Lib.hid (gb_drewN HG6.out _)⟩
            case measure => (simp [intOf] <;> omega)
          · obtain rfl : j = k := by omega
            have d4 : decide ((j : Int) < (j : Int)) = false := decide_eq_false (by omega)
            have HWH := Lib.hid (Whole_c q3 c3 M wr (by have := HLM.out; omega) (by rw [HWM.out, list_len]; have := HUS.out; omega) (HQ4.out.kept HGJ.out))
            rw [HLM.out, HWM.out] at HWH
            go_wp2_with fail
            refine HWH.out.mono ?_
            rintro e w5 ⟨⟨r, rfl, hr⟩, hg5⟩
            obtain rfl : r = u := ba_ext hr
            have HG5 := Lib.hid (gb_trans HG2.out (gb_trans HG4.out (gb_trans HGJ.out hg5)))
            have hrr : (r.toList == r.toList) = true := by simp
            clear HWH hr hg5
            go_wp2_with fail
            go_ret
            exact ⟨rfl, HG5.out⟩
  · rw [hn, if_pos hn0] at h1
    subst h1
    obtain ⟨z, hz⟩ : ∃ z, (allE s.data.toList).2.2 = z := ⟨_, rfl⟩
    rw [hz]
    clear hn hz
    have hga := World.grownBy_alloc w1 (.cells #[.int .i64 (n : Int), .int .i64 (z : Int)] 26) none
    obtain ⟨b0, b1, -⟩ := cells2 (heap_alloc_new w1 (.cells #[.int .i64 (n : Int), .int .i64 (z : Int)] 26))
    have HG2 := Lib.hid (gb_trans HG1.out hga)
    have d5 : ((n : Int) == 0) = false := beq_eq_false_iff_ne.2 (by omega)
    have d6 : ((n : Int) != 0) = true := by rw [bne, d5]; rfl
    clear hga
    go_wp2_with fail
    go_ret
    exact ⟨rfl, HG2.out⟩

set_option maxRecDepth 100000 in
set_option maxHeartbeats 2000000 in
theorem blanks_c (s : ByteArray) (q : Option Addr) (c : Nat) (Z : List Int) (w : World) (hs : s.size < 9223372036854775808) (hz : Z.length < 9223372036854775808) (hq : ZAt w q Z) (hla : LaidE w) : Calls Tryd.prog 4 #[.string s, .slice q Z.length c] w (ValPost (.bool true) w) := by
  by_cases hb : 1000 < s.size
  · have d1 : decide ((1000 : Int) < (s.size : Int)) = true := decide_eq_true (by omega)
    have d1' : decide (1000 < s.size) = true := decide_eq_true hb
    have HLA := Lib.hid hla
    clear hla hq
    generalize Z.length = nz at *
    go_enter Tryd.func4, Tryd.ntmps4
    go_wp2_with fail
    refine (anchor_c _ HLA.out).mono ?_
    rintro e w0 ⟨rfl, hg0⟩
    have HG0 := Lib.hid hg0
    clear hg0
    go_wp2_with fail
    go_ret
    exact ⟨rfl, HG0.out⟩
  · by_cases hb2 : 300 < Z.length
    · have d1 : decide ((1000 : Int) < (s.size : Int)) = false := decide_eq_false (by omega)
      have d1' : decide (1000 < s.size) = false := decide_eq_false hb
      have HLA := Lib.hid hla
      clear hla hq
      generalize Z.length = nz at *
      have d2 : decide ((300 : Int) < (nz : Int)) = true := decide_eq_true (by omega)
      have d2' : decide (300 < nz) = true := decide_eq_true hb2
      go_enter Tryd.func4, Tryd.ntmps4
      go_wp2_with fail
      refine (anchor_c _ HLA.out).mono ?_
      rintro e w0 ⟨rfl, hg0⟩
      have HG0 := Lib.hid hg0
      clear hg0
      go_wp2_with fail
      go_ret
      exact ⟨rfl, HG0.out⟩
    · exact blanks_yes s q c Z w (by omega) (by omega) hq hla

/-- A list that came in. -/
theorem zat_open {w : World} {a : Addr} {n c : Nat} {zs : List Int} {b : Bool} (hl : n ≤ c) (hz : zs.length = if b then c else n) (hc : ∀ i, i < zs.length → w.cell? (a.add i) = some (.int .i64 (zs.getD i 0))) :
    ∃ l : List Int, l.length = n ∧ ZAt w (some a) l := by
  have hnz : n ≤ zs.length := by rw [hz]; split <;> omega
  refine ⟨zs.take n, by simp; omega, ?_⟩
  by_cases h0 : n = 0
  · subst h0; exact .inl (by simp)
  · have h1 := hc 0 (by omega)
    have hs := World.cell?_spot h1
    obtain ⟨g, o, sp⟩ := a
    have hsp : sp = none := by simpa [Addr.add] using hs
    subst hsp
    refine .inr ⟨g, o, rfl, ?_, fun j z hj => ?_⟩
    · have := World.block_lt_of_cell? w _ h1; simpa [Addr.add] using this
    · rw [List.getElem?_take] at hj
      split at hj
      · have hjz := (List.getElem?_eq_some_iff.1 hj).1
        have h2 := hc j hjz
        rw [Addr.add_lit] at h2
        rw [h2]
        simp [List.getD, hj]
      · cases hj
end Go.Proofs.YtohdpodnfgdnbaaDoor
