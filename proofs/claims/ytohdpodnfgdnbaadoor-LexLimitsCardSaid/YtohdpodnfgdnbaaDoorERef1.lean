/- The document's answer: what stands ahead of a token. -/
import Derived.Test.YtohdpodnfgdnbaaDoorELead
import Derived.Deep.WholeRow
namespace Go.Proofs.YtohdpodnfgdnbaaDoor
open Go.RowKit

theorem drop_at {s : ByteArray} {k : Nat} (h : k < s.size) : s.data.toList.drop k = s[k] :: s.data.toList.drop (k + 1) := by
  have h1 := byte_at (s := s) h
  obtain ⟨h2, h3⟩ := List.getElem?_eq_some_iff.1 h1
  have := List.drop_eq_getElem_cons h2
  rw [h3] at this
  exact this

theorem drop_end {s : ByteArray} {k : Nat} (h : s.size ≤ k) : s.data.toList.drop k = [] := List.drop_of_length_le (by rw [list_len]; exact h)

set_option maxRecDepth 100000 in
set_option maxHeartbeats 8000000 in
theorem rlead_c (s : ByteArray) (p0 : Nat) (w : World) (hs : s.size ≤ 1000000) (hp0 : p0 ≤ s.size) : Calls Tryd.prog 15 #[.string s, .int .i64 (p0 : Int)] w (IntIs ((p0 + sk false (s.data.toList.drop p0) : Nat) : Int) w) := by
  obtain ⟨V, hV⟩ : ∃ V, p0 + sk false (s.data.toList.drop p0) = V := ⟨_, rfl⟩
  rw [hV]
  have HV := Lib.hid hV
  have HBL := Lib.hid (fun b W => rblank_c b W)
  clear hV
  go_enter Tryd.func15, Tryd.ntmps15
  go_wp2_with fail
  go_loopw [1] (fun i wr => ∃ p : Nat, p ≤ s.size ∧ i = .int .i64 p ∧ Hid (p + sk false (s.data.toList.drop p) = V) ∧ wr = w) (fun i _ => s.size - (intOf i).toNat)
  case atStart => exact ⟨p0, hp0, rfl, HV, rfl⟩
  case round =>
    clear HV hp0
    obtain ⟨p, hp, rfl, HV, rfl⟩ := hrel
    by_cases hlt : p < s.size
    · have d1 : decide ((p : Int) < (s.size : Int)) = true := decide_eq_true (by omega)
      have d1' : decide (p < s.size) = true := decide_eq_true hlt
      have HB := Lib.hid (HBL.out s[p] wr)
      have hd := drop_at hlt
      have hw1 : IntKind.i64.wrap ((p : Int) + 1) = (p : Int) + 1 := IntWalk.i64_in _ (by omega)
      cases hx : isBl s[p]
      · rw [hx] at HB
        by_cases h45 : s[p] = 45
        · have d2 : ((s[p].toNat : Int) == 45) = true := byte_eq 45 rfl h45
          by_cases hlt2 : p + 1 < s.size
          · have d3 : decide ((p : Int) + 1 < (s.size : Int)) = true := decide_eq_true (by omega)
            have d3' : decide (p + 1 < s.size) = true := decide_eq_true hlt2
            have hd2 := drop_at hlt2
            by_cases h452 : s[p + 1] = 45
            · have d4 : ((s[p + 1].toNat : Int) == 45) = true := byte_eq 45 rfl h452
              have HV2 : Hid (p + sk true (s.data.toList.drop p) = V) := Lib.hid (by
                rw [← HV.out, hd, hd2]
                simp [sk, h45, h452, isBl])
              have H45 := Lib.hid h45
              clear hx hd hd2 h45 h452
              go_wp2_with fail
              refine HB.out.mono ?_
              rintro e w1 ⟨rfl, rfl⟩
              go_wp2_with fail
              clear d1 d1' d2 d3 d3' d4 HB
              go_loopw [1] (fun i wr2 => ∃ q : Nat, p ≤ q ∧ q ≤ s.size ∧ i = .int .i64 q ∧ Hid (q + sk true (s.data.toList.drop q) = V) ∧ wr2 = wr) (fun i _ => s.size - (intOf i).toNat)
              case atStart => exact ⟨p, Nat.le_refl _, hp, rfl, HV2, rfl⟩
              case round =>
                clear HV2
                obtain ⟨q, hpq, hq, rfl, HV2, rfl⟩ := hrel
                by_cases hlt3 : q < s.size
                · have d1 : decide ((q : Int) < (s.size : Int)) = true := decide_eq_true (by omega)
                  have d1' : decide (q < s.size) = true := decide_eq_true hlt3
                  have hd := drop_at hlt3
                  by_cases h10 : s[q] = 10
                  · have d2 : ((s[q].toNat : Int) == 10) = true := byte_eq 10 rfl h10
                    have d2' : ((s[q].toNat : Int) != 10) = false := by rw [bne, d2]; rfl
                    have HV3 : Hid (q + sk false (s.data.toList.drop q) = V) := Lib.hid (by
                      rw [← HV2.out, hd]
                      simp [sk, h10, isBl])
                    have hne : q ≠ p := by
                      rintro rfl
                      rw [H45.out] at h10; cases h10
                    clear hd h10
                    go_wp2_with fail
                    go_roundw
                    case rel => exact ⟨q, hq, rfl, HV3, by first | rfl | trivial⟩
                    case measure => (simp [intOf] <;> omega)
                  · have d2 : ((s[q].toNat : Int) == 10) = false := byte_ne 10 rfl h10
                    have d2' : ((s[q].toNat : Int) != 10) = true := by rw [bne, d2]; rfl
                    have hw2 : IntKind.i64.wrap ((q : Int) + 1) = (q : Int) + 1 := IntWalk.i64_in _ (by omega)
                    have HV3 : Hid (q + 1 + sk true (s.data.toList.drop (q + 1)) = V) := Lib.hid (by
                      rw [← HV2.out, hd]
                      simp [sk, h10]; omega)
                    clear hd h10
                    go_wp2_with fail
                    go_roundw
                    case rel => exact ⟨q + 1, by omega, by omega, by go_num, HV3, by first | rfl | trivial⟩
                    case measure => (simp [intOf] <;> omega)
                · obtain rfl : q = s.size := by omega
                  have d1 : decide ((s.size : Int) < (s.size : Int)) = false := decide_eq_false (by omega)
                  have HV3 : Hid (s.size + sk false (s.data.toList.drop s.size) = V) := Lib.hid (by
                    rw [← HV2.out, drop_end (Nat.le_refl _)]; rfl)
                  go_wp2_with fail
                  go_roundw
                  case rel => exact ⟨s.size, Nat.le_refl _, rfl, HV3, by first | rfl | trivial⟩
                  case measure => (simp [intOf] <;> omega)
            · have d4 : ((s[p + 1].toNat : Int) == 45) = false := byte_ne 45 rfl h452
              have HR : Hid (p = V) := Lib.hid (by
                rw [← HV.out, hd, hd2]
                simp [sk, h45, h452, isBl])
              clear hx hd hd2 h45 h452
              go_wp2_with fail
              refine HB.out.mono ?_
              rintro e w1 ⟨rfl, rfl⟩
              go_wp2_with fail
              go_ret
              exact ⟨by rw [← HR.out]; rfl, rfl⟩
          · have d3 : decide ((p : Int) + 1 < (s.size : Int)) = false := decide_eq_false (by omega)
            have d3' : decide (p + 1 < s.size) = false := decide_eq_false hlt2
            have HR : Hid (p = V) := Lib.hid (by
              rw [← HV.out, hd, drop_end (by omega)]
              simp [sk, h45, isBl])
            clear hx hd h45
            go_wp2_with fail
            refine HB.out.mono ?_
            rintro e w1 ⟨rfl, rfl⟩
            go_wp2_with fail
            go_ret
            exact ⟨by rw [← HR.out]; rfl, rfl⟩
        · have d2 : ((s[p].toNat : Int) == 45) = false := byte_ne 45 rfl h45
          have HR : Hid (p = V) := Lib.hid (by
            rw [← HV.out, hd]
            simp [sk, h45, hx])
          clear hx hd h45
          by_cases hlt2 : p + 1 < s.size
          · have d3 : decide ((p : Int) + 1 < (s.size : Int)) = true := decide_eq_true (by omega)
            have d3' : decide (p + 1 < s.size) = true := decide_eq_true hlt2
            go_wp2_with fail
            refine HB.out.mono ?_
            rintro e w1 ⟨rfl, rfl⟩
            go_wp2_with fail
            go_ret
            exact ⟨by rw [← HR.out]; rfl, rfl⟩
          · have d3 : decide ((p : Int) + 1 < (s.size : Int)) = false := decide_eq_false (by omega)
            have d3' : decide (p + 1 < s.size) = false := decide_eq_false hlt2
            go_wp2_with fail
            refine HB.out.mono ?_
            rintro e w1 ⟨rfl, rfl⟩
            go_wp2_with fail
            go_ret
            exact ⟨by rw [← HR.out]; rfl, rfl⟩
      · rw [hx] at HB
        have HV3 : Hid (p + 1 + sk false (s.data.toList.drop (p + 1)) = V) := Lib.hid (by
          rw [← HV.out, hd]
          simp [sk, hx]; omega)
        clear hx hd
        go_wp2_with fail
        refine HB.out.mono ?_
        rintro e w1 ⟨rfl, rfl⟩
        go_wp2_with fail
        go_roundw
        case rel => exact ⟨p + 1, by omega, by go_num, HV3, by first | rfl | trivial⟩
        case measure => (simp [intOf] <;> omega)
    · obtain rfl : p = s.size := by omega
      have d1 : decide ((s.size : Int) < (s.size : Int)) = false := decide_eq_false (by omega)
      have HR : Hid (s.size = V) := Lib.hid (by
        rw [← HV.out, drop_end (Nat.le_refl _)]; rfl)
      go_wp2_with fail
      go_ret
      exact ⟨by rw [← HR.out]; rfl, rfl⟩
end Go.Proofs.YtohdpodnfgdnbaaDoor
