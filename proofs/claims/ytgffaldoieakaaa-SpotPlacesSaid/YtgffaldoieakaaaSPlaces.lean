/- The law on places, walked. -/
import Derived.Test.YtgffaldoieakaaaSPlace2
namespace Go.Proofs.Ytgffaldoieakaaa
open Go.RowKit

theorem isAt_one {s : ByteArray} {i j : Nat} {l b : Int} (h : IsAt s i l b) (k : IsAt s j l b) : i = j := by
  have hL : s.data.toList.length = s.size := Array.length_toList
  obtain ⟨h1, h2, h3⟩ := h
  obtain ⟨k1, k2, k3⟩ := k
  exact atL_inj s.data.toList (by omega) (by omega) (Prod.ext (by omega) (by omega))

/-- The law's last loop. -/
def SeekPost (s : ByteArray) (l b : Int) (f n : Int) : Prop := (∃ i : Nat, IsAt s i l b ∧ f = 0 ∧ n = i) ∨ ((∀ i, ¬ IsAt s i l b) ∧ f = 12 ∧ n = 0)

set_option maxRecDepth 100000 in
set_option maxHeartbeats 16000000 in
theorem places_yes (s : ByteArray) (pl l b : Int) (w : World) (hs : s.size ≤ 300) (h0 : -9223372036854775808 ≤ l) (h1 : l < 9223372036854775808) :
    Calls Try.prog 3 #[.string s, .int .i64 pl, .agg #[.int .i64 l, .int .i64 b]] w (ValPost (.bool true) w) := by
  have HAT := Lib.hid (fun W => at_any s pl W hs)
  have HRA := Lib.hid (fun (j : Nat) W (hj : j ≤ s.size) => RAt_c s j W hs hj)
  have HPL := Lib.hid (fun l2 b2 W (g0 : -9223372036854775808 ≤ l2) (g1 : l2 < 9223372036854775808) => place_c s l2 b2 W hs g0 g1)
  have HPP := Lib.hid (fun W => place_c s l b W hs h0 h1)
  have HB := Lib.hid (heap_alloc_new w (.cells #[.int .i64 l, .int .i64 b] 23))
  have HG := Lib.hid (World.grownBy_alloc w (.cells #[.int .i64 l, .int .i64 b] 23) none)
  have hL : s.data.toList.length = s.size := Array.length_toList
  have HL := Lib.hid hL
  obtain ⟨n, hn⟩ : ∃ n, s.size = n := ⟨_, rfl⟩
  have HN := Lib.hid hn
  rw [hn] at hs
  have d1 : decide ((300 : Int) < n) = false := decide_eq_false (by omega)
  have d1' : decide (300 < n) = false := decide_eq_false (by omega)
  clear h0 h1 hL
  go_enter Try.func3, Try.ntmps3
  go_wp2_with fail
  generalize w.alloc (.cells #[.int .i64 l, .int .i64 b] 23) = W1 at *
  generalize w.heap.size = bx1 at *
  refine (anchor_c _).mono ?_
  rintro e w0 ⟨rfl, hg0⟩
  have HB0 := Lib.hid (bx hg0 HB.out)
  have HG0 := Lib.hid (gb_trans HG.out hg0)
  clear hg0 HB
  go_wp2_with fail
  refine (HAT.out _).mono ?_
  rintro e w1 ⟨hg1, hat⟩
  have HB1 := Lib.hid (bx hg1 HB0.out)
  have HG1 := Lib.hid (gb_trans HG0.out hg1)
  clear hg1 HB0 HAT d1 d1'
  -- the last loop, from any world
  rcases hat with ⟨j, hj, rfl, rfl⟩ | ⟨hbad, rfl⟩
  · have hjb := atL_pos s.data.toList j (by rw [HL.out]; exact hj)
    obtain ⟨⟨ln, by'⟩, hat⟩ : ∃ x, atL (s.data.toList.take j) = x := ⟨_, rfl⟩
    rw [hat] at hjb ⊢
    simp only at hjb
    have HAJ := Lib.hid hat
    rw [HN.out] at hj
    have HR := Lib.hid (fun W => HRA.out j W (by rw [HN.out]; exact hj))
    have HPQ := Lib.hid (fun W => HPL.out (ln : Int) (by' : Int) W (by omega) (by omega))
    have HIA : Hid (IsAt s j (ln : Int) (by' : Int)) := Lib.hid ⟨by rw [HN.out]; exact hj, by rw [hat], by rw [hat]⟩
    have hga := World.grownBy_alloc w1 (.cells #[.int .i64 (ln : Nat), .int .i64 (by' : Nat)] 23) none
    have hnew := heap_alloc_new w1 (.cells #[.int .i64 (ln : Nat), .int .i64 (by' : Nat)] 23)
    have HB2 := Lib.hid (bx hga HB1.out)
    have HG2 := Lib.hid (gb_trans HG1.out hga)
    have HNEW := Lib.hid hnew
    obtain ⟨x0, x1, -⟩ := cells2 hnew
    have d1 : decide ((j : Int) < 0) = false := decide_eq_false (by omega)
    have d2 : decide ((n : Int) < j) = false := decide_eq_false (by omega)
    have d2' : decide (n < j) = false := decide_eq_false (by omega)
    simp only
    clear hga hnew hat hjb HPL HB1 HG1
    go_wp2_with fail
    generalize w1.alloc (.cells #[.int .i64 (ln : Nat), .int .i64 (by' : Nat)] 23) = W2 at *
    generalize w1.heap.size = bx2 at *
    refine (HR.out _).mono ?_
    rintro e w3 ⟨rfl, rfl⟩
    rw [HAJ.out]
    simp only
    go_wp2_with fail
    refine (HPQ.out _).mono ?_
    rintro e w4 ⟨hg4, h4⟩
    have he : e = .returned (.tuple #[.int .i64 (j : Int), .int .i64 0]) := by
      rcases h4 with ⟨i, hi, rfl⟩ | ⟨hno, -⟩
      · rw [isAt_one hi HIA.out]
      · exact absurd HIA.out (hno j)
    subst he
    have HBX := Lib.hid (bx hg4 HB2.out)
    have HGX := Lib.hid (gb_trans HG2.out hg4)
    have t0 := hg4.cell x0 (by simp)
    have t1 := hg4.cell x1 (by simp)
    obtain ⟨y0, y1, -⟩ := cells2 HBX.out
    clear hg4 h4 x0 x1 HB2 HG2 HR HPQ
    go_wp2_with fail
    refine (HPP.out _).mono ?_
    rintro e w5 ⟨hg5, h5⟩
    have HB5 := Lib.hid (bx hg5 HBX.out)
    have HG5 := Lib.hid (gb_trans HGX.out hg5)
    obtain ⟨nv, f, rfl, hsk⟩ : ∃ nv f : Int, e = .returned (.tuple #[.int .i64 nv, .int .i64 f]) ∧ SeekPost s l b f nv := by
      rcases h5 with ⟨i, hi, rfl⟩ | ⟨hno, rfl⟩
      · exact ⟨_, _, rfl, .inl ⟨i, hi, rfl, rfl⟩⟩
      · exact ⟨_, _, rfl, .inr ⟨hno, rfl, rfl⟩⟩
    have HSK := Lib.hid hsk
    obtain ⟨z0, z1, -⟩ := cells2 HB5.out
    clear hg5 h5 hsk HPP HBX HGX t0 t1 y0 y1
    go_wp2_with fail
    go_loopw [15] (fun iv wr => ∃ (i : Nat), i ≤ n + 1 ∧ iv = .int .i64 i ∧ Hid (∀ j, j < i → ¬ IsAt s j l b) ∧ wr = w5) (fun i _ => n + 1 - (intOf i).toNat)
    case atStart => exact ⟨0, by omega, rfl, Lib.hid (fun j h => by omega), rfl⟩
    case round =>
      obtain ⟨i, hi, rfl, HNO, rfl⟩ := hrel
      by_cases hin : i ≤ n
      · have e1 : decide ((i : Int) ≤ n) = true := decide_eq_true (by omega)
        have e1' : decide (i ≤ n) = true := decide_eq_true hin
        have HR := Lib.hid (HRA.out i wr (by rw [HN.out]; exact hin))
        go_wp2_with fail
        refine HR.out.mono ?_
        rintro e w6 ⟨rfl, rfl⟩
        obtain ⟨⟨ln2, by2⟩, hat2⟩ : ∃ x, atL (s.data.toList.take i) = x := ⟨_, rfl⟩
        rw [hat2]
        have HAT2 := Lib.hid hat2
        simp only
        clear hat2 HR
        by_cases q1 : (ln2 : Int) = l
        · by_cases q2 : (by2 : Int) = b
          · have hia : IsAt s i l b := ⟨by rw [HN.out]; exact hin, by rw [HAT2.out]; exact q1, by rw [HAT2.out]; exact q2⟩
            obtain ⟨rfl, rfl⟩ : f = 0 ∧ nv = i := by
              rcases HSK.out with ⟨i2, h2, h3, h4⟩ | ⟨h2, -⟩
              · exact ⟨h3, by rw [h4, isAt_one h2 hia]⟩
              · exact absurd hia (h2 i)
            subst q1; subst q2
            clear hia
            go_wp2_with fail
            go_ret
            exact ⟨rfl, HG5.out⟩
          · have q3 : ((by2 : Int) == b) = false := by simpa using q2
            have HNO2 : Hid (∀ j, j < i + 1 → ¬ IsAt s j l b) := Lib.hid (fun j hj h => by
              by_cases hji : j = i
              · subst hji; exact q2 (by have := h.2.2; rw [HAT2.out] at this; exact this)
              · exact HNO.out j (by omega) h)
            subst q1
            go_wp2_with fail
            go_roundw
            case rel => exact ⟨i + 1, by omega, by first | rfl | go_num, HNO2, by first | rfl | trivial⟩
            case measure => (simp [intOf] <;> omega)
        · have q3 : ((ln2 : Int) == l) = false := by simpa using q1
          have HNO2 : Hid (∀ j, j < i + 1 → ¬ IsAt s j l b) := Lib.hid (fun j hj h => by
            by_cases hji : j = i
            · subst hji; exact q1 (by have := h.2.1; rw [HAT2.out] at this; exact this)
            · exact HNO.out j (by omega) h)
          go_wp2_with fail
          go_roundw
          case rel => exact ⟨i + 1, by omega, by first | rfl | go_num, HNO2, by first | rfl | trivial⟩
          case measure => (simp [intOf] <;> omega)
      · obtain rfl : i = n + 1 := by omega
        obtain ⟨rfl, rfl⟩ : f = 12 ∧ nv = 0 := by
          rcases HSK.out with ⟨i2, h2, -, -⟩ | ⟨-, h3⟩
          · exact absurd h2 (HNO.out i2 (by have := h2.1; have := HN.out; omega))
          · exact h3
        have e1 : decide ((n : Int) + 1 ≤ n) = false := decide_eq_false (by omega)
        have e1' : decide (n + 1 ≤ n) = false := decide_eq_false hin
        go_wp2_with fail
        go_ret
        exact ⟨rfl, HG5.out⟩
  · have HBX := Lib.hid (bx (World.grownBy_alloc w1 (.cells #[.int .i64 0, .int .i64 0] 23) none) HB1.out)
    have HGX := Lib.hid (gb_trans HG1.out (World.grownBy_alloc w1 (.cells #[.int .i64 0, .int .i64 0] 23) none))
    obtain ⟨x0, x1, -⟩ := cells2 (heap_alloc_new w1 (.cells #[.int .i64 0, .int .i64 0] 23))
    obtain ⟨y0, y1, -⟩ := cells2 HBX.out
    simp only
    by_cases q : pl < 0
    · have d1 : decide (pl < 0) = true := decide_eq_true q
      clear hbad
      go_wp2_with fail
      refine (HPP.out _).mono ?_
      rintro e w5 ⟨hg5, h5⟩
      have HB5 := Lib.hid (bx hg5 HBX.out)
      have HG5 := Lib.hid (gb_trans HGX.out hg5)
      obtain ⟨nv, f, rfl, hsk⟩ : ∃ nv f : Int, e = .returned (.tuple #[.int .i64 nv, .int .i64 f]) ∧ SeekPost s l b f nv := by
        rcases h5 with ⟨i, hi, rfl⟩ | ⟨hno, rfl⟩
        · exact ⟨_, _, rfl, .inl ⟨i, hi, rfl, rfl⟩⟩
        · exact ⟨_, _, rfl, .inr ⟨hno, rfl, rfl⟩⟩
      have HSK := Lib.hid hsk
      obtain ⟨z0, z1, -⟩ := cells2 HB5.out
      clear hg5 h5 hsk HPP HBX HGX x0 x1 y0 y1
      go_wp2_with fail
      go_loopw [15] (fun iv wr => ∃ (i : Nat), i ≤ n + 1 ∧ iv = .int .i64 i ∧ Hid (∀ j, j < i → ¬ IsAt s j l b) ∧ wr = w5) (fun i _ => n + 1 - (intOf i).toNat)
      case atStart => exact ⟨0, by omega, rfl, Lib.hid (fun j h => by omega), rfl⟩
      case round =>
        obtain ⟨i, hi, rfl, HNO, rfl⟩ := hrel
        by_cases hin : i ≤ n
        · have e1 : decide ((i : Int) ≤ n) = true := decide_eq_true (by omega)
          have e1' : decide (i ≤ n) = true := decide_eq_true hin
          have HR := Lib.hid (HRA.out i wr (by rw [HN.out]; exact hin))
          go_wp2_with fail
          refine HR.out.mono ?_
          rintro e w6 ⟨rfl, rfl⟩
          obtain ⟨⟨ln2, by2⟩, hat2⟩ : ∃ x, atL (s.data.toList.take i) = x := ⟨_, rfl⟩
          rw [hat2]
          have HAT2 := Lib.hid hat2
          simp only
          clear hat2 HR
          by_cases q1 : (ln2 : Int) = l
          · by_cases q2 : (by2 : Int) = b
            · have hia : IsAt s i l b := ⟨by rw [HN.out]; exact hin, by rw [HAT2.out]; exact q1, by rw [HAT2.out]; exact q2⟩
              obtain ⟨rfl, rfl⟩ : f = 0 ∧ nv = i := by
                rcases HSK.out with ⟨i2, h2, h3, h4⟩ | ⟨h2, -⟩
                · exact ⟨h3, by rw [h4, isAt_one h2 hia]⟩
                · exact absurd hia (h2 i)
              subst q1; subst q2
              clear hia
              go_wp2_with fail
              go_ret
              exact ⟨rfl, HG5.out⟩
            · have q3 : ((by2 : Int) == b) = false := by simpa using q2
              have HNO2 : Hid (∀ j, j < i + 1 → ¬ IsAt s j l b) := Lib.hid (fun j hj h => by
                by_cases hji : j = i
                · subst hji; exact q2 (by have := h.2.2; rw [HAT2.out] at this; exact this)
                · exact HNO.out j (by omega) h)
              subst q1
              go_wp2_with fail
              go_roundw
              case rel => exact ⟨i + 1, by omega, by first | rfl | go_num, HNO2, by first | rfl | trivial⟩
              case measure => (simp [intOf] <;> omega)
          · have q3 : ((ln2 : Int) == l) = false := by simpa using q1
            have HNO2 : Hid (∀ j, j < i + 1 → ¬ IsAt s j l b) := Lib.hid (fun j hj h => by
              by_cases hji : j = i
              · subst hji; exact q1 (by have := h.2.1; rw [HAT2.out] at this; exact this)
              · exact HNO.out j (by omega) h)
            go_wp2_with fail
            go_roundw
            case rel => exact ⟨i + 1, by omega, by first | rfl | go_num, HNO2, by first | rfl | trivial⟩
            case measure => (simp [intOf] <;> omega)
        · obtain rfl : i = n + 1 := by omega
          obtain ⟨rfl, rfl⟩ : f = 12 ∧ nv = 0 := by
            rcases HSK.out with ⟨i2, h2, -, -⟩ | ⟨-, h3⟩
            · exact absurd h2 (HNO.out i2 (by have := h2.1; have := HN.out; omega))
            · exact h3
          have e1 : decide ((n : Int) + 1 ≤ n) = false := decide_eq_false (by omega)
          have e1' : decide (n + 1 ≤ n) = false := decide_eq_false hin
          go_wp2_with fail
          go_ret
          exact ⟨rfl, HG5.out⟩
    · have d1 : decide (pl < 0) = false := decide_eq_false q
      have d2 : decide ((n : Int) < pl) = true := decide_eq_true (by have := HN.out; omega)
      clear hbad
      go_wp2_with fail
      refine (HPP.out _).mono ?_
      rintro e w5 ⟨hg5, h5⟩
      have HB5 := Lib.hid (bx hg5 HBX.out)
      have HG5 := Lib.hid (gb_trans HGX.out hg5)
      obtain ⟨nv, f, rfl, hsk⟩ : ∃ nv f : Int, e = .returned (.tuple #[.int .i64 nv, .int .i64 f]) ∧ SeekPost s l b f nv := by
        rcases h5 with ⟨i, hi, rfl⟩ | ⟨hno, rfl⟩
        · exact ⟨_, _, rfl, .inl ⟨i, hi, rfl, rfl⟩⟩
        · exact ⟨_, _, rfl, .inr ⟨hno, rfl, rfl⟩⟩
      have HSK := Lib.hid hsk
      obtain ⟨z0, z1, -⟩ := cells2 HB5.out
      clear hg5 h5 hsk HPP HBX HGX x0 x1 y0 y1
      go_wp2_with fail
      go_loopw [15] (fun iv wr => ∃ (i : Nat), i ≤ n + 1 ∧ iv = .int .i64 i ∧ Hid (∀ j, j < i → ¬ IsAt s j l b) ∧ wr = w5) (fun i _ => n + 1 - (intOf i).toNat)
      case atStart => exact ⟨0, by omega, rfl, Lib.hid (fun j h => by omega), rfl⟩
      case round =>
        obtain ⟨i, hi, rfl, HNO, rfl⟩ := hrel
        by_cases hin : i ≤ n
        · have e1 : decide ((i : Int) ≤ n) = true := decide_eq_true (by omega)
          have e1' : decide (i ≤ n) = true := decide_eq_true hin
          have HR := Lib.hid (HRA.out i wr (by rw [HN.out]; exact hin))
          go_wp2_with fail
          refine HR.out.mono ?_
          rintro e w6 ⟨rfl, rfl⟩
          obtain ⟨⟨ln2, by2⟩, hat2⟩ : ∃ x, atL (s.data.toList.take i) = x := ⟨_, rfl⟩
          rw [hat2]
          have HAT2 := Lib.hid hat2
          simp only
          clear hat2 HR
          by_cases q1 : (ln2 : Int) = l
          · by_cases q2 : (by2 : Int) = b
            · have hia : IsAt s i l b := ⟨by rw [HN.out]; exact hin, by rw [HAT2.out]; exact q1, by rw [HAT2.out]; exact q2⟩
              obtain ⟨rfl, rfl⟩ : f = 0 ∧ nv = i := by
                rcases HSK.out with ⟨i2, h2, h3, h4⟩ | ⟨h2, -⟩
                · exact ⟨h3, by rw [h4, isAt_one h2 hia]⟩
                · exact absurd hia (h2 i)
              subst q1; subst q2
              clear hia
              go_wp2_with fail
              go_ret
              exact ⟨rfl, HG5.out⟩
            · have q3 : ((by2 : Int) == b) = false := by simpa using q2
              have HNO2 : Hid (∀ j, j < i + 1 → ¬ IsAt s j l b) := Lib.hid (fun j hj h => by
                by_cases hji : j = i
                · subst hji; exact q2 (by have := h.2.2; rw [HAT2.out] at this; exact this)
                · exact HNO.out j (by omega) h)
              subst q1
              go_wp2_with fail
              go_roundw
              case rel => exact ⟨i + 1, by omega, by first | rfl | go_num, HNO2, by first | rfl | trivial⟩
              case measure => (simp [intOf] <;> omega)
          · have q3 : ((ln2 : Int) == l) = false := by simpa using q1
            have HNO2 : Hid (∀ j, j < i + 1 → ¬ IsAt s j l b) := Lib.hid (fun j hj h => by
              by_cases hji : j = i
              · subst hji; exact q1 (by have := h.2.1; rw [HAT2.out] at this; exact this)
              · exact HNO.out j (by omega) h)
            go_wp2_with fail
            go_roundw
            case rel => exact ⟨i + 1, by omega, by first | rfl | go_num, HNO2, by first | rfl | trivial⟩
            case measure => (simp [intOf] <;> omega)
        · obtain rfl : i = n + 1 := by omega
          obtain ⟨rfl, rfl⟩ : f = 12 ∧ nv = 0 := by
            rcases HSK.out with ⟨i2, h2, -, -⟩ | ⟨-, h3⟩
            · exact absurd h2 (HNO.out i2 (by have := h2.1; have := HN.out; omega))
            · exact h3
          have e1 : decide ((n : Int) + 1 ≤ n) = false := decide_eq_false (by omega)
          have e1' : decide (n + 1 ≤ n) = false := decide_eq_false hin
          go_wp2_with fail
          go_ret
          exact ⟨rfl, HG5.out⟩

set_option maxRecDepth 100000 in
set_option maxHeartbeats 2000000 in
theorem places_c (s : ByteArray) (pl l b : Int) (w : World) (hs : s.size < 9223372036854775808) (h0 : -9223372036854775808 ≤ l) (h1 : l < 9223372036854775808) :
    Calls Try.prog 3 #[.string s, .int .i64 pl, .agg #[.int .i64 l, .int .i64 b]] w (ValPost (.bool true) w) := by
  by_cases hb : 300 < s.size
  · obtain ⟨n, hn⟩ : ∃ n, s.size = n := ⟨_, rfl⟩
    rw [hn] at hb hs
    have d1 : decide ((300 : Int) < n) = true := decide_eq_true (by omega)
    have d1' : decide (300 < n) = true := decide_eq_true hb
    have HG := Lib.hid (World.grownBy_alloc w (.cells #[.int .i64 l, .int .i64 b] 23) none)
    clear h0 h1
    go_enter Try.func3, Try.ntmps3
    go_wp2_with fail
    refine (anchor_c _).mono ?_
    rintro e w0 ⟨rfl, hg0⟩
    have HG0 := Lib.hid (gb_trans HG.out hg0)
    clear hg0
    go_wp2_with fail
    go_ret
    exact ⟨rfl, HG0.out⟩
  · exact places_yes s pl l b w (by omega) h0 h1
end Go.Proofs.Ytgffaldoieakaaa
