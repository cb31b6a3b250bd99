/- Bytes: letters, digits; how many of a kind stand ahead. -/
import Derived.Test.YtdfegmdmappefaaDoorEMath
import Derived.Test.YtdfegmdmappefaaDoorShelf
namespace Go.Proofs.YtdfegmdmappefaaDoor
open Go.RowKit

theorem ret_bool {a b : Bool} (h : a = b) : Ending.returned (.bool a) = .returned (.bool b) := by rw [h]
theorem ret_int {k : IntKind} {a b : Int} (h : a = b) : Ending.returned (.int k a) = .returned (.int k b) := by rw [h]

def BoolIs (v : Bool) (w : World) (e : Ending) (w' : World) : Prop := e = .returned (.bool v) ∧ w = w'

theorem isLet_nat (b : UInt8) : isLet b = ((decide (97 ≤ b.toNat) && decide (b.toNat ≤ 122)) || (decide (65 ≤ b.toNat) && decide (b.toNat ≤ 90))) := by
  unfold isLet; simp only [UInt8.le_iff_toNat_le]; rfl
theorem isDig_nat (b : UInt8) : isDig b = (decide (48 ≤ b.toNat) && decide (b.toNat ≤ 57)) := by
  unfold isDig; simp only [UInt8.le_iff_toNat_le]; rfl
theorem eq_nat (b c : UInt8) : (b == c) = decide (b.toNat = c.toNat) := by
  rw [Bool.eq_iff_iff]; simp [UInt8.toNat_inj]
theorem isBl_nat (b : UInt8) : isBl b = (decide (b.toNat = 32) || decide (b.toNat = 9) || decide (b.toNat = 13) || decide (b.toNat = 10)) := by
  unfold isBl; simp only [eq_nat]; rfl

set_option maxRecDepth 100000 in
theorem isDigit_c (b : UInt8) (w : World) : Calls Tryd.prog 63 #[.int .u8 (b.toNat : Int)] w (BoolIs (isDig b) w) := by
  rw [isDig_nat]
  have hb := b.toNat_lt
  generalize b.toNat = n at *
  go_enter Tryd.func63, Tryd.ntmps63
  go_wp2
  all_goals
    go_ret
    refine ⟨ret_bool ?_, rfl⟩
    rw [Bool.eq_iff_iff]; simp; try omega

set_option maxRecDepth 100000 in
theorem isLetter_c (b : UInt8) (w : World) : Calls Tryd.prog 59 #[.int .u8 (b.toNat : Int)] w (BoolIs (isLet b) w) := by
  rw [isLet_nat]
  have hb := b.toNat_lt
  generalize b.toNat = n at *
  go_enter Tryd.func59, Tryd.ntmps59
  go_wp2
  all_goals
    go_ret
    refine ⟨ret_bool ?_, rfl⟩
    rw [Bool.eq_iff_iff]; simp; try omega

set_option maxRecDepth 100000 in
theorem inWord_c (b : UInt8) (w : World) : Calls Tryd.prog 61 #[.int .u8 (b.toNat : Int)] w (BoolIs (inW b) w) := by
  have HL := Lib.hid (fun W => isLetter_c b W)
  have HD := Lib.hid (fun W => isDigit_c b W)
  unfold inW
  rw [eq_nat, show (95 : UInt8).toNat = 95 from rfl]
  generalize isLet b = x at *
  generalize isDig b = y at *
  have hb := b.toNat_lt
  generalize b.toNat = n at *
  cases x <;> cases y
  all_goals
    go_enter Tryd.func61, Tryd.ntmps61
    go_wp2_with (first | (go_at_call 59; refine (HL.out _).mono ?_; rintro e w' ⟨rfl, rfl⟩) | (go_at_call 63; refine (HD.out _).mono ?_; rintro e w' ⟨rfl, rfl⟩))
    go_ret
    refine ⟨ret_bool ?_, rfl⟩
    rw [Bool.eq_iff_iff]; simp; try omega
end Go.Proofs.YtdfegmdmappefaaDoor
