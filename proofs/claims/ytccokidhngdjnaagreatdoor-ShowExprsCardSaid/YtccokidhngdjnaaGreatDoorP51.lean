/- Lemmas. -/
import Derived.ProofKit
import Derived.SevenTiedAt
import Derived.Test.YtccokidhngdjnaaGreatDoorCards
import Derived.Test.YtccokidhngdjnaaGreatDoorP12
set_option linter.unusedVariables false
set_option linter.unusedSimpArgs false
namespace Go.Proofs.YtccokidhngdjnaaGreatDoor
open Go.RowKit

theorem nat_beq (n k : Nat) : ((n : Int) == (k : Int)) = decide (n = k) := by
  by_cases h : n = k
  · subst h; simp
  · rw [decide_eq_false h]; exact beq_eq_false_iff_ne.2 (by omega)
theorem nat_ble (n k : Nat) : decide ((n : Int) ≤ (k : Int)) = decide (n ≤ k) := by
  by_cases h : n ≤ k
  · rw [decide_eq_true h]; exact decide_eq_true (by omega)
  · rw [decide_eq_false h]; exact decide_eq_false (by omega)
def inB (op : Int) (n : Nat) : Bool := decide (1 ≤ op) && decide (op ≤ 24) && countB op n

set_option maxRecDepth 100000 in
set_option maxHeartbeats 16000000 in
theorem rightCount_c (op : Int) (n : Nat) (w : World) : Calls Tryz.prog 69 #[.int .i64 op, .int .i64 n] w (TruePost (inB op n) w) := by
  by_cases hA : 1 ≤ op ∧ op ≤ 4
  · have hb : inB op n = ((n : Int) == 0) := by
      rw [show (0 : Int) = ((0 : Nat) : Int) from rfl, nat_beq]; unfold inB countB
      rw [decide_eq_true hA.1, decide_eq_true (by omega : op ≤ 24), if_pos hA.2]; rfl
    rw [hb]
    have hop : op = 1 ∨ op = 2 ∨ op = 3 ∨ op = 4 := by omega
    clear hb hA
    rcases hop with rfl | rfl | rfl | rfl
    all_goals
      go_enter Tryz.func69, Tryz.ntmps69
      go_wp2
      go_ret
      exact ⟨rfl, gb_refl _ _⟩
  by_cases hB : op = 5 ∨ op = 6
  · have hb : inB op n = ((n : Int) == 1) := by
      rw [show (1 : Int) = ((1 : Nat) : Int) from rfl, nat_beq]; unfold inB countB
      rw [decide_eq_true (by omega : 1 ≤ op), decide_eq_true (by omega : op ≤ 24), if_neg (by omega), if_pos (by omega)]; rfl
    rw [hb]
    clear hb hA
    rcases hB with rfl | rfl
    all_goals
      go_enter Tryz.func69, Tryz.ntmps69
      go_wp2
      go_ret
      exact ⟨rfl, gb_refl _ _⟩
  by_cases hC : op = 21
  · subst hC
    have hb : inB 21 n = ((n : Int) == 3) := by
      rw [show (3 : Int) = ((3 : Nat) : Int) from rfl, nat_beq]; rfl
    rw [hb]
    clear hb hA hB
    go_enter Tryz.func69, Tryz.ntmps69
    go_wp2
    go_ret
    exact ⟨rfl, gb_refl _ _⟩
  by_cases hD : op = 24
  · subst hD
    have hb : inB 24 n = decide ((n : Int) ≤ 8) := by
      rw [show (8 : Int) = ((8 : Nat) : Int) from rfl, nat_ble]; rfl
    rw [hb]
    clear hb hA hB hC
    go_enter Tryz.func69, Tryz.ntmps69
    go_wp2
    go_ret
    exact ⟨rfl, gb_refl _ _⟩
  have e1 : (op == 1) = false := beq_eq_false_iff_ne.2 (by omega)
  have e2 : (op == 2) = false := beq_eq_false_iff_ne.2 (by omega)
  have e3 : (op == 3) = false := beq_eq_false_iff_ne.2 (by omega)
  have e4 : (op == 4) = false := beq_eq_false_iff_ne.2 (by omega)
  have e5 : (op == 5) = false := beq_eq_false_iff_ne.2 (by omega)
  have e6 : (op == 6) = false := beq_eq_false_iff_ne.2 (by omega)
  have e21 : (op == 21) = false := beq_eq_false_iff_ne.2 hC
  have e24 : (op == 24) = false := beq_eq_false_iff_ne.2 hD
  by_cases hE : 6 < op ∧ op < 24
  · have hb : inB op n = ((n : Int) == 2) := by
      rw [show (2 : Int) = ((2 : Nat) : Int) from rfl, nat_beq]; unfold inB countB
      rw [decide_eq_true (by omega : 1 ≤ op), decide_eq_true (by omega : op ≤ 24), if_neg (by omega), if_neg (by omega), if_pos (by omega)]; rfl
    rw [hb]
    have d1 : decide (6 < op) = true := decide_eq_true hE.1
    have d2 : decide (op < 24) = true := decide_eq_true hE.2
    clear hb hA hB hC hD hE
    go_enter Tryz.func69, Tryz.ntmps69
    go_wp2
    go_ret
    exact ⟨rfl, gb_refl _ _⟩
  · have hb : inB op n = false := by
      unfold inB
      by_cases h1 : 1 ≤ op
      · rw [decide_eq_false (by omega : ¬ op ≤ 24)]; simp
      · rw [decide_eq_false h1]; rfl
    rw [hb]
    by_cases h6 : 6 < op
    · have d1 : decide (6 < op) = true := decide_eq_true h6
      have d2 : decide (op < 24) = false := decide_eq_false (by omega)
      clear hb hA hB hC hD hE h6
      go_enter Tryz.func69, Tryz.ntmps69
      go_wp2
      go_ret
      exact ⟨rfl, gb_refl _ _⟩
    · have d1 : decide (6 < op) = false := decide_eq_false h6
      clear hb hA hB hC hD hE h6
      go_enter Tryz.func69, Tryz.ntmps69
      go_wp2
      go_ret
      exact ⟨rfl, gb_refl _ _⟩
/-- What is answered: a number, all memory as it was. -/
def NumPost (n : Int) (w : World) (e : Ending) (w' : World) : Prop := e = .returned (.int .i64 n) ∧ w.grownBy w' none
theorem ops_of {op : Int} (h1 : 1 ≤ op) (h2 : op ≤ 24) : op = 1 ∨ op = 2 ∨ op = 3 ∨ op = 4 ∨ op = 5 ∨ op = 6 ∨ op = 7 ∨ op = 8 ∨ op = 9 ∨ op = 10 ∨ op = 11 ∨ op = 12 ∨ op = 13 ∨ op = 14 ∨ op = 15 ∨ op = 16 ∨ op = 17 ∨ op = 18 ∨ op = 19 ∨ op = 20 ∨ op = 21 ∨ op = 22 ∨ op = 23 ∨ op = 24 := by omega
set_option maxRecDepth 100000 in
set_option maxHeartbeats 16000000 in
theorem level_c (op : Int) (h1 : 1 ≤ op) (h2 : op ≤ 24) (w : World) : Calls Tryz.prog 73 #[.int .i64 op] w (NumPost (levS op) w) := by
  have h := ops_of h1 h2
  clear h1 h2
  rcases h with rfl | rfl | rfl | rfl | rfl | rfl | rfl | rfl | rfl | rfl | rfl | rfl | rfl | rfl | rfl | rfl | rfl | rfl | rfl | rfl | rfl | rfl | rfl | rfl
  all_goals
    go_enter Tryz.func73, Tryz.ntmps73
    go_wp2
    go_ret
    exact ⟨rfl, gb_refl _ _⟩
set_option maxRecDepth 100000 in
set_option maxHeartbeats 16000000 in
theorem sides_c (l : Nat) (hl : l ≤ 9) (w : World) : Calls Tryz.prog 134 #[.int .i64 (l : Int)] w (fun e w' => e = .returned (.tuple #[.int .i64 (sideA l : Nat), .int .i64 (sideB l : Nat)]) ∧ w.grownBy w' none) := by
  have h : l = 0 ∨ l = 1 ∨ l = 2 ∨ l = 3 ∨ l = 4 ∨ l = 5 ∨ l = 6 ∨ l = 7 ∨ l = 8 ∨ l = 9 := by omega
  clear hl
  rcases h with rfl | rfl | rfl | rfl | rfl | rfl | rfl | rfl | rfl | rfl
  all_goals
    go_enter Tryz.func134, Tryz.ntmps134
    go_wp2
    go_ret2
    exact ⟨rfl, gb_refl _ _⟩
end Go.Proofs.YtccokidhngdjnaaGreatDoor
namespace Go.Proofs.YtccokidhngdjnaaGreatDoor.showExprs
open Go.ChangeShapes Go.WideShapes Go.ChangeAt Go.RowKit

theorem p1 : Rows.showExprsRow.wfByText (OpenSpec.ofChange Rows.showExprsSpec) = true := by kernel_rfl
theorem p2 : Tryz.prog.mainIs = some (Rows.showExprsCard.stood.harness.1, Rows.showExprsCard.stood.harness.2.toList) := by kernel_rfl
theorem p3 : false = Tryz.prog.looks [] := by kernel_rfl
theorem p4 : false = Rows.showExprsRow.goesBy Tryz.prog := by kernel_rfl
end Go.Proofs.YtccokidhngdjnaaGreatDoor.showExprs
