/- The law on plays, for every number and list of steps. -/
import Derived.Test.YtponbjocaackcaaLPlays
namespace Go.Proofs.Ytponbjocaackcaa
open Go.RowKit Go.Conc

set_option maxRecDepth 100000 in
set_option maxHeartbeats 2000000 in
theorem plays_c (room : Int) (po : Option Addr) (m co : Nat) (D K : Nat → Int) (V : Nat → Bool) (w : World) (hm : m ≤ co) (hml : m < 9223372036854775808) (hops : OpsB w po m D K V) :
    Calls Try.prog 3 #[.int .i64 room, .slice po m co] w (ValPost (.bool true) w) := by
  by_cases h1 : 100 < m
  · have d1 : decide ((100 : Int) < m) = true := decide_eq_true (by omega)
    have d1' : decide (100 < m) = true := decide_eq_true h1
    clear hops
    go_enter Try.func3, Try.ntmps3
    go_wp2_with fail
    refine (anchor_c _).mono ?_
    rintro e w0 ⟨rfl, hg0⟩
    have HG0 := Lib.hid hg0
    clear hg0
    go_wp2_with fail
    go_ret
    exact ⟨rfl, HG0.out⟩
  have d1 : decide ((100 : Int) < m) = false := decide_eq_false (by omega)
  have d1' : decide (100 < m) = false := decide_eq_false h1
  by_cases h2 : 40 < room ∧ room ≤ 1024
  · obtain ⟨h2, h3⟩ := h2
    have d2 : decide (40 < room) = true := decide_eq_true h2
    have d3 : decide (room ≤ 1024) = true := decide_eq_true h3
    clear hops
    go_enter Try.func3, Try.ntmps3
    go_wp2_with fail
    refine (anchor_c _).mono ?_
    rintro e w0 ⟨rfl, hg0⟩
    have HG0 := Lib.hid hg0
    clear hg0
    go_wp2_with fail
    go_ret
    exact ⟨rfl, HG0.out⟩
  by_cases h4 : room < 1
  · have d2 : decide (40 < room) = false := decide_eq_false (by omega)
    have d4 : decide (room < 1) = true := decide_eq_true h4
    have HN := Lib.hid (New_no_int room (.inl h4))
    clear hops h2
    go_enter Try.func3, Try.ntmps3
    go_wp2_with fail
    refine (anchor_c _).mono ?_
    rintro e w0 ⟨rfl, hg0⟩
    have HG0 := Lib.hid hg0
    clear hg0
    go_wp2_with fail
    refine (HN.out _).mono ?_
    rintro e w1 ⟨rfl, rfl⟩
    go_wp2_with fail
    go_ret
    exact ⟨rfl, HG0.out⟩
  by_cases h5 : 1024 < room
  · have d2 : decide (40 < room) = true := decide_eq_true (by omega)
    have d3 : decide (room ≤ 1024) = false := decide_eq_false (by omega)
    have d4 : decide (room < 1) = false := decide_eq_false h4
    have d5 : decide (1024 < room) = true := decide_eq_true h5
    have HN := Lib.hid (New_no_int room (.inr h5))
    clear hops h2
    go_enter Try.func3, Try.ntmps3
    go_wp2_with fail
    refine (anchor_c _).mono ?_
    rintro e w0 ⟨rfl, hg0⟩
    have HG0 := Lib.hid hg0
    clear hg0
    go_wp2_with fail
    refine (HN.out _).mono ?_
    rintro e w1 ⟨rfl, rfl⟩
    go_wp2_with fail
    go_ret
    exact ⟨rfl, HG0.out⟩
  have er : ((room.toNat : Nat) : Int) = room := Int.toNat_of_nonneg (by omega)
  rw [← er]
  exact plays_yes room.toNat po m co D K V w (by omega) (by omega) hm (by omega) hops
end Go.Proofs.Ytponbjocaackcaa
