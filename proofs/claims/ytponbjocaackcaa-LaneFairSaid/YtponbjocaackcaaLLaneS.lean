/- Lanes of strings: as those of numbers. -/
import Derived.Test.YtponbjocaackcaaLOldS
namespace Go.Proofs.Ytponbjocaackcaa
open Go.RowKit Go.Conc

theorem elemS : (Try.prog.info? 9).map (fun i => (i.zero, i.size, i.bytes)) = some (some (.string ⟨#[]⟩), 1, 16) := by kernel_rfl


theorem mkchan_str (n : Nat) (hn : n ≤ 1024) (w : World) : (Instr.makeChan 56 (.int .i64 (n : Int))).run Try.prog w = .ok (.chan (some w.heap.size)) (w.alloc (.chan n #[] false 0 0 false)) := by
  obtain ⟨i, hi, h0, h1, h2⟩ := info_parts elemS
  exact run_makeChan (P := Try.prog) (w := w) Try.underlying56 hi .i64 n (by omega) (by rw [h2]; omega)


set_option maxRecDepth 100000 in
set_option maxHeartbeats 2000000 in
theorem New_c_str (room : Nat) (h1 : 1 ≤ room) (h2 : room ≤ 1024) (w : World) : Calls Try.prog 15 #[.int .i64 room] w (NewPost 58 room w) := by
  have hmk := mkchan_str room h2
  have d1 : decide ((room : Int) < 1) = false := decide_eq_false (by omega)
  have d2 : decide ((1024 : Int) < room) = false := decide_eq_false (by omega)
  go_enter Try.func15, Try.ntmps15
  go_wp2_with fail
  go_region
  all_goals
    go_wp2_with fail
    obtain ⟨m1, m2, m3, m4⟩ := made3 w (.chan room #[] false 0 0 false) (.chan room #[] false 0 0 false) _ _ rfl
    go_ret2
  · exact ⟨_, _, _, rfl, ⟨m3, ⟨0, 0, m1⟩, ⟨0, 0, m2⟩, by omega, LGood.nil, by simp; omega⟩, by omega, by omega, by omega, gb_drew m4⟩
  · exact ⟨_, _, _, rfl, ⟨m3, ⟨0, 0, m2⟩, ⟨0, 0, m1⟩, by omega, LGood.nil, by simp; omega⟩, by omega, by omega, by omega, gb_drew m4⟩


theorem New_no_str (room : Int) (h : room < 1 ∨ 1024 < room) (w : World) : Calls Try.prog 15 #[.int .i64 room] w fun e w' => e = .returned (.tuple #[.pointer none, .int .i64 12]) ∧ w' = w := by
  by_cases h1 : room < 1
  · have d1 : decide (room < 1) = true := decide_eq_true h1
    clear h
    go_enter Try.func15, Try.ntmps15
    go_wp2_with fail
    go_ret2
    exact ⟨rfl, rfl⟩
  · have d1 : decide (room < 1) = false := decide_eq_false h1
    have h2 : 1024 < room := by omega
    have d2 : decide (1024 < room) = true := decide_eq_true h2
    clear h
    go_enter Try.func15, Try.ntmps15
    go_wp2_with fail
    go_ret2
    exact ⟨rfl, rfl⟩


theorem lenchan_str {w : World} {u room : Nat} {vs : List Value} (h : ChanAt w u room vs) (n : Nat) (hn : vs.length = n) (ty : TypeId) : (Builtin.len_ #[56] ty #[.chan (some u)]).run Try.prog w = .ok (.int .i64 (n : Nat)) w := by
  obtain ⟨s, r, hc⟩ := h
  rw [run_len_chan (P := Try.prog) 56 ty Try.underlying56 hc, ← hn]
  simp [goInt]

end Go.Proofs.Ytponbjocaackcaa
