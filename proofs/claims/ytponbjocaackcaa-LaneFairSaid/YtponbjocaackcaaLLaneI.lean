/- Lanes: New, Len, Shut, Take, Drain. -/
import Derived.Test.YtponbjocaackcaaLOldI
namespace Go.Proofs.Ytponbjocaackcaa
open Go.RowKit Go.Conc

theorem elemI : (Try.prog.info? 3).map (fun i => (i.zero, i.size, i.bytes)) = some (some (.int .i64 0), 1, 8) := by kernel_rfl

theorem mkchan_int (n : Nat) (hn : n ≤ 1024) (w : World) : (Instr.makeChan 52 (.int .i64 (n : Int))).run Try.prog w = .ok (.chan (some w.heap.size)) (w.alloc (.chan n #[] false 0 0 false)) := by
  obtain ⟨i, hi, h0, h1, h2⟩ := info_parts elemI
  exact run_makeChan (P := Try.prog) (w := w) Try.underlying52 hi .i64 n (by omega) (by rw [h2]; omega)

theorem made3 (w : World) (o1 o2 o3 : Obj) (W : World) (hW : W = ((w.alloc o1).alloc o2).alloc o3) : W.heap[w.heap.size]? = some o1 ∧ W.heap[w.heap.size + 1]? = some o2 ∧ W.heap[w.heap.size + 1 + 1]? = some o3 ∧ w.grownBy W none := by
  subst hW
  have g1 := World.grownBy_alloc w o1 none
  have g2 := World.grownBy_alloc (w.alloc o1) o2 none
  have g3 := World.grownBy_alloc ((w.alloc o1).alloc o2) o3 none
  refine ⟨bx g3 (bx g2 (heap_alloc_new w o1)), bx g3 ?_, ?_, gb_trans g1 (gb_trans g2 g3)⟩
  · have := heap_alloc_new (w.alloc o1) o2
    simpa only [World.size_alloc] using this
  · have := heap_alloc_new ((w.alloc o1).alloc o2) o3
    simpa only [World.size_alloc] using this

def NewPost (T : TypeId) (room : Nat) (w : World) (e : Ending) (w' : World) : Prop :=
  ∃ q u v, e = .returned (.tuple #[.pointer (some ⟨q, 0, none⟩), .int .i64 0]) ∧ LaneAt T w' q u v room [] [] 0 false ∧ w.heap.size ≤ q ∧ w.heap.size ≤ u ∧ w.heap.size ≤ v ∧ w.grownBy w' none

set_option maxRecDepth 100000 in
set_option maxHeartbeats 2000000 in
theorem New_c_int (room : Nat) (h1 : 1 ≤ room) (h2 : room ≤ 1024) (w : World) : Calls Try.prog 7 #[.int .i64 room] w (NewPost 54 room w) := by
  have hmk := mkchan_int room h2
  have d1 : decide ((room : Int) < 1) = false := decide_eq_false (by omega)
  have d2 : decide ((1024 : Int) < room) = false := decide_eq_false (by omega)
  go_enter Try.func7, Try.ntmps7
  go_wp2_with fail
  go_region
  all_goals
    go_wp2_with fail
    obtain ⟨m1, m2, m3, m4⟩ := made3 w (.chan room #[] false 0 0 false) (.chan room #[] false 0 0 false) _ _ rfl
    go_ret2
  · exact ⟨_, _, _, rfl, ⟨m3, ⟨0, 0, m1⟩, ⟨0, 0, m2⟩, by omega, LGood.nil, by simp; omega⟩, by omega, by omega, by omega, gb_drew m4⟩
  · exact ⟨_, _, _, rfl, ⟨m3, ⟨0, 0, m2⟩, ⟨0, 0, m1⟩, by omega, LGood.nil, by simp; omega⟩, by omega, by omega, by omega, gb_drew m4⟩

theorem New_no_int (room : Int) (h : room < 1 ∨ 1024 < room) (w : World) : Calls Try.prog 7 #[.int .i64 room] w fun e w' => e = .returned (.tuple #[.pointer none, .int .i64 12]) ∧ w' = w := by
  by_cases h1 : room < 1
  · have d1 : decide (room < 1) = true := decide_eq_true h1
    clear h
    go_enter Try.func7, Try.ntmps7
    go_wp2_with fail
    go_ret2
    exact ⟨rfl, rfl⟩
  · have d1 : decide (room < 1) = false := decide_eq_false h1
    have h2 : 1024 < room := by omega
    have d2 : decide (1024 < room) = true := decide_eq_true h2
    clear h
    go_enter Try.func7, Try.ntmps7
    go_wp2_with fail
    go_ret2
    exact ⟨rfl, rfl⟩

/-! ### Len, Shut -/

theorem lenchan_int {w : World} {u room : Nat} {vs : List Value} (h : ChanAt w u room vs) (n : Nat) (hn : vs.length = n) (ty : TypeId) : (Builtin.len_ #[52] ty #[.chan (some u)]).run Try.prog w = .ok (.int .i64 (n : Nat)) w := by
  obtain ⟨s, r, hc⟩ := h
  rw [run_len_chan (P := Try.prog) 52 ty Try.underlying52 hc, ← hn]
  simp [goInt]

theorem ChanAt.drewN {w : World} {u room : Nat} {vs : List Value} (h : ChanAt w u room vs) (n : Nat) : ChanAt (w.drewN n) u room vs := h

def LenPost (a b : Nat) (w : World) (e : Ending) (w' : World) : Prop := e = .returned (.tuple #[.int .i64 (a : Nat), .int .i64 (b : Nat)]) ∧ ∃ n, w' = w.drewN n

set_option maxRecDepth 100000 in
set_option maxHeartbeats 2000000 in
theorem Len_c_int {w : World} {q u v room : Nat} {U S : List Value} {p : Nat} {sh : Bool} (h : LaneAt 54 w q u v room U S p sh) :
    Calls Try.prog 14 #[.pointer (some ⟨q, 0, none⟩)] w (LenPost U.length S.length w) := by
  obtain ⟨a, ha⟩ : ∃ a, U.length = a := ⟨_, rfl⟩
  obtain ⟨b, hb⟩ : ∃ b, S.length = b := ⟨_, rfl⟩
  obtain ⟨x0, x1, x2, x3, -⟩ := cells4 h.box
  have l1 := fun n => lenchan_int (h.ur.drewN n) a ha
  have l2 := fun n => lenchan_int (h.us.drewN n) b hb
  have l3 := lenchan_int h.ur a ha
  have l4 := lenchan_int h.us b hb
  rw [ha, hb]
  clear h ha hb x2 x3
  go_enter Try.func14, Try.ntmps14
  go_wp2_with fail
  go_quiet (fail)
  go_wp2_with fail
  go_ret2
  exact ⟨rfl, _, rfl⟩

set_option maxRecDepth 100000 in
theorem Shut_c_int {w : World} {q u v room : Nat} {U S : List Value} {p : Nat} {sh : Bool} (h : LaneAt 54 w q u v room U S p sh) :
    Calls Try.prog 12 #[.pointer (some ⟨q, 0, none⟩)] w fun e w' => e = .returned (.tuple #[]) ∧ LaneAt 54 w' q u v room U S p true ∧ Fr2 (fun k => k = q ∨ k = u ∨ k = v) w w' ∧ w'.heap.size = w.heap.size := by
  obtain ⟨x0, x1, x2, x3, x4⟩ := cells4 h.box
  have hf := x4 3
  have H := Lib.hid h
  clear h x4
  go_enter Try.func12, Try.ntmps12
  go_wp2_with fail
  go_end0
  have h := H.out
  have hfr : Fr2 (fun k => k = q) w (w.setCell ⟨q, 3, none⟩ (.bool true)) := Fr2.setCell (S := fun k => k = q) (Fr2.refl _ _) rfl _
  exact ⟨rfl, ⟨set_cells h.box, h.ur.keptS hfr (fun e => h.ne.1 e.symm), h.us.keptS hfr (fun e => h.ne.2.1 e.symm), h.ne, h.good, h.small⟩, hfr.mono (fun k e => .inl e), by simp [World.setCell]⟩
end Go.Proofs.Ytponbjocaackcaa
