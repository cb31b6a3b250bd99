/- The oldest of a lane; a lane let wait: one select with a default. -/
import Derived.Test.YtponbjocaackcaaLBase
import Derived.Test.YtponbjocaackcaaLMath
namespace Go.Proofs.Ytponbjocaackcaa
open Go.RowKit Go.Conc

/-- A lane's block. -/
def ChanAt (w : World) (u room : Nat) (vs : List Value) : Prop := ∃ s r, w.heap[u]? = some (.chan room vs.toArray false s r false)

theorem ChanAt.keptS {S : Nat → Prop} {w w' : World} {u room : Nat} {vs : List Value} (h : ChanAt w u room vs) (hg : Fr2 S w w') (hS : ¬ S u) : ChanAt w' u room vs := by
  obtain ⟨s, r, h⟩ := h
  exact ⟨s, r, hg.keep h hS⟩
theorem ChanAt.kept {w w' : World} {u room : Nat} {vs : List Value} (h : ChanAt w u room vs) (hg : w.grownBy w' none) : ChanAt w' u room vs := by
  obtain ⟨s, r, h⟩ := h
  exact ⟨s, r, bx hg h⟩
theorem ChanAt.lt {w : World} {u room : Nat} {vs : List Value} (h : ChanAt w u room vs) : u < w.heap.size := by
  obtain ⟨s, r, h⟩ := h
  exact hlt h

def OldPost (u room : Nat) (z : Value) (vs : List Value) (w : World) (e : Ending) (w' : World) : Prop :=
  e = .returned (.tuple #[vs.headD z, .bool (decide (vs ≠ []))]) ∧ ChanAt w' u room vs.tail ∧ Fr2 (fun k => k = u) w w' ∧ w'.heap.size = w.heap.size

set_option maxRecDepth 100000 in
theorem oldest_c_int {w : World} {u room : Nat} {vs : List Value} (h : ChanAt w u room vs) : Calls Try.prog 18 #[.chan (some u)] w (OldPost u room (.int .i64 0) vs w) := by
  obtain ⟨s, r, hc⟩ := h
  refine calls_of_loneTo (fun cs => ?_) (fun _ h => by cases h.1)
  have e : Frame.enter Try.prog 18 #[.chan (some u)] .normal = (base 18).at ⟨#[.chan (some u), undef, undef, undef, undef, undef, undef, undef, undef, undef, undef, undef, undef], []⟩ [.code (Try.f18.body.getD .skip)] := by
    simp [Frame.enter, Frame.at, Try.func18, base, Try.f18]
  rw [e]
  refine LoneTo.goes (n := 40) ?_
  simp only [Try.f18, Option.getD_some]
  s_c stepG_seq
  s_reg
  s_op
  s_op
  s_c stepG_region_end
  s_c stepG_seq
  s_reg
  s_op
  s_c stepG_region_end
  s_c stepG_seq
  s_reg
  s_stop
  cases vs with
  | nil =>
    refine LoneTo.step (step_lone_select_default (c := u) (cap := room) (s := s) (r := r) (tm := false) (z := .int .i64 0) (stepG_comm (cases := #[rcase u (.int .i64 0)]) (blocking := false) (shape := .select) (w' := w) rfl rfl (by decide) (by simp [go_sem, execOp, rcase, Act.eval])) hc) ?_
    rw [Frame.finish_at]
    walk_nrm
    refine LoneTo.goes (n := 40) ?_
    s_op
    s_op
    s_c stepG_region_end
    s_c stepG_block
    s_cond false
    s_c stepG_seq
    s_reg
    s_op
    s_c stepG_region_end
    s_c stepG_seq
    s_reg
    s_op
    s_op
    s_op
    s_c stepG_region_end
    s_c stepG_ret'
    s_stop
    exact LoneTo.done ⟨.returned (.tuple #[.int .i64 0, .bool false]), _, rfl, ⟨rfl, ⟨s, r, hc⟩, Fr2.refl _ _, rfl⟩, rfl, rfl, rfl, rfl, _, Try.func18, by simp [results, Try.f18, Frame.at]⟩
  | cons x xs =>
    refine LoneTo.step (step_lone_select_recv_buf (c := u) (cap := room) (buf := (x :: xs).toArray) (closed := false) (s := s) (r := r) (tm := false) (z := .int .i64 0) (stepG_comm (cases := #[rcase u (.int .i64 0)]) (blocking := false) (shape := .select) (w' := w) rfl rfl (by decide) (by simp [go_sem, execOp, rcase, Act.eval])) hc (by simp)) ?_
    rw [Frame.finish_at]
    have hx : (x :: xs).toArray.getD 0 undef = x := by simp
    have hy : (x :: xs).toArray.extract 1 (x :: xs).toArray.size = xs.toArray := by simp
    rw [hx, hy]
    clear hx hy
    walk_nrm
    refine LoneTo.goes (n := 40) ?_
    s_op
    s_op
    s_c stepG_region_end
    s_c stepG_block
    s_cond true
    s_c stepG_seq
    s_reg
    s_op
    s_op
    s_c stepG_region_end
    s_c stepG_seq
    s_reg
    s_op
    s_op
    s_op
    s_c stepG_region_end
    s_c stepG_ret'
    s_stop
    exact LoneTo.done ⟨.returned (.tuple #[x, .bool true]), _, rfl, ⟨rfl, ⟨s, r + 1, heap_setChan w u room _ _ _ _ _ (hlt hc)⟩, Fr2.setChan (S := fun k => k = u) (Fr2.refl _ _) rfl _ _ _ _ _ _, size_setChan ..⟩, rfl, rfl, rfl, rfl, _, Try.func18, by simp [results, Try.f18, Frame.at]⟩

/-- Lanes: the box, and its two channels. -/
structure LaneAt (T : TypeId) (w : World) (q u v room : Nat) (U S : List Value) (p : Nat) (sh : Bool) : Prop where
  box : w.heap[q]? = some (.cells #[.chan (some u), .chan (some v), .int .i64 p, .bool sh] T (0, 0))
  ur : ChanAt w u room U
  us : ChanAt w v room S
  ne : q ≠ u ∧ q ≠ v ∧ u ≠ v
  good : LGood S p
  small : U.length ≤ room ∧ S.length ≤ room ∧ room ≤ 1024

theorem LaneAt.kept {T : TypeId} {w w' : World} {q u v room : Nat} {U S : List Value} {p : Nat} {sh : Bool} (h : LaneAt T w q u v room U S p sh) (hg : w.grownBy w' none) : LaneAt T w' q u v room U S p sh :=
  ⟨bx hg h.box, h.ur.kept hg, h.us.kept hg, h.ne, h.good, h.small⟩
theorem LaneAt.keptS {P : Nat → Prop} {T : TypeId} {w w' : World} {q u v room : Nat} {U S : List Value} {p : Nat} {sh : Bool} (h : LaneAt T w q u v room U S p sh) (hg : Fr2 P w w') (h1 : ¬ P q) (h2 : ¬ P u) (h3 : ¬ P v) : LaneAt T w' q u v room U S p sh :=
  ⟨hg.keep h.box h1, h.ur.keptS hg h2, h.us.keptS hg h3, h.ne, h.good, h.small⟩
theorem LaneAt.lt {T : TypeId} {w : World} {q u v room : Nat} {U S : List Value} {p : Nat} {sh : Bool} (h : LaneAt T w q u v room U S p sh) : q < w.heap.size ∧ u < w.heap.size ∧ v < w.heap.size :=
  ⟨hlt h.box, h.ur.lt, h.us.lt⟩

/-- What an offer does to two lists, and its error's number. -/
def LOffer {α : Type} (room : Nat) (sh : Bool) (U S : List α) (x : α) (urgent : Bool) : Int × List α × List α :=
  if sh then (16, U, S) else if urgent then (if U.length < room then (0, U ++ [x], S) else (15, U, S)) else (if S.length < room then (0, U, S ++ [x]) else (15, U, S))

def OfferPost (T : TypeId) (q u v room : Nat) (U S : List Value) (p : Nat) (sh : Bool) (x : Value) (urgent : Bool) (w : World) (e : Ending) (w' : World) : Prop :=
  e = .returned (.int .i64 (LOffer room sh U S x urgent).1) ∧ LaneAt T w' q u v room (LOffer room sh U S x urgent).2.1 (LOffer room sh U S x urgent).2.2 p sh ∧ Fr2 (fun k => k = q ∨ k = u ∨ k = v) w w' ∧ w'.heap.size = w.heap.size

set_option maxRecDepth 100000 in
theorem Offer_shut_int {w : World} {q u v room : Nat} {U S : List Value} {p : Nat} (h : LaneAt 54 w q u v room U S p true) (x : Int) (urgent : Bool) :
    Calls Try.prog 8 #[.pointer (some ⟨q, 0, none⟩), .int .i64 x, .bool urgent] w (OfferPost 54 q u v room U S p true (.int .i64 x) urgent w) := by
  obtain ⟨x0, x1, x2, x3, -⟩ := cells4 h.box
  have H := Lib.hid h
  clear h
  go_enter Try.func8, Try.ntmps8
  go_wp2_with fail
  go_ret
  exact ⟨rfl, H.out, Fr2.refl _ _, rfl⟩

set_option maxRecDepth 100000 in
set_option maxHeartbeats 1000000 in
theorem Offer_urgent_int {w : World} {q u v room : Nat} {U S : List Value} {p : Nat} (h : LaneAt 54 w q u v room U S p false) (x : Int) :
    Calls Try.prog 8 #[.pointer (some ⟨q, 0, none⟩), .int .i64 x, .bool true] w (OfferPost 54 q u v room U S p false (.int .i64 x) true w) := by
  obtain ⟨x0, x1, x2, x3, -⟩ := cells4 h.box
  obtain ⟨s, r, hc⟩ := h.ur
  refine calls_of_loneTo (fun cs => ?_) (fun _ h => by cases h.1)
  have e : Frame.enter Try.prog 8 #[.pointer (some ⟨q, 0, none⟩), .int .i64 x, .bool true] .normal = (base 8).at ⟨#[.pointer (some ⟨q, 0, none⟩), .int .i64 x, .bool true, undef, undef, undef, undef, undef, undef, undef, undef, undef, undef, undef, undef, undef, undef, undef, undef, undef, undef, undef, undef, undef, undef, undef], []⟩ [.code (Try.f8.body.getD .skip)] := by
    simp [Frame.enter, Frame.at, Try.func8, base, Try.f8]
  rw [e]
  refine LoneTo.goes (n := 80) ?_
  simp only [Try.f8, Option.getD_some]
  s_c stepG_seq
  s_reg
  s_op
  s_c stepG_region_end
  s_c stepG_seq
  s_c stepG_seq
  s_reg
  s_op
  s_op
  s_op
  s_op
  s_c stepG_region_end
  s_cond false
  s_c stepG_skip
  s_c stepG_seq
  s_reg
  s_op
  s_op
  s_op
  s_op
  s_op
  s_c stepG_region_end
  s_c stepG_seq
  s_c stepG_seq
  s_reg
  s_op
  s_c stepG_region_end
  s_cond true
  s_reg
  s_op
  s_op
  s_op
  s_op
  s_op
  s_c stepG_region_end
  s_c stepG_seq
  s_c stepG_seq
  s_reg
  s_op
  s_c stepG_region_end
  s_reg
  s_op
  s_c stepG_region_end
  s_c stepG_seq
  s_reg
  s_stop
  by_cases hr : U.length < room
  · refine LoneTo.step (step_lone_select_send_room (c := u) (cap := room) (buf := U.toArray) (s := s) (r := r) (tm := false) (stepG_comm (cases := #[scase u (.int .i64 x) (.int .i64 0)]) (blocking := false) (shape := .select) (w' := w) rfl rfl (by decide) (by simp [go_sem, execOp, scase, Act.eval])) hc (by simpa using hr)) ?_
    rw [Frame.finish_at]
    have hy : U.toArray.push (Value.int .i64 x) = (U ++ [Value.int .i64 x]).toArray := by simp
    rw [hy]
    clear hy
    walk_nrm
    refine LoneTo.goes (n := 40) ?_
    s_op
    s_op
    s_c stepG_region_end
    s_c stepG_block
    s_cond true
    s_c stepG_seq
    s_reg
    s_op
    s_c stepG_region_end
    s_c stepG_ret'
    s_stop
    have hfr : Fr2 (fun k => k = u) w (w.setChan u room (U ++ [Value.int .i64 x]).toArray false (s + 1) r false) := Fr2.setChan (S := fun k => k = u) (Fr2.refl _ _) rfl _ _ _ _ _ _
    refine LoneTo.done ⟨.returned (.int .i64 0), _, rfl, ⟨by simp [LOffer, hr], ?_, hfr.mono (fun k e => .inr (.inl e)), size_setChan ..⟩, rfl, rfl, rfl, rfl, _, Try.func8, by simp [results, Try.f8, Frame.at]⟩
    have := h.small
    simp only [LOffer, hr, if_true, Bool.false_eq_true, if_false]
    exact ⟨hfr.keep h.box h.ne.1, ⟨s + 1, r, heap_setChan w u room _ _ _ _ _ (hlt hc)⟩, h.us.keptS hfr (fun e => h.ne.2.2 e.symm), h.ne, h.good, by simp; omega⟩
  · refine LoneTo.step (step_lone_select_send_full (c := u) (cap := room) (buf := U.toArray) (s := s) (r := r) (tm := false) (stepG_comm (cases := #[scase u (.int .i64 x) (.int .i64 0)]) (blocking := false) (shape := .select) (w' := w) rfl rfl (by decide) (by simp [go_sem, execOp, scase, Act.eval])) hc (by simpa using hr)) ?_
    rw [Frame.finish_at]
    walk_nrm
    refine LoneTo.goes (n := 40) ?_
    s_op
    s_op
    s_c stepG_region_end
    s_c stepG_block
    s_cond false
    s_c stepG_seq
    s_reg
    s_op
    s_c stepG_region_end
    s_c stepG_ret'
    s_stop
    refine LoneTo.done ⟨.returned (.int .i64 15), _, rfl, ⟨by simp [LOffer, hr], ?_, Fr2.refl _ _, rfl⟩, rfl, rfl, rfl, rfl, _, Try.func8, by simp [results, Try.f8, Frame.at]⟩
    simp only [LOffer, hr, if_true, Bool.false_eq_true, if_false]
    exact h

set_option maxRecDepth 100000 in
set_option maxHeartbeats 1000000 in
theorem Offer_usual_int {w : World} {q u v room : Nat} {U S : List Value} {p : Nat} (h : LaneAt 54 w q u v room U S p false) (x : Int) :
    Calls Try.prog 8 #[.pointer (some ⟨q, 0, none⟩), .int .i64 x, .bool false] w (OfferPost 54 q u v room U S p false (.int .i64 x) false w) := by
  obtain ⟨x0, x1, x2, x3, -⟩ := cells4 h.box
  obtain ⟨s, r, hc⟩ := h.us
  refine calls_of_loneTo (fun cs => ?_) (fun _ h => by cases h.1)
  have e : Frame.enter Try.prog 8 #[.pointer (some ⟨q, 0, none⟩), .int .i64 x, .bool false] .normal = (base 8).at ⟨#[.pointer (some ⟨q, 0, none⟩), .int .i64 x, .bool false, undef, undef, undef, undef, undef, undef, undef, undef, undef, undef, undef, undef, undef, undef, undef, undef, undef, undef, undef, undef, undef, undef, undef], []⟩ [.code (Try.f8.body.getD .skip)] := by
    simp [Frame.enter, Frame.at, Try.func8, base, Try.f8]
  rw [e]
  refine LoneTo.goes (n := 80) ?_
  simp only [Try.f8, Option.getD_some]
  s_c stepG_seq
  s_reg
  s_op
  s_c stepG_region_end
  s_c stepG_seq
  s_c stepG_seq
  s_reg
  s_op
  s_op
  s_op
  s_op
  s_c stepG_region_end
  s_cond false
  s_c stepG_skip
  s_c stepG_seq
  s_reg
  s_op
  s_op
  s_op
  s_op
  s_op
  s_c stepG_region_end
  s_c stepG_seq
  s_c stepG_seq
  s_reg
  s_op
  s_c stepG_region_end
  s_cond false
  s_c stepG_skip
  s_c stepG_seq
  s_c stepG_seq
  s_reg
  s_op
  s_c stepG_region_end
  s_reg
  s_op
  s_c stepG_region_end
  s_c stepG_seq
  s_reg
  s_stop
  by_cases hr : S.length < room
  · refine LoneTo.step (step_lone_select_send_room (c := v) (cap := room) (buf := S.toArray) (s := s) (r := r) (tm := false) (stepG_comm (cases := #[scase v (.int .i64 x) (.int .i64 0)]) (blocking := false) (shape := .select) (w' := w) rfl rfl (by decide) (by simp [go_sem, execOp, scase, Act.eval])) hc (by simpa using hr)) ?_
    rw [Frame.finish_at]
    have hy : S.toArray.push (Value.int .i64 x) = (S ++ [Value.int .i64 x]).toArray := by simp
    rw [hy]
    clear hy
    walk_nrm
    refine LoneTo.goes (n := 40) ?_
    s_op
    s_op
    s_c stepG_region_end
    s_c stepG_block
    s_cond true
    s_c stepG_seq
    s_reg
    s_op
    s_c stepG_region_end
    s_c stepG_ret'
    s_stop
    have hfr : Fr2 (fun k => k = v) w (w.setChan v room (S ++ [Value.int .i64 x]).toArray false (s + 1) r false) := Fr2.setChan (S := fun k => k = v) (Fr2.refl _ _) rfl _ _ _ _ _ _
    refine LoneTo.done ⟨.returned (.int .i64 0), _, rfl, ⟨by simp [LOffer, hr], ?_, hfr.mono (fun k e => .inr (.inr e)), size_setChan ..⟩, rfl, rfl, rfl, rfl, _, Try.func8, by simp [results, Try.f8, Frame.at]⟩
    have := h.small
    simp only [LOffer, hr, if_true, Bool.false_eq_true, if_false]
    exact ⟨hfr.keep h.box h.ne.2.1, h.ur.keptS hfr h.ne.2.2, ⟨s + 1, r, heap_setChan w v room _ _ _ _ _ (hlt hc)⟩, h.ne, h.good.more _, by simp; omega⟩
  · refine LoneTo.step (step_lone_select_send_full (c := v) (cap := room) (buf := S.toArray) (s := s) (r := r) (tm := false) (stepG_comm (cases := #[scase v (.int .i64 x) (.int .i64 0)]) (blocking := false) (shape := .select) (w' := w) rfl rfl (by decide) (by simp [go_sem, execOp, scase, Act.eval])) hc (by simpa using hr)) ?_
    rw [Frame.finish_at]
    walk_nrm
    refine LoneTo.goes (n := 40) ?_
    s_op
    s_op
    s_c stepG_region_end
    s_c stepG_block
    s_cond false
    s_c stepG_seq
    s_reg
    s_op
    s_c stepG_region_end
    s_c stepG_ret'
    s_stop
    refine LoneTo.done ⟨.returned (.int .i64 15), _, rfl, ⟨by simp [LOffer, hr], ?_, Fr2.refl _ _, rfl⟩, rfl, rfl, rfl, rfl, _, Try.func8, by simp [results, Try.f8, Frame.at]⟩
    simp only [LOffer, hr, if_true, Bool.false_eq_true, if_false]
    exact h

theorem Offer_c_int {w : World} {q u v room : Nat} {U S : List Value} {p : Nat} {sh : Bool} (h : LaneAt 54 w q u v room U S p sh) (x : Int) (urgent : Bool) :
    Calls Try.prog 8 #[.pointer (some ⟨q, 0, none⟩), .int .i64 x, .bool urgent] w (OfferPost 54 q u v room U S p sh (.int .i64 x) urgent w) := by
  cases sh with
  | true => exact Offer_shut_int h x urgent
  | false => cases urgent with
    | true => exact Offer_urgent_int h x
    | false => exact Offer_usual_int h x
end Go.Proofs.Ytponbjocaackcaa
