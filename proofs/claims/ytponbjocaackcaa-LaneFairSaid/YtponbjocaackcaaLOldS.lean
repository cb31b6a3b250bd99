/- Lanes of strings: as those of numbers. -/
import Derived.Test.YtponbjocaackcaaLDrainI
namespace Go.Proofs.Ytponbjocaackcaa
open Go.RowKit Go.Conc

set_option maxRecDepth 100000 in
theorem oldest_c_str {w : World} {u room : Nat} {vs : List Value} (h : ChanAt w u room vs) : Calls Try.prog 20 #[.chan (some u)] w (OldPost u room (.string ⟨#[]⟩) vs w) := by
  obtain ⟨s, r, hc⟩ := h
  refine calls_of_loneTo (fun cs => ?_) (fun _ h => by cases h.1)
  have e : Frame.enter Try.prog 20 #[.chan (some u)] .normal = (base 20).at ⟨#[.chan (some u), undef, undef, undef, undef, undef, undef, undef, undef, undef, undef, undef, undef], []⟩ [.code (Try.f20.body.getD .skip)] := by
    simp [Frame.enter, Frame.at, Try.func20, base, Try.f20]
  rw [e]
  refine LoneTo.goes (n := 40) ?_
  simp only [Try.f20, Option.getD_some]
  s_c stepG_seq
  s_reg
  s_op
  s_op
  s_c stepG_region_end
  s_c stepG_seq
  s_reg
  s_op
  s_c stepG_region_end
  s_c stepG_seq
  s_reg
  s_stop
  cases vs with
  | nil =>
    refine LoneTo.step (step_lone_select_default (c := u) (cap := room) (s := s) (r := r) (tm := false) (z := .string ⟨#[]⟩) (stepG_comm (cases := #[rcase u (.string ⟨#[]⟩)]) (blocking := false) (shape := .select) (w' := w) rfl rfl (by decide) (by simp [go_sem, execOp, rcase, Act.eval])) hc) ?_
    rw [Frame.finish_at]
    walk_nrm
    refine LoneTo.goes (n := 40) ?_
    s_op
    s_op
    s_c stepG_region_end
    s_c stepG_block
    s_cond false
    s_c stepG_seq
    s_reg
    s_op
    s_c stepG_region_end
    s_c stepG_seq
    s_reg
    s_op
    s_op
    s_op
    s_c stepG_region_end
    s_c stepG_ret'
    s_stop
    exact LoneTo.done ⟨.returned (.tuple #[.string ⟨#[]⟩, .bool false]), _, rfl, ⟨rfl, ⟨s, r, hc⟩, Fr2.refl _ _, rfl⟩, rfl, rfl, rfl, rfl, _, Try.func20, by simp [results, Try.f20, Frame.at]⟩
  | cons x xs =>
    refine LoneTo.step (step_lone_select_recv_buf (c := u) (cap := room) (buf := (x :: xs).toArray) (closed := false) (s := s) (r := r) (tm := false) (z := .string ⟨#[]⟩) (stepG_comm (cases := #[rcase u (.string ⟨#[]⟩)]) (blocking := false) (shape := .select) (w' := w) rfl rfl (by decide) (by simp [go_sem, execOp, rcase, Act.eval])) hc (by simp)) ?_
    rw [Frame.finish_at]
    have hx : (x :: xs).toArray.getD 0 undef = x := by simp
    have hy : (x :: xs).toArray.extract 1 (x :: xs).toArray.size = xs.toArray := by simp
    rw [hx, hy]
    clear hx hy
    walk_nrm
    refine LoneTo.goes (n := 40) ?_
    s_op
    s_op
    s_c stepG_region_end
    s_c stepG_block
    s_cond true
    s_c stepG_seq
    s_reg
    s_op
    s_op
    s_c stepG_region_end
    s_c stepG_seq
    s_reg
    s_op
    s_op
    s_op
    s_c stepG_region_end
    s_c stepG_ret'
    s_stop
    exact LoneTo.done ⟨.returned (.tuple #[x, .bool true]), _, rfl, ⟨rfl, ⟨s, r + 1, heap_setChan w u room _ _ _ _ _ (hlt hc)⟩, Fr2.setChan (S := fun k => k = u) (Fr2.refl _ _) rfl _ _ _ _ _ _, size_setChan ..⟩, rfl, rfl, rfl, rfl, _, Try.func20, by simp [results, Try.f20, Frame.at]⟩


set_option maxRecDepth 100000 in
theorem Offer_shut_str {w : World} {q u v room : Nat} {U S : List Value} {p : Nat} (h : LaneAt 58 w q u v room U S p true) (x : ByteArray) (urgent : Bool) :
    Calls Try.prog 16 #[.pointer (some ⟨q, 0, none⟩), .string x, .bool urgent] w (OfferPost 58 q u v room U S p true (.string x) urgent w) := by
  obtain ⟨x0, x1, x2, x3, -⟩ := cells4 h.box
  have H := Lib.hid h
  clear h
  go_enter Try.func16, Try.ntmps16
  go_wp2_with fail
  go_ret
  exact ⟨rfl, H.out, Fr2.refl _ _, rfl⟩


set_option maxRecDepth 100000 in
set_option maxHeartbeats 1000000 in
theorem Offer_urgent_str {w : World} {q u v room : Nat} {U S : List Value} {p : Nat} (h : LaneAt 58 w q u v room U S p false) (x : ByteArray) :
    Calls Try.prog 16 #[.pointer (some ⟨q, 0, none⟩), .string x, .bool true] w (OfferPost 58 q u v room U S p false (.string x) true w) := by
  obtain ⟨x0, x1, x2, x3, -⟩ := cells4 h.box
  obtain ⟨s, r, hc⟩ := h.ur
  refine calls_of_loneTo (fun cs => ?_) (fun _ h => by cases h.1)
  have e : Frame.enter Try.prog 16 #[.pointer (some ⟨q, 0, none⟩), .string x, .bool true] .normal = (base 16).at ⟨#[.pointer (some ⟨q, 0, none⟩), .string x, .bool true, undef, undef, undef, undef, undef, undef, undef, undef, undef, undef, undef, undef, undef, undef, undef, undef, undef, undef, undef, undef, undef, undef, undef], []⟩ [.code (Try.f16.body.getD .skip)] := by
    simp [Frame.enter, Frame.at, Try.func16, base, Try.f16]
  rw [e]
  refine LoneTo.goes (n := 80) ?_
  simp only [Try.f16, Option.getD_some]
  s_c stepG_seq
  s_reg
  s_op
  s_c stepG_region_end
  s_c stepG_seq
  s_c stepG_seq
  s_reg
  s_op
  s_op
  s_op
  s_op
  s_c stepG_region_end
  s_cond false
  s_c stepG_skip
  s_c stepG_seq
  s_reg
  s_op
  s_op
  s_op
  s_op
  s_op
  s_c stepG_region_end
  s_c stepG_seq
  s_c stepG_seq
  s_reg
  s_op
  s_c stepG_region_end
  s_cond true
  s_reg
  s_op
  s_op
  s_op
  s_op
  s_op
  s_c stepG_region_end
  s_c stepG_seq
  s_c stepG_seq
  s_reg
  s_op
  s_c stepG_region_end
  s_reg
  s_op
  s_c stepG_region_end
  s_c stepG_seq
  s_reg
  s_stop
  by_cases hr : U.length < room
  · refine LoneTo.step (step_lone_select_send_room (c := u) (cap := room) (buf := U.toArray) (s := s) (r := r) (tm := false) (stepG_comm (cases := #[scase u (.string x) (.string ⟨#[]⟩)]) (blocking := false) (shape := .select) (w' := w) rfl rfl (by decide) (by simp [go_sem, execOp, scase, Act.eval])) hc (by simpa using hr)) ?_
    rw [Frame.finish_at]
    have hy : U.toArray.push (Value.string x) = (U ++ [Value.string x]).toArray := by simp
    rw [hy]
    clear hy
    walk_nrm
    refine LoneTo.goes (n := 40) ?_
    s_op
    s_op
    s_c stepG_region_end
    s_c stepG_block
    s_cond true
    s_c stepG_seq
    s_reg
    s_op
    s_c stepG_region_end
    s_c stepG_ret'
    s_stop
    have hfr : Fr2 (fun k => k = u) w (w.setChan u room (U ++ [Value.string x]).toArray false (s + 1) r false) := Fr2.setChan (S := fun k => k = u) (Fr2.refl _ _) rfl _ _ _ _ _ _
    refine LoneTo.done ⟨.returned (.int .i64 0), _, rfl, ⟨by simp [LOffer, hr], ?_, hfr.mono (fun k e => .inr (.inl e)), size_setChan ..⟩, rfl, rfl, rfl, rfl, _, Try.func16, by simp [results, Try.f16, Frame.at]⟩
    have := h.small
    simp only [LOffer, hr, if_true, Bool.false_eq_true, if_false]
    exact ⟨hfr.keep h.box h.ne.1, ⟨s + 1, r, heap_setChan w u room _ _ _ _ _ (hlt hc)⟩, h.us.keptS hfr (fun e => h.ne.2.2 e.symm), h.ne, h.good, by simp; omega⟩
  · refine LoneTo.step (step_lone_select_send_full (c := u) (cap := room) (buf := U.toArray) (s := s) (r := r) (tm := false) (stepG_comm (cases := #[scase u (.string x) (.string ⟨#[]⟩)]) (blocking := false) (shape := .select) (w' := w) rfl rfl (by decide) (by simp [go_sem, execOp, scase, Act.eval])) hc (by simpa using hr)) ?_
    rw [Frame.finish_at]
    walk_nrm
    refine LoneTo.goes (n := 40) ?_
    s_op
    s_op
    s_c stepG_region_end
    s_c stepG_block
    s_cond false
    s_c stepG_seq
    s_reg
    s_op
    s_c stepG_region_end
    s_c stepG_ret'
    s_stop
    refine LoneTo.done ⟨.returned (.int .i64 15), _, rfl, ⟨by simp [LOffer, hr], ?_, Fr2.refl _ _, rfl⟩, rfl, rfl, rfl, rfl, _, Try.func16, by simp [results, Try.f16, Frame.at]⟩
    simp only [LOffer, hr, if_true, Bool.false_eq_true, if_false]
    exact h


set_option maxRecDepth 100000 in
set_option maxHeartbeats 1000000 in
theorem Offer_usual_str {w : World} {q u v room : Nat} {U S : List Value} {p : Nat} (h : LaneAt 58 w q u v room U S p false) (x : ByteArray) :
    Calls Try.prog 16 #[.pointer (some ⟨q, 0, none⟩), .string x, .bool false] w (OfferPost 58 q u v room U S p false (.string x) false w) := by
  obtain ⟨x0, x1, x2, x3, -⟩ := cells4 h.box
  obtain ⟨s, r, hc⟩ := h.us
  refine calls_of_loneTo (fun cs => ?_) (fun _ h => by cases h.1)
  have e : Frame.enter Try.prog 16 #[.pointer (some ⟨q, 0, none⟩), .string x, .bool false] .normal = (base 16).at ⟨#[.pointer (some ⟨q, 0, none⟩), .string x, .bool false, undef, undef, undef, undef, undef, undef, undef, undef, undef, undef, undef, undef, undef, undef, undef, undef, undef, undef, undef, undef, undef, undef, undef], []⟩ [.code (Try.f16.body.getD .skip)] := by
    simp [Frame.enter, Frame.at, Try.func16, base, Try.f16]
  rw [e]
  refine LoneTo.goes (n := 80) ?_
  simp only [Try.f16, Option.getD_some]
  s_c stepG_seq
  s_reg
  s_op
  s_c stepG_region_end
  s_c stepG_seq
  s_c stepG_seq
  s_reg
  s_op
  s_op
  s_op
  s_op
  s_c stepG_region_end
  s_cond false
  s_c stepG_skip
  s_c stepG_seq
  s_reg
  s_op
  s_op
  s_op
  s_op
  s_op
  s_c stepG_region_end
  s_c stepG_seq
  s_c stepG_seq
  s_reg
  s_op
  s_c stepG_region_end
  s_cond false
  s_c stepG_skip
  s_c stepG_seq
  s_c stepG_seq
  s_reg
  s_op
  s_c stepG_region_end
  s_reg
  s_op
  s_c stepG_region_end
  s_c stepG_seq
  s_reg
  s_stop
  by_cases hr : S.length < room
  · refine LoneTo.step (step_lone_select_send_room (c := v) (cap := room) (buf := S.toArray) (s := s) (r := r) (tm := false) (stepG_comm (cases := #[scase v (.string x) (.string ⟨#[]⟩)]) (blocking := false) (shape := .select) (w' := w) rfl rfl (by decide) (by simp [go_sem, execOp, scase, Act.eval])) hc (by simpa using hr)) ?_
    rw [Frame.finish_at]
    have hy : S.toArray.push (Value.string x) = (S ++ [Value.string x]).toArray := by simp
    rw [hy]
    clear hy
    walk_nrm
    refine LoneTo.goes (n := 40) ?_
    s_op
    s_op
    s_c stepG_region_end
    s_c stepG_block
    s_cond true
    s_c stepG_seq
    s_reg
    s_op
    s_c stepG_region_end
    s_c stepG_ret'
    s_stop
    have hfr : Fr2 (fun k => k = v) w (w.setChan v room (S ++ [Value.string x]).toArray false (s + 1) r false) := Fr2.setChan (S := fun k => k = v) (Fr2.refl _ _) rfl _ _ _ _ _ _
    refine LoneTo.done ⟨.returned (.int .i64 0), _, rfl, ⟨by simp [LOffer, hr], ?_, hfr.mono (fun k e => .inr (.inr e)), size_setChan ..⟩, rfl, rfl, rfl, rfl, _, Try.func16, by simp [results, Try.f16, Frame.at]⟩
    have := h.small
    simp only [LOffer, hr, if_true, Bool.false_eq_true, if_false]
    exact ⟨hfr.keep h.box h.ne.2.1, h.ur.keptS hfr h.ne.2.2, ⟨s + 1, r, heap_setChan w v room _ _ _ _ _ (hlt hc)⟩, h.ne, h.good.more _, by simp; omega⟩
  · refine LoneTo.step (step_lone_select_send_full (c := v) (cap := room) (buf := S.toArray) (s := s) (r := r) (tm := false) (stepG_comm (cases := #[scase v (.string x) (.string ⟨#[]⟩)]) (blocking := false) (shape := .select) (w' := w) rfl rfl (by decide) (by simp [go_sem, execOp, scase, Act.eval])) hc (by simpa using hr)) ?_
    rw [Frame.finish_at]
    walk_nrm
    refine LoneTo.goes (n := 40) ?_
    s_op
    s_op
    s_c stepG_region_end
    s_c stepG_block
    s_cond false
    s_c stepG_seq
    s_reg
    s_op
    s_c stepG_region_end
    s_c stepG_ret'
    s_stop
    refine LoneTo.done ⟨.returned (.int .i64 15), _, rfl, ⟨by simp [LOffer, hr], ?_, Fr2.refl _ _, rfl⟩, rfl, rfl, rfl, rfl, _, Try.func16, by simp [results, Try.f16, Frame.at]⟩
    simp only [LOffer, hr, if_true, Bool.false_eq_true, if_false]
    exact h


theorem Offer_c_str {w : World} {q u v room : Nat} {U S : List Value} {p : Nat} {sh : Bool} (h : LaneAt 58 w q u v room U S p sh) (x : ByteArray) (urgent : Bool) :
    Calls Try.prog 16 #[.pointer (some ⟨q, 0, none⟩), .string x, .bool urgent] w (OfferPost 58 q u v room U S p sh (.string x) urgent w) := by
  cases sh with
  | true => exact Offer_shut_str h x urgent
  | false => cases urgent with
    | true => exact Offer_urgent_str h x
    | false => exact Offer_usual_str h x

end Go.Proofs.Ytponbjocaackcaa
