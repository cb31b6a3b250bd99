/- Lanes: Take. -/
import Derived.Test.YtponbjocaackcaaLLaneI
namespace Go.Proofs.Ytponbjocaackcaa
open Go.RowKit Go.Conc

/-- What Take answers, and what is left. -/
def TakePost (T : TypeId) (z : Value) (q u v room : Nat) (U S : List Value) (p : Nat) (sh : Bool) (w : World) (e : Ending) (w' : World) : Prop :=
  e = .returned (.tuple #[(LTake U S p).1.getD z, .bool (LTake U S p).1.isSome]) ∧ LaneAt T w' q u v room (LTake U S p).2.1 (LTake U S p).2.2.1 (LTake U S p).2.2.2 sh ∧ Fr2 (fun k => k = q ∨ k = u ∨ k = v) w w' ∧ w'.heap.size = w.heap.size

theorem TakePost.of {T : TypeId} {z : Value} {q u v room : Nat} {U S : List Value} {p : Nat} {sh : Bool} {w : World} {e : Ending} {w' : World} {o : Option Value} {U' S' : List Value} {p' : Nat} (h : LTake U S p = (o, U', S', p')) (he : e = .returned (.tuple #[o.getD z, .bool o.isSome]))
    (hl : LaneAt T w' q u v room U' S' p' sh) (hf : Fr2 (fun k => k = q ∨ k = u ∨ k = v) w w') (hs : w'.heap.size = w.heap.size) : TakePost T z q u v room U S p sh w e w' := by
  unfold TakePost
  rw [h]
  exact ⟨he, hl, hf, hs⟩

theorem cell_drop {w : World} {q : Nat} {a b c d c' : Value} {T : TypeId} (h : w.heap[q]? = some (.cells #[a, b, c, d] T (0, 0))) : (w.setCell ⟨q, 2, none⟩ c').heap[q]? = some (.cells #[a, b, c', d] T (0, 0)) := set_cells h

section
variable {w : World} {q u v room : Nat} {U S : List Value} {p : Nat} {sh : Bool} {T : TypeId}
/-- The usual lane's turn. -/
theorem LaneAt.usual {w1 w2 w3 : World} (h : LaneAt T w q u v room U S p sh) (h1 : Fr2 (fun k => k = q ∨ k = u ∨ k = v) w w1) (s1 : w1.heap.size = w.heap.size) (hb : w1.heap[q]? = some (.cells #[.chan (some u), .chan (some v), .int .i64 p, .bool sh] T (0, 0))) (hu : ChanAt w1 u room U)
    (h2 : w2 = w1.setCell ⟨q, 2, none⟩ (.int .i64 0)) (h3 : Fr2 (fun k => k = v) w2 w3) (s3 : w3.heap.size = w2.heap.size) (hv : ChanAt w3 v room S.tail) :
    LaneAt T w3 q u v room U S.tail 0 sh ∧ Fr2 (fun k => k = q ∨ k = u ∨ k = v) w w3 ∧ w3.heap.size = w.heap.size := by
  have hf : Fr2 (fun k => k = q) w1 w2 := h2 ▸ Fr2.setCell (S := fun k => k = q) (Fr2.refl _ _) rfl _
  have hb2 : w2.heap[q]? = some (.cells #[.chan (some u), .chan (some v), .int .i64 (0 : Nat), .bool sh] T (0, 0)) := by rw [h2]; exact cell_drop hb
  have hsm := h.small
  refine ⟨⟨h3.keep hb2 h.ne.2.1, (hu.keptS hf (fun e => h.ne.1 e.symm)).keptS h3 h.ne.2.2, hv, h.ne, LGood.nil, by simp; omega⟩, (h1.trans (hf.mono (fun k e => .inl e))).trans (h3.mono (fun k e => .inr (.inr e))), ?_⟩
  rw [s3, h2, ← s1]; simp [World.setCell]
end

set_option maxRecDepth 100000 in
set_option maxHeartbeats 2000000 in
theorem Take_late_int {w : World} {q u v room : Nat} {U S : List Value} {p : Nat} {sh : Bool} (h : LaneAt 54 w q u v room U S p sh) (hp : ¬ p < 4) :
    Calls Try.prog 10 #[.pointer (some ⟨q, 0, none⟩)] w (TakePost 54 (.int .i64 0) q u v room U S p sh w) := by
  obtain ⟨x0, x1, x2, x3, x4⟩ := cells4 h.box
  have hf := x4 2
  have hb2 : (w.setCell ⟨q, 2, none⟩ (.int .i64 0)).heap[q]? = some (.cells #[.chan (some u), .chan (some v), .int .i64 0, .bool sh] 54 (0, 0)) := cell_drop h.box
  have y1 := (cells4 hb2).2.1
  have hfr : Fr2 (fun k => k = q) w (w.setCell ⟨q, 2, none⟩ (.int .i64 0)) := Fr2.setCell (S := fun k => k = q) (Fr2.refl _ _) rfl _
  have HO := Lib.hid (oldest_c_int (h.us.keptS hfr (fun e => h.ne.2.1 e.symm)))
  have d1 : decide ((p : Int) < 4) = false := decide_eq_false (by omega)
  have d1' : decide (p < 4) = false := decide_eq_false (by omega)
  have H := Lib.hid h; have HP := Lib.hid hp
  clear h x4 hb2 hfr hp
  go_enter Try.func10, Try.ntmps10
  go_wp2_with fail
  refine HO.out.mono ?_
  rintro e w2 ⟨rfl, hv, hfr, hs⟩
  have HV := Lib.hid hv; have HF := Lib.hid hfr; have HS := Lib.hid hs
  clear hv hfr hs
  go_wp2_with fail
  go_ret2
  obtain ⟨k1, k2, k3⟩ := H.out.usual (Fr2.refl _ _) rfl H.out.box H.out.ur rfl HF.out HS.out HV.out
  refine TakePost.of (ltake_late HP.out) ?_ k1 k2 k3
  cases S <;> rfl

set_option maxRecDepth 100000 in
set_option maxHeartbeats 2000000 in
theorem Take_empty_int {w : World} {q u v room : Nat} {S : List Value} {p : Nat} {sh : Bool} (h : LaneAt 54 w q u v room [] S p sh) (hp : p < 4) :
    Calls Try.prog 10 #[.pointer (some ⟨q, 0, none⟩)] w (TakePost 54 (.int .i64 0) q u v room [] S p sh w) := by
  obtain ⟨x0, x1, x2, x3, x4⟩ := cells4 h.box
  have HU := Lib.hid (oldest_c_int h.ur)
  have d1 : decide ((p : Int) < 4) = true := decide_eq_true (by omega)
  have d1' : decide (p < 4) = true := decide_eq_true (by omega)
  have H := Lib.hid h; have HP := Lib.hid hp
  clear h x4 hp
  go_enter Try.func10, Try.ntmps10
  go_wp2_with fail
  refine HU.out.mono ?_
  rintro e w1 ⟨rfl, hu, hf1, hs1⟩
  have hb := hf1.keep H.out.box H.out.ne.1
  obtain ⟨y0, y1, y2, y3, y4⟩ := cells4 hb
  have f2 := y4 2
  have hb2 : (w1.setCell ⟨q, 2, none⟩ (.int .i64 0)).heap[q]? = some (.cells #[.chan (some u), .chan (some v), .int .i64 0, .bool sh] 54 (0, 0)) := cell_drop hb
  have z1 := (cells4 hb2).2.1
  have hfr : Fr2 (fun k => k = q) w1 (w1.setCell ⟨q, 2, none⟩ (.int .i64 0)) := Fr2.setCell (S := fun k => k = q) (Fr2.refl _ _) rfl _
  have HO := Lib.hid (oldest_c_int ((H.out.us.keptS hf1 (fun e => H.out.ne.2.2 e.symm)).keptS hfr (fun e => H.out.ne.2.1 e.symm)))
  have HB := Lib.hid hb; have HU1 := Lib.hid hu; have HF1 := Lib.hid hf1; have HS1 := Lib.hid hs1
  simp only [List.headD_nil, ne_eq, not_true_eq_false, decide_false]
  clear hb hb2 hu hf1 hs1 hfr x0 x1 x2 x3 y4 HU
  go_wp2_with fail
  refine HO.out.mono ?_
  rintro e w3 ⟨rfl, hv, hfr, hs⟩
  have HV := Lib.hid hv; have HF := Lib.hid hfr; have HS := Lib.hid hs
  clear hv hfr hs
  go_wp2_with fail
  go_ret2
  obtain ⟨k1, k2, k3⟩ := H.out.usual (HF1.out.mono (fun k e => .inr (.inl e))) HS1.out HB.out HU1.out rfl HF.out HS.out HV.out
  refine TakePost.of ltake_empty ?_ k1 k2 k3
  cases S <;> rfl

set_option maxRecDepth 100000 in
set_option maxHeartbeats 2000000 in
theorem Take_urgent_int {w : World} {q u v room : Nat} {x : Value} {U S : List Value} {p : Nat} {sh : Bool} (h : LaneAt 54 w q u v room (x :: U) S p sh) (hp : p < 4) :
    Calls Try.prog 10 #[.pointer (some ⟨q, 0, none⟩)] w (TakePost 54 (.int .i64 0) q u v room (x :: U) S p sh w) := by
  obtain ⟨x0, x1, x2, x3, x4⟩ := cells4 h.box
  have HU := Lib.hid (oldest_c_int h.ur)
  have d1 : decide ((p : Int) < 4) = true := decide_eq_true (by omega)
  have d1' : decide (p < 4) = true := decide_eq_true (by omega)
  have H := Lib.hid h; have HP := Lib.hid hp
  clear h x4
  go_enter Try.func10, Try.ntmps10
  go_wp2_with fail
  refine HU.out.mono ?_
  rintro e w1 ⟨rfl, hu, hf1, hs1⟩
  have hb := hf1.keep H.out.box H.out.ne.1
  obtain ⟨y0, y1, y2, y3, y4⟩ := cells4 hb
  have f2 := y4 2
  obtain ⟨n, hn⟩ : ∃ n, S.length = n := ⟨_, rfl⟩
  have hl := lenchan_int (H.out.us.keptS hf1 (fun e => H.out.ne.2.2 e.symm)) n hn
  have hq := ltake_urgent (x := x) (U := U) (S := S) hp
  have hsm := H.out.small
  simp only [List.length_cons] at hsm
  have HSM : Hid (U.length ≤ room ∧ S.length ≤ room ∧ room ≤ 1024) := Lib.hid (by omega)
  have HB := Lib.hid hb; have HU1 := Lib.hid hu; have HF1 := Lib.hid hf1; have HS1 := Lib.hid hs1; have HN := Lib.hid hn; have HQ := Lib.hid hq
  have e1 : (x :: U).headD (.int .i64 0) = x := rfl
  have e2 : decide (x :: U ≠ []) = true := by simp
  simp only [List.headD_cons, e2]
  clear hb hu hf1 hs1 x0 x1 x2 x3 y4 HU hsm e1 e2 hq
  by_cases hs0 : S = []
  · obtain rfl : n = 0 := by rw [← hn, hs0]; rfl
    clear hn
    have HE := Lib.hid hs0
    clear hs0
    go_wp2_with fail
    go_ret2
    have hq := HQ.out
    rw [if_pos HE.out] at hq
    exact TakePost.of hq rfl ⟨HB.out, HU1.out, H.out.us.keptS HF1.out (fun e => H.out.ne.2.2 e.symm), H.out.ne, H.out.good, HSM.out⟩ (HF1.out.mono (fun k e => .inr (.inl e))) HS1.out
  · have hn0 : 0 < n := by rw [← hn]; exact List.length_pos_iff.2 hs0
    have d2 : decide ((0 : Int) < n) = true := decide_eq_true (by omega)
    have d2' : decide (0 < n) = true := decide_eq_true hn0
    have HE := Lib.hid hs0
    clear hn hs0
    go_wp2_with fail
    go_ret2
    have hq := HQ.out
    rw [if_neg HE.out] at hq
    have hf : Fr2 (fun k => k = q) w1 (w1.setCell ⟨q, 2, none⟩ (.int .i64 ((p : Int) + 1))) := Fr2.setCell (S := fun k => k = q) (Fr2.refl _ _) rfl _
    exact TakePost.of hq rfl ⟨by rw [show ((p + 1 : Nat) : Int) = (p : Int) + 1 by omega]; exact cell_drop HB.out, HU1.out.keptS hf (fun e => H.out.ne.1 e.symm), (H.out.us.keptS HF1.out (fun e => H.out.ne.2.2 e.symm)).keptS hf (fun e => H.out.ne.2.1 e.symm), H.out.ne, ⟨by have := HP.out; omega, fun _ => HE.out⟩, HSM.out⟩ ((HF1.out.mono (fun k e => .inr (.inl e))).trans (hf.mono (fun k e => .inl e))) (by rw [← HS1.out]; simp [World.setCell])

theorem Take_c_int {w : World} {q u v room : Nat} {U S : List Value} {p : Nat} {sh : Bool} (h : LaneAt 54 w q u v room U S p sh) :
    Calls Try.prog 10 #[.pointer (some ⟨q, 0, none⟩)] w (TakePost 54 (.int .i64 0) q u v room U S p sh w) := by
  by_cases hp : p < 4
  · cases U with
    | nil => exact Take_empty_int h hp
    | cons x U => exact Take_urgent_int h hp
  · exact Take_late_int h hp
end Go.Proofs.Ytponbjocaackcaa
