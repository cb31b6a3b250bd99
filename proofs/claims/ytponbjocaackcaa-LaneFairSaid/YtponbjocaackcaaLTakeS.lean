/- Lanes of strings: as those of numbers. -/
import Derived.Test.YtponbjocaackcaaLLaneS
namespace Go.Proofs.Ytponbjocaackcaa
open Go.RowKit Go.Conc

set_option maxRecDepth 100000 in
set_option maxHeartbeats 2000000 in
theorem Take_late_str {w : World} {q u v room : Nat} {U S : List Value} {p : Nat} {sh : Bool} (h : LaneAt 58 w q u v room U S p sh) (hp : ¬ p < 4) :
    Calls Try.prog 19 #[.pointer (some ⟨q, 0, none⟩)] w (TakePost 58 (.string ⟨#[]⟩) q u v room U S p sh w) := by
  obtain ⟨x0, x1, x2, x3, x4⟩ := cells4 h.box
  have hf := x4 2
  have hb2 : (w.setCell ⟨q, 2, none⟩ (.int .i64 0)).heap[q]? = some (.cells #[.chan (some u), .chan (some v), .int .i64 0, .bool sh] 58 (0, 0)) := cell_drop h.box
  have y1 := (cells4 hb2).2.1
  have hfr : Fr2 (fun k => k = q) w (w.setCell ⟨q, 2, none⟩ (.int .i64 0)) := Fr2.setCell (S := fun k => k = q) (Fr2.refl _ _) rfl _
  have HO := Lib.hid (oldest_c_str (h.us.keptS hfr (fun e => h.ne.2.1 e.symm)))
  have d1 : decide ((p : Int) < 4) = false := decide_eq_false (by omega)
  have d1' : decide (p < 4) = false := decide_eq_false (by omega)
  have H := Lib.hid h; have HP := Lib.hid hp
  clear h x4 hb2 hfr hp
  go_enter Try.func19, Try.ntmps19
  go_wp2_with fail
  refine HO.out.mono ?_
  rintro e w2 ⟨rfl, hv, hfr, hs⟩
  have HV := Lib.hid hv; have HF := Lib.hid hfr; have HS := Lib.hid hs
  clear hv hfr hs
  go_wp2_with fail
  go_ret2
  obtain ⟨k1, k2, k3⟩ := H.out.usual (Fr2.refl _ _) rfl H.out.box H.out.ur rfl HF.out HS.out HV.out
  refine TakePost.of (ltake_late HP.out) ?_ k1 k2 k3
  cases S <;> rfl


set_option maxRecDepth 100000 in
set_option maxHeartbeats 2000000 in
theorem Take_empty_str {w : World} {q u v room : Nat} {S : List Value} {p : Nat} {sh : Bool} (h : LaneAt 58 w q u v room [] S p sh) (hp : p < 4) :
    Calls Try.prog 19 #[.pointer (some ⟨q, 0, none⟩)] w (TakePost 58 (.string ⟨#[]⟩) q u v room [] S p sh w) := by
  obtain ⟨x0, x1, x2, x3, x4⟩ := cells4 h.box
  have HU := Lib.hid (oldest_c_str h.ur)
  have d1 : decide ((p : Int) < 4) = true := decide_eq_true (by omega)
  have d1' : decide (p < 4) = true := decide_eq_true (by omega)
  have H := Lib.hid h; have HP := Lib.hid hp
  clear h x4 hp
  go_enter Try.func19, Try.ntmps19
  go_wp2_with fail
  refine HU.out.mono ?_
  rintro e w1 ⟨rfl, hu, hf1, hs1⟩
  have hb := hf1.keep H.out.box H.out.ne.1
  obtain ⟨y0, y1, y2, y3, y4⟩ := cells4 hb
  have f2 := y4 2
  have hb2 : (w1.setCell ⟨q, 2, none⟩ (.int .i64 0)).heap[q]? = some (.cells #[.chan (some u), .chan (some v), .int .i64 0, .bool sh] 58 (0, 0)) := cell_drop hb
  have z1 := (cells4 hb2).2.1
  have hfr : Fr2 (fun k => k = q) w1 (w1.setCell ⟨q, 2, none⟩ (.int .i64 0)) := Fr2.setCell (S := fun k => k = q) (Fr2.refl _ _) rfl _
  have HO := Lib.hid (oldest_c_str ((H.out.us.keptS hf1 (fun e => H.out.ne.2.2 e.symm)).keptS hfr (fun e => H.out.ne.2.1 e.symm)))
  have HB := Lib.hid hb; have HU1 := Lib.hid hu; have HF1 := Lib.hid hf1; have HS1 := Lib.hid hs1
  simp only [List.headD_nil, ne_eq, not_true_eq_false, decide_false]
  clear hb hb2 hu hf1 hs1 hfr x0 x1 x2 x3 y4 HU
  go_wp2_with fail
  refine HO.out.mono ?_
  rintro e w3 ⟨rfl, hv, hfr, hs⟩
  have HV := Lib.hid hv; have HF := Lib.hid hfr; have HS := Lib.hid hs
  clear hv hfr hs
  go_wp2_with fail
  go_ret2
  obtain ⟨k1, k2, k3⟩ := H.out.usual (HF1.out.mono (fun k e => .inr (.inl e))) HS1.out HB.out HU1.out rfl HF.out HS.out HV.out
  refine TakePost.of ltake_empty ?_ k1 k2 k3
  cases S <;> rfl


set_option maxRecDepth 100000 in
set_option maxHeartbeats 2000000 in
theorem Take_urgent_str {w : World} {q u v room : Nat} {x : Value} {U S : List Value} {p : Nat} {sh : Bool} (h : LaneAt 58 w q u v room (x :: U) S p sh) (hp : p < 4) :
    Calls Try.prog 19 #[.pointer (some ⟨q, 0, none⟩)] w (TakePost 58 (.string ⟨#[]⟩) q u v room (x :: U) S p sh w) := by
  obtain ⟨x0, x1, x2, x3, x4⟩ := cells4 h.box
  have HU := Lib.hid (oldest_c_str h.ur)
  have d1 : decide ((p : Int) < 4) = true := decide_eq_true (by omega)
  have d1' : decide (p < 4) = true := decide_eq_true (by omega)
  have H := Lib.hid h; have HP := Lib.hid hp
  clear h x4
  go_enter Try.func19, Try.ntmps19
  go_wp2_with fail
  refine HU.out.mono ?_
  rintro e w1 ⟨rfl, hu, hf1, hs1⟩
  have hb := hf1.keep H.out.box H.out.ne.1
  obtain ⟨y0, y1, y2, y3, y4⟩ := cells4 hb
  have f2 := y4 2
  obtain ⟨n, hn⟩ : ∃ n, S.length = n := ⟨_, rfl⟩
  have hl := lenchan_str (H.out.us.keptS hf1 (fun e => H.out.ne.2.2 e.symm)) n hn
  have hq := ltake_urgent (x := x) (U := U) (S := S) hp
  have hsm := H.out.small
  simp only [List.length_cons] at hsm
  have HSM : Hid (U.length ≤ room ∧ S.length ≤ room ∧ room ≤ 1024) := Lib.hid (by omega)
  have HB := Lib.hid hb; have HU1 := Lib.hid hu; have HF1 := Lib.hid hf1; have HS1 := Lib.hid hs1; have HN := Lib.hid hn; have HQ := Lib.hid hq
  have e1 : (x :: U).headD (.string ⟨#[]⟩) = x := rfl
  have e2 : decide (x :: U ≠ []) = true := by simp
  simp only [List.headD_cons, e2]
  clear hb hu hf1 hs1 x0 x1 x2 x3 y4 HU hsm e1 e2 hq
  by_cases hs0 : S = []
  · obtain rfl : n = 0 := by rw [← hn, hs0]; rfl
    clear hn
    have HE := Lib.hid hs0
    clear hs0
    go_wp2_with fail
    go_ret2
    have hq := HQ.out
    rw [if_pos HE.out] at hq
    exact TakePost.of hq rfl ⟨HB.out, HU1.out, H.out.us.keptS HF1.out (fun e => H.out.ne.2.2 e.symm), H.out.ne, H.out.good, HSM.out⟩ (HF1.out.mono (fun k e => .inr (.inl e))) HS1.out
  · have hn0 : 0 < n := by rw [← hn]; exact List.length_pos_iff.2 hs0
    have d2 : decide ((0 : Int) < n) = true := decide_eq_true (by omega)
    have d2' : decide (0 < n) = true := decide_eq_true hn0
    have HE := Lib.hid hs0
    clear hn hs0
    go_wp2_with fail
    go_ret2
    have hq := HQ.out
    rw [if_neg HE.out] at hq
    have hf : Fr2 (fun k => k = q) w1 (w1.setCell ⟨q, 2, none⟩ (.int .i64 ((p : Int) + 1))) := Fr2.setCell (S := fun k => k = q) (Fr2.refl _ _) rfl _
    exact TakePost.of hq rfl ⟨by rw [show ((p + 1 : Nat) : Int) = (p : Int) + 1 by omega]; exact cell_drop HB.out, HU1.out.keptS hf (fun e => H.out.ne.1 e.symm), (H.out.us.keptS HF1.out (fun e => H.out.ne.2.2 e.symm)).keptS hf (fun e => H.out.ne.2.1 e.symm), H.out.ne, ⟨by have := HP.out; omega, fun _ => HE.out⟩, HSM.out⟩ ((HF1.out.mono (fun k e => .inr (.inl e))).trans (hf.mono (fun k e => .inl e))) (by rw [← HS1.out]; simp [World.setCell])


theorem Take_c_str {w : World} {q u v room : Nat} {U S : List Value} {p : Nat} {sh : Bool} (h : LaneAt 58 w q u v room U S p sh) :
    Calls Try.prog 19 #[.pointer (some ⟨q, 0, none⟩)] w (TakePost 58 (.string ⟨#[]⟩) q u v room U S p sh w) := by
  by_cases hp : p < 4
  · cases U with
    | nil => exact Take_empty_str h hp
    | cons x U => exact Take_urgent_str h hp
  · exact Take_late_str h hp

end Go.Proofs.Ytponbjocaackcaa
