/- The document's lanes: Take. -/
import Derived.Test.YtponbjocaackcaaLROff
namespace Go.Proofs.Ytponbjocaackcaa
open Go.RowKit Go.Conc

def RTakePost (B : Nat) (X : Nat → Prop) (r room : Nat) (U S : List Value) (p : Nat) (sh : Bool) (w : World) (e : Ending) (w' : World) : Prop :=
  e = .returned (.tuple #[(LTake U S p).1.getD (.int .i64 0), .bool (LTake U S p).1.isSome]) ∧ RefAtE w' B X r room (LTake U S p).2.1 (LTake U S p).2.2.1 (LTake U S p).2.2.2 sh ∧ Fr2 (Mine B X) w w'

theorem RTakePost.of {B : Nat} {X : Nat → Prop} {r room : Nat} {U S : List Value} {p : Nat} {sh : Bool} {w : World} {e : Ending} {w' : World} {o : Option Value} {U' S' : List Value} {p' : Nat} (h : LTake U S p = (o, U', S', p')) (he : e = .returned (.tuple #[o.getD (.int .i64 0), .bool o.isSome]))
    (hl : RefAtE w' B X r room U' S' p' sh ∧ Fr2 (Mine B X) w w') : RTakePost B X r room U S p sh w e w' := by
  unfold RTakePost
  rw [h]
  exact ⟨he, hl⟩

theorem FieldL.tail {w : World} {B : Nat} {X : Nat → Prop} {r gl off c : Nat} {x : Value} {vs : List Value} (h : FieldL w B X r (some ⟨gl, off, none⟩) c gl (x :: vs)) : FieldL w B X r (if c = 1 then some ⟨gl, off, none⟩ else some ⟨gl, off + 1, none⟩) (c - 1) gl vs := by
  rcases h with ⟨e, -⟩ | ⟨-, h1, h2, h3, h4⟩
  · cases e
  · exact .inr ⟨by split <;> simp, h1.tail, h2, h3, h4⟩

/-- The first of a list in a field. -/
theorem FieldL.head {w : World} {B : Nat} {X : Nat → Prop} {r gl c : Nat} {pp : Option Addr} {x : Value} {vs : List Value} (h : FieldL w B X r pp c gl (x :: vs)) : ∃ off, pp = some ⟨gl, off, none⟩ ∧ w.cell? ⟨gl, off, none⟩ = some x ∧ vs.length + 1 ≤ c ∧ gl ≠ r := by
  rcases h with ⟨-, -, e⟩ | ⟨-, ⟨off, cur, e1, e2, e3, e4, e5, e6⟩, h2, h3, h4⟩
  · cases e
  · exact ⟨off, e1, by rw [cell_of_row w gl _ cur _ (0, 0) e4]; exact e6 0 x rfl, by simpa using e2, h3⟩

section
variable {w : World} {B : Nat} {X : Nat → Prop} {r room : Nat} {pu : Option Addr} {cu gu : Nat} {ps : Option Addr} {cs gs : Nat} {U S : List Value} {p : Nat} {sh : Bool}

theorem RefAt.turn {w3 : World} {pu' ps' : Option Addr} {cu' cs' : Nat} {U' S' : List Value} {p' : Nat} (h : RefAt w B X r room pu cu gu ps cs gs U S p sh) (hbox : w3.heap[r]? = some (.cells #[.slice pu' U'.length cu', .slice ps' S'.length cs', .int .i64 room, .int .i64 p', .bool sh] 31 (0, 0)))
    (hf : Fr2 (fun k => k = r) w w3) (hu : FieldL w B X r pu' cu' gu U') (hs : FieldL w B X r ps' cs' gs S') (hap : pu' ≠ none → ps' ≠ none → gu ≠ gs) : RefAtE w3 B X r room U' S' p' sh ∧ Fr2 (Mine B X) w w3 :=
  ⟨⟨_, _, gu, _, _, gs, hbox, hu.keptS hf (fun _ _ a _ => a), hs.keptS hf (fun _ _ a _ => a), hap, h.at0⟩, hf.mono fun k e => e ▸ h.at0⟩

set_option maxRecDepth 100000 in
set_option maxHeartbeats 4000000 in
theorem RTake_none (h : RefAt w B X r room pu cu gu ps cs gs [] [] p sh) (hg : LGood ([] : List Value) p) :
    Calls Try.prog 11 #[.pointer (some ⟨r, 0, none⟩)] w (RTakePost B X r room [] [] p sh w) := by
  obtain ⟨x0, x1, x2, x3, x4, x5⟩ := cells5 h.box
  have f3 := x5 3
  have H := Lib.hid h
  simp only [List.length_nil] at x0 x1
  clear x5 h
  go_enter Try.func11, Try.ntmps11
  go_wp2_with fail
  go_ret2
  refine RTakePost.of ltake_empty rfl ?_
  have h := H.out
  exact h.turn (U' := []) (S' := []) (p' := 0) (set_cells h.box) (Fr2.setCell (S := fun k => k = r) (Fr2.refl _ _) rfl _) h.fu h.fs h.ap

set_option maxRecDepth 100000 in
set_option maxHeartbeats 4000000 in
theorem RTake_usual_first {k : Int} {S : List Value} (h : RefAt w B X r room pu cu gu ps cs gs [] (.int .i64 k :: S) p sh) (hl : U.length ≤ 1000000 ∧ S.length ≤ 1000000)  :
    Calls Try.prog 11 #[.pointer (some ⟨r, 0, none⟩)] w (RTakePost B X r room [] (.int .i64 k :: S) p sh w) := by
  obtain ⟨off, rfl, hc0, hnc, hgr⟩ := h.fs.head
  obtain ⟨x0, x1, x2, x3, x4, x5⟩ := cells5 h.box
  have f1 := x5 1
  have f3 := x5 3
  obtain ⟨n, hn⟩ : ∃ n, S.length + 1 = n := ⟨_, rfl⟩
  obtain ⟨nu, hnu⟩ : ∃ nu, [].length = nu := ⟨_, rfl⟩
  have hn0 : 0 < n := by omega
  have hn1 : n ≤ 1000001 := by omega
  have d1 : decide ((0 : Int) < n) = true := decide_eq_true (by omega)
  have d1' : decide (0 < n) = true := decide_eq_true hn0
  obtain rfl : nu = 0 := hnu.symm
  have H := Lib.hid h
  rw [List.length_cons, hn] at x1
  rw [hnu] at x0
  rw [hn] at hnc
  have HN := Lib.hid hn; have HNU := Lib.hid hnu
  clear x5 h hl hn hnu
  by_cases hc1 : cs = 1
  · obtain rfl : n = 1 := by omega
    subst hc1
    go_enter Try.func11, Try.ntmps11
    go_wp2_with fail
    go_ret2
    have hS : S = [] := List.eq_nil_of_length_eq_zero (by have := HN.out; omega)
    subst hS
    refine RTakePost.of ltake_empty rfl ?_
    have h := H.out
    have hb := h.box
    exact h.turn (p' := 0) (set_cells (set_cells hb)) (Fr2.setCell (S := fun k => k = r) (Fr2.setCell (S := fun k => k = r) (Fr2.refl _ _) rfl _) rfl _) h.fu h.fs.tail (fun a _ => h.ap a (by simp))
  · have hc2 : 1 < cs := by omega
    go_enter Try.func11, Try.ntmps11
    go_wp2_with fail
    go_ret2
    refine RTakePost.of ltake_empty rfl ?_
    have h := H.out
    have hb := h.box
    have ht := h.fs.tail
    rw [if_neg (by omega)] at ht
    have en : n - 1 = S.length := by have := HN.out; omega
    try rw [en]
    exact h.turn (p' := 0) (set_cells (set_cells hb)) (Fr2.setCell (S := fun k => k = r) (Fr2.setCell (S := fun k => k = r) (Fr2.refl _ _) rfl _) rfl _) h.fu ht (fun a _ => h.ap a (by simp))

set_option maxRecDepth 100000 in
set_option maxHeartbeats 4000000 in
theorem RTake_usual_late {k : Int} {S : List Value} (h : RefAt w B X r room pu cu gu ps cs gs U (.int .i64 k :: S) p sh) (hl : U.length ≤ 1000000 ∧ S.length ≤ 1000000) (hu : U ≠ []) (hp : ¬ p < 4) :
    Calls Try.prog 11 #[.pointer (some ⟨r, 0, none⟩)] w (RTakePost B X r room U (.int .i64 k :: S) p sh w) := by
  obtain ⟨off, rfl, hc0, hnc, hgr⟩ := h.fs.head
  obtain ⟨x0, x1, x2, x3, x4, x5⟩ := cells5 h.box
  have f1 := x5 1
  have f3 := x5 3
  obtain ⟨n, hn⟩ : ∃ n, S.length + 1 = n := ⟨_, rfl⟩
  obtain ⟨nu, hnu⟩ : ∃ nu, U.length = nu := ⟨_, rfl⟩
  have hn0 : 0 < n := by omega
  have hn1 : n ≤ 1000001 := by omega
  have d1 : decide ((0 : Int) < n) = true := decide_eq_true (by omega)
  have d1' : decide (0 < n) = true := decide_eq_true hn0
  have hnu0 : 0 < nu := by rw [← hnu]; exact List.length_pos_iff.2 hu
  have e1 : ((nu : Int) == 0) = false := beq_eq_false_iff_ne.2 (by omega)
  have e1' : (nu == 0) = false := beq_eq_false_iff_ne.2 (by omega)
  have d2 : decide ((4 : Int) ≤ p) = true := decide_eq_true (by omega)
  have d2' : decide (4 ≤ p) = true := decide_eq_true (by omega)
  have H := Lib.hid h
  rw [List.length_cons, hn] at x1
  rw [hnu] at x0
  rw [hn] at hnc
  have HN := Lib.hid hn; have HNU := Lib.hid hnu; have HP := Lib.hid hp
  clear x5 h hl hn hnu
  by_cases hc1 : cs = 1
  · obtain rfl : n = 1 := by omega
    subst hc1
    go_enter Try.func11, Try.ntmps11
    go_wp2_with fail
    go_ret2
    have hS : S = [] := List.eq_nil_of_length_eq_zero (by have := HN.out; omega)
    subst hS
    refine RTakePost.of (ltake_late HP.out) rfl ?_
    have h := H.out
    have hb := h.box
    exact h.turn (p' := 0) (set_cells (set_cells hb)) (Fr2.setCell (S := fun k => k = r) (Fr2.setCell (S := fun k => k = r) (Fr2.refl _ _) rfl _) rfl _) h.fu h.fs.tail (fun a _ => h.ap a (by simp))
  · have hc2 : 1 < cs := by omega
    go_enter Try.func11, Try.ntmps11
    go_wp2_with fail
    go_ret2
    refine RTakePost.of (ltake_late HP.out) rfl ?_
    have h := H.out
    have hb := h.box
    have ht := h.fs.tail
    rw [if_neg (by omega)] at ht
    have en : n - 1 = S.length := by have := HN.out; omega
    try rw [en]
    exact h.turn (p' := 0) (set_cells (set_cells hb)) (Fr2.setCell (S := fun k => k = r) (Fr2.setCell (S := fun k => k = r) (Fr2.refl _ _) rfl _) rfl _) h.fu ht (fun a _ => h.ap a (by simp))

set_option maxRecDepth 100000 in
set_option maxHeartbeats 4000000 in
theorem RTake_urgent_lone {k : Int} {U : List Value} (h : RefAt w B X r room pu cu gu ps cs gs (.int .i64 k :: U) [] p sh) (hl : U.length ≤ 1000000 ∧ S.length ≤ 1000000) (hp : p < 4) (hp0 : p = 0) :
    Calls Try.prog 11 #[.pointer (some ⟨r, 0, none⟩)] w (RTakePost B X r room (.int .i64 k :: U) [] p sh w) := by
  obtain ⟨off, rfl, hc0, hnc, hgr⟩ := h.fu.head
  obtain ⟨x0, x1, x2, x3, x4, x5⟩ := cells5 h.box
  have f0 := x5 0
  have f3 := x5 3
  obtain ⟨n, hn⟩ : ∃ n, U.length + 1 = n := ⟨_, rfl⟩
  obtain ⟨ns, hns⟩ : ∃ ns, [].length = ns := ⟨_, rfl⟩
  have hn0 : 0 < n := by omega
  have hn1 : n ≤ 1000001 := by omega
  have e1 : ((n : Int) == 0) = false := beq_eq_false_iff_ne.2 (by omega)
  have e1' : (n == 0) = false := beq_eq_false_iff_ne.2 (by omega)
  obtain rfl : ns = 0 := hns.symm
  have H := Lib.hid h
  rw [List.length_cons, hn] at x0
  rw [hns] at x1
  rw [hn] at hnc
  have HN := Lib.hid hn; have HNS := Lib.hid hns; have HP := Lib.hid hp
  have HT := Lib.hid (ltake_urgent (x := Value.int .i64 k) (U := U) (S := []) hp); have HP0 := Lib.hid hp0; clear hp0
  clear x5 h hl hn hns
  by_cases hc1 : cu = 1
  · obtain rfl : n = 1 := by omega
    subst hc1
    go_enter Try.func11, Try.ntmps11
    go_wp2_with fail
    go_ret2
    have hS : U = [] := List.eq_nil_of_length_eq_zero (by have := HN.out; omega)
    subst hS
    have ht := HT.out
    rw [if_pos trivial] at ht; have e0 := HP0.out; subst e0
    refine RTakePost.of ht rfl ?_
    have h := H.out
    have hb := h.box
    exact h.turn (p' := 0) (set_cells (set_cells hb)) (Fr2.setCell (S := fun k => k = r) (Fr2.setCell (S := fun k => k = r) (Fr2.refl _ _) rfl _) rfl _) h.fu.tail h.fs (fun _ b => h.ap (by simp) b)
  · have hc2 : 1 < cu := by omega
    go_enter Try.func11, Try.ntmps11
    go_wp2_with fail
    go_ret2
    have ht := HT.out
    rw [if_pos trivial] at ht; have e0 := HP0.out; subst e0
    refine RTakePost.of ht rfl ?_
    have h := H.out
    have hb := h.box
    have hu := h.fu.tail
    rw [if_neg (by omega)] at hu
    have en : n - 1 = U.length := by have := HN.out; omega
    try rw [en]
    exact h.turn (p' := 0) (set_cells (set_cells hb)) (Fr2.setCell (S := fun k => k = r) (Fr2.setCell (S := fun k => k = r) (Fr2.refl _ _) rfl _) rfl _) hu h.fs (fun _ b => h.ap (by simp) b)

set_option maxRecDepth 100000 in
set_option maxHeartbeats 4000000 in
theorem RTake_urgent_both {k : Int} {U : List Value} (h : RefAt w B X r room pu cu gu ps cs gs (.int .i64 k :: U) S p sh) (hl : U.length ≤ 1000000 ∧ S.length ≤ 1000000) (hp : p < 4) (hs : S ≠ []) :
    Calls Try.prog 11 #[.pointer (some ⟨r, 0, none⟩)] w (RTakePost B X r room (.int .i64 k :: U) S p sh w) := by
  obtain ⟨off, rfl, hc0, hnc, hgr⟩ := h.fu.head
  obtain ⟨x0, x1, x2, x3, x4, x5⟩ := cells5 h.box
  have f0 := x5 0
  have f3 := x5 3
  obtain ⟨n, hn⟩ : ∃ n, U.length + 1 = n := ⟨_, rfl⟩
  obtain ⟨ns, hns⟩ : ∃ ns, S.length = ns := ⟨_, rfl⟩
  have hn0 : 0 < n := by omega
  have hn1 : n ≤ 1000001 := by omega
  have e1 : ((n : Int) == 0) = false := beq_eq_false_iff_ne.2 (by omega)
  have e1' : (n == 0) = false := beq_eq_false_iff_ne.2 (by omega)
  have hns0 : 0 < ns := by rw [← hns]; exact List.length_pos_iff.2 hs
  have d1 : decide ((0 : Int) < ns) = true := decide_eq_true (by omega)
  have d1' : decide (0 < ns) = true := decide_eq_true hns0
  have d2 : decide ((4 : Int) ≤ p) = false := decide_eq_false (by omega)
  have d2' : decide (4 ≤ p) = false := decide_eq_false (by omega)
  have HS0 := Lib.hid hs
  have H := Lib.hid h
  rw [List.length_cons, hn] at x0
  rw [hns] at x1
  rw [hn] at hnc
  have HN := Lib.hid hn; have HNS := Lib.hid hns; have HP := Lib.hid hp
  have HT := Lib.hid (ltake_urgent (x := Value.int .i64 k) (U := U) (S := S) hp)
  clear x5 h hl hn hns
  by_cases hc1 : cu = 1
  · obtain rfl : n = 1 := by omega
    subst hc1
    go_enter Try.func11, Try.ntmps11
    go_wp2_with fail
    go_ret2
    have hS : U = [] := List.eq_nil_of_length_eq_zero (by have := HN.out; omega)
    subst hS
    have ht := HT.out
    rw [if_neg HS0.out] at ht
    refine RTakePost.of ht rfl ?_
    have h := H.out
    have hb := h.box
    exact h.turn (p' := p + 1) (set_cells (set_cells hb)) (Fr2.setCell (S := fun k => k = r) (Fr2.setCell (S := fun k => k = r) (Fr2.refl _ _) rfl _) rfl _) h.fu.tail h.fs (fun _ b => h.ap (by simp) b)
  · have hc2 : 1 < cu := by omega
    go_enter Try.func11, Try.ntmps11
    go_wp2_with fail
    go_ret2
    have ht := HT.out
    rw [if_neg HS0.out] at ht
    refine RTakePost.of ht rfl ?_
    have h := H.out
    have hb := h.box
    have hu := h.fu.tail
    rw [if_neg (by omega)] at hu
    have en : n - 1 = U.length := by have := HN.out; omega
    try rw [en]
    exact h.turn (p' := p + 1) (set_cells (set_cells hb)) (Fr2.setCell (S := fun k => k = r) (Fr2.setCell (S := fun k => k = r) (Fr2.refl _ _) rfl _) rfl _) hu h.fs (fun _ b => h.ap (by simp) b)
end

theorem RTake_c {w : World} {B : Nat} {X : Nat → Prop} {r room : Nat} {U S : List Value} {p : Nat} {sh : Bool} (h : RefAtE w B X r room U S p sh) (hl : U.length ≤ 1000000 ∧ S.length ≤ 1000000) (hg : LGood S p) (hU : ∀ x ∈ U, ∃ k, x = Value.int .i64 k) (hS : ∀ x ∈ S, ∃ k, x = Value.int .i64 k) :
    Calls Try.prog 11 #[.pointer (some ⟨r, 0, none⟩)] w (RTakePost B X r room U S p sh w) := by
  obtain ⟨pu, cu, gu, ps, cs, gs, h⟩ := h
  by_cases hp : p < 4
  · cases U with
    | nil => cases S with
      | nil => exact RTake_none h hg
      | cons y S =>
        obtain ⟨k, rfl⟩ := hS y (List.mem_cons_self ..)
        simp only [List.length_cons] at hl
        exact RTake_usual_first (U := []) h ⟨by simp, by omega⟩
    | cons x U =>
      obtain ⟨k, rfl⟩ := hU x (List.mem_cons_self ..)
      simp only [List.length_cons] at hl
      by_cases hs : S = []
      · subst hs
        have hp0 : p = 0 := by
          by_cases h0 : 0 < p
          · exact absurd rfl (hg.2 h0)
          · omega
        exact RTake_urgent_lone (S := []) h ⟨by omega, by simp⟩ hp hp0
      · exact RTake_urgent_both h ⟨by omega, by omega⟩ hp hs
  · cases S with
    | nil => exact absurd rfl (hg.2 (by omega))
    | cons y S =>
      obtain ⟨k, rfl⟩ := hS y (List.mem_cons_self ..)
      simp only [List.length_cons] at hl
      by_cases hu : U = []
      · subst hu; exact RTake_usual_first (U := []) h ⟨by simp, by omega⟩
      · exact RTake_usual_late h ⟨hl.1, by omega⟩ hu hp
end Go.Proofs.Ytponbjocaackcaa
