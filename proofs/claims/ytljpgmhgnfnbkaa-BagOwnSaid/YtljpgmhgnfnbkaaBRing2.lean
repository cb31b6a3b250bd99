/- Rows in a ring: Pop, Last. -/
import Derived.Test.YtljpgmhgnfnbkaaBRing1
import Derived.BigRegion
namespace Go.Proofs.Ytljpgmhgnfnbkaa
open Go.RowKit Mx

theorem updZ_ne {f : Nat → Int} {k j : Nat} {x : Int} (h : j ≠ k) : updZ f k x j = f j := by simp [updZ, h]

def TakePost (q rg R : Nat) (pr : Option Addr) (x : Int) (rest : List Int) (w : World) (e : Ending) (w' : World) : Prop :=
  e = .returned (.tuple #[.int .i64 x, .bool true]) ∧ (∃ first f, RowAt w' q rg R first pr f rest) ∧ Fr2 (fun k => k = q ∨ k = rg) w w'

def NonePost (w : World) (e : Ending) (w' : World) : Prop := e = .returned (.tuple #[.int .i64 0, .bool false]) ∧ w' = w

set_option maxRecDepth 100000 in
theorem Pop0_c {w : World} {q rg R first : Nat} {pr : Option Addr} {f : Nat → Int} (h : RowAt w q rg R first pr f []) : Calls Try.prog 37 #[.pointer (some ⟨q, 0, none⟩)] w (NonePost w) := by
  obtain ⟨x0, x1, x2, x3⟩ := cells3' h.box
  clear h x3
  simp only [List.length_nil] at x2
  go_enter Try.func37, Try.ntmps37
  go_wp2_with fail
  go_ret2
  exact ⟨rfl, rfl⟩

set_option maxRecDepth 100000 in
theorem Last0_c {w : World} {q rg R first : Nat} {pr : Option Addr} {f : Nat → Int} (h : RowAt w q rg R first pr f []) : Calls Try.prog 38 #[.pointer (some ⟨q, 0, none⟩)] w (NonePost w) := by
  obtain ⟨x0, x1, x2, x3⟩ := cells3' h.box
  clear h x3
  simp only [List.length_nil] at x2
  go_enter Try.func38, Try.ntmps38
  go_wp2_with fail
  go_ret2
  exact ⟨rfl, rfl⟩

set_option maxRecDepth 100000 in
set_option maxHeartbeats 4000000 in
theorem Pop_c {w : World} {q rg R first : Nat} {pr : Option Addr} {f : Nat → Int} {x : Int} {rest : List Int} (h : RowAt w q rg R first pr f (x :: rest)) : Calls Try.prog 37 #[.pointer (some ⟨q, 0, none⟩)] w (TakePost q rg R pr x rest w) := by
  obtain ⟨n, hn⟩ : ∃ n, rest.length = n := ⟨_, rfl⟩
  have hcnt := h.cnt
  have hbx := h.box
  simp only [List.length_cons, hn] at hcnt hbx
  have hfR : first < R := by rcases h.fst with h | h <;> omega
  obtain ⟨rfl, hrq, hbl⟩ := h.ring.resolve_left (by omega)
  have hv0 := h.vals 0 (by simp)
  have hbig := h.big
  have hlift := lift_c 0 hbx hfR hbig (by omega) hbl
  have hmod : first % R = first := Nat.mod_eq_of_lt hfR
  simp only [Nat.add_zero, List.getD_cons_zero, hmod] at hv0 hlift
  have HBX := Lib.hid hbx; have HV := Lib.hid h.vals; have HN := Lib.hid hn; have HV0 := Lib.hid hv0
  obtain ⟨m, hm⟩ : ∃ m, first + 1 = m := ⟨_, rfl⟩
  obtain ⟨r, hr⟩ : ∃ r, m % R = r := ⟨_, rfl⟩
  have hrR : r < R := by rw [← hr]; exact Nat.mod_lt _ (by omega)
  have hR0 : 0 < R := by omega
  have hwr : IntKind.i64.wrap ((first : Int) + 1) = (m : Int) := by rw [show (first : Int) + 1 = (m : Int) by omega]; exact IntWalk.i64_in _ (by omega)
  have htm : (m : Int).tmod (R : Int) = (r : Int) := by rw [← hr]; exact Int.ofNat_tmod m R
  have htm2 : (m : Int) % (R : Int) = (r : Int) := by rw [← hr]; simp
  have hne : (((n + 1 : Nat) : Int) == 0) = false := beq_eq_false_iff_ne.2 (by omega)
  obtain ⟨x0, x1, x2, x3⟩ := cells3' hbx
  obtain ⟨c, hc⟩ : ∃ c : Nat, n + 1 = c := ⟨_, rfl⟩
  rw [hc] at x2 hne HBX
  have hws : IntKind.i64.wrap ((c : Int) - 1) = (n : Int) := by rw [show (c : Int) - 1 = (n : Int) by omega]; exact IntWalk.i64_in _ (by omega)
  have HM := Lib.hid (fun _ : Unit => hm); have HR := Lib.hid hr; have HC := Lib.hid (fun _ : Unit => hc); have HRQ := Lib.hid hrq; have HFR := Lib.hid hfR; have HCN := Lib.hid hcnt; have HBG := Lib.hid hbig
  have hlift : Calls Try.prog 67 #[.pointer (some ⟨q, 0, none⟩), .int .i64 0] w (LiftPost rg R first f w) := hlift
  have HL := Lib.hid hlift
  clear h hbl hlift hbx hv0 hmod hn hm hr hc hcnt hfR hbig
  go_enter Try.func37, Try.ntmps37
  go_wp2_with fail
  refine HL.out.mono ?_
  rintro e w2 ⟨rfl, hb2, hg2⟩
  rw [HV0.out]
  have hbx2 := (hg2.block _ (Array.getElem?_eq_some_iff.1 HBX.out).1 (by simpa using HRQ.out.symm)).trans HBX.out
  obtain ⟨x0, x1, x2, x3⟩ := cells3' hbx2
  have f1 := x3 1
  have hbx3 := set3_1 (u := .int .i64 r) hbx2
  obtain ⟨y0, y1, y2, y3⟩ := cells3' hbx3
  have y2 : (w2.setCell ⟨q, 1, none⟩ (.int .i64 r)).drew.cell? ⟨q, 2, none⟩ = some (.int .i64 c) := y2
  have f2 : (w2.setCell ⟨q, 1, none⟩ (.int .i64 r)).drew.frozen? ⟨q, 2, none⟩ = false := y3 2
  have HB2 := Lib.hid hb2; have HG2 := Lib.hid hg2; have HBX3 := Lib.hid hbx3
  clear hb2 hg2 hbx2 hbx3 x3 y0 y1 y3
  go_wp2_with fail
  go_region
  all_goals
    go_wp2_with fail
    go_ret2
    refine ⟨rfl, ⟨r, updZ f first 0, ?_, by have := HCN.out; rw [HN.out]; omega, HBG.out, .inl hrR, .inr ⟨rfl, HRQ.out, ?_⟩, fun j hj => ?_⟩, ?_⟩
    · rw [HN.out]; exact set3_2 (W := (w2.setCell ⟨q, 1, none⟩ (.int .i64 r)).drew) (u := .int .i64 n) HBX3.out
    · exact (HB2.out.kept (row := some q) (gb_set (gb_refl _ _) _) (by simpa using HRQ.out)).kept (row := some q) (gb_set (gb_drew (gb_refl _ _)) _) (by simpa using HRQ.out)
    · have hj : j < n := by rw [← HN.out]; exact hj
      have e1 : (r + j) % R = (first + (j + 1)) % R := by rw [← HR.out, Nat.mod_add_mod, ← HM.out ()]; congr 1; omega
      have e2 : (first + (j + 1)) % R ≠ first := by
        have := mod_ne (a := first) (j := 0) (c := j + 1) (R := R) (by omega) (by have := HCN.out; omega)
        rw [Nat.add_zero, Nat.mod_eq_of_lt HFR.out] at this
        exact fun e => this e.symm
      rw [e1, updZ_ne e2, HV.out (j + 1) (by simp; omega)]
      simp
    · exact ((Fr2.of HG2.out (fun k e => by simp at e; exact .inr e.symm)).trans (Fr2.of (gb_set (gb_refl _ _) _) (fun k e => by simp at e; exact .inl e.symm))).trans (Fr2.of (gb_set (gb_drew (gb_refl _ _)) _) (fun k e => by simp at e; exact .inl e.symm))

set_option maxRecDepth 100000 in
set_option maxHeartbeats 4000000 in
theorem Last_c {w : World} {q rg R first : Nat} {pr : Option Addr} {f : Nat → Int} {x : Int} {rest : List Int} (h : RowAt w q rg R first pr f (rest ++ [x])) : Calls Try.prog 38 #[.pointer (some ⟨q, 0, none⟩)] w (TakePost q rg R pr x rest w) := by
  obtain ⟨n, hn⟩ : ∃ n, rest.length = n := ⟨_, rfl⟩
  have hcnt := h.cnt
  have hbx := h.box
  simp only [List.length_append, List.length_cons, List.length_nil, Nat.zero_add, hn] at hcnt hbx
  have hfR : first < R := by rcases h.fst with h | h <;> omega
  obtain ⟨rfl, hrq, hbl⟩ := h.ring.resolve_left (by omega)
  have hv0 := h.vals n (by simp [hn])
  have hgx : (rest ++ [x]).getD n 0 = x := by simp [List.getD, ← hn]
  rw [hgx] at hv0
  have hbig := h.big
  obtain ⟨c, hc⟩ : ∃ c : Nat, n + 1 = c := ⟨_, rfl⟩
  rw [hc] at hbx
  have hbxn := set3_2 (u := .int .i64 (n : Int)) hbx
  have hlift := lift_c n hbxn hfR hbig (by omega) (hbl.kept (row := some q) (gb_set (gb_refl _ _) _) (by simpa using hrq))
  have HL := Lib.hid hlift; have HBX := Lib.hid hbx; have HBXN := Lib.hid hbxn; have HV := Lib.hid h.vals; have HN := Lib.hid hn; have HV0 := Lib.hid hv0
  have hne : ((c : Int) == 0) = false := beq_eq_false_iff_ne.2 (by omega)
  have hws : IntKind.i64.wrap ((c : Int) - 1) = (n : Int) := by rw [show (c : Int) - 1 = (n : Int) by omega]; exact IntWalk.i64_in _ (by omega)
  obtain ⟨x0, x1, x2, x3⟩ := cells3' hbx
  have f2 := x3 2
  obtain ⟨y0, y1, y2, y3⟩ := cells3' hbxn
  have HC := Lib.hid (fun _ : Unit => hc); have HRQ := Lib.hid hrq; have HFR := Lib.hid hfR; have HCN := Lib.hid hcnt; have HBG := Lib.hid hbig
  clear h hbl hlift hbx hbxn hv0 hgx hn hc hcnt hfR hbig x3 y3 y0 y1
  go_enter Try.func38, Try.ntmps38
  go_wp2_with fail
  refine HL.out.mono ?_
  rintro e w2 ⟨rfl, hb2, hg2⟩
  rw [HV0.out]
  have HB2 := Lib.hid hb2; have HG2 := Lib.hid hg2
  clear hb2 hg2
  go_wp2_with fail
  go_ret2
  refine ⟨rfl, ⟨first, updZ f ((first + n) % R) 0, ?_, by have := HCN.out; rw [HN.out]; omega, HBG.out, .inl HFR.out, .inr ⟨rfl, HRQ.out, HB2.out⟩, fun j hj => ?_⟩, ?_⟩
  · rw [HN.out]; exact (HG2.out.block _ (Array.getElem?_eq_some_iff.1 HBXN.out).1 (by simpa using HRQ.out.symm)).trans HBXN.out
  · have hj : j < n := by rw [← HN.out]; exact hj
    rw [updZ_ne (mod_ne hj (by have := HCN.out; omega)), HV.out j (by simp; have := HN.out; omega)]
    simp [List.getD, List.getElem?_append_left (show j < rest.length by have := HN.out; omega)]
  · exact (Fr2.of (gb_set (gb_refl _ _) _) (fun k e => by simp at e; exact .inl e.symm)).trans (Fr2.of HG2.out (fun k e => by simp at e; exact .inr e.symm))
end Go.Proofs.Ytljpgmhgnfnbkaa
