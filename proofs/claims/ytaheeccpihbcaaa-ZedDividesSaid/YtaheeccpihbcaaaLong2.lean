/- Long division, one step and all of it. -/
import Derived.Test.YtaheeccpihbcaaaLong1
namespace Go.Proofs.Ytaheeccpihbcaaa
open Go.RowKit Mx

def OftenPost (g off n M : Nat) (f fb : Nat → Nat) (w : World) (e : Ending) (w' : World) : Prop :=
  ∃ (q : Nat) (f' : Nat → Nat), e = .returned (.int .u64 q) ∧ q < Bw ∧ Blk .u64 w' g M f' ∧ (∀ j, j < M → f' j < Bw) ∧ (∀ j, (j < off ∨ off + (n + 1) ≤ j) → f' j = f j) ∧
    V Bw f' off (n + 1) + q * V Bw fb 0 n = V Bw f off (n + 1) ∧ V Bw f' off (n + 1) < V Bw fb 0 n ∧ w.grownBy w' (some g)

theorem often_back {A D W Y c l q Q : Nat} (h : W + q * D = A + l * Y) (hl : 0 < l) (hW : W < Y) (hQ : Q = A / D) (hD : 0 < D) : Q < q := by
  subst hQ
  rw [Nat.div_lt_iff_lt_mul hD]
  have : 1 * Y ≤ l * Y := Nat.mul_le_mul_right _ hl
  omega

theorem often_next {A D W W' Y c l q : Nat} (h : W + q * D = A + l * Y) (hq : 0 < q) (hc : c ≤ l) (h2 : W' + c * Y = W + D) : W' + (q - 1) * D = A + (l - c) * Y := by
  obtain ⟨q', rfl⟩ : ∃ q', q = q' + 1 := ⟨q - 1, by omega⟩
  obtain ⟨l', rfl⟩ : ∃ l', l = l' + c := ⟨l - c, by omega⟩
  rw [Nat.add_mul, Nat.add_mul] at h
  simp only [Nat.add_sub_cancel]
  omega

theorem often_done {A D W q Q : Nat} (h : W + q * D = A + 0) (hQ : Q = A / D) (hle : Q ≤ q) (hD : 0 < D) : W < D := by
  subst hQ
  have h1 : q ≤ A / D := by rw [Nat.le_div_iff_mul_le hD]; omega
  have h2 : q = A / D := by omega
  have h3 := Nat.div_add_mod A D
  have h4 := Nat.mod_lt A hD
  rw [h2, Nat.mul_comm] at h
  omega

set_option maxHeartbeats 1000000 in
theorem takeOften_c (g off n cap M capb : Nat) (f : Nat → Nat) (pb : Option Addr) (fb : Nat → Nat) (w : World) (hn : 0 < n) (hB : Blk .u64 w g M f) (hl : off + (n + 1) ≤ M) (hM : M ≤ 1000000) (hf : ∀ j, j < M → f j < Bw)
    (hb : At .u64 w pb n fb) (hfb : ∀ j, j < n → fb j < Bw) (htop : fb (n - 1) ≠ 0) (hne : ∀ a, pb = some a → some a.block ≠ some g) (hlt : V Bw f (off + 1) n < V Bw fb 0 n) :
    Calls Try.prog 76 #[.slice (some ⟨g, off, none⟩) ((n + 1 : Nat)) cap, .slice pb n capb] w (OftenPost g off n M f fb w) := by
  obtain ⟨hQB, hQg⟩ := guess_ok (f := f) (off := off) hn (fun j hj => hf _ (by omega)) hlt
  have hD : 0 < V Bw fb 0 n := by omega
  obtain ⟨q0, hcall, hq0, hqQ⟩ := guess_c (f (off + n)) (f (off + (n - 1))) (fb (n - 1)) (by omega) (hfb _ (by omega)) (hf _ (by omega)) (hf _ (by omega))
  have hge := hqQ _ hQB hQg
  obtain ⟨gb, ob, rfl, hgb, hcb⟩ : ∃ gb ob, pb = some ⟨gb, ob, none⟩ ∧ gb < w.heap.size ∧ ∀ j, j < n → w.cell? ⟨gb, ob + j, none⟩ = some (.int .u64 (fb j)) := by
    rcases hb with h | h
    · omega
    · exact h
  have HGE := Lib.hid hge; have HC := Lib.hid hcall; have HQ0 := Lib.hid hq0; have HLT := Lib.hid hlt; have HD := Lib.hid hD
  have HAT : Hid (At .u64 w (some ⟨gb, ob, none⟩) n fb) := Or.inr ⟨gb, ob, rfl, hgb, hcb⟩
  have HFB := Lib.hid hfb; have HNE := Lib.hid hne; have HB := Lib.hid hB; have HF := Lib.hid hf
  have hbb : gb ≠ g := fun e => hne _ rfl (by rw [e])
  obtain ⟨x1, hx1⟩ : ∃ x, f (off + n) = x := ⟨_, rfl⟩
  obtain ⟨x2, hx2⟩ : ∃ x, f (off + (n - 1)) = x := ⟨_, rfl⟩
  obtain ⟨x3, hx3⟩ : ∃ x, fb (n - 1) = x := ⟨_, rfl⟩
  have c1 := hB.cell (j := off + n) (by omega)
  have c2 := hB.cell (j := off + (n - 1)) (by omega)
  have c3 := hcb (n - 1) (by omega)
  rw [hx1] at c1; rw [hx2] at c2; rw [hx3] at c3
  rw [hx1, hx2, hx3] at HC
  have i1 : (0 : Int) < n := by omega
  have i2 : (n : Int) < (n : Int) + 1 := by omega
  have i3 : (0 : Int) ≤ (n : Int) - 1 := by omega
  have i4 : (n : Int) - 1 < n := by omega
  have i5 : (n : Int) - 1 < (n : Int) + 1 := by omega
  clear hQB hQg hqQ hge hcall hq0 hlt hD hb hfb hne hB hf hcb hx1 hx2 hx3 htop
  go_enter Try.func76, Try.ntmps76
  go_wp2_with fail
  go_quiet ((go_at_call 79; first | exact q3 HC.out | exact q4 HC.out))
  generalize hw0 : w.drewN nq = w0
  have HB0 : Hid (Blk .u64 w0 g M f) := by rw [← hw0]; exact HB.out
  have HAT0 : Hid (At .u64 w0 (some ⟨gb, ob, none⟩) n fb) := by rw [← hw0]; exact HAT.out
  have HG0 : Hid (w.grownBy w0 (some g)) := by rw [← hw0]; exact gb_drewN (gb_refl _ _) _
  clear hw0 HB c1 c2 c3 i1 i2 i3 i4 i5 HC
  have HNE2 := Lib.hid (fun (_ : 0 < n) => HNE.out)
  go_wp2_with (go_at_call 69; refine (takeTimes_c g off (n + 1) cap M f (some ⟨gb, ob, none⟩) n capb fb q0 _ HB0.out hl (by omega) HF.out HAT0.out HFB.out HNE2.out (by omega) HQ0.out).mono ?_; rintro e w1 ⟨c, f1, rfl, hc, hB1, hF1, hO1, hV1, hG1⟩; have HB1 := Lib.hid hB1; have HF1 := Lib.hid hF1; have HO1 := Lib.hid hO1; have HV1 := Lib.hid hV1; have HG1 := Lib.hid (gb_trans HG0.out hG1); have HC := Lib.hid hc; clear hB1 hF1 hO1 hV1 hG1 hc)
  clear HB0 HG0
  go_loopw [5, 6] (fun q l wr => ∃ (qn ln : Nat) (fk : Nat → Nat), q = .int .u64 qn ∧ l = .int .u64 ln ∧ Hid (qn < Bw) ∧ Hid (ln < Bw) ∧ Hid (Blk .u64 wr g M fk) ∧ Hid (∀ j, j < M → fk j < Bw) ∧ Hid (∀ j, (j < off ∨ off + (n + 1) ≤ j) → fk j = f j) ∧
      Hid (V Bw fk off (n + 1) + qn * V Bw fb 0 n = V Bw f off (n + 1) + ln * Bw ^ (n + 1)) ∧ Hid (V Bw f off (n + 1) / V Bw fb 0 n ≤ qn) ∧ Hid (w.grownBy wr (some g)))
    (fun q _ _ => (intOf q).toNat)
  case atStart => exact ⟨q0, c, f1, rfl, rfl, HQ0, HC, HB1, HF1, HO1, HV1, HGE, HG1⟩
  case round =>
    clear HC HB1 HF1 HO1 HV1 HG1 HGE HQ0
    obtain ⟨qn, ln, fk, rfl, rfl, HQ, HL, HBk, HFk, HOk, HVk, HGk, HWk⟩ := hrel
    by_cases h0 : 0 < ln
    · have hlow : V Bw fk off (n + 1) < Bw ^ (n + 1) := V_lt (fun j hj => HFk.out _ (by omega))
      have hQq := often_back (c := 0) HVk.out h0 hlow rfl HD.out
      have hqp : 0 < qn := Nat.lt_of_le_of_lt (Nat.zero_le _) hQq
      have HQq := Lib.hid hQq
      have hln : (0 : Int) < ln := by omega
      have hqn2 : (1 : Int) ≤ qn := by omega
      have hqn3 : (qn : Int) ≤ 18446744073709551615 := by have := HQ.out; unfold Bw at this; omega
      have hln3 : (ln : Int) ≤ 18446744073709551615 := by have := HL.out; unfold Bw at this; omega
      have HAW := Lib.hid (HAT.out.grown HWk.out HNE.out)
      clear hlow hQq
      go_wp2_with (go_at_call 68; refine (addInto_c g off (n + 1) cap M fk (some ⟨gb, ob, none⟩) n capb fb _ HBk.out hl (by omega) HFk.out HAW.out HFB.out HNE2.out (by omega)).mono ?_; rintro e w2 ⟨c2, f2, rfl, hc2, hB2, hF2, hO2, hV2, hG2⟩; have HB2 := Lib.hid hB2; have HF2 := Lib.hid hF2; have HO2 := Lib.hid hO2; have HV2 := Lib.hid hV2; have HG2 := Lib.hid (gb_trans HWk.out hG2); clear hB2 hF2 hO2 hV2 hG2)
      go_roundw
      case rel => exact ⟨qn - 1, ln - c2, f2, val_of (by omega), val_of (by omega), Nat.lt_of_le_of_lt (Nat.sub_le _ _) HQ.out, Nat.lt_of_le_of_lt (Nat.sub_le _ _) HL.out, HB2, HF2, (fun j hj => by rw [HO2.out j hj]; exact HOk.out j hj), often_next HVk.out hqp (by omega) HV2.out, Nat.le_sub_one_of_lt HQq.out, HG2⟩
      case measure => simp [intOf]; omega
    · obtain rfl : ln = 0 := by omega
      have hfin : OftenPost g off n M f fb w (.returned (.int .u64 qn)) wr := by
        have hv := HVk.out
        rw [Nat.zero_mul] at hv
        exact ⟨qn, fk, rfl, HQ.out, HBk.out, HFk.out, HOk.out, by rw [hv, Nat.add_zero], often_done hv rfl HGk.out HD.out, HWk.out⟩
      have HFIN := Lib.hid hfin
      clear hfin
      go_wp2
      go_ret
      exact HFIN.out
end Go.Proofs.Ytaheeccpihbcaaa
