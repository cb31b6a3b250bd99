/- Long division: the walk. -/
import Derived.Test.YtaheeccpihbcaaaLong3
namespace Go.Proofs.Ytaheeccpihbcaaa
open Go.RowKit Mx

def DivNumPost (A B : Nat) (w : World) (e : Ending) (w' : World) : Prop := ∃ v1 v2, e = .returned (.tuple #[v1, v2]) ∧ Num w' v1 (A / B) ∧ Num w' v2 (A % B) ∧ w.grownBy w' none

set_option maxHeartbeats 2000000 in
theorem divideLong_w (pa pb : Option Addr) (na nb capa capb : Nat) (f fb : Nat → Nat) (w : World) (hna : na ≤ 100000) (hnb : nb ≤ na) (hn0 : 0 < nb) (ha : At .u64 w pa na f) (hb : At .u64 w pb nb fb) (hf : ∀ j, j < na → f j < Bw) (hfb : ∀ j, j < nb → fb j < Bw) (htop : fb (nb - 1) ≠ 0) :
    Calls Try.prog 67 #[.slice pa na capa, .slice pb nb capb] w (DivNumPost (V Bw f 0 na) (V Bw fb 0 nb) w) := by
  obtain ⟨gb, ob, rfl, hgb, hcb⟩ : ∃ gb ob, pb = some ⟨gb, ob, none⟩ ∧ gb < w.heap.size ∧ ∀ j, j < nb → w.cell? ⟨gb, ob + j, none⟩ = some (.int .u64 (fb j)) := by
    rcases hb with h | h
    · omega
    · exact h
  obtain ⟨s, hs, hlz, hY1, hY2⟩ := lz_c (fb (nb - 1)) (by omega) (hfb _ (by omega))
  obtain ⟨m, hm⟩ : ∃ m, m + nb = na + 1 := ⟨na + 1 - nb, by omega⟩
  have hmk : ∀ w, (Instr.makeSlice 23 (.int .i64 ((na : Int) - (nb : Int) + 1)) (.int .i64 ((na : Int) - (nb : Int) + 1))).run Try.prog w = .ok (.slice (some ⟨w.heap.size, 0, none⟩) m m) (w.alloc (.cells (madeCells #[.int .u64 0] m) 40)) :=
    fun w => by have := make64_run m (by omega) w; rwa [show ((m : Nat) : Int) = (na : Int) - (nb : Int) + 1 from by omega] at this
  have HA := Lib.hid ha; have HF := Lib.hid hf; have HFB := Lib.hid hfb; have HLZ := Lib.hid hlz; have HT := Lib.hid htop; have HY := Lib.hid hY1; have HM := Lib.hid hm
  have HBT : Hid (At .u64 w (some ⟨gb, ob, none⟩) nb fb) := Or.inr ⟨gb, ob, rfl, hgb, hcb⟩
  have hc := hcb (nb - 1) (by omega)
  clear ha hb hf hfb hlz htop hY1 hY2 hcb
  have i1 : (0 : Int) ≤ (nb : Int) - 1 := by omega
  have i2 : (nb : Int) ≤ na := by omega
  have i3 : m ≤ 100001 := by omega
  have i4 : 1 ≤ m := by omega
  clear hm
  go_enter Try.func67, Try.ntmps67
  go_wp2_with (go_at_call 74; refine (HLZ.out _).mono ?_; rintro e w' ⟨rfl, rfl⟩)
  refine (moveUp_c (some ⟨gb, ob, none⟩) nb capb s fb _ (by omega) hs HBT.out HFB.out).mono ?_
  rintro e w1 ⟨fH, rfl, hBH, hFH, hVH, hG1⟩
  have HBH := Lib.hid hBH; have HFH := Lib.hid hFH; have HVH := Lib.hid hVH; have HG1 := Lib.hid hG1
  clear hBH hFH hVH hG1
  go_wp2_with fail
  refine (moveUp_c pa na capa s f _ (by omega) hs (HA.out.grown HG1.out (by simp)) HF.out).mono ?_
  rintro e w2 ⟨fL, rfl, hBL, hFL, hVL, hG2⟩
  have HBL := Lib.hid hBL; have HFL := Lib.hid hFL; have HVL := Lib.hid hVL; have HG2 := Lib.hid hG2
  clear hBL hFL hVL hG2
  go_wp2_with fail
  have s1 := HBH.out.lt
  have s2 := HBL.out.lt
  have hHT := high_top hn0 hs HFB.out HY.out HVH.out
  have HD1 := Lib.hid hHT.1
  have HD2 := Lib.hid hHT.2
  have htH : fH (nb - 1) ≠ 0 := by
    intro e
    obtain ⟨t, rfl⟩ : ∃ t, nb = t + 1 := ⟨nb - 1, by omega⟩
    simp only [Nat.add_sub_cancel] at e
    have h1 := HD1.out
    rw [V_succ, Nat.zero_add, e, Nat.zero_mul, Nat.add_zero] at h1
    have h2 : V Bw fH 0 t < Bw ^ t := V_lt (fun j hj => by rw [Nat.zero_add]; exact HFH.out j (by omega))
    have h3 : Bw ^ t ≤ V Bw fb 0 (t + 1) := V_ge (by simpa using HT.out)
    have h4 : V Bw fb 0 (t + 1) * 1 ≤ V Bw fb 0 (t + 1) * 2 ^ s := Nat.mul_le_mul_left _ (Nat.pow_pos (by omega))
    omega
  have HTH := Lib.hid htH
  have HI1 := Lib.hid (left_top hn0 HM.out HF.out HT.out HVL.out)
  have HG3 := Lib.hid (gb_trans HG1.out HG2.out)
  clear hHT htH hc hmk i1
  go_loopw [10] (fun i wr => ∃ (k : Nat) (fl fq : Nat → Nat), k ≤ m ∧ i = .int .i64 ((k : Int) - 1) ∧ Hid (Blk .u64 wr w1.heap.size (na + 1) fl) ∧ Hid (∀ j, j < na + 1 → fl j < Bw) ∧ Hid (Blk .u64 wr w2.heap.size m fq) ∧ Hid (∀ j, j < m → fq j < Bw) ∧
      Hid (Blk .u64 wr w.heap.size (nb + 1) fH) ∧ Hid (V Bw fl k nb < V Bw fb 0 nb * 2 ^ s) ∧ Hid (∀ j, k + nb ≤ j → j < na + 1 → fl j = 0) ∧ Hid (V Bw fl 0 (na + 1) + Bw ^ k * V Bw fq k (m - k) * (V Bw fb 0 nb * 2 ^ s) = V Bw f 0 na * 2 ^ s) ∧ Hid (w.grownBy wr none))
    (fun i _ => (intOf i + 1).toNat)
  case atStart =>
    have hal := World.grownBy_alloc w2 (.cells (madeCells #[.int .u64 0] m) 40) none
    refine ⟨m, fL, fun _ => 0, Nat.le_refl _, rfl, HBL.out.kept hal (by simp), HFL.out, Blk_made _ _ _, fun _ _ => Bw_pos, (HBH.out.kept HG2.out (by simp)).kept hal (by simp), HI1.out, fun j h1 h2 => by have := HM.out; omega, ?_, gb_trans HG3.out hal⟩
    show _ = _
    rw [Nat.sub_self, V_zero, Nat.mul_zero, Nat.zero_mul, Nat.add_zero]
    exact HVL.out
  case round =>
    clear HBH HBL HG1 HG2 HG3 HI1 HVL HFL
    obtain ⟨k1, fl, fq, hk1, rfl, HBl, HFl, HBq, HFq, HBh, HI, HZ, HE, HG⟩ := hrel
    by_cases h0 : 0 < k1
    · obtain ⟨k, rfl⟩ : ∃ k, k1 = k + 1 := ⟨k1 - 1, by omega⟩
      have hmm := HM.out
      have i5 : (k : Int) + nb ≤ na := by omega
      have hkk : ((k + 1 : Nat) : Int) - 1 = (k : Int) := by omega
      rw [hkk]
      have HAH := Lib.hid (HBh.out.at0.pre (m := nb) (by omega))
      have HLT := Lib.hid (show V Bw fl (k + 1) nb < V Bw fH 0 nb by rw [HD1.out]; exact HI.out)
      clear hmm hkk
      have hlen : k + nb + 1 - k = nb + 1 := by omega
      have HLEN := Lib.hid hlen
      clear hlen
      go_wp2_with (go_at_call 76; rw [HLEN.out]; refine (takeOften_c w1.heap.size k nb _ (na + 1) _ fl (some ⟨w.heap.size, 0, none⟩) fH _ hn0 HBl.out (by omega) (by omega) HFl.out HAH.out (fun j hj => HFH.out j (by omega)) HTH.out (by intro a e; cases e; simp; omega) HLT.out).mono ?_; rintro e w5 ⟨q, fl', rfl, hq, hB5, hF5, hO5, hV5, hL5, hG5⟩; have HB5 := Lib.hid hB5; have HF5 := Lib.hid hF5; have HO5 := Lib.hid hO5; have HV5 := Lib.hid hV5; have HL5 := Lib.hid hL5; have HG5 := Lib.hid hG5; have HQ := Lib.hid hq; have HBQ := Lib.hid (HBq.out.kept hG5 (by simp; omega)); have hcc := HBQ.out.cell (j := k) (by omega); have hff := HBQ.out.free k; clear hq hB5 hF5 hO5 hV5 hL5 hG5)
      have hst := long_step (fq := fq) (T := V Bw f 0 na * 2 ^ s) HM.out (by omega) HV5.out HL5.out (by rw [HD1.out]; exact HD2.out) HO5.out HZ.out (by rw [HD1.out]; exact HE.out)
      have S1 := Lib.hid hst.1; have S2 := Lib.hid hst.2.1; have S3 := Lib.hid hst.2.2
      clear hst
      rw [HD1.out] at S1 S3
      have hb5 := gb_new (gb_below HG.out) (Nat.le_of_lt s1) HG5.out
      go_roundw
      case rel => exact ⟨k, fl', upd fq k q, by omega, rfl, HB5.out.kept (gb_set (gb_refl _ _) _) (by simp; omega), HF5.out, HBQ.out.set q, lt_upd HFq.out HQ.out, (HBh.out.kept HG5.out (by simp; omega)).kept (gb_set (gb_refl _ _) _) (by simp; omega), S1, S2, S3, below_gb (gb_new hb5 (by omega) (gb_set (gb_refl _ _) _))⟩
      case measure => simp [intOf]
    · obtain rfl : k1 = 0 := by omega
      have hend := long_end (R := V Bw fl 0 (na + 1)) (VQ := V Bw fq 0 m) (A := V Bw f 0 na) rfl (by have := HE.out; rw [Nat.pow_zero, Nat.one_mul, Nat.sub_zero] at this; exact this) (by
        have hp := V_pad (b := Bw) (f := fl) (o := 0) (n := nb) (m := na + 1) (fun j h1 h2 => by have := HZ.out j (by omega) h2; rwa [Nat.zero_add]) (by omega)
        rw [hp]; exact HI.out)
      have E1 := Lib.hid hend.1; have E2 := Lib.hid hend.2
      clear hend HE
      go_wp2_with (go_at_call 77; refine (moveDown_c w1.heap.size 0 (na + 1) _ (na + 1) s fl _ HBl.out (by omega) (by omega) HFl.out hs).mono ?_; rintro e w6 ⟨f6, rfl, hB6, hF6, hO6, hV6, hG6⟩; have HB6 := Lib.hid hB6; have HF6 := Lib.hid hF6; have HV6 := Lib.hid hV6; have HG6 := Lib.hid hG6; clear hB6 hF6 hV6 hG6 hO6)
      have HBQ := Lib.hid (HBq.out.kept HG6.out (by simp; omega))
      refine (trim_num _ _ _ fq _ (Nat.le_refl _) (by unfold maxLen; omega) HBQ.out.at0 HFq.out).mono ?_
      rintro e w7 ⟨v1, rfl, hv1, rfl⟩
      have HV1 := Lib.hid hv1
      clear hv1
      go_wp2_with fail
      refine (trim_num _ _ _ f6 _ (Nat.le_refl _) (by unfold maxLen; omega) HB6.out.at0 HF6.out).mono ?_
      rintro e w8 ⟨v2, rfl, hv2, rfl⟩
      have HV2 := Lib.hid hv2
      clear hv2
      go_wp2_with fail
      go_ret2
      exact ⟨v1, v2, rfl, by rw [← E1.out]; exact HV1.out, by rw [← E2.out, ← HV6.out]; exact HV2.out, below_gb (gb_new (gb_below HG.out) (Nat.le_of_lt s1) HG6.out)⟩
end Go.Proofs.Ytaheeccpihbcaaa
