/- slices.Reverse on bytes; timesPlus. -/
import Derived.Test.YtkonfkcaefjabaaDigits
import Derived.BigRegion
namespace Go.Proofs.Ytkonfkcaefjabaa
open Go.RowKit Mx

def RevPost (g cap n : Nat) (f : Nat → Nat) (base : Nat) (w : World) (e : Ending) (w' : World) : Prop :=
  e = .returned (.tuple #[]) ∧ Own .u8 5 w' base (.slice (some ⟨g, 0, none⟩) n cap) n (fun j => f (n - 1 - j)) ∧ w.grownBy w' (some g)

def rv (f : Nat → Nat) (n k : Nat) : Nat → Nat := fun j => if j < k ∨ n ≤ j + k then f (n - 1 - j) else f j

theorem rv_step {f : Nat → Nat} {n k : Nat} (h : 2 * k + 1 < n) : ∀ j, j < n → upd (upd (rv f n k) k (f (n - 1 - k))) (n - 1 - k) (f k) j = rv f n (k + 1) j := by
  intro j hj
  unfold upd rv
  split
  · subst_vars
    rw [if_pos (by omega)]
    congr 1; omega
  · split
    · subst_vars; rw [if_pos (by omega)]
    · by_cases h1 : j < k ∨ n ≤ j + k
      · rw [if_pos h1, if_pos (by omega)]
      · rw [if_neg h1, if_neg (by omega)]

set_option maxHeartbeats 2000000 in
theorem reverse_c (g cap n : Nat) (f : Nat → Nat) (base : Nat) (w : World) (h : Own .u8 5 w base (.slice (some ⟨g, 0, none⟩) n cap) n f) (hn : n ≤ 1000000000) :
    Calls Try.prog 44 #[.slice (some ⟨g, 0, none⟩) n cap] w (RevPost g cap n f base w) := by
  have HO := Lib.hid h
  clear h
  go_enter Try.func44, Try.ntmps44
  go_wp2
  go_loopw [2, 3] (fun i j wr => ∃ k : Nat, 2 * k ≤ n + 1 ∧ i = .int .i64 k ∧ j = .int .i64 ((n : Int) - 1 - k) ∧ Hid (Own .u8 5 wr base (.slice (some ⟨g, 0, none⟩) n cap) n (rv f n k)) ∧ Hid (w.grownBy wr (some g))) (fun i _ _ => n - (intOf i).toNat)
  case atStart => exact ⟨0, by omega, rfl, by simp, HO.out.congr (fun j hj => by simp [rv]; omega), gb_refl _ _⟩
  case round =>
    obtain ⟨k, hk, rfl, rfl, HK, HG⟩ := hrel
    by_cases hlt : 2 * k + 1 < n
    · have c1 := HK.out.cell (j := k) (by omega)
      have c2 := HK.out.cell (j := n - 1 - k) (by omega)
      have f1 := HK.out.free (j := k)
      have f2 := HK.out.free (j := n - 1 - k)
      have e1 : rv f n k k = f k := by unfold rv; rw [if_neg (by omega)]
      have e2 : rv f n k (n - 1 - k) = f (n - 1 - k) := by unfold rv; rw [if_neg (by omega)]
      rw [e1] at c1; rw [e2] at c2
      obtain ⟨x, hx⟩ : ∃ x, f k = x := ⟨_, rfl⟩
      obtain ⟨y, hy⟩ : ∃ y, f (n - 1 - k) = y := ⟨_, rfl⟩
      rw [hx] at c1; rw [hy] at c2
      have HNEXT := Lib.hid (((HK.out.set (j := k) (x := y) (by omega)).set (j := n - 1 - k) (x := x) (by omega)).congr (f2 := rv f n (k + 1)) (by rw [← hx, ← hy]; exact rv_step hlt))
      obtain ⟨l, hl⟩ : ∃ l, n - 1 - k = l := ⟨_, rfl⟩
      have hli : (n : Int) - 1 - k = (l : Int) := by omega
      rw [hl] at c2 f2 HNEXT
      rw [hli]
      have i1 : (k : Int) < l := by omega
      have i2 : (l : Int) < n := by omega
      have hkl : k < l := by omega
      have hln : l < n := by omega
      have HL := Lib.hid hl
      have hf2' : (wr.setCell ⟨g, k, none⟩ (.int .u8 y)).frozen? ⟨g, l, none⟩ = false := (HK.out.set (j := k) (x := y) (by omega)).free
      have hc2' := (HK.out.set (j := k) (x := y) (by omega)).cell (j := l) (by omega)
      have e3 : rv f n k l = y := by rw [← hl, e2]; exact hy
      rw [upd_ne (by omega), e3] at hc2'
      clear e1 e2 e3 hx hy hl hli
      go_wp2
      go_region
      all_goals go_wp2
      go_roundw
      case rel => exact ⟨k + 1, by omega, by go_num, val_of (by have := HL.out; omega), HNEXT.out, gb_drew (gb_set (gb_set HG.out _) _)⟩
      case measure => simp [intOf]; omega
    · have hfin : RevPost g cap n f base w (.returned (.tuple #[])) wr := ⟨rfl, HK.out.congr (fun j hj => by
        unfold rv
        by_cases h : j < k ∨ n ≤ j + k
        · rw [if_pos h]
        · rw [if_neg h]; congr 1; omega), HG.out⟩
      have HFIN := Lib.hid hfin
      have i1 : ¬ ((k : Int) < (n : Int) - 1 - k) := by omega
      clear hfin
      go_wp2
      go_end0
      exact HFIN.out

theorem times_alg {A F c P m r s x c2 B : Nat} (h : A + c * P = m * F + r) (hs : s + c2 * B = x * m + c) : A + s * P + c2 * (P * B) = m * (F + x * P) + r := by
  have e : A + s * P + c2 * (P * B) = A + (s + c2 * B) * P := by grind
  rw [e, hs]
  have e2 : A + (x * m + c) * P = (A + c * P) + x * m * P := by grind
  rw [e2, h]; grind

def TPPost (base : Nat) (n m r : Nat) (f : Nat → Nat) (w : World) (e : Ending) (w' : World) : Prop :=
  ∃ v' n' f', e = .returned v' ∧ Own .u64 40 w' base v' n' f' ∧ n' ≤ n + 1 ∧ (∀ j, j < n' → f' j < Bw) ∧ V Bw f' 0 n' = m * V Bw f 0 n + r ∧ Below base w w'

theorem tp_arith {m x c hi lo s ov : Nat} (hm : m < Bw) (hx : x < Bw) (hc : c < Bw) (hml : hi * Bw + lo = x * m) (h1 : s + ov * Bw = lo + c + 0) (hs : s < Bw) : hi + ov < Bw ∧ s + (hi + ov) * Bw = x * m + c := by
  have := mul_top hx hm
  generalize x * m = P at *
  unfold Bw at *
  omega

theorem gb_base {base g : Nat} {w w' : World} (h : w.grownBy w' (some g)) (hb : base ≤ g) (hs : base ≤ w.heap.size) : Below base w w' :=
  ⟨h.os, h.tape, h.output, h.size, fun k hk => h.block k (by omega) (by simp; omega)⟩

set_option maxHeartbeats 2000000 in
theorem timesPlus_c (base : Nat) (v : Value) (n m r : Nat) (f : Nat → Nat) (w : World) (hO : Own .u64 40 w base v n f) (hf : ∀ j, j < n → f j < Bw) (hm : m < Bw) (hr : r < Bw) (hn : n ≤ 100000) (hbase : base ≤ w.heap.size) :
    Calls Try.prog 40 #[v, .int .u64 m, .int .u64 r] w (TPPost base n m r f w) := by
  obtain ⟨p, cap, rfl, hp⟩ : ∃ p cap, v = .slice p n cap ∧ (0 < n → ∃ g, p = some ⟨g, 0, none⟩ ∧ base ≤ g ∧ g < w.heap.size) := by
    rcases hO.shape with ⟨rfl, rfl⟩ | ⟨g, cap, rfl, hbg, hgs, hnc, hcm⟩
    · exact ⟨_, _, rfl, fun h => by omega⟩
    · exact ⟨_, _, rfl, fun _ => ⟨g, rfl, hbg, hgs⟩⟩
  have HS := Lib.hid hO; have HF := Lib.hid hf; have HM := Lib.hid hm; have HR := Lib.hid hr
  clear hO hf hm hr
  go_enter Try.func40, Try.ntmps40
  go_wp2
  go_loopw [2, 14] (fun c i wr => ∃ (k c' : Nat) (fk : Nat → Nat), k ≤ n ∧ i = .int .i64 k ∧ c = .int .u64 c' ∧ Hid (c' < Bw) ∧ Hid (Own .u64 40 wr base (.slice p n cap) n fk) ∧ Hid (∀ j, j < n → fk j < Bw) ∧ Hid (∀ j, k ≤ j → j < n → fk j = f j) ∧
      Hid (V Bw fk 0 k + c' * Bw ^ k = m * V Bw f 0 k + r) ∧ Hid (Below base w wr)) (fun _ i _ => n - (intOf i).toNat)
  case atStart => exact ⟨0, r, f, by omega, rfl, rfl, HR, HS, HF, fun _ _ _ => rfl, by simp [Hid, V], Below.refl _ _⟩
  case round =>
    clear HS HF HR
    obtain ⟨k, c', fk, hk, rfl, rfl, HC, HO, HF, HE, HV, HB⟩ := hrel
    by_cases hlt : k < n
    · obtain ⟨g, rfl, hbg, hgs⟩ := hp (by omega)
      have hc1 := HO.out.cell hlt
      have hf1 := HO.out.free (j := k)
      obtain ⟨hi, lo, hmul, hhi, hlo, hml⟩ := mul64_c (fk k) m (HF.out k hlt) HM.out
      obtain ⟨s, ov, hrun, hs, hov, hsum⟩ := add64_run lo c' 0 (by omega) hlo HC.out
      obtain ⟨hcn, har⟩ := tp_arith HM.out (HF.out k hlt) HC.out hml hsum hs
      have hr1 : ∀ w, (callFunc 60 #[.int .u64 lo, .int .u64 c', .int .u64 0]).run Try.prog w = .ok (.value (.tuple #[.int .u64 s, .int .u64 ov])) w := hrun
      have HMUL := Lib.hid hmul
      have H2 : Hid (V Bw (upd fk k s) 0 (k + 1) + (hi + ov) * Bw ^ (k + 1) = m * V Bw f 0 (k + 1) + r) := by
        show _ = _
        rw [V_succ, V_succ, Nat.zero_add, upd_at, V_upd_out (by omega), Nat.pow_succ, ← HE.out k (Nat.le_refl _) hlt]
        exact times_alg HV.out har
      have HCN := Lib.hid hcn
      have hcn2 : hi + ov < 18446744073709551616 := hcn
      have HSB := Lib.hid hs
      clear hrun hmul hml hsum hcn har hs hhi hlo
      go_wp2_with (go_at_call 59; refine (HMUL.out _).mono ?_; rintro e w' ⟨rfl, rfl⟩)
      go_roundw
      case rel => exact ⟨k + 1, hi + ov, upd fk k s, by omega, by go_num, by go_num, HCN, HO.out.set hlt, lt_upd HF.out HSB.out, (fun j h1 h2 => by rw [upd_ne (by omega)]; exact HE.out j (by omega) h2), H2, HB.out.setCell hbg _⟩
      case measure => simp [intOf]; omega
    · obtain rfl : k = n := by omega
      by_cases h0 : c' = 0
      · subst h0
        have hfin : TPPost base k m r f w (.returned (.slice p k cap)) wr := ⟨_, k, fk, rfl, HO.out, by omega, HF.out, by have := HV.out; rwa [Nat.zero_mul, Nat.add_zero] at this, HB.out⟩
        have HFIN := Lib.hid hfin
        clear hfin
        go_wp2
        go_ret
        exact HFIN.out
      · have hr0 : ((c' : Int) == 0) = false := beq_eq_false_iff_ne.2 (by omega)
        have hbs : base ≤ wr.heap.size := Nat.le_trans hbase HB.out.size
        have hfar := Lib.hid HO.out.far
        clear hp
        go_wp2_with (at_builtin; refine wpList_app1 (k := .u64) (t := 23) (e := 40) (bytes := 8) Try.underlying23 info64 (by omega) rfl _ _ rfl base (.slice p k cap) k fk _ c' rfl rfl HO.out rfl (by omega) (by omega) ?_)
        intro v' w' hO' hG'
        have HO' := Lib.hid hO'; have HG' := Lib.hid hG'
        clear hO' hG'
        go_wp2_with fail
        go_ret
        refine ⟨v', k + 1, _, rfl, HO'.out, by omega, fun j hj => ?_, ?_, HB.out.grown HG'.out hbs hfar.out⟩
        · unfold upd; split
          · exact HC.out
          · exact HF.out j (by omega)
        · rw [V_succ, Nat.zero_add, upd_at, V_upd_out (by omega)]; exact HV.out
end Go.Proofs.Ytkonfkcaefjabaa
