/- Taking a multiple away, adding one: in place. -/
import Derived.Test.YtaheeccpihbcaaaWords1
namespace Go.Proofs.Ytaheeccpihbcaaa
open Go.RowKit Mx

theorem mul_top {q x : Nat} (hq : q < Bw) (hx : x < Bw) : q * x ≤ 340282366920938463426481119284349108225 := by
  have : q * x ≤ 18446744073709551615 * 18446744073709551615 := Nat.mul_le_mul (by unfold Bw at hq; omega) (by unfold Bw at hx; omega)
  omega

theorem take_arith {q x c a hi lo s ov d un : Nat} (hq : q < Bw) (hx : x < Bw) (hc : c < Bw) (hlo : lo < Bw) (hm : hi * Bw + lo = q * x) (hs : s < Bw) (h1 : s + ov * Bw = lo + c + 0) (ha : a < Bw) (hd : d < Bw) (h2 : d + s + 0 = a + un * Bw) (hov : ov ≤ 1) (hun : un ≤ 1) :
    hi + ov + un < Bw ∧ d + q * x + c = a + (hi + ov + un) * Bw := by
  have := mul_top hq hx
  generalize q * x = P at *
  unfold Bw at *
  omega

theorem addt_arith {q x c a hi lo s ov d o2 : Nat} (hq : q < Bw) (hx : x < Bw) (hc : c < Bw) (hlo : lo < Bw) (hm : hi * Bw + lo = q * x) (hs : s < Bw) (h1 : s + ov * Bw = lo + c + 0) (ha : a < Bw) (hd : d < Bw) (h2 : d + o2 * Bw = a + s + 0) (hov : ov ≤ 1) (hun : o2 ≤ 1) :
    hi + ov + o2 < Bw ∧ hi + ov < Bw ∧ d + (hi + ov + o2) * Bw = a + (q * x + c) := by
  have := mul_top hq hx
  generalize q * x = P at *
  unfold Bw at *
  omega

theorem take_step {f fk : Nat → Nat} {off k c c2 d Z : Nat} (HO : ∀ j, (j < off ∨ off + k ≤ j) → fk j = f j) (HV : V Bw fk off k + Z = V Bw f off k + c * Bw ^ k)
    (y : Nat) (hd : d + y + c = fk (off + k) + c2 * Bw) :
    (∀ j, (j < off ∨ off + (k + 1) ≤ j) → upd fk (off + k) d j = f j) ∧ V Bw (upd fk (off + k) d) off (k + 1) + (Z + y * Bw ^ k) = V Bw f off (k + 1) + c2 * Bw ^ (k + 1) := by
  refine ⟨fun j hj => ?_, ?_⟩
  · rw [upd_ne (by omega)]; exact HO j (by omega)
  · rw [V_succ, V_succ, upd_at, V_upd_out (by omega), Nat.pow_succ, ← HO (off + k) (by omega)]
    exact step_sub HV y hd

theorem addt_step {f fk : Nat → Nat} {off k c c2 d Z y : Nat} (HO : ∀ j, (j < off ∨ off + k ≤ j) → fk j = f j) (HV : V Bw fk off k + c * Bw ^ k = V Bw f off k + Z)
    (hd : d + c2 * Bw = fk (off + k) + (y + c)) :
    (∀ j, (j < off ∨ off + (k + 1) ≤ j) → upd fk (off + k) d j = f j) ∧ V Bw (upd fk (off + k) d) off (k + 1) + c2 * Bw ^ (k + 1) = V Bw f off (k + 1) + (Z + y * Bw ^ k) := by
  refine ⟨fun j hj => ?_, ?_⟩
  · rw [upd_ne (by omega)]; exact HO j (by omega)
  · have ho := HO (off + k) (by omega)
    rw [V_succ, V_succ, upd_at, V_upd_out (by omega), Nat.pow_succ, ← ho]
    have := step_add (P := Bw ^ k) HV (d := d) (c' := c2) (x := fk (off + k)) (y := y) (b := Bw) (by omega)
    rw [this, Nat.add_mul]; omega

def TakePost (g off la M : Nat) (f fb : Nat → Nat) (lb q : Nat) (w : World) (e : Ending) (w' : World) : Prop :=
  ∃ (c : Nat) (f' : Nat → Nat), e = .returned (.int .u64 c) ∧ c < Bw ∧ Blk .u64 w' g M f' ∧ (∀ j, j < M → f' j < Bw) ∧ (∀ j, (j < off ∨ off + la ≤ j) → f' j = f j) ∧
    V Bw f' off la + q * V Bw fb 0 lb = V Bw f off la + c * Bw ^ la ∧ w.grownBy w' (some g)

set_option maxHeartbeats 1000000 in
theorem takeTimes_c (g off la cap M : Nat) (f : Nat → Nat) (pb : Option Addr) (lb capb : Nat) (fb : Nat → Nat) (q : Nat) (w : World) (hB : Blk .u64 w g M f) (hl : off + la ≤ M) (hM : M ≤ 1099511627776) (hf : ∀ j, j < M → f j < Bw)
    (hb : At .u64 w pb lb fb) (hfb : ∀ j, j < lb → fb j < Bw) (hne : 0 < lb → ∀ a, pb = some a → some a.block ≠ some g) (hlb : lb ≤ la) (hq : q < Bw) :
    Calls Try.prog 69 #[.slice (some ⟨g, off, none⟩) la cap, .slice pb lb capb, .int .u64 q] w (TakePost g off la M f fb lb q w) := by
  go_enter Try.func69, Try.ntmps69
  go_wp2
  go_loopw [7, 17] (fun c i wr => ∃ (k c' : Nat) (fk : Nat → Nat), k ≤ lb ∧ i = .int .i64 k ∧ c = .int .u64 c' ∧ c' < Bw ∧ Hid (Blk .u64 wr g M fk) ∧ Hid (∀ j, j < M → fk j < Bw) ∧ Hid (∀ j, (j < off ∨ off + k ≤ j) → fk j = f j) ∧
      Hid (V Bw fk off k + q * V Bw fb 0 k = V Bw f off k + c' * Bw ^ k) ∧ Hid (w.grownBy wr (some g)))
    (fun _ i _ => lb - (intOf i).toNat)
  case atStart => exact ⟨0, 0, f, by omega, rfl, rfl, Bw_pos, hB, hf, fun _ _ => rfl, by simp [Hid, V], gb_refl _ _⟩
  case round =>
    obtain ⟨k, c', fk, hk, rfl, rfl, hc1, HB, HF, HO, HV, HG⟩ := hrel
    by_cases hkb : k < lb
    · rcases hb with hb | ⟨gb, ob, rfl, hgb, hcb⟩
      · omega
      have hcell := HB.out.cell (j := off + k) (by omega)
      have hfree := HB.out.free (off + k)
      have hgne : gb ≠ g := fun e => hne (by omega) _ rfl (by rw [e])
      have hcb1 : wr.cell? ⟨gb, ob + k, none⟩ = some (.int .u64 (fb k)) := HG.out.cell (hcb k hkb) (by simpa using hgne)
      obtain ⟨hi, lo, hmul, hhi, hlo, hml⟩ := mul64_c q (fb k) hq (hfb k hkb)
      obtain ⟨s, ov, hrun, hs, hov, hsum⟩ := add64_run lo c' 0 (by omega) hlo hc1
      obtain ⟨d, un, hrun2, hd, hun, hsub⟩ := sub64_run (fk (off + k)) s 0 (by omega) (HF.out _ (by omega)) hs
      obtain ⟨hcn, har⟩ := take_arith hq (hfb k hkb) hc1 hlo hml hs hsum (HF.out (off + k) (by omega)) hd hsub hov hun
      have hr1 : ∀ w, (callFunc 60 #[.int .u64 lo, .int .u64 c', .int .u64 0]).run Try.prog w = .ok (.value (.tuple #[.int .u64 s, .int .u64 ov])) w := hrun
      have hr2 : ∀ w, (callFunc 78 #[.int .u64 (fk (off + k)), .int .u64 s, .int .u64 0]).run Try.prog w = .ok (.value (.tuple #[.int .u64 d, .int .u64 un])) w := hrun2
      have HMUL := Lib.hid hmul
      obtain ⟨R1, R2⟩ := take_step HO.out HV.out (q * fb k) har
      have H1 := Lib.hid R1
      have H2 : Hid (V Bw (upd fk (off + k) d) off (k + 1) + q * V Bw fb 0 (k + 1) = V Bw f off (k + 1) + ((hi + ov + un : Nat)) * Bw ^ (k + 1)) := by
        rw [V_succ (f := fb), Nat.mul_add, ← Nat.mul_assoc, Nat.zero_add]; exact R2
      have HS := Lib.hid (lt_upd (k := off + k) HF.out hd)
      have hcn2 : hi + ov + un < 18446744073709551616 := hcn
      clear R1 R2 hsum hsub hcb hf hfb hrun hrun2 hmul hml har hB
      go_wp2_with (go_at_call 59; refine (HMUL.out _).mono ?_; rintro e w' ⟨rfl, rfl⟩)
      go_roundw
      case rel => exact ⟨k + 1, hi + ov + un, _, by omega, by go_num, by go_num, hcn, HB.out.set d, HS, H1, H2, gb_set HG.out _⟩
      case measure => simp [intOf]; omega
    · obtain rfl : k = lb := by omega
      obtain ⟨wo, rfl⟩ : ∃ wo : World, wo = wr := ⟨_, rfl⟩
      clear hb hfb hne
      go_wp2
      go_loopw [7, 14] (fun c i wr => ∃ (k' c' : Nat) (fk : Nat → Nat), k ≤ k' ∧ k' ≤ la ∧ i = .int .i64 k' ∧ c = .int .u64 c' ∧ c' < Bw ∧ Hid (Blk .u64 wr g M fk) ∧ Hid (∀ j, j < M → fk j < Bw) ∧ Hid (∀ j, (j < off ∨ off + k' ≤ j) → fk j = f j) ∧
          Hid (V Bw fk off k' + q * V Bw fb 0 k = V Bw f off k' + c' * Bw ^ k') ∧ Hid (w.grownBy wr (some g)))
        (fun _ i _ => la - (intOf i).toNat)
      case atStart => exact ⟨k, c', fk, by omega, by omega, rfl, rfl, hc1, HB, HF, HO, HV, HG⟩
      case round =>
        clear HB HF HO HV HG hc1
        obtain ⟨k', c', fk, hk1, hk2, rfl, rfl, hc1, HB, HF, HO, HV, HG⟩ := hrel
        by_cases hlt : k' < la
        · by_cases h0 : c' = 0
          · subst h0
            have hfin : TakePost g off la M f fb k q w (.returned (.int .u64 0)) wr := by
              obtain ⟨R, r1, r2⟩ := V_rest (la := la) HO.out (by omega)
              have hv := HV.out
              refine ⟨0, fk, rfl, Bw_pos, HB.out, HF.out, fun j hj => HO.out j (by omega), ?_, HG.out⟩
              rw [r1, r2]
              omega
            have HFIN := Lib.hid hfin
            clear hfin hf hB
            go_wp2
            go_ret
            exact HFIN.out
          · have hcell := HB.out.cell (j := off + k') (by omega)
            have hfree := HB.out.free (off + k')
            obtain ⟨d, un, hrun2, hd, hun, hsub⟩ := sub64_run (fk (off + k')) c' 0 (by omega) (HF.out _ (by omega)) hc1
            have hr2 : ∀ w, (callFunc 78 #[.int .u64 (fk (off + k')), .int .u64 c', .int .u64 0]).run Try.prog w = .ok (.value (.tuple #[.int .u64 d, .int .u64 un])) w := hrun2
            obtain ⟨R1, H2'⟩ := take_step HO.out HV.out 0 (d := d) (c2 := un) (by omega)
            have R2 : V Bw (upd fk (off + k') d) off (k' + 1) + q * V Bw fb 0 k = V Bw f off (k' + 1) + un * Bw ^ (k' + 1) := by
              rw [Nat.zero_mul, Nat.add_zero] at H2'; exact H2'
            have H1 := Lib.hid R1
            have H2 := Lib.hid R2
            have HS := Lib.hid (lt_upd (k := off + k') HF.out hd)
            have hun2 : un < Bw := by unfold Bw; omega
            have hpos : ((c' : Int) != 0) = true := by rw [bne_iff_ne]; omega
            clear R1 R2 H2' hsub hrun2 hf hB
            go_wp2
            go_roundw
            case rel => exact ⟨k' + 1, un, _, by omega, by omega, by go_num, rfl, hun2, HB.out.set d, HS, H1, H2, gb_set HG.out _⟩
            case measure => simp [intOf]; omega
        · obtain rfl : k' = la := by omega
          have hfin : TakePost g off k' M f fb k q w (.returned (.int .u64 c')) wr := 
            ⟨c', fk, rfl, hc1, HB.out, HF.out, HO.out, HV.out, HG.out⟩
          have HFIN := Lib.hid hfin
          clear hfin hf hB
          go_wp2
          go_ret
          exact HFIN.out

def TimesPost (g off n M : Nat) (f fb : Nat → Nat) (q : Nat) (w : World) (e : Ending) (w' : World) : Prop :=
  ∃ (c : Nat) (f' : Nat → Nat), e = .returned (.int .u64 c) ∧ c < Bw ∧ Blk .u64 w' g M f' ∧ (∀ j, j < M → f' j < Bw) ∧ (∀ j, (j < off ∨ off + n ≤ j) → f' j = f j) ∧
    V Bw f' off n + c * Bw ^ n = V Bw f off n + q * V Bw fb 0 n ∧ w.grownBy w' (some g)

set_option maxHeartbeats 1000000 in
theorem addTimes_c (g off n cap M : Nat) (f : Nat → Nat) (pb : Option Addr) (capb : Nat) (fb : Nat → Nat) (q : Nat) (w : World) (hB : Blk .u64 w g M f) (hl : off + n ≤ M) (hM : M ≤ 1099511627776) (hf : ∀ j, j < M → f j < Bw)
    (hb : At .u64 w pb n fb) (hfb : ∀ j, j < n → fb j < Bw) (hne : 0 < n → ∀ a, pb = some a → some a.block ≠ some g) (hq : q < Bw) :
    Calls Try.prog 66 #[.slice (some ⟨g, off, none⟩) n cap, .slice pb n capb, .int .u64 q] w (TimesPost g off n M f fb q w) := by
  go_enter Try.func66, Try.ntmps66
  go_wp2
  go_loopw [7, 15] (fun c i wr => ∃ (k c' : Nat) (fk : Nat → Nat), k ≤ n ∧ i = .int .i64 k ∧ c = .int .u64 c' ∧ c' < Bw ∧ Hid (Blk .u64 wr g M fk) ∧ Hid (∀ j, j < M → fk j < Bw) ∧ Hid (∀ j, (j < off ∨ off + k ≤ j) → fk j = f j) ∧
      Hid (V Bw fk off k + c' * Bw ^ k = V Bw f off k + q * V Bw fb 0 k) ∧ Hid (w.grownBy wr (some g)))
    (fun _ i _ => n - (intOf i).toNat)
  case atStart => exact ⟨0, 0, f, by omega, rfl, rfl, Bw_pos, hB, hf, fun _ _ => rfl, by simp [Hid, V], gb_refl _ _⟩
  case round =>
    obtain ⟨k, c', fk, hk, rfl, rfl, hc1, HB, HF, HO, HV, HG⟩ := hrel
    by_cases hkb : k < n
    · rcases hb with hb | ⟨gb, ob, rfl, hgb, hcb⟩
      · omega
      have hcell := HB.out.cell (j := off + k) (by omega)
      have hfree := HB.out.free (off + k)
      have hgne : gb ≠ g := fun e => hne (by omega) _ rfl (by rw [e])
      have hcb1 : wr.cell? ⟨gb, ob + k, none⟩ = some (.int .u64 (fb k)) := HG.out.cell (hcb k hkb) (by simpa using hgne)
      obtain ⟨hi, lo, hmul, hhi, hlo, hml⟩ := mul64_c q (fb k) hq (hfb k hkb)
      obtain ⟨s, ov, hrun, hs, hov, hsum⟩ := add64_run lo c' 0 (by omega) hlo hc1
      obtain ⟨d, o2, hrun2, hd, ho2, hsum2⟩ := add64_run (fk (off + k)) s 0 (by omega) (HF.out _ (by omega)) hs
      obtain ⟨hcn, hcm, har⟩ := addt_arith hq (hfb k hkb) hc1 hlo hml hs hsum (HF.out (off + k) (by omega)) hd hsum2 hov ho2
      have hr1 : ∀ w, (callFunc 60 #[.int .u64 lo, .int .u64 c', .int .u64 0]).run Try.prog w = .ok (.value (.tuple #[.int .u64 s, .int .u64 ov])) w := hrun
      have hr2 : ∀ w, (callFunc 60 #[.int .u64 (fk (off + k)), .int .u64 s, .int .u64 0]).run Try.prog w = .ok (.value (.tuple #[.int .u64 d, .int .u64 o2])) w := hrun2
      have HMUL := Lib.hid hmul
      obtain ⟨R1, R2⟩ := addt_step HO.out HV.out har
      have H1 := Lib.hid R1
      have H2 : Hid (V Bw (upd fk (off + k) d) off (k + 1) + (hi + ov + o2) * Bw ^ (k + 1) = V Bw f off (k + 1) + q * V Bw fb 0 (k + 1)) := by
        rw [V_succ (f := fb), Nat.mul_add, ← Nat.mul_assoc, Nat.zero_add]; exact R2
      have HS := Lib.hid (lt_upd (k := off + k) HF.out hd)
      have hcn2 : hi + ov + o2 < 18446744073709551616 := hcn
      clear R1 R2 hsum hsum2 hcb hf hfb hrun hrun2 hmul hml har hB
      go_wp2_with (go_at_call 59; refine (HMUL.out _).mono ?_; rintro e w' ⟨rfl, rfl⟩)
      go_roundw
      case rel => exact ⟨k + 1, hi + ov + o2, _, by omega, by go_num, by go_num, hcn, HB.out.set d, HS, H1, H2, gb_set HG.out _⟩
      case measure => simp [intOf]; omega
    · obtain rfl : k = n := by omega
      have hfin : TimesPost g off k M f fb q w (.returned (.int .u64 c')) wr := ⟨c', fk, rfl, hc1, HB.out, HF.out, HO.out, HV.out, HG.out⟩
      have HFIN := Lib.hid hfin
      clear hfin hf hfb hB
      go_wp2
      go_ret
      exact HFIN.out
end Go.Proofs.Ytaheeccpihbcaaa
