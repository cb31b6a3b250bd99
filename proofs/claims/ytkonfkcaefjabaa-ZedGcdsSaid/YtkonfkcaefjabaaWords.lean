/- The words' loops that write in place: what each leaves. -/
import Derived.Test.YtkonfkcaefjabaaMem
import Derived.Test.YtkonfkcaefjabaaDivMath
import Derived.BigQuiet
import Derived.Deep.QuietTactic
import Derived.Test.YtkonfkcaefjabaaDiv64
import Derived.RegionTactic
import Derived.StillTailTactics
namespace Go.Proofs.Ytkonfkcaefjabaa
open Go.RowKit Mx

theorem add_step {f fb fk : Nat → Nat} {off k lb c' c2 s x : Nat} (HO : ∀ j, (j < off ∨ off + k ≤ j) → fk j = f j) (HV : V Bw fk off k + c' * Bw ^ k = V Bw f off k + V Bw fb 0 (min k lb))
    (hx : (k < lb → x = fb k) ∧ (lb ≤ k → x = 0)) (hs : s + c2 * Bw = fk (off + k) + x + c') :
    (∀ j, (j < off ∨ off + (k + 1) ≤ j) → upd fk (off + k) s j = f j) ∧ V Bw (upd fk (off + k) s) off (k + 1) + c2 * Bw ^ (k + 1) = V Bw f off (k + 1) + V Bw fb 0 (min (k + 1) lb) := by
  refine ⟨fun j hj => ?_, ?_⟩
  · rw [upd_ne (by omega)]; exact HO j (by omega)
  · have e : V Bw fb 0 (min (k + 1) lb) = V Bw fb 0 (min k lb) + x * Bw ^ k := by
      by_cases hk : k < lb
      · rw [Nat.min_eq_left (by omega), Nat.min_eq_left (by omega), V_succ, hx.1 hk, Nat.zero_add]
      · rw [Nat.min_eq_right (by omega), Nat.min_eq_right (by omega), hx.2 (by omega)]; simp
    rw [e, V_succ, V_succ, upd_at, V_upd_out (by omega), Nat.pow_succ]
    have ho := HO (off + k) (by omega)
    rw [← ho]
    have := step_add (P := Bw ^ k) HV (d := s) (c' := c2) (x := fk (off + k)) (y := x) (b := Bw) (by omega)
    rw [this, Nat.add_mul]; omega

theorem V_rest {f fk : Nat → Nat} {off k la : Nat} (HO : ∀ j, (j < off ∨ off + k ≤ j) → fk j = f j) (hk : k ≤ la) : ∃ R, V Bw fk off la = V Bw fk off k + R ∧ V Bw f off la = V Bw f off k + R := by
  obtain ⟨m, rfl⟩ : ∃ m, la = k + m := ⟨la - k, by omega⟩
  refine ⟨Bw ^ k * V Bw f (off + k) m, ?_, V_split k⟩
  rw [V_split k, V_congr (f := fk) (g := f) (o := off + k) (p := off + k) (fun j _ => HO _ (by omega))]

theorem lt_upd {f : Nat → Nat} {M k s B : Nat} (h : ∀ j, j < M → f j < B) (hs : s < B) : ∀ j, j < M → upd f k s j < B := by
  intro j hj; unfold upd; split <;> first | exact hs | exact h j hj

def AddPost (g off la M : Nat) (f fb : Nat → Nat) (lb : Nat) (w : World) (e : Ending) (w' : World) : Prop :=
  ∃ (c : Nat) (f' : Nat → Nat), e = .returned (.int .u64 c) ∧ c ≤ 1 ∧ Blk .u64 w' g M f' ∧ (∀ j, j < M → f' j < Bw) ∧ (∀ j, (j < off ∨ off + la ≤ j) → f' j = f j) ∧
    V Bw f' off la + c * Bw ^ la = V Bw f off la + V Bw fb 0 lb ∧ w.grownBy w' (some g)

set_option maxHeartbeats 400000 in
theorem addInto_c (g off la cap M : Nat) (f : Nat → Nat) (pb : Option Addr) (lb capb : Nat) (fb : Nat → Nat) (w : World) (hB : Blk .u64 w g M f) (hl : off + la ≤ M) (hM : M ≤ 1099511627776) (hf : ∀ j, j < M → f j < Bw)
    (hb : At .u64 w pb lb fb) (hfb : ∀ j, j < lb → fb j < Bw) (hne : 0 < lb → ∀ a, pb = some a → some a.block ≠ some g) (hlb : lb ≤ la) :
    Calls Try.prog 68 #[.slice (some ⟨g, off, none⟩) la cap, .slice pb lb capb] w (AddPost g off la M f fb lb w) := by
  go_enter Try.func68, Try.ntmps68
  go_wp2
  go_loopw [5, 10] (fun c i wr => ∃ (k c' : Nat) (fk : Nat → Nat), k ≤ la ∧ i = .int .i64 k ∧ c = .int .u64 c' ∧ c' ≤ 1 ∧ Hid (Blk .u64 wr g M fk) ∧ Hid (∀ j, j < M → fk j < Bw) ∧ Hid (∀ j, (j < off ∨ off + k ≤ j) → fk j = f j) ∧
      Hid (V Bw fk off k + c' * Bw ^ k = V Bw f off k + V Bw fb 0 (min k lb)) ∧ Hid (w.grownBy wr (some g)))
    (fun _ i _ => la - (intOf i).toNat)
  case atStart => exact ⟨0, 0, f, by omega, rfl, rfl, by omega, hB, hf, fun _ _ => rfl, by simp [Hid, V], gb_refl _ _⟩
  case round =>
    obtain ⟨k, c', fk, hk, rfl, rfl, hc1, HB, HF, HO, HV, HG⟩ := hrel
    by_cases hlt : k < la
    · have hcell := HB.out.cell (j := off + k) (by omega)
      have hfree := HB.out.free (off + k)
      by_cases hkb : k < lb
      · rcases hb with hb | ⟨gb, ob, rfl, hgb, hcb⟩
        · omega
        have hgne : gb ≠ g := fun e => hne (by omega) _ rfl (by rw [e])
        have hcb1 : wr.cell? ⟨gb, ob + k, none⟩ = some (.int .u64 (fb k)) := HG.out.cell (hcb k hkb) (by simpa using hgne)
        obtain ⟨s, c2, hrun, hs, hc2, hsum⟩ := add64_run (fk (off + k)) (fb k) c' hc1 (HF.out _ (by omega)) (hfb k hkb)
        obtain ⟨R1, R2⟩ := add_step HO.out HV.out (lb := lb) (x := fb k) ⟨fun _ => rfl, fun h => by omega⟩ hsum
        have H1 := Lib.hid R1
        have H2 := Lib.hid R2
        have HS := Lib.hid (lt_upd (k := off + k) HF.out hs)
        clear R1 R2 hsum hcb hf hfb
        go_wp2
        go_roundw
        case rel => exact ⟨k + 1, c2, _, by omega, by go_num, rfl, hc2, HB.out.set s, HS, H1, H2, gb_set HG.out _⟩
        case measure => simp [intOf]; omega
      · by_cases h0 : c' = 0
        · subst h0
          have hfin : AddPost g off la M f fb lb w (.returned (.int .u64 0)) wr := by
            obtain ⟨R, r1, r2⟩ := V_rest (la := la) HO.out (by omega)
            have hv := HV.out
            refine ⟨0, fk, rfl, by omega, HB.out, HF.out, fun j hj => HO.out j (by omega), ?_, HG.out⟩
            rw [Nat.min_eq_right (by omega)] at hv
            omega
          have HFIN := Lib.hid hfin
          clear hfin hf hfb
          have hge : (lb : Int) ≤ k := by omega
          go_wp2
          go_ret
          exact HFIN.out
        · have h1 : c' = 1 := by omega
          subst h1
          obtain ⟨s, c2, hrun, hs, hc2, hsum⟩ := add64_run (fk (off + k)) 0 1 hc1 (HF.out _ (by omega)) Bw_pos
          have hr0 : ∀ w, (callFunc 60 #[.int .u64 (fk (off + k)), .int .u64 0, .int .u64 1]).run Try.prog w = .ok (.value (.tuple #[.int .u64 s, .int .u64 c2])) w := hrun
          clear hrun
          obtain ⟨R1, R2⟩ := add_step HO.out HV.out (lb := lb) (x := 0) ⟨fun h => by omega, fun _ => rfl⟩ hsum
          have H1 := Lib.hid R1
          have H2 := Lib.hid R2
          have HS := Lib.hid (lt_upd (k := off + k) HF.out hs)
          clear R1 R2 hsum hf hfb
          go_wp2
          go_roundw
          case rel => exact ⟨k + 1, c2, _, by omega, by go_num, rfl, hc2, HB.out.set s, HS, H1, H2, gb_set HG.out _⟩
          case measure => simp [intOf]; omega
    · obtain rfl : k = la := by omega
      have hfin : AddPost g off k M f fb lb w (.returned (.int .u64 c')) wr := by
        have hv := HV.out
        rw [Nat.min_eq_right hlb] at hv
        exact ⟨c', fk, rfl, hc1, HB.out, HF.out, HO.out, hv, HG.out⟩
      have HFIN := Lib.hid hfin
      clear hfin hf hfb
      go_wp2
      go_ret
      exact HFIN.out

theorem mul_top {q x : Nat} (hq : q < Bw) (hx : x < Bw) : q * x ≤ 340282366920938463426481119284349108225 := by
  have : q * x ≤ 18446744073709551615 * 18446744073709551615 := Nat.mul_le_mul (by unfold Bw at hq; omega) (by unfold Bw at hx; omega)
  omega

theorem take_arith {q x c a hi lo s ov d un : Nat} (hq : q < Bw) (hx : x < Bw) (hc : c < Bw) (hlo : lo < Bw) (hm : hi * Bw + lo = q * x) (hs : s < Bw) (h1 : s + ov * Bw = lo + c + 0) (ha : a < Bw) (hd : d < Bw) (h2 : d + s + 0 = a + un * Bw) (hov : ov ≤ 1) (hun : un ≤ 1) :
    hi + ov + un < Bw ∧ d + q * x + c = a + (hi + ov + un) * Bw := by
  have := mul_top hq hx
  generalize q * x = P at *
  unfold Bw at *
  omega

theorem addt_arith {q x c a hi lo s ov d o2 : Nat} (hq : q < Bw) (hx : x < Bw) (hc : c < Bw) (hlo : lo < Bw) (hm : hi * Bw + lo = q * x) (hs : s < Bw) (h1 : s + ov * Bw = lo + c + 0) (ha : a < Bw) (hd : d < Bw) (h2 : d + o2 * Bw = a + s + 0) (hov : ov ≤ 1) (hun : o2 ≤ 1) :
    hi + ov + o2 < Bw ∧ hi + ov < Bw ∧ d + (hi + ov + o2) * Bw = a + (q * x + c) := by
  have := mul_top hq hx
  generalize q * x = P at *
  unfold Bw at *
  omega

theorem take_step {f fk : Nat → Nat} {off k c c2 d Z : Nat} (HO : ∀ j, (j < off ∨ off + k ≤ j) → fk j = f j) (HV : V Bw fk off k + Z = V Bw f off k + c * Bw ^ k)
    (y : Nat) (hd : d + y + c = fk (off + k) + c2 * Bw) :
    (∀ j, (j < off ∨ off + (k + 1) ≤ j) → upd fk (off + k) d j = f j) ∧ V Bw (upd fk (off + k) d) off (k + 1) + (Z + y * Bw ^ k) = V Bw f off (k + 1) + c2 * Bw ^ (k + 1) := by
  refine ⟨fun j hj => ?_, ?_⟩
  · rw [upd_ne (by omega)]; exact HO j (by omega)
  · rw [V_succ, V_succ, upd_at, V_upd_out (by omega), Nat.pow_succ, ← HO (off + k) (by omega)]
    exact step_sub HV y hd

theorem addt_step {f fk : Nat → Nat} {off k c c2 d Z y : Nat} (HO : ∀ j, (j < off ∨ off + k ≤ j) → fk j = f j) (HV : V Bw fk off k + c * Bw ^ k = V Bw f off k + Z)
    (hd : d + c2 * Bw = fk (off + k) + (y + c)) :
    (∀ j, (j < off ∨ off + (k + 1) ≤ j) → upd fk (off + k) d j = f j) ∧ V Bw (upd fk (off + k) d) off (k + 1) + c2 * Bw ^ (k + 1) = V Bw f off (k + 1) + (Z + y * Bw ^ k) := by
  refine ⟨fun j hj => ?_, ?_⟩
  · rw [upd_ne (by omega)]; exact HO j (by omega)
  · have ho := HO (off + k) (by omega)
    rw [V_succ, V_succ, upd_at, V_upd_out (by omega), Nat.pow_succ, ← ho]
    have := step_add (P := Bw ^ k) HV (d := d) (c' := c2) (x := fk (off + k)) (y := y) (b := Bw) (by omega)
    rw [this, Nat.add_mul]; omega

def TakePost (g off la M : Nat) (f fb : Nat → Nat) (lb q : Nat) (w : World) (e : Ending) (w' : World) : Prop :=
  ∃ (c : Nat) (f' : Nat → Nat), e = .returned (.int .u64 c) ∧ c < Bw ∧ Blk .u64 w' g M f' ∧ (∀ j, j < M → f' j < Bw) ∧ (∀ j, (j < off ∨ off + la ≤ j) → f' j = f j) ∧
    V Bw f' off la + q * V Bw fb 0 lb = V Bw f off la + c * Bw ^ la ∧ w.grownBy w' (some g)

set_option maxHeartbeats 1000000 in
theorem takeTimes_c (g off la cap M : Nat) (f : Nat → Nat) (pb : Option Addr) (lb capb : Nat) (fb : Nat → Nat) (q : Nat) (w : World) (hB : Blk .u64 w g M f) (hl : off + la ≤ M) (hM : M ≤ 1099511627776) (hf : ∀ j, j < M → f j < Bw)
    (hb : At .u64 w pb lb fb) (hfb : ∀ j, j < lb → fb j < Bw) (hne : 0 < lb → ∀ a, pb = some a → some a.block ≠ some g) (hlb : lb ≤ la) (hq : q < Bw) :
    Calls Try.prog 69 #[.slice (some ⟨g, off, none⟩) la cap, .slice pb lb capb, .int .u64 q] w (TakePost g off la M f fb lb q w) := by
  go_enter Try.func69, Try.ntmps69
  go_wp2
  go_loopw [7, 17] (fun c i wr => ∃ (k c' : Nat) (fk : Nat → Nat), k ≤ lb ∧ i = .int .i64 k ∧ c = .int .u64 c' ∧ c' < Bw ∧ Hid (Blk .u64 wr g M fk) ∧ Hid (∀ j, j < M → fk j < Bw) ∧ Hid (∀ j, (j < off ∨ off + k ≤ j) → fk j = f j) ∧
      Hid (V Bw fk off k + q * V Bw fb 0 k = V Bw f off k + c' * Bw ^ k) ∧ Hid (w.grownBy wr (some g)))
    (fun _ i _ => lb - (intOf i).toNat)
  case atStart => exact ⟨0, 0, f, by omega, rfl, rfl, Bw_pos, hB, hf, fun _ _ => rfl, by simp [Hid, V], gb_refl _ _⟩
  case round =>
    obtain ⟨k, c', fk, hk, rfl, rfl, hc1, HB, HF, HO, HV, HG⟩ := hrel
    by_cases hkb : k < lb
    · rcases hb with hb | ⟨gb, ob, rfl, hgb, hcb⟩
      · omega
      have hcell := HB.out.cell (j := off + k) (by omega)
      have hfree := HB.out.free (off + k)
      have hgne : gb ≠ g := fun e => hne (by omega) _ rfl (by rw [e])
      have hcb1 : wr.cell? ⟨gb, ob + k, none⟩ = some (.int .u64 (fb k)) := HG.out.cell (hcb k hkb) (by simpa using hgne)
      obtain ⟨hi, lo, hmul, hhi, hlo, hml⟩ := mul64_c q (fb k) hq (hfb k hkb)
      obtain ⟨s, ov, hrun, hs, hov, hsum⟩ := add64_run lo c' 0 (by omega) hlo hc1
      obtain ⟨d, un, hrun2, hd, hun, hsub⟩ := sub64_run (fk (off + k)) s 0 (by omega) (HF.out _ (by omega)) hs
      obtain ⟨hcn, har⟩ := take_arith hq (hfb k hkb) hc1 hlo hml hs hsum (HF.out (off + k) (by omega)) hd hsub hov hun
      have hr1 : ∀ w, (callFunc 60 #[.int .u64 lo, .int .u64 c', .int .u64 0]).run Try.prog w = .ok (.value (.tuple #[.int .u64 s, .int .u64 ov])) w := hrun
      have hr2 : ∀ w, (callFunc 78 #[.int .u64 (fk (off + k)), .int .u64 s, .int .u64 0]).run Try.prog w = .ok (.value (.tuple #[.int .u64 d, .int .u64 un])) w := hrun2
      have HMUL := Lib.hid hmul
      obtain ⟨R1, R2⟩ := take_step HO.out HV.out (q * fb k) har
      have H1 := Lib.hid R1
      have H2 : Hid (V Bw (upd fk (off + k) d) off (k + 1) + q * V Bw fb 0 (k + 1) = V Bw f off (k + 1) + ((hi + ov + un : Nat)) * Bw ^ (k + 1)) := by
        rw [V_succ (f := fb), Nat.mul_add, ← Nat.mul_assoc, Nat.zero_add]; exact R2
      have HS := Lib.hid (lt_upd (k := off + k) HF.out hd)
      have hcn2 : hi + ov + un < 18446744073709551616 := hcn
      clear R1 R2 hsum hsub hcb hf hfb hrun hrun2 hmul hml har hB
      go_wp2_with (go_at_call 59; refine (HMUL.out _).mono ?_; rintro e w' ⟨rfl, rfl⟩)
      go_roundw
      case rel => exact ⟨k + 1, hi + ov + un, _, by omega, by go_num, by go_num, hcn, HB.out.set d, HS, H1, H2, gb_set HG.out _⟩
      case measure => simp [intOf]; omega
    · obtain rfl : k = lb := by omega
      obtain ⟨wo, rfl⟩ : ∃ wo : World, wo = wr := ⟨_, rfl⟩
      clear hb hfb hne
      go_wp2
      go_loopw [7, 14] (fun c i wr => ∃ (k' c' : Nat) (fk : Nat → Nat), k ≤ k' ∧ k' ≤ la ∧ i = .int .i64 k' ∧ c = .int .u64 c' ∧ c' < Bw ∧ Hid (Blk .u64 wr g M fk) ∧ Hid (∀ j, j < M → fk j < Bw) ∧ Hid (∀ j, (j < off ∨ off + k' ≤ j) → fk j = f j) ∧
          Hid (V Bw fk off k' + q * V Bw fb 0 k = V Bw f off k' + c' * Bw ^ k') ∧ Hid (w.grownBy wr (some g)))
        (fun _ i _ => la - (intOf i).toNat)
      case atStart => exact ⟨k, c', fk, by omega, by omega, rfl, rfl, hc1, HB, HF, HO, HV, HG⟩
      case round =>
        clear HB HF HO HV HG hc1
        obtain ⟨k', c', fk, hk1, hk2, rfl, rfl, hc1, HB, HF, HO, HV, HG⟩ := hrel
        by_cases hlt : k' < la
        · by_cases h0 : c' = 0
          · subst h0
            have hfin : TakePost g off la M f fb k q w (.returned (.int .u64 0)) wr := by
              obtain ⟨R, r1, r2⟩ := V_rest (la := la) HO.out (by omega)
              have hv := HV.out
              refine ⟨0, fk, rfl, Bw_pos, HB.out, HF.out, fun j hj => HO.out j (by omega), ?_, HG.out⟩
              rw [r1, r2]
              omega
            have HFIN := Lib.hid hfin
            clear hfin hf hB
            go_wp2
            go_ret
            exact HFIN.out
          · have hcell := HB.out.cell (j := off + k') (by omega)
            have hfree := HB.out.free (off + k')
            obtain ⟨d, un, hrun2, hd, hun, hsub⟩ := sub64_run (fk (off + k')) c' 0 (by omega) (HF.out _ (by omega)) hc1
            have hr2 : ∀ w, (callFunc 78 #[.int .u64 (fk (off + k')), .int .u64 c', .int .u64 0]).run Try.prog w = .ok (.value (.tuple #[.int .u64 d, .int .u64 un])) w := hrun2
            obtain ⟨R1, H2'⟩ := take_step HO.out HV.out 0 (d := d) (c2 := un) (by omega)
            have R2 : V Bw (upd fk (off + k') d) off (k' + 1) + q * V Bw fb 0 k = V Bw f off (k' + 1) + un * Bw ^ (k' + 1) := by
              rw [Nat.zero_mul, Nat.add_zero] at H2'; exact H2'
            have H1 := Lib.hid R1
            have H2 := Lib.hid R2
            have HS := Lib.hid (lt_upd (k := off + k') HF.out hd)
            have hun2 : un < Bw := by unfold Bw; omega
            have hpos : ((c' : Int) != 0) = true := by rw [bne_iff_ne]; omega
            clear R1 R2 H2' hsub hrun2 hf hB
            go_wp2
            go_roundw
            case rel => exact ⟨k' + 1, un, _, by omega, by omega, by go_num, rfl, hun2, HB.out.set d, HS, H1, H2, gb_set HG.out _⟩
            case measure => simp [intOf]; omega
        · obtain rfl : k' = la := by omega
          have hfin : TakePost g off k' M f fb k q w (.returned (.int .u64 c')) wr := 
            ⟨c', fk, rfl, hc1, HB.out, HF.out, HO.out, HV.out, HG.out⟩
          have HFIN := Lib.hid hfin
          clear hfin hf hB
          go_wp2
          go_ret
          exact HFIN.out

def TimesPost (g off n M : Nat) (f fb : Nat → Nat) (q : Nat) (w : World) (e : Ending) (w' : World) : Prop :=
  ∃ (c : Nat) (f' : Nat → Nat), e = .returned (.int .u64 c) ∧ c < Bw ∧ Blk .u64 w' g M f' ∧ (∀ j, j < M → f' j < Bw) ∧ (∀ j, (j < off ∨ off + n ≤ j) → f' j = f j) ∧
    V Bw f' off n + c * Bw ^ n = V Bw f off n + q * V Bw fb 0 n ∧ w.grownBy w' (some g)

set_option maxHeartbeats 1000000 in
theorem addTimes_c (g off n cap M : Nat) (f : Nat → Nat) (pb : Option Addr) (capb : Nat) (fb : Nat → Nat) (q : Nat) (w : World) (hB : Blk .u64 w g M f) (hl : off + n ≤ M) (hM : M ≤ 1099511627776) (hf : ∀ j, j < M → f j < Bw)
    (hb : At .u64 w pb n fb) (hfb : ∀ j, j < n → fb j < Bw) (hne : 0 < n → ∀ a, pb = some a → some a.block ≠ some g) (hq : q < Bw) :
    Calls Try.prog 66 #[.slice (some ⟨g, off, none⟩) n cap, .slice pb n capb, .int .u64 q] w (TimesPost g off n M f fb q w) := by
  go_enter Try.func66, Try.ntmps66
  go_wp2
  go_loopw [7, 15] (fun c i wr => ∃ (k c' : Nat) (fk : Nat → Nat), k ≤ n ∧ i = .int .i64 k ∧ c = .int .u64 c' ∧ c' < Bw ∧ Hid (Blk .u64 wr g M fk) ∧ Hid (∀ j, j < M → fk j < Bw) ∧ Hid (∀ j, (j < off ∨ off + k ≤ j) → fk j = f j) ∧
      Hid (V Bw fk off k + c' * Bw ^ k = V Bw f off k + q * V Bw fb 0 k) ∧ Hid (w.grownBy wr (some g)))
    (fun _ i _ => n - (intOf i).toNat)
  case atStart => exact ⟨0, 0, f, by omega, rfl, rfl, Bw_pos, hB, hf, fun _ _ => rfl, by simp [Hid, V], gb_refl _ _⟩
  case round =>
    obtain ⟨k, c', fk, hk, rfl, rfl, hc1, HB, HF, HO, HV, HG⟩ := hrel
    by_cases hkb : k < n
    · rcases hb with hb | ⟨gb, ob, rfl, hgb, hcb⟩
      · omega
      have hcell := HB.out.cell (j := off + k) (by omega)
      have hfree := HB.out.free (off + k)
      have hgne : gb ≠ g := fun e => hne (by omega) _ rfl (by rw [e])
      have hcb1 : wr.cell? ⟨gb, ob + k, none⟩ = some (.int .u64 (fb k)) := HG.out.cell (hcb k hkb) (by simpa using hgne)
      obtain ⟨hi, lo, hmul, hhi, hlo, hml⟩ := mul64_c q (fb k) hq (hfb k hkb)
      obtain ⟨s, ov, hrun, hs, hov, hsum⟩ := add64_run lo c' 0 (by omega) hlo hc1
      obtain ⟨d, o2, hrun2, hd, ho2, hsum2⟩ := add64_run (fk (off + k)) s 0 (by omega) (HF.out _ (by omega)) hs
      obtain ⟨hcn, hcm, har⟩ := addt_arith hq (hfb k hkb) hc1 hlo hml hs hsum (HF.out (off + k) (by omega)) hd hsum2 hov ho2
      have hr1 : ∀ w, (callFunc 60 #[.int .u64 lo, .int .u64 c', .int .u64 0]).run Try.prog w = .ok (.value (.tuple #[.int .u64 s, .int .u64 ov])) w := hrun
      have hr2 : ∀ w, (callFunc 60 #[.int .u64 (fk (off + k)), .int .u64 s, .int .u64 0]).run Try.prog w = .ok (.value (.tuple #[.int .u64 d, .int .u64 o2])) w := hrun2
      have HMUL := Lib.hid hmul
      obtain ⟨R1, R2⟩ := addt_step HO.out HV.out har
      have H1 := Lib.hid R1
      have H2 : Hid (V Bw (upd fk (off + k) d) off (k + 1) + (hi + ov + o2) * Bw ^ (k + 1) = V Bw f off (k + 1) + q * V Bw fb 0 (k + 1)) := by
        rw [V_succ (f := fb), Nat.mul_add, ← Nat.mul_assoc, Nat.zero_add]; exact R2
      have HS := Lib.hid (lt_upd (k := off + k) HF.out hd)
      have hcn2 : hi + ov + o2 < 18446744073709551616 := hcn
      clear R1 R2 hsum hsum2 hcb hf hfb hrun hrun2 hmul hml har hB
      go_wp2_with (go_at_call 59; refine (HMUL.out _).mono ?_; rintro e w' ⟨rfl, rfl⟩)
      go_roundw
      case rel => exact ⟨k + 1, hi + ov + o2, _, by omega, by go_num, by go_num, hcn, HB.out.set d, HS, H1, H2, gb_set HG.out _⟩
      case measure => simp [intOf]; omega
    · obtain rfl : k = n := by omega
      have hfin : TimesPost g off k M f fb q w (.returned (.int .u64 c')) wr := ⟨c', fk, rfl, hc1, HB.out, HF.out, HO.out, HV.out, HG.out⟩
      have HFIN := Lib.hid hfin
      clear hfin hf hfb hB
      go_wp2
      go_ret
      exact HFIN.out

def TrimPost (p : Option Addr) (n cap : Nat) (f : Nat → Nat) (w : World) (e : Ending) (w' : World) : Prop :=
  ∃ m p' cap', e = .returned (.slice p' m cap') ∧ m ≤ n ∧ m ≤ cap' ∧ cap' ≤ cap ∧ (m = 0 ∨ f (m - 1) ≠ 0) ∧ (∀ j, m ≤ j → j < n → f j = 0) ∧ (m = 0 → p' = none) ∧ (0 < m → p' = p) ∧ w = w'

set_option maxHeartbeats 400000 in
theorem trim_c (p : Option Addr) (n cap : Nat) (f : Nat → Nat) (w : World) (hn : n ≤ cap) (hc : cap ≤ maxLen) (h : At .u64 w p n f) :
    Calls Try.prog 61 #[.slice p n cap] w (TrimPost p n cap f w) := by
  unfold maxLen at hc
  go_enter Try.func61, Try.ntmps61
  go_wp2
  go_loop [3] (fun i => ∃ m : Nat, m ≤ n ∧ i = .int .i64 m ∧ Hid (∀ j, m ≤ j → j < n → f j = 0)) (fun i => (intOf i).toNat)
  case atStart => exact ⟨n, Nat.le_refl _, rfl, fun j h1 h2 => by omega⟩
  case round =>
    obtain ⟨m, hm, rfl, HZ⟩ := hrel
    by_cases h0 : 0 < m
    · rcases h with h | ⟨g, off, rfl, hg, hcell⟩
      · omega
      have hk := hcell (m - 1) (by omega)
      clear hcell
      have hi : (0:Int) < (m : Int) := by omega
      by_cases hv : f (m - 1) = 0
      · rw [hv] at hk
        have HV := Lib.hid hv
        clear hv
        go_wp2
        go_round
        case rel => exact ⟨m - 1, by omega, val_of (by omega), fun j h1 h2 => by
          by_cases e : j = m - 1
          · subst e; exact HV.out
          · exact HZ.out j (by omega) h2⟩
        case measure => simp [intOf]; omega
      · have hfin : TrimPost (some ⟨g, off, none⟩) n cap f w (.returned (.slice (some ⟨g, off, none⟩) m cap)) w := ⟨m, _, cap, rfl, hm, by omega, by omega, .inr hv, HZ.out, fun e => by omega, fun _ => rfl, rfl⟩
        have HFIN := Lib.hid hfin
        have hv1 : ((f (m - 1) : Int) == 0) = false := beq_eq_false_iff_ne.2 (by omega)
        have hv2 : ((m : Int) == 0) = false := beq_eq_false_iff_ne.2 (by omega)
        clear hfin
        go_wp2
        go_ret
        exact HFIN.out
    · obtain rfl : m = 0 := by omega
      have hfin : TrimPost p n cap f w (.returned (.slice none 0 0)) w := ⟨0, none, 0, rfl, by omega, by omega, by omega, .inl rfl, HZ.out, fun _ => rfl, fun e => by omega, rfl⟩
      have HFIN := Lib.hid hfin
      clear hfin
      go_wp2
      go_ret
      exact HFIN.out

/-- -1, 0, 1. -/
def cmpN (a b : Nat) : Int := if a < b then -1 else if a = b then 0 else 1

theorem cmp64_c (x y : Nat) (w : World) : Calls Try.prog 64 #[.int .u64 x, .int .u64 y] w fun e w' => e = .returned (.int .i64 (cmpN x y)) ∧ w = w' := by
  by_cases h1 : x < y
  · have e : cmpN x y = -1 := by simp [cmpN, h1]
    rw [e]
    have h1' : (x : Int) < y := by omega
    have h2 : ((x : Int) != x) = false := by simp
    go_enter Try.func64, Try.ntmps64
    go_wp2
    go_ret
    exact ⟨rfl, rfl⟩
  · by_cases h3 : x = y
    · subst h3
      have e : cmpN x x = 0 := by simp [cmpN]
      rw [e]
      go_enter Try.func64, Try.ntmps64
      go_wp2
      go_ret
      exact ⟨rfl, rfl⟩
    · have e : cmpN x y = 1 := by simp [cmpN, h1, h3]
      rw [e]
      have h1' : (y : Int) < x := by omega
      go_enter Try.func64, Try.ntmps64
      go_wp2
      go_ret
      exact ⟨rfl, rfl⟩

def CmpPost (A B : Nat) (w : World) (e : Ending) (w' : World) : Prop := e = .returned (.int .i64 (cmpN A B)) ∧ ∃ m, w' = w.drewN m

theorem cmpN_lt {a b : Nat} (h : a < b) : cmpN a b = -1 := by simp [cmpN, h]
theorem cmpN_gt {a b : Nat} (h : b < a) : cmpN a b = 1 := by simp [cmpN]; omega
theorem cmpN_eq {a b : Nat} (h : a = b) : cmpN a b = 0 := by simp [cmpN, h]

theorem cmp_top {f g : Nat → Nat} {n k : Nat} (hf : ∀ j, j < n → f j < Bw) (hg : ∀ j, j < n → g j < Bw) (hk : k < n) (he : ∀ j, k + 1 ≤ j → j < n → f j = g j) (hne : f k ≠ g k) : cmpN (V Bw f 0 n) (V Bw g 0 n) = cmpN (f k) (g k) := by
  rcases Nat.lt_or_gt_of_ne hne with h | h
  · have := V_below (b := Bw) (f := f) (g := g) (o := 0) (p := 0) (n := n) (fun j hj => by simpa using hf j hj) hk (by simpa using h) (fun j h1 h2 => by simpa using he j h1 h2)
    rw [cmpN_lt this, cmpN_lt h]
  · have := V_below (b := Bw) (f := g) (g := f) (o := 0) (p := 0) (n := n) (fun j hj => by simpa using hg j hj) hk (by simpa using h) (fun j h1 h2 => by simpa using (he j h1 h2).symm)
    rw [cmpN_gt this, cmpN_gt h]

set_option maxHeartbeats 400000 in
theorem compare_c (p1 p2 : Option Addr) (n1 n2 cap1 cap2 : Nat) (f g : Nat → Nat) (w : World) (hn1 : n1 ≤ 1099511627776) (hn2 : n2 ≤ 1099511627776) (h1 : At .u64 w p1 n1 f) (h2 : At .u64 w p2 n2 g)
    (hf : ∀ j, j < n1 → f j < Bw) (hg : ∀ j, j < n2 → g j < Bw) (t1 : n1 = 0 ∨ f (n1 - 1) ≠ 0) (t2 : n2 = 0 ∨ g (n2 - 1) ≠ 0) :
    Calls Try.prog 45 #[.slice p1 n1 cap1, .slice p2 n2 cap2] w (CmpPost (V Bw f 0 n1) (V Bw g 0 n2) w) := by
  by_cases hne : n1 = n2
  · subst hne
    have hq : ((n1 : Int) != n1) = false := by simp
    go_enter Try.func45, Try.ntmps45
    go_wp2
    go_loopw [5] (fun i wr => ∃ k : Nat, k ≤ n1 ∧ i = .int .i64 ((k : Int) - 1) ∧ Hid (∀ j, k ≤ j → j < n1 → f j = g j) ∧ ∃ m, wr = w.drewN m) (fun i _ => (intOf i + 1).toNat)
    case atStart => exact ⟨n1, by omega, rfl, fun j h1 h2 => by omega, 0, rfl⟩
    case round =>
      obtain ⟨k, hk, rfl, HE, m, rfl⟩ := hrel
      by_cases h0 : 0 < k
      · rcases h1 with h | ⟨g1, o1, rfl, hg1, hc1⟩
        · omega
        rcases h2 with h | ⟨g2, o2, rfl, hg2, hc2⟩
        · omega
        have c1 := hc1 (k - 1) (by omega)
        have c2 := hc2 (k - 1) (by omega)
        have hi : (0:Int) < (k : Int) := by omega
        have hi2 : (0:Int) ≤ (k : Int) - 1 := by omega
        have hi3 : (k:Int) - 1 < (n1 : Int) := by omega
        clear hc1 hc2
        by_cases hv : f (k - 1) = g (k - 1)
        · rw [hv] at c1
          have HV := Lib.hid hv
          clear hv hf hg t1 t2
          go_wp2
          go_quiet (fail)
          go_wp2
          go_roundw
          case rel => exact ⟨k - 1, by omega, val_of (by omega), fun j h1 h2 => by
            by_cases e : j = k - 1
            · subst e; exact HV.out
            · exact HE.out j (by omega) h2, _, rfl⟩
          case measure => simp [intOf]; omega
        · have hcm := cmp_top hf hg (show k - 1 < n1 by omega) (fun j h1 h2 => HE.out j (by omega) h2) hv
          have hfin : ∀ w', (∃ m, w' = w.drewN m) → CmpPost (V Bw f 0 n1) (V Bw g 0 n1) w (.returned (.int .i64 (cmpN (f (k - 1)) (g (k - 1))))) w' := fun w' h => ⟨by rw [hcm], h⟩
          have HFIN := Lib.hid hfin
          have hv1 : ((f (k - 1) : Int) != (g (k - 1) : Int)) = true := by rw [bne_iff_ne]; omega
          clear hcm hfin hf hg t1 t2 hv
          go_wp2
          go_quiet (fail)
          go_wp2
          go_quiet ((go_at_call 64; first | exact q1 (cmp64_c _ _) | exact q2 (cmp64_c _ _)))
          go_wp2
          go_ret
          exact HFIN.out _ ⟨_, by rw [World.drewN_drewN, World.drewN_drewN]⟩
      · obtain rfl : k = 0 := by omega
        have hfin : CmpPost (V Bw f 0 n1) (V Bw g 0 n1) w (.returned (.int .i64 0)) (w.drewN m) := ⟨by rw [cmpN_eq (V_congr (fun j hj => by simpa using HE.out j (by omega) hj))], m, rfl⟩
        have HFIN := Lib.hid hfin
        clear hfin hf hg t1 t2
        go_wp2
        go_ret
        exact HFIN.out
  · have hfin : CmpPost (V Bw f 0 n1) (V Bw g 0 n2) w (.returned (.int .i64 (cmpN n1 n2))) w := by
      refine ⟨?_, 0, rfl⟩
      rcases Nat.lt_or_gt_of_ne hne with h | h
      · rw [cmpN_lt h, cmpN_lt (V_long Bw_pos (fun j hj => by simpa using hf j hj) h (by simp; omega))]
      · rw [cmpN_gt h, cmpN_gt (V_long Bw_pos (fun j hj => by simpa using hg j hj) h (by simp; omega))]
    have HFIN := Lib.hid hfin
    have hq : ((n1 : Int) != n2) = true := by rw [bne_iff_ne]; omega
    have hcc : ∀ w, Calls Try.prog 63 #[.int .i64 n1, .int .i64 n2] w fun e w' => e = .returned (.int .i64 (cmpN n1 n2)) ∧ w = w' := by
      intro w
      refine (Try.cmp_Compare_int n1 n2 w).mono ?_
      rintro e w' ⟨rfl, rfl⟩
      refine ⟨?_, rfl⟩
      have : Go.Lib.compareInt n1 n2 = cmpN n1 n2 := by
        unfold Go.Lib.compareInt cmpN
        split <;> split <;> (try split) <;> omega
      rw [this]
    have HCC := Lib.hid hcc
    clear hfin hf hg t1 t2 hne hcc
    go_enter Try.func45, Try.ntmps45
    go_wp2_with (go_at_call 63; refine (HCC.out _).mono ?_; rintro e w' ⟨rfl, rfl⟩)
    go_ret
    exact HFIN.out

def LenPost (A : Nat) (w : World) (e : Ending) (w' : World) : Prop := ∃ n : Nat, e = .returned (.int .i64 n) ∧ (A = 0 → n = 0) ∧ (A ≠ 0 → 2 ^ (n - 1) ≤ A ∧ A < 2 ^ n ∧ 0 < n) ∧ w = w'

set_option maxHeartbeats 400000 in
/-- length: how many binary digits. -/
theorem length_c (p : Option Addr) (n cap : Nat) (f : Nat → Nat) (w : World) (hn : n ≤ 1099511627776) (h : At .u64 w p n f) (hf : ∀ j, j < n → f j < Bw) (t : n = 0 ∨ f (n - 1) ≠ 0) :
    Calls Try.prog 46 #[.slice p n cap] w (LenPost (V Bw f 0 n) w) := by
  by_cases h0 : n = 0
  · subst h0
    have hfin : LenPost (V Bw f 0 0) w (.returned (.int .i64 0)) w := ⟨0, rfl, fun _ => rfl, fun h => absurd rfl h, rfl⟩
    have HFIN := Lib.hid hfin
    clear hfin hf
    go_enter Try.func46, Try.ntmps46
    go_wp2
    go_ret
    exact HFIN.out
  · rcases h with h | ⟨g, off, rfl, hg, hc⟩
    · omega
    obtain ⟨m, rfl⟩ : ∃ m, n = m + 1 := ⟨n - 1, by omega⟩
    have hcell := hc m (by omega)
    have ht : f m ≠ 0 := by simpa using t
    have hfm : f m < 18446744073709551616 := hf m (by omega)
    obtain ⟨a, b, c⟩ := bitLenAux_b 64 (f m) hfm
    have b := b ht
    change f m < 2 ^ Go.Lib.bitLen (f m) at a
    change 2 ^ Go.Lib.bitLen (f m) ≤ 2 * f m at b
    change Go.Lib.bitLen (f m) ≤ 64 at c
    have hcc : ∀ w, Calls Try.prog 65 #[.int .u64 (f m)] w fun e w' => e = .returned (.int .i64 (Go.Lib.bitLen (f m))) ∧ w = w' := by
      intro w
      refine (Try.bits_Len64 (f m : Int) w (by omega) (by omega)).mono ?_
      rintro e w' ⟨rfl, rfl⟩
      exact ⟨by rw [Int.toNat_natCast], rfl⟩
    generalize Go.Lib.bitLen (f m) = L at *
    have hpos : 0 < L := by
      rcases Nat.eq_zero_or_pos L with e | e
      · subst e; omega
      · exact e
    have hB : Bw ^ m = 2 ^ (64 * m) := by rw [Nat.pow_mul]; rfl
    have hlow : V Bw f 0 m < Bw ^ m := V_lt (fun j hj => by simpa using hf j (by omega))
    have hfin : LenPost (V Bw f 0 (m + 1)) w (.returned (.int .i64 (64 * (m : Int) + L))) w := by
      have hv : V Bw f 0 (m + 1) = V Bw f 0 m + f m * Bw ^ m := by rw [V_succ, Nat.zero_add]
      rw [hv]
      rw [hB] at hlow ⊢
      have hp : 0 < 2 ^ (64 * m) := Nat.pow_pos (by omega)
      have k1 : 1 * 2 ^ (64 * m) ≤ f m * 2 ^ (64 * m) := Nat.mul_le_mul_right _ (by omega)
      refine ⟨64 * m + L, by simp, fun e => by omega, fun _ => ⟨?_, ?_, by omega⟩, rfl⟩
      · have e1 : 2 ^ (64 * m + L - 1) = 2 ^ (L - 1) * 2 ^ (64 * m) := by rw [← Nat.pow_add]; congr 1; omega
        have e2 : 2 ^ L = 2 * 2 ^ (L - 1) := by rw [← Nat.pow_succ']; congr 1; omega
        have : 2 ^ (L - 1) * 2 ^ (64 * m) ≤ f m * 2 ^ (64 * m) := Nat.mul_le_mul_right _ (by omega)
        omega
      · have e1 : 2 ^ (64 * m + L) = 2 ^ L * 2 ^ (64 * m) := by rw [← Nat.pow_add]; congr 1; omega
        have : (f m + 1) * 2 ^ (64 * m) ≤ 2 ^ L * 2 ^ (64 * m) := Nat.mul_le_mul_right _ (by omega)
        rw [Nat.add_mul] at this
        omega
    have HFIN := Lib.hid hfin
    have HCC := Lib.hid hcc
    clear hfin hcc hf hc a b t hlow hB
    go_enter Try.func46, Try.ntmps46
    go_wp2_with (go_at_call 65; refine (HCC.out _).mono ?_; rintro e w' ⟨rfl, rfl⟩)
    go_ret
    exact HFIN.out

theorem info64 : (Try.prog.info? 40).map (fun i => (i.zero, i.size, i.bytes)) = some (some (.int .u64 0), 1, 8) := by kernel_rfl

theorem Blk_made (w : World) (n : Nat) (T : TypeId) : Blk .u64 (w.alloc (.cells (madeCells #[.int .u64 0] n) T)) w.heap.size n (fun _ => 0) := by
  refine ⟨_, T, heap_alloc_new w _, size_madeCells _ _, fun j hj => ?_⟩
  rw [← Array.getElem?_toList, toList_madeCells_one]
  simp [hj]

theorem make64_run (n : Nat) (hn : n ≤ 1099511627776) (w : World) : (Instr.makeSlice 23 (.int .i64 (n : Int)) (.int .i64 (n : Int))).run Try.prog w = .ok (.slice (some ⟨w.heap.size, 0, none⟩) n n) (w.alloc (.cells (madeCells #[.int .u64 0] n) 40)) :=
  run_make_row' 23 40 (.int .u64 0) 8 Try.underlying23 info64 rfl .i64 .i64 n (by omega) (by omega) w

theorem shl_parts (x s : Nat) (hs : s ≤ 64) : x * 2 ^ s = x / 2 ^ (64 - s) * Bw + x * 2 ^ s % Bw ∧ x * 2 ^ s % Bw = x % 2 ^ (64 - s) * 2 ^ s ∧ (x < Bw → x / 2 ^ (64 - s) < 2 ^ s) := by
  unfold Bw
  have hp : 0 < 2 ^ s := Nat.pow_pos (by omega)
  have hp2 : 0 < 2 ^ (64 - s) := Nat.pow_pos (by omega)
  have hpp : 2 ^ s * 2 ^ (64 - s) = 18446744073709551616 := by rw [← Nat.pow_add, show s + (64 - s) = 64 from by omega]
  have hL : x * 2 ^ s = x / 2 ^ (64 - s) * 18446744073709551616 + x % 2 ^ (64 - s) * 2 ^ s := by
    have := Nat.div_add_mod x (2 ^ (64 - s))
    generalize x / 2 ^ (64 - s) = a at *
    generalize x % 2 ^ (64 - s) = b at *
    rw [← this, ← hpp]; grind
  have hb : x % 2 ^ (64 - s) * 2 ^ s < 18446744073709551616 := by
    rw [← hpp, Nat.mul_comm (2 ^ s)]
    exact Nat.mul_lt_mul_of_pos_right (Nat.mod_lt _ hp2) hp
  have hm : x * 2 ^ s % 18446744073709551616 = x % 2 ^ (64 - s) * 2 ^ s := by omega
  refine ⟨by omega, hm, fun h => ?_⟩
  rw [Nat.div_lt_iff_lt_mul hp2, hpp]; exact h

/-- What one word gives, moved up: what goes into its place beside a (below 2^s), and what goes into the next. -/
theorem up_word (a x s : Nat) (hs : s ≤ 63) (hx : x < Bw) (ha : a < 2 ^ s) : ∃ d c : Nat, bits .or .u64 (a : Int) (IntKind.u64.wrap ((x : Int) * 2 ^ s)) = (d : Int) ∧ ((x : Int) / 2 ^ (64 - s)) = (c : Int) ∧ d < Bw ∧ c < Bw ∧ c < 2 ^ s ∧ d + c * Bw = a + x * 2 ^ s := by
  obtain ⟨h1, h2, h3⟩ := shl_parts x s (by omega)
  have h3 := h3 hx
  have hpl : (2 : Nat) ^ s ≤ 2 ^ 63 := Nat.pow_le_pow_right (by omega) hs
  have hp2 : 0 < 2 ^ (64 - s) := Nat.pow_pos (by omega)
  have hpp : 2 ^ s * 2 ^ (64 - s) = Bw := by rw [← Nat.pow_add, show s + (64 - s) = 64 from by omega]; rfl
  have hor : a ||| x * 2 ^ s % Bw = a + x * 2 ^ s % Bw := by
    rw [h2, Nat.or_comm, Nat.add_comm, Nat.mul_comm (x % 2 ^ (64 - s))]; exact (Nat.two_pow_add_eq_or_of_lt ha _).symm
  have hsum : a + x * 2 ^ s % Bw < Bw := by
    rw [h2]
    have k1 : (x % 2 ^ (64 - s) + 1) * 2 ^ s ≤ 2 ^ (64 - s) * 2 ^ s := Nat.mul_le_mul_right _ (Nat.mod_lt _ hp2)
    rw [Nat.mul_comm (2 ^ (64 - s)), hpp, Nat.add_mul] at k1
    omega
  refine ⟨a + x * 2 ^ s % Bw, x / 2 ^ (64 - s), ?_, ?_, hsum, ?_, h3, ?_⟩
  · have e : ((x : Int) * 2 ^ s) = ((x * 2 ^ s : Nat) : Int) := by simp
    rw [e, Mul64.wrapM, bits_or_u64_nat _ _ (by omega) (by omega)]
    rw [← hor]; rfl
  · simp
  · unfold Bw; omega
  · omega

def UpPost (n s : Nat) (f : Nat → Nat) (w : World) (e : Ending) (w' : World) : Prop :=
  ∃ f' : Nat → Nat, e = .returned (.slice (some ⟨w.heap.size, 0, none⟩) ((n + 1 : Nat)) ((n + 1 : Nat))) ∧ Blk .u64 w' w.heap.size (n + 1) f' ∧ (∀ j, j < n + 1 → f' j < Bw) ∧ V Bw f' 0 (n + 1) = V Bw f 0 n * 2 ^ s ∧ w.grownBy w' none

theorem up_step {f fk : Nat → Nat} {k s d c : Nat} (HV : V Bw fk 0 (k + 1) = V Bw f 0 k * 2 ^ s) (hd : d + c * Bw = fk k + f k * 2 ^ s) : V Bw (upd (upd fk k d) (k + 1) c) 0 (k + 1 + 1) = V Bw f 0 (k + 1) * 2 ^ s := by
  have e1 : V Bw (upd (upd fk k d) (k + 1) c) 0 k = V Bw fk 0 k := by rw [V_upd_out (by omega), V_upd_out (by omega)]
  rw [V_succ, V_succ, e1, Nat.zero_add, Nat.zero_add, upd_at, upd_ne (by omega), upd_at, V_succ, Nat.zero_add, Nat.add_mul, ← HV, V_succ, Nat.zero_add]
  have : (d + c * Bw) * Bw ^ k = (fk k + f k * 2 ^ s) * Bw ^ k := by rw [hd]
  rw [Nat.pow_succ]
  grind

theorem up_gb {w wr : World} (h : w.grownBy wr none) {j j' : Nat} (u v : Value) : w.grownBy (((wr.setCell ⟨w.heap.size, j, none⟩ u).drew).setCell ⟨w.heap.size, j', none⟩ v) none := by
  refine below_gb (gb_new (b := wr) (g := w.heap.size) (gb_below h) (Nat.le_refl _) ?_)
  exact gb_set (gb_drew (gb_set (gb_refl _ _) u)) v

set_option maxHeartbeats 400000 in
theorem moveUp_c (p : Option Addr) (n cap s : Nat) (f : Nat → Nat) (w : World) (hn : n ≤ 1000000000) (hs : s ≤ 63) (h : At .u64 w p n f) (hf : ∀ j, j < n → f j < Bw) :
    Calls Try.prog 75 #[.slice p n cap, .int .i64 s] w (UpPost n s f w) := by
  have hmk : ∀ w, (Instr.makeSlice 23 (.int .i64 ((n : Int) + 1)) (.int .i64 ((n : Int) + 1))).run Try.prog w = .ok (.slice (some ⟨w.heap.size, 0, none⟩) (n + 1) (n + 1)) (w.alloc (.cells (madeCells #[.int .u64 0] (n + 1)) 40)) :=
    fun w => make64_run (n + 1) (by omega) w
  go_enter Try.func75, Try.ntmps75
  go_wp2
  clear hmk
  go_loopw [14] (fun i wr => ∃ (k : Nat) (fk : Nat → Nat), k ≤ n ∧ i = .int .i64 k ∧ Hid (Blk .u64 wr w.heap.size (n + 1) fk) ∧ Hid (∀ j, j < n + 1 → fk j < Bw) ∧ Hid (fk k < 2 ^ s) ∧ Hid (∀ j, k < j → j < n + 1 → fk j = 0) ∧ Hid (V Bw fk 0 (k + 1) = V Bw f 0 k * 2 ^ s) ∧ Hid (w.grownBy wr none))
    (fun i _ => n - (intOf i).toNat)
  case atStart => exact ⟨0, fun _ => 0, by omega, rfl, Blk_made _ _ _, fun _ _ => Bw_pos, Nat.pow_pos (by omega), fun _ _ _ => rfl, by simp [Hid, V], below_gb ((Below.refl _ _).alloc (Nat.le_refl _) _)⟩
  case round =>
    obtain ⟨k, fk, hk, rfl, HB, HF, HP, HZ, HV, HG⟩ := hrel
    by_cases hlt : k < n
    · rcases h with h | ⟨g, off, rfl, hg, hc⟩
      · omega
      have hcell := HG.out.cell (hc k hlt) (by simp)
      have hck := HB.out.cell (j := k) (by omega)
      have hfk := HB.out.free k
      have hfk1 := HB.out.free (k + 1)
      obtain ⟨d, c, e1, e2, hd, hc2, hc3, hdc⟩ := up_word (fk k) (f k) s hs (hf k hlt) HP.out
      have H2 := Lib.hid (up_step HV.out hdc)
      have HD := Lib.hid hd
      have HS := Lib.hid (lt_upd2 HF.out hd hc2 k)
      have HC3 := Lib.hid hc3
      have hck1 := (HB.out.set (j := k) d).cell (j := k + 1) (by omega)
      rw [upd_ne (by omega)] at hck1
      clear hc hf hdc hd hc3 hc2
      go_wp2
      go_region
      all_goals go_wp2
      all_goals go_roundw
      case rel => exact ⟨k + 1, _, by omega, by go_num, (HB.out.set d).drew.set c, HS, (by show upd _ _ _ _ < _; rw [upd_at]; exact HC3.out), (fun j h1 h2 => by rw [upd_ne (by omega), upd_ne (by omega)]; exact HZ.out j (by omega) h2), H2, up_gb HG.out _ _⟩
      case measure => simp [intOf]; omega
    · obtain rfl : k = n := by omega
      have hfin : UpPost k s f w (.returned (.slice (some ⟨w.heap.size, 0, none⟩) (k + 1) (k + 1))) wr := ⟨fk, rfl, HB.out, HF.out, HV.out, HG.out⟩
      have HFIN := Lib.hid hfin
      clear hfin hf
      go_wp2
      go_ret
      exact HFIN.out

/-- A word moved down, with what comes from the next one. -/
theorem down_word (x y s : Nat) (hs : s ≤ 63) (hx : x < Bw) (hy : y < Bw) : ∃ x0 d : Nat, ((x : Int) / 2 ^ s) = (x0 : Int) ∧ bits .or .u64 (x0 : Int) (IntKind.u64.wrap ((y : Int) * 2 ^ (64 - s))) = (d : Int) ∧ d < Bw ∧ x0 < Bw ∧ x0 * 2 ^ s + x % 2 ^ s = x ∧ d * 2 ^ s + x % 2 ^ s = x + y % 2 ^ s * Bw := by
  obtain ⟨h1, h2, h3⟩ := shl_parts y (64 - s) (by omega)
  have e64 : 64 - (64 - s) = s := by omega
  rw [e64] at h1 h2 h3
  have hp : 0 < 2 ^ s := Nat.pow_pos (by omega)
  have hp2 : 0 < 2 ^ (64 - s) := Nat.pow_pos (by omega)
  have hpp : 2 ^ (64 - s) * 2 ^ s = Bw := by rw [← Nat.pow_add, show 64 - s + s = 64 from by omega]; rfl
  have hdm := Nat.div_add_mod x (2 ^ s)
  have hx0 : x / 2 ^ s < 2 ^ (64 - s) := by rw [Nat.div_lt_iff_lt_mul hp, hpp]; exact hx
  have hle : x / 2 ^ s ≤ x := Nat.div_le_self _ _
  have hor : x / 2 ^ s ||| y * 2 ^ (64 - s) % Bw = x / 2 ^ s + y * 2 ^ (64 - s) % Bw := by
    rw [h2, Nat.or_comm, Nat.add_comm, Nat.mul_comm (y % 2 ^ s)]; exact (Nat.two_pow_add_eq_or_of_lt hx0 _).symm
  have hsum : x / 2 ^ s + y * 2 ^ (64 - s) % Bw < Bw := by
    rw [h2]
    have k1 : (y % 2 ^ s + 1) * 2 ^ (64 - s) ≤ 2 ^ s * 2 ^ (64 - s) := Nat.mul_le_mul_right _ (Nat.mod_lt _ hp)
    rw [Nat.mul_comm (2 ^ s), hpp, Nat.add_mul] at k1
    omega
  refine ⟨x / 2 ^ s, x / 2 ^ s + y * 2 ^ (64 - s) % Bw, by simp, ?_, hsum, by omega, by rw [Nat.mul_comm]; exact hdm, ?_⟩
  · have e : ((y : Int) * 2 ^ (64 - s)) = ((y * 2 ^ (64 - s) : Nat) : Int) := by simp
    rw [e, Mul64.wrapM, bits_or_u64_nat _ _ (by unfold Bw at hsum hx; omega) (by omega), ← hor]; rfl
  · rw [h2, Nat.add_mul, Nat.mul_assoc, hpp, Nat.mul_comm (x / 2 ^ s)]; omega

def DownPost (g off n M s : Nat) (f : Nat → Nat) (w : World) (e : Ending) (w' : World) : Prop :=
  ∃ f' : Nat → Nat, e = .returned (.tuple #[]) ∧ Blk .u64 w' g M f' ∧ (∀ j, j < M → f' j < Bw) ∧ (∀ j, (j < off ∨ off + n ≤ j) → f' j = f j) ∧ V Bw f' off n = V Bw f off n / 2 ^ s ∧ w.grownBy w' (some g)

/-- The word at off + k, if there is one. -/
def nxt (f : Nat → Nat) (off n k : Nat) : Nat := if k < n then f (off + k) else 0

theorem down_alg {A F d x S P B z r n2 : Nat} (HV : A * S + z = F + r * P) (hd : d * S + r = x + n2 * B) : (A + d * P) * S + z = F + x * P + n2 * (P * B) := by
  have : (d * S + r) * P = (x + n2 * B) * P := by rw [hd]
  grind

theorem down_step {f fk : Nat → Nat} {off n k s d : Nat} (hk : k < n) (HO : ∀ j, (j < off ∨ off + k ≤ j) → fk j = f j)
    (HV : V Bw fk off k * 2 ^ s + nxt f off n 0 % 2 ^ s = V Bw f off k + nxt f off n k % 2 ^ s * Bw ^ k) (hd : d * 2 ^ s + f (off + k) % 2 ^ s = f (off + k) + nxt f off n (k + 1) % 2 ^ s * Bw) :
    (∀ j, (j < off ∨ off + (k + 1) ≤ j) → upd fk (off + k) d j = f j) ∧ V Bw (upd fk (off + k) d) off (k + 1) * 2 ^ s + nxt f off n 0 % 2 ^ s = V Bw f off (k + 1) + nxt f off n (k + 1) % 2 ^ s * Bw ^ (k + 1) := by
  refine ⟨fun j hj => ?_, ?_⟩
  · rw [upd_ne (by omega)]; exact HO j (by omega)
  · have e : nxt f off n k = f (off + k) := by simp [nxt, hk]
    rw [e] at HV
    rw [V_succ, V_succ, upd_at, V_upd_out (by omega), Nat.pow_succ]
    exact down_alg HV hd

theorem upd_upd {f : Nat → Nat} {k a d : Nat} : upd (upd f k a) k d = upd f k d := by
  funext j; unfold upd; split <;> rfl

set_option maxHeartbeats 400000 in
theorem moveDown_c (g off n cap M s : Nat) (f : Nat → Nat) (w : World) (hB : Blk .u64 w g M f) (hl : off + n ≤ M) (hM : M ≤ 1099511627776) (hf : ∀ j, j < M → f j < Bw) (hs : s ≤ 63) :
    Calls Try.prog 77 #[.slice (some ⟨g, off, none⟩) n cap, .int .i64 s] w (DownPost g off n M s f w) := by
  go_enter Try.func77, Try.ntmps77
  go_wp2
  go_loopw [7] (fun i wr => ∃ (k : Nat) (fk : Nat → Nat), k ≤ n ∧ i = .int .i64 k ∧ Hid (Blk .u64 wr g M fk) ∧ Hid (∀ j, j < M → fk j < Bw) ∧ Hid (∀ j, (j < off ∨ off + k ≤ j) → fk j = f j) ∧
      Hid (V Bw fk off k * 2 ^ s + nxt f off n 0 % 2 ^ s = V Bw f off k + nxt f off n k % 2 ^ s * Bw ^ k) ∧ Hid (w.grownBy wr (some g)))
    (fun i _ => n - (intOf i).toNat)
  case atStart => exact ⟨0, f, by omega, rfl, hB, hf, fun _ _ => rfl, by simp [Hid, V], gb_refl _ _⟩
  case round =>
    obtain ⟨k, fk, hk, rfl, HB, HF, HO, HV, HG⟩ := hrel
    by_cases hlt : k < n
    · have hc1 := HB.out.cell (j := off + k) (by omega)
      have hf1 := HB.out.free (off + k)
      have ho1 := HO.out (off + k) (by omega)
      by_cases hl2 : k + 1 < n
      · obtain ⟨x0, d, e1, e2, hd, hx0, _, hdd⟩ := down_word (fk (off + k)) (fk (off + (k + 1))) s hs (HF.out _ (by omega)) (HF.out _ (by omega))
        have hnx : nxt f off n (k + 1) = fk (off + (k + 1)) := by rw [HO.out (off + (k + 1)) (by omega)]; simp [nxt, hl2]
        have hst := down_step (s := s) (d := d) hlt HO.out HV.out (by rw [hnx, ← ho1]; exact hdd)
        have H1 := Lib.hid hst.1
        have H2 := Lib.hid hst.2
        have HS := Lib.hid (lt_upd (k := off + k) HF.out hd)
        have HX := Lib.hid (HB.out.set (j := off + k) x0)
        have hc2 := HX.out.cell (j := off + (k + 1)) (by omega)
        rw [upd_ne (by omega)] at hc2
        have hc3 := HX.out.cell (j := off + k) (by omega)
        rw [upd_at] at hc3
        clear hst hdd hnx ho1 hd hx0 hf hB
        have HX2 : Hid (Blk .u64 ((wr.setCell ⟨g, off + k, none⟩ (.int .u64 x0)).setCell ⟨g, off + k, none⟩ (.int .u64 d)) g M (upd fk (off + k) d)) := by
          have := HX.out.set (j := off + k) d
          rw [upd_upd] at this; exact this
        go_wp2
        go_region
        all_goals go_wp2
        all_goals go_roundw
        case rel => exact ⟨k + 1, _, by omega, by go_num, HX2.out.drew, HS, H1, H2, gb_drew (gb_set (gb_set HG.out _) _)⟩
        case measure => simp [intOf]; omega
      · obtain ⟨x0, d, e1, e2, hd, hx0, hxx, hdd⟩ := down_word (fk (off + k)) 0 s hs (HF.out _ (by omega)) Bw_pos
        have hnx : nxt f off n (k + 1) = 0 := by simp [nxt]; omega
        have hst := down_step (s := s) (d := x0) hlt HO.out HV.out (by rw [hnx, ← ho1, Nat.zero_mod, Nat.zero_mul]; exact hxx)
        have H1 := Lib.hid hst.1
        have H2 := Lib.hid hst.2
        have HS := Lib.hid (lt_upd (k := off + k) HF.out hx0)
        clear hst hdd hnx ho1 hd hx0 hxx hf hB e2
        go_wp2
        go_roundw
        case rel => exact ⟨k + 1, _, by omega, by go_num, HB.out.set x0, HS, H1, H2, gb_set HG.out _⟩
        case measure => simp [intOf]; omega
    · obtain rfl : k = n := by omega
      have hfin : DownPost g off k M s f w (.returned (.tuple #[])) wr := by
        refine ⟨fk, rfl, HB.out, HF.out, HO.out, ?_, HG.out⟩
        have hv := HV.out
        have hp : 0 < 2 ^ s := Nat.pow_pos (by omega)
        have e0 : nxt f off k k = 0 := by simp [nxt]
        have hz : nxt f off k 0 % 2 ^ s < 2 ^ s := Nat.mod_lt _ hp
        rw [e0, Nat.zero_mod, Nat.zero_mul, Nat.add_zero] at hv
        rw [← hv, Nat.mul_comm, Nat.mul_add_div hp, Nat.div_eq_of_lt hz, Nat.add_zero]
      have HFIN := Lib.hid hfin
      clear hfin hf hB
      go_wp2
      go_end0
      exact HFIN.out

def ShortPost (g off n M d : Nat) (f : Nat → Nat) (w : World) (e : Ending) (w' : World) : Prop :=
  ∃ (r : Nat) (f' : Nat → Nat), e = .returned (.int .u64 r) ∧ r < d ∧ Blk .u64 w' g M f' ∧ (∀ j, j < M → f' j < Bw) ∧ (∀ j, (j < off ∨ off + n ≤ j) → f' j = f j) ∧ V Bw f' off n * d + r = V Bw f off n ∧ w.grownBy w' (some g)

theorem short_alg {A F d B q r r2 x : Nat} (HV : A * d + r = F) (hq : q * d + r2 = r * B + x) : (q + B * A) * d + r2 = x + B * F := by
  rw [← HV]
  have e : (q + B * A) * d + r2 = (q * d + r2) + B * (A * d) := by grind
  rw [e, hq]; grind

theorem short_step {f fk : Nat → Nat} {off n k d q r r2 : Nat} (hk : k < n) (HO : ∀ j, (j < off + (k + 1) ∨ off + n ≤ j) → fk j = f j) (HV : V Bw fk (off + (k + 1)) (n - (k + 1)) * d + r = V Bw f (off + (k + 1)) (n - (k + 1)))
    (hq : q * d + r2 = r * Bw + fk (off + k)) :
    (∀ j, (j < off + k ∨ off + n ≤ j) → upd fk (off + k) q j = f j) ∧ V Bw (upd fk (off + k) q) (off + k) (n - k) * d + r2 = V Bw f (off + k) (n - k) := by
  refine ⟨fun j hj => ?_, ?_⟩
  · rw [upd_ne (by omega)]; exact HO j (by omega)
  · obtain ⟨m, rfl⟩ : ∃ m, n = k + 1 + m := ⟨n - (k + 1), by omega⟩
    have e1 : k + 1 + m - k = m + 1 := by omega
    have e2 : k + 1 + m - (k + 1) = m := by omega
    rw [e2] at HV
    rw [e1, V_front, V_front, upd_at, V_upd_out (by omega), Nat.add_assoc off k 1, ← HO (off + k) (by omega)]
    exact short_alg HV hq

theorem heap_cell {w w' : World} (h : w'.heap = w.heap) (a : Addr) : w'.cell? a = w.cell? a := by simp [World.cell?, h]
theorem heap_frozen {w w' : World} (h : w'.heap = w.heap) (a : Addr) : w'.frozen? a = w.frozen? a := by simp [World.frozen?, h]
theorem heap_blk {k : IntKind} {w w' : World} {g M : Nat} {f : Nat → Nat} (h : w'.heap = w.heap) (hb : Blk k w g M f) : Blk k w' g M f := by
  unfold Blk; rw [h]; exact hb

set_option maxHeartbeats 400000 in
theorem divideInPlace_c (g off n cap M d : Nat) (f : Nat → Nat) (w : World) (hB : Blk .u64 w g M f) (hl : off + n ≤ M) (hM : M ≤ 1099511627776) (hf : ∀ j, j < M → f j < Bw) (hd : 0 < d) (hdB : d < Bw) :
    Calls Try.prog 62 #[.slice (some ⟨g, off, none⟩) n cap, .int .u64 d] w (ShortPost g off n M d f w) := by
  go_enter Try.func62, Try.ntmps62
  go_wp2
  go_loopw [5, 6] (fun r i wr => ∃ (k rn : Nat) (fk : Nat → Nat), k ≤ n ∧ i = .int .i64 ((k : Int) - 1) ∧ r = .int .u64 rn ∧ rn < d ∧ Hid (Blk .u64 wr g M fk) ∧ Hid (∀ j, j < M → fk j < Bw) ∧ Hid (∀ j, (j < off + k ∨ off + n ≤ j) → fk j = f j) ∧
      Hid (V Bw fk (off + k) (n - k) * d + rn = V Bw f (off + k) (n - k)) ∧ Hid (w.grownBy wr (some g)))
    (fun _ i _ => (intOf i + 1).toNat)
  case atStart => exact ⟨n, 0, f, by omega, rfl, rfl, hd, hB, hf, fun _ _ => rfl, by simp [Hid, V], gb_refl _ _⟩
  case round =>
    obtain ⟨k1, rn, fk, hk1, rfl, rfl, hr, HB, HF, HO, HV, HG⟩ := hrel
    by_cases h0 : 0 < k1
    · obtain ⟨k, rfl⟩ : ∃ k, k1 = k + 1 := ⟨k1 - 1, by omega⟩
      have hc1 := HB.out.cell (j := off + k) (by omega)
      have hf1 := HB.out.free (off + k)
      have hx := HF.out (off + k) (by omega)
      have HST := Lib.hid (fun q r2 h => short_step (q := q) (r2 := r2) (show k < n by omega) HO.out HV.out h)
      have HDV := Lib.hid (fun w => div64_c rn (fk (off + k)) d w hr hdB hx)
      have hfd := HF.out
      have HFD := Lib.hid hfd
      have hkk : ((k + 1 : Nat) : Int) - 1 = (k : Int) := by omega
      rw [hkk]
      clear hf hB hfd hx hkk
      go_wp2_with (go_at_call 71; refine (HDV.out _).mono ?_; rintro e w1 ⟨q, r2, rfl, hq, hr2, hdv, m, hw1⟩; (have hh1 : w1.heap = wr.heap := by rw [hw1]; rfl); (have hg1 : wr.grownBy w1 none := by rw [hw1]; exact gb_drewN (gb_refl _ _) _); clear hw1; have HQ := Lib.hid hq; have HDD := Lib.hid hdv; have HH := Lib.hid hh1; have HG1 := Lib.hid hg1; have hf2 := (heap_frozen hh1 _).trans hf1; have hc2 := (heap_cell hh1 _).trans hc1; clear hq hdv hh1 hg1 hf1 hc1)
      go_roundw
      case rel => exact ⟨k, r2, _, by omega, rfl, rfl, hr2, (heap_blk HH.out HB.out).set q, lt_upd HF.out HQ.out, (HST.out q r2 HDD.out).1, (HST.out q r2 HDD.out).2, gb_set (gb_trans HG.out (below_gb (gb_below HG1.out))) _⟩
      case measure => simp [intOf]
    · obtain rfl : k1 = 0 := by omega
      have hfin : ShortPost g off n M d f w (.returned (.int .u64 rn)) wr := ⟨rn, fk, rfl, hr, HB.out, HF.out, HO.out, HV.out, HG.out⟩
      have HFIN := Lib.hid hfin
      clear hfin hf hB
      go_wp2
      go_ret
      exact HFIN.out
end Go.Proofs.Ytkonfkcaefjabaa
