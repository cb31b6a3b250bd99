/- The words' loops that write in place: what each leaves. -/
import Derived.Test.YtaheeccpihbcaaaMem
namespace Go.Proofs.Ytaheeccpihbcaaa
open Go.RowKit Mx

theorem add_step {f fb fk : Nat → Nat} {off k lb c' c2 s x : Nat} (HO : ∀ j, (j < off ∨ off + k ≤ j) → fk j = f j) (HV : V Bw fk off k + c' * Bw ^ k = V Bw f off k + V Bw fb 0 (min k lb))
    (hx : (k < lb → x = fb k) ∧ (lb ≤ k → x = 0)) (hs : s + c2 * Bw = fk (off + k) + x + c') :
    (∀ j, (j < off ∨ off + (k + 1) ≤ j) → upd fk (off + k) s j = f j) ∧ V Bw (upd fk (off + k) s) off (k + 1) + c2 * Bw ^ (k + 1) = V Bw f off (k + 1) + V Bw fb 0 (min (k + 1) lb) := by
  refine ⟨fun j hj => ?_, ?_⟩
  · rw [upd_ne (by omega)]; exact HO j (by omega)
  · have e : V Bw fb 0 (min (k + 1) lb) = V Bw fb 0 (min k lb) + x * Bw ^ k := by
      by_cases hk : k < lb
      · rw [Nat.min_eq_left (by omega), Nat.min_eq_left (by omega), V_succ, hx.1 hk, Nat.zero_add]
      · rw [Nat.min_eq_right (by omega), Nat.min_eq_right (by omega), hx.2 (by omega)]; simp
    rw [e, V_succ, V_succ, upd_at, V_upd_out (by omega), Nat.pow_succ]
    have ho := HO (off + k) (by omega)
    rw [← ho]
    have := step_add (P := Bw ^ k) HV (d := s) (c' := c2) (x := fk (off + k)) (y := x) (b := Bw) (by omega)
    rw [this, Nat.add_mul]; omega

theorem V_rest {f fk : Nat → Nat} {off k la : Nat} (HO : ∀ j, (j < off ∨ off + k ≤ j) → fk j = f j) (hk : k ≤ la) : ∃ R, V Bw fk off la = V Bw fk off k + R ∧ V Bw f off la = V Bw f off k + R := by
  obtain ⟨m, rfl⟩ : ∃ m, la = k + m := ⟨la - k, by omega⟩
  refine ⟨Bw ^ k * V Bw f (off + k) m, ?_, V_split k⟩
  rw [V_split k, V_congr (f := fk) (g := f) (o := off + k) (p := off + k) (fun j _ => HO _ (by omega))]

theorem lt_upd {f : Nat → Nat} {M k s B : Nat} (h : ∀ j, j < M → f j < B) (hs : s < B) : ∀ j, j < M → upd f k s j < B := by
  intro j hj; unfold upd; split <;> first | exact hs | exact h j hj

def AddPost (g off la M : Nat) (f fb : Nat → Nat) (lb : Nat) (w : World) (e : Ending) (w' : World) : Prop :=
  ∃ (c : Nat) (f' : Nat → Nat), e = .returned (.int .u64 c) ∧ c ≤ 1 ∧ Blk .u64 w' g M f' ∧ (∀ j, j < M → f' j < Bw) ∧ (∀ j, (j < off ∨ off + la ≤ j) → f' j = f j) ∧
    V Bw f' off la + c * Bw ^ la = V Bw f off la + V Bw fb 0 lb ∧ w.grownBy w' (some g)

set_option maxHeartbeats 400000 in
theorem addInto_c (g off la cap M : Nat) (f : Nat → Nat) (pb : Option Addr) (lb capb : Nat) (fb : Nat → Nat) (w : World) (hB : Blk .u64 w g M f) (hl : off + la ≤ M) (hM : M ≤ 1099511627776) (hf : ∀ j, j < M → f j < Bw)
    (hb : At .u64 w pb lb fb) (hfb : ∀ j, j < lb → fb j < Bw) (hne : 0 < lb → ∀ a, pb = some a → some a.block ≠ some g) (hlb : lb ≤ la) :
    Calls Try.prog 68 #[.slice (some ⟨g, off, none⟩) la cap, .slice pb lb capb] w (AddPost g off la M f fb lb w) := by
  go_enter Try.func68, Try.ntmps68
  go_wp2
  go_loopw [5, 10] (fun c i wr => ∃ (k c' : Nat) (fk : Nat → Nat), k ≤ la ∧ i = .int .i64 k ∧ c = .int .u64 c' ∧ c' ≤ 1 ∧ Hid (Blk .u64 wr g M fk) ∧ Hid (∀ j, j < M → fk j < Bw) ∧ Hid (∀ j, (j < off ∨ off + k ≤ j) → fk j = f j) ∧
      Hid (V Bw fk off k + c' * Bw ^ k = V Bw f off k + V Bw fb 0 (min k lb)) ∧ Hid (w.grownBy wr (some g)))
    (fun _ i _ => la - (intOf i).toNat)
  case atStart => exact ⟨0, 0, f, by omega, rfl, rfl, by omega, hB, hf, fun _ _ => rfl, by simp [Hid, V], gb_refl _ _⟩
  case round =>
    obtain ⟨k, c', fk, hk, rfl, rfl, hc1, HB, HF, HO, HV, HG⟩ := hrel
    by_cases hlt : k < la
    · have hcell := HB.out.cell (j := off + k) (by omega)
      have hfree := HB.out.free (off + k)
      by_cases hkb : k < lb
      · rcases hb with hb | ⟨gb, ob, rfl, hgb, hcb⟩
        · omega
        have hgne : gb ≠ g := fun e => hne (by omega) _ rfl (by rw [e])
        have hcb1 : wr.cell? ⟨gb, ob + k, none⟩ = some (.int .u64 (fb k)) := HG.out.cell (hcb k hkb) (by simpa using hgne)
        obtain ⟨s, c2, hrun, hs, hc2, hsum⟩ := add64_run (fk (off + k)) (fb k) c' hc1 (HF.out _ (by omega)) (hfb k hkb)
        obtain ⟨R1, R2⟩ := add_step HO.out HV.out (lb := lb) (x := fb k) ⟨fun _ => rfl, fun h => by omega⟩ hsum
        have H1 := Lib.hid R1
        have H2 := Lib.hid R2
        have HS := Lib.hid (lt_upd (k := off + k) HF.out hs)
        clear R1 R2 hsum hcb hf hfb
        go_wp2
        go_roundw
        case rel => exact ⟨k + 1, c2, _, by omega, by go_num, rfl, hc2, HB.out.set s, HS, H1, H2, gb_set HG.out _⟩
        case measure => simp [intOf]; omega
      · by_cases h0 : c' = 0
        · subst h0
          have hfin : AddPost g off la M f fb lb w (.returned (.int .u64 0)) wr := by
            obtain ⟨R, r1, r2⟩ := V_rest (la := la) HO.out (by omega)
            have hv := HV.out
            refine ⟨0, fk, rfl, by omega, HB.out, HF.out, fun j hj => HO.out j (by omega), ?_, HG.out⟩
            rw [Nat.min_eq_right (by omega)] at hv
            omega
          have HFIN := Lib.hid hfin
          clear hfin hf hfb
          have hge : (lb : Int) ≤ k := by omega
          go_wp2
          go_ret
          exact HFIN.out
        · have h1 : c' = 1 := by omega
          subst h1
          obtain ⟨s, c2, hrun, hs, hc2, hsum⟩ := add64_run (fk (off + k)) 0 1 hc1 (HF.out _ (by omega)) Bw_pos
          have hr0 : ∀ w, (callFunc 60 #[.int .u64 (fk (off + k)), .int .u64 0, .int .u64 1]).run Try.prog w = .ok (.value (.tuple #[.int .u64 s, .int .u64 c2])) w := hrun
          clear hrun
          obtain ⟨R1, R2⟩ := add_step HO.out HV.out (lb := lb) (x := 0) ⟨fun h => by omega, fun _ => rfl⟩ hsum
          have H1 := Lib.hid R1
          have H2 := Lib.hid R2
          have HS := Lib.hid (lt_upd (k := off + k) HF.out hs)
          clear R1 R2 hsum hf hfb
          go_wp2
          go_roundw
          case rel => exact ⟨k + 1, c2, _, by omega, by go_num, rfl, hc2, HB.out.set s, HS, H1, H2, gb_set HG.out _⟩
          case measure => simp [intOf]; omega
    · obtain rfl : k = la := by omega
      have hfin : AddPost g off k M f fb lb w (.returned (.int .u64 c')) wr := by
        have hv := HV.out
        rw [Nat.min_eq_right hlb] at hv
        exact ⟨c', fk, rfl, hc1, HB.out, HF.out, HO.out, hv, HG.out⟩
      have HFIN := Lib.hid hfin
      clear hfin hf hfb
      go_wp2
      go_ret
      exact HFIN.out
end Go.Proofs.Ytaheeccpihbcaaa
