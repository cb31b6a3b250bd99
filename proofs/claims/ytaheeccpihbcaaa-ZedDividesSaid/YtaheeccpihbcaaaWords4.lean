/- Words moved up and down, and divided by one, in place. -/
import Derived.Test.YtaheeccpihbcaaaDiv64
import Derived.Test.YtaheeccpihbcaaaWords1
import Derived.RegionTactic
import Derived.StillTailTactics
namespace Go.Proofs.Ytaheeccpihbcaaa
open Go.RowKit Mx

theorem info64 : (Try.prog.info? 40).map (fun i => (i.zero, i.size, i.bytes)) = some (some (.int .u64 0), 1, 8) := by kernel_rfl

theorem Blk_made (w : World) (n : Nat) (T : TypeId) : Blk .u64 (w.alloc (.cells (madeCells #[.int .u64 0] n) T)) w.heap.size n (fun _ => 0) := by
  refine ⟨_, T, heap_alloc_new w _, size_madeCells _ _, fun j hj => ?_⟩
  rw [← Array.getElem?_toList, toList_madeCells_one]
  simp [hj]

theorem make64_run (n : Nat) (hn : n ≤ 1099511627776) (w : World) : (Instr.makeSlice 23 (.int .i64 (n : Int)) (.int .i64 (n : Int))).run Try.prog w = .ok (.slice (some ⟨w.heap.size, 0, none⟩) n n) (w.alloc (.cells (madeCells #[.int .u64 0] n) 40)) :=
  run_make_row' 23 40 (.int .u64 0) 8 Try.underlying23 info64 rfl .i64 .i64 n (by omega) (by omega) w

theorem shl_parts (x s : Nat) (hs : s ≤ 64) : x * 2 ^ s = x / 2 ^ (64 - s) * Bw + x * 2 ^ s % Bw ∧ x * 2 ^ s % Bw = x % 2 ^ (64 - s) * 2 ^ s ∧ (x < Bw → x / 2 ^ (64 - s) < 2 ^ s) := by
  unfold Bw
  have hp : 0 < 2 ^ s := Nat.pow_pos (by omega)
  have hp2 : 0 < 2 ^ (64 - s) := Nat.pow_pos (by omega)
  have hpp : 2 ^ s * 2 ^ (64 - s) = 18446744073709551616 := by rw [← Nat.pow_add, show s + (64 - s) = 64 from by omega]
  have hL : x * 2 ^ s = x / 2 ^ (64 - s) * 18446744073709551616 + x % 2 ^ (64 - s) * 2 ^ s := by
    have := Nat.div_add_mod x (2 ^ (64 - s))
    generalize x / 2 ^ (64 - s) = a at *
    generalize x % 2 ^ (64 - s) = b at *
    rw [← this, ← hpp]; grind
  have hb : x % 2 ^ (64 - s) * 2 ^ s < 18446744073709551616 := by
    rw [← hpp, Nat.mul_comm (2 ^ s)]
    exact Nat.mul_lt_mul_of_pos_right (Nat.mod_lt _ hp2) hp
  have hm : x * 2 ^ s % 18446744073709551616 = x % 2 ^ (64 - s) * 2 ^ s := by omega
  refine ⟨by omega, hm, fun h => ?_⟩
  rw [Nat.div_lt_iff_lt_mul hp2, hpp]; exact h

/-- What one word gives, moved up: what goes into its place beside a (below 2^s), and what goes into the next. -/
theorem up_word (a x s : Nat) (hs : s ≤ 63) (hx : x < Bw) (ha : a < 2 ^ s) : ∃ d c : Nat, bits .or .u64 (a : Int) (IntKind.u64.wrap ((x : Int) * 2 ^ s)) = (d : Int) ∧ ((x : Int) / 2 ^ (64 - s)) = (c : Int) ∧ d < Bw ∧ c < Bw ∧ c < 2 ^ s ∧ d + c * Bw = a + x * 2 ^ s := by
  obtain ⟨h1, h2, h3⟩ := shl_parts x s (by omega)
  have h3 := h3 hx
  have hpl : (2 : Nat) ^ s ≤ 2 ^ 63 := Nat.pow_le_pow_right (by omega) hs
  have hp2 : 0 < 2 ^ (64 - s) := Nat.pow_pos (by omega)
  have hpp : 2 ^ s * 2 ^ (64 - s) = Bw := by rw [← Nat.pow_add, show s + (64 - s) = 64 from by omega]; rfl
  have hor : a ||| x * 2 ^ s % Bw = a + x * 2 ^ s % Bw := by
    rw [h2, Nat.or_comm, Nat.add_comm, Nat.mul_comm (x % 2 ^ (64 - s))]; exact (Nat.two_pow_add_eq_or_of_lt ha _).symm
  have hsum : a + x * 2 ^ s % Bw < Bw := by
    rw [h2]
    have k1 : (x % 2 ^ (64 - s) + 1) * 2 ^ s ≤ 2 ^ (64 - s) * 2 ^ s := Nat.mul_le_mul_right _ (Nat.mod_lt _ hp2)
    rw [Nat.mul_comm (2 ^ (64 - s)), hpp, Nat.add_mul] at k1
    omega
  refine ⟨a + x * 2 ^ s % Bw, x / 2 ^ (64 - s), ?_, ?_, hsum, ?_, h3, ?_⟩
  · have e : ((x : Int) * 2 ^ s) = ((x * 2 ^ s : Nat) : Int) := by simp
    rw [e, Mul64.wrapM, bits_or_u64_nat _ _ (by omega) (by omega)]
    rw [← hor]; rfl
  · simp
  · unfold Bw; omega
  · omega

def UpPost (n s : Nat) (f : Nat → Nat) (w : World) (e : Ending) (w' : World) : Prop :=
  ∃ f' : Nat → Nat, e = .returned (.slice (some ⟨w.heap.size, 0, none⟩) ((n + 1 : Nat)) ((n + 1 : Nat))) ∧ Blk .u64 w' w.heap.size (n + 1) f' ∧ (∀ j, j < n + 1 → f' j < Bw) ∧ V Bw f' 0 (n + 1) = V Bw f 0 n * 2 ^ s ∧ w.grownBy w' none

theorem up_step {f fk : Nat → Nat} {k s d c : Nat} (HV : V Bw fk 0 (k + 1) = V Bw f 0 k * 2 ^ s) (hd : d + c * Bw = fk k + f k * 2 ^ s) : V Bw (upd (upd fk k d) (k + 1) c) 0 (k + 1 + 1) = V Bw f 0 (k + 1) * 2 ^ s := by
  have e1 : V Bw (upd (upd fk k d) (k + 1) c) 0 k = V Bw fk 0 k := by rw [V_upd_out (by omega), V_upd_out (by omega)]
  rw [V_succ, V_succ, e1, Nat.zero_add, Nat.zero_add, upd_at, upd_ne (by omega), upd_at, V_succ, Nat.zero_add, Nat.add_mul, ← HV, V_succ, Nat.zero_add]
  have : (d + c * Bw) * Bw ^ k = (fk k + f k * 2 ^ s) * Bw ^ k := by rw [hd]
  rw [Nat.pow_succ]
  grind

theorem up_gb {w wr : World} (h : w.grownBy wr none) {j j' : Nat} (u v : Value) : w.grownBy (((wr.setCell ⟨w.heap.size, j, none⟩ u).drew).setCell ⟨w.heap.size, j', none⟩ v) none := by
  refine below_gb (gb_new (b := wr) (g := w.heap.size) (gb_below h) (Nat.le_refl _) ?_)
  exact gb_set (gb_drew (gb_set (gb_refl _ _) u)) v

set_option maxHeartbeats 400000 in
theorem moveUp_c (p : Option Addr) (n cap s : Nat) (f : Nat → Nat) (w : World) (hn : n ≤ 1000000000) (hs : s ≤ 63) (h : At .u64 w p n f) (hf : ∀ j, j < n → f j < Bw) :
    Calls Try.prog 75 #[.slice p n cap, .int .i64 s] w (UpPost n s f w) := by
  have hmk : ∀ w, (Instr.makeSlice 23 (.int .i64 ((n : Int) + 1)) (.int .i64 ((n : Int) + 1))).run Try.prog w = .ok (.slice (some ⟨w.heap.size, 0, none⟩) (n + 1) (n + 1)) (w.alloc (.cells (madeCells #[.int .u64 0] (n + 1)) 40)) :=
    fun w => make64_run (n + 1) (by omega) w
  go_enter Try.func75, Try.ntmps75
  go_wp2
  clear hmk
  go_loopw [14] (fun i wr => ∃ (k : Nat) (fk : Nat → Nat), k ≤ n ∧ i = .int .i64 k ∧ Hid (Blk .u64 wr w.heap.size (n + 1) fk) ∧ Hid (∀ j, j < n + 1 → fk j < Bw) ∧ Hid (fk k < 2 ^ s) ∧ Hid (∀ j, k < j → j < n + 1 → fk j = 0) ∧ Hid (V Bw fk 0 (k + 1) = V Bw f 0 k * 2 ^ s) ∧ Hid (w.grownBy wr none))
    (fun i _ => n - (intOf i).toNat)
  case atStart => exact ⟨0, fun _ => 0, by omega, rfl, Blk_made _ _ _, fun _ _ => Bw_pos, Nat.pow_pos (by omega), fun _ _ _ => rfl, by simp [Hid, V], below_gb ((Below.refl _ _).alloc (Nat.le_refl _) _)⟩
  case round =>
    obtain ⟨k, fk, hk, rfl, HB, HF, HP, HZ, HV, HG⟩ := hrel
    by_cases hlt : k < n
    · rcases h with h | ⟨g, off, rfl, hg, hc⟩
      · omega
      have hcell := HG.out.cell (hc k hlt) (by simp)
      have hck := HB.out.cell (j := k) (by omega)
      have hfk := HB.out.free k
      have hfk1 := HB.out.free (k + 1)
      obtain ⟨d, c, e1, e2, hd, hc2, hc3, hdc⟩ := up_word (fk k) (f k) s hs (hf k hlt) HP.out
      have H2 := Lib.hid (up_step HV.out hdc)
      have HD := Lib.hid hd
      have HS := Lib.hid (lt_upd2 HF.out hd hc2 k)
      have HC3 := Lib.hid hc3
      have hck1 := (HB.out.set (j := k) d).cell (j := k + 1) (by omega)
      rw [upd_ne (by omega)] at hck1
      clear hc hf hdc hd hc3 hc2
      go_wp2
      go_region
      all_goals go_wp2
      all_goals go_roundw
      case rel => exact ⟨k + 1, _, by omega, by go_num, (HB.out.set d).drew.set c, HS, (by show upd _ _ _ _ < _; rw [upd_at]; exact HC3.out), (fun j h1 h2 => by rw [upd_ne (by omega), upd_ne (by omega)]; exact HZ.out j (by omega) h2), H2, up_gb HG.out _ _⟩
      case measure => simp [intOf]; omega
    · obtain rfl : k = n := by omega
      have hfin : UpPost k s f w (.returned (.slice (some ⟨w.heap.size, 0, none⟩) (k + 1) (k + 1))) wr := ⟨fk, rfl, HB.out, HF.out, HV.out, HG.out⟩
      have HFIN := Lib.hid hfin
      clear hfin hf
      go_wp2
      go_ret
      exact HFIN.out

/-- A word moved down, with what comes from the next one. -/
theorem down_word (x y s : Nat) (hs : s ≤ 63) (hx : x < Bw) (hy : y < Bw) : ∃ x0 d : Nat, ((x : Int) / 2 ^ s) = (x0 : Int) ∧ bits .or .u64 (x0 : Int) (IntKind.u64.wrap ((y : Int) * 2 ^ (64 - s))) = (d : Int) ∧ d < Bw ∧ x0 < Bw ∧ x0 * 2 ^ s + x % 2 ^ s = x ∧ d * 2 ^ s + x % 2 ^ s = x + y % 2 ^ s * Bw := by
  obtain ⟨h1, h2, h3⟩ := shl_parts y (64 - s) (by omega)
  have e64 : 64 - (64 - s) = s := by omega
  rw [e64] at h1 h2 h3
  have hp : 0 < 2 ^ s := Nat.pow_pos (by omega)
  have hp2 : 0 < 2 ^ (64 - s) := Nat.pow_pos (by omega)
  have hpp : 2 ^ (64 - s) * 2 ^ s = Bw := by rw [← Nat.pow_add, show 64 - s + s = 64 from by omega]; rfl
  have hdm := Nat.div_add_mod x (2 ^ s)
  have hx0 : x / 2 ^ s < 2 ^ (64 - s) := by rw [Nat.div_lt_iff_lt_mul hp, hpp]; exact hx
  have hle : x / 2 ^ s ≤ x := Nat.div_le_self _ _
  have hor : x / 2 ^ s ||| y * 2 ^ (64 - s) % Bw = x / 2 ^ s + y * 2 ^ (64 - s) % Bw := by
    rw [h2, Nat.or_comm, Nat.add_comm, Nat.mul_comm (y % 2 ^ s)]; exact (Nat.two_pow_add_eq_or_of_lt hx0 _).symm
  have hsum : x / 2 ^ s + y * 2 ^ (64 - s) % Bw < Bw := by
    rw [h2]
    have k1 : (y % 2 ^ s + 1) * 2 ^ (64 - s) ≤ 2 ^ s * 2 ^ (64 - s) := Nat.mul_le_mul_right _ (Nat.mod_lt _ hp)
    rw [Nat.mul_comm (2 ^ s), hpp, Nat.add_mul] at k1
    omega
  refine ⟨x / 2 ^ s, x / 2 ^ s + y * 2 ^ (64 - s) % Bw, by simp, ?_, hsum, by omega, by rw [Nat.mul_comm]; exact hdm, ?_⟩
  · have e : ((y : Int) * 2 ^ (64 - s)) = ((y * 2 ^ (64 - s) : Nat) : Int) := by simp
    rw [e, Mul64.wrapM, bits_or_u64_nat _ _ (by unfold Bw at hsum hx; omega) (by omega), ← hor]; rfl
  · rw [h2, Nat.add_mul, Nat.mul_assoc, hpp, Nat.mul_comm (x / 2 ^ s)]; omega

def DownPost (g off n M s : Nat) (f : Nat → Nat) (w : World) (e : Ending) (w' : World) : Prop :=
  ∃ f' : Nat → Nat, e = .returned (.tuple #[]) ∧ Blk .u64 w' g M f' ∧ (∀ j, j < M → f' j < Bw) ∧ (∀ j, (j < off ∨ off + n ≤ j) → f' j = f j) ∧ V Bw f' off n = V Bw f off n / 2 ^ s ∧ w.grownBy w' (some g)

/-- The word at off + k, if there is one. -/
def nxt (f : Nat → Nat) (off n k : Nat) : Nat := if k < n then f (off + k) else 0

theorem down_alg {A F d x S P B z r n2 : Nat} (HV : A * S + z = F + r * P) (hd : d * S + r = x + n2 * B) : (A + d * P) * S + z = F + x * P + n2 * (P * B) := by
  have : (d * S + r) * P = (x + n2 * B) * P := by rw [hd]
  grind

theorem down_step {f fk : Nat → Nat} {off n k s d : Nat} (hk : k < n) (HO : ∀ j, (j < off ∨ off + k ≤ j) → fk j = f j)
    (HV : V Bw fk off k * 2 ^ s + nxt f off n 0 % 2 ^ s = V Bw f off k + nxt f off n k % 2 ^ s * Bw ^ k) (hd : d * 2 ^ s + f (off + k) % 2 ^ s = f (off + k) + nxt f off n (k + 1) % 2 ^ s * Bw) :
    (∀ j, (j < off ∨ off + (k + 1) ≤ j) → upd fk (off + k) d j = f j) ∧ V Bw (upd fk (off + k) d) off (k + 1) * 2 ^ s + nxt f off n 0 % 2 ^ s = V Bw f off (k + 1) + nxt f off n (k + 1) % 2 ^ s * Bw ^ (k + 1) := by
  refine ⟨fun j hj => ?_, ?_⟩
  · rw [upd_ne (by omega)]; exact HO j (by omega)
  · have e : nxt f off n k = f (off + k) := by simp [nxt, hk]
    rw [e] at HV
    rw [V_succ, V_succ, upd_at, V_upd_out (by omega), Nat.pow_succ]
    exact down_alg HV hd

theorem upd_upd {f : Nat → Nat} {k a d : Nat} : upd (upd f k a) k d = upd f k d := by
  funext j; unfold upd; split <;> rfl

set_option maxHeartbeats 400000 in
theorem moveDown_c (g off n cap M s : Nat) (f : Nat → Nat) (w : World) (hB : Blk .u64 w g M f) (hl : off + n ≤ M) (hM : M ≤ 1099511627776) (hf : ∀ j, j < M → f j < Bw) (hs : s ≤ 63) :
    Calls Try.prog 77 #[.slice (some ⟨g, off, none⟩) n cap, .int .i64 s] w (DownPost g off n M s f w) := by
  go_enter Try.func77, Try.ntmps77
  go_wp2
  go_loopw [7] (fun i wr => ∃ (k : Nat) (fk : Nat → Nat), k ≤ n ∧ i = .int .i64 k ∧ Hid (Blk .u64 wr g M fk) ∧ Hid (∀ j, j < M → fk j < Bw) ∧ Hid (∀ j, (j < off ∨ off + k ≤ j) → fk j = f j) ∧
      Hid (V Bw fk off k * 2 ^ s + nxt f off n 0 % 2 ^ s = V Bw f off k + nxt f off n k % 2 ^ s * Bw ^ k) ∧ Hid (w.grownBy wr (some g)))
    (fun i _ => n - (intOf i).toNat)
  case atStart => exact ⟨0, f, by omega, rfl, hB, hf, fun _ _ => rfl, by simp [Hid, V], gb_refl _ _⟩
  case round =>
    obtain ⟨k, fk, hk, rfl, HB, HF, HO, HV, HG⟩ := hrel
    by_cases hlt : k < n
    · have hc1 := HB.out.cell (j := off + k) (by omega)
      have hf1 := HB.out.free (off + k)
      have ho1 := HO.out (off + k) (by omega)
      by_cases hl2 : k + 1 < n
      · obtain ⟨x0, d, e1, e2, hd, hx0, _, hdd⟩ := down_word (fk (off + k)) (fk (off + (k + 1))) s hs (HF.out _ (by omega)) (HF.out _ (by omega))
        have hnx : nxt f off n (k + 1) = fk (off + (k + 1)) := by rw [HO.out (off + (k + 1)) (by omega)]; simp [nxt, hl2]
        have hst := down_step (s := s) (d := d) hlt HO.out HV.out (by rw [hnx, ← ho1]; exact hdd)
        have H1 := Lib.hid hst.1
        have H2 := Lib.hid hst.2
        have HS := Lib.hid (lt_upd (k := off + k) HF.out hd)
        have HX := Lib.hid (HB.out.set (j := off + k) x0)
        have hc2 := HX.out.cell (j := off + (k + 1)) (by omega)
        rw [upd_ne (by omega)] at hc2
        have hc3 := HX.out.cell (j := off + k) (by omega)
        rw [upd_at] at hc3
        clear hst hdd hnx ho1 hd hx0 hf hB
        have HX2 : Hid (Blk .u64 ((wr.setCell ⟨g, off + k, none⟩ (.int .u64 x0)).setCell ⟨g, off + k, none⟩ (.int .u64 d)) g M (upd fk (off + k) d)) := by
          have := HX.out.set (j := off + k) d
          rw [upd_upd] at this; exact this
        go_wp2
        go_region
        all_goals go_wp2
        all_goals go_roundw
        case rel => exact ⟨k + 1, _, by omega, by go_num, HX2.out.drew, HS, H1, H2, gb_drew (gb_set (gb_set HG.out _) _)⟩
        case measure => simp [intOf]; omega
      · obtain ⟨x0, d, e1, e2, hd, hx0, hxx, hdd⟩ := down_word (fk (off + k)) 0 s hs (HF.out _ (by omega)) Bw_pos
        have hnx : nxt f off n (k + 1) = 0 := by simp [nxt]; omega
        have hst := down_step (s := s) (d := x0) hlt HO.out HV.out (by rw [hnx, ← ho1, Nat.zero_mod, Nat.zero_mul]; exact hxx)
        have H1 := Lib.hid hst.1
        have H2 := Lib.hid hst.2
        have HS := Lib.hid (lt_upd (k := off + k) HF.out hx0)
        clear hst hdd hnx ho1 hd hx0 hxx hf hB e2
        go_wp2
        go_roundw
        case rel => exact ⟨k + 1, _, by omega, by go_num, HB.out.set x0, HS, H1, H2, gb_set HG.out _⟩
        case measure => simp [intOf]; omega
    · obtain rfl : k = n := by omega
      have hfin : DownPost g off k M s f w (.returned (.tuple #[])) wr := by
        refine ⟨fk, rfl, HB.out, HF.out, HO.out, ?_, HG.out⟩
        have hv := HV.out
        have hp : 0 < 2 ^ s := Nat.pow_pos (by omega)
        have e0 : nxt f off k k = 0 := by simp [nxt]
        have hz : nxt f off k 0 % 2 ^ s < 2 ^ s := Nat.mod_lt _ hp
        rw [e0, Nat.zero_mod, Nat.zero_mul, Nat.add_zero] at hv
        rw [← hv, Nat.mul_comm, Nat.mul_add_div hp, Nat.div_eq_of_lt hz, Nat.add_zero]
      have HFIN := Lib.hid hfin
      clear hfin hf hB
      go_wp2
      go_end0
      exact HFIN.out

def ShortPost (g off n M d : Nat) (f : Nat → Nat) (w : World) (e : Ending) (w' : World) : Prop :=
  ∃ (r : Nat) (f' : Nat → Nat), e = .returned (.int .u64 r) ∧ r < d ∧ Blk .u64 w' g M f' ∧ (∀ j, j < M → f' j < Bw) ∧ (∀ j, (j < off ∨ off + n ≤ j) → f' j = f j) ∧ V Bw f' off n * d + r = V Bw f off n ∧ w.grownBy w' (some g)

theorem short_alg {A F d B q r r2 x : Nat} (HV : A * d + r = F) (hq : q * d + r2 = r * B + x) : (q + B * A) * d + r2 = x + B * F := by
  rw [← HV]
  have e : (q + B * A) * d + r2 = (q * d + r2) + B * (A * d) := by grind
  rw [e, hq]; grind

theorem short_step {f fk : Nat → Nat} {off n k d q r r2 : Nat} (hk : k < n) (HO : ∀ j, (j < off + (k + 1) ∨ off + n ≤ j) → fk j = f j) (HV : V Bw fk (off + (k + 1)) (n - (k + 1)) * d + r = V Bw f (off + (k + 1)) (n - (k + 1)))
    (hq : q * d + r2 = r * Bw + fk (off + k)) :
    (∀ j, (j < off + k ∨ off + n ≤ j) → upd fk (off + k) q j = f j) ∧ V Bw (upd fk (off + k) q) (off + k) (n - k) * d + r2 = V Bw f (off + k) (n - k) := by
  refine ⟨fun j hj => ?_, ?_⟩
  · rw [upd_ne (by omega)]; exact HO j (by omega)
  · obtain ⟨m, rfl⟩ : ∃ m, n = k + 1 + m := ⟨n - (k + 1), by omega⟩
    have e1 : k + 1 + m - k = m + 1 := by omega
    have e2 : k + 1 + m - (k + 1) = m := by omega
    rw [e2] at HV
    rw [e1, V_front, V_front, upd_at, V_upd_out (by omega), Nat.add_assoc off k 1, ← HO (off + k) (by omega)]
    exact short_alg HV hq

theorem heap_cell {w w' : World} (h : w'.heap = w.heap) (a : Addr) : w'.cell? a = w.cell? a := by simp [World.cell?, h]
theorem heap_frozen {w w' : World} (h : w'.heap = w.heap) (a : Addr) : w'.frozen? a = w.frozen? a := by simp [World.frozen?, h]
theorem heap_blk {k : IntKind} {w w' : World} {g M : Nat} {f : Nat → Nat} (h : w'.heap = w.heap) (hb : Blk k w g M f) : Blk k w' g M f := by
  unfold Blk; rw [h]; exact hb

set_option maxHeartbeats 400000 in
theorem divideInPlace_c (g off n cap M d : Nat) (f : Nat → Nat) (w : World) (hB : Blk .u64 w g M f) (hl : off + n ≤ M) (hM : M ≤ 1099511627776) (hf : ∀ j, j < M → f j < Bw) (hd : 0 < d) (hdB : d < Bw) :
    Calls Try.prog 62 #[.slice (some ⟨g, off, none⟩) n cap, .int .u64 d] w (ShortPost g off n M d f w) := by
  go_enter Try.func62, Try.ntmps62
  go_wp2
  go_loopw [5, 6] (fun r i wr => ∃ (k rn : Nat) (fk : Nat → Nat), k ≤ n ∧ i = .int .i64 ((k : Int) - 1) ∧ r = .int .u64 rn ∧ rn < d ∧ Hid (Blk .u64 wr g M fk) ∧ Hid (∀ j, j < M → fk j < Bw) ∧ Hid (∀ j, (j < off + k ∨ off + n ≤ j) → fk j = f j) ∧
      Hid (V Bw fk (off + k) (n - k) * d + rn = V Bw f (off + k) (n - k)) ∧ Hid (w.grownBy wr (some g)))
    (fun _ i _ => (intOf i + 1).toNat)
  case atStart => exact ⟨n, 0, f, by omega, rfl, rfl, hd, hB, hf, fun _ _ => rfl, by simp [Hid, V], gb_refl _ _⟩
  case round =>
    obtain ⟨k1, rn, fk, hk1, rfl, rfl, hr, HB, HF, HO, HV, HG⟩ := hrel
    by_cases h0 : 0 < k1
    · obtain ⟨k, rfl⟩ : ∃ k, k1 = k + 1 := ⟨k1 - 1, by omega⟩
      have hc1 := HB.out.cell (j := off + k) (by omega)
      have hf1 := HB.out.free (off + k)
      have hx := HF.out (off + k) (by omega)
      have HST := Lib.hid (fun q r2 h => short_step (q := q) (r2 := r2) (show k < n by omega) HO.out HV.out h)
      have HDV := Lib.hid (fun w => div64_c rn (fk (off + k)) d w hr hdB hx)
      have hfd := HF.out
      have HFD := Lib.hid hfd
      have hkk : ((k + 1 : Nat) : Int) - 1 = (k : Int) := by omega
      rw [hkk]
      clear hf hB hfd hx hkk
      go_wp2_with (go_at_call 71; refine (HDV.out _).mono ?_; rintro e w1 ⟨q, r2, rfl, hq, hr2, hdv, m, hw1⟩; (have hh1 : w1.heap = wr.heap := by rw [hw1]; rfl); (have hg1 : wr.grownBy w1 none := by rw [hw1]; exact gb_drewN (gb_refl _ _) _); clear hw1; have HQ := Lib.hid hq; have HDD := Lib.hid hdv; have HH := Lib.hid hh1; have HG1 := Lib.hid hg1; have hf2 := (heap_frozen hh1 _).trans hf1; have hc2 := (heap_cell hh1 _).trans hc1; clear hq hdv hh1 hg1 hf1 hc1)
      go_roundw
      case rel => exact ⟨k, r2, _, by omega, rfl, rfl, hr2, (heap_blk HH.out HB.out).set q, lt_upd HF.out HQ.out, (HST.out q r2 HDD.out).1, (HST.out q r2 HDD.out).2, gb_set (gb_trans HG.out (below_gb (gb_below HG1.out))) _⟩
      case measure => simp [intOf]
    · obtain rfl : k1 = 0 := by omega
      have hfin : ShortPost g off n M d f w (.returned (.int .u64 rn)) wr := ⟨rn, fk, rfl, hr, HB.out, HF.out, HO.out, HV.out, HG.out⟩
      have HFIN := Lib.hid hfin
      clear hfin hf hB
      go_wp2
      go_ret
      exact HFIN.out
end Go.Proofs.Ytaheeccpihbcaaa
