/- Products of numbers. -/
import Derived.Test.YtkonfkcaefjabaaSums
namespace Go.Proofs.Ytkonfkcaefjabaa
open Go.RowKit Mx

theorem prod_alg {A B F x c P C Vf Vk Y : Nat} (h1 : F + P * Vk = A * B) (h2 : Vf + c * Y = Vk + x * B) : F + P * Vf + c * (P * Y) = (A + x * P) * B := by
  have e : F + P * Vf + c * (P * Y) = F + P * (Vf + c * Y) := by grind
  rw [e, h2]
  have e2 : F + P * (Vk + x * B) = (F + P * Vk) + x * P * B := by grind
  rw [e2, h1, Nat.add_mul]

theorem prod_step {f fk f' : Nat → Nat} {i lb c Vb : Nat} (HV : V Bw fk 0 (i + lb) = V Bw f 0 i * Vb) (h2 : V Bw f' i lb + c * Bw ^ lb = V Bw fk i lb + f i * Vb) (HO : ∀ j, (j < i ∨ i + lb ≤ j) → f' j = fk j) :
    V Bw (upd f' (i + lb) c) 0 (i + 1 + lb) = V Bw f 0 (i + 1) * Vb := by
  have e1 : i + 1 + lb = i + lb + 1 := by omega
  rw [e1, V_succ, Nat.zero_add, upd_at, V_upd_out (by omega), V_split i, V_succ, Nat.zero_add, V_congr (f := f') (g := fk) (o := 0) (p := 0) (fun j hj => HO _ (by omega)), Nat.pow_add]
  rw [V_split i, Nat.zero_add] at HV
  exact prod_alg (C := 0) HV h2

theorem prod_zero {fk f' : Nat → Nat} {i lb c M : Nat} (HZ : ∀ j, i + lb ≤ j → j < M → fk j = 0) (HO : ∀ j, (j < i ∨ i + lb ≤ j) → f' j = fk j) : ∀ j, i + 1 + lb ≤ j → j < M → upd f' (i + lb) c j = 0 := by
  intro j h1 h2
  rw [upd_ne (by omega), HO j (by omega)]
  exact HZ j (by omega) h2

set_option maxHeartbeats 1000000 in
theorem product_w (pa pb : Option Addr) (la lb capa capb : Nat) (f fb : Nat → Nat) (w : World) (hla : la ≤ 100000) (hlb : lb ≤ 100000) (ha : At .u64 w pa la f) (hb : At .u64 w pb lb fb) (hf : ∀ j, j < la → f j < Bw) (hfb : ∀ j, j < lb → fb j < Bw) :
    Calls Try.prog 51 #[.slice pa la capa, .slice pb lb capb] w (NumPost (V Bw f 0 la * V Bw fb 0 lb) w) := by
  have hmk : ∀ w, (Instr.makeSlice 23 (.int .i64 ((la : Int) + (lb : Int))) (.int .i64 ((la : Int) + (lb : Int)))).run Try.prog w = .ok (.slice (some ⟨w.heap.size, 0, none⟩) (la + lb) (la + lb)) (w.alloc (.cells (madeCells #[.int .u64 0] (la + lb)) 40)) :=
    fun w => by have := make64_run (la + lb) (by omega) w; rwa [Int.natCast_add] at this
  have HB := Lib.hid hb; have HF := Lib.hid hf; have HFB := Lib.hid hfb
  have HPB := Lib.hid (at_apart hb)
  clear hb hf hfb
  go_enter Try.func51, Try.ntmps51
  go_wp2_with fail
  clear hmk
  go_loopw [16] (fun i wr => ∃ (k : Nat) (fk : Nat → Nat), k ≤ la ∧ i = .int .i64 k ∧ Hid (Blk .u64 wr w.heap.size (la + lb) fk) ∧ Hid (∀ j, j < la + lb → fk j < Bw) ∧ Hid (∀ j, k + lb ≤ j → j < la + lb → fk j = 0) ∧
      Hid (V Bw fk 0 (k + lb) = V Bw f 0 k * V Bw fb 0 lb) ∧ Hid (w.grownBy wr none))
    (fun i _ => la - (intOf i).toNat)
  case atStart => exact ⟨0, fun _ => 0, by omega, rfl, Blk_made _ _ _, fun _ _ => Bw_pos, fun _ _ _ => rfl, by simp only [Hid, V, Nat.zero_mul]; exact V_zeros (fun _ _ => rfl), below_gb ((Below.refl _ _).alloc (Nat.le_refl _) _)⟩
  case round =>
    obtain ⟨k, fk, hk, rfl, HBk, HFk, HZ, HV, HG⟩ := hrel
    by_cases hlt : k < la
    · rcases ha with h | ⟨g, off, rfl, hg, hc⟩
      · omega
      have hcell := HG.out.cell (hc k hlt) (by simp)
      have HX := Lib.hid (HF.out k hlt)
      clear hc
      go_wp2_with (go_at_call 66; refine (addTimes_c w.heap.size k lb _ (la + lb) fk pb capb fb (f k) _ HBk.out (by omega) (by omega) HFk.out (HB.out.grown HG.out (by simp)) HFB.out HPB.out HX.out).mono ?_; rintro e w3 ⟨c, f', rfl, hc, hB3, hF3, hO3, hV3, hG3⟩; have HB3 := Lib.hid hB3; have HF3 := Lib.hid hF3; have HO3 := Lib.hid hO3; have HV3 := Lib.hid hV3; have HG3 := Lib.hid hG3; have HC := Lib.hid hc; have hcc := hB3.cell (j := k + lb) (by omega); have hff := hB3.free (k + lb); clear hB3 hF3 hO3 hV3 hG3 hc)
      go_roundw
      case rel => exact ⟨k + 1, _, by omega, by go_num, HB3.out.set c, lt_upd HF3.out HC.out, prod_zero HZ.out HO3.out, prod_step HV.out HV3.out HO3.out, below_gb (gb_new (gb_below HG.out) (Nat.le_refl _) (gb_set HG3.out _))⟩
      case measure => simp [intOf]; omega
    · obtain rfl : k = la := by omega
      go_wp2_with (go_at_call 61; refine (trim_num _ _ _ fk _ (by omega) (by unfold maxLen; omega) HBk.out.at0 HFk.out).mono ?_; rintro e w4 ⟨v, rfl, hv, rfl⟩)
      go_ret
      exact ⟨v, rfl, by rw [← HV.out]; exact hv, HG.out⟩

theorem product_c (a b : Value) (A B : Nat) (w : World) (ha : Num w a A) (hb : Num w b B) (hA : A < Lim) (hB : B < Lim) : Calls Try.prog 51 #[a, b] w (NumPost (A * B) w) := by
  obtain ⟨p1, n1, c1, f1, rfl, _, _, a1, l1, t1, rfl⟩ := ha
  obtain ⟨p2, n2, c2, f2, rfl, _, _, a2, l2, t2, rfl⟩ := hb
  exact product_w p1 p2 n1 n2 c1 c2 f1 f2 w (lim_len t1 hA) (lim_len t2 hB) a1 a2 l1 l2
end Go.Proofs.Ytkonfkcaefjabaa
