/- The document's products. -/
import Derived.Test.YtkonfkcaefjabaaRef3
import Derived.Test.YtkonfkcaefjabaaRef2
import Derived.BigRegion
namespace Go.Proofs.Ytkonfkcaefjabaa
open Go.RowKit Mx

theorem V_upd_add {b n p x : Nat} {f : Nat → Nat} (hp : p < n) : V b (upd f p (f p + x)) 0 n = V b f 0 n + x * b ^ p := by
  induction n with
  | zero => omega
  | succ n ih =>
    rw [V_succ, V_succ, Nat.zero_add]
    by_cases e : p = n
    · subst e
      rw [upd_at, V_upd_out (by omega), Nat.add_mul]; omega
    · rw [ih (by omega), upd_ne (by omega)]; omega

theorem V_upd_sub {b n p : Nat} {f : Nat → Nat} (hp : p + 1 < n) (hb : 0 < b) : V b (upd (upd f (p + 1) (f (p + 1) + f p / b)) p (f p % b)) 0 n = V b f 0 n := by
  obtain ⟨g, hg⟩ : ∃ g, g = upd f p (f p % b) := ⟨_, rfl⟩
  have h1 : V b f 0 n = V b (upd g p (g p + b * (f p / b))) 0 n := by
    refine V_congr fun j hj => ?_
    simp only [Nat.zero_add, hg]
    by_cases e : j = p
    · subst e; rw [upd_at, upd_at]; have := Nat.mod_add_div (f j) b; omega
    · rw [upd_ne e, upd_ne e]
  have h2 : V b (upd (upd f (p + 1) (f (p + 1) + f p / b)) p (f p % b)) 0 n = V b (upd g (p + 1) (g (p + 1) + f p / b)) 0 n := by
    refine V_congr fun j hj => ?_
    simp only [Nat.zero_add, hg]
    by_cases e : j = p
    · subst e; rw [upd_at, upd_ne (by omega), upd_at]
    · rw [upd_ne e]
      by_cases e2 : j = p + 1
      · subst e2; rw [upd_at, upd_at, upd_ne (by omega)]
      · rw [upd_ne e2, upd_ne e2, upd_ne e]
  rw [h1, h2, V_upd_add (p := p + 1) hp, V_upd_add (p := p) (by omega), Nat.pow_succ]
  congr 1
  rw [Nat.mul_comm b, Nat.mul_assoc, Nat.mul_comm b]

theorem makeI_run (n : Nat) (hn : n ≤ 1099511627776) (w : World) : (Instr.makeSlice 29 (.int .i64 (n : Int)) (.int .i64 (n : Int))).run Try.prog w = .ok (.slice (some ⟨w.heap.size, 0, none⟩) n n) (w.alloc (.cells (madeCells #[.int .i64 0] n) 3)) :=
  run_make_row' 29 3 (.int .i64 0) 8 Try.underlying29 infoI rfl .i64 .i64 n (by omega) (by omega) w

theorem BlkI_made (w : World) (n : Nat) (T : TypeId) : Blk .i64 (w.alloc (.cells (madeCells #[.int .i64 0] n) T)) w.heap.size n (fun _ => 0) := by
  refine ⟨_, T, heap_alloc_new w _, size_madeCells _ _, fun j hj => ?_⟩
  rw [← Array.getElem?_toList, toList_madeCells_one]
  simp [hj]

theorem sg_abs (Z : Int) : sg Z * (Z.natAbs : Int) = Z := by
  unfold sg
  by_cases h : Z < 0
  · rw [if_pos h]; omega
  · rw [if_neg h]
    by_cases h0 : Z = 0
    · rw [if_pos h0, h0]; rfl
    · rw [if_neg h0]; omega

theorem sg_range (Z : Int) : sg Z = -1 ∨ sg Z = 0 ∨ sg Z = 1 := by
  unfold sg; split
  · exact .inl rfl
  · split
    · exact .inr (.inl rfl)
    · exact .inr (.inr rfl)

theorem sg_zero {Z : Int} (h : sg Z = 0) : Z = 0 := by
  unfold sg at h
  by_cases h1 : Z < 0
  · rw [if_pos h1] at h; cases h
  · rw [if_neg h1] at h
    by_cases h0 : Z = 0
    · exact h0
    · rw [if_neg h0] at h; cases h

theorem sg_times (A B : Int) : sg A * sg B = sg (A * B) := by
  rcases Int.lt_trichotomy A 0 with ha | ha | ha
  · rcases Int.lt_trichotomy B 0 with hb | hb | hb
    · have := Int.mul_pos_of_neg_of_neg ha hb
      unfold sg; rw [if_pos ha, if_pos hb, if_neg (by omega), if_neg (by omega)]; rfl
    · subst hb; simp [sg]
    · have := Int.mul_neg_of_neg_of_pos ha hb
      unfold sg; rw [if_pos ha, if_neg (by omega), if_neg (by omega), if_pos this]; rfl
  · subst ha; simp [sg]
  · rcases Int.lt_trichotomy B 0 with hb | hb | hb
    · have := Int.mul_neg_of_pos_of_neg ha hb
      unfold sg; rw [if_neg (by omega), if_neg (by omega), if_pos hb, if_pos this]; rfl
    · subst hb; simp [sg]
    · have := Int.mul_pos ha hb
      unfold sg; rw [if_neg (by omega), if_neg (by omega), if_neg (by omega), if_neg (by omega), if_neg (by omega), if_neg (by omega)]; rfl

/-- How many digits there are. -/
theorem z_len {n K : Nat} {f : Nat → Nat} (t : n = 0 ∨ f (n - 1) ≠ 0) (h : V 10 f 0 n < 10 ^ K) : n ≤ K := by
  rcases V_top (b := 10) (f := f) (o := 0) (n := n) (by simpa using t) with e | e
  · omega
  · rcases Nat.lt_or_ge K n with hk | hk
    · have : 10 ^ K ≤ 10 ^ (n - 1) := Nat.pow_le_pow_right (by omega) (by omega)
      omega
    · exact hk

theorem mul_inner {T F a b P Q B : Nat} : T * F + a * P * (B + b * Q) = T * F + a * P * B + a * b * (P * Q) := by
  rw [Nat.mul_add, Nat.add_assoc]
  congr 2
  rw [Nat.mul_assoc, Nat.mul_assoc]
  congr 1
  rw [← Nat.mul_assoc, Nat.mul_comm P b, Nat.mul_assoc]

set_option maxRecDepth 100000 in
set_option maxHeartbeats 4000000 in
theorem RMul_c (x y : Value) (A B : Int) (w : World) (hx : IsZ w x A) (hy : IsZ w y B) (hA : A.natAbs < 10 ^ 250) (hB : B.natAbs < 10 ^ 250) : Calls Try.prog 29 #[x, y] w (ZPost (A * B) w) := by
  obtain ⟨sa, pa, n, ca, rfl, HX⟩ := z_parts hx
  obtain ⟨sb, pb, m, cb, rfl, HY⟩ := z_parts hy
  obtain ⟨ea, hna, hca, f, fat, ff, ft, fv⟩ := z_open hx
  obtain ⟨eb, hmb, hcb, fb, bat, bf, bt, bv⟩ := z_open hy
  have hn := z_len ft (by rw [fv]; exact hA)
  have hm := z_len bt (by rw [bv]; exact hB)
  have hmk : ∀ w, (Instr.makeSlice 29 (.int .i64 ((n : Int) + (m : Int) + 1)) (.int .i64 ((n : Int) + (m : Int) + 1))).run Try.prog w = .ok (.slice (some ⟨w.heap.size, 0, none⟩) (n + m + 1) (n + m + 1)) (w.alloc (.cells (madeCells #[.int .i64 0] (n + m + 1)) 3)) :=
    fun w => by have := makeI_run (n + m + 1) (by omega) w; rwa [Int.natCast_add, Int.natCast_add] at this
  have hg3 : w.grownBy (((w.alloc (.cells #[.int .i64 sa, .slice pa n ca] 31)).alloc (.cells #[.int .i64 sb, .slice pb m cb] 31)).alloc (.cells #[.int .i64 0, .slice none 0 0] 31)) none := gb_alloc (gb_alloc (World.grownBy_alloc w _ none) _) _
  have hb0 : (((w.alloc (.cells #[.int .i64 sa, .slice pa n ca] 31)).alloc (.cells #[.int .i64 sb, .slice pb m cb] 31)).alloc (.cells #[.int .i64 0, .slice none 0 0] 31)).heap[w.heap.size]? = some (.cells #[.int .i64 sa, .slice pa n ca] 31 (0, 0)) :=
    ((gb_alloc (World.grownBy_alloc (w.alloc (.cells #[.int .i64 sa, .slice pa n ca] 31)) (.cells #[.int .i64 sb, .slice pb m cb] 31) none) _).block _ (by simp) (by simp)).trans (top1 _ _)
  have hb1 : (((w.alloc (.cells #[.int .i64 sa, .slice pa n ca] 31)).alloc (.cells #[.int .i64 sb, .slice pb m cb] 31)).alloc (.cells #[.int .i64 0, .slice none 0 0] 31)).heap[w.heap.size + 1]? = some (.cells #[.int .i64 sb, .slice pb m cb] 31 (0, 0)) :=
    ((World.grownBy_alloc _ (.cells #[.int .i64 0, .slice none 0 0] 31) none).block _ (by simp) (by simp)).trans (top2 _ _ _)
  have hb2 := top3 w (.cells #[.int .i64 sa, .slice pa n ca] 31) (.cells #[.int .i64 sb, .slice pb m cb] 31) (.cells #[.int .i64 0, .slice none 0 0] 31)
  have FAT := Lib.hid (fat.grown hg3 (by simp)); have BAT := Lib.hid (bat.grown hg3 (by simp))
  have FF := Lib.hid ff; have BF := Lib.hid bf; have HG3 := Lib.hid hg3
  have HB0 := Lib.hid hb0; have HB1 := Lib.hid hb1; have HB2 := Lib.hid hb2
  have hE : sg (A * B) * (V 10 f 0 n * V 10 fb 0 m : Nat) = A * B := by
    rw [fv, bv, ← Int.natAbs_mul]; exact sg_abs _
  have hE0 : sg (A * B) = 0 → V 10 f 0 n * V 10 fb 0 m = 0 := by
    intro h
    rw [fv, bv, ← Int.natAbs_mul, sg_zero h]; rfl
  have hw1 : IntKind.i64.wrap (sa * sb) = sg (A * B) := by
    rw [ea, eb, sg_times]
    rcases sg_range (A * B) with h | h | h <;> rw [h] <;> rfl
  have HE := Lib.hid hE; have HE0 := Lib.hid hE0; have HW1 := Lib.hid hw1; have HSR := Lib.hid (sg_range (A * B))
  have hsz3 : (((w.alloc (.cells #[.int .i64 sa, .slice pa n ca] 31)).alloc (.cells #[.int .i64 sb, .slice pb m cb] 31)).alloc (.cells #[.int .i64 0, .slice none 0 0] 31)).heap.size = w.heap.size + 1 + 1 + 1 := by simp
  unfold maxLen at hca hcb
  clear hx hy HX HY fat bat ff bf ft bt fv bv hA hB hg3 hb0 hb1 hb2 hE hE0 hw1 ea eb
  go_enter Try.func29, Try.ntmps29
  go_wp2_with fail
  clear hmk
  generalize (((w.alloc (.cells #[.int .i64 sa, .slice pa n ca] 31)).alloc (.cells #[.int .i64 sb, .slice pb m cb] 31)).alloc (.cells #[.int .i64 0, .slice none 0 0] 31)) = W3 at *
  have HBM := Lib.hid (hsz3 ▸ BlkI_made W3 (n + m + 1) 3 : Blk .i64 (W3.alloc (.cells (madeCells #[.int .i64 0] (n + m + 1)) 3)) (w.heap.size + 1 + 1 + 1) (n + m + 1) (fun _ => 0))
  have HSZ3 := Lib.hid hsz3
  go_loopw [6] (fun i wr => ∃ (k : Nat) (fk : Nat → Nat), k ≤ n ∧ i = .int .i64 k ∧ Hid (Blk .i64 wr (w.heap.size + 1 + 1 + 1) (n + m + 1) fk) ∧ Hid (∀ j, fk j ≤ 81 * k) ∧ Hid (V 10 fk 0 (n + m + 1) = V 10 f 0 k * V 10 fb 0 m) ∧ Hid (W3.grownBy wr none)) (fun i _ => n - (intOf i).toNat)
  case atStart => exact ⟨0, fun _ => 0, by omega, rfl, HBM, fun _ => Nat.zero_le _, by show _ = _; rw [V_zero, Nat.zero_mul]; exact V_zeros (fun _ _ => rfl), World.grownBy_alloc _ _ none⟩
  case round =>
    clear HBM
    obtain ⟨k, fk, hk, rfl, HBK, HLE, HV, HG⟩ := hrel
    obtain ⟨x0, x1, -⟩ := zcells_of ((HG.out.block _ (Array.getElem?_eq_some_iff.1 HB0.out).1 (by simp)).trans HB0.out)
    obtain ⟨y0, y1, -⟩ := zcells_of ((HG.out.block _ (Array.getElem?_eq_some_iff.1 HB1.out).1 (by simp)).trans HB1.out)
    by_cases hlt : k < n
    · go_wp2_with fail
      go_loopw [7] (fun i wr => ∃ (q : Nat) (fq : Nat → Nat), q ≤ m ∧ i = .int .i64 q ∧ Hid (Blk .i64 wr (w.heap.size + 1 + 1 + 1) (n + m + 1) fq) ∧ Hid (∀ j, fq j ≤ 81 * k + if j < k + q then 81 else 0) ∧ Hid (V 10 fq 0 (n + m + 1) = V 10 f 0 k * V 10 fb 0 m + f k * 10 ^ k * V 10 fb 0 q) ∧ Hid (W3.grownBy wr none)) (fun i _ => m - (intOf i).toNat)
      case atStart => exact ⟨0, fk, by omega, rfl, HBK, fun j => Nat.le_trans (HLE.out j) (Nat.le_add_right _ _), by show _ = _; rw [HV.out, V_zero, Nat.mul_zero, Nat.add_zero], HG⟩
      case round =>
        clear HBK HLE HV HG x0 x1 y0 y1
        obtain ⟨q, fq, hq, rfl, HBK, HLE, HV, HG⟩ := hrel
        obtain ⟨x0, x1, -⟩ := zcells_of ((HG.out.block _ (Array.getElem?_eq_some_iff.1 HB0.out).1 (by simp)).trans HB0.out)
        obtain ⟨y0, y1, -⟩ := zcells_of ((HG.out.block _ (Array.getElem?_eq_some_iff.1 HB1.out).1 (by simp)).trans HB1.out)
        by_cases hlq : q < m
        · obtain ⟨ga, oa, rfl, hga, hcA⟩ : ∃ g o, pa = some ⟨g, o, none⟩ ∧ g < W3.heap.size ∧ ∀ j, j < n → W3.cell? ⟨g, o + j, none⟩ = some (.int .i64 (f j)) := by
            rcases FAT.out with h | h
            · omega
            · exact h
          obtain ⟨gb, ob, rfl, hgb, hcB⟩ : ∃ g o, pb = some ⟨g, o, none⟩ ∧ g < W3.heap.size ∧ ∀ j, j < m → W3.cell? ⟨g, o + j, none⟩ = some (.int .i64 (fb j)) := by
            rcases BAT.out with h | h
            · omega
            · exact h
          have a0 := HG.out.cell (hcA k hlt) (by simp)
          have b0 := HG.out.cell (hcB q hlq) (by simp)
          have r0 := HBK.out.cell (j := k + q) (by omega)
          have r1 := HBK.out.free (k + q)
          have hfa := FF.out k hlt
          have hfb := BF.out q hlq
          have hle := HLE.out (k + q)
          rw [if_neg (by omega)] at hle
          have hxy : f k * fb q ≤ 81 := Nat.le_trans (Nat.mul_le_mul (show f k ≤ 9 by omega) (show fb q ≤ 9 by omega)) (by omega)
          have hstep : V 10 (upd fq (k + q) (fq (k + q) + f k * fb q)) 0 (n + m + 1) = V 10 f 0 k * V 10 fb 0 m + f k * 10 ^ k * V 10 fb 0 (q + 1) := by
            rw [V_upd_add (by omega), HV.out, V_succ (n := q), Nat.zero_add, mul_inner, Nat.pow_add]
          have hcast : ((f k : Int) * (fb q : Int)) = ((f k * fb q : Nat) : Int) := (Int.natCast_mul _ _).symm
          have HST := Lib.hid hstep
          clear hcA hcB hstep HV
          generalize f k = a at *
          generalize fb q = b at *
          obtain ⟨x, hx⟩ : ∃ x, a * b = x := ⟨_, rfl⟩
          rw [hx] at hxy hcast HST
          generalize fq (k + q) = u at *
          have hw2 : IntKind.i64.wrap ((a : Int) * (b : Int)) = (x : Int) := by rw [hcast]; exact IntWalk.i64_in _ (by omega)
          have i2 : (0 : Int) ≤ (x : Int) := by omega
          have i3 : (x : Int) ≤ 81 := by omega
          clear hx hcast
          have hb2 : Blk .i64 (wr.setCell ⟨w.heap.size + 1 + 1 + 1, k + q, none⟩ (.int .i64 ((u : Int) + (x : Int)))).drew (w.heap.size + 1 + 1 + 1) (n + m + 1) (upd fq (k + q) (u + x)) := by
            have := (HBK.out.set (j := k + q) (u + x)).drew
            rwa [Int.natCast_add] at this
          have HB2 := Lib.hid hb2
          have hle3 : ∀ j, upd fq (k + q) (u + x) j ≤ 81 * k + if j < k + (q + 1) then 81 else 0 := by
            intro j
            by_cases e : j = k + q
            · subst e; rw [upd_at, if_pos (by omega)]; omega
            · rw [upd_ne e]
              have := HLE.out j
              by_cases e2 : j < k + q
              · rw [if_pos e2] at this; rw [if_pos (by omega)]; exact this
              · rw [if_neg e2] at this; rw [if_neg (by omega)]; exact this
          have HLE3 := Lib.hid hle3
          have HG2 := Lib.hid (gb_drew (below_gb (row := none) (gb_new (gb_below HG.out) (Nat.le_of_eq HSZ3.out) (gb_set (j := k + q) (gb_refl wr _) (.int .i64 ((u : Int) + (x : Int)))))))
          clear hb2 hle3
          go_wp2_with fail
          go_region
          go_wp2
          go_roundw
          case rel => exact ⟨q + 1, _, by omega, by go_num, HB2, HLE3, HST, HG2⟩
          case measure => simp [intOf]; omega
        · obtain rfl : q = m := by omega
          have hv2 : V 10 fq 0 (n + q + 1) = V 10 f 0 (k + 1) * V 10 fb 0 q := by
            rw [HV.out, V_succ, Nat.zero_add, Nat.add_mul]
          have HV2 := Lib.hid hv2
          clear hv2
          go_wp2_with fail
          go_roundw
          case rel => exact ⟨k + 1, fq, by omega, by go_num, HBK, fun j => (by have := HLE.out j; split at this <;> omega), HV2, HG⟩
          case measure => simp [intOf]; omega
    · obtain rfl : k = n := by omega
      go_wp2_with fail
      clear x0 x1 y0 y1
      go_loopw [8] (fun i wr => ∃ (q : Nat) (fq : Nat → Nat), q ≤ k + m ∧ i = .int .i64 q ∧ Hid (Blk .i64 wr (w.heap.size + 1 + 1 + 1) (k + m + 1) fq) ∧ Hid (∀ j, j < q → fq j < 10) ∧ Hid (∀ j, fq j ≤ 81 * k + if j = q then 9 * k else 0) ∧ Hid (V 10 fq 0 (k + m + 1) = V 10 f 0 k * V 10 fb 0 m) ∧ Hid (W3.grownBy wr none)) (fun i _ => k + m - (intOf i).toNat)
      case atStart => exact ⟨0, fk, by omega, rfl, HBK, fun j h => by omega, fun j => Nat.le_trans (HLE.out j) (Nat.le_add_right _ _), HV, HG⟩
      case round =>
        clear HBK HLE HV HG
        obtain ⟨q, fq, hq, rfl, HBK, HDG, HLE, HV, HG⟩ := hrel
        by_cases hlq : q < k + m
        · have r0 := HBK.out.cell (j := q + 1) (by omega)
          have r1 := HBK.out.free (q + 1)
          have r2 := HBK.out.cell (j := q) (by omega)
          have r3 := HBK.out.free q
          have hle := HLE.out (q + 1)
          rw [if_neg (by omega)] at hle
          have hle2 := HLE.out q
          rw [if_pos rfl] at hle2
          have HV2 := Lib.hid (show V 10 (upd (upd fq (q + 1) (fq (q + 1) + fq q / 10)) q (fq q % 10)) 0 (k + m + 1) = V 10 f 0 k * V 10 fb 0 m from (V_upd_sub (by omega) (by omega)).trans HV.out)
          clear HV
          generalize hu : fq q = u at *
          generalize ht : fq (q + 1) = t at *
          have hb2 : Blk .i64 ((wr.setCell ⟨w.heap.size + 1 + 1 + 1, q + 1, none⟩ (.int .i64 ((t : Int) + (u : Int) / 10))).setCell ⟨w.heap.size + 1 + 1 + 1, q, none⟩ (.int .i64 ((u : Int) % 10))).drew (w.heap.size + 1 + 1 + 1) (k + m + 1) (upd (upd fq (q + 1) (t + u / 10)) q (u % 10)) := by
            have := ((HBK.out.set (j := q + 1) (t + u / 10)).set (j := q) (u % 10)).drew
            rwa [show ((t + u / 10 : Nat) : Int) = (t : Int) + (u : Int) / 10 by omega, show ((u % 10 : Nat) : Int) = (u : Int) % 10 by omega] at this
          have HBN := Lib.hid hb2
          have hd3 : ∀ j, j < q + 1 → upd (upd fq (q + 1) (t + u / 10)) q (u % 10) j < 10 := by
            intro j hj
            by_cases e : j = q
            · subst e; rw [upd_at]; omega
            · rw [upd_ne e, upd_ne (by omega)]; exact HDG.out j (by omega)
          have hle3 : ∀ j, upd (upd fq (q + 1) (t + u / 10)) q (u % 10) j ≤ 81 * k + if j = q + 1 then 9 * k else 0 := by
            intro j
            by_cases e : j = q
            · subst e; rw [upd_at, if_neg (by omega)]; omega
            · rw [upd_ne e]
              by_cases e2 : j = q + 1
              · subst e2; rw [upd_at, if_pos rfl]; omega
              · rw [upd_ne e2, if_neg e2]
                have := HLE.out j
                rwa [if_neg e] at this
          have HD3 := Lib.hid hd3; have HLE3 := Lib.hid hle3
          have HG2 := Lib.hid (gb_drew (below_gb (row := none) (gb_new (gb_below HG.out) (Nat.le_of_eq HSZ3.out) (gb_set (j := q) (gb_set (j := q + 1) (gb_refl wr _) (.int .i64 ((t : Int) + (u : Int) / 10))) (.int .i64 ((u : Int) % 10))))))
          clear hb2 hd3 hle3
          go_wp2_with fail
          go_region
          go_wp2
          go_roundw
          case rel => exact ⟨q + 1, _, by omega, by go_num, HBN, HD3, HLE3, HV2, HG2⟩
          case measure => simp [intOf]; omega
        · obtain rfl : q = k + m := by omega
          have hvf : V 10 f 0 k < 10 ^ k := V_lt (fun j hj => by rw [Nat.zero_add]; exact FF.out j hj)
          have hvb : V 10 fb 0 m < 10 ^ m := V_lt (fun j hj => by rw [Nat.zero_add]; exact BF.out j hj)
          have htop : fq (k + m) = 0 := by
            have h1 := HV.out
            have h2 := Nat.mul_lt_mul'' hvf hvb
            rw [← Nat.pow_add, ← h1, V_succ, Nat.zero_add] at h2
            rcases Nat.eq_zero_or_pos (fq (k + m)) with h | h
            · exact h
            · have : 1 * 10 ^ (k + m) ≤ fq (k + m) * 10 ^ (k + m) := Nat.mul_le_mul_right _ h
              omega
          have hdall : ∀ j, j < k + m + 1 → fq j < 10 := by
            intro j hj
            by_cases e : j = k + m
            · subst e; omega
            · exact HDG.out j (by omega)
          have HM := Lib.hid (made_c (sg (A * B)) _ (k + m + 1) (k + m + 1) fq wr HSR.out (fun h => HV.out.trans (HE0.out h)) (Nat.le_refl _) (by unfold maxLen; omega) HBK.out.at0 hdall)
          rw [HV.out, HE.out] at HM
          obtain ⟨x0, -, -⟩ := zcells_of ((HG.out.block _ (Array.getElem?_eq_some_iff.1 HB0.out).1 (by simp)).trans HB0.out)
          obtain ⟨y0, -, -⟩ := zcells_of ((HG.out.block _ (Array.getElem?_eq_some_iff.1 HB1.out).1 (by simp)).trans HB1.out)
          have HZB := Lib.hid ((HG.out.block _ (Array.getElem?_eq_some_iff.1 HB2.out).1 (by simp)).trans HB2.out)
          have hw1 := HW1.out
          have HGW := Lib.hid (gb_trans HG3.out HG.out)
          clear hvf hvb htop hdall HV HDG HLE HBK
          generalize sg (A * B) = sp at *
          go_wp2_with (go_at_call 42; refine HM.out.mono ?_; rintro e w5 ⟨s5, p5, n5, c5, rfl, hx, hg, -⟩; have HX := Lib.hid hx; have HG5 := Lib.hid hg; obtain ⟨z0, z1, z2⟩ := zcells_of ((hg.block _ (Array.getElem?_eq_some_iff.1 HZB.out).1 (by simp)).trans HZB.out); clear hx hg)
          obtain ⟨k0, k1, k2, k3⟩ := z_ret HZB.out HG5.out HX.out HGW.out (show w.heap.size ≤ w.heap.size + 1 + 1 by omega) rfl
          exact bodyPost_ret (v := .agg #[.int .i64 s5, .slice p5 n5 c5]) (by simp [results, Try.results29, go_sem, k2, k3]) rfl ⟨_, rfl, k0, k1⟩
end Go.Proofs.Ytkonfkcaefjabaa
