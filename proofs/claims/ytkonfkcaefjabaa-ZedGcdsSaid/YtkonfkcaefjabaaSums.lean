/- Sums, differences, products of numbers. -/
import Derived.Test.YtkonfkcaefjabaaNum
namespace Go.Proofs.Ytkonfkcaefjabaa
open Go.RowKit Mx

theorem own_below {w w1 w2 : World} (h : Below w.heap.size w w1) {o : Obj} (hg : (w1.alloc o).grownBy w2 (some w1.heap.size)) : w.grownBy w2 none :=
  below_gb (gb_new (h.alloc h.size o) h.size hg)

theorem at_apart {k : IntKind} {w : World} {p : Option Addr} {n : Nat} {f : Nat → Nat} (h : At k w p n f) : 0 < n → ∀ a, p = some a → some a.block ≠ some w.heap.size := by
  intro hn a ha
  rcases h with h | ⟨g, off, rfl, hg, _⟩
  · omega
  · injection ha with ha
    subst ha; simp; omega

theorem lt_cut {f : Nat → Nat} {n M : Nat} (h : ∀ j, j < n → f j < Bw) : ∀ j, j < M → (fun j => if j < n then f j else 0) j < Bw := by
  intro j _
  show (if j < n then f j else 0) < Bw
  split
  · exact h j ‹_›
  · exact Bw_pos

set_option maxHeartbeats 400000 in
theorem sum_ge (pa pb : Option Addr) (la lb capa capb : Nat) (f fb : Nat → Nat) (w : World) (hla : la ≤ 100000) (hlb : lb ≤ la) (ha : At .u64 w pa la f) (hb : At .u64 w pb lb fb) (hf : ∀ j, j < la → f j < Bw) (hfb : ∀ j, j < lb → fb j < Bw) :
    Calls Try.prog 53 #[.slice pa la capa, .slice pb lb capb] w (NumPost (V Bw f 0 la + V Bw fb 0 lb) w) := by
  have hmk : ∀ w, (Instr.makeSlice 23 (.int .i64 ((la : Int) + 1)) (.int .i64 ((la : Int) + 1))).run Try.prog w = .ok (.slice (some ⟨w.heap.size, 0, none⟩) (la + 1) (la + 1)) (w.alloc (.cells (madeCells #[.int .u64 0] (la + 1)) 40)) :=
    fun w => make64_run (la + 1) (by omega) w
  have HA := Lib.hid ha; have HB := Lib.hid hb; have HF := Lib.hid hf; have HFB := Lib.hid hfb
  clear ha hb hf hfb
  have hlt : (lb : Int) ≤ la := by omega
  go_enter Try.func53, Try.ntmps53
  go_wp2_with (with_reducible refine wpList_copy64 rfl _ _ rfl rfl w.heap.size (la + 1) la capa pa (fun _ => 0) f rfl rfl (Blk_made _ _ _) (HA.out.grown (World.grownBy_alloc w _ none) (by simp)) (by omega) ?_)
  intro w2 HB2 HG2
  clear hmk
  have HBEL := Lib.hid (own_below (Below.refl _ _) HG2.out)
  have HPB := Lib.hid (at_apart HB.out)
  have HF2 := Lib.hid (lt_cut HF.out (M := la + 1))
  go_wp2_with (first
    | (go_at_call 68; refine (addInto_c w.heap.size 0 la (la + 1) (la + 1) _ pb lb capb fb _ HB2.out (by omega) (by omega) HF2.out (HB.out.grown HBEL.out (by simp)) HFB.out HPB.out (by omega)).mono ?_; rintro e w3 ⟨c, f', rfl, hc, hB3, hF3, hO3, hV3, hG3⟩; have HB3 := Lib.hid hB3; have HF3 := Lib.hid hF3; have HO3 := Lib.hid hO3; have HV3 := Lib.hid hV3; have HG3 := Lib.hid hG3; have hcc := hB3.cell (j := la) (by omega); have hff := hB3.free la; clear hB3 hF3 hO3 hV3 hG3)
    | (go_at_call 61; refine (trim_num _ _ _ (upd f' la c) _ (by omega) (by unfold maxLen; omega) (HB3.out.set c).at0 (lt_upd HF3.out (by unfold Bw; omega))).mono ?_; rintro e w4 ⟨v, rfl, hv, rfl⟩))
  go_ret
  refine ⟨v, rfl, ?_, below_gb (gb_new (gb_below HBEL.out) (Nat.le_refl _) (gb_set HG3.out _))⟩
  have e : V Bw (upd f' la c) 0 (la + 1) = V Bw f 0 la + V Bw fb 0 lb := by
    rw [V_succ, Nat.zero_add, upd_at, V_upd_out (by omega), HV3.out, V_congr (f := fun j => if j < la then f j else 0) (g := f) (p := 0) (fun j hj => by simp [hj])]
  rw [← e]; exact hv

set_option maxHeartbeats 400000 in
theorem sum_lt (pa pb : Option Addr) (la lb capa capb : Nat) (f fb : Nat → Nat) (w : World) (hla : la ≤ 100000) (hlb : lb < la) (ha : At .u64 w pa la f) (hb : At .u64 w pb lb fb) (hf : ∀ j, j < la → f j < Bw) (hfb : ∀ j, j < lb → fb j < Bw) :
    Calls Try.prog 53 #[.slice pb lb capb, .slice pa la capa] w (NumPost (V Bw f 0 la + V Bw fb 0 lb) w) := by
  have hmk : ∀ w, (Instr.makeSlice 23 (.int .i64 ((la : Int) + 1)) (.int .i64 ((la : Int) + 1))).run Try.prog w = .ok (.slice (some ⟨w.heap.size, 0, none⟩) (la + 1) (la + 1)) (w.alloc (.cells (madeCells #[.int .u64 0] (la + 1)) 40)) :=
    fun w => make64_run (la + 1) (by omega) w
  have HA := Lib.hid ha; have HB := Lib.hid hb; have HF := Lib.hid hf; have HFB := Lib.hid hfb
  clear ha hb hf hfb
  have hlt : (lb : Int) < la := by omega
  go_enter Try.func53, Try.ntmps53
  go_wp2_with (with_reducible refine wpList_copy64 rfl _ _ rfl rfl w.heap.size (la + 1) la capa pa (fun _ => 0) f rfl rfl (Blk_made _ _ _) (HA.out.grown (World.grownBy_alloc w _ none) (by simp)) (by omega) ?_)
  intro w2 HB2 HG2
  clear hmk
  have HBEL := Lib.hid (own_below (Below.refl _ _) HG2.out)
  have HPB := Lib.hid (at_apart HB.out)
  have HF2 := Lib.hid (lt_cut HF.out (M := la + 1))
  go_wp2_with (first
    | (go_at_call 68; refine (addInto_c w.heap.size 0 la (la + 1) (la + 1) _ pb lb capb fb _ HB2.out (by omega) (by omega) HF2.out (HB.out.grown HBEL.out (by simp)) HFB.out HPB.out (by omega)).mono ?_; rintro e w3 ⟨c, f', rfl, hc, hB3, hF3, hO3, hV3, hG3⟩; have HB3 := Lib.hid hB3; have HF3 := Lib.hid hF3; have HO3 := Lib.hid hO3; have HV3 := Lib.hid hV3; have HG3 := Lib.hid hG3; have hcc := hB3.cell (j := la) (by omega); have hff := hB3.free la; clear hB3 hF3 hO3 hV3 hG3)
    | (go_at_call 61; refine (trim_num _ _ _ (upd f' la c) _ (by omega) (by unfold maxLen; omega) (HB3.out.set c).at0 (lt_upd HF3.out (by unfold Bw; omega))).mono ?_; rintro e w4 ⟨v, rfl, hv, rfl⟩))
  go_ret
  refine ⟨v, rfl, ?_, below_gb (gb_new (gb_below HBEL.out) (Nat.le_refl _) (gb_set HG3.out _))⟩
  have e : V Bw (upd f' la c) 0 (la + 1) = V Bw f 0 la + V Bw fb 0 lb := by
    rw [V_succ, Nat.zero_add, upd_at, V_upd_out (by omega), HV3.out, V_congr (f := fun j => if j < la then f j else 0) (g := f) (p := 0) (fun j hj => by simp [hj])]
  rw [← e]; exact hv


theorem sum_c (a b : Value) (A B : Nat) (w : World) (ha : Num w a A) (hb : Num w b B) (hA : A < Lim) (hB : B < Lim) : Calls Try.prog 53 #[a, b] w (NumPost (A + B) w) := by
  obtain ⟨p1, n1, c1, f1, rfl, _, _, a1, l1, t1, rfl⟩ := ha
  obtain ⟨p2, n2, c2, f2, rfl, _, _, a2, l2, t2, rfl⟩ := hb
  have k1 := lim_len t1 hA
  have k2 := lim_len t2 hB
  unfold LimN at k1 k2
  by_cases h : n2 ≤ n1
  · exact sum_ge p1 p2 n1 n2 c1 c2 f1 f2 w k1 h a1 a2 l1 l2
  · rw [Nat.add_comm]
    exact sum_lt p2 p1 n2 n1 c2 c1 f2 f1 w k2 (by omega) a2 a1 l2 l1

set_option maxHeartbeats 400000 in
theorem difference_w (pa pb : Option Addr) (la lb capa capb : Nat) (f fb : Nat → Nat) (w : World) (hla : la ≤ 100000) (hlb : lb ≤ la) (ha : At .u64 w pa la f) (hb : At .u64 w pb lb fb) (hf : ∀ j, j < la → f j < Bw) (hfb : ∀ j, j < lb → fb j < Bw) (hle : V Bw fb 0 lb ≤ V Bw f 0 la) :
    Calls Try.prog 54 #[.slice pa la capa, .slice pb lb capb] w (NumPost (V Bw f 0 la - V Bw fb 0 lb) w) := by
  have hmk : ∀ w, (Instr.makeSlice 23 (.int .i64 (la : Int)) (.int .i64 (la : Int))).run Try.prog w = .ok (.slice (some ⟨w.heap.size, 0, none⟩) la la) (w.alloc (.cells (madeCells #[.int .u64 0] la) 40)) :=
    fun w => make64_run la (by omega) w
  have HA := Lib.hid ha; have HB := Lib.hid hb; have HF := Lib.hid hf; have HFB := Lib.hid hfb; have HLE := Lib.hid hle
  clear ha hb hf hfb hle
  go_enter Try.func54, Try.ntmps54
  go_wp2_with (with_reducible refine wpList_copy64 rfl _ _ rfl rfl w.heap.size la la capa pa (fun _ => 0) f rfl rfl (Blk_made _ _ _) (HA.out.grown (World.grownBy_alloc w _ none) (by simp)) (by omega) ?_)
  intro w2 HB2 HG2
  clear hmk
  have HBEL := Lib.hid (own_below (Below.refl _ _) HG2.out)
  have HPB := Lib.hid (at_apart HB.out)
  have HF2 := Lib.hid (lt_cut HF.out (M := la))
  have hone : 1 < Bw := by unfold Bw; omega
  have HONE := Lib.hid hone
  clear hone
  go_wp2_with (first
    | (go_at_call 69; refine (takeTimes_c w.heap.size 0 la la la _ pb lb capb fb 1 _ HB2.out (by omega) (by omega) HF2.out (HB.out.grown HBEL.out (by simp)) HFB.out HPB.out (by omega) HONE.out).mono ?_; rintro e w3 ⟨c, f', rfl, hc, hB3, hF3, hO3, hV3, hG3⟩; have HB3 := Lib.hid hB3; have HF3 := Lib.hid hF3; have HO3 := Lib.hid hO3; have HV3 := Lib.hid hV3; have HG3 := Lib.hid hG3; clear hB3 hF3 hO3 hV3 hG3)
    | (go_at_call 61; refine (trim_num _ _ _ f' _ (by omega) (by unfold maxLen; omega) HB3.out.at0 HF3.out).mono ?_; rintro e w4 ⟨v, rfl, hv, rfl⟩))
  go_ret
  refine ⟨v, rfl, ?_, below_gb (gb_new (gb_below HBEL.out) (Nat.le_refl _) HG3.out)⟩
  have e : V Bw f' 0 la = V Bw f 0 la - V Bw fb 0 lb := by
    have h1 := HV3.out
    rw [V_congr (f := fun j => if j < la then f j else 0) (g := f) (p := 0) (fun j hj => by simp [hj]), Nat.one_mul] at h1
    have h2 : V Bw f' 0 la < Bw ^ la := V_lt (fun j hj => by rw [Nat.zero_add]; exact HF3.out j hj)
    have h3 := HLE.out
    have h4 : c = 0 := by
      rcases Nat.eq_zero_or_pos c with h | h
      · exact h
      · have : 1 * Bw ^ la ≤ c * Bw ^ la := Nat.mul_le_mul_right _ h
        omega
    rw [h4] at h1
    omega
  rw [← e]; exact hv

theorem difference_c (a b : Value) (A B : Nat) (w : World) (ha : Num w a A) (hb : Num w b B) (hA : A < Lim) (hAB : B ≤ A) : Calls Try.prog 54 #[a, b] w (NumPost (A - B) w) := by
  obtain ⟨p1, n1, c1, f1, rfl, _, _, a1, l1, t1, rfl⟩ := ha
  obtain ⟨p2, n2, c2, f2, rfl, _, _, a2, l2, t2, rfl⟩ := hb
  have k1 := lim_len t1 hA
  unfold LimN at k1
  have h : n2 ≤ n1 := by
    rcases Nat.lt_or_ge n1 n2 with h | h
    · have := V_long (b := Bw) (f := f1) (o := 0) (g := f2) (p := 0) Bw_pos (fun j hj => by rw [Nat.zero_add]; exact l1 j hj) h (by simp; omega)
      omega
    · exact h
  exact difference_w p1 p2 n1 n2 c1 c2 f1 f2 w k1 h a1 a2 l1 l2 hAB
end Go.Proofs.Ytkonfkcaefjabaa
