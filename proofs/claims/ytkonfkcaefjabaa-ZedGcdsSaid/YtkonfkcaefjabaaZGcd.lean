/- Int: the greatest common divisor of any numbers. -/
import Derived.Test.YtkonfkcaefjabaaBest
import Derived.Test.YtkonfkcaefjabaaGcd
namespace Go.Proofs.Ytkonfkcaefjabaa
open Go.RowKit Mx

/-- The greatest common divisor of the first k. -/
def gF (F : Nat → Int) : Nat → Nat
  | 0 => 0
  | k + 1 => Nat.gcd (gF F k) (F k).natAbs

theorem gF_lt {F : Nat → Int} {B : Nat} (hB : 0 < B) : ∀ {k : Nat}, (∀ j, j < k → (F j).natAbs < B) → gF F k < B
  | 0, _ => hB
  | k + 1, h => by
    have ih := gF_lt (k := k) hB (fun j hj => h j (by omega))
    have h1 := h k (by omega)
    show Nat.gcd (gF F k) (F k).natAbs < B
    rcases Nat.eq_zero_or_pos (gF F k) with e | e
    · rw [e, Nat.gcd_zero_left]; exact h1
    · exact Nat.lt_of_le_of_lt (Nat.gcd_le_left _ e) ih

theorem int_num {w : World} {s : Bool} {v : Value} {Z : Int} (h : IsInt w (.agg #[.bool s, v]) Z) : Num w v Z.natAbs := by
  obtain ⟨s', v', N, he, hn, -, hz⟩ := h
  simp at he
  obtain ⟨rfl, rfl⟩ := he
  have : Z.natAbs = N := by rw [hz]; cases s <;> simp
  rw [this]; exact hn

set_option maxRecDepth 100000 in
set_option maxHeartbeats 4000000 in
theorem GcdZ_c (pv : Option Addr) (g n cap : Nat) (s : Nat → Bool) (p : Nat → Option Addr) (l c : Nat → Nat) (F : Nat → Int) (w : World) (hp : n = 0 ∨ pv = some ⟨g, 0, none⟩) (hnc : n ≤ cap) (hcm : cap ≤ maxLen) (h : Zs w g n s p l c F) (hF : ∀ j, j < n → (F j).natAbs < Lim) :
    Calls Try.prog 34 #[.slice pv n cap] w (IntPost ((gF F n : Nat) : Int) w) := by
  have HZ := Lib.hid h; have HF := Lib.hid hF
  have HBX := Lib.hid (top1 w (.cells #[.bool false, .slice none 0 0] 25))
  have HG0 := Lib.hid (World.grownBy_alloc w (.cells #[.bool false, .slice none 0 0] 25) none)
  have HP := Lib.hid hp
  clear h hF hp
  unfold maxLen at hcm
  go_enter Try.func34, Try.ntmps34
  go_wp2_with fail
  go_loopw [3, 8] (fun v i wr => ∃ k : Nat, k ≤ n ∧ i = .int .i64 k ∧ Hid (Num wr v (gF F k)) ∧ Hid ((w.alloc (.cells #[.bool false, .slice none 0 0] 25)).grownBy wr none)) (fun _ i _ => n - (intOf i).toNat)
  case atStart => exact ⟨0, by omega, rfl, ⟨none, 0, 0, fun _ => 0, rfl, Nat.le_refl _, by omega, .inl rfl, fun j h => by omega, .inl rfl, rfl⟩, gb_refl _ _⟩
  case round =>
    obtain ⟨k, hk, rfl, HN, HG⟩ := hrel
    by_cases hlt : k < n
    · obtain rfl : pv = some ⟨g, 0, none⟩ := by
        rcases HP.out with h | h
        · omega
        · exact h
      obtain ⟨e0, e1, e2⟩ := (HZ.out.kept (gb_trans HG0.out HG.out)) k hlt
      rw [show 2 * k = k * 2 by omega] at e0 e1
      have hgs := World.block_lt_of_cell? wr _ e0
      generalize s k = s0 at e0 e1 e2
      generalize p k = p0 at e0 e1 e2
      generalize l k = l0 at e0 e1 e2
      generalize c k = c0 at e0 e1 e2
      have hg5 := World.grownBy_alloc wr (.cells #[.bool s0, .slice p0 l0 c0] 25) none
      have HC := Lib.hid (common_c _ _ _ _ _ (HN.out.kept hg5) ((int_num e2).kept hg5) (gF_lt (by unfold Lim; exact Nat.pow_pos Bw_pos) (fun j hj => HF.out j (by omega))) (HF.out k hlt))
      have HG5 := Lib.hid (gb_trans HG.out hg5)
      clear e2 hg5
      go_wp2_with (go_at_call 57; refine HC.out.mono ?_; rintro e w5 ⟨v5, rfl, hv, hg⟩; have HV := Lib.hid hv; have HG6 := Lib.hid (gb_trans HG5.out hg); clear hv hg)
      go_roundw
      case rel => exact ⟨k + 1, by omega, by go_num, HV, HG6⟩
      case measure => simp [intOf]; omega
    · obtain rfl : k = n := by omega
      have HSG := Lib.hid (signed_num false _ _ _ HN.out)
      go_wp2_with (go_at_call 41; refine HSG.out.mono ?_; rintro e w5 ⟨x5, rfl, hx, hg⟩; obtain ⟨s5, p5, n5, c5, hxe, HX⟩ := int_parts hx; subst hxe; have HG5 := Lib.hid (gb_trans HG.out hg); obtain ⟨z0, z1, z2⟩ := cells_of (((gb_trans HG.out hg).block _ (Array.getElem?_eq_some_iff.1 HBX.out).1 (by simp)).trans HBX.out); clear hx hg)
      obtain ⟨x, e1, e2, e3⟩ := ret_box HBX.out HG5.out HX.out HG0.out (Nat.le_refl _)
      injection e1 with e1; subst e1
      obtain ⟨rc0, rc1⟩ := ret_cells (s := s5) (p := p5) (n := n5) (c := c5) HBX.out HG5.out
      exact bodyPost_ret (v := .agg #[.bool s5, .slice p5 n5 c5]) (by simp [results, Try.results34, go_sem, rc0, rc1]) rfl ⟨_, rfl, e2, e3⟩
end Go.Proofs.Ytkonfkcaefjabaa
