/- Right: of a right tree true; wrong: what is asked of a node of it. -/
import Derived.Test.YtmlcpihedmmlfaaGreatDoorM7
set_option linter.unusedVariables false
set_option linter.unusedSimpArgs false
namespace Go.Proofs.YtmlcpihedmmlfaaGreatDoor
open Go.RowKit

theorem range_get {m i : Nat} (h : i < m) : ((List.range m).map fun (j : Nat) => (j : Int))[i]? = some (i : Int) := by simp [h]

set_option maxRecDepth 100000 in
set_option maxHeartbeats 8000000 in
theorem rightLeaves_c {m : Nat} (N : List Nd) (K : Nat → Option Addr × Nat) (hf : rightT m N) (hN : N.length ≤ 150000) (hm : m ≤ 150000) (pt pn : Option Addr) (ct cn : Nat) (w : World) (hw : NodesAt w pn N K) :
    Calls Tryz.prog 118 #[.agg #[.slice pt m ct, .slice pn N.length cn]] w (ValPost (.bool true) w) := by
  have hpos : 0 < N.length := List.length_pos_iff.2 hf.1.1
  have HLT := Lib.hid (fun W h => leafTokens_c N K hf.1 hN pt pn m ct cn (N.length - 1) (by omega) W h)
  have HW := Lib.hid hw
  have HRC := Lib.hid (fun W => Root_c pt pn m ct N.length cn hpos (by omega) W)
  obtain ⟨L, hL⟩ : ∃ L, lv N (N.length - 1) = L := ⟨_, rfl⟩
  have HL : Hid (L = (List.range m).map fun (j : Nat) => (j : Int)) := Lib.hid (by rw [← hL]; exact hf.2)
  have HLL : Hid (L.length = m) := Lib.hid (by rw [HL.out]; simp)
  rw [hL] at HLT
  obtain ⟨M, hM⟩ : ∃ M, N.length = M := ⟨_, rfl⟩
  rw [hM] at HLT HRC hN hpos ⊢
  clear hM hw hL hf
  go_enter Tryz.func118, Tryz.ntmps118
  go_wp2_with fail
  have hA := heap_alloc_new w (.cells #[.slice pt m ct, .slice pn M cn] 26)
  have hgA := World.grownBy_alloc w (.cells #[.slice pt m ct, .slice pn M cn] 26) none
  generalize (w.alloc (.cells #[.slice pt m ct, .slice pn M cn] 26)) = W at *
  obtain ⟨b, hb⟩ : ∃ b, w.heap.size = b := ⟨_, rfl⟩
  rw [hb] at hA ⊢
  have HA := Lib.hid hA; have HGA := Lib.hid hgA
  clear hgA hb
  obtain ⟨a0, a1⟩ := cells_tree hA
  clear hA
  go_region_with (first
    | (go_at_call 24; refine (HRC.out _).mono ?_; rintro e w2 ⟨rfl, hg2⟩; obtain ⟨c0, c1⟩ := cells_tree (bx hg2 HA.out); have HG2 := Lib.hid (gb_trans (show W.grownBy _ none from (by repeat (first | with_reducible exact gb_refl _ _ | with_reducible refine gb_drew ?_))) hg2); clear hg2)
    | (go_at_call 151; refine (HLT.out _ (HW.out.kept (gb_trans HGA.out (gb_trans HG2.out (by repeat (first | with_reducible exact gb_refl _ _ | with_reducible refine gb_drew ?_)))))).mono ?_; rintro e w3 ⟨hg3, p, c, rfl, hv⟩; have HV := Lib.hid hv; have HG3 := Lib.hid (gb_trans HGA.out (gb_trans (gb_trans HG2.out (by repeat (first | with_reducible exact gb_refl _ _ | with_reducible refine gb_drew ?_))) hg3)); obtain ⟨d0, d1⟩ := cells_tree (bx hg3 (bx HG2.out HA.out)); rw [HLL.out]; clear hg3 hv))
  all_goals
    go_wp2_with fail
    obtain ⟨W3, hW3⟩ : ∃ W3, w3 = W3 := ⟨_, rfl⟩
    rw [hW3] at d0 d1 HG3 HV ⊢
    clear hW3
    go_loopw [12] (fun v wr => ∃ k : Nat, k ≤ m ∧ v = .int .i64 k ∧ wr = W3) (fun v _ => m - (intOf v).toNat)
    case atStart => exact ⟨0, Nat.zero_le _, rfl, rfl⟩
    case round =>
      obtain ⟨k, hk, rfl, rfl⟩ := hrel
      by_cases hlt : k < m
      · have e1 : decide ((k : Int) < (m : Int)) = true := decide_eq_true (by omega)
        have e1' : decide (k < m) = true := decide_eq_true hlt
        obtain ⟨g, off, rfl, hgl, ck⟩ := kid_at HV.out (j := k) (x := (k : Int)) (by rw [HL.out]; exact range_get hlt)
        go_wp2_with fail
        go_roundw
        case rel => exact ⟨k + 1, by omega, by go_num, by first | rfl | trivial⟩
        case measure => (simp [intOf] <;> omega)
      · obtain rfl : k = m := by omega
        go_wp2_with fail
        go_ret
        exact ⟨rfl, HG3.out⟩

set_option maxRecDepth 100000 in
set_option maxHeartbeats 8000000 in
theorem Right_c {m : Nat} (N : List Nd) (K : Nat → Option Addr × Nat) (hf : rightT m N) (hN : N.length ≤ 150000) (hm : m ≤ 150000) (pt pn : Option Addr) (ct cn : Nat) (w : World) (hw : NodesAt w pn N K) :
    Calls Tryz.prog 78 #[.agg #[.slice pt m ct, .slice pn N.length cn]] w (ValPost (.bool true) w) := by
  have hpos : 0 < N.length := List.length_pos_iff.2 hf.1.1
  have H1 := Lib.hid (fun W h => rightNodes_c N K hf.1 hN pt pn m ct cn W h)
  have H2 := Lib.hid (fun W h => eachKidOnce_c N K hf.1 hN pt pn m ct cn W h)
  have H3 := Lib.hid (fun W h => rightLeaves_c N K hf hN hm pt pn ct cn W h)
  have HW := Lib.hid hw
  obtain ⟨M, hM⟩ : ∃ M, N.length = M := ⟨_, rfl⟩
  rw [hM] at H1 H2 H3 hpos ⊢
  have d1 : decide ((0 : Int) < (M : Int)) = true := decide_eq_true (by omega)
  have d1' : decide (0 < M) = true := decide_eq_true hpos
  clear hM hw hf hN
  go_enter Tryz.func78, Tryz.ntmps78
  go_wp2_with fail
  have hA := heap_alloc_new w (.cells #[.slice pt m ct, .slice pn M cn] 26)
  have hgA := World.grownBy_alloc w (.cells #[.slice pt m ct, .slice pn M cn] 26) none
  generalize (w.alloc (.cells #[.slice pt m ct, .slice pn M cn] 26)) = W at *
  obtain ⟨b, hb⟩ : ∃ b, w.heap.size = b := ⟨_, rfl⟩
  rw [hb] at hA ⊢
  have HA := Lib.hid hA; have HGA := Lib.hid hgA
  clear hA hgA hb
  refine (H1.out _ (HW.out.kept HGA.out)).mono ?_
  rintro e w1 ⟨rfl, hg⟩
  have HG1 := Lib.hid (gb_trans HGA.out hg)
  have HA1 := Lib.hid (bx hg HA.out)
  obtain ⟨a0, a1⟩ := cells_tree HA1.out
  clear hg HA HGA
  go_wp2_with fail
  refine (H2.out _ (HW.out.kept HG1.out)).mono ?_
  rintro e w2 ⟨rfl, hg⟩
  have HG2 := Lib.hid (gb_trans HG1.out hg)
  have HA2 := Lib.hid (bx hg HA1.out)
  obtain ⟨c0, c1⟩ := cells_tree HA2.out
  clear hg HA1 HG1 a0 a1
  go_wp2_with fail
  refine (H3.out _ (HW.out.kept HG2.out)).mono ?_
  rintro e w3 ⟨rfl, hg⟩
  have HG3 := Lib.hid (gb_trans HG2.out hg)
  clear hg HA2 HG2 c0 c1
  go_wp2_with fail
  go_ret
  exact ⟨rfl, HG3.out⟩

set_option maxRecDepth 100000 in
set_option maxHeartbeats 8000000 in
theorem asks_c {m : Nat} (N : List Nd) (K : Nat → Option Addr × Nat) (hf : rightT m N) (hN : N.length ≤ 150000) (hm : m ≤ 150000) (pt pn : Option Addr) (ct cn n : Nat) (hn : n < N.length) (w : World) (hw : NodesAt w pn N K) :
    Calls Tryz.prog 47 #[.agg #[.slice pt m ct, .slice pn N.length cn], .int .i64 (n : Int)] w (ValPost (.int .i64 0) w) := by
  have H1 := Lib.hid (fun W h => Right_c N K hf hN hm pt pn ct cn W h)
  have HW := Lib.hid hw
  obtain ⟨M, hM⟩ : ∃ M, N.length = M := ⟨_, rfl⟩
  rw [hM] at H1 hn ⊢
  have d1 : decide ((n : Int) < 0) = false := decide_eq_false (by omega)
  have d2 : decide ((M : Int) ≤ (n : Int)) = false := decide_eq_false (by omega)
  have d2' : decide (M ≤ n) = false := decide_eq_false (by omega)
  clear hM hw hf hN
  go_enter Tryz.func47, Tryz.ntmps47
  go_wp2_with fail
  have hA := heap_alloc_new w (.cells #[.slice pt m ct, .slice pn M cn] 26)
  have hgA := World.grownBy_alloc w (.cells #[.slice pt m ct, .slice pn M cn] 26) none
  generalize (w.alloc (.cells #[.slice pt m ct, .slice pn M cn] 26)) = W at *
  obtain ⟨b, hb⟩ : ∃ b, w.heap.size = b := ⟨_, rfl⟩
  rw [hb] at hA ⊢
  have HA := Lib.hid hA; have HGA := Lib.hid hgA
  clear hA hgA hb
  refine (H1.out _ (HW.out.kept HGA.out)).mono ?_
  rintro e w1 ⟨rfl, hg⟩
  have HG1 := Lib.hid (gb_trans HGA.out hg)
  have HA1 := Lib.hid (bx hg HA.out)
  obtain ⟨a0, a1⟩ := cells_tree HA1.out
  clear hg HA HGA
  go_wp2_with fail
  go_ret
  exact ⟨rfl, HG1.out⟩
end Go.Proofs.YtmlcpihedmmlfaaGreatDoor
