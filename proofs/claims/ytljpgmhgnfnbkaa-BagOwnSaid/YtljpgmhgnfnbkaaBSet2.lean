/- Sets asked: Len, Has, Within. -/
import Derived.Test.YtljpgmhgnfnbkaaBRef4
namespace Go.Proofs.Ytljpgmhgnfnbkaa
open Go.RowKit Go.Sort

theorem asc_le {S : List Int} (h : Asc S) : S.Pairwise (· ≤ ·) := h.imp fun h => by omega

theorem Search_c (p : Option Addr) (c : Nat) (S : List Int) (x : Int) (w : World) (hl : S.length ≤ 1000000) (ha : Asc S) (h : LAt w p S) :
    Calls Try.prog 50 #[.slice p S.length c, .int .i64 x] w fun e w' => e = .returned (.tuple #[.int .i64 ((S.countP (fun y => decide (y < x)) : Nat) : Int), .bool (decide (x ∈ S))]) ∧ w.grownBy w' none := by
  by_cases h0 : S = []
  · subst h0
    refine (Try.slices_BinarySearch_int_empty p c x w).mono ?_
    rintro e w' ⟨h1, rfl⟩
    exact ⟨by simpa using h1, gb_refl _ _⟩
  · obtain ⟨g, off, rfl, hg, hc⟩ := h.resolve_left h0
    refine (Try.slices_BinarySearch_int g off S.length c S x w (Nat.le_refl _) (by omega) hc (by rw [List.take_length]; exact asc_le ha)).mono ?_
    rintro e w' ⟨h1, q, h2⟩
    exact ⟨by rw [h1, List.take_length, List.contains_eq_mem], by rw [h2]; exact gb_drewN (gb_refl _ _) _⟩

theorem box1c (w : World) (v : Value) (T : TypeId) : (w.alloc (.cells #[v] T)).cell? ⟨w.heap.size, 0, none⟩ = some v := by rw [cell_of_row _ w.heap.size 0 _ _ (0, 0) (heap_alloc_new w _)]; rfl

set_option maxRecDepth 100000 in
theorem Len_c (p : Option Addr) (n c : Nat) (w : World) : Calls Try.prog 14 #[.agg #[.slice p n c]] w fun e w' => e = .returned (.int .i64 n) ∧ w.grownBy w' none := by
  have hcl := box1c w (.slice p n c) 25
  have HGA := Lib.hid (World.grownBy_alloc w (.cells #[.slice p n c] 25) none)
  go_enter Try.func14, Try.ntmps14
  go_wp2_with fail
  go_ret
  exact ⟨rfl, HGA.out⟩

set_option maxRecDepth 100000 in
theorem Has_c (p : Option Addr) (c : Nat) (S : List Int) (x : Int) (w : World) (hl : S.length ≤ 1000000) (ha : Asc S) (h : LAt w p S) : Calls Try.prog 15 #[.agg #[.slice p S.length c], .int .i64 x] w (BoolPost (decide (x ∈ S)) w) := by
  have hcl := box1c w (.slice p S.length c) 25
  have hga := World.grownBy_alloc w (.cells #[.slice p S.length c] 25) none
  have HGA := Lib.hid hga
  have HC := Lib.hid (Search_c p c S x _ hl ha (h.kept hga))
  clear h hga
  generalize S.length = n at *
  generalize decide (x ∈ S) = b at *
  generalize S.countP (fun y => decide (y < x)) = m at *
  go_enter Try.func15, Try.ntmps15
  go_wp2_with (go_at_call 50; refine HC.out.mono ?_; rintro e w2 ⟨rfl, hg⟩; have HG2 := Lib.hid hg; clear hg)
  go_ret
  exact ⟨rfl, gb_trans HGA.out HG2.out⟩

set_option maxRecDepth 100000 in
set_option maxHeartbeats 2000000 in
theorem Within_c (p1 p2 : Option Addr) (c1 c2 : Nat) (S T : List Int) (w : World) (hl : S.length ≤ 1000000) (hl2 : T.length ≤ 1000000) (hT : Asc T) (h1 : LAt w p1 S) (h2 : LAt w p2 T) :
    Calls Try.prog 21 #[.agg #[.slice p1 S.length c1], .agg #[.slice p2 T.length c2]] w (BoolPost (decide (∀ x, x ∈ S → x ∈ T)) w) := by
  obtain ⟨n, hn⟩ : ∃ n, S.length = n := ⟨_, rfl⟩
  have HN := Lib.hid hn
  have hg1 := World.grownBy_alloc w (.cells #[.slice p1 S.length c1] 25) none
  have hg2 := gb_alloc hg1 (.cells #[.slice p2 T.length c2] 25)
  have hb1 := (World.grownBy_alloc (w.alloc (.cells #[.slice p1 S.length c1] 25)) (.cells #[.slice p2 T.length c2] 25) none).cell (box1c w (.slice p1 S.length c1) 25) (by simp)
  have hb2 := box1c (w.alloc (.cells #[.slice p1 S.length c1] 25)) (.slice p2 T.length c2) 25
  rw [World.size_alloc] at hb2
  have HG2 := Lib.hid hg2
  have HA := Lib.hid (h1.kept hg2)
  have HH := Lib.hid (fun (x : Int) (w' : World) (hg : w.grownBy w' none) => Has_c p2 c2 T x w' hl2 hT (h2.kept hg))
  have HB2 := Lib.hid hb2
  clear h1 h2 hg1 hg2 hT hl2
  rw [hn] at hl hb1 HG2 HA hb2 HB2 ⊢
  clear hn
  generalize T.length = m at *
  go_enter Try.func21, Try.ntmps21
  go_wp2_with fail
  generalize (w.alloc (.cells #[.slice p1 n c1] 25)).alloc (.cells #[.slice p2 m c2] 25) = W at *
  go_loopw [10] (fun i wr => ∃ k : Nat, k ≤ n ∧ i = .int .i64 k ∧ Hid (∀ x, x ∈ S.take k → x ∈ T) ∧ Hid (W.grownBy wr none)) (fun i _ => n - (intOf i).toNat)
  case atStart => exact ⟨0, by omega, rfl, Lib.hid (by simp), gb_refl _ _⟩
  case round =>
    obtain ⟨k, hk, rfl, HX, HG⟩ := hrel
    by_cases hlt : k < n
    · have hne1 : S ≠ [] := fun e => by have := HN.out; rw [e] at this; simp at this; omega
      obtain ⟨g1, o1, rfl, hg1, hc1⟩ := HA.out.resolve_left hne1
      have hck := HG.out.cell (hc1 k (by have := HN.out; omega)) (by simp)
      have hb2' := HG.out.cell HB2.out (by simp)
      have HT := Lib.hid (take_more (l := S) (k := k) (by have := HN.out; omega))
      clear hc1 hne1 hb1 hb2 hg1
      generalize S.getD k 0 = y at *
      have HCH := Lib.hid (HH.out y wr (gb_trans HG2.out HG.out))
      by_cases hy : y ∈ T
      · have hd : decide (y ∈ T) = true := decide_eq_true hy
        rw [hd] at HCH
        have HY := Lib.hid hy
        clear hd hy
        go_wp2_with (go_at_call 15; refine HCH.out.mono ?_; rintro e w2 ⟨rfl, hg⟩; have HG3 := Lib.hid (gb_trans HG.out hg); clear hg)
        go_roundw
        case rel => exact ⟨k + 1, by omega, by go_num, Lib.hid (fun x hx => by
            rw [HT.out.1, List.mem_append, List.mem_singleton] at hx
            rcases hx with h | rfl
            · exact HX.out x h
            · exact HY.out), HG3⟩
        case measure => simp [intOf]; omega
      · have hd : decide (y ∈ T) = false := decide_eq_false hy
        rw [hd] at HCH
        have HM : Hid (decide (∀ x, x ∈ S → x ∈ T) = false) := Lib.hid (decide_eq_false fun h => hy (h y HT.out.2))
        clear hd hy
        go_wp2_with (go_at_call 15; refine HCH.out.mono ?_; rintro e w2 ⟨rfl, hg⟩; have HG3 := Lib.hid (gb_trans HG.out hg); clear hg)
        go_ret
        exact ⟨by rw [HM.out]; rfl, gb_trans HG2.out HG3.out⟩
    · obtain rfl : k = n := by omega
      have HM : Hid (decide (∀ x, x ∈ S → x ∈ T) = true) := Lib.hid (decide_eq_true (by have := HX.out; rwa [List.take_of_length_le (by have := HN.out; omega)] at this))
      clear hb1 hb2
      go_wp2_with fail
      go_ret
      exact ⟨by rw [HM.out]; rfl, gb_trans HG2.out HG.out⟩
end Go.Proofs.Ytljpgmhgnfnbkaa
