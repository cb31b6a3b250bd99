/- The longest sign that stands there, as the program finds it. -/
import Derived.Test.YtdfegmdmappefaaDoorEKeys
namespace Go.Proofs.YtdfegmdmappefaaDoor
open Go.RowKit

theorem hasPrefix_pre (l p : List UInt8) : Lib.hasPrefix l p = p.isPrefixOf l := rfl

theorem fm_next {L : List (List UInt8)} {k : Nat} {x l : List UInt8} (hx : L[k]? = some x) : fm (L.take (k + 1)) l 0 = if x.isPrefixOf l then max (fm (L.take k) l 0) x.length else fm (L.take k) l 0 := by
  rw [List.take_add_one, hx]; exact fm_snoc _ _ _ _

set_option maxRecDepth 100000 in
set_option maxHeartbeats 4000000 in
theorem signSize_c (s : ByteArray) (w : World) (h : LaidE w) : Calls Tryd.prog 64 #[.string s] w (IntIs (signN s.data.toList) w) := by
  obtain ⟨-, h0⟩ := h
  have hr : w.rangeAt 1 0 (signsL.map strV) := fun j v hj => by rw [Nat.zero_add]; exact h0 j v hj
  have HRG := Lib.hid hr
  clear hr
  clear h0
  have HP := Lib.hid (fun p W => Tryd.strings_HasPrefix s p W)
  go_enter Tryd.func64, Tryd.ntmps64
  go_wp2_with (refine wpList_load_mid rfl 115 _ rfl 1 0 rfl (signsL.map strV) _ HRG.out Tryd.underlying115 rfl sizeG ?_)
  have HA : Hid (ArrIs (.agg (signsL.map strV).toArray) signsL) := Lib.hid rfl
  generalize Value.agg (signsL.map strV).toArray = A at *
  go_wp2
  go_loopw [3, 7] (fun m i wr => ∃ (k z : Nat), k ≤ 22 ∧ i = .int .i64 k ∧ m = .int .i64 z ∧ z ≤ 2 ∧ Hid (fm (signsL.take k) s.data.toList 0 = z) ∧ wr = w) (fun _ i _ => 22 - (intOf i).toNat)
  case atStart => exact ⟨0, 0, Nat.zero_le _, rfl, rfl, by omega, Lib.hid rfl, rfl⟩
  case round =>
    obtain ⟨k, z, hk, rfl, rfl, hz, HC, rfl⟩ := hrel
    by_cases hlt : k < 22
    · have d1 : decide ((k : Int) < 22) = true := decide_eq_true (by omega)
      have d1' : decide (k < 22) = true := decide_eq_true hlt
      obtain ⟨x, hx⟩ : ∃ x, signsL[k]? = some x := ⟨signsL[k]'hlt, List.getElem?_eq_getElem _⟩
      have hrun := HA.out.run (t := 115) (n := 22) Tryd.underlying115 rfl hx
      have hxl : x.length ≤ 2 := (show ∀ g ∈ signsL, g.length ≤ 2 by decide) x (List.mem_of_getElem? hx)
      have hn := fm_next (l := s.data.toList) hx
      rw [HC.out] at hn
      obtain ⟨y, hy⟩ : ∃ y : ByteArray, (⟨x.toArray⟩ : ByteArray) = y := ⟨_, rfl⟩
      have hyl : y.data.toList = x := by rw [← hy]
      have hys : y.size = x.length := by rw [← list_len, hyl]
      rw [hy] at hrun
      have hp := HP.out y
      rw [hasPrefix_pre, hyl] at hp
      cases hpre : x.isPrefixOf s.data.toList
      · rw [hpre] at hp
        rw [hpre, if_neg (by simp)] at hn
        have HPX := Lib.hid hp
        have HN := Lib.hid hn
        clear hp hn hx hpre hyl hys hy hxl
        go_wp2_with (refine (HPX.out _).mono ?_; rintro e w' ⟨rfl, rfl⟩)
        go_roundw
        case rel => exact ⟨k + 1, z, by omega, by go_num, by first | rfl | trivial, by omega, HN, by first | rfl | trivial⟩
        case measure => (simp [intOf] <;> omega)
      · rw [hpre] at hp
        rw [hpre, if_pos rfl, ← hys] at hn
        rw [← hys] at hxl
        have HPX := Lib.hid hp
        have HN := Lib.hid hn
        clear hp hn hx hpre hyl hys hy
        go_wp2_with (refine (HPX.out _).mono ?_; rintro e w' ⟨rfl, rfl⟩)
        all_goals
          go_roundw
          case rel => exact ⟨k + 1, max z y.size, by omega, by go_num, by first | rfl | go_num | (exact val_of (by rw [Int.natCast_max, Int.max_def])), by omega, HN, by first | rfl | trivial⟩
          case measure => (simp [intOf] <;> omega)
    · obtain rfl : k = 22 := by omega
      have HR : Hid (signN s.data.toList = z) := Lib.hid HC.out
      go_wp2
      go_ret
      exact ⟨by rw [HR.out]; rfl, rfl⟩
end Go.Proofs.YtdfegmdmappefaaDoor
