/- The document's answer: keys, signs, the longest token. -/
import Derived.Test.YtohdpodnfgdnbaaDoorERef1
namespace Go.Proofs.YtohdpodnfgdnbaaDoor
open Go.RowKit

def GbBool (v : Bool) (w : World) (e : Ending) (w' : World) : Prop := e = .returned (.bool v) ∧ w.grownBy w' none

def rkeysL : List (List UInt8) := [[105, 109, 112, 111, 114, 116], [112, 117, 98], [102, 117, 110], [108, 101, 116], [105, 110], [105, 102], [116, 104, 101, 110], [101, 108, 115, 101], [97, 115, 115, 101, 114, 116], [116, 114, 117, 101], [102, 97, 108, 115, 101], [110, 111, 116], [105, 110, 116], [98, 111, 111, 108], [114, 101, 115]]

theorem rkeys_same (w : List UInt8) : rkeysL.contains w = keysL.contains w := by
  have h1 : ∀ g ∈ rkeysL, g ∈ keysL := by decide
  have h2 : ∀ g ∈ keysL, g ∈ rkeysL := by decide
  rw [Bool.eq_iff_iff, List.contains_iff_mem, List.contains_iff_mem]
  exact ⟨h1 w, h2 w⟩

theorem cell_arr {w : World} {T : TypeId} {L : List (List UInt8)} {k : Nat} {x : List UInt8} (hx : L[k]? = some x) : (w.alloc (.cells (L.map strV).toArray T)).cell? ⟨w.heap.size, k, none⟩ = some (.string ⟨x.toArray⟩) := by
  rw [cell_of_row _ w.heap.size k _ T (0, 0) (heap_alloc_new w _)]
  simp [hx, strV]

theorem ones_arr (L : List (List UInt8)) : (L.map strV).toArray.all (·.oneCell') = true := by
  simp [strV, Value.oneCell']

set_option maxRecDepth 100000 in
set_option maxHeartbeats 4000000 in
theorem rkey_c (s : ByteArray) (w : World) : Calls Tryd.prog 32 #[.string s] w (GbBool (keysL.contains s.data.toList) w) := by
  rw [← rkeys_same]
  have HST : Hid (rkeysL.contains s.data.toList = (rkeysL.drop 0).contains s.data.toList) := Lib.hid rfl
  have HSL := Lib.hid (toList_data s)
  go_enter Tryd.func32, Tryd.ntmps32
  go_wp2_with (refine wpList_store_row rfl 71 _ _ rfl w.heap.size (rkeysL.map strV).toArray rfl rfl 71 _ (heap_alloc_new w _) (by kernel_rfl) rfl (ones_arr _) ?_)
  rw [World.setRow_alloc_new]
  have HW := Lib.hid (World.grownBy_alloc w (.cells (rkeysL.map strV).toArray 71) none)
  have HCE : Hid (∀ k x, rkeysL[k]? = some x → (w.alloc (.cells (rkeysL.map strV).toArray 71)).cell? ⟨w.heap.size, k, none⟩ = some (.string ⟨x.toArray⟩)) := Lib.hid (fun k x hx => cell_arr hx)
  generalize w.alloc (.cells (rkeysL.map strV).toArray 71) = W at *
  go_wp2
  go_loopw [4] (fun i wr => ∃ k : Nat, k ≤ 15 ∧ i = .int .i64 k ∧ Hid (rkeysL.contains s.data.toList = (rkeysL.drop k).contains s.data.toList) ∧ wr = W) (fun i _ => 15 - (intOf i).toNat)
  case atStart => exact ⟨0, Nat.zero_le _, rfl, HST, rfl⟩
  case round =>
    clear HST
    obtain ⟨k, hk, rfl, HC, rfl⟩ := hrel
    by_cases hlt : k < 15
    · have d1 : decide ((k : Int) < 15) = true := decide_eq_true (by omega)
      have d1' : decide (k < 15) = true := decide_eq_true hlt
      obtain ⟨x, hx⟩ : ∃ x, rkeysL[k]? = some x := ⟨rkeysL[k]'hlt, List.getElem?_eq_getElem _⟩
      have hc := HCE.out k x hx
      obtain ⟨y, hy⟩ : ∃ y : ByteArray, (⟨x.toArray⟩ : ByteArray) = y := ⟨_, rfl⟩
      have hyl : y.toList = x := by rw [toList_data, ← hy]
      rw [hy] at hc
      by_cases he : x = s.data.toList
      · have d2 : (y.toList == s.toList) = true := by rw [hyl, HSL.out, he]; simp
        have HR : Hid (rkeysL.contains s.data.toList = true) := Lib.hid (by rw [← he]; simpa using List.mem_of_getElem? hx)
        clear hx he hyl hy
        go_wp2
        go_ret
        exact ⟨by rw [HR.out]; rfl, HW.out⟩
      · have d2 : (y.toList == s.toList) = false := by rw [hyl, HSL.out]; simpa using he
        have HR := Lib.hid (contains_step HC.out hx he)
        clear hx he hyl hy
        go_wp2
        go_roundw
        case rel => exact ⟨k + 1, by omega, by go_num, HR, by first | rfl | trivial⟩
        case measure => (simp [intOf] <;> omega)
    · obtain rfl : k = 15 := by omega
      have HR : Hid (rkeysL.contains s.data.toList = false) := Lib.hid HC.out
      go_wp2
      go_ret
      exact ⟨by rw [HR.out]; rfl, HW.out⟩
end Go.Proofs.YtohdpodnfgdnbaaDoor
