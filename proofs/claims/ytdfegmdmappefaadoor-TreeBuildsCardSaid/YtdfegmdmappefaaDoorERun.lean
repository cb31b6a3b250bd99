/- How many bytes of a kind stand ahead. -/
import Derived.Test.YtdfegmdmappefaaDoorEBytes
namespace Go.Proofs.YtdfegmdmappefaaDoor
open Go.RowKit

/-- The string's byte at k. -/
theorem byte_at {s : ByteArray} {k : Nat} (h : k < s.size) : s.data.toList[k]? = some s[k] := by
  rw [List.getElem?_eq_getElem (by rw [Array.length_toList]; exact h)]; rfl
theorem list_len (s : ByteArray) : s.data.toList.length = s.size := Array.length_toList

theorem byte_ne {b : UInt8} (c : UInt8) {n : Int} (hc : (c.toNat : Int) = n) (h : ¬ b = c) : ((b.toNat : Int) == n) = false := by
  subst hc
  rw [beq_eq_false_iff_ne]
  intro e
  exact h (UInt8.toNat_inj.1 (Int.ofNat_inj.1 e))
theorem byte_eq {b : UInt8} (c : UInt8) {n : Int} (hc : (c.toNat : Int) = n) (h : b = c) : ((b.toNat : Int) == n) = true := by
  subst hc; subst h; simp

def IntIs (v : Int) (w : World) (e : Ending) (w' : World) : Prop := e = .returned (.int .i64 v) ∧ w = w'

def Ahead (p : UInt8 → Bool) (s : ByteArray) (k : Nat) : Prop := k ≤ s.size ∧ ∀ j b, j < k → s.data.toList[j]? = some b → p b = true

theorem Ahead.more {p : UInt8 → Bool} {s : ByteArray} {k : Nat} (h : Ahead p s k) (hk : k < s.size) (hp : p s[k] = true) : Ahead p s (k + 1) :=
  ⟨hk, fun j b hj hb => by
    by_cases e : j = k
    · subst e; rw [byte_at hk] at hb; injection hb with hb; rw [← hb]; exact hp
    · exact h.2 j b (by omega) hb⟩
theorem Ahead.stop {p : UInt8 → Bool} {s : ByteArray} {k : Nat} (h : Ahead p s k) (hk : k < s.size) (hp : p s[k] = false) : runN p s.data.toList = k :=
  runN_drop p (by rw [list_len]; exact h.1) h.2 (fun b hb => by rw [byte_at hk] at hb; injection hb with hb; rw [← hb]; exact hp)
theorem Ahead.all {p : UInt8 → Bool} {s : ByteArray} {k : Nat} (h : Ahead p s k) (hk : k = s.size) : runN p s.data.toList = k :=
  runN_drop p (by rw [list_len]; exact h.1) h.2 (fun b hb => by rw [List.getElem?_eq_none (by rw [list_len]; omega)] at hb; cases hb)

set_option maxRecDepth 100000 in
set_option maxHeartbeats 2000000 in
theorem run_any (p : UInt8 → Bool) (g : Nat) (hg : ∀ b w, Calls Tryd.prog g #[.int .u8 (b.toNat : Int)] w (BoolIs (p b) w)) (he : ∀ args w, (callFunc g args).run Tryd.prog w = .ok (.enter g args) w)
    (s : ByteArray) (w : World) (hs : s.size ≤ 1000000) : Calls Tryd.prog 60 #[.string s, .func (.func g) #[] #[]] w (IntIs (runN p s.data.toList) w) := by
  have HC := Lib.hid hg
  clear hg
  go_enter Tryd.func60, Tryd.ntmps60
  go_wp2
  go_loopw [5] (fun i wr => ∃ k : Nat, k ≤ s.size ∧ i = .int .i64 k ∧ Hid (Ahead p s k) ∧ wr = w) (fun i _ => s.size - (intOf i).toNat)
  case atStart => exact ⟨0, Nat.zero_le _, rfl, Lib.hid ⟨Nat.zero_le _, fun j b hj => absurd hj (Nat.not_lt_zero _)⟩, rfl⟩
  case round =>
    obtain ⟨k, hk, rfl, HA, rfl⟩ := hrel
    by_cases hlt : k < s.size
    · have d1 : decide ((k : Int) < (s.size : Int)) = true := decide_eq_true (by omega)
      have d1' : decide (k < s.size) = true := decide_eq_true hlt
      have HB := Lib.hid (HC.out s[k])
      cases hp : p s[k]
      · rw [hp] at HB
        have HR := Lib.hid (HA.out.stop hlt hp)
        clear hp HC
        go_wp2_with (refine (HB.out _).mono ?_; rintro e w' ⟨rfl, rfl⟩)
        go_ret
        exact ⟨by rw [HR.out]; rfl, rfl⟩
      · rw [hp] at HB
        have HR := Lib.hid (HA.out.more hlt hp)
        clear hp HC
        go_wp2_with (refine (HB.out _).mono ?_; rintro e w' ⟨rfl, rfl⟩)
        go_roundw
        case rel => exact ⟨k + 1, by omega, by go_num, HR, by first | rfl | trivial⟩
        case measure => (simp [intOf] <;> omega)
    · obtain rfl : k = s.size := by omega
      have d1 : decide ((s.size : Int) < (s.size : Int)) = false := decide_eq_false (by omega)
      have HR := Lib.hid (HA.out.all rfl)
      go_wp2
      go_ret
      exact ⟨by rw [HR.out]; rfl, rfl⟩

theorem runW_c (s : ByteArray) (w : World) (hs : s.size ≤ 1000000) : Calls Tryd.prog 60 #[.string s, .func (.func 61) #[] #[]] w (IntIs (runN inW s.data.toList) w) :=
  run_any inW 61 inWord_c (fun _ _ => enters_of Tryd.func61 (by kernel_rfl) rfl _ _) s w hs
theorem runD_c (s : ByteArray) (w : World) (hs : s.size ≤ 1000000) : Calls Tryd.prog 60 #[.string s, .func (.func 63) #[] #[]] w (IntIs (runN isDig s.data.toList) w) :=
  run_any isDig 63 isDigit_c (fun _ _ => enters_of Tryd.func63 (by kernel_rfl) rfl _ _) s w hs
end Go.Proofs.YtdfegmdmappefaaDoor
