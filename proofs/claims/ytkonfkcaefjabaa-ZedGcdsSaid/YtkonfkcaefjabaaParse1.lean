/- Reading numbers: which texts are digits. -/
import Derived.Test.YtkonfkcaefjabaaStr
import Derived.Deep.CutBlock
import Derived.Deep.DeepCutAuto
namespace Go.Proofs.Ytkonfkcaefjabaa
open Go.RowKit Mx

/-- Plain digits: one at least, no nought ahead of others. -/
def plain (l : List UInt8) : Bool := (l.all fun b => decide (48 ≤ b.toNat ∧ b.toNat ≤ 57)) && (decide (l = [48]) || (decide (l ≠ []) && decide (l.head? ≠ some 48)))

theorem idx_run (s : ByteArray) (k b : Nat) (h : k < s.data.toList.length) (hb : (s.data.toList[k]).toNat = b) : ∀ w : World, (Instr.index 9 (.string s) (.int .i64 (k : Int))).run Try.prog w = .ok (.int .u8 (b : Int)) w := by
  intro w
  have hs : s.data.toList.length = s.size := Array.length_toList
  rw [run_index_string w 9 s .i64 k Try.underlying9, dif_pos ⟨by omega, by omega⟩]
  have e : (s[((k : Int)).toNat]'(by omega)).toNat = b := by
    rw [← hb]; simp [ByteArray.getElem_eq_getElem_data]
  rw [e]

theorem toList_data (s : ByteArray) : s.toList = s.data.toList := ByteArray.toList_eq s

theorem byte_lt (x : UInt8) : x.toNat < 256 := x.toNat_lt

set_option maxHeartbeats 2000000 in
theorem plain_c (s : ByteArray) (w : World) (hs : s.data.toList.length ≤ 1000) : Calls Try.prog 39 #[.string s] w (fun e w' => e = .returned (.bool (plain s.data.toList)) ∧ w' = w) := by
  obtain ⟨n, hn⟩ : ∃ n, s.data.toList.length = n := ⟨_, rfl⟩
  have hsz : s.size = n := by rw [← hn]; exact (Array.length_toList).symm
  rw [hn] at hs
  have HN := Lib.hid hn
  clear hn
  go_enter Try.func39, Try.ntmps39
  go_wp2
  go_loopw [6] (fun i wr => ∃ k : Nat, k ≤ n ∧ i = .int .i64 k ∧ Hid (∀ j (hj : j < s.data.toList.length), j < k → 48 ≤ (s.data.toList[j]).toNat ∧ (s.data.toList[j]).toNat ≤ 57) ∧ wr = w) (fun i _ => n - (intOf i).toNat)
  case atStart => exact ⟨0, by omega, rfl, fun j _ h => by omega, rfl⟩
  case round =>
    obtain ⟨k, hk, rfl, HD, rfl⟩ := hrel
    by_cases hlt : k < n
    · obtain ⟨b, hb⟩ : ∃ b : Nat, (s.data.toList[k]'(by rw [HN.out]; exact hlt)).toNat = b := ⟨_, rfl⟩
      have hb2 : b < 256 := by rw [← hb]; exact byte_lt _
      have hix := idx_run s k b (by rw [HN.out]; exact hlt) hb
      have HB := Lib.hid hb
      clear hb
      have hbad : (b < 48 ∨ 57 < b) → plain s.data.toList = false := by
        intro h
        unfold plain
        have : (s.data.toList.all fun b => decide (48 ≤ b.toNat ∧ b.toNat ≤ 57)) = false := by
          rw [List.all_eq_false]
          exact ⟨_, List.getElem_mem (by rw [HN.out]; exact hlt), by rw [HB.out]; simp; omega⟩
        rw [this]; rfl
      have HBAD := Lib.hid hbad
      clear hbad
      by_cases h1 : b < 48
      · have d1 : decide ((b : Int) < 48) = true := decide_eq_true (by omega)
        go_wp2
        go_ret
        exact ⟨congrArg (fun b => Ending.returned (.bool b)) (HBAD.out (.inl h1)).symm, rfl⟩
      · have d1 : decide ((b : Int) < 48) = false := decide_eq_false (by omega)
        by_cases h2 : 57 < b
        · have d2 : decide ((57 : Int) < b) = true := decide_eq_true (by omega)
          go_wp2
          go_ret
          exact ⟨congrArg (fun b => Ending.returned (.bool b)) (HBAD.out (.inr h2)).symm, rfl⟩
        · have d2 : decide ((57 : Int) < b) = false := decide_eq_false (by omega)
          go_wp2
          go_roundw
          case rel =>
            refine ⟨k + 1, by omega, by go_num, fun j hj h => ?_, by first | rfl | trivial⟩
            rcases Nat.lt_or_ge j k with h | h
            · exact HD.out j hj h
            · obtain rfl : j = k := by omega
              rw [HB.out]; omega
          case measure => simp [intOf]; omega
    · obtain rfl : k = n := by omega
      have hall : (s.data.toList.all fun b => decide (48 ≤ b.toNat ∧ b.toNat ≤ 57)) = true := by
        rw [List.all_eq_true]
        intro x hx
        obtain ⟨j, hj, rfl⟩ := List.getElem_of_mem hx
        exact decide_eq_true (HD.out j hj (by rw [← HN.out]; exact hj))
      have hp : plain s.data.toList = (decide (s.data.toList = [48]) || (decide (s.data.toList ≠ []) && decide (s.data.toList.head? ≠ some 48))) := by
        unfold plain; rw [hall]; rfl
      have HP := Lib.hid hp
      clear hall hp
      by_cases hz : s.data.toList = [48]
      · have c1 : (s.toList == [48]) = true := by rw [toList_data, hz]; rfl
        have HZ := Lib.hid hz
        clear hz
        go_wp2
        go_ret
        exact ⟨congrArg (fun b => Ending.returned (.bool b)) (show true = plain s.data.toList by rw [HP.out, HZ.out]; rfl), by first | rfl | trivial⟩
      · have c1 : (s.toList == [48]) = false := by rw [toList_data]; exact beq_eq_false_iff_ne.2 hz
        by_cases h0 : k = 0
        · subst h0
          have hnil : s.data.toList = [] := List.eq_nil_of_length_eq_zero HN.out
          have c2 : s.toList.isEmpty = true := by rw [toList_data, hnil]; rfl
          have HZ := Lib.hid hnil
          clear hz hnil
          go_wp2
          go_ret
          exact ⟨congrArg (fun b => Ending.returned (.bool b)) (show false = plain s.data.toList by rw [HP.out, HZ.out]; rfl), by first | rfl | trivial⟩
        · have h0' : 0 < s.data.toList.length := by rw [HN.out]; omega
          have hnil : s.data.toList ≠ [] := List.ne_nil_of_length_pos h0'
          have c2 : s.toList.isEmpty = false := by rw [toList_data]; simpa using hnil
          have hpl : ∀ h : 0 < s.size, ((((s[0]'h).toNat : Nat) : Int) != 48) = plain s.data.toList := by
            intro h
            have e : s[0]'h = s.data.toList[0]'h0' := by simp [ByteArray.getElem_eq_getElem_data]
            rw [e, HP.out, decide_eq_false hz, decide_eq_true hnil, Bool.false_or, Bool.true_and, List.head?_eq_getElem?, List.getElem?_eq_getElem h0']
            generalize s.data.toList[0] = x
            by_cases hx : x = 48
            · subst hx; decide
            · rw [decide_eq_true (by simpa using hx)]
              exact bne_iff_ne.2 (fun e => hx (UInt8.toNat_inj.1 (by have : x.toNat = 48 := by omega
                                                                     rw [this]; rfl)))
          have HPL := Lib.hid hpl
          clear hz hnil hpl
          go_wp2
          go_ret
          exact ⟨congrArg (fun b => Ending.returned (.bool b)) (HPL.out _), by first | rfl | trivial⟩
end Go.Proofs.Ytkonfkcaefjabaa
