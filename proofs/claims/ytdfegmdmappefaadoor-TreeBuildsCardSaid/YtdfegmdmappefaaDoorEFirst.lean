/- The longest token that stands there, and its fault. -/
import Derived.Test.YtdfegmdmappefaaDoorESign
namespace Go.Proofs.YtdfegmdmappefaaDoor
open Go.RowKit

def PairIs (k z : Int) (w : World) (e : Ending) (w' : World) : Prop := e = .returned (.tuple #[.int .i64 k, .int .i64 z]) ∧ w = w'

theorem list_cons {s : ByteArray} (h : 0 < s.size) : s.data.toList = s[0] :: s.data.toList.drop 1 := by
  have h1 := byte_at (s := s) (k := 0) h
  obtain ⟨h2, h3⟩ := List.getElem?_eq_some_iff.1 h1
  have := List.drop_eq_getElem_cons h2
  rw [h3] at this
  exact this

theorem list_nil {s : ByteArray} (h : s.size = 0) : s.data.toList = [] := List.eq_nil_of_length_eq_zero (by rw [list_len, h])

theorem emp_true {s : ByteArray} (h : s.size = 0) : s.toList.isEmpty = true := by rw [toList_data, list_nil h]; rfl
theorem emp_false {s : ByteArray} (h : 0 < s.size) : s.toList.isEmpty = false := by rw [toList_data, list_cons h]; rfl

theorem ext_list (s : ByteArray) (a b : Nat) : (s.extract a b).data.toList = (s.data.toList.take b).drop a := by
  rw [ByteArray.data_extract, Array.toList_extract, List.extract_eq_take_drop, List.drop_take]
theorem ext_zero (s : ByteArray) (b : Nat) : (s.extract 0 b).data.toList = s.data.toList.take b := by rw [ext_list]; rfl
theorem ba_data (a : ByteArray) {x : List UInt8} (h : a.data.toList = x) : a = ⟨x.toArray⟩ := by
  cases a; simp at h; subst h; rfl

theorem ext_take (s : ByteArray) (p z : Nat) : (s.extract p (p + z)).data.toList = (s.data.toList.drop p).take z := by
  rw [ext_list, ← List.take_drop]

set_option maxRecDepth 100000 in
set_option maxHeartbeats 4000000 in
theorem first_c (s : ByteArray) (w : World) (hs : s.size ≤ 1000000) (h : LaidE w) : Calls Tryd.prog 41 #[.string s] w (PairIs (firstE s.data.toList).1 (firstE s.data.toList).2 w) := by
  by_cases h0 : s.size = 0
  · have hE := emp_true h0
    rw [list_nil h0]
    go_enter Tryd.func41, Tryd.ntmps41
    go_wp2_with fail
    go_ret2
    exact ⟨rfl, rfl⟩
  · have hp : 0 < s.size := by omega
    have hE := emp_false hp
    have HL := Lib.hid (isLetter_c s[0] w)
    have HD := Lib.hid (isDigit_c s[0] w)
    have HF : Hid (firstE s.data.toList = if isLet s[0] then (if keysL.contains (s.data.toList.take (runN inW s.data.toList)) then 2 else 1, runN inW s.data.toList)
      else if isDig s[0] then (3, runN isDig s.data.toList) else if 0 < signN s.data.toList then (4, signN s.data.toList) else (0, 0)) := Lib.hid (by
        have := firstE_cons s[0] (s.data.toList.drop 1)
        rw [← list_cons hp] at this; exact this)
    cases hx : isLet s[0]
    · rw [hx] at HL
      cases hy : isDig s[0]
      · rw [hy] at HD
        have HS := Lib.hid (signSize_c s w h)
        obtain ⟨z, hz⟩ : ∃ z, signN s.data.toList = z := ⟨_, rfl⟩
        rw [hz] at HS
        by_cases hz0 : 0 < z
        · have d1 : decide ((0 : Int) < z) = true := decide_eq_true (by omega)
          have d1' : decide (0 < z) = true := decide_eq_true hz0
          have HR : Hid (firstE s.data.toList = (4, z)) := Lib.hid (by rw [HF.out, hx, hy, hz, if_neg (by simp), if_neg (by simp), if_pos hz0])
          clear hx hy hz HF h
          go_enter Tryd.func41, Tryd.ntmps41
          go_wp2_with fail
          refine (HL.out).mono ?_
          rintro e w1 ⟨rfl, rfl⟩
          go_wp2_with fail
          refine (HD.out).mono ?_
          rintro e w1 ⟨rfl, rfl⟩
          go_wp2_with fail
          refine (HS.out).mono ?_
          rintro e w1 ⟨rfl, rfl⟩
          go_wp2_with fail
          go_ret2
          exact ⟨by rw [HR.out]; rfl, rfl⟩
        · obtain rfl : z = 0 := by omega
          have HR : Hid (firstE s.data.toList = (0, 0)) := Lib.hid (by rw [HF.out, hx, hy, hz, if_neg (by simp), if_neg (by simp), if_neg (by simp)])
          clear hx hy hz HF h
          go_enter Tryd.func41, Tryd.ntmps41
          go_wp2_with fail
          refine (HL.out).mono ?_
          rintro e w1 ⟨rfl, rfl⟩
          go_wp2_with fail
          refine (HD.out).mono ?_
          rintro e w1 ⟨rfl, rfl⟩
          go_wp2_with fail
          refine (HS.out).mono ?_
          rintro e w1 ⟨rfl, rfl⟩
          go_wp2_with fail
          go_ret2
          exact ⟨by rw [HR.out]; rfl, rfl⟩
      · rw [hy] at HD
        have HS := Lib.hid (runD_c s w hs)
        have HR : Hid (firstE s.data.toList = (3, runN isDig s.data.toList)) := Lib.hid (by rw [HF.out, hx, hy, if_neg (by simp), if_pos rfl])
        clear hx hy HF h
        go_enter Tryd.func41, Tryd.ntmps41
        go_wp2_with fail
        refine (HL.out).mono ?_
        rintro e w1 ⟨rfl, rfl⟩
        go_wp2_with fail
        refine (HD.out).mono ?_
        rintro e w1 ⟨rfl, rfl⟩
        go_wp2_with fail
        refine (HS.out).mono ?_
        rintro e w1 ⟨rfl, rfl⟩
        go_wp2_with fail
        go_ret2
        exact ⟨by rw [HR.out]; rfl, rfl⟩
    · rw [hx] at HL
      have HS := Lib.hid (runW_c s w hs)
      obtain ⟨z, hz⟩ : ∃ z, runN inW s.data.toList = z := ⟨_, rfl⟩
      have hzs : z ≤ s.size := by rw [← hz, ← list_len]; exact runN_le _ _
      have HK := Lib.hid (isKey_c (s.extract 0 z) w h)
      rw [ext_zero] at HK
      rw [hz] at HS
      have HR : Hid (firstE s.data.toList = (if keysL.contains (s.data.toList.take z) then 2 else 1, z)) := Lib.hid (by rw [HF.out, hx, hz, if_pos rfl])
      generalize keysL.contains (s.data.toList.take z) = kk at *
      clear hx hz HF h
      cases kk
      · go_enter Tryd.func41, Tryd.ntmps41
        go_wp2_with fail
        refine (HL.out).mono ?_
        rintro e w1 ⟨rfl, rfl⟩
        go_wp2_with fail
        refine (HS.out).mono ?_
        rintro e w1 ⟨rfl, rfl⟩
        go_wp2_with fail
        refine (HK.out).mono ?_
        rintro e w1 ⟨rfl, rfl⟩
        go_wp2_with fail
        go_ret2
        exact ⟨by rw [HR.out]; rfl, rfl⟩
      · go_enter Tryd.func41, Tryd.ntmps41
        go_wp2_with fail
        refine (HL.out).mono ?_
        rintro e w1 ⟨rfl, rfl⟩
        go_wp2_with fail
        refine (HS.out).mono ?_
        rintro e w1 ⟨rfl, rfl⟩
        go_wp2_with fail
        refine (HK.out).mono ?_
        rintro e w1 ⟨rfl, rfl⟩
        go_wp2_with fail
        go_ret2
        exact ⟨by rw [HR.out]; rfl, rfl⟩

theorem head_at {s : ByteArray} (h : 0 < s.size) : s.data.toList.head? = some s[0] := by rw [list_cons h]; rfl

set_option maxRecDepth 100000 in
set_option maxHeartbeats 4000000 in
theorem wrong_c (k : Nat) (hk : k ≤ 5) (s : ByteArray) (w : World) (hs : s.size ≤ 1000000) : Calls Tryd.prog 42 #[.int .i64 (k : Int), .string s] w (IntIs (wrongE k s.data.toList) w) := by
  have HR : Hid (wrongE k s.data.toList = if k = 0 ∨ k = 1 ∧ 40 < s.size then 20 else if k = 3 ∧ (60 < s.size ∨ 1 < s.size ∧ s.data.toList.head? = some 48) then 21 else 0) := Lib.hid (by unfold wrongE; rw [list_len])
  match k, hk with
  | 0, _ =>
    go_enter Tryd.func42, Tryd.ntmps42
    go_wp2
    go_ret
    exact ⟨by rw [HR.out]; rfl, rfl⟩
  | 1, _ =>
    by_cases h1 : 40 < s.size
    · have d1 : decide ((40 : Int) < s.size) = true := decide_eq_true (by omega)
      have d1' : decide (40 < s.size) = true := decide_eq_true h1
      have HV : Hid (wrongE 1 s.data.toList = 20) := Lib.hid (by rw [HR.out, if_pos (.inr ⟨rfl, h1⟩)])
      go_enter Tryd.func42, Tryd.ntmps42
      go_wp2
      go_ret
      exact ⟨by rw [HV.out]; rfl, rfl⟩
    · have d1 : decide ((40 : Int) < s.size) = false := decide_eq_false (by omega)
      have d1' : decide (40 < s.size) = false := decide_eq_false h1
      have HV : Hid (wrongE 1 s.data.toList = 0) := Lib.hid (by rw [HR.out, if_neg (by omega), if_neg (by omega)])
      go_enter Tryd.func42, Tryd.ntmps42
      go_wp2
      go_ret
      exact ⟨by rw [HV.out]; rfl, rfl⟩
  | 2, _ =>
    go_enter Tryd.func42, Tryd.ntmps42
    go_wp2
    go_ret
    exact ⟨by rw [HR.out]; rfl, rfl⟩
  | 3, _ =>
    by_cases h1 : 60 < s.size
    · have d1 : decide ((60 : Int) < s.size) = true := decide_eq_true (by omega)
      have d1' : decide (60 < s.size) = true := decide_eq_true h1
      have HV : Hid (wrongE 3 s.data.toList = 21) := Lib.hid (by rw [HR.out, if_neg (by omega), if_pos ⟨rfl, .inl h1⟩])
      go_enter Tryd.func42, Tryd.ntmps42
      go_wp2
      go_ret
      exact ⟨by rw [HV.out]; rfl, rfl⟩
    · have d1 : decide ((60 : Int) < s.size) = false := decide_eq_false (by omega)
      have d1' : decide (60 < s.size) = false := decide_eq_false h1
      by_cases h2 : 1 < s.size
      · have d2 : decide ((1 : Int) < s.size) = true := decide_eq_true (by omega)
        have d2' : decide (1 < s.size) = true := decide_eq_true h2
        have hp : 0 < s.size := by omega
        by_cases h3 : s[0] = 48
        · have d3 : (((s[0].toNat : Int)) == 48) = true := by rw [h3]; rfl
          have HV : Hid (wrongE 3 s.data.toList = 21) := Lib.hid (by rw [HR.out, if_neg (by omega), if_pos ⟨rfl, .inr ⟨h2, by rw [head_at hp, h3]⟩⟩])
          clear h3
          go_enter Tryd.func42, Tryd.ntmps42
          go_wp2
          go_ret
          exact ⟨by rw [HV.out]; rfl, rfl⟩
        · have d3 : (((s[0].toNat : Int)) == 48) = false := byte_ne 48 rfl h3
          have HV : Hid (wrongE 3 s.data.toList = 0) := Lib.hid (by rw [HR.out, if_neg (by omega), if_neg (fun h => by
            rcases h.2 with h | h
            · exact h1 h
            · rw [head_at hp] at h; exact h3 (Option.some.inj h.2))])
          clear h3
          go_enter Tryd.func42, Tryd.ntmps42
          go_wp2
          go_ret
          exact ⟨by rw [HV.out]; rfl, rfl⟩
      · have d2 : decide ((1 : Int) < s.size) = false := decide_eq_false (by omega)
        have d2' : decide (1 < s.size) = false := decide_eq_false h2
        have HV : Hid (wrongE 3 s.data.toList = 0) := Lib.hid (by rw [HR.out, if_neg (by omega), if_neg (by omega)])
        go_enter Tryd.func42, Tryd.ntmps42
        go_wp2
        go_ret
        exact ⟨by rw [HV.out]; rfl, rfl⟩
  | 4, _ =>
    go_enter Tryd.func42, Tryd.ntmps42
    go_wp2
    go_ret
    exact ⟨by rw [HR.out]; rfl, rfl⟩
  | 5, _ =>
    go_enter Tryd.func42, Tryd.ntmps42
    go_wp2
    go_ret
    exact ⟨by rw [HR.out]; rfl, rfl⟩
end Go.Proofs.YtdfegmdmappefaaDoor
