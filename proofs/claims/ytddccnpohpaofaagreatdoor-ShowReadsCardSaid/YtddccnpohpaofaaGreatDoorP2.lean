/- Lemmas. -/
import Derived.Deep.MidRow
import Derived.Lib.JoinLaws
import Derived.Shelf.Strings.SlTrimAscii
import Derived.Test.YtddccnpohpaofaaGreatDoorP0
import Derived.Test.YtddccnpohpaofaaGreatDoorP1
set_option linter.unusedVariables false
set_option linter.unusedSimpArgs false
namespace Go.Proofs.YtddccnpohpaofaaGreatDoor
open Go.RowKit

theorem ret_bool {a b : Bool} (h : a = b) : Ending.returned (.bool a) = .returned (.bool b) := by rw [h]
theorem ret_int {k : IntKind} {a b : Int} (h : a = b) : Ending.returned (.int k a) = .returned (.int k b) := by rw [h]

def BoolIs (v : Bool) (w : World) (e : Ending) (w' : World) : Prop := e = .returned (.bool v) ∧ w = w'

theorem isLet_nat (b : UInt8) : isLet b = ((decide (97 ≤ b.toNat) && decide (b.toNat ≤ 122)) || (decide (65 ≤ b.toNat) && decide (b.toNat ≤ 90))) := by
  unfold isLet; simp only [UInt8.le_iff_toNat_le]; rfl
theorem isDig_nat (b : UInt8) : isDig b = (decide (48 ≤ b.toNat) && decide (b.toNat ≤ 57)) := by
  unfold isDig; simp only [UInt8.le_iff_toNat_le]; rfl
theorem eq_nat (b c : UInt8) : (b == c) = decide (b.toNat = c.toNat) := by
  rw [Bool.eq_iff_iff]; simp [UInt8.toNat_inj]
set_option maxRecDepth 100000 in
theorem isDigit_c (b : UInt8) (w : World) : Calls Tryz.prog 105 #[.int .u8 (b.toNat : Int)] w (BoolIs (isDig b) w) := by
  rw [isDig_nat]
  have hb := b.toNat_lt
  generalize b.toNat = n at *
  go_enter Tryz.func105, Tryz.ntmps105
  go_wp2
  all_goals
    go_ret
    refine ⟨ret_bool ?_, rfl⟩
    rw [Bool.eq_iff_iff]; simp; try omega

set_option maxRecDepth 100000 in
theorem isLetter_c (b : UInt8) (w : World) : Calls Tryz.prog 101 #[.int .u8 (b.toNat : Int)] w (BoolIs (isLet b) w) := by
  rw [isLet_nat]
  have hb := b.toNat_lt
  generalize b.toNat = n at *
  go_enter Tryz.func101, Tryz.ntmps101
  go_wp2
  all_goals
    go_ret
    refine ⟨ret_bool ?_, rfl⟩
    rw [Bool.eq_iff_iff]; simp; try omega

set_option maxRecDepth 100000 in
theorem inWord_c (b : UInt8) (w : World) : Calls Tryz.prog 103 #[.int .u8 (b.toNat : Int)] w (BoolIs (inW b) w) := by
  have HL := Lib.hid (fun W => isLetter_c b W)
  have HD := Lib.hid (fun W => isDigit_c b W)
  unfold inW
  rw [eq_nat, show (95 : UInt8).toNat = 95 from rfl]
  generalize isLet b = x at *
  generalize isDig b = y at *
  have hb := b.toNat_lt
  generalize b.toNat = n at *
  cases x <;> cases y
  all_goals
    go_enter Tryz.func103, Tryz.ntmps103
    go_wp2_with (first | (go_at_call 101; refine (HL.out _).mono ?_; rintro e w' ⟨rfl, rfl⟩) | (go_at_call 105; refine (HD.out _).mono ?_; rintro e w' ⟨rfl, rfl⟩))
    go_ret
    refine ⟨ret_bool ?_, rfl⟩
    rw [Bool.eq_iff_iff]; simp; try omega

/-- The string's byte at k. -/
theorem byte_at {s : ByteArray} {k : Nat} (h : k < s.size) : s.data.toList[k]? = some s[k] := by
  rw [List.getElem?_eq_getElem (by rw [Array.length_toList]; exact h)]; rfl
theorem list_len (s : ByteArray) : s.data.toList.length = s.size := Array.length_toList

theorem byte_ne {b : UInt8} (c : UInt8) {n : Int} (hc : (c.toNat : Int) = n) (h : ¬ b = c) : ((b.toNat : Int) == n) = false := by
  subst hc
  rw [beq_eq_false_iff_ne]
  intro e
  exact h (UInt8.toNat_inj.1 (Int.ofNat_inj.1 e))
def IntIs (v : Int) (w : World) (e : Ending) (w' : World) : Prop := e = .returned (.int .i64 v) ∧ w = w'

def Ahead (p : UInt8 → Bool) (s : ByteArray) (k : Nat) : Prop := k ≤ s.size ∧ ∀ j b, j < k → s.data.toList[j]? = some b → p b = true

theorem Ahead.more {p : UInt8 → Bool} {s : ByteArray} {k : Nat} (h : Ahead p s k) (hk : k < s.size) (hp : p s[k] = true) : Ahead p s (k + 1) :=
  ⟨hk, fun j b hj hb => by
    by_cases e : j = k
    · subst e; rw [byte_at hk] at hb; injection hb with hb; rw [← hb]; exact hp
    · exact h.2 j b (by omega) hb⟩
theorem Ahead.stop {p : UInt8 → Bool} {s : ByteArray} {k : Nat} (h : Ahead p s k) (hk : k < s.size) (hp : p s[k] = false) : runN p s.data.toList = k :=
  runN_drop p (by rw [list_len]; exact h.1) h.2 (fun b hb => by rw [byte_at hk] at hb; injection hb with hb; rw [← hb]; exact hp)
theorem Ahead.all {p : UInt8 → Bool} {s : ByteArray} {k : Nat} (h : Ahead p s k) (hk : k = s.size) : runN p s.data.toList = k :=
  runN_drop p (by rw [list_len]; exact h.1) h.2 (fun b hb => by rw [List.getElem?_eq_none (by rw [list_len]; omega)] at hb; cases hb)

set_option maxRecDepth 100000 in
set_option maxHeartbeats 2000000 in
theorem run_any (p : UInt8 → Bool) (g : Nat) (hg : ∀ b w, Calls Tryz.prog g #[.int .u8 (b.toNat : Int)] w (BoolIs (p b) w)) (he : ∀ args w, (callFunc g args).run Tryz.prog w = .ok (.enter g args) w)
    (s : ByteArray) (w : World) (hs : s.size ≤ 1000000) : Calls Tryz.prog 102 #[.string s, .func (.func g) #[] #[]] w (IntIs (runN p s.data.toList) w) := by
  have HC := Lib.hid hg
  clear hg
  go_enter Tryz.func102, Tryz.ntmps102
  go_wp2
  go_loopw [5] (fun i wr => ∃ k : Nat, k ≤ s.size ∧ i = .int .i64 k ∧ Hid (Ahead p s k) ∧ wr = w) (fun i _ => s.size - (intOf i).toNat)
  case atStart => exact ⟨0, Nat.zero_le _, rfl, Lib.hid ⟨Nat.zero_le _, fun j b hj => absurd hj (Nat.not_lt_zero _)⟩, rfl⟩
  case round =>
    obtain ⟨k, hk, rfl, HA, rfl⟩ := hrel
    by_cases hlt : k < s.size
    · have d1 : decide ((k : Int) < (s.size : Int)) = true := decide_eq_true (by omega)
      have d1' : decide (k < s.size) = true := decide_eq_true hlt
      have HB := Lib.hid (HC.out s[k])
      cases hp : p s[k]
      · rw [hp] at HB
        have HR := Lib.hid (HA.out.stop hlt hp)
        clear hp HC
        go_wp2_with (refine (HB.out _).mono ?_; rintro e w' ⟨rfl, rfl⟩)
        go_ret
        exact ⟨by rw [HR.out]; rfl, rfl⟩
      · rw [hp] at HB
        have HR := Lib.hid (HA.out.more hlt hp)
        clear hp HC
        go_wp2_with (refine (HB.out _).mono ?_; rintro e w' ⟨rfl, rfl⟩)
        go_roundw
        case rel => exact ⟨k + 1, by omega, by go_num, HR, by first | rfl | trivial⟩
        case measure => (simp [intOf] <;> omega)
    · obtain rfl : k = s.size := by omega
      have d1 : decide ((s.size : Int) < (s.size : Int)) = false := decide_eq_false (by omega)
      have HR := Lib.hid (HA.out.all rfl)
      go_wp2
      go_ret
      exact ⟨by rw [HR.out]; rfl, rfl⟩

theorem runW_c (s : ByteArray) (w : World) (hs : s.size ≤ 1000000) : Calls Tryz.prog 102 #[.string s, .func (.func 103) #[] #[]] w (IntIs (runN inW s.data.toList) w) :=
  run_any inW 103 inWord_c (fun _ _ => enters_of Tryz.func103 (by kernel_rfl) rfl _ _) s w hs
theorem runD_c (s : ByteArray) (w : World) (hs : s.size ≤ 1000000) : Calls Tryz.prog 102 #[.string s, .func (.func 105) #[] #[]] w (IntIs (runN isDig s.data.toList) w) :=
  run_any isDig 105 isDigit_c (fun _ _ => enters_of Tryz.func105 (by kernel_rfl) rfl _ _) s w hs

def strV (x : List UInt8) : Value := .string ⟨x.toArray⟩

theorem gKeys : Tryz.prog.globalNamed "touchstone/lex.keys" = some 1 := by kernel_rfl
theorem gSigns : Tryz.prog.globalNamed "touchstone/lex.signs" = some 2 := by kernel_rfl

/-- The two variables hold the keys and the signs. -/
def LaidE (w : World) : Prop := (∀ j v, (keysL.map strV)[j]? = some v → w.cell? ⟨1, j, none⟩ = some v) ∧ (∀ j v, (signsL.map strV)[j]? = some v → w.cell? ⟨2, j, none⟩ = some v)

theorem LaidE.kept {w w' : World} (h : LaidE w) (hg : w.grownBy w' none) : LaidE w' :=
  ⟨fun j v hj => hg.cell (h.1 j v hj) (by simp), fun j v hj => hg.cell (h.2 j v hj) (by simp)⟩

theorem arr_index {t : TypeId} {n : Nat} (ht : Tryz.prog.underlying t = some (.array n 9)) (A : Array Value) (k : Nat) (v : Value) (hk : k < n) (hv : A[k]? = some v) (w : World) :
    (Instr.index t (.agg A) (.int .i64 (k : Int))).run Tryz.prog w = .ok v w := by
  simp [Instr.index, run_underlying ht, asIntOf, hk, part, Tryz.sizeOf9, Tryz.isAgg9, go_sem, hv]

theorem toList_data (s : ByteArray) : s.toList = s.data.toList := Lib.toList_data s

/-- An array of strings by value, hidden behind a name. -/
def ArrIs (A : Value) (L : List (List UInt8)) : Prop := A = .agg (L.map strV).toArray

theorem ArrIs.run {A : Value} {L : List (List UInt8)} (h : ArrIs A L) {t : TypeId} {n : Nat} (ht : Tryz.prog.underlying t = some (.array n 9)) (hn : L.length = n) {k : Nat} {x : List UInt8} (hx : L[k]? = some x) (w : World) :
    (Instr.index t A (.int .i64 (k : Int))).run Tryz.prog w = .ok (.string ⟨x.toArray⟩) w := by
  rw [h]
  refine arr_index ht _ k _ ?_ ?_ w
  · have := (List.getElem?_eq_some_iff.1 hx).1; omega
  · simp [hx, strV]

theorem contains_step {L : List (List UInt8)} {k : Nat} {x s : List UInt8} (h : L.contains s = (L.drop k).contains s) (hx : L[k]? = some x) (hne : x ≠ s) : L.contains s = (L.drop (k + 1)).contains s := by
  have e : L.drop k = x :: L.drop (k + 1) := by
    obtain ⟨hk, rfl⟩ := List.getElem?_eq_some_iff.1 hx
    exact List.drop_eq_getElem_cons hk
  have hb : (s == x) = false := by simpa using fun e => hne e.symm
  rw [h, e, List.contains_cons, hb, Bool.false_or]

theorem sizeK : (Tryz.prog.info? 180).map (·.size) = some (keysL.map strV).length := by kernel_rfl
theorem sizeG : (Tryz.prog.info? 181).map (·.size) = some (signsL.map strV).length := by kernel_rfl

set_option maxRecDepth 100000 in
set_option maxHeartbeats 4000000 in
theorem isKey_c (s : ByteArray) (w : World) (h : LaidE w) : Calls Tryz.prog 104 #[.string s] w (BoolIs (keysL.contains s.data.toList) w) := by
  obtain ⟨h0, -⟩ := h
  have hr : w.rangeAt 1 0 (keysL.map strV) := fun j v hj => by rw [Nat.zero_add]; exact h0 j v hj
  have HRG := Lib.hid hr
  clear hr
  clear h0
  have HST : Hid (keysL.contains s.data.toList = (keysL.drop 0).contains s.data.toList) := Lib.hid rfl
  have HSL := Lib.hid (toList_data s)
  go_enter Tryz.func104, Tryz.ntmps104
  go_wp2_with (refine wpList_load_mid rfl 180 _ rfl 1 0 rfl (keysL.map strV) _ HRG.out Tryz.underlying180 rfl sizeK ?_)
  have HA : Hid (ArrIs (.agg (keysL.map strV).toArray) keysL) := Lib.hid rfl
  generalize Value.agg (keysL.map strV).toArray = A at *
  go_wp2
  go_loopw [6] (fun i wr => ∃ k : Nat, k ≤ 15 ∧ i = .int .i64 k ∧ Hid (keysL.contains s.data.toList = (keysL.drop k).contains s.data.toList) ∧ wr = w) (fun i _ => 15 - (intOf i).toNat)
  case atStart => exact ⟨0, Nat.zero_le _, rfl, HST, rfl⟩
  case round =>
    clear HST
    obtain ⟨k, hk, rfl, HC, rfl⟩ := hrel
    by_cases hlt : k < 15
    · have d1 : decide ((k : Int) < 15) = true := decide_eq_true (by omega)
      have d1' : decide (k < 15) = true := decide_eq_true hlt
      obtain ⟨x, hx⟩ : ∃ x, keysL[k]? = some x := ⟨keysL[k]'hlt, List.getElem?_eq_getElem _⟩
      have hrun := HA.out.run (t := 180) (n := 15) Tryz.underlying180 rfl hx
      obtain ⟨y, hy⟩ : ∃ y : ByteArray, (⟨x.toArray⟩ : ByteArray) = y := ⟨_, rfl⟩
      have hyl : y.toList = x := by rw [toList_data, ← hy]
      rw [hy] at hrun
      by_cases he : x = s.data.toList
      · have d2 : (y.toList == s.toList) = true := by rw [hyl, HSL.out, he]; simp
        have HR : Hid (keysL.contains s.data.toList = true) := Lib.hid (by rw [← he]; simpa using List.mem_of_getElem? hx)
        clear hx he hyl hy
        go_wp2
        go_ret
        exact ⟨by rw [HR.out]; rfl, rfl⟩
      · have d2 : (y.toList == s.toList) = false := by rw [hyl, HSL.out]; simpa using he
        have HR := Lib.hid (contains_step HC.out hx he)
        clear hx he hyl hy
        go_wp2
        go_roundw
        case rel => exact ⟨k + 1, by omega, by go_num, HR, by first | rfl | trivial⟩
        case measure => (simp [intOf] <;> omega)
    · obtain rfl : k = 15 := by omega
      have HR : Hid (keysL.contains s.data.toList = false) := Lib.hid HC.out
      go_wp2
      go_ret
      exact ⟨by rw [HR.out]; rfl, rfl⟩

theorem hasPrefix_pre (l p : List UInt8) : Lib.hasPrefix l p = p.isPrefixOf l := rfl

theorem fm_next {L : List (List UInt8)} {k : Nat} {x l : List UInt8} (hx : L[k]? = some x) : fm (L.take (k + 1)) l 0 = if x.isPrefixOf l then max (fm (L.take k) l 0) x.length else fm (L.take k) l 0 := by
  rw [List.take_add_one, hx]; exact fm_snoc _ _ _ _

set_option maxRecDepth 100000 in
set_option maxHeartbeats 4000000 in
theorem signSize_c (s : ByteArray) (w : World) (h : LaidE w) : Calls Tryz.prog 106 #[.string s] w (IntIs (signN s.data.toList) w) := by
  obtain ⟨-, h0⟩ := h
  have hr : w.rangeAt 2 0 (signsL.map strV) := fun j v hj => by rw [Nat.zero_add]; exact h0 j v hj
  have HRG := Lib.hid hr
  clear hr
  clear h0
  have HP := Lib.hid (fun p W => Tryz.strings_HasPrefix s p W)
  go_enter Tryz.func106, Tryz.ntmps106
  go_wp2_with (refine wpList_load_mid rfl 181 _ rfl 2 0 rfl (signsL.map strV) _ HRG.out Tryz.underlying181 rfl sizeG ?_)
  have HA : Hid (ArrIs (.agg (signsL.map strV).toArray) signsL) := Lib.hid rfl
  generalize Value.agg (signsL.map strV).toArray = A at *
  go_wp2
  go_loopw [3, 7] (fun m i wr => ∃ (k z : Nat), k ≤ 22 ∧ i = .int .i64 k ∧ m = .int .i64 z ∧ z ≤ 2 ∧ Hid (fm (signsL.take k) s.data.toList 0 = z) ∧ wr = w) (fun _ i _ => 22 - (intOf i).toNat)
  case atStart => exact ⟨0, 0, Nat.zero_le _, rfl, rfl, by omega, Lib.hid rfl, rfl⟩
  case round =>
    obtain ⟨k, z, hk, rfl, rfl, hz, HC, rfl⟩ := hrel
    by_cases hlt : k < 22
    · have d1 : decide ((k : Int) < 22) = true := decide_eq_true (by omega)
      have d1' : decide (k < 22) = true := decide_eq_true hlt
      obtain ⟨x, hx⟩ : ∃ x, signsL[k]? = some x := ⟨signsL[k]'hlt, List.getElem?_eq_getElem _⟩
      have hrun := HA.out.run (t := 181) (n := 22) Tryz.underlying181 rfl hx
      have hxl : x.length ≤ 2 := (show ∀ g ∈ signsL, g.length ≤ 2 by decide) x (List.mem_of_getElem? hx)
      have hn := fm_next (l := s.data.toList) hx
      rw [HC.out] at hn
      obtain ⟨y, hy⟩ : ∃ y : ByteArray, (⟨x.toArray⟩ : ByteArray) = y := ⟨_, rfl⟩
      have hyl : y.data.toList = x := by rw [← hy]
      have hys : y.size = x.length := by rw [← list_len, hyl]
      rw [hy] at hrun
      have hp := HP.out y
      rw [hasPrefix_pre, hyl] at hp
      cases hpre : x.isPrefixOf s.data.toList
      · rw [hpre] at hp
        rw [hpre, if_neg (by simp)] at hn
        have HPX := Lib.hid hp
        have HN := Lib.hid hn
        clear hp hn hx hpre hyl hys hy hxl
        go_wp2_with (refine (HPX.out _).mono ?_; rintro e w' ⟨rfl, rfl⟩)
        go_roundw
        case rel => exact ⟨k + 1, z, by omega, by go_num, by first | rfl | trivial, by omega, HN, by first | rfl | trivial⟩
        case measure => (simp [intOf] <;> omega)
      · rw [hpre] at hp
        rw [hpre, if_pos rfl, ← hys] at hn
        rw [← hys] at hxl
        have HPX := Lib.hid hp
        have HN := Lib.hid hn
        clear hp hn hx hpre hyl hys hy
        go_wp2_with (refine (HPX.out _).mono ?_; rintro e w' ⟨rfl, rfl⟩)
        all_goals
          go_roundw
          case rel => exact ⟨k + 1, max z y.size, by omega, by go_num, by first | rfl | go_num | (exact val_of (by rw [Int.natCast_max, Int.max_def])), by omega, HN, by first | rfl | trivial⟩
          case measure => (simp [intOf] <;> omega)
    · obtain rfl : k = 22 := by omega
      have HR : Hid (signN s.data.toList = z) := Lib.hid HC.out
      go_wp2
      go_ret
      exact ⟨by rw [HR.out]; rfl, rfl⟩

def PairIs (k z : Int) (w : World) (e : Ending) (w' : World) : Prop := e = .returned (.tuple #[.int .i64 k, .int .i64 z]) ∧ w = w'

theorem list_cons {s : ByteArray} (h : 0 < s.size) : s.data.toList = s[0] :: s.data.toList.drop 1 := by
  have h1 := byte_at (s := s) (k := 0) h
  obtain ⟨h2, h3⟩ := List.getElem?_eq_some_iff.1 h1
  have := List.drop_eq_getElem_cons h2
  rw [h3] at this
  exact this

theorem list_nil {s : ByteArray} (h : s.size = 0) : s.data.toList = [] := List.eq_nil_of_length_eq_zero (by rw [list_len, h])

theorem emp_true {s : ByteArray} (h : s.size = 0) : s.toList.isEmpty = true := by rw [toList_data, list_nil h]; rfl
theorem emp_false {s : ByteArray} (h : 0 < s.size) : s.toList.isEmpty = false := by rw [toList_data, list_cons h]; rfl

theorem ext_list (s : ByteArray) (a b : Nat) : (s.extract a b).data.toList = (s.data.toList.take b).drop a := by
  rw [ByteArray.data_extract, Array.toList_extract, List.extract_eq_take_drop, List.drop_take]
theorem ext_zero (s : ByteArray) (b : Nat) : (s.extract 0 b).data.toList = s.data.toList.take b := by rw [ext_list]; rfl
theorem ext_take (s : ByteArray) (p z : Nat) : (s.extract p (p + z)).data.toList = (s.data.toList.drop p).take z := by
  rw [ext_list, ← List.take_drop]

set_option maxRecDepth 100000 in
set_option maxHeartbeats 4000000 in
theorem first_c (s : ByteArray) (w : World) (hs : s.size ≤ 1000000) (h : LaidE w) : Calls Tryz.prog 66 #[.string s] w (PairIs (firstE s.data.toList).1 (firstE s.data.toList).2 w) := by
  by_cases h0 : s.size = 0
  · have hE := emp_true h0
    rw [list_nil h0]
    go_enter Tryz.func66, Tryz.ntmps66
    go_wp2_with fail
    go_ret2
    exact ⟨rfl, rfl⟩
  · have hp : 0 < s.size := by omega
    have hE := emp_false hp
    have HL := Lib.hid (isLetter_c s[0] w)
    have HD := Lib.hid (isDigit_c s[0] w)
    have HF : Hid (firstE s.data.toList = if isLet s[0] then (if keysL.contains (s.data.toList.take (runN inW s.data.toList)) then 2 else 1, runN inW s.data.toList)
      else if isDig s[0] then (3, runN isDig s.data.toList) else if 0 < signN s.data.toList then (4, signN s.data.toList) else (0, 0)) := Lib.hid (by
        have := firstE_cons s[0] (s.data.toList.drop 1)
        rw [← list_cons hp] at this; exact this)
    cases hx : isLet s[0]
    · rw [hx] at HL
      cases hy : isDig s[0]
      · rw [hy] at HD
        have HS := Lib.hid (signSize_c s w h)
        obtain ⟨z, hz⟩ : ∃ z, signN s.data.toList = z := ⟨_, rfl⟩
        rw [hz] at HS
        by_cases hz0 : 0 < z
        · have d1 : decide ((0 : Int) < z) = true := decide_eq_true (by omega)
          have d1' : decide (0 < z) = true := decide_eq_true hz0
          have HR : Hid (firstE s.data.toList = (4, z)) := Lib.hid (by rw [HF.out, hx, hy, hz, if_neg (by simp), if_neg (by simp), if_pos hz0])
          clear hx hy hz HF h
          go_enter Tryz.func66, Tryz.ntmps66
          go_wp2_with fail
          refine (HL.out).mono ?_
          rintro e w1 ⟨rfl, rfl⟩
          go_wp2_with fail
          refine (HD.out).mono ?_
          rintro e w1 ⟨rfl, rfl⟩
          go_wp2_with fail
          refine (HS.out).mono ?_
          rintro e w1 ⟨rfl, rfl⟩
          go_wp2_with fail
          go_ret2
          exact ⟨by rw [HR.out]; rfl, rfl⟩
        · obtain rfl : z = 0 := by omega
          have HR : Hid (firstE s.data.toList = (0, 0)) := Lib.hid (by rw [HF.out, hx, hy, hz, if_neg (by simp), if_neg (by simp), if_neg (by simp)])
          clear hx hy hz HF h
          go_enter Tryz.func66, Tryz.ntmps66
          go_wp2_with fail
          refine (HL.out).mono ?_
          rintro e w1 ⟨rfl, rfl⟩
          go_wp2_with fail
          refine (HD.out).mono ?_
          rintro e w1 ⟨rfl, rfl⟩
          go_wp2_with fail
          refine (HS.out).mono ?_
          rintro e w1 ⟨rfl, rfl⟩
          go_wp2_with fail
          go_ret2
          exact ⟨by rw [HR.out]; rfl, rfl⟩
      · rw [hy] at HD
        have HS := Lib.hid (runD_c s w hs)
        have HR : Hid (firstE s.data.toList = (3, runN isDig s.data.toList)) := Lib.hid (by rw [HF.out, hx, hy, if_neg (by simp), if_pos rfl])
        clear hx hy HF h
        go_enter Tryz.func66, Tryz.ntmps66
        go_wp2_with fail
        refine (HL.out).mono ?_
        rintro e w1 ⟨rfl, rfl⟩
        go_wp2_with fail
        refine (HD.out).mono ?_
        rintro e w1 ⟨rfl, rfl⟩
        go_wp2_with fail
        refine (HS.out).mono ?_
        rintro e w1 ⟨rfl, rfl⟩
        go_wp2_with fail
        go_ret2
        exact ⟨by rw [HR.out]; rfl, rfl⟩
    · rw [hx] at HL
      have HS := Lib.hid (runW_c s w hs)
      obtain ⟨z, hz⟩ : ∃ z, runN inW s.data.toList = z := ⟨_, rfl⟩
      have hzs : z ≤ s.size := by rw [← hz, ← list_len]; exact runN_le _ _
      have HK := Lib.hid (isKey_c (s.extract 0 z) w h)
      rw [ext_zero] at HK
      rw [hz] at HS
      have HR : Hid (firstE s.data.toList = (if keysL.contains (s.data.toList.take z) then 2 else 1, z)) := Lib.hid (by rw [HF.out, hx, hz, if_pos rfl])
      generalize keysL.contains (s.data.toList.take z) = kk at *
      clear hx hz HF h
      cases kk
      · go_enter Tryz.func66, Tryz.ntmps66
        go_wp2_with fail
        refine (HL.out).mono ?_
        rintro e w1 ⟨rfl, rfl⟩
        go_wp2_with fail
        refine (HS.out).mono ?_
        rintro e w1 ⟨rfl, rfl⟩
        go_wp2_with fail
        refine (HK.out).mono ?_
        rintro e w1 ⟨rfl, rfl⟩
        go_wp2_with fail
        go_ret2
        exact ⟨by rw [HR.out]; rfl, rfl⟩
      · go_enter Tryz.func66, Tryz.ntmps66
        go_wp2_with fail
        refine (HL.out).mono ?_
        rintro e w1 ⟨rfl, rfl⟩
        go_wp2_with fail
        refine (HS.out).mono ?_
        rintro e w1 ⟨rfl, rfl⟩
        go_wp2_with fail
        refine (HK.out).mono ?_
        rintro e w1 ⟨rfl, rfl⟩
        go_wp2_with fail
        go_ret2
        exact ⟨by rw [HR.out]; rfl, rfl⟩

theorem head_at {s : ByteArray} (h : 0 < s.size) : s.data.toList.head? = some s[0] := by rw [list_cons h]; rfl

set_option maxRecDepth 100000 in
set_option maxHeartbeats 4000000 in
theorem wrong_c (k : Nat) (hk : k ≤ 5) (s : ByteArray) (w : World) (hs : s.size ≤ 1000000) : Calls Tryz.prog 67 #[.int .i64 (k : Int), .string s] w (IntIs (wrongE k s.data.toList) w) := by
  have HR : Hid (wrongE k s.data.toList = if k = 0 ∨ k = 1 ∧ 40 < s.size then 20 else if k = 3 ∧ (60 < s.size ∨ 1 < s.size ∧ s.data.toList.head? = some 48) then 21 else 0) := Lib.hid (by unfold wrongE; rw [list_len])
  match k, hk with
  | 0, _ =>
    go_enter Tryz.func67, Tryz.ntmps67
    go_wp2
    go_ret
    exact ⟨by rw [HR.out]; rfl, rfl⟩
  | 1, _ =>
    by_cases h1 : 40 < s.size
    · have d1 : decide ((40 : Int) < s.size) = true := decide_eq_true (by omega)
      have d1' : decide (40 < s.size) = true := decide_eq_true h1
      have HV : Hid (wrongE 1 s.data.toList = 20) := Lib.hid (by rw [HR.out, if_pos (.inr ⟨rfl, h1⟩)])
      go_enter Tryz.func67, Tryz.ntmps67
      go_wp2
      go_ret
      exact ⟨by rw [HV.out]; rfl, rfl⟩
    · have d1 : decide ((40 : Int) < s.size) = false := decide_eq_false (by omega)
      have d1' : decide (40 < s.size) = false := decide_eq_false h1
      have HV : Hid (wrongE 1 s.data.toList = 0) := Lib.hid (by rw [HR.out, if_neg (by omega), if_neg (by omega)])
      go_enter Tryz.func67, Tryz.ntmps67
      go_wp2
      go_ret
      exact ⟨by rw [HV.out]; rfl, rfl⟩
  | 2, _ =>
    go_enter Tryz.func67, Tryz.ntmps67
    go_wp2
    go_ret
    exact ⟨by rw [HR.out]; rfl, rfl⟩
  | 3, _ =>
    by_cases h1 : 60 < s.size
    · have d1 : decide ((60 : Int) < s.size) = true := decide_eq_true (by omega)
      have d1' : decide (60 < s.size) = true := decide_eq_true h1
      have HV : Hid (wrongE 3 s.data.toList = 21) := Lib.hid (by rw [HR.out, if_neg (by omega), if_pos ⟨rfl, .inl h1⟩])
      go_enter Tryz.func67, Tryz.ntmps67
      go_wp2
      go_ret
      exact ⟨by rw [HV.out]; rfl, rfl⟩
    · have d1 : decide ((60 : Int) < s.size) = false := decide_eq_false (by omega)
      have d1' : decide (60 < s.size) = false := decide_eq_false h1
      by_cases h2 : 1 < s.size
      · have d2 : decide ((1 : Int) < s.size) = true := decide_eq_true (by omega)
        have d2' : decide (1 < s.size) = true := decide_eq_true h2
        have hp : 0 < s.size := by omega
        by_cases h3 : s[0] = 48
        · have d3 : (((s[0].toNat : Int)) == 48) = true := by rw [h3]; rfl
          have HV : Hid (wrongE 3 s.data.toList = 21) := Lib.hid (by rw [HR.out, if_neg (by omega), if_pos ⟨rfl, .inr ⟨h2, by rw [head_at hp, h3]⟩⟩])
          clear h3
          go_enter Tryz.func67, Tryz.ntmps67
          go_wp2
          go_ret
          exact ⟨by rw [HV.out]; rfl, rfl⟩
        · have d3 : (((s[0].toNat : Int)) == 48) = false := byte_ne 48 rfl h3
          have HV : Hid (wrongE 3 s.data.toList = 0) := Lib.hid (by rw [HR.out, if_neg (by omega), if_neg (fun h => by
            rcases h.2 with h | h
            · exact h1 h
            · rw [head_at hp] at h; exact h3 (Option.some.inj h.2))])
          clear h3
          go_enter Tryz.func67, Tryz.ntmps67
          go_wp2
          go_ret
          exact ⟨by rw [HV.out]; rfl, rfl⟩
      · have d2 : decide ((1 : Int) < s.size) = false := decide_eq_false (by omega)
        have d2' : decide (1 < s.size) = false := decide_eq_false h2
        have HV : Hid (wrongE 3 s.data.toList = 0) := Lib.hid (by rw [HR.out, if_neg (by omega), if_neg (by omega)])
        go_enter Tryz.func67, Tryz.ntmps67
        go_wp2
        go_ret
        exact ⟨by rw [HV.out]; rfl, rfl⟩
  | 4, _ =>
    go_enter Tryz.func67, Tryz.ntmps67
    go_wp2
    go_ret
    exact ⟨by rw [HR.out]; rfl, rfl⟩
  | 5, _ =>
    go_enter Tryz.func67, Tryz.ntmps67
    go_wp2
    go_ret
    exact ⟨by rw [HR.out]; rfl, rfl⟩

def IntGb (v : Int) (w : World) (e : Ending) (w' : World) : Prop := e = .returned (.int .i64 v) ∧ w.grownBy w' none
def StrGb (v : List UInt8) (w : World) (e : Ending) (w' : World) : Prop := (∃ r : ByteArray, e = .returned (.string r) ∧ r.data.toList = v) ∧ w.grownBy w' none

theorem drop_while (p : UInt8 → Bool) : ∀ l : List UInt8, l.dropWhile p = l.drop (runN p l)
  | [] => rfl
  | a :: r => by
    unfold runN
    cases h : p a
    · rw [List.dropWhile_cons_of_neg (by simp [h])]; rfl
    · rw [List.dropWhile_cons_of_pos h, drop_while p r]; rfl

theorem trim_bl (l : List UInt8) : Lib.trimLeftS l [32, 9, 13, 10] = l.drop (runN isBl l) := by
  rw [← drop_while]
  unfold Lib.trimLeftS
  congr 1
  funext b
  simp only [List.contains_cons, isBl, List.contains_nil, Bool.or_false, Bool.or_assoc]

theorem sk_blanks : ∀ l : List UInt8, sk false l = runN isBl l + sk false (l.drop (runN isBl l))
  | [] => rfl
  | a :: r => by
    unfold runN
    cases h : isBl a
    · simp
    · have := sk_blanks r
      simp only [sk, h, if_true, List.drop_succ_cons]
      omega

theorem bl_stop (l : List UInt8) : ∀ b, (l.drop (runN isBl l)).head? = some b → isBl b = false := by
  induction l with
  | nil => intro b h; simp [runN] at h
  | cons a r ih =>
    intro b h
    unfold runN at h
    cases ha : isBl a
    · rw [ha] at h; simp at h; subst h; exact ha
    · rw [ha] at h; exact ih b (by simpa using h)

theorem sk_zero {l : List UInt8} (h1 : ∀ b, l.head? = some b → isBl b = false) (h2 : List.isPrefixOf [45, 45] l = false) : sk false l = 0 := by
  cases l with
  | nil => rfl
  | cons a r =>
    have h3 := h1 a rfl
    simp only [sk, h3]
    rw [if_neg (by simp), if_neg]
    rintro ⟨rfl, hr⟩
    cases r with
    | nil => cases hr
    | cons b r => simp at hr; subst hr; simp [List.isPrefixOf] at h2

def nlN (l : List UInt8) : Nat := runN (fun b => b != 10) l

theorem sk_true : ∀ l : List UInt8, sk true l = min (nlN l + 1) l.length + sk false (l.drop (nlN l + 1))
  | [] => by simp [sk]
  | a :: r => by
    by_cases h : a = 10
    · subst h
      have : nlN (10 :: r) = 0 := rfl
      rw [this]; simp [sk]; omega
    · have hb : (a != 10) = true := by simpa using h
      have e : nlN (a :: r) = nlN r + 1 := by unfold nlN; simp only [runN, hb]; rfl
      have ih := sk_true r
      rw [e]; simp only [sk, if_neg h, List.drop_succ_cons, List.length_cons]
      omega

theorem sk_remark {l : List UInt8} (h : List.isPrefixOf [45, 45] l = true) : sk false l = min (nlN l + 1) l.length + sk false (l.drop (nlN l + 1)) ∧ 0 < l.length := by
  match l, h with
  | [], h => simp [List.isPrefixOf] at h
  | [a], h => simp [List.isPrefixOf] at h
  | a :: b :: r, h =>
    simp [List.isPrefixOf] at h
    obtain ⟨rfl, rfl⟩ := h
    have e : sk false (45 :: 45 :: r) = sk true (45 :: 45 :: r) := by
      simp [sk, isBl]
    rw [e]
    exact ⟨sk_true _, by simp⟩

theorem nlN_none {l : List UInt8} (h : Lib.indexByte l 10 = -1) : nlN l = l.length := by
  refine runN_drop _ (Nat.le_refl _) (fun j b _ hb => ?_) (fun b hb => ?_)
  · have h1 := Lib.indexByte_none h j
    rw [hb] at h1
    simpa using fun e => h1 (by rw [e])
  · rw [List.getElem?_eq_none (Nat.le_refl _)] at hb; cases hb

theorem nlN_some {l : List UInt8} {o : Nat} (h : Lib.indexByte l 10 = o) : nlN l = o ∧ o < l.length := by
  obtain ⟨h1, h2⟩ := Lib.indexByte_some h
  have ho := (List.getElem?_eq_some_iff.1 h1).1
  refine ⟨runN_drop _ (by omega) (fun j b hj hb => ?_) (fun b hb => ?_), ho⟩
  · have h3 := h2 j hj
    rw [hb] at h3
    simpa using fun e => h3 (by rw [e])
  · rw [h1] at hb; injection hb with hb; subst hb; rfl

theorem ext_end (s : ByteArray) (a n : Nat) (h : s.size = n) : (s.extract a n).data.toList = s.data.toList.drop a := by
  rw [ext_list, List.take_of_length_le (by rw [list_len]; omega)]

/-- What Cut at a line's end answers. -/
def CutIs (l : List UInt8) (w : World) (e : Ending) (w' : World) : Prop := (∃ (x y : ByteArray) (b : Bool), e = .returned (.tuple #[.string x, .string y, .bool b]) ∧ y.data.toList = l.drop (nlN l + 1)) ∧ w.grownBy w' none

set_option maxRecDepth 100000 in
set_option maxHeartbeats 4000000 in
theorem slcut_c (s : ByteArray) (w : World) (hs : s.size ≤ 1000000) : Calls Tryz.prog 124 #[.string s, .string ⟨#[10]⟩] w (CutIs s.data.toList w) := by
  obtain ⟨n, hn⟩ : ∃ n, s.size = n := ⟨_, rfl⟩
  have HN := Lib.hid hn
  rw [hn] at hs
  have hL : s.data.toList.length = n := by rw [← hn]; exact Array.length_toList
  have hx := Tryz.stringslite_Index_one s 10 w
  by_cases h : Lib.indexByte s.data.toList 10 = -1
  · rw [h] at hx
    have HX := Lib.hid hx
    have HR := Lib.hid (nlN_none h)
    have HL := Lib.hid hL
    clear hx h hL
    go_enter Tryz.func124, Tryz.ntmps124
    go_wp2_with fail
    refine HX.out.mono ?_
    rintro e w' ⟨rfl, rfl⟩
    clear HX
    go_wp2_with fail
    go_ret3
    exact ⟨⟨_, _, _, rfl, by rw [HR.out, List.drop_of_length_le (by omega)]⟩, gb_refl _ _⟩
  · have hge := Lib.indexByte_ge s.data.toList 10
    obtain ⟨o, he⟩ : ∃ o : Nat, Lib.indexByte s.data.toList 10 = o := ⟨(Lib.indexByte s.data.toList 10).toNat, by omega⟩
    rw [he] at hx
    have HX := Lib.hid hx
    obtain ⟨hr, hon⟩ := nlN_some he
    have HR := Lib.hid hr
    rw [hL] at hon
    have hw1 : IntKind.i64.wrap ((o : Int) + 1) = (o : Int) + 1 := IntWalk.i64_in _ (by omega)
    have HE : Hid ((s.extract (o + 1) n).data.toList = s.data.toList.drop (o + 1)) := Lib.hid (ext_end s _ n HN.out)
    clear hx h hL hge he hr
    go_enter Tryz.func124, Tryz.ntmps124
    go_wp2_with fail
    refine HX.out.mono ?_
    rintro e w' ⟨rfl, rfl⟩
    clear HX
    go_wp2_with fail
    go_quiet (fail)
    go_wp2_with fail
    go_ret3
    exact ⟨⟨_, _, _, rfl, by rw [HR.out]; exact HE.out⟩, gb_drewN (gb_refl _ _) _⟩

set_option maxRecDepth 100000 in
set_option maxHeartbeats 4000000 in
theorem scut_c (s : ByteArray) (w : World) (hs : s.size ≤ 1000000) : Calls Tryz.prog 100 #[.string s, .string ⟨#[10]⟩] w (CutIs s.data.toList w) := by
  have H := Lib.hid (slcut_c s w hs)
  clear hs
  go_enter Tryz.func100, Tryz.ntmps100
  go_wp2_with fail
  refine H.out.mono ?_
  rintro e w' ⟨⟨x, y, b, rfl, hy⟩, hg⟩
  have HG := Lib.hid hg; have HY := Lib.hid hy
  clear hg hy
  go_wp2_with fail
  go_ret3
  exact ⟨⟨x, y, b, rfl, HY.out⟩, HG.out⟩

theorem trim_c (s : ByteArray) (w : World) : Calls Tryz.prog 98 #[.string s, .string ⟨#[32, 9, 13, 10]⟩] w (StrGb (s.data.toList.drop (runN isBl s.data.toList)) w) := by
  refine (Any.strings_TrimLeft_laid Tryz.lays161 (by kernel_rfl) s ⟨#[32, 9, 13, 10]⟩ w (by decide) (ascii_of_all (by decide))).mono ?_
  rintro e w' ⟨rfl, hb⟩
  exact ⟨⟨_, rfl, by rw [← trim_bl]⟩, below_gb hb⟩

set_option maxRecDepth 100000 in
set_option maxHeartbeats 4000000 in
theorem leadSize_c (s : ByteArray) (w : World) (hs : s.size ≤ 1000000) : Calls Tryz.prog 65 #[.string s] w (IntGb (sk false s.data.toList) w) := by
  obtain ⟨n, hn⟩ : ∃ n, s.size = n := ⟨_, rfl⟩
  have HN := Lib.hid hn
  rw [hn] at hs
  go_enter Tryz.func65, Tryz.ntmps65
  go_wp2_with fail
  go_loopw [3] (fun r wr => ∃ (p : Nat) (t : ByteArray), p ≤ n ∧ r = .string t ∧ t.size = n - p ∧ Hid (t.data.toList = s.data.toList.drop p ∧ sk false s.data.toList = p + sk false (s.data.toList.drop p)) ∧ Hid (w.grownBy wr none)) (fun r _ => Lib.strSize r)
  case atStart => exact ⟨0, s, Nat.zero_le _, rfl, by omega, Lib.hid ⟨rfl, by simp⟩, gb_refl _ _⟩
  case round =>
    obtain ⟨p, t, hp, rfl, hts, HT, HG⟩ := hrel
    have HTS := Lib.hid hts
    clear hts
    go_wp2_with fail
    refine (trim_c t wr).mono ?_
    rintro e w1 ⟨⟨t1, rfl, h1⟩, hg1⟩
    have HG1 := Lib.hid (gb_trans HG.out hg1)
    have hL : s.data.toList.length = n := by rw [list_len, HN.out]
    have hq : ∃ q, runN isBl (s.data.toList.drop p) = q ∧ p + q ≤ n := ⟨_, rfl, by have := runN_le isBl (s.data.toList.drop p); rw [List.length_drop] at this; omega⟩
    obtain ⟨q, hq, hqn⟩ := hq
    have hb := sk_blanks (s.data.toList.drop p)
    have hst := bl_stop (s.data.toList.drop p)
    rw [HT.out.1, hq, List.drop_drop] at h1
    rw [hq, List.drop_drop] at hb hst
    have hsk : sk false s.data.toList = p + q + sk false (s.data.toList.drop (p + q)) := by rw [HT.out.2, hb]; omega
    have ht1 : t1.size = n - (p + q) := by rw [← list_len, h1, List.length_drop, hL]
    have HP := Lib.hid (Tryz.strings_HasPrefix t1 ⟨#[45, 45]⟩ w1)
    rw [hasPrefix_pre, h1] at HP
    change Hid (Calls _ _ _ _ fun e w' => e = .returned (.bool (List.isPrefixOf [45, 45] (s.data.toList.drop (p + q)))) ∧ w' = w1) at HP
    cases hpre : List.isPrefixOf [45, 45] (s.data.toList.drop (p + q))
    · rw [hpre] at HP
      have HR : Hid (sk false s.data.toList = p + q) := Lib.hid (by rw [hsk, sk_zero hst hpre]; rfl)
      have HT1 := Lib.hid ht1
      clear h1 hb hst hsk hpre hg1 hq hL HT ht1
      go_wp2_with fail
      refine HP.out.mono ?_
      rintro e w2 ⟨rfl, rfl⟩
      clear HP
      have hz : t1.size ≤ n := by have := HT1.out; omega
      go_wp2_with fail
      go_ret
      exact ⟨ret_int (by rw [HR.out]; have := HT1.out; omega), HG1.out⟩
    · rw [hpre] at HP
      have HCU := Lib.hid (scut_c t1 w1 (by omega))
      obtain ⟨hr1, hr2⟩ := sk_remark hpre
      rw [h1] at HCU
      rw [List.drop_drop] at hr1
      rw [List.length_drop, hL] at hr1 hr2
      obtain ⟨m, hm⟩ : ∃ m, nlN (s.data.toList.drop (p + q)) = m := ⟨_, rfl⟩
      rw [hm] at hr1
      have HM := Lib.hid hm
      have HR := Lib.hid hsk; have HR1 := Lib.hid hr1; have HLL := Lib.hid hL; have HT1 := Lib.hid ht1
      clear h1 hb hst hsk hpre hg1 hq hL hm hr1 HT ht1
      go_wp2_with fail
      refine HP.out.mono ?_
      rintro e w2 ⟨rfl, rfl⟩
      clear HP
      go_wp2_with fail
      refine HCU.out.mono ?_
      rintro e w3 ⟨⟨x, y, b, rfl, hy⟩, hg⟩
      rw [HM.out, List.drop_drop] at hy
      have HG3 := Lib.hid (gb_trans HG1.out hg)
      have hys : y.size = n - (p + q + (m + 1)) := by rw [← list_len, hy, List.length_drop, HLL.out]
      have HY := Lib.hid hy; have HYS := Lib.hid hys
      clear HCU hg hy hys
      go_wp2_with fail
      go_roundw
      case rel =>
        by_cases hmn : p + q + (m + 1) ≤ n
        · exact ⟨p + q + (m + 1), y, hmn, rfl, HYS.out, Lib.hid ⟨HY.out, by rw [HR.out, HR1.out, Nat.min_eq_left (by omega)]; omega⟩, HG3⟩
        · refine ⟨n, y, Nat.le_refl _, rfl, by rw [HYS.out]; omega, Lib.hid ⟨?_, ?_⟩, HG3⟩
          · rw [HY.out, List.drop_of_length_le (by rw [HLL.out]; omega), List.drop_of_length_le (by rw [HLL.out]; omega)]
          · rw [HR.out, HR1.out, Nat.min_eq_right (by omega), List.drop_of_length_le (l := s.data.toList) (i := p + q + (m + 1)) (by rw [HLL.out]; omega), List.drop_of_length_le (l := s.data.toList) (i := n) (by rw [HLL.out]; omega)]
            simp [sk]; omega
      case measure =>
        rw [Lib.strSize_string, Lib.strSize_string, HYS.out, HTS.out]
        omega

def tokV (t : Tok) : List Value := [.int .i64 (t.kind : Int), strV t.lead, strV t.text, .int .i64 (t.pos : Int)]
def cellsT (l : List Tok) : List Value := l.flatMap tokV

theorem cellsT_cons (p : Tok) (l : List Tok) : cellsT (p :: l) = .int .i64 (p.kind : Int) :: strV p.lead :: strV p.text :: .int .i64 (p.pos : Int) :: cellsT l := rfl
theorem cellsT_append (l r : List Tok) : cellsT (l ++ r) = cellsT l ++ cellsT r := by unfold cellsT; rw [List.flatMap_append]
theorem cellsT_get (l : List Tok) (j : Nat) (p : Tok) (h : l[j]? = some p) : (cellsT l)[j * 4]? = some (.int .i64 (p.kind : Int)) ∧ (cellsT l)[j * 4 + 1]? = some (strV p.lead) ∧ (cellsT l)[j * 4 + 2]? = some (strV p.text) ∧ (cellsT l)[j * 4 + 3]? = some (.int .i64 (p.pos : Int)) := by
  induction l generalizing j with
  | nil => simp at h
  | cons q l ih =>
    rw [cellsT_cons]
    match j, h with
    | 0, h => simp at h; subst h; exact ⟨rfl, rfl, rfl, rfl⟩
    | j + 1, h =>
      have := ih j (by simpa using h)
      rw [show (j + 1) * 4 = j * 4 + 1 + 1 + 1 + 1 by omega]
      simpa using this

/-- A slice reads as a list of tokens. -/
def TAt (w : World) (p : Option Addr) (l : List Tok) : Prop :=
  l = [] ∨ ∃ g off, p = some ⟨g, off, none⟩ ∧ g < w.heap.size ∧ ∀ j q, l[j]? = some q → w.cell? ⟨g, off + j * 4, none⟩ = some (.int .i64 (q.kind : Int)) ∧ w.cell? ⟨g, off + j * 4 + 1, none⟩ = some (strV q.lead) ∧ w.cell? ⟨g, off + j * 4 + 2, none⟩ = some (strV q.text) ∧ w.cell? ⟨g, off + j * 4 + 3, none⟩ = some (.int .i64 (q.pos : Int))

theorem TAt.kept {w w' : World} {p : Option Addr} {l : List Tok} (h : TAt w p l) (hg : w.grownBy w' none) : TAt w' p l := by
  rcases h with h | ⟨g, off, rfl, hl, hc⟩
  · exact .inl h
  · exact .inr ⟨g, off, rfl, Nat.lt_of_lt_of_le hl hg.size, fun j q hj => ⟨hg.cell (hc j q hj).1 (by simp), hg.cell (hc j q hj).2.1 (by simp), hg.cell (hc j q hj).2.2.1 (by simp), hg.cell (hc j q hj).2.2.2 (by simp)⟩⟩

/-- A list of tokens of one's own. -/
def OwnT (T : TypeId) (w : World) (base : Nat) (v : Value) (l : List Tok) : Prop := w.ownsRow base T 4 v l.length (cellsT l)

theorem OwnT.nil (T : TypeId) (w : World) (base : Nat) : OwnT T w base (.slice none 0 0) [] := World.ownsRow_nil _ _ _ _
theorem OwnT.kept {T : TypeId} {w w' : World} {base : Nat} {v : Value} {l : List Tok} (h : OwnT T w base v l) (hg : w.grownBy w' none) : OwnT T w' base v l := World.ownsRow.kept h hg (by
  cases hv : v.ownBlock with
  | none => exact .inl rfl
  | some k => exact .inr (by simp))

theorem OwnT.is {T : TypeId} {w : World} {base : Nat} {v : Value} {l : List Tok} (h : OwnT T w base v l) : ∃ p c, v = .slice p l.length c ∧ TAt w p l ∧ l.length ≤ c ∧ c ≤ maxLen ∧ (l ≠ [] → ∀ a, p = some a → base ≤ a.block) := by
  rcases h.2 with ⟨rfl, h0⟩ | ⟨g, cap, cur, rfl, hb, hg, hnc, hcm, h1, h2⟩
  · have : l = [] := List.eq_nil_of_length_eq_zero h0
    subst this
    exact ⟨none, 0, rfl, .inl rfl, Nat.le_refl _, by unfold maxLen; omega, fun h => absurd rfl h⟩
  · refine ⟨_, cap, rfl, .inr ⟨g, 0, rfl, hlt hg, fun j q hj => ?_⟩, hnc, hcm, fun _ a ha => by injection ha with ha; subst ha; exact hb⟩
    obtain ⟨g1, g2, g3, g4⟩ := cellsT_get l j q hj
    have hjl : j < l.length := (List.getElem?_eq_some_iff.1 hj).1
    have h' : w.ownsRow base T 4 (.slice (some ⟨g, 0, none⟩) l.length cap) l.length (cellsT l) := h
    rw [Nat.zero_add]
    exact ⟨by rw [h'.cellAt _ (by omega)]; exact g1, by rw [h'.cellAt _ (by omega)]; exact g2, by rw [h'.cellAt _ (by omega)]; exact g3, by rw [h'.cellAt _ (by omega)]; exact g4⟩

/-- append of one token, as a step of the walk. -/
theorem wpList_appT {t T : TypeId} {z : Value} {by' : Nat} (ht : Tryz.prog.underlying t = some (.slice T)) (hT : (Tryz.prog.info? T).map (fun i => (i.zero, i.size, i.bytes)) = some (some z, 4, by')) (hz : z.cells.size = 4) (hby : by' ≤ 64)
    {w0 : World} {ops : Array Oper} {rest : List Oper} {o : Oper} {a : Act} {Q : Exit → Act → World → Prop} (hgd : o.guard = none) (s x : Operand) (ho : o.op = .call { callee := .builtin .append, args := #[s, x], argTypes := #[t, t] })
    (base : Nat) (l : List Tok) (y : Tok) (y1 y2 y3 y4 : Value) (hy : tokV y = [y1, y2, y3, y4]) (v : Value) (hs : a.eval s = v) (hown : OwnT T w0 base v l) (H : Nat) (hH : w0.heap.size = H) (hx : a.eval x = .slice (some ⟨H, 0, none⟩) 1 1) (hn : l.length ≤ 1000000) (hbase : base ≤ w0.heap.size)
    (K : ∀ g' cap' w', OwnT T w' base (.slice (some ⟨g', 0, none⟩) (l.length + 1) cap') (l ++ [y]) → Below base w0 w' → wpList Tryz.prog ops Q rest (a.put o.dst (.slice (some ⟨g', 0, none⟩) (l.length + 1) cap')) w') :
    wpList Tryz.prog ops Q (o :: rest) a (w0.alloc (.cells #[y1, y2, y3, y4] T)) := by
  subst hH
  obtain ⟨i0, hi, hi0, hi1, hi2⟩ := info_parts hT
  have h1a := World.ownsRow.alloc hown (.cells #[y1, y2, y3, y4] T)
  have hb : (l.length + 1) * by' ≤ 140737488355328 := by
    have : (l.length + 1) * by' ≤ (l.length + 1) * 64 := Nat.mul_le_mul_left _ hby
    omega
  unfold tokV at hy
  simp only [List.cons.injEq, and_true] at hy
  obtain ⟨rfl, rfl, rfl, rfl⟩ := hy
  refine wpList_append_lies (P := Tryz.prog) _ hgd s x t ho base T i0 z 4 by' ht hi hi0 hi1 hi2 hz (by decide) _ l.length (cellsT l) hs h1a ⟨w0.heap.size, 0, none⟩ 1 1 (tokV y) hx rfl ?_ ?_ (by omega) (by unfold maxLen; omega) hb (by simp; omega) (w0.heap.size + 1) (by simp) ?_
  · intro j u hj
    rw [Addr.add_lit, cell_of_row _ w0.heap.size _ _ _ (0, 0) (heap_alloc_new w0 _)]
    unfold tokV at hj
    match j, hj with
    | 0, hj => simp at hj; subst hj; rfl
    | 1, hj => simp at hj; subst hj; rfl
    | 2, hj => simp at hj; subst hj; rfl
    | 3, hj => simp at hj; subst hj; rfl
  · intro u hu
    unfold tokV at hu
    simp at hu; rcases hu with rfl | rfl | rfl | rfl <;> rfl
  · intro g' cap' w' h3 h4 h5 _
    exact K g' cap' w' (by simpa [OwnT, cellsT_append, cellsT] using h3) (Below.trans2 (Below.gb (World.grownBy_alloc w0 _ none) hbase) (below_own h1a (by simp; omega) h4))

theorem TAt.setBox {w : World} {p : Option Addr} {l : List Tok} {b : Nat} (h : TAt w p l) (hb : l ≠ [] → ∀ a, p = some a → b < a.block) (j : Nat) (u : Value) : TAt (w.setCell ⟨b, j, none⟩ u) p l := by
  rcases h with h | ⟨g, off, rfl, hl, hc⟩
  · exact .inl h
  · by_cases h0 : l = []
    · exact .inl h0
    · have hgb : b < g := hb h0 ⟨g, off, none⟩ rfl
      have keep : ∀ o, (w.setCell ⟨b, j, none⟩ u).cell? ⟨g, o, none⟩ = w.cell? ⟨g, o, none⟩ := fun o =>
        World.cell?_of_block (w := w) (Below.heap_setCell _ _ _ _ (by simp; omega))
      exact .inr ⟨g, off, rfl, by simpa [World.setCell] using hl, fun i q hi => by rw [keep, keep, keep, keep]; exact hc i q hi⟩

theorem cells2 {w : World} {r : Nat} {u v : Value} {T : TypeId} (h : w.heap[r]? = some (.cells #[u, v] T (0, 0))) : w.cell? ⟨r, 0, none⟩ = some u ∧ w.cell? ⟨r, 1, none⟩ = some v ∧ ∀ o, w.frozen? ⟨r, o, none⟩ = false :=
  ⟨by rw [cell_of_row w r 0 _ T (0, 0) h]; rfl, by rw [cell_of_row w r 1 _ T (0, 0) h]; rfl, fun o => by simp [World.frozen?, h]⟩

theorem infoT : (Tryz.prog.info? 98).map (fun i => (i.zero, i.size, i.bytes)) = some (some (.agg #[.int .i64 0, .string ⟨#[]⟩, .string ⟨#[]⟩, .int .i64 0]), 4, 48) := by kernel_rfl
end Go.Proofs.YtddccnpohpaofaaGreatDoor
