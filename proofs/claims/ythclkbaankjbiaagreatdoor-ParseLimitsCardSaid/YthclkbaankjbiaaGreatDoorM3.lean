/- Bytes: letters, digits; how many of a kind stand ahead. -/
import Derived.Test.YthclkbaankjbiaaGreatDoorEMath
import Derived.Test.YthclkbaankjbiaaGreatDoorShelf
import Derived.Shelf.Strings.SlTrimAscii
import Derived.Deep.MidRow
import Derived.Test.YthclkbaankjbiaaGreatDoorTie
import Derived.Test.YthclkbaankjbiaaGreatDoorCards
import Derived.ProofKit
import Derived.OpenShut
import Derived.ChangeSlices
import Derived.ChangeMaps5
import Derived.Carry
import Derived.Lay
import Derived.LaidMore
import Derived.Stop.Joined
import Derived.SevenTiedAt
import Derived.Lib.LaidTab
namespace Go.Proofs.YthclkbaankjbiaaGreatDoor
open Go.RowKit

theorem ret_bool {a b : Bool} (h : a = b) : Ending.returned (.bool a) = .returned (.bool b) := by rw [h]
theorem ret_int {k : IntKind} {a b : Int} (h : a = b) : Ending.returned (.int k a) = .returned (.int k b) := by rw [h]

def BoolIs (v : Bool) (w : World) (e : Ending) (w' : World) : Prop := e = .returned (.bool v) ∧ w = w'

theorem isLet_nat (b : UInt8) : isLet b = ((decide (97 ≤ b.toNat) && decide (b.toNat ≤ 122)) || (decide (65 ≤ b.toNat) && decide (b.toNat ≤ 90))) := by
  unfold isLet; simp only [UInt8.le_iff_toNat_le]; rfl
theorem isDig_nat (b : UInt8) : isDig b = (decide (48 ≤ b.toNat) && decide (b.toNat ≤ 57)) := by
  unfold isDig; simp only [UInt8.le_iff_toNat_le]; rfl
theorem eq_nat (b c : UInt8) : (b == c) = decide (b.toNat = c.toNat) := by
  rw [Bool.eq_iff_iff]; simp [UInt8.toNat_inj]
theorem isBl_nat (b : UInt8) : isBl b = (decide (b.toNat = 32) || decide (b.toNat = 9) || decide (b.toNat = 13) || decide (b.toNat = 10)) := by
  unfold isBl; simp only [eq_nat]; rfl

set_option maxRecDepth 100000 in
theorem isDigit_c (b : UInt8) (w : World) : Calls Tryz.prog 98 #[.int .u8 (b.toNat : Int)] w (BoolIs (isDig b) w) := by
  rw [isDig_nat]
  have hb := b.toNat_lt
  generalize b.toNat = n at *
  go_enter Tryz.func98, Tryz.ntmps98
  go_wp2
  all_goals
    go_ret
    refine ⟨ret_bool ?_, rfl⟩
    rw [Bool.eq_iff_iff]; simp; try omega

set_option maxRecDepth 100000 in
theorem isLetter_c (b : UInt8) (w : World) : Calls Tryz.prog 94 #[.int .u8 (b.toNat : Int)] w (BoolIs (isLet b) w) := by
  rw [isLet_nat]
  have hb := b.toNat_lt
  generalize b.toNat = n at *
  go_enter Tryz.func94, Tryz.ntmps94
  go_wp2
  all_goals
    go_ret
    refine ⟨ret_bool ?_, rfl⟩
    rw [Bool.eq_iff_iff]; simp; try omega

set_option maxRecDepth 100000 in
theorem inWord_c (b : UInt8) (w : World) : Calls Tryz.prog 96 #[.int .u8 (b.toNat : Int)] w (BoolIs (inW b) w) := by
  have HL := Lib.hid (fun W => isLetter_c b W)
  have HD := Lib.hid (fun W => isDigit_c b W)
  unfold inW
  rw [eq_nat, show (95 : UInt8).toNat = 95 from rfl]
  generalize isLet b = x at *
  generalize isDig b = y at *
  have hb := b.toNat_lt
  generalize b.toNat = n at *
  cases x <;> cases y
  all_goals
    go_enter Tryz.func96, Tryz.ntmps96
    go_wp2_with (first | (go_at_call 94; refine (HL.out _).mono ?_; rintro e w' ⟨rfl, rfl⟩) | (go_at_call 98; refine (HD.out _).mono ?_; rintro e w' ⟨rfl, rfl⟩))
    go_ret
    refine ⟨ret_bool ?_, rfl⟩
    rw [Bool.eq_iff_iff]; simp; try omega
end Go.Proofs.YthclkbaankjbiaaGreatDoor
namespace Go.Proofs.YthclkbaankjbiaaGreatDoor
open Go.RowKit

/-- The string's byte at k. -/
theorem byte_at {s : ByteArray} {k : Nat} (h : k < s.size) : s.data.toList[k]? = some s[k] := by
  rw [List.getElem?_eq_getElem (by rw [Array.length_toList]; exact h)]; rfl
theorem list_len (s : ByteArray) : s.data.toList.length = s.size := Array.length_toList

theorem byte_ne {b : UInt8} (c : UInt8) {n : Int} (hc : (c.toNat : Int) = n) (h : ¬ b = c) : ((b.toNat : Int) == n) = false := by
  subst hc
  rw [beq_eq_false_iff_ne]
  intro e
  exact h (UInt8.toNat_inj.1 (Int.ofNat_inj.1 e))
theorem byte_eq {b : UInt8} (c : UInt8) {n : Int} (hc : (c.toNat : Int) = n) (h : b = c) : ((b.toNat : Int) == n) = true := by
  subst hc; subst h; simp

def IntIs (v : Int) (w : World) (e : Ending) (w' : World) : Prop := e = .returned (.int .i64 v) ∧ w = w'

def Ahead (p : UInt8 → Bool) (s : ByteArray) (k : Nat) : Prop := k ≤ s.size ∧ ∀ j b, j < k → s.data.toList[j]? = some b → p b = true

theorem Ahead.more {p : UInt8 → Bool} {s : ByteArray} {k : Nat} (h : Ahead p s k) (hk : k < s.size) (hp : p s[k] = true) : Ahead p s (k + 1) :=
  ⟨hk, fun j b hj hb => by
    by_cases e : j = k
    · subst e; rw [byte_at hk] at hb; injection hb with hb; rw [← hb]; exact hp
    · exact h.2 j b (by omega) hb⟩
theorem Ahead.stop {p : UInt8 → Bool} {s : ByteArray} {k : Nat} (h : Ahead p s k) (hk : k < s.size) (hp : p s[k] = false) : runN p s.data.toList = k :=
  runN_drop p (by rw [list_len]; exact h.1) h.2 (fun b hb => by rw [byte_at hk] at hb; injection hb with hb; rw [← hb]; exact hp)
theorem Ahead.all {p : UInt8 → Bool} {s : ByteArray} {k : Nat} (h : Ahead p s k) (hk : k = s.size) : runN p s.data.toList = k :=
  runN_drop p (by rw [list_len]; exact h.1) h.2 (fun b hb => by rw [List.getElem?_eq_none (by rw [list_len]; omega)] at hb; cases hb)

set_option maxRecDepth 100000 in
set_option maxHeartbeats 2000000 in
theorem run_any (p : UInt8 → Bool) (g : Nat) (hg : ∀ b w, Calls Tryz.prog g #[.int .u8 (b.toNat : Int)] w (BoolIs (p b) w)) (he : ∀ args w, (callFunc g args).run Tryz.prog w = .ok (.enter g args) w)
    (s : ByteArray) (w : World) (hs : s.size ≤ 1000000) : Calls Tryz.prog 95 #[.string s, .func (.func g) #[] #[]] w (IntIs (runN p s.data.toList) w) := by
  have HC := Lib.hid hg
  clear hg
  go_enter Tryz.func95, Tryz.ntmps95
  go_wp2
  go_loopw [5] (fun i wr => ∃ k : Nat, k ≤ s.size ∧ i = .int .i64 k ∧ Hid (Ahead p s k) ∧ wr = w) (fun i _ => s.size - (intOf i).toNat)
  case atStart => exact ⟨0, Nat.zero_le _, rfl, Lib.hid ⟨Nat.zero_le _, fun j b hj => absurd hj (Nat.not_lt_zero _)⟩, rfl⟩
  case round =>
    obtain ⟨k, hk, rfl, HA, rfl⟩ := hrel
    by_cases hlt : k < s.size
    · have d1 : decide ((k : Int) < (s.size : Int)) = true := decide_eq_true (by omega)
      have d1' : decide (k < s.size) = true := decide_eq_true hlt
      have HB := Lib.hid (HC.out s[k])
      cases hp : p s[k]
      · rw [hp] at HB
        have HR := Lib.hid (HA.out.stop hlt hp)
        clear hp HC
        go_wp2_with (refine (HB.out _).mono ?_; rintro e w' ⟨rfl, rfl⟩)
        go_ret
        exact ⟨by rw [HR.out]; rfl, rfl⟩
      · rw [hp] at HB
        have HR := Lib.hid (HA.out.more hlt hp)
        clear hp HC
        go_wp2_with (refine (HB.out _).mono ?_; rintro e w' ⟨rfl, rfl⟩)
        go_roundw
        case rel => exact ⟨k + 1, by omega, by go_num, HR, by first | rfl | trivial⟩
        case measure => (simp [intOf] <;> omega)
    · obtain rfl : k = s.size := by omega
      have d1 : decide ((s.size : Int) < (s.size : Int)) = false := decide_eq_false (by omega)
      have HR := Lib.hid (HA.out.all rfl)
      go_wp2
      go_ret
      exact ⟨by rw [HR.out]; rfl, rfl⟩

theorem runW_c (s : ByteArray) (w : World) (hs : s.size ≤ 1000000) : Calls Tryz.prog 95 #[.string s, .func (.func 96) #[] #[]] w (IntIs (runN inW s.data.toList) w) :=
  run_any inW 96 inWord_c (fun _ _ => enters_of Tryz.func96 (by kernel_rfl) rfl _ _) s w hs
theorem runD_c (s : ByteArray) (w : World) (hs : s.size ≤ 1000000) : Calls Tryz.prog 95 #[.string s, .func (.func 98) #[] #[]] w (IntIs (runN isDig s.data.toList) w) :=
  run_any isDig 98 isDigit_c (fun _ _ => enters_of Tryz.func98 (by kernel_rfl) rfl _ _) s w hs
end Go.Proofs.YthclkbaankjbiaaGreatDoor
namespace Go.Proofs.YthclkbaankjbiaaGreatDoor
open Go.RowKit

def strV (x : List UInt8) : Value := .string ⟨x.toArray⟩

theorem gKeys : Tryz.prog.globalNamed "touchstone/lex.keys" = some 0 := by kernel_rfl
theorem gSigns : Tryz.prog.globalNamed "touchstone/lex.signs" = some 1 := by kernel_rfl

/-- The two variables hold the keys and the signs. -/
def LaidE (w : World) : Prop := (∀ j v, (keysL.map strV)[j]? = some v → w.cell? ⟨0, j, none⟩ = some v) ∧ (∀ j v, (signsL.map strV)[j]? = some v → w.cell? ⟨1, j, none⟩ = some v)

theorem LaidE.kept {w w' : World} (h : LaidE w) (hg : w.grownBy w' none) : LaidE w' :=
  ⟨fun j v hj => hg.cell (h.1 j v hj) (by simp), fun j v hj => hg.cell (h.2 j v hj) (by simp)⟩

theorem arr_index {t : TypeId} {n : Nat} (ht : Tryz.prog.underlying t = some (.array n 9)) (A : Array Value) (k : Nat) (v : Value) (hk : k < n) (hv : A[k]? = some v) (w : World) :
    (Instr.index t (.agg A) (.int .i64 (k : Int))).run Tryz.prog w = .ok v w := by
  simp [Instr.index, run_underlying ht, asIntOf, hk, part, Tryz.sizeOf9, Tryz.isAgg9, go_sem, hv]

theorem data_list (x : List UInt8) : (⟨x.toArray⟩ : ByteArray).data.toList = x := rfl
theorem toList_data (s : ByteArray) : s.toList = s.data.toList := Lib.toList_data s

/-- An array of strings by value, hidden behind a name. -/
def ArrIs (A : Value) (L : List (List UInt8)) : Prop := A = .agg (L.map strV).toArray

theorem ArrIs.run {A : Value} {L : List (List UInt8)} (h : ArrIs A L) {t : TypeId} {n : Nat} (ht : Tryz.prog.underlying t = some (.array n 9)) (hn : L.length = n) {k : Nat} {x : List UInt8} (hx : L[k]? = some x) (w : World) :
    (Instr.index t A (.int .i64 (k : Int))).run Tryz.prog w = .ok (.string ⟨x.toArray⟩) w := by
  rw [h]
  refine arr_index ht _ k _ ?_ ?_ w
  · have := (List.getElem?_eq_some_iff.1 hx).1; omega
  · simp [hx, strV]

theorem contains_step {L : List (List UInt8)} {k : Nat} {x s : List UInt8} (h : L.contains s = (L.drop k).contains s) (hx : L[k]? = some x) (hne : x ≠ s) : L.contains s = (L.drop (k + 1)).contains s := by
  have e : L.drop k = x :: L.drop (k + 1) := by
    obtain ⟨hk, rfl⟩ := List.getElem?_eq_some_iff.1 hx
    exact List.drop_eq_getElem_cons hk
  have hb : (s == x) = false := by simpa using fun e => hne e.symm
  rw [h, e, List.contains_cons, hb, Bool.false_or]

theorem sizeK : (Tryz.prog.info? 124).map (·.size) = some (keysL.map strV).length := by kernel_rfl
theorem sizeG : (Tryz.prog.info? 135).map (·.size) = some (signsL.map strV).length := by kernel_rfl

set_option maxRecDepth 100000 in
set_option maxHeartbeats 4000000 in
theorem isKey_c (s : ByteArray) (w : World) (h : LaidE w) : Calls Tryz.prog 97 #[.string s] w (BoolIs (keysL.contains s.data.toList) w) := by
  obtain ⟨h0, -⟩ := h
  have hr : w.rangeAt 0 0 (keysL.map strV) := fun j v hj => by rw [Nat.zero_add]; exact h0 j v hj
  have HRG := Lib.hid hr
  clear hr
  clear h0
  have HST : Hid (keysL.contains s.data.toList = (keysL.drop 0).contains s.data.toList) := Lib.hid rfl
  have HSL := Lib.hid (toList_data s)
  go_enter Tryz.func97, Tryz.ntmps97
  go_wp2_with (refine wpList_load_mid rfl 124 _ rfl 0 0 rfl (keysL.map strV) _ HRG.out Tryz.underlying124 rfl sizeK ?_)
  have HA : Hid (ArrIs (.agg (keysL.map strV).toArray) keysL) := Lib.hid rfl
  generalize Value.agg (keysL.map strV).toArray = A at *
  go_wp2
  go_loopw [6] (fun i wr => ∃ k : Nat, k ≤ 15 ∧ i = .int .i64 k ∧ Hid (keysL.contains s.data.toList = (keysL.drop k).contains s.data.toList) ∧ wr = w) (fun i _ => 15 - (intOf i).toNat)
  case atStart => exact ⟨0, Nat.zero_le _, rfl, HST, rfl⟩
  case round =>
    clear HST
    obtain ⟨k, hk, rfl, HC, rfl⟩ := hrel
    by_cases hlt : k < 15
    · have d1 : decide ((k : Int) < 15) = true := decide_eq_true (by omega)
      have d1' : decide (k < 15) = true := decide_eq_true hlt
      obtain ⟨x, hx⟩ : ∃ x, keysL[k]? = some x := ⟨keysL[k]'hlt, List.getElem?_eq_getElem _⟩
      have hrun := HA.out.run (t := 124) (n := 15) Tryz.underlying124 rfl hx
      obtain ⟨y, hy⟩ : ∃ y : ByteArray, (⟨x.toArray⟩ : ByteArray) = y := ⟨_, rfl⟩
      have hyl : y.toList = x := by rw [toList_data, ← hy]
      rw [hy] at hrun
      by_cases he : x = s.data.toList
      · have d2 : (y.toList == s.toList) = true := by rw [hyl, HSL.out, he]; simp
        have HR : Hid (keysL.contains s.data.toList = true) := Lib.hid (by rw [← he]; simpa using List.mem_of_getElem? hx)
        clear hx he hyl hy
        go_wp2
        go_ret
        exact ⟨by rw [HR.out]; rfl, rfl⟩
      · have d2 : (y.toList == s.toList) = false := by rw [hyl, HSL.out]; simpa using he
        have HR := Lib.hid (contains_step HC.out hx he)
        clear hx he hyl hy
        go_wp2
        go_roundw
        case rel => exact ⟨k + 1, by omega, by go_num, HR, by first | rfl | trivial⟩
        case measure => (simp [intOf] <;> omega)
    · obtain rfl : k = 15 := by omega
      have HR : Hid (keysL.contains s.data.toList = false) := Lib.hid HC.out
      go_wp2
      go_ret
      exact ⟨by rw [HR.out]; rfl, rfl⟩
end Go.Proofs.YthclkbaankjbiaaGreatDoor
namespace Go.Proofs.YthclkbaankjbiaaGreatDoor
open Go.ChangeShapes Go.WideShapes Go.ChangeAt Go.RowKit Go.ChangeMaps

def laidL : List (String × DataW Unit) := [("math/bits.deBruijn32tab", Rows.laid_math_bits_deBruijn32tab), ("math/bits.deBruijn64tab", Rows.laid_math_bits_deBruijn64tab), ("internal/strconv.uint64pow10", Rows.laid_internal_strconv_uint64pow10), ("unicode/utf8.acceptRanges", Rows.laid_unicode_utf8_acceptRanges), ("touchstone/lex.keys", Rows.laid_touchstone_lex_keys), ("touchstone/lex.signs", Rows.laid_touchstone_lex_signs), ("unicode/utf8.first", Rows.laid_unicode_utf8_first)]

/-- An array of strings that reads as these texts holds them, cell for cell. -/
theorem cells_of_strs {H : Type} {enc : TypeId × Value → H} {P : Program} {w : World} {base : Nat} {sp : Nat → Bool} {held : Bool} {fuel : Nat} {t e : TypeId} {n : Nat} {cs : List Value} {zs : List (List UInt8)} {p : List MemPlace}
    (ht : P.underlying t = some (.array n e)) (he : P.underlying e = some .string) (hce : P.cellsOf e = 1) (hct : P.cellsOf t = n)
    (h : DataW.trod enc P w base sp held fuel t cs = some (.agg (zs.map fun z => .lit (.string z)), p)) : cs = zs.map strV := by
  obtain ⟨xs, m, rfl, hx, hl, hxl, hall⟩ := DataW.trod_array ht h
  simp only [Prod.mk.injEq, DataW.agg.injEq] at hx
  have hzl : zs.length = n := by
    have := congrArg List.length hx.1
    simp at this; omega
  apply List.ext_getElem?
  intro i
  by_cases hi : i < n
  · have h1 := hall i hi
    rw [hce, Nat.mul_one] at h1
    have hxi : xs[i]? = some xs[i] := List.getElem?_eq_getElem (by omega)
    rw [hxi] at h1
    obtain ⟨s, hc, hs, _⟩ := DataW.trod_string he h1
    have h2 : cs[i]? = some (.string s) := by
      have := congrArg (·[0]?) hc
      simpa [List.getElem?_take, List.getElem?_drop] using this
    have h3 : (xs.map (·.1))[i]? = some (DataW.lit (.string s.data.toList) : DataW H) := by simp [hxi, hs]
    rw [← hx.1] at h3
    simp only [List.getElem?_map, Option.map_eq_some_iff, DataW.lit.injEq, Lit.string.injEq] at h3
    obtain ⟨z, hz, hzs⟩ := h3
    rw [h2, List.getElem?_map, hz, hzs]
    rfl
  · rw [List.getElem?_eq_none (by omega), List.getElem?_eq_none (by simp; omega)]

theorem tKeys : (Tryz.prog.globals[0]?).map (·.type) = some 124 := by kernel_rfl
theorem tSigns : (Tryz.prog.globals[1]?).map (·.type) = some 135 := by kernel_rfl
theorem cStr : Tryz.prog.cellsOf 9 = 1 := by kernel_rfl
theorem cKeys : Tryz.prog.cellsOf 124 = 15 := by kernel_rfl
theorem cSigns : Tryz.prog.cellsOf 135 = 22 := by kernel_rfl

theorem of_laid {W : World} (h : laidMetH Tryz.prog laidL W) : LaidE W := by
  rw [MakeChecks.laidMetH_plain _ _ _ (by kernel_rfl)] at h
  obtain ⟨ps, ⟨g0, t0, cs0, f0, p0, q0, hg0, ht0, hv0, hd0, ⟨g1, t1, cs1, f1, p1, q1, hg1, ht1, hv1, hd1, ⟨g2, t2, cs2, f2, p2, q2, hg2, ht2, hv2, hd2, ⟨g3, t3, cs3, f3, p3, q3, hg3, ht3, hv3, hd3, ⟨g4, t4, cs4, f4, p4, q4, hg4, ht4, hv4, hd4, ⟨g5, t5, cs5, f5, p5, q5, hg5, ht5, hv5, hd5, _, _⟩, _⟩, _⟩, _⟩, _⟩, _⟩, _, _⟩ := h
  obtain rfl := Option.some.inj (gKeys.symm.trans hg4)
  obtain rfl := Option.some.inj (gSigns.symm.trans hg5)
  obtain rfl := Option.some.inj (tKeys.symm.trans ht4)
  obtain rfl := Option.some.inj (tSigns.symm.trans ht5)
  have k1 := cells_of_strs (zs := keysL) Tryz.underlying124 Tryz.underlying9 cStr cKeys hd4
  have k2 := cells_of_strs (zs := signsL) Tryz.underlying135 Tryz.underlying9 cStr cSigns hd5
  refine ⟨fun j v hj => ?_, fun j v hj => ?_⟩
  · rw [World.var?_cell hg4 hv4 j, ← Array.getElem?_toList, k1]; exact hj
  · rw [World.var?_cell hg5 hv5 j, ← Array.getElem?_toList, k2]; exact hj

theorem laidOut : laidOutB Tryz.prog = true := by kernel_rfl
theorem own : ownKnob Tryz.prog.godebug = none := by kernel_rfl
set_option maxRecDepth 100000 in
theorem start_shaped (os : Os) (args : Array Value) : ((World.laidAll Tryz.prog os laidL).forCall (fun _ _ => 0) ⟨#[], args, []⟩).Shaped Tryz.prog := World.shaped_of_ZipB (by kernel_rfl) (by kernel_rfl)
set_option maxRecDepth 100000 in
theorem start_met (os : Os) (args : Array Value) : laidMetH Tryz.prog laidL ((World.laidAll Tryz.prog os laidL).forCall (fun _ _ => 0) ⟨#[], args, []⟩).memory := by
  rw [MakeChecks.laidMetH_plain _ _ _ (by kernel_rfl)]
  exact laidMet_laidAll _ (by kernel_rfl) (by kernel_rfl)
end Go.Proofs.YthclkbaankjbiaaGreatDoor
namespace Go.Proofs.YthclkbaankjbiaaGreatDoor

structure TokI where
  kind : Int
  lead : List UInt8
  text : List UInt8
  pos : Int
structure Nd where
  kind : Int
  tok : Int
  kids : List Int

/-- Recursion on places. -/
def rc {α : Type} (d : α) (F : Nd → (Int → α) → α) (N : List Nd) : Nat → Nat → α
  | 0, _ => d
  | f + 1, n => match N[n]? with
    | none => d
    | some x => F x (fun k => rc d F N f k.toNat)
def rcw {α : Type} (d : α) (F : Nd → (Int → α) → α) (N : List Nd) (n : Nat) : α := rc d F N (n + 1) n

def KidsAhead (N : List Nd) : Prop := ∀ (i : Nat) (x : Nd), N[i]? = some x → ∀ k ∈ x.kids, 0 ≤ k ∧ k < (i : Int)

def Cong {α : Type} (F : Nd → (Int → α) → α) : Prop := ∀ x g g', (∀ k ∈ x.kids, g k = g' k) → F x g = F x g'

theorem rc_same {α : Type} {d : α} {F : Nd → (Int → α) → α} {N : List Nd} (hN : KidsAhead N) (hF : Cong F) : ∀ n f f', n < f → n < f' → rc d F N f n = rc d F N f' n := by
  intro n
  induction n using Nat.strongRecOn with
  | ind n ih =>
    intro f f' hf hf'
    match f, f', hf, hf' with
    | f + 1, f' + 1, hf, hf' =>
      unfold rc
      cases hx : N[n]? with
      | none => rfl
      | some x =>
        refine hF x _ _ fun k hk => ?_
        have := hN n x hx k hk
        exact ih k.toNat (by omega) f f' (by omega) (by omega)

theorem rcw_eq {α : Type} {d : α} {F : Nd → (Int → α) → α} {N : List Nd} (hN : KidsAhead N) (hF : Cong F) {n : Nat} {x : Nd} (hx : N[n]? = some x) : rcw d F N n = F x (fun k => rcw d F N k.toNat) := by
  unfold rcw
  rw [rc, hx]
  refine hF x _ _ fun k hk => ?_
  have := hN n x hx k hk
  exact rc_same hN hF _ _ _ (by omega) (by omega)

/-! ### Leaves, sizes, dumps -/

def lvF (x : Nd) (g : Int → List Int) : List Int := if x.kind = 19 then [x.tok] else x.kids.flatMap g
def szF (x : Nd) (g : Int → Nat) : Nat := 1 + (x.kids.map g).sum
def digL (k : Int) : List UInt8 := if k < 10 then [UInt8.ofNat (48 + k).toNat] else [UInt8.ofNat (48 + k / 10).toNat, UInt8.ofNat (48 + k % 10).toNat]
def tokL (T : List TokI) (j : Int) : List UInt8 := match T[j.toNat]? with
  | none => []
  | some t => if t.kind = 5 then 36 :: t.text else t.text
def dpF (T : List TokI) (x : Nd) (g : Int → List UInt8) : List UInt8 := if x.kind = 19 then tokL T x.tok else [40] ++ digL x.kind ++ (x.kids.flatMap fun k => 32 :: g k) ++ [41]

def lv (N : List Nd) (n : Nat) : List Int := rcw [] lvF N n
def sz (N : List Nd) (n : Nat) : Nat := rcw 0 szF N n
def dp (T : List TokI) (N : List Nd) (n : Nat) : List UInt8 := rcw [] (dpF T) N n

theorem flatMap_cong {α β : Type} {l : List α} {g g' : α → List β} (h : ∀ k ∈ l, g k = g' k) : l.flatMap g = l.flatMap g' := by
  induction l with
  | nil => rfl
  | cons a l ih => rw [List.flatMap_cons, List.flatMap_cons, h a List.mem_cons_self, ih fun k hk => h k (List.mem_cons_of_mem _ hk)]

theorem lvF_cong : Cong lvF := fun x g g' h => by unfold lvF; rw [flatMap_cong h]
theorem szF_cong : Cong szF := fun x g g' h => by unfold szF; rw [List.map_congr_left h]
theorem dpF_cong (T : List TokI) : Cong (dpF T) := fun x g g' h => by unfold dpF; rw [flatMap_cong fun k hk => by rw [h k hk]]

theorem lv_eq {N : List Nd} (hN : KidsAhead N) {n : Nat} {x : Nd} (hx : N[n]? = some x) : lv N n = if x.kind = 19 then [x.tok] else x.kids.flatMap fun k => lv N k.toNat := rcw_eq hN lvF_cong hx
theorem sz_eq {N : List Nd} (hN : KidsAhead N) {n : Nat} {x : Nd} (hx : N[n]? = some x) : sz N n = 1 + (x.kids.map fun k => sz N k.toNat).sum := rcw_eq hN szF_cong hx
theorem dp_eq {T : List TokI} {N : List Nd} (hN : KidsAhead N) {n : Nat} {x : Nd} (hx : N[n]? = some x) : dp T N n = if x.kind = 19 then tokL T x.tok else [40] ++ digL x.kind ++ (x.kids.flatMap fun k => 32 :: dp T N k.toNat) ++ [41] := rcw_eq hN (dpF_cong T) hx

/-! ### The right form -/

def allKids (N : List Nd) : List Int := N.flatMap (·.kids)
def times (N : List Nd) (j : Nat) : Nat := (allKids N).count (j : Int)

def okNd (m i : Nat) (x : Nd) : Prop := 1 ≤ x.kind ∧ x.kind ≤ 19 ∧ (x.kind = 19 → x.kids = [] ∧ 0 ≤ x.tok ∧ x.tok < (m : Int)) ∧ (x.kind ≠ 19 → x.tok = -1) ∧ ∀ k ∈ x.kids, 0 ≤ k ∧ k < (i : Int)
def Forms (m : Nat) (N : List Nd) : Prop := N ≠ [] ∧ (∀ (i : Nat) (x : Nd), N[i]? = some x → okNd m i x) ∧ ∀ j : Nat, j + 1 < N.length → times N j = 1
def rightT (m : Nat) (N : List Nd) : Prop := Forms m N ∧ lv N (N.length - 1) = (List.range m).map (fun (i : Nat) => (i : Int))

theorem Forms.ahead {m : Nat} {N : List Nd} (h : Forms m N) : KidsAhead N := fun i x hx => (h.2.1 i x hx).2.2.2.2

/-! ### How many -/

theorem sum_split (c : Int → Nat) (m : Int) (L : List Int) : (L.map c).sum = L.count m * c m + ((L.filter fun k => decide (k ≠ m)).map c).sum := by
  induction L with
  | nil => simp
  | cons a L ih =>
    rw [List.map_cons, List.sum_cons, ih, List.count_cons]
    by_cases h : a = m
    · subst h; simp; rw [Nat.add_mul]; omega
    · rw [List.filter_cons_of_pos (by simpa using h)]
      simp [h]; omega

theorem count_filter_le (m : Int) (L : List Int) (j : Int) : (L.filter fun k => decide (k ≠ m)).count j ≤ L.count j := List.Sublist.count_le _ List.filter_sublist

theorem sum_le (c : Int → Nat) : ∀ (m : Nat) (L : List Int), (∀ k ∈ L, 0 ≤ k ∧ k < (m : Int)) → (∀ j : Nat, j < m → L.count (j : Int) ≤ 1) → (L.map c).sum ≤ ((List.range m).map fun (i : Nat) => c i).sum := by
  intro m
  induction m with
  | zero =>
    intro L h _
    cases L with
    | nil => simp
    | cons a L => have := h a List.mem_cons_self; omega
  | succ m ih =>
    intro L h hc
    rw [sum_split c (m : Int) L, List.range_succ, List.map_append, List.sum_append]
    have h1 := ih (L.filter fun k => decide (k ≠ (m : Int))) (fun k hk => by
      obtain ⟨h2, h3⟩ := List.mem_filter.1 hk
      have := h k h2
      simp at h3
      omega) (fun j hj => Nat.le_trans (count_filter_le _ _ _) (hc j (by omega)))
    have h2 := hc m (by omega)
    have h3 : L.count (m : Int) * c m ≤ 1 * c m := Nat.mul_le_mul_right _ h2
    simp only [List.map_cons, List.map_nil, List.sum_cons, List.sum_nil]
    omega

theorem range_map_get {N : List Nd} (hN : KidsAhead N) : ∀ i, i ≤ N.length → ((List.range i).map fun (j : Nat) => sz N j).sum = i + ((allKids (N.take i)).map fun k => sz N k.toNat).sum := by
  intro i
  induction i with
  | zero => intro _; simp [allKids]
  | succ i ih =>
    intro hi
    obtain ⟨x, hx⟩ : ∃ x, N[i]? = some x := ⟨N[i]'(by omega), List.getElem?_eq_getElem _⟩
    rw [List.range_succ, List.map_append, List.sum_append, ih (by omega), List.take_add_one, hx]
    unfold allKids
    rw [List.flatMap_append, List.map_append, List.sum_append]
    simp only [List.map_cons, List.map_nil, List.sum_cons, List.sum_nil, Option.toList_some, List.flatMap_cons, List.flatMap_nil, List.append_nil]
    rw [sz_eq hN hx]
    omega

theorem count_take (N : List Nd) (i j : Nat) : times (N.take i) j ≤ times N j := by
  unfold times allKids
  have : N.flatMap (·.kids) = (N.take i).flatMap (·.kids) ++ (N.drop i).flatMap (·.kids) := by rw [← List.flatMap_append, List.take_append_drop]
  rw [this, List.count_append]; omega

theorem sz_le {m : Nat} {N : List Nd} (h : Forms m N) {n : Nat} (hn : n < N.length) : sz N n ≤ n + 1 := by
  have hN := h.ahead
  have h1 := range_map_get hN (n + 1) (by omega)
  rw [List.range_succ, List.map_append, List.sum_append] at h1
  simp only [List.map_cons, List.map_nil, List.sum_cons, List.sum_nil] at h1
  have h2 := sum_le (fun k => sz N k.toNat) n (allKids (N.take (n + 1))) (fun k hk => by
    unfold allKids at hk
    obtain ⟨x, hx, hk⟩ := List.mem_flatMap.1 hk
    obtain ⟨i, hi⟩ := List.getElem?_of_mem hx
    have hi2 : i < n + 1 := by
      have := (List.getElem?_eq_some_iff.1 hi).1
      rw [List.length_take] at this; omega
    rw [List.getElem?_take_of_lt hi2] at hi
    have := hN i x hi k hk
    omega) (fun j hj => by
      have h3 := count_take N (n + 1) j
      rw [h.2.2 j (by omega)] at h3
      exact h3)
  simp only [Int.toNat_natCast] at h2
  omega

theorem lv_len {m : Nat} {N : List Nd} (h : Forms m N) : ∀ n, n < N.length → (lv N n).length ≤ sz N n := by
  have hN := h.ahead
  intro n
  induction n using Nat.strongRecOn with
  | ind n ih =>
    intro hn
    obtain ⟨x, hx⟩ : ∃ x, N[n]? = some x := ⟨N[n], List.getElem?_eq_getElem _⟩
    rw [lv_eq hN hx, sz_eq hN hx]
    split
    · simp
    · have : ∀ L : List Int, (∀ k ∈ L, 0 ≤ k ∧ k < (n : Int)) → (L.flatMap fun k => lv N k.toNat).length ≤ (L.map fun k => sz N k.toNat).sum := by
        intro L
        induction L with
        | nil => intro _; simp
        | cons a L ih2 =>
          intro hL
          have h0 := hL a List.mem_cons_self
          have h1 := ih a.toNat (by omega) (by omega)
          have h2 := ih2 fun k hk => hL k (List.mem_cons_of_mem _ hk)
          simp only [List.flatMap_cons, List.length_append, List.map_cons, List.sum_cons]
          omega
      have := this x.kids (hN n x hx)
      omega

theorem kids_len {m : Nat} {N : List Nd} (h : Forms m N) {n : Nat} {x : Nd} (hx : N[n]? = some x) : x.kids.length + 1 ≤ sz N n := by
  have hN := h.ahead
  have hn := (List.getElem?_eq_some_iff.1 hx).1
  rw [sz_eq hN hx]
  have : ∀ L : List Int, (∀ k ∈ L, 0 ≤ k ∧ k < (n : Int)) → L.length ≤ (L.map fun k => sz N k.toNat).sum := by
    intro L
    induction L with
    | nil => intro _; simp
    | cons a L ih2 =>
      intro hL
      have h0 := hL a List.mem_cons_self
      have h2 := ih2 fun k hk => hL k (List.mem_cons_of_mem _ hk)
      obtain ⟨y, hy⟩ : ∃ y, N[a.toNat]? = some y := ⟨N[a.toNat]'(by omega), List.getElem?_eq_getElem _⟩
      have h3 := sz_eq hN hy
      simp only [List.length_cons, List.map_cons, List.sum_cons]
      omega
  have := this x.kids (hN n x hx)
  omega

theorem digL_len (k : Int) : (digL k).length ≤ 2 := by unfold digL; split <;> simp

theorem dp_len {m : Nat} {T : List TokI} {N : List Nd} (h : Forms m N) (hT : ∀ t ∈ T, t.text.length ≤ 100) : ∀ n, n < N.length → (dp T N n).length + 1 ≤ 110 * sz N n := by
  have hN := h.ahead
  intro n
  induction n using Nat.strongRecOn with
  | ind n ih =>
    intro hn
    obtain ⟨x, hx⟩ : ∃ x, N[n]? = some x := ⟨N[n], List.getElem?_eq_getElem _⟩
    rw [dp_eq hN hx, sz_eq hN hx]
    split
    · have : (tokL T x.tok).length ≤ 101 := by
        unfold tokL
        split
        · simp
        · rename_i t ht
          have := hT t (List.mem_of_getElem? ht)
          split
          · simp; omega
          · omega
      omega
    · have : ∀ L : List Int, (∀ k ∈ L, 0 ≤ k ∧ k < (n : Int)) → (L.flatMap fun k => 32 :: dp T N k.toNat).length ≤ 110 * (L.map fun k => sz N k.toNat).sum := by
        intro L
        induction L with
        | nil => intro _; simp
        | cons a L ih2 =>
          intro hL
          have h0 := hL a List.mem_cons_self
          have h1 := ih a.toNat (by omega) (by omega)
          have h2 := ih2 fun k hk => hL k (List.mem_cons_of_mem _ hk)
          simp only [List.flatMap_cons, List.length_append, List.length_cons, List.map_cons, List.sum_cons]
          omega
      have := this x.kids (hN n x hx)
      have := digL_len x.kind
      simp only [List.length_append, List.length_cons, List.length_nil]
      omega
end Go.Proofs.YthclkbaankjbiaaGreatDoor
