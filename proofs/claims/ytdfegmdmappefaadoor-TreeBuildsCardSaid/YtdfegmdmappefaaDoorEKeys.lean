/- The keys and the signs, as the package's variables hold them. -/
import Derived.Test.YtdfegmdmappefaaDoorERun
import Derived.Shelf.Strings.SlTrimAscii
import Derived.Deep.MidRow
namespace Go.Proofs.YtdfegmdmappefaaDoor
open Go.RowKit

def strV (x : List UInt8) : Value := .string ⟨x.toArray⟩

theorem gKeys : Tryd.prog.globalNamed "touchstone/lex.keys" = some 0 := by kernel_rfl
theorem gSigns : Tryd.prog.globalNamed "touchstone/lex.signs" = some 1 := by kernel_rfl

/-- The two variables hold the keys and the signs. -/
def LaidE (w : World) : Prop := (∀ j v, (keysL.map strV)[j]? = some v → w.cell? ⟨0, j, none⟩ = some v) ∧ (∀ j v, (signsL.map strV)[j]? = some v → w.cell? ⟨1, j, none⟩ = some v)

theorem LaidE.kept {w w' : World} (h : LaidE w) (hg : w.grownBy w' none) : LaidE w' :=
  ⟨fun j v hj => hg.cell (h.1 j v hj) (by simp), fun j v hj => hg.cell (h.2 j v hj) (by simp)⟩

theorem arr_index {t : TypeId} {n : Nat} (ht : Tryd.prog.underlying t = some (.array n 9)) (A : Array Value) (k : Nat) (v : Value) (hk : k < n) (hv : A[k]? = some v) (w : World) :
    (Instr.index t (.agg A) (.int .i64 (k : Int))).run Tryd.prog w = .ok v w := by
  simp [Instr.index, run_underlying ht, asIntOf, hk, part, Tryd.sizeOf9, Tryd.isAgg9, go_sem, hv]

theorem data_list (x : List UInt8) : (⟨x.toArray⟩ : ByteArray).data.toList = x := rfl
theorem toList_data (s : ByteArray) : s.toList = s.data.toList := Lib.toList_data s

/-- An array of strings by value, hidden behind a name. -/
def ArrIs (A : Value) (L : List (List UInt8)) : Prop := A = .agg (L.map strV).toArray

theorem ArrIs.run {A : Value} {L : List (List UInt8)} (h : ArrIs A L) {t : TypeId} {n : Nat} (ht : Tryd.prog.underlying t = some (.array n 9)) (hn : L.length = n) {k : Nat} {x : List UInt8} (hx : L[k]? = some x) (w : World) :
    (Instr.index t A (.int .i64 (k : Int))).run Tryd.prog w = .ok (.string ⟨x.toArray⟩) w := by
  rw [h]
  refine arr_index ht _ k _ ?_ ?_ w
  · have := (List.getElem?_eq_some_iff.1 hx).1; omega
  · simp [hx, strV]

theorem contains_step {L : List (List UInt8)} {k : Nat} {x s : List UInt8} (h : L.contains s = (L.drop k).contains s) (hx : L[k]? = some x) (hne : x ≠ s) : L.contains s = (L.drop (k + 1)).contains s := by
  have e : L.drop k = x :: L.drop (k + 1) := by
    obtain ⟨hk, rfl⟩ := List.getElem?_eq_some_iff.1 hx
    exact List.drop_eq_getElem_cons hk
  have hb : (s == x) = false := by simpa using fun e => hne e.symm
  rw [h, e, List.contains_cons, hb, Bool.false_or]

theorem sizeK : (Tryd.prog.info? 114).map (·.size) = some (keysL.map strV).length := by kernel_rfl
theorem sizeG : (Tryd.prog.info? 115).map (·.size) = some (signsL.map strV).length := by kernel_rfl

set_option maxRecDepth 100000 in
set_option maxHeartbeats 4000000 in
theorem isKey_c (s : ByteArray) (w : World) (h : LaidE w) : Calls Tryd.prog 62 #[.string s] w (BoolIs (keysL.contains s.data.toList) w) := by
  obtain ⟨h0, -⟩ := h
  have hr : w.rangeAt 0 0 (keysL.map strV) := fun j v hj => by rw [Nat.zero_add]; exact h0 j v hj
  have HRG := Lib.hid hr
  clear hr
  clear h0
  have HST : Hid (keysL.contains s.data.toList = (keysL.drop 0).contains s.data.toList) := Lib.hid rfl
  have HSL := Lib.hid (toList_data s)
  go_enter Tryd.func62, Tryd.ntmps62
  go_wp2_with (refine wpList_load_mid rfl 114 _ rfl 0 0 rfl (keysL.map strV) _ HRG.out Tryd.underlying114 rfl sizeK ?_)
  have HA : Hid (ArrIs (.agg (keysL.map strV).toArray) keysL) := Lib.hid rfl
  generalize Value.agg (keysL.map strV).toArray = A at *
  go_wp2
  go_loopw [6] (fun i wr => ∃ k : Nat, k ≤ 15 ∧ i = .int .i64 k ∧ Hid (keysL.contains s.data.toList = (keysL.drop k).contains s.data.toList) ∧ wr = w) (fun i _ => 15 - (intOf i).toNat)
  case atStart => exact ⟨0, Nat.zero_le _, rfl, HST, rfl⟩
  case round =>
    clear HST
    obtain ⟨k, hk, rfl, HC, rfl⟩ := hrel
    by_cases hlt : k < 15
    · have d1 : decide ((k : Int) < 15) = true := decide_eq_true (by omega)
      have d1' : decide (k < 15) = true := decide_eq_true hlt
      obtain ⟨x, hx⟩ : ∃ x, keysL[k]? = some x := ⟨keysL[k]'hlt, List.getElem?_eq_getElem _⟩
      have hrun := HA.out.run (t := 114) (n := 15) Tryd.underlying114 rfl hx
      obtain ⟨y, hy⟩ : ∃ y : ByteArray, (⟨x.toArray⟩ : ByteArray) = y := ⟨_, rfl⟩
      have hyl : y.toList = x := by rw [toList_data, ← hy]
      rw [hy] at hrun
      by_cases he : x = s.data.toList
      · have d2 : (y.toList == s.toList) = true := by rw [hyl, HSL.out, he]; simp
        have HR : Hid (keysL.contains s.data.toList = true) := Lib.hid (by rw [← he]; simpa using List.mem_of_getElem? hx)
        clear hx he hyl hy
        go_wp2
        go_ret
        exact ⟨by rw [HR.out]; rfl, rfl⟩
      · have d2 : (y.toList == s.toList) = false := by rw [hyl, HSL.out]; simpa using he
        have HR := Lib.hid (contains_step HC.out hx he)
        clear hx he hyl hy
        go_wp2
        go_roundw
        case rel => exact ⟨k + 1, by omega, by go_num, HR, by first | rfl | trivial⟩
        case measure => (simp [intOf] <;> omega)
    · obtain rfl : k = 15 := by omega
      have HR : Hid (keysL.contains s.data.toList = false) := Lib.hid HC.out
      go_wp2
      go_ret
      exact ⟨by rw [HR.out]; rfl, rfl⟩
end Go.Proofs.YtdfegmdmappefaaDoor
