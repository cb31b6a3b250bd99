/- Where lines begin; a line. -/
import Derived.Test.YtgffaldoieakaaaSPick
import Derived.Test.YtgffaldoieakaaaSMath5
import Derived.Test.YtgffaldoieakaaaSRPut
namespace Go.Proofs.Ytgffaldoieakaaa
open Go.RowKit

theorem ext_end (s : ByteArray) (a n : Nat) (h : s.size = n) : (s.extract a n).data.toList = s.data.toList.drop a := by
  have : s.data.toList.length = s.size := Array.length_toList
  rw [ByteArray.data_extract, Array.toList_extract, List.extract_eq_take_drop, List.take_of_length_le (by rw [List.length_drop]; omega)]

theorem lines_len : ∀ (l : List UInt8) (x : List UInt8), x ∈ linesL l → x.length ≤ l.length
  | [], x, h => by simp [linesL] at h; subst h; exact Nat.le_refl _
  | b :: r, x, h => by
    have ih := lines_len r
    by_cases hb : b = 10
    · subst hb
      rw [linesL_nl] at h
      rcases List.mem_cons.1 h with rfl | h
      · exact Nat.zero_le _
      · have := ih x h; simp; omega
    · rw [linesL_other hb] at h
      cases hl : linesL r with
      | nil => exact absurd hl (linesL_ne _)
      | cons y ys =>
        rw [hl] at h ih
        rcases List.mem_cons.1 h with rfl | h
        · have := ih y (List.mem_cons_self ..); simp; omega
        · have := ih x (List.mem_cons_of_mem _ h); simp; omega

/-- What lineStart answers. -/
def StartIs (s : ByteArray) (line : Int) (e : Ending) : Prop :=
  (∃ st : Nat, e = .returned (.tuple #[.int .i64 st, .bool true]) ∧ 1 ≤ line ∧ st ≤ s.size ∧ ((atL (s.data.toList.take st)).1 : Int) = line ∧ (atL (s.data.toList.take st)).2 = 1 ∧ linesL (s.data.toList.drop st) = (linesL s.data.toList).drop (line - 1).toNat ∧ line ≤ (linesL s.data.toList).length) ∨
  (e = .returned (.tuple #[.int .i64 0, .bool false]) ∧ (line < 1 ∨ ((linesL s.data.toList).length < line ∧ ∀ i, i ≤ s.size → ((atL (s.data.toList.take i)).1 : Int) < line)))

set_option maxRecDepth 100000 in
set_option maxHeartbeats 4000000 in
theorem start_c (s : ByteArray) (line : Int) (w : World) (hs : s.size ≤ 300) (h0 : -9223372036854775808 ≤ line) (h1 : line < 9223372036854775808) :
    Calls Try.prog 23 #[.string s, .int .i64 line] w (fun e w' => StartIs s line e ∧ w' = w) := by
  obtain ⟨n, hn⟩ : ∃ n, s.size = n := ⟨_, rfl⟩
  have HN := Lib.hid hn
  rw [hn] at hs
  by_cases hl : line < 1
  · have d1 : decide (line < 1) = true := decide_eq_true hl
    go_enter Try.func23, Try.ntmps23
    go_wp2_with fail
    go_ret2
    exact ⟨.inr ⟨rfl, .inl hl⟩, rfl⟩
  · have d1 : decide (line < 1) = false := decide_eq_false hl
    obtain ⟨m, hm⟩ : ∃ m : Nat, line = (m : Int) + 1 := ⟨(line - 1).toNat, by omega⟩
    subst hm
    have hw : IntKind.i64.wrap (m : Int) = (m : Int) := IntWalk.i64_in _ (by omega)
    have hm6 : (m : Int) < 9223372036854775807 := by omega
    have HM := Lib.hid (fun _ : Unit => hm6)
    clear h0 h1 hm6 hl
    go_enter Try.func23, Try.ntmps23
    go_wp2_with fail
    go_loopw [6, 12] (fun sv i wr => ∃ (k st : Nat), k ≤ m ∧ i = .int .i64 k ∧ sv = .int .i64 st ∧ st ≤ n ∧ Hid (atL (s.data.toList.take st) = (k + 1, 1) ∧ linesL (s.data.toList.drop st) = (linesL s.data.toList).drop k ∧ k < (linesL s.data.toList).length) ∧ wr = w) (fun _ i _ => m - (intOf i).toNat)
    case atStart => exact ⟨0, 0, by omega, rfl, rfl, by omega, Lib.hid ⟨rfl, rfl, List.length_pos_iff.2 (linesL_ne _)⟩, rfl⟩
    case round =>
      obtain ⟨k, st, hk, rfl, rfl, hst, HI, rfl⟩ := hrel
      obtain ⟨hat, hln, hkl⟩ := HI.out
      have hL : s.data.toList.length = n := by rw [← HN.out]; exact Array.length_toList
      by_cases hlt : k < m
      · have d2 : decide ((k : Int) < m) = true := decide_eq_true (by omega)
        have d2' : decide (k < m) = true := decide_eq_true hlt
        have hwk : IntKind.i64.wrap ((k : Int) + 1) = (k : Int) + 1 := IntWalk.i64_in _ (by have := HM.out (); omega)
        have hx := Try.strings_IndexByte (s.extract st n) 10 wr
        rw [ext_end s st n HN.out, show (10 : Int).toNat.toUInt8 = (10 : UInt8) from rfl] at hx
        rcases (show Lib.indexByte (s.data.toList.drop st) 10 = -1 ∨ ∃ o : Nat, Lib.indexByte (s.data.toList.drop st) 10 = o from by
          have := Lib.indexByte_ge (s.data.toList.drop st) 10
          by_cases h : Lib.indexByte (s.data.toList.drop st) 10 = -1
          · exact .inl h
          · exact .inr ⟨(Lib.indexByte (s.data.toList.drop st) 10).toNat, by omega⟩) with he | ⟨o, he⟩
        · rw [he] at hx
          have HX := Lib.hid hx
          have hone := lines_none he
          rw [hln] at hone
          have hlen : (linesL s.data.toList).length = k + 1 := by
            have := congrArg List.length hone
            simp at this; omega
          have HLEN := Lib.hid hlen
          have HLAST : Hid (∀ i, i ≤ s.size → (atL (s.data.toList.take i)).1 ≤ k + 1) := Lib.hid fun i hi => by
            have := atL_last s.data.toList (st := st) (by omega) (fun j => Lib.indexByte_none he j) i (by rw [hL, ← HN.out]; exact hi)
            rw [hat] at this; exact this
          clear hx he hone hlen hat hln hkl hL hwk
          go_wp2_with fail
          refine HX.out.mono ?_
          rintro e w' ⟨rfl, rfl⟩
          clear HX
          go_wp2_with fail
          go_ret2
          refine ⟨.inr ⟨rfl, .inr ⟨by rw [HLEN.out]; omega, fun i hi => by have := HLAST.out i hi; omega⟩⟩, rfl⟩
        · rw [he] at hx
          have HX := Lib.hid hx
          obtain ⟨g1, g2, g3⟩ := atL_next s.data.toList (st := st) (by omega) he
          rw [hat] at g2
          have hlen2 : st + o + 1 ≤ n := by omega
          have HI2 : Hid (atL (s.data.toList.take (st + o + 1)) = (k + 1 + 1, 1) ∧ linesL (s.data.toList.drop (st + o + 1)) = (linesL s.data.toList).drop (k + 1) ∧ k + 1 < (linesL s.data.toList).length) := Lib.hid (by
            rw [hln] at g3
            have hd : (linesL s.data.toList).drop (k + 1) = linesL (s.data.toList.drop (st + o + 1)) := by
              rw [← List.drop_drop, g3]; rfl
            refine ⟨g2, hd.symm, ?_⟩
            refine Nat.lt_of_not_le fun h => linesL_ne (s.data.toList.drop (st + o + 1)) ?_
            rw [← hd, List.drop_of_length_le h])
          have hw1 : IntKind.i64.wrap ((o : Int) + 1) = (o : Int) + 1 := IntWalk.i64_in _ (by omega)
          have hw2 : IntKind.i64.wrap ((st : Int) + ((o : Int) + 1)) = (st : Int) + ((o : Int) + 1) := IntWalk.i64_in _ (by omega)
          clear hx he hat hln hkl hL g1 g2 g3
          go_wp2_with fail
          refine HX.out.mono ?_
          rintro e w' ⟨rfl, rfl⟩
          clear HX
          go_wp2_with fail
          go_roundw
          case rel => exact ⟨k + 1, st + o + 1, by omega, by first | rfl | go_num, by first | rfl | go_num, by omega, HI2, by first | rfl | trivial⟩
          case measure => (simp [intOf] <;> omega)
      · obtain rfl : k = m := by omega
        have d2 : decide ((k : Int) < k) = false := decide_eq_false (by omega)
        have d2' : decide (k < k) = false := decide_eq_false hlt
        clear hat hln hkl hL
        go_wp2_with fail
        go_ret2
        obtain ⟨hat, hln, hkl⟩ := HI.out
        refine ⟨.inl ⟨st, rfl, by omega, by rw [HN.out]; exact hst, by rw [hat]; simp, by rw [hat], ?_, by omega⟩, rfl⟩
        rw [hln, show ((k : Int) + 1 - 1).toNat = k by omega]

def firstL (s : ByteArray) : List UInt8 := (linesL s.data.toList).headD []

/-- What Cut at a line's end answers. -/
def CutIs (s : ByteArray) (w : World) (e : Ending) (w' : World) : Prop := (∃ t b, e = .returned (.tuple #[.string ⟨(firstL s).toArray⟩, t, b])) ∧ w.grownBy w' none

set_option maxRecDepth 100000 in
set_option maxHeartbeats 4000000 in
theorem slcut_c (s : ByteArray) (w : World) (hs : s.size ≤ 300) : Calls Try.prog 36 #[.string s, .string ⟨#[10]⟩] w (CutIs s w) := by
  obtain ⟨n, hn⟩ : ∃ n, s.size = n := ⟨_, rfl⟩
  have HN := Lib.hid hn
  rw [hn] at hs
  have hL : s.data.toList.length = n := by rw [← hn]; exact Array.length_toList
  have hx := Try.stringslite_Index_one s 10 w
  by_cases h : Lib.indexByte s.data.toList 10 = -1
  · rw [h] at hx
    have HX := Lib.hid hx
    have HR := Lib.hid (lines_none h)
    clear hx h hL
    go_enter Try.func36, Try.ntmps36
    go_wp2_with fail
    refine HX.out.mono ?_
    rintro e w' ⟨rfl, rfl⟩
    clear HX
    go_wp2_with fail
    go_ret3
    exact ⟨⟨_, _, by unfold firstL; rw [HR.out]; rfl⟩, gb_refl _ _⟩
  · have hge := Lib.indexByte_ge s.data.toList 10
    obtain ⟨o, he⟩ : ∃ o : Nat, Lib.indexByte s.data.toList 10 = o := ⟨(Lib.indexByte s.data.toList 10).toNat, by omega⟩
    rw [he] at hx
    have HX := Lib.hid hx
    have HR := Lib.hid (lines_some he)
    have hon : o < n := by rw [← hL]; exact (List.getElem?_eq_some_iff.1 (Lib.indexByte_some he).1).1
    have hw1 : IntKind.i64.wrap ((o : Int) + 1) = (o : Int) + 1 := IntWalk.i64_in _ (by omega)
    have HE : Hid (s.extract 0 o = ⟨(s.data.toList.take o).toArray⟩) := Lib.hid (ba_data _ (by rw [ext_list]; rfl))
    clear hx h hL hge he
    go_enter Try.func36, Try.ntmps36
    go_wp2_with fail
    refine HX.out.mono ?_
    rintro e w' ⟨rfl, rfl⟩
    clear HX
    go_wp2_with fail
    go_quiet (fail)
    go_wp2_with fail
    go_ret3
    exact ⟨⟨_, _, by unfold firstL; rw [HR.out, HE.out]; rfl⟩, gb_drewN (gb_refl _ _) _⟩

set_option maxRecDepth 100000 in
set_option maxHeartbeats 4000000 in
theorem scut_c (s : ByteArray) (w : World) (hs : s.size ≤ 300) : Calls Try.prog 24 #[.string s, .string ⟨#[10]⟩] w (CutIs s w) := by
  have H := Lib.hid (slcut_c s w hs)
  clear hs
  go_enter Try.func24, Try.ntmps24
  go_wp2_with fail
  refine H.out.mono ?_
  rintro e w' ⟨⟨t, b, rfl⟩, hg⟩
  have HG := Lib.hid hg
  clear hg
  go_wp2_with fail
  go_ret3
  exact ⟨⟨t, b, rfl⟩, HG.out⟩

/-- A line. -/
def LinePost (s : ByteArray) (line : Int) (w : World) (e : Ending) (w' : World) : Prop :=
  w.grownBy w' none ∧ ((∃ x : List UInt8, 1 ≤ line ∧ (linesL s.data.toList)[(line - 1).toNat]? = some x ∧ e = .returned (.tuple #[.string ⟨x.toArray⟩, .int .i64 0])) ∨ ((line < 1 ∨ ((linesL s.data.toList).length : Int) < line) ∧ e = .returned (.tuple #[.string ⟨#[]⟩, .int .i64 12])))

set_option maxRecDepth 100000 in
set_option maxHeartbeats 4000000 in
theorem line_c (s : ByteArray) (line : Int) (w : World) (hs : s.size ≤ 300) (h0 : -9223372036854775808 ≤ line) (h1 : line < 9223372036854775808) :
    Calls Try.prog 13 #[.string s, .int .i64 line] w (LinePost s line w) := by
  have HS := Lib.hid (start_c s line w hs h0 h1)
  obtain ⟨n, hn⟩ : ∃ n, s.size = n := ⟨_, rfl⟩
  have HN := Lib.hid hn
  rw [hn] at hs
  have HL0 := Lib.hid (fun _ : Unit => h0); have HL1 := Lib.hid (fun _ : Unit => h1)
  clear h0 h1
  go_enter Try.func13, Try.ntmps13
  go_wp2_with fail
  refine HS.out.mono ?_
  rintro e w' ⟨hst, rfl⟩
  rcases hst with ⟨st, rfl, g1, g2, g3, g4, g5, g6⟩ | ⟨rfl, g1⟩
  · rw [HN.out] at g2
    have HC := Lib.hid (scut_c (s.extract st n) w' (by rw [ByteArray.size_extract]; omega))
    obtain ⟨x, hx⟩ : ∃ x, (linesL s.data.toList)[(line - 1).toNat]? = some x := ⟨(linesL s.data.toList)[(line - 1).toNat]'(by omega), List.getElem?_eq_getElem _⟩
    have hhd : ((linesL s.data.toList).drop (line - 1).toNat).headD [] = x := by
      rw [List.drop_eq_getElem_cons (by omega)]
      rw [List.getElem?_eq_getElem (by omega)] at hx
      injection hx
    have HFS : Hid (firstL (s.extract st n) = x) := Lib.hid (by unfold firstL; rw [ext_end s st n HN.out, g5, hhd])
    have HXX := Lib.hid hx; have HG := Lib.hid g1
    have hxl : x.length ≤ 300 := by
      have h1 := lines_len s.data.toList x (List.mem_of_getElem? hx)
      have h2 : s.data.toList.length = s.size := Array.length_toList
      have := HN.out
      omega
    have HXL := Lib.hid hxl
    clear g1 g3 g4 g5 g6 hx hhd hxl
    go_wp2_with fail
    refine HC.out.mono ?_
    rintro e w2 ⟨⟨t, b, he⟩, hg⟩
    rw [HFS.out] at he
    subst he
    have HG2 := Lib.hid hg
    have HCL := Lib.hid (Clone_c ⟨x.toArray⟩ w2 (by have := HXL.out; simp [ByteArray.size]; omega))
    clear hg HC
    go_wp2_with fail
    refine HCL.out.mono ?_
    rintro e w3 ⟨rfl, hg3⟩
    have HG3 := Lib.hid (gb_trans HG2.out hg3)
    clear hg3 HCL
    go_wp2_with fail
    go_ret2
    exact ⟨HG3.out, .inl ⟨x, HG.out, HXX.out, rfl⟩⟩
  · have HB := Lib.hid g1
    clear g1
    go_wp2_with fail
    go_ret2
    exact ⟨gb_refl _ _, .inr ⟨HB.out.imp id (fun h => h.1), rfl⟩⟩
end Go.Proofs.Ytgffaldoieakaaa
