/- The document's Lines; the law on lines, walked. -/
import Derived.Test.YtgffaldoieakaaaSLine
namespace Go.Proofs.Ytgffaldoieakaaa
open Go.RowKit

def strV (x : List UInt8) : Value := .string ⟨x.toArray⟩

theorem sidx_run (s : ByteArray) (k b : Nat) (h : k < s.data.toList.length) (hb : (s.data.toList[k]).toNat = b) : ∀ w : World, (Instr.index 9 (.string s) (.int .i64 (k : Int))).run Try.prog w = .ok (.int .u8 (b : Int)) w := by
  intro w
  have hs : s.data.toList.length = s.size := Array.length_toList
  rw [run_index_string w 9 s .i64 k Try.underlying9, dif_pos ⟨by omega, by omega⟩]
  have e : (s[((k : Int)).toNat]'(by omega)).toNat = b := by
    rw [← hb]; simp [ByteArray.getElem_eq_getElem_data]
  rw [e]

theorem ten_iff (x : UInt8) : x = 10 ↔ x.toNat = 10 := ⟨fun h => by rw [h]; rfl, fun h => UInt8.toNat_inj.1 (by rw [h]; rfl)⟩

theorem drop_cons {l : List UInt8} {k : Nat} {e : UInt8} (h : l[k]? = some e) : l.drop k = e :: l.drop (k + 1) := by
  obtain ⟨hk, rfl⟩ := List.getElem?_eq_some_iff.1 h
  exact List.drop_eq_getElem_cons hk

theorem seg_more {l : List UInt8} {k a : Nat} {e : UInt8} (h : l[k]? = some e) (ha : a ≤ k) : (l.take (k + 1)).drop a = (l.take k).drop a ++ [e] := by
  have hk := (List.getElem?_eq_some_iff.1 h).1
  rw [List.take_add_one, h]
  exact List.drop_append_of_le_length (by rw [List.length_take]; omega)

def RLinesPost (s : ByteArray) (w : World) (e : Ending) (w' : World) : Prop := w.grownBy w' none ∧ ∃ v, e = .returned v ∧ OwnV 9 w' w.heap.size v ((linesL s.data.toList).map strV)

set_option maxRecDepth 100000 in
set_option maxHeartbeats 8000000 in
theorem RLines_c (s : ByteArray) (w : World) (hs : s.size ≤ 300) : Calls Try.prog 12 #[.string s] w (RLinesPost s w) := by
  obtain ⟨n, hn⟩ : ∃ n, s.size = n := ⟨_, rfl⟩
  have HN := Lib.hid hn
  rw [hn] at hs
  go_enter Try.func12, Try.ntmps12
  go_wp2_with fail
  go_loopw [3, 4, 5] (fun ov av iv wr => ∃ (i a : Nat) (O : List (List UInt8)), i ≤ n ∧ a ≤ i ∧ iv = .int .i64 i ∧ av = .int .i64 a ∧ Hid (O.length ≤ i ∧ linesL s.data.toList = O ++ headOn ((s.data.toList.take i).drop a) (linesL (s.data.toList.drop i))) ∧ Hid (OwnV 9 wr w.heap.size ov (O.map strV)) ∧ Hid (w.grownBy wr none)) (fun _ _ i _ => n - (intOf i).toNat)
  case atStart => exact ⟨0, 0, [], by omega, by omega, rfl, rfl, Lib.hid ⟨Nat.le_refl _, (headOn_nil (linesL_ne _)).symm⟩, Lib.hid (OwnV.nil _ _ _), gb_refl _ _⟩
  case round =>
    obtain ⟨i, a, O, hi, ha, rfl, rfl, HL, HOW, HG⟩ := hrel
    have hL : s.data.toList.length = n := by rw [← HN.out]; exact Array.length_toList
    have HLN : Hid ((O.map strV).length ≤ 1000000) := Lib.hid (by rw [List.length_map]; have := HL.out.1; omega)
    have hpe : s.extract a i = ⟨((s.data.toList.take i).drop a).toArray⟩ := ba_data _ (ext_list s a i)
    have HPE := Lib.hid hpe
    obtain ⟨LK, hLK⟩ : ∃ LK, O.map strV = LK := ⟨_, rfl⟩
    have HLK := Lib.hid hLK
    rw [hLK] at HOW HLN
    clear hpe hLK
    by_cases hlt : i < n
    · have d1 : decide ((i : Int) < n) = true := decide_eq_true (by omega)
      have d1' : decide (i < n) = true := decide_eq_true hlt
      obtain ⟨x, hx⟩ : ∃ x, s.data.toList[i]? = some x := ⟨s.data.toList[i]'(by omega), List.getElem?_eq_getElem _⟩
      obtain ⟨b, hb⟩ : ∃ b : Nat, x.toNat = b := ⟨_, rfl⟩
      have hix := sidx_run s i b (by omega) (by rw [← hb]; exact congrArg UInt8.toNat (List.getElem?_eq_some_iff.1 hx).2)
      have HX := Lib.hid hx; have HB := Lib.hid hb
      clear hx hb hL
      by_cases h10 : b = 10
      · subst h10
        have HL2 : Hid ((O ++ [(s.data.toList.take i).drop a]).length ≤ i + 1 ∧ linesL s.data.toList = (O ++ [(s.data.toList.take i).drop a]) ++ headOn ((s.data.toList.take (i + 1)).drop (i + 1)) (linesL (s.data.toList.drop (i + 1)))) := Lib.hid (by
          obtain ⟨h1, h2⟩ := HL.out
          refine ⟨by simp; exact h1, ?_⟩
          rw [h2, drop_cons HX.out, (ten_iff x).2 HB.out, linesL_nl, List.drop_of_length_le (l := s.data.toList.take (i + 1)) (by rw [List.length_take]; omega), headOn_nil (linesL_ne _)]
          simp [headOn])
        clear HX HB
        go_wp2_with (at_builtin; go_loud (refine wpList_appV (t := 33) (T := 9) Try.underlying33 elemS rfl (by omega) rfl _ _ rfl w.heap.size LK (.string (s.extract a i)) rfl u3 rfl HOW.out _ rfl rfl HLN.out HG.out.size ?_))
        intro g' cap' w6 hO6 hB6 _ _
        rw [HPE.out, ← HLK.out] at hO6
        have HO6 : Hid (OwnV 9 w6 w.heap.size _ ((O ++ [(s.data.toList.take i).drop a]).map strV)) := Lib.hid (by rw [List.map_append]; exact hO6)
        have HG6 : Hid (w.grownBy w6 none) := Lib.hid (below_gb (Below.trans2 (gb_below HG.out) hB6))
        clear hO6 hB6 HOW HG HPE
        rw [← HLK.out]
        go_wp2_with fail
        go_roundw
        case rel => exact ⟨i + 1, i + 1, _, by omega, by omega, by go_num, by first | rfl | go_num, HL2, HO6, HG6⟩
        case measure => (simp [intOf] <;> omega)
      · have hbe : ((b : Int) == 10) = false := by simp; omega
        have HL2 : Hid (O.length ≤ i + 1 ∧ linesL s.data.toList = O ++ headOn ((s.data.toList.take (i + 1)).drop a) (linesL (s.data.toList.drop (i + 1)))) := Lib.hid (by
          obtain ⟨h1, h2⟩ := HL.out
          refine ⟨by omega, ?_⟩
          rw [h2, drop_cons HX.out, linesL_other (fun e => h10 (by rw [← HB.out]; exact (ten_iff x).1 e)), seg_more HX.out ha, headOn_headOn _ _ _ (linesL_ne _)])
        rw [← HLK.out] at HOW
        clear HX HB
        go_wp2_with fail
        go_roundw
        case rel => exact ⟨i + 1, a, O, by omega, by omega, by go_num, by first | rfl | go_num, HL2, HOW, HG⟩
        case measure => (simp [intOf] <;> omega)
    · obtain rfl : i = n := by omega
      have d1 : decide ((i : Int) < i) = false := decide_eq_false (by omega)
      have d1' : decide (i < i) = false := decide_eq_false hlt
      have HEND : Hid (linesL s.data.toList = O ++ [(s.data.toList.take i).drop a]) := Lib.hid (by
        rw [HL.out.2, List.drop_of_length_le (l := s.data.toList) (i := i) (by omega)]
        simp [linesL, headOn])
      clear hL
      go_wp2_with (at_builtin; go_loud (refine wpList_appV (t := 33) (T := 9) Try.underlying33 elemS rfl (by omega) rfl _ _ rfl w.heap.size LK (.string (s.extract a i)) rfl u3 rfl HOW.out _ rfl rfl HLN.out HG.out.size ?_))
      intro g' cap' w6 hO6 hB6 _ _
      rw [HPE.out, ← HLK.out] at hO6
      have HO6 : Hid (OwnV 9 w6 w.heap.size _ ((O ++ [(s.data.toList.take i).drop a]).map strV)) := Lib.hid (by rw [List.map_append]; exact hO6)
      have HG6 : Hid (w.grownBy w6 none) := Lib.hid (below_gb (Below.trans2 (gb_below HG.out) hB6))
      clear hO6 hB6 HOW HG HPE
      rw [← HLK.out]
      go_wp2_with fail
      go_ret
      refine ⟨HG6.out, _, rfl, ?_⟩
      rw [HEND.out]
      exact HO6.out

set_option maxRecDepth 100000 in
set_option maxHeartbeats 8000000 in
theorem lines_yes (s : ByteArray) (line : Int) (w : World) (hs : s.size ≤ 300) (h0 : -9223372036854775808 ≤ line) (h1 : line < 9223372036854775808) :
    Calls Try.prog 4 #[.string s, .int .i64 line] w (ValPost (.bool true) w) := by
  have HRL := Lib.hid (fun W => RLines_c s W hs)
  have HLI := Lib.hid (fun l2 W (g0 : -9223372036854775808 ≤ l2) (g1 : l2 < 9223372036854775808) => line_c s l2 W hs g0 g1)
  have HL0 := Lib.hid (fun _ : Unit => h0); have HL1 := Lib.hid (fun _ : Unit => h1)
  obtain ⟨n, hn⟩ : ∃ n, s.size = n := ⟨_, rfl⟩
  have HN := Lib.hid hn
  rw [hn] at hs
  have d1 : decide ((300 : Int) < n) = false := decide_eq_false (by omega)
  have d1' : decide (300 < n) = false := decide_eq_false (by omega)
  obtain ⟨LL, hLL⟩ : ∃ LL, linesL s.data.toList = LL := ⟨_, rfl⟩
  obtain ⟨m, hm⟩ : ∃ m, LL.length = m := ⟨_, rfl⟩
  have hm3 : m ≤ 301 := by
    have key : ∀ l : List UInt8, (linesL l).length ≤ l.length + 1 := by
      intro l
      induction l with
      | nil => exact Nat.le_refl _
      | cons b r ih =>
        by_cases hb : b = 10
        · subst hb; rw [linesL_nl]; simp; exact ih
        · rw [linesL_other hb]
          cases h : linesL r with
          | nil => exact absurd h (linesL_ne _)
          | cons x xs => rw [h] at ih; simp [headOn] at ih ⊢; omega
    have h2 := key s.data.toList
    have h3 : s.data.toList.length = s.size := Array.length_toList
    rw [hLL, hm] at h2
    omega
  have HLL := Lib.hid hLL; have HM := Lib.hid hm
  clear hLL hm h0 h1
  go_enter Try.func4, Try.ntmps4
  go_wp2_with fail
  refine (anchor_c _).mono ?_
  rintro e w0 ⟨rfl, hg0⟩
  have HG0 := Lib.hid hg0
  clear hg0
  go_wp2_with fail
  refine (HRL.out w0).mono ?_
  rintro e w1 ⟨hg1, v, rfl, how⟩
  rw [HLL.out] at how
  obtain ⟨q, c, hq, hqv, -⟩ := how.is
  rw [List.length_map, HM.out] at hq
  subst hq
  have HG1 := Lib.hid (gb_trans HG0.out hg1); have HQV := Lib.hid hqv
  clear hg1 how hqv HRL d1 d1'
  go_wp2_with fail
  go_loopw [21] (fun i wr => ∃ (k : Nat), k ≤ m ∧ i = .int .i64 k ∧ Hid (w1.grownBy wr none)) (fun i _ => m - (intOf i).toNat)
  case atStart => exact ⟨0, by omega, rfl, gb_refl _ _⟩
  case round =>
    obtain ⟨k, hk, rfl, HG⟩ := hrel
    by_cases hlt : k < m
    · obtain ⟨x, hx⟩ : ∃ x, LL[k]? = some x := ⟨LL[k]'(by rw [HM.out]; exact hlt), List.getElem?_eq_getElem _⟩
      obtain ⟨g, off, rfl, hgl, hc⟩ := HQV.out.resolve_left (fun h => by have h1 := HM.out; simp at h; rw [h] at h1; simp at h1; omega)
      have c0 := HG.out.cell (hc k (strV x) (by rw [List.getElem?_map, hx]; rfl)) (by simp)
      rw [show strV x = .string ⟨x.toArray⟩ from rfl] at c0
      have HX := Lib.hid hx
      have hw1 : IntKind.i64.wrap ((k : Int) + 1) = (k : Int) + 1 := IntWalk.i64_in _ (by omega)
      have HC := Lib.hid (HLI.out ((k : Int) + 1) wr (by omega) (by omega))
      clear hc hgl hx
      go_wp2_with fail
      refine HC.out.mono ?_
      rintro e w2 ⟨hg2, h2⟩
      have HG2 := Lib.hid (gb_trans HG.out hg2)
      obtain ⟨y, hy⟩ : ∃ y : ByteArray, (⟨x.toArray⟩ : ByteArray) = y := ⟨_, rfl⟩
      have he : e = .returned (.tuple #[.string y, .int .i64 0]) := by
        rcases h2 with ⟨x2, -, hx2, rfl⟩ | ⟨hbad, -⟩
        · rw [HLL.out, show ((k : Int) + 1 - 1).toNat = k by omega, HX.out] at hx2
          injection hx2 with hx2
          rw [← hx2, hy]
        · rw [HLL.out, HM.out] at hbad
          exact absurd hbad (by omega)
      subst he
      rw [hy]
      have hyy : (y.toList == y.toList) = true := by simp
      clear hg2 h2 HC hy
      go_wp2_with fail
      go_roundw
      case rel => exact ⟨k + 1, by omega, by first | rfl | go_num, HG2⟩
      case measure => (simp [intOf] <;> omega)
    · obtain rfl : k = m := by omega
      have HC := Lib.hid (HLI.out line wr (HL0.out ()) (HL1.out ()))
      go_wp2_with fail
      refine HC.out.mono ?_
      rintro e w2 ⟨hg2, h2⟩
      have HG2 := Lib.hid (gb_trans HG1.out (gb_trans HG.out hg2)); have HG3 := Lib.hid (gb_trans HG.out hg2)
      rcases h2 with ⟨x, hl1, hx, rfl⟩ | ⟨hbad, rfl⟩
      · obtain ⟨j, rfl⟩ : ∃ j : Nat, line = (j : Int) + 1 := ⟨(line - 1).toNat, by omega⟩
        rw [HLL.out, show ((j : Int) + 1 - 1).toNat = j by omega] at hx
        have hjk : j < k := by rw [← HM.out]; exact (List.getElem?_eq_some_iff.1 hx).1
        obtain ⟨g, off, rfl, hgl, hc⟩ := HQV.out.resolve_left (fun h => by have h1 := HM.out; simp at h; rw [h] at h1; simp at h1; omega)
        have c0 := HG3.out.cell (hc j (strV x) (by rw [List.getElem?_map, hx]; rfl)) (by simp)
        rw [show strV x = .string ⟨x.toArray⟩ from rfl] at c0
        obtain ⟨y, hy⟩ : ∃ y : ByteArray, (⟨x.toArray⟩ : ByteArray) = y := ⟨_, rfl⟩
        rw [hy] at c0 ⊢
        have hyy : (y.toList == y.toList) = true := by simp
        have d2 : decide ((j : Int) + 1 < 1) = false := decide_eq_false (by omega)
        have d3 : decide ((k : Int) < (j : Int) + 1) = false := decide_eq_false (by omega)
        have hw1 : IntKind.i64.wrap (j : Int) = (j : Int) := IntWalk.i64_in _ (by omega)
        have hw2 : IntKind.i64.wrap ((j : Int) + 1 - 1) = (j : Int) := by rw [IntWalk.i64_in _ (by omega)]; omega
        clear hc hgl hx hy hg2 HC HLI hl1
        go_wp2_with fail
        go_ret
        exact ⟨rfl, HG2.out⟩
      · rw [HLL.out, HM.out] at hbad
        by_cases hl1 : line < 1
        · have d2 : decide (line < 1) = true := decide_eq_true hl1
          clear hbad hg2 HC HLI
          go_wp2_with fail
          go_ret
          exact ⟨rfl, HG2.out⟩
        · have d2 : decide (line < 1) = false := decide_eq_false hl1
          have d3 : decide ((k : Int) < line) = true := decide_eq_true (by omega)
          clear hbad hg2 HC HLI
          go_wp2_with fail
          go_ret
          exact ⟨rfl, HG2.out⟩

set_option maxRecDepth 100000 in
set_option maxHeartbeats 2000000 in
theorem lines_c (s : ByteArray) (line : Int) (w : World) (hs : s.size < 9223372036854775808) (h0 : -9223372036854775808 ≤ line) (h1 : line < 9223372036854775808) :
    Calls Try.prog 4 #[.string s, .int .i64 line] w (ValPost (.bool true) w) := by
  by_cases hb : 300 < s.size
  · obtain ⟨n, hn⟩ : ∃ n, s.size = n := ⟨_, rfl⟩
    rw [hn] at hb hs
    have d1 : decide ((300 : Int) < n) = true := decide_eq_true (by omega)
    have d1' : decide (300 < n) = true := decide_eq_true hb
    clear h0 h1
    go_enter Try.func4, Try.ntmps4
    go_wp2_with fail
    refine (anchor_c _).mono ?_
    rintro e w0 ⟨rfl, hg0⟩
    have HG0 := Lib.hid hg0
    clear hg0
    go_wp2_with fail
    go_ret
    exact ⟨rfl, HG0.out⟩
  · exact lines_yes s line w (by omega) h0 h1
end Go.Proofs.Ytgffaldoieakaaa
