/- Places: At, Place; the document's At. -/
import Derived.Test.YtgffaldoieakaaaSLines
namespace Go.Proofs.Ytgffaldoieakaaa
open Go.RowKit

def AtPost (p : Nat × Nat) (w : World) (e : Ending) (w' : World) : Prop := e = .returned (.tuple #[.agg #[.int .i64 (p.1 : Nat), .int .i64 (p.2 : Nat)], .int .i64 0]) ∧ w.grownBy w' none
def AtBad (w : World) (e : Ending) (w' : World) : Prop := e = .returned (.tuple #[.agg #[.int .i64 0, .int .i64 0], .int .i64 12]) ∧ w.grownBy w' none

set_option maxRecDepth 100000 in
set_option maxHeartbeats 4000000 in
theorem at_ok (s : ByteArray) (pl : Nat) (w : World) (hs : s.size ≤ 300) (hp : pl ≤ s.size) :
    Calls Try.prog 9 #[.string s, .int .i64 (pl : Int)] w (AtPost (atL (s.data.toList.take pl)) w) := by
  obtain ⟨n, hn⟩ : ∃ n, s.size = n := ⟨_, rfl⟩
  have hL : s.data.toList.length = s.size := Array.length_toList
  obtain ⟨a, ha⟩ : ∃ a, s.extract 0 pl = a := ⟨_, rfl⟩
  have hal : a.data.toList = s.data.toList.take pl := by rw [← ha, ext_list]; rfl
  have hal2 : a.data.toList.length = pl := by rw [hal, List.length_take]; omega
  have haz : a.size = pl := by rw [← hal2]; exact (Array.length_toList).symm
  obtain ⟨f1, f2⟩ := atL_first a.data.toList pl (by omega) a rfl
  rw [List.take_of_length_le (by omega)] at f1 f2
  have hb := atL_pos s.data.toList pl (by omega)
  rw [← hal] at hb ⊢
  obtain ⟨⟨ln, by'⟩, hat⟩ : ∃ x, atL a.data.toList = x := ⟨_, rfl⟩
  rw [hat] at f1 f2 hb ⊢
  simp only at f1 f2 hb
  have hx1 := fun W => Try.strings_Count_one a 10 W
  have hx2 := fun W => Try.strings_LastIndexByte a 10 (by omega) W
  obtain ⟨cnt, hcnt⟩ : ∃ cnt, Lib.countByte a.data.toList 10 = cnt := ⟨_, rfl⟩
  obtain ⟨lz, hlz⟩ : ∃ lz, Lib.lastIndexByte a 10 = lz := ⟨_, rfl⟩
  have hlz2 : Lib.lastIdx a 10 pl = lz := by rw [← hlz, Lib.lastIndexByte, haz]
  rw [hcnt] at f1
  rw [hlz2] at f2
  have hx1 : ∀ W, Calls Try.prog 21 #[.string a, .string ⟨#[10]⟩] W fun e w' => e = .returned (.int .i64 (cnt : Nat)) ∧ w' = W := fun W => by have := hx1 W; rw [hcnt] at this; exact this
  have hx2 : ∀ W, Calls Try.prog 22 #[.string a, .int .u8 10] W fun e w' => e = .returned (.int .i64 lz) ∧ w' = W := fun W => by have := hx2 W; rw [hlz] at this; exact this
  have H1 := Lib.hid hx1; have H2 := Lib.hid hx2
  have F1 := Lib.hid f1; have F2 := Lib.hid f2
  rw [hn] at hs hp
  have d1 : decide ((pl : Int) < 0) = false := decide_eq_false (by omega)
  have d2 : decide ((n : Int) < pl) = false := decide_eq_false (by omega)
  have d2' : decide (n < pl) = false := decide_eq_false (by omega)
  have hw1 : IntKind.i64.wrap (1 + (cnt : Int)) = 1 + (cnt : Int) := IntWalk.i64_in _ (by omega)
  have hw2 : IntKind.i64.wrap ((pl : Int) - lz) = (pl : Int) - lz := IntWalk.i64_in _ (by omega)
  have hga := World.grownBy_alloc w (.cells #[.int .i64 0, .int .i64 0] 23) none
  have HB := Lib.hid (heap_alloc_new w (.cells #[.int .i64 0, .int .i64 0] 23))
  have HG := Lib.hid hga
  clear hx1 hx2 f1 f2 hal hal2 haz hat hcnt hlz hlz2 hL hga hb
  go_enter Try.func9, Try.ntmps9
  go_wp2_with fail
  refine (H1.out _).mono ?_
  rintro e w' ⟨rfl, rfl⟩
  go_wp2_with fail
  refine (H2.out _).mono ?_
  rintro e w' ⟨rfl, rfl⟩
  go_wp2_with fail
  obtain ⟨k2, k3, -⟩ := cells2 (heap_alloc_new w (.cells #[.int .i64 (1 + (cnt : Int)), .int .i64 ((pl : Int) - lz)] 23))
  exact bodyPost_ret (v := .tuple #[.agg #[.int .i64 (1 + (cnt : Int)), .int .i64 ((pl : Int) - lz)], .int .i64 0]) (by simp [results, Try.results9, go_sem, k2, k3]) rfl ⟨by rw [← F2.out, F1.out]; simp, World.grownBy_alloc _ _ _⟩

set_option maxRecDepth 100000 in
set_option maxHeartbeats 4000000 in
theorem at_bad (s : ByteArray) (pl : Int) (w : World) (hs : s.size ≤ 300) (hp : pl < 0 ∨ (s.size : Int) < pl) :
    Calls Try.prog 9 #[.string s, .int .i64 pl] w (AtBad w) := by
  obtain ⟨n, hn⟩ : ∃ n, s.size = n := ⟨_, rfl⟩
  rw [hn] at hs hp
  have HB := Lib.hid (heap_alloc_new w (.cells #[.int .i64 0, .int .i64 0] 23))
  have HG := Lib.hid (World.grownBy_alloc w (.cells #[.int .i64 0, .int .i64 0] 23) none)
  obtain ⟨k2, k3, -⟩ := cells2 HB.out
  have K2 := Lib.hid k2; have K3 := Lib.hid k3
  clear k2 k3
  by_cases h1 : pl < 0
  · have d1 : decide (pl < 0) = true := decide_eq_true h1
    clear hp
    go_enter Try.func9, Try.ntmps9
    go_wp2_with fail
    exact bodyPost_ret (v := .tuple #[.agg #[.int .i64 0, .int .i64 0], .int .i64 12]) (by simp [results, Try.results9, go_sem, K2.out, K3.out]) rfl ⟨rfl, World.grownBy_alloc _ _ _⟩
  · have d1 : decide (pl < 0) = false := decide_eq_false h1
    have d2 : decide ((n : Int) < pl) = true := decide_eq_true (by omega)
    clear hp
    go_enter Try.func9, Try.ntmps9
    go_wp2_with fail
    exact bodyPost_ret (v := .tuple #[.agg #[.int .i64 0, .int .i64 0], .int .i64 12]) (by simp [results, Try.results9, go_sem, K2.out, K3.out]) rfl ⟨rfl, World.grownBy_alloc _ _ _⟩

set_option maxRecDepth 100000 in
set_option maxHeartbeats 4000000 in
theorem RAt_c (s : ByteArray) (pl : Nat) (w : World) (hs : s.size ≤ 300) (hp : pl ≤ s.size) :
    Calls Try.prog 10 #[.string s, .int .i64 (pl : Int)] w (fun e w' => e = .returned (.tuple #[.int .i64 ((atL (s.data.toList.take pl)).1 : Nat), .int .i64 ((atL (s.data.toList.take pl)).2 : Nat)]) ∧ w' = w) := by
  obtain ⟨n, hn⟩ : ∃ n, s.size = n := ⟨_, rfl⟩
  have HN := Lib.hid hn
  rw [hn] at hs hp
  go_enter Try.func10, Try.ntmps10
  go_wp2_with fail
  go_loopw [6, 7, 8] (fun lv bv iv wr => ∃ (i l b : Nat), i ≤ pl ∧ l ≤ i + 1 ∧ b ≤ i + 1 ∧ iv = .int .i64 i ∧ lv = .int .i64 l ∧ bv = .int .i64 b ∧ Hid (atL (s.data.toList.take i) = (l, b)) ∧ wr = w) (fun _ _ i _ => pl - (intOf i).toNat)
  case atStart => exact ⟨0, 1, 1, by omega, by omega, by omega, rfl, rfl, rfl, Lib.hid rfl, rfl⟩
  case round =>
    obtain ⟨i, l, b, hi, hl, hb, rfl, rfl, rfl, HA, rfl⟩ := hrel
    have hL : s.data.toList.length = n := by rw [← HN.out]; exact Array.length_toList
    by_cases hlt : i < pl
    · have d1 : decide ((i : Int) < pl) = true := decide_eq_true (by omega)
      have d1' : decide (i < pl) = true := decide_eq_true hlt
      obtain ⟨x, hx⟩ : ∃ x, s.data.toList[i]? = some x := ⟨s.data.toList[i]'(by omega), List.getElem?_eq_getElem _⟩
      obtain ⟨c, hc⟩ : ∃ c : Nat, x.toNat = c := ⟨_, rfl⟩
      have hix := sidx_run s i c (by omega) (by rw [← hc]; exact congrArg UInt8.toNat (List.getElem?_eq_some_iff.1 hx).2)
      by_cases h10 : c = 10
      · subst h10
        have HA2 : Hid (atL (s.data.toList.take (i + 1)) = (l + 1, 1)) := Lib.hid (by
          rw [take_snoc hx, atL_snoc, HA.out, atStep, if_pos ((ten_iff x).2 hc)])
        clear hx hc hL
        go_wp2_with fail
        go_roundw
        case rel => exact ⟨i + 1, l + 1, 1, by omega, by omega, by omega, by first | rfl | go_num, by first | rfl | go_num, by first | rfl | go_num, HA2, by first | rfl | trivial⟩
        case measure => (simp [intOf] <;> omega)
      · have hbe : ((c : Int) == 10) = false := by simp; omega
        have HA2 : Hid (atL (s.data.toList.take (i + 1)) = (l, b + 1)) := Lib.hid (by
          rw [take_snoc hx, atL_snoc, HA.out, atStep, if_neg (fun e => h10 (by rw [← hc]; exact (ten_iff x).1 e))])
        clear hx hc hL
        go_wp2_with fail
        go_roundw
        case rel => exact ⟨i + 1, l, b + 1, by omega, by omega, by omega, by first | rfl | go_num, by first | rfl | go_num, by first | rfl | go_num, HA2, by first | rfl | trivial⟩
        case measure => (simp [intOf] <;> omega)
    · obtain rfl : i = pl := by omega
      have d1 : decide ((i : Int) < i) = false := decide_eq_false (by omega)
      have d1' : decide (i < i) = false := decide_eq_false hlt
      clear hL
      go_wp2_with fail
      go_ret2
      exact ⟨by rw [HA.out]; rfl, rfl⟩
end Go.Proofs.Ytgffaldoieakaaa
