/- Sets of texts asked: BinarySearch, Has. -/
import Derived.Test.YtceehihdihemmaaSSet1
import Derived.Test.YtceehihdihemmaaBSet5
import Derived.Sort.Walk0
import Derived.Lib.Strings
import Derived.Deep.LoopGhost
namespace Go.Proofs.Ytceehihdihemmaa
open Go.RowKit Go.Sort

set_option maxRecDepth 100000 in
theorem nan1_c (s : ByteArray) (w : World) : Calls Try.prog 103 #[.string s] w fun e w' => e = .returned (.bool false) ∧ w' = w := by
  go_enter Try.func103, Try.ntmps103
  go_wp2_with fail
  go_ret
  exact ⟨by simp, rfl⟩

set_option maxRecDepth 100000 in
theorem nan2_c (s : ByteArray) (w : World) : Calls Try.prog 77 #[.string s] w fun e w' => e = .returned (.bool false) ∧ w' = w := by
  go_enter Try.func77, Try.ntmps77
  go_wp2_with fail
  go_ret
  exact ⟨by simp, rfl⟩

theorem bless (a b : ByteArray) : Op.bytesLess a.toList b.toList = decide (a.data.toList < b.data.toList) := by
  rw [bytesLess_eq, Lib.toList_data, Lib.toList_data]

set_option maxRecDepth 100000 in
theorem less_c (a b : ByteArray) (w : World) : Calls Try.prog 76 #[.string a, .string b] w fun e w' => e = .returned (.bool (decide (a.data.toList < b.data.toList))) ∧ w' = w := by
  have HB := Lib.hid (bless a b)
  go_enter Try.func76, Try.ntmps76
  go_wp2_with fail
  refine (nan1_c a _).mono ?_
  rintro e w2 ⟨rfl, rfl⟩
  go_wp2_with fail
  go_ret
  exact ⟨by rw [← HB.out]; rfl, rfl⟩

theorem ba_ext {a b : ByteArray} (h : a.data.toList = b.data.toList) : a = b := by
  cases a; cases b; congr 1; exact Array.toList_inj.1 h

theorem ascS_get {l : List (List UInt8)} (h : AscS l) {i j : Nat} (hij : i < j) (hj : j < l.length) : l.getD i [] < l.getD j [] := by
  have := List.pairwise_iff_getElem.1 h i j (by omega) hj hij
  simpa [List.getD, hj, show i < l.length by omega] using this

theorem mem_getD {l : List (List UInt8)} {x : List UInt8} : x ∈ l ↔ ∃ j, j < l.length ∧ l.getD j [] = x := by
  rw [List.mem_iff_getElem]
  constructor
  · rintro ⟨j, hj, e⟩; exact ⟨j, hj, by simp [List.getD, hj, e]⟩
  · rintro ⟨j, hj, e⟩; exact ⟨j, hj, by simpa [List.getD, hj] using e⟩

set_option maxRecDepth 100000 in
set_option maxHeartbeats 4000000 in
theorem SearchS_c (p : Option Addr) (c : Nat) (S : List (List UInt8)) (x : ByteArray) (w : World) (hl : S.length ≤ 1000000) (ha : AscS S) (h : SAt w p S) :
    Calls Try.prog 57 #[.slice p S.length c, .string x] w fun e w' => (∃ i : Int, e = .returned (.tuple #[.int .i64 i, .bool (decide (x.data.toList ∈ S))])) ∧ w.grownBy w' none := by
  obtain ⟨n, hn⟩ : ∃ n, S.length = n := ⟨_, rfl⟩
  have HN := Lib.hid hn; have HA := Lib.hid ha; have HS := Lib.hid h
  rw [hn] at hl ⊢
  clear hn ha h
  go_enter Try.func57, Try.ntmps57
  go_wp2_with fail
  go_loopg [7, 8] n (fun g s7 s8 wr => ∃ lo hi : Nat, s7 = .int .i64 lo ∧ s8 = .int .i64 hi ∧ lo ≤ hi ∧ hi ≤ n ∧ hi - lo ≤ g ∧ Hid (w.grownBy wr none) ∧ Hid (∀ t, t < lo → S.getD t [] < x.data.toList) ∧ Hid (∀ t, hi ≤ t → t < n → x.data.toList ≤ S.getD t []))
  case atStart => exact ⟨0, n, rfl, rfl, Nat.zero_le _, Nat.le_refl _, by omega, gb_refl _ _, Lib.hid (fun t ht => absurd ht (Nat.not_lt_zero _)), Lib.hid (fun t h1 h2 => by omega)⟩
  case round =>
    obtain ⟨lo, hi, rfl, rfl, hlh, hin, hg, HG, H1, H2⟩ := hrel
    by_cases hlt : lo < hi
    · have hne : S ≠ [] := fun e => by have := HN.out; rw [e] at this; simp at this; omega
      obtain ⟨gg, off, rfl, hgl, hc⟩ := HS.out.resolve_left hne
      have cm0 := HG.out.cell (hc ((lo + hi) / 2) (by have := HN.out; omega)) (by simp)
      obtain ⟨y, hy⟩ : ∃ y : ByteArray, (⟨(S.getD ((lo + hi) / 2) []).toArray⟩ : ByteArray) = y := ⟨_, rfl⟩
      have cm : wr.cell? ⟨gg, off + (lo + hi) / 2, none⟩ = some (.string y) := by rw [← hy]; exact cm0
      clear cm0
      have HY : Hid (S.getD ((lo + hi) / 2) [] = y.data.toList) := Lib.hid (by rw [← hy])
      have HL := Lib.hid (less_c y x wr)
      clear hc hne hy hgl
      by_cases hyx : y.data.toList < x.data.toList
      · rw [decide_eq_true hyx] at HL
        have HYX := Lib.hid hyx
        clear hyx
        go_wp2_with (go_at_call 76; refine HL.out.mono ?_; rintro e w' ⟨rfl, rfl⟩)
        go_roundg (hi - ((lo + hi) / 2 + 1))
        case measure => omega
        case rel =>
          refine ⟨(lo + hi) / 2 + 1, hi, by rw [show ((lo : Int) + (hi : Int)) / 2 + 1 = (((lo + hi) / 2 + 1 : Nat) : Int) by omega], rfl, by omega, hin, Nat.le_refl _, HG, Lib.hid (fun t ht => ?_), H2⟩
          rcases Nat.eq_or_lt_of_le (show t ≤ (lo + hi) / 2 by omega) with e | e
          · subst e; rw [HY.out]; exact HYX.out
          · exact List.lt_trans (ascS_get HA.out e (by have := HN.out; omega)) (by rw [HY.out]; exact HYX.out)
      · rw [decide_eq_false hyx] at HL
        have HYX := Lib.hid hyx
        clear hyx
        go_wp2_with (go_at_call 76; refine HL.out.mono ?_; rintro e w' ⟨rfl, rfl⟩)
        go_roundg ((lo + hi) / 2 - lo)
        case measure => omega
        case rel =>
          refine ⟨lo, (lo + hi) / 2, rfl, by rw [show ((lo : Int) + (hi : Int)) / 2 = (((lo + hi) / 2 : Nat) : Int) by omega], by omega, by omega, Nat.le_refl _, HG, H1, Lib.hid (fun t ht htn => ?_)⟩
          have hle : x.data.toList ≤ y.data.toList := HYX.out
          rcases Nat.eq_or_lt_of_le ht with e | e
          · subst e; rw [HY.out]; exact hle
          · exact List.le_of_lt (show x.data.toList < S.getD t [] from bl_of (List.le_trans hle (by rw [← HY.out]; exact List.le_of_lt (ascS_get HA.out e (by have := HN.out; omega)))) fun e2 => absurd (show S.getD ((lo + hi) / 2) [] < S.getD t [] from ascS_get HA.out e (by have := HN.out; omega)) (by rw [HY.out, ← e2]; exact hle))
    · obtain rfl : hi = lo := by omega
      by_cases hn : hi < n
      · have hne : S ≠ [] := fun e => by have := HN.out; rw [e] at this; simp at this; omega
        obtain ⟨gg, off, rfl, hgl, hc⟩ := HS.out.resolve_left hne
        have cm0 := HG.out.cell (hc hi (by have := HN.out; omega)) (by simp)
        obtain ⟨y, hy⟩ : ∃ y : ByteArray, (⟨(S.getD hi []).toArray⟩ : ByteArray) = y := ⟨_, rfl⟩
        have cm : wr.cell? ⟨gg, off + hi, none⟩ = some (.string y) := by rw [← hy]; exact cm0
        clear cm0
        have HY : Hid (S.getD hi [] = y.data.toList) := Lib.hid (by rw [← hy])
        clear hc hne hy hgl
        by_cases hyx : y = x
        · subst hyx
          have HM : Hid (decide (y.data.toList ∈ S) = true) := Lib.hid (decide_eq_true (mem_getD.2 ⟨hi, by have := HN.out; omega, HY.out⟩))
          go_wp2_with fail
          go_ret2
          exact ⟨⟨hi, by rw [HM.out]; simp⟩, HG.out⟩
        · have d1 : (y.toList == x.toList) = false := beq_eq_false_iff_ne.2 fun e => hyx (ba_ext (by rwa [Lib.toList_data, Lib.toList_data] at e))
          have HM : Hid (decide (x.data.toList ∈ S) = false) := Lib.hid (decide_eq_false fun hmem => by
            obtain ⟨j, hj, e⟩ := mem_getD.1 hmem
            rcases Nat.lt_trichotomy j hi with h1 | h1 | h1
            · have := H1.out j h1; rw [e] at this; exact List.lt_irrefl _ this
            · subst h1; rw [HY.out] at e; exact hyx (ba_ext e)
            · have h3 := H2.out hi (Nat.le_refl _) hn
              have h4 := ascS_get HA.out h1 hj
              rw [e] at h4
              exact h3 h4)
          have HNN := Lib.hid (nan2_c y wr)
          go_wp2_with (go_at_call 77; refine HNN.out.mono ?_; rintro e w' ⟨rfl, rfl⟩)
          go_ret2
          exact ⟨⟨hi, by rw [HM.out]; rfl⟩, HG.out⟩
      · have HM : Hid (decide (x.data.toList ∈ S) = false) := Lib.hid (decide_eq_false fun hmem => by
          obtain ⟨j, hj, e⟩ := mem_getD.1 hmem
          have := H1.out j (by have := HN.out; omega); rw [e] at this; exact List.lt_irrefl _ this)
        go_wp2_with fail
        go_ret2
        exact ⟨⟨hi, by rw [HM.out]; rfl⟩, HG.out⟩

set_option maxRecDepth 100000 in
theorem HasS_c (p : Option Addr) (c : Nat) (S : List (List UInt8)) (x : ByteArray) (w : World) (hl : S.length ≤ 1000000) (ha : AscS S) (h : SAt w p S) : Calls Try.prog 24 #[.agg #[.slice p S.length c], .string x] w fun e w' => e = .returned (.bool (decide (x.data.toList ∈ S))) ∧ w.grownBy w' none := by
  have hcl := box1c w (.slice p S.length c) 39
  have hga := World.grownBy_alloc w (.cells #[.slice p S.length c] 39) none
  have HGA := Lib.hid hga
  have HC := Lib.hid (SearchS_c p c S x _ hl ha (h.kept hga))
  clear h hga
  generalize S.length = n at *
  generalize decide (x.data.toList ∈ S) = b at *
  go_enter Try.func24, Try.ntmps24
  go_wp2_with (go_at_call 57; refine HC.out.mono ?_; rintro e w2 ⟨⟨i, rfl⟩, hg⟩; have HG2 := Lib.hid hg; clear hg)
  go_ret
  exact ⟨rfl, gb_trans HGA.out HG2.out⟩
end Go.Proofs.Ytceehihdihemmaa
