/- Are edits right? -/
import Derived.Test.YtgffaldoieakaaaSBuild
import Derived.Test.YtgffaldoieakaaaSMath
namespace Go.Proofs.Ytgffaldoieakaaa
open Go.RowKit

def edV (e : Ed) : Value × Value := (.int .i64 e.1, .string e.2)

def BoolPost (b : Bool) (w : World) (e : Ending) (w' : World) : Prop := e = .returned (.bool b) ∧ w.grownBy w' none

theorem drop_one {α : Type} {l : List α} {k : Nat} {e : α} (h : l[k]? = some e) : l.drop k = e :: l.drop (k + 1) := by
  obtain ⟨hk, rfl⟩ := List.getElem?_eq_some_iff.1 h
  exact List.drop_eq_getElem_cons hk

theorem cells2 {w : World} {r : Nat} {u v : Value} {T : TypeId} (h : w.heap[r]? = some (.cells #[u, v] T (0, 0))) : w.cell? ⟨r, 0, none⟩ = some u ∧ w.cell? ⟨r, 1, none⟩ = some v ∧ ∀ o, w.frozen? ⟨r, o, none⟩ = false :=
  ⟨by rw [cell_of_row w r 0 _ T (0, 0) h]; rfl, by rw [cell_of_row w r 1 _ T (0, 0) h]; rfl, fun o => by simp [World.frozen?, h]⟩

theorem empty_iff (t : ByteArray) : t.toList.isEmpty = decide (t.size = 0) := by
  rw [ByteArray.toList_eq]
  have : t.data.toList.length = t.size := Array.length_toList
  cases h : t.data.toList with
  | nil => rw [h] at this; simp at this; simp [← this]
  | cons a l => rw [h] at this; simp at this; simp [← this]

set_option maxRecDepth 100000 in
set_option maxHeartbeats 4000000 in
theorem rightEdits_c (s : ByteArray) (p : Option Addr) (c : Nat) (l : List Ed) (w : World) (hs : s.size < 9223372036854775808) (hl : l.length ≤ 1000000000) (h : QAt w p (l.map edV)) :
    Calls Try.prog 26 #[.string s, .slice p l.length c] w (BoolPost (rightB s.size l) w) := by
  obtain ⟨n, hsz⟩ : ∃ n, s.size = n := ⟨_, rfl⟩
  obtain ⟨m, hm⟩ : ∃ m, l.length = m := ⟨_, rfl⟩
  have HM := Lib.hid hm; have HA := Lib.hid h
  rw [hsz] at hs ⊢
  rw [hm] at hl ⊢
  clear hm h
  by_cases hbig : 65536 < n
  · have d1 : decide ((65536 : Int) - n < 0) = true := decide_eq_true (by omega)
    have hw : IntKind.i64.wrap ((65536 : Int) - n) = 65536 - n := IntWalk.i64_in _ (by omega)
    have hb : rightB n l = false := by unfold rightB; rw [if_pos hbig]
    have HB := Lib.hid hb
    clear hb
    go_enter Try.func26, Try.ntmps26
    go_wp2_with fail
    go_ret
    exact ⟨by rw [HB.out]; rfl, gb_refl _ _⟩
  have d1 : decide ((65536 : Int) - n < 0) = false := decide_eq_false (by omega)
  have hw : IntKind.i64.wrap ((65536 : Int) - n) = 65536 - n := IntWalk.i64_in _ (by omega)
  have hb : rightB n l = rightE n 0 (65536 - n) l := by unfold rightB; rw [if_neg hbig]
  rw [hb]
  clear hb
  obtain ⟨res, hres⟩ : ∃ r, rightE n 0 (65536 - n) l = r := ⟨_, rfl⟩
  rw [hres]
  have HRES := Lib.hid hres
  clear hres
  go_enter Try.func26, Try.ntmps26
  go_wp2_with fail
  go_loopw [5, 6, 16] (fun bv av i wr => ∃ (k : Nat) (a b : Int), k ≤ m ∧ i = .int .i64 k ∧ bv = .int .i64 b ∧ av = .int .i64 a ∧ 0 ≤ a ∧ a ≤ n ∧ 0 ≤ b ∧ b ≤ 65536 ∧ Hid (rightE n a b (l.drop k) = res) ∧ Hid (w.grownBy wr none)) (fun _ _ i _ => m - (intOf i).toNat)
  case atStart => exact ⟨0, 0, 65536 - n, by omega, rfl, rfl, rfl, by omega, by omega, by omega, by omega, HRES, gb_refl _ _⟩
  case round =>
    clear HRES
    obtain ⟨k, a, b, hk, rfl, rfl, rfl, ha0, han, hb0, hb1, HR, HG⟩ := hrel
    by_cases hlt : k < m
    · obtain ⟨⟨at', t⟩, he⟩ : ∃ e, l[k]? = some e := ⟨l[k]'(by rw [HM.out]; exact hlt), List.getElem?_eq_getElem _⟩
      obtain ⟨g, off, rfl, hgl, hc⟩ := HA.out.resolve_left (fun h => by have h1 := HM.out; simp at h; rw [h] at h1; simp at h1; omega)
      obtain ⟨c0, c1⟩ := hc k (.int .i64 at', .string t) (by rw [List.getElem?_map, he]; rfl)
      have c0 := HG.out.cell c0 (by simp)
      have c1 := HG.out.cell c1 (by simp)
      have hr := HR.out
      rw [drop_one he] at hr
      unfold rightE at hr
      obtain ⟨z, htz⟩ : ∃ z, t.size = z := ⟨_, rfl⟩
      simp only [htz] at hr
      have hem := empty_iff t
      rw [htz] at hem
      have HBX := Lib.hid (heap_alloc_new wr (.cells #[.int .i64 at', .string t] 56))
      obtain ⟨b0, b1, b2⟩ := cells2 HBX.out
      have HG2 := Lib.hid (gb_alloc HG.out (.cells #[.int .i64 at', .string t] 56))
      clear he hc hgl b2
      by_cases t1 : at' < a
      · rw [if_pos (.inl t1)] at hr
        have d2 : decide (at' < a) = true := decide_eq_true t1
        have HF := Lib.hid hr
        clear hr
        go_wp2_with fail
        go_ret
        exact ⟨by rw [← HF.out]; rfl, HG2.out⟩
      have d2 : decide (at' < a) = false := decide_eq_false t1
      by_cases t2 : (n : Int) < at'
      · rw [if_pos (.inr (.inl t2))] at hr
        have d3 : decide ((n : Int) < at') = true := decide_eq_true t2
        have HF := Lib.hid hr
        clear hr
        go_wp2_with fail
        go_ret
        exact ⟨by rw [← HF.out]; rfl, HG2.out⟩
      have d3 : decide ((n : Int) < at') = false := decide_eq_false t2
      by_cases t3 : z = 0
      · rw [if_pos (.inr (.inr (.inl t3)))] at hr
        rw [decide_eq_true t3] at hem
        have HF := Lib.hid hr
        clear hr
        go_wp2_with fail
        go_ret
        exact ⟨by rw [← HF.out]; rfl, HG2.out⟩
      rw [decide_eq_false t3] at hem
      by_cases t4 : b < (z : Int)
      · rw [if_pos (.inr (.inr (.inr t4)))] at hr
        have d4 : decide (b < (z : Int)) = true := decide_eq_true t4
        have HF := Lib.hid hr
        clear hr
        go_wp2_with fail
        go_ret
        exact ⟨by rw [← HF.out]; rfl, HG2.out⟩
      have d4 : decide (b < (z : Int)) = false := decide_eq_false t4
      rw [if_neg (fun h => by omega)] at hr
      have HF := Lib.hid hr
      clear hr
      go_wp2_with fail
      go_roundw
      case rel => exact ⟨k + 1, at', b - z, by omega, by go_num, by first | rfl | go_num, rfl, by omega, by omega, by omega, by omega, HF, HG2⟩
      case measure => simp [intOf]; omega
    · obtain rfl : k = m := by omega
      have hr := HR.out
      rw [List.drop_of_length_le (by rw [HM.out]; exact Nat.le_refl _)] at hr
      unfold rightE at hr
      have HF := Lib.hid hr
      clear hr
      go_wp2_with fail
      go_ret
      exact ⟨by rw [← HF.out]; rfl, HG.out⟩
end Go.Proofs.Ytgffaldoieakaaa
