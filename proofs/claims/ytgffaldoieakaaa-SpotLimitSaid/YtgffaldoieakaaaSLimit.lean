/- The law on the limit, walked. -/
import Derived.Test.YtgffaldoieakaaaSAnc
import Derived.Laws.IdiomStrings
import Derived.Laws.BytesString
namespace Go.Proofs.Ytgffaldoieakaaa
open Go.RowKit

def zs (n : Nat) : ByteArray := ⟨(List.replicate n 0).toArray⟩

theorem zs_size (n : Nat) : (zs n).size = n := by simp [zs, ByteArray.size]

theorem made_zero {W : World} {g n : Nat} (h : W.heap[g]? = some (.cells (madeCells #[.int .u8 0] n) 5 (0, 0))) : (convert 60 9 (.slice (some ⟨g, 0, none⟩) n n)).run Try.prog W = .ok (.string (zs n)) W := by
  have := run_convert_bytes_back (P := Try.prog) W 60 9 5 ⟨g, 0, none⟩ n (List.replicate n 0) Try.underlying60 Try.underlying5 Try.underlying9 (fun j hj => by
    rw [Addr.add_lit, Nat.zero_add, cell_of_row W g j _ _ (0, 0) h, ← Array.getElem?_toList, toList_madeCells_one]
    simp at hj
    simp [hj])
  rw [List.length_replicate] at this
  exact this

theorem putL_one (n : Nat) (t : ByteArray) : (putL (zs n).data.toList [((n : Int), t)]).length = n + t.size := by
  have h : putL (zs n).data.toList [((n : Int), t)] = ([] ++ ((zs n).data.toList.take n).drop 0 ++ t.data.toList) ++ (zs n).data.toList.drop n := rfl
  have h2 : (zs n).data.toList.length = n := zs_size n
  have h3 : t.data.toList.length = t.size := Array.length_toList
  rw [h, List.length_append, List.length_append, List.length_append, List.length_drop, List.length_drop, List.length_take]
  simp only [List.length_nil]
  omega

theorem right_one (n m : Nat) (hm : 1 ≤ m) : rightB n [((n : Int), zs m)] = decide (n + m ≤ 65536) := by
  unfold rightB
  by_cases h : 65536 < n
  · rw [if_pos h, decide_eq_false (by omega)]
  · rw [if_neg h]
    unfold rightE
    simp only [zs_size]
    by_cases h2 : n + m ≤ 65536
    · rw [if_neg (by omega), decide_eq_true h2]; rfl
    · rw [if_pos (by omega), decide_eq_false h2]

set_option maxRecDepth 100000 in
set_option maxHeartbeats 8000000 in
theorem limit_yes (n m : Nat) (hn : n ≤ 70000) (hm : 1 ≤ m) (hm7 : m ≤ 70000) (w : World) : Calls Try.prog 7 #[.int .i64 n, .int .i64 m] w (ValPost (.bool true) w) := by
  have d1 : decide ((n : Int) < 0) = false := decide_eq_false (by omega)
  have d2 : decide ((70000 : Int) < n) = false := decide_eq_false (by omega)
  have d3 : decide ((m : Int) < 1) = false := decide_eq_false (by omega)
  have d4 : decide ((70000 : Int) < m) = false := decide_eq_false (by omega)
  have hw : IntKind.i64.wrap ((65536 : Int) - m) = 65536 - m := IntWalk.i64_in _ (by omega)
  have hw2 : IntKind.i64.wrap ((n : Int) + m) = (n : Int) + m := IntWalk.i64_in _ (by omega)
  go_enter Try.func7, Try.ntmps7
  go_wp2_with fail
  refine (anchor_c _).mono ?_
  rintro e w0 ⟨rfl, hg0⟩
  have HG0 := Lib.hid hg0
  clear hg0
  go_wp2_with fail
  have hk1 : ∀ W, (Instr.makeSlice 60 (.int .i64 (n : Int)) (.int .i64 (n : Int))).run Try.prog W = .ok (.slice (some ⟨W.heap.size, 0, none⟩) n n) (W.alloc (.cells (madeCells #[.int .u8 0] n) 5)) := fun W => run_make_row' 60 5 (.int .u8 0) 1 Try.underlying60 infoU rfl .i64 .i64 n (by omega) (by omega) W
  have hk2 : ∀ W, (Instr.makeSlice 60 (.int .i64 (m : Int)) (.int .i64 (m : Int))).run Try.prog W = .ok (.slice (some ⟨W.heap.size, 0, none⟩) m m) (W.alloc (.cells (madeCells #[.int .u8 0] m) 5)) := fun W => run_make_row' 60 5 (.int .u8 0) 1 Try.underlying60 infoU rfl .i64 .i64 m (by omega) (by omega) W
  generalize hA : Obj.cells (madeCells #[.int .u8 0] n) 5 = A at hk1
  generalize hB : Obj.cells (madeCells #[.int .u8 0] m) 5 = B at hk2
  have two : ∀ (O1 O2 : Obj), ((w0.alloc O1).alloc O2).heap[w0.heap.size]? = some O1 ∧ ((w0.alloc O1).alloc O2).heap[w0.heap.size + 1]? = some O2 := fun O1 O2 => by
    refine ⟨bx (World.grownBy_alloc (w0.alloc O1) O2 none) (heap_alloc_new w0 O1), ?_⟩
    have := heap_alloc_new (w0.alloc O1) O2
    simpa only [World.size_alloc] using this
  have c1 : (convert 60 9 (.slice (some ⟨w0.heap.size, 0, none⟩) n n)).run Try.prog (w0.alloc A).drew = .ok (.string (zs n)) (w0.alloc A).drew := made_zero (W := (w0.alloc A).drew) (by rw [← hA]; exact heap_alloc_new w0 _)
  have c2 : (convert 60 9 (.slice (some ⟨w0.heap.size, 0, none⟩) n n)).run Try.prog ((w0.alloc A).alloc B).drew = .ok (.string (zs n)) ((w0.alloc A).alloc B).drew := made_zero (W := ((w0.alloc A).alloc B).drew) (by rw [← hA]; exact (two _ _).1)
  have c3 : (convert 60 9 (.slice (some ⟨w0.heap.size + 1, 0, none⟩) m m)).run Try.prog ((w0.alloc A).alloc B).drew = .ok (.string (zs m)) ((w0.alloc A).alloc B).drew := made_zero (W := ((w0.alloc A).alloc B).drew) (by rw [← hB]; exact (two _ _).2)
  have c4 : (convert 60 9 (.slice (some ⟨w0.heap.size, 0, none⟩) m m)).run Try.prog (w0.alloc B).drew = .ok (.string (zs m)) (w0.alloc B).drew := made_zero (W := (w0.alloc B).drew) (by rw [← hB]; exact heap_alloc_new w0 _)
  have c5 : (convert 60 9 (.slice (some ⟨w0.heap.size, 0, none⟩) m m)).run Try.prog ((w0.alloc B).alloc A).drew = .ok (.string (zs m)) ((w0.alloc B).alloc A).drew := made_zero (W := ((w0.alloc B).alloc A).drew) (by rw [← hB]; exact (two _ _).1)
  have c6 : (convert 60 9 (.slice (some ⟨w0.heap.size + 1, 0, none⟩) n n)).run Try.prog ((w0.alloc B).alloc A).drew = .ok (.string (zs n)) ((w0.alloc B).alloc A).drew := made_zero (W := ((w0.alloc B).alloc A).drew) (by rw [← hA]; exact (two _ _).2)
  clear hA hB two d1 d2 d3 d4
  have HP : ∀ O1 O2 : Obj, Hid (Calls Try.prog 15 #[.string (zs n), .slice (some ⟨w0.heap.size + 1 + 1, 0, none⟩) 1 1] (((w0.alloc O1).alloc O2).alloc (.cells #[.int .i64 (n : Int), .string (zs m)] 56)).drew (fun e w' => w.grownBy w' none ∧ if n + m ≤ 65536 then ∃ t : ByteArray, ∃ v, e = .returned (.tuple #[.string t, v, .int .i64 0]) ∧ t.size = n + m else e = .returned (.tuple #[.string ⟨#[]⟩, .slice none 0 0, .int .i64 10]))) := fun O1 O2 => Lib.hid (by
    have hg : w.grownBy (((w0.alloc O1).alloc O2).alloc (.cells #[.int .i64 (n : Int), .string (zs m)] 56)).drew none := gb_drew (gb_trans HG0.out (gb_trans (World.grownBy_alloc w0 _ none) (gb_trans (World.grownBy_alloc _ _ none) (World.grownBy_alloc _ _ none))))
    have hbx : (((w0.alloc O1).alloc O2).alloc (.cells #[.int .i64 (n : Int), .string (zs m)] 56)).drew.heap[w0.heap.size + 1 + 1]? = some (.cells #[.int .i64 (n : Int), .string (zs m)] 56 (0, 0)) := by
      have := heap_alloc_new ((w0.alloc O1).alloc O2) (.cells #[.int .i64 (n : Int), .string (zs m)] 56)
      simp only [World.size_alloc] at this
      exact this
    refine (Put_c (zs n) (some ⟨w0.heap.size + 1 + 1, 0, none⟩) 1 [((n : Int), zs m)] _ (by rw [zs_size]; omega) (by simp) (.inr ⟨_, 0, rfl, hlt hbx, fun j q hj => ?_⟩)).mono ?_
    · match j, hj with
      | 0, hj => simp [edV] at hj; subst hj; exact ⟨by rw [cell_of_row _ _ _ _ _ (0, 0) hbx]; rfl, by rw [cell_of_row _ _ _ _ _ (0, 0) hbx]; rfl⟩
    · rintro e w' ⟨h1, h2⟩
      refine ⟨gb_trans hg h1, ?_⟩
      rw [zs_size, right_one n m hm] at h2
      by_cases h3 : n + m ≤ 65536
      · rw [if_pos h3]
        rw [decide_eq_true h3, if_pos rfl] at h2
        obtain ⟨q, c, rfl, -⟩ := h2
        refine ⟨_, _, rfl, ?_⟩
        have := putL_one n (zs m)
        rw [zs_size] at this
        simpa [ByteArray.size] using this
      · rw [if_neg h3]
        rw [decide_eq_false h3, if_neg (by simp)] at h2
        exact h2)
  have HP1 := HP A B
  have HP2 := HP B A
  clear HP
  go_region
  all_goals
    clear c1 c2 c3 c4 c5 c6 hk1 hk2
    go_wp2_with fail
    refine (by first | exact HP1.out | exact HP2.out : Calls Try.prog 15 _ _ _).mono ?_
    rintro e w9 ⟨hg9, h9⟩
    have HG9 := Lib.hid hg9
    clear hg9 HP1 HP2
    by_cases h3 : n + m ≤ 65536
    · rw [if_pos h3] at h9
      obtain ⟨t, v, rfl, ht⟩ := h9
      have d5 : decide ((65536 : Int) - m < n) = false := decide_eq_false (by omega)
      have ht2 : ((t.size : Int) == (n : Int) + m) = true := by rw [ht]; simp
      have HTS := Lib.hid ht
      clear ht
      go_wp2_with fail
      go_ret
      exact ⟨rfl, HG9.out⟩
    · rw [if_neg h3] at h9
      subst h9
      have d5 : decide ((65536 : Int) - m < n) = true := decide_eq_true (by omega)
      go_wp2_with fail
      go_ret
      exact ⟨rfl, HG9.out⟩

set_option maxRecDepth 100000 in
set_option maxHeartbeats 2000000 in
theorem limit_c (n m : Int) (w : World) : Calls Try.prog 7 #[.int .i64 n, .int .i64 m] w (ValPost (.bool true) w) := by
  by_cases h1 : n < 0
  · have d1 : decide (n < 0) = true := decide_eq_true h1
    go_enter Try.func7, Try.ntmps7
    go_wp2_with fail
    refine (anchor_c _).mono ?_
    rintro e w0 ⟨rfl, hg0⟩
    have HG0 := Lib.hid hg0
    clear hg0
    go_wp2_with fail
    go_ret
    exact ⟨rfl, HG0.out⟩
  have d1 : decide (n < 0) = false := decide_eq_false h1
  by_cases h2 : 70000 < n
  · have d2 : decide (70000 < n) = true := decide_eq_true h2
    go_enter Try.func7, Try.ntmps7
    go_wp2_with fail
    refine (anchor_c _).mono ?_
    rintro e w0 ⟨rfl, hg0⟩
    have HG0 := Lib.hid hg0
    clear hg0
    go_wp2_with fail
    go_ret
    exact ⟨rfl, HG0.out⟩
  have d2 : decide (70000 < n) = false := decide_eq_false h2
  by_cases h3 : m < 1
  · have d3 : decide (m < 1) = true := decide_eq_true h3
    go_enter Try.func7, Try.ntmps7
    go_wp2_with fail
    refine (anchor_c _).mono ?_
    rintro e w0 ⟨rfl, hg0⟩
    have HG0 := Lib.hid hg0
    clear hg0
    go_wp2_with fail
    go_ret
    exact ⟨rfl, HG0.out⟩
  have d3 : decide (m < 1) = false := decide_eq_false h3
  by_cases h4 : 70000 < m
  · have d4 : decide (70000 < m) = true := decide_eq_true h4
    go_enter Try.func7, Try.ntmps7
    go_wp2_with fail
    refine (anchor_c _).mono ?_
    rintro e w0 ⟨rfl, hg0⟩
    have HG0 := Lib.hid hg0
    clear hg0
    go_wp2_with fail
    go_ret
    exact ⟨rfl, HG0.out⟩
  have ea : ((n.toNat : Nat) : Int) = n := Int.toNat_of_nonneg (by omega)
  have eb : ((m.toNat : Nat) : Int) = m := Int.toNat_of_nonneg (by omega)
  rw [← ea, ← eb]
  exact limit_yes n.toNat m.toNat (by omega) (by omega) (by omega) w
end Go.Proofs.Ytgffaldoieakaaa
