/- The law on limits, walked. -/
import Derived.Test.YtohdpodnfgdnbaaDoorEMath4
import Derived.Laws.BytesArg
import Derived.Laws.OwnMore
import Derived.Deep.DeepCutAuto
namespace Go.Proofs.YtohdpodnfgdnbaaDoor
open Go.RowKit

theorem app_list (a b : ByteArray) : (a ++ b).data.toList = a.data.toList ++ b.data.toList := by
  rw [ByteArray.data_append, Array.toList_append]

theorem mk_run (m : Nat) (hm : m ≤ 100000) (W : World) : (Instr.makeSlice 39 (.int .i64 (m : Int)) (.int .i64 (m : Int))).run Tryd.prog W = .ok (.slice (some ⟨W.heap.size, 0, none⟩) m m) (W.alloc (.cells (madeCells #[.int .u8 0] m) 5)) := by
  obtain ⟨i0, hi, hi0, hi1, hi2⟩ := info_parts infoU
  have h := run_make (P := Tryd.prog) W 39 5 i0 (.int .u8 0) Tryd.underlying39 hi hi0 .i64 .i64 (m : Int) (m : Int) (by omega) (by omega) (by rw [hi2]; omega) (by omega)
  simpa [hi1, Value.cells] using h

/-- A block of bytes: the first k are b. -/
def RowE (w : World) (g n k : Nat) (b : Nat) : Prop := ∃ cs : Array Value, w.heap[g]? = some (.cells cs 5 (0, 0)) ∧ cs.size = n ∧ ∀ j, j < k → cs[j]? = some (.int .u8 (b : Int))

theorem RowE.kept {w w' : World} {g n k b : Nat} (h : RowE w g n k b) (hg : w.grownBy w' none) : RowE w' g n k b := by
  obtain ⟨cs, h1, h2⟩ := h; exact ⟨cs, bx hg h1, h2⟩
theorem rowE_new {W : World} {n g : Nat} (b : Nat) (hg : g = W.heap.size) : RowE (W.alloc (.cells (madeCells #[.int .u8 0] n) 5)) g n 0 b := by
  subst hg
  exact ⟨_, heap_alloc_new W _, size_madeCells _ _, fun j hj => absurd hj (Nat.not_lt_zero _)⟩
theorem RowE.alloc {w : World} {g n k b : Nat} (h : RowE w g n k b) (o : Obj) : RowE (w.alloc o) g n k b := h.kept (World.grownBy_alloc w o none)
theorem RowE.drew {w : World} {g n k b : Nat} (h : RowE w g n k b) : RowE w.drew g n k b := h.kept (gb_drew (gb_refl w none))
theorem RowE.put {w : World} {g n k b : Nat} {x : Int} (h : RowE w g n k b) (hk : k < n) (hx : x = (b : Int)) : RowE (w.setCell ⟨g, k, none⟩ (.int .u8 x)) g n (k + 1) b := by
  subst hx
  obtain ⟨cs, h1, h2, h3⟩ := h
  refine ⟨_, set_cells h1, by simpa using h2, fun j hj => ?_⟩
  rw [Array.getElem?_setIfInBounds]
  by_cases e : k = j
  · subst e; simp [h2, hk]
  · rw [if_neg e]; exact h3 j (by omega)
theorem RowE.other {w : World} {g n k b g' j : Nat} {u : Value} (h : RowE w g n k b) (hne : g ≠ g') : RowE (w.setCell ⟨g', j, none⟩ u) g n k b := by
  obtain ⟨cs, h1, h2⟩ := h
  exact ⟨cs, by rw [Below.heap_setCell _ _ _ _ (by simpa using hne)]; exact h1, h2⟩
theorem RowE.cell {w : World} {g n k b : Nat} (h : RowE w g n k b) {j : Nat} (hj : j < n) : (∃ v, w.cell? ⟨g, j, none⟩ = some v) ∧ w.frozen? ⟨g, j, none⟩ = false := by
  obtain ⟨cs, h1, h2, -⟩ := h
  refine ⟨⟨cs[j]'(by omega), ?_⟩, by simp [World.frozen?, h1]⟩
  rw [cell_of_row w g j cs _ (0, 0) h1]
  exact Array.getElem?_eq_getElem _
theorem RowE.conv {w : World} {g n b : Nat} (h : RowE w g n n b) : ∃ s : ByteArray, s.data.toList = List.replicate n (UInt8.ofNat b) ∧ (convert 39 9 (.slice (some ⟨g, 0, none⟩) n n)).run Tryd.prog w = .ok (.string s) w := by
  obtain ⟨cs, h1, h2, h3⟩ := h
  refine ⟨_, ?_, run_convert_bytes_arg (P := Tryd.prog) w 39 5 Tryd.underlying39 Tryd.underlying5 g 0 n n (List.replicate n (b : Int)) (by simp) (fun i hi => ?_) 9 Tryd.underlying9⟩
  · simp [strOfNums]
  · rw [Nat.zero_add, cell_of_row w g i cs _ (0, 0) h1, h3 i hi]
    simp [List.getD, hi]

theorem LexPost.flat {l : List UInt8} {w w' : World} {e : Ending} (hl : ¬ 65536 < l.length) (h : LexPost l w e w') : ∃ q k c, e = .returned (.tuple #[.slice q k c, .agg #[.int .i64 ((allE l).2.1 : Nat), .int .i64 ((allE l).2.2 : Nat)]]) := by
  have h1 := h.2
  rw [if_neg hl] at h1
  by_cases h0 : (allE l).2.1 = 0
  · rw [if_neg (by simp [h0])] at h1
    obtain ⟨q, c, he, -⟩ := h1
    refine ⟨q, (allE l).1.length, c, ?_⟩
    rw [he, show (allE l).2.2 = 0 from fault_none _ _ _ h0, h0]; rfl
  · rw [if_pos h0] at h1
    exact ⟨none, 0, 0, h1⟩

def FlatPost (E P : Nat) (w : World) (e : Ending) (w' : World) : Prop := w.grownBy w' none ∧ ∃ q k c, e = .returned (.tuple #[.slice q k c, .agg #[.int .i64 (E : Int), .int .i64 (P : Int)]])

theorem lex_flat (s : ByteArray) (E P : Nat) (w : World) (hs : s.size ≤ 65536) (hla : LaidE w) (h : (allE s.data.toList).2 = (E, P)) : Calls Tryd.prog 8 #[.string s] w (FlatPost E P w) := by
  refine (Lex_c s w (by omega) hla).mono fun e w' hp => ⟨hp.1, ?_⟩
  have := hp.flat (by rw [list_len]; omega)
  rw [h] at this
  exact this

theorem lex_blank (s : ByteArray) (m : Nat) (w : World) (hm : m ≤ 65536) (h : s.data.toList = List.replicate m 32) (hla : LaidE w) : Calls Tryd.prog 8 #[.string s] w fun e w' => w.grownBy w' none ∧ ∃ q c, e = .returned (.tuple #[.slice q 1 c, .agg #[.int .i64 0, .int .i64 0]]) := by
  have hs : s.size = m := by rw [← list_len, h, List.length_replicate]
  refine (Lex_c s w (by omega) hla).mono fun e w' hp => ⟨hp.1, ?_⟩
  have h2 := hp.2
  rw [list_len, if_neg (by omega), h, lim_blank, if_neg (by simp)] at h2
  obtain ⟨q, c, he, -⟩ := h2
  exact ⟨q, c, he⟩

theorem lex_big (s : ByteArray) (w : World) (hs : 65536 < s.size) (hs2 : s.size ≤ 70000) (hla : LaidE w) : Calls Tryd.prog 8 #[.string s] w fun e w' => w.grownBy w' none ∧ e = .returned (.tuple #[.slice none 0 0, .agg #[.int .i64 11, .int .i64 0]]) := by
  refine (Lex_c s w (by omega) hla).mono fun e w' hp => ⟨hp.1, ?_⟩
  have h2 := hp.2
  rw [list_len, if_pos hs] at h2
  exact h2

set_option maxRecDepth 100000 in
set_option maxHeartbeats 16000000 in
theorem limits_yes (n : Nat) (c : Nat) (m : Nat) (w : World) (h1 : 1 ≤ n) (h2 : n ≤ 100) (hc : c < 256) (hm : m ≤ 70000) (hla : LaidE w) : Calls Tryd.prog 6 #[.int .i64 (n : Int), .int .u8 (c : Int), .int .i64 (m : Int)] w (ValPost (.bool true) w) := by
  have d1 : decide ((n : Int) < 1) = false := decide_eq_false (by omega)
  have d2 : decide ((100 : Int) < (n : Int)) = false := decide_eq_false (by omega)
  have d3 : decide ((m : Int) < 0) = false := decide_eq_false (by omega)
  have d4 : decide ((70000 : Int) < (m : Int)) = false := decide_eq_false (by omega)
  have HLA := Lib.hid hla
  have HMK := Lib.hid (mk_run n (by omega)); have HMM := Lib.hid (mk_run m (by omega))
  clear hla
  go_enter Tryd.func6, Tryd.ntmps6
  go_wp2_with fail
  refine (anchor_c _ HLA.out).mono ?_
  rintro e w0 ⟨rfl, hg0⟩
  have HG0 := Lib.hid hg0
  clear hg0
  go_wp2_with fail
  clear d1 d2 d3 d4
  go_cut [7, 8, 9] (fun t7 t8 t9 wx => ∃ gw gn gl : Nat, t7 = .slice (some ⟨gw, 0, none⟩) n n ∧ t8 = .slice (some ⟨gn, 0, none⟩) n n ∧ t9 = .slice (some ⟨gl, 0, none⟩) m m ∧ Hid ((w0.heap.size ≤ gw ∧ w0.heap.size ≤ gn ∧ w0.heap.size ≤ gl) ∧ gw ≠ gn ∧ gw ≠ gl ∧ gn ≠ gl) ∧ Hid (RowE wx gw n 0 (97 + c % 26) ∧ RowE wx gn n 0 (49 + c % 9) ∧ RowE wx gl m 0 32) ∧ Hid (w0.grownBy wx none))
  case first =>
    have hmk := HMK.out
    have hmm := HMM.out
    go_region
    all_goals
      go_wp2_with fail
      go_meet
      refine ⟨_, _, _, rfl, rfl, rfl, Lib.hid (by omega), Lib.hid ⟨?_, ?_, ?_⟩, Lib.hid ?_⟩
      any_goals first
        | (refine rowE_new _ ?_; simp; done)
        | (refine (rowE_new _ ?_).alloc _; simp; done)
        | (refine ((rowE_new _ ?_).alloc _).alloc _; simp; done)
        | (refine (rowE_new _ ?_).drew; simp; done)
        | (refine ((rowE_new _ ?_).alloc _).drew; simp; done)
        | (refine (((rowE_new _ ?_).alloc _).alloc _).drew; simp; done)
        | exact gb_alloc (gb_alloc (gb_alloc (gb_refl _ _) _) _) _
        | exact gb_alloc (gb_alloc (gb_alloc (gb_drew (gb_refl _ _)) _) _) _
  case rest =>
    obtain ⟨gw, gn, gl, rfl, rfl, rfl, HNE, HRW, HG⟩ := hcut
    clear HMK HMM
    go_wp2_with fail
    go_loopw [43] (fun i wr => ∃ k : Nat, k ≤ n ∧ i = .int .i64 k ∧ Hid (RowE wr gw n k (97 + c % 26) ∧ RowE wr gn n k (49 + c % 9) ∧ RowE wr gl m 0 32) ∧ Hid (w0.grownBy wr none)) (fun i _ => n - (intOf i).toNat)
    case atStart => exact ⟨0, Nat.zero_le _, rfl, HRW, HG⟩
    case round =>
      clear HRW HG
      obtain ⟨k, hk, rfl, HRW, HG⟩ := hrel
      by_cases hlt : k < n
      · have d1 : decide ((k : Int) < (n : Int)) = true := decide_eq_true (by omega)
        have d1' : decide (k < n) = true := decide_eq_true hlt
        obtain ⟨r1, r2, r3⟩ := HRW.out
        obtain ⟨⟨v1, x1⟩, f1⟩ := r1.cell hlt
        obtain ⟨⟨v2, x2⟩, f2⟩ := r2.cell hlt
        obtain ⟨hge, hn1, hn2, hn3⟩ := HNE.out
        have HR2 : Hid (RowE ((wr.setCell ⟨gw, k, none⟩ (.int .u8 (97 + (c : Int) % 26))).setCell ⟨gn, k, none⟩ (.int .u8 (49 + (c : Int) % 9))) gw n (k + 1) (97 + c % 26) ∧ RowE ((wr.setCell ⟨gw, k, none⟩ (.int .u8 (97 + (c : Int) % 26))).setCell ⟨gn, k, none⟩ (.int .u8 (49 + (c : Int) % 9))) gn n (k + 1) (49 + c % 9) ∧ RowE ((wr.setCell ⟨gw, k, none⟩ (.int .u8 (97 + (c : Int) % 26))).setCell ⟨gn, k, none⟩ (.int .u8 (49 + (c : Int) % 9))) gl m 0 32) := Lib.hid
          ⟨(r1.put hlt (by omega)).other hn1, (r2.other (Ne.symm hn1)).put hlt (by omega), (r3.other (Ne.symm hn2)).other (Ne.symm hn3)⟩
        have HG2 : Hid (w0.grownBy ((wr.setCell ⟨gw, k, none⟩ (.int .u8 (97 + (c : Int) % 26))).setCell ⟨gn, k, none⟩ (.int .u8 (49 + (c : Int) % 9))) none) := Lib.hid (below_gb (((gb_below HG.out).setCell (by exact hge.1) _).setCell (by exact hge.2.1) _))
        have hne : ¬ gw = gn := hn1
        have hne' : ¬ gn = gw := Ne.symm hn1
        have hc0 : (0 : Int) ≤ (c : Int) := by omega
        have hc1 : (c : Int) < 256 := by omega
        clear r1 r2 r3 hge hn1 hn2 hn3 HRW HG
        go_wp2_with fail
        go_roundw
        case rel => exact ⟨k + 1, by omega, by go_num, HR2, HG2⟩
        case measure => (simp [intOf] <;> omega)
      · obtain rfl : k = n := by omega
        have d1 : decide ((k : Int) < (k : Int)) = false := decide_eq_false (by omega)
        go_wp2_with fail
        go_loopw [61] (fun i wr => ∃ j : Nat, j ≤ m ∧ i = .int .i64 j ∧ Hid (RowE wr gw k k (97 + c % 26) ∧ RowE wr gn k k (49 + c % 9) ∧ RowE wr gl m j 32) ∧ Hid (w0.grownBy wr none)) (fun i _ => m - (intOf i).toNat)
        case atStart => exact ⟨0, Nat.zero_le _, rfl, HRW, HG⟩
        case round =>
          clear HRW HG d1
          obtain ⟨j, hj, rfl, HRW, HG⟩ := hrel
          by_cases hlt2 : j < m
          · have d2 : decide ((j : Int) < (m : Int)) = true := decide_eq_true (by omega)
            have d2' : decide (j < m) = true := decide_eq_true hlt2
            obtain ⟨r1, r2, r3⟩ := HRW.out
            obtain ⟨⟨v3, x3⟩, f3⟩ := r3.cell hlt2
            obtain ⟨hge, hn1, hn2, hn3⟩ := HNE.out
            have HR2 : Hid (RowE (wr.setCell ⟨gl, j, none⟩ (.int .u8 32)) gw k k (97 + c % 26) ∧ RowE (wr.setCell ⟨gl, j, none⟩ (.int .u8 32)) gn k k (49 + c % 9) ∧ RowE (wr.setCell ⟨gl, j, none⟩ (.int .u8 32)) gl m (j + 1) 32) := Lib.hid
              ⟨r1.other hn2, r2.other hn3, r3.put hlt2 rfl⟩
            have HG2 : Hid (w0.grownBy (wr.setCell ⟨gl, j, none⟩ (.int .u8 32)) none) := Lib.hid (below_gb ((gb_below HG.out).setCell (by exact hge.2.2) _))
            clear r1 r2 r3 hge hn1 hn2 hn3 HRW HG
            go_wp2_with fail
            go_roundw
            case rel => exact ⟨j + 1, by omega, by go_num, HR2, HG2⟩
            case measure => (simp [intOf] <;> omega)
          · obtain rfl : j = m := by omega
            have d2 : decide ((j : Int) < (j : Int)) = false := decide_eq_false (by omega)
            have ha1 : isLet (UInt8.ofNat (97 + c % 26)) = true := by
              rw [isLet_nat, UInt8.toNat_ofNat', Nat.mod_eq_of_lt (by omega)]; simp; omega
            have hd1 : isDig (UInt8.ofNat (49 + c % 9)) = true := by
              rw [isDig_nat, UInt8.toNat_ofNat', Nat.mod_eq_of_lt (by omega)]; simp; omega
            have hd2 : UInt8.ofNat (49 + c % 9) ≠ 48 := by
              intro e
              have := congrArg UInt8.toNat e
              rw [UInt8.toNat_ofNat', Nat.mod_eq_of_lt (by omega)] at this
              change 49 + c % 9 = 48 at this
              omega
            obtain ⟨E1, P1, he1⟩ : ∃ E P, (if k ≤ 40 then ((0, 0) : Nat × Nat) else (20, 1)) = (E, P) := ⟨_, _, rfl⟩
            obtain ⟨E2, P2, he2⟩ : ∃ E P, (if k ≤ 60 then ((0, 0) : Nat × Nat) else (21, 1)) = (E, P) := ⟨_, _, rfl⟩
            have HL1 := Lib.hid ((lim_word ha1 h1).trans he1)
            have HL2 := Lib.hid ((lim_num hd1 hd2 h1).trans he2)
            have HL3 := Lib.hid (lim_zero hd1 h1)
            have HE1 := Lib.hid he1; have HE2 := Lib.hid he2
            clear he1 he2 ha1 hd1 hd2
            obtain ⟨A1, hA1, cv1⟩ := HRW.out.1.conv
            have hs1 : A1.size ≤ 100 := by rw [← list_len, hA1, List.length_replicate]; exact h2
            have HX1 := Lib.hid (fun W (h : LaidE W) => lex_flat (⟨#[32]⟩ ++ A1) E1 P1 W (by rw [← list_len, app_list, List.length_append, list_len, list_len]; show 1 + _ ≤ _; omega) h (by rw [app_list, hA1]; exact HL1.out))
            clear hA1
            go_wp2_with fail
            all_goals (try (exfalso; omega))
            refine (HX1.out wr (HLA.out.kept (gb_trans HG0.out HG.out))).mono ?_
            rintro e w2 ⟨hg2, q1, k1, c1, rfl⟩
            clear cv1 hs1 HX1
            have hga1 := World.grownBy_alloc w2 (.cells #[.int .i64 (E1 : Int), .int .i64 (P1 : Int)] 26) none
            have HB1 := Lib.hid (heap_alloc_new w2 (.cells #[.int .i64 (E1 : Int), .int .i64 (P1 : Int)] 26))
            have HG2 := Lib.hid (gb_trans HG.out (gb_trans hg2 hga1))
            have HRW2 := Lib.hid (show RowE (w2.alloc (.cells #[.int .i64 (E1 : Int), .int .i64 (P1 : Int)] 26)) gn k k (49 + c % 9) ∧ RowE (w2.alloc (.cells #[.int .i64 (E1 : Int), .int .i64 (P1 : Int)] 26)) gl j j 32 from ⟨HRW.out.2.1.kept (gb_trans hg2 hga1), HRW.out.2.2.kept (gb_trans hg2 hga1)⟩)
            clear hg2 hga1
            obtain ⟨A2, hA2, cv2⟩ := HRW2.out.1.conv
            have hs2 : A2.size ≤ 100 := by rw [← list_len, hA2, List.length_replicate]; exact h2
            have HX2 := Lib.hid (fun W (h : LaidE W) => lex_flat (⟨#[40]⟩ ++ A2) E2 P2 W (by rw [← list_len, app_list, List.length_append, list_len, list_len]; show 1 + _ ≤ _; omega) h (by rw [app_list, hA2]; exact HL2.out))
            clear hA2
            go_wp2_with fail
            all_goals (try (exfalso; omega))
            refine (HX2.out _ (HLA.out.kept (gb_trans HG0.out HG2.out))).mono ?_
            rintro e w3 ⟨hg2, q2, k2, c2, rfl⟩
            have HB1b := Lib.hid (bx hg2 HB1.out)
            clear cv2 hs2 HX2 HB1
            have hga2 := World.grownBy_alloc w3 (.cells #[.int .i64 (E2 : Int), .int .i64 (P2 : Int)] 26) none
            have HB2 := Lib.hid (heap_alloc_new w3 (.cells #[.int .i64 (E2 : Int), .int .i64 (P2 : Int)] 26))
            have HG3 := Lib.hid (gb_trans HG2.out (gb_trans hg2 hga2))
            have HRW3 := Lib.hid (show RowE (w3.alloc (.cells #[.int .i64 (E2 : Int), .int .i64 (P2 : Int)] 26)) gn k k (49 + c % 9) ∧ RowE (w3.alloc (.cells #[.int .i64 (E2 : Int), .int .i64 (P2 : Int)] 26)) gl j j 32 from ⟨HRW2.out.1.kept (gb_trans hg2 hga2), HRW2.out.2.kept (gb_trans hg2 hga2)⟩)
            clear hg2 hga2
            have HB1c := Lib.hid (bx (World.grownBy_alloc w3 (.cells #[.int .i64 (E2 : Int), .int .i64 (P2 : Int)] 26) none) HB1b.out)
            obtain ⟨A3, hA3, cv3⟩ := HRW3.out.1.conv
            have hs3 : A3.size ≤ 100 := by rw [← list_len, hA3, List.length_replicate]; exact h2
            have HX3 := Lib.hid (fun W (h : LaidE W) => lex_flat (⟨#[48]⟩ ++ A3) 21 0 W (by rw [← list_len, app_list, List.length_append, list_len, list_len]; show 1 + _ ≤ _; omega) h (by rw [app_list, hA3]; exact HL3.out))
            clear hA3 HB1b
            go_wp2_with fail
            all_goals (try (exfalso; omega))
            refine (HX3.out _ (HLA.out.kept (gb_trans HG0.out HG3.out))).mono ?_
            rintro e w4 ⟨hg2, q3, k3, c3, rfl⟩
            have HB1d := Lib.hid (bx hg2 HB1c.out)
            have HB2d := Lib.hid (bx hg2 HB2.out)
            clear cv3 hs3 HX3 HB1c HB2
            have hga3 := World.grownBy_alloc w4 (.cells #[.int .i64 21, .int .i64 0] 26) none
            have HB3 := Lib.hid (heap_alloc_new w4 (.cells #[.int .i64 21, .int .i64 0] 26))
            have HG4 := Lib.hid (gb_trans HG3.out (gb_trans hg2 hga3))
            have HB1e := Lib.hid (bx hga3 HB1d.out); have HB2e := Lib.hid (bx hga3 HB2d.out)
            have HRW4 := Lib.hid (HRW3.out.2.kept (gb_trans hg2 hga3))
            obtain ⟨A4, hA4, cv4⟩ := HRW4.out.conv
            have hs4 : A4.size = j := by rw [← list_len, hA4, List.length_replicate]
            have HA4 := Lib.hid hA4; have HS4 := Lib.hid hs4
            clear hg2 hga3 HB1d HB2d hA4 hs4
            by_cases hbig : 65536 < j
            · have e1 : decide ((65536 : Int) < (j : Int)) = true := decide_eq_true (by omega)
              have e1' : decide (65536 < j) = true := decide_eq_true hbig
              go_wp2_with fail
              refine (lex_big A4 _ (by rw [HS4.out]; exact hbig) (by rw [HS4.out]; exact hm) (HLA.out.kept (gb_trans HG0.out HG4.out))).mono ?_
              rintro e w5 ⟨hg5, rfl⟩
              clear cv4
              have hga4 := World.grownBy_alloc w5 (.cells #[.int .i64 11, .int .i64 0] 26) none
              obtain ⟨b1, b2, -⟩ := cells2 (bx hga4 (bx hg5 HB1e.out))
              obtain ⟨b3, b4, -⟩ := cells2 (bx hga4 (bx hg5 HB2e.out))
              obtain ⟨b5, b6, -⟩ := cells2 (bx hga4 (bx hg5 HB3.out))
              obtain ⟨b7, b8, -⟩ := cells2 (heap_alloc_new w5 (.cells #[.int .i64 11, .int .i64 0] 26))
              have HGF := Lib.hid (gb_trans HG0.out (gb_trans HG4.out (gb_trans hg5 hga4)))
              clear hga4 hg5 HB1e HB2e HB3
              have he1 := HE1.out
              have he2 := HE2.out
              by_cases g40 : k ≤ 40
              · have g60 : k ≤ 60 := by omega
                rw [if_pos g40] at he1
                rw [if_pos g60] at he2
                simp only [Prod.mk.injEq] at he1 he2
                obtain ⟨rfl, rfl⟩ := he1
                obtain ⟨rfl, rfl⟩ := he2
                have f1 : decide ((k : Int) ≤ 40) = true := decide_eq_true (by omega)
                have f2 : decide ((k : Int) ≤ 60) = true := decide_eq_true (by omega)
                go_wp2_with fail
                go_ret
                exact ⟨rfl, HGF.out⟩
              · rw [if_neg g40] at he1
                simp only [Prod.mk.injEq] at he1
                obtain ⟨rfl, rfl⟩ := he1
                have f1 : decide ((k : Int) ≤ 40) = false := decide_eq_false (by omega)
                by_cases g60 : k ≤ 60
                · rw [if_pos g60] at he2
                  simp only [Prod.mk.injEq] at he2
                  obtain ⟨rfl, rfl⟩ := he2
                  have f2 : decide ((k : Int) ≤ 60) = true := decide_eq_true (by omega)
                  go_wp2_with fail
                  go_ret
                  exact ⟨rfl, HGF.out⟩
                · rw [if_neg g60] at he2
                  simp only [Prod.mk.injEq] at he2
                  obtain ⟨rfl, rfl⟩ := he2
                  have f2 : decide ((k : Int) ≤ 60) = false := decide_eq_false (by omega)
                  go_wp2_with fail
                  go_ret
                  exact ⟨rfl, HGF.out⟩
            · have e1 : decide ((65536 : Int) < (j : Int)) = false := decide_eq_false (by omega)
              have e1' : decide (65536 < j) = false := decide_eq_false hbig
              go_wp2_with fail
              refine (lex_blank A4 j _ (by omega) HA4.out (HLA.out.kept (gb_trans HG0.out HG4.out))).mono ?_
              rintro e w5 ⟨hg5, q4, c4, rfl⟩
              clear cv4
              have hga4 := World.grownBy_alloc w5 (.cells #[.int .i64 0, .int .i64 0] 26) none
              obtain ⟨b1, b2, -⟩ := cells2 (bx hga4 (bx hg5 HB1e.out))
              obtain ⟨b3, b4, -⟩ := cells2 (bx hga4 (bx hg5 HB2e.out))
              obtain ⟨b5, b6, -⟩ := cells2 (bx hga4 (bx hg5 HB3.out))
              obtain ⟨b7, b8, -⟩ := cells2 (heap_alloc_new w5 (.cells #[.int .i64 0, .int .i64 0] 26))
              have HGF := Lib.hid (gb_trans HG0.out (gb_trans HG4.out (gb_trans hg5 hga4)))
              clear hga4 hg5 HB1e HB2e HB3
              have he1 := HE1.out
              have he2 := HE2.out
              by_cases g40 : k ≤ 40
              · have g60 : k ≤ 60 := by omega
                rw [if_pos g40] at he1
                rw [if_pos g60] at he2
                simp only [Prod.mk.injEq] at he1 he2
                obtain ⟨rfl, rfl⟩ := he1
                obtain ⟨rfl, rfl⟩ := he2
                have f1 : decide ((k : Int) ≤ 40) = true := decide_eq_true (by omega)
                have f2 : decide ((k : Int) ≤ 60) = true := decide_eq_true (by omega)
                go_wp2_with fail
                go_ret
                exact ⟨rfl, HGF.out⟩
              · rw [if_neg g40] at he1
                simp only [Prod.mk.injEq] at he1
                obtain ⟨rfl, rfl⟩ := he1
                have f1 : decide ((k : Int) ≤ 40) = false := decide_eq_false (by omega)
                by_cases g60 : k ≤ 60
                · rw [if_pos g60] at he2
                  simp only [Prod.mk.injEq] at he2
                  obtain ⟨rfl, rfl⟩ := he2
                  have f2 : decide ((k : Int) ≤ 60) = true := decide_eq_true (by omega)
                  go_wp2_with fail
                  go_ret
                  exact ⟨rfl, HGF.out⟩
                · rw [if_neg g60] at he2
                  simp only [Prod.mk.injEq] at he2
                  obtain ⟨rfl, rfl⟩ := he2
                  have f2 : decide ((k : Int) ≤ 60) = false := decide_eq_false (by omega)
                  go_wp2_with fail
                  go_ret
                  exact ⟨rfl, HGF.out⟩

set_option maxRecDepth 100000 in
set_option maxHeartbeats 4000000 in
theorem limits_c (n c m : Int) (w : World) (hc0 : 0 ≤ c) (hc1 : c < 256) (hla : LaidE w) : Calls Tryd.prog 6 #[.int .i64 n, .int .u8 c, .int .i64 m] w (ValPost (.bool true) w) := by
  have HLA := Lib.hid hla
  by_cases h1 : n < 1
  · have d1 : decide (n < 1) = true := decide_eq_true h1
    clear hla
    go_enter Tryd.func6, Tryd.ntmps6
    go_wp2_with fail
    refine (anchor_c _ HLA.out).mono ?_
    rintro e w0 ⟨rfl, hg0⟩
    have HG0 := Lib.hid hg0
    clear hg0
    go_wp2_with fail
    go_ret
    exact ⟨rfl, HG0.out⟩
  have d1 : decide (n < 1) = false := decide_eq_false h1
  by_cases h2 : 100 < n
  · have d2 : decide (100 < n) = true := decide_eq_true h2
    clear hla h1
    go_enter Tryd.func6, Tryd.ntmps6
    go_wp2_with fail
    refine (anchor_c _ HLA.out).mono ?_
    rintro e w0 ⟨rfl, hg0⟩
    have HG0 := Lib.hid hg0
    clear hg0
    go_wp2_with fail
    go_ret
    exact ⟨rfl, HG0.out⟩
  have d2 : decide (100 < n) = false := decide_eq_false h2
  by_cases h3 : m < 0
  · have d3 : decide (m < 0) = true := decide_eq_true h3
    clear hla h1 h2
    go_enter Tryd.func6, Tryd.ntmps6
    go_wp2_with fail
    refine (anchor_c _ HLA.out).mono ?_
    rintro e w0 ⟨rfl, hg0⟩
    have HG0 := Lib.hid hg0
    clear hg0
    go_wp2_with fail
    go_ret
    exact ⟨rfl, HG0.out⟩
  have d3 : decide (m < 0) = false := decide_eq_false h3
  by_cases h4 : 70000 < m
  · have d4 : decide (70000 < m) = true := decide_eq_true h4
    clear hla h1 h2 h3
    go_enter Tryd.func6, Tryd.ntmps6
    go_wp2_with fail
    refine (anchor_c _ HLA.out).mono ?_
    rintro e w0 ⟨rfl, hg0⟩
    have HG0 := Lib.hid hg0
    clear hg0
    go_wp2_with fail
    go_ret
    exact ⟨rfl, HG0.out⟩
  obtain ⟨n, rfl⟩ : ∃ y : Nat, n = (y : Int) := ⟨n.toNat, by omega⟩
  obtain ⟨c, rfl⟩ : ∃ y : Nat, c = (y : Int) := ⟨c.toNat, by omega⟩
  obtain ⟨m, rfl⟩ : ∃ y : Nat, m = (y : Int) := ⟨m.toNat, by omega⟩
  exact limits_yes n c m w (by omega) (by omega) (by omega) (by omega) hla
end Go.Proofs.YtohdpodnfgdnbaaDoor
