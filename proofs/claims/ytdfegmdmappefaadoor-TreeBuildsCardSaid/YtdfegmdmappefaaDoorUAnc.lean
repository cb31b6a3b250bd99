/- The law's anchor: the document's example of layer 6. -/
import Derived.Test.YtdfegmdmappefaaDoorUDump
import Derived.Test.YtdfegmdmappefaaDoorUMath2
namespace Go.Proofs.YtdfegmdmappefaaDoor
open Go.RowKit

def exL : List Tok := [⟨1, [], [120], 0⟩, ⟨5, [], [], 1⟩]
theorem exL_all : allE [120] = (exL, 0, 0) := by kernel_rfl
theorem exL_T : exL.map toI = exT := rfl
theorem exL_short : Short exL := fun t ht => by simp [exL] at ht; rcases ht with rfl | rfl <;> simp
theorem exL_bare : EndsBare exL := fun t ht h => by simp [exL] at ht; rcases ht with rfl | rfl <;> simp_all
theorem exL_whole : wholeL exL = [120] := rfl

theorem v_lit (w : World) (l : List Int) (T : TypeId) (H : Nat) (hH : w.heap.size = H) (arr : Array Value) (ha : arr.toList = intsV l) : VAt (w.alloc (.cells arr T)) (some ⟨H, 0, none⟩) (intsV l) := by
  subst hH
  refine .inr ⟨_, _, rfl, by simp, fun j v hv => ?_⟩
  rw [cell_of_row _ w.heap.size _ _ _ (0, 0) (heap_alloc_new w _)]
  rw [Nat.zero_add, ← Array.getElem?_toList, ha]; exact hv

/-- A list that was laid just now is no builder's. -/
theorem lit_far {w : World} {b : Nat} {l : List Tok} {u : Nat} {N : List Nd} {vn : Value} (h : BldV w b l u N vn) : b < w.heap.size ∧ ∀ k, vn.ownBlock = some k → b < k ∧ k < w.heap.size := by
  obtain ⟨pt, ct, K, h⟩ := h
  exact ⟨hlt' h.box, h.turn⟩

theorem turn_below {b B : Nat} {l : List Tok} {u : Nat} {N : List Nd} {vn : Value} {w0 w w' : World} (h : BldV w b l u N vn) (hf : Fr2 (Turn b vn) w w') (hB : B ≤ b) (hw : Below B w0 w) : Below B w0 w' :=
  Below.trans2 hw (hf.below (by have := (lit_far h).1; omega) (fun k hk => by
    rcases hk with hk | hk
    · omega
    · have := ((lit_far h).2 k hk).1; omega))

set_option maxRecDepth 100000 in
set_option maxHeartbeats 8000000 in
theorem anchor6_c (w : World) (hla : LaidE w) : Calls Tryd.prog 7 #[] w (ValPost (.bool true) w) := by
  have HP := Lib.hid (Lex_c ⟨#[120]⟩ w (by decide) hla)
  obtain ⟨B, hB⟩ : ∃ B, w.heap.size = B := ⟨_, rfl⟩
  have HBW := Lib.hid hB
  clear hB
  go_enter Tryd.func7, Tryd.ntmps7
  go_wp2_with fail
  refine HP.out.mono ?_
  rintro e w1 ⟨hg, h⟩
  rw [exL_all, if_neg (by decide), if_neg (by decide)] at h
  obtain ⟨q, c, rfl, ht, -, -⟩ := h
  have HB1 := Lib.hid (show Below B w w1 from Below.gb hg (by rw [HBW.out]; exact Nat.le_refl _))
  have HT1 := Lib.hid ht
  clear hg ht HP
  rw [show exL.length = 2 from rfl]
  go_wp2_with fail
  have hga := World.grownBy_alloc w1 (.cells #[.int .i64 0, .int .i64 0] 47) none
  generalize w1.alloc (.cells #[.int .i64 0, .int .i64 0] 47) = W1 at *
  have HT2 := Lib.hid (HT1.out.kept hga)
  have HB2 := Lib.hid (Below.trans2 HB1.out (Below.gb hga (by have := HB1.out.size; have := HBW.out; omega)))
  clear hga HT1 HB1
  refine (NewBuilder_c exL q c W1 (by decide) exL_short HT2.out).mono ?_
  rintro e w2 ⟨b, rfl, hbb, hbl, hg2⟩
  have hBb : B ≤ b := by have := HB2.out.size; have := HBW.out; omega
  have HL2 := Lib.hid hbl
  have HB3 := Lib.hid (Below.trans2 HB2.out (Below.gb hg2 (by have := HB2.out.size; have := HBW.out; omega)))
  clear hbl hbb hg2 HB2 HT2
  go_wp2_with fail
  refine (Leaf_some b exL 0 [] _ w2 (by decide) (by decide) (by decide) HL2.out).mono ?_
  rintro e w3 ⟨he, v3, hb3, hf3, -⟩
  have he : e = .returned (.int .i64 0) := he
  subst he
  have HL3 := Lib.hid hb3
  have HB4 := Lib.hid (turn_below HL2.out hf3 hBb HB3.out)
  clear hb3 hf3 HL2 HB3
  go_wp2_with fail
  have hL3 : BldV w3 b exL 1 [⟨19, 0, []⟩] v3 := HL3.out
  have hga3 := World.grownBy_alloc w3 (.cells #[.int .i64 0] 3) none
  have hn3 := Node_some b exL 1 [⟨19, 0, []⟩] v3 14 [0] (some ⟨w3.heap.size, 0, none⟩) 1 _ (by decide) (by decide) (hL3.kept hga3) (v_lit w3 [0] 3 _ rfl #[.int .i64 0] rfl) (by decide)
  have HK3 := Lib.hid (hL3.kept hga3)
  have HB5 := Lib.hid (Below.trans2 HB4.out (Below.gb hga3 (by have := HB4.out.size; have := HBW.out; omega)))
  have HN3 := Lib.hid hn3
  clear hn3 hga3 hL3 HB4
  refine HN3.out.mono ?_
  rintro e w4 ⟨he, v4, hb4, hf4, -⟩
  have he : e = .returned (.int .i64 1) := he
  subst he
  have HL4 := Lib.hid (show BldV w4 b exL 1 [⟨19, 0, []⟩, ⟨14, -1, [0]⟩] v4 from hb4)
  have HB6 := Lib.hid (turn_below HK3.out hf4 hBb HB5.out)
  clear hb4 hf4 HK3 HB5 HN3 HL3
  go_wp2_with fail
  refine (Leaf_some b exL 1 _ _ w4 (by decide) (by decide) (by decide) HL4.out).mono ?_
  rintro e w5 ⟨he, v5, hb5, hf5, -⟩
  have he : e = .returned (.int .i64 2) := he
  subst he
  have HL5 := Lib.hid (show BldV w5 b exL 2 [⟨19, 0, []⟩, ⟨14, -1, [0]⟩, ⟨19, 1, []⟩] v5 from hb5)
  have HB7 := Lib.hid (turn_below HL4.out hf5 hBb HB6.out)
  clear hb5 hf5 HL4 HB6
  go_wp2_with fail
  have hga5 := World.grownBy_alloc w5 (.cells #[.int .i64 1, .int .i64 2] 3) none
  have hn5 := Node_some b exL 2 [⟨19, 0, []⟩, ⟨14, -1, [0]⟩, ⟨19, 1, []⟩] v5 18 [1, 2] (some ⟨w5.heap.size, 0, none⟩) 2 _ (by decide) (by decide) (HL5.out.kept hga5) (v_lit w5 [1, 2] 3 _ rfl #[.int .i64 1, .int .i64 2] rfl) (by decide)
  have HK5 := Lib.hid (HL5.out.kept hga5)
  have HB8 := Lib.hid (Below.trans2 HB7.out (Below.gb hga5 (by have := HB7.out.size; have := HBW.out; omega)))
  have HN5 := Lib.hid hn5
  clear hn5 hga5 HL5 HB7
  refine HN5.out.mono ?_
  rintro e w6 ⟨he, v6, hb6, hf6, -⟩
  have he : e = .returned (.int .i64 3) := he
  subst he
  have HL6 := Lib.hid (show BldV w6 b exL 2 exN v6 from hb6)
  have HB9 := Lib.hid (turn_below HK5.out hf6 hBb HB8.out)
  clear hb6 hf6 HK5 HB8 HN5
  go_wp2_with fail
  refine (Done_c b exL 2 exN v6 w6 (by decide) exL_short (by decide) (fun x hx => by simp [exN] at hx; rcases hx with rfl | rfl | rfl | rfl <;> simp) HL6.out).mono ?_
  rintro e w7 ⟨hg7, pt, ct, pn, cn, K, rfl, ht7, -, hn7⟩
  have HG7 := Lib.hid (Below.trans2 HB9.out (Below.gb hg7 (by have := HB9.out.size; have := HBW.out; omega)))
  rw [show exL.length = 2 from rfl, show exN.length = 4 from rfl]
  have hA := heap_alloc_new w7 (.cells #[.slice pt 2 ct, .slice pn 4 cn] 25)
  have hgA := World.grownBy_alloc w7 (.cells #[.slice pt 2 ct, .slice pn 4 cn] 25) none
  have HT := Lib.hid (ht7.kept hgA); have HNN := Lib.hid (hn7.kept hgA)
  have HR := Lib.hid (fun W h => show Calls Tryd.prog 13 #[.agg #[.slice pt 2 ct, .slice pn 4 cn]] W (ValPost (.bool true) W) from Right_c exN K exN_right (by decide) (by decide) pt pn ct cn W h)
  have HS := Lib.hid (fun W h => show Calls Tryd.prog 24 #[.agg #[.slice pt 2 ct, .slice pn 4 cn]] W (StrGb [120] W) from Show_c exL pt pn ct 4 cn W (by decide) (by decide) h)
  have HRO := Lib.hid (fun W => show Calls Tryd.prog 15 #[.agg #[.slice pt 2 ct, .slice pn 4 cn]] W (ValPost (.int .i64 3) W) from Root_c pt pn 2 ct 4 cn (by decide) (by decide) W)
  have HD := Lib.hid (fun W h1 h2 => show Calls Tryd.prog 10 #[.agg #[.slice pt 2 ct, .slice pn 4 cn], .int .i64 3] W (DumpOk (dp exT exN 3) W) from Dump_c exL exN K exN_right (by decide) (by decide) exL_bare pt pn ct cn 3 (by decide) (by rw [exL_T, exN_dp]; decide) W h1 h2)
  rw [exN_dp] at HD
  clear hg7 ht7 hn7 HB9 HL6
  go_wp2_with fail
  have HBA := Lib.hid (Below.trans2 HG7.out (Below.gb hgA (by have := HG7.out.size; have := HBW.out; omega)))
  generalize (w7.alloc (.cells #[.slice pt 2 ct, .slice pn 4 cn] 25)) = W8 at *
  obtain ⟨X, hX⟩ : ∃ X, w7.heap.size = X := ⟨_, rfl⟩
  rw [hX] at hA ⊢
  have HA := Lib.hid hA
  obtain ⟨a0, a1⟩ := cells_tree hA
  clear hA hgA hX HG7
  go_region_with (first
    | (go_at_call 15; refine (HRO.out _).mono ?_; rintro e y2 ⟨rfl, hg2⟩; obtain ⟨c0, c1⟩ := cells_tree (bx hg2 HA.out); have HG2 := Lib.hid (gb_trans (show W8.grownBy _ none from (by repeat (first | with_reducible exact gb_refl _ _ | with_reducible refine gb_drew ?_))) hg2); clear hg2)
    | (go_at_call 10; refine (HD.out _ (HT.out.kept (gb_trans HG2.out (by repeat (first | with_reducible exact gb_refl _ _ | with_reducible refine gb_drew ?_)))) (HNN.out.kept (gb_trans HG2.out (by repeat (first | with_reducible exact gb_refl _ _ | with_reducible refine gb_drew ?_))))).mono ?_; rintro e y3 ⟨hg3, r, rfl, hr⟩; have HRR := Lib.hid hr; have HG3 := Lib.hid (gb_trans (gb_trans HG2.out (by repeat (first | with_reducible exact gb_refl _ _ | with_reducible refine gb_drew ?_))) hg3); clear hg3 hr))
  all_goals
    have hrr : (r.toList == [40, 49, 56, 32, 40, 49, 52, 32, 120, 41, 32, 36, 41]) = true := by rw [toList_data, HRR.out]; rfl
    obtain ⟨d0, d1⟩ := cells_tree (bx HG3.out HA.out)
    go_wp2_with fail
    refine (HR.out y3 (HNN.out.kept HG3.out)).mono ?_
    rintro e y4 ⟨rfl, hg4⟩
    have HG4 := Lib.hid (gb_trans HG3.out hg4)
    obtain ⟨f0, f1⟩ := cells_tree (bx HG4.out HA.out)
    clear hg4
    go_wp2_with fail
    refine (HS.out y4 (HT.out.kept HG4.out)).mono ?_
    rintro e y5 ⟨⟨s, rfl, hs⟩, hg5⟩
    have hss : (s.toList == [120]) = true := by rw [toList_data, hs]; rfl
    have HG5 := Lib.hid (gb_trans HG4.out hg5)
    clear hg5 hs
    go_wp2_with fail
    go_ret
    exact ⟨rfl, below_gb (by rw [HBW.out]; exact Below.trans2 HBA.out (Below.gb HG5.out (by have := HBA.out.size; have := HBW.out; omega)))⟩
end Go.Proofs.YtdfegmdmappefaaDoor
