/- The law's anchor: the document's examples of layer 2. -/
import Derived.Test.YtljpgmhgnfnbkaaBSet1
import Derived.Test.YtljpgmhgnfnbkaaBCls2
namespace Go.Proofs.Ytljpgmhgnfnbkaa
open Go.RowKit Go.Sort

def ValPost (v : Value) (w : World) (e : Ending) (w' : World) : Prop := e = .returned v ∧ w.grownBy w' none

theorem root_id (j : Nat) : root id j = j := root_self rfl

set_option maxRecDepth 100000 in
set_option maxHeartbeats 4000000 in
theorem anchor_c (w : World) : Calls Try.prog 9 #[] w (ValPost (.bool true) w) := by
  have hrow := heap_alloc_new w (.cells #[.int .i64 3, .int .i64 1, .int .i64 3] 3)
  have hl0 : LAt (w.alloc (.cells #[.int .i64 3, .int .i64 1, .int .i64 3] 3)) (some ⟨w.heap.size, 0, none⟩) [3, 1, 3] := .inr ⟨w.heap.size, 0, rfl, by simp, fun j hj => by
    rw [cell_of_row _ w.heap.size _ _ _ (0, 0) hrow]
    match j, hj with
    | 0, _ => rfl
    | 1, _ => rfl
    | 2, _ => rfl⟩
  have HO := Lib.hid (Of_c (some ⟨w.heap.size, 0, none⟩) 3 [3, 1, 3] _ (by simp) (by simp) hl0)
  have HG0 := Lib.hid (World.grownBy_alloc w (.cells #[.int .i64 3, .int .i64 1, .int .i64 3] 3) none)
  clear hrow hl0
  go_enter Try.func9, Try.ntmps9
  go_wp2_with fail
  refine HO.out.mono ?_
  rintro e w1 ⟨S, p1, n1, c1, rfl, hset, ⟨p, c, he, h1, h2, h3⟩, -, -, hg1⟩
  injection he with e1 e2 e3
  subst e1; subst e2; subst e3
  obtain rfl : S = [1, 3] := asc_ext hset.1 (by simp [Asc]) fun x => by
    rw [hset.2 x]; simp; omega
  have HG1 := Lib.hid (gb_trans HG0.out hg1); have H3 := Lib.hid h3
  clear hset h1 h2 h3 hg1 HO HG0
  go_wp2_with fail
  refine (Items_c p1 c1 [1, 3] _ (by simp) H3.out).mono ?_
  rintro e w2 ⟨p2, n2, c2, rfl, ⟨p, c, he, h1, h2, h3⟩, -, hg2⟩
  injection he with e1 e2 e3
  subst e1; subst e2; subst e3
  obtain ⟨g2, o2, rfl, hgl, hcell⟩ := h3.resolve_left (by simp)
  have hc0 := hcell 0 (by simp)
  have HG2 := Lib.hid (gb_trans HG1.out hg2)
  clear h1 h2 h3 hg2 hgl hcell H3 HG1
  go_wp2_with fail
  refine (NewClasses_c 4 (by omega) _).mono ?_
  rintro e w3 ⟨q, g, rfl, hcl, hg3, hq, hgg⟩
  have hc0 := hg3.cell hc0 (by simp)
  have HG3 := Lib.hid (gb_trans HG2.out hg3); have HC3 := Lib.hid hcl
  have HB : Hid (∀ k, k = q ∨ k = g → w.heap.size ≤ k) := Lib.hid fun k hk => by have := HG2.out.size; omega
  simp only [List.length_cons, List.length_nil, Nat.add_zero, Nat.reduceAdd, List.getD_cons_zero] at hc0 ⊢
  clear hcl hg3 hq hgg HG2
  go_wp2_with fail
  refine (Join_c 3 1 (by omega) (by omega) (by omega) (by omega) (by omega) HC3.out).mono ?_
  rintro e w4 ⟨rfl, ⟨f4, hc4, hr4⟩, hf4⟩
  have hG4 := Fr2.after HG3.out hf4 HB.out
  have hr4' : ∀ j, root f4 j = if j = 3 then 1 else j := fun j => by
    rw [hr4]
    unfold joinR
    rw [root_id, root_id, root_id]
    rfl
  rw [if_neg (by rw [root_id, root_id]; omega)] at hc4
  have HC4 := Lib.hid hc4; have HR4 := Lib.hid hr4'; have HG4 := Lib.hid hG4
  clear hr4 hc4 hf4 hG4 hr4' hc0 HC3 HG3
  go_wp2_with fail
  refine (Join_c 1 2 (by omega) (by omega) (by omega) (by omega) (by omega) HC4.out).mono ?_
  rintro e w5 ⟨rfl, ⟨f5, hc5, hr5⟩, hf5⟩
  have hG5 := Fr2.after HG4.out hf5 HB.out
  have e1 : root f4 1 = 1 := by rw [HR4.out]; rfl
  have e2 : root f4 2 = 2 := by rw [HR4.out]; rfl
  have e3 : root f4 3 = 1 := by rw [HR4.out]; rfl
  have hr53 : root f5 3 = 1 := by
    rw [hr5]
    unfold joinR
    rw [e1, e2, e3]
    rfl
  rw [if_neg (by rw [e1, e2]; omega)] at hc5
  have HC5 := Lib.hid hc5; have HR5 := Lib.hid hr53; have HG5 := Lib.hid hG5
  clear hr5 hc5 hf5 hG5 hr53 e1 e2 e3 HC4 HR4 HG4
  go_wp2_with fail
  refine (Find_c 3 (by omega) HC5.out).mono ?_
  rintro e w6 ⟨rfl, f6, hc6, -, hg6⟩
  have hval : ((root f5 (3 : Int).toNat : Nat) : Int) = 1 := by rw [show (3 : Int).toNat = 3 from rfl, HR5.out]; rfl
  rw [if_pos (by omega), if_pos (by omega), hval]
  have HC6 := Lib.hid (Count_c hc6); have HG6 := Lib.hid (Fr2.after HG5.out (Fr2.of hg6 (fun k e => by simp at e; exact .inr e.symm)) HB.out)
  clear hc6 hg6 hval HC5 HR5 HG5
  go_wp2_with (go_at_call 44; refine HC6.out.mono ?_; rintro e w7 ⟨rfl, rfl⟩)
  go_ret
  exact ⟨rfl, HG6.out⟩
end Go.Proofs.Ytljpgmhgnfnbkaa
