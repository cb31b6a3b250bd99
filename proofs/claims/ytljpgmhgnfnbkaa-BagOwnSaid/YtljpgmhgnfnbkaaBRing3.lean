/- Rows in a ring: copyTo, All. -/
import Derived.Test.YtljpgmhgnfnbkaaBRing2
import Derived.Test.YtljpgmhgnfnbkaaBSet4
namespace Go.Proofs.Ytljpgmhgnfnbkaa
open Go.RowKit Mx

theorem gb_setCells (b : Nat) : ∀ (vs : List Value) (o : Nat) (w : World), w.grownBy (w.setCells b o vs) (some b)
  | [], _, w => gb_refl _ _
  | v :: r, o, w => gb_trans (gb_set (gb_refl _ _) v) (gb_setCells b r (o + 1) _)

theorem BlkZ.cells {w : World} {g M : Nat} {f : Nat → Int} (h : BlkZ w g M f) : ∀ (vs : List Int) (o : Nat), o + vs.length ≤ M → BlkZ (w.setCells g o (vs.map (Value.int .i64))) g M (fun j => if o ≤ j ∧ j < o + vs.length then vs.getD (j - o) 0 else f j) := by
  intro vs
  induction vs generalizing w f with
  | nil =>
    intro o ho
    obtain ⟨cur, T, h1, h2, h3⟩ := h
    refine ⟨cur, T, h1, h2, fun j hj => ?_⟩
    have e : ¬ (o ≤ j ∧ j < o + ([] : List Int).length) := by simp
    simp only [if_neg e]
    exact h3 j hj
  | cons v r ih =>
    intro o ho
    simp only [List.length_cons] at ho
    have h1 := ih (h.set (j := o) v) (o + 1) (by omega)
    obtain ⟨cur, T, k1, k2, k3⟩ := h1
    refine ⟨cur, T, k1, k2, fun j hj => ?_⟩
    rw [k3 j hj]
    congr 2
    simp only [updZ, List.length_cons]
    by_cases e : j = o
    · subst e; rw [if_neg (by omega), if_pos rfl, if_pos (by omega)]; simp
    · by_cases e2 : o + 1 ≤ j ∧ j < o + 1 + r.length
      · rw [if_pos e2, if_pos (by omega), show j - o = (j - (o + 1)) + 1 by omega]; simp
      · rw [if_neg e2, if_neg e, if_neg (by omega)]

def CopyPost (og M : Nat) (zs : List Int) (w : World) (e : Ending) (w' : World) : Prop :=
  e = .returned (.tuple #[]) ∧ (∃ g, BlkZ w' og M g ∧ ∀ j, j < zs.length → g j = zs.getD j 0) ∧ w.grownBy w' (some og)

theorem run_copyZ {w : World} {og M o dLen dCap rg R so sLen sCap : Nat} {g f : Nat → Int} {vs : List Int} (hb : BlkZ w og M g) (hs : BlkZ w rg R f) (hl : vs.length = Nat.min sLen dLen) (ho : o + vs.length ≤ M) (hso : so + vs.length ≤ R) (hv : ∀ j, j < vs.length → vs.getD j 0 = f (so + j)) (ty : TypeId) :
    (Builtin.copy_ #[22, 22] ty #[.slice (some ⟨og, o, none⟩) dLen dCap, .slice (some ⟨rg, so, none⟩) sLen sCap]).run Try.prog w = .ok (.int .i64 (vs.length : Nat)) (w.setCells og o (vs.map (Value.int .i64))) := by
  obtain ⟨i0, hi, hi0, hi1, hi2⟩ := infoI_parts
  have h := run_copy_cells (P := Try.prog) w 22 22 ty 3 og o dLen dCap ⟨rg, so, none⟩ sLen sCap (vs.map (Value.int .i64)) Try.underlying22 (by rw [hi]; simp [hi1]) (by simpa using hl) (fun j v hj => by
      have hjl : j < vs.length := by have := (List.getElem?_eq_some_iff.1 hj).1; simpa using this
      rw [Addr.add_lit, hs.cell (by omega), ← hv j hjl]
      have e : (vs.map (Value.int .i64))[j]? = some (Value.int .i64 (vs.getD j 0)) := by simp [List.getD, hjl]
      rw [e] at hj; exact hj)
    (fun j hj => by simp at hj; rw [hb.cell (by omega)]; rfl) (fun j hj => hb.free _) (fun v hv => by obtain ⟨z, _, rfl⟩ := List.mem_map.1 hv; rfl)
  rw [h]
  simp [goInt]

theorem run_copy0 {w : World} (d a : Option Addr) (dCap sLen sCap : Nat) (ty : TypeId) : (Builtin.copy_ #[22, 22] ty #[.slice d 0 dCap, .slice a sLen sCap]).run Try.prog w = .ok (.int .i64 0) w := by
  obtain ⟨i0, hi, hi0, hi1, hi2⟩ := infoI_parts
  exact run_copy_none (P := Try.prog) w 22 22 ty 3 d a 0 dCap sLen sCap Try.underlying22 (by rw [hi]; simp [hi1]) (by simp)

set_option maxRecDepth 100000 in
set_option maxHeartbeats 4000000 in
theorem copyTo_c {w : World} {q rg R first : Nat} {pr : Option Addr} {f g0 : Nat → Int} {zs : List Int} (og M : Nat) (hM : zs.length ≤ M) (hM2 : M ≤ 1000000) (h : RowAt w q rg R first pr f zs) (ho : BlkZ w og M g0) (hoq : og ≠ q) (hor : 0 < R → og ≠ rg) :
    Calls Try.prog 68 #[.pointer (some ⟨q, 0, none⟩), .slice (some ⟨og, 0, none⟩) M M] w (CopyPost og M zs w) := by
  have hcnt := h.cnt
  have hbx := h.box
  obtain ⟨x0, x1, x2, x3⟩ := cells3' hbx
  have hbig := h.big
  by_cases hR0 : R = 0
  · subst hR0
    obtain rfl : zs = [] := List.eq_nil_of_length_eq_zero (by omega)
    obtain rfl : first = 0 := by rcases h.fst with h | h <;> omega
    have hcp := fun (W : World) (d a : Option Addr) (dc sl sc : Nat) (ty : TypeId) => run_copy0 (w := W) d a dc sl sc ty
    have HO := Lib.hid ho
    clear h ho hbx x3 hor
    simp only [List.length_nil] at x2
    go_enter Try.func68, Try.ntmps68
    go_wp2_with fail
    go_region
    all_goals
      go_wp2_with fail
      go_region
      all_goals
        go_wp2_with fail
        go_end0
        exact ⟨rfl, ⟨g0, HO.out, fun j hj => by simp at hj⟩, gb_drew (gb_drew (gb_refl _ _))⟩
  · have hfR : first < R := by rcases h.fst with h | h <;> omega
    obtain ⟨rfl, hrq, hbl⟩ := h.ring.resolve_left hR0
    have hor := hor (by omega)
    have hnf : ¬ R = first := by omega
    have hv := h.vals
    obtain ⟨n, hn⟩ : ∃ n, zs.length = n := ⟨_, rfl⟩
    rw [hn] at x2 hM hcnt
    have b1 : (n : Int) ≤ (M : Int) := by omega
    have b2 : (first : Int) ≤ (R : Int) := by omega
    by_cases hwrap : first + n ≤ R
    · have hcp1 := fun ty => run_copyZ (w := w.drew) (o := 0) (dLen := n) (dCap := M) (so := first) (sLen := R - first) (sCap := R - first) (vs := zs) ho hbl (by rw [hn]; show n = min (R - first) n; omega) (by omega) (by omega) (fun j hj => by rw [← hv j hj, Nat.mod_eq_of_lt (by omega)]) ty
      have hB2 := BlkZ.cells (w := w.drew) ho zs 0 (by omega)
      have hg2 := gb_trans (gb_drew (gb_refl w (some og))) (gb_setCells og (zs.map (Value.int .i64)) 0 w.drew)
      obtain ⟨W2, hW2⟩ : ∃ W2, w.drew.setCells og 0 (zs.map (Value.int .i64)) = W2 := ⟨_, rfl⟩
      rw [hW2] at hcp1 hB2 hg2
      rw [hn] at hcp1
      have y0 := hg2.cell x0 (by simpa using hoq.symm); have y1 := hg2.cell x1 (by simpa using hoq.symm); have y2 := hg2.cell x2 (by simpa using hoq.symm)
      have hcp2 := fun (W : World) (d a : Option Addr) (dc sl sc : Nat) (ty : TypeId) => run_copy0 (w := W) d a dc sl sc ty
      have HB2 := Lib.hid hB2; have HG2 := Lib.hid hg2; have HN := Lib.hid hn
      have b3 : (n : Int) ≤ (n : Int) := Int.le_refl _
      clear h ho hbx x3 hv hbl hn hW2 hB2 hg2 hwrap
      go_enter Try.func68, Try.ntmps68
      go_wp2_with fail
      go_region
      all_goals
        go_wp2_with fail
        by_cases hMn : M = n
        · go_region
          all_goals
            go_wp2_with fail
            go_end0
            exact ⟨rfl, ⟨_, HB2.out, fun j hj => by simp [hj]⟩, gb_drew HG2.out⟩
        · go_region
          all_goals
            go_wp2_with fail
            go_end0
            exact ⟨rfl, ⟨_, HB2.out, fun j hj => by simp [hj]⟩, gb_drew HG2.out⟩
    · obtain ⟨m1, hm1⟩ : ∃ m1, R - first = m1 := ⟨_, rfl⟩
      have hm1n : m1 < n := by omega
      have hl1 : (zs.take m1).length = m1 := by simp; omega
      have hl2 : (zs.drop m1).length = n - m1 := by simp; omega
      have hcp1 := fun ty => run_copyZ (w := w.drew) (o := 0) (dLen := n) (dCap := M) (so := first) (sLen := R - first) (sCap := R - first) (vs := zs.take m1) ho hbl (by rw [hl1]; show m1 = min (R - first) n; omega) (by omega) (by omega) (fun j hj => by
        rw [hl1] at hj
        have e := hv j (by omega)
        rw [Nat.mod_eq_of_lt (by omega)] at e
        rw [e]; simp [List.getD, List.getElem?_take, hj]) ty
      have hB2 := BlkZ.cells (w := w.drew) ho (zs.take m1) 0 (by omega)
      have hg2 := gb_trans (gb_drew (gb_refl w (some og))) (gb_setCells og ((zs.take m1).map (Value.int .i64)) 0 w.drew)
      obtain ⟨W2, hW2⟩ : ∃ W2, w.drew.setCells og 0 ((zs.take m1).map (Value.int .i64)) = W2 := ⟨_, rfl⟩
      rw [hW2] at hcp1 hB2 hg2
      rw [hl1] at hcp1 hB2
      have hbl2 := hbl.kept hg2 (by simpa using hor.symm)
      have hcp2 := fun ty => run_copyZ (w := W2.drew) (o := m1) (dLen := n - m1) (dCap := M - m1) (so := 0) (sLen := R) (sCap := R) (vs := zs.drop m1) hB2 hbl2 (by rw [hl2]; show n - m1 = min R (n - m1); omega) (by omega) (by omega) (fun j hj => by
        rw [hl2] at hj
        have e := hv (m1 + j) (by omega)
        rw [show first + (m1 + j) = j + R by omega, Nat.add_mod_right, Nat.mod_eq_of_lt (by omega)] at e
        rw [Nat.zero_add, e]; simp [List.getD]) ty
      have hB3 := BlkZ.cells (w := W2.drew) hB2 (zs.drop m1) m1 (by omega)
      have hg3 := gb_trans (gb_drew hg2) (gb_setCells og ((zs.drop m1).map (Value.int .i64)) m1 W2.drew)
      obtain ⟨W3, hW3⟩ : ∃ W3, W2.drew.setCells og m1 ((zs.drop m1).map (Value.int .i64)) = W3 := ⟨_, rfl⟩
      rw [hW3] at hcp2 hB3 hg3
      rw [hl2] at hcp2 hB3
      have y0 := hg2.cell x0 (by simpa using hoq.symm); have y1 := hg2.cell x1 (by simpa using hoq.symm); have y2 := hg2.cell x2 (by simpa using hoq.symm)
      have hM1 : ¬ M = m1 := by omega
      have b3 : (m1 : Int) ≤ (n : Int) := by omega
      have HB3 := Lib.hid hB3; have HG3 := Lib.hid hg3; have HN := Lib.hid hn; have HM1 := Lib.hid (fun _ : Unit => hm1n)
      clear h ho hbx x3 hv hbl hbl2 hn hW2 hW3 hB2 hg2 hB3 hg3 hwrap hl1 hl2 hm1
      go_enter Try.func68, Try.ntmps68
      go_wp2_with fail
      go_region
      all_goals
        go_wp2_with fail
        go_region
        all_goals
          go_wp2_with fail
          go_end0
          refine ⟨rfl, ⟨_, HB3.out, fun j hj => ?_⟩, HG3.out⟩
          have hj : j < n := by rw [← HN.out]; exact hj
          have hm := HM1.out ()
          by_cases e : m1 ≤ j
          · simp only [if_pos (show m1 ≤ j ∧ j < m1 + (n - m1) by omega)]
            simp [List.getD, show m1 + (j - m1) = j by omega]
          · simp only [if_neg (show ¬ (m1 ≤ j ∧ j < m1 + (n - m1)) by omega), if_pos (show 0 ≤ j ∧ j < 0 + m1 by omega)]
            simp [List.getD, List.getElem?_take, show j < m1 by omega]

theorem makeI_blk (w : World) (n : Nat) : BlkZ (w.alloc (.cells (madeCells #[.int .i64 0] n) 3)) w.heap.size n (fun _ => 0) := by
  refine ⟨_, 3, heap_alloc_new w _, size_madeCells _ _, fun j hj => ?_⟩
  rw [← Array.getElem?_toList, toList_madeCells_one]
  simp [hj]

set_option maxRecDepth 100000 in
set_option maxHeartbeats 2000000 in
theorem All_c {w : World} {q rg R first : Nat} {pr : Option Addr} {f : Nat → Int} {zs : List Int} (h : RowAt w q rg R first pr f zs) : Calls Try.prog 40 #[.pointer (some ⟨q, 0, none⟩)] w (LPost zs w) := by
  obtain ⟨x0, x1, x2, x3⟩ := cells3' h.box
  have hbig := h.big
  have hcnt := h.cnt
  have hq := (Array.getElem?_eq_some_iff.1 h.box).1
  have hr : 0 < R → rg < w.heap.size := fun h0 => (h.ring.resolve_left (by omega)).2.2.lt
  obtain ⟨n, hn⟩ : ∃ n, zs.length = n := ⟨_, rfl⟩
  have hga := World.grownBy_alloc w (.cells (madeCells #[.int .i64 0] n) 3) none
  have HC := Lib.hid (copyTo_c w.heap.size n (by omega) (by omega) (h.kept hga) (makeI_blk w n) (by omega) (fun h0 => by have := hr h0; omega))
  have hn100 : n ≤ 100000 := by omega
  have hmk := fun w => makeI_run n (by omega) w
  rw [hn] at x2
  have HN := Lib.hid hn; have HGA := Lib.hid hga
  clear h hga hn hr x3
  go_enter Try.func40, Try.ntmps40
  go_wp2_with fail
  refine HC.out.mono ?_
  rintro e w2 ⟨rfl, ⟨g, hb, hg⟩, hg2⟩
  have hfin : IsL w2 (.slice (some ⟨w.heap.size, 0, none⟩) n n) zs := ⟨_, _, by rw [HN.out], by rw [HN.out]; exact Nat.le_refl _, by unfold maxLen; omega, .inr ⟨_, 0, rfl, hb.lt, fun j hj => by
    rw [Nat.zero_add, hb.cell (by have := HN.out; omega), hg j hj]⟩⟩
  have HF := Lib.hid hfin; have HG := Lib.hid (gb_new (gb_below HGA.out) (Nat.le_refl _) hg2)
  clear hb hg hg2 hfin
  go_wp2_with fail
  go_ret
  exact ⟨_, _, _, rfl, HF.out, fun p n c e hn => by injection e with e1; subst e1; exact ⟨_, rfl, Nat.le_refl _⟩, below_gb HG.out⟩
end Go.Proofs.Ytljpgmhgnfnbkaa
