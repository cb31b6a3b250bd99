/- Rows in a ring: Push, NewRow. -/
import Derived.Test.YtljpgmhgnfnbkaaBRing4
namespace Go.Proofs.Ytljpgmhgnfnbkaa
open Go.RowKit Mx

theorem LAt.keptS {S : Nat → Prop} {w w' : World} {p : Option Addr} {zs : List Int} (h : LAt w p zs) (hg : Fr2 S w w') (hS : zs ≠ [] → ∀ a, p = some a → ¬ S a.block) : LAt w' p zs := by
  rcases h with h | ⟨g, off, rfl, hl, hc⟩
  · exact .inl h
  · by_cases h0 : zs = []
    · exact .inl h0
    · exact .inr ⟨g, off, rfl, Nat.lt_of_lt_of_le hl hg.size, fun j hj => by rw [← hc j hj]; exact World.cell?_of_block (w := w) (hg.block g hl (hS h0 ⟨g, off, none⟩ rfl))⟩

def PushPost (q rg : Nat) (zs : List Int) (w : World) (e : Ending) (w' : World) : Prop :=
  e = .returned (.tuple #[]) ∧ (∃ rg' R' first' pr' f', RowAt w' q rg' R' first' pr' f' zs ∧ R' ≤ 1000 ∧ (rg' = rg ∨ (w.heap.size ≤ rg' ∧ 0 < R'))) ∧ Fr2 (fun k => k = q ∨ k = rg) w w'

/-- One more behind. -/
theorem RowAt.push {W W1 W2 : World} {q rg R first c d : Nat} {pr : Option Addr} {f : Nat → Int} {zs : List Int} {x : Int} (h : RowAt W q rg R first pr f zs) (hc : zs.length = c) (hd : c + 1 = d) (hdR : d ≤ R) (hg : W.grownBy W1 none)
    (h2 : W2 = (W1.setCell ⟨rg, (first + c) % R, none⟩ (.int .i64 x)).setCell ⟨q, 2, none⟩ (.int .i64 d)) : RowAt W2 q rg R first pr (updZ f ((first + c) % R) x) (zs ++ [x]) := by
  obtain ⟨e1, e2, e3⟩ := h.ring.resolve_left (by omega)
  have hl : (zs ++ [x]).length = d := by simp; omega
  refine ⟨?_, by omega, h.big, h.fst, .inr ⟨e1, e2, ?_⟩, fun j hj => ?_⟩
  · rw [hl, h2]
    refine set3_2 (a2 := .int .i64 (zs.length : Nat)) ?_
    rw [Below.heap_setCell _ _ _ _ (by simp; omega)]
    exact bx hg h.box
  · rw [h2]
    exact ((e3.kept hg (by simp)).set x).kept (row := some q) (gb_set (gb_refl _ _) _) (by simpa using e2)
  · have hj : j < d := by omega
    by_cases e : j = c
    · subst e; simp [updZ, List.getD, ← hc]
    · rw [updZ_ne (mod_ne (show j < c by omega) (by omega)), h.vals j (by omega)]
      simp [List.getD, List.getElem?_append_left (show j < zs.length by omega)]

set_option maxRecDepth 100000 in
set_option maxHeartbeats 4000000 in
theorem Push_c {w : World} {q rg R first : Nat} {pr : Option Addr} {f : Nat → Int} {zs : List Int} (py : Option Addr) (cy : Nat) (ys : List Int) (hmo : zs.length + ys.length ≤ 400) (hR : R ≤ 1000) (h : RowAt w q rg R first pr f zs) (hy : LAt w py ys) (hfar : ys ≠ [] → ∀ a, py = some a → a.block ≠ q ∧ a.block ≠ rg) :
    Calls Try.prog 36 #[.pointer (some ⟨q, 0, none⟩), .slice py ys.length cy] w (PushPost q rg (zs ++ ys) w) := by
  obtain ⟨m, hm⟩ : ∃ m, ys.length = m := ⟨_, rfl⟩
  have hq := (Array.getElem?_eq_some_iff.1 h.box).1
  have hblk := hy.blk
  have HC := Lib.hid (makeRoom_c ys.length hmo hR h)
  have HY := Lib.hid hy; have HF := Lib.hid hfar; have HM := Lib.hid hm; have HQ := Lib.hid hq; have HK := Lib.hid hblk; have HMO := Lib.hid hmo
  rw [hm] at HC ⊢
  have hm400 : m ≤ 400 := by omega
  clear h hy hfar hm hq hblk hmo
  go_enter Try.func36, Try.ntmps36
  go_wp2_with fail
  refine HC.out.mono ?_
  rintro e w1 ⟨rfl, ⟨rg', R', first', pr', f', hrow, hroom, hR1, hrg⟩, hg1⟩
  have HROW := Lib.hid hrow; have HROOM := Lib.hid hroom; have HR1 := Lib.hid hR1; have HRG := Lib.hid hrg; have HG1 := Lib.hid hg1
  clear hrow hroom hR1 hrg hg1
  go_wp2_with fail
  go_loopw [12] (fun i cur => ∃ k : Nat, k ≤ m ∧ i = .int .i64 k ∧ Hid (∃ fk, RowAt cur q rg' R' first' pr' fk (zs ++ ys.take k)) ∧ Hid (Fr2 (fun b => b = q ∨ b = rg') w1 cur)) (fun i _ => m - (intOf i).toNat)
  case atStart => exact ⟨0, by omega, rfl, Lib.hid ⟨f', by simpa using HROW.out⟩, Fr2.refl _ _⟩
  case round =>
    obtain ⟨k, hk, rfl, HRK, HFR⟩ := hrel
    obtain ⟨fk, hrk⟩ := HRK.out
    by_cases hlt : k < m
    · have hR0 : 0 < R' := by have := HROOM.out; omega
      have hfst : first' < R' := by rcases hrk.fst with h | h <;> omega
      obtain ⟨rfl, hrq, hbl⟩ := hrk.ring.resolve_left (by omega)
      have hyc : LAt wr py ys := by
        refine LAt.keptS (LAt.grown HY.out HG1.out (fun h0 a ha => by have := (HF.out h0 a ha).1; simpa using this)) HFR.out (fun h0 a ha hs => ?_)
        have h1 := HF.out h0 a ha
        have h2 := HK.out h0 a ha
        have h3 := HRG.out
        omega
      obtain ⟨gy, oy, rfl, hgl, hcy⟩ := hyc.resolve_left (fun e => by have := HM.out; rw [e] at this; simp at this; omega)
      have hck := hcy k (by have := HM.out; omega)
      obtain ⟨ht, -⟩ := take_more (l := ys) (k := k) (by have := HM.out; omega)
      obtain ⟨c, hc⟩ : ∃ c, (zs ++ ys.take k).length = c := ⟨_, rfl⟩
      have hcv : c = zs.length + k := by rw [← hc]; simp; have := HM.out; omega
      have hcR : c < R' := by have := HROOM.out; omega
      obtain ⟨d, hd⟩ : ∃ d : Nat, c + 1 = d := ⟨_, rfl⟩
      obtain ⟨x0, x1, x2, x3⟩ := cells3' hrk.box
      rw [hc] at x2
      have hbc := hrk.box
      rw [hc] at hbc
      have HS := Lib.hid (slot_c c hbc hfst hrk.big (by have := HR1.out; omega))
      have hrR : (first' + c) % R' < R' := Nat.mod_lt _ hR0
      have HRW := Lib.hid (fun (W1 W2 : World) (hg : wr.grownBy W1 none) (h2 : W2 = (W1.setCell ⟨rg', (first' + c) % R', none⟩ (.int .i64 (ys.getD k 0))).setCell ⟨q, 2, none⟩ (.int .i64 d)) => hrk.push hc hd (by omega) hg h2)
      rw [List.append_assoc, ← ht] at HRW
      have HBL := Lib.hid hbl; have HRQ := Lib.hid hrq; have HBC := Lib.hid hbc; have HGY := Lib.hid hgl
      have hwr : IntKind.i64.wrap ((c : Int) + 1) = (d : Int) := by rw [show (c : Int) + 1 = (d : Int) by omega]; exact IntWalk.i64_in _ (by have := HR1.out; omega)
      generalize hxx : ys.getD k 0 = x at *
      generalize hrr : (first' + c) % R' = r at *
      clear hrk hbl hrq hyc hcy ht hc hcv hd hbc x3 x0 x1 hfst hxx hrr HRK
      go_wp2_with fail
      refine HS.out.mono ?_
      rintro e w3 ⟨rfl, hg3⟩
      have hb3 := HBL.out.kept hg3 (by simp)
      have c3 := hb3.cell hrR
      have f3 := hb3.free r
      have hbx3 := bx hg3 HBC.out
      have hbx4 : (w3.setCell ⟨rg', r, none⟩ (.int .i64 x)).heap[q]? = _ := (Below.heap_setCell _ _ _ _ (by have := HRQ.out; simp; omega)).trans hbx3
      obtain ⟨z0, z1, z2, z3⟩ := cells3' hbx4
      have f4 := z3 2
      have HG3 := Lib.hid hg3
      clear hb3 hbx3 hbx4 hg3 z3 z0 z1 x2 hck
      go_wp2_with fail
      go_roundw
      case rel => exact ⟨k + 1, by omega, by go_num, Lib.hid ⟨_, HRW.out _ _ HG3.out rfl⟩, Lib.hid (HFR.out.trans ((Fr2.of HG3.out (fun k e => by cases e)).trans ((Fr2.of (gb_set (gb_refl _ _) _) (fun k e => by simp at e; exact .inr e.symm)).trans (Fr2.of (gb_set (gb_refl _ _) _) (fun k e => by simp at e; exact .inl e.symm)))))⟩
      case measure => simp [intOf]; omega
    · obtain rfl : k = m := by omega
      rw [List.take_of_length_le (by have := HM.out; omega)] at hrk
      have HRF := Lib.hid hrk
      clear hrk HRK
      go_wp2_with fail
      go_end0
      refine ⟨rfl, ⟨rg', R', first', pr', fk, HRF.out, HR1.out, HRG.out⟩, ?_⟩
      refine ⟨HFR.out.os.trans HG1.out.os, HFR.out.tape.trans HG1.out.tape, HFR.out.output.trans HG1.out.output, Nat.le_trans HG1.out.size HFR.out.size, fun b hb hn => (HFR.out.block b (Nat.lt_of_lt_of_le hb HG1.out.size) (fun h => ?_)).trans (HG1.out.block b hb (fun e => hn (.inl (by simp at e; exact e))))⟩
      have := HRG.out
      omega
end Go.Proofs.Ytljpgmhgnfnbkaa
