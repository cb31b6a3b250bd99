/- Lemmas. -/
import Derived.Test.YtddccnpohpaofaaGreatDoorP30
set_option linter.unusedVariables false
set_option linter.unusedSimpArgs false
namespace Go.Proofs.YtddccnpohpaofaaGreatDoor
open Go.RowKit

def cellR (c : Cl) : List Value := [.int .i64 c.op, .int .i64 c.kids, strV c.nm, strV c.md, strV c.nu, .bool c.ys]
def z8 : Array Value := #[.int .i64 0, .string ⟨#[]⟩, .string ⟨#[]⟩, .bool false, .slice none 0 0, .bool false, .slice none 0 0, .int .i64 0]
def z7 : Array Value := #[.int .i64 0, .string ⟨#[]⟩, .string ⟨#[]⟩, .string ⟨#[]⟩, .bool false, .slice none 0 0, .int .i64 0]
def BothPost (l : List Cl) (w : World) (e : Ending) (w' : World) : Prop := w.grownBy w' none ∧
  match bothC l with
  | none => e = .returned (.tuple #[.agg z8, .agg z7, .bool false])
  | some x => ∃ q r : List Value, e = .returned (.tuple #[.agg q.toArray, .agg r.toArray, .bool true]) ∧ SAt (fun k => w.heap.size ≤ k ∧ k < w'.heap.size) w' x q ∧ RSt (fun k => w.heap.size ≤ k ∧ k < w'.heap.size) w' x r
theorem both_none {l : List Cl} {w w' : World} (h : bothC l = none) (hg : w.grownBy w' none) : BothPost l w (.returned (.tuple #[.agg z8, .agg z7, .bool false])) w' := ⟨hg, by rw [h]⟩
theorem set8u {W : World} {B : Nat} {T : TypeId} {x0 x1 x2 x3 x4 x5 x6 x7 : Value} (h0 : W.heap[B]? = some (.cells #[x0, x1, x2, x3, x4, x5, x6, x7] T (0, 0))) (a0 a1 a2 a3 a4 a5 a6 a7 : Value) : ((((((((W.setCell ⟨B, 0, none⟩ a0).setCell ⟨B, 1, none⟩ a1).setCell ⟨B, 2, none⟩ a2).setCell ⟨B, 3, none⟩ a3).setCell ⟨B, 4, none⟩ a4).setCell ⟨B, 5, none⟩ a5).setCell ⟨B, 6, none⟩ a6).setCell ⟨B, 7, none⟩ a7).heap[B]? = some (.cells #[a0, a1, a2, a3, a4, a5, a6, a7] T (0, 0)) ∧ Fr2 (fun k => k = B) W ((((((((W.setCell ⟨B, 0, none⟩ a0).setCell ⟨B, 1, none⟩ a1).setCell ⟨B, 2, none⟩ a2).setCell ⟨B, 3, none⟩ a3).setCell ⟨B, 4, none⟩ a4).setCell ⟨B, 5, none⟩ a5).setCell ⟨B, 6, none⟩ a6).setCell ⟨B, 7, none⟩ a7) := by
  have g0 : (W.setCell ⟨B, 0, none⟩ a0).heap[B]? = some (.cells #[a0, x1, x2, x3, x4, x5, x6, x7] T (0, 0)) := set_cells (i := 0) (u := a0) h0
  have g1 : ((W.setCell ⟨B, 0, none⟩ a0).setCell ⟨B, 1, none⟩ a1).heap[B]? = some (.cells #[a0, a1, x2, x3, x4, x5, x6, x7] T (0, 0)) := set_cells (i := 1) (u := a1) g0
  have g2 : (((W.setCell ⟨B, 0, none⟩ a0).setCell ⟨B, 1, none⟩ a1).setCell ⟨B, 2, none⟩ a2).heap[B]? = some (.cells #[a0, a1, a2, x3, x4, x5, x6, x7] T (0, 0)) := set_cells (i := 2) (u := a2) g1
  have g3 : ((((W.setCell ⟨B, 0, none⟩ a0).setCell ⟨B, 1, none⟩ a1).setCell ⟨B, 2, none⟩ a2).setCell ⟨B, 3, none⟩ a3).heap[B]? = some (.cells #[a0, a1, a2, a3, x4, x5, x6, x7] T (0, 0)) := set_cells (i := 3) (u := a3) g2
  have g4 : (((((W.setCell ⟨B, 0, none⟩ a0).setCell ⟨B, 1, none⟩ a1).setCell ⟨B, 2, none⟩ a2).setCell ⟨B, 3, none⟩ a3).setCell ⟨B, 4, none⟩ a4).heap[B]? = some (.cells #[a0, a1, a2, a3, a4, x5, x6, x7] T (0, 0)) := set_cells (i := 4) (u := a4) g3
  have g5 : ((((((W.setCell ⟨B, 0, none⟩ a0).setCell ⟨B, 1, none⟩ a1).setCell ⟨B, 2, none⟩ a2).setCell ⟨B, 3, none⟩ a3).setCell ⟨B, 4, none⟩ a4).setCell ⟨B, 5, none⟩ a5).heap[B]? = some (.cells #[a0, a1, a2, a3, a4, a5, x6, x7] T (0, 0)) := set_cells (i := 5) (u := a5) g4
  have g6 : (((((((W.setCell ⟨B, 0, none⟩ a0).setCell ⟨B, 1, none⟩ a1).setCell ⟨B, 2, none⟩ a2).setCell ⟨B, 3, none⟩ a3).setCell ⟨B, 4, none⟩ a4).setCell ⟨B, 5, none⟩ a5).setCell ⟨B, 6, none⟩ a6).heap[B]? = some (.cells #[a0, a1, a2, a3, a4, a5, a6, x7] T (0, 0)) := set_cells (i := 6) (u := a6) g5
  have g7 : ((((((((W.setCell ⟨B, 0, none⟩ a0).setCell ⟨B, 1, none⟩ a1).setCell ⟨B, 2, none⟩ a2).setCell ⟨B, 3, none⟩ a3).setCell ⟨B, 4, none⟩ a4).setCell ⟨B, 5, none⟩ a5).setCell ⟨B, 6, none⟩ a6).setCell ⟨B, 7, none⟩ a7).heap[B]? = some (.cells #[a0, a1, a2, a3, a4, a5, a6, a7] T (0, 0)) := set_cells (i := 7) (u := a7) g6
  have hs : (fun k => k = B) B := rfl
  exact ⟨g7, ((((((((Fr2.refl (fun k => k = B) W).setCell hs a0).setCell hs a1).setCell hs a2).setCell hs a3).setCell hs a4).setCell hs a5).setCell hs a6).setCell hs a7⟩
theorem put15b {W w : World} {b : Nat} {T8 T7 : TypeId} {x0 x1 x2 x3 x4 x5 x6 x7 y0 y1 y2 y3 y4 y5 y6 : Value} (h0 : W.heap[b]? = some (.cells #[x0, x1, x2, x3, x4, x5, x6, x7] T8 (0, 0))) (h1 : W.heap[b + 1]? = some (.cells #[y0, y1, y2, y3, y4, y5, y6] T7 (0, 0))) (hg : w.grownBy W none) (hb : w.heap.size = b) (a0 a1 a2 a3 a4 a5 a6 a7 e0 e1 e2 e3 e4 e5 e6 : Value) :
    (((((((((((((((W.setCell ⟨b, 0, none⟩ a0).setCell ⟨b, 1, none⟩ a1).setCell ⟨b, 2, none⟩ a2).setCell ⟨b, 3, none⟩ a3).setCell ⟨b, 4, none⟩ a4).setCell ⟨b, 5, none⟩ a5).setCell ⟨b, 6, none⟩ a6).setCell ⟨b, 7, none⟩ a7).setCell ⟨(b + 1), 0, none⟩ e0).setCell ⟨(b + 1), 1, none⟩ e1).setCell ⟨(b + 1), 2, none⟩ e2).setCell ⟨(b + 1), 3, none⟩ e3).setCell ⟨(b + 1), 4, none⟩ e4).setCell ⟨(b + 1), 5, none⟩ e5).setCell ⟨(b + 1), 6, none⟩ e6).heap[b]? = some (.cells #[a0, a1, a2, a3, a4, a5, a6, a7] T8 (0, 0)) ∧ (((((((((((((((W.setCell ⟨b, 0, none⟩ a0).setCell ⟨b, 1, none⟩ a1).setCell ⟨b, 2, none⟩ a2).setCell ⟨b, 3, none⟩ a3).setCell ⟨b, 4, none⟩ a4).setCell ⟨b, 5, none⟩ a5).setCell ⟨b, 6, none⟩ a6).setCell ⟨b, 7, none⟩ a7).setCell ⟨(b + 1), 0, none⟩ e0).setCell ⟨(b + 1), 1, none⟩ e1).setCell ⟨(b + 1), 2, none⟩ e2).setCell ⟨(b + 1), 3, none⟩ e3).setCell ⟨(b + 1), 4, none⟩ e4).setCell ⟨(b + 1), 5, none⟩ e5).setCell ⟨(b + 1), 6, none⟩ e6).heap[b + 1]? = some (.cells #[e0, e1, e2, e3, e4, e5, e6] T7 (0, 0)) ∧ w.grownBy (((((((((((((((W.setCell ⟨b, 0, none⟩ a0).setCell ⟨b, 1, none⟩ a1).setCell ⟨b, 2, none⟩ a2).setCell ⟨b, 3, none⟩ a3).setCell ⟨b, 4, none⟩ a4).setCell ⟨b, 5, none⟩ a5).setCell ⟨b, 6, none⟩ a6).setCell ⟨b, 7, none⟩ a7).setCell ⟨(b + 1), 0, none⟩ e0).setCell ⟨(b + 1), 1, none⟩ e1).setCell ⟨(b + 1), 2, none⟩ e2).setCell ⟨(b + 1), 3, none⟩ e3).setCell ⟨(b + 1), 4, none⟩ e4).setCell ⟨(b + 1), 5, none⟩ e5).setCell ⟨(b + 1), 6, none⟩ e6) none ∧ Fr2 (fun k => k = b ∨ k = b + 1) W (((((((((((((((W.setCell ⟨b, 0, none⟩ a0).setCell ⟨b, 1, none⟩ a1).setCell ⟨b, 2, none⟩ a2).setCell ⟨b, 3, none⟩ a3).setCell ⟨b, 4, none⟩ a4).setCell ⟨b, 5, none⟩ a5).setCell ⟨b, 6, none⟩ a6).setCell ⟨b, 7, none⟩ a7).setCell ⟨(b + 1), 0, none⟩ e0).setCell ⟨(b + 1), 1, none⟩ e1).setCell ⟨(b + 1), 2, none⟩ e2).setCell ⟨(b + 1), 3, none⟩ e3).setCell ⟨(b + 1), 4, none⟩ e4).setCell ⟨(b + 1), 5, none⟩ e5).setCell ⟨(b + 1), 6, none⟩ e6) := by
  obtain ⟨k1, f1⟩ := set8u h0 a0 a1 a2 a3 a4 a5 a6 a7
  have h2 := f1.keep h1 (by omega)
  obtain ⟨k2, f2⟩ := set7u h2 e0 e1 e2 e3 e4 e5 e6
  have f3 := (f1.mono (S' := fun k => k = b ∨ k = b + 1) (fun k e => .inl e)).trans (f2.mono (fun k e => .inr e))
  exact ⟨f2.keep k1 (by omega), k2, fr_after hg f3 (fun i hi => by omega), f3⟩
theorem frz {W : World} {r : Nat} {cs : Array Value} {T : TypeId} (h : W.heap[r]? = some (.cells cs T (0, 0))) (o : Nat) : W.frozen? ⟨r, o, none⟩ = false := by simp [World.frozen?, h]
theorem cells6u {w : World} {r : Nat} {a b c d e f : Value} {T : TypeId} (h0 : w.heap[r]? = some (.cells #[a, b, c, d, e, f] T (0, 0))) : w.cell? ⟨r, 0, none⟩ = some a ∧ w.cell? ⟨r, 1, none⟩ = some b ∧ w.cell? ⟨r, 2, none⟩ = some c ∧ w.cell? ⟨r, 3, none⟩ = some d ∧ w.cell? ⟨r, 4, none⟩ = some e ∧ w.cell? ⟨r, 5, none⟩ = some f :=
  ⟨by rw [cell_of_row w r 0 _ T (0, 0) h0]; rfl, by rw [cell_of_row w r 1 _ T (0, 0) h0]; rfl, by rw [cell_of_row w r 2 _ T (0, 0) h0]; rfl, by rw [cell_of_row w r 3 _ T (0, 0) h0]; rfl, by rw [cell_of_row w r 4 _ T (0, 0) h0]; rfl, by rw [cell_of_row w r 5 _ T (0, 0) h0]; rfl⟩
theorem both_end {l : List Cl} {x : Sx} {Q8 Q7 : List Value} {F0 : Nat → Prop} {w wr w7 W9 : World} {b N : Nat} (hx : SAt F0 wr x Q8) (hF : ∀ k, F0 k → b + 2 ≤ k ∧ k < wr.heap.size) (hg7 : wr.grownBy w7 none) (hr : RSt (fun k => N ≤ k ∧ k < w7.heap.size) w7 x Q7) (hN : b + 2 ≤ N) (hf : Fr2 (fun k => k = b ∨ k = b + 1) w7 W9) (hg : w.grownBy W9 none) (h : bothC l = some x) (hb : w.heap.size = b) :
    BothPost l w (.returned (.tuple #[.agg Q8.toArray, .agg Q7.toArray, .bool true])) W9 := by
  have s1 := hg7.size
  have s2 := hf.size
  refine ⟨hg, ?_⟩
  rw [h]
  refine ⟨Q8, Q7, rfl, SAt.mono (fun k hk => ?_) (SAt.same hf (fun k hk e => ?_) (hx.kept hg7)), RSt.mono (fun k hk => ?_) (RSt.same hf (fun k hk e => ?_) hr)⟩
  · have := hF k hk; omega
  · have := hF k hk; omega
  · omega
  · omega
set_option maxRecDepth 100000 in
set_option maxHeartbeats 16000000 in
theorem both_c (l : List Cl) (pt : Option Addr) (ct : Nat) (w : World) (hT : GAt 6 w pt (l.map cellR)) (hk : ∀ c ∈ l, -9223372036854775808 ≤ c.kids ∧ c.kids < 9223372036854775808) :
    Calls Tryz.prog 5 #[.slice pt l.length ct] w (BothPost l w) := by
  obtain ⟨m, hm⟩ : ∃ m, l.length = m := ⟨_, rfl⟩
  have HT := Lib.hid hT; have HK := Lib.hid hk; have HM := Lib.hid hm
  rw [hm]
  clear hT hk hm
  have hbA := heap_alloc_new w (.cells z8 30)
  have hgA := World.grownBy_alloc w (.cells z8 30) none
  have hbB := heap_alloc_new (w.alloc (.cells z8 30)) (.cells z7 33)
  have hgB := World.grownBy_alloc (w.alloc (.cells z8 30)) (.cells z7 33) none
  have hsA : (w.alloc (.cells z8 30)).heap.size = w.heap.size + 1 := by simp
  rw [hsA] at hbB
  have hbA := bx hgB hbA
  have hg := gb_trans hgA hgB
  have hsB : ((w.alloc (.cells z8 30)).alloc (.cells z7 33)).heap.size = w.heap.size + 2 := by simp
  unfold z8 z7 at hbA hbB hg hsB
  go_enter Tryz.func5, Tryz.ntmps5
  go_upto_region 1 with fail
  generalize ((w.alloc (.cells #[.int .i64 0, .string ⟨#[]⟩, .string ⟨#[]⟩, .bool false, .slice none 0 0, .bool false, .slice none 0 0, .int .i64 0] 30)).alloc (.cells #[.int .i64 0, .string ⟨#[]⟩, .string ⟨#[]⟩, .string ⟨#[]⟩, .bool false, .slice none 0 0, .int .i64 0] 33)) = W at *
  obtain ⟨b0, hb0⟩ : ∃ b0, w.heap.size = b0 := ⟨_, rfl⟩
  rw [hb0] at hbA hbB hsB ⊢
  have HB0 := Lib.hid hb0; have HBA := Lib.hid hbA; have HBB := Lib.hid hbB; have HGW := Lib.hid hg; have HSB := Lib.hid hsB
  clear hgA hgB hsA hbA hbB hg hsB hb0
  obtain ⟨c0, c1, c2, c3, c4, c5, c6, c7⟩ := cells8u HBA.out
  obtain ⟨d0, d1, d2, d3, d4, d5, d6, d7⟩ := cells7u HBB.out
  have fz := frz HBA.out
  have hbw : b0 < W.heap.size := hlt HBA.out
  have hbw1 : b0 + 1 < W.heap.size := hlt HBB.out
  by_cases h30 : 30 < m
  · have HN : Hid (bothC l = none) := Lib.hid (by unfold bothC; rw [if_pos (by rw [HM.out]; exact h30)])
    have x1 : decide (30 < m) = true := decide_eq_true h30
    have x2 : decide ((30 : Int) < (m : Int)) = true := decide_eq_true (by omega)
    clear h30
    go_wp2_with fail
    obtain ⟨p1, p2, p3, -⟩ := put15b HBA.out HBB.out HGW.out HB0.out (.int .i64 0) (.string ⟨#[]⟩) (.string ⟨#[]⟩) (.bool false) (.slice none 0 0) (.bool false) (.slice none 0 0) (.int .i64 0) (.int .i64 0) (.string ⟨#[]⟩) (.string ⟨#[]⟩) (.string ⟨#[]⟩) (.bool false) (.slice none 0 0) (.int .i64 0)
    obtain ⟨r0, r1, r2, r3, r4, r5, r6, r7⟩ := cells8u p1
    obtain ⟨s0, s1, s2, s3, s4, s5, s6, -⟩ := cells7u p2
    refine bodyPost_ret (v := .tuple #[.agg z8, .agg z7, .bool false]) (by simp [results, Tryz.results5, go_sem, r0, r1, r2, r3, r4, r5, r6, r7, s0, s1, s2, s3, s4, s5, s6, z8, z7]) rfl (both_none HN.out p3)
  · have x1 : decide (30 < m) = false := decide_eq_false h30
    have x2 : decide ((30 : Int) < (m : Int)) = false := decide_eq_false (by omega)
    have hm30 : m ≤ 30 := by omega
    have HST0 : Hid (StkAt (b0 + 2) W (.slice none 0 0) (stackC (l.take 0)) []) := Lib.hid ⟨OwnG.nil _ _ _ _, by rw [List.take_zero]; exact LsS.nil, by have := HSB.out; omega⟩
    clear h30
    go_wp2_with fail
    clear x1 x2 c0 c1 c2 c3 c4 c5 c6 c7 d0 d1 d2 d3 d4 d5 d6 d7 fz hbw hbw1
    go_loopg [5, 18] m (fun gk ov iv wr => ∃ (j : Nat) (rows : List (List Value)) (pv : Option Addr) (nv cv : Nat), j ≤ m ∧ iv = .int .i64 (j : Int) ∧ ov = .slice pv nv cv ∧ m - j ≤ gk ∧ gk ≤ m ∧ Hid (StkAt (b0 + 2) wr (.slice pv nv cv) (stackC (l.take j)) rows) ∧ Hid ((l.take j).all fitsC = true) ∧ Hid (W.grownBy wr none))
    case atStart => exact ⟨0, [], none, 0, 0, Nat.zero_le _, rfl, rfl, by omega, Nat.le_refl _, HST0, Lib.hid rfl, Lib.hid (gb_refl _ _)⟩
    case round =>
      obtain ⟨j, rows, pv, nv, cv, hj, rfl, rfl, hgk1, hgk2, HST, HFT, HGr⟩ := hrel
      have HBAr := Lib.hid (bx HGr.out HBA.out); have HBBr := Lib.hid (bx HGr.out HBB.out); have HGR := Lib.hid (gb_trans HGW.out HGr.out)
      have hbw : b0 < wr.heap.size := hlt HBAr.out
      have hbw1 : b0 + 1 < wr.heap.size := hlt HBBr.out
      by_cases hlt' : j < m
      · have y3 : decide ((j : Int) < (m : Int)) = true := decide_eq_true (by omega)
        have y4 : decide (j < m) = true := decide_eq_true hlt'
        have y5 : (0 : Int) ≤ (j : Int) := by omega
        have y6 : (j : Int) < (m : Int) := by omega
        obtain ⟨c, hc⟩ : ∃ c, l[j]? = some c := ⟨l[j]'(by rw [HM.out]; exact hlt'), List.getElem?_eq_getElem _⟩
        have hcr : (l.map cellR)[j]? = some (cellR c) := by rw [List.getElem?_map, hc]; rfl
        obtain ⟨g, off, rfl, hgl, hcc⟩ := HT.out.resolve_left (fun e => by rw [e] at hcr; simp at hcr)
        have hcc := fun i v h => HGR.out.cell (hcc j _ hcr i v h) (by simp)
        have HC := Lib.hid hc
        have HKC := Lib.hid (HK.out c (List.mem_of_getElem? hc))
        obtain ⟨op, kids, nm, md, nu, ys⟩ := c
        unfold cellR strV at hcc
        simp only at hcc
        obtain ⟨sn, hsn⟩ : ∃ s : ByteArray, (⟨nm.toArray⟩ : ByteArray) = s := ⟨_, rfl⟩
        obtain ⟨sm, hsm⟩ : ∃ s : ByteArray, (⟨md.toArray⟩ : ByteArray) = s := ⟨_, rfl⟩
        obtain ⟨su, hsu⟩ : ∃ s : ByteArray, (⟨nu.toArray⟩ : ByteArray) = s := ⟨_, rfl⟩
        have hl1 : nm.length = sn.size := by rw [← hsn]; rfl
        have hl2 : md.length = sm.size := by rw [← hsm]; rfl
        have hl3 : nu.length = su.size := by rw [← hsu]; rfl
        rw [hsn, hsm, hsu] at hcc
        have HSN := Lib.hid hsn; have HSM := Lib.hid hsm; have HSU := Lib.hid hsu
        have k0 := hcc 0 _ rfl
        have k1 := hcc 1 _ rfl
        have k2 := hcc 2 _ rfl
        have k3 := hcc 3 _ rfl
        have k4 := hcc 4 _ rfl
        have k5 := hcc 5 _ rfl
        rw [Nat.add_zero] at k0
        have hgl := Nat.lt_of_lt_of_le hgl HGR.out.size
        have HBAD : Hid (fitsC ⟨op, kids, nm, md, nu, ys⟩ = false → bothC l = none) := Lib.hid (fun h => by
          unfold bothC
          rw [if_neg (by rw [HM.out]; omega), if_neg (fun e => by
            have := List.all_eq_true.1 e _ (List.mem_of_getElem? hc)
            rw [h] at this; cases this)])
        have hfit : fitsC ⟨op, kids, nm, md, nu, ys⟩ = (decide (sn.size ≤ 60) && decide (sm.size ≤ 60) && decide (su.size ≤ 80)) := by rw [← hl1, ← hl2, ← hl3]; rfl
        rw [hfit] at HBAD
        have HFIT := Lib.hid hfit
        have hcase : 60 < sn.size ∨ (sn.size ≤ 60 ∧ 60 < sm.size) ∨ (sn.size ≤ 60 ∧ sm.size ≤ 60 ∧ 80 < su.size) ∨ (sn.size ≤ 60 ∧ sm.size ≤ 60 ∧ su.size ≤ 80) := by omega
        clear hcr hcc hc hsn hsm hsu hl1 hl2 hl3 hfit
        go_upto_region 7 with fail
        have hzw : b0 + 2 ≤ wr.heap.size := by have h1 := HSB.out; have h2 := HGr.out.size; omega
        have hga := World.grownBy_alloc wr (.cells #[.int .i64 op, .int .i64 kids, .string sn, .string sm, .string su, .bool ys] 54) none
        have hbc := heap_alloc_new wr (.cells #[.int .i64 op, .int .i64 kids, .string sn, .string sm, .string su, .bool ys] 54)
        have HBAr := Lib.hid (bx hga HBAr.out); have HBBr := Lib.hid (bx hga HBBr.out); have HGR := Lib.hid (gb_trans HGR.out hga); have HGr := Lib.hid (gb_trans HGr.out hga)
        have HST := Lib.hid (HST.out.kept hga)
        clear k0 k1 k2 k3 k4 k5 hgl hbw hbw1 y3 y4 y5 y6
        generalize (wr.alloc (.cells #[.int .i64 op, .int .i64 kids, .string sn, .string sm, .string su, .bool ys] 54)) = W1 at *
        obtain ⟨bc, hbce⟩ : ∃ bc, wr.heap.size = bc := ⟨_, rfl⟩
        rw [hbce] at hbc ⊢
        have HBC := Lib.hid hbc
        have HZC : Hid (b0 + 2 ≤ bc) := Lib.hid (by rw [← hbce]; exact hzw)
        clear hga hbc hbce hzw
        obtain ⟨t0, t1, t2, t3, t4, t5⟩ := cells6u HBC.out
        obtain ⟨c0, c1, c2, c3, c4, c5, c6, c7⟩ := cells8u HBAr.out
        obtain ⟨d0, d1, d2, d3, d4, d5, d6, d7⟩ := cells7u HBBr.out
        have fz := frz HBAr.out
        have hbw : b0 < W1.heap.size := hlt HBAr.out
        have hbw1 : b0 + 1 < W1.heap.size := hlt HBBr.out
        have hbcw : bc < W1.heap.size := hlt HBC.out
        rcases hcase with h60 | ⟨h60, h61⟩ | ⟨h60, h61, h80⟩ | ⟨h60, h61, h80⟩
        focus
          have v1 : decide (60 < sn.size) = true := decide_eq_true (by omega); have v1i : decide ((60 : Int) < (sn.size : Int)) = true := decide_eq_true (by omega)
          have HN : Hid (bothC l = none) := Lib.hid (HBAD.out (by rw [decide_eq_false (by omega : ¬ sn.size ≤ 60)]; rfl))
          clear hgk1 hgk2 HBAD HFIT
          go_wp2_with fail
          obtain ⟨p1, p2, p3, -⟩ := put15b HBAr.out HBBr.out HGR.out HB0.out (.int .i64 0) (.string ⟨#[]⟩) (.string ⟨#[]⟩) (.bool false) (.slice none 0 0) (.bool false) (.slice none 0 0) (.int .i64 0) (.int .i64 0) (.string ⟨#[]⟩) (.string ⟨#[]⟩) (.string ⟨#[]⟩) (.bool false) (.slice none 0 0) (.int .i64 0)
          obtain ⟨r0, r1, r2, r3, r4, r5, r6, r7⟩ := cells8u p1
          obtain ⟨s0, s1, s2, s3, s4, s5, s6, -⟩ := cells7u p2
          refine bodyPost_ret (v := .tuple #[.agg z8, .agg z7, .bool false]) (by simp [results, Tryz.results5, go_sem, r0, r1, r2, r3, r4, r5, r6, r7, s0, s1, s2, s3, s4, s5, s6, z8, z7]) rfl (both_none HN.out p3)
        focus
          have v1 : decide (60 < sn.size) = false := decide_eq_false (by omega); have v1i : decide ((60 : Int) < (sn.size : Int)) = false := decide_eq_false (by omega)
          have v2 : decide (60 < sm.size) = true := decide_eq_true (by omega); have v2i : decide ((60 : Int) < (sm.size : Int)) = true := decide_eq_true (by omega)
          have HN : Hid (bothC l = none) := Lib.hid (HBAD.out (by rw [decide_eq_false (by omega : ¬ sm.size ≤ 60)]; simp))
          clear hgk1 hgk2 HBAD HFIT
          go_wp2_with fail
          obtain ⟨p1, p2, p3, -⟩ := put15b HBAr.out HBBr.out HGR.out HB0.out (.int .i64 0) (.string ⟨#[]⟩) (.string ⟨#[]⟩) (.bool false) (.slice none 0 0) (.bool false) (.slice none 0 0) (.int .i64 0) (.int .i64 0) (.string ⟨#[]⟩) (.string ⟨#[]⟩) (.string ⟨#[]⟩) (.bool false) (.slice none 0 0) (.int .i64 0)
          obtain ⟨r0, r1, r2, r3, r4, r5, r6, r7⟩ := cells8u p1
          obtain ⟨s0, s1, s2, s3, s4, s5, s6, -⟩ := cells7u p2
          refine bodyPost_ret (v := .tuple #[.agg z8, .agg z7, .bool false]) (by simp [results, Tryz.results5, go_sem, r0, r1, r2, r3, r4, r5, r6, r7, s0, s1, s2, s3, s4, s5, s6, z8, z7]) rfl (both_none HN.out p3)
        focus
          have v1 : decide (60 < sn.size) = false := decide_eq_false (by omega); have v1i : decide ((60 : Int) < (sn.size : Int)) = false := decide_eq_false (by omega)
          have v2 : decide (60 < sm.size) = false := decide_eq_false (by omega); have v2i : decide ((60 : Int) < (sm.size : Int)) = false := decide_eq_false (by omega)
          have v3 : decide (80 < su.size) = true := decide_eq_true (by omega); have v3i : decide ((80 : Int) < (su.size : Int)) = true := decide_eq_true (by omega)
          have HN : Hid (bothC l = none) := Lib.hid (HBAD.out (by rw [decide_eq_false (by omega : ¬ su.size ≤ 80)]; simp))
          clear hgk1 hgk2 HBAD HFIT
          go_wp2_with fail
          obtain ⟨p1, p2, p3, -⟩ := put15b HBAr.out HBBr.out HGR.out HB0.out (.int .i64 0) (.string ⟨#[]⟩) (.string ⟨#[]⟩) (.bool false) (.slice none 0 0) (.bool false) (.slice none 0 0) (.int .i64 0) (.int .i64 0) (.string ⟨#[]⟩) (.string ⟨#[]⟩) (.string ⟨#[]⟩) (.bool false) (.slice none 0 0) (.int .i64 0)
          obtain ⟨r0, r1, r2, r3, r4, r5, r6, r7⟩ := cells8u p1
          obtain ⟨s0, s1, s2, s3, s4, s5, s6, -⟩ := cells7u p2
          refine bodyPost_ret (v := .tuple #[.agg z8, .agg z7, .bool false]) (by simp [results, Tryz.results5, go_sem, r0, r1, r2, r3, r4, r5, r6, r7, s0, s1, s2, s3, s4, s5, s6, z8, z7]) rfl (both_none HN.out p3)
        focus
          have v1 : decide (60 < sn.size) = false := decide_eq_false (by omega); have v1i : decide ((60 : Int) < (sn.size : Int)) = false := decide_eq_false (by omega)
          have v2 : decide (60 < sm.size) = false := decide_eq_false (by omega); have v2i : decide ((60 : Int) < (sm.size : Int)) = false := decide_eq_false (by omega)
          have v3 : decide (80 < su.size) = false := decide_eq_false (by omega); have v3i : decide ((80 : Int) < (su.size : Int)) = false := decide_eq_false (by omega)
          have HFC : Hid (fitsC ⟨op, kids, nm, md, nu, ys⟩ = true) := Lib.hid (by rw [HFIT.out, decide_eq_true h60, decide_eq_true h61, decide_eq_true h80]; rfl)
          clear HBAD HFIT h60 h61 h80
          go_upto_region 9 with fail
          go_upto_region 10 with fail
          have hga := World.grownBy_alloc W1 (.cells #[.int .i64 op, .string sn, .string sm, .bool false, .slice none 0 0, .bool ys, .slice none 0 0, .int .i64 0] 30) none
          have hbe := heap_alloc_new W1 (.cells #[.int .i64 op, .string sn, .string sm, .bool false, .slice none 0 0, .bool ys, .slice none 0 0, .int .i64 0] 30)
          generalize (W1.alloc (.cells #[.int .i64 op, .string sn, .string sm, .bool false, .slice none 0 0, .bool ys, .slice none 0 0, .int .i64 0] 30)) = W2 at *
          obtain ⟨be, hbee⟩ : ∃ be, W1.heap.size = be := ⟨_, rfl⟩
          rw [hbee] at hbe ⊢
          have HBE := Lib.hid hbe; have HGA := Lib.hid hga
          have HBEE := Lib.hid hbee
          have HZE : Hid (bc < be) := Lib.hid (by rw [← hbee]; exact hbcw)
          have HBCE := Lib.hid (bx hga HBC.out)
          clear hga hbe hbee t0 t1 t2 t3 t4 t5 c0 c1 c2 c3 c4 c5 c6 c7 d0 d1 d2 d3 d4 d5 d6 d7 fz hbw hbw1 hbcw
          obtain ⟨t0, t1, t2, t3, t4, t5⟩ := cells6u HBCE.out
          obtain ⟨c0, c1, c2, c3, c4, c5, c6, c7⟩ := cells8u HBE.out
          have fz := frz HBE.out
          have hbew : be < W2.heap.size := hlt HBE.out
          have hbcw : bc < W2.heap.size := hlt HBCE.out
          have HPA := Lib.hid (Zd.Parse_c su W2)
          by_cases h1 : op = 1
          focus
            have h1b : (op == 1) = true := by rw [h1]; rfl
            have h1n : numC ⟨op, kids, nm, md, nu, ys⟩ = Zd.parseV su.data.toList := by rw [← HSU.out]; unfold numC; rw [if_pos h1]
            have H1N := Lib.hid h1n
            clear h1 h1n
            go_wp2_with fail
            refine HPA.out.mono ?_
            rintro e W3 ⟨xv, rfl, hiv, hg3, hxb⟩
            obtain ⟨s, v, Nn, rfl, ⟨pw, nw, cw, ff, rfl, hr1⟩, hr2⟩ := id hiv
            have hxb := hxb s pw nw cw rfl
            have hsome := fun h0 => Zd.int_some hiv h0
            have hb3 := bx hg3 HBE.out
            obtain ⟨t0, t1, t2, t3, t4, t5⟩ := cells6u (bx hg3 HBCE.out)
            obtain ⟨c0, c1, c2, c3, c4, c5, c6, c7⟩ := cells8u hb3
            have fz := frz hb3
            have hbew : be < W3.heap.size := hlt hb3
            have hbcw : bc < W3.heap.size := Nat.lt_of_lt_of_le hbcw hg3.size
            have HN1 : Hid (∃ s, W3.heap[be]? = some s) := Lib.hid ⟨_, hb3⟩
            have hs4 : (((W3.setCell ⟨be, 3, none⟩ (.bool s)).setCell ⟨be, 4, none⟩ (.slice pw nw cw))).heap[be]? = some (.cells #[.int .i64 op, .string sn, .string sm, .bool s, .slice pw nw cw, .bool ys, .slice none 0 0, .int .i64 0] 30 (0, 0)) := set_cells (i := 4) (u := .slice pw nw cw) (set_cells (i := 3) (u := .bool s) hb3)
            have hfs : Fr2 (fun k => k = be) W3 ((W3.setCell ⟨be, 3, none⟩ (.bool s)).setCell ⟨be, 4, none⟩ (.slice pw nw cw)) := ((Fr2.refl (fun k => k = be) W3).setCell (rfl : (fun k => k = be) be) _).setCell (rfl : (fun k => k = be) be) _
            have hzb : W1.heap.size ≤ be := Nat.le_of_eq HBEE.out
            have HG3 : Hid (W1.grownBy ((W3.setCell ⟨be, 3, none⟩ (.bool s)).setCell ⟨be, 4, none⟩ (.slice pw nw cw)) none) := Lib.hid (fr_after (gb_trans HGA.out hg3) hfs (fun i hi => by have hi : i = be := hi; omega))
            have hne : 0 < nw → ∀ a, pw = some a → a.block ≠ be := fun h0 a ha e => by
              obtain ⟨a', ha', hb'⟩ := hxb h0
              rw [ha] at ha'; injection ha' with ha'; subst ha'
              have := hlt HBE.out; omega
            have HI : Hid (Zd.IsInt ((W3.setCell ⟨be, 3, none⟩ (.bool s)).setCell ⟨be, 4, none⟩ (.slice pw nw cw)) (.agg #[.bool s, .slice pw nw cw]) (numC ⟨op, kids, nm, md, nu, ys⟩)) := Lib.hid (by
              rw [H1N.out]
              exact int_sameS hiv hfs (fun h0 a ha e => hne h0 a ha e))
            have HIF : Hid (0 < nw → ∃ a, pw = some a ∧ be < a.block ∧ a.block < (((W3.setCell ⟨be, 3, none⟩ (.bool s)).setCell ⟨be, 4, none⟩ (.slice pw nw cw))).heap.size) := Lib.hid (fun h0 => by
              obtain ⟨a, ha, hb'⟩ := hxb h0
              obtain ⟨a', ha', hl'⟩ := hsome h0
              rw [ha] at ha'; injection ha' with ha'; subst ha'
              exact ⟨a, ha, by have := hlt HBE.out; have := HZE.out; omega, Nat.lt_of_lt_of_le hl' hfs.size⟩)
            have HBC4 := Lib.hid (hfs.keep (bx hg3 HBCE.out) (by have := HZE.out; omega))
            have HB4 := Lib.hid hs4
            clear hiv hxb hsome hr1 hr2 hs4 hfs hne hb3 hg3
            go_upto_region 12 with fail
            clear t0 t1 t2 t3 t4 t5 c0 c1 c2 c3 c4 c5 c6 c7 fz hbew hbcw hzb HN1 h1b HPA H1N
            generalize ((W3.setCell ⟨be, 3, none⟩ (.bool s)).setCell ⟨be, 4, none⟩ (.slice pw nw cw)) = W4 at *
          rotate_left 1
          focus
            have h1b : (op == 1) = false := beq_eq_false_iff_ne.2 h1
            have h1n : numC ⟨op, kids, nm, md, nu, ys⟩ = 0 := by unfold numC; rw [if_neg h1]
            obtain ⟨s, hse⟩ : ∃ s : Bool, false = s := ⟨_, rfl⟩
            obtain ⟨pw, hpw⟩ : ∃ p : Option Addr, none = p := ⟨_, rfl⟩
            obtain ⟨nw, hnw⟩ : ∃ n : Nat, 0 = n := ⟨_, rfl⟩
            obtain ⟨cw, hcw⟩ : ∃ n : Nat, 0 = n := ⟨_, rfl⟩
            have HI : Hid (Zd.IsInt W2 (.agg #[.bool s, .slice pw nw cw]) (numC ⟨op, kids, nm, md, nu, ys⟩)) := Lib.hid (by rw [h1n, ← hse, ← hpw, ← hnw, ← hcw]; exact Zd.zero_int _)
            have HIF : Hid (0 < nw → ∃ a, pw = some a ∧ be < a.block ∧ a.block < W2.heap.size) := Lib.hid (fun h0 => by omega)
            have HB4 : Hid (W2.heap[be]? = some (.cells #[.int .i64 op, .string sn, .string sm, .bool s, .slice pw nw cw, .bool ys, .slice none 0 0, .int .i64 0] 30 (0, 0))) := Lib.hid (by rw [← hse, ← hpw, ← hnw, ← hcw]; exact HBE.out)
            have HG3 := HGA; have HBC4 := HBCE
            clear h1 h1n hse hpw hnw hcw
            go_upto_region 12 with fail
            clear t0 t1 t2 t3 t4 t5 c0 c1 c2 c3 c4 c5 c6 c7 fz hbew hbcw h1b HPA
            clear HGA HBCE HBE
            generalize W2 = W4 at *
          rotate_left 1
          all_goals
            obtain ⟨T, hT⟩ : ∃ T, takesC ⟨op, kids, nm, md, nu, ys⟩ = T := ⟨_, rfl⟩
            have hT9 : T ≤ 9 := by rw [← hT]; exact takesC_le _
            have HTK : Hid (∀ W, Calls Tryz.prog 13 #[.agg #[.int .i64 op, .int .i64 kids, .string sn, .string sm, .string su, .bool ys]] W (NumPost (T : Int) W)) := Lib.hid (fun W => by
              have := takes_c ⟨op, kids, nm, md, nu, ys⟩ W HKC.out
              unfold cval strV at this
              rw [hT] at this
              simp only at this
              rw [HSN.out, HSM.out, HSU.out] at this
              exact this)
            have HST4 := Lib.hid (HST.out.kept HG3.out)
            have hnv : nv = rows.length := by obtain ⟨p', c', e, -⟩ := HST4.out.1.is; injection e
            have hrl : rows.length = (stackC (l.take j)).length := HST4.out.2.1.len
            have hrl30 : rows.length ≤ 30 := by rw [hrl]; have h1 := stackC_len (l.take j); rw [List.length_take] at h1; omega
            obtain ⟨nk, hnk⟩ : ∃ nk, min T nv = nk := ⟨_, rfl⟩
            have hmin : min (T : Int) (nv : Int) = (nk : Int) := by omega
            have hnk2 : nk ≤ nv := by omega
            have hnk9 : nk ≤ 9 := by omega
            have HTT := Lib.hid hT; have HNV := Lib.hid hnv; have HRL := Lib.hid hrl; have HR30 := Lib.hid hrl30; have HNK := Lib.hid hnk
            clear hT hT9 hnv hrl hrl30 hnk
            obtain ⟨t0, t1, t2, t3, t4, t5⟩ := cells6u HBC4.out
            have hbcw : bc < W4.heap.size := hlt HBC4.out
            go_wp2_with fail
            refine (HTK.out W4).mono ?_
            rintro e W5 ⟨rfl, hg5⟩
            have HB5 := Lib.hid (bx hg5 HB4.out); have HBC5 := Lib.hid (bx hg5 HBC4.out); have HG5 := Lib.hid (gb_trans HG3.out hg5)
            have HI5 := Lib.hid (HI.out.kept hg5)
            have HIF5 : Hid (0 < nw → ∃ a, pw = some a ∧ be < a.block ∧ a.block < W5.heap.size) := Lib.hid (fun h0 => by obtain ⟨a, ha, h1, h2⟩ := HIF.out h0; exact ⟨a, ha, h1, Nat.lt_of_lt_of_le h2 hg5.size⟩)
            have HST5 := Lib.hid (HST.out.kept HG5.out)
            clear hg5 t0 t1 t2 t3 t4 t5 hbcw HTK HI HIF HB4 HBC4 HST4
            go_upto_region 13 with fail
            have hcv : nv ≤ cv := by
              obtain ⟨p', c', e, -, h2, -⟩ := HST5.out.1.is
              injection e with e1 e2 e3
              have := HNV.out; omega
            obtain ⟨nd, hnd⟩ : ∃ nd, nv - nk = nd := ⟨_, rfl⟩
            have hw1 : IntKind.i64.wrap ((nv : Int) - (nk : Int)) = (nd : Int) := by rw [IntWalk.i64_in _ (by have := HNV.out; have := HR30.out; omega)]; omega
            have q1 : (0 : Int) ≤ (nd : Int) := by omega
            have q2 : (nd : Int) ≤ (nv : Int) := by omega
            have q3 : nd ≤ nv := by omega
            have q4 : (nv : Int) ≤ (cv : Int) := by omega
            have q5 : ¬ (nv : Int) < (nd : Int) := by omega
            have q6 : nv - nd = nk := by omega
            have q7 : nd ≤ cv := by omega
            have HND := Lib.hid hnd
            clear hnd
            obtain ⟨c0, c1, c2, c3, c4, c5, c6, c7⟩ := cells8u HB5.out
            have fz := frz HB5.out
            have hbew : be < W5.heap.size := hlt HB5.out
            have HSPL : Hid (∃ o1 o2 r1 r2, stackC (l.take j) = o1 ++ o2 ∧ rows = r1 ++ r2 ∧ r1.length = nd ∧ o1.length = nd ∧ r2.length = nk ∧ stackC (l.take (j + 1)) = o1 ++ [.mk op nm md (numC ⟨op, kids, nm, md, nu, ys⟩) ys o2 0]) := Lib.hid (by
              have h1 := HRL.out
              have h2 := HNV.out; have h3 := HND.out; have h4 := HNK.out
              refine ⟨(stackC (l.take j)).take nd, (stackC (l.take j)).drop nd, rows.take nd, rows.drop nd, (List.take_append_drop _ _).symm, (List.take_append_drop _ _).symm, by rw [List.length_take]; omega, by rw [List.length_take]; omega, by rw [List.length_drop]; omega, ?_⟩
              rw [List.take_add_one, HC.out]
              show stackC (l.take j ++ [_]) = _
              rw [stackC_snoc]
              unfold stepC
              rw [HTT.out, show (stackC (l.take j)).length - T = nd by omega])
            obtain ⟨o1, o2, r1, r2, ho, hr, hr1, ho1, hr2, hst⟩ := HSPL.out
            have HSTK := Lib.hid hst
            have hOW := HST5.out
            rw [ho, hr] at hOW
            have HOW := Lib.hid hOW
            have hOW1 := HST.out
            rw [ho, hr] at hOW1
            have HKID := Lib.hid (fun (pk : Option Addr) (nk' ck : Nat) (W7 : World) h7 h8 => kids_at (B := b0 + 2) (pk := pk) (nk := nk') (ck := ck) (W7 := W7) (op := op) (ys := ys) HSN.out HSM.out hOW1 hr1 ho1 HI5.out HIF5.out HB5.out HBEE.out HG5.out (by have := HZC.out; have := HZE.out; omega) h7 h8)
            have hpv : (pv = none ∧ r2 = []) ∨ ∃ ga, pv = some ⟨ga, 0, none⟩ := by
              rcases hOW.1.1.2 with ⟨e, h0⟩ | ⟨ga, cap, cur, e, -⟩
              · injection e with e1
                left
                refine ⟨e1, ?_⟩
                have h1 : (r1 ++ r2).length = 0 := h0
                rw [List.length_append] at h1
                exact List.eq_nil_of_length_eq_zero (by omega)
              · injection e with e1
                exact .inr ⟨ga, e1⟩
            have HR1 := Lib.hid hr1; have HO1 := Lib.hid ho1; have HR2 := Lib.hid hr2
            have HW2 : Hid (Wid 8 r2) := Lib.hid (fun q hq => hOW.1.2 q (List.mem_append_right _ hq))
            clear ho hr hr1 ho1 hr2 hst hOW hOW1 HSPL HST HST5
            have hsrc : ∃ pS : Option Addr, (match pv with | none => pS = none | some a => (cv = nd ∧ pS = some a ∧ True) ∨ (cv ≠ nd ∧ ∃ ga, a = ⟨ga, 0, none⟩ ∧ pS = some ⟨ga, nd * 8, none⟩)) ∧ Hid (∀ W6, W5.grownBy W6 none → GAt 8 W6 pS r2) := by
              rcases hpv with ⟨rfl, hr2⟩ | ⟨ga, rfl⟩
              · exact ⟨none, rfl, Lib.hid (fun W6 _ => .inl hr2)⟩
              · by_cases hcd : cv = nd
                · refine ⟨_, .inl ⟨hcd, rfl, trivial⟩, Lib.hid (fun W6 _ => .inl (List.eq_nil_of_length_eq_zero (by have := HR2.out; omega)))⟩
                · exact ⟨_, .inr ⟨hcd, ga, rfl, rfl⟩, Lib.hid (fun W6 h6 => (own_tail HOW.out.1 HR1.out).kept h6)⟩
            obtain ⟨pS, hpS, HSRC⟩ := hsrc
            refine wp_region_lit ?_
            refine wpList_plain rfl (fun K hK => ?_)
            go_simp
            refine hK _ _ ?_
            clear hK
            refine wpList_plain rfl (fun K hK => ?_)
            go_simp
            refine hK _ _ ?_
            clear hK
            refine wpList_plain rfl (fun K hK => ?_)
            go_simp
            refine hK _ _ ?_
            clear hK
            refine wpList_plain rfl (fun K hK => ?_)
            go_simp
            refine hK _ _ ?_
            clear hK
            refine wpList_plain rfl (fun K hK => ?_)
            go_simp
            refine hK _ _ ?_
            clear hK
            refine wpList_plain rfl (fun K hK => ?_)
            go_simp
            refine hK _ _ ?_
            clear hK
            have hown6 : OwnG 8 30 (W5.alloc (.cells #[] 30)) W5.heap.size (.slice (some ⟨W5.heap.size, 0, none⟩) 0 0) [] := ⟨World.ownsRow_made W5 #[] 0 (Nat.le_refl _) (by unfold maxLen; omega) rfl, fun q hq => by cases hq⟩
            have hg6 := World.grownBy_alloc W5 (.cells #[] 30) none
            have hsz6 : (W5.alloc (.cells #[] 30)).heap.size = W5.heap.size + 1 := by simp
            have hw : (pv = none ∧ pS = none) ∨ (∃ a, pv = some a ∧ cv = nd ∧ pS = some a) ∨ (∃ ga, pv = some ⟨ga, 0, none⟩ ∧ cv ≠ nd ∧ pS = some ⟨ga, nd * 8, none⟩) := by
              cases pv with
              | none => exact .inl ⟨rfl, hpS⟩
              | some a =>
                rcases hpS with ⟨h1, h2, -⟩ | ⟨h1, ga, h2, h3⟩
                · exact .inr (.inl ⟨a, rfl, h1, h2⟩)
                · exact .inr (.inr ⟨ga, by rw [h2], h1, h3⟩)
            have HPV := Lib.hid hpv
            clear hpS hpv
            rcases hw with ⟨rfl, rfl⟩ | ⟨a, rfl, hcd, rfl⟩ | ⟨ga, rfl, hcd, rfl⟩
            focus
              refine wpList_plain rfl (fun K hK => ?_)
              go_simp
              refine hK _ _ ?_
              clear hK
            rotate_left 1
            focus
              have hcd' := hcd.symm
              clear hcd
              subst hcd'
              refine wpList_plain rfl (fun K hK => ?_)
              go_simp
              refine hK _ _ ?_
              clear hK
            rotate_left 1
            focus
              refine wpList_plain rfl (fun K hK => ?_)
              go_simp
              refine hK _ _ ?_
              clear hK
            rotate_left 1
            all_goals
              refine wpList_appGs (s := 8) (t := 28) (T := 30) (by decide) Tryz.underlying28 infoExS rfl (by omega) rfl (Operand.tmp 64) (Operand.tmp 70) rfl W5.heap.size [] r2 HW2.out (.slice (some ⟨W5.heap.size, 0, none⟩) 0 0) rfl hown6 _ nk _ rfl HR2.out (HSRC.out _ hg6) (by simp) (by omega) (by omega) ?_
              intro pk nk' ck W7 hnn hO7 hbl7 hg7
              obtain ⟨hb7, hb8, hg8, how8, hx8, hot8⟩ := HKID.out pk nk' ck W7 hO7 hg7
              have HB8 := Lib.hid hb8; have HG8 := Lib.hid hg8; have HOW8 := Lib.hid how8; have HX8 := Lib.hid hx8; have HOT := Lib.hid hot8
              obtain ⟨c0, c1, c2, c3, c4, c5, c6, c7⟩ := cells8u hb7
              have fz := frz hb7
              have hbew : be < W7.heap.size := hlt hb7
              clear hb7 hb8 hg8 how8 hx8 hot8 hnn hO7 hbl7 hg7 hown6 hg6 hsz6
              go_upto_region 14 with fail
              clear c0 c1 c2 c3 c4 c5 c6 c7 fz hbew
              generalize (W7.setCell ⟨be, 6, none⟩ (.slice pk nk' ck)) = W8 at *
              obtain ⟨c0, c1, c2, c3, c4, c5, c6, c7⟩ := cells8u HB8.out
              have hbew : be < W8.heap.size := hlt HB8.out
              have HONE := Lib.hid HX8.out.eight.2
              have HNEW := Lib.hid (heap_alloc_new W8 (.cells #[.int .i64 op, .string sn, .string sm, .bool s, .slice pw nw cw, .bool ys, .slice pk nk' ck, .int .i64 0] 30))
              have HRL1 : Hid (r1.length ≤ 1000000) := Lib.hid (by have := HR1.out; have := HNV.out; have := HR30.out; omega)
              have HBZ : Hid (b0 + 2 ≤ W8.heap.size) := Lib.hid HOW8.out.2.2
              have HFT9 : Hid ((l.take (j + 1)).all fitsC = true) := Lib.hid (by rw [List.take_add_one, HC.out, List.all_append, HFT.out]; simp [HFC.out])
              go_region_law (first | (refine step_appGl (s := 8) (t := 28) (T := 30) (by decide) Tryz.underlying28 infoExS rfl (by omega) rfl _ _ rfl (b0 + 2) r1 [.int .i64 op, .string sn, .string sm, .bool s, .slice pw nw cw, .bool ys, .slice pk nk' ck, .int .i64 0] rfl HONE.out (.slice none nd cv) rfl (OwnG.kept HOT.out (by repeat (first | with_reducible exact gb_refl _ _ | with_reducible refine gb_drew ?_ | with_reducible refine gb_drewN ?_ _ | with_reducible refine gb_alloc ?_ _))) W8.heap.size _ rfl (by exact HNEW.out) rfl HRL1.out (by have := HBZ.out; simp; omega) (W8.heap.size + 1) (by simp) ?_; intro g9 cap9 w9 hO9 hg9 hl9; have hpf := push_fin (W := W) HOW8.out HR1.out HO1.out HX8.out (show W8.grownBy _ none from (by repeat (first | with_reducible exact gb_refl _ _ | with_reducible refine gb_drew ?_ | with_reducible refine gb_drewN ?_ _ | with_reducible refine gb_alloc ?_ _))) hO9 hg9 hl9 (by simp) (gb_trans HGr.out HG8.out) (by have := HSB.out; omega); have HST9 := Lib.hid hpf.1; have HG9 := Lib.hid hpf.2; clear hpf hO9 hg9 hl9) | (refine step_appGl (s := 8) (t := 28) (T := 30) (by decide) Tryz.underlying28 infoExS rfl (by omega) rfl _ _ rfl (b0 + 2) r1 [.int .i64 op, .string sn, .string sm, .bool s, .slice pw nw cw, .bool ys, .slice pk nk' ck, .int .i64 0] rfl HONE.out (.slice (some a) nd nd) rfl (OwnG.kept HOT.out (by repeat (first | with_reducible exact gb_refl _ _ | with_reducible refine gb_drew ?_ | with_reducible refine gb_drewN ?_ _ | with_reducible refine gb_alloc ?_ _))) W8.heap.size _ rfl (by exact HNEW.out) rfl HRL1.out (by have := HBZ.out; simp; omega) (W8.heap.size + 1) (by simp) ?_; intro g9 cap9 w9 hO9 hg9 hl9; have hpf := push_fin (W := W) HOW8.out HR1.out HO1.out HX8.out (show W8.grownBy _ none from (by repeat (first | with_reducible exact gb_refl _ _ | with_reducible refine gb_drew ?_ | with_reducible refine gb_drewN ?_ _ | with_reducible refine gb_alloc ?_ _))) hO9 hg9 hl9 (by simp) (gb_trans HGr.out HG8.out) (by have := HSB.out; omega); have HST9 := Lib.hid hpf.1; have HG9 := Lib.hid hpf.2; clear hpf hO9 hg9 hl9) | (refine step_appGl (s := 8) (t := 28) (T := 30) (by decide) Tryz.underlying28 infoExS rfl (by omega) rfl _ _ rfl (b0 + 2) r1 [.int .i64 op, .string sn, .string sm, .bool s, .slice pw nw cw, .bool ys, .slice pk nk' ck, .int .i64 0] rfl HONE.out (.slice (some ⟨ga, 0, none⟩) nd cv) rfl (OwnG.kept HOT.out (by repeat (first | with_reducible exact gb_refl _ _ | with_reducible refine gb_drew ?_ | with_reducible refine gb_drewN ?_ _ | with_reducible refine gb_alloc ?_ _))) W8.heap.size _ rfl (by exact HNEW.out) rfl HRL1.out (by have := HBZ.out; simp; omega) (W8.heap.size + 1) (by simp) ?_; intro g9 cap9 w9 hO9 hg9 hl9; have hpf := push_fin (W := W) HOW8.out HR1.out HO1.out HX8.out (show W8.grownBy _ none from (by repeat (first | with_reducible exact gb_refl _ _ | with_reducible refine gb_drew ?_ | with_reducible refine gb_drewN ?_ _ | with_reducible refine gb_alloc ?_ _))) hO9 hg9 hl9 (by simp) (gb_trans HGr.out HG8.out) (by have := HSB.out; omega); have HST9 := Lib.hid hpf.1; have HG9 := Lib.hid hpf.2; clear hpf hO9 hg9 hl9))
              all_goals
                go_wp2_with fail
                rw [← HSTK.out] at HST9
                have hgm : m - (j + 1) < gk := by omega
                go_roundg (m - (j + 1))
                case rel => exact ⟨j + 1, _, _, _, _, by omega, by go_num, rfl, Nat.le_refl _, by omega, HST9, HFT9, HG9⟩
                case measure => omega
      · obtain rfl : j = m := by omega
        have y3 : decide ((j : Int) < (j : Int)) = false := decide_eq_false (by omega)
        have hfull : l.take j = l := List.take_of_length_le (by rw [HM.out]; exact Nat.le_refl _)
        rw [hfull] at HST HFT
        have HB30 : Hid (bothC l = (stackC l).getLast?) := Lib.hid (by
          unfold bothC
          rw [if_neg (by rw [HM.out]; omega), if_pos HFT.out])
        have hnv : nv = rows.length := by obtain ⟨p', c', e, -⟩ := HST.out.1.is; injection e
        have hrl : rows.length = (stackC l).length := HST.out.2.1.len
        have hrl30 : rows.length ≤ 30 := by rw [hrl]; have h1 := stackC_len l; have h2 := HM.out; omega
        clear hfull
        rcases list_lastS (stackC l) with ho | ⟨o1, x, ho⟩
        · have HN : Hid (bothC l = none) := Lib.hid (by rw [HB30.out, ho]; rfl)
          have hnv0 : nv = 0 := by rw [hnv, hrl, ho]; rfl
          subst hnv0
          obtain ⟨c0, c1, c2, c3, c4, c5, c6, c7⟩ := cells8u HBAr.out
          obtain ⟨d0, d1, d2, d3, d4, d5, d6, d7⟩ := cells7u HBBr.out
          have fz := frz HBAr.out
          clear hnv hrl hrl30 ho hj hgk1 hgk2 hm30
          go_wp2_with fail
          obtain ⟨p1, p2, p3, -⟩ := put15b HBAr.out HBBr.out HGR.out HB0.out (.int .i64 0) (.string ⟨#[]⟩) (.string ⟨#[]⟩) (.bool false) (.slice none 0 0) (.bool false) (.slice none 0 0) (.int .i64 0) (.int .i64 0) (.string ⟨#[]⟩) (.string ⟨#[]⟩) (.string ⟨#[]⟩) (.bool false) (.slice none 0 0) (.int .i64 0)
          obtain ⟨r0, r1, r2, r3, r4, r5, r6, r7⟩ := cells8u p1
          obtain ⟨s0, s1, s2, s3, s4, s5, s6, -⟩ := cells7u p2
          refine bodyPost_ret (v := .tuple #[.agg z8, .agg z7, .bool false]) (by simp [results, Tryz.results5, go_sem, r0, r1, r2, r3, r4, r5, r6, r7, s0, s1, s2, s3, s4, s5, s6, z8, z7]) rfl (both_none HN.out p3)
        · have HSOME : Hid (bothC l = some x) := Lib.hid (by rw [HB30.out, ho, List.getLast?_append]; rfl)
          have hst := HST.out
          rw [ho] at hst
          obtain ⟨r1, r2, rfl, hl1, hl2⟩ := LsS.split hst.2.1
          simp only [LsS] at hl2
          obtain ⟨q, r', rfl, hx, rfl⟩ := hl2
          have hr1 : r1.length + 1 = nv := by rw [hnv]; simp
          obtain ⟨L, hL⟩ : ∃ L, r1.length = L := ⟨_, rfl⟩
          obtain ⟨-, -, ga, rfl⟩ := hst.1.popS
          have hcell := fun i v hi => hst.1.cellS (j := r1.length) (i := i) (q := q) (v := v) (by simp) hi
          have hga : ga < wr.heap.size := (hst.1.at ga rfl).2
          cases x with
          | mk op1 nm1 md1 nu1 ys1 ks1 ps1 =>
            have hxs := hx
            simp only [SAt] at hxs
            obtain ⟨s1, pw1, nw1, cw1, pk1, ck1, rows1, rfl, -⟩ := hxs
            have HX := Lib.hid hx
            unfold strV at *
            generalize hy1 : (⟨nm1.toArray⟩ : ByteArray) = y1 at *
            generalize hz1 : (⟨md1.toArray⟩ : ByteArray) = z1 at *
            generalize hk1 : ks1.length = kl1 at *
            rw [hL] at hcell hr1
            have k0 := hcell 0 _ rfl
            have k1 := hcell 1 _ rfl
            have k2 := hcell 2 _ rfl
            have k3 := hcell 3 _ rfl
            have k4 := hcell 4 _ rfl
            have k5 := hcell 5 _ rfl
            have k6 := hcell 6 _ rfl
            have k7 := hcell 7 _ rfl
            rw [Nat.add_zero] at k0
            have hwL : IntKind.i64.wrap ((nv : Int) - 1) = (L : Int) := by rw [IntWalk.i64_in _ (by omega)]; omega
            have n0 : ((nv : Int) == 0) = false := beq_eq_false_iff_ne.2 (by omega)
            have n0' : ¬ nv = 0 := by omega
            have n1 : (0 : Int) ≤ (L : Int) := by omega
            have n2 : (L : Int) < (nv : Int) := by omega
            have n3 : decide (L < nv) = true := decide_eq_true (by omega)
            have HR1 := Lib.hid hr1
            clear hnv hrl hrl30 ho hst hl1 hcell hj hgk1 hgk2 hm30 HB30 HST hy1 hz1 hk1 hx hr1 hL
            have hga2 := World.grownBy_alloc wr (.cells #[.int .i64 op1, .string y1, .string z1, .bool s1, .slice pw1 nw1 cw1, .bool ys1, .slice pk1 kl1 ck1, .int .i64 ps1] 30) none
            have hbt := heap_alloc_new wr (.cells #[.int .i64 op1, .string y1, .string z1, .bool s1, .slice pw1 nw1 cw1, .bool ys1, .slice pk1 kl1 ck1, .int .i64 ps1] 30)
            have HEXP := Lib.hid (fun W (h : wr.grownBy W none) => mexpr_c 30 _ (bothC_siz HSOME.out) _ _ W (HX.out.kept h) (bothC_ok HSOME.out) (by omega))
            go_upto_region 19 with fail
            generalize (wr.alloc (.cells #[.int .i64 op1, .string y1, .string z1, .bool s1, .slice pw1 nw1 cw1, .bool ys1, .slice pk1 kl1 ck1, .int .i64 ps1] 30)) = WT at *
            obtain ⟨bt, hbte⟩ : ∃ bt, wr.heap.size = bt := ⟨_, rfl⟩
            rw [hbte] at hbt ⊢
            have HGT := Lib.hid hga2; have HBT := Lib.hid hbt
            have HBAt := Lib.hid (bx hga2 HBAr.out); have HBBt := Lib.hid (bx hga2 HBBr.out)
            clear hga2 hbt k0 k1 k2 k3 k4 k5 k6 k7 hga hbw hbw1
            obtain ⟨t0, t1, t2, t3, t4, t5, t6, t7⟩ := cells8u HBT.out
            obtain ⟨c0, c1, c2, c3, c4, c5, c6, c7⟩ := cells8u HBAt.out
            obtain ⟨d0, d1, d2, d3, d4, d5, d6, d7⟩ := cells7u HBBt.out
            have fz := frz HBAt.out
            have hbtw : bt < WT.heap.size := hlt HBT.out
            have hbw : b0 < WT.heap.size := hlt HBAt.out
            have hbw1 : b0 + 1 < WT.heap.size := hlt HBBt.out
            have HSZ : Hid (b0 + 2 ≤ WT.heap.size) := Lib.hid (by omega)
            go_region_law (first | (go_simp; go_at_call 14; refine (HEXP.out _ (gb_trans HGT.out (by repeat (first | with_reducible exact gb_refl _ _ | with_reducible refine gb_drew ?_ | with_reducible refine gb_drewN ?_ _ | with_reducible refine gb_alloc ?_ _)))).mono ?_; rintro e w7 ⟨hg7, r, rfl, hr⟩; have hr2 := hr; simp only [RSt] at hr2; obtain ⟨pk2, ck2, rows2, rfl, -⟩ := hr2; unfold strV at *; have HG7 := Lib.hid (gb_trans (show WT.grownBy _ none from (by repeat (first | with_reducible exact gb_refl _ _ | with_reducible refine gb_drew ?_ | with_reducible refine gb_drewN ?_ _ | with_reducible refine gb_alloc ?_ _))) hg7); have HR7 := Lib.hid hr.bound; have HQ1 := Lib.hid hr.one.2; obtain ⟨t0, t1, t2, t3, t4, t5, t6, t7⟩ := cells8u (bx HG7.out HBT.out); obtain ⟨c0, c1, c2, c3, c4, c5, c6, c7⟩ := cells8u (bx HG7.out HBAt.out); obtain ⟨d0, d1, d2, d3, d4, d5, d6, d7⟩ := cells7u (bx HG7.out HBBt.out); have fz := frz (bx HG7.out HBAt.out); have hbtw : bt < w7.heap.size := Nat.lt_of_lt_of_le hbtw HG7.out.size; have hbw : b0 < w7.heap.size := Nat.lt_of_lt_of_le hbw HG7.out.size; have hbw1 : b0 + 1 < w7.heap.size := Nat.lt_of_lt_of_le hbw1 HG7.out.size; clear hg7 hr))
            all_goals
              go_wp2_with fail
              obtain ⟨p1, p2, p3, p4⟩ := put15b (bx HG7.out HBAt.out) (bx HG7.out HBBt.out) (gb_trans (gb_trans HGR.out HGT.out) HG7.out) HB0.out (.int .i64 op1) (.string y1) (.string z1) (.bool s1) (.slice pw1 nw1 cw1) (.bool ys1) (.slice pk1 kl1 ck1) (.int .i64 ps1) (.int .i64 op1) (.string ⟨nm1.toArray⟩) (.string ⟨md1.toArray⟩) (.string ⟨(Zd.txtL nu1).toArray⟩) (.bool ys1) (.slice pk2 ks1.length ck2) (.int .i64 ps1)
              obtain ⟨r0, r1', r2, r3, r4, r5, r6, r7⟩ := cells8u p1
              obtain ⟨s0, s1', s2, s3, s4, s5, s6, -⟩ := cells7u p2
              have HEND := Lib.hid (both_end HX.out (fun k hk => ⟨hk.1, hk.2.1⟩) (gb_trans HGT.out HG7.out) HR7.out HSZ.out p4 p3 HSOME.out HB0.out)
              refine bodyPost_ret (v := .tuple #[.agg #[.int .i64 op1, .string y1, .string z1, .bool s1, .slice pw1 nw1 cw1, .bool ys1, .slice pk1 kl1 ck1, .int .i64 ps1], .agg #[.int .i64 op1, .string ⟨nm1.toArray⟩, .string ⟨md1.toArray⟩, .string ⟨(Zd.txtL nu1).toArray⟩, .bool ys1, .slice pk2 ks1.length ck2, .int .i64 ps1], .bool true]) (by simp [results, Tryz.results5, go_sem, r0, r1', r2, r3, r4, r5, r6, r7, s0, s1', s2, s3, s4, s5, s6]) rfl HEND.out
end Go.Proofs.YtddccnpohpaofaaGreatDoor
