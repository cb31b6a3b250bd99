/- Sets made and told. -/
import Derived.Test.YtljpgmhgnfnbkaaBList
namespace Go.Proofs.Ytljpgmhgnfnbkaa
open Go.RowKit Go.Sort

/-- A set's value reads as a list. -/
def IsS (w : World) (x : Value) (zs : List Int) : Prop := ∃ v, x = .agg #[v] ∧ IsL w v zs

/-- A rising list, of just those. -/
def SetOf (S zs : List Int) : Prop := Asc S ∧ ∀ x, x ∈ S ↔ x ∈ zs

def OfPost (zs : List Int) (w : World) (e : Ending) (w' : World) : Prop :=
  ∃ S p n c, e = .returned (.agg #[.slice p n c]) ∧ SetOf S zs ∧ IsL w' (.slice p n c) S ∧ Fr w.heap.size (.slice p n c) ∧ S.length ≤ zs.length ∧ w.grownBy w' none

theorem box1 {W : World} {r : Nat} {a0 u : Value} {T : TypeId} (hb : W.heap[r]? = some (.cells #[a0] T (0, 0))) : (W.setCell ⟨r, 0, none⟩ u).heap[r]? = some (.cells #[u] T (0, 0)) ∧ (W.setCell ⟨r, 0, none⟩ u).cell? ⟨r, 0, none⟩ = some u := by
  have h1 : (W.setCell ⟨r, 0, none⟩ u).heap[r]? = some (.cells #[u] T (0, 0)) := by
    simp only [World.setCell, Array.getElem?_modify, hb, if_true, Option.map_some]; rfl
  exact ⟨h1, by rw [cell_of_row _ r 0 _ T (0, 0) h1]; rfl⟩

set_option maxRecDepth 100000 in
set_option maxHeartbeats 2000000 in
theorem Of_c (p : Option Addr) (c : Nat) (zs : List Int) (w : World) (hl : zs.length ≤ 1000000) (hc : zs.length ≤ c) (h : LAt w p zs) : Calls Try.prog 10 #[.slice p zs.length c] w (OfPost zs w) := by
  have hbx := heap_alloc_new w (.cells #[.slice none 0 0] 25)
  have hga := World.grownBy_alloc w (.cells #[.slice none 0 0] 25) none
  have HBX := Lib.hid hbx; have HGA := Lib.hid hga
  obtain ⟨i0, hi, hi0, hi1, hi2⟩ := infoI_parts
  by_cases hz0 : zs = []
  · subst hz0
    clear h
    clear hbx hga
    have HZ : ∀ W, Calls Try.prog 46 #[.slice none 0 0] W fun e w' => e = .returned (.tuple #[]) ∧ w' = W := fun W => Try.slices_Sort_int_none none 0 W
    have HCP : ∀ W, Calls Try.prog 47 #[.slice none 0 0] W fun e w' => e = .returned (.slice none 0 0) ∧ w' = W := fun W => Try.slices_Compact_int_empty none 0 W
    have hcl : (w.alloc (.cells #[.slice none 0 0] 25)).cell? ⟨w.heap.size, 0, none⟩ = some (.slice none 0 0) := by rw [cell_of_row _ w.heap.size 0 _ _ (0, 0) HBX.out]; rfl
    go_enter Try.func10, Try.ntmps10
    go_wp2_with (first
      | (at_builtin; go_loud (refine wpList_append_zero rfl _ _ _ rfl w.heap.size 3 i0 1 Try.underlying22 hi _ _ _ rfl (World.ownsRow_nil _ _ _ _) p c rfl ?_))
      | (go_at_call 46; refine (HZ _).mono ?_; rintro e w2 ⟨rfl, rfl⟩)
      | (go_at_call 47; refine (HCP _).mono ?_; rintro e w2 ⟨rfl, rfl⟩))
    exact bodyPost_ret (v := .agg #[.slice none 0 0]) (by simp [results, Try.results10, go_sem, hcl]) rfl ⟨[], none, 0, 0, rfl, ⟨by simp [Asc], fun x => by simp⟩, isL_nil _, fr_nil _ _ _, Nat.le_refl _, HGA.out⟩
  · obtain ⟨g, off, rfl, hg, hcell⟩ := h.resolve_left hz0
    obtain ⟨n, hn⟩ : ∃ n, zs.length = n := ⟨_, rfl⟩
    have hne : n ≠ 0 := fun e => hz0 (List.eq_nil_of_length_eq_zero (hn.trans e))
    have HC := Lib.hid hcell; have HN := Lib.hid hn
    have hcells : ∀ j u, (zs.map (Value.int .i64))[j]? = some u → (w.alloc (.cells #[.slice none 0 0] 25)).cell? ((⟨g, off, none⟩ : Addr).add j) = some u := by
      intro j u hj
      have hjn : j < zs.length := by
        have := (List.getElem?_eq_some_iff.1 hj).1
        simpa using this
      rw [Addr.add_lit]
      refine hga.cell ?_ (by simp)
      rw [hcell j hjn]
      have e : (zs.map (Value.int .i64))[j]? = some (Value.int .i64 (zs.getD j 0)) := by simp [List.getD, hjn]
      rw [e] at hj
      exact hj
    have HCE := Lib.hid hcells
    rw [hn] at hl hc ⊢
    clear hbx hga hcell hn hcells
    go_enter Try.func10, Try.ntmps10
    go_wp2_with (at_builtin; go_loud (refine wpList_append_lies (P := Try.prog) _ rfl _ _ _ rfl w.heap.size 3 i0 (.int .i64 0) 1 8 Try.underlying22 hi hi0 hi1 hi2 rfl (by decide) (.slice none 0 0) 0 [] rfl (World.ownsRow_nil _ _ _ _) ⟨g, off, none⟩ n c (zs.map (Value.int .i64)) rfl (by simp; exact HN.out) HCE.out (by intro u hu; obtain ⟨x, _, rfl⟩ := List.mem_map.1 hu; rfl) (by omega) (by unfold maxLen; omega) (by omega) (by simp) (w.heap.size + 1) (by simp) ?_))
    intro g1 cap1 w1 h3 h4 h5 h6
    have h3 : w1.ownsRow w.heap.size 3 1 (.slice (some ⟨g1, 0, none⟩) n cap1) n (zs.map (Value.int .i64)) := by simpa using h3
    have hg1 : w.heap.size + 1 ≤ g1 := by
      rcases h5 with h5 | h5
      · simp [Value.ownBlock] at h5
      · omega
    have G1 : Hid (w.grownBy w1 none) := Lib.hid (gb_trans HGA.out (below_gb (gb_below (show (w.alloc (.cells #[.slice none 0 0] 25)).grownBy w1 none from h4))))
    have HB1 := Lib.hid ((show (w.alloc (.cells #[.slice none 0 0] 25)).grownBy w1 none from h4).block _ (Array.getElem?_eq_some_iff.1 HBX.out).1 (by simp) |>.trans HBX.out)
    obtain ⟨g', cap', he, -, -, hnc, hcm, hlen, hH⟩ := Lib.holds_of_ownsRow (enc := Value.int .i64) h3 (by simp)
    injection he with he1 _ he3
    injection he1 with he1
    injection he1 with he1
    subst he1; subst he3
    have hsort := Try.slices_Sort_int g1 0 cap1 zs w1 hH h6 (by omega)
    have hl2 : (zs.mergeSort fun x y => decide (x ≤ y)).length = zs.length := List.length_mergeSort zs
    obtain ⟨hS1, hS2⟩ := compact_sorted zs
    have hle := Lib.compact_length_le (zs.mergeSort fun x y => decide (x ≤ y))
    generalize (zs.mergeSort fun x y => decide (x ≤ y)) = ys at *
    rw [hlen] at hsort hl2
    have HS := Lib.hid hsort; have HH := Lib.hid hH; have HSET : Hid (SetOf (Lib.compact ys) zs) := Lib.hid ⟨hS1, hS2⟩
    have HL2 := Lib.hid hl2; have HLE := Lib.hid hle; have HG1 := Lib.hid hg1; have H6 := Lib.hid h6; have HNC := Lib.hid hnc; have HCM := Lib.hid hcm
    clear h3 h4 h5 h6 hg1 hH hsort hS1 hS2 hl2 hle hlen hnc hcm HCE HC
    go_wp2_with fail
    refine HS.out.mono ?_
    rintro e w2 ⟨rfl, nn, os, hw2⟩
    have hg2 : w1.grownBy w2 (some g1) := by rw [hw2]; exact gb_grow (gb_putRow _ _ _ _ _) os
    have hH2 : Holds (Value.int .i64) w2 g1 0 ys.toArray := by
      rw [hw2]
      exact holds_grow _ _ os g1 0 _ (by simpa [putRow, mapBlock, Sort.ahead] using H6.out) (holds_putRow _ _ g1 0 _ _ (holds_ahead _ w1 nn g1 0 _ HH.out) (by simp [HL2.out, HN.out]))
    clear hw2
    have hcomp := Try.slices_Compact_int g1 0 cap1 ys w2 hH2 (by have := HL2.out; omega) (by have := HL2.out; have := HNC.out; omega)
    rw [HL2.out] at hcomp
    have HS2 := Lib.hid hcomp; have HG2 := Lib.hid hg2; have HH2 := Lib.hid hH2
    clear hcomp hg2 hH2 HS HH
    go_wp2_with fail
    refine HS2.out.mono ?_
    rintro e w3 ⟨rfl, q, hw3⟩
    have hg3 : w2.grownBy w3 (some g1) := by rw [hw3]; exact gb_putRow _ _ _ _ _
    have hH3 : Holds (Value.int .i64) w3 g1 0 (Lib.compact ys ++ List.replicate (n - (Lib.compact ys).length) 0).toArray := by
      rw [hw3]
      exact holds_putRow _ _ g1 0 _ _ (holds_ahead _ w2 q g1 0 _ HH2.out) (by have := HL2.out; have := HLE.out; simp; omega)
    clear hw3 HS2 HH2
    have hg13 := gb_trans HG2.out hg3
    have hb3 := (hg13.block _ (Array.getElem?_eq_some_iff.1 HB1.out).1 (by have := HG1.out; simp; omega)).trans HB1.out
    have hl3 : LAt w3 (some ⟨g1, 0, none⟩) (Lib.compact ys) := .inr ⟨g1, 0, rfl, Nat.lt_of_lt_of_le H6.out hg13.size, fun j hj => by
      have := (hH3 j (by simp; omega)).1
      rw [this, getElem!_pos _ _ (by simp; omega)]
      simp [List.getD, hj]⟩
    obtain ⟨b1, b2⟩ := box1 (u := .slice (some ⟨g1, 0, none⟩) (Lib.compact ys).length cap1) hb3
    have hcl : w3.cell? ⟨w.heap.size, 0, none⟩ = some (.slice none 0 0) := by rw [cell_of_row _ w.heap.size 0 _ _ (0, 0) hb3]; rfl
    have hfr : w3.frozen? ⟨w.heap.size, 0, none⟩ = false := by simp [World.frozen?, hb3]
    have HL3 := Lib.hid hl3; have HG3 := Lib.hid (gb_new (gb_below G1.out) (by have := HG1.out; omega) hg13)
    clear hg3 hH3 hg13 hb3 hl3 HG2
    go_wp2_with fail
    exact bodyPost_ret (v := .agg #[.slice (some ⟨g1, 0, none⟩) (Lib.compact ys).length cap1]) (by simp [results, Try.results10, go_sem, b2]) rfl ⟨Lib.compact ys, _, _, _, rfl, HSET.out, ⟨_, _, rfl, by have := HLE.out; have := HL2.out; have := HNC.out; omega, HCM.out, HL3.out.grown (gb_set (gb_refl _ _) _) (fun _ a ha => by injection ha with ha; subst ha; have := HG1.out; simp; omega)⟩, (fun p n c e hn => by injection e with e1; subst e1; exact ⟨_, rfl, by have := HG1.out; simp; omega⟩), by have := HLE.out; have := HL2.out; rw [HN.out]; omega, below_gb (gb_new HG3.out (Nat.le_refl _) (gb_set (gb_refl _ _) _))⟩

def LPost (S : List Int) (w : World) (e : Ending) (w' : World) : Prop := ∃ p n c, e = .returned (.slice p n c) ∧ IsL w' (.slice p n c) S ∧ Fr w.heap.size (.slice p n c) ∧ w.grownBy w' none

theorem isL_of_row {w : World} {base : Nat} {e : TypeId} {v : Value} {S : List Int} (h : w.ownsRow base e 1 v S.length (S.map (Value.int .i64))) : IsL w v S ∧ Fr base v := by
  by_cases hv : v = .slice none 0 0
  · subst hv
    rcases h.2 with ⟨-, h0⟩ | ⟨g, cap, cur, he, _⟩
    · obtain rfl := List.eq_nil_of_length_eq_zero h0
      exact ⟨isL_nil _, fr_nil _ _ _⟩
    · cases he
  · obtain ⟨g, cap, rfl, h1, h2, h3, h4, h5, h6⟩ := Lib.holds_of_ownsRow (enc := Value.int .i64) h hv
    exact ⟨⟨_, _, rfl, h3, h4, lat_of_holds h6 h2⟩, fun p n c e hn => by injection e with e1; subst e1; exact ⟨_, rfl, h1⟩⟩

theorem Clone_c (p : Option Addr) (c : Nat) (S : List Int) (w : World) (hl : S.length ≤ 1000000) (h : LAt w p S) : Calls Try.prog 49 #[.slice p S.length c] w (LPost S w) := by
  have hfin : ∀ e w', (∃ v', e = Ending.returned v' ∧ w'.ownsRow w.heap.size 3 1 v' S.length (S.map (Value.int .i64)) ∧ v' ≠ .slice none 0 0 ∧ Below w.heap.size w w') → LPost S w e w' := by
    rintro e w' ⟨v', rfl, h1, -, h2⟩
    obtain ⟨k1, k2⟩ := isL_of_row h1
    obtain ⟨p, c, rfl, r⟩ := k1
    exact ⟨_, _, _, rfl, ⟨p, c, rfl, r⟩, k2, below_gb h2⟩
  by_cases h0 : S = []
  · subst h0
    cases p with
    | none => exact (Try.slices_Clone_int_nil 0 c w).mono fun e w' ⟨h1, h2⟩ => ⟨none, 0, 0, h1, by subst h2; exact isL_nil _, fr_nil _ _ _, by subst h2; exact gb_refl _ _⟩
    | some a => exact (Try.slices_Clone_int_zero a c w).mono fun e w' h => hfin e w' (by simpa using h)
  · obtain ⟨g, off, rfl, hg, hc⟩ := h.resolve_left h0
    exact (Try.slices_Clone_int g off S.length c S w (Nat.le_refl _) (by omega) hc).mono fun e w' h => hfin e w' (by simpa using h)

set_option maxRecDepth 100000 in
theorem Items_c (p : Option Addr) (c : Nat) (S : List Int) (w : World) (hl : S.length ≤ 1000000) (h : LAt w p S) : Calls Try.prog 13 #[.agg #[.slice p S.length c]] w (LPost S w) := by
  have hga := World.grownBy_alloc w (.cells #[.slice p S.length c] 25) none
  have HC := Lib.hid (Clone_c p c S _ hl (h.kept hga))
  have HGA := Lib.hid hga
  have hcl : (w.alloc (.cells #[.slice p S.length c] 25)).cell? ⟨w.heap.size, 0, none⟩ = some (.slice p S.length c) := by rw [cell_of_row _ w.heap.size 0 _ _ (0, 0) (heap_alloc_new w _)]; rfl
  clear h hga
  generalize S.length = n at *
  go_enter Try.func13, Try.ntmps13
  go_wp2_with (go_at_call 49; refine HC.out.mono ?_; rintro e w2 ⟨p2, n2, c2, rfl, h1, h2, h3⟩; have H1 := Lib.hid h1; have H2 := Lib.hid h2; have H3 := Lib.hid h3; clear h1 h2 h3)
  go_ret
  exact ⟨_, _, _, rfl, H1.out, H2.out.le (by simp), gb_trans HGA.out H3.out⟩
end Go.Proofs.Ytljpgmhgnfnbkaa
