/- Rows in a ring: makeRoom. -/
import Derived.Test.YtljpgmhgnfnbkaaBRing3
namespace Go.Proofs.Ytljpgmhgnfnbkaa
open Go.RowKit Mx

def RoomPost (q rg more : Nat) (zs : List Int) (w : World) (e : Ending) (w' : World) : Prop :=
  e = .returned (.tuple #[]) ∧ (∃ rg' R' first' pr' f', RowAt w' q rg' R' first' pr' f' zs ∧ zs.length + more ≤ R' ∧ R' ≤ 1000 ∧ (rg' = rg ∨ (w.heap.size ≤ rg' ∧ 0 < R'))) ∧ w.grownBy w' (some q)

set_option maxRecDepth 100000 in
set_option maxHeartbeats 4000000 in
theorem makeRoom_c {w : World} {q rg R first : Nat} {pr : Option Addr} {f : Nat → Int} {zs : List Int} (more : Nat) (hmo : zs.length + more ≤ 400) (hR : R ≤ 1000) (h : RowAt w q rg R first pr f zs) :
    Calls Try.prog 65 #[.pointer (some ⟨q, 0, none⟩), .int .i64 more] w (RoomPost q rg more zs w) := by
  obtain ⟨x0, x1, x2, x3⟩ := cells3' h.box
  obtain ⟨n, hn⟩ : ∃ n, zs.length = n := ⟨_, rfl⟩
  have hcnt := h.cnt
  have hq := (Array.getElem?_eq_some_iff.1 h.box).1
  have hrl : 0 < R → rg < w.heap.size := fun h0 => (h.ring.resolve_left (by omega)).2.2.lt
  rw [hn] at x2 hmo hcnt
  have H := Lib.hid h; have HN := Lib.hid hn
  have hw1 : IntKind.i64.wrap ((R : Int) - (n : Int)) = (R : Int) - (n : Int) := IntWalk.i64_in _ (by omega)
  have hw2 : IntKind.i64.wrap ((n : Int) + (more : Int)) = (n : Int) + (more : Int) := IntWalk.i64_in _ (by omega)
  have hw3 : IntKind.i64.wrap (2 * (R : Int)) = 2 * (R : Int) := IntWalk.i64_in _ (by omega)
  by_cases hfit : more + n ≤ R
  · have d1 : decide ((more : Int) ≤ (R : Int) - (n : Int)) = true := decide_eq_true (by omega)
    clear h hn x3 hrl
    go_enter Try.func65, Try.ntmps65
    go_wp2_with fail
    go_region
    all_goals
      go_wp2_with fail
      go_end0
      exact ⟨rfl, ⟨rg, R, first, pr, f, H.out.kept (gb_drew (gb_refl _ _)), by have := HN.out; omega, hR, .inl rfl⟩, gb_drew (gb_refl _ _)⟩
  · have d1 : decide ((more : Int) ≤ (R : Int) - (n : Int)) = false := decide_eq_false (by omega)
    obtain ⟨K, hK⟩ : ∃ K, max (n + more) (2 * R) = K := ⟨_, rfl⟩
    have hK1 : n + more ≤ K := by omega
    have hK2 : K ≤ 1000 := by omega
    have hmx : max ((n : Int) + (more : Int)) (2 * (R : Int)) = (K : Int) := by omega
    have hmk := fun w => makeI_run K (by omega) w
    have hga : w.grownBy (w.alloc (.cells (madeCells #[.int .i64 0] K) 3)).drew.drew none := gb_drew (gb_drew (World.grownBy_alloc w _ none))
    have HC := Lib.hid (copyTo_c (w := (w.alloc (.cells (madeCells #[.int .i64 0] K) 3)).drew.drew) w.heap.size K (by omega) (by omega) (h.kept hga) ((makeI_blk w K).kept (gb_drew (gb_drew (gb_refl _ none))) (by simp)) (by omega) (fun h0 => by have := hrl h0; omega))
    have HB := Lib.hid (bx hga h.box); have HGA := Lib.hid hga; have HQ := Lib.hid hq
    clear h hn x3 hrl hK hga
    go_enter Try.func65, Try.ntmps65
    go_wp2_with fail
    go_region
    all_goals
      go_wp2_with fail
      go_region
      all_goals
        go_wp2_with fail
        refine HC.out.mono ?_
        rintro e w3 ⟨rfl, ⟨g, hbz, hgv⟩, hg3⟩
        have hqs := HQ.out
        have hb3 := (hg3.block _ (Array.getElem?_eq_some_iff.1 HB.out).1 (by simp; omega)).trans HB.out
        have hb4 := set3_0 (u := .slice (some ⟨w.heap.size, 0, none⟩) K K) hb3
        obtain ⟨x0, x1, x2, x3⟩ := cells3' hb3
        obtain ⟨y0, y1, y2, y3⟩ := cells3' hb4
        have f0 := x3 0
        have f1 := y3 1
        have HBZ := Lib.hid hbz; have HGV := Lib.hid hgv; have HG3 := Lib.hid hg3; have HB4 := Lib.hid hb4
        clear hbz hgv hg3 hb3 hb4 x3 y3 x1 x2 y0 y2
        go_wp2_with fail
        go_end0
        refine ⟨rfl, ⟨w.heap.size, K, 0, _, g, ⟨?_, by have := HN.out; omega, by omega, .inl (by omega), .inr ⟨rfl, by omega, (HBZ.out.kept (row := some q) (gb_set (gb_refl _ _) _) (by simp; omega)).kept (row := some q) (gb_set (gb_refl _ _) _) (by simp; omega)⟩, fun j hj => ?_⟩, by have := HN.out; omega, hK2, .inr ⟨Nat.le_refl _, by omega⟩⟩, ?_⟩
        · have hb5 := set3_1 (u := .int .i64 0) HB4.out
          rw [HN.out]
          rw [HN.out] at hb5
          exact hb5
        · have hj2 : j < n := by rw [← HN.out]; exact hj
          rw [Nat.zero_add, Nat.mod_eq_of_lt (by omega)]
          exact HGV.out j hj
        · exact gb_set (gb_set (below_gb (gb_new (gb_below HGA.out) (Nat.le_refl _) HG3.out)) _) _
end Go.Proofs.Ytljpgmhgnfnbkaa
