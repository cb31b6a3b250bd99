/- Lemmas. -/
import Derived.Deep.CutBlock
import Derived.Deep.DeepCutAuto
import Derived.Test.YtddccnpohpaofaaGreatDoorP3
set_option linter.unusedVariables false
set_option linter.unusedSimpArgs false
namespace Go.Proofs.YtddccnpohpaofaaGreatDoor
open Go.RowKit

theorem info_int : (Tryz.prog.info? 3).map (fun i => (i.zero, i.size, i.bytes)) = some (some (.int .i64 0), 1, 8) := infoI


theorem cells4' {w : World} {r : Nat} {a b c d : Value} {T : TypeId} (h : w.heap[r]? = some (.cells #[a, b, c, d] T (0, 0))) : w.cell? ⟨r, 0, none⟩ = some a ∧ w.cell? ⟨r, 1, none⟩ = some b ∧ w.cell? ⟨r, 2, none⟩ = some c ∧ w.cell? ⟨r, 3, none⟩ = some d ∧ ∀ o, w.frozen? ⟨r, o, none⟩ = false :=
  ⟨by rw [cell_of_row w r 0 _ T (0, 0) h]; rfl, by rw [cell_of_row w r 1 _ T (0, 0) h]; rfl, by rw [cell_of_row w r 2 _ T (0, 0) h]; rfl, by rw [cell_of_row w r 3 _ T (0, 0) h]; rfl, fun o => by simp [World.frozen?, h]⟩

set_option maxRecDepth 100000 in
set_option maxHeartbeats 16000000 in
theorem ownToken_c (k p : Int) (x y : ByteArray) (w : World) (hx : x.size ≤ 1000000) (hy : y.size ≤ 1000000) :
    Calls Tryz.prog 69 #[.agg #[.int .i64 k, .string x, .string y, .int .i64 p]] w (ValPost (.agg #[.int .i64 k, .string x, .string y, .int .i64 p]) w) := by
  have HX := Lib.hid (fun W => Clone_c x W (by omega))
  have HY := Lib.hid (fun W => Clone_c y W (by omega))
  clear hx hy
  go_enter Tryz.func69, Tryz.ntmps69
  go_wp2_with fail
  have hA := heap_alloc_new w (.cells #[.int .i64 k, .string x, .string y, .int .i64 p] 98)
  have hgA := World.grownBy_alloc w (.cells #[.int .i64 k, .string x, .string y, .int .i64 p] 98) none
  have hsA : (w.alloc (.cells #[.int .i64 k, .string x, .string y, .int .i64 p] 98)).heap.size = w.heap.size + 1 := by simp
  generalize (w.alloc (.cells #[.int .i64 k, .string x, .string y, .int .i64 p] 98)) = W1 at *
  have hB := heap_alloc_new W1 (.cells #[.int .i64 0, .string ⟨#[]⟩, .string ⟨#[]⟩, .int .i64 0] 98)
  have hgB := World.grownBy_alloc W1 (.cells #[.int .i64 0, .string ⟨#[]⟩, .string ⟨#[]⟩, .int .i64 0] 98) none
  rw [hsA] at hB
  generalize (W1.alloc (.cells #[.int .i64 0, .string ⟨#[]⟩, .string ⟨#[]⟩, .int .i64 0] 98)) = W at *
  obtain ⟨b, hb⟩ : ∃ b, w.heap.size = b := ⟨_, rfl⟩
  have HBW := Lib.hid hb
  rw [hb] at hA hB ⊢
  obtain ⟨b1, hb1⟩ : ∃ x, b + 1 = x := ⟨_, rfl⟩
  rw [hb1] at hB ⊢
  have hlt : b < b1 := by omega
  have HA := Lib.hid (bx hgB hA); have HB := Lib.hid hB; have HG0 := Lib.hid (gb_trans hgA hgB)
  clear hA hB hgA hgB hsA hb hb1
  obtain ⟨a0, a1, a2, a3, a4⟩ := cells4' HA.out
  go_region_with (first
    | (go_at_call 64; refine (HX.out _).mono ?_; rintro e w2 ⟨rfl, hg2⟩; clear HX; have HA2 := Lib.hid (bx (o := .cells #[.int .i64 k, .string x, .string y, .int .i64 p] 98) hg2 (by first | exact HA.out | exact HA3.out | exact set_cells (i := 2) (u := .string y) HA3.out)); obtain ⟨c0, c1, c2, c3, c4⟩ := cells4' HA2.out; have HF2 : Hid (Fr2 (fun k => k = b) W w2) := Lib.hid (Fr2.trans (by first | exact HF3.out | exact HF3.out.setCell rfl _ | exact Fr2.none (by repeat (first | with_reducible exact gb_refl _ _ | with_reducible refine gb_drew ?_))) (Fr2.none hg2)); clear hg2)
    | (go_at_call 64; refine (HY.out _).mono ?_; rintro e w3 ⟨rfl, hg3⟩; clear HY; have HA3 := Lib.hid (bx (o := .cells #[.int .i64 k, .string x, .string y, .int .i64 p] 98) hg3 (by first | exact HA.out | exact HA2.out | exact set_cells (i := 1) (u := .string x) HA2.out)); obtain ⟨d0, d1, d2, d3, d4⟩ := cells4' HA3.out; have HF3 : Hid (Fr2 (fun k => k = b) W w3) := Lib.hid (Fr2.trans (by first | exact HF2.out | exact HF2.out.setCell rfl _ | exact Fr2.none (by repeat (first | with_reducible exact gb_refl _ _ | with_reducible refine gb_drew ?_))) (Fr2.none hg3)); clear hg3))
  all_goals
    have HA4 := Lib.hid (show ((w3.setCell ⟨b, 1, none⟩ (.string x)).setCell ⟨b, 2, none⟩ (.string y)).heap[b]? = some (.cells #[.int .i64 k, .string x, .string y, .int .i64 p] 98 (0, 0)) from set_cells (i := 2) (u := .string y) (set_cells (i := 1) (u := .string x) HA3.out))
    have HF4 := Lib.hid ((HF3.out.setCell (g := b) (j := 1) rfl (.string x)).setCell (g := b) (j := 2) rfl (.string y))
    have HB4 := Lib.hid (HF4.out.keep HB.out (by omega))
    generalize ((w3.setCell ⟨b, 1, none⟩ (.string x)).setCell ⟨b, 2, none⟩ (.string y)) = W4 at *
    clear HA HB a0 a1 a2 a3 a4 c0 c1 c2 c3 c4 d0 d1 d2 d3 d4 HA2 HA3 HF2 HF3
    obtain ⟨a0, a1, a2, a3, a4⟩ := cells4' HA4.out
    obtain ⟨c0, c1, c2, c3, c4⟩ := cells4' HB4.out
    have HB5 := Lib.hid (set_cells (i := 3) (u := .int .i64 p) (set_cells (i := 2) (u := .string y) (set_cells (i := 1) (u := .string x) (set_cells (i := 0) (u := .int .i64 k) HB4.out))))
    have HF5 := Lib.hid (((((HF4.out.mono (S' := fun k => k = b ∨ k = b1) (fun _ h => .inl h)).setCell (g := b1) (j := 0) (.inr rfl) (.int .i64 k)).setCell (g := b1) (j := 1) (.inr rfl) (.string x)).setCell (g := b1) (j := 2) (.inr rfl) (.string y)).setCell (g := b1) (j := 3) (.inr rfl) (.int .i64 p))
    go_wp2_with fail
    obtain ⟨k0, k1, k2, k3, -⟩ := cells4' HB5.out
    refine bodyPost_ret (v := .agg #[.int .i64 k, .string x, .string y, .int .i64 p]) (by simp [results, Tryz.results69, go_sem, k0, k1, k2, k3]) rfl ⟨rfl, Fr2.after HG0.out HF5.out (fun j hj => by rw [HBW.out]; omega)⟩
end Go.Proofs.YtddccnpohpaofaaGreatDoor
