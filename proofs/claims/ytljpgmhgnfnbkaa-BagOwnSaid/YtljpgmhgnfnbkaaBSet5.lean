/- With. -/
import Derived.Test.YtljpgmhgnfnbkaaBSet4
import Derived.Deep.RegionHeld3
import Derived.Deep.DeepMust
namespace Go.Proofs.Ytljpgmhgnfnbkaa
open Go.RowKit Go.Sort

/-- A set handed back. -/
def SetPost (w : World) (P : List Int → Prop) (e : Ending) (w' : World) : Prop := ∃ S p n c, e = .returned (.agg #[.slice p n c]) ∧ P S ∧ Asc S ∧ IsL w' (.slice p n c) S ∧ w.grownBy w' none

theorem bx {a b : World} {h : Nat} {o : Obj} (hg : a.grownBy b none) (hb : a.heap[h]? = some o) : b.heap[h]? = some o := (hg.block _ (Array.getElem?_eq_some_iff.1 hb).1 (by simp)).trans hb
theorem undrew {a b : World} {row : Option Nat} (h : a.drew.grownBy b row) : a.grownBy b row := ⟨h.os, h.tape, h.output, h.size, h.block⟩

theorem s1 {w w' : World} {a0 : Addr} {v0 : Value} (h : w.cell? a0 = some v0) (hg : w.grownBy w' none) : w'.cell? a0 = some v0 := hg.cell h (by simp)
theorem s2 {w w' : World} {a0 a1 : Addr} {v0 v1 : Value} (h : w.cell? a0 = some v0 ∧ w.cell? a1 = some v1) (hg : w.grownBy w' none) : w'.cell? a0 = some v0 ∧ w'.cell? a1 = some v1 := ⟨s1 h.1 hg, s1 h.2 hg⟩

theorem s1set {w w' : World} {b o r : Nat} {v0 u : Value} (h : w.cell? ⟨b, o, none⟩ = some v0) (hg : w.grownBy w' none) (hne : b ≠ r) : (w'.setCell ⟨r, 0, none⟩ u).cell? ⟨b, o, none⟩ = some v0 :=
  (World.cell?_of_block (w := w') (Below.heap_setCell _ _ _ _ (by simpa using hne))).trans (hg.cell h (by simp))

theorem two_boxes (w : World) (v : Value) (T : TypeId) : ∃ W, W = (w.alloc (.cells #[v] T)).alloc (.cells #[.slice none 0 0] T) ∧ W.heap[w.heap.size]? = some (.cells #[v] T (0, 0)) ∧ W.heap[w.heap.size + 1]? = some (.cells #[.slice none 0 0] T (0, 0)) ∧ w.grownBy W none := by
  have h1 := heap_alloc_new w (.cells #[v] T)
  have g2 := World.grownBy_alloc (w.alloc (.cells #[v] T)) (.cells #[.slice none 0 0] T) none
  have h2 := heap_alloc_new (w.alloc (.cells #[v] T)) (.cells #[.slice none 0 0] T)
  rw [World.size_alloc] at h2
  exact ⟨_, rfl, bx g2 h1, h2, gb_trans (World.grownBy_alloc _ _ _) g2⟩

/-- A set handed back through its box. -/
theorem set_ret {w W w3 : World} {r : Nat} {T : TypeId} {p : Option Addr} {c : Nat} {S : List Int} (hb : W.heap[r]? = some (.cells #[.slice none 0 0] T (0, 0))) (hg : W.grownBy w3 none) (hx : LAt w3 p S) (h0 : w.grownBy W none) (hr : w.heap.size ≤ r) :
    LAt (w3.setCell ⟨r, 0, none⟩ (.slice p S.length c)) p S ∧ w.grownBy (w3.setCell ⟨r, 0, none⟩ (.slice p S.length c)) none ∧ (w3.setCell ⟨r, 0, none⟩ (.slice p S.length c)).cell? ⟨r, 0, none⟩ = some (.slice p S.length c) := by
  have hb3 := bx hg hb
  refine ⟨?_, below_gb (gb_new (gb_below (gb_trans h0 hg)) hr (gb_set (gb_refl _ _) _)), (box1 hb3).2⟩
  by_cases hS : S = []
  · exact .inl hS
  · obtain ⟨g, off, rfl, hl, hc⟩ := hx.resolve_left hS
    have hgr : g ≠ r := by
      intro e; subst e
      have h1 := hc 0 (by have := List.length_pos_iff.2 hS; omega)
      rw [cell_of_row _ g _ _ _ (0, 0) hb3] at h1
      match off, h1 with
      | 0, h1 => simp at h1
      | off + 1, h1 => simp at h1
    exact .inr ⟨g, off, rfl, by simpa [World.setCell] using hl, fun j hj => by rw [← hc j hj]; exact World.cell?_of_block (w := w3) (Below.heap_setCell _ _ _ _ (by simpa using hgr))⟩

theorem cellb {w : World} {r : Nat} {v : Value} {T : TypeId} (h : w.heap[r]? = some (.cells #[v] T (0, 0))) : w.cell? ⟨r, 0, none⟩ = some v ∧ w.frozen? ⟨r, 0, none⟩ = false := ⟨by rw [cell_of_row _ r 0 _ _ (0, 0) h]; rfl, by simp [World.frozen?, h]⟩

theorem field0 (p : Option Addr) (n c : Nat) (w : World) : (Instr.field 25 (.agg #[.slice p n c]) 0).run Try.prog w = .ok (.slice p n c) w := by kernel_rfl

set_option maxRecDepth 100000 in
set_option maxHeartbeats 4000000 in
theorem With_c (p1 p2 : Option Addr) (c1 c2 : Nat) (S zs : List Int) (w : World) (hl : S.length ≤ 10000) (hl2 : zs.length ≤ 10000) (hS : Asc S) (hc1 : S.length ≤ c1) (hc1m : c1 ≤ maxLen) (hc2 : zs.length ≤ c2) (h1 : LAt w p1 S) (h2 : LAt w p2 zs) :
    Calls Try.prog 17 #[.agg #[.slice p1 S.length c1], .slice p2 zs.length c2] w (SetPost w (fun T => ∀ x, x ∈ T ↔ x ∈ S ∨ x ∈ zs)) := by
  obtain ⟨W, hW, b0, b1, gW⟩ := two_boxes w (.slice p1 S.length c1) 25
  have HOF := Lib.hid (fun (w' : World) (hg : W.grownBy w' none) => Of_c p2 c2 zs w' (by omega) hc2 (h2.kept (gb_trans gW hg)))
  have HME := Lib.hid (fun (w' : World) (hg : W.grownBy w' none) (T : List Int) (p : Option Addr) (c : Nat) (hT : Asc T) (hlT : T.length ≤ 10000) (hat : LAt w' p T) => merge_c p1 p c1 c S T w' hl hlT hS hT hc1 hc1m (h1.kept (gb_trans gW hg)) hat)
  have HB1 := Lib.hid b1; have HGW := Lib.hid gW; have HW := Lib.hid hW
  have hSA := hS
  have hS := show W.cell? ⟨w.heap.size, 0, none⟩ = some (.slice p1 S.length c1) by rw [cell_of_row _ _ 0 _ _ (0, 0) b0]; rfl
  clear h1 h2 hc1 hc1m hc2 b0 b1 gW
  have hfd := field0
  generalize S.length = n at *
  generalize hm : zs.length = m at *
  have HM := Lib.hid hm
  clear hm
  go_enter Try.func17, Try.ntmps17
  go_wp2_with fail
  rw [← hW]
  clear hW
  have HGc := Lib.hid (gb_refl W none)
  go_region_held3 (fun w' => w'.cell? ⟨w.heap.size, 0, none⟩ = some (.slice p1 n c1)) (first | with_reducible exact hS | (with_reducible refine s1set hS ?_ (by omega); repeat (first | with_reducible exact HGc.out | with_reducible exact gb_refl _ _ | with_reducible refine gb_drew ?_)) | exact s1 hS (by repeat (first | with_reducible exact HGc.out | with_reducible exact gb_refl _ _ | with_reducible refine gb_drew ?_)))
    (first
    | (go_at_call 10; go_must (refine (HOF.out _ (by repeat (first | with_reducible exact HGc.out | with_reducible exact gb_refl _ _ | with_reducible refine gb_drew ?_))).mono ?_); rintro e w5 ⟨T, p5, n5, c5, rfl, hset, ⟨p6, c6, he, hi1, hi2, hi3⟩, -, hlen, hg⟩; injection he with e1 e2 e3; subst e1; subst e2; subst e3; (try with_reducible have hg := undrew hg); have HSET := Lib.hid hset; have HI3 := Lib.hid hi3; have HLEN := Lib.hid hlen; have HGc := Lib.hid (gb_trans HGc.out hg); clear hset hi1 hi2 hi3 hlen hg)
    | (go_at_call 51; go_must (refine (HME.out _ (by repeat (first | with_reducible exact HGc.out | with_reducible exact gb_refl _ _ | with_reducible refine gb_drew ?_)) T p5 c5 HSET.out.1 (by have := HLEN.out; have := HM.out; omega) (HI3.out.kept (by repeat (first | with_reducible exact gb_refl _ _ | with_reducible refine gb_drew ?_)))).mono ?_); rintro e w6 ⟨U, p7, n7, c7, rfl, hu, ⟨p8, c8, he, hi1, hi2, hi3⟩, hg⟩; injection he with e1 e2 e3; subst e1; subst e2; subst e3; (try with_reducible have hg := undrew hg); have HU := Lib.hid hu; have HI7 := Lib.hid hi3; have HI8 := Lib.hid hi1; have HI9 := Lib.hid hi2; have HGc := Lib.hid (gb_trans (by repeat (first | with_reducible exact HGc.out | with_reducible exact gb_refl _ _ | with_reducible refine gb_drew ?_)) hg); obtain ⟨hcb, hcf⟩ := cellb (bx HGc.out HB1.out); clear hu hi1 hi2 hi3 hg))
  all_goals
    obtain ⟨k1, k2, k3⟩ := set_ret (c := c7) HB1.out HGc.out HI7.out HGW.out (by omega)
    have K1 := Lib.hid k1; have K2 := Lib.hid k2
    clear k1 k2
    generalize hul : U.length = ul at *
    have HUL := Lib.hid hul
    clear hul
    go_wp2
    exact bodyPost_ret (v := .agg #[.slice p7 ul c7]) (by simp [results, Try.results17, go_sem, k3]) rfl ⟨U, p7, ul, c7, rfl, fun x => by rw [HU.out.2 x, HSET.out.2 x], HU.out.1, ⟨p7, c7, by rw [HUL.out], by rw [HUL.out]; exact HI8.out, HI9.out, K1.out⟩, K2.out⟩
end Go.Proofs.Ytljpgmhgnfnbkaa
