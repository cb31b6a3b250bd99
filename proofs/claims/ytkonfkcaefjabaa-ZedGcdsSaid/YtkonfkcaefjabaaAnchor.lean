/- The document's examples hold. -/
import Derived.Test.YtkonfkcaefjabaaDm
import Derived.Test.YtkonfkcaefjabaaInt9
import Derived.Test.YtkonfkcaefjabaaTxt
namespace Go.Proofs.Ytkonfkcaefjabaa
open Go.RowKit Mx

theorem box_keep {w w' : World} {b : Nat} {s : Bool} {p : Option Addr} {n c : Nat} (h : w.cell? ⟨b, 0, none⟩ = some (.bool s) ∧ w.cell? ⟨b, 1, none⟩ = some (.slice p n c)) (hg : w.grownBy w' none) : w'.cell? ⟨b, 0, none⟩ = some (.bool s) ∧ w'.cell? ⟨b, 1, none⟩ = some (.slice p n c) :=
  ⟨hg.cell h.1 (by simp), hg.cell h.2 (by simp)⟩

set_option maxRecDepth 100000 in
set_option maxHeartbeats 4000000 in
theorem anchor_c (w : World) : Calls Try.prog 11 #[] w (ValPost (.bool true) w) := by
  go_enter Try.func11, Try.ntmps11
  go_wp2_with fail
  refine (From_c (-7) _ (by omega) (by omega)).mono ?_
  rintro e w1 ⟨x1, rfl, hx1, g1⟩
  have HX1 := Lib.hid hx1; have G1 := Lib.hid g1
  clear hx1 g1
  go_wp2_with fail
  refine (From_c 2 _ (by omega) (by omega)).mono ?_
  rintro e w2 ⟨x2, rfl, hx2, g2⟩
  have HX1 := Lib.hid (HX1.out.kept g2); have HX2 := Lib.hid hx2; have G2 := Lib.hid (gb_trans G1.out g2)
  clear hx2 g2
  go_wp2_with fail
  refine (DivMod_c x1 x2 (-7) 2 _ HX1.out HX2.out (lim_small (by omega)) (lim_small (by omega)) (by omega)).mono ?_
  rintro e w3 ⟨q1, r1, rfl, hq1, hr1, g3⟩
  obtain ⟨sq1, pq1, nq1, cq1, eq1, HQ1⟩ := int_parts hq1
  obtain ⟨sr1, pr1, nr1, cr1, er1, HR1⟩ := int_parts hr1
  subst eq1; subst er1
  have G3 := Lib.hid (gb_trans G2.out g3)
  clear hq1 hr1 g3
  go_wp2_with fail
  have K1 : Hid (_ ∧ _) := box_keep (cells_of (top1 w3 (.cells #[.bool sq1, .slice pq1 nq1 cq1] 25)) |> fun h => ⟨h.1, h.2.1⟩) (World.grownBy_alloc (w3.alloc (.cells #[.bool sq1, .slice pq1 nq1 cq1] 25)) (.cells #[.bool sr1, .slice pr1 nr1 cr1] 25) none)
  have K2 : Hid (_ ∧ _) := (cells_of (top2 w3 (.cells #[.bool sq1, .slice pq1 nq1 cq1] 25) (.cells #[.bool sr1, .slice pr1 nr1 cr1] 25)) |> fun h => ⟨h.1, h.2.1⟩)
  have hal := gb_alloc (World.grownBy_alloc w3 (.cells #[.bool sq1, .slice pq1 nq1 cq1] 25) none) (.cells #[.bool sr1, .slice pr1 nr1 cr1] 25)
  have HQ1 := Lib.hid (HQ1.out.kept hal); have HR1 := Lib.hid (HR1.out.kept hal); have G3 := Lib.hid (gb_trans G3.out hal)
  clear hal
  refine (From_c (-7) _ (by omega) (by omega)).mono ?_
  rintro e w4 ⟨y1, rfl, hy1, g⟩
  have HY1 := Lib.hid hy1
  have HQ1 := Lib.hid (HQ1.out.kept g); have HR1 := Lib.hid (HR1.out.kept g); have G4 := Lib.hid (gb_trans G3.out g)
  have K1 := Lib.hid (box_keep K1.out g); have K2 := Lib.hid (box_keep K2.out g)
  clear hy1 g
  go_wp2_with fail
  refine (From_c (-2) _ (by omega) (by omega)).mono ?_
  rintro e w5 ⟨y2, rfl, hy2, g⟩
  have HY1 := Lib.hid (HY1.out.kept g); have HY2 := Lib.hid hy2
  have HQ1 := Lib.hid (HQ1.out.kept g); have HR1 := Lib.hid (HR1.out.kept g); have G5 := Lib.hid (gb_trans G4.out g)
  have K1 := Lib.hid (box_keep K1.out g); have K2 := Lib.hid (box_keep K2.out g)
  clear hy2 g
  go_wp2_with fail
  refine (DivMod_c y1 y2 (-7) (-2) _ HY1.out HY2.out (lim_small (by omega)) (lim_small (by omega)) (by omega)).mono ?_
  rintro e w6 ⟨q2, r2, rfl, hq2, hr2, g⟩
  obtain ⟨sq2, pq2, nq2, cq2, eq2, HQ2⟩ := int_parts hq2
  obtain ⟨sr2, pr2, nr2, cr2, er2, HR2⟩ := int_parts hr2
  subst eq2; subst er2
  have HQ1 := Lib.hid (HQ1.out.kept g); have HR1 := Lib.hid (HR1.out.kept g); have G6 := Lib.hid (gb_trans G5.out g)
  have K1 := Lib.hid (box_keep K1.out g); have K2 := Lib.hid (box_keep K2.out g)
  rw [show ((-7 : Int) % (-2)) = 1 from by decide] at HR2
  clear hq2 hr2 g
  have K3 : Hid (_ ∧ _) := box_keep (cells_of (top1 w6 (.cells #[.bool sq2, .slice pq2 nq2 cq2] 25)) |> fun h => ⟨h.1, h.2.1⟩) (World.grownBy_alloc (w6.alloc (.cells #[.bool sq2, .slice pq2 nq2 cq2] 25)) (.cells #[.bool sr2, .slice pr2 nr2 cr2] 25) none)
  have K4 : Hid (_ ∧ _) := (cells_of (top2 w6 (.cells #[.bool sq2, .slice pq2 nq2 cq2] 25) (.cells #[.bool sr2, .slice pr2 nr2 cr2] 25)) |> fun h => ⟨h.1, h.2.1⟩)
  have hal := gb_alloc (World.grownBy_alloc w6 (.cells #[.bool sq2, .slice pq2 nq2 cq2] 25) none) (.cells #[.bool sr2, .slice pr2 nr2 cr2] 25)
  have HQ1 := Lib.hid (HQ1.out.kept hal); have HR1 := Lib.hid (HR1.out.kept hal); have HQ2 := Lib.hid (HQ2.out.kept hal); have HR2 := Lib.hid (HR2.out.kept hal); have G6 := Lib.hid (gb_trans G6.out hal)
  have K1 := Lib.hid (box_keep K1.out hal); have K2 := Lib.hid (box_keep K2.out hal)
  clear hal
  obtain ⟨l1, l2⟩ := K1.out
  go_wp2_with fail
  refine (String_c _ _ _ HQ1.out (lim_small (by omega))).mono ?_
  rintro e w7 ⟨rfl, g⟩
  rw [show ((-7 : Int) / 2) = -4 from by omega, txt_m4]
  have HR1 := Lib.hid (HR1.out.kept g); have HQ2 := Lib.hid (HQ2.out.kept g); have HR2 := Lib.hid (HR2.out.kept g); have G7 := Lib.hid (gb_trans G6.out g)
  have K2 := Lib.hid (box_keep K2.out g); have K3 := Lib.hid (box_keep K3.out g); have K4 := Lib.hid (box_keep K4.out g)
  clear l1 l2 g
  obtain ⟨l1, l2⟩ := K2.out
  go_wp2_with fail
  refine (String_c _ _ _ HR1.out (lim_small (by omega))).mono ?_
  rintro e w8 ⟨rfl, g⟩
  rw [show ((-7 : Int) % 2) = 1 from by omega, txt_1]
  have HQ2 := Lib.hid (HQ2.out.kept g); have HR2 := Lib.hid (HR2.out.kept g); have G8 := Lib.hid (gb_trans G7.out g)
  have K3 := Lib.hid (box_keep K3.out g); have K4 := Lib.hid (box_keep K4.out g)
  clear l1 l2 g
  obtain ⟨l1, l2⟩ := K3.out
  go_wp2_with fail
  refine (String_c _ _ _ HQ2.out (lim_small (by omega))).mono ?_
  rintro e w9 ⟨rfl, g⟩
  rw [show ((-7 : Int) / (-2)) = 4 from by omega, txt_4]
  have HR2 := Lib.hid (HR2.out.kept g); have G9 := Lib.hid (gb_trans G8.out g)
  have K4 := Lib.hid (box_keep K4.out g)
  clear l1 l2 g
  obtain ⟨l1, l2⟩ := K4.out
  go_wp2_with fail
  refine (String_c _ _ _ HR2.out (lim_small (by omega))).mono ?_
  rintro e w10 ⟨rfl, g⟩
  rw [txt_1]
  have G10 := Lib.hid (gb_trans G9.out g)
  clear l1 l2 g
  go_wp2_with fail
  refine (From_c 3 _ (by omega) (by omega)).mono ?_
  rintro e w11 ⟨z1, rfl, hz1, g⟩
  have HZ1 := Lib.hid hz1; have G11 := Lib.hid (gb_trans G10.out g)
  clear hz1 g
  go_wp2_with fail
  refine (From_c (-5) _ (by omega) (by omega)).mono ?_
  rintro e w12 ⟨z2, rfl, hz2, g⟩
  obtain ⟨sz, pz, nz, cz, ez, HZ2⟩ := int_parts hz2
  subst ez
  have HZ1 := Lib.hid (HZ1.out.kept g); have G12 := Lib.hid (gb_trans G11.out g)
  clear hz2 g
  go_wp2_with fail
  have hal := World.grownBy_alloc w12 (.cells #[.bool sz, .slice pz nz cz] 25) none
  obtain ⟨k0, k1, _⟩ := cells_of (top1 w12 (.cells #[.bool sz, .slice pz nz cz] 25))
  refine (Add_c z1 3 (-5) sz pz nz cz w12.heap.size _ (HZ1.out.kept hal) (HZ2.out.kept hal) k0 k1 (lim_small (by omega)) (lim_small (by omega))).mono ?_
  rintro e w13 ⟨z3, rfl, hz3, g⟩
  have HZ3 := Lib.hid hz3
  have G13 := Lib.hid (gb_trans (gb_trans G12.out hal) g)
  clear hz3 g k0 k1 hal
  go_wp2_with fail
  refine (String_c _ _ _ HZ3.out (lim_small (by omega))).mono ?_
  rintro e w14 ⟨rfl, g⟩
  rw [show ((3 : Int) + (-5)) = -2 from by omega, txt_m2]
  have G14 := Lib.hid (gb_trans G13.out g)
  clear g
  go_wp2_with fail
  go_ret
  exact ⟨rfl, G14.out⟩
end Go.Proofs.Ytkonfkcaefjabaa
