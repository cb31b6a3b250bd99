/- The law on quotients and rests, walked. -/
import Derived.Test.YtaheeccpihbcaaaRDiv
import Derived.Deep.RegionHeld3
import Derived.Deep.DeepMust
namespace Go.Proofs.Ytaheeccpihbcaaa
open Go.RowKit Mx

set_option maxRecDepth 100000 in
set_option maxHeartbeats 4000000 in
theorem divides_c (a b : ByteArray) (w : World) : Calls Try.prog 7 #[.string a, .string b] w (ValPost (.bool true) w) := by
  go_enter Try.func7, Try.ntmps7
  go_wp2_with fail
  refine (anchor_c _).mono ?_
  rintro e w1 ⟨rfl, g1⟩
  have G1 := Lib.hid g1
  clear g1
  go_wp2_with fail
  refine (pair_c a b _).mono ?_
  rintro e w2 ⟨x, y, u, v, rfl, hx, hy, hu, hv, g⟩
  obtain ⟨s1, p1, n1, c1, ex, HX⟩ := int_parts hx
  obtain ⟨s2, p2, n2, c2, ey, HY⟩ := int_parts hy
  obtain ⟨s3, p3, n3, c3, eu, HU⟩ := z_parts hu
  obtain ⟨s4, p4, n4, c4, ev, HV⟩ := z_parts hv
  subst ex; subst ey; subst eu; subst ev
  have G2 := Lib.hid (gb_trans G1.out g)
  clear hx hy hu hv g
  obtain ⟨ok, hok⟩ : ∃ ok, decide (parseE a.data.toList = 0 ∧ parseE b.data.toList = 0) = ok := ⟨_, rfl⟩
  rw [hok]
  cases ok
  · go_wp2_with fail
    go_ret
    exact ⟨rfl, by repeat (first | exact G2.out | refine gb_drew ?_ | refine gb_alloc ?_ _)⟩
  have HSV := Lib.hid (z_open HV.out).1
  go_wp2_with fail
  obtain ⟨W, hW, b0, b1, b2, b3, gW⟩ := boxes4 w2 (.cells #[.bool s1, .slice p1 n1 c1] 25) (.cells #[.bool s2, .slice p2 n2 c2] 25) (.cells #[.int .i64 s3, .slice p3 n3 c3] 31) (.cells #[.int .i64 s4, .slice p4 n4 c4] 31)
  rw [← hW]
  have hK : Known W [(.agg #[.bool s2, .slice p2 n2 c2], parseV b.data.toList, 4), (.agg #[.bool s1, .slice p1 n1 c1], parseV a.data.toList, 4)] := ((Known.nil _).cons (HX.out.kept gW) (parse_bw _)).cons (HY.out.kept gW) (parse_bw _)
  have hZ : KnownZ W [(.agg #[.int .i64 s4, .slice p4 n4 c4], parseV b.data.toList, 60), (.agg #[.int .i64 s3, .slice p3 n3 c3], parseV a.data.toList, 60)] := ((KnownZ.nil _).cons (HU.out.kept gW) (parse_ten _)).cons (HV.out.kept gW) (parse_ten _)
  have HK := Lib.hid hK; have HZ := Lib.hid hZ
  have G3 := Lib.hid (gb_trans G2.out gW)
  generalize w2.heap.size = q at *
  obtain ⟨x0, x1, -⟩ := cells_of b0
  obtain ⟨y0, y1, -⟩ := cells_of b1
  obtain ⟨u0, u1, -⟩ := zcells_of b2
  obtain ⟨v0, v1, -⟩ := zcells_of b3
  have hS := And.intro x0 (And.intro x1 (And.intro y0 (And.intro y1 (And.intro u0 (And.intro u1 (And.intro v0 v1))))))
  clear hW b0 b1 b2 b3 gW HX HY HU HV hok x0 x1 y0 y1 u0 u1 v0 v1 hK hZ G1 G2
  generalize parseV a.data.toList = X at *
  generalize parseV b.data.toList = Y at *
  by_cases hY : Y = 0
  · subst hY
    refine (DivMod0_c _ _ X _ (HK.out _ (List.Mem.tail _ (List.Mem.head _))).1 (HK.out _ (List.Mem.head _)).1).mono ?_
    rintro e w3 ⟨x3, y3, rfl, h3, h4, g3⟩
    obtain ⟨s5, p5, n5, c5, ex, HX5⟩ := int_parts h3
    obtain ⟨s6, p6, n6, c6, ey, HY6⟩ := int_parts h4
    subst ex; subst ey
    have hs4 : s4 = 0 := HSV.out
    have hg2 := gb_alloc (World.grownBy_alloc w3 (.cells #[.bool s5, .slice p5 n5 c5] 25) none) (.cells #[.bool s6, .slice p6 n6 c6] 25)
    have HX5 := Lib.hid (HX5.out.kept hg2); have HY6 := Lib.hid (HY6.out.kept hg2)
    have t1 := (World.grownBy_alloc (w3.alloc (.cells #[.bool s5, .slice p5 n5 c5] 25)) (.cells #[.bool s6, .slice p6 n6 c6] 25) none).block _ (Array.getElem?_eq_some_iff.1 (top1 w3 (.cells #[.bool s5, .slice p5 n5 c5] 25))).1 (by simp)
    obtain ⟨q0, q1, -⟩ := cells_of (t1.trans (top1 _ _))
    obtain ⟨r0, r1, -⟩ := cells_of (top2 w3 (.cells #[.bool s5, .slice p5 n5 c5] 25) (.cells #[.bool s6, .slice p6 n6 c6] 25))
    have v0' := (gb_trans g3 hg2).cell hS.2.2.2.2.2.2.1 (by simp)
    have G4 := Lib.hid (gb_trans G3.out (gb_trans g3 hg2))
    subst hs4
    clear h3 h4 g3 hg2 t1 hS HSV
    go_wp2_with fail
    refine (Sign_c _ 0 _ HX5.out).mono ?_
    rintro e w4 ⟨rfl, g4⟩
    rw [show sg 0 = 0 from rfl]
    have HY6 := Lib.hid (HY6.out.kept g4)
    have r0 := g4.cell r0 (by simp); have r1 := g4.cell r1 (by simp)
    have G5 := Lib.hid (gb_trans G4.out g4)
    clear g4 q0 q1
    go_wp2_with fail
    refine (Sign_c _ 0 _ HY6.out).mono ?_
    rintro e w5 ⟨rfl, g5⟩
    rw [show sg 0 = 0 from rfl]
    have HFIN := Lib.hid (gb_trans G5.out g5)
    clear g5
    go_wp2_with fail
    go_ret
    exact ⟨rfl, HFIN.out⟩
  · have hs4 : (s4 == 0) = false := beq_eq_false_iff_ne.2 (fun h => hY (sg_zero (HSV.out.symm.trans h)))
    have HY0 := Lib.hid (fun _ : Unit => hY)
    clear hY HSV
    refine (DivMod_k HK.out (List.Mem.tail _ (List.Mem.head _)) (List.Mem.head _) (by omega) (by omega) (HY0.out ())).mono ?_
    rintro e w3 ⟨s5, p5, n5, c5, s6, p6, n6, c6, rfl, hk3, g3⟩
    have hg2 := gb_alloc (World.grownBy_alloc w3 (.cells #[.bool s5, .slice p5 n5 c5] 25) none) (.cells #[.bool s6, .slice p6 n6 c6] 25)
    have t1 := (World.grownBy_alloc (w3.alloc (.cells #[.bool s5, .slice p5 n5 c5] 25)) (.cells #[.bool s6, .slice p6 n6 c6] 25) none).block _ (Array.getElem?_eq_some_iff.1 (top1 w3 (.cells #[.bool s5, .slice p5 n5 c5] 25))).1 (by simp)
    obtain ⟨q0, q1, -⟩ := cells_of (t1.trans (top1 _ _))
    obtain ⟨r0, r1, -⟩ := cells_of (top2 w3 (.cells #[.bool s5, .slice p5 n5 c5] 25) (.cells #[.bool s6, .slice p6 n6 c6] 25))
    have hgg := gb_trans g3 hg2
    obtain ⟨-, -, -, -, u0, u1, v0, v1⟩ := s8 hS hgg
    have HK := Lib.hid (hk3.kept hg2); have HZ := Lib.hid (HZ.out.kept hgg)
    have G4 := Lib.hid (gb_trans G3.out hgg)
    clear hk3 g3 hg2 t1 hgg hS
    go_wp2_with fail
    generalize w3.heap.size = r at *
    generalize (w3.alloc (.cells #[.bool s5, .slice p5 n5 c5] 25)).alloc (.cells #[.bool s6, .slice p6 n6 c6] 25) = W5 at *
    refine (RDivMod_k HZ.out (List.Mem.tail _ (List.Mem.head _)) (List.Mem.head _) (by omega) (by omega) (HY0.out ())).mono ?_
    rintro e w6 ⟨s7, p7, n7, c7, s9, p9, n9, c9, rfl, hz6, g6⟩
    have hg2 := gb_alloc (World.grownBy_alloc w6 (.cells #[.int .i64 s7, .slice p7 n7 c7] 31) none) (.cells #[.int .i64 s9, .slice p9 n9 c9] 31)
    have t1 := (World.grownBy_alloc (w6.alloc (.cells #[.int .i64 s7, .slice p7 n7 c7] 31)) (.cells #[.int .i64 s9, .slice p9 n9 c9] 31) none).block _ (Array.getElem?_eq_some_iff.1 (top1 w6 (.cells #[.int .i64 s7, .slice p7 n7 c7] 31))).1 (by simp)
    obtain ⟨y0, y1, -⟩ := zcells_of (t1.trans (top1 _ _))
    obtain ⟨z0, z1, -⟩ := zcells_of (top2 w6 (.cells #[.int .i64 s7, .slice p7 n7 c7] 31) (.cells #[.int .i64 s9, .slice p9 n9 c9] 31))
    have hgg := gb_trans g6 hg2
    have hS := And.intro (hgg.cell q0 (by simp)) (And.intro (hgg.cell q1 (by simp)) (And.intro (hgg.cell r0 (by simp)) (And.intro (hgg.cell r1 (by simp)) (And.intro y0 (And.intro y1 (And.intro z0 z1))))))
    have HZ := Lib.hid (hz6.kept hg2); have HK := Lib.hid (HK.out.kept hgg)
    have G5 := Lib.hid (gb_trans G4.out hgg)
    clear hz6 g6 hg2 t1 hgg q0 q1 r0 r1 u0 u1 v0 v1 y0 y1 z0 z1
    obtain ⟨T1, hT1⟩ : ∃ T : ByteArray, txt (X / Y) = .string T := ⟨_, rfl⟩
    obtain ⟨T2, hT2⟩ : ∃ T : ByteArray, txt (X % Y) = .string T := ⟨_, rfl⟩
    have HT1 := Lib.hid hT1; have HT2 := Lib.hid hT2
    have hTT1 : (T1.toList == T1.toList) = true := by simp
    have hTT2 : (T2.toList == T2.toList) = true := by simp
    clear hT1 hT2
    go_wp2_with fail
    generalize w6.heap.size = t at *
    generalize (w6.alloc (.cells #[.int .i64 s7, .slice p7 n7 c7] 31)).alloc (.cells #[.int .i64 s9, .slice p9 n9 c9] 31) = W at *
    have HGc := Lib.hid (gb_refl W none)
    have HG := Lib.hid (gb_refl W none)
    go_region_held3 (fun w' => w'.cell? ⟨r, 0, none⟩ = some (.bool s5) ∧ w'.cell? ⟨r, 1, none⟩ = some (.slice p5 n5 c5) ∧ w'.cell? ⟨r + 1, 0, none⟩ = some (.bool s6) ∧ w'.cell? ⟨r + 1, 1, none⟩ = some (.slice p6 n6 c6) ∧ w'.cell? ⟨t, 0, none⟩ = some (.int .i64 s7) ∧ w'.cell? ⟨t, 1, none⟩ = some (.slice p7 n7 c7) ∧ w'.cell? ⟨t + 1, 0, none⟩ = some (.int .i64 s9) ∧ w'.cell? ⟨t + 1, 1, none⟩ = some (.slice p9 n9 c9)) (first | with_reducible exact hS | exact s8 hS (by repeat (first | with_reducible exact HGc.out | with_reducible exact gb_refl _ _ | with_reducible refine gb_drew ?_ | with_reducible refine gb_alloc ?_ _))) (first | (go_at_call 15; go_must (refine (String_k (HK.out.kept (by repeat (first | with_reducible exact gb_refl _ _ | with_reducible refine gb_drew ?_ | with_reducible refine gb_alloc ?_ _))) (by repeat (first | exact List.Mem.head _ | refine List.Mem.tail _ ?_)) (by omega)).mono ?_); rintro e w9 ⟨rfl, hg9⟩; (first | rw [HT1.out] | rw [HT2.out]); have HZ := Lib.hid (HZ.out.kept (gb_trans (by repeat (first | with_reducible exact gb_refl _ _ | with_reducible refine gb_drew ?_ | with_reducible refine gb_alloc ?_ _)) hg9)); have HK := Lib.hid (HK.out.kept (gb_trans (by repeat (first | with_reducible exact gb_refl _ _ | with_reducible refine gb_drew ?_ | with_reducible refine gb_alloc ?_ _)) hg9)); (try with_reducible have hg9 := undrew hg9); have HGc := Lib.hid (gb_trans (show W.grownBy _ none from (by repeat (first | with_reducible exact HGc.out | with_reducible exact gb_refl _ _ | with_reducible refine gb_drew ?_ | with_reducible refine gb_alloc ?_ _))) hg9); have HG := Lib.hid hg9; clear hg9) | (go_at_call 23; go_must (refine (Text_k (HZ.out.kept (by repeat (first | with_reducible exact gb_refl _ _ | with_reducible refine gb_drew ?_ | with_reducible refine gb_alloc ?_ _))) (by repeat (first | exact List.Mem.head _ | refine List.Mem.tail _ ?_)) (by omega)).mono ?_); rintro e w9 ⟨rfl, hg9⟩; (first | rw [HT1.out] | rw [HT2.out]); have HZ := Lib.hid (HZ.out.kept (gb_trans (by repeat (first | with_reducible exact gb_refl _ _ | with_reducible refine gb_drew ?_ | with_reducible refine gb_alloc ?_ _)) hg9)); have HK := Lib.hid (HK.out.kept (gb_trans (by repeat (first | with_reducible exact gb_refl _ _ | with_reducible refine gb_drew ?_ | with_reducible refine gb_alloc ?_ _)) hg9)); (try with_reducible have hg9 := undrew hg9); have HGc := Lib.hid (gb_trans (show W.grownBy _ none from (by repeat (first | with_reducible exact HGc.out | with_reducible exact gb_refl _ _ | with_reducible refine gb_drew ?_ | with_reducible refine gb_alloc ?_ _))) hg9); have HG := Lib.hid hg9; clear hg9))
    all_goals
      go_wp2
      go_ret
      exact ⟨rfl, gb_trans G5.out (by repeat (first | with_reducible exact HGc.out | with_reducible refine gb_drew ?_))⟩
end Go.Proofs.Ytaheeccpihbcaaa
