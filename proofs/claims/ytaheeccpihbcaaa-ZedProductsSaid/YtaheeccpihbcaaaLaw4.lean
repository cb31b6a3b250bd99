/- The law on products, walked. -/
import Derived.Test.YtaheeccpihbcaaaKnownZ
import Derived.Deep.RegionHeld3
import Derived.Deep.DeepMust
namespace Go.Proofs.Ytaheeccpihbcaaa
open Go.RowKit Mx

set_option maxRecDepth 100000 in
set_option maxHeartbeats 4000000 in
theorem products_c (a b : ByteArray) (w : World) : Calls Try.prog 6 #[.string a, .string b] w (ValPost (.bool true) w) := by
  go_enter Try.func6, Try.ntmps6
  go_wp2_with fail
  refine (anchor_c _).mono ?_
  rintro e w1 ⟨rfl, g1⟩
  have G1 := Lib.hid g1
  clear g1
  go_wp2_with fail
  refine (pair_c a b _).mono ?_
  rintro e w2 ⟨x, y, u, v, rfl, hx, hy, hu, hv, g⟩
  obtain ⟨s1, p1, n1, c1, ex, HX⟩ := int_parts hx
  obtain ⟨s2, p2, n2, c2, ey, HY⟩ := int_parts hy
  obtain ⟨s3, p3, n3, c3, eu, HU⟩ := z_parts hu
  obtain ⟨s4, p4, n4, c4, ev, HV⟩ := z_parts hv
  subst ex; subst ey; subst eu; subst ev
  have G2 := Lib.hid (gb_trans G1.out g)
  clear hx hy hu hv g
  obtain ⟨ok, hok⟩ : ∃ ok, decide (parseE a.data.toList = 0 ∧ parseE b.data.toList = 0) = ok := ⟨_, rfl⟩
  rw [hok]
  go_wp2_with fail
  obtain ⟨W, hW, b0, b1, b2, b3, gW⟩ := boxes4 w2 (.cells #[.bool s1, .slice p1 n1 c1] 25) (.cells #[.bool s2, .slice p2 n2 c2] 25) (.cells #[.int .i64 s3, .slice p3 n3 c3] 31) (.cells #[.int .i64 s4, .slice p4 n4 c4] 31)
  rw [← hW]
  have hK : Known W [(.agg #[.bool s2, .slice p2 n2 c2], parseV b.data.toList, 4), (.agg #[.bool s1, .slice p1 n1 c1], parseV a.data.toList, 4)] := ((Known.nil _).cons (HX.out.kept gW) (parse_bw _)).cons (HY.out.kept gW) (parse_bw _)
  have hZ : KnownZ W [(.agg #[.int .i64 s4, .slice p4 n4 c4], parseV b.data.toList, 60), (.agg #[.int .i64 s3, .slice p3 n3 c3], parseV a.data.toList, 60)] := ((KnownZ.nil _).cons (HU.out.kept gW) (parse_ten _)).cons (HV.out.kept gW) (parse_ten _)
  have HK := Lib.hid hK; have HZ := Lib.hid hZ
  have G3 := Lib.hid (gb_trans G2.out gW)
  generalize w2.heap.size = q at *
  obtain ⟨x0, x1, -⟩ := cells_of b0
  obtain ⟨y0, y1, -⟩ := cells_of b1
  obtain ⟨u0, u1, -⟩ := zcells_of b2
  obtain ⟨v0, v1, -⟩ := zcells_of b3
  have hS := And.intro x0 (And.intro x1 (And.intro y0 (And.intro y1 (And.intro u0 (And.intro u1 (And.intro v0 v1))))))
  clear hW b0 b1 b2 b3 gW HX HY HU HV hok x0 x1 y0 y1 u0 u1 v0 v1 hK hZ G1 G2
  generalize parseV a.data.toList = X at *
  generalize parseV b.data.toList = Y at *
  obtain ⟨T, hT⟩ : ∃ T : ByteArray, txt (X * Y) = .string T := ⟨_, rfl⟩
  have HT := Lib.hid hT
  have hTT : (T.toList == T.toList) = true := by simp
  clear hT
  have W3 := W
  have HGc := Lib.hid (gb_refl W none)
  have HG := Lib.hid (gb_refl W none)
  cases ok
  · go_region
    all_goals
      go_wp2
      go_ret
      exact ⟨rfl, gb_trans G3.out (by repeat (first | with_reducible exact HGc.out | with_reducible refine gb_drew ?_))⟩
  · go_region_held3 (fun w' => w'.cell? ⟨q, 0, none⟩ = some (.bool s1) ∧ w'.cell? ⟨q, 1, none⟩ = some (.slice p1 n1 c1) ∧ w'.cell? ⟨q + 1, 0, none⟩ = some (.bool s2) ∧ w'.cell? ⟨q + 1, 1, none⟩ = some (.slice p2 n2 c2) ∧ w'.cell? ⟨q + 1 + 1, 0, none⟩ = some (.int .i64 s3) ∧ w'.cell? ⟨q + 1 + 1, 1, none⟩ = some (.slice p3 n3 c3) ∧ w'.cell? ⟨q + 1 + 1 + 1, 0, none⟩ = some (.int .i64 s4) ∧ w'.cell? ⟨q + 1 + 1 + 1, 1, none⟩ = some (.slice p4 n4 c4)) (first | with_reducible exact hS | exact s8 hS (by repeat (first | with_reducible exact HGc.out | with_reducible exact gb_refl _ _ | with_reducible refine gb_drew ?_ | with_reducible refine gb_alloc ?_ _))) (first | (go_at_call 28; go_must (refine (Mul_k (HK.out.kept (by repeat (first | with_reducible exact gb_refl _ _ | with_reducible refine gb_drew ?_ | with_reducible refine gb_alloc ?_ _))) (by repeat (first | exact List.Mem.head _ | refine List.Mem.tail _ ?_)) (by repeat (first | exact List.Mem.head _ | refine List.Mem.tail _ ?_)) (by omega) (by omega)).mono ?_); rintro e w9 ⟨s9, p9, n9, c9, rfl, hk9, hg9⟩; have HZ := Lib.hid (HZ.out.kept (gb_trans (by repeat (first | with_reducible exact gb_refl _ _ | with_reducible refine gb_drew ?_ | with_reducible refine gb_alloc ?_ _)) hg9)); (try with_reducible have hg9 := undrew hg9); have HGc := Lib.hid (gb_trans (show W.grownBy _ none from (by repeat (first | with_reducible exact HGc.out | with_reducible exact gb_refl _ _ | with_reducible refine gb_drew ?_ | with_reducible refine gb_alloc ?_ _))) hg9); have HG := Lib.hid hg9; have HK := Lib.hid hk9; clear hk9 hg9) | (go_at_call 29; go_must (refine (RMul_k (HZ.out.kept (by repeat (first | with_reducible exact gb_refl _ _ | with_reducible refine gb_drew ?_ | with_reducible refine gb_alloc ?_ _))) (by repeat (first | exact List.Mem.head _ | refine List.Mem.tail _ ?_)) (by repeat (first | exact List.Mem.head _ | refine List.Mem.tail _ ?_)) (by omega) (by omega)).mono ?_); rintro e w9 ⟨s9, p9, n9, c9, rfl, hk9, hg9⟩; have HK := Lib.hid (HK.out.kept (gb_trans (by repeat (first | with_reducible exact gb_refl _ _ | with_reducible refine gb_drew ?_ | with_reducible refine gb_alloc ?_ _)) hg9)); (try with_reducible have hg9 := undrew hg9); have HGc := Lib.hid (gb_trans (show W.grownBy _ none from (by repeat (first | with_reducible exact HGc.out | with_reducible exact gb_refl _ _ | with_reducible refine gb_drew ?_ | with_reducible refine gb_alloc ?_ _))) hg9); have HG := Lib.hid hg9; have HZ := Lib.hid hk9; clear hk9 hg9) | (go_at_call 15; go_must (refine (String_k (HK.out.kept (by repeat (first | with_reducible exact gb_refl _ _ | with_reducible refine gb_drew ?_ | with_reducible refine gb_alloc ?_ _))) (by repeat (first | exact List.Mem.head _ | refine List.Mem.tail _ ?_)) (by omega)).mono ?_); rintro e w9 ⟨rfl, hg9⟩; rw [HT.out]; have HZ := Lib.hid (HZ.out.kept (gb_trans (by repeat (first | with_reducible exact gb_refl _ _ | with_reducible refine gb_drew ?_ | with_reducible refine gb_alloc ?_ _)) hg9)); have HK := Lib.hid (HK.out.kept (gb_trans (by repeat (first | with_reducible exact gb_refl _ _ | with_reducible refine gb_drew ?_ | with_reducible refine gb_alloc ?_ _)) hg9)); (try with_reducible have hg9 := undrew hg9); have HGc := Lib.hid (gb_trans (show W.grownBy _ none from (by repeat (first | with_reducible exact HGc.out | with_reducible exact gb_refl _ _ | with_reducible refine gb_drew ?_ | with_reducible refine gb_alloc ?_ _))) hg9); have HG := Lib.hid hg9; clear hg9) | (go_at_call 23; go_must (refine (Text_k (HZ.out.kept (by repeat (first | with_reducible exact gb_refl _ _ | with_reducible refine gb_drew ?_ | with_reducible refine gb_alloc ?_ _))) (by repeat (first | exact List.Mem.head _ | refine List.Mem.tail _ ?_)) (by omega)).mono ?_); rintro e w9 ⟨rfl, hg9⟩; rw [HT.out]; have HZ := Lib.hid (HZ.out.kept (gb_trans (by repeat (first | with_reducible exact gb_refl _ _ | with_reducible refine gb_drew ?_ | with_reducible refine gb_alloc ?_ _)) hg9)); have HK := Lib.hid (HK.out.kept (gb_trans (by repeat (first | with_reducible exact gb_refl _ _ | with_reducible refine gb_drew ?_ | with_reducible refine gb_alloc ?_ _)) hg9)); (try with_reducible have hg9 := undrew hg9); have HGc := Lib.hid (gb_trans (show W.grownBy _ none from (by repeat (first | with_reducible exact HGc.out | with_reducible exact gb_refl _ _ | with_reducible refine gb_drew ?_ | with_reducible refine gb_alloc ?_ _))) hg9); have HG := Lib.hid hg9; clear hg9))
    all_goals
      go_wp2
      go_ret
      exact ⟨rfl, gb_trans G3.out (by repeat (first | with_reducible exact HGc.out | with_reducible refine gb_drew ?_))⟩
end Go.Proofs.Ytaheeccpihbcaaa
