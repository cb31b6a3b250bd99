/- The law without the document's answers, walked. -/
import Derived.Test.YtaheeccpihbcaaaKnown
import Derived.Deep.RegionHeld3
import Derived.Deep.DeepMust
import Derived.Deep.CutBlock
import Derived.Deep.DeepCutAuto
namespace Go.Proofs.Ytaheeccpihbcaaa
open Go.RowKit Mx

set_option maxRecDepth 100000 in
set_option maxHeartbeats 4000000 in
theorem laws_c (a b c : ByteArray) (w : World) : Calls Try.prog 8 #[.string a, .string b, .string c] w (ValPost (.bool true) w) := by
  go_enter Try.func8, Try.ntmps8
  go_wp2_with fail
  refine (anchor_c _).mono ?_
  rintro e w1 ⟨rfl, g1⟩
  have G1 := Lib.hid g1
  clear g1
  go_wp2_with fail
  refine (pair_c a b _).mono ?_
  rintro e w2 ⟨x, y, u, v, rfl, hx, hy, hu, hv, g⟩
  obtain ⟨s1, p1, n1, c1, ex, HX⟩ := int_parts hx
  obtain ⟨s2, p2, n2, c2, ey, HY⟩ := int_parts hy
  obtain ⟨s3, p3, n3, c3, eu, HU⟩ := z_parts hu
  obtain ⟨s4, p4, n4, c4, ev, HV⟩ := z_parts hv
  subst ex; subst ey; subst eu; subst ev
  have G2 := Lib.hid (gb_trans G1.out g)
  clear hx hy hu hv g HU HV
  obtain ⟨ok, hok⟩ : ∃ ok, decide (parseE a.data.toList = 0 ∧ parseE b.data.toList = 0) = ok := ⟨_, rfl⟩
  rw [hok]
  go_wp2_with fail
  obtain ⟨W, hW, b0, b1, -, -, gW⟩ := boxes4 w2 (.cells #[.bool s1, .slice p1 n1 c1] 25) (.cells #[.bool s2, .slice p2 n2 c2] 25) (.cells #[.int .i64 s3, .slice p3 n3 c3] 31) (.cells #[.int .i64 s4, .slice p4 n4 c4] 31)
  rw [← hW]
  have HX := Lib.hid (HX.out.kept gW)
  have HY := Lib.hid (HY.out.kept gW)
  have G2 := Lib.hid (gb_trans G2.out gW)
  generalize w2.heap.size = q at *
  have HB := Lib.hid (And.intro b0 b1)
  clear hW b0 b1 gW
  refine (Parse_c c _).mono ?_
  rintro e w3 ⟨z, rfl, hz, g, -⟩
  obtain ⟨s5, p5, n5, c5, ez, HZ⟩ := int_parts hz
  subst ez
  obtain ⟨E, hE⟩ : ∃ E, parseE c.data.toList = E := ⟨_, rfl⟩
  rw [hE]
  have hgz := World.grownBy_alloc w3 (.cells #[.bool s5, .slice p5 n5 c5] 25) none
  have hgg := gb_trans g hgz
  have HX := Lib.hid (HX.out.kept hgg)
  have HY := Lib.hid (HY.out.kept hgg)
  have HZ := Lib.hid (HZ.out.kept hgz)
  have HB0 := Lib.hid ((hgg.block _ (Array.getElem?_eq_some_iff.1 HB.out.1).1 (by simp)).trans HB.out.1)
  have HB1 := Lib.hid ((hgg.block _ (Array.getElem?_eq_some_iff.1 HB.out.2).1 (by simp)).trans HB.out.2)
  have HB2 := Lib.hid (top1 w3 (.cells #[.bool s5, .slice p5 n5 c5] 25))
  have G3 := Lib.hid (gb_trans G2.out hgg)
  clear hz g hgz hgg HB
  cases ok
  · go_wp2_with fail
    go_ret
    exact ⟨rfl, G3.out⟩
  · by_cases hE0 : E = 0
    · subst hE0
      go_wp2_with fail
      have hK : Known (w3.alloc (.cells #[.bool s5, .slice p5 n5 c5] 25)) [(.agg #[.bool s5, .slice p5 n5 c5], parseV c.data.toList, 4), (.agg #[.bool s2, .slice p2 n2 c2], parseV b.data.toList, 4), (.agg #[.bool s1, .slice p1 n1 c1], parseV a.data.toList, 4)] :=
        (((Known.nil _).cons HX.out (parse_bw _)).cons HY.out (parse_bw _)).cons HZ.out (parse_bw _)
      have HK := Lib.hid hK
      obtain ⟨x0, x1, -⟩ := cells_of HB0.out
      obtain ⟨y0, y1, -⟩ := cells_of HB1.out
      obtain ⟨z0, z1, -⟩ := cells_of HB2.out
      have hS := And.intro x0 (And.intro x1 (And.intro y0 (And.intro y1 (And.intro z0 z1))))
      clear HX HY HZ HB0 HB1 HB2 hE hok x0 x1 y0 y1 z0 z1 hK
      generalize w3.heap.size = r at *
      generalize w3.alloc (.cells #[.bool s5, .slice p5 n5 c5] 25) = W3 at *
      generalize parseV a.data.toList = X at *
      generalize parseV b.data.toList = Y at *
      generalize parseV c.data.toList = Z at *
      have HGc := Lib.hid (gb_refl W3 none)
      have HG := Lib.hid (gb_refl W3 none)
      have HK0 := HK
      go_cut [76] (fun t wx => t = .bool false ∧ Hid (W3.grownBy wx none))
      case first =>
        go_region_held3 (fun w' => w'.cell? ⟨q, 0, none⟩ = some (.bool s1) ∧ w'.cell? ⟨q, 1, none⟩ = some (.slice p1 n1 c1) ∧ w'.cell? ⟨q + 1, 0, none⟩ = some (.bool s2) ∧ w'.cell? ⟨q + 1, 1, none⟩ = some (.slice p2 n2 c2) ∧ w'.cell? ⟨r, 0, none⟩ = some (.bool s5) ∧ w'.cell? ⟨r, 1, none⟩ = some (.slice p5 n5 c5)) (first | with_reducible exact hS | exact s6 hS (below_gb (gb_new (gb_below (by repeat (first | with_reducible exact HGc.out | with_reducible exact gb_refl _ _ | with_reducible refine gb_drew ?_ | with_reducible refine gb_alloc ?_ _))) (by first | omega | (simp; omega)) (gb_set (gb_set (gb_refl _ _) _) _))) | exact s6 hS (by repeat (first | with_reducible exact HGc.out | with_reducible exact gb_refl _ _ | with_reducible refine gb_drew ?_ | with_reducible refine gb_alloc ?_ _)))
          (first
        | (go_at_call 21; go_must (refine (Add_k (HK.out.kept (by repeat (first | with_reducible exact gb_refl _ _ | with_reducible refine gb_drew ?_ | with_reducible refine gb_alloc ?_ _))) (by (repeat with_reducible refine cdrew ?_); first | with_reducible exact (cells_of (top1 _ _)).1 | with_reducible exact (cells_of (top2 _ _ _)).1 | with_reducible exact (gb_alloc (gb_refl _ none) _).cell ((cells_of (top1 _ _)).1) (by simp) | with_reducible exact (gb_alloc (gb_refl _ none) _).cell ((cells_of (top2 _ _ _)).1) (by simp) | with_reducible exact HG.out.cell ((cells_of (top1 _ _)).1) (by simp) | with_reducible exact HG.out.cell ((cells_of (top2 _ _ _)).1) (by simp) | with_reducible exact HG.out.cell ((gb_alloc (gb_refl _ none) _).cell ((cells_of (top1 _ _)).1) (by simp)) (by simp) | with_reducible exact HG.out.cell ((gb_alloc (gb_refl _ none) _).cell ((cells_of (top2 _ _ _)).1) (by simp)) (by simp) | with_reducible exact (gb_alloc HG.out _).cell ((cells_of (top1 _ _)).1) (by simp) | with_reducible exact (gb_alloc HG.out _).cell ((cells_of (top2 _ _ _)).1) (by simp) | with_reducible exact (gb_alloc HG.out _).cell ((gb_alloc (gb_refl _ none) _).cell ((cells_of (top1 _ _)).1) (by simp)) (by simp) | with_reducible exact (gb_alloc HG.out _).cell ((gb_alloc (gb_refl _ none) _).cell ((cells_of (top2 _ _ _)).1) (by simp)) (by simp)) (by (repeat with_reducible refine cdrew ?_); first | with_reducible exact (cells_of (top1 _ _)).2.1 | with_reducible exact (cells_of (top2 _ _ _)).2.1 | with_reducible exact (gb_alloc (gb_refl _ none) _).cell ((cells_of (top1 _ _)).2.1) (by simp) | with_reducible exact (gb_alloc (gb_refl _ none) _).cell ((cells_of (top2 _ _ _)).2.1) (by simp) | with_reducible exact HG.out.cell ((cells_of (top1 _ _)).2.1) (by simp) | with_reducible exact HG.out.cell ((cells_of (top2 _ _ _)).2.1) (by simp) | with_reducible exact HG.out.cell ((gb_alloc (gb_refl _ none) _).cell ((cells_of (top1 _ _)).2.1) (by simp)) (by simp) | with_reducible exact HG.out.cell ((gb_alloc (gb_refl _ none) _).cell ((cells_of (top2 _ _ _)).2.1) (by simp)) (by simp) | with_reducible exact (gb_alloc HG.out _).cell ((cells_of (top1 _ _)).2.1) (by simp) | with_reducible exact (gb_alloc HG.out _).cell ((cells_of (top2 _ _ _)).2.1) (by simp) | with_reducible exact (gb_alloc HG.out _).cell ((gb_alloc (gb_refl _ none) _).cell ((cells_of (top1 _ _)).2.1) (by simp)) (by simp) | with_reducible exact (gb_alloc HG.out _).cell ((gb_alloc (gb_refl _ none) _).cell ((cells_of (top2 _ _ _)).2.1) (by simp)) (by simp)) (by repeat (first | exact List.Mem.head _ | refine List.Mem.tail _ ?_)) (by repeat (first | exact List.Mem.head _ | refine List.Mem.tail _ ?_)) (by omega) (by omega)).mono ?_); rintro e w9 ⟨s9, p9, n9, c9, rfl, hk9, hg9⟩; (try with_reducible have hg9 := undrew hg9); have HGc := Lib.hid (gb_trans (show W3.grownBy _ none from (by repeat (first | with_reducible exact HGc.out | with_reducible exact gb_refl _ _ | with_reducible refine gb_drew ?_ | with_reducible refine gb_alloc ?_ _))) hg9); have HG := Lib.hid hg9; have HK := Lib.hid hk9; have hz9 := HGc.out.size; clear hk9 hg9) | (go_at_call 28; refine (Mul_k (HK.out.kept (by repeat (first | with_reducible exact gb_refl _ _ | with_reducible refine gb_drew ?_ | with_reducible refine gb_alloc ?_ _))) (by repeat (first | exact List.Mem.head _ | refine List.Mem.tail _ ?_)) (by repeat (first | exact List.Mem.head _ | refine List.Mem.tail _ ?_)) (by omega) (by omega)).mono ?_; rintro e w9 ⟨s9, p9, n9, c9, rfl, hk9, hg9⟩; (try with_reducible have hg9 := undrew hg9); have HGc := Lib.hid (gb_trans (show W3.grownBy _ none from (by repeat (first | with_reducible exact HGc.out | with_reducible exact gb_refl _ _ | with_reducible refine gb_drew ?_ | with_reducible refine gb_alloc ?_ _))) hg9); have HG := Lib.hid hg9; have HK := Lib.hid hk9; have hz9 := HGc.out.size; clear hk9 hg9) | (go_at_call 24; refine (Sub_k (HK.out.kept (by repeat (first | with_reducible exact gb_refl _ _ | with_reducible refine gb_drew ?_ | with_reducible refine gb_alloc ?_ _))) (by repeat (first | exact List.Mem.head _ | refine List.Mem.tail _ ?_)) (by repeat (first | exact List.Mem.head _ | refine List.Mem.tail _ ?_)) (by omega) (by omega)).mono ?_; rintro e w9 ⟨s9, p9, n9, c9, rfl, hk9, hg9⟩; (try with_reducible have hg9 := undrew hg9); have HGc := Lib.hid (gb_trans (show W3.grownBy _ none from (by repeat (first | with_reducible exact HGc.out | with_reducible exact gb_refl _ _ | with_reducible refine gb_drew ?_ | with_reducible refine gb_alloc ?_ _))) hg9); have HG := Lib.hid hg9; have HK := Lib.hid hk9; have hz9 := HGc.out.size; clear hk9 hg9) | (go_at_call 32; refine (Abs_k (HK.out.kept (by repeat (first | with_reducible exact gb_refl _ _ | with_reducible refine gb_drew ?_ | with_reducible refine gb_alloc ?_ _))) (by repeat (first | exact List.Mem.head _ | refine List.Mem.tail _ ?_))).mono ?_; rintro e w9 ⟨s9, p9, n9, c9, rfl, hk9, hg9⟩; (try with_reducible have hg9 := undrew hg9); have HGc := Lib.hid (gb_trans (show W3.grownBy _ none from (by repeat (first | with_reducible exact HGc.out | with_reducible exact gb_refl _ _ | with_reducible refine gb_drew ?_ | with_reducible refine gb_alloc ?_ _))) hg9); have HG := Lib.hid hg9; have HK := Lib.hid hk9; have hz9 := HGc.out.size; clear hk9 hg9) | (go_at_call 14; refine (Sign_k (HK.out.kept (by repeat (first | with_reducible exact gb_refl _ _ | with_reducible refine gb_drew ?_ | with_reducible refine gb_alloc ?_ _))) (by repeat (first | exact List.Mem.head _ | refine List.Mem.tail _ ?_)) HSG.out).mono ?_; rintro e w9 ⟨rfl, hg9⟩; (try with_reducible have hg9 := undrew hg9); have HGc := Lib.hid (gb_trans (show W3.grownBy _ none from (by repeat (first | with_reducible exact HGc.out | with_reducible exact gb_refl _ _ | with_reducible refine gb_drew ?_ | with_reducible refine gb_alloc ?_ _))) hg9); have HG := Lib.hid hg9; have HK := Lib.hid (HK.out.kept (gb_trans (by repeat (first | with_reducible exact gb_refl _ _ | with_reducible refine gb_drew ?_ | with_reducible refine gb_alloc ?_ _)) hg9)); clear hg9) | (go_at_call 18; refine (Cmp_k (HK.out.kept (by repeat (first | with_reducible exact gb_refl _ _ | with_reducible refine gb_drew ?_ | with_reducible refine gb_alloc ?_ _))) (by repeat (first | exact List.Mem.head _ | refine List.Mem.tail _ ?_)) (by repeat (first | exact List.Mem.head _ | refine List.Mem.tail _ ?_)) (by omega) (by omega) (by first | exact cmp_eq (Int.add_mul _ _ _) | exact cmp_eq (Int.sub_add_cancel _ _) | exact cmp_eq (Int.mul_comm _ _))).mono ?_; rintro e w9 ⟨rfl, hg9⟩; (try with_reducible have hg9 := undrew hg9); have HGc := Lib.hid (gb_trans (show W3.grownBy _ none from (by repeat (first | with_reducible exact HGc.out | with_reducible exact gb_refl _ _ | with_reducible refine gb_drew ?_ | with_reducible refine gb_alloc ?_ _))) hg9); have HG := Lib.hid hg9; have HK := Lib.hid (HK.out.kept (gb_trans (by repeat (first | with_reducible exact gb_refl _ _ | with_reducible refine gb_drew ?_ | with_reducible refine gb_alloc ?_ _)) hg9)); clear hg9))
        all_goals
          go_wp2
          go_meet
          exact ⟨rfl, HGc.out⟩
      case rest =>
        obtain ⟨rfl, G7⟩ := hcut
        have HK := Lib.hid (HK0.out.kept G7.out)
        have hS := s6 hS G7.out
        have G8 := Lib.hid (gb_trans G3.out G7.out)
        clear HGc HG HK0 G7 G3 G2 G1
        go_wp2_with fail
        obtain ⟨W3, hW3⟩ : ∃ W, W = wc := ⟨_, rfl⟩
        subst hW3
        have HGc := Lib.hid (gb_refl W3 none)
        have HG := Lib.hid (gb_refl W3 none)
        go_cut [14] (fun t wx => ∃ h s p n c, t = .pointer (some ⟨h, 0, none⟩) ∧ Hid (wx.heap[h]? = some (.cells #[.bool s, .slice p n c] 25 (0, 0))) ∧ Hid (IsInt wx (.agg #[.bool s, .slice p n c]) (X * Y + Z)) ∧ Hid (W3.grownBy wx none))
        case first =>
          go_region_held3 (fun w' => w'.cell? ⟨q, 0, none⟩ = some (.bool s1) ∧ w'.cell? ⟨q, 1, none⟩ = some (.slice p1 n1 c1) ∧ w'.cell? ⟨q + 1, 0, none⟩ = some (.bool s2) ∧ w'.cell? ⟨q + 1, 1, none⟩ = some (.slice p2 n2 c2) ∧ w'.cell? ⟨r, 0, none⟩ = some (.bool s5) ∧ w'.cell? ⟨r, 1, none⟩ = some (.slice p5 n5 c5)) (first | with_reducible exact hS | exact s6 hS (below_gb (gb_new (gb_below (by repeat (first | with_reducible exact HGc.out | with_reducible exact gb_refl _ _ | with_reducible refine gb_drew ?_ | with_reducible refine gb_alloc ?_ _))) (by first | omega | (simp; omega)) (gb_set (gb_set (gb_refl _ _) _) _))) | exact s6 hS (by repeat (first | with_reducible exact HGc.out | with_reducible exact gb_refl _ _ | with_reducible refine gb_drew ?_ | with_reducible refine gb_alloc ?_ _)))
            (first
          | (go_at_call 21; go_must (refine (Add_k (HK.out.kept (by repeat (first | with_reducible exact gb_refl _ _ | with_reducible refine gb_drew ?_ | with_reducible refine gb_alloc ?_ _))) (by (repeat with_reducible refine cdrew ?_); first | with_reducible exact (cells_of (top1 _ _)).1 | with_reducible exact (cells_of (top2 _ _ _)).1 | with_reducible exact (gb_alloc (gb_refl _ none) _).cell ((cells_of (top1 _ _)).1) (by simp) | with_reducible exact (gb_alloc (gb_refl _ none) _).cell ((cells_of (top2 _ _ _)).1) (by simp) | with_reducible exact HG.out.cell ((cells_of (top1 _ _)).1) (by simp) | with_reducible exact HG.out.cell ((cells_of (top2 _ _ _)).1) (by simp) | with_reducible exact HG.out.cell ((gb_alloc (gb_refl _ none) _).cell ((cells_of (top1 _ _)).1) (by simp)) (by simp) | with_reducible exact HG.out.cell ((gb_alloc (gb_refl _ none) _).cell ((cells_of (top2 _ _ _)).1) (by simp)) (by simp) | with_reducible exact (gb_alloc HG.out _).cell ((cells_of (top1 _ _)).1) (by simp) | with_reducible exact (gb_alloc HG.out _).cell ((cells_of (top2 _ _ _)).1) (by simp) | with_reducible exact (gb_alloc HG.out _).cell ((gb_alloc (gb_refl _ none) _).cell ((cells_of (top1 _ _)).1) (by simp)) (by simp) | with_reducible exact (gb_alloc HG.out _).cell ((gb_alloc (gb_refl _ none) _).cell ((cells_of (top2 _ _ _)).1) (by simp)) (by simp)) (by (repeat with_reducible refine cdrew ?_); first | with_reducible exact (cells_of (top1 _ _)).2.1 | with_reducible exact (cells_of (top2 _ _ _)).2.1 | with_reducible exact (gb_alloc (gb_refl _ none) _).cell ((cells_of (top1 _ _)).2.1) (by simp) | with_reducible exact (gb_alloc (gb_refl _ none) _).cell ((cells_of (top2 _ _ _)).2.1) (by simp) | with_reducible exact HG.out.cell ((cells_of (top1 _ _)).2.1) (by simp) | with_reducible exact HG.out.cell ((cells_of (top2 _ _ _)).2.1) (by simp) | with_reducible exact HG.out.cell ((gb_alloc (gb_refl _ none) _).cell ((cells_of (top1 _ _)).2.1) (by simp)) (by simp) | with_reducible exact HG.out.cell ((gb_alloc (gb_refl _ none) _).cell ((cells_of (top2 _ _ _)).2.1) (by simp)) (by simp) | with_reducible exact (gb_alloc HG.out _).cell ((cells_of (top1 _ _)).2.1) (by simp) | with_reducible exact (gb_alloc HG.out _).cell ((cells_of (top2 _ _ _)).2.1) (by simp) | with_reducible exact (gb_alloc HG.out _).cell ((gb_alloc (gb_refl _ none) _).cell ((cells_of (top1 _ _)).2.1) (by simp)) (by simp) | with_reducible exact (gb_alloc HG.out _).cell ((gb_alloc (gb_refl _ none) _).cell ((cells_of (top2 _ _ _)).2.1) (by simp)) (by simp)) (by repeat (first | exact List.Mem.head _ | refine List.Mem.tail _ ?_)) (by repeat (first | exact List.Mem.head _ | refine List.Mem.tail _ ?_)) (by omega) (by omega)).mono ?_); rintro e w9 ⟨s9, p9, n9, c9, rfl, hk9, hg9⟩; (try with_reducible have hg9 := undrew hg9); (first | (have HBX := Lib.hid (bx hg9 (top2 _ _ (.cells #[.bool false, .slice none 0 0] 25))); obtain ⟨hx0, hx1, hx2⟩ := cells_of HBX.out) | (have HBX := Lib.hid (bx hg9 (top1 _ (.cells #[.bool false, .slice none 0 0] 25))); obtain ⟨hx0, hx1, hx2⟩ := cells_of HBX.out) | (have HBX := Lib.hid (bx hg9 (bxa (top1 _ (.cells #[.bool false, .slice none 0 0] 25)))); obtain ⟨hx0, hx1, hx2⟩ := cells_of HBX.out) | (have HBX := Lib.hid (bx hg9 HBX.out); obtain ⟨hx0, hx1, hx2⟩ := cells_of HBX.out) | (have HBX := Lib.hid (bx hg9 (bxa HBX.out)); obtain ⟨hx0, hx1, hx2⟩ := cells_of HBX.out) | skip); (try with_reducible have hg9 := undrew hg9); have HGc := Lib.hid (gb_trans (show W3.grownBy _ none from (by repeat (first | with_reducible exact HGc.out | with_reducible exact gb_refl _ _ | with_reducible refine gb_drew ?_ | with_reducible refine gb_alloc ?_ _))) hg9); have HG := Lib.hid hg9; have HK := Lib.hid hk9; have hz9 := HGc.out.size; clear hk9 hg9) | (go_at_call 28; refine (Mul_k (HK.out.kept (by repeat (first | with_reducible exact gb_refl _ _ | with_reducible refine gb_drew ?_ | with_reducible refine gb_alloc ?_ _))) (by repeat (first | exact List.Mem.head _ | refine List.Mem.tail _ ?_)) (by repeat (first | exact List.Mem.head _ | refine List.Mem.tail _ ?_)) (by omega) (by omega)).mono ?_; rintro e w9 ⟨s9, p9, n9, c9, rfl, hk9, hg9⟩; (try with_reducible have hg9 := undrew hg9); (first | (have HBX := Lib.hid (bx hg9 (top2 _ _ (.cells #[.bool false, .slice none 0 0] 25))); obtain ⟨hx0, hx1, hx2⟩ := cells_of HBX.out) | (have HBX := Lib.hid (bx hg9 (top1 _ (.cells #[.bool false, .slice none 0 0] 25))); obtain ⟨hx0, hx1, hx2⟩ := cells_of HBX.out) | (have HBX := Lib.hid (bx hg9 (bxa (top1 _ (.cells #[.bool false, .slice none 0 0] 25)))); obtain ⟨hx0, hx1, hx2⟩ := cells_of HBX.out) | (have HBX := Lib.hid (bx hg9 HBX.out); obtain ⟨hx0, hx1, hx2⟩ := cells_of HBX.out) | (have HBX := Lib.hid (bx hg9 (bxa HBX.out)); obtain ⟨hx0, hx1, hx2⟩ := cells_of HBX.out) | skip); (try with_reducible have hg9 := undrew hg9); have HGc := Lib.hid (gb_trans (show W3.grownBy _ none from (by repeat (first | with_reducible exact HGc.out | with_reducible exact gb_refl _ _ | with_reducible refine gb_drew ?_ | with_reducible refine gb_alloc ?_ _))) hg9); have HG := Lib.hid hg9; have HK := Lib.hid hk9; have hz9 := HGc.out.size; clear hk9 hg9) | (go_at_call 24; refine (Sub_k (HK.out.kept (by repeat (first | with_reducible exact gb_refl _ _ | with_reducible refine gb_drew ?_ | with_reducible refine gb_alloc ?_ _))) (by repeat (first | exact List.Mem.head _ | refine List.Mem.tail _ ?_)) (by repeat (first | exact List.Mem.head _ | refine List.Mem.tail _ ?_)) (by omega) (by omega)).mono ?_; rintro e w9 ⟨s9, p9, n9, c9, rfl, hk9, hg9⟩; (try with_reducible have hg9 := undrew hg9); (first | (have HBX := Lib.hid (bx hg9 (top2 _ _ (.cells #[.bool false, .slice none 0 0] 25))); obtain ⟨hx0, hx1, hx2⟩ := cells_of HBX.out) | (have HBX := Lib.hid (bx hg9 (top1 _ (.cells #[.bool false, .slice none 0 0] 25))); obtain ⟨hx0, hx1, hx2⟩ := cells_of HBX.out) | (have HBX := Lib.hid (bx hg9 (bxa (top1 _ (.cells #[.bool false, .slice none 0 0] 25)))); obtain ⟨hx0, hx1, hx2⟩ := cells_of HBX.out) | (have HBX := Lib.hid (bx hg9 HBX.out); obtain ⟨hx0, hx1, hx2⟩ := cells_of HBX.out) | (have HBX := Lib.hid (bx hg9 (bxa HBX.out)); obtain ⟨hx0, hx1, hx2⟩ := cells_of HBX.out) | skip); (try with_reducible have hg9 := undrew hg9); have HGc := Lib.hid (gb_trans (show W3.grownBy _ none from (by repeat (first | with_reducible exact HGc.out | with_reducible exact gb_refl _ _ | with_reducible refine gb_drew ?_ | with_reducible refine gb_alloc ?_ _))) hg9); have HG := Lib.hid hg9; have HK := Lib.hid hk9; have hz9 := HGc.out.size; clear hk9 hg9) | (go_at_call 32; refine (Abs_k (HK.out.kept (by repeat (first | with_reducible exact gb_refl _ _ | with_reducible refine gb_drew ?_ | with_reducible refine gb_alloc ?_ _))) (by repeat (first | exact List.Mem.head _ | refine List.Mem.tail _ ?_))).mono ?_; rintro e w9 ⟨s9, p9, n9, c9, rfl, hk9, hg9⟩; (try with_reducible have hg9 := undrew hg9); (first | (have HBX := Lib.hid (bx hg9 (top2 _ _ (.cells #[.bool false, .slice none 0 0] 25))); obtain ⟨hx0, hx1, hx2⟩ := cells_of HBX.out) | (have HBX := Lib.hid (bx hg9 (top1 _ (.cells #[.bool false, .slice none 0 0] 25))); obtain ⟨hx0, hx1, hx2⟩ := cells_of HBX.out) | (have HBX := Lib.hid (bx hg9 (bxa (top1 _ (.cells #[.bool false, .slice none 0 0] 25)))); obtain ⟨hx0, hx1, hx2⟩ := cells_of HBX.out) | (have HBX := Lib.hid (bx hg9 HBX.out); obtain ⟨hx0, hx1, hx2⟩ := cells_of HBX.out) | (have HBX := Lib.hid (bx hg9 (bxa HBX.out)); obtain ⟨hx0, hx1, hx2⟩ := cells_of HBX.out) | skip); (try with_reducible have hg9 := undrew hg9); have HGc := Lib.hid (gb_trans (show W3.grownBy _ none from (by repeat (first | with_reducible exact HGc.out | with_reducible exact gb_refl _ _ | with_reducible refine gb_drew ?_ | with_reducible refine gb_alloc ?_ _))) hg9); have HG := Lib.hid hg9; have HK := Lib.hid hk9; have hz9 := HGc.out.size; clear hk9 hg9) | (go_at_call 14; refine (Sign_k (HK.out.kept (by repeat (first | with_reducible exact gb_refl _ _ | with_reducible refine gb_drew ?_ | with_reducible refine gb_alloc ?_ _))) (by repeat (first | exact List.Mem.head _ | refine List.Mem.tail _ ?_)) HSG.out).mono ?_; rintro e w9 ⟨rfl, hg9⟩; (try with_reducible have hg9 := undrew hg9); have HGc := Lib.hid (gb_trans (show W3.grownBy _ none from (by repeat (first | with_reducible exact HGc.out | with_reducible exact gb_refl _ _ | with_reducible refine gb_drew ?_ | with_reducible refine gb_alloc ?_ _))) hg9); have HG := Lib.hid hg9; have HK := Lib.hid (HK.out.kept (gb_trans (by repeat (first | with_reducible exact gb_refl _ _ | with_reducible refine gb_drew ?_ | with_reducible refine gb_alloc ?_ _)) hg9)); clear hg9) | (go_at_call 18; refine (Cmp_k (HK.out.kept (by repeat (first | with_reducible exact gb_refl _ _ | with_reducible refine gb_drew ?_ | with_reducible refine gb_alloc ?_ _))) (by repeat (first | exact List.Mem.head _ | refine List.Mem.tail _ ?_)) (by repeat (first | exact List.Mem.head _ | refine List.Mem.tail _ ?_)) (by omega) (by omega) (by first | exact cmp_eq (Int.add_mul _ _ _))).mono ?_; rintro e w9 ⟨rfl, hg9⟩; (try with_reducible have hg9 := undrew hg9); have HGc := Lib.hid (gb_trans (show W3.grownBy _ none from (by repeat (first | with_reducible exact HGc.out | with_reducible exact gb_refl _ _ | with_reducible refine gb_drew ?_ | with_reducible refine gb_alloc ?_ _))) hg9); have HG := Lib.hid hg9; have HK := Lib.hid (HK.out.kept (gb_trans (by repeat (first | with_reducible exact gb_refl _ _ | with_reducible refine gb_drew ?_ | with_reducible refine gb_alloc ?_ _)) hg9)); clear hg9))
          all_goals
            go_wp2
            go_meet
            first
              | exact ⟨_, _, _, _, _, rfl, (box_set HBX.out (gb_refl _ none) (HK.out _ (List.Mem.head _)).1).2.1, (box_set HBX.out (gb_refl _ none) (HK.out _ (List.Mem.head _)).1).1, below_gb (gb_new (gb_below HGc.out) (by first | omega | (simp; omega)) (box_set HBX.out (gb_refl _ none) (HK.out _ (List.Mem.head _)).1).2.2)⟩
              | exact ⟨_, _, _, _, _, rfl, top1 _ _, (HK.out _ (List.Mem.head _)).1.kept (World.grownBy_alloc _ _ none), gb_alloc HGc.out _⟩
        case rest =>
          obtain ⟨h, sp, pp, np, cp, rfl, HBP, HIP, G9⟩ := hcut
          have hpb : (X * Y + Z).natAbs < Bw ^ 13 := Nat.lt_of_le_of_lt (Int.natAbs_add_le (X * Y) Z) (add_lt (i := 8) (j := 4) (by rw [Int.natAbs_mul]; exact mul_lt (i := 4) (j := 4) (HK.out _ (List.Mem.tail _ (List.Mem.tail _ (List.Mem.head _)))).2 (HK.out _ (List.Mem.tail _ (List.Mem.head _))).2) (HK.out _ (List.Mem.head _)).2)
          have hK := (HK.out.kept G9.out).cons HIP.out hpb
          have HK := Lib.hid hK
          obtain ⟨x0, x1, y0, y1, z0, z1⟩ := s6 hS G9.out
          obtain ⟨h0, h1, -⟩ := cells_of HBP.out
          have G10 := Lib.hid (gb_trans G8.out G9.out)
          clear HIP G9 G8 HGc HG hS hpb hK HBP
          go_wp2_with fail
          by_cases hY : Y = 0
          · refine (Sign_k (m := 0) HK.out (by repeat (first | exact List.Mem.head _ | refine List.Mem.tail _ ?_)) (by rw [hY]; rfl)).mono ?_
            rintro e w6 ⟨rfl, g⟩
            have hxz := cmp_eq (show X * Y + Z = Z by rw [hY]; omega)
            have HC := Lib.hid (Cmp_k (HK.out.kept g) (List.Mem.head _) (List.Mem.tail _ (List.Mem.head _)) (by omega) (by omega) hxz)
            have z0 := g.cell z0 (by simp); have z1 := g.cell z1 (by simp); have h0 := g.cell h0 (by simp); have h1 := g.cell h1 (by simp)
            have G11 := Lib.hid (gb_trans G10.out g)
            clear x0 x1 y0 y1 g hxz
            go_wp2_with fail
            refine HC.out.mono ?_
            rintro e w7 ⟨rfl, g⟩
            have HFIN := Lib.hid (gb_trans G11.out g)
            clear g
            go_wp2_with fail
            go_ret
            exact ⟨rfl, HFIN.out⟩
          · have hsg : ∃ m : Int, sg Y = m ∧ (m == 0) = false := by
              unfold sg
              by_cases e : Y < 0
              · exact ⟨-1, by rw [if_pos e], rfl⟩
              · exact ⟨1, by rw [if_neg e, if_neg hY], rfl⟩
            obtain ⟨m, hm, hm0⟩ := hsg
            refine (Sign_k HK.out (by repeat (first | exact List.Mem.head _ | refine List.Mem.tail _ ?_)) hm).mono ?_
            rintro e w6 ⟨rfl, g⟩
            have HK := Lib.hid (HK.out.kept g)
            have y0 := g.cell y0 (by simp); have y1 := g.cell y1 (by simp); have h0 := g.cell h0 (by simp); have h1 := g.cell h1 (by simp)
            have G11 := Lib.hid (gb_trans G10.out g)
            have HY0 := Lib.hid (fun _ : Unit => hY)
            clear g x0 x1 z0 z1 hY
            go_wp2_with fail
            refine (DivMod_k HK.out (List.Mem.head _) (by repeat (first | exact List.Mem.head _ | refine List.Mem.tail _ ?_)) (by omega) (by omega) (HY0.out ())).mono ?_
            rintro e w7 ⟨s6, p6, n6, c6, s7, p7, n7, c7, rfl, hk, g⟩
            have hg2 := gb_alloc (World.grownBy_alloc w7 (.cells #[.bool s6, .slice p6 n6 c6] 25) none) (.cells #[.bool s7, .slice p7 n7 c7] 25)
            have t1 := (World.grownBy_alloc (w7.alloc (.cells #[.bool s6, .slice p6 n6 c6] 25)) (.cells #[.bool s7, .slice p7 n7 c7] 25) none).block _ (Array.getElem?_eq_some_iff.1 (top1 w7 (.cells #[.bool s6, .slice p6 n6 c6] 25))).1 (by simp)
            obtain ⟨q0, q1, -⟩ := cells_of (t1.trans (top1 _ _))
            obtain ⟨r0, r1, -⟩ := cells_of (top2 w7 (.cells #[.bool s6, .slice p6 n6 c6] 25) (.cells #[.bool s7, .slice p7 n7 c7] 25))
            have HK := Lib.hid (hk.kept hg2)
            have hgg := gb_trans g hg2
            have hS := And.intro q0 (And.intro q1 (And.intro r0 (And.intro r1 (And.intro (hgg.cell y0 (by simp)) (And.intro (hgg.cell y1 (by simp)) (And.intro (hgg.cell h0 (by simp)) (hgg.cell h1 (by simp))))))))
            have G12 := Lib.hid (gb_trans G11.out hgg)
            obtain ⟨m2, hm2, hm3⟩ := sg_nonneg (Int.emod_nonneg (X * Y + Z) (HY0.out ()))
            have HSG := Lib.hid hm2
            have hlt : (X * Y + Z) % Y < (Y.natAbs : Int) := Int.emod_lt _ (HY0.out ())
            have hdm : (X * Y + Z) / Y * Y + (X * Y + Z) % Y = X * Y + Z := by
              rw [Int.mul_comm]; exact Int.mul_ediv_add_emod _ _
            have HC1 := Lib.hid (cmp_eq hdm); have HC2 := Lib.hid (cmp_lt hlt)
            clear hk g hg2 t1 q0 q1 r0 r1 hgg y0 y1 h0 h1 hm2 hlt hdm hm hm0
            go_wp2_with fail
            generalize w7.heap.size = t at *
            generalize (w7.alloc (.cells #[.bool s6, .slice p6 n6 c6] 25)).alloc (.cells #[.bool s7, .slice p7 n7 c7] 25) = W3 at *
            have HGc := Lib.hid (gb_refl W3 none)
            have HG := Lib.hid (gb_refl W3 none)
            go_region_held3 (fun w' => w'.cell? ⟨t, 0, none⟩ = some (.bool s6) ∧ w'.cell? ⟨t, 1, none⟩ = some (.slice p6 n6 c6) ∧ w'.cell? ⟨t + 1, 0, none⟩ = some (.bool s7) ∧ w'.cell? ⟨t + 1, 1, none⟩ = some (.slice p7 n7 c7) ∧ w'.cell? ⟨q + 1, 0, none⟩ = some (.bool s2) ∧ w'.cell? ⟨q + 1, 1, none⟩ = some (.slice p2 n2 c2) ∧ w'.cell? ⟨h, 0, none⟩ = some (.bool sp) ∧ w'.cell? ⟨h, 1, none⟩ = some (.slice pp np cp)) (first | with_reducible exact hS | exact s8 hS (below_gb (gb_new (gb_below (by repeat (first | with_reducible exact HGc.out | with_reducible exact gb_refl _ _ | with_reducible refine gb_drew ?_ | with_reducible refine gb_alloc ?_ _))) (by first | omega | (simp; omega)) (gb_set (gb_set (gb_refl _ _) _) _))) | exact s8 hS (by repeat (first | with_reducible exact HGc.out | with_reducible exact gb_refl _ _ | with_reducible refine gb_drew ?_ | with_reducible refine gb_alloc ?_ _)))
              (first | (go_at_call 21; go_must (refine (Add_k (HK.out.kept (by repeat (first | with_reducible exact gb_refl _ _ | with_reducible refine gb_drew ?_ | with_reducible refine gb_alloc ?_ _))) (by (repeat with_reducible refine cdrew ?_); first | with_reducible exact (cells_of (top1 _ _)).1 | with_reducible exact (cells_of (top2 _ _ _)).1 | with_reducible exact (gb_alloc (gb_refl _ none) _).cell ((cells_of (top1 _ _)).1) (by simp) | with_reducible exact (gb_alloc (gb_refl _ none) _).cell ((cells_of (top2 _ _ _)).1) (by simp) | with_reducible exact HG.out.cell ((cells_of (top1 _ _)).1) (by simp) | with_reducible exact HG.out.cell ((cells_of (top2 _ _ _)).1) (by simp) | with_reducible exact HG.out.cell ((gb_alloc (gb_refl _ none) _).cell ((cells_of (top1 _ _)).1) (by simp)) (by simp) | with_reducible exact HG.out.cell ((gb_alloc (gb_refl _ none) _).cell ((cells_of (top2 _ _ _)).1) (by simp)) (by simp) | with_reducible exact (gb_alloc HG.out _).cell ((cells_of (top1 _ _)).1) (by simp) | with_reducible exact (gb_alloc HG.out _).cell ((cells_of (top2 _ _ _)).1) (by simp) | with_reducible exact (gb_alloc HG.out _).cell ((gb_alloc (gb_refl _ none) _).cell ((cells_of (top1 _ _)).1) (by simp)) (by simp) | with_reducible exact (gb_alloc HG.out _).cell ((gb_alloc (gb_refl _ none) _).cell ((cells_of (top2 _ _ _)).1) (by simp)) (by simp)) (by (repeat with_reducible refine cdrew ?_); first | with_reducible exact (cells_of (top1 _ _)).2.1 | with_reducible exact (cells_of (top2 _ _ _)).2.1 | with_reducible exact (gb_alloc (gb_refl _ none) _).cell ((cells_of (top1 _ _)).2.1) (by simp) | with_reducible exact (gb_alloc (gb_refl _ none) _).cell ((cells_of (top2 _ _ _)).2.1) (by simp) | with_reducible exact HG.out.cell ((cells_of (top1 _ _)).2.1) (by simp) | with_reducible exact HG.out.cell ((cells_of (top2 _ _ _)).2.1) (by simp) | with_reducible exact HG.out.cell ((gb_alloc (gb_refl _ none) _).cell ((cells_of (top1 _ _)).2.1) (by simp)) (by simp) | with_reducible exact HG.out.cell ((gb_alloc (gb_refl _ none) _).cell ((cells_of (top2 _ _ _)).2.1) (by simp)) (by simp) | with_reducible exact (gb_alloc HG.out _).cell ((cells_of (top1 _ _)).2.1) (by simp) | with_reducible exact (gb_alloc HG.out _).cell ((cells_of (top2 _ _ _)).2.1) (by simp) | with_reducible exact (gb_alloc HG.out _).cell ((gb_alloc (gb_refl _ none) _).cell ((cells_of (top1 _ _)).2.1) (by simp)) (by simp) | with_reducible exact (gb_alloc HG.out _).cell ((gb_alloc (gb_refl _ none) _).cell ((cells_of (top2 _ _ _)).2.1) (by simp)) (by simp)) (by repeat (first | exact List.Mem.head _ | refine List.Mem.tail _ ?_)) (by repeat (first | exact List.Mem.head _ | refine List.Mem.tail _ ?_)) (by omega) (by omega)).mono ?_); rintro e w9 ⟨s9, p9, n9, c9, rfl, hk9, hg9⟩; (try with_reducible have hg9 := undrew hg9); have HGc := Lib.hid (gb_trans (show W3.grownBy _ none from (by repeat (first | with_reducible exact HGc.out | with_reducible exact gb_refl _ _ | with_reducible refine gb_drew ?_ | with_reducible refine gb_alloc ?_ _))) hg9); have HG := Lib.hid hg9; have HK := Lib.hid hk9; have hz9 := HGc.out.size; clear hk9 hg9) | (go_at_call 28; refine (Mul_k (HK.out.kept (by repeat (first | with_reducible exact gb_refl _ _ | with_reducible refine gb_drew ?_ | with_reducible refine gb_alloc ?_ _))) (by repeat (first | exact List.Mem.head _ | refine List.Mem.tail _ ?_)) (by repeat (first | exact List.Mem.head _ | refine List.Mem.tail _ ?_)) (by omega) (by omega)).mono ?_; rintro e w9 ⟨s9, p9, n9, c9, rfl, hk9, hg9⟩; (try with_reducible have hg9 := undrew hg9); have HGc := Lib.hid (gb_trans (show W3.grownBy _ none from (by repeat (first | with_reducible exact HGc.out | with_reducible exact gb_refl _ _ | with_reducible refine gb_drew ?_ | with_reducible refine gb_alloc ?_ _))) hg9); have HG := Lib.hid hg9; have HK := Lib.hid hk9; have hz9 := HGc.out.size; clear hk9 hg9) | (go_at_call 24; refine (Sub_k (HK.out.kept (by repeat (first | with_reducible exact gb_refl _ _ | with_reducible refine gb_drew ?_ | with_reducible refine gb_alloc ?_ _))) (by repeat (first | exact List.Mem.head _ | refine List.Mem.tail _ ?_)) (by repeat (first | exact List.Mem.head _ | refine List.Mem.tail _ ?_)) (by omega) (by omega)).mono ?_; rintro e w9 ⟨s9, p9, n9, c9, rfl, hk9, hg9⟩; (try with_reducible have hg9 := undrew hg9); have HGc := Lib.hid (gb_trans (show W3.grownBy _ none from (by repeat (first | with_reducible exact HGc.out | with_reducible exact gb_refl _ _ | with_reducible refine gb_drew ?_ | with_reducible refine gb_alloc ?_ _))) hg9); have HG := Lib.hid hg9; have HK := Lib.hid hk9; have hz9 := HGc.out.size; clear hk9 hg9) | (go_at_call 32; refine (Abs_k (HK.out.kept (by repeat (first | with_reducible exact gb_refl _ _ | with_reducible refine gb_drew ?_ | with_reducible refine gb_alloc ?_ _))) (by repeat (first | exact List.Mem.head _ | refine List.Mem.tail _ ?_))).mono ?_; rintro e w9 ⟨s9, p9, n9, c9, rfl, hk9, hg9⟩; (try with_reducible have hg9 := undrew hg9); have HGc := Lib.hid (gb_trans (show W3.grownBy _ none from (by repeat (first | with_reducible exact HGc.out | with_reducible exact gb_refl _ _ | with_reducible refine gb_drew ?_ | with_reducible refine gb_alloc ?_ _))) hg9); have HG := Lib.hid hg9; have HK := Lib.hid hk9; have hz9 := HGc.out.size; clear hk9 hg9) | (go_at_call 14; refine (Sign_k (HK.out.kept (by repeat (first | with_reducible exact gb_refl _ _ | with_reducible refine gb_drew ?_ | with_reducible refine gb_alloc ?_ _))) (by repeat (first | exact List.Mem.head _ | refine List.Mem.tail _ ?_)) HSG.out).mono ?_; rintro e w9 ⟨rfl, hg9⟩; (try with_reducible have hg9 := undrew hg9); have HGc := Lib.hid (gb_trans (show W3.grownBy _ none from (by repeat (first | with_reducible exact HGc.out | with_reducible exact gb_refl _ _ | with_reducible refine gb_drew ?_ | with_reducible refine gb_alloc ?_ _))) hg9); have HG := Lib.hid hg9; have HK := Lib.hid (HK.out.kept (gb_trans (by repeat (first | with_reducible exact gb_refl _ _ | with_reducible refine gb_drew ?_ | with_reducible refine gb_alloc ?_ _)) hg9)); clear hg9) | (go_at_call 18; refine (Cmp_k (HK.out.kept (by repeat (first | with_reducible exact gb_refl _ _ | with_reducible refine gb_drew ?_ | with_reducible refine gb_alloc ?_ _))) (by repeat (first | exact List.Mem.head _ | refine List.Mem.tail _ ?_)) (by repeat (first | exact List.Mem.head _ | refine List.Mem.tail _ ?_)) (by omega) (by omega) (by first | exact HC1.out | exact HC2.out)).mono ?_; rintro e w9 ⟨rfl, hg9⟩; (try with_reducible have hg9 := undrew hg9); have HGc := Lib.hid (gb_trans (show W3.grownBy _ none from (by repeat (first | with_reducible exact HGc.out | with_reducible exact gb_refl _ _ | with_reducible refine gb_drew ?_ | with_reducible refine gb_alloc ?_ _))) hg9); have HG := Lib.hid hg9; have HK := Lib.hid (HK.out.kept (gb_trans (by repeat (first | with_reducible exact gb_refl _ _ | with_reducible refine gb_drew ?_ | with_reducible refine gb_alloc ?_ _)) hg9)); clear hg9))
            all_goals
              go_wp2
              go_ret
              exact ⟨rfl, gb_trans G12.out HGc.out⟩
    · have d9 : (E != 0) = true := bne_iff_ne.2 hE0
      go_wp2_with fail
      go_ret
      exact ⟨rfl, G3.out⟩
end Go.Proofs.Ytaheeccpihbcaaa
