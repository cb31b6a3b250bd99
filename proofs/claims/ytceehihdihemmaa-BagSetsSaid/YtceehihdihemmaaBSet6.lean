/- Sets parted: Without, Both. -/
import Derived.Test.YtceehihdihemmaaBOnly
namespace Go.Proofs.Ytceehihdihemmaa
open Go.RowKit Go.Sort

set_option maxRecDepth 100000 in
theorem gone_c (q : Nat) (p : Option Addr) (c : Nat) (T : List Int) (y : Int) (w : World) (hl : T.length ≤ 1000000) (ha : Asc T) (h : LAt w p T) (hb : w.heap[q]? = some (.cells #[.slice p T.length c] 25 (0, 0))) :
    Calls Try.prog 53 #[.int .i64 y, .pointer (some ⟨q, 0, none⟩)] w (BoolPost (!decide (y ∈ T)) w) := by
  have HC := Lib.hid (Has_c p c T y w hl ha h)
  obtain ⟨hc, -⟩ := cellb hb
  clear h hb
  generalize T.length = n at *
  generalize decide (y ∈ T) = b at *
  go_enter Try.func53, Try.ntmps53
  go_wp2_with fail
  refine HC.out.mono ?_
  rintro e w2 ⟨rfl, hg⟩
  have HG := Lib.hid hg
  clear hg
  go_wp2_with fail
  go_ret
  exact ⟨rfl, HG.out⟩

set_option maxRecDepth 100000 in
set_option maxHeartbeats 4000000 in
theorem Without_c (p1 p2 : Option Addr) (c1 c2 : Nat) (S zs : List Int) (w : World) (hl : S.length ≤ 10000) (hl2 : zs.length ≤ 10000) (hS : Asc S) (hc2 : zs.length ≤ c2) (h1 : LAt w p1 S) (h2 : LAt w p2 zs) :
    Calls Try.prog 18 #[.agg #[.slice p1 S.length c1], .slice p2 zs.length c2] w (SetPost w (fun T => ∀ x, x ∈ T ↔ x ∈ S ∧ x ∉ zs)) := by
  obtain ⟨W, hW, b0, b1, gW⟩ := two_boxes w (.slice p1 S.length c1) 25
  have HB1 := Lib.hid b1; have HGW := Lib.hid gW
  have HSA := Lib.hid hS
  have hS := show W.cell? ⟨w.heap.size, 0, none⟩ = some (.slice p1 S.length c1) by rw [cell_of_row _ _ 0 _ _ (0, 0) b0]; rfl
  have HOF := Lib.hid (Of_c p2 c2 zs W (by omega) hc2 (h2.kept gW))
  have HA1 := Lib.hid (h1.kept gW)
  have HON := Lib.hid (fun (q : Nat) (st : Int → Bool) (w' : World) (h : LAt w' p1 S) hst => only1_c q st p1 c1 S w' hl HSA.out h hst)
  clear h1 h2 hc2 b0 b1 gW
  generalize S.length = n at *
  generalize hm : zs.length = m at *
  have HM := Lib.hid hm
  clear hm
  go_enter Try.func18, Try.ntmps18
  go_wp2_with fail
  rw [← hW]
  clear hW
  refine HOF.out.mono ?_
  rintro e w5 ⟨T, p5, n5, c5, rfl, hset, ⟨p6, c6, he, hi1, hi2, hi3⟩, -, hlen, hg⟩
  injection he with e1 e2 e3; subst e1; subst e2; subst e3
  have hga := World.grownBy_alloc w5 (.cells #[.slice p5 T.length c5] 25) none
  have hg6 := gb_alloc hg (.cells #[.slice p5 T.length c5] 25)
  have hS := s1 hS hg6
  have HC := Lib.hid (HON.out w5.heap.size (fun y => !decide (y ∈ T)) _ (HA1.out.kept hg6) (fun y w' hw' => gone_c w5.heap.size p5 c5 T y w' (by have := HM.out; omega) hset.1 (hi3.kept (gb_trans hga hw')) (bx hw' (heap_alloc_new w5 _))))
  have HG6 := Lib.hid hg6; have HSET := Lib.hid hset
  clear hga hg6 hg hset hlen hi1 hi2 hi3
  go_wp2_with fail
  refine HC.out.mono ?_
  rintro e w7 ⟨U, p7, n7, c7, rfl, rfl, hau, ⟨p8, c8, he, hi1, hi2, hi3⟩, hg⟩
  injection he with e1 e2 e3; subst e1; subst e2; subst e3
  have hg7 := gb_trans HG6.out hg
  obtain ⟨hcb, hcf⟩ := cellb (bx hg7 HB1.out)
  obtain ⟨k1, k2, k3⟩ := set_ret (c := c7) HB1.out hg7 hi3 HGW.out (by omega)
  have K1 := Lib.hid k1; have K2 := Lib.hid k2; have HAU := Lib.hid hau; have HI1 := Lib.hid hi1; have HI2 := Lib.hid hi2
  clear k1 k2 hau hi1 hi2 hi3 hg hg7 hS
  generalize hul : (S.filter fun y => !decide (y ∈ T)).length = ul at *
  have HUL := Lib.hid hul
  clear hul
  go_wp2_with fail
  exact bodyPost_ret (v := .agg #[.slice p7 ul c7]) (by simp [results, Try.results18, go_sem, k3]) rfl ⟨S.filter fun y => !decide (y ∈ T), p7, ul, c7, rfl, fun x => by rw [List.mem_filter]; simp; rw [HSET.out.2 x]; exact fun _ => Iff.rfl, HAU.out, ⟨p7, c7, by rw [HUL.out], by rw [HUL.out]; exact HI1.out, HI2.out, K1.out⟩, K2.out⟩

theorem three_boxes (w : World) (v u : Value) (T : TypeId) : ∃ W, W = ((w.alloc (.cells #[v] T)).alloc (.cells #[u] T)).alloc (.cells #[.slice none 0 0] T) ∧ W.heap[w.heap.size]? = some (.cells #[v] T (0, 0)) ∧ W.heap[w.heap.size + 1]? = some (.cells #[u] T (0, 0)) ∧ W.heap[w.heap.size + 1 + 1]? = some (.cells #[.slice none 0 0] T (0, 0)) ∧ w.grownBy W none := by
  have h1 := heap_alloc_new w (.cells #[v] T)
  have g2 := World.grownBy_alloc (w.alloc (.cells #[v] T)) (.cells #[u] T) none
  have h2 := heap_alloc_new (w.alloc (.cells #[v] T)) (.cells #[u] T)
  have g3 := World.grownBy_alloc ((w.alloc (.cells #[v] T)).alloc (.cells #[u] T)) (.cells #[.slice none 0 0] T) none
  have h3 := heap_alloc_new ((w.alloc (.cells #[v] T)).alloc (.cells #[u] T)) (.cells #[.slice none 0 0] T)
  rw [World.size_alloc] at h2
  rw [World.size_alloc, World.size_alloc] at h3
  exact ⟨_, rfl, bx g3 (bx g2 h1), bx g3 h2, h3, gb_trans (World.grownBy_alloc _ _ _) (gb_trans g2 g3)⟩

set_option maxRecDepth 100000 in
set_option maxHeartbeats 4000000 in
theorem Both_c (p1 p2 : Option Addr) (c1 c2 : Nat) (S T : List Int) (w : World) (hl : S.length ≤ 10000) (hl2 : T.length ≤ 10000) (hS : Asc S) (hT : Asc T) (h1 : LAt w p1 S) (h2 : LAt w p2 T) :
    Calls Try.prog 20 #[.agg #[.slice p1 S.length c1], .agg #[.slice p2 T.length c2]] w (SetPost w (fun U => ∀ x, x ∈ U ↔ x ∈ S ∧ x ∈ T)) := by
  obtain ⟨W, hW, b0, b1, b2, gW⟩ := three_boxes w (.slice p1 S.length c1) (.slice p2 T.length c2) 25
  have HB1 := Lib.hid b2; have HGW := Lib.hid gW
  have hc1 := show W.cell? ⟨w.heap.size, 0, none⟩ = some (.slice p1 S.length c1) by rw [cell_of_row _ _ 0 _ _ (0, 0) b0]; rfl
  have hc2 := show W.cell? ⟨w.heap.size + 1, 0, none⟩ = some (.slice p2 T.length c2) by rw [cell_of_row _ _ 0 _ _ (0, 0) b1]; rfl
  have HC := Lib.hid (only2_c p2 T.length c2 (fun y => decide (y ∈ T)) p1 c1 S W hl hS (h1.kept gW) (fun y w' hw' => Has_c p2 c2 T y w' (by omega) hT (h2.kept (gb_trans gW hw'))))
  clear h1 h2 b0 b1 b2 gW
  generalize S.length = n at *
  generalize T.length = m at *
  go_enter Try.func20, Try.ntmps20
  go_wp2_with fail
  rw [← hW]
  clear hW
  go_wp2_with fail
  refine HC.out.mono ?_
  rintro e w7 ⟨U, p7, n7, c7, rfl, rfl, hau, ⟨p8, c8, he, hi1, hi2, hi3⟩, hg⟩
  injection he with e1 e2 e3; subst e1; subst e2; subst e3
  obtain ⟨hcb, hcf⟩ := cellb (bx hg HB1.out)
  obtain ⟨k1, k2, k3⟩ := set_ret (c := c7) HB1.out hg hi3 HGW.out (by omega)
  have K1 := Lib.hid k1; have K2 := Lib.hid k2; have HAU := Lib.hid hau; have HI1 := Lib.hid hi1; have HI2 := Lib.hid hi2
  clear k1 k2 hau hi1 hi2 hi3 hg hc1 hc2
  generalize hul : (S.filter fun y => decide (y ∈ T)).length = ul at *
  have HUL := Lib.hid hul
  clear hul
  go_wp2_with fail
  exact bodyPost_ret (v := .agg #[.slice p7 ul c7]) (by simp [results, Try.results20, go_sem, k3]) rfl ⟨S.filter fun y => decide (y ∈ T), p7, ul, c7, rfl, fun x => by rw [List.mem_filter]; simp, HAU.out, ⟨p7, c7, by rw [HUL.out], by rw [HUL.out]; exact HI1.out, HI2.out, K1.out⟩, K2.out⟩
end Go.Proofs.Ytceehihdihemmaa
