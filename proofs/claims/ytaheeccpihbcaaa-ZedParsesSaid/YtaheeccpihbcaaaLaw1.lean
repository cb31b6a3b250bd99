/- The law on reading numbers, walked. -/
import Derived.Test.YtaheeccpihbcaaaPtxt
import Derived.Test.YtaheeccpihbcaaaAnchor
import Derived.Deep.RegionWith
namespace Go.Proofs.Ytaheeccpihbcaaa
open Go.RowKit Mx

set_option maxRecDepth 100000 in
set_option maxHeartbeats 4000000 in
theorem parses_c (s : ByteArray) (w : World) (hs : s.size ≤ maxLen) : Calls Try.prog 3 #[.string s] w (ValPost (.bool true) w) := by
  unfold maxLen at hs
  go_enter Try.func3, Try.ntmps3
  go_wp2_with fail
  refine (anchor_c _).mono ?_
  rintro e w1 ⟨rfl, g1⟩
  have G1 := Lib.hid g1
  clear g1
  by_cases h200 : 200 < s.size
  · have d1 : decide ((200 : Int) < s.size) = true := decide_eq_true (by omega)
    go_wp2_with fail
    go_ret
    exact ⟨rfl, G1.out⟩
  · have d1 : decide ((200 : Int) < s.size) = false := decide_eq_false (by omega)
    go_wp2_with fail
    refine (Parse_c s _).mono ?_
    rintro e w2 ⟨x, rfl, hx, g, -⟩
    obtain ⟨sx, px, nx, cx, ex, HX⟩ := int_parts hx
    subst ex
    have G2 := Lib.hid (gb_trans G1.out g)
    have HVL := Lib.hid (fun _ : Unit => parseV_lim s.data.toList)
    have HTX := Lib.hid (fun h => txt_parse (s := s) h)
    have hV0 : parseE s.data.toList ≠ 0 → parseV s.data.toList = 0 := fun h => by unfold parseV; rw [if_neg h]
    have HV0 := Lib.hid hV0
    obtain ⟨E, hE⟩ : ∃ E, parseE s.data.toList = E := ⟨_, rfl⟩
    have HR := Lib.hid (fun w => RParse_c s w)
    have hEE : (E != E) = false := by simp
    have hgx := World.grownBy_alloc w2 (.cells #[.bool sx, .slice px nx cx] 25) none
    have HX := Lib.hid (HX.out.kept hgx)
    have TX := Lib.hid (top1 w2 (.cells #[.bool sx, .slice px nx cx] 25))
    have G3 := Lib.hid (gb_trans G2.out hgx)
    have HE := Lib.hid hE
    rw [hE]
    clear hx g hgx hV0 hE
    go_wp2_with fail
    refine (HR.out _).mono ?_
    rintro e w3 ⟨z, rfl, hz, g, -⟩
    obtain ⟨sz, pz, nz, cz, ez, HZ⟩ := z_parts hz
    subst ez
    rw [HE.out]
    have hsz : sz = sg (parseV s.data.toList) := (z_open HZ.out).1
    have HSZ := Lib.hid hsz
    have hg4 := gb_alloc g (.cells #[.int .i64 sz, .slice pz nz cz] 31)
    have HX := Lib.hid (HX.out.kept hg4)
    have tx := (hg4.block _ (Array.getElem?_eq_some_iff.1 TX.out).1 (by simp)).trans TX.out
    have TX := Lib.hid tx
    have TZ := Lib.hid (top1 w3 (.cells #[.int .i64 sz, .slice pz nz cz] 31))
    obtain ⟨x0, x1, x2⟩ := cells_of tx
    have G5 := Lib.hid (gb_trans G3.out hg4)
    clear hz g hg4 tx hsz
    by_cases hE0 : E = 0
    · subst hE0
      go_wp2_with fail
      have hz0 := (zcells_of TZ.out).1
      generalize w3.alloc (.cells #[.int .i64 sz, .slice pz nz cz] 31) = W at *
      have HS1 := Lib.hid (fun W' (hg : W.grownBy W' none) => (HTX.out HE.out) ▸ String_c _ _ W' (HX.out.kept hg) (HVL.out ()))
      have HS2 := Lib.hid (fun W' (hg : W.grownBy W' none) => HSZ.out ▸ Sign_c _ _ W' (HX.out.kept hg))
      clear HVL HTX HSZ HV0 HR
      have hd1 : (s.toList == s.toList) = true := by simp
      have hd2 : (sz == sz) = true := by simp
      go_region_with (first
        | (go_at_call 15; refine (HS1.out _ ?_).mono ?_; (repeat (first | exact gb_refl _ _ | refine gb_drew ?_)); rintro e w5 ⟨rfl, g⟩; have g6 := gb_trans (show W.grownBy _ none by repeat (first | exact gb_refl _ _ | refine gb_drew ?_)) g; have y0 := g6.cell x0 (by simp); have y1 := g6.cell x1 (by simp); have y2 := g6.cell hz0 (by simp); have G6 := Lib.hid g6; clear g g6)
        | (go_at_call 14; refine (HS2.out _ ?_).mono ?_; (repeat (first | exact gb_refl _ _ | exact G6.out | refine gb_drew ?_)); rintro e w6 ⟨rfl, g⟩; have g7 := gb_trans (show W.grownBy _ none by repeat (first | exact gb_refl _ _ | exact G6.out | refine gb_drew ?_)) g; have y3 := g7.cell hz0 (by simp); have G7 := Lib.hid g7; clear g g7))
      all_goals
        go_wp2
        go_ret
        exact ⟨rfl, gb_trans G5.out (by repeat (first | exact G7.out | refine gb_drew ?_))⟩
    · have d0 : (E != 0) = true := bne_iff_ne.2 hE0
      have hv : parseV s.data.toList = 0 := HV0.out (by rw [HE.out]; exact hE0)
      have HSG := Lib.hid (Sign_c _ _ _ HX.out)
      rw [hv] at HSG
      clear hv HVL HTX HV0
      go_wp2_with fail
      refine HSG.out.mono ?_
      rintro e w5 ⟨rfl, g⟩
      rw [show sg 0 = 0 from rfl]
      have HFIN := Lib.hid (gb_trans G5.out g)
      clear g
      go_wp2_with fail
      go_ret
      exact ⟨rfl, HFIN.out⟩
end Go.Proofs.Ytaheeccpihbcaaa
