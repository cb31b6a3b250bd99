/- The statement on powers: the walk (under way). -/
import Derived.Test.YtaheeccpihbcaaaBounds
import Derived.Test.YtaheeccpihbcaaaAnchor
import Derived.Deep.CutBlock
import Derived.Deep.DeepCutAuto
namespace Go.Proofs.Ytaheeccpihbcaaa
open Go.RowKit Mx

/-- What lies behind k texts. -/
def LRel (wr : World) (k g cap : Nat) (cur : World) : Prop :=
  ∃ F, OwnZ cur wr.heap.size g cap (k + 1) F ∧ (∀ j, j < k + 1 → (F j).natAbs < Lim) ∧ Below wr.heap.size wr cur

/-- A box with a number. -/
def Boxed (w : World) (q : Nat) (Z : Int) : Prop :=
  ∃ (s : Bool) (p : Option Addr) (n c : Nat), w.heap[q]? = some (.cells #[.bool s, .slice p n c] 25 (0, 0)) ∧ IsInt w (.agg #[.bool s, .slice p n c]) Z

theorem Boxed.kept {w w' : World} {q : Nat} {Z : Int} (h : Boxed w q Z) (hg : w.grownBy w' none) : Boxed w' q Z := by
  obtain ⟨s, p, n, c, h1, h2⟩ := h
  exact ⟨s, p, n, c, (hg.block _ (Array.getElem?_eq_some_iff.1 h1).1 (by simp)).trans h1, h2.kept hg⟩

/-- What lies behind k numbers that were looked at. -/
def CRel (w : World) (q1 q2 qy qz g n : Nat) (A B P : Int) (sf : Nat → Bool) (pf : Nat → Option Addr) (lf cf : Nat → Nat) (F : Nat → Int) (wx : World) : Prop :=
  Boxed wx q1 A ∧ Boxed wx q2 B ∧ Boxed wx qy P ∧ Boxed wx qz P ∧ Zs wx g n sf pf lf cf F ∧ w.grownBy wx none

theorem CRel.kept {w : World} {q1 q2 qy qz g n : Nat} {A B P : Int} {sf : Nat → Bool} {pf : Nat → Option Addr} {lf cf : Nat → Nat} {F : Nat → Int} {wx wy : World} (h : CRel w q1 q2 qy qz g n A B P sf pf lf cf F wx) (hg : wx.grownBy wy none) : CRel w q1 q2 qy qz g n A B P sf pf lf cf F wy :=
  ⟨h.1.kept hg, h.2.1.kept hg, h.2.2.1.kept hg, h.2.2.2.1.kept hg, h.2.2.2.2.1.kept hg, gb_trans h.2.2.2.2.2 hg⟩

set_option maxRecDepth 100000 in
set_option maxHeartbeats 4000000 in
theorem powers_c (s : ByteArray) (n : Int) (pa : Option Addr) (m cap : Nat) (w : World) (n1 : -9223372036854775808 ≤ n) (n2 : n ≤ 9223372036854775807) (hs : s.size ≤ maxLen) (hm : m ≤ cap) (hc : cap ≤ maxLen) (ls : Nat → ByteArray) (hstr : ∀ j, j < m → ∃ a, pa = some a ∧ w.cell? (a.add j) = some (.string (ls j))) :
    Calls Try.prog 10 #[.string s, .int .i64 n, .slice pa m cap] w (ValPost (.bool true) w) := by
  have hls : s.data.toList.length = s.size := Array.length_toList
  have HSTR := Lib.hid hstr
  clear hstr
  unfold maxLen at hs hc
  go_enter Try.func10, Try.ntmps10
  go_wp2_with fail
  refine (anchor_c _).mono ?_
  rintro e w1 ⟨rfl, g1⟩
  have G1 := Lib.hid g1
  clear g1
  go_wp2_with fail
  refine (Parse_c s _).mono ?_
  rintro e w2 ⟨x, rfl, hx, g, hfar⟩
  obtain ⟨sx, px, nx, cx, ex, HX⟩ := int_parts hx
  subst ex
  have G2 := Lib.hid (gb_trans G1.out g)
  have HV := Lib.hid (parseV_lt s.data.toList)
  obtain ⟨E, hE⟩ : ∃ E, parseE s.data.toList = E := ⟨_, rfl⟩
  rw [hE]
  have HE := Lib.hid hE
  clear hx g hfar hE
  by_cases hE0 : E = 0
  · subst hE0
    by_cases h12 : 12 < s.size
    · have d1 : decide ((12 : Int) < s.size) = true := decide_eq_true (by omega)
      go_wp2_with fail
      go_ret
      exact ⟨rfl, by repeat (first | exact G2.out | refine gb_drew ?_ | refine gb_alloc ?_ _)⟩
    · have d1 : decide ((12 : Int) < s.size) = false := decide_eq_false (by omega)
      by_cases hn4 : 40 < n ∧ n ≤ 1000
      · have d2 : decide (40 < n) = true := decide_eq_true hn4.1
        have d3 : decide (n ≤ 1000) = true := decide_eq_true hn4.2
        go_wp2_with fail
        go_ret
        exact ⟨rfl, by repeat (first | exact G2.out | refine gb_drew ?_ | refine gb_alloc ?_ _)⟩
      · by_cases hm12 : 12 < m
        · have d4 : decide ((12 : Int) < m) = true := decide_eq_true (by omega)
          by_cases hn5 : 40 < n
          · have d2 : decide (40 < n) = true := decide_eq_true hn5
            have d3 : decide (n ≤ 1000) = false := decide_eq_false (by omega)
            go_wp2_with fail
            go_ret
            exact ⟨rfl, by repeat (first | exact G2.out | refine gb_drew ?_ | refine gb_alloc ?_ _)⟩
          · have d2 : decide (40 < n) = false := decide_eq_false hn5
            go_wp2_with fail
            go_ret
            exact ⟨rfl, by repeat (first | exact G2.out | refine gb_drew ?_ | refine gb_alloc ?_ _)⟩
        · have d4 : decide ((12 : Int) < m) = false := decide_eq_false (by omega)
          have hgx := World.grownBy_alloc w2 (.cells #[.bool sx, .slice px nx cx] 25) none
          have HX := Lib.hid (HX.out.kept hgx)
          have G3 := Lib.hid (gb_trans G2.out hgx)
          have TX := Lib.hid (top1 w2 (.cells #[.bool sx, .slice px nx cx] 25))
          have HP := Lib.hid (Pow_c _ _ n _ HX.out n1 n2 (parseV_lim _) (fun k hk h2 => parseV_pow _ (by omega) k (by omega)))
          clear hgx
          by_cases hn5 : 40 < n
          · have d2 : decide (40 < n) = true := decide_eq_true hn5
            have d3 : decide (n ≤ 1000) = false := decide_eq_false (by omega)
            have d5 : decide (n < 0) = false := decide_eq_false (by omega)
            have d6 : decide (1000 < n) = true := decide_eq_true (by omega)
            go_wp2_with fail
            refine HP.out.mono ?_
            rintro e w3 ⟨y, F, rfl, g, hb, -⟩
            obtain ⟨rfl, hy⟩ := hb (by omega)
            obtain ⟨sy, py, ny, cy, ey, HY⟩ := int_parts hy
            subst ey
            have G4 := Lib.hid (gb_trans G3.out g)
            have HY := Lib.hid (HY.out.kept (World.grownBy_alloc w3 (.cells #[.bool sy, .slice py ny cy] 25) none))
            clear g hb hy
            go_wp2_with fail
            refine (Sign_c _ 0 _ HY.out).mono ?_
            rintro e w4 ⟨rfl, g⟩
            have hfin : w.grownBy w4 none := gb_trans (gb_alloc G4.out _) g
            have hsg : sg 0 = 0 := rfl
            rw [hsg]
            have HFIN := Lib.hid hfin
            clear hfin g hsg
            go_wp2_with fail
            go_ret
            exact ⟨rfl, HFIN.out⟩
          · have d2 : decide (40 < n) = false := decide_eq_false hn5
            by_cases hn0 : n < 0
            · have d5 : decide (n < 0) = true := decide_eq_true hn0
              go_wp2_with fail
              refine HP.out.mono ?_
              rintro e w3 ⟨y, F, rfl, g, hb, -⟩
              obtain ⟨rfl, hy⟩ := hb (by omega)
              obtain ⟨sy, py, ny, cy, ey, HY⟩ := int_parts hy
              subst ey
              have G4 := Lib.hid (gb_trans G3.out g)
              have HY := Lib.hid (HY.out.kept (World.grownBy_alloc w3 (.cells #[.bool sy, .slice py ny cy] 25) none))
              clear g hb hy
              go_wp2_with fail
              refine (Sign_c _ 0 _ HY.out).mono ?_
              rintro e w4 ⟨rfl, g⟩
              have hfin : w.grownBy w4 none := gb_trans (gb_alloc G4.out _) g
              have hsg : sg 0 = 0 := rfl
              rw [hsg]
              have HFIN := Lib.hid hfin
              clear hfin g hsg
              go_wp2_with fail
              go_ret
              exact ⟨rfl, HFIN.out⟩
            · have d5 : decide (n < 0) = false := decide_eq_false hn0
              have d6 : decide (1000 < n) = false := decide_eq_false (by omega)
              go_wp2_with fail
              refine HP.out.mono ?_
              rintro e w3 ⟨y, F, rfl, g, -, hb⟩
              obtain ⟨rfl, hy⟩ := hb (by omega) (by omega)
              obtain ⟨sy, py, ny, cy, ey, HY⟩ := int_parts hy
              subst ey
              have hgy := World.grownBy_alloc w3 (.cells #[.bool sy, .slice py ny cy] 25) none
              have HX := Lib.hid (HX.out.kept (gb_trans g hgy))
              have TX := Lib.hid (((gb_trans g hgy).block _ (Array.getElem?_eq_some_iff.1 TX.out).1 (by simp)).trans TX.out)
              have TY := Lib.hid (top1 w3 (.cells #[.bool sy, .slice py ny cy] 25))
              have G4 := Lib.hid (gb_trans (gb_trans G3.out g) hgy)
              have HY := Lib.hid (HY.out.kept hgy)
              clear g hb hy hgy
              go_wp2_with fail
              refine (From_c 1 _ (by omega) (by omega)).mono ?_
              rintro e w4 ⟨z, rfl, hz, g⟩
              obtain ⟨sz, pz, nz, cz, ez, HZ⟩ := int_parts hz
              subst ez
              obtain ⟨n', rfl⟩ : ∃ n' : Nat, n = n' := ⟨n.toNat, by omega⟩
              rw [Int.toNat_natCast] at HY
              have hgz := World.grownBy_alloc w4 (.cells #[.bool sz, .slice pz nz cz] 25) none
              have hgg := gb_trans g hgz
              have HX := Lib.hid (HX.out.kept hgg)
              have HY4 := Lib.hid HY.out
              have HY := Lib.hid (HY.out.kept hgg)
              have TXold := Lib.hid ((g.block _ (Array.getElem?_eq_some_iff.1 TX.out).1 (by simp)).trans TX.out)
              have TX := Lib.hid ((hgg.block _ (Array.getElem?_eq_some_iff.1 TX.out).1 (by simp)).trans TX.out)
              have TY := Lib.hid ((hgg.block _ (Array.getElem?_eq_some_iff.1 TY.out).1 (by simp)).trans TY.out)
              have TZ := Lib.hid (top1 w4 (.cells #[.bool sz, .slice pz nz cz] 25))
              have hb1 : w2.heap.size < w4.heap.size := by
                have h1 := (Array.getElem?_eq_some_iff.1 TX.out).1
                have h2 := g.size
                have h3 := G4.out.size
                have h4 := HP.out
                have h5 := hgz.size
                have h6 := (Array.getElem?_eq_some_iff.1 TXold.out).1
                omega
              have G5 := Lib.hid (gb_trans G4.out hgg)
              have hb0 : w.heap.size ≤ w4.heap.size := Nat.le_trans G4.out.size g.size
              have hb3 : w3.heap.size < w4.heap.size := by have := g.size; simp at this; omega
              have HYW := Lib.hid (fun hn => int_some (HY4.out.kept g) hn)
              have hst : PowRel (w4.alloc (.cells #[.bool sz, .slice pz nz cz] 25)) (parseV s.data.toList) (.agg #[.bool sx, .slice px nx cx]) w4.heap.size 0 (w4.alloc (.cells #[.bool sz, .slice pz nz cz] 25)) :=
                ⟨sz, pz, nz, cz, TZ.out, by rw [Int.pow_zero]; exact HZ.out.kept hgz, HX.out, gb_refl _ _⟩
              have HST := Lib.hid hst
              have HLX := Lib.hid (parseV_lim s.data.toList)
              have HLP := Lib.hid (fun (k : Nat) (h : k ≤ 1000) => parseV_pow s.data.toList (by omega) k h)
              clear hz g hgz hgg hst HX HZ HP TZ TXold
              go_wp2_with fail
              go_loopw [74] (fun i wr => ∃ k : Nat, k ≤ n' ∧ i = .int .i64 k ∧ Hid (PowRel (w4.alloc (.cells #[.bool sz, .slice pz nz cz] 25)) (parseV s.data.toList) (.agg #[.bool sx, .slice px nx cx]) w4.heap.size k wr)) (fun i _ => n' - (intOf i).toNat)
              case atStart => exact ⟨0, by omega, rfl, HST⟩
              case round =>
                clear HST
                obtain ⟨k, hk, rfl, HR⟩ := hrel
                obtain ⟨s4, p4, n4, c4, r1, r2, r3, r4⟩ := HR.out
                obtain ⟨q0, q1, q2⟩ := cells_of r1
                have hA1 := (r4.block _ (Array.getElem?_eq_some_iff.1 TX.out).1 (by simp; omega)).trans TX.out
                by_cases hlt : k < n'
                · obtain ⟨a0, a1, a2⟩ := cells_of hA1
                  have HM := Lib.hid (Mul_c _ _ (parseV s.data.toList ^ k) (parseV s.data.toList) wr r2 r3 (HLP.out k (by omega)) HLX.out)
                  have R1 := Lib.hid r1; have R3 := Lib.hid r3; have R4 := Lib.hid r4
                  clear r1 r2 r3 r4 hA1
                  go_wp2_with (go_at_call 28; refine HM.out.mono ?_; rintro e w5 ⟨x, rfl, hx, hg⟩; obtain ⟨s5, p5, n5, c5, hxe, HX5⟩ := int_parts hx; subst hxe; have HG4 := Lib.hid hg; obtain ⟨z0, z1, z2⟩ := cells_of ((hg.block _ (Array.getElem?_eq_some_iff.1 R1.out).1 (by simp)).trans R1.out); clear hx hg)
                  obtain ⟨b1, b2, b3⟩ := box_set R1.out HG4.out HX5.out
                  go_roundw
                  case rel => exact ⟨k + 1, by omega, by go_num, s5, p5, n5, c5, b2, by rw [Int.pow_succ]; exact b1, int_off R1.out HG4.out (R3.out.kept HG4.out), gb_trans (gb_trans R4.out (gb_row HG4.out)) b3⟩
                  case measure => simp [intOf]; omega
                · obtain rfl : k = n' := by omega
                  have R1 := Lib.hid r1; have R2 := Lib.hid r2; have R3 := Lib.hid r3; have R4 := Lib.hid r4; have A1 := Lib.hid hA1
                  obtain ⟨a0, a1, a2⟩ := cells_of hA1
                  clear r1 r2 r3 r4 hA1 HLX HV HR
                  obtain ⟨P, hP⟩ : ∃ P, parseV s.data.toList ^ k = P := ⟨_, rfl⟩
                  have HPL := Lib.hid (fun _ : Unit => (show P.natAbs < Lim from hP ▸ HLP.out k (by omega)))
                  rw [hP] at R2 HY
                  have hzb : Boxed wr w4.heap.size P := ⟨_, _, _, _, R1.out, R2.out⟩
                  have hyb : Boxed wr w3.heap.size P := ⟨_, _, _, _, (R4.out.block _ (Array.getElem?_eq_some_iff.1 TY.out).1 (by simp; omega)).trans TY.out, int_row HY.out R4.out (fun a h0 ha => by
                    obtain ⟨a2, e, hlt⟩ := HYW.out h0
                    rw [ha] at e; injection e with e; subst e
                    omega)⟩
                  have HZB := Lib.hid hzb; have HYB := Lib.hid hyb
                  clear hzb hyb hP HLP
                  go_wp2_with fail
                  have hls2 : LRel wr 0 wr.heap.size 1 (wr.alloc (.cells #[.bool sx, .slice px nx cx] 25)) :=
                    ⟨fun _ => parseV s.data.toList, OwnZ_one (Nat.le_refl _) R3.out, fun _ _ => parseV_lim _, gb_below (World.grownBy_alloc wr _ none)⟩
                  have HLS := Lib.hid hls2
                  have hwr : w.grownBy wr none := below_gb (gb_new (gb_below G5.out) (by exact hb0) R4.out)
                  have HWR := Lib.hid hwr
                  clear hls2 hwr
                  obtain ⟨wz, rfl⟩ : ∃ wz, wz = wr := ⟨_, rfl⟩
                  go_loopw [12, 84] (fun all i cur => ∃ k g cp : Nat, k ≤ m ∧ i = .int .i64 k ∧ all = .slice (some ⟨g, 0, none⟩) (k + 1) cp ∧ Hid (LRel wz k g cp cur)) (fun _ i _ => m - (intOf i).toNat)
                  case atStart => exact ⟨0, _, _, by omega, rfl, rfl, HLS⟩
                  case round =>
                    clear HLS
                    obtain ⟨k, g, cp, hkm, rfl, rfl, HL⟩ := hrel
                    obtain ⟨F, l1, l2, l3⟩ := HL.out
                    by_cases hlt : k < m
                    · obtain ⟨al, rfl, hcs⟩ := HSTR.out k hlt
                      have hcs := (gb_trans HWR.out (below_gb (row := none) l3)).cell hcs (by simp)
                      have L1 := Lib.hid l1; have L2 := Lib.hid l2; have L3 := Lib.hid l3
                      clear l1 l2 l3
                      go_wp2_with fail
                      have HW0 := Lib.hid (gb_trans HWR.out (below_gb (row := none) L3.out))
                      clear hcs
                      refine (Parse_c (ls k) _).mono ?_
                      rintro e w6 ⟨y, rfl, hy, g6, hfar⟩
                      obtain ⟨s6, p6, n6, c6, ey, HY6⟩ := int_parts hy
                      subst ey
                      have hp6 := hfar s6 p6 n6 c6 rfl
                      obtain ⟨E, hE⟩ : ∃ E, parseE (ls k).data.toList = E := ⟨_, rfl⟩
                      rw [hE]
                      have hg6 := World.grownBy_alloc w6 (.cells #[.bool s6, .slice p6 n6 c6] 25) none
                      have G7 := Lib.hid (gb_trans g6 hg6)
                      have HY7 := Lib.hid (HY6.out.kept hg6)
                      have HP6 := Lib.hid hp6
                      clear hy hfar hE hp6 g6 hg6 HY6
                      by_cases hE0 : E = 0
                      · subst hE0
                        have hgl := (L1.out.bounds (by omega)).2.1
                        have l1 := Lib.hid (L1.out.kept G7.out)
                        have hsz := G7.out.size
                        have hbs := L3.out.size
                        go_wp2_with (at_builtin; refine wpList_appZ (t := 59) Try.underlying59 rfl _ _ rfl wz.heap.size g cp (k + 1) F s6 p6 n6 c6 _ rfl l1.out HY7.out ?_ (w6.heap.size + 1) (by simp) rfl (by omega) (by omega) ?_)
                        · intro a h0 ha
                          obtain ⟨a', e, hlt'⟩ := HP6.out h0
                          rw [ha] at e; injection e with e; subst e
                          omega
                        intro g' cp' w8 hO hG
                        have HO := Lib.hid hO; have HG := Lib.hid hG
                        have hgb := (L1.out.bounds (by omega)).1
                        clear hO hG
                        go_wp2_with fail
                        go_roundw
                        case rel => exact ⟨k + 1, g', cp', by omega, by go_num, rfl, _, HO.out, fun j hj => by split; exact parseV_lim _; exact L2.out j (by omega), (L3.out.grown G7.out (by omega) (fun _ h => by cases h)).grown HG.out (by omega) (fun _ h => by cases h; exact hgb)⟩
                        case measure => simp [intOf]; omega
                      · have d9 : (E != 0) = true := bne_iff_ne.2 hE0
                        have HFIN := Lib.hid (gb_trans HW0.out G7.out)
                        go_wp2_with fail
                        go_ret
                        exact ⟨rfl, HFIN.out⟩
                    · obtain rfl : k = m := by omega
                      obtain ⟨sf, pf, lf, cf, hzs⟩ := l1.zs
                      obtain ⟨hbd1, hbd2, hbd3, hbd4⟩ := l1.bounds (by omega)
                      have hg3 : wz.grownBy wr none := below_gb l3
                      have HY := Lib.hid (HYB.out.kept hg3)
                      have HZ := Lib.hid (HZB.out.kept hg3)
                      have HG := Lib.hid (gb_trans HWR.out hg3)
                      have HZS := Lib.hid hzs; have L2 := Lib.hid l2
                      clear l1 l2 l3 hg3 hzs HYB HZB
                      go_wp2_with fail
                      refine (Best_c g (k + 1) cp sf pf lf cf F _ (by omega) hbd3 hbd4 HZS.out L2.out).mono ?_
                      rintro e w8 ⟨x8, y8, A, B, rfl, hx8, hy8, g8, ⟨iA, hiA, hA⟩, ⟨iB, hiB, hB⟩, hAB⟩
                      obtain ⟨sa, pa8, na, ca, ea, HA8⟩ := int_parts hx8
                      obtain ⟨sb, pb8, nb, cb, eb, HB8⟩ := int_parts hy8
                      subst ea; subst eb
                      have HY := Lib.hid (HY.out.kept g8)
                      have HZ := Lib.hid (HZ.out.kept g8)
                      have HG := Lib.hid (gb_trans HG.out g8)
                      have HZS := Lib.hid (HZS.out.kept g8)
                      have HAB := Lib.hid hAB
                      clear hx8 hy8 g8 hAB HYW HY4
                      go_wp2_with fail
                      refine (Best0_c _).mono ?_
                      rintro e w9 ⟨rfl, g9⟩
                      have hga : Boxed w9 w8.heap.size A := (show Boxed (w8.alloc (.cells #[.bool sa, .slice pa8 na ca] 25)) w8.heap.size A from ⟨_, _, _, _, top1 _ _, HA8.out.kept (World.grownBy_alloc w8 _ none)⟩).kept (gb_trans (World.grownBy_alloc _ _ none) g9)
                      have hgb : Boxed w9 (w8.heap.size + 1) B := (show Boxed ((w8.alloc (.cells #[.bool sa, .slice pa8 na ca] 25)).alloc (.cells #[.bool sb, .slice pb8 nb cb] 25)) (w8.heap.size + 1) B from ⟨_, _, _, _, top2 _ _ _, HB8.out.kept (gb_alloc (World.grownBy_alloc w8 _ none) _)⟩).kept g9
                      have hg89 := gb_trans (gb_alloc (World.grownBy_alloc w8 (.cells #[.bool sa, .slice pa8 na ca] 25) none) (.cells #[.bool sb, .slice pb8 nb cb] 25)) g9
                      have HCR : Hid (CRel w w8.heap.size (w8.heap.size + 1) w3.heap.size w4.heap.size g (k + 1) A B P sf pf lf cf F w9) := ⟨hga, hgb, HY.out.kept hg89, HZ.out.kept hg89, HZS.out.kept hg89, gb_trans HG.out hg89⟩
                      have HAL := Lib.hid (fun _ : Unit => (show A.natAbs < Lim from hA ▸ L2.out iA hiA))
                      have HBL := Lib.hid (fun _ : Unit => (show B.natAbs < Lim from hB ▸ L2.out iB hiB))
                      clear hga hgb hg89 g9 HY HZ HZS HG HA8 HB8 hB HSTR HWR HX hls hs hc hm hbd1 hbd2
                      go_wp2_with fail
                      go_loopw [23, 113] (fun fo i wr => ∃ q c : Nat, q ≤ k + 1 ∧ c ≤ q ∧ i = .int .i64 q ∧ fo = .int .i64 c ∧ Hid (∀ j, j < q → F j = A → 0 < c) ∧ Hid (CRel w w8.heap.size (w8.heap.size + 1) w3.heap.size w4.heap.size g (k + 1) A B P sf pf lf cf F wr)) (fun _ i _ => k + 1 - (intOf i).toNat)
                      case atStart => exact ⟨0, 0, by omega, by omega, rfl, rfl, fun j h => by omega, HCR.out.kept (gb_alloc (gb_alloc (gb_refl _ _) _) _)⟩
                      case round =>
                        clear HCR
                        obtain ⟨q, c, hq, hc, rfl, rfl, HC, HR⟩ := hrel
                        by_cases hlt2 : q < k + 1
                        · obtain ⟨⟨sA, pA, nA, cA, A1, A2⟩, -, -, -, hzs, -⟩ := HR.out
                          obtain ⟨e0, e1, e2⟩ := hzs q hlt2
                          have hgs : g < wr.heap.size := World.block_lt_of_cell? wr _ e0
                          rw [show 2 * q = q * 2 by omega] at e0 e1
                          have hlo : A ≤ F q := (HAB.out q hlt2).1
                          have hhi : F q ≤ B := (HAB.out q hlt2).2
                          have hFl := Lib.hid (fun _ : Unit => L2.out q hlt2)
                          generalize sf q = s0 at e0 e1 e2
                          generalize pf q = p0 at e0 e1 e2
                          generalize lf q = l0 at e0 e1 e2
                          generalize cf q = c0 at e0 e1 e2
                          have T8 := top1 wr (.cells #[.bool s0, .slice p0 l0 c0] 25)
                          have hg0 := World.grownBy_alloc wr (.cells #[.bool s0, .slice p0 l0 c0] 25) none
                          have HC1 := Lib.hid (Cmp_c _ _ (F q) A _ (e2.kept hg0) (A2.kept hg0) (hFl.out ()) (HAL.out ()))
                          obtain ⟨a0, a1, a2⟩ := cells_of ((hg0.block _ (Array.getElem?_eq_some_iff.1 A1).1 (by simp)).trans A1)
                          have HT8 := Lib.hid T8; have HG0 := Lib.hid hg0; have HE2 := Lib.hid e2
                          clear T8 hg0 e2 A2 hzs A1
                          go_wp2_with fail
                          refine HC1.out.mono ?_
                          rintro e wa ⟨rfl, hg1⟩
                          obtain ⟨m1, hm1, hm0, hmp⟩ := cmpZ_ge (A := F q) (B := A) (by omega)
                          rw [hm1]
                          have d1 : decide (m1 < 0) = false := decide_eq_false (by omega)
                          have hga := gb_trans HG0.out hg1
                          have HRa := Lib.hid (HR.out.kept hga)
                          have HEa := Lib.hid (HE2.out.kept hga)
                          have hta := (hg1.block _ (Array.getElem?_eq_some_iff.1 HT8.out).1 (by simp)).trans HT8.out
                          have HTa := Lib.hid hta
                          obtain ⟨t0, t1, t2⟩ := cells_of hta
                          obtain ⟨-, ⟨sB, pB, nB, cB, B1, B2⟩, -⟩ := HRa.out
                          obtain ⟨b0, b1, b2⟩ := cells_of B1
                          have HC2 := Lib.hid (Cmp_c _ _ (F q) B _ HEa.out B2 (hFl.out ()) (HBL.out ()))
                          clear hga hg1 hta B1 B2 HC1 a0 a1 a2 e0 e1 hgs HG0 HT8 HE2 HR
                          go_wp2_with fail
                          refine HC2.out.mono ?_
                          rintro e wb ⟨rfl, hg2⟩
                          obtain ⟨m2, hm2, hm3⟩ := cmpZ_le (A := F q) (B := B) (by omega)
                          rw [hm2]
                          have d2 : decide (0 < m2) = false := decide_eq_false (by omega)
                          have HRb := Lib.hid (HRa.out.kept hg2)
                          have HEb := Lib.hid (HEa.out.kept hg2)
                          have htb := (hg2.block _ (Array.getElem?_eq_some_iff.1 HTa.out).1 (by simp)).trans HTa.out
                          have HTb := Lib.hid htb
                          obtain ⟨t0', t1', t2'⟩ := cells_of htb
                          obtain ⟨⟨sA', pA', nA', cA', A1', A2'⟩, -⟩ := HRb.out
                          obtain ⟨a0, a1, a2⟩ := cells_of A1'
                          have HC3 := Lib.hid (Cmp_c _ _ (F q) A _ HEb.out A2' (hFl.out ()) (HAL.out ()))
                          clear hg2 htb A1' A2' HC2 t0 t1 t2 b0 b1 b2 HRa HEa HTa
                          go_wp2_with fail
                          refine HC3.out.mono ?_
                          rintro e wc ⟨rfl, hg3⟩
                          rw [hm1]
                          have HRc := Lib.hid (HRb.out.kept hg3)
                          by_cases hEq : F q = A
                          · obtain rfl : m1 = 0 := by omega
                            clear hg3 HC3
                            go_wp2_with fail
                            go_roundw
                            case rel => exact ⟨q + 1, c + 1, by omega, by omega, by go_num, by go_num, fun _ _ _ => by omega, HRc⟩
                            case measure => simp [intOf]; omega
                          · have d3 : (m1 == 0) = false := beq_eq_false_iff_ne.2 (by omega)
                            have HEc := Lib.hid (HEb.out.kept hg3)
                            obtain ⟨t0, t1, t2⟩ := cells_of ((hg3.block _ (Array.getElem?_eq_some_iff.1 HTb.out).1 (by simp)).trans HTb.out)
                            obtain ⟨-, ⟨sB, pB, nB, cB, B1, B2⟩, -⟩ := HRc.out
                            obtain ⟨b0, b1, b2⟩ := cells_of B1
                            have HC4 := Lib.hid (Cmp_c _ _ (F q) B _ HEc.out B2 (hFl.out ()) (HBL.out ()))
                            clear hg3 HC3 B1 B2 a0 a1 a2 t0' t1' t2' HRb HEb HTb
                            go_wp2_with fail
                            refine HC4.out.mono ?_
                            rintro e wd ⟨rfl, hg4⟩
                            rw [hm2]
                            have HRd := Lib.hid (HRc.out.kept hg4)
                            clear hg4 HC4
                            by_cases hm20 : m2 = 0
                            · subst hm20
                              go_wp2_with fail
                              go_roundw
                              case rel => exact ⟨q + 1, c + 1, by omega, by omega, by go_num, by go_num, fun _ _ _ => by omega, HRd⟩
                              case measure => simp [intOf]; omega
                            · have d4 : (m2 == 0) = false := beq_eq_false_iff_ne.2 hm20
                              go_wp2_with fail
                              go_roundw
                              case rel => exact ⟨q + 1, c, by omega, by omega, by go_num, rfl, fun j hj hjA => (by
                                by_cases e : j = q
                                · subst e; exact absurd hjA hEq
                                · exact HC.out j (by omega) hjA), HRd⟩
                              case measure => simp [intOf]; omega
                        · obtain rfl : q = k + 1 := by omega
                          have hcp : 0 < c := HC.out iA hiA hA
                          have hcc : decide ((0 : Int) < c) = true := decide_eq_true (by omega)
                          obtain ⟨-, -, ⟨sY, pY, nY, cY, Y1, Y2⟩, ⟨sZ, pZ, nZ, cZ, Z1, Z2⟩, -, hgr⟩ := HR.out
                          obtain ⟨y0, y1, y2⟩ := cells_of Y1
                          obtain ⟨z0, z1, z2⟩ := cells_of Z1
                          have HM := Lib.hid (Cmp_c _ _ P P _ Y2 Z2 (HPL.out ()) (HPL.out ()))
                          have HGR := Lib.hid hgr
                          clear Y1 Y2 Z1 Z2 hgr HR
                          go_wp2_with fail
                          refine HM.out.mono ?_
                          rintro e wf ⟨rfl, gf⟩
                          have HFIN := Lib.hid (gb_trans HGR.out gf)
                          rw [show cmpZ P P = 0 by unfold cmpZ; rw [if_neg (by omega), if_pos rfl]]
                          clear gf
                          go_wp2_with fail
                          go_ret
                          exact ⟨rfl, HFIN.out⟩
  · have d1 : (E != 0) = true := bne_iff_ne.2 hE0
    go_wp2_with fail
    go_ret
    exact ⟨rfl, by repeat (first | exact G2.out | refine gb_drew ?_ | refine gb_alloc ?_ _)⟩
end Go.Proofs.Ytaheeccpihbcaaa
