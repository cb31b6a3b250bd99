/- The document's sums of numbers, its comparison, and the other sign. -/
import Derived.Test.YtkonfkcaefjabaaRSum
import Derived.Test.YtkonfkcaefjabaaKnown
import Derived.Deep.RegionHeld3
import Derived.Deep.DeepMust
namespace Go.Proofs.Ytkonfkcaefjabaa
open Go.RowKit Mx

theorem sg_neg (Z : Int) : sg (-Z) = - sg Z := by
  unfold sg
  rcases Int.lt_trichotomy Z 0 with h | h | h
  · rw [if_pos h, if_neg (by omega), if_neg (by omega)]; rfl
  · subst h; rfl
  · rw [if_pos (show -Z < 0 by omega), if_neg (show ¬ Z < 0 by omega), if_neg (show ¬ Z = 0 by omega)]

theorem sg_pm (Z : Int) : -1 ≤ sg Z ∧ sg Z ≤ 1 := by
  rcases sg_range Z with h | h | h <;> rw [h] <;> omega

set_option maxRecDepth 100000 in
theorem RNeg_c (x : Value) (A : Int) (w : World) (hx : IsZ w x A) : Calls Try.prog 25 #[x] w (ZPost (-A) w) := by
  obtain ⟨sa, pa, n, ca, rfl, HX⟩ := z_parts hx
  obtain ⟨ea, hna, hca, f, fat, ff, ft, fv⟩ := z_open hx
  have hr := sg_pm A
  rw [← ea] at hr
  obtain ⟨hr1, hr2⟩ := hr
  have hg : w.grownBy ((w.alloc (.cells #[.int .i64 sa, .slice pa n ca] 31)).alloc (.cells #[.int .i64 (-sa), .slice pa n ca] 31)) none := gb_alloc (World.grownBy_alloc w _ none) _
  have hfin : ZPost (-A) w (.returned (.agg #[.int .i64 (-sa), .slice pa n ca])) ((w.alloc (.cells #[.int .i64 sa, .slice pa n ca] 31)).alloc (.cells #[.int .i64 (-sa), .slice pa n ca] 31)) :=
    ⟨_, rfl, ⟨pa, n, ca, f, by rw [sg_neg, ea], hna, hca, fat.grown hg (by simp), ff, ft, by rw [fv, Int.natAbs_neg]⟩, hg⟩
  have HFIN := Lib.hid hfin
  clear hfin hg hx HX fat ff ft fv ea hca
  go_enter Try.func25, Try.ntmps25
  go_wp2
  exact bodyPost_ret (v := .agg #[.int .i64 (-sa), .slice pa n ca]) (by simp [results, Try.results25, go_sem]) rfl HFIN.out

theorem cmp_sg {A B : Int} (h : sg A ≠ sg B) : cmpZ A B = if sg A < sg B then -1 else 1 := by
  unfold sg at *
  rcases Int.lt_trichotomy A 0 with ha | ha | ha <;> rcases Int.lt_trichotomy B 0 with hb | hb | hb <;> unfold cmpZ <;> simp_all <;> omega

theorem cmp_abs {A B : Int} (h : sg A = sg B) : cmpZ A B = if sg A < 0 then cmpZ (B.natAbs : Nat) (A.natAbs : Nat) else cmpZ (A.natAbs : Nat) (B.natAbs : Nat) := by
  rcases Int.lt_trichotomy A 0 with ha | ha | ha
  · have e : sg A = -1 := by unfold sg; rw [if_pos ha]
    rw [e] at h ⊢
    have hb : B < 0 := by
      rcases Int.lt_trichotomy B 0 with hb | hb | hb
      · exact hb
      · subst hb; cases h
      · unfold sg at h; rw [if_neg (by omega), if_neg (by omega)] at h; cases h
    rw [if_pos (by omega)]
    unfold cmpZ
    (repeat' split) <;> omega
  · subst ha
    have hb := sg_zero h.symm
    subst hb; rfl
  · have e : sg A = 1 := by unfold sg; rw [if_neg (by omega), if_neg (by omega)]
    rw [e] at h ⊢
    have hb : 0 < B := by
      rcases Int.lt_trichotomy B 0 with hb | hb | hb
      · unfold sg at h; rw [if_pos hb] at h; cases h
      · subst hb; cases h
      · exact hb
    rw [if_neg (by omega)]
    unfold cmpZ
    (repeat' split) <;> omega

/-- Two boxes laid one behind the other. -/
theorem boxes2 (w : World) (o1 o2 : Obj) : ∃ W, W = (w.alloc o1).alloc o2 ∧ W.heap[w.heap.size]? = some o1 ∧ W.heap[w.heap.size + 1]? = some o2 ∧ w.grownBy W none ∧ W.heap.size = w.heap.size + 1 + 1 := by
  have hb0 := top1 w o1
  have hb1 := top2 w o1 o2
  have k0 := World.grownBy_alloc (w.alloc o1) o2 none
  exact ⟨_, rfl, (k0.block _ (Array.getElem?_eq_some_iff.1 hb0).1 (by simp)).trans hb0, hb1, gb_alloc (World.grownBy_alloc w o1 none) _, by simp⟩

set_option maxRecDepth 100000 in
set_option maxHeartbeats 1000000 in
theorem RCmp_c (x y : Value) (A B : Int) (w : World) (hx : IsZ w x A) (hy : IsZ w y B) (hA : A.natAbs < 10 ^ 250) (hB : B.natAbs < 10 ^ 250) : Calls Try.prog 26 #[x, y] w (ValPost (.int .i64 (cmpZ A B)) w) := by
  obtain ⟨sa, pa, n, ca, rfl, HX⟩ := z_parts hx
  obtain ⟨sb, pb, m, cb, rfl, HY⟩ := z_parts hy
  obtain ⟨ea, hna, hca, f, fat, ff, ft, fv⟩ := z_open hx
  obtain ⟨eb, hmb, hcb, fb, bat, bf, bt, bv⟩ := z_open hy
  have hn := z_len ft (by rw [fv]; exact hA)
  have hm := z_len bt (by rw [bv]; exact hB)
  obtain ⟨W, hW, b0, b1, gW, hsz⟩ := boxes2 w (.cells #[.int .i64 sa, .slice pa n ca] 31) (.cells #[.int .i64 sb, .slice pb m cb] 31)
  have HC1 := Lib.hid (rcompare_c pa pb n m ca cb f fb W (fat.grown gW (by simp)) (bat.grown gW (by simp)) ff bf ft bt (by omega) (by omega))
  have HC2 := Lib.hid (rcompare_c pb pa m n cb ca fb f W (bat.grown gW (by simp)) (fat.grown gW (by simp)) bf ff bt ft (by omega) (by omega))
  have HGW := Lib.hid gW
  have HD := Lib.hid (fun h => cmp_sg (A := A) (B := B) h)
  have HE := Lib.hid (fun h => cmp_abs (A := A) (B := B) h)
  rw [fv, bv] at HC1 HC2
  rw [← ea, ← eb] at HD HE
  generalize cmpZ A B = r at *
  clear hx hy HX HY fat bat ff bf ft bt fv bv hA hB gW ea eb hca hcb b0 b1 hsz
  by_cases hs : sa = sb
  · have d1 : (sa != sb) = false := by simp [hs]
    have he := HE.out hs
    by_cases hneg : sa < 0
    · rw [if_pos hneg] at he
      have d2 : decide (sa < 0) = true := decide_eq_true hneg
      have HR := Lib.hid he
      clear he hs
      go_enter Try.func26, Try.ntmps26
      go_wp2_with fail
      rw [← hW]
      refine HC2.out.mono ?_
      rintro e w2 ⟨rfl, g⟩
      rw [← HR.out]
      have HFIN := Lib.hid (gb_trans HGW.out g)
      clear g
      go_wp2_with fail
      go_ret
      exact ⟨rfl, HFIN.out⟩
    · rw [if_neg hneg] at he
      have d2 : decide (sa < 0) = false := decide_eq_false hneg
      have HR := Lib.hid he
      clear he hs
      go_enter Try.func26, Try.ntmps26
      go_wp2_with fail
      rw [← hW]
      refine HC1.out.mono ?_
      rintro e w2 ⟨rfl, g⟩
      rw [← HR.out]
      have HFIN := Lib.hid (gb_trans HGW.out g)
      clear g
      go_wp2_with fail
      go_ret
      exact ⟨rfl, HFIN.out⟩
  · have d1 : (sa != sb) = true := by simp [hs]
    have he := HD.out hs
    by_cases hlt : sa < sb
    · rw [if_pos hlt] at he
      have d2 : decide (sa < sb) = true := decide_eq_true hlt
      subst he
      go_enter Try.func26, Try.ntmps26
      go_wp2
      go_ret
      exact ⟨rfl, by rw [← hW]; exact HGW.out⟩
    · rw [if_neg hlt] at he
      have d2 : decide (sa < sb) = false := decide_eq_false hlt
      subst he
      go_enter Try.func26, Try.ntmps26
      go_wp2
      go_ret
      exact ⟨rfl, by rw [← hW]; exact HGW.out⟩

theorem cmp_ge {A B : Int} (h : ¬ A < B) : ∃ m : Int, cmpZ A B = m ∧ 0 ≤ m ∧ (0 < m ↔ B < A) := by
  unfold cmpZ
  rw [if_neg h]
  by_cases e : A = B
  · rw [if_pos e]; exact ⟨0, rfl, by omega, by omega⟩
  · rw [if_neg e]; exact ⟨1, rfl, by omega, by omega⟩

def RAPost (pa pb : Option Addr) (Z : Int) (w : World) (e : Ending) (w' : World) : Prop :=
  ∃ s p n c, e = .returned (.agg #[.int .i64 s, .slice p n c]) ∧ IsZ w' (.agg #[.int .i64 s, .slice p n c]) Z ∧ w.grownBy w' none ∧ (0 < n → (∃ a, p = some a ∧ w.heap.size ≤ a.block) ∨ p = pa ∨ p = pb)

theorem sg_add {A B : Int} (h : sg A = sg B) : sg A * (A.natAbs + B.natAbs : Nat) = A + B := by
  rw [Int.natCast_add, Int.mul_add, sg_abs]
  rw [h, sg_abs]

theorem sg_opp {A B : Int} (h : sg A ≠ sg B) (ha : A ≠ 0) (hb : B ≠ 0) : sg B = - sg A := by
  have h1 := fun h => ha (sg_zero h)
  have h2 := fun h => hb (sg_zero h)
  rcases sg_range A with e | e | e <;> rcases sg_range B with e2 | e2 | e2 <;> rw [e, e2] at h <;> first | exact absurd rfl h | exact absurd e h1 | exact absurd e2 h2 | simp [e, e2]

theorem sg_sub {A B : Int} (h : sg A ≠ sg B) (ha : A ≠ 0) (hb : B ≠ 0) (hle : B.natAbs ≤ A.natAbs) : sg A * (A.natAbs - B.natAbs : Nat) = A + B := by
  have e := sg_opp h ha hb
  have h1 := sg_abs A
  have h2 := sg_abs B
  rw [e] at h2
  rw [Int.natCast_sub hle, Int.mul_sub, h1]
  rw [Int.neg_mul] at h2
  omega

set_option maxRecDepth 100000 in
set_option maxHeartbeats 4000000 in
theorem RAdd_c (sa sb : Int) (pa pb : Option Addr) (n m ca cb : Nat) (A B : Int) (w : World) (hx : IsZ w (.agg #[.int .i64 sa, .slice pa n ca]) A) (hy : IsZ w (.agg #[.int .i64 sb, .slice pb m cb]) B) (hA : A.natAbs < 10 ^ 250) (hB : B.natAbs < 10 ^ 250) : Calls Try.prog 22 #[.agg #[.int .i64 sa, .slice pa n ca], .agg #[.int .i64 sb, .slice pb m cb]] w (RAPost pa pb (A + B) w) := by
  obtain ⟨ea, hna, hca, f, fat, ff, ft, fv⟩ := z_open hx
  obtain ⟨eb, hmb, hcb, fb, bat, bf, bt, bv⟩ := z_open hy
  have hn := z_len ft (by rw [fv]; exact hA)
  have hm := z_len bt (by rw [bv]; exact hB)
  obtain ⟨W2, hW2, b0, b1, gW, hsz⟩ := boxes2 w (.cells #[.int .i64 sa, .slice pa n ca] 31) (.cells #[.int .i64 sb, .slice pb m cb] 31)
  have hg3 : w.grownBy (W2.alloc (.cells #[.int .i64 0, .slice none 0 0] 31)) none := gb_alloc gW _
  have hzb := top1 W2 (.cells #[.int .i64 0, .slice none 0 0] 31)
  rw [hsz] at hzb
  have HX := Lib.hid (hx.kept gW); have HY := Lib.hid (hy.kept gW)
  have FAT := Lib.hid (fat.grown gW (by simp)); have BAT := Lib.hid (bat.grown gW (by simp))
  have FF := Lib.hid ff; have BF := Lib.hid bf; have HG3 := Lib.hid hg3; have HZB := Lib.hid hzb; have HGW := Lib.hid gW
  have FT := Lib.hid ft; have BT := Lib.hid bt; have FV := Lib.hid fv; have BV := Lib.hid bv; have EA := Lib.hid ea; have EB := Lib.hid eb
  obtain ⟨x0, x1, -⟩ := zcells_of b0
  obtain ⟨y0, y1, -⟩ := zcells_of b1
  have hS := And.intro x0 (And.intro x1 (And.intro y0 y1))
  have hgr3 := World.grownBy_alloc W2 (.cells #[.int .i64 0, .slice none 0 0] 31) none
  have x0' := hgr3.cell x0 (by simp); have x1' := hgr3.cell x1 (by simp); have y0' := hgr3.cell y0 (by simp); have y1' := hgr3.cell y1 (by simp)
  have hca2 := hca; have hcb2 := hcb
  unfold maxLen at hca2 hcb2
  have HCA := Lib.hid hca; have HCB := Lib.hid hcb
  have HSZ := Lib.hid hsz
  clear hx hy fat bat ff bf ft bt fv bv hA hB gW hg3 hzb b0 b1 ea eb hca hcb hgr3
  by_cases hs0 : sa = 0
  · subst hs0
    have ha0 : A = 0 := sg_zero EA.out.symm
    subst ha0
    clear x0 x1 y0 y1 hS hsz
    have hfin : RAPost pa pb (0 + B) w (.returned (.agg #[.int .i64 sb, .slice pb m cb])) (W2.alloc (.cells #[.int .i64 sb, .slice pb m cb] 31)) :=
      ⟨_, _, _, _, rfl, by rw [show (0 : Int) + B = B by omega]; exact HY.out.kept (World.grownBy_alloc W2 _ none), gb_alloc HGW.out _, fun _ => .inr (.inr rfl)⟩
    have HFIN := Lib.hid hfin
    clear hfin
    go_enter Try.func22, Try.ntmps22
    go_wp2_with fail
    rw [← hW2]
    exact bodyPost_ret (v := .agg #[.int .i64 sb, .slice pb m cb]) (by rw [hW2]; simp [results, Try.results22, go_sem]) rfl HFIN.out
  · have d1 : (sa == 0) = false := beq_eq_false_iff_ne.2 hs0
    by_cases ht0 : sb = 0
    · subst ht0
      have hb0 : B = 0 := sg_zero EB.out.symm
      subst hb0
      clear x0 x1 y0 y1 hS hsz
      have hfin : RAPost pa pb (A + 0) w (.returned (.agg #[.int .i64 sa, .slice pa n ca])) (W2.alloc (.cells #[.int .i64 sa, .slice pa n ca] 31)) :=
        ⟨_, _, _, _, rfl, by rw [show A + 0 = A by omega]; exact HX.out.kept (World.grownBy_alloc W2 _ none), gb_alloc HGW.out _, fun _ => .inr (.inl rfl)⟩
      have HFIN := Lib.hid hfin
      clear hfin
      go_enter Try.func22, Try.ntmps22
      go_wp2_with fail
      rw [← hW2]
      exact bodyPost_ret (v := .agg #[.int .i64 sa, .slice pa n ca]) (by rw [hW2]; simp [results, Try.results22, go_sem]) rfl HFIN.out
    · have d2 : (sb == 0) = false := beq_eq_false_iff_ne.2 ht0
      have hA0 : A ≠ 0 := fun h => hs0 (by rw [EA.out, h]; rfl)
      have hB0 : B ≠ 0 := fun h => ht0 (by rw [EB.out, h]; rfl)
      have HA0 := Lib.hid hA0; have HB0 := Lib.hid hB0
      have hszW : w.heap.size ≤ (W2.alloc (.cells #[.int .i64 0, .slice none 0 0] 31)).heap.size := HG3.out.size
      clear hA0 hB0
      by_cases hst : sa = sb
      · have d3 : (sa == sb) = true := by simp [hst]
        have HST := Lib.hid hst
        clear hst
        go_enter Try.func22, Try.ntmps22
        go_wp2_with fail
        have HSR := Lib.hid (fun p9 l9 c9 h9 w9 (q1 : l9 ≤ c9) (q2 : c9 ≤ maxLen) (q3 : At .i64 w9 p9 l9 h9) (q4 : ∀ j, j < l9 → h9 j < 10) (q5 : V 10 h9 0 l9 = V 10 f 0 n + V 10 fb 0 m) => (show sa * (V 10 h9 0 l9 : Nat) = A + B by rw [q5]; exact (by rw [FV.out, BV.out, EA.out]; exact sg_add (EA.out.symm.trans (HST.out.trans EB.out)))) ▸ made_c sa p9 l9 c9 h9 w9 (by rw [EA.out]; exact sg_range A) (fun h => absurd h hs0) q1 q2 q3 q4)
        rw [← hW2]
        have HGc := Lib.hid (World.grownBy_alloc W2 (.cells #[.int .i64 0, .slice none 0 0] 31) none)
        have HG := HGc
        have hS3 := And.intro x0' (And.intro x1' (And.intro y0' y1'))
        generalize W2.alloc (.cells #[.int .i64 0, .slice none 0 0] 31) = W3 at *
        go_region_held3 (fun w' => w'.cell? ⟨w.heap.size, 0, none⟩ = some (.int .i64 sa) ∧ w'.cell? ⟨w.heap.size, 1, none⟩ = some (.slice pa n ca) ∧ w'.cell? ⟨w.heap.size + 1, 0, none⟩ = some (.int .i64 sb) ∧ w'.cell? ⟨w.heap.size + 1, 1, none⟩ = some (.slice pb m cb)) (first | with_reducible exact hS3 | exact s4 hS (below_gb (gb_new (gb_below (by repeat (first | with_reducible exact HGc.out | with_reducible exact gb_refl _ _ | with_reducible refine gb_drew ?_ | with_reducible refine gb_alloc ?_ _))) (Nat.le_of_eq HSZ.out) (gb_set (gb_set (gb_refl _ _) _) _))) | exact s4 hS (by repeat (first | with_reducible exact HGc.out | with_reducible exact gb_refl _ _ | with_reducible refine gb_drew ?_ | with_reducible refine gb_alloc ?_ _)))
          (first | (go_at_call 48; go_must (refine (rplus_c pa pb n m ca cb f fb _ (FAT.out.grown (row := none) (by repeat (first | with_reducible exact HGc.out | with_reducible exact gb_refl _ _ | with_reducible refine gb_drew ?_ | with_reducible refine gb_alloc ?_ _)) (by simp)) (BAT.out.grown (row := none) (by repeat (first | with_reducible exact HGc.out | with_reducible exact gb_refl _ _ | with_reducible refine gb_drew ?_ | with_reducible refine gb_alloc ?_ _)) (by simp)) FF.out BF.out (by omega) (by omega) ).mono ?_); rintro e w9 ⟨p9, l9, c9, h9, rfl, q1, q2, q3, q4, q5, hg9, q6⟩; (try with_reducible have hg9 := undrew hg9); have HZB := Lib.hid (bx hg9 HZB.out); have HG3 := Lib.hid (gb_trans HG3.out hg9); have hz9 := Nat.le_trans HG3.out.size (Nat.le_refl _); have HM := Lib.hid (HSR.out p9 l9 c9 h9 w9 q1 q2 q3 q4 q5); have Q6 := Lib.hid (fun a ha => Nat.le_trans hszW (q6 a ha)); have HGc := Lib.hid (gb_trans (show W2.grownBy _ none from (by repeat (first | with_reducible exact HGc.out | with_reducible exact gb_refl _ _ | with_reducible refine gb_drew ?_ | with_reducible refine gb_alloc ?_ _))) hg9); clear q1 q2 q3 q4 q5 q6 hg9) | (go_at_call 42; go_must (refine HM.out.mono ?_); rintro e w8 ⟨s5, p5, n5, c5, rfl, hx, hg, hp⟩; have HX5 := Lib.hid hx; have HP5 := Lib.hid hp; have HZ8 := Lib.hid (bx hg HZB.out); obtain ⟨z0, z1, z2⟩ := zcells_of HZ8.out; have HGc := Lib.hid (gb_trans HGc.out hg); have HG8 := Lib.hid (gb_trans HG3.out hg); clear hx hg hp))
        all_goals
          go_wp2
          obtain ⟨k0, k1, k2, k3⟩ := z_ret HZ8.out (gb_refl w8 none) HX5.out HG8.out (show w.heap.size ≤ w.heap.size + 1 + 1 by omega) rfl
          exact bodyPost_ret (v := .agg #[.int .i64 s5, .slice p5 n5 c5]) (by simp [results, Try.results22, go_sem, k2, k3]) rfl ⟨_, _, _, _, rfl, k0, k1, fun h => .inl (by obtain ⟨a, ha, -⟩ := z_some k0 h; exact ⟨a, ha, Q6.out a ((HP5.out h).symm.trans ha)⟩)⟩
      · have d3 : (sa == sb) = false := beq_eq_false_iff_ne.2 hst
        have HC := Lib.hid (fun w' (hg : W2.grownBy w' none) => rcompare_c pa pb n m ca cb f fb w' (FAT.out.grown hg (by simp)) (BAT.out.grown hg (by simp)) FF.out BF.out FT.out BT.out (by omega) (by omega))
        have hne : sg A ≠ sg B := by rw [← EA.out, ← EB.out]; exact hst
        have HNE := Lib.hid hne
        clear hne
        go_enter Try.func22, Try.ntmps22
        go_wp2_with fail
        rw [← hW2]
        refine (HC.out _ (World.grownBy_alloc W2 _ none)).mono ?_
        rintro e w6 ⟨rfl, g6⟩
        have x0' := g6.cell x0' (by simp); have x1' := g6.cell x1' (by simp); have y0' := g6.cell y0' (by simp); have y1' := g6.cell y1' (by simp)
        have HGc := Lib.hid (gb_trans (World.grownBy_alloc W2 (.cells #[.int .i64 0, .slice none 0 0] 31) none) g6)
        have HZB := Lib.hid (bx g6 HZB.out); have HG3 := Lib.hid (gb_trans HG3.out g6)
        have hszW : w.heap.size ≤ w6.heap.size := HG3.out.size
        clear g6
        by_cases hle : B.natAbs ≤ A.natAbs
        · have hcm : ∃ c : Int, cmpZ (V 10 f 0 n : Nat) (V 10 fb 0 m : Nat) = c ∧ 0 ≤ c := by
            obtain ⟨c, h1, h2, -⟩ := cmp_ge (A := (V 10 f 0 n : Nat)) (B := (V 10 fb 0 m : Nat)) (by rw [FV.out, BV.out]; omega)
            exact ⟨c, h1, h2⟩
          obtain ⟨cc, hcc, hc0⟩ := hcm
          rw [hcc]
          clear hcc
          go_wp2_with fail
          have HSR := Lib.hid (fun p9 l9 c9 h9 w9 (q1 : l9 ≤ c9) (q2 : c9 ≤ maxLen) (q3 : At .i64 w9 p9 l9 h9) (q4 : ∀ j, j < l9 → h9 j < 10) (q5 : V 10 h9 0 l9 = V 10 f 0 n - V 10 fb 0 m) => (show sa * (V 10 h9 0 l9 : Nat) = A + B by rw [q5]; exact (by rw [FV.out, BV.out, EA.out]; exact sg_sub HNE.out HA0.out HB0.out hle)) ▸ made_c sa p9 l9 c9 h9 w9 (by rw [EA.out]; exact sg_range A) (fun h => absurd h hs0) q1 q2 q3 q4)
          have HG := HGc
          have hS3 := And.intro x0' (And.intro x1' (And.intro y0' y1'))
          go_region_held3 (fun w' => w'.cell? ⟨w.heap.size, 0, none⟩ = some (.int .i64 sa) ∧ w'.cell? ⟨w.heap.size, 1, none⟩ = some (.slice pa n ca) ∧ w'.cell? ⟨w.heap.size + 1, 0, none⟩ = some (.int .i64 sb) ∧ w'.cell? ⟨w.heap.size + 1, 1, none⟩ = some (.slice pb m cb)) (first | with_reducible exact hS3 | exact s4 hS (below_gb (gb_new (gb_below (by repeat (first | with_reducible exact HGc.out | with_reducible exact gb_refl _ _ | with_reducible refine gb_drew ?_ | with_reducible refine gb_alloc ?_ _))) (Nat.le_of_eq HSZ.out) (gb_set (gb_set (gb_refl _ _) _) _))) | exact s4 hS (by repeat (first | with_reducible exact HGc.out | with_reducible exact gb_refl _ _ | with_reducible refine gb_drew ?_ | with_reducible refine gb_alloc ?_ _)))
            (first | (go_at_call 50; (refine (rminus_c pa pb n m ca cb f fb _ (FAT.out.grown (row := none) (by repeat (first | with_reducible exact HGc.out | with_reducible exact gb_refl _ _ | with_reducible refine gb_drew ?_ | with_reducible refine gb_alloc ?_ _)) (by simp)) (BAT.out.grown (row := none) (by repeat (first | with_reducible exact HGc.out | with_reducible exact gb_refl _ _ | with_reducible refine gb_drew ?_ | with_reducible refine gb_alloc ?_ _)) (by simp)) FF.out BF.out (by omega) (by omega) BT.out (by rw [FV.out, BV.out]; exact hle)).mono ?_); rintro e w9 ⟨p9, l9, c9, h9, rfl, q1, q2, q3, q4, q5, hg9, q6⟩; (try with_reducible have hg9 := undrew hg9); have HZB := Lib.hid (bx hg9 HZB.out); have HG3 := Lib.hid (gb_trans HG3.out hg9); have hz9 := Nat.le_trans HG3.out.size (Nat.le_refl _); have HM := Lib.hid (HSR.out p9 l9 c9 h9 w9 q1 q2 q3 q4 q5); have Q6 := Lib.hid (fun a ha => Nat.le_trans hszW (q6 a ha)); have HGc := Lib.hid (gb_trans (show W2.grownBy _ none from (by repeat (first | with_reducible exact HGc.out | with_reducible exact gb_refl _ _ | with_reducible refine gb_drew ?_ | with_reducible refine gb_alloc ?_ _))) hg9); clear q1 q2 q3 q4 q5 q6 hg9) | (go_at_call 42; go_must (refine HM.out.mono ?_); rintro e w8 ⟨s5, p5, n5, c5, rfl, hx, hg, hp⟩; have HX5 := Lib.hid hx; have HP5 := Lib.hid hp; have HZ8 := Lib.hid (bx hg HZB.out); obtain ⟨z0, z1, z2⟩ := zcells_of HZ8.out; have HGc := Lib.hid (gb_trans HGc.out hg); have HG8 := Lib.hid (gb_trans HG3.out hg); clear hx hg hp))
          all_goals
            go_wp2
            obtain ⟨k0, k1, k2, k3⟩ := z_ret HZ8.out (gb_refl w8 none) HX5.out HG8.out (show w.heap.size ≤ w.heap.size + 1 + 1 by omega) rfl
            exact bodyPost_ret (v := .agg #[.int .i64 s5, .slice p5 n5 c5]) (by simp [results, Try.results22, go_sem, k2, k3]) rfl ⟨_, _, _, _, rfl, k0, k1, fun h => .inl (by obtain ⟨a, ha, -⟩ := z_some k0 h; exact ⟨a, ha, Q6.out a ((HP5.out h).symm.trans ha)⟩)⟩
        · have hcm : cmpZ (V 10 f 0 n : Nat) (V 10 fb 0 m : Nat) = -1 := cmp_lt (by rw [FV.out, BV.out]; omega)
          rw [hcm]
          clear hcm
          go_wp2_with fail
          have HSR := Lib.hid (fun p9 l9 c9 h9 w9 (q1 : l9 ≤ c9) (q2 : c9 ≤ maxLen) (q3 : At .i64 w9 p9 l9 h9) (q4 : ∀ j, j < l9 → h9 j < 10) (q5 : V 10 h9 0 l9 = V 10 fb 0 m - V 10 f 0 n) => (show sb * (V 10 h9 0 l9 : Nat) = A + B by rw [q5]; exact (by rw [FV.out, BV.out, EB.out, Int.add_comm]; exact sg_sub (fun h => HNE.out h.symm) HB0.out HA0.out (by omega))) ▸ made_c sb p9 l9 c9 h9 w9 (by rw [EB.out]; exact sg_range B) (fun h => absurd h ht0) q1 q2 q3 q4)
          have HG := HGc
          have hS3 := And.intro x0' (And.intro x1' (And.intro y0' y1'))
          go_region_held3 (fun w' => w'.cell? ⟨w.heap.size, 0, none⟩ = some (.int .i64 sa) ∧ w'.cell? ⟨w.heap.size, 1, none⟩ = some (.slice pa n ca) ∧ w'.cell? ⟨w.heap.size + 1, 0, none⟩ = some (.int .i64 sb) ∧ w'.cell? ⟨w.heap.size + 1, 1, none⟩ = some (.slice pb m cb)) (first | with_reducible exact hS3 | exact s4 hS (below_gb (gb_new (gb_below (by repeat (first | with_reducible exact HGc.out | with_reducible exact gb_refl _ _ | with_reducible refine gb_drew ?_ | with_reducible refine gb_alloc ?_ _))) (Nat.le_of_eq HSZ.out) (gb_set (gb_set (gb_refl _ _) _) _))) | exact s4 hS (by repeat (first | with_reducible exact HGc.out | with_reducible exact gb_refl _ _ | with_reducible refine gb_drew ?_ | with_reducible refine gb_alloc ?_ _)))
            (first | (go_at_call 50; (refine (rminus_c pb pa m n cb ca fb f _ (BAT.out.grown (row := none) (by repeat (first | with_reducible exact HGc.out | with_reducible exact gb_refl _ _ | with_reducible refine gb_drew ?_ | with_reducible refine gb_alloc ?_ _)) (by simp)) (FAT.out.grown (row := none) (by repeat (first | with_reducible exact HGc.out | with_reducible exact gb_refl _ _ | with_reducible refine gb_drew ?_ | with_reducible refine gb_alloc ?_ _)) (by simp)) BF.out FF.out (by omega) (by omega) FT.out (by rw [FV.out, BV.out]; omega)).mono ?_); rintro e w9 ⟨p9, l9, c9, h9, rfl, q1, q2, q3, q4, q5, hg9, q6⟩; (try with_reducible have hg9 := undrew hg9); have HZB := Lib.hid (bx hg9 HZB.out); have HG3 := Lib.hid (gb_trans HG3.out hg9); have hz9 := Nat.le_trans HG3.out.size (Nat.le_refl _); have HM := Lib.hid (HSR.out p9 l9 c9 h9 w9 q1 q2 q3 q4 q5); have Q6 := Lib.hid (fun a ha => Nat.le_trans hszW (q6 a ha)); have HGc := Lib.hid (gb_trans (show W2.grownBy _ none from (by repeat (first | with_reducible exact HGc.out | with_reducible exact gb_refl _ _ | with_reducible refine gb_drew ?_ | with_reducible refine gb_alloc ?_ _))) hg9); clear q1 q2 q3 q4 q5 q6 hg9) | (go_at_call 42; go_must (refine HM.out.mono ?_); rintro e w8 ⟨s5, p5, n5, c5, rfl, hx, hg, hp⟩; have HX5 := Lib.hid hx; have HP5 := Lib.hid hp; have HZ8 := Lib.hid (bx hg HZB.out); obtain ⟨z0, z1, z2⟩ := zcells_of HZ8.out; have HGc := Lib.hid (gb_trans HGc.out hg); have HG8 := Lib.hid (gb_trans HG3.out hg); clear hx hg hp))
          all_goals
            go_wp2
            obtain ⟨k0, k1, k2, k3⟩ := z_ret HZ8.out (gb_refl w8 none) HX5.out HG8.out (show w.heap.size ≤ w.heap.size + 1 + 1 by omega) rfl
            exact bodyPost_ret (v := .agg #[.int .i64 s5, .slice p5 n5 c5]) (by simp [results, Try.results22, go_sem, k2, k3]) rfl ⟨_, _, _, _, rfl, k0, k1, fun h => .inl (by obtain ⟨a, ha, -⟩ := z_some k0 h; exact ⟨a, ha, Q6.out a ((HP5.out h).symm.trans ha)⟩)⟩
end Go.Proofs.Ytkonfkcaefjabaa
