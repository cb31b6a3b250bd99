/- Lemmas. -/
import Derived.Test.YtddccnpohpaofaaGreatDoorP44
import Derived.Test.YtddccnpohpaofaaGreatDoorP48
set_option linter.unusedVariables false
set_option linter.unusedSimpArgs false
namespace Go.Proofs.YtddccnpohpaofaaGreatDoor
open Go.RowKit

theorem str_of {v : List UInt8} {w : World} {e : Ending} {w' : World} (h : StrGb v w e w') : e = .returned (.string ⟨v.toArray⟩) ∧ w.grownBy w' none := by
  obtain ⟨⟨r, rfl, hr⟩, hg⟩ := h
  refine ⟨?_, hg⟩
  subst hr
  simp
/-- What is read back of a right formula. -/
theorem back_S {x : Sx} {ex : Ex} (hex : formE (txS x) 200 = ex) (h : rightB true x = true) (hs : sizS x ≤ 30) (ho : okS x) (hb : tbS x ≤ 10000 ∧ wgS x ≤ 500) :
    (ansQ (txS x) 200 true).2.1 = 0 ∧ rightB true (exS ex) = true ∧ txS (exS ex) = txS x ∧ sizS (exS ex) ≤ 30 ∧ wgS (exS ex) ≤ 500 ∧ okS (exS ex) ∧ dmpE ex = dmpE (toE x) ∧ allS ex ∧ allS (toE x) ∧ cntE ex ≤ 90 ∧ cntE (toE x) ≤ 90 ∧ (dmpE (toE x)).length ≤ 10000 := by
  have hF := fm_of _ x hs h
  have htx : (txS x).length ≤ 10000 := Nat.le_trans (tb_len x) hb.1
  obtain ⟨r1, r2⟩ := round_S hF (by omega) (by omega)
  rw [hex] at r2
  obtain ⟨i1, i2, i3, i4, i5, i6⟩ := same_S hF _ r2
  obtain ⟨k1, k2, k3⟩ := small_S hF
  have e1 := np_to x
  refine ⟨r1, right_of i1, i3, by omega, by omega, i6 ho, ?_, ?_, ?_, ?_, ?_, ?_⟩
  · rw [← dmp_np, r2, ← e1, dmp_np]
  · rw [← all_np, r2]; exact k1 ho
  · rw [← all_np, e1]; exact k1 ho
  · rw [← cnt_np, r2]; omega
  · rw [← cnt_np, e1]; omega
  · rw [← dmp_np, e1]; omega

set_option maxRecDepth 100000 in
set_option maxHeartbeats 16000000 in
theorem reads9_c (l : List Cl) (pt : Option Addr) (ct : Nat) (w : World) (hT : GAt 6 w pt (l.map cellR)) (hk : ∀ c ∈ l, -9223372036854775808 ≤ c.kids ∧ c.kids < 9223372036854775808) (hla : LaidE w) (hls : LaidS w) (hlw : LaidW w) :
    Calls Tryz.prog 3 #[.slice pt l.length ct] w (ValPost (.bool true) w) := by
  have HAN := Lib.hid (anchor9_c w hla hls hlw)
  have HBO := Lib.hid (fun W (h : w.grownBy W none) => both_c l pt ct W (hT.kept h) hk)
  have HLE := Lib.hid hla
  have HLS := Lib.hid hls
  have HLW : Hid (∀ W, w.grownBy W none → LaidW W) := Lib.hid (fun W h j t hj => h.cell (hlw j t hj) (by simp))
  obtain ⟨m, hm⟩ : ∃ m, l.length = m := ⟨_, rfl⟩
  rw [hm] at HBO ⊢
  clear hT hk hla hls hlw hm
  go_enter Tryz.func3, Tryz.ntmps3
  go_wp2_with fail
  refine HAN.out.mono ?_
  rintro e w1 ⟨rfl, hg1⟩
  have HG1 := Lib.hid hg1
  clear hg1
  go_wp2_with fail
  refine (HBO.out w1 HG1.out).mono ?_
  rintro e w2 ⟨hg2, hbo⟩
  have HG2 := Lib.hid (gb_trans HG1.out hg2)
  clear hg2 HBO HAN
  cases hb : bothC l with
  | none =>
    rw [hb] at hbo
    subst hbo
    clear hb
    unfold z8 z7
    go_wp2_with fail
    go_ret
    exact ⟨rfl, gb_trans HG2.out (by repeat (first | with_reducible exact gb_refl _ _ | with_reducible refine gb_drew ?_ | with_reducible refine gb_drewN ?_ _ | with_reducible refine gb_alloc ?_ _))⟩
  | some x =>
    rw [hb] at hbo
    obtain ⟨q, r, rfl, hx, hr⟩ := hbo
    replace hx := SAt.mono (fun k hk => hk.2) hx
    have hsz := bothC_siz hb
    have hok := bothC_ok hb
    have hbd := bothC_bnd hb
    have hpl := bothC_pl hb
    have htx : (txS x).length ≤ 10000 := Nat.le_trans (tb_len x) hbd.1
    have HFO := Lib.hid (fun W (h : w2.grownBy W none) => Formula_c _ x q W (HLE.out.kept (gb_trans HG2.out h)) (HLW.out W (gb_trans HG2.out h)) (hx.kept h) (fun k hk => Nat.lt_of_lt_of_le hk h.size) (by omega) hok (by omega) (by omega))
    have HDX : Hid (rightB true x = true → ∀ W, w2.grownBy W none → Calls Tryz.prog 9 #[.agg q.toArray] W (StrGb (dmpE (toE x)) W)) := Lib.hid (fun hr W h => by
      obtain ⟨-, -, -, -, -, -, -, -, b1, -, b2, b3⟩ := back_S rfl hr hsz hok hbd
      exact Dump_c2 _ _ q W ((eat_of (eo_of (fm_of _ x hsz hr) hpl) hx).kept h) b1 (by omega) (by omega))
    obtain ⟨ex, hex⟩ : ∃ ex, formE (txS x) 200 = ex := ⟨_, rfl⟩
    have HBK := Lib.hid (fun hr => back_S (x := x) hex hr hsz hok hbd)
    have HEX := Lib.hid hex
    have HSL : Hid ((txS x).length ≤ 10000) := Lib.hid htx
    unfold ShowPost at HFO
    obtain ⟨T, hTe⟩ : ∃ T, txS x = T := ⟨_, rfl⟩
    obtain ⟨D, hDe⟩ : ∃ D, dmpE (toE x) = D := ⟨_, rfl⟩
    obtain ⟨ra, hra⟩ : ∃ b, rightB true x = b := ⟨_, rfl⟩
    rw [hTe, hra] at HFO
    rw [hra, hDe] at HDX
    rw [hra, hTe, hDe] at HBK
    rw [hTe] at HSL HEX
    clear hsz hok hbd hpl htx hTe hDe hra hb hex
    cases x with
    | mk op nm md nu ys ks ps =>
      simp only [SAt] at hx
      simp only [RSt] at hr
      obtain ⟨s1, pw1, nw1, cw1, pk1, ck1, rows1, rfl, -⟩ := hx
      obtain ⟨pk2, ck2, rows2, rfl, -⟩ := hr
      unfold strV at *
      generalize (⟨nm.toArray⟩ : ByteArray) = y1 at *
      generalize (⟨md.toArray⟩ : ByteArray) = z1 at *
      generalize (⟨(Zd.txtL nu).toArray⟩ : ByteArray) = u1 at *
      generalize ks.length = kl1 at *
      have hgA := World.grownBy_alloc w2 (.cells #[.int .i64 op, .string y1, .string z1, .bool s1, .slice pw1 nw1 cw1, .bool ys, .slice pk1 kl1 ck1, .int .i64 ps] 30) none
      have hbA := heap_alloc_new w2 (.cells #[.int .i64 op, .string y1, .string z1, .bool s1, .slice pw1 nw1 cw1, .bool ys, .slice pk1 kl1 ck1, .int .i64 ps] 30)
      have hgB := World.grownBy_alloc (w2.alloc (.cells #[.int .i64 op, .string y1, .string z1, .bool s1, .slice pw1 nw1 cw1, .bool ys, .slice pk1 kl1 ck1, .int .i64 ps] 30)) (.cells #[.int .i64 op, .string y1, .string z1, .string u1, .bool ys, .slice pk2 kl1 ck2, .int .i64 ps] 33) none
      have hbA := bx hgB hbA
      have hg := gb_trans hgA hgB
      go_upto_region 4 with fail
      generalize ((w2.alloc (.cells #[.int .i64 op, .string y1, .string z1, .bool s1, .slice pw1 nw1 cw1, .bool ys, .slice pk1 kl1 ck1, .int .i64 ps] 30)).alloc (.cells #[.int .i64 op, .string y1, .string z1, .string u1, .bool ys, .slice pk2 kl1 ck2, .int .i64 ps] 33)) = W3 at *
      obtain ⟨b, hb⟩ : ∃ b, w2.heap.size = b := ⟨_, rfl⟩
      rw [hb] at hbA ⊢
      have HBA := Lib.hid hbA; have HG3 := Lib.hid hg
      clear hgA hgB hbA hg hb
      obtain ⟨c0, c1, c2, c3, c4, c5, c6, c7⟩ := cells8u HBA.out
      have hbw : b < W3.heap.size := hlt HBA.out
      go_wp2_with fail
      refine (HFO.out W3 HG3.out).mono ?_
      rintro e w4 ⟨rfl, hg4⟩
      have HG4 := Lib.hid (gb_trans HG3.out hg4)
      have HBA4 := Lib.hid (bx hg4 HBA.out)
      clear hg4 c0 c1 c2 c3 c4 c5 c6 c7 hbw HFO
      cases ra
      focus
        simp only [Bool.false_eq_true, if_false]
        go_wp2_with fail
        go_ret
        exact ⟨rfl, gb_trans HG2.out HG4.out⟩
      simp only [if_true]
      have hbk := HBK.out rfl
      obtain ⟨sv, hsv⟩ : ∃ s : ByteArray, (⟨T.toArray⟩ : ByteArray) = s := ⟨_, rfl⟩
      have hsl : sv.data.toList = T := by rw [← hsv]
      have hsz : sv.size ≤ 10000 := by rw [← list_len, hsl]; exact HSL.out
      obtain ⟨k1, k2, k3, k4, k5, k6, k7, k8, -, k10, -, k12⟩ := hbk
      have HP := Lib.hid (fun W (h : w.grownBy W none) => Formula_p sv 200 W (by omega) (HLE.out.kept h))
      have HFF := Lib.hid (fun pt pn ct cn K W h1 h2 h3 h4 h5 => FormulaOf_c sv 200 (by omega) (by rw [hsl]; exact k1) pt pn ct cn K W h1 h2 h3 h4 h5)
      rw [hsl] at HP HFF
      rw [HEX.out] at HFF
      have HK := Lib.hid (And.intro k2 (And.intro k3 (And.intro k4 (And.intro k5 (And.intro k6 (And.intro k7 (And.intro k8 (And.intro k10 k12))))))))
      have HSV := Lib.hid hsv
      rw [hsv]
      clear hsv hsl hsz k2 k3 k4 k5 k6 k7 k8 k10 k12 HBK HEX
      go_wp2_with fail
      refine (HP.out w4 (gb_trans HG2.out HG4.out)).mono ?_
      rintro e w5 ⟨hg5, he⟩
      rw [if_neg (by rw [k1]; decide)] at he
      obtain ⟨pt9, ct9, pn9, cn9, K9, rfl, hta, hct, hna, -, -, -, hN⟩ := he
      have HTA := Lib.hid hta; have HNA := Lib.hid hna; have HN9 := Lib.hid hN
      have HG5 := Lib.hid (gb_trans HG4.out hg5)
      have HBA5 := Lib.hid (bx hg5 HBA4.out)
      obtain ⟨tm, htm⟩ : ∃ m, (allE T).1.length = m := ⟨_, rfl⟩
      obtain ⟨tM, htM⟩ : ∃ M, (nodesQ T 200 true).length = M := ⟨_, rfl⟩
      have HFO2 := Lib.hid (fun W h1 h2 h3 h4 => HFF.out pt9 pn9 ct9 cn9 K9 W h1 h2 h3 h4 HN9.out)
      rw [htm, htM] at HFO2 ⊢
      obtain ⟨W, b0, b1, hW, e0, e1, hB0, hB1, hgW, h01⟩ := two w5 (.cells #[.slice pt9 tm ct9, .slice pn9 tM cn9] 42) (.cells #[.int .i64 0, .int .i64 0] 44)
      have hb1 : b1 = b0 + 1 := by omega
      subst hb1
      have HT0 := Lib.hid hB0; have HT1 := Lib.hid hB1; have HGW := Lib.hid hgW
      have HBA6 := Lib.hid (bx hgW HBA5.out)
      clear htm htM hN hct hta hna hg5 k1 HP HFF hB0 hB1 hgW HBA HBA4
      go_upto_region 10 with fail
      try rw [← hW]
      try rw [e1]
      try rw [e0]
      clear e0 e1 hW
      obtain ⟨f0, f1⟩ := (show W.cell? ⟨b0 + 1, 0, none⟩ = some (.int .i64 0) ∧ W.cell? ⟨b0 + 1, 1, none⟩ = some (.int .i64 0) from ⟨by rw [cell_of_row W (b0 + 1) 0 _ _ (0, 0) HT1.out]; rfl, by rw [cell_of_row W (b0 + 1) 1 _ _ (0, 0) HT1.out]; rfl⟩)
      obtain ⟨t0, t1⟩ := (show W.cell? ⟨b0, 0, none⟩ = some (.slice pt9 tm ct9) ∧ W.cell? ⟨b0, 1, none⟩ = some (.slice pn9 tM cn9) from ⟨by rw [cell_of_row W b0 0 _ _ (0, 0) HT0.out]; rfl, by rw [cell_of_row W b0 1 _ _ (0, 0) HT0.out]; rfl⟩)
      have hb0w : b0 < W.heap.size := hlt HT0.out
      have hb1w : b0 + 1 < W.heap.size := hlt HT1.out
      go_wp2_with fail
      refine (HFO2.out W (HLE.out.kept (gb_trans HG2.out (gb_trans HG5.out HGW.out))) (HLS.out.kept (gb_trans HG2.out (gb_trans HG5.out HGW.out))) (HTA.out.kept HGW.out) (HNA.out.kept HGW.out)).mono ?_
      rintro e w6 ⟨hg6, qy, rfl, hqy⟩
      have HG6 := Lib.hid (gb_trans HG5.out (gb_trans HGW.out hg6))
      have HBA7 := Lib.hid (bx hg6 HBA6.out)
      have hs6 := sat_of hqy
      obtain ⟨g2, g3, g4, g5, g6, g7, g8, g10, g12⟩ := HK.out
      have HF2 := Lib.hid (fun W (h : w6.grownBy W none) => Formula_c _ (exS ex) qy W (HLE.out.kept (gb_trans HG2.out (gb_trans HG6.out h))) (HLW.out W (gb_trans HG2.out (gb_trans HG6.out h))) (hs6.bound.kept h) (fun k hk => Nat.lt_of_lt_of_le hk.2 h.size) (by omega) g6 (by omega) (by rw [g3]; have := HSL.out; omega))
      have HDY := Lib.hid (fun W (h : w6.grownBy W none) => Dump_c2 _ ex qy W (hqy.kept h) g8 (by omega) (by rw [g7]; omega))
      unfold ShowPost at HF2
      rw [g2, g3] at HF2
      simp only [if_true] at HF2
      rw [HSV.out] at HF2
      rw [g7] at HDY
      obtain ⟨o2, n2, m2, b2, pq, nq2, cq, yy, pr, nr, cr, pz, rfl⟩ : ∃ o2 n2 m2 b2 pq nq2 cq yy pr nr cr pz, qy = [.int .i64 o2, .string n2, .string m2, .bool b2, .slice pq nq2 cq, .bool yy, .slice pr nr cr, .int .i64 pz] := by
        cases ex with
        | mk op' nm' md' nu' ys' ks' ps' =>
          simp only [EAt] at hqy
          obtain ⟨s', pw', nw', cw', pk', ck', rows', rfl, -⟩ := hqy
          exact ⟨_, _, _, _, _, _, _, _, _, _, _, _, rfl⟩
      have hgY := World.grownBy_alloc w6 (.cells #[.int .i64 o2, .string n2, .string m2, .bool b2, .slice pq nq2 cq, .bool yy, .slice pr nr cr, .int .i64 pz] 30) none
      have hbY := heap_alloc_new w6 (.cells #[.int .i64 o2, .string n2, .string m2, .bool b2, .slice pq nq2 cq, .bool yy, .slice pr nr cr, .int .i64 pz] 30)
      clear hg6 hqy hs6 g2 g3 g4 g5 g6 g7 g8 g10 g12 HK HFO2 HTA HNA HGW HT0 HT1 f0 f1 t0 t1 hb0w hb1w HBA5 HBA6
      go_upto_region 13 with fail
      generalize (w6.alloc (.cells #[.int .i64 o2, .string n2, .string m2, .bool b2, .slice pq nq2 cq, .bool yy, .slice pr nr cr, .int .i64 pz] 30)) = W7 at *
      obtain ⟨by9, hb9⟩ : ∃ b, w6.heap.size = b := ⟨_, rfl⟩
      rw [hb9] at hbY ⊢
      have HBY := Lib.hid hbY; have HGY := Lib.hid hgY
      have HBA8 := Lib.hid (bx hgY HBA7.out)
      clear hbY hgY hb9
      obtain ⟨d0, d1, d2, d3, d4, d5, d6, d7⟩ := cells8u HBY.out
      have hbyw : by9 < W7.heap.size := hlt HBY.out
      go_wp2_with fail
      refine (HF2.out W7 HGY.out).mono ?_
      rintro e w8 ⟨rfl, hg8⟩
      have HG8 := Lib.hid (gb_trans HG6.out (gb_trans HGY.out hg8))
      have HGY8 := Lib.hid (gb_trans HGY.out hg8)
      have HBA8 := Lib.hid (bx hg8 HBA8.out)
      have HBY8 := Lib.hid (bx hg8 HBY.out)
      obtain ⟨dv, hdv⟩ : ∃ s : ByteArray, (⟨D.toArray⟩ : ByteArray) = s := ⟨_, rfl⟩
      have HDX8 : Hid (∀ W, w8.grownBy W none → Calls Tryz.prog 9 #[.agg #[.int .i64 op, .string y1, .string z1, .bool s1, .slice pw1 nw1 cw1, .bool ys, .slice pk1 kl1 ck1, .int .i64 ps]] W (fun e w' => e = .returned (.string dv) ∧ W.grownBy w' none)) := Lib.hid (fun W h => (HDX.out (by simp) W (gb_trans HG8.out h)).mono (fun e w' hh => by have := str_of hh; rw [hdv] at this; exact this))
      have HDY8 : Hid (∀ W, w8.grownBy W none → Calls Tryz.prog 9 #[.agg #[.int .i64 o2, .string n2, .string m2, .bool b2, .slice pq nq2 cq, .bool yy, .slice pr nr cr, .int .i64 pz]] W (fun e w' => e = .returned (.string dv) ∧ W.grownBy w' none)) := Lib.hid (fun W h => (HDY.out W (gb_trans HGY8.out h)).mono (fun e w' hh => by have := str_of hh; rw [hdv] at this; exact this))
      clear hg8 d0 d1 d2 d3 d4 d5 d6 d7 hbyw HF2 HDX HDY HGY HBY HBA7 hdv HSV HSL
      go_upto_region 14 with fail
      obtain ⟨c0, c1, c2, c3, c4, c5, c6, c7⟩ := cells8u HBA8.out
      obtain ⟨d0, d1, d2, d3, d4, d5, d6, d7⟩ := cells8u HBY8.out
      have hbw : b < w8.heap.size := hlt HBA8.out
      have hbyw : by9 < w8.heap.size := hlt HBY8.out
      have HGc : Hid (w8.grownBy w8 none) := Lib.hid (gb_refl _ _)
      go_region_held3 (fun w' => w'.cell? ⟨b, 0, none⟩ = some (.int .i64 op) ∧ w'.cell? ⟨b, 1, none⟩ = some (.string y1) ∧ w'.cell? ⟨b, 2, none⟩ = some (.string z1) ∧ w'.cell? ⟨b, 3, none⟩ = some (.bool s1) ∧ w'.cell? ⟨b, 4, none⟩ = some (.slice pw1 nw1 cw1) ∧ w'.cell? ⟨b, 5, none⟩ = some (.bool ys) ∧ w'.cell? ⟨b, 6, none⟩ = some (.slice pk1 kl1 ck1) ∧ w'.cell? ⟨b, 7, none⟩ = some (.int .i64 ps) ∧ w'.cell? ⟨by9, 0, none⟩ = some (.int .i64 o2) ∧ w'.cell? ⟨by9, 1, none⟩ = some (.string n2) ∧ w'.cell? ⟨by9, 2, none⟩ = some (.string m2) ∧ w'.cell? ⟨by9, 3, none⟩ = some (.bool b2) ∧ w'.cell? ⟨by9, 4, none⟩ = some (.slice pq nq2 cq) ∧ w'.cell? ⟨by9, 5, none⟩ = some (.bool yy) ∧ w'.cell? ⟨by9, 6, none⟩ = some (.slice pr nr cr) ∧ w'.cell? ⟨by9, 7, none⟩ = some (.int .i64 pz))
        (first | with_reducible exact ⟨c0, c1, c2, c3, c4, c5, c6, c7, d0, d1, d2, d3, d4, d5, d6, d7⟩ | go_keep)
        (first | (go_at_call 9; refine (HDX8.out _ (gb_trans HGc.out (by repeat (first | with_reducible exact gb_refl _ _ | with_reducible refine gb_drew ?_ | with_reducible refine gb_drewN ?_ _ | with_reducible refine gb_alloc ?_ _)))).mono ?_; rintro e wd ⟨rfl, hgd⟩; have HGc := Lib.hid (gb_trans (gb_trans HGc.out (by repeat (first | with_reducible exact gb_refl _ _ | with_reducible refine gb_drew ?_ | with_reducible refine gb_drewN ?_ _ | with_reducible refine gb_alloc ?_ _))) hgd); obtain ⟨c0, c1, c2, c3, c4, c5, c6, c7⟩ := cells8u (bx HGc.out HBA8.out); obtain ⟨d0, d1, d2, d3, d4, d5, d6, d7⟩ := cells8u (bx HGc.out HBY8.out); have hbw : b < wd.heap.size := hlt (bx HGc.out HBA8.out); have hbyw : by9 < wd.heap.size := hlt (bx HGc.out HBY8.out); clear hgd) | (go_at_call 9; refine (HDY8.out _ (gb_trans HGc.out (by repeat (first | with_reducible exact gb_refl _ _ | with_reducible refine gb_drew ?_ | with_reducible refine gb_drewN ?_ _ | with_reducible refine gb_alloc ?_ _)))).mono ?_; rintro e wd ⟨rfl, hgd⟩; have HGc := Lib.hid (gb_trans (gb_trans HGc.out (by repeat (first | with_reducible exact gb_refl _ _ | with_reducible refine gb_drew ?_ | with_reducible refine gb_drewN ?_ _ | with_reducible refine gb_alloc ?_ _))) hgd); obtain ⟨c0, c1, c2, c3, c4, c5, c6, c7⟩ := cells8u (bx HGc.out HBA8.out); obtain ⟨d0, d1, d2, d3, d4, d5, d6, d7⟩ := cells8u (bx HGc.out HBY8.out); have hbw : b < wd.heap.size := hlt (bx HGc.out HBA8.out); have hbyw : by9 < wd.heap.size := hlt (bx HGc.out HBY8.out); clear hgd) | fail)
      all_goals
        go_wp2_with fail
        go_ret
        exact ⟨rfl, gb_trans HG2.out (gb_trans HG8.out (gb_trans HGc.out (by repeat (first | with_reducible exact gb_refl _ _ | with_reducible refine gb_drew ?_ | with_reducible refine gb_drewN ?_ _ | with_reducible refine gb_alloc ?_ _))))⟩
end Go.Proofs.YtddccnpohpaofaaGreatDoor
