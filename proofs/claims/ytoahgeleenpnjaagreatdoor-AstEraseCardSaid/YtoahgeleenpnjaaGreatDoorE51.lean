/- The law on programs without clauses, walked: any text. -/
import Derived.Test.YtoahgeleenpnjaaGreatDoorE43
import Derived.Test.YtoahgeleenpnjaaGreatDoorE45
import Derived.Test.YtoahgeleenpnjaaGreatDoorE47
import Derived.Test.YtoahgeleenpnjaaGreatDoorE48
import Derived.Test.YtoahgeleenpnjaaGreatDoorE49
set_option linter.unusedVariables false
set_option linter.unusedSimpArgs false
namespace Go.Proofs.YtoahgeleenpnjaaGreatDoor
open Go.RowKit

theorem pr_form {F : Nat → Prop} {w : World} {P : Px} {q : List Value} (h : PrAt F w P q) : ∃ (pi : Option Addr) (ni ci : Nat) (pd : Option Addr) (cd : Nat) (drow : List (List Value)), q = [.slice pi ni ci, .slice pd P.defs.length cd] ∧ GAt 15 w pd drow ∧ DsAt F w P.defs drow ∧ (P.defs ≠ [] → ∃ a, pd = some a ∧ F a.block) := by
  obtain ⟨pi, ci, pd, cd, drow, rfl, -, h1, h2, -, h3⟩ := h
  exact ⟨pi, _, ci, pd, cd, drow, rfl, h1, h2, h3⟩

set_option maxRecDepth 100000 in
set_option maxHeartbeats 16000000 in
theorem erase8_c (s : ByteArray) (w : World) (hla : LaidE w) (hls : LaidS w) :
    Calls Tryz.prog 4 #[.string s] w (ValPost (.bool true) w) := by
  have HAN := Lib.hid (anchor8_c w hla hls)
  have HLA := Lib.hid hla; have HLS := Lib.hid hls
  by_cases hbig : 1500 < s.size
  · have d1 : decide (1500 < s.size) = true := decide_eq_true hbig
    have d1' : decide ((1500 : Int) < (s.size : Int)) = true := decide_eq_true (by omega)
    clear hbig hla hls
    go_enter Tryz.func4, Tryz.ntmps4
    go_wp2_with fail
    refine HAN.out.mono ?_
    rintro e w0 ⟨rfl, hg0⟩
    have HG0 := Lib.hid hg0
    clear hg0
    go_wp2_with fail
    go_ret
    exact ⟨rfl, HG0.out⟩
  have d1 : decide (1500 < s.size) = false := decide_eq_false hbig
  have d1' : decide ((1500 : Int) < (s.size : Int)) = false := decide_eq_false (by omega)
  have hsl := list_len s
  have HP := Lib.hid (fun W h => Parse_p s 100 W (by omega) h)
  obtain ⟨l, hl⟩ : ∃ l, s.data.toList = l := ⟨_, rfl⟩
  rw [hl] at HP hsl
  have HLL : Hid (l.length ≤ 1500) := Lib.hid (by omega)
  have HYL := Lib.hid hl
  have HYZ : Hid (s.size ≤ 25000) := Lib.hid (by omega)
  clear hbig hla hls hsl hl
  go_enter Tryz.func4, Tryz.ntmps4
  go_wp2_with fail
  refine HAN.out.mono ?_
  rintro e w0 ⟨rfl, hg0⟩
  have HG0 := Lib.hid hg0
  clear hg0 HAN
  go_wp2_with fail
  refine (HP.out _ (HLA.out.kept HG0.out)).mono ?_
  rintro e w1 ⟨hg1, he⟩
  have HG1 := Lib.hid (gb_trans HG0.out hg1)
  clear HP hg1
  by_cases hok : (ansQ l 100 false).2.1 = 0
  · have hR := read_f (l := l) (by have := HLL.out; omega) hok
    have hlen := len_all hR.lex
    rw [if_neg (by rw [hok]; decide)] at he
    obtain ⟨pt, ct, pn, cn, K, rfl, hta, -, hna, -, -, -, hN2⟩ := he
    have hPB := pbd_text (D := 100) HLL.out hR hN2
    have hgd := own_tree (l := l) (D := 100) (f := false) (by have := HLL.out; omega) hok
    have hOF := Of_any ((allE l).1.map toI) (nodesQ l 100 false) K s HYZ.out (by rw [wholeI_toI, whole_all hR.lex, HYL.out]) (by rw [List.length_map]; have := HLL.out; omega) (by have := HLL.out; omega) (kids_few (by have := HLL.out; omega)) pt pn ct cn
    rw [List.length_map, HYL.out] at hOF
    have hpe : progE l 200 = progE l 100 := by
      unfold progE
      rw [show (200 : Int).toNat = 200 from rfl, hR.same]
    have HOF : Hid (∀ W, LaidE W → LaidS W → ToksAt W pt ((allE l).1.map toI) → NodesAt W pn (nodesQ l 100 false) K → Calls Tryz.prog 7 #[.agg #[.slice pt (allE l).1.length ct, .slice pn (nodesQ l 100 false).length cn]] W (fun e w' => W.grownBy w' none ∧ ∃ (F : Nat → Prop) (q : List Value), e = .returned (.tuple #[.agg q.toArray, .int .i64 0]) ∧ PrAt F w' (progE l 100) q)) := Lib.hid (fun W h1 h2 h3 h4 => (hOF W h1 h2 h3 h4).mono (by
      rintro e w' ⟨hg, he⟩
      rcases he with ⟨-, q, hq0, hq⟩ | ⟨hb, -⟩
      · exact ⟨hg, _, q, hq0, hpe ▸ hq⟩
      · exact absurd hgd hb))
    have HTM := Lib.hid (toks_map hta)
    have HNA := Lib.hid hna
    obtain ⟨P, hP⟩ : ∃ P, progE l 100 = P := ⟨_, rfl⟩
    rw [hP] at HOF hPB
    have HPB := Lib.hid hPB
    have HPE := Lib.hid hPB.era
    have HER : Hid (∀ (F : Nat → Prop) (q : List Value) (W : World), PrAt F W P q → Calls Tryz.prog 12 #[.agg q.toArray] W (fun e w' => W.grownBy w' none ∧ ∃ (F2 : Nat → Prop) (q2 : List Value), e = .returned (.agg q2.toArray) ∧ PrAt F2 w' (eraP P) q2)) := Lib.hid (fun F q W h => (Erase_c F P q W h (by have := hPB.few; omega) (fun x hx => by have := hPB.imps x hx; omega) (by have := hPB.fewd; omega) (fun d hd => (hPB.defs d hd).dbd)).mono (by
      rintro e w' ⟨h1, q2, h2, h3⟩
      exact ⟨h1, _, q2, h2, h3⟩))
    have HER2 : Hid (∀ (F : Nat → Prop) (q : List Value) (W : World), PrAt F W (eraP P) q → Calls Tryz.prog 12 #[.agg q.toArray] W (fun e w' => W.grownBy w' none ∧ ∃ (F2 : Nat → Prop) (q2 : List Value), e = .returned (.agg q2.toArray) ∧ PrAt F2 w' (eraP P) q2)) := Lib.hid (fun F q W h => (Erase_c F (eraP P) q W h (by have := hPB.era.few; omega) (fun x hx => by have := hPB.era.imps x hx; omega) (by have := hPB.era.fewd; omega) (fun d hd => (hPB.era.defs d hd).dbd)).mono (by
      rintro e w' ⟨h1, q2, h2, h3⟩
      rw [eraP_two] at h3
      exact ⟨h1, _, q2, h2, h3⟩))
    obtain ⟨mt, hmt⟩ : ∃ m, (allE l).1.length = m := ⟨_, rfl⟩
    obtain ⟨M, hM⟩ : ∃ M, (nodesQ l 100 false).length = M := ⟨_, rfl⟩
    rw [hmt, hM] at HOF ⊢
    clear hmt hM hta hna hR hlen hN2 hgd hOF hpe hP hok HLL HYL HYZ hPB
    go_wp2_with fail
    obtain ⟨W, b0, b1, hW, e0, e1, hB0, hB1, hgW, h01⟩ := two w1 (.cells #[.slice pt mt ct, .slice pn M cn] 26) (.cells #[.int .i64 0, .int .i64 0] 29)
    have HB0 := Lib.hid hB0; have HB1 := Lib.hid hB1; have HGW := Lib.hid hgW
    have HG2 := Lib.hid (gb_trans HG1.out hgW)
    try rw [← hW]
    try rw [e1]
    try rw [e0]
    clear e0 e1 hW hB0 hB1 hgW
    refine (HOF.out _ (HLA.out.kept HG2.out) (HLS.out.kept HG2.out) (HTM.out.kept HGW.out) (HNA.out.kept HGW.out)).mono ?_
    rintro e w2 ⟨hg2, FA, q, rfl, hq⟩
    have hqf := hq
    obtain ⟨pi, ni, ci, pd, cd, drow, rfl, -, -, -⟩ := pr_form hqf
    clear hqf
    have HQ := Lib.hid hq
    have HG3 := Lib.hid (gb_trans HG2.out hg2)
    obtain ⟨m, hm⟩ : ∃ m, P.defs.length = m := ⟨_, rfl⟩
    rw [hm] at HQ ⊢
    have HM := Lib.hid hm
    have hmb : m ≤ 10000 := by rw [← hm]; exact HPB.out.fewd
    clear hg2 hq HOF hm
    go_wp2_with fail
    obtain ⟨W3, b5, hW3, e5, hB5, hgW3⟩ := box0 w2 (.cells #[.slice pi ni ci, .slice pd m cd] 35)
    have HB5 := Lib.hid hB5
    have HQ3 := Lib.hid (HQ.out.kept hgW3)
    have HG4 := Lib.hid (gb_trans HG3.out hgW3)
    try rw [← hW3]
    try rw [e5]
    clear e5 hW3 hB5 hgW3
    refine (HER.out _ _ W3 HQ3.out).mono ?_
    rintro e w4 ⟨hg4, FB, q2, rfl, hq2⟩
    have hqf := hq2
    obtain ⟨pi2, ni2, ci2, pd2, cd2, drow2, rfl, hgd2, hds2, hda2⟩ := pr_form hqf
    have hm2 : (eraP P).defs.length = m := by rw [← HM.out]; simp [eraP]
    have HM2 := Lib.hid hm2
    rw [hm2] at hq2 ⊢
    have HQ2 := Lib.hid hq2
    have HB54 := Lib.hid (bx hg4 HB5.out)
    have HG5 := Lib.hid (gb_trans HG4.out hg4)
    have HQ4 := Lib.hid (HQ3.out.kept hg4)
    have HKD := Lib.hid (fun (W : World) (hg : w4.grownBy W none) => (show GAt 15 W pd2 drow2 ∧ DsAt FB W (eraP P).defs drow2 from ⟨gat_sameG (S := fun _ => False) (Ds_len hds2) hgd2 hda2 (Fr2.none hg) (fun _ _ h => h), Ds_kept hds2 hg⟩))
    clear hqf hgd2 hds2 hda2 hm2 hq2 hg4 HER HQ HQ3
    go_wp2_with fail
    obtain ⟨W5, b7, hW5, e7, hB7, hgW5⟩ := box0 w4 (.cells #[.slice pi2 ni2 ci2, .slice pd2 m cd2] 35)
    have HB7 := Lib.hid hB7
    have HB55 := Lib.hid (bx hgW5 HB54.out)
    have HG6 := Lib.hid (gb_trans HG5.out hgW5)
    have HGW5 := Lib.hid hgW5
    try rw [← hW5]
    try rw [e7]
    clear e7 hW5 hB7 hgW5 HB54
    go_loopg [37] m (fun gk iv wr => ∃ j : Nat, j ≤ m ∧ iv = .int .i64 (j : Int) ∧ m - j ≤ gk ∧ gk ≤ m ∧ Hid (W5.grownBy wr none))
    case atStart => exact ⟨0, Nat.zero_le _, rfl, by omega, Nat.le_refl _, Lib.hid (gb_refl _ _)⟩
    case round =>
      obtain ⟨j, hj, rfl, hgk, hgm, HGr⟩ := hrel
      by_cases hlj : j < m
      · obtain ⟨d, hd0⟩ : ∃ d, (eraP P).defs[j]? = some d := ⟨(eraP P).defs[j]'(by rw [HM2.out]; exact hlj), List.getElem?_eq_getElem _⟩
        obtain ⟨d', -, hde⟩ : ∃ d', d' ∈ P.defs ∧ eraD d' = d := List.mem_map.1 (show d ∈ P.defs.map eraD from List.mem_of_getElem? hd0)
        obtain ⟨hgd, hds⟩ := HKD.out wr (gb_trans HGW5.out HGr.out)
        obtain ⟨qd, hqd, hDd⟩ := Ds_get hds hd0
        obtain ⟨pp, np, cp, prow, pc, nc, cc, qb, rfl, hR, hEb, hnp, hga, hPs, hpa⟩ := hDd
        obtain ⟨o9, p9, a9, b9, s9, y9, z9, z9', n9, c9, n9', c9', rfl⟩ := hEb.form
        have hnc : nc = 0 := by
          obtain ⟨pc', cc', crow, hq1, -⟩ := hR
          injection hq1 with _ hq1; injection hq1 with _ hq1; injection hq1 with hq1 _; injection hq1 with _ hq3 _
          rw [hq3, ← hde]; rfl
        subst hnc
        simp only [List.cons_append, List.nil_append] at hqd
        obtain ⟨gd, offd, rfl, hgld, hcd⟩ := hgd.resolve_left (fun e => by rw [e] at hqd; simp at hqd)
        have hcd := hcd j _ hqd
        have e0 := hcd 0 _ rfl
        have e1 := hcd 1 _ rfl
        have e2 := hcd 2 _ rfl
        have e3 := hcd 3 _ rfl
        have e4 := hcd 4 _ rfl
        have e5 := hcd 5 _ rfl
        have e6 := hcd 6 _ rfl
        have e7 := hcd 7 _ rfl
        have e8 := hcd 8 _ rfl
        have e9 := hcd 9 _ rfl
        have e10 := hcd 10 _ rfl
        have e11 := hcd 11 _ rfl
        have e12 := hcd 12 _ rfl
        have e13 := hcd 13 _ rfl
        have e14 := hcd 14 _ rfl
        rw [Nat.add_zero] at e0
        obtain ⟨yn, hyn⟩ : ∃ y : ByteArray, (⟨d.res.nm.toArray⟩ : ByteArray) = y := ⟨_, rfl⟩
        unfold strV at e1
        rw [hyn] at e1
        have HNC : Hid (∀ f ∈ d.ps, f.cl = []) := Lib.hid (fun f hf => by
          rw [← hde] at hf
          obtain ⟨f', -, rfl⟩ := List.mem_map.1 (show f ∈ d'.ps.map eraF from hf)
          rfl)
        have HKP := Lib.hid (fun (W : World) (hg : wr.grownBy W none) => (show GAt 5 W pp prow ∧ PsAt FB W d.ps prow from ⟨gat_sameG (S := fun _ => False) (Ps_len hPs) hga hpa (Fr2.none hg) (fun _ _ h => h), Ps_same (S := fun _ => False) (Fr2.none hg) (fun _ _ h => h) hPs⟩))
        have hnpb : np ≤ 10000 := by rw [hnp]; exact (HPE.out.defs d (List.mem_of_getElem? hd0)).few
        have HNP := Lib.hid hnp
        have i1 : (0 : Int) ≤ (j : Int) := by omega
        have i2 : (j : Int) < (m : Int) := by omega
        have i3 : decide (j < m) = true := decide_eq_true hlj
        have i4 : decide ((j : Int) < (m : Int)) = true := decide_eq_true i2
        clear hd0 hqd hcd hyn hgd hds hR hEb hga hPs hpa hde hnp
        go_wp2_with fail
        obtain ⟨WX, b9x, hWX, e9x, hB9, hgX⟩ := box0 wr (.cells #[.bool d.pub, .string yn, .slice pp np cp, .int .i64 (d.res.base : Int), .slice pc 0 cc, .int .i64 o9, .string a9, .string b9, .bool s9, .slice z9 n9 c9, .bool y9, .slice z9' n9' c9', .int .i64 p9, .int .i64 (d.res.ps : Int), .int .i64 d.res.bare] 62)
        have HB9 := Lib.hid hB9; have HGX := Lib.hid hgX
        try rw [← hWX]
        try rw [e9x]
        clear e9x hWX hB9 hgX e0 e1 e2 e3 e4 e5 e6 e7 e8 e9 e10 e11 e12 e13 e14 hgld
        go_loopg [44] np (fun gk2 iv wr2 => ∃ j2 : Nat, j2 ≤ np ∧ iv = .int .i64 (j2 : Int) ∧ np - j2 ≤ gk2 ∧ gk2 ≤ np ∧ Hid (WX.grownBy wr2 none))
        case atStart => exact ⟨0, Nat.zero_le _, rfl, by omega, Nat.le_refl _, Lib.hid (gb_refl _ _)⟩
        case round =>
          obtain ⟨j2, hj2, rfl, hgk2, hgm2, HGq⟩ := hrel
          by_cases hlm : j2 < np
          · obtain ⟨f, hf⟩ : ∃ f, d.ps[j2]? = some f := ⟨d.ps[j2]'(by rw [← HNP.out]; exact hlm), List.getElem?_eq_getElem _⟩
            obtain ⟨z, zc, g, off, cr, rfl, hgl, -, -, -, c0, c1, c2, c3, c4⟩ := parx_cells (HKP.out _ (gb_trans HGX.out HGq.out)).1 (HKP.out _ (gb_trans HGX.out HGq.out)).2 hf
            rw [HNC.out f (List.mem_of_getElem? hf)] at c2
            change _ = some (Value.slice z 0 zc) at c2
            obtain ⟨yf, hyf⟩ : ∃ y : ByteArray, (⟨f.nm.toArray⟩ : ByteArray) = y := ⟨_, rfl⟩
            rw [hyf] at c0
            have i1 : (0 : Int) ≤ (j2 : Int) := by omega
            have i2 : (j2 : Int) < (np : Int) := by omega
            have i3 : decide (j2 < np) = true := decide_eq_true hlm
            have i4 : decide ((j2 : Int) < (np : Int)) = true := decide_eq_true i2
            have hw9 : IntKind.i64.wrap ((j2 : Int) + 1) = ((j2 + 1 : Nat) : Int) := by rw [IntWalk.i64_in _ (by omega)]; omega
            clear hf hyf
            go_wp2_with fail
            go_roundg (np - (j2 + 1))
            case measure => omega
            case rel => exact ⟨j2 + 1, by omega, by first | rfl | go_num, Nat.le_refl _, by omega, Lib.hid (gb_alloc HGq.out _)⟩
          · obtain rfl : j2 = np := by omega
            obtain ⟨r0, r1, r2, r3, r4, r5, r6, r7, r8, r9, r10, r11, r12, r13, r14, r15⟩ := cells15c (bx HGq.out HB9.out)
            have hb9 := hlt (bx HGq.out HB9.out)
            have HGE := Lib.hid (gb_trans HGr.out (gb_trans HGX.out HGq.out))
            have hw9 : IntKind.i64.wrap ((j : Int) + 1) = ((j + 1 : Nat) : Int) := by rw [IntWalk.i64_in _ (by omega)]; omega
            go_wp2_with fail
            go_roundg (m - (j + 1))
            case measure => omega
            case rel => exact ⟨j + 1, by omega, by first | rfl | go_num, Nat.le_refl _, by omega, HGE⟩
      · obtain rfl : j = m := by omega
        have HG7 := Lib.hid (gb_trans HG6.out HGr.out)
        have HB5r := Lib.hid (bx HGr.out HB55.out); have HB7r := Lib.hid (bx HGr.out HB7.out)
        have HQP := Lib.hid (HQ4.out.kept (gb_trans HGW5.out HGr.out))
        have HQE := Lib.hid (HQ2.out.kept (gb_trans HGW5.out HGr.out))
        obtain ⟨a0, a1, a2⟩ := cells2 HB5r.out
        obtain ⟨d0, d1, d2⟩ := cells2 HB7r.out
        have hb5 : b5 < wr.heap.size := hlt HB5r.out
        have hb7 : b7 < wr.heap.size := hlt HB7r.out
        clear HQ4 HQ2 HB55 HB7 HGr HGW5 HKD
        go_wp2_with fail
        go_region_held3 (fun w' => w'.cell? ⟨b5, 0, none⟩ = some (.slice pi ni ci) ∧ w'.cell? ⟨b5, 1, none⟩ = some (.slice pd j cd) ∧ w'.cell? ⟨b7, 0, none⟩ = some (.slice pi2 ni2 ci2) ∧ w'.cell? ⟨b7, 1, none⟩ = some (.slice pd2 j cd2))
          (first | with_reducible exact ⟨a0, a1, d0, d1⟩ | go_keep)
          (first
            | (go_at_call 18; have HGA := HG9; refine (Same_c _ _ P P _ _ _ (HQP.out.kept (gb_trans HG9.out (by repeat (first | with_reducible exact gb_refl _ _ | with_reducible refine gb_drew ?_)))) (HQP.out.kept (gb_trans HG9.out (by repeat (first | with_reducible exact gb_refl _ _ | with_reducible refine gb_drew ?_)))) HPB.out HPB.out rfl).mono ?_; rintro e w10 ⟨rfl, hg10⟩; have HG10 := Lib.hid (gb_trans HG9.out (gb_trans (show w9.grownBy _ none from (by repeat (first | with_reducible exact gb_refl _ _ | with_reducible refine gb_drew ?_))) hg10)); obtain ⟨a0, a1, a2⟩ := cells2 (bx HG10.out HB5r.out); obtain ⟨d0, d1, d2⟩ := cells2 (bx HG10.out HB7r.out); have hb5 : b5 < w10.heap.size := hlt (bx HG10.out HB5r.out); have hb7 : b7 < w10.heap.size := hlt (bx HG10.out HB7r.out); clear hg10)
            | (go_at_call 18; refine (Same_c _ _ (eraP P) (eraP P) _ _ _ (HQE.out.kept (gb_trans HG8.out (by repeat (first | with_reducible exact gb_refl _ _ | with_reducible refine gb_drew ?_)))) (HQ8.out.kept (by repeat (first | with_reducible exact gb_refl _ _ | with_reducible refine gb_drew ?_))) HPE.out HPE.out rfl).mono ?_; rintro e w9 ⟨rfl, hg9⟩; have HG9 := Lib.hid (gb_trans HG8.out (gb_trans (show w8.grownBy _ none from (by repeat (first | with_reducible exact gb_refl _ _ | with_reducible refine gb_drew ?_))) hg9)); obtain ⟨a0, a1, a2⟩ := cells2 (bx HG9.out HB5r.out); obtain ⟨d0, d1, d2⟩ := cells2 (bx HG9.out HB7r.out); have hb5 : b5 < w9.heap.size := hlt (bx HG9.out HB5r.out); have hb7 : b7 < w9.heap.size := hlt (bx HG9.out HB7r.out); clear hg9)
            | (go_at_call 12; refine (HER2.out _ _ _ (HQE.out.kept (by repeat (first | with_reducible exact gb_refl _ _ | with_reducible refine gb_drew ?_)))).mono ?_; rintro e w8 ⟨hg8, FC, q8, rfl, hq8⟩; have HQ8 := Lib.hid hq8; obtain ⟨p81, n81, c81, p82, c82, -, rfl, -, -, -⟩ := pr_form hq8; have HG8 := Lib.hid (gb_trans (show wr.grownBy _ none from (by repeat (first | with_reducible exact gb_refl _ _ | with_reducible refine gb_drew ?_))) hg8); obtain ⟨a0, a1, a2⟩ := cells2 (bx HG8.out HB5r.out); obtain ⟨d0, d1, d2⟩ := cells2 (bx HG8.out HB7r.out); have hb5 : b5 < w8.heap.size := hlt (bx HG8.out HB5r.out); have hb7 : b7 < w8.heap.size := hlt (bx HG8.out HB7r.out); clear hg8 hq8))
        all_goals
          go_wp2_with fail
          go_ret
          exact ⟨rfl, gb_trans HG7.out HG10.out⟩
  · rw [if_pos hok] at he
    subst he
    unfold badV
    obtain ⟨E, hE⟩ : ∃ E, (ansQ l 100 false).2.1 = E := ⟨_, rfl⟩
    obtain ⟨P, hP⟩ : ∃ P, (ansQ l 100 false).2.2 = P := ⟨_, rfl⟩
    rw [hE] at hok
    rw [hE, hP]
    have f1 : ((E : Int) != 0) = true := bne_iff_ne.2 (by omega)
    have f1' : (E != 0) = true := bne_iff_ne.2 hok
    clear hE hP hok HLL HYL HYZ
    go_wp2_with fail
    go_ret
    exact ⟨rfl, by repeat (first | with_reducible exact HG1.out | with_reducible refine gb_drewN ?_ _ | with_reducible refine gb_drew ?_ | with_reducible refine gb_alloc ?_ _)⟩
end Go.Proofs.YtoahgeleenpnjaaGreatDoor
