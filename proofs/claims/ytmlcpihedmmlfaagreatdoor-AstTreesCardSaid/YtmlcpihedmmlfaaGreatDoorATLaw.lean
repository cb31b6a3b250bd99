/- The law on trees that no parser makes, walked. -/
import Derived.Deep.RegionHeld3
import Derived.Test.YtmlcpihedmmlfaaGreatDoorM46
import Derived.Test.YtmlcpihedmmlfaaGreatDoorAAnc8
set_option linter.unusedVariables false
set_option linter.unusedSimpArgs false
namespace Go.Proofs.YtmlcpihedmmlfaaGreatDoor
open Go.RowKit

theorem good_two {T : List TokI} {N : List Nd} {l : List UInt8} (hl : l.length ≤ 25000) (h1 : TGood T N l false) (h2 : TGood T N l true) : False := by
  obtain ⟨k1, e1⟩ := (tree_facts (f := false) (D := 200) (by omega) h1.1).root
  obtain ⟨k2, e2⟩ := (tree_facts (f := true) (D := 200) (by omega) h2.1).root
  rw [← h1.2.2] at e1
  rw [← h2.2.2] at e2
  rw [e1] at e2
  injection e2 with e2
  injection e2 with e2
  simp [kindR] at e2
/-- What is known of a small tree. -/
structure SmT (T : List TokI) (N : List Nd) (l : List UInt8) : Prop where
  t : T.length ≤ 100
  n : N.length ≤ 200
  l : l.length ≤ 20000
  k : ∀ (i : Nat) (x : Nd), N[i]? = some x → x.kids.length ≤ 150000
theorem smt_of {T : List TokI} {N : List Nd} (h : smallT T N) : SmT T N (wholeI T) := by
  obtain ⟨h1, h2, h3, h4⟩ := h
  have h5 := wholeI_len (T := T) (b := 100) h3
  exact ⟨h1, h2, by omega, fun i x hx => by have := h4 x (List.mem_of_getElem? hx); omega⟩
theorem dump_good {T : List TokI} {N : List Nd} {l : List UInt8} (hl : l.length ≤ 25000) (hg : TGood T N l false) (hN2 : (nodesQ l 200 false).length ≤ 2 * (allE l).1.length) {w : World} {pt pn : Option Addr} {ct cn : Nat} {K : Kf} (ht : ToksAt w pt T) (hn : NodesAt w pn N K) :
    Calls Tryz.prog 23 #[.agg #[.slice pt T.length ct, .slice pn N.length cn], .int .i64 ((N.length - 1 : Nat) : Int)] w (DumpOk (ansQ l 200 false).1 w) := by
  obtain ⟨h1, h2, h3⟩ := hg
  subst h2 h3
  rw [List.length_map]
  exact dump_tree hl h1 (toks_back ht) hn hN2
theorem root_good {T : List TokI} {N : List Nd} {l : List UInt8} (hl : l.length ≤ 25000) (hg : TGood T N l false) (hN2 : (nodesQ l 200 false).length ≤ 2 * (allE l).1.length) (w : World) (pt pn : Option Addr) (ct cn : Nat) :
    Calls Tryz.prog 24 #[.agg #[.slice pt T.length ct, .slice pn N.length cn]] w (ValPost (.int .i64 ((N.length - 1 : Nat) : Int)) w) := by
  obtain ⟨h1, h2, h3⟩ := hg
  subst h2 h3
  rw [List.length_map]
  exact root_tree hl h1 hN2 w pt pn ct cn

set_option maxRecDepth 100000 in
set_option maxHeartbeats 16000000 in
theorem trees8_c (T : List TokI) (N : List Nd) (K : Kf) (pt pn : Option Addr) (ct cn : Nat) (w : World) (hTm : T.length ≤ maxLen) (hNm : N.length ≤ maxLen) (ht : ToksAt w pt T) (hw : NodesAt w pn N K) (hla : LaidE w) (hls : LaidS w) :
    Calls Tryz.prog 4 #[.agg #[.slice pt T.length ct, .slice pn N.length cn]] w (ValPost (.bool true) w) := by
  have HS := Lib.hid (fun W h1 h2 => Small_c T N K pt pn ct cn W hTm hNm h1 h2)
  have HT := Lib.hid ht; have HW := Lib.hid hw; have HLA := Lib.hid hla; have HLS := Lib.hid hls
  have HSM := Lib.hid (fun (h : smallT T N) => smt_of h)
  obtain ⟨l, hl⟩ : ∃ l, wholeI T = l := ⟨_, rfl⟩
  rw [hl] at HSM
  obtain ⟨s, hs⟩ : ∃ s : ByteArray, s.data.toList = l := ⟨⟨l.toArray⟩, rfl⟩
  have HOF := Lib.hid (fun (h : smallT T N) W h1 h2 h3 h4 => Of_any T N K s (by have := (HSM.out h).l; rw [← list_len, hs]; omega) (by rw [hl, hs]) (by have := (HSM.out h).t; omega) (by have := (HSM.out h).n; omega) (HSM.out h).k pt pn ct cn W h1 h2 h3 h4)
  have HFO := Lib.hid (fun (h : smallT T N) W h1 h2 h3 h4 => FormulaOf_any T N K s (by have := (HSM.out h).l; rw [← list_len, hs]; omega) (by rw [hl, hs]) (by have := (HSM.out h).t; omega) (by have := (HSM.out h).n; omega) (HSM.out h).k pt pn ct cn W h1 h2 h3 h4)
  rw [hs] at HOF HFO
  have HSH := Lib.hid (fun (h : smallT T N) (W : World) h1 => ShowI_c T pt pn ct N.length cn W (by have := (HSM.out h).t; omega) (by have := (HSM.out h).l; rw [hl]; omega) h1)
  rw [hl] at HSH
  have HPP : Hid (∀ (h : smallT T N) (y : ByteArray) (W : World), y.data.toList = l → LaidE W → Calls Tryz.prog 8 #[.string y, .int .i64 200] W (RdPost l 200 false W)) := Lib.hid (fun h y W hy h1 => by
    have := Parse_p y 200 W (by have := (HSM.out h).l; rw [← list_len, hy]; omega) h1
    rw [hy] at this; exact this)
  have HDM := Lib.hid (fun (h : smallT T N) (hg : TGood T N l false) hN2 (W : World) h1 h2 => dump_good (by have := (HSM.out h).l; omega) hg hN2 (w := W) (pt := pt) (pn := pn) (ct := ct) (cn := cn) (K := K) h1 h2)
  have HRT := Lib.hid (fun (h : smallT T N) (hg : TGood T N l false) hN2 (W : World) => root_good (by have := (HSM.out h).l; omega) hg hN2 W pt pn ct cn)
  clear hl hs ht hw hla hls hTm hNm
  obtain ⟨m, hm⟩ : ∃ m, T.length = m := ⟨_, rfl⟩
  obtain ⟨M, hM⟩ : ∃ M, N.length = M := ⟨_, rfl⟩
  rw [hm, hM] at HS HOF HFO HSH HDM HRT ⊢
  clear hm hM
  go_enter Tryz.func4, Tryz.ntmps4
  go_wp2_with fail
  obtain ⟨W, b, hW, e0, hB, hgW⟩ := three0 w (.cells #[.slice pt m ct, .slice pn M cn] 26)
  have HB := Lib.hid hB; have HGW := Lib.hid hgW
  clear hB hgW
  try rw [← hW]
  try rw [e0]
  clear e0 hW
  refine (anchor8_c _ (HLA.out.kept HGW.out) (HLS.out.kept HGW.out)).mono ?_
  rintro e w1 ⟨rfl, hg⟩
  have HG1 := Lib.hid (gb_trans HGW.out hg)
  have HB1 := Lib.hid (bx hg HB.out)
  obtain ⟨a0, a1, a2⟩ := cells2 HB1.out
  clear hg HB HGW
  go_wp2_with fail
  refine (HS.out w1 (HT.out.kept HG1.out) (HW.out.kept HG1.out)).mono ?_
  rintro e w2 ⟨hg, c, rfl, hc⟩
  have HC := Lib.hid hc
  have HG2 := Lib.hid (gb_trans HG1.out hg)
  have HB2 := Lib.hid (bx hg HB1.out)
  obtain ⟨a0, a1, a2⟩ := cells2 HB2.out
  clear hg HB1 HG1 hc HS
  cases c
  · go_wp2_with fail
    go_ret
    exact ⟨rfl, HG2.out⟩
  have HM2 := Lib.hid (HC.out.1 rfl)
  go_wp2_with fail
  refine (HOF.out HM2.out w2 (HLA.out.kept HG2.out) (HLS.out.kept HG2.out) (HT.out.kept HG2.out) (HW.out.kept HG2.out)).mono ?_
  rintro e w3 ⟨hg, he⟩
  have HG3 := Lib.hid (gb_trans HG2.out hg)
  have HB3 := Lib.hid (bx hg HB2.out)
  clear hg HB2 HG2 HOF a0 a1 a2
  rcases he with ⟨hgd, q, rfl, hq⟩ | ⟨hbd, rfl⟩
  · have HGD := Lib.hid hgd
    obtain ⟨pi, ni, ci, pd, nd, cd, rfl⟩ : ∃ (pi : Option Addr) (ni ci : Nat) (pd : Option Addr) (nd cd : Nat), q = [.slice pi ni ci, .slice pd nd cd] := by
      obtain ⟨pi, ci, pd, cd, drow, rfl, -⟩ := hq
      exact ⟨_, _, _, _, _, _, rfl⟩
    clear hgd hq
    obtain ⟨a0, a1, a2⟩ := cells2 HB3.out
    have hb3 : b < w3.heap.size := hlt HB3.out
    go_wp2_with fail
    have HGA := Lib.hid (World.grownBy_alloc w3 (.cells #[.slice pi ni ci, .slice pd nd cd] 35) none)
    have HGX := Lib.hid (gb_trans HG3.out HGA.out)
    refine (HFO.out HM2.out _ (HLA.out.kept HGX.out) (HLS.out.kept HGX.out) (HT.out.kept HGX.out) (HW.out.kept HGX.out)).mono ?_
    rintro e w4 ⟨hg, he⟩
    have HG4 := Lib.hid (gb_trans HGX.out hg)
    have HB4 := Lib.hid (bx (gb_trans HGA.out hg) HB3.out)
    clear hg HGX HGA HFO HB3 HG3 a0 a1 a2 hb3
    rcases he with ⟨hgd, -⟩ | ⟨-, rfl⟩
    · exact absurd hgd (fun h => good_two (by have := (HSM.out HM2.out).l; omega) HGD.out h)
    obtain ⟨a0, a1, a2⟩ := cells2 HB4.out
    have hb4 : b < w4.heap.size := hlt HB4.out
    go_wp2_with fail
    have HGA := Lib.hid (World.grownBy_alloc w4 (.cells #[.int .i64 0, .string ⟨#[]⟩, .string ⟨#[]⟩, .bool false, .slice none 0 0, .bool false, .slice none 0 0, .int .i64 0] 60) none)
    have HGX := Lib.hid (gb_trans HG4.out HGA.out)
    refine (HSH.out HM2.out _ (HT.out.kept HGX.out)).mono ?_
    rintro e w5 ⟨⟨y, rfl, hy⟩, hg⟩
    have HY := Lib.hid hy
    have HG5 := Lib.hid (gb_trans HGX.out hg)
    have HB5 := Lib.hid (bx (gb_trans HGA.out hg) HB4.out)
    clear hg HGX HGA HSH HB4 HG4 a0 a1 a2 hb4 hy
    go_wp2_with fail
    refine (HPP.out HM2.out y _ HY.out (HLA.out.kept HG5.out)).mono ?_
    rintro e w6 ⟨hg, he⟩
    rw [if_neg (by rw [HGD.out.1]; decide)] at he
    obtain ⟨pt', ct', pn', cn', K', rfl, hta, -, hna, -, -, -, hN2⟩ := he
    have HDM := Lib.hid (fun W h1 h2 => HDM.out HM2.out HGD.out hN2 W h1 h2)
    have HRT := Lib.hid (fun W => HRT.out HM2.out HGD.out hN2 W)
    have HDU := Lib.hid (fun (W : World) h1 h2 => dump_tree (l := l) (D := 200) (f := false) (by have := (HSM.out HM2.out).l; omega) HGD.out.1 (w := W) (pt := pt') (pn := pn') (ct := ct') (cn := cn') (K := K') h1 h2 hN2)
    have HRU := Lib.hid (fun (W : World) => root_tree (l := l) (D := 200) (f := false) (by have := (HSM.out HM2.out).l; omega) HGD.out.1 hN2 W pt' pn' ct' cn')
    have HTA := Lib.hid hta; have HNA := Lib.hid hna
    obtain ⟨m', hm'⟩ : ∃ m', (allE l).1.length = m' := ⟨_, rfl⟩
    obtain ⟨M', hM'⟩ : ∃ M', (nodesQ l 200 false).length = M' := ⟨_, rfl⟩
    rw [hm', hM'] at HDU HRU ⊢
    obtain ⟨R, hR⟩ : ∃ R, M - 1 = R := ⟨_, rfl⟩
    obtain ⟨R', hR'⟩ : ∃ R', M' - 1 = R' := ⟨_, rfl⟩
    rw [hR] at HDM HRT
    rw [hR'] at HDU HRU
    obtain ⟨D, hD⟩ : ∃ D, (ansQ l 200 false).1 = D := ⟨_, rfl⟩
    rw [hD] at HDM HDU
    have HG6 := Lib.hid (gb_trans HG5.out hg)
    have HB6 := Lib.hid (bx hg HB5.out)
    clear hg HPP HB5 HG5 hta hna hN2 hm' hM' hR hR' hD HY
    have hb6 : b < w6.heap.size := hlt HB6.out
    go_wp2_with fail
    obtain ⟨W7, b7, b8, hW7, e7, e8, hB7, hB8, hgW7, h78⟩ := two w6 (.cells #[.slice pt' m' ct', .slice pn' M' cn'] 26) (.cells #[.int .i64 0, .int .i64 0] 29)
    have HB7 := Lib.hid hB7; have HB8 := Lib.hid hB8; have HG7 := Lib.hid (gb_trans HG6.out hgW7); have HGW7 := Lib.hid hgW7
    have HBT := Lib.hid (bx hgW7 HB6.out)
    have HTA7 := Lib.hid (HTA.out.kept hgW7); have HNA7 := Lib.hid (HNA.out.kept hgW7)
    clear hB7 hB8 hgW7
    try rw [← hW7]
    try rw [e8]
    try rw [e7]
    clear e7 e8 hW7
    obtain ⟨a0, a1, a2⟩ := cells2 HBT.out
    have hb7 : b < W7.heap.size := hlt HBT.out
    go_cut [9, 10] (fun t9 t10 wx => Hid (t10 = .int .i64 0 ∧ W7.grownBy wx none ∧ ∃ y : ByteArray, t9 = .string y ∧ y.data.toList = D))
    case first =>
      go_region_held3 (fun w' => w'.cell? ⟨b, 0, none⟩ = some (.slice pt m ct) ∧ w'.cell? ⟨b, 1, none⟩ = some (.slice pn M cn))
        (first | with_reducible exact ⟨a0, a1⟩ | go_keep)
        (first
          | (go_at_call 24; refine (HRT.out _).mono ?_; rintro e w8 ⟨rfl, hg8⟩; have HG8 := Lib.hid (gb_trans (show W7.grownBy _ none from (by repeat (first | with_reducible exact gb_refl _ _ | with_reducible refine gb_drew ?_))) hg8); have a0 := HG8.out.cell a0 (by simp); have a1 := HG8.out.cell a1 (by simp); have hb7 := Nat.lt_of_lt_of_le hb7 HG8.out.size; clear hg8)
          | (go_at_call 23; refine (HDM.out _ (HT.out.kept (gb_trans HG7.out (gb_trans HG8.out (by repeat (first | with_reducible exact gb_refl _ _ | with_reducible refine gb_drew ?_))))) (HW.out.kept (gb_trans HG7.out (gb_trans HG8.out (by repeat (first | with_reducible exact gb_refl _ _ | with_reducible refine gb_drew ?_)))))).mono ?_; rintro e w9 ⟨hg9, y9, rfl, hy9⟩; have HY9 := Lib.hid hy9; have HG9 := Lib.hid (gb_trans HG8.out (gb_trans (show w8.grownBy _ none from (by repeat (first | with_reducible exact gb_refl _ _ | with_reducible refine gb_drew ?_))) hg9)); obtain ⟨a0, a1, a2⟩ := cells2 (bx HG9.out HBT.out); clear hg9 hy9))
      all_goals
        go_wp2_with fail
        go_meet
        exact Lib.hid ⟨rfl, HG9.out, _, rfl, HY9.out⟩
    case rest =>
      obtain ⟨rfl, hgc, y1, rfl, hy1⟩ := hcut.out
      have HY1 := Lib.hid hy1
      have HGC := Lib.hid hgc
      have HBU := Lib.hid (bx hgc HB7.out); have HBF := Lib.hid (bx hgc HB8.out)
      clear hcut hgc a0 a1 a2 hb7 hy1
      obtain ⟨a0, a1, a2⟩ := cells2 HBU.out
      have hb7 : b7 < wc.heap.size := hlt HBU.out
      go_wp2_with fail
      go_cut [11, 12] (fun t9 t10 wx => Hid (t10 = .int .i64 0 ∧ wc.grownBy wx none ∧ ∃ y : ByteArray, t9 = .string y ∧ y.data.toList = D))
      case first =>
        go_region_held3 (fun w' => w'.cell? ⟨b7, 0, none⟩ = some (.slice pt' m' ct') ∧ w'.cell? ⟨b7, 1, none⟩ = some (.slice pn' M' cn'))
          (first | with_reducible exact ⟨a0, a1⟩ | go_keep)
          (first
            | (go_at_call 24; refine (HRU.out _).mono ?_; rintro e w8 ⟨rfl, hg8⟩; have HG8 := Lib.hid (gb_trans (show wc.grownBy _ none from (by repeat (first | with_reducible exact gb_refl _ _ | with_reducible refine gb_drew ?_))) hg8); have a0 := HG8.out.cell a0 (by simp); have a1 := HG8.out.cell a1 (by simp); have hb7 := Nat.lt_of_lt_of_le hb7 HG8.out.size; clear hg8)
            | (go_at_call 23; refine (HDU.out _ (HTA7.out.kept (gb_trans HGC.out (gb_trans HG8.out (by repeat (first | with_reducible exact gb_refl _ _ | with_reducible refine gb_drew ?_))))) (HNA7.out.kept (gb_trans HGC.out (gb_trans HG8.out (by repeat (first | with_reducible exact gb_refl _ _ | with_reducible refine gb_drew ?_)))))).mono ?_; rintro e w9 ⟨hg9, y9, rfl, hy9⟩; have HY9 := Lib.hid hy9; have HG9 := Lib.hid (gb_trans HG8.out (gb_trans (show w8.grownBy _ none from (by repeat (first | with_reducible exact gb_refl _ _ | with_reducible refine gb_drew ?_))) hg9)); obtain ⟨a0, a1, a2⟩ := cells2 (bx HG9.out HBU.out); clear hg9 hy9))
        all_goals
          go_wp2_with fail
          go_meet
          exact Lib.hid ⟨rfl, HG9.out, _, rfl, HY9.out⟩
      case rest =>
        obtain ⟨rfl, hgc2, y2, rfl, hy2⟩ := hcut.out
        have hyy : y2 = y1 := ByteArray.ext (Array.toList_inj.1 (hy2.trans HY1.out.symm))
        subst hyy
        have HGC2 := Lib.hid hgc2
        obtain ⟨f0, f1, f2⟩ := cells2 (bx hgc2 HBF.out)
        have HGE := Lib.hid (gb_trans HG7.out (gb_trans HGC.out HGC2.out))
        clear hcut hgc2 a0 a1 a2 hb7 hy2 HY1
        go_wp2_with fail
        go_ret
        exact ⟨by first | rfl | simp, HGE.out⟩
  · clear hbd
    obtain ⟨a0, a1, a2⟩ := cells2 HB3.out
    have hb3 : b < w3.heap.size := hlt HB3.out
    go_wp2_with fail
    obtain ⟨W3, b3, hW3, e3, hBP, hgW3⟩ := three0 w3 (.cells #[.slice none 0 0, .slice none 0 0] 35)
    have HBP := Lib.hid hBP
    have HGX := Lib.hid (gb_trans HG3.out hgW3)
    clear hBP hgW3
    try rw [← hW3]
    try rw [e3]
    clear e3 hW3
    refine (HFO.out HM2.out _ (HLA.out.kept HGX.out) (HLS.out.kept HGX.out) (HT.out.kept HGX.out) (HW.out.kept HGX.out)).mono ?_
    rintro e w4 ⟨hg, he⟩
    have HG4 := Lib.hid (gb_trans HGX.out hg)
    obtain ⟨p0, p1, p2⟩ := cells2 (bx hg HBP.out)
    have hb4 : b3 < w4.heap.size := hlt (bx hg HBP.out)
    clear hg HGX HFO HB3 HG3 a0 a1 a2 hb3
    rcases he with ⟨-, q, rfl, hq⟩ | ⟨-, rfl⟩
    · obtain ⟨xo, xp, xa, xb, xs, xy, xq, xr, xn, xc, xm, xd, rfl⟩ := hq.form
      clear hq
      go_wp2_with fail
      go_ret
      exact ⟨by first | rfl | simp, by repeat (first | with_reducible exact HG4.out | with_reducible refine gb_drewN ?_ _ | with_reducible refine gb_drew ?_ | with_reducible refine gb_alloc ?_ _)⟩
    · go_wp2_with fail
      go_ret
      exact ⟨by first | rfl | simp, by repeat (first | with_reducible exact HG4.out | with_reducible refine gb_drewN ?_ _ | with_reducible refine gb_drew ?_ | with_reducible refine gb_alloc ?_ _)⟩
end Go.Proofs.YtmlcpihedmmlfaaGreatDoor
