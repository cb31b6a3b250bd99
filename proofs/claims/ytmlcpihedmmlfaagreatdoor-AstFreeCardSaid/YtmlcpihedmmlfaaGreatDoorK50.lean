/- The law's anchor: the document's example of layer 8. -/
import Derived.Test.YtmlcpihedmmlfaaGreatDoorK49
import Derived.Test.YtmlcpihedmmlfaaGreatDoorK22
import Derived.Test.YtmlcpihedmmlfaaGreatDoorK24
import Derived.Test.YtmlcpihedmmlfaaGreatDoorK48
import Derived.Test.YtmlcpihedmmlfaaGreatDoorK46
set_option linter.unusedVariables false
set_option linter.unusedSimpArgs false
namespace Go.Proofs.YtmlcpihedmmlfaaGreatDoor
open Go.RowKit

def exF8 : List UInt8 := [40, 120, 41, 43, 49]
def exX8 : Ex := .mk 7 [] [] [] false [.mk 3 [120] [] [] false [] 1, .mk 1 [] [] [49] false [] 4] 3
theorem exF8_ok : (ansQ exF8 9 true).2.1 = 0 := by kernel_rfl
theorem exF8_form : formE exF8 9 = exX8 := by kernel_rfl
theorem exX8_dump : dmpE exX8 = [91, 55, 32, 91, 51, 32, 120, 93, 32, 91, 49, 32, 49, 93, 93] := by kernel_rfl
theorem exX8_size : sizE exX8 = 3 := by kernel_rfl
theorem exX8_cnt : cntE exX8 ≤ 1000000 := by decide +kernel
theorem exX8_small : allS exX8 := by
  simp [exX8, allS, allSs, smallE]

set_option maxRecDepth 100000 in
set_option maxHeartbeats 16000000 in
theorem anchor8_c (w : World) (hla : LaidE w) (hls : LaidS w) : Calls Tryz.prog 7 #[] w (ValPost (.bool true) w) := by
  have HP1 := Lib.hid (Formula_p ⟨#[40, 120, 41, 43, 49]⟩ 9 w (by decide) hla)
  have hok : (ansQ (⟨#[40, 120, 41, 43, 49]⟩ : ByteArray).data.toList 9 true).2.1 = 0 := exF8_ok
  have HLA := Lib.hid hla; have HLS := Lib.hid hls
  clear hla hls
  go_enter Tryz.func7, Tryz.ntmps7
  go_wp2_with fail
  refine HP1.out.mono ?_
  rintro e w1 ⟨hg1, he⟩
  rw [if_neg (by rw [hok]; decide)] at he
  obtain ⟨pt, ct, pn, cn, K, rfl, hta, hct, hna, -, -, -, hN⟩ := he
  have HFO := Lib.hid (fun W h1 h2 h3 h4 => FormulaOf_c ⟨#[40, 120, 41, 43, 49]⟩ 9 (by decide) hok pt pn ct cn K W h1 h2 h3 h4 hN)
  have hx8 : formE (⟨#[40, 120, 41, 43, 49]⟩ : ByteArray).data.toList 9 = exX8 := exF8_form
  rw [hx8] at HFO
  have HTA := Lib.hid hta; have HNA := Lib.hid hna; have HG1 := Lib.hid hg1
  obtain ⟨m, hm⟩ : ∃ m, (allE (⟨#[40, 120, 41, 43, 49]⟩ : ByteArray).data.toList).1.length = m := ⟨_, rfl⟩
  obtain ⟨M, hM⟩ : ∃ M, (nodesQ (⟨#[40, 120, 41, 43, 49]⟩ : ByteArray).data.toList 9 true).length = M := ⟨_, rfl⟩
  rw [hm, hM] at HFO ⊢
  obtain ⟨W, b0, b1, hW, e0, e1, hB0, hB1, hgW, h01⟩ := two w1 (.cells #[.slice pt m ct, .slice pn M cn] 26) (.cells #[.int .i64 0, .int .i64 0] 29)
  have HB0 := Lib.hid hB0; have HGW := Lib.hid hgW
  clear hm hM hN hct hta hna hg1 hok hx8 HP1 hB0 hB1 hgW
  go_wp2_with fail
  try rw [← hW]
  try rw [e1]
  try rw [e0]
  clear e0 e1 hW
  refine (HFO.out _ (HLA.out.kept (gb_trans HG1.out HGW.out)) (HLS.out.kept (gb_trans HG1.out HGW.out)) (HTA.out.kept HGW.out) (HNA.out.kept HGW.out)).mono ?_
  rintro e w2 ⟨hg2, q, rfl, hq⟩
  have HG2 := Lib.hid (gb_trans (gb_trans HG1.out HGW.out) hg2)
  obtain ⟨ax, bx8, s8, pw, nw, cw, pk, nk, ck, rfl⟩ : ∃ (a b : ByteArray) (s : Bool) (p : Option Addr) (n c : Nat) (p' : Option Addr) (n' c' : Nat), q = [.int .i64 7, .string a, .string b, .bool s, .slice p n c, .bool false, .slice p' n' c', .int .i64 3] := by
    unfold exX8 at hq
    simp only [EAt] at hq
    obtain ⟨s, pw, nw, cw, pk, ck, rows, rfl, -⟩ := hq
    exact ⟨_, _, _, _, _, _, _, _, _, rfl⟩
  have HDU := Lib.hid (fun W (h : w2.grownBy W none) => Dump_c2 _ exX8 _ W (hq.kept h) exX8_small exX8_cnt (by rw [exX8_dump]; decide))
  have HSI := Lib.hid (fun W (h : w2.grownBy W none) => Size_c _ exX8 _ W (hq.kept h) exX8_cnt (by rw [exX8_size]; decide))
  clear hg2 hq HFO HLA HLS HTA HNA HGW HB0 HG1
  go_wp2_with fail
  have hg0 := World.grownBy_alloc w2 (.cells #[.int .i64 7, .string ax, .string bx8, .bool s8, .slice pw nw cw, .bool false, .slice pk nk ck, .int .i64 3] 60) none
  have HB := Lib.hid (heap_alloc_new w2 (.cells #[.int .i64 7, .string ax, .string bx8, .bool s8, .slice pw nw cw, .bool false, .slice pk nk ck, .int .i64 3] 60))
  have HG0 := Lib.hid hg0
  clear hg0
  refine (HDU.out _ HG0.out).mono ?_
  rintro e w3 ⟨⟨y, rfl, hy⟩, hg3⟩
  have e1 : (y.toList == [91, 55, 32, 91, 51, 32, 120, 93, 32, 91, 49, 32, 49, 93, 93]) = true := by rw [toList_data, hy, exX8_dump]; rfl
  have HB3 := Lib.hid (bx hg3 HB.out)
  have HG3 := Lib.hid (gb_trans HG0.out hg3)
  obtain ⟨c0, c1, c2, c3, c4, c5, c6, c7, c8⟩ := cells8x HB3.out
  clear hg3 hy HDU HB
  go_wp2_with fail
  refine (HSI.out _ HG3.out).mono ?_
  rintro e w4 ⟨rfl, hg4⟩
  rw [exX8_size]
  have HG4 := Lib.hid (gb_trans HG2.out (gb_trans HG3.out hg4))
  clear hg4 HSI
  go_wp2_with fail
  go_ret
  exact ⟨rfl, HG4.out⟩
end Go.Proofs.YtmlcpihedmmlfaaGreatDoor
namespace Go.Proofs.YtmlcpihedmmlfaaGreatDoor
open Go.RowKit

/-- The text that the law asks about. -/
def txtF (s : ByteArray) : ByteArray := ⟨#[102, 117, 110, 32, 102, 40, 41, 58, 105, 110, 116, 61]⟩ ++ s ++ ⟨#[59]⟩
theorem txtF_list (s : ByteArray) : (txtF s).data.toList = headF ++ (s.data.toList ++ [59]) := by
  unfold txtF headF
  simp
theorem def_cells {F : Nat → Prop} {w : World} {pd : Option Addr} {rows : List (List Value)} {ds : List Dx} (hg : GAt 15 w pd rows) (hls : DsAt F w ds rows) {d : Dx} (hk : ds[0]? = some d) :
    ∃ (o9 p9 : Int) (a9 b9 : ByteArray) (s9 y9 : Bool) (z9 z9' : Option Addr) (n9 c9 n9' c9' : Nat) (g off : Nat), pd = some ⟨g, off, none⟩ ∧ g < w.heap.size ∧ EAt F w d.body [.int .i64 o9, .string a9, .string b9, .bool s9, .slice z9 n9 c9, .bool y9, .slice z9' n9' c9', .int .i64 p9] ∧
      w.cell? ⟨g, off + 5, none⟩ = some (.int .i64 o9) ∧ w.cell? ⟨g, off + 5 + 1, none⟩ = some (.string a9) ∧ w.cell? ⟨g, off + 5 + 2, none⟩ = some (.string b9) ∧ w.cell? ⟨g, off + 5 + 3, none⟩ = some (.bool s9) ∧ w.cell? ⟨g, off + 5 + 4, none⟩ = some (.slice z9 n9 c9) ∧ w.cell? ⟨g, off + 5 + 5, none⟩ = some (.bool y9) ∧ w.cell? ⟨g, off + 5 + 6, none⟩ = some (.slice z9' n9' c9') ∧ w.cell? ⟨g, off + 5 + 7, none⟩ = some (.int .i64 p9) := by
  obtain ⟨qx, hqx, hD⟩ := Ds_get hls hk
  obtain ⟨g, off, rfl, hgl, hc⟩ := hg.resolve_left (fun e => by rw [e] at hqx; simp at hqx)
  obtain ⟨pp, np, cp, prow, pc, nc, cc, qb, rfl, h2, h3, -⟩ := hD
  obtain ⟨o9, p9, a9, b9, s9, y9, z9, z9', n9, c9, n9', c9', rfl⟩ := h3.form
  have hc := hc 0 _ hqx
  simp only [Nat.zero_mul, Nat.add_zero] at hc
  exact ⟨o9, p9, a9, b9, s9, y9, z9, z9', n9, c9, n9', c9', g, off, rfl, hgl, h3, hc 5 _ rfl, hc 6 _ rfl, hc 7 _ rfl, hc 8 _ rfl, hc 9 _ rfl, hc 10 _ rfl, hc 11 _ rfl, hc 12 _ rfl⟩

set_option maxRecDepth 100000 in
set_option maxHeartbeats 16000000 in
theorem free8_c (s : ByteArray) (w : World) (hla : LaidE w) (hls : LaidS w) :
    Calls Tryz.prog 5 #[.string s] w (ValPost (.bool true) w) := by
  have HAN := Lib.hid (anchor8_c w hla hls)
  have HLA := Lib.hid hla; have HLS := Lib.hid hls
  by_cases hbig : 600 < s.size
  · have d1 : decide (600 < s.size) = true := decide_eq_true hbig
    have d1' : decide ((600 : Int) < (s.size : Int)) = true := decide_eq_true (by omega)
    clear hbig hla hls
    go_enter Tryz.func5, Tryz.ntmps5
    go_wp2_with fail
    refine HAN.out.mono ?_
    rintro e w0 ⟨rfl, hg0⟩
    have HG0 := Lib.hid hg0
    clear hg0
    go_wp2_with fail
    go_ret
    exact ⟨rfl, HG0.out⟩
  have d1 : decide (600 < s.size) = false := decide_eq_false hbig
  have d1' : decide ((600 : Int) < (s.size : Int)) = false := decide_eq_false (by omega)
  have hsl := list_len s
  have hyl := txtF_list s
  obtain ⟨r, hr⟩ : ∃ r, s.data.toList ++ [59] = r := ⟨_, rfl⟩
  have hrl : r.length ≤ 601 := by rw [← hr, List.length_append]; simp; omega
  rw [hr] at hyl
  have hys : (txtF s).size = 12 + r.length := by rw [← list_len, hyl]; simp [headF]; omega
  obtain ⟨y, hy⟩ : ∃ y, txtF s = y := ⟨_, rfl⟩
  have HYS : Hid (txtF s = y) := Lib.hid hy
  rw [hy] at hyl hys
  have HP := Lib.hid (fun W h => Parse_p y 100 W (by omega) h)
  obtain ⟨l, hl⟩ : ∃ l, headF ++ r = l := ⟨_, rfl⟩
  rw [hl] at hyl
  rw [hyl] at HP
  have HLL : Hid (l.length ≤ 613) := Lib.hid (by rw [← hl]; simp [headF]; omega)
  have HFD : Hid (∀ (h : ReadF l 100 false) (hN : (nodesQ l 100 false).length ≤ 2 * (allE l).1.length), ∃ d, (progE l 100).defs[0]? = some d ∧ letE d.body ∧ frQ d.body ∧ cntE d.body ≤ 1000000 ∧ (progE l 100).defs.length ≤ 1000000) := Lib.hid (by rw [← hl]; exact fun h hN => first_def (by omega) h hN)
  have HYL := Lib.hid hyl
  have HYZ : Hid (y.size ≤ 25000) := Lib.hid (by omega)
  have HK1 : Hid (¬ 9223372036854775807 < 12 + s.size ∧ ¬ 9223372036854775807 < 12 + s.size + 1) := Lib.hid (by omega)
  clear hbig hla hls hsl hys hrl hr hl hy hyl
  go_enter Tryz.func5, Tryz.ntmps5
  go_wp2_with fail
  refine HAN.out.mono ?_
  rintro e w0 ⟨rfl, hg0⟩
  have HG0 := Lib.hid hg0
  clear hg0 HAN
  have k1 := HK1.out.1
  have k2 := HK1.out.2
  go_wp2_with fail
  clear k1 k2 HK1
  have hY : ((⟨#[102, 117, 110, 32, 102, 40, 41, 58, 105, 110, 116, 61]⟩ : ByteArray) ++ s ++ ⟨#[59]⟩ : ByteArray) = y := HYS.out
  rw [hY]
  obtain ⟨y0, hy0⟩ : ∃ y0, ((⟨#[102, 117, 110, 32, 102, 40, 41, 58, 105, 110, 116, 61]⟩ : ByteArray) ++ s : ByteArray) = y0 := ⟨_, rfl⟩
  try rw [hy0]
  clear hY hy0 HYS
  refine (HP.out _ (HLA.out.kept HG0.out)).mono ?_
  rintro e w1 ⟨hg1, he⟩
  have HG1 := Lib.hid (gb_trans HG0.out hg1)
  clear HP hg1
  by_cases hok : (ansQ l 100 false).2.1 = 0
  · have hR := read_f (l := l) (by have := HLL.out; omega) hok
    have hlen := len_all hR.lex
    rw [if_neg (by rw [hok]; decide)] at he
    obtain ⟨pt, ct, pn, cn, K, rfl, hta, -, hna, -, -, -, hN2⟩ := he
    obtain ⟨d, hd0, hle, hfq, hcn, hdl⟩ := HFD.out hR hN2
    have hgd := own_tree (l := l) (D := 100) (f := false) (by have := HLL.out; omega) hok
    have hOF := Of_any ((allE l).1.map toI) (nodesQ l 100 false) K y HYZ.out (by rw [wholeI_toI, whole_all hR.lex, HYL.out]) (by rw [List.length_map]; have := HLL.out; omega) (by have := HLL.out; omega) (kids_few (by have := HLL.out; omega)) pt pn ct cn
    rw [List.length_map, HYL.out] at hOF
    have hpe : progE l 200 = progE l 100 := by
      unfold progE
      rw [show (200 : Int).toNat = 200 from rfl, hR.same]
    have HOF : Hid (∀ W, LaidE W → LaidS W → ToksAt W pt ((allE l).1.map toI) → NodesAt W pn (nodesQ l 100 false) K → Calls Tryz.prog 9 #[.agg #[.slice pt (allE l).1.length ct, .slice pn (nodesQ l 100 false).length cn]] W (fun e w' => W.grownBy w' none ∧ ∃ q, e = .returned (.tuple #[.agg q.toArray, .int .i64 0]) ∧ PrAt (fun k => W.heap.size ≤ k) w' (progE l 100) q)) := Lib.hid (fun W h1 h2 h3 h4 => (hOF W h1 h2 h3 h4).mono (by
      rintro e w' ⟨hg, he⟩
      rcases he with ⟨-, q, hq0, hq⟩ | ⟨hb, -⟩
      · exact ⟨hg, q, hq0, hpe ▸ hq⟩
      · exact absurd hgd hb))
    have HTM := Lib.hid (toks_map hta)
    have HNA := Lib.hid hna
    have HLF := Lib.hid (fun (F : Nat → Prop) (q : List Value) (W : World) (h : EAt F W d.body q) => lfree_c 1000000 d.body hcn (Nat.le_refl _) F q W h hle hfq)
    obtain ⟨P, hP⟩ : ∃ P, progE l 100 = P := ⟨_, rfl⟩
    rw [hP] at HOF hd0 hdl
    have HD0 := Lib.hid hd0
    obtain ⟨m, hm⟩ : ∃ m, (allE l).1.length = m := ⟨_, rfl⟩
    obtain ⟨M, hM⟩ : ∃ M, (nodesQ l 100 false).length = M := ⟨_, rfl⟩
    rw [hm, hM] at HOF ⊢
    clear hm hM hta hna hR hlen hN2 hle hfq hcn hgd hOF hpe hP hok HFD HLL HYL HYZ hd0
    go_wp2_with fail
    obtain ⟨W, b0, b1, hW, e0, e1, hB0, hB1, hgW, h01⟩ := two w1 (.cells #[.slice pt m ct, .slice pn M cn] 26) (.cells #[.int .i64 0, .int .i64 0] 29)
    have HB0 := Lib.hid hB0; have HB1 := Lib.hid hB1; have HGW := Lib.hid hgW
    have HG2 := Lib.hid (gb_trans HG1.out hgW)
    try rw [← hW]
    try rw [e1]
    try rw [e0]
    clear e0 e1 hW hB0 hB1 hgW
    refine (HOF.out _ (HLA.out.kept HG2.out) (HLS.out.kept HG2.out) (HTM.out.kept HGW.out) (HNA.out.kept HGW.out)).mono ?_
    rintro e w2 ⟨hg2, q, rfl, hq⟩
    obtain ⟨pi, ci, pd, cd, drow, rfl, -, hgr, hds, -, -⟩ := hq
    have HG3 := Lib.hid (gb_trans HG2.out hg2)
    obtain ⟨n, hn⟩ : ∃ n, P.defs.length = n := ⟨_, rfl⟩
    have hn1 : 0 < n := by rw [← hn]; exact (List.getElem?_eq_some_iff.1 HD0.out).1
    rw [hn] at hdl ⊢
    obtain ⟨ni, hni⟩ : ∃ ni, P.imps.length = ni := ⟨_, rfl⟩
    rw [hni]
    obtain ⟨o9, p9, a9, b9, s9, y9, z9, z9', n9, c9, n9', c9', g, off, rfl, hgl, hE, c0, c1, c2, c3, c4, c5, c6, c7⟩ := def_cells hgr hds HD0.out
    have HGR := Lib.hid hgr; have HDS := Lib.hid hds
    have HE := Lib.hid hE
    clear hg2 hgr hds HOF hn hni hE
    have q1 : decide (n < 1) = false := decide_eq_false (by omega)
    have q2 : decide ((n : Int) < 1) = false := decide_eq_false (by omega)
    have i1 : (0 : Int) < (n : Int) := by omega
    have i2 : decide (0 < n) = true := decide_eq_true hn1
    have i3 : decide ((0 : Int) < (n : Int)) = true := decide_eq_true i1
    go_wp2_with fail
    refine (HLF.out _ _ _ (HE.out.kept (by repeat (first | with_reducible exact gb_refl _ _ | with_reducible refine gb_drewN ?_ _ | with_reducible refine gb_drew ?_ | with_reducible refine gb_alloc ?_ _)))).mono ?_
    rintro e w3 ⟨rfl, hg3⟩
    have HG4 := Lib.hid (gb_trans HG3.out (gb_trans (show w2.grownBy _ none from (by repeat (first | with_reducible exact gb_refl _ _ | with_reducible refine gb_drewN ?_ _ | with_reducible refine gb_drew ?_ | with_reducible refine gb_alloc ?_ _))) hg3))
    clear hg3
    go_wp2_with fail
    go_ret
    exact ⟨rfl, HG4.out⟩
  · rw [if_pos hok] at he
    subst he
    unfold badV
    obtain ⟨E, hE⟩ : ∃ E, (ansQ l 100 false).2.1 = E := ⟨_, rfl⟩
    obtain ⟨P, hP⟩ : ∃ P, (ansQ l 100 false).2.2 = P := ⟨_, rfl⟩
    rw [hE] at hok
    rw [hE, hP]
    have f1 : ((E : Int) != 0) = true := bne_iff_ne.2 (by omega)
    have f1' : (E != 0) = true := bne_iff_ne.2 hok
    clear hE hP hok HFD HLL HYL HYZ
    go_wp2_with fail
    go_ret
    exact ⟨rfl, by repeat (first | with_reducible exact HG1.out | with_reducible refine gb_drewN ?_ _ | with_reducible refine gb_drew ?_ | with_reducible refine gb_alloc ?_ _)⟩
end Go.Proofs.YtmlcpihedmmlfaaGreatDoor
