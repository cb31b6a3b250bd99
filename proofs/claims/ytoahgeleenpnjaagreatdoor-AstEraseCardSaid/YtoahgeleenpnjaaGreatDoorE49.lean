/- FormulaOf, of the tree of a formula. -/
import Derived.Test.YtoahgeleenpnjaaGreatDoorE48
import Derived.Test.YtoahgeleenpnjaaGreatDoorE16
set_option linter.unusedVariables false
set_option linter.unusedSimpArgs false
namespace Go.Proofs.YtoahgeleenpnjaaGreatDoor
open Go.RowKit

theorem FormAny.good {T : List TokI} {N : List Nd} {l : List UInt8} {x : Ex} {w : World} {e : Ending} {w' : World} (h : FormAny T N l w e w') (hg : TGood T N l true) (hf : formE l 200 = x) : FormPost x w e w' := by
  unfold FormAny at h
  rw [hf] at h
  clear hf
  obtain ⟨hg', he⟩ := h
  rcases he with ⟨-, q, hq0, hq⟩ | ⟨hb, -⟩
  · exact ⟨hg', q, hq0, hq⟩
  · exact absurd hg hb
theorem FormulaOf_c (s : ByteArray) (D : Int) (hs : s.size ≤ 25000) (hok : (ansQ s.data.toList D true).2.1 = 0) (pt pn : Option Addr) (ct cn : Nat) (K : Kf) (w : World) (hla : LaidE w) (hls : LaidS w) (ht : TAt w pt (allE s.data.toList).1) (hn : NodesAt w pn (nodesQ s.data.toList D true) K) (hN : (nodesQ s.data.toList D true).length ≤ 2 * (allE s.data.toList).1.length) :
    Calls Tryz.prog 20 #[.agg #[.slice pt (allE s.data.toList).1.length ct, .slice pn (nodesQ s.data.toList D true).length cn]] w (FormPost (formE s.data.toList D) w) := by
  have hsl : s.data.toList.length = s.size := list_len s
  have hR := read_f (l := s.data.toList) (by omega) hok
  have hlen := len_all hR.lex
  have hg : TGood ((allE s.data.toList).1.map toI) (nodesQ s.data.toList D true) s.data.toList true := ⟨hR.ans, rfl, hR.nodes.symm⟩
  have hf : formE s.data.toList 200 = formE s.data.toList D := by
    unfold formE
    rw [show (200 : Int).toNat = 200 from rfl, hR.same]
  have h := FormulaOf_any ((allE s.data.toList).1.map toI) (nodesQ s.data.toList D true) K s hs (by rw [wholeI_toI, whole_all hR.lex]) (by rw [List.length_map]; omega) (by omega) (kids_few (by omega)) pt pn ct cn w hla hls (toks_map ht) hn
  rw [List.length_map] at h
  exact h.mono fun e w' he => FormAny.good he hg hf
/-- The same of a program: its own tree is the one that is made anew. -/
theorem own_tree {l : List UInt8} {D : Int} (hl : l.length ≤ 25000) {f : Bool} (hok : (ansQ l D f).2.1 = 0) : TGood ((allE l).1.map toI) (nodesQ l D f) l f := by
  have hR := read_f (l := l) (by omega) hok
  exact ⟨hR.ans, rfl, hR.nodes.symm⟩
end Go.Proofs.YtoahgeleenpnjaaGreatDoor
namespace Go.Proofs.YtoahgeleenpnjaaGreatDoor
open Go.RowKit

def exF8 : List UInt8 := [40, 120, 41, 43, 49]
def exX8 : Ex := .mk 7 [] [] [] false [.mk 3 [120] [] [] false [] 1, .mk 1 [] [] [49] false [] 4] 3
theorem exF8_ok : (ansQ exF8 9 true).2.1 = 0 := by kernel_rfl
theorem exF8_form : formE exF8 9 = exX8 := by kernel_rfl
theorem exX8_dump : dmpE exX8 = [91, 55, 32, 91, 51, 32, 120, 93, 32, 91, 49, 32, 49, 93, 93] := by kernel_rfl
theorem exX8_size : sizE exX8 = 3 := by kernel_rfl
theorem exX8_cnt : cntE exX8 ≤ 1000000 := by decide +kernel
theorem exX8_small : allS exX8 := by
  simp [exX8, allS, allSs, smallE]

set_option maxRecDepth 100000 in
set_option maxHeartbeats 16000000 in
theorem anchor8_c (w : World) (hla : LaidE w) (hls : LaidS w) : Calls Tryz.prog 5 #[] w (ValPost (.bool true) w) := by
  have HP1 := Lib.hid (Formula_p ⟨#[40, 120, 41, 43, 49]⟩ 9 w (by decide) hla)
  have hok : (ansQ (⟨#[40, 120, 41, 43, 49]⟩ : ByteArray).data.toList 9 true).2.1 = 0 := exF8_ok
  have HLA := Lib.hid hla; have HLS := Lib.hid hls
  clear hla hls
  go_enter Tryz.func5, Tryz.ntmps5
  go_wp2_with fail
  refine HP1.out.mono ?_
  rintro e w1 ⟨hg1, he⟩
  rw [if_neg (by rw [hok]; decide)] at he
  obtain ⟨pt, ct, pn, cn, K, rfl, hta, hct, hna, -, -, -, hN⟩ := he
  have HFO := Lib.hid (fun W h1 h2 h3 h4 => FormulaOf_c ⟨#[40, 120, 41, 43, 49]⟩ 9 (by decide) hok pt pn ct cn K W h1 h2 h3 h4 hN)
  have hx8 : formE (⟨#[40, 120, 41, 43, 49]⟩ : ByteArray).data.toList 9 = exX8 := exF8_form
  rw [hx8] at HFO
  have HTA := Lib.hid hta; have HNA := Lib.hid hna; have HG1 := Lib.hid hg1
  obtain ⟨m, hm⟩ : ∃ m, (allE (⟨#[40, 120, 41, 43, 49]⟩ : ByteArray).data.toList).1.length = m := ⟨_, rfl⟩
  obtain ⟨M, hM⟩ : ∃ M, (nodesQ (⟨#[40, 120, 41, 43, 49]⟩ : ByteArray).data.toList 9 true).length = M := ⟨_, rfl⟩
  rw [hm, hM] at HFO ⊢
  obtain ⟨W, b0, b1, hW, e0, e1, hB0, hB1, hgW, h01⟩ := two w1 (.cells #[.slice pt m ct, .slice pn M cn] 26) (.cells #[.int .i64 0, .int .i64 0] 29)
  have HB0 := Lib.hid hB0; have HGW := Lib.hid hgW
  clear hm hM hN hct hta hna hg1 hok hx8 HP1 hB0 hB1 hgW
  go_wp2_with fail
  try rw [← hW]
  try rw [e1]
  try rw [e0]
  clear e0 e1 hW
  refine (HFO.out _ (HLA.out.kept (gb_trans HG1.out HGW.out)) (HLS.out.kept (gb_trans HG1.out HGW.out)) (HTA.out.kept HGW.out) (HNA.out.kept HGW.out)).mono ?_
  rintro e w2 ⟨hg2, q, rfl, hq⟩
  have HG2 := Lib.hid (gb_trans (gb_trans HG1.out HGW.out) hg2)
  obtain ⟨ax, bx8, s8, pw, nw, cw, pk, nk, ck, rfl⟩ : ∃ (a b : ByteArray) (s : Bool) (p : Option Addr) (n c : Nat) (p' : Option Addr) (n' c' : Nat), q = [.int .i64 7, .string a, .string b, .bool s, .slice p n c, .bool false, .slice p' n' c', .int .i64 3] := by
    unfold exX8 at hq
    simp only [EAt] at hq
    obtain ⟨s, pw, nw, cw, pk, ck, rows, rfl, -⟩ := hq
    exact ⟨_, _, _, _, _, _, _, _, _, rfl⟩
  have HDU := Lib.hid (fun W (h : w2.grownBy W none) => Dump_c2 _ exX8 _ W (hq.kept h) exX8_small exX8_cnt (by rw [exX8_dump]; decide))
  have HSI := Lib.hid (fun W (h : w2.grownBy W none) => Size_c _ exX8 _ W (hq.kept h) exX8_cnt (by rw [exX8_size]; decide))
  clear hg2 hq HFO HLA HLS HTA HNA HGW HB0 HG1
  go_wp2_with fail
  have hg0 := World.grownBy_alloc w2 (.cells #[.int .i64 7, .string ax, .string bx8, .bool s8, .slice pw nw cw, .bool false, .slice pk nk ck, .int .i64 3] 60) none
  have HB := Lib.hid (heap_alloc_new w2 (.cells #[.int .i64 7, .string ax, .string bx8, .bool s8, .slice pw nw cw, .bool false, .slice pk nk ck, .int .i64 3] 60))
  have HG0 := Lib.hid hg0
  clear hg0
  refine (HDU.out _ HG0.out).mono ?_
  rintro e w3 ⟨⟨y, rfl, hy⟩, hg3⟩
  have e1 : (y.toList == [91, 55, 32, 91, 51, 32, 120, 93, 32, 91, 49, 32, 49, 93, 93]) = true := by rw [toList_data, hy, exX8_dump]; rfl
  have HB3 := Lib.hid (bx hg3 HB.out)
  have HG3 := Lib.hid (gb_trans HG0.out hg3)
  obtain ⟨c0, c1, c2, c3, c4, c5, c6, c7, c8⟩ := cells8x HB3.out
  clear hg3 hy HDU HB
  go_wp2_with fail
  refine (HSI.out _ HG3.out).mono ?_
  rintro e w4 ⟨rfl, hg4⟩
  rw [exX8_size]
  have HG4 := Lib.hid (gb_trans HG2.out (gb_trans HG3.out hg4))
  clear hg4 HSI
  go_wp2_with fail
  go_ret
  exact ⟨rfl, HG4.out⟩
end Go.Proofs.YtoahgeleenpnjaaGreatDoor
