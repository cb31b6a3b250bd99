/- The tokens of a node's own leaves. -/
import Derived.Test.YtmlcpihedmmlfaaGreatDoorK12
import Derived.ProofKit
import Derived.OpenShut
import Derived.ChangeSlices
import Derived.ChangeMaps5
import Derived.Carry
import Derived.Lay
import Derived.LaidMore
import Derived.Stop.Joined
import Derived.SevenTiedAt
import Derived.Lib.LaidTab
import Derived.Test.YtmlcpihedmmlfaaGreatDoorTie
import Derived.Test.YtmlcpihedmmlfaaGreatDoorCards
import Derived.Test.YtmlcpihedmmlfaaGreatDoorK2
import Derived.Deep.LoopGhost
import Derived.Test.YtmlcpihedmmlfaaGreatDoorK3
import Derived.Test.YtmlcpihedmmlfaaGreatDoorK6
set_option linter.unusedVariables false
set_option linter.unusedSimpArgs false
namespace Go.Proofs.YtmlcpihedmmlfaaGreatDoor
open Go.RowKit

theorem ownL_append : ∀ a b : List Tr, ownL (a ++ b) = ownL a ++ ownL b
  | [], b => rfl
  | .lf i :: a, b => by simp [ownL, ownL_append a b]
  | .nd k l :: a, b => by simp [ownL, ownL_append a b]
theorem ownL_len : ∀ l : List Tr, (ownL l).length ≤ l.length
  | [] => Nat.le_refl _
  | .lf i :: a => by have := ownL_len a; simp only [ownL, List.length_cons]; omega
  | .nd k l :: a => by have := ownL_len a; simp only [ownL, List.length_cons]; omega
theorem take_snoc {α : Type} {l : List α} {j : Nat} {t : α} (h : l[j]? = some t) : l.take (j + 1) = l.take j ++ [t] := by
  rw [List.take_add_one, h]; rfl
theorem ownL_lf {l : List Tr} {j i : Nat} (h : l[j]? = some (.lf i)) : ownL (l.take (j + 1)) = ownL (l.take j) ++ [i] := by
  rw [take_snoc h, ownL_append]; rfl
theorem ownL_nd {l : List Tr} {j k : Nat} {m : List Tr} (h : l[j]? = some (.nd k m)) : ownL (l.take (j + 1)) = ownL (l.take j) := by
  rw [take_snoc h, ownL_append]; simp [ownL]
theorem lv_mem : ∀ {l : List Tr} {j i : Nat}, l[j]? = some (.lf i) → i ∈ lvTs l
  | [], j, i, h => by simp at h
  | t :: l, j, i, h => by
    simp only [lvTs, List.mem_append]
    match j, h with
    | 0, h => simp at h; subst h; left; simp [lvT]
    | j + 1, h => right; exact lv_mem (by simpa using h)
theorem kOks_get : ∀ {l : List Tr} {j : Nat} {t : Tr}, kOks l → l[j]? = some t → kOk t
  | [], j, t, _, h => by simp at h
  | u :: l, j, t, hk, h => by
    simp only [kOks] at hk
    match j, h with
    | 0, h => simp at h; subst h; exact hk.1
    | j + 1, h => exact kOks_get hk.2 (by simpa using h)

def OwnTok (T : List Tok) (l : List Tr) (w : World) (e : Ending) (w' : World) : Prop :=
  w.grownBy w' none ∧ ∃ p c, e = .returned (.slice p (ownL l).length c) ∧ TAt w' p ((ownL l).map (tkT T))

set_option maxRecDepth 100000 in
set_option maxHeartbeats 8000000 in
theorem aTokens_c {T : List Tok} {N : List Nd} {K : Kf} (hT : T.length ≤ 150000) (hN : N.length ≤ 150000) {n : Nat} {kd : Int} {tk : Int} {ks : List Int} {l : List Tr} (hx : N[n]? = some ⟨kd, tk, ks⟩) (hkt : KT N n ks l) (hko : kOks l) (hlv : ∀ i ∈ lvTs l, i < T.length) (hlm : l.length ≤ 150000) (pt pn : Option Addr) (ct cn : Nat) (w : World) (ht : TAt w pt T) (h : NodesAt w pn N K) :
    Calls Tryz.prog 68 #[.agg #[.slice pt T.length ct, .slice pn N.length cn], .int .i64 (n : Int)] w (OwnTok T l w) := by
  have hgA := World.grownBy_alloc w (.cells #[.slice pt T.length ct, .slice pn N.length cn] 87) none
  have hA := heap_alloc_new w (.cells #[.slice pt T.length ct, .slice pn N.length cn] 87)
  have HKI := Lib.hid (fun (n : Nat) (x : Nd) W (hx : N[n]? = some x) h => kind_r (K := K) hN hx pt pn T.length ct cn W h)
  have HKD := Lib.hid (fun W h => kids_r (K := K) hN hx pt pn T.length ct cn W h)
  have HTK := Lib.hid (fun (n i : Nat) W (hx : N[n]? = some ⟨19, (i : Int), []⟩) (hi : i < T.length) h1 h2 => token_r (K := K) hT hN hx hi pt pn ct cn W h1 h2)
  have HKV := Lib.hid (fun W (h : NodesAt W pn N K) => (h.2 n _ hx))
  have HT := Lib.hid (ht.kept hgA); have HN := Lib.hid (h.kept hgA); have HKT := Lib.hid hkt; have HKO := Lib.hid hko; have HLV := Lib.hid hlv
  have hkl := hkt.1
  obtain ⟨b, hb⟩ : ∃ b, w.heap.size = b := ⟨_, rfl⟩
  have HBW := Lib.hid hb
  rw [hb] at hA
  obtain ⟨W, hW⟩ : ∃ W, w.alloc (.cells #[.slice pt T.length ct, .slice pn N.length cn] 87) = W := ⟨_, rfl⟩
  rw [hW] at hA hgA HT HN
  obtain ⟨mt, hmt⟩ : ∃ mt, T.length = mt := ⟨_, rfl⟩
  obtain ⟨mn, hmn⟩ : ∃ mn, N.length = mn := ⟨_, rfl⟩
  obtain ⟨M, hM⟩ : ∃ M, ks.length = M := ⟨_, rfl⟩
  have HM := Lib.hid hM
  rw [hmt] at hA hW HKI HKD HTK ⊢
  rw [hmn] at hA hW HKI HKD HTK ⊢
  rw [hM] at HKD hkl
  have hMm : M ≤ 150000 := by omega
  have HKL := Lib.hid hkl
  have HA := Lib.hid hA; have HGA := Lib.hid hgA
  have HTL := Lib.hid hmt
  obtain ⟨a0, a1, a2⟩ := cells2 hA
  have HKS : Hid (K n = ((K n).1, (K n).2)) := Lib.hid rfl
  generalize (K n).1 = pk at *
  generalize (K n).2 = ck at *
  clear ht h hkt hko hlv hx hA hgA hmt hmn hM hT hN hkl hlm
  go_enter Tryz.func68, Tryz.ntmps68
  go_wp2_with fail
  try rw [hb]
  clear hb hW
  refine (HKD.out _ HN.out).mono ?_
  rintro e w1 ⟨rfl, hg1⟩
  have HG1 := Lib.hid hg1
  have HT := Lib.hid (HT.out.kept hg1); have HN := Lib.hid (HN.out.kept hg1)
  have HA := Lib.hid (bx hg1 HA.out)
  have hA := HA.out
  obtain ⟨a0, a1, a2⟩ := cells2 hA
  clear hA hg1
  go_wp2_with fail
  go_loopw [5, 12] (fun ov iv wr => ∃ j : Nat, j ≤ M ∧ iv = .int .i64 (j : Int) ∧ Hid (OwnT 96 wr w1.heap.size ov ((ownL (l.take j)).map (tkT T))) ∧ Hid (Below w1.heap.size w1 wr)) (fun _ iv _ => M - (intOf iv).toNat)
  case atStart => exact ⟨0, Nat.zero_le _, rfl, Lib.hid (by simpa [ownL] using OwnT.nil _ _ _), Below.refl _ _⟩
  case round =>
    obtain ⟨j, hj, rfl, HO, HB⟩ := hrel
    have HGW : Hid (w1.grownBy wr none) := Lib.hid (below_gb HB.out)
    have HAr := Lib.hid (bx HGW.out HA.out)
    have hAr := HAr.out
    obtain ⟨a0, a1, a2⟩ := cells2 hAr
    have HNr := Lib.hid (HN.out.kept HGW.out); have HTr := Lib.hid (HT.out.kept HGW.out)
    clear hAr
    by_cases hlt : j < M
    · obtain ⟨t, ht⟩ : ∃ t, l[j]? = some t := ⟨l[j]'(by have := HKL.out; omega), List.getElem?_eq_getElem _⟩
      obtain ⟨k, hk, hta, hkn⟩ := HKT.out.2 j t ht
      obtain ⟨g, off, rfl, hgl, ck0⟩ := kid_at (HKV.out _ HNr.out) hk
      have HLL := Lib.hid (ownL_len (l.take j))
      have y1 : (0 : Int) ≤ (j : Int) := by omega
      have y2 : (j : Int) < (M : Int) := by omega
      have y3 : decide (j < M) = true := decide_eq_true hlt
      have y4 : decide ((j : Int) < (M : Int)) = true := decide_eq_true y2
      cases t with
      | lf i =>
        obtain ⟨n', hn', hnx⟩ := hta.lf
        have hn' : k = n' := by omega
        subst hn'
        have hil := HLV.out i (lv_mem ht)
        rw [HTL.out] at hil
        have HK1 := Lib.hid (HKI.out k _ wr hnx HNr.out)
        have HK2 := Lib.hid (fun W h1 h2 => HTK.out k i W hnx hil h1 h2)
        have HTE := Lib.hid (ownL_lf ht)
        clear ht hk hta hkn hnx hil
        go_wp2_with fail
        refine HK1.out.mono ?_
        rintro e w2 ⟨rfl, hg2⟩
        have hA2 := bx hg2 HAr.out
        have HA2 := Lib.hid hA2
        obtain ⟨a0, a1, a2⟩ := cells2 hA2
        have HG2 := Lib.hid hg2
        have HT2 := Lib.hid (HTr.out.kept hg2); have HN2 := Lib.hid (HNr.out.kept hg2)
        clear hA2 hg2 HK1
        go_wp2_with fail
        refine (HK2.out _ HT2.out HN2.out).mono ?_
        rintro e w3 ⟨rfl, hg3⟩
        have HG3 := Lib.hid (gb_trans HG2.out hg3)
        have HO3 := Lib.hid (HO.out.kept HG3.out)
        have HB3 := Lib.hid (Below.trans2 HB.out (Below.gb HG3.out HB.out.size))
        clear hg3 HK2
        unfold tokVal
        have HTV : Hid (tokV (tkT T i) = [.int .i64 ((tkT T i).kind : Int), strV (tkT T i).lead, strV (tkT T i).text, .int .i64 ((tkT T i).pos : Int)]) := Lib.hid rfl
        unfold strV at HTV ⊢
        have HLM : Hid (((ownL (l.take j)).map (tkT T)).length ≤ 1000000) := Lib.hid (by have h1 := HLL.out; have h2 := List.length_take (i := j) (l := l); rw [List.length_map]; omega)
        go_wp2_with (at_builtin; go_loud (refine wpList_appT (t := 23) Tryz.underlying23 infoT rfl (by decide) rfl _ _ rfl w1.heap.size ((ownL (l.take j)).map (tkT T)) (tkT T i) _ _ _ _ HTV.out u5 rfl HO3.out _ rfl rfl HLM.out HB3.out.size ?_))
        intro g' cap' w4 hO4 hB4
        have HO4 : Hid (OwnT 96 w4 w1.heap.size (.slice (some ⟨g', 0, none⟩) ((ownL (l.take j)).length + 1) cap') ((ownL (l.take (j + 1))).map (tkT T))) := Lib.hid (by rw [HTE.out, List.map_append]; exact hO4)
        have HB4 := Lib.hid (Below.trans2 HB3.out hB4)
        clear hO4 hB4
        go_wp2_with fail
        go_roundw
        case rel => exact ⟨j + 1, by omega, by go_num, HO4, HB4⟩
        case measure => simp [intOf]; omega
      | nd m q =>
        obtain ⟨n', ks', hn', hnx, -⟩ := hta.nd
        have hn' : k = n' := by omega
        subst hn'
        have hkd := kOks_get HKO.out ht
        simp only [kOk] at hkd
        have hne : ((m : Int) == 19) = false := beq_eq_false_iff_ne.2 (by omega)
        have hne' : (m == 19) = false := beq_eq_false_iff_ne.2 (by omega)
        have HK1 := Lib.hid (HKI.out k _ wr hnx HNr.out)
        have HTE := Lib.hid (ownL_nd ht)
        clear ht hk hta hkn hnx hkd
        go_wp2_with fail
        refine HK1.out.mono ?_
        rintro e w2 ⟨rfl, hg2⟩
        have HG2 := Lib.hid hg2
        clear hg2 HK1
        go_wp2_with fail
        go_roundw
        case rel => exact ⟨j + 1, by omega, by go_num, Lib.hid (by rw [HTE.out]; exact HO.out.kept HG2.out), Lib.hid (Below.trans2 HB.out (Below.gb HG2.out HB.out.size))⟩
        case measure => simp [intOf]; omega
    · obtain rfl : j = M := by omega
      have hO := HO.out
      rw [List.take_of_length_le (by have := HKL.out; omega)] at hO
      obtain ⟨p, c, rfl, hta, -, -, -⟩ := hO.is
      have HTA := Lib.hid hta
      have HLE : Hid (((ownL l).map (tkT T)).length = (ownL l).length) := Lib.hid (List.length_map _)
      rw [HLE.out]
      have HGE := Lib.hid (gb_trans (gb_trans HGA.out HG1.out) HGW.out)
      have HPE : Hid (∀ w', w.grownBy w' none → TAt w' p ((ownL l).map (tkT T)) → OwnTok T l w (.returned (.slice p (ownL l).length c)) w') := Lib.hid (fun w' h1 h2 => ⟨h1, p, c, rfl, h2⟩)
      generalize (ownL l).length = L at *
      clear hta hO
      go_wp2_with fail
      go_ret
      exact HPE.out _ HGE.out HTA.out
end Go.Proofs.YtmlcpihedmmlfaaGreatDoor
namespace Go.Proofs.YtmlcpihedmmlfaaGreatDoor
open Go.RowKit

/-- The package's variable holds the signs. -/
def LaidS (w : World) : Prop := ∀ j v, (signs8.map strV)[j]? = some v → w.cell? ⟨0, j, none⟩ = some v
theorem LaidS.kept {w w' : World} (h : LaidS w) (hg : w.grownBy w' none) : LaidS w' := fun j v hj => hg.cell (h j v hj) (by simp)
theorem sizeS8 : (Tryz.prog.info? 195).map (·.size) = some (signs8.map strV).length := by kernel_rfl

/-- Where a text stands in the rest of a list, if it doesn't stand ahead. -/
theorem idx_at {L : List (List UInt8)} {k : Nat} {x : List UInt8} (hx : L[k]? = some x) (hb : ∀ j y, j < k → L[j]? = some y → y ≠ x) : L.idxOf x = k := by
  induction L generalizing k with
  | nil => simp at hx
  | cons a L ih =>
    match k, hx, hb with
    | 0, hx, _ => simp at hx; subst hx; simp
    | k + 1, hx, hb =>
      have ha : a ≠ x := hb 0 a (by omega) rfl
      have hbx : (a == x) = false := by simpa using ha
      rw [List.idxOf_cons, hbx, cond_false, ih (k := k) (by simpa using hx) (fun j y hj hy => hb (j + 1) y (by omega) (by simpa using hy))]
theorem binE_at {k : Nat} {x : List UInt8} (hx : signs8[k]? = some x) (hb : ∀ j y, j < k → signs8[j]? = some y → y ≠ x) : binE x = 7 + k := by
  unfold binE
  rw [idx_at hx hb, if_pos (by have := (List.getElem?_eq_some_iff.1 hx).1; exact this)]
theorem binE_none {x : List UInt8} (hb : ∀ j y, j < 14 → signs8[j]? = some y → y ≠ x) : binE x = 0 := by
  unfold binE
  rw [if_neg]
  intro h
  have h1 : signs8.idxOf x < signs8.length := h
  have h2 := List.getElem_idxOf h1
  exact hb _ _ h (List.getElem?_eq_getElem h1) h2

set_option maxRecDepth 100000 in
set_option maxHeartbeats 4000000 in
theorem binary_c (s : ByteArray) (w : World) (h : LaidS w) : Calls Tryz.prog 112 #[.string s] w (ValPost (.int .i64 (binE s.data.toList : Nat)) w) := by
  have hr : w.rangeAt 0 0 (signs8.map strV) := fun j v hj => by rw [Nat.zero_add]; exact h j v hj
  have HRG := Lib.hid hr
  clear hr h
  have HSL := Lib.hid (toList_data s)
  go_enter Tryz.func112, Tryz.ntmps112
  go_wp2_with (refine wpList_load_mid rfl 195 _ rfl 0 0 rfl (signs8.map strV) _ HRG.out Tryz.underlying195 rfl sizeS8 ?_)
  have HA : Hid (ArrIs (.agg (signs8.map strV).toArray) signs8) := Lib.hid rfl
  generalize Value.agg (signs8.map strV).toArray = A at *
  go_wp2
  go_loopw [6] (fun i wr => ∃ k : Nat, k ≤ 14 ∧ i = .int .i64 k ∧ Hid (∀ j y, j < k → signs8[j]? = some y → y ≠ s.data.toList) ∧ wr = w) (fun i _ => 14 - (intOf i).toNat)
  case atStart => exact ⟨0, Nat.zero_le _, rfl, Lib.hid (fun j y hj => by omega), rfl⟩
  case round =>
    obtain ⟨k, hk, rfl, HC, rfl⟩ := hrel
    by_cases hlt : k < 14
    · have d1 : decide ((k : Int) < 14) = true := decide_eq_true (by omega)
      have d1' : decide (k < 14) = true := decide_eq_true hlt
      obtain ⟨x, hx⟩ : ∃ x, signs8[k]? = some x := ⟨signs8[k]'hlt, List.getElem?_eq_getElem _⟩
      have hrun := HA.out.run (t := 195) (n := 14) Tryz.underlying195 rfl hx
      obtain ⟨y, hy⟩ : ∃ y : ByteArray, (⟨x.toArray⟩ : ByteArray) = y := ⟨_, rfl⟩
      have hyl : y.toList = x := by rw [toList_data, ← hy]
      rw [hy] at hrun
      have hw : IntKind.i64.wrap (7 + (k : Int)) = ((7 + k : Nat) : Int) := by rw [IntWalk.i64_in _ (by omega)]; omega
      by_cases he : x = s.data.toList
      · have d2 : (s.toList == y.toList) = true := by rw [hyl, HSL.out, he]; simp
        have HR : Hid (binE s.data.toList = 7 + k) := Lib.hid (by rw [← he]; exact binE_at hx (fun j z hj hz => by rw [he]; exact HC.out j z hj hz))
        clear hx he hyl hy
        go_wp2
        go_ret
        exact ⟨by rw [HR.out]; show Ending.returned (.int .i64 (7 + (k : Int))) = _; rw [show (((7 + k : Nat)) : Int) = 7 + (k : Int) by omega], gb_refl _ _⟩
      · have d2 : (s.toList == y.toList) = false := by rw [hyl, HSL.out]; simpa using fun e => he e.symm
        have HR : Hid (∀ j y, j < k + 1 → signs8[j]? = some y → y ≠ s.data.toList) := Lib.hid (fun j z hj hz => by
          by_cases e : j = k
          · subst e; rw [hx] at hz; cases hz; exact he
          · exact HC.out j z (by omega) hz)
        clear hx he hyl hy
        go_wp2
        go_roundw
        case rel => exact ⟨k + 1, by omega, by go_num, HR, by first | rfl | trivial⟩
        case measure => (simp [intOf] <;> omega)
    · obtain rfl : k = 14 := by omega
      have HR : Hid (binE s.data.toList = 0) := Lib.hid (binE_none HC.out)
      go_wp2
      go_ret
      exact ⟨by rw [HR.out]; rfl, gb_refl _ _⟩
end Go.Proofs.YtmlcpihedmmlfaaGreatDoor
namespace Go.Proofs.YtmlcpihedmmlfaaGreatDoor
open Go.ChangeShapes Go.WideShapes Go.ChangeAt Go.RowKit Go.ChangeMaps

def laidL : List (String × DataW Unit) := [("math/bits.deBruijn32tab", Rows.laid_math_bits_deBruijn32tab), ("math/bits.deBruijn64tab", Rows.laid_math_bits_deBruijn64tab), ("internal/strconv.uint64pow10", Rows.laid_internal_strconv_uint64pow10), ("unicode/utf8.acceptRanges", Rows.laid_unicode_utf8_acceptRanges), ("touchstone/lex.keys", Rows.laid_touchstone_lex_keys), ("touchstone/lex.signs", Rows.laid_touchstone_lex_signs), ("touchstone/ast.signs", Rows.laid_touchstone_ast_signs), ("unicode/utf8.first", Rows.laid_unicode_utf8_first)]

/-- An array of strings that reads as these texts holds them, cell for cell. -/
theorem cells_of_strs {H : Type} {enc : TypeId × Value → H} {P : Program} {w : World} {base : Nat} {sp : Nat → Bool} {held : Bool} {fuel : Nat} {t e : TypeId} {n : Nat} {cs : List Value} {zs : List (List UInt8)} {p : List MemPlace}
    (ht : P.underlying t = some (.array n e)) (he : P.underlying e = some .string) (hce : P.cellsOf e = 1) (hct : P.cellsOf t = n)
    (h : DataW.trod enc P w base sp held fuel t cs = some (.agg (zs.map fun z => .lit (.string z)), p)) : cs = zs.map strV := by
  obtain ⟨xs, m, rfl, hx, hl, hxl, hall⟩ := DataW.trod_array ht h
  simp only [Prod.mk.injEq, DataW.agg.injEq] at hx
  have hzl : zs.length = n := by
    have := congrArg List.length hx.1
    simp at this; omega
  apply List.ext_getElem?
  intro i
  by_cases hi : i < n
  · have h1 := hall i hi
    rw [hce, Nat.mul_one] at h1
    have hxi : xs[i]? = some xs[i] := List.getElem?_eq_getElem (by omega)
    rw [hxi] at h1
    obtain ⟨s, hc, hs, _⟩ := DataW.trod_string he h1
    have h2 : cs[i]? = some (.string s) := by
      have := congrArg (·[0]?) hc
      simpa [List.getElem?_take, List.getElem?_drop] using this
    have h3 : (xs.map (·.1))[i]? = some (DataW.lit (.string s.data.toList) : DataW H) := by simp [hxi, hs]
    rw [← hx.1] at h3
    simp only [List.getElem?_map, Option.map_eq_some_iff, DataW.lit.injEq, Lit.string.injEq] at h3
    obtain ⟨z, hz, hzs⟩ := h3
    rw [h2, List.getElem?_map, hz, hzs]
    rfl
  · rw [List.getElem?_eq_none (by omega), List.getElem?_eq_none (by simp; omega)]

theorem tKeys : (Tryz.prog.globals[1]?).map (·.type) = some 217 := by kernel_rfl
theorem tSigns : (Tryz.prog.globals[2]?).map (·.type) = some 218 := by kernel_rfl
theorem gAsts : Tryz.prog.globalNamed "touchstone/ast.signs" = some 0 := by kernel_rfl
theorem tAsts : (Tryz.prog.globals[0]?).map (·.type) = some 195 := by kernel_rfl
theorem cAsts : Tryz.prog.cellsOf 195 = 14 := by kernel_rfl
theorem cStr : Tryz.prog.cellsOf 9 = 1 := by kernel_rfl
theorem cKeys : Tryz.prog.cellsOf 217 = 15 := by kernel_rfl
theorem cSigns : Tryz.prog.cellsOf 218 = 22 := by kernel_rfl

theorem of_laid {W : World} (h : laidMetH Tryz.prog laidL W) : LaidE W ∧ LaidS W := by
  rw [MakeChecks.laidMetH_plain _ _ _ (by kernel_rfl)] at h
  obtain ⟨ps, ⟨g0, t0, cs0, f0, p0, q0, hg0, ht0, hv0, hd0, ⟨g1, t1, cs1, f1, p1, q1, hg1, ht1, hv1, hd1, ⟨g2, t2, cs2, f2, p2, q2, hg2, ht2, hv2, hd2, ⟨g3, t3, cs3, f3, p3, q3, hg3, ht3, hv3, hd3, ⟨g4, t4, cs4, f4, p4, q4, hg4, ht4, hv4, hd4, ⟨g5, t5, cs5, f5, p5, q5, hg5, ht5, hv5, hd5, ⟨g6, t6, cs6, f6, p6, q6, hg6, ht6, hv6, hd6, _, _⟩, _⟩, _⟩, _⟩, _⟩, _⟩, _⟩, _, _⟩ := h
  obtain rfl := Option.some.inj (gKeys.symm.trans hg4)
  obtain rfl := Option.some.inj (gSigns.symm.trans hg5)
  obtain rfl := Option.some.inj (gAsts.symm.trans hg6)
  obtain rfl := Option.some.inj (tKeys.symm.trans ht4)
  obtain rfl := Option.some.inj (tSigns.symm.trans ht5)
  obtain rfl := Option.some.inj (tAsts.symm.trans ht6)
  have k1 := cells_of_strs (zs := keysL) Tryz.underlying217 Tryz.underlying9 cStr cKeys hd4
  have k2 := cells_of_strs (zs := signsL) Tryz.underlying218 Tryz.underlying9 cStr cSigns hd5
  have k3 := cells_of_strs (zs := signs8) Tryz.underlying195 Tryz.underlying9 cStr cAsts hd6
  refine ⟨⟨fun j v hj => ?_, fun j v hj => ?_⟩, fun j v hj => ?_⟩
  · rw [World.var?_cell hg4 hv4 j, ← Array.getElem?_toList, k1]; exact hj
  · rw [World.var?_cell hg5 hv5 j, ← Array.getElem?_toList, k2]; exact hj
  · rw [World.var?_cell hg6 hv6 j, ← Array.getElem?_toList, k3]; exact hj

theorem own : ownKnob Tryz.prog.godebug = none := by kernel_rfl
set_option maxRecDepth 100000 in
theorem start_shaped (os : Os) (args : Array Value) : ((World.laidAll Tryz.prog os laidL).forCall (fun _ _ => 0) ⟨#[], args, []⟩).Shaped Tryz.prog := World.shaped_of_ZipB (by kernel_rfl) (by kernel_rfl)
set_option maxRecDepth 100000 in
theorem start_met (os : Os) (args : Array Value) : laidMetH Tryz.prog laidL ((World.laidAll Tryz.prog os laidL).forCall (fun _ _ => 0) ⟨#[], args, []⟩).memory := by
  rw [MakeChecks.laidMetH_plain _ _ _ (by kernel_rfl)]
  exact laidMet_laidAll _ (by kernel_rfl) (by kernel_rfl)
end Go.Proofs.YtmlcpihedmmlfaaGreatDoor
namespace Go.Proofs.YtmlcpihedmmlfaaGreatDoor
open Go.RowKit

def kidsE : Ex → List Ex
  | .mk _ _ _ _ _ ks _ => ks
section
variable {σ : Type} (st : σ → Ex → Nat → σ)
mutual
/-- What is told of an expression, by steps. -/
def runE : Ex → σ → σ
  | .mk op nm md nu ys ks ps, s => runK (.mk op nm md nu ys ks ps) 0 ks (st s (.mk op nm md nu ys ks ps) 0)
def runK (x : Ex) : Nat → List Ex → σ → σ
  | _, [], s => s
  | j, k :: l, s => runK x (j + 1) l (st (runE k s) x (j + 1))
end
end
mutual
def cntE : Ex → Nat
  | .mk _ _ _ _ _ ks _ => 1 + cntK ks
def cntK : List Ex → Nat
  | [] => 0
  | k :: l => cntE k + 1 + cntK l
end
/-- An expression that is gone through: how many of its kids are done, and where it lies. -/
structure Fm where
  x : Ex
  d : Nat
  g : Nat
  o : Nat
def rsF {σ : Type} (st : σ → Ex → Nat → σ) (f : Fm) (s : σ) : σ := runK st f.x f.d ((kidsE f.x).drop f.d) (st s f.x f.d)
def runG {σ : Type} (st : σ → Ex → Nat → σ) (G : List Fm) (s : σ) : σ := G.foldr (rsF st) s
def cntF (f : Fm) : Nat := 1 + cntK ((kidsE f.x).drop f.d)
def cntG (G : List Fm) : Nat := (G.map cntF).sum
theorem runE_eq {σ : Type} (st : σ → Ex → Nat → σ) (x : Ex) (s : σ) (g o : Nat) : runE st x s = rsF st ⟨x, 0, g, o⟩ s := by
  cases x with
  | mk op nm md nu ys ks ps => simp only [runE, rsF, kidsE, List.drop_zero]
theorem cntE_eq (x : Ex) (g o : Nat) : cntE x = cntF ⟨x, 0, g, o⟩ := by
  cases x with
  | mk op nm md nu ys ks ps => simp only [cntE, cntF, kidsE, List.drop_zero]
theorem runG_snoc {σ : Type} (st : σ → Ex → Nat → σ) (G : List Fm) (f : Fm) (s : σ) : runG st (G ++ [f]) s = runG st G (rsF st f s) := by unfold runG; rw [List.foldr_append]; rfl
theorem cntG_snoc (G : List Fm) (f : Fm) : cntG (G ++ [f]) = cntG G + cntF f := by unfold cntG; simp
theorem rsF_done {σ : Type} (st : σ → Ex → Nat → σ) {f : Fm} (h : f.d = (kidsE f.x).length) (s : σ) : rsF st f s = st s f.x f.d ∧ cntF f = 1 := by
  unfold rsF cntF
  rw [h, List.drop_length]; exact ⟨rfl, rfl⟩
theorem rsF_kid {σ : Type} (st : σ → Ex → Nat → σ) {f : Fm} {k : Ex} (h : (kidsE f.x)[f.d]? = some k) (s : σ) (g o : Nat) : rsF st f s = rsF st { f with d := f.d + 1 } (rsF st ⟨k, 0, g, o⟩ (st s f.x f.d)) ∧ cntF f = 1 + (cntF { f with d := f.d + 1 } + cntF ⟨k, 0, g, o⟩) := by
  have e : (kidsE f.x).drop f.d = k :: (kidsE f.x).drop (f.d + 1) := by
    have h1 := (List.getElem?_eq_some_iff.1 h)
    obtain ⟨h1, h2⟩ := h1
    rw [List.drop_eq_getElem_cons h1, h2]
  constructor
  · rw [← runE_eq]
    unfold rsF
    rw [e]
    simp only [runK]
  · rw [← cntE_eq]
    unfold cntF
    rw [e]
    simp only [cntK]
    omega

/-- An expression lies at an address. -/
def PAtE (F : Nat → Prop) (w : World) (g o : Nat) (x : Ex) : Prop := F g ∧ g < w.heap.size ∧ ∃ q, q.length = 8 ∧ (∀ (i : Nat) (v : Value), q[i]? = some v → w.cell? ⟨g, o + i, none⟩ = some v) ∧ EAt F w x q
theorem EAt.len {F : Nat → Prop} {w : World} {x : Ex} {q : List Value} (h : EAt F w x q) : q.length = 8 := by
  cases x with
  | mk op nm md nu ys ks ps =>
    simp only [EAt] at h
    obtain ⟨s, pw, nw, cw, pk, ck, rows, rfl, -⟩ := h
    rfl
theorem PAtE.same {F S : Nat → Prop} {w w' : World} {g o : Nat} {x : Ex} (h : PAtE F w g o x) (hg : Fr2 S w w') (hS : ∀ k, F k → ¬ S k) : PAtE F w' g o x := by
  obtain ⟨hF, hl, q, hq, hc, he⟩ := h
  exact ⟨hF, Nat.lt_of_lt_of_le hl hg.size, q, hq, fun i v hi => by rw [World.cell?_of_block (w := w) (hg.block g hl (hS g hF))]; exact hc i v hi, EAt.same hg hS he⟩
/-- The cells that a walk reads: how many kids, and where. -/
theorem PAtE.kids {F : Nat → Prop} {w : World} {g o : Nat} {x : Ex} (h : PAtE F w g o x) : ∃ pk ck, w.cell? ⟨g, o + 6, none⟩ = some (.slice pk (kidsE x).length ck) ∧ ∀ (j : Nat) (k : Ex), (kidsE x)[j]? = some k → ∃ g' o', pk = some ⟨g', o', none⟩ ∧ PAtE F w g' (o' + j * 8) k := by
  cases x with
  | mk op nm md nu ys ks ps =>
    obtain ⟨hF, hl, q, hq, hc, he⟩ := h
    simp only [EAt] at he
    obtain ⟨s, pw, nw, cw, pk, ck, rows, rfl, h2, h3, h4, h5⟩ := he
    refine ⟨pk, ck, hc 6 _ rfl, fun j k hk => ?_⟩
    have hk : ks[j]? = some k := hk
    have hne : ks ≠ [] := fun e => by rw [e] at hk; simp at hk
    obtain ⟨⟨g', o', x'⟩, ha, hFa⟩ := h5 hne
    obtain ⟨r, hr, hre⟩ := Ls_get h4 hk
    obtain ⟨g2, o2, hp, hl2, hc2⟩ := h3.resolve_left (fun e => by rw [e] at hr; simp at hr)
    rw [ha] at hp
    simp only [Option.some.injEq, Addr.mk.injEq] at hp
    obtain ⟨rfl, rfl, rfl⟩ := hp
    exact ⟨g', o', ha, hFa, hl2, r, EAt.len hre, fun i v hi => hc2 j r hr i v hi, hre⟩
theorem kid_size : ∀ (ks : List Ex) (j : Nat) (k : Ex), ks[j]? = some k → cntE k ≤ cntK ks
  | [], j, k, h => by simp at h
  | y :: l, j, k, h => by
    simp only [cntK]
    match j, h with
    | 0, h => simp at h; subst h; omega
    | j + 1, h => have := kid_size l j k (by simpa using h); omega
theorem kids_count : ∀ ks : List Ex, ks.length ≤ cntK ks
  | [] => Nat.zero_le _
  | y :: l => by have := kids_count l; simp only [cntK, List.length_cons]; omega

def rowF (f : Fm) : List Value := [.pointer (some ⟨f.g, f.o, none⟩), .int .i64 (f.d : Int)]
theorem infoP : (Tryz.prog.info? 152).map (fun i => (i.zero, i.size, i.bytes)) = some (some (.agg #[.pointer none, .int .i64 0]), 2, 16) := by kernel_rfl

theorem OwnG.okept {s : Nat} {T : TypeId} {w w' : World} {base b : Nat} {v : Value} {l : List (List Value)} (h : OwnG s T w base v l) (hg : OKept b w w') (hT : T ≠ 5) (hb : b < base) : OwnG s T w' base v l :=
  ⟨⟨h.1.1, h.1.2.imp id fun ⟨g, cap, cur, e, hb1, hh, r⟩ => ⟨g, cap, cur, e, hb1, hg g cur T hh hT (by omega), r⟩⟩, h.2⟩
theorem OwnG.blk {s : Nat} {T : TypeId} {w : World} {base g n c : Nat} {l : List (List Value)} (h : OwnG s T w base (.slice (some ⟨g, 0, none⟩) n c) l) : base ≤ g ∧ ∃ cur, w.heap[g]? = some (.cells cur T (0, 0)) := by
  rcases h.1.2 with ⟨h1, h0⟩ | ⟨g', cap, cur, e, hb, hg, r⟩
  · cases h1
  · injection e with e1 e2 e3
    injection e1 with e1
    injection e1 with e1
    subst e1
    exact ⟨hb, cur, hg⟩

theorem OwnG.pop {s n c : Nat} {T : TypeId} {w : World} {base : Nat} {p : Option Addr} {l : List (List Value)} {q : List Value} (h : OwnG s T w base (.slice p n c) (l ++ [q])) : n = l.length + 1 ∧ OwnG s T w base (.slice p l.length c) l ∧ ∃ g, p = some ⟨g, 0, none⟩ := by
  have h2 := h.1
  have hw := h.2
  rw [List.length_append, List.length_singleton] at h2
  rcases h2.2 with ⟨e, h0⟩ | ⟨g, cap, cur, e, hb, hg, hnc, hcm, hsz, ht⟩
  · omega
  · injection e with e1 e2 e3
    subst e1; subst e2; subst e3
    refine ⟨rfl, ⟨⟨flat_len (fun q hq => hw q (List.mem_append_left _ hq)), .inr ⟨g, c, cur, rfl, hb, hg, by omega, hcm, hsz, ?_⟩⟩, fun q hq => hw q (List.mem_append_left _ hq)⟩, g, rfl⟩
    have hfl := flat_len (fun q hq => hw q (List.mem_append_left _ hq) : Wid s l)
    have h3 : (cur.toList.take ((l.length + 1) * s)).take (l.length * s) = l.flatten := by
      rw [ht, List.flatten_append, List.take_append_of_le_length (by omega), List.take_of_length_le (by omega)]
    rw [List.take_take, Nat.min_eq_left (Nat.mul_le_mul_right _ (by omega))] at h3
    exact h3
theorem OwnG.new {s : Nat} {T : TypeId} (w : World) (base : Nat) (y : List Value) (hy : y.length = s) (h1 : ∀ u ∈ y, u.oneCell' = true) (hb : base ≤ w.heap.size) : OwnG s T (w.alloc (.cells y.toArray T)) base (.slice (some ⟨w.heap.size, 0, none⟩) 1 1) [y] := by
  refine ⟨⟨by simp [hy], .inr ⟨w.heap.size, 1, y.toArray, rfl, hb, heap_alloc_new w _, Nat.le_refl _, by unfold maxLen; omega, by simp [hy], ?_⟩⟩, fun q hq => by simp at hq; subst hq; exact ⟨hy, h1⟩⟩
  subst hy
  simp
theorem OwnG.last2 {n c g : Nat} {T : TypeId} {w : World} {base : Nat} {l : List (List Value)} {a b u : Value} (hu : u.oneCell' = true) (h : OwnG 2 T w base (.slice (some ⟨g, 0, none⟩) n c) (l ++ [[a, b]])) : OwnG 2 T (w.setCell ⟨g, l.length * 2 + 1, none⟩ u) base (.slice (some ⟨g, 0, none⟩) n c) (l ++ [[a, u]]) ∧ w.grownBy (w.setCell ⟨g, l.length * 2 + 1, none⟩ u) (some g) := by
  have hn := h.pop.1
  subst hn
  have hw := h.2
  have hwl : Wid 2 l := fun q hq => hw q (List.mem_append_left _ hq)
  have h1 := h.1
  rw [List.length_append, List.length_singleton] at h1
  have h2 := World.ownsRow.stored h1 (l.length * 2 + 1) u
  refine ⟨⟨?_, fun q hq => ?_⟩, h2.2⟩
  · have e : (l ++ [[a, u]]).flatten = ((l ++ [[a, b]]).flatten).set (l.length * 2 + 1) u := by
      rw [List.flatten_append, List.flatten_append, List.set_append, if_neg (by rw [flat_len hwl]; omega), flat_len hwl]
      simp
    rw [e, List.length_append, List.length_singleton]
    exact h2.1
  · rcases List.mem_append.1 hq with hq | hq
    · exact hwl q hq
    · simp at hq; subst hq
      refine ⟨rfl, fun v hv => ?_⟩
      simp at hv
      rcases hv with rfl | rfl
      · exact (hw [v, b] (by simp)).2 v (by simp)
      · exact hu
theorem OwnG.top2 {n c g : Nat} {T : TypeId} {w : World} {base : Nat} {l : List (List Value)} {a b : Value} (h : OwnG 2 T w base (.slice (some ⟨g, 0, none⟩) n c) (l ++ [[a, b]])) : w.cell? ⟨g, l.length * 2, none⟩ = some a ∧ w.cell? ⟨g, l.length * 2 + 1, none⟩ = some b ∧ (∀ j, w.frozen? ⟨g, j, none⟩ = false) ∧ g < w.heap.size ∧ l.length + 1 ≤ c ∧ c ≤ maxLen := by
  have hn := h.pop.1
  subst hn
  obtain ⟨p, c', e, hga, h1, h2, -⟩ := h.is
  injection e with e1 e2 e3
  subst e1; subst e3
  obtain ⟨g2, o2, hp2, hgl, hcs⟩ := hga.resolve_left (by simp)
  injection hp2 with hp2; injection hp2 with hp2 hp3; subst hp2 hp3
  have a0 := hcs l.length [a, b] (by simp) 0 _ rfl
  have a1 := hcs l.length [a, b] (by simp) 1 _ rfl
  rw [Nat.zero_add, Nat.add_zero] at a0
  rw [Nat.zero_add] at a1
  have h3 := h.1
  rw [List.length_append, List.length_singleton] at h3 h1
  exact ⟨a0, a1, fun j => World.ownsRow.frozenAt h3 j, hgl, h1, h2⟩
theorem list_last8 {α : Type} (l : List α) : l = [] ∨ ∃ l' x, l = l' ++ [x] := by
  rcases List.eq_nil_or_concat l with h | ⟨l', x, h⟩
  · exact .inl h
  · exact .inr ⟨l', x, by simpa using h⟩
theorem cntF_pos (f : Fm) : 1 ≤ cntF f := by unfold cntF; omega
theorem cntG_len : ∀ G : List Fm, G.length ≤ cntG G
  | [] => Nat.zero_le _
  | f :: G => by
    have h1 := cntG_len G
    have h2 := cntF_pos f
    have e : cntG (f :: G) = cntF f + cntG G := by unfold cntG; simp
    rw [e, List.length_cons]; omega
end Go.Proofs.YtmlcpihedmmlfaaGreatDoor
namespace Go.Proofs.YtmlcpihedmmlfaaGreatDoor
open Go.RowKit

/-- What a function that is told does, and what it needs. -/
structure Tell {σ : Type} (st : σ → Ex → Nat → σ) (tf b B : Nat) (F : Nat → Prop) (P : σ → World → Prop) (L : σ → Prop) (Q : Ex → Prop) : Prop where
  below : ∀ k, F k → k < B
  box : B ≤ b
  tell : ∀ (s : σ) (f : Fm) (w : World), P s w → B ≤ w.heap.size → PAtE F w f.g f.o f.x → f.d ≤ (kidsE f.x).length → Q f.x → L (st s f.x f.d) → Calls Tryz.prog tf #[.pointer (some ⟨f.g, f.o, none⟩), .int .i64 (f.d : Int), .pointer (some ⟨b, 0, none⟩)] w (fun e w' => e = .returned (.tuple #[]) ∧ P (st s f.x f.d) w' ∧ Below B w w' ∧ OKept b w w')
  mono : ∀ s x d, L (st s x d) → L s
  kids : ∀ x k, Q x → k ∈ kidsE x → Q k
  grown : ∀ s w w', P s w → w.grownBy w' none → P s w'
  placed : ∀ s w w' g cs, P s w → w.grownBy w' (some g) → w.heap[g]? = some (.cells cs 152 (0, 0)) → g ≠ b → P s w'
theorem Tell.at {σ : Type} {st : σ → Ex → Nat → σ} {tf b B : Nat} {F : Nat → Prop} {P : σ → World → Prop} {L : σ → Prop} {Q : Ex → Prop} (h : Tell st tf b B F P L Q) {w w' : World} {g o : Nat} {x : Ex} (hp : PAtE F w g o x) (hb : Below B w w') : PAtE F w' g o x :=
  hp.same (Fr2.ofBelow hb) (fun k hk e => by have := h.below k hk; omega)

mutual
theorem runE_mono {σ : Type} {st : σ → Ex → Nat → σ} {L : σ → Prop} (hm : ∀ s x d, L (st s x d) → L s) : ∀ (x : Ex) (s : σ), L (runE st x s) → L s
  | .mk op nm md nu ys ks ps, s, h => by
    simp only [runE] at h
    exact hm _ _ _ (runK_mono hm _ _ ks _ h)
theorem runK_mono {σ : Type} {st : σ → Ex → Nat → σ} {L : σ → Prop} (hm : ∀ s x d, L (st s x d) → L s) (x : Ex) : ∀ (j : Nat) (l : List Ex) (s : σ), L (runK st x j l s) → L s
  | _, [], s, h => by simp only [runK] at h; exact h
  | j, k :: l, s, h => by
    simp only [runK] at h
    exact runE_mono hm k s (hm _ _ _ (runK_mono hm x (j + 1) l _ h))
end
theorem runG_mono {σ : Type} {st : σ → Ex → Nat → σ} {L : σ → Prop} (hm : ∀ s x d, L (st s x d) → L s) : ∀ (G : List Fm) (s : σ), L (runG st G s) → L s
  | [], s, h => h
  | f :: G, s, h => by
    have e : runG st (f :: G) s = rsF st f (runG st G s) := rfl
    rw [e] at h
    exact runG_mono hm G s (hm _ _ _ (runK_mono hm _ _ _ _ h))
/-- What is told next stays within what is told in the end. -/
theorem next_mono {σ : Type} {st : σ → Ex → Nat → σ} {L : σ → Prop} (hm : ∀ s x d, L (st s x d) → L s) {G : List Fm} {f : Fm} {s : σ} (h : L (runG st (G ++ [f]) s)) : L (st s f.x f.d) := by
  rw [runG_snoc] at h
  exact runK_mono hm _ _ _ _ (runG_mono hm G _ h)
end Go.Proofs.YtmlcpihedmmlfaaGreatDoor
namespace Go.Proofs.YtmlcpihedmmlfaaGreatDoor
open Go.RowKit

def opE : Ex → Nat
  | .mk op _ _ _ _ _ _ => op
def nmX : Ex → List UInt8
  | .mk _ nm _ _ _ _ _ => nm

mutual
/-- Is a name free in an expression? -/
def frE : Ex → List UInt8 → Prop
  | .mk op nm md nu ys ks ps, n => (op = 3 ∧ n = nm) ∨ frK op nm 0 ks n
/-- In its kids, from one on. -/
def frK (op : Nat) (nm : List UInt8) : Nat → List Ex → List UInt8 → Prop
  | _, [], _ => False
  | j, k :: l, n => (frE k n ∧ (op ≠ 22 ∨ j = 0 ∨ nm ≠ n)) ∨ frK op nm (j + 1) l n
end
theorem frK_iff (op : Nat) (nm n : List UInt8) : ∀ (l : List Ex) (j : Nat), frK op nm j l n ↔ ∃ i k, l[i]? = some k ∧ frE k n ∧ (op ≠ 22 ∨ j + i = 0 ∨ nm ≠ n)
  | [], j => by simp [frK]
  | k :: l, j => by
    simp only [frK]
    rw [frK_iff op nm n l (j + 1)]
    constructor
    · rintro (⟨h1, h2⟩ | ⟨i, k', h1, h2, h3⟩)
      · exact ⟨0, k, rfl, h1, by simpa using h2⟩
      · refine ⟨i + 1, k', by simpa using h1, h2, ?_⟩
        rcases h3 with h | h | h
        · exact .inl h
        · exact .inr (.inl (by omega))
        · exact .inr (.inr h)
    · rintro ⟨i, k', h1, h2, h3⟩
      match i, h1 with
      | 0, h1 => simp at h1; subst h1; exact .inl ⟨h2, by simpa using h3⟩
      | i + 1, h1 =>
        refine .inr ⟨i, k', by simpa using h1, h2, ?_⟩
        rcases h3 with h | h | h
        · exact .inl h
        · omega
        · exact .inr (.inr h)
theorem frE_iff (x : Ex) (n : List UInt8) : frE x n ↔ (opE x = 3 ∧ n = nmX x) ∨ ∃ i k, (kidsE x)[i]? = some k ∧ frE k n ∧ (opE x ≠ 22 ∨ i = 0 ∨ nmX x ≠ n) := by
  cases x with
  | mk op nm md nu ys ks ps =>
    simp only [frE]
    rw [frK_iff]
    simp [opE, nmX, kidsE]

mutual
/-- Each let has two kids. -/
def letE : Ex → Prop
  | .mk op _ _ _ _ ks _ => (op = 22 → ks.length = 2) ∧ letK ks
def letK : List Ex → Prop
  | [] => True
  | k :: l => letE k ∧ letK l
end
theorem letK_get : ∀ {l : List Ex} {j : Nat} {k : Ex}, letK l → l[j]? = some k → letE k
  | [], j, k, _, h => by simp at h
  | y :: l, j, k, hl, h => by
    simp only [letK] at hl
    match j, h with
    | 0, h => simp at h; subst h; exact hl.1
    | j + 1, h => exact letK_get hl.2 (by simpa using h)
theorem letE_kid {x k : Ex} {j : Nat} (h : letE x) (hk : (kidsE x)[j]? = some k) : letE k := by
  cases x with
  | mk op nm md nu ys ks ps =>
    simp only [letE] at h
    exact letK_get h.2 hk

/-- Names that were told, how often each is bound around, how many steps were told. -/
structure FrS where
  out : List (List UInt8)
  bd : List UInt8 → Int
  n : Nat
def bump (b : List UInt8 → Int) (k : List UInt8) (d : Int) : List UInt8 → Int := fun m => if m = k then b k + d else b m
def stF (s : FrS) (x : Ex) (d : Nat) : FrS :=
  if opE x = 3 ∧ d = 0 ∧ s.bd (nmX x) = 0 then ⟨s.out ++ [nmX x], s.bd, s.n + 1⟩
  else if opE x = 22 ∧ d = 1 ∧ 1 < (kidsE x).length then ⟨s.out, bump s.bd (nmX x) 1, s.n + 1⟩
  else if opE x = 22 ∧ d = 2 then ⟨s.out, bump s.bd (nmX x) (-1), s.n + 1⟩
  else ⟨s.out, s.bd, s.n + 1⟩
theorem stF_n (s : FrS) (x : Ex) (d : Nat) : (stF s x d).n = s.n + 1 ∧ ∃ l, (stF s x d).out = s.out ++ l ∧ l.length ≤ 1 := by
  unfold stF
  split
  · exact ⟨rfl, [nmX x], rfl, Nat.le_refl _⟩
  split
  · exact ⟨rfl, [], by simp, by simp⟩
  split
  · exact ⟨rfl, [], by simp, by simp⟩
  · exact ⟨rfl, [], by simp, by simp⟩
theorem bump_back (b : List UInt8 → Int) (k : List UInt8) : bump (bump b k 1) k (-1) = b := by
  funext m
  unfold bump
  by_cases h : m = k
  · subst h; simp; omega
  · simp [h]
theorem bump_zero {b : List UInt8 → Int} (hb : ∀ m, 0 ≤ b m) (k m : List UInt8) : bump b k 1 m = 0 ↔ b m = 0 ∧ k ≠ m := by
  unfold bump
  have := hb k
  by_cases h : m = k
  · subst h; simp; omega
  · simp [h, Ne.symm h]
theorem bump_nn {b : List UInt8 → Int} (hb : ∀ m, 0 ≤ b m) (k : List UInt8) : ∀ m, 0 ≤ bump b k 1 m := fun m => by
  unfold bump
  have := hb k; have := hb m
  split <;> omega
/-- What a step leaves. -/
def FrRun (s s' : FrS) (P : List UInt8 → Prop) : Prop := s'.bd = s.bd ∧ ∃ L, s'.out = s.out ++ L ∧ ∀ n, n ∈ L ↔ P n ∧ s.bd n = 0
theorem FrRun.trans {a b c : FrS} {P Q : List UInt8 → Prop} (h : FrRun a b P) (k : FrRun b c Q) : FrRun a c (fun n => P n ∨ Q n) := by
  obtain ⟨h1, L, h2, h3⟩ := h
  obtain ⟨k1, M, k2, k3⟩ := k
  refine ⟨k1.trans h1, L ++ M, by rw [k2, h2, List.append_assoc], fun n => ?_⟩
  rw [List.mem_append, h3, k3, h1]
  constructor
  · rintro (⟨a, b⟩ | ⟨a, b⟩)
    · exact ⟨.inl a, b⟩
    · exact ⟨.inr a, b⟩
  · rintro ⟨a | a, b⟩
    · exact .inl ⟨a, b⟩
    · exact .inr ⟨a, b⟩
theorem FrRun.iff {a b : FrS} {P Q : List UInt8 → Prop} (h : FrRun a b P) (e : ∀ n, P n ↔ Q n) : FrRun a b Q := by
  have : P = Q := funext fun n => propext (e n)
  rw [← this]; exact h
theorem stF_plain {s : FrS} {x : Ex} {d : Nat} (h : opE x ≠ 22) (hd : d ≠ 0) : FrRun s (stF s x d) (fun _ => False) ∧ (stF s x d).bd = s.bd := by
  unfold stF
  rw [if_neg (fun e => hd e.2.1), if_neg (fun e => h e.1), if_neg (fun e => h e.1)]
  exact ⟨⟨rfl, [], by simp, by simp⟩, rfl⟩
mutual
theorem run_fr : ∀ (x : Ex) (s : FrS), letE x → (∀ m, 0 ≤ s.bd m) → FrRun s (runE stF x s) (frE x)
  | .mk op nm md nu ys ks ps, s, hl, hb => by
    have hl0 := hl
    simp only [letE] at hl
    by_cases h22 : op = 22
    · obtain ⟨a, b, rfl⟩ : ∃ a b, ks = [a, b] := by
        have h2 := hl.1 h22
        match ks, h2 with
        | [a, b], _ => exact ⟨a, b, rfl⟩
      simp only [letK] at hl
      simp only [runE, runK]
      have e0 : stF s (.mk op nm md nu ys [a, b] ps) 0 = ⟨s.out, s.bd, s.n + 1⟩ := by
        unfold stF; rw [if_neg (by simp [opE]; omega), if_neg (by simp), if_neg (by simp)]
      have ha := run_fr a (stF s (.mk op nm md nu ys [a, b] ps) 0) hl.2.1 (by rw [e0]; exact hb)
      have ha : FrRun s (runE stF a (stF s (.mk op nm md nu ys [a, b] ps) 0)) (frE a) := by
        rw [e0] at ha ⊢; exact ha
      generalize runE stF a (stF s (.mk op nm md nu ys [a, b] ps) 0) = s1 at ha ⊢
      have e1 : stF s1 (.mk op nm md nu ys [a, b] ps) (0 + 1) = ⟨s1.out, bump s1.bd nm 1, s1.n + 1⟩ := by
        unfold stF; rw [if_neg (by simp), if_pos (by simp [opE, kidsE, h22])]; rfl
      have hbb : ∀ m, 0 ≤ s1.bd m := by rw [ha.1]; exact hb
      have h2 := run_fr b (stF s1 (.mk op nm md nu ys [a, b] ps) (0 + 1)) hl.2.2.1 (by rw [e1]; exact bump_nn hbb nm)
      rw [e1] at h2 ⊢
      generalize runE stF b ⟨s1.out, bump s1.bd nm 1, s1.n + 1⟩ = s2 at h2 ⊢
      have e2 : stF s2 (.mk op nm md nu ys [a, b] ps) (0 + 1 + 1) = ⟨s2.out, bump s2.bd nm (-1), s2.n + 1⟩ := by
        unfold stF; rw [if_neg (by simp), if_neg (by simp), if_pos (by simp [opE, h22])]; rfl
      rw [e2]
      obtain ⟨h21, L, h22', h23⟩ := h2
      simp only at h21 h22' h23
      have hs : FrRun s1 ⟨s2.out, bump s2.bd nm (-1), s2.n + 1⟩ (fun n => frE b n ∧ nm ≠ n) := by
        refine ⟨by simp only; rw [h21, bump_back], L, h22', fun n => ?_⟩
        rw [h23, bump_zero hbb]
        constructor
        · rintro ⟨p, q, r⟩; exact ⟨⟨p, r⟩, q⟩
        · rintro ⟨⟨p, r⟩, q⟩; exact ⟨p, q, r⟩
      refine (ha.trans hs).iff fun n => ?_
      simp only [frE, frK]
      constructor
      · rintro (h | ⟨h, k⟩)
        · exact .inr (.inl ⟨h, .inr (.inl trivial)⟩)
        · exact .inr (.inr (.inl ⟨h, .inr (.inr k)⟩))
      · rintro (⟨h, -⟩ | ⟨h, -⟩ | ⟨h, k⟩ | h)
        · omega
        · exact .inl h
        · refine .inr ⟨h, ?_⟩
          rcases k with k | k | k
          · exact absurd h22 k
          · simp at k
          · exact k
        · exact h.elim
    · simp only [runE]
      have h0 : FrRun s (stF s (.mk op nm md nu ys ks ps) 0) (fun n => op = 3 ∧ n = nm) := by
        unfold stF
        by_cases h3 : op = 3 ∧ s.bd nm = 0
        · rw [if_pos ⟨h3.1, rfl, h3.2⟩]
          refine ⟨rfl, [nm], rfl, fun n => ?_⟩
          simp only [List.mem_singleton]
          constructor
          · rintro rfl; exact ⟨⟨h3.1, rfl⟩, h3.2⟩
          · rintro ⟨⟨-, e⟩, -⟩; exact e
        · rw [if_neg (fun e => h3 ⟨e.1, e.2.2⟩), if_neg (by simp), if_neg (by simp)]
          refine ⟨rfl, [], by simp, fun n => ?_⟩
          simp only [List.not_mem_nil, false_iff]
          rintro ⟨⟨a, rfl⟩, b⟩; exact h3 ⟨a, b⟩
      have hk := run_frK (.mk op nm md nu ys ks ps) h22 0 ks (stF s (.mk op nm md nu ys ks ps) 0) hl.2 (by rw [h0.1]; exact hb)
      refine (h0.trans hk).iff fun n => ?_
      simp only [frE]
      exact Iff.rfl
theorem run_frK (x : Ex) (hx : opE x ≠ 22) : ∀ (j : Nat) (l : List Ex) (s : FrS), letK l → (∀ m, 0 ≤ s.bd m) → FrRun s (runK stF x j l s) (frK (opE x) (nmX x) j l)
  | j, [], s, _, _ => by simp only [runK]; exact ⟨rfl, [], by simp, fun n => by simp [frK]⟩
  | j, k :: l, s, hl, hb => by
    simp only [letK] at hl
    simp only [runK]
    have h1 := run_fr k s hl.1 hb
    have h2 := (stF_plain (s := runE stF k s) (d := j + 1) hx (by omega)).1
    have h3 := run_frK x hx (j + 1) l (stF (runE stF k s) x (j + 1)) hl.2 (by rw [h2.1, h1.1]; exact hb)
    refine ((h1.trans h2).trans h3).iff fun n => ?_
    simp only [frK]
    constructor
    · rintro ((h | h) | h)
      · exact .inl ⟨h, .inl hx⟩
      · exact h.elim
      · exact .inr h
    · rintro (⟨h, -⟩ | h)
      · exact .inl (.inl h)
      · exact .inr h
end
mutual
theorem run_n : ∀ (x : Ex) (s : FrS), (runE stF x s).n = s.n + cntE x ∧ (runE stF x s).out.length ≤ s.out.length + cntE x
  | .mk op nm md nu ys ks ps, s => by
    simp only [runE, cntE]
    obtain ⟨h1, l, h2, h3⟩ := stF_n s (.mk op nm md nu ys ks ps) 0
    obtain ⟨h4, h5⟩ := run_nK (.mk op nm md nu ys ks ps) 0 ks (stF s (.mk op nm md nu ys ks ps) 0)
    rw [h2, List.length_append] at h5
    exact ⟨by omega, by omega⟩
theorem run_nK (x : Ex) : ∀ (j : Nat) (l : List Ex) (s : FrS), (runK stF x j l s).n = s.n + cntK l ∧ (runK stF x j l s).out.length ≤ s.out.length + cntK l
  | j, [], s => by simp only [runK, cntK]; exact ⟨rfl, Nat.le_refl _⟩
  | j, k :: l, s => by
    simp only [runK, cntK]
    obtain ⟨h1, h2⟩ := run_n k s
    obtain ⟨h3, m, h4, h5⟩ := stF_n (runE stF k s) x (j + 1)
    obtain ⟨h6, h7⟩ := run_nK x (j + 1) l (stF (runE stF k s) x (j + 1))
    rw [h4, List.length_append] at h7
    exact ⟨by omega, by omega⟩
end
end Go.Proofs.YtmlcpihedmmlfaaGreatDoor
