/- Lemmas. -/
import Derived.Test.YtddccnpohpaofaaGreatDoorP12
set_option linter.unusedVariables false
set_option linter.unusedSimpArgs false
namespace Go.Proofs.YtddccnpohpaofaaGreatDoor
open Go.RowKit

theorem ownL_append : ∀ a b : List Tr, ownL (a ++ b) = ownL a ++ ownL b
  | [], b => rfl
  | .lf i :: a, b => by simp [ownL, ownL_append a b]
  | .nd k l :: a, b => by simp [ownL, ownL_append a b]
theorem ownL_len : ∀ l : List Tr, (ownL l).length ≤ l.length
  | [] => Nat.le_refl _
  | .lf i :: a => by have := ownL_len a; simp only [ownL, List.length_cons]; omega
  | .nd k l :: a => by have := ownL_len a; simp only [ownL, List.length_cons]; omega
theorem take_snoc {α : Type} {l : List α} {j : Nat} {t : α} (h : l[j]? = some t) : l.take (j + 1) = l.take j ++ [t] := by
  rw [List.take_add_one, h]; rfl
theorem ownL_lf {l : List Tr} {j i : Nat} (h : l[j]? = some (.lf i)) : ownL (l.take (j + 1)) = ownL (l.take j) ++ [i] := by
  rw [take_snoc h, ownL_append]; rfl
theorem ownL_nd {l : List Tr} {j k : Nat} {m : List Tr} (h : l[j]? = some (.nd k m)) : ownL (l.take (j + 1)) = ownL (l.take j) := by
  rw [take_snoc h, ownL_append]; simp [ownL]
theorem lv_mem : ∀ {l : List Tr} {j i : Nat}, l[j]? = some (.lf i) → i ∈ lvTs l
  | [], j, i, h => by simp at h
  | t :: l, j, i, h => by
    simp only [lvTs, List.mem_append]
    match j, h with
    | 0, h => simp at h; subst h; left; simp [lvT]
    | j + 1, h => right; exact lv_mem (by simpa using h)
theorem kOks_get : ∀ {l : List Tr} {j : Nat} {t : Tr}, kOks l → l[j]? = some t → kOk t
  | [], j, t, _, h => by simp at h
  | u :: l, j, t, hk, h => by
    simp only [kOks] at hk
    match j, h with
    | 0, h => simp at h; subst h; exact hk.1
    | j + 1, h => exact kOks_get hk.2 (by simpa using h)

def OwnTok (T : List Tok) (l : List Tr) (w : World) (e : Ending) (w' : World) : Prop :=
  w.grownBy w' none ∧ ∃ p c, e = .returned (.slice p (ownL l).length c) ∧ TAt w' p ((ownL l).map (tkT T))

set_option maxRecDepth 100000 in
set_option maxHeartbeats 8000000 in
theorem aTokens_c {T : List Tok} {N : List Nd} {K : Kf} (hT : T.length ≤ 150000) (hN : N.length ≤ 150000) {n : Nat} {kd : Int} {tk : Int} {ks : List Int} {l : List Tr} (hx : N[n]? = some ⟨kd, tk, ks⟩) (hkt : KT N n ks l) (hko : kOks l) (hlv : ∀ i ∈ lvTs l, i < T.length) (hlm : l.length ≤ 150000) (pt pn : Option Addr) (ct cn : Nat) (w : World) (ht : TAt w pt T) (h : NodesAt w pn N K) :
    Calls Tryz.prog 50 #[.agg #[.slice pt T.length ct, .slice pn N.length cn], .int .i64 (n : Int)] w (OwnTok T l w) := by
  have hgA := World.grownBy_alloc w (.cells #[.slice pt T.length ct, .slice pn N.length cn] 66) none
  have hA := heap_alloc_new w (.cells #[.slice pt T.length ct, .slice pn N.length cn] 66)
  have HKI := Lib.hid (fun (n : Nat) (x : Nd) W (hx : N[n]? = some x) h => kind_r (K := K) hN hx pt pn T.length ct cn W h)
  have HKD := Lib.hid (fun W h => kids_r (K := K) hN hx pt pn T.length ct cn W h)
  have HTK := Lib.hid (fun (n i : Nat) W (hx : N[n]? = some ⟨19, (i : Int), []⟩) (hi : i < T.length) h1 h2 => token_r (K := K) hT hN hx hi pt pn ct cn W h1 h2)
  have HKV := Lib.hid (fun W (h : NodesAt W pn N K) => (h.2 n _ hx))
  have HT := Lib.hid (ht.kept hgA); have HN := Lib.hid (h.kept hgA); have HKT := Lib.hid hkt; have HKO := Lib.hid hko; have HLV := Lib.hid hlv
  have hkl := hkt.1
  obtain ⟨b, hb⟩ : ∃ b, w.heap.size = b := ⟨_, rfl⟩
  have HBW := Lib.hid hb
  rw [hb] at hA
  obtain ⟨W, hW⟩ : ∃ W, w.alloc (.cells #[.slice pt T.length ct, .slice pn N.length cn] 66) = W := ⟨_, rfl⟩
  rw [hW] at hA hgA HT HN
  obtain ⟨mt, hmt⟩ : ∃ mt, T.length = mt := ⟨_, rfl⟩
  obtain ⟨mn, hmn⟩ : ∃ mn, N.length = mn := ⟨_, rfl⟩
  obtain ⟨M, hM⟩ : ∃ M, ks.length = M := ⟨_, rfl⟩
  have HM := Lib.hid hM
  rw [hmt] at hA hW HKI HKD HTK ⊢
  rw [hmn] at hA hW HKI HKD HTK ⊢
  rw [hM] at HKD hkl
  have hMm : M ≤ 150000 := by omega
  have HKL := Lib.hid hkl
  have HA := Lib.hid hA; have HGA := Lib.hid hgA
  have HTL := Lib.hid hmt
  obtain ⟨a0, a1, a2⟩ := cells2 hA
  have HKS : Hid (K n = ((K n).1, (K n).2)) := Lib.hid rfl
  generalize (K n).1 = pk at *
  generalize (K n).2 = ck at *
  clear ht h hkt hko hlv hx hA hgA hmt hmn hM hT hN hkl hlm
  go_enter Tryz.func50, Tryz.ntmps50
  go_wp2_with fail
  try rw [hb]
  clear hb hW
  refine (HKD.out _ HN.out).mono ?_
  rintro e w1 ⟨rfl, hg1⟩
  have HG1 := Lib.hid hg1
  have HT := Lib.hid (HT.out.kept hg1); have HN := Lib.hid (HN.out.kept hg1)
  have HA := Lib.hid (bx hg1 HA.out)
  have hA := HA.out
  obtain ⟨a0, a1, a2⟩ := cells2 hA
  clear hA hg1
  go_wp2_with fail
  go_loopw [5, 12] (fun ov iv wr => ∃ j : Nat, j ≤ M ∧ iv = .int .i64 (j : Int) ∧ Hid (OwnT 98 wr w1.heap.size ov ((ownL (l.take j)).map (tkT T))) ∧ Hid (Below w1.heap.size w1 wr)) (fun _ iv _ => M - (intOf iv).toNat)
  case atStart => exact ⟨0, Nat.zero_le _, rfl, Lib.hid (by simpa [ownL] using OwnT.nil _ _ _), Below.refl _ _⟩
  case round =>
    obtain ⟨j, hj, rfl, HO, HB⟩ := hrel
    have HGW : Hid (w1.grownBy wr none) := Lib.hid (below_gb HB.out)
    have HAr := Lib.hid (bx HGW.out HA.out)
    have hAr := HAr.out
    obtain ⟨a0, a1, a2⟩ := cells2 hAr
    have HNr := Lib.hid (HN.out.kept HGW.out); have HTr := Lib.hid (HT.out.kept HGW.out)
    clear hAr
    by_cases hlt : j < M
    · obtain ⟨t, ht⟩ : ∃ t, l[j]? = some t := ⟨l[j]'(by have := HKL.out; omega), List.getElem?_eq_getElem _⟩
      obtain ⟨k, hk, hta, hkn⟩ := HKT.out.2 j t ht
      obtain ⟨g, off, rfl, hgl, ck0⟩ := kid_at (HKV.out _ HNr.out) hk
      have HLL := Lib.hid (ownL_len (l.take j))
      have y1 : (0 : Int) ≤ (j : Int) := by omega
      have y2 : (j : Int) < (M : Int) := by omega
      have y3 : decide (j < M) = true := decide_eq_true hlt
      have y4 : decide ((j : Int) < (M : Int)) = true := decide_eq_true y2
      cases t with
      | lf i =>
        obtain ⟨n', hn', hnx⟩ := hta.lf
        have hn' : k = n' := by omega
        subst hn'
        have hil := HLV.out i (lv_mem ht)
        rw [HTL.out] at hil
        have HK1 := Lib.hid (HKI.out k _ wr hnx HNr.out)
        have HK2 := Lib.hid (fun W h1 h2 => HTK.out k i W hnx hil h1 h2)
        have HTE := Lib.hid (ownL_lf ht)
        clear ht hk hta hkn hnx hil
        go_wp2_with fail
        refine HK1.out.mono ?_
        rintro e w2 ⟨rfl, hg2⟩
        have hA2 := bx hg2 HAr.out
        have HA2 := Lib.hid hA2
        obtain ⟨a0, a1, a2⟩ := cells2 hA2
        have HG2 := Lib.hid hg2
        have HT2 := Lib.hid (HTr.out.kept hg2); have HN2 := Lib.hid (HNr.out.kept hg2)
        clear hA2 hg2 HK1
        go_wp2_with fail
        refine (HK2.out _ HT2.out HN2.out).mono ?_
        rintro e w3 ⟨rfl, hg3⟩
        have HG3 := Lib.hid (gb_trans HG2.out hg3)
        have HO3 := Lib.hid (HO.out.kept HG3.out)
        have HB3 := Lib.hid (Below.trans2 HB.out (Below.gb HG3.out HB.out.size))
        clear hg3 HK2
        unfold tokVal
        have HTV : Hid (tokV (tkT T i) = [.int .i64 ((tkT T i).kind : Int), strV (tkT T i).lead, strV (tkT T i).text, .int .i64 ((tkT T i).pos : Int)]) := Lib.hid rfl
        unfold strV at HTV ⊢
        have HLM : Hid (((ownL (l.take j)).map (tkT T)).length ≤ 1000000) := Lib.hid (by have h1 := HLL.out; have h2 := List.length_take (i := j) (l := l); rw [List.length_map]; omega)
        go_wp2_with (at_builtin; go_loud (refine wpList_appT (t := 39) Tryz.underlying39 infoT rfl (by decide) rfl _ _ rfl w1.heap.size ((ownL (l.take j)).map (tkT T)) (tkT T i) _ _ _ _ HTV.out u5 rfl HO3.out _ rfl rfl HLM.out HB3.out.size ?_))
        intro g' cap' w4 hO4 hB4
        have HO4 : Hid (OwnT 98 w4 w1.heap.size (.slice (some ⟨g', 0, none⟩) ((ownL (l.take j)).length + 1) cap') ((ownL (l.take (j + 1))).map (tkT T))) := Lib.hid (by rw [HTE.out, List.map_append]; exact hO4)
        have HB4 := Lib.hid (Below.trans2 HB3.out hB4)
        clear hO4 hB4
        go_wp2_with fail
        go_roundw
        case rel => exact ⟨j + 1, by omega, by go_num, HO4, HB4⟩
        case measure => simp [intOf]; omega
      | nd m q =>
        obtain ⟨n', ks', hn', hnx, -⟩ := hta.nd
        have hn' : k = n' := by omega
        subst hn'
        have hkd := kOks_get HKO.out ht
        simp only [kOk] at hkd
        have hne : ((m : Int) == 19) = false := beq_eq_false_iff_ne.2 (by omega)
        have hne' : (m == 19) = false := beq_eq_false_iff_ne.2 (by omega)
        have HK1 := Lib.hid (HKI.out k _ wr hnx HNr.out)
        have HTE := Lib.hid (ownL_nd ht)
        clear ht hk hta hkn hnx hkd
        go_wp2_with fail
        refine HK1.out.mono ?_
        rintro e w2 ⟨rfl, hg2⟩
        have HG2 := Lib.hid hg2
        clear hg2 HK1
        go_wp2_with fail
        go_roundw
        case rel => exact ⟨j + 1, by omega, by go_num, Lib.hid (by rw [HTE.out]; exact HO.out.kept HG2.out), Lib.hid (Below.trans2 HB.out (Below.gb HG2.out HB.out.size))⟩
        case measure => simp [intOf]; omega
    · obtain rfl : j = M := by omega
      have hO := HO.out
      rw [List.take_of_length_le (by have := HKL.out; omega)] at hO
      obtain ⟨p, c, rfl, hta, -, -, -⟩ := hO.is
      have HTA := Lib.hid hta
      have HLE : Hid (((ownL l).map (tkT T)).length = (ownL l).length) := Lib.hid (List.length_map _)
      rw [HLE.out]
      have HGE := Lib.hid (gb_trans (gb_trans HGA.out HG1.out) HGW.out)
      have HPE : Hid (∀ w', w.grownBy w' none → TAt w' p ((ownL l).map (tkT T)) → OwnTok T l w (.returned (.slice p (ownL l).length c)) w') := Lib.hid (fun w' h1 h2 => ⟨h1, p, c, rfl, h2⟩)
      generalize (ownL l).length = L at *
      clear hta hO
      go_wp2_with fail
      go_ret
      exact HPE.out _ HGE.out HTA.out

/-- The package's variable holds the signs. -/
def LaidS (w : World) : Prop := ∀ j v, (signs8.map strV)[j]? = some v → w.cell? ⟨0, j, none⟩ = some v
theorem LaidS.kept {w w' : World} (h : LaidS w) (hg : w.grownBy w' none) : LaidS w' := fun j v hj => hg.cell (h j v hj) (by simp)
theorem sizeS8 : (Tryz.prog.info? 170).map (·.size) = some (signs8.map strV).length := by kernel_rfl

/-- Where a text stands in the rest of a list, if it doesn't stand ahead. -/
theorem idx_at {L : List (List UInt8)} {k : Nat} {x : List UInt8} (hx : L[k]? = some x) (hb : ∀ j y, j < k → L[j]? = some y → y ≠ x) : L.idxOf x = k := by
  induction L generalizing k with
  | nil => simp at hx
  | cons a L ih =>
    match k, hx, hb with
    | 0, hx, _ => simp at hx; subst hx; simp
    | k + 1, hx, hb =>
      have ha : a ≠ x := hb 0 a (by omega) rfl
      have hbx : (a == x) = false := by simpa using ha
      rw [List.idxOf_cons, hbx, cond_false, ih (k := k) (by simpa using hx) (fun j y hj hy => hb (j + 1) y (by omega) (by simpa using hy))]
theorem binE_at {k : Nat} {x : List UInt8} (hx : signs8[k]? = some x) (hb : ∀ j y, j < k → signs8[j]? = some y → y ≠ x) : binE x = 7 + k := by
  unfold binE
  rw [idx_at hx hb, if_pos (by have := (List.getElem?_eq_some_iff.1 hx).1; exact this)]
theorem binE_none {x : List UInt8} (hb : ∀ j y, j < 14 → signs8[j]? = some y → y ≠ x) : binE x = 0 := by
  unfold binE
  rw [if_neg]
  intro h
  have h1 : signs8.idxOf x < signs8.length := h
  have h2 := List.getElem_idxOf h1
  exact hb _ _ h (List.getElem?_eq_getElem h1) h2

set_option maxRecDepth 100000 in
set_option maxHeartbeats 4000000 in
theorem binary_c (s : ByteArray) (w : World) (h : LaidS w) : Calls Tryz.prog 82 #[.string s] w (ValPost (.int .i64 (binE s.data.toList : Nat)) w) := by
  have hr : w.rangeAt 0 0 (signs8.map strV) := fun j v hj => by rw [Nat.zero_add]; exact h j v hj
  have HRG := Lib.hid hr
  clear hr h
  have HSL := Lib.hid (toList_data s)
  go_enter Tryz.func82, Tryz.ntmps82
  go_wp2_with (refine wpList_load_mid rfl 170 _ rfl 0 0 rfl (signs8.map strV) _ HRG.out Tryz.underlying170 rfl sizeS8 ?_)
  have HA : Hid (ArrIs (.agg (signs8.map strV).toArray) signs8) := Lib.hid rfl
  generalize Value.agg (signs8.map strV).toArray = A at *
  go_wp2
  go_loopw [6] (fun i wr => ∃ k : Nat, k ≤ 14 ∧ i = .int .i64 k ∧ Hid (∀ j y, j < k → signs8[j]? = some y → y ≠ s.data.toList) ∧ wr = w) (fun i _ => 14 - (intOf i).toNat)
  case atStart => exact ⟨0, Nat.zero_le _, rfl, Lib.hid (fun j y hj => by omega), rfl⟩
  case round =>
    obtain ⟨k, hk, rfl, HC, rfl⟩ := hrel
    by_cases hlt : k < 14
    · have d1 : decide ((k : Int) < 14) = true := decide_eq_true (by omega)
      have d1' : decide (k < 14) = true := decide_eq_true hlt
      obtain ⟨x, hx⟩ : ∃ x, signs8[k]? = some x := ⟨signs8[k]'hlt, List.getElem?_eq_getElem _⟩
      have hrun := HA.out.run (t := 170) (n := 14) Tryz.underlying170 rfl hx
      obtain ⟨y, hy⟩ : ∃ y : ByteArray, (⟨x.toArray⟩ : ByteArray) = y := ⟨_, rfl⟩
      have hyl : y.toList = x := by rw [toList_data, ← hy]
      rw [hy] at hrun
      have hw : IntKind.i64.wrap (7 + (k : Int)) = ((7 + k : Nat) : Int) := by rw [IntWalk.i64_in _ (by omega)]; omega
      by_cases he : x = s.data.toList
      · have d2 : (s.toList == y.toList) = true := by rw [hyl, HSL.out, he]; simp
        have HR : Hid (binE s.data.toList = 7 + k) := Lib.hid (by rw [← he]; exact binE_at hx (fun j z hj hz => by rw [he]; exact HC.out j z hj hz))
        clear hx he hyl hy
        go_wp2
        go_ret
        exact ⟨by rw [HR.out]; show Ending.returned (.int .i64 (7 + (k : Int))) = _; rw [show (((7 + k : Nat)) : Int) = 7 + (k : Int) by omega], gb_refl _ _⟩
      · have d2 : (s.toList == y.toList) = false := by rw [hyl, HSL.out]; simpa using fun e => he e.symm
        have HR : Hid (∀ j y, j < k + 1 → signs8[j]? = some y → y ≠ s.data.toList) := Lib.hid (fun j z hj hz => by
          by_cases e : j = k
          · subst e; rw [hx] at hz; cases hz; exact he
          · exact HC.out j z (by omega) hz)
        clear hx he hyl hy
        go_wp2
        go_roundw
        case rel => exact ⟨k + 1, by omega, by go_num, HR, by first | rfl | trivial⟩
        case measure => (simp [intOf] <;> omega)
    · obtain rfl : k = 14 := by omega
      have HR : Hid (binE s.data.toList = 0) := Lib.hid (binE_none HC.out)
      go_wp2
      go_ret
      exact ⟨by rw [HR.out]; rfl, gb_refl _ _⟩

/-- The rows of the first kids of a call, with what stands between. -/
def argsR (sep : List UInt8) (g o : Nat) : Nat → List (List Value)
  | 0 => []
  | k + 1 => argsR sep g o k ++ (if k = 0 then [] else [rowB sep]) ++ [rowX g (o + k * 8) 0]
theorem argsR_len (sep : List UInt8) (g o : Nat) : ∀ k, (argsR sep g o k).length ≤ 2 * k
  | 0 => Nat.le_refl _
  | k + 1 => by
    have := argsR_len sep g o k
    simp only [argsR, List.length_append, List.length_singleton]
    split <;> simp <;> omega
set_option maxRecDepth 100000 in
set_option maxHeartbeats 16000000 in
theorem kid_c9 (S : Nat → Prop) (B b cb : Nat) (rows : List (List Value)) (a : Option Addr) (w : World) (h : WrAt S B b w rows) (hl : rows.length ≤ 1000000) (hSc : S cb) (cc : w.cell? ⟨cb, 0, none⟩ = some (.pointer (some ⟨b, 0, none⟩))) :
    Calls Tryz.prog 134 #[.pointer a, .pointer (some ⟨cb, 0, none⟩)] w (PcPost S B b (rows ++ [[.string ⟨#[]⟩, .pointer a, .int .i64 0]]) w) := by
  have HEX := Lib.hid (expr_c9 S B b rows a 0 w h hl)
  have hcw : cb < w.heap.size := by obtain ⟨v, -, -, -, -, -, -, hh⟩ := h; exact hh _ hSc
  clear h
  go_enter Tryz.func134, Tryz.ntmps134
  go_wp2_with fail
  refine HEX.out.mono ?_
  rintro e w2 ⟨rfl, hw2, hf2⟩
  have HW2 := Lib.hid hw2; have HF2 := Lib.hid hf2
  clear hw2 hf2
  go_wp2_with fail
  go_end0
  exact ⟨rfl, HW2.out, HF2.out⟩
set_option maxRecDepth 100000 in
set_option maxHeartbeats 16000000 in
theorem list_c9 (S : Nat → Prop) (B b cb : Nat) (rows : List (List Value)) (sep : List UInt8) (gk ok n ck : Nat) (w : World) (h : WrAt S B b w rows) (hl : rows.length ≤ 900000) (hn : n ≤ 10) (hSc : S cb) (cc : w.cell? ⟨cb, 0, none⟩ = some (.pointer (some ⟨b, 0, none⟩))) :
    Calls Tryz.prog 133 #[.pointer (some ⟨b, 0, none⟩), .slice (some ⟨gk, ok, none⟩) n ck, .string ⟨sep.toArray⟩, .func (.func 134) #[] #[.pointer (some ⟨cb, 0, none⟩)]] w (PcPost S B b (rows ++ argsR sep gk ok n) w) := by
  have HPUT := Lib.hid (fun rows s W h h2 => put_c9 S B b rows s W h h2)
  have HKID := Lib.hid (fun rows a W h h2 h3 => kid_c9 S B b cb rows a W h h2 hSc h3)
  have HW := Lib.hid h; have HL := Lib.hid hl
  have hcw : cb < w.heap.size := by obtain ⟨v, -, -, -, -, -, -, hh⟩ := h; exact hh _ hSc
  have HKP : Hid (∀ W, Fr2 (fun k => ¬ S k) w W → W.cell? ⟨cb, 0, none⟩ = some (.pointer (some ⟨b, 0, none⟩))) := Lib.hid (fun W hf => by rw [World.cell?_of_block (w := w) (hf.block cb hcw (fun e => e hSc))]; exact cc)
  clear h hl cc hSc hcw
  go_enter Tryz.func133, Tryz.ntmps133
  go_wp2_with fail
  go_loopw [11] (fun iv wr => ∃ k : Nat, k ≤ n ∧ iv = .int .i64 k ∧ Hid (WrAt S B b wr (rows ++ argsR sep gk ok k)) ∧ Hid (Fr2 (fun k => ¬ S k) w wr)) (fun iv _ => n - (intOf iv).toNat)
  case atStart => exact ⟨0, Nat.zero_le _, rfl, Lib.hid (by simpa [argsR] using HW.out), Lib.hid (Fr2.refl _ _)⟩
  case round =>
    obtain ⟨k, hkm, rfl, HWR, HF⟩ := hrel
    by_cases hlt : k < n
    · have y3 : decide ((k : Int) < (n : Int)) = true := decide_eq_true (by omega)
      have y4 : decide (k < n) = true := decide_eq_true hlt
      have HLR : Hid ((rows ++ argsR sep gk ok k).length ≤ 900020) := Lib.hid (by have := argsR_len sep gk ok k; rw [List.length_append]; have := HL.out; omega)
      have z1 : (0 : Int) ≤ (k : Int) := by omega
      have z2 : (k : Int) < (n : Int) := by omega
      by_cases hk0 : k = 0
      · subst hk0
        go_wp2_with fail
        refine (HKID.out _ _ wr HWR.out (by have := HLR.out; omega) (HKP.out wr HF.out)).mono ?_
        rintro e w3 ⟨rfl, hw3, hf3⟩
        have HF3 := Lib.hid (HF.out.trans hf3)
        have HW3 : Hid (WrAt S B b w3 (rows ++ argsR sep gk ok (0 + 1))) := Lib.hid (by
          simpa [argsR, rowX] using hw3)
        clear hw3 hf3
        go_wp2_with fail
        go_roundw
        case rel => exact ⟨0 + 1, by omega, by go_num, HW3, HF3⟩
        case measure => (simp [intOf] <;> omega)
      · have x1 : decide ((0 : Int) < (k : Int)) = true := decide_eq_true (by omega)
        have x2 : decide (0 < k) = true := decide_eq_true (by omega)
        have HK0 := Lib.hid hk0
        clear hk0
        go_wp2_with fail
        refine (HPUT.out _ _ wr HWR.out (by have := HLR.out; omega)).mono ?_
        rintro e w2 ⟨rfl, hw2, hf2⟩
        have HW2 := Lib.hid hw2; have HF2 := Lib.hid (HF.out.trans hf2)
        clear hw2 hf2
        go_wp2_with fail
        refine (HKID.out _ _ w2 HW2.out (by have h := HLR.out; simp only [List.length_append, List.length_cons, List.length_nil] at h ⊢; omega) (HKP.out w2 HF2.out)).mono ?_
        rintro e w3 ⟨rfl, hw3, hf3⟩
        have HF3 := Lib.hid (HF2.out.trans hf3)
        have HW3 : Hid (WrAt S B b w3 (rows ++ argsR sep gk ok (k + 1))) := Lib.hid (by
          simp only [argsR, if_neg HK0.out, rowX, rowB, strV, List.append_assoc, List.cons_append, List.nil_append] at hw3 ⊢
          exact hw3)
        clear hw3 hf3
        go_wp2_with fail
        go_roundw
        case rel => exact ⟨k + 1, by omega, by go_num, HW3, HF3⟩
        case measure => (simp [intOf] <;> omega)
    · obtain rfl : k = n := by omega
      go_wp2_with fail
      go_end0
      exact ⟨rfl, HWR.out, HF.out⟩

theorem isLet_bl {a : UInt8} (h : isLet a = true) : isBl a = false ∧ a ≠ 45 := by
  unfold isLet at h
  have e : ∀ b : UInt8, isLet b = true → isBl b = false ∧ b ≠ 45 := by
    intro b hb
    unfold isLet at hb
    simp only [Bool.or_eq_true, Bool.and_eq_true, decide_eq_true_eq] at hb
    refine ⟨?_, ?_⟩
    · unfold isBl
      simp only [Bool.or_eq_false_iff, beq_eq_false_iff_ne]
      refine ⟨⟨⟨?_, ?_⟩, ?_⟩, ?_⟩ <;> (rintro rfl; revert hb; decide)
    · rintro rfl; revert hb; decide
  exact e a (by unfold isLet; exact h)
theorem first_let {l : List UInt8} (h : (firstE l).1 = 1) : ∃ a r, l = a :: r ∧ isLet a = true := by
  cases l with
  | nil => simp [firstE] at h
  | cons a r =>
    rw [firstE_cons] at h
    by_cases hl : isLet a = true
    · exact ⟨a, r, rfl, hl⟩
    · rw [if_neg hl] at h
      split at h
      · simp at h
      · split at h <;> simp at h
theorem tok_nil (p : Nat) : tokE [] p = ⟨5, [], [], p⟩ := by
  have h : sk false [] = 0 := sk_zero (fun b hb => by simp at hb) rfl
  unfold tokE
  rw [h]; rfl

/-- What is answered: a truth, all memory as it was. -/
def TruePost (b : Bool) (w : World) (e : Ending) (w' : World) : Prop := e = .returned (.bool b) ∧ w.grownBy w' none

set_option maxRecDepth 100000 in
set_option maxHeartbeats 8000000 in
theorem Plain_c (s : ByteArray) (w : World) (hs : s.size ≤ 60000) (hla : LaidE w) : Calls Tryz.prog 114 #[.string s] w (TruePost (plainB s.data.toList) w) := by
  have HF := Lib.hid (first_c s w (by omega) hla)
  have HW := Lib.hid (fun W => wrong_c 1 (by omega) s W (by omega))
  have hb : plainB s.data.toList = (decide ((firstE s.data.toList).1 = 1) && (decide ((firstE s.data.toList).2 = s.size) && decide (wrongE 1 s.data.toList = 0))) := by
    unfold plainB
    rw [list_len]
    by_cases h1 : (firstE s.data.toList).1 = 1 <;> by_cases h2 : (firstE s.data.toList).2 = s.size <;> by_cases h3 : wrongE 1 s.data.toList = 0 <;> simp [h1, h2, h3]
  rw [hb]
  obtain ⟨k, hk⟩ : ∃ k, (firstE s.data.toList).1 = k := ⟨_, rfl⟩
  obtain ⟨z, hz⟩ : ∃ z, (firstE s.data.toList).2 = z := ⟨_, rfl⟩
  obtain ⟨v, hv⟩ : ∃ v, wrongE 1 s.data.toList = v := ⟨_, rfl⟩
  rw [hk, hz] at HF
  rw [hv] at HW
  rw [hk, hz, hv]
  have HE : Hid (((v : Int) == 0) = decide (v = 0)) := Lib.hid (by
    by_cases h : v = 0
    · subst h; rfl
    · rw [decide_eq_false h]; exact beq_eq_false_iff_ne.2 (by omega))
  clear hk hz hv hs hla hb
  by_cases h1 : k = 1
  · subst h1
    by_cases h2 : z = s.size
    · have e2 : ((z : Int) == (s.size : Int)) = true := by simp [h2]
      rw [decide_eq_true h2]
      clear h2
      go_enter Tryz.func114, Tryz.ntmps114
      go_wp2_with (first | (go_at_call 66; refine HF.out.mono ?_; rintro e w1 ⟨rfl, rfl⟩; skip) | (go_at_call 67; refine (HW.out _).mono ?_; rintro e w1 ⟨rfl, rfl⟩; skip))
      go_ret
      exact ⟨by rw [HE.out]; simp, by repeat (first | with_reducible exact gb_refl _ _ | with_reducible refine gb_drew ?_ | with_reducible refine gb_alloc ?_ _)⟩
    · have e2 : ((z : Int) == (s.size : Int)) = false := beq_eq_false_iff_ne.2 (by omega)
      rw [decide_eq_false h2]
      clear h2
      go_enter Tryz.func114, Tryz.ntmps114
      go_wp2_with (go_at_call 66; refine HF.out.mono ?_; rintro e w1 ⟨rfl, rfl⟩; skip)
      go_ret
      exact ⟨by simp, by repeat (first | with_reducible exact gb_refl _ _ | with_reducible refine gb_drew ?_ | with_reducible refine gb_alloc ?_ _)⟩
  · have e1 : ((k : Int) == 1) = false := beq_eq_false_iff_ne.2 (by omega)
    rw [decide_eq_false h1]
    clear h1
    go_enter Tryz.func114, Tryz.ntmps114
    go_wp2_with (go_at_call 66; refine HF.out.mono ?_; rintro e w1 ⟨rfl, rfl⟩; skip)
    go_ret
    exact ⟨by simp, by repeat (first | with_reducible exact gb_refl _ _ | with_reducible refine gb_drew ?_ | with_reducible refine gb_alloc ?_ _)⟩
end Go.Proofs.YtddccnpohpaofaaGreatDoor
