/- Lemmas. -/
import Derived.Test.YtccokidhngdjnaaGreatDoorP21
import Derived.Test.YtccokidhngdjnaaGreatDoorP51
set_option linter.unusedVariables false
set_option linter.unusedSimpArgs false
namespace Go.Proofs.YtccokidhngdjnaaGreatDoor.Zd
open Go.RowKit Mx

/-- Plain digits: one at least, no nought ahead of others. -/
def plain (l : List UInt8) : Bool := (l.all fun b => decide (48 ≤ b.toNat ∧ b.toNat ≤ 57)) && (decide (l = [48]) || (decide (l ≠ []) && decide (l.head? ≠ some 48)))

theorem idx_run (s : ByteArray) (k b : Nat) (h : k < s.data.toList.length) (hb : (s.data.toList[k]).toNat = b) : ∀ w : World, (Instr.index 9 (.string s) (.int .i64 (k : Int))).run Tryz.prog w = .ok (.int .u8 (b : Int)) w := by
  intro w
  have hs : s.data.toList.length = s.size := Array.length_toList
  rw [run_index_string w 9 s .i64 k Tryz.underlying9, dif_pos ⟨by omega, by omega⟩]
  have e : (s[((k : Int)).toNat]'(by omega)).toNat = b := by
    rw [← hb]; simp [ByteArray.getElem_eq_getElem_data]
  rw [e]

theorem toList_data (s : ByteArray) : s.toList = s.data.toList := ByteArray.toList_eq s

theorem byte_lt (x : UInt8) : x.toNat < 256 := x.toNat_lt

set_option maxHeartbeats 2000000 in
theorem plain_c (s : ByteArray) (w : World) (hs : s.data.toList.length ≤ 1000) : Calls Tryz.prog 25 #[.string s] w (fun e w' => e = .returned (.bool (plain s.data.toList)) ∧ w' = w) := by
  obtain ⟨n, hn⟩ : ∃ n, s.data.toList.length = n := ⟨_, rfl⟩
  have hsz : s.size = n := by rw [← hn]; exact (Array.length_toList).symm
  rw [hn] at hs
  have HN := Lib.hid hn
  clear hn
  go_enter Tryz.func25, Tryz.ntmps25
  go_wp2
  go_loopw [6] (fun i wr => ∃ k : Nat, k ≤ n ∧ i = .int .i64 k ∧ Hid (∀ j (hj : j < s.data.toList.length), j < k → 48 ≤ (s.data.toList[j]).toNat ∧ (s.data.toList[j]).toNat ≤ 57) ∧ wr = w) (fun i _ => n - (intOf i).toNat)
  case atStart => exact ⟨0, by omega, rfl, fun j _ h => by omega, rfl⟩
  case round =>
    obtain ⟨k, hk, rfl, HD, rfl⟩ := hrel
    by_cases hlt : k < n
    · obtain ⟨b, hb⟩ : ∃ b : Nat, (s.data.toList[k]'(by rw [HN.out]; exact hlt)).toNat = b := ⟨_, rfl⟩
      have hb2 : b < 256 := by rw [← hb]; exact byte_lt _
      have hix := idx_run s k b (by rw [HN.out]; exact hlt) hb
      have HB := Lib.hid hb
      clear hb
      have hbad : (b < 48 ∨ 57 < b) → plain s.data.toList = false := by
        intro h
        unfold plain
        have : (s.data.toList.all fun b => decide (48 ≤ b.toNat ∧ b.toNat ≤ 57)) = false := by
          rw [List.all_eq_false]
          exact ⟨_, List.getElem_mem (by rw [HN.out]; exact hlt), by rw [HB.out]; simp; omega⟩
        rw [this]; rfl
      have HBAD := Lib.hid hbad
      clear hbad
      by_cases h1 : b < 48
      · have d1 : decide ((b : Int) < 48) = true := decide_eq_true (by omega)
        go_wp2
        go_ret
        exact ⟨congrArg (fun b => Ending.returned (.bool b)) (HBAD.out (.inl h1)).symm, rfl⟩
      · have d1 : decide ((b : Int) < 48) = false := decide_eq_false (by omega)
        by_cases h2 : 57 < b
        · have d2 : decide ((57 : Int) < b) = true := decide_eq_true (by omega)
          go_wp2
          go_ret
          exact ⟨congrArg (fun b => Ending.returned (.bool b)) (HBAD.out (.inr h2)).symm, rfl⟩
        · have d2 : decide ((57 : Int) < b) = false := decide_eq_false (by omega)
          go_wp2
          go_roundw
          case rel =>
            refine ⟨k + 1, by omega, by go_num, fun j hj h => ?_, by first | rfl | trivial⟩
            rcases Nat.lt_or_ge j k with h | h
            · exact HD.out j hj h
            · obtain rfl : j = k := by omega
              rw [HB.out]; omega
          case measure => simp [intOf]; omega
    · obtain rfl : k = n := by omega
      have hall : (s.data.toList.all fun b => decide (48 ≤ b.toNat ∧ b.toNat ≤ 57)) = true := by
        rw [List.all_eq_true]
        intro x hx
        obtain ⟨j, hj, rfl⟩ := List.getElem_of_mem hx
        exact decide_eq_true (HD.out j hj (by rw [← HN.out]; exact hj))
      have hp : plain s.data.toList = (decide (s.data.toList = [48]) || (decide (s.data.toList ≠ []) && decide (s.data.toList.head? ≠ some 48))) := by
        unfold plain; rw [hall]; rfl
      have HP := Lib.hid hp
      clear hall hp
      by_cases hz : s.data.toList = [48]
      · have c1 : (s.toList == [48]) = true := by rw [toList_data, hz]; rfl
        have HZ := Lib.hid hz
        clear hz
        go_wp2
        go_ret
        exact ⟨congrArg (fun b => Ending.returned (.bool b)) (show true = plain s.data.toList by rw [HP.out, HZ.out]; rfl), by first | rfl | trivial⟩
      · have c1 : (s.toList == [48]) = false := by rw [toList_data]; exact beq_eq_false_iff_ne.2 hz
        by_cases h0 : k = 0
        · subst h0
          have hnil : s.data.toList = [] := List.eq_nil_of_length_eq_zero HN.out
          have c2 : s.toList.isEmpty = true := by rw [toList_data, hnil]; rfl
          have HZ := Lib.hid hnil
          clear hz hnil
          go_wp2
          go_ret
          exact ⟨congrArg (fun b => Ending.returned (.bool b)) (show false = plain s.data.toList by rw [HP.out, HZ.out]; rfl), by first | rfl | trivial⟩
        · have h0' : 0 < s.data.toList.length := by rw [HN.out]; omega
          have hnil : s.data.toList ≠ [] := List.ne_nil_of_length_pos h0'
          have c2 : s.toList.isEmpty = false := by rw [toList_data]; simpa using hnil
          have hpl : ∀ h : 0 < s.size, ((((s[0]'h).toNat : Nat) : Int) != 48) = plain s.data.toList := by
            intro h
            have e : s[0]'h = s.data.toList[0]'h0' := by simp [ByteArray.getElem_eq_getElem_data]
            rw [e, HP.out, decide_eq_false hz, decide_eq_true hnil, Bool.false_or, Bool.true_and, List.head?_eq_getElem?, List.getElem?_eq_getElem h0']
            generalize s.data.toList[0] = x
            by_cases hx : x = 48
            · subst hx; decide
            · rw [decide_eq_true (by simpa using hx)]
              exact bne_iff_ne.2 (fun e => hx (UInt8.toNat_inj.1 (by have : x.toNat = 48 := by omega
                                                                     rw [this]; rfl)))
          have HPL := Lib.hid hpl
          clear hz hnil hpl
          go_wp2
          go_ret
          exact ⟨congrArg (fun b => Ending.returned (.bool b)) (HPL.out _), by first | rfl | trivial⟩
end Go.Proofs.YtccokidhngdjnaaGreatDoor.Zd
namespace Go.Proofs.YtccokidhngdjnaaGreatDoor
open Go.RowKit

def rowB (l : List UInt8) : List Value := [strV l, .pointer none, .int .i64 0]
def rowX (g o : Nat) (least : Int) : List Value := [.string ⟨#[]⟩, .pointer (some ⟨g, o, none⟩), .int .i64 least]
/-- The rows of parts: what stands ahead, and the kid. -/
def partsR (g o : Nat) : Nat → List (List UInt8) → List (List Value)
  | _, [] => []
  | i, l :: A => rowB l :: rowX g (o + i * 8) 0 :: partsR g o (i + 1) A
theorem partsR_take (g o : Nat) : ∀ (A : List (List UInt8)) (i k : Nat) (l : List UInt8), A[k]? = some l → partsR g o i (A.take (k + 1)) = partsR g o i (A.take k) ++ [rowB l, rowX g (o + (i + k) * 8) 0]
  | [], i, k, l, h => by simp at h
  | x :: A, i, 0, l, h => by simp at h; subst h; simp [partsR]
  | x :: A, i, k + 1, l, h => by
    have := partsR_take g o A (i + 1) k l (by simpa using h)
    simp only [List.take_succ_cons, partsR, this, List.cons_append]
    rw [show i + 1 + k = i + (k + 1) by omega]
theorem partsR_len (g o : Nat) : ∀ (A : List (List UInt8)) (i : Nat), (partsR g o i A).length = 2 * A.length
  | [], i => rfl
  | x :: A, i => by simp only [partsR, List.length_cons, partsR_len g o A (i + 1)]; omega
set_option maxRecDepth 100000 in
set_option maxHeartbeats 16000000 in
theorem parts_c9 (S : Nat → Prop) (B b : Nat) (rows : List (List Value)) (fg fo gk ok kn ck gs os m cs : Nat) (A : List (List UInt8)) (w : World) (h : WrAt S B b w rows) (hl : rows.length ≤ 900000) (hA : A.length = m) (hm : m ≤ kn) (hk : kn ≤ 1000000) (hm9 : m ≤ 9)
    (c6 : w.cell? ⟨fg, fo + 6, none⟩ = some (.slice (some ⟨gk, ok, none⟩) kn ck)) (hSf : S fg) (hSs : S gs) (hs : ∀ (i : Nat) (l : List UInt8), A[i]? = some l → w.cell? ⟨gs, os + i, none⟩ = some (strV l)) :
    Calls Tryz.prog 106 #[.pointer (some ⟨b, 0, none⟩), .pointer (some ⟨fg, fo, none⟩), .slice (some ⟨gs, os, none⟩) m cs] w (PcPost S B b (rows ++ partsR gk ok 0 A) w) := by
  have HPUT := Lib.hid (fun rows s W h h2 => put_c9 S B b rows s W h h2)
  have HEXP := Lib.hid (fun rows a W h h2 => expr_c9 S B b rows a 0 W h h2)
  have HW := Lib.hid h; have HL := Lib.hid hl; have HA := Lib.hid hA; have HC6 := Lib.hid c6; have HS := Lib.hid hs; have HSF := Lib.hid hSf; have HSG := Lib.hid hSs
  have hbw : b < w.heap.size := by obtain ⟨v, hb, -⟩ := h; exact hlt hb
  have hfgw : fg < w.heap.size := by obtain ⟨v, -, -, -, -, -, -, hh⟩ := h; exact hh _ hSf
  have hgsw : gs < w.heap.size := by obtain ⟨v, -, -, -, -, -, -, hh⟩ := h; exact hh _ hSs
  have HBW := Lib.hid hbw; have HFW := Lib.hid hfgw; have HGW := Lib.hid hgsw
  have keep : ∀ W, Fr2 (fun k => ¬ S k) w W → W.cell? ⟨fg, fo + 6, none⟩ = some (.slice (some ⟨gk, ok, none⟩) kn ck) ∧ (∀ (i : Nat) (l : List UInt8), A[i]? = some l → W.cell? ⟨gs, os + i, none⟩ = some (strV l)) := fun W hf =>
    ⟨by rw [World.cell?_of_block (w := w) (hf.block fg hfgw (fun e => e hSf))]; exact c6, fun i l hi => by rw [World.cell?_of_block (w := w) (hf.block gs hgsw (fun e => e hSs))]; exact hs i l hi⟩
  have HKP := Lib.hid keep
  clear h hl hA c6 hs hSf hSs hbw hfgw hgsw keep
  go_enter Tryz.func106, Tryz.ntmps106
  go_wp2_with fail
  go_loopw [10] (fun iv wr => ∃ k : Nat, k ≤ m ∧ iv = .int .i64 k ∧ Hid (WrAt S B b wr (rows ++ partsR gk ok 0 (A.take k))) ∧ Hid (Fr2 (fun k => ¬ S k) w wr)) (fun iv _ => m - (intOf iv).toNat)
  case atStart => exact ⟨0, Nat.zero_le _, rfl, Lib.hid (by simpa [partsR] using HW.out), Lib.hid (Fr2.refl _ _)⟩
  case round =>
    obtain ⟨k, hkm, rfl, HWR, HF⟩ := hrel
    by_cases hlt : k < m
    · have y3 : decide ((k : Int) < (m : Int)) = true := decide_eq_true (by omega)
      have y4 : decide (k < m) = true := decide_eq_true hlt
      obtain ⟨l, hx⟩ : ∃ l, A[k]? = some l := ⟨A[k]'(by rw [HA.out]; exact hlt), List.getElem?_eq_getElem _⟩
      have HTK := Lib.hid (partsR_take gk ok A 0 k l hx)
      have ct := (HKP.out wr HF.out).2 k l hx
      have hgs : gs < wr.heap.size := Nat.lt_of_lt_of_le HGW.out HF.out.size
      unfold strV at ct
      have HLR : Hid ((rows ++ partsR gk ok 0 (A.take k)).length ≤ 900018) := Lib.hid (by rw [List.length_append, partsR_len, List.length_take]; have := HL.out; omega)
      clear hx
      go_wp2_with fail
      refine (HPUT.out _ _ wr HWR.out (by have := HLR.out; omega)).mono ?_
      rintro e w2 ⟨rfl, hw2, hf2⟩
      have HW2 := Lib.hid hw2; have HF2 := Lib.hid (HF.out.trans hf2)
      have c6 := (HKP.out w2 HF2.out).1
      have hfw : fg < w2.heap.size := Nat.lt_of_lt_of_le HFW.out HF2.out.size
      have z1 : (0 : Int) ≤ (k : Int) := by omega
      have z2 : (k : Int) < (kn : Int) := by omega
      have z3 : decide (k < kn) = true := decide_eq_true (by omega)
      clear hw2 hf2 ct
      go_wp2_with fail
      refine (HEXP.out _ _ w2 HW2.out (by have h := HLR.out; simp only [List.length_append, List.length_cons, List.length_nil] at h ⊢; omega)).mono ?_
      rintro e w3 ⟨rfl, hw3, hf3⟩
      have HF3 := Lib.hid (HF2.out.trans hf3)
      have HW3 : Hid (WrAt S B b w3 (rows ++ partsR gk ok 0 (A.take (k + 1)))) := Lib.hid (by
        rw [HTK.out, Nat.zero_add]
        simp only [List.append_assoc, List.cons_append, List.nil_append] at hw3 ⊢
        exact hw3)
      clear hw3 hf3 c6
      go_wp2_with fail
      go_roundw
      case rel => exact ⟨k + 1, by omega, by go_num, HW3, HF3⟩
      case measure => (simp [intOf] <;> omega)
    · obtain rfl : k = m := by omega
      have HWE : Hid (WrAt S B b wr (rows ++ partsR gk ok 0 A)) := Lib.hid (by
        have := HWR.out
        rwa [List.take_of_length_le (by rw [HA.out]; exact Nat.le_refl _)] at this)
      go_wp2_with fail
      go_end0
      exact ⟨rfl, HWE.out, HF.out⟩

/-- The rows of the first kids of a call, with what stands between. -/
def argsR (sep : List UInt8) (g o : Nat) : Nat → List (List Value)
  | 0 => []
  | k + 1 => argsR sep g o k ++ (if k = 0 then [] else [rowB sep]) ++ [rowX g (o + k * 8) 0]
theorem argsR_len (sep : List UInt8) (g o : Nat) : ∀ k, (argsR sep g o k).length ≤ 2 * k
  | 0 => Nat.le_refl _
  | k + 1 => by
    have := argsR_len sep g o k
    simp only [argsR, List.length_append, List.length_singleton]
    split <;> simp <;> omega
set_option maxRecDepth 100000 in
set_option maxHeartbeats 16000000 in
theorem kid_c9 (S : Nat → Prop) (B b cb : Nat) (rows : List (List Value)) (a : Option Addr) (w : World) (h : WrAt S B b w rows) (hl : rows.length ≤ 1000000) (hSc : S cb) (cc : w.cell? ⟨cb, 0, none⟩ = some (.pointer (some ⟨b, 0, none⟩))) :
    Calls Tryz.prog 133 #[.pointer a, .pointer (some ⟨cb, 0, none⟩)] w (PcPost S B b (rows ++ [[.string ⟨#[]⟩, .pointer a, .int .i64 0]]) w) := by
  have HEX := Lib.hid (expr_c9 S B b rows a 0 w h hl)
  have hcw : cb < w.heap.size := by obtain ⟨v, -, -, -, -, -, -, hh⟩ := h; exact hh _ hSc
  clear h
  go_enter Tryz.func133, Tryz.ntmps133
  go_wp2_with fail
  refine HEX.out.mono ?_
  rintro e w2 ⟨rfl, hw2, hf2⟩
  have HW2 := Lib.hid hw2; have HF2 := Lib.hid hf2
  clear hw2 hf2
  go_wp2_with fail
  go_end0
  exact ⟨rfl, HW2.out, HF2.out⟩
set_option maxRecDepth 100000 in
set_option maxHeartbeats 16000000 in
theorem list_c9 (S : Nat → Prop) (B b cb : Nat) (rows : List (List Value)) (sep : List UInt8) (gk ok n ck : Nat) (w : World) (h : WrAt S B b w rows) (hl : rows.length ≤ 900000) (hn : n ≤ 10) (hSc : S cb) (cc : w.cell? ⟨cb, 0, none⟩ = some (.pointer (some ⟨b, 0, none⟩))) :
    Calls Tryz.prog 132 #[.pointer (some ⟨b, 0, none⟩), .slice (some ⟨gk, ok, none⟩) n ck, .string ⟨sep.toArray⟩, .func (.func 133) #[] #[.pointer (some ⟨cb, 0, none⟩)]] w (PcPost S B b (rows ++ argsR sep gk ok n) w) := by
  have HPUT := Lib.hid (fun rows s W h h2 => put_c9 S B b rows s W h h2)
  have HKID := Lib.hid (fun rows a W h h2 h3 => kid_c9 S B b cb rows a W h h2 hSc h3)
  have HW := Lib.hid h; have HL := Lib.hid hl
  have hcw : cb < w.heap.size := by obtain ⟨v, -, -, -, -, -, -, hh⟩ := h; exact hh _ hSc
  have HKP : Hid (∀ W, Fr2 (fun k => ¬ S k) w W → W.cell? ⟨cb, 0, none⟩ = some (.pointer (some ⟨b, 0, none⟩))) := Lib.hid (fun W hf => by rw [World.cell?_of_block (w := w) (hf.block cb hcw (fun e => e hSc))]; exact cc)
  clear h hl cc hSc hcw
  go_enter Tryz.func132, Tryz.ntmps132
  go_wp2_with fail
  go_loopw [11] (fun iv wr => ∃ k : Nat, k ≤ n ∧ iv = .int .i64 k ∧ Hid (WrAt S B b wr (rows ++ argsR sep gk ok k)) ∧ Hid (Fr2 (fun k => ¬ S k) w wr)) (fun iv _ => n - (intOf iv).toNat)
  case atStart => exact ⟨0, Nat.zero_le _, rfl, Lib.hid (by simpa [argsR] using HW.out), Lib.hid (Fr2.refl _ _)⟩
  case round =>
    obtain ⟨k, hkm, rfl, HWR, HF⟩ := hrel
    by_cases hlt : k < n
    · have y3 : decide ((k : Int) < (n : Int)) = true := decide_eq_true (by omega)
      have y4 : decide (k < n) = true := decide_eq_true hlt
      have HLR : Hid ((rows ++ argsR sep gk ok k).length ≤ 900020) := Lib.hid (by have := argsR_len sep gk ok k; rw [List.length_append]; have := HL.out; omega)
      have z1 : (0 : Int) ≤ (k : Int) := by omega
      have z2 : (k : Int) < (n : Int) := by omega
      by_cases hk0 : k = 0
      · subst hk0
        go_wp2_with fail
        refine (HKID.out _ _ wr HWR.out (by have := HLR.out; omega) (HKP.out wr HF.out)).mono ?_
        rintro e w3 ⟨rfl, hw3, hf3⟩
        have HF3 := Lib.hid (HF.out.trans hf3)
        have HW3 : Hid (WrAt S B b w3 (rows ++ argsR sep gk ok (0 + 1))) := Lib.hid (by
          simpa [argsR, rowX] using hw3)
        clear hw3 hf3
        go_wp2_with fail
        go_roundw
        case rel => exact ⟨0 + 1, by omega, by go_num, HW3, HF3⟩
        case measure => (simp [intOf] <;> omega)
      · have x1 : decide ((0 : Int) < (k : Int)) = true := decide_eq_true (by omega)
        have x2 : decide (0 < k) = true := decide_eq_true (by omega)
        have HK0 := Lib.hid hk0
        clear hk0
        go_wp2_with fail
        refine (HPUT.out _ _ wr HWR.out (by have := HLR.out; omega)).mono ?_
        rintro e w2 ⟨rfl, hw2, hf2⟩
        have HW2 := Lib.hid hw2; have HF2 := Lib.hid (HF.out.trans hf2)
        clear hw2 hf2
        go_wp2_with fail
        refine (HKID.out _ _ w2 HW2.out (by have h := HLR.out; simp only [List.length_append, List.length_cons, List.length_nil] at h ⊢; omega) (HKP.out w2 HF2.out)).mono ?_
        rintro e w3 ⟨rfl, hw3, hf3⟩
        have HF3 := Lib.hid (HF2.out.trans hf3)
        have HW3 : Hid (WrAt S B b w3 (rows ++ argsR sep gk ok (k + 1))) := Lib.hid (by
          simp only [argsR, if_neg HK0.out, rowX, rowB, strV, List.append_assoc, List.cons_append, List.nil_append] at hw3 ⊢
          exact hw3)
        clear hw3 hf3
        go_wp2_with fail
        go_roundw
        case rel => exact ⟨k + 1, by omega, by go_num, HW3, HF3⟩
        case measure => (simp [intOf] <;> omega)
    · obtain rfl : k = n := by omega
      go_wp2_with fail
      go_end0
      exact ⟨rfl, HWR.out, HF.out⟩

theorem emp_dec (l : List UInt8) : l.isEmpty = decide (l = []) := by cases l <;> simp
set_option maxRecDepth 100000 in
set_option maxHeartbeats 16000000 in
theorem names_plain (op : Int) (hop : op = 3 ∨ op = 22) (a : Addr) (nm md : List UInt8) (w : World) (hla : LaidE w) (h0 : w.cell? a = some (.int .i64 op)) (g off : Nat) (ha : a = ⟨g, off, none⟩) (c1 : w.cell? ⟨g, off + 1, none⟩ = some (.string ⟨nm.toArray⟩)) (c2 : w.cell? ⟨g, off + 2, none⟩ = some (.string ⟨md.toArray⟩)) (h1 : nm.length ≤ 60000) :
    Calls Tryz.prog 70 #[.pointer (some a)] w (TruePost (plainB nm && decide (md = [])) w) := by
  subst ha
  have HN := Lib.hid (fun W h => Plain_c ⟨nm.toArray⟩ W (by show nm.length ≤ 60000; exact h1) h)
  have HLA := Lib.hid hla
  have e1 := emp_dec md
  obtain ⟨b1, hb1⟩ : ∃ b, plainB nm = b := ⟨_, rfl⟩
  obtain ⟨b2, hb2⟩ : ∃ b, decide (md = []) = b := ⟨_, rfl⟩
  have HB1 := Lib.hid hb1
  rw [hb2] at e1
  rw [hb1, hb2]
  clear hla h1 hb1 hb2
  have HC2 := Lib.hid c2
  rcases hop with rfl | rfl
  all_goals
    go_enter Tryz.func70, Tryz.ntmps70
    go_wp2_with (go_at_call 101; refine (HN.out _ HLA.out).mono ?_; rintro e w1 ⟨rfl, hg⟩; have HG := Lib.hid hg; have c2 := hg.cell HC2.out (by simp); rw [HB1.out]; clear hg; cases b1)
    all_goals
      go_wp2_with fail
      go_ret
      exact ⟨by simp, HG.out⟩
set_option maxRecDepth 100000 in
set_option maxHeartbeats 16000000 in
theorem names_call (a : Addr) (nm md : List UInt8) (w : World) (hla : LaidE w) (h0 : w.cell? a = some (.int .i64 24)) (g off : Nat) (ha : a = ⟨g, off, none⟩) (c1 : w.cell? ⟨g, off + 1, none⟩ = some (.string ⟨nm.toArray⟩)) (c2 : w.cell? ⟨g, off + 2, none⟩ = some (.string ⟨md.toArray⟩)) (h1 : nm.length ≤ 60000) (h2 : md.length ≤ 60000) :
    Calls Tryz.prog 70 #[.pointer (some a)] w (TruePost (plainB nm && (decide (md = []) || plainB md)) w) := by
  subst ha
  have HN := Lib.hid (fun W h => Plain_c ⟨nm.toArray⟩ W (by show nm.length ≤ 60000; exact h1) h)
  have HM := Lib.hid (fun W h => Plain_c ⟨md.toArray⟩ W (by show md.length ≤ 60000; exact h2) h)
  have HLA := Lib.hid hla
  have e1 := emp_dec md
  obtain ⟨b1, hb1⟩ : ∃ b, plainB nm = b := ⟨_, rfl⟩
  obtain ⟨b2, hb2⟩ : ∃ b, decide (md = []) = b := ⟨_, rfl⟩
  obtain ⟨b3, hb3⟩ : ∃ b, plainB md = b := ⟨_, rfl⟩
  have HB1 := Lib.hid hb1
  have HB3 := Lib.hid hb3
  rw [hb2] at e1
  rw [hb1, hb2, hb3]
  clear hla h1 h2 hb1 hb2 hb3
  have HC2 := Lib.hid c2
  cases b2
  · go_enter Tryz.func70, Tryz.ntmps70
    go_wp2_with fail
    refine (HN.out _ HLA.out).mono ?_
    rintro e w1 ⟨rfl, hg⟩
    have HG := Lib.hid hg
    have c2 := hg.cell HC2.out (by simp)
    rw [HB1.out]
    clear hg
    cases b1
    · go_wp2_with fail
      go_ret
      exact ⟨by simp, HG.out⟩
    · go_wp2_with fail
      refine (HM.out _ (HLA.out.kept HG.out)).mono ?_
      rintro e w2 ⟨rfl, hg2⟩
      have HG2 := Lib.hid hg2
      rw [HB3.out]
      clear hg2
      go_wp2_with fail
      go_ret
      exact ⟨by simp, gb_trans HG.out HG2.out⟩
  · go_enter Tryz.func70, Tryz.ntmps70
    go_wp2_with fail
    refine (HN.out _ HLA.out).mono ?_
    rintro e w1 ⟨rfl, hg⟩
    have HG := Lib.hid hg
    have c2 := hg.cell HC2.out (by simp)
    rw [HB1.out]
    clear hg
    cases b1
    all_goals
      go_wp2_with fail
      go_ret
      exact ⟨by simp, HG.out⟩
set_option maxRecDepth 100000 in
set_option maxHeartbeats 16000000 in
theorem names_none (op : Int) (hop : op ≠ 3 ∧ op ≠ 22 ∧ op ≠ 24) (a : Addr) (nm md : List UInt8) (w : World) (h0 : w.cell? a = some (.int .i64 op)) (g off : Nat) (ha : a = ⟨g, off, none⟩) (c1 : w.cell? ⟨g, off + 1, none⟩ = some (.string ⟨nm.toArray⟩)) (c2 : w.cell? ⟨g, off + 2, none⟩ = some (.string ⟨md.toArray⟩)) :
    Calls Tryz.prog 70 #[.pointer (some a)] w (TruePost (decide (nm = []) && decide (md = [])) w) := by
  subst ha
  have e1 := emp_dec md
  have e2 := emp_dec nm
  obtain ⟨b1, hb1⟩ : ∃ b, decide (nm = []) = b := ⟨_, rfl⟩
  obtain ⟨b2, hb2⟩ : ∃ b, decide (md = []) = b := ⟨_, rfl⟩
  rw [hb2] at e1
  rw [hb1] at e2
  rw [hb1, hb2]
  have d3 : (op == 3) = false := beq_eq_false_iff_ne.2 hop.1
  have d22 : (op == 22) = false := beq_eq_false_iff_ne.2 hop.2.1
  have d24 : (op == 24) = false := beq_eq_false_iff_ne.2 hop.2.2
  clear hb1 hb2 hop
  cases b1
  all_goals
    go_enter Tryz.func70, Tryz.ntmps70
    go_wp2_with fail
    go_ret
    exact ⟨by simp, gb_refl _ _⟩
/-- Its names alone: as the document says. -/
theorem rightNames_c (F : Nat → Prop) (a : Addr) (op : Int) (nm md : List UInt8) (nu : Int) (ys : Bool) (ks : List Sx) (ps : Int) (q : List Value) (w : World) (hla : LaidE w) (hc : CAt w a q) (hx : SAt F w (.mk op nm md nu ys ks ps) q) (h1 : nm.length ≤ 60000) (h2 : md.length ≤ 60000) :
    Calls Tryz.prog 70 #[.pointer (some a)] w (TruePost (namesB op nm md) w) := by
  simp only [SAt] at hx
  obtain ⟨s, pw, nw, cw, pk, ck, rows, rfl, -⟩ := hx
  obtain ⟨g, off, rfl, hg, hc⟩ := hc
  have c0 := hc 0 _ rfl
  have c1 := hc 1 _ rfl
  have c2 := hc 2 _ rfl
  rw [Nat.add_zero] at c0
  unfold strV at *
  unfold namesB
  by_cases hA : op = 3 ∨ op = 22
  · rw [if_pos hA]; exact names_plain op hA _ nm md w hla c0 g off rfl c1 c2 h1
  · rw [if_neg hA]
    by_cases hB : op = 24
    · rw [if_pos hB]; subst hB; exact names_call _ nm md w hla c0 g off rfl c1 c2 h1 h2
    · rw [if_neg hB]; exact names_none op ⟨fun e => hA (.inl e), fun e => hA (.inr e), hB⟩ _ nm md w c0 g off rfl c1 c2

theorem decL_len (N : Nat) : (Zd.decL N).length = Zd.nd N := by simp [Zd.decL]
theorem txt_small {Z : Int} (h0 : 0 ≤ Z) (h : (Zd.txtL Z).length ≤ 60) : Z.natAbs < 10 ^ 60 := by
  by_cases hz : Z = 0
  · subst hz; exact Nat.pow_pos (by omega)
  · have e : Zd.txtL Z = Zd.decL Z.natAbs := by unfold Zd.txtL; rw [if_neg hz, if_neg (by omega)]
    rw [e, decL_len] at h
    exact Nat.lt_of_lt_of_le (Zd.nd_lt _) (Nat.pow_le_pow_right (by omega) h)
theorem ten_two : 10 ^ 60 ≤ 2 ^ 200 := by decide
theorem bits_small {N n : Nat} (h : N < 10 ^ 60) (h2 : 2 ^ (n - 1) ≤ N) : n ≤ 240 := by
  have h3 : 2 ^ (n - 1) < 2 ^ 200 := Nat.lt_of_le_of_lt h2 (Nat.lt_of_lt_of_le h ten_two)
  have h4 := (Nat.pow_lt_pow_iff_right (by omega : 1 < 2)).1 h3
  omega
theorem sg_zero (Z : Int) : (Zd.sg Z == 0) = decide (Z = 0) := by
  unfold Zd.sg
  by_cases h : Z = 0
  · subst h; rfl
  · rw [decide_eq_false h]
    split
    · rfl
    · rfl
theorem sg_pos (Z : Int) : decide (0 ≤ Zd.sg Z) = decide (0 ≤ Z) := by
  unfold Zd.sg
  by_cases h : Z < 0
  · rw [if_pos h, decide_eq_false (by omega : ¬ 0 ≤ Z)]; rfl
  · rw [if_neg h, decide_eq_true (by omega : 0 ≤ Z)]; split <;> rfl
set_option maxRecDepth 100000 in
set_option maxHeartbeats 16000000 in
theorem num_other (op : Int) (hop : op ≠ 1) (g off : Nat) (nu : Int) (s : Bool) (pw : Option Addr) (nw cw : Nat) (w : World) (c0 : w.cell? ⟨g, off, none⟩ = some (.int .i64 op)) (c3 : w.cell? ⟨g, off + 3, none⟩ = some (.bool s)) (c4 : w.cell? ⟨g, off + 4, none⟩ = some (.slice pw nw cw)) (hi : Zd.IsInt w (.agg #[.bool s, .slice pw nw cw]) nu) :
    Calls Tryz.prog 71 #[.pointer (some ⟨g, off, none⟩)] w (TruePost (decide (nu = 0)) w) := by
  have HS := Lib.hid (Zd.Sign_c _ nu w hi)
  have d1 : (op == 1) = false := beq_eq_false_iff_ne.2 hop
  have d1' : (op != 1) = true := by rw [bne, d1]; rfl
  have c4' : w.cell? ⟨g, off + 3 + 1, none⟩ = some (.slice pw nw cw) := c4
  have HZ := Lib.hid (sg_zero nu)
  clear hi hop
  go_enter Tryz.func71, Tryz.ntmps71
  go_wp2_with fail
  refine HS.out.mono ?_
  rintro e w1 ⟨rfl, hg⟩
  have HG := Lib.hid hg
  clear hg
  go_wp2_with fail
  go_ret
  exact ⟨by rw [← HZ.out]; rfl, HG.out⟩
set_option maxRecDepth 100000 in
set_option maxHeartbeats 16000000 in
theorem num_lit (g off : Nat) (nu : Int) (s : Bool) (pw : Option Addr) (nw cw : Nat) (w : World) (c0 : w.cell? ⟨g, off, none⟩ = some (.int .i64 1)) (c3 : w.cell? ⟨g, off + 3, none⟩ = some (.bool s)) (c4 : w.cell? ⟨g, off + 4, none⟩ = some (.slice pw nw cw)) (hi : Zd.IsInt w (.agg #[.bool s, .slice pw nw cw]) nu) (hZ : nu.natAbs < Zd.Lim) :
    Calls Tryz.prog 71 #[.pointer (some ⟨g, off, none⟩)] w (TruePost (decide (0 ≤ nu) && decide ((Zd.txtL nu).length ≤ 60)) w) := by
  have HS := Lib.hid (Zd.Sign_c _ nu w hi)
  have HB := Lib.hid (fun W (h : w.grownBy W none) => Zd.Bits_c _ nu W (hi.kept h) hZ)
  have HT := Lib.hid (fun W (h : w.grownBy W none) => Zd.String_c _ nu W (hi.kept h) hZ)
  have HP := Lib.hid (sg_pos nu)
  have HSM := Lib.hid (fun h0 h => @txt_small nu h0 h)
  have c4' : w.cell? ⟨g, off + 3 + 1, none⟩ = some (.slice pw nw cw) := c4
  have HC3 := Lib.hid c3
  have HC4 := Lib.hid c4'
  have HX0 := Lib.hid c0
  clear hi hZ
  by_cases h0 : 0 ≤ nu
  · have d0 : decide (0 ≤ Zd.sg nu) = true := by rw [HP.out]; exact decide_eq_true h0
    rw [decide_eq_true h0]
    have HH0 := Lib.hid h0
    obtain ⟨sz, hsz⟩ : ∃ z, Zd.sg nu = z := ⟨_, rfl⟩
    rw [hsz] at HS d0
    obtain ⟨TX, hTX⟩ : ∃ z, Zd.txtL nu = z := ⟨_, rfl⟩
    have HTX := Lib.hid hTX
    have HV : Hid (Zd.txt nu = .string ⟨TX.toArray⟩) := Lib.hid (by unfold Zd.txt; rw [hTX])
    rw [hTX] at HSM ⊢
    clear h0 hsz HP hTX
    go_enter Tryz.func71, Tryz.ntmps71
    go_wp2_with fail
    refine HS.out.mono ?_
    rintro e w1 ⟨rfl, hg⟩
    have HG := Lib.hid hg
    have c3 := hg.cell HC3.out (by simp)
    have c4 := hg.cell HC4.out (by simp)
    clear hg
    go_wp2_with fail
    refine (HB.out _ HG.out).mono ?_
    rintro e w2 ⟨n, rfl, hn0, hn1, hg2⟩
    have HG2 := Lib.hid (gb_trans HG.out hg2)
    have c3 := HG2.out.cell HC3.out (by simp)
    have c4 := HG2.out.cell HC4.out (by simp)
    have HN0 := Lib.hid hn0; have HN1 := Lib.hid hn1
    clear hg2 hn0 hn1
    by_cases hn : n ≤ 240
    · have e1 : decide ((n : Int) ≤ 240) = true := decide_eq_true (by omega)
      have e2 : decide (n ≤ 240) = true := decide_eq_true hn
      clear hn
      go_wp2_with fail
      refine (HT.out _ HG2.out).mono ?_
      rintro e w3 ⟨rfl, hg3⟩
      have HG3 := Lib.hid (gb_trans HG2.out hg3)
      rw [HV.out]
      clear hg3
      have HL : Hid (decide ((TX.length : Int) ≤ 60) = decide (TX.length ≤ 60)) := Lib.hid (nat_ble TX.length 60)
      go_wp2_with fail
      go_ret
      exact ⟨by rw [Bool.true_and, ← HL.out]; rfl, HG3.out⟩
    · have e1 : decide ((n : Int) ≤ 240) = false := decide_eq_false (by omega)
      have e2 : decide (n ≤ 240) = false := decide_eq_false hn
      have hb : decide (TX.length ≤ 60) = false := decide_eq_false (fun h => by
        have h1 := HSM.out HH0.out h
        by_cases hz : nu = 0
        · have := HN0.out hz; omega
        · exact hn (bits_small h1 (HN1.out hz).1))
      have HBF := Lib.hid hb
      clear hn hb
      go_wp2_with fail
      go_ret
      exact ⟨by rw [HBF.out]; simp, HG2.out⟩
  · have d0 : decide (0 ≤ Zd.sg nu) = false := by rw [HP.out]; exact decide_eq_false h0
    rw [decide_eq_false h0]
    obtain ⟨sz, hsz⟩ : ∃ z, Zd.sg nu = z := ⟨_, rfl⟩
    rw [hsz] at HS d0
    clear h0 hsz HP
    go_enter Tryz.func71, Tryz.ntmps71
    go_wp2_with fail
    refine HS.out.mono ?_
    rintro e w1 ⟨rfl, hg⟩
    have HG := Lib.hid hg
    clear hg
    go_wp2_with fail
    go_ret
    exact ⟨by simp, HG.out⟩
theorem rightNumber_c (F : Nat → Prop) (a : Addr) (op : Int) (nm md : List UInt8) (nu : Int) (ys : Bool) (ks : List Sx) (ps : Int) (q : List Value) (w : World) (hc : CAt w a q) (hx : SAt F w (.mk op nm md nu ys ks ps) q) (hZ : nu.natAbs < Zd.Lim) :
    Calls Tryz.prog 71 #[.pointer (some a)] w (TruePost (numB op nu) w) := by
  simp only [SAt] at hx
  obtain ⟨s, pw, nw, cw, pk, ck, rows, rfl, hi, -⟩ := hx
  obtain ⟨g, off, rfl, hg, hc⟩ := hc
  have c0 := hc 0 _ rfl
  have c3 := hc 3 _ rfl
  have c4 := hc 4 _ rfl
  rw [Nat.add_zero] at c0
  unfold numB
  by_cases h1 : op = 1
  · subst h1; rw [if_pos rfl]; exact num_lit g off nu s pw nw cw w c0 c3 c4 hi hZ
  · rw [if_neg h1]; exact num_other op h1 g off nu s pw nw cw w c0 c3 c4 hi
end Go.Proofs.YtccokidhngdjnaaGreatDoor
