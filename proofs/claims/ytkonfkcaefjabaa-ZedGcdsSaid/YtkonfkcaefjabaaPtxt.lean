/- The text of a number that was read is what was read. -/
import Derived.Test.YtkonfkcaefjabaaRef2
import Derived.Test.YtkonfkcaefjabaaBounds
namespace Go.Proofs.Ytkonfkcaefjabaa
open Go.RowKit Mx

theorem txtL_pos {N : Nat} (h : N ≠ 0) : txtL (N : Int) = decL N := txt_pos h

theorem decL_digits {D : List UInt8} (hp : ∀ j (hj : j < D.length), 48 ≤ D[j].toNat ∧ D[j].toNat ≤ 57) (h0 : 0 < D.length) (ht : D[0].toNat ≠ 48) : valL D ≠ 0 ∧ decL (valL D) = D := by
  have hv := valL_all D
  have hf : ∀ j, j < D.length → dgt D (D.length - 1 - j) < 10 := by
    intro j hj
    have hjl : D.length - 1 - j < D.length := by omega
    have := hp _ hjl
    rw [dgt_get hjl]; omega
  have htop : dgt D (D.length - 1 - (D.length - 1)) ≠ 0 := by
    rw [Nat.sub_self, dgt_get h0]
    have := hp 0 h0; omega
  have hne : valL D ≠ 0 := by
    rw [hv]; exact (v10_pos (f := fun j => dgt D (D.length - 1 - j)) (.inr htop)).1 h0
  obtain ⟨d1, d2⟩ := digits_of (f := fun j => dgt D (D.length - 1 - j)) hf h0 htop hv.symm
  refine ⟨hne, List.ext_getElem (by rw [decL_len, ← d1]) fun j h1 h2 => ?_⟩
  apply UInt8.toNat_inj.1
  rw [decL_get, ← d1, ← d2 (D.length - 1 - j) (by omega)]
  show 48 + dgt D (D.length - 1 - (D.length - 1 - j)) = _
  rw [show D.length - 1 - (D.length - 1 - j) = j by omega, dgt_get h2]
  have := hp j h2
  omega

theorem split_l (l : List UInt8) : l = if minus l then 45 :: digs l else digs l := by
  match l with
  | [] => rfl
  | x :: t =>
    by_cases hx : x.toNat = 45
    · obtain ⟨h1, h2⟩ := md45 (l := x :: t) (by simp) hx
      have : x = 45 := UInt8.toNat_inj.1 hx
      rw [h1, if_pos rfl, h2, this]; rfl
    · obtain ⟨h1, h2⟩ := mdne (l := x :: t) (by simp) hx
      rw [h1, h2]; rfl

theorem txtL_parse {l : List UInt8} (h : parseE l = 0) : txtL (parseV l) = l := by
  have hE := h
  unfold parseE at h
  by_cases h60 : 60 < (digs l).length
  · rw [if_pos h60] at h; cases h
  · rw [if_neg h60] at h
    by_cases hb : plain (digs l) = false ∨ (minus l = true ∧ digs l = [48])
    · rw [if_pos hb] at h; cases h
    · have hp : plain (digs l) = true := by
        rcases hp : plain (digs l) with _ | _
        · exact absurd (.inl hp) hb
        · rfl
      have hdig := plain_dig hp
      have hmz : ¬ (minus l = true ∧ digs l = [48]) := fun h => hb (.inr h)
      have hsp := split_l l
      unfold parseV
      rw [if_pos hE]
      by_cases hz : digs l = [48]
      · have hm : minus l = false := by
          rcases hm : minus l with _ | _
          · rfl
          · exact absurd ⟨hm, hz⟩ hmz
        rw [hm] at hsp
        simp only [Bool.false_eq_true, if_false] at hsp
        rw [hm, hz]
        rw [hz] at hsp
        rw [hsp]; rfl
      · have h0 : 0 < (digs l).length := by
          rcases Nat.eq_zero_or_pos (digs l).length with e | e
          · rw [List.eq_nil_of_length_eq_zero e] at hp; cases hp
          · exact e
        have ht : (digs l)[0].toNat ≠ 48 := by
          intro e
          have e0 : (digs l)[0] = 48 := UInt8.toNat_inj.1 e
          unfold plain at hp
          rw [decide_eq_false hz, List.head?_eq_getElem?, List.getElem?_eq_getElem h0, e0] at hp
          simp at hp
        obtain ⟨k1, k2⟩ := decL_digits hdig h0 ht
        rcases hm : minus l with _ | _
        · rw [hm] at hsp
          simp only [Bool.false_eq_true, if_false] at hsp
          show txtL ((valL (digs l) : Nat) : Int) = l
          rw [txt_pos k1, k2]; exact hsp.symm
        · rw [hm] at hsp
          simp only [if_true] at hsp
          show txtL (-((valL (digs l) : Nat) : Int)) = l
          rw [txt_neg k1, k2]; exact hsp.symm

theorem txt_parse {s : ByteArray} (h : parseE s.data.toList = 0) : txt (parseV s.data.toList) = .string s := by
  unfold txt; rw [txtL_parse h]
end Go.Proofs.Ytkonfkcaefjabaa
