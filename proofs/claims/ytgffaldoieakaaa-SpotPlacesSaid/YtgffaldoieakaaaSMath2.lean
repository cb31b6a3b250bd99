/- Spans of a text, by lists of bytes. -/
import Derived.Test.YtgffaldoieakaaaSMath
namespace Go.Proofs.Ytgffaldoieakaaa

abbrev Sp := Int × Int

def withinE (n : Nat) : Int → List Sp → Bool
  | _, [] => true
  | a, e :: r => if e.1 < a ∨ e.2 ≤ e.1 ∨ (n : Int) < e.2 then false else withinE n e.2 r

def cutStep (s : List UInt8) (st : Nat × List UInt8) (e : Sp) : Nat × List UInt8 := (e.2.toNat, st.2 ++ (s.take e.1.toNat).drop st.1)
def cutSt (s : List UInt8) (l : List Sp) : Nat × List UInt8 := l.foldl (cutStep s) (0, [])
theorem cutSt_snoc (s : List UInt8) (l : List Sp) (e : Sp) : cutSt s (l ++ [e]) = cutStep s (cutSt s l) e := by
  unfold cutSt; rw [List.foldl_append]; rfl
def cutL (s : List UInt8) (l : List Sp) : List UInt8 := (cutSt s l).2 ++ s.drop (cutSt s l).1

/-- All spans' sizes. -/
def gone (l : List Sp) : Nat := (l.map fun e => e.2.toNat - e.1.toNat).sum
theorem gone_snoc (l : List Sp) (e : Sp) : gone (l ++ [e]) = gone l + (e.2.toNat - e.1.toNat) := by simp [gone]

theorem withinE_all {n : Nat} : ∀ {l : List Sp} {a : Int}, 0 ≤ a → withinE n a l = true → l.Pairwise (fun e f => e.2 ≤ f.1) ∧ ∀ e ∈ l, a ≤ e.1 ∧ 0 ≤ e.1 ∧ e.1 < e.2 ∧ e.2 ≤ n := by
  intro l
  induction l with
  | nil => intro a ha _; exact ⟨.nil, (fun e he => by cases he)⟩
  | cons e r ih =>
    intro a ha h
    unfold withinE at h
    split at h
    · cases h
    · rename_i hn
      obtain ⟨h1, h2⟩ := ih (a := e.2) (by omega) h
      refine ⟨List.pairwise_cons.2 ⟨fun f hf => (h2 f hf).1, h1⟩, fun f hf => ?_⟩
      rcases List.mem_cons.1 hf with rfl | hf
      · omega
      · have := h2 f hf; omega

/-- What stands behind k spans. -/
theorem cutSt_inv {s : List UInt8} {l : List Sp} (hp : l.Pairwise (fun e f => e.2 ≤ f.1)) (hb : ∀ e ∈ l, 0 ≤ e.1 ∧ e.1 < e.2 ∧ e.2 ≤ (s.length : Int)) : ∀ k, k ≤ l.length →
    (cutSt s (l.take k)).1 ≤ s.length ∧ (cutSt s (l.take k)).2.length + gone (l.take k) = (cutSt s (l.take k)).1 ∧ (∀ j e, k ≤ j → l[j]? = some e → (cutSt s (l.take k)).1 ≤ e.1.toNat) := by
  intro k
  induction k with
  | zero => intro _; exact ⟨Nat.zero_le _, rfl, fun j e _ _ => Nat.zero_le _⟩
  | succ k ih =>
    intro hk
    obtain ⟨i1, i2, i4⟩ := ih (by omega)
    obtain ⟨e, he⟩ : ∃ e, l[k]? = some e := ⟨l[k], List.getElem?_eq_getElem (by omega)⟩
    have ht : l.take (k + 1) = l.take k ++ [e] := by rw [List.take_add_one, he]; rfl
    have hm := List.mem_of_getElem? he
    have hbe := hb e hm
    have h4 := i4 k e (Nat.le_refl _) he
    have hd : ((s.take e.1.toNat).drop (cutSt s (l.take k)).1).length = e.1.toNat - (cutSt s (l.take k)).1 := by
      rw [List.length_drop, List.length_take]; omega
    rw [ht, cutSt_snoc, gone_snoc]
    refine ⟨by show e.2.toNat ≤ _; omega, ?_, ?_⟩
    · show ((cutSt s (l.take k)).2 ++ (s.take e.1.toNat).drop (cutSt s (l.take k)).1).length + _ = e.2.toNat
      rw [List.length_append, hd]
      omega
    · intro j f hj hf
      show e.2.toNat ≤ f.1.toNat
      have hjl : j < l.length := (List.getElem?_eq_some_iff.1 hf).1
      have h1 := List.pairwise_iff_getElem.1 hp k j (by omega) hjl (by omega)
      have e1 : l[k] = e := (List.getElem?_eq_some_iff.1 he).2
      have e2 : l[j] = f := (List.getElem?_eq_some_iff.1 hf).2
      rw [e1, e2] at h1
      omega

def pickB (s : ByteArray) (l : List Sp) : List ByteArray := l.map fun e => s.extract e.1.toNat e.2.toNat
end Go.Proofs.Ytgffaldoieakaaa
