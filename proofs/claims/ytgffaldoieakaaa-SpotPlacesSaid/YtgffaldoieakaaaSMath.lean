/- Edits of a text, by lists of bytes. -/
namespace Go.Proofs.Ytgffaldoieakaaa

abbrev Ed := Int × ByteArray

/-- Are edits right, from a least place and with so much room? -/
def rightE (n : Nat) : Int → Int → List Ed → Bool
  | _, _, [] => true
  | a, b, e :: r => if e.1 < a ∨ (n : Int) < e.1 ∨ e.2.size = 0 ∨ b < (e.2.size : Int) then false else rightE n e.1 (b - e.2.size) r

def rightB (n : Nat) (l : List Ed) : Bool := if 65536 < n then false else rightE n 0 (65536 - n) l

/-- One edit put in: how much is copied, what has come out, the spans. -/
def putStep (s : List UInt8) (st : Nat × List UInt8 × List (Nat × Nat)) (e : Ed) : Nat × List UInt8 × List (Nat × Nat) :=
  let out := st.2.1 ++ (s.take e.1.toNat).drop st.1
  (e.1.toNat, out ++ e.2.data.toList, st.2.2 ++ [(out.length, out.length + e.2.size)])

def putSt (s : List UInt8) (l : List Ed) : Nat × List UInt8 × List (Nat × Nat) := l.foldl (putStep s) (0, [], [])

theorem putSt_snoc (s : List UInt8) (l : List Ed) (e : Ed) : putSt s (l ++ [e]) = putStep s (putSt s l) e := by
  unfold putSt; rw [List.foldl_append]; rfl

/-- The text with all edits. -/
def putL (s : List UInt8) (l : List Ed) : List UInt8 := (putSt s l).2.1 ++ s.drop (putSt s l).1

/-- All texts' sizes. -/
def sizes (l : List Ed) : Nat := (l.map fun e => e.2.size).sum

theorem sizes_snoc (l : List Ed) (e : Ed) : sizes (l ++ [e]) = sizes l + e.2.size := by simp [sizes]

theorem rightE_all {n : Nat} : ∀ {l : List Ed} {a b : Int}, 0 ≤ a → rightE n a b l = true → l.Pairwise (fun e f => e.1 ≤ f.1) ∧ (∀ e ∈ l, a ≤ e.1 ∧ 0 ≤ e.1 ∧ e.1 ≤ n ∧ 0 < e.2.size) ∧ ((sizes l : Nat) : Int) ≤ max b 0 := by
  intro l
  induction l with
  | nil => intro a b ha _; exact ⟨.nil, (fun e he => by cases he), by have : sizes [] = 0 := rfl; omega⟩
  | cons e r ih =>
    intro a b ha h
    unfold rightE at h
    split at h
    · cases h
    · rename_i hn
      obtain ⟨h1, h2, h3⟩ := ih (a := e.1) (b := b - e.2.size) (by omega) h
      refine ⟨List.pairwise_cons.2 ⟨fun f hf => (h2 f hf).1, h1⟩, fun f hf => ?_, ?_⟩
      · rcases List.mem_cons.1 hf with rfl | hf
        · omega
        · have := h2 f hf; omega
      · have : sizes (e :: r) = e.2.size + sizes r := by simp [sizes]
        omega

theorem rightB_all {n : Nat} {l : List Ed} (h : rightB n l = true) : n ≤ 65536 ∧ l.Pairwise (fun e f => e.1 ≤ f.1) ∧ (∀ e ∈ l, 0 ≤ e.1 ∧ e.1 ≤ n ∧ 0 < e.2.size) ∧ n + sizes l ≤ 65536 := by
  unfold rightB at h
  split at h
  · cases h
  · obtain ⟨h1, h2, h3⟩ := rightE_all (by omega) h
    exact ⟨by omega, h1, fun e he => (h2 e he).2, by omega⟩

/-- What stands behind k edits. -/
theorem putSt_inv {s : List UInt8} {l : List Ed} (hp : l.Pairwise (fun e f => e.1 ≤ f.1)) (hb : ∀ e ∈ l, 0 ≤ e.1 ∧ e.1 ≤ (s.length : Int) ∧ 0 < e.2.size) : ∀ k, k ≤ l.length →
    (putSt s (l.take k)).1 ≤ s.length ∧ (putSt s (l.take k)).2.1.length = (putSt s (l.take k)).1 + sizes (l.take k) ∧ (putSt s (l.take k)).2.2.length = k ∧ (∀ j e, k ≤ j → l[j]? = some e → (putSt s (l.take k)).1 ≤ e.1.toNat) := by
  intro k
  induction k with
  | zero => intro _; exact ⟨Nat.zero_le _, rfl, rfl, fun j e _ _ => Nat.zero_le _⟩
  | succ k ih =>
    intro hk
    obtain ⟨i1, i2, i3, i4⟩ := ih (by omega)
    obtain ⟨e, he⟩ : ∃ e, l[k]? = some e := ⟨l[k], List.getElem?_eq_getElem (by omega)⟩
    have ht : l.take (k + 1) = l.take k ++ [e] := by rw [List.take_add_one, he]; rfl
    have hm := List.mem_of_getElem? he
    have hbe := hb e hm
    have h4 := i4 k e (Nat.le_refl _) he
    have hd : ((s.take e.1.toNat).drop (putSt s (l.take k)).1).length = e.1.toNat - (putSt s (l.take k)).1 := by
      rw [List.length_drop, List.length_take]; omega
    rw [ht, putSt_snoc, sizes_snoc]
    refine ⟨by show e.1.toNat ≤ _; omega, ?_, ?_, ?_⟩
    · show ((putSt s (l.take k)).2.1 ++ (s.take e.1.toNat).drop (putSt s (l.take k)).1 ++ e.2.data.toList).length = e.1.toNat + _
      rw [List.length_append, List.length_append, hd, i2]
      have : e.2.data.toList.length = e.2.size := Array.length_toList
      omega
    · show ((putSt s (l.take k)).2.2 ++ [_]).length = k + 1
      rw [List.length_append, i3]; rfl
    · intro j f hj hf
      show e.1.toNat ≤ f.1.toNat
      have hjl : j < l.length := (List.getElem?_eq_some_iff.1 hf).1
      have h1 := List.pairwise_iff_getElem.1 hp k j (by omega) hjl (by omega)
      have e1 : l[k] = e := (List.getElem?_eq_some_iff.1 he).2
      have e2 : l[j] = f := (List.getElem?_eq_some_iff.1 hf).2
      rw [e1, e2] at h1
      omega
end Go.Proofs.Ytgffaldoieakaaa
