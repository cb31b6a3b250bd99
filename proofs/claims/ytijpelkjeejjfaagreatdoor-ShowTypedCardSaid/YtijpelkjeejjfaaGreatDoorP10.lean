/- Lemmas. -/
import Derived.Test.YtijpelkjeejjfaaGreatDoorP12
import Derived.Test.YtijpelkjeejjfaaGreatDoorP31
set_option linter.unusedVariables false
set_option linter.unusedSimpArgs false
namespace Go.Proofs.YtijpelkjeejjfaaGreatDoor

/-! ### Kids, each once -/

/-! ### The form of each node -/

/-! ### Leaves and dumps -/

/-- A part of a row. -/
def PartAt (N : List Nd) (b : Nat) (P : List Nd) : Prop := ∀ (j : Nat) (x : Nd), P[j]? = some x → N[b + j]? = some x
theorem PartAt.left {N : List Nd} {b : Nat} {P Q : List Nd} (h : PartAt N b (P ++ Q)) : PartAt N b P := fun j x hx => h j x (by rw [List.getElem?_append_left (List.getElem?_eq_some_iff.1 hx).1]; exact hx)
theorem PartAt.right {N : List Nd} {b : Nat} {P Q : List Nd} (h : PartAt N b (P ++ Q)) : PartAt N (b + P.length) Q := fun j x hx => by
  have := h (P.length + j) x (by rw [List.getElem?_append_right (by omega), Nat.add_sub_cancel_left]; exact hx)
  rw [Nat.add_assoc]; exact this
theorem part_self (N : List Nd) : PartAt N 0 N := fun j x hx => by rw [Nat.zero_add]; exact hx
/-! ### How long a dump is -/

end Go.Proofs.YtijpelkjeejjfaaGreatDoor
namespace Go.Proofs.YtijpelkjeejjfaaGreatDoor.Zd
open Go.RowKit Mx

theorem md_cons (t : List UInt8) : minus (45 :: t) = true ∧ digs (45 :: t) = t := by
  simp [minus, digs, Lib.hasPrefix, Lib.trimPrefix]
theorem md_other {x : UInt8} {t : List UInt8} (h : x.toNat ≠ 45) : minus (x :: t) = false ∧ digs (x :: t) = x :: t := by
  have hx : x ≠ 45 := fun e => h (by rw [e]; rfl)
  have h1 : Lib.hasPrefix (x :: t) [45] = false := by
    have : ((45 : UInt8) == x) = false := beq_eq_false_iff_ne.2 (fun e => hx e.symm)
    simp [Lib.hasPrefix, List.isPrefixOf, this]
  exact ⟨h1, by unfold digs Lib.trimPrefix; rw [h1]; rfl⟩

theorem md45 {l : List UInt8} (h : 0 < l.length) (hb : l[0].toNat = 45) : minus l = true ∧ digs l = l.drop 1 := by
  match l, h, hb with
  | x :: t, _, hb =>
    obtain rfl : x = 45 := UInt8.toNat_inj.1 hb
    exact md_cons t
theorem mdne {l : List UInt8} (h : 0 < l.length) (hb : l[0].toNat ≠ 45) : minus l = false ∧ digs l = l := by
  match l, h, hb with
  | x :: t, _, hb => exact md_other hb

/-- The j-th digit. -/
def dgt (D : List UInt8) (j : Nat) : Nat := (D.getD j 0).toNat - 48

theorem dgt_get {D : List UInt8} {j : Nat} (h : j < D.length) : dgt D j = D[j].toNat - 48 := by
  unfold dgt; rw [List.getD_eq_getElem?_getD, List.getElem?_eq_getElem h]; rfl

theorem valL_V (D : List UInt8) : ∀ k, k ≤ D.length → valL (D.take k) = V 10 (fun j => dgt D (k - 1 - j)) 0 k
  | 0, _ => by simp [valL, V]
  | k + 1, h => by
    rw [valL_take (by omega), valL_V D k (by omega), V_front, ← dgt_get]
    simp only [Nat.add_sub_cancel]
    rw [V_congr (f := fun j => dgt D (k - j)) (g := fun j => dgt D (k - 1 - j)) (o := 1) (p := 0) (fun j hj => by
      show dgt D (k - (1 + j)) = dgt D (k - 1 - (0 + j))
      congr 1; omega)]
    show _ = dgt D (k - 0) + _
    rw [Nat.sub_zero]; omega

theorem valL_all (D : List UInt8) : valL D = V 10 (fun j => dgt D (D.length - 1 - j)) 0 D.length := by
  have := valL_V D D.length (Nat.le_refl _)
  rwa [List.take_length] at this

theorem v10_pos {n : Nat} {f : Nat → Nat} (t : n = 0 ∨ f (n - 1) ≠ 0) : 0 < n ↔ V 10 f 0 n ≠ 0 := by
  constructor
  · intro h
    rcases V_top (b := 10) (f := f) (o := 0) (n := n) (by simpa using t) with e | e
    · omega
    · have := Nat.pow_pos (n := n - 1) (show 0 < 10 by omega); omega
  · intro h
    rcases Nat.eq_zero_or_pos n with e | e
    · subst e; exact absurd rfl h
    · exact e

theorem lim_le_pow {N k : Nat} (h : N ≤ Bw ^ k) (hk : k < LimN) : N < Lim := by
  unfold Lim
  exact Nat.lt_of_le_of_lt h (Nat.pow_lt_pow_right (by unfold Bw; omega) hk)

theorem valL_go (l : List UInt8) (h : ∀ b ∈ l, b.toNat ≤ 57) (a : Nat) : l.foldl (fun a b => 10 * a + (b.toNat - 48)) a < (a + 1) * 10 ^ l.length := by
  induction l generalizing a with
  | nil => simp
  | cons x xs ih =>
    have h1 := h x (by simp)
    have h2 := ih (fun b hb => h b (by simp [hb])) (10 * a + (x.toNat - 48))
    rw [List.foldl_cons, List.length_cons, Nat.pow_succ]
    refine Nat.lt_of_lt_of_le h2 ?_
    have h3 : 10 * a + (x.toNat - 48) + 1 ≤ (a + 1) * 10 := by omega
    calc (10 * a + (x.toNat - 48) + 1) * 10 ^ xs.length ≤ ((a + 1) * 10) * 10 ^ xs.length := Nat.mul_le_mul_right _ h3
      _ = (a + 1) * (10 ^ xs.length * 10) := by rw [Nat.mul_assoc, Nat.mul_comm 10]

theorem valL_lt {l : List UInt8} (h : plain l = true) : valL l < 10 ^ l.length := by
  have := valL_go l (fun b hb => by
    obtain ⟨j, hj, rfl⟩ := List.getElem_of_mem hb
    exact (plain_dig h j hj).2) 0
  simpa [valL] using this

theorem digs_le (l : List UInt8) : (digs l).length ≤ l.length := by
  unfold digs Lib.trimPrefix
  split
  · simp
  · exact Nat.le_refl _

/-- What is read from a text of k bytes is less than 10 to the power of k, and of 60. -/
theorem parseV_lt (l : List UInt8) : (parseV l).natAbs < 10 ^ l.length ∧ (parseV l).natAbs < 10 ^ 60 := by
  unfold parseV
  by_cases h : parseE l = 0
  · rw [if_pos h]
    have e : (sgn (minus l) (valL (digs l))).natAbs = valL (digs l) := by unfold sgn; split <;> simp
    rw [e]
    have h1 : plain (digs l) = true ∧ (digs l).length ≤ 60 := by
      unfold parseE at h
      by_cases h60 : 60 < (digs l).length
      · rw [if_pos h60] at h; omega
      · rw [if_neg h60] at h
        by_cases hp : plain (digs l) = false
        · rw [if_pos (.inl hp)] at h; omega
        · exact ⟨by simpa using hp, by omega⟩
    have h2 := valL_lt h1.1
    exact ⟨Nat.lt_of_lt_of_le h2 (Nat.pow_le_pow_right (by omega) (digs_le l)), Nat.lt_of_lt_of_le h2 (Nat.pow_le_pow_right (by omega) h1.2)⟩
  · rw [if_neg h]
    exact ⟨by simpa using Nat.pow_pos (by omega), by simp⟩

theorem parseV_lim (l : List UInt8) : (parseV l).natAbs < Lim := by
  refine lim_le_pow (k := 4) (Nat.le_of_lt (Nat.lt_of_lt_of_le (parseV_lt l).2 ?_)) (by unfold LimN; omega)
  have h1 : (10 : Nat) ^ 60 ≤ (10 ^ 19) ^ 4 := by rw [← Nat.pow_mul]; exact Nat.pow_le_pow_right (by omega) (by omega)
  exact Nat.le_trans h1 (Nat.pow_le_pow_left (by unfold Bw; omega) 4)

theorem decL_digits {D : List UInt8} (hp : ∀ j (hj : j < D.length), 48 ≤ D[j].toNat ∧ D[j].toNat ≤ 57) (h0 : 0 < D.length) (ht : D[0].toNat ≠ 48) : valL D ≠ 0 ∧ decL (valL D) = D := by
  have hv := valL_all D
  have hf : ∀ j, j < D.length → dgt D (D.length - 1 - j) < 10 := by
    intro j hj
    have hjl : D.length - 1 - j < D.length := by omega
    have := hp _ hjl
    rw [dgt_get hjl]; omega
  have htop : dgt D (D.length - 1 - (D.length - 1)) ≠ 0 := by
    rw [Nat.sub_self, dgt_get h0]
    have := hp 0 h0; omega
  have hne : valL D ≠ 0 := by
    rw [hv]; exact (v10_pos (f := fun j => dgt D (D.length - 1 - j)) (.inr htop)).1 h0
  obtain ⟨d1, d2⟩ := digits_of (f := fun j => dgt D (D.length - 1 - j)) hf h0 htop hv.symm
  refine ⟨hne, List.ext_getElem (by rw [decL_len, ← d1]) fun j h1 h2 => ?_⟩
  apply UInt8.toNat_inj.1
  rw [decL_get, ← d1, ← d2 (D.length - 1 - j) (by omega)]
  show 48 + dgt D (D.length - 1 - (D.length - 1 - j)) = _
  rw [show D.length - 1 - (D.length - 1 - j) = j by omega, dgt_get h2]
  have := hp j h2
  omega

theorem split_l (l : List UInt8) : l = if minus l then 45 :: digs l else digs l := by
  match l with
  | [] => rfl
  | x :: t =>
    by_cases hx : x.toNat = 45
    · obtain ⟨h1, h2⟩ := md45 (l := x :: t) (by simp) hx
      have : x = 45 := UInt8.toNat_inj.1 hx
      rw [h1, if_pos rfl, h2, this]; rfl
    · obtain ⟨h1, h2⟩ := mdne (l := x :: t) (by simp) hx
      rw [h1, h2]; rfl

theorem txtL_parse {l : List UInt8} (h : parseE l = 0) : txtL (parseV l) = l := by
  have hE := h
  unfold parseE at h
  by_cases h60 : 60 < (digs l).length
  · rw [if_pos h60] at h; cases h
  · rw [if_neg h60] at h
    by_cases hb : plain (digs l) = false ∨ (minus l = true ∧ digs l = [48])
    · rw [if_pos hb] at h; cases h
    · have hp : plain (digs l) = true := by
        rcases hp : plain (digs l) with _ | _
        · exact absurd (.inl hp) hb
        · rfl
      have hdig := plain_dig hp
      have hmz : ¬ (minus l = true ∧ digs l = [48]) := fun h => hb (.inr h)
      have hsp := split_l l
      unfold parseV
      rw [if_pos hE]
      by_cases hz : digs l = [48]
      · have hm : minus l = false := by
          rcases hm : minus l with _ | _
          · rfl
          · exact absurd ⟨hm, hz⟩ hmz
        rw [hm] at hsp
        simp only [Bool.false_eq_true, if_false] at hsp
        rw [hm, hz]
        rw [hz] at hsp
        rw [hsp]; rfl
      · have h0 : 0 < (digs l).length := by
          rcases Nat.eq_zero_or_pos (digs l).length with e | e
          · rw [List.eq_nil_of_length_eq_zero e] at hp; cases hp
          · exact e
        have ht : (digs l)[0].toNat ≠ 48 := by
          intro e
          have e0 : (digs l)[0] = 48 := UInt8.toNat_inj.1 e
          unfold plain at hp
          rw [decide_eq_false hz, List.head?_eq_getElem?, List.getElem?_eq_getElem h0, e0] at hp
          simp at hp
        obtain ⟨k1, k2⟩ := decL_digits hdig h0 ht
        rcases hm : minus l with _ | _
        · rw [hm] at hsp
          simp only [Bool.false_eq_true, if_false] at hsp
          show txtL ((valL (digs l) : Nat) : Int) = l
          rw [txt_pos k1, k2]; exact hsp.symm
        · rw [hm] at hsp
          simp only [if_true] at hsp
          show txtL (-((valL (digs l) : Nat) : Int)) = l
          rw [txt_neg k1, k2]; exact hsp.symm

end Go.Proofs.YtijpelkjeejjfaaGreatDoor.Zd
namespace Go.Proofs.YtijpelkjeejjfaaGreatDoor
open Go.RowKit

/-- The number of an expression: of a Lit what its digits tell, else none. -/
def NumAt (F : Nat → Prop) (w : World) (op : Nat) (nu : List UInt8) (s : Bool) (p : Option Addr) (n c : Nat) : Prop :=
  if op = 1 then Zd.IsInt w (.agg #[.bool s, .slice p n c]) (Zd.parseV nu) ∧ Zd.parseE nu = 0 ∧ (0 < n → ∃ a, p = some a ∧ F a.block) else s = false ∧ p = none ∧ n = 0 ∧ c = 0
/-- A block of cells of which no string's bytes are part. -/
def FlatB (w : World) (g : Nat) : Prop := ∃ cs T, w.heap[g]? = some (.cells cs T (0, 0))
theorem FlatB.same {S : Nat → Prop} {w w' : World} {g : Nat} (h : FlatB w g) (hg : Fr2 S w w') (hS : ¬ S g) : FlatB w' g := by
  obtain ⟨cs, T, h⟩ := h
  exact ⟨cs, T, by rw [hg.block g (hlt h) hS]; exact h⟩
mutual
/-- Eight cells read as an expression; all its memory lies in F. -/
def EAt (F : Nat → Prop) (w : World) : Ex → List Value → Prop
  | .mk op nm md nu ys ks ps, q => ∃ s pw nw cw pk ck rows, q = [.int .i64 (op : Int), strV nm, strV md, .bool s, .slice pw nw cw, .bool ys, .slice pk ks.length ck, .int .i64 (ps : Int)] ∧ NumAt F w op nu s pw nw cw ∧ GAt 8 w pk rows ∧ LsE F w ks rows ∧ (ks ≠ [] → ∃ a, pk = some a ∧ F a.block ∧ FlatB w a.block)
def LsE (F : Nat → Prop) (w : World) : List Ex → List (List Value) → Prop
  | [], r => r = []
  | x :: l, r => ∃ q r', r = q :: r' ∧ EAt F w x q ∧ LsE F w l r'
end

theorem int_same {S : Nat → Prop} {w w' : World} {s : Bool} {p : Option Addr} {n c : Nat} {Z : Int} (h : Zd.IsInt w (.agg #[.bool s, .slice p n c]) Z) (hg : Fr2 S w w') (hS : 0 < n → ∀ a, p = some a → ¬ S a.block) : Zd.IsInt w' (.agg #[.bool s, .slice p n c]) Z := by
  obtain ⟨s', v, N, he, ⟨p', n', c', f, rfl, h1, h2, h3, h4⟩, r⟩ := h
  simp only [Value.agg.injEq, Array.mk.injEq, List.cons.injEq, Value.bool.injEq, Value.slice.injEq, and_true] at he
  obtain ⟨rfl, rfl, rfl, rfl⟩ := he
  refine ⟨s, _, N, rfl, ⟨p, n, c, f, rfl, h1, h2, ?_, h4⟩, r⟩
  rcases Nat.eq_zero_or_pos n with h0 | h0
  · exact .inl h0
  · obtain ⟨g, off, rfl, hl, hc⟩ := Or.resolve_left h3 (by omega)
    exact .inr ⟨g, off, rfl, Nat.lt_of_lt_of_le hl hg.size, fun j hj => by rw [World.cell?_of_block (w := w) (hg.block g hl (hS h0 _ rfl))]; exact hc j hj⟩
theorem NumAt.same {F S : Nat → Prop} {w w' : World} {op : Nat} {nu : List UInt8} {s : Bool} {p : Option Addr} {n c : Nat} (h : NumAt F w op nu s p n c) (hg : Fr2 S w w') (hS : ∀ k, F k → ¬ S k) : NumAt F w' op nu s p n c := by
  unfold NumAt at h ⊢
  split
  · rename_i ho
    rw [if_pos ho] at h
    exact ⟨int_same h.1 hg (fun h0 a ha => by obtain ⟨b, hb, hF⟩ := h.2.2 h0; rw [ha] at hb; injection hb with hb; subst hb; exact hS _ hF), h.2⟩
  · rename_i ho
    rw [if_neg ho] at h; exact h
theorem NumAt.mono {F F' : Nat → Prop} {w : World} {op : Nat} {nu : List UInt8} {s : Bool} {p : Option Addr} {n c : Nat} (h : NumAt F w op nu s p n c) (hF : ∀ k, F k → F' k) : NumAt F' w op nu s p n c := by
  unfold NumAt at h ⊢
  split
  · rename_i ho
    rw [if_pos ho] at h
    exact ⟨h.1, h.2.1, fun h0 => by obtain ⟨a, ha, h1⟩ := h.2.2 h0; exact ⟨a, ha, hF _ h1⟩⟩
  · rename_i ho
    rw [if_neg ho] at h; exact h

theorem Ls_len {F : Nat → Prop} {w : World} : ∀ {l : List Ex} {r : List (List Value)}, LsE F w l r → r.length = l.length
  | [], r, h => by simp only [LsE] at h; rw [h]; rfl
  | x :: l, r, h => by
    simp only [LsE] at h
    obtain ⟨q, r', rfl, -, h2⟩ := h
    rw [List.length_cons, Ls_len h2]; rfl
theorem Ls_snoc {F : Nat → Prop} {w : World} {x : Ex} {q : List Value} (hx : EAt F w x q) : ∀ {l : List Ex} {r : List (List Value)}, LsE F w l r → LsE F w (l ++ [x]) (r ++ [q])
  | [], r, h => by simp only [LsE] at h; subst h; simp only [List.nil_append, LsE]; exact ⟨q, [], rfl, hx, rfl⟩
  | y :: l, r, h => by
    simp only [LsE] at h
    obtain ⟨q', r', rfl, h1, h2⟩ := h
    simp only [List.cons_append, LsE]
    exact ⟨q', _, rfl, h1, Ls_snoc hx h2⟩
theorem gat_same {S F : Nat → Prop} {w w' : World} {p : Option Addr} {rows : List (List Value)} {n : Nat} (hr : rows.length = n) (h : GAt 8 w p rows) (hF : 0 < n → ∃ a, p = some a ∧ F a.block) (hg : Fr2 S w w') (hS : ∀ k, F k → ¬ S k) : GAt 8 w' p rows :=
  h.keptS hg (fun h0 a ha => by
    obtain ⟨b, hb, h1⟩ := hF (by have := List.length_pos_iff.2 h0; omega)
    rw [ha] at hb; injection hb with hb; subst hb; exact hS _ h1)
mutual
theorem EAt.same {F S : Nat → Prop} {w w' : World} (hg : Fr2 S w w') (hS : ∀ k, F k → ¬ S k) : ∀ {x : Ex} {q : List Value}, EAt F w x q → EAt F w' x q
  | .mk op nm md nu ys ks ps, q, h => by
    simp only [EAt] at h ⊢
    obtain ⟨s, pw, nw, cw, pk, ck, rows, h1, h2, h3, h4, h5⟩ := h
    exact ⟨s, pw, nw, cw, pk, ck, rows, h1, h2.same hg hS, gat_same (Ls_len h4) h3 (fun h0 => by obtain ⟨a, ha, h6, -⟩ := h5 (List.length_pos_iff.1 h0); exact ⟨a, ha, h6⟩) hg hS, LsE.same hg hS h4, fun h0 => by obtain ⟨a, ha, h6, h7⟩ := h5 h0; exact ⟨a, ha, h6, h7.same hg (hS _ h6)⟩⟩
theorem LsE.same {F S : Nat → Prop} {w w' : World} (hg : Fr2 S w w') (hS : ∀ k, F k → ¬ S k) : ∀ {l : List Ex} {r : List (List Value)}, LsE F w l r → LsE F w' l r
  | [], r, h => by simp only [LsE] at h ⊢; exact h
  | x :: l, r, h => by
    simp only [LsE] at h ⊢
    obtain ⟨q, r', h1, h2, h3⟩ := h
    exact ⟨q, r', h1, EAt.same hg hS h2, LsE.same hg hS h3⟩
end
mutual
theorem EAt.mono {F F' : Nat → Prop} {w : World} (hF : ∀ k, F k → F' k) : ∀ {x : Ex} {q : List Value}, EAt F w x q → EAt F' w x q
  | .mk op nm md nu ys ks ps, q, h => by
    simp only [EAt] at h ⊢
    obtain ⟨s, pw, nw, cw, pk, ck, rows, h1, h2, h3, h4, h5⟩ := h
    exact ⟨s, pw, nw, cw, pk, ck, rows, h1, h2.mono hF, h3, LsE.mono hF h4, fun h0 => by obtain ⟨a, ha, h6, h7⟩ := h5 h0; exact ⟨a, ha, hF _ h6, h7⟩⟩
theorem LsE.mono {F F' : Nat → Prop} {w : World} (hF : ∀ k, F k → F' k) : ∀ {l : List Ex} {r : List (List Value)}, LsE F w l r → LsE F' w l r
  | [], r, h => by simp only [LsE] at h ⊢; exact h
  | x :: l, r, h => by
    simp only [LsE] at h ⊢
    obtain ⟨q, r', h1, h2, h3⟩ := h
    exact ⟨q, r', h1, EAt.mono hF h2, LsE.mono hF h3⟩
end
theorem LsE.kept {F : Nat → Prop} {w w' : World} {l : List Ex} {r : List (List Value)} (h : LsE F w l r) (hg : w.grownBy w' none) : LsE F w' l r := LsE.same (S := fun _ => False) (Fr2.none hg) (fun _ _ h => h) h

/-- What is answered where an expression is. -/
def ExPost (x : Ex) (w : World) (e : Ending) (w' : World) : Prop := w.grownBy w' none ∧ ∃ q, e = .returned (.agg q.toArray) ∧ EAt (fun k => w.heap.size ≤ k) w' x q

/-! ### Numbers' digits -/

theorem dig_nat {b : UInt8} (h : isDig b = true) : 48 ≤ b.toNat ∧ b.toNat ≤ 57 := by
  unfold isDig at h
  rw [Bool.and_eq_true] at h
  exact ⟨UInt8.le_iff_toNat_le.1 (of_decide_eq_true h.1), UInt8.le_iff_toNat_le.1 (of_decide_eq_true h.2)⟩
theorem num_parse {t : List UInt8} (h : numOk t) : Zd.parseE t = 0 ∧ Zd.txtL (Zd.parseV t) = t := by
  obtain ⟨h0, h60, hd, hz⟩ := h
  have hm : Zd.minus t = false ∧ Zd.digs t = t := Zd.mdne h0 (by have := dig_nat (hd _ (List.getElem_mem h0)); omega)
  have hp : Zd.plain t = true := by
    unfold Zd.plain
    rw [Bool.and_eq_true, List.all_eq_true]
    refine ⟨fun b hb => decide_eq_true (dig_nat (hd b hb)), ?_⟩
    rw [Bool.or_eq_true, Bool.and_eq_true]
    by_cases h1 : 1 < t.length
    · exact .inr ⟨decide_eq_true (List.length_pos_iff.1 h0), decide_eq_true (hz h1)⟩
    · obtain ⟨a, rfl⟩ : ∃ a, t = [a] := List.length_eq_one_iff.1 (by omega)
      by_cases ha : a = 48
      · subst ha; exact .inl rfl
      · exact .inr ⟨rfl, decide_eq_true (by simpa using ha)⟩
  have he : Zd.parseE t = 0 := by
    unfold Zd.parseE
    rw [hm.1, hm.2, if_neg (by omega), if_neg (by rw [hp]; simp)]
  exact ⟨he, Zd.txtL_parse he⟩

/-! ### Trees in a row of nodes -/

def TrAt (N : List Nd) (k : Int) (t : Tr) : Prop := ∃ b : Nat, k = ((b + szR t - 1 : Nat) : Int) ∧ PartAt N b (post b t)
def KT (N : List Nd) (n : Nat) (ks : List Int) (l : List Tr) : Prop := ks.length = l.length ∧ ∀ (j : Nat) (t : Tr), l[j]? = some t → ∃ k : Nat, ks[j]? = some (k : Int) ∧ TrAt N k t ∧ k < n
theorem TrAt.lf {N : List Nd} {k : Int} {i : Nat} (h : TrAt N k (.lf i)) : ∃ n : Nat, k = (n : Int) ∧ N[n]? = some ⟨19, (i : Int), []⟩ := by
  obtain ⟨b, rfl, h⟩ := h
  have := h 0 ⟨19, (i : Int), []⟩ (by simp [post])
  exact ⟨b, by simp only [szR]; omega, by simpa using this⟩
theorem kt_posts {N : List Nd} : ∀ (l : List Tr) (b n : Nat), b + szRs l ≤ n → PartAt N b (posts b l) → KT N n (idxs b l) l
  | [], b, n, _, _ => ⟨by simp [idxs], fun j t ht => by simp at ht⟩
  | t :: l, b, n, hn, h => by
    simp only [posts] at h
    simp only [szRs] at hn
    have h2 := h.right
    rw [post_len] at h2
    have ih := kt_posts l (b + szR t) n (by omega) h2
    have hp := szR_pos t
    refine ⟨by simp only [idxs, List.length_cons]; rw [ih.1], fun j u hu => ?_⟩
    match j, hu with
    | 0, hu =>
      simp at hu; subst hu
      exact ⟨b + szR t - 1, by simp [idxs], ⟨b, rfl, h.left⟩, by omega⟩
    | j + 1, hu =>
      obtain ⟨k, hk, hr⟩ := ih.2 j u (by simpa using hu)
      exact ⟨k, by simpa [idxs] using hk, hr⟩
theorem TrAt.nd {N : List Nd} {k : Int} {m : Nat} {l : List Tr} (h : TrAt N k (.nd m l)) : ∃ (n : Nat) (ks : List Int), k = (n : Int) ∧ N[n]? = some ⟨(m : Int), -1, ks⟩ ∧ KT N n ks l := by
  obtain ⟨b, rfl, h⟩ := h
  simp only [post] at h
  have h1 := h.right 0 ⟨(m : Int), -1, idxs b l⟩ (by simp)
  rw [posts_len] at h1
  refine ⟨b + szRs l, idxs b l, by simp only [szR]; omega, by simpa using h1, kt_posts l b _ (Nat.le_refl _) h.left⟩
theorem TrAt.root (t : Tr) : TrAt (post 0 t) ((szR t - 1 : Nat) : Int) t := ⟨0, by rw [Nat.zero_add], part_self _⟩

abbrev BldI (bb : Nat) (out : List Value) (w : World) : Prop := Lib.IsBuilder 91 5 bb bb out w
theorem WrAt.bld {S : Nat → Prop} {B b bb : Nat} {w : World} {R : List (List Value)} {out : List Value} (h : WrAt S B b w R) (hp : BldI bb out w) :
    ∃ S2 : Nat → Prop, (∀ k, S k → S2 k) ∧ WrAt S2 B b w R ∧ ∀ w', Fr2 (fun k => ¬ S2 k) w w' → BldI bb out w' := by
  have hv : ∃ p v, w.heap[bb]? = some (.cells #[p, v] 91 (0, 0)) ∧ w.ownsRow bb 5 1 v out.length out ∧ v.ownBlock ≠ some bb ∧ (p = .pointer none ∨ p = .pointer (some ⟨bb, 0, none⟩)) := by
    rcases hp with ⟨-, v, h1, h2, h3⟩ | ⟨-, v, h1, h2, h3⟩
    · exact ⟨_, v, h1, h2, h3, .inl rfl⟩
    · exact ⟨_, v, h1, h2, h3, .inr rfl⟩
  obtain ⟨p, v, h1, h2, h3, h4⟩ := hv
  obtain ⟨u, hb, hO, hbB, hB, hSb, hSv, hSs⟩ := h
  refine ⟨fun k => S k ∨ k = bb ∨ v.ownBlock = some k, fun k hk => .inl hk, ⟨u, hb, hO, hbB, hB, fun e => ?_, fun k hk e => ?_, fun k hk => ?_⟩, fun w' hf => ?_⟩
  · rcases e with e | e | e
    · exact hSb e
    · subst e; rw [hb] at h1; simp at h1
    · exact Lib.ownBlock_ne h2 hb (by decide) e
  · obtain ⟨⟨-, ho⟩, -⟩ := hO
    rcases ho with ⟨rfl, -⟩ | ⟨g, cap, cur, rfl, -, hg, -⟩
    · simp [Value.ownBlock] at hk
    · have e2 : g = k := Option.some.inj (show some g = some k from hk)
      subst e2
      rcases e with e | e | e
      · exact hSv _ rfl e
      · subst e; rw [hg] at h1; simp at h1
      · exact Lib.ownBlock_ne h2 hg (by decide) e
  · rcases hk with hk | hk | hk
    · exact hSs k hk
    · subst hk; exact hlt h1
    · exact (h2.lt k hk).2
  · have h5 : w'.heap[bb]? = some (.cells #[p, v] 91 (0, 0)) := by rw [hf.block bb (hlt h1) (fun e => e (.inr (.inl rfl)))]; exact h1
    have h6 : w'.ownsRow bb 5 1 v out.length out := by
      refine ⟨h2.1, h2.2.imp id fun ⟨g, cap, cur, e, hh, hg, r⟩ => ⟨g, cap, cur, e, hh, ?_, r⟩⟩
      rw [hf.block g (hlt hg) (fun e9 => e9 (.inr (.inr (by rw [e]; rfl))))]; exact hg
    rcases h4 with rfl | rfl
    · exact .inl ⟨Nat.le_refl _, v, h5, h6, h3⟩
    · exact .inr ⟨Nat.le_refl _, v, h5, h6, h3⟩
theorem WrAt.wrote {S : Nat → Prop} {B b bb : Nat} {w w' : World} {R : List (List Value)} (h : WrAt S B b w R) (hk : OKept bb w w') (hl : Below bb w w') (hb9 : (w.heap[bb]?).isSome → ∃ p v, w.heap[bb]? = some (.cells #[p, v] 91 (0, 0))) : WrAt S B b w' R := by
  obtain ⟨u, hb, hO, hbB, hB, hSb, hSv, hSs⟩ := h
  have hbb : b ≠ bb := fun e => by subst e; obtain ⟨p, v, h⟩ := hb9 (by rw [hb]; rfl); rw [hb] at h; simp at h
  refine ⟨u, hk b _ _ hb (by decide) hbb, ⟨⟨hO.1.1, hO.1.2.imp id fun ⟨g, cap, cur, e, hh, hg, r⟩ => ⟨g, cap, cur, e, hh, ?_, r⟩⟩, hO.2⟩, hbB, Nat.le_trans hB hl.size, hSb, hSv, fun k hk => Nat.lt_of_lt_of_le (hSs k hk) hl.size⟩
  exact hk g _ _ hg (by decide) (fun e9 => by subst e9; obtain ⟨p, v, h⟩ := hb9 (by rw [hg]; rfl); rw [hg] at h; simp at h)
theorem BldI.cells {bb : Nat} {out : List Value} {w : World} (hp : BldI bb out w) : ∃ p v, w.heap[bb]? = some (.cells #[p, v] 91 (0, 0)) := by
  rcases hp with ⟨-, v, h1, -⟩ | ⟨-, v, h1, -⟩
  · exact ⟨_, v, h1⟩
  · exact ⟨_, v, h1⟩
theorem fr_below {S : Nat → Prop} {bb : Nat} {w w' : World} (h : Below bb w w') (hS : ∀ k, S k → k < bb) : Fr2 (fun k => ¬ S k) w w' :=
  ⟨h.os, h.tape, h.output, h.size, fun k _ hn => h.block k (Classical.byContradiction fun e => hn (fun hk => e (hS k hk)))⟩

mutual
def fitS : Sx → Prop
  | .mk op nm md nu _ ks _ => (1 ≤ op ∧ op ≤ 24 ∧ countB op ks.length = true ∧ nm.length ≤ 60000 ∧ md.length ≤ 60000 ∧ nu.natAbs < Zd.Lim) ∧ fitSs ks
def fitSs : List Sx → Prop
  | [] => True
  | x :: l => fitS x ∧ fitSs l
end
theorem fitSs_mem : ∀ {l : List Sx} {x : Sx}, fitSs l → x ∈ l → fitS x
  | [], x, _, h => by cases h
  | y :: l, x, hs, h => by
    simp only [fitSs] at hs
    rcases List.mem_cons.1 h with h | h
    · subst h; exact hs.1
    · exact fitSs_mem hs.2 h
def fitP : Pc → Prop
  | .bs _ => True
  | .ex x _ => fitS x
theorem fit_nil : fitS nilS := by
  simp only [nilS, fitS, fitSs]
  exact ⟨⟨by omega, by omega, by decide, by simp, by simp, by unfold Zd.Lim; exact Nat.pow_pos (by unfold Zd.Bw; omega)⟩, trivial⟩
theorem fit_kid {ks : List Sx} (h : fitSs ks) (j : Nat) : fitS (ks.getD j nilS) := by
  rw [List.getD_eq_getElem?_getD]
  cases hx : ks[j]? with
  | none => exact fit_nil
  | some x => exact fitSs_mem h (List.mem_of_getElem? hx)
theorem fit_args : ∀ {l : List Sx}, fitSs l → ∀ p ∈ argsP l, fitP p
  | [], h, p, hp => by simp [argsP] at hp
  | [x], h, p, hp => by
    simp only [argsP, List.mem_cons, List.not_mem_nil, or_false] at hp
    subst hp; simp only [fitSs] at h; exact h.1
  | x :: y :: l, h, p, hp => by
    have h2 : fitS x ∧ fitSs (y :: l) := by simp only [fitSs] at h ⊢; exact h
    simp only [argsP, List.mem_cons] at hp
    rcases hp with rfl | rfl | hp
    · exact h2.1
    · trivial
    · exact fit_args h2.2 p (by simpa [argsP] using hp)
theorem fit_ite {c : Prop} [Decidable c] {a b : List Pc} (ha : ∀ p ∈ a, fitP p) (hb : ∀ p ∈ b, fitP p) : ∀ p ∈ (if c then a else b), fitP p := by
  split
  · exact ha
  · exact hb
theorem fit_cons {a : Pc} {l : List Pc} (ha : fitP a) (hl : ∀ p ∈ l, fitP p) : ∀ p ∈ a :: l, fitP p := fun p hp => by
  rcases List.mem_cons.1 hp with rfl | hp
  · exact ha
  · exact hl p hp
theorem fit_app {a b : List Pc} (ha : ∀ p ∈ a, fitP p) (hb : ∀ p ∈ b, fitP p) : ∀ p ∈ a ++ b, fitP p := fun p hp => (List.mem_append.1 hp).elim (ha p) (hb p)
theorem fit_none : ∀ p ∈ ([] : List Pc), fitP p := fun p hp => by cases hp
theorem fit_bare {op : Int} {nm md : List UInt8} {nu : Int} {ys : Bool} {ks : List Sx} {ps : Int} (h : fitSs ks) : ∀ p ∈ bareP (.mk op nm md nu ys ks ps), fitP p := by
  have hb : ∀ s, fitP (.bs s) := fun _ => trivial
  have he : ∀ j n, fitP (.ex (ks.getD j nilS) n) := fun j n => fit_kid h j
  simp only [bareP]
  repeat' (first | exact fit_none | exact hb _ | exact he _ _ | exact fit_args h | refine fit_ite ?_ ?_ | refine fit_cons ?_ ?_ | refine fit_app ?_ ?_)
theorem fit_open {x : Sx} (h : fitS x) (least : Nat) : ∀ p ∈ openP x least, fitP p := by
  cases x with
  | mk op nm md nu ys ks ps =>
    simp only [fitS] at h
    have hb := fit_bare (op := op) (nm := nm) (md := md) (nu := nu) (ys := ys) (ps := ps) h.2
    intro p hp
    unfold openP at hp
    split at hp
    · rcases List.mem_append.1 hp with hp | hp
      · rcases List.mem_cons.1 hp with hp | hp
        · subst hp; trivial
        · exact hb p hp
      · rw [List.mem_singleton] at hp; subst hp; trivial
    · exact hb p hp

theorem WrAt.weak {S S2 : Nat → Prop} {B b : Nat} {w : World} {rows : List (List Value)} (h : WrAt S2 B b w rows) (hS : ∀ k, S k → S2 k) : WrAt S B b w rows := by
  obtain ⟨v, hb, hO, hbB, hB, hSb, hSv, hSs⟩ := h
  exact ⟨v, hb, hO, hbB, hB, fun e => hSb (hS _ e), fun k hk e => hSv k hk (hS _ e), fun k hk => hSs k (hS _ hk)⟩
theorem WrAt.len0 {S : Nat → Prop} {B b : Nat} {w : World} {rows : List (List Value)} (h : WrAt S B b w rows) : ∃ p c, w.cell? ⟨b, 0, none⟩ = some (.slice p rows.length c) := by
  obtain ⟨v, hb, hO, -⟩ := h
  obtain ⟨p, c, rfl, -⟩ := hO.is
  exact ⟨p, c, by rw [cell_of_row w b 0 _ _ (0, 0) hb]; rfl⟩
def RevW (S F : Nat → Prop) (B b bb : Nat) (R0 R1 : List (List Value)) (l : List Pc) (out : List Value) (w : World) (e : Ending) (w' : World) : Prop := e = .returned (.tuple #[]) ∧ WrAt S B b w' (R0 ++ R1.reverse) ∧ PcsAt F w' l.reverse R1.reverse ∧ BldI bb out w' ∧ Fr2 (fun k => ¬ S k) w w'
theorem rev_w (S F : Nat → Prop) (B b bb g n cap cap' : Nat) (R0 R1 : List (List Value)) (l : List Pc) (out : List Value) (w : World) (h : WrAt S B b w (R0 ++ R1)) (hp : PcsAt F w l R1) (hF : ∀ k, F k → S k) (hbl : BldI bb out w) (c0 : w.cell? ⟨b, 0, none⟩ = some (.slice (some ⟨g, 0, none⟩) n cap)) (hl : R1.length ≤ 1000000) :
    Calls Tryz.prog 40 #[.slice (some ⟨g, R0.length * 3, none⟩) R1.length cap'] w (RevW S F B b bb R0 R1 l out w) := by
  obtain ⟨d, rfl, hd⟩ := pcs_enc hp
  obtain ⟨S2, hS2, hW2, hk⟩ := h.bld hbl
  have := rev_c9 S2 B b R0 d g n cap cap' w hW2 c0 (by rw [List.length_map] at hl; exact hl)
  rw [List.length_map]
  refine this.mono ?_
  rintro e w' ⟨rfl, hw, hf⟩
  have hf2 : Fr2 (fun k => ¬ S k) w w' := hf.mono (fun k e h => e (hS2 k h))
  rw [List.map_reverse] at hw
  exact ⟨rfl, hw.weak hS2, (hp.rev).same hf2 (fun k hk e => e (hF k hk)), hk _ hf, hf2⟩
def OpenW (S F : Nat → Prop) (B b bb : Nat) (rows : List (List Value)) (ps : List Pc) (out : List Value) (w : World) (e : Ending) (w' : World) : Prop := e = .returned (.tuple #[]) ∧ ∃ R, WrAt S B b w' (rows ++ R) ∧ PcsAt F w' ps R ∧ BldI bb out w' ∧ Fr2 (fun k => ¬ S k) w w'
theorem open_w (S F : Nat → Prop) (B b bb : Nat) (rows : List (List Value)) (x : Sx) (least g o : Nat) (out : List Value) (w : World) (h : WrAt S B b w rows) (hl : rows.length ≤ 600000) (hp : PcAt F w (.ex x least) (rowX g o ((least : Nat) : Int))) (hfit : fitS x) (hF : ∀ k, F k → S k) (hSg : S 0) (hla : LaidW w) (hbl : BldI bb out w) :
    Calls Tryz.prog 42 #[.pointer (some ⟨b, 0, none⟩), .pointer (some ⟨g, o, none⟩), .int .i64 least] w (OpenW S F B b bb rows (openP x least) out w) := by
  obtain ⟨S2, hS2, hW2, hk⟩ := h.bld hbl
  obtain ⟨g', o', q, he, hFg, hgw, hx, hc⟩ := hp
  simp only [rowX, List.cons.injEq, Value.pointer.injEq, Option.some.injEq, Addr.mk.injEq, and_true, true_and] at he
  obtain ⟨rfl, rfl⟩ := he
  cases x with
  | mk op nm md nu ys ks ps =>
    simp only [fitS] at hfit
    obtain ⟨⟨a1, a2, a3, a4, a5, a6⟩, -⟩ := hfit
    refine (open_c9 S2 F B b rows g o least (.mk op nm md nu ys ks ps) q w hW2 hl (fun k hk => hS2 k (hF k hk)) (hS2 _ hSg) hla hx (hS2 _ (hF _ hFg)) hc a1 a2 a3 ⟨a4, a5, a6⟩).mono ?_
    rintro e w' ⟨rfl, R, hw, hp, hf⟩
    exact ⟨rfl, R, hw.weak hS2, hp, hk _ hf, hf.mono (fun k e h => e (hS2 k h))⟩

mutual
/-- Seven cells read as an expression of the document's, of any Op; all its memory lies in F. -/
def RSt (F : Nat → Prop) (w : World) : Sx → List Value → Prop
  | .mk op nm md nu ys ks ps, q => ∃ pk ck rows, q = [.int .i64 op, strV nm, strV md, strV (Zd.txtL nu), .bool ys, .slice pk ks.length ck, .int .i64 ps] ∧ GAt 7 w pk rows ∧ LsU F w ks rows ∧ (ks ≠ [] → ∃ a, pk = some a ∧ F a.block)
def LsU (F : Nat → Prop) (w : World) : List Sx → List (List Value) → Prop
  | [], r => r = []
  | x :: l, r => ∃ q r', r = q :: r' ∧ RSt F w x q ∧ LsU F w l r'
end
theorem RSt.len {F : Nat → Prop} {w : World} : ∀ {x : Sx} {q : List Value}, RSt F w x q → q.length = 7
  | .mk op nm md nu ys ks ps, q, h => by
    simp only [RSt] at h
    obtain ⟨pk, ck, rows, rfl, -⟩ := h
    rfl
theorem LsU.len {F : Nat → Prop} {w : World} : ∀ {l : List Sx} {r : List (List Value)}, LsU F w l r → r.length = l.length
  | [], r, h => by simp only [LsU] at h; rw [h]; rfl
  | x :: l, r, h => by
    simp only [LsU] at h
    obtain ⟨q, r', rfl, -, h2⟩ := h
    rw [List.length_cons, LsU.len h2]; rfl
theorem LsU.wid {F : Nat → Prop} {w : World} : ∀ {l : List Sx} {r : List (List Value)}, LsU F w l r → ∀ q ∈ r, q.length = 7
  | [], r, h => by simp only [LsU] at h; subst h; simp
  | x :: l, r, h => by
    simp only [LsU] at h
    obtain ⟨q, r', rfl, h1, h2⟩ := h
    intro z hz
    rcases List.mem_cons.1 hz with rfl | hz
    · exact h1.len
    · exact LsU.wid h2 z hz
theorem LsU.get {F : Nat → Prop} {w : World} : ∀ {l : List Sx} {r : List (List Value)} {j : Nat} {x : Sx}, LsU F w l r → l[j]? = some x → ∃ q, r[j]? = some q ∧ RSt F w x q
  | [], r, j, x, h, hx => by simp at hx
  | y :: l, r, j, x, h, hx => by
    simp only [LsU] at h
    obtain ⟨q, r', rfl, h1, h2⟩ := h
    match j, hx with
    | 0, hx => simp at hx; subst hx; exact ⟨q, rfl, h1⟩
    | j + 1, hx =>
      obtain ⟨q', hq, hr⟩ := LsU.get h2 (j := j) (by simpa using hx)
      exact ⟨q', by simpa using hq, hr⟩
theorem LsU.snoc {F : Nat → Prop} {w : World} {x : Sx} {q : List Value} (hx : RSt F w x q) : ∀ {l : List Sx} {r : List (List Value)}, LsU F w l r → LsU F w (l ++ [x]) (r ++ [q])
  | [], r, h => by simp only [LsU] at h; subst h; simp only [List.nil_append, LsU]; exact ⟨q, [], rfl, hx, rfl⟩
  | y :: l, r, h => by
    simp only [LsU] at h
    obtain ⟨q', r', rfl, h1, h2⟩ := h
    simp only [List.cons_append, LsU]
    exact ⟨q', _, rfl, h1, LsU.snoc hx h2⟩
theorem gat_sameU {S F : Nat → Prop} {w w' : World} {p : Option Addr} {rows : List (List Value)} {n : Nat} (hr : rows.length = n) (h : GAt 7 w p rows) (hF : 0 < n → ∃ a, p = some a ∧ F a.block) (hg : Fr2 S w w') (hS : ∀ k, F k → ¬ S k) : GAt 7 w' p rows :=
  h.keptS hg (fun h0 a ha => by
    obtain ⟨b, hb, h1⟩ := hF (by have := List.length_pos_iff.2 h0; omega)
    rw [ha] at hb; injection hb with hb; subst hb; exact hS _ h1)
mutual
theorem RSt.same {F S : Nat → Prop} {w w' : World} (hg : Fr2 S w w') (hS : ∀ k, F k → ¬ S k) : ∀ {x : Sx} {q : List Value}, RSt F w x q → RSt F w' x q
  | .mk op nm md nu ys ks ps, q, h => by
    simp only [RSt] at h ⊢
    obtain ⟨pk, ck, rows, h1, h3, h4, h5⟩ := h
    exact ⟨pk, ck, rows, h1, gat_sameU h4.len h3 (fun h0 => h5 (List.length_pos_iff.1 h0)) hg hS, LsU.same hg hS h4, h5⟩
theorem LsU.same {F S : Nat → Prop} {w w' : World} (hg : Fr2 S w w') (hS : ∀ k, F k → ¬ S k) : ∀ {l : List Sx} {r : List (List Value)}, LsU F w l r → LsU F w' l r
  | [], r, h => by simp only [LsU] at h ⊢; exact h
  | x :: l, r, h => by
    simp only [LsU] at h ⊢
    obtain ⟨q, r', h1, h2, h3⟩ := h
    exact ⟨q, r', h1, RSt.same hg hS h2, LsU.same hg hS h3⟩
end
mutual
theorem RSt.mono {F F' : Nat → Prop} {w : World} (hF : ∀ k, F k → F' k) : ∀ {x : Sx} {q : List Value}, RSt F w x q → RSt F' w x q
  | .mk op nm md nu ys ks ps, q, h => by
    simp only [RSt] at h ⊢
    obtain ⟨pk, ck, rows, h1, h3, h4, h5⟩ := h
    exact ⟨pk, ck, rows, h1, h3, LsU.mono hF h4, fun h0 => by obtain ⟨a, ha, h6⟩ := h5 h0; exact ⟨a, ha, hF _ h6⟩⟩
theorem LsU.mono {F F' : Nat → Prop} {w : World} (hF : ∀ k, F k → F' k) : ∀ {l : List Sx} {r : List (List Value)}, LsU F w l r → LsU F' w l r
  | [], r, h => by simp only [LsU] at h ⊢; exact h
  | x :: l, r, h => by
    simp only [LsU] at h ⊢
    obtain ⟨q, r', h1, h2, h3⟩ := h
    exact ⟨q, r', h1, RSt.mono hF h2, LsU.mono hF h3⟩
end
theorem RSt.kept {F : Nat → Prop} {w w' : World} {x : Sx} {q : List Value} (h : RSt F w x q) (hg : w.grownBy w' none) : RSt F w' x q := RSt.same (S := fun _ => False) (Fr2.none hg) (fun _ _ h => h) h
theorem LsU.kept {F : Nat → Prop} {w w' : World} {l : List Sx} {r : List (List Value)} (h : LsU F w l r) (hg : w.grownBy w' none) : LsU F w' l r := LsU.same (S := fun _ => False) (Fr2.none hg) (fun _ _ h => h) h

def grpT (T : List Tok) (nt : NxT) (s : St) : RT := ([.nd 12 ((leafT T s).1 ++ (nt.expr (leafT T s).2).1 ++ (mustT T [41] (nt.expr (leafT T s).2).2).1)], (mustT T [41] (nt.expr (leafT T s).2).2).2)
section
variable {T : List Tok} {nt : NxT} {s : St}
theorem atom_num (h : s.e = 0 ∧ (tokQ T s).kind = 3) : atomT T nt s = ([.nd 15 (leafT T s).1], (leafT T s).2) := by
  unfold atomT; rw [if_neg (by omega), if_pos h.2]
theorem tf_iff : ((isQ T [116, 114, 117, 101] s || isQ T [102, 97, 108, 115, 101] s) = true) ↔ (isQ T [116, 114, 117, 101] s = true ∨ isQ T [102, 97, 108, 115, 101] s = true) := Bool.or_eq_true_iff
theorem tf_no (h : (isQ T [116, 114, 117, 101] s || isQ T [102, 97, 108, 115, 101] s) = false) : ¬ (isQ T [116, 114, 117, 101] s = true ∨ isQ T [102, 97, 108, 115, 101] s = true) := fun e => by rw [tf_iff.2 e] at h; cases h
theorem atom_truth (h1 : ¬ (s.e = 0 ∧ (tokQ T s).kind = 3)) (h2 : (isQ T [116, 114, 117, 101] s || isQ T [102, 97, 108, 115, 101] s) = true) (he : s.e = 0) : atomT T nt s = ([.nd 16 (leafT T s).1], (leafT T s).2) := by
  unfold atomT; rw [if_neg (by omega), if_neg (fun e => h1 ⟨he, e⟩), if_pos (tf_iff.1 h2)]
theorem atom_res (he : s.e = 0) (h1 : ¬ (s.e = 0 ∧ (tokQ T s).kind = 3)) (h2 : (isQ T [116, 114, 117, 101] s || isQ T [102, 97, 108, 115, 101] s) = false) (h3 : s.inn = true ∧ isQ T [114, 101, 115] s = true) : atomT T nt s = ([.nd 17 (leafT T s).1], (leafT T s).2) := by
  unfold atomT; rw [if_neg (by omega), if_neg (fun e => h1 ⟨he, e⟩), if_neg (tf_no h2), if_pos h3]
theorem atom_grp (h1 : ¬ (s.e = 0 ∧ (tokQ T s).kind = 3)) (h2 : (isQ T [116, 114, 117, 101] s || isQ T [102, 97, 108, 115, 101] s) = false) (h3 : ¬ (s.inn = true ∧ isQ T [114, 101, 115] s = true)) (h4 : isQ T [40] s = true) : atomT T nt s = grpT T nt s := by
  have he := (is_kind h4).2
  unfold atomT; rw [if_neg (by omega), if_neg (fun e => h1 ⟨he, e⟩), if_neg (tf_no h2), if_neg h3, if_pos h4]; rfl
theorem atom_name (he : s.e = 0) (h1 : ¬ (s.e = 0 ∧ (tokQ T s).kind = 3)) (h2 : (isQ T [116, 114, 117, 101] s || isQ T [102, 97, 108, 115, 101] s) = false) (h3 : ¬ (s.inn = true ∧ isQ T [114, 101, 115] s = true)) (h4 : isQ T [40] s = false) (h5 : (tokQ T s).kind = 1) : atomT T nt s = nameT T nt s := by
  unfold atomT; rw [if_neg (by omega), if_neg (fun e => h1 ⟨he, e⟩), if_neg (tf_no h2), if_neg h3, if_neg (by rw [h4]; decide), if_pos h5]
theorem atom_none (h1 : ¬ (s.e = 0 ∧ (tokQ T s).kind = 3)) (h2 : (isQ T [116, 114, 117, 101] s || isQ T [102, 97, 108, 115, 101] s) = false) (h3 : ¬ (s.inn = true ∧ isQ T [114, 101, 115] s = true)) (h4 : isQ T [40] s = false) (h5 : ¬ (s.e = 0 ∧ (tokQ T s).kind = 1)) : Eqv ([], failQ T 22 s) (atomT T nt s) := by
  unfold atomT
  by_cases he : s.e ≠ 0
  · rw [if_pos he, fail_same T he]; exact Eqv.refl _
  · have he0 : s.e = 0 := by omega
    rw [if_neg he, if_neg (fun e => h1 ⟨he0, e⟩), if_neg (tf_no h2), if_neg h3, if_neg (by rw [h4]; decide), if_neg (fun e => h5 ⟨he0, e⟩)]; exact Eqv.refl _
end
end Go.Proofs.YtijpelkjeejjfaaGreatDoor
namespace Go.Proofs.YtijpelkjeejjfaaGreatDoor
open Go.RowKit

/-- A cell: its Op, the kids a call takes, its name, module, number's text, truth. -/
structure Cl where
  op : Int
  kids : Int
  nm : List UInt8
  md : List UInt8
  nu : List UInt8
  ys : Bool
def takesC (c : Cl) : Nat := if c.op ≤ 4 ∨ 24 < c.op then 0 else if c.op ≤ 6 then 1 else if c.op = 21 then 3 else if c.op = 24 then (min (max c.kids 0) 9).toNat else 2
def fitsC (c : Cl) : Bool := decide (c.nm.length ≤ 60) && decide (c.md.length ≤ 60) && decide (c.nu.length ≤ 80)
def numC (c : Cl) : Int := if c.op = 1 then Zd.parseV c.nu else 0
/-- What stands open behind a cell. -/
def stepC (o : List Sx) (c : Cl) : List Sx := o.take (o.length - takesC c) ++ [.mk c.op c.nm c.md (numC c) c.ys (o.drop (o.length - takesC c)) 0]
def stackC (l : List Cl) : List Sx := l.foldl stepC []
/-- The expression that a row tells; none, if it is too long, empty, or a cell doesn't fit. -/
def bothC (l : List Cl) : Option Sx := if 30 < l.length then none else if l.all fitsC then (stackC l).getLast? else none
theorem takesC_le (c : Cl) : takesC c ≤ 9 := by
  unfold takesC
  split
  · omega
  split
  · omega
  split
  · omega
  split
  · omega
  · omega
theorem sizSs_append (a b : List Sx) : sizSs (a ++ b) = sizSs a + sizSs b := by
  induction a with
  | nil => simp [sizSs]
  | cons x l ih => simp only [List.cons_append, sizSs, ih]; omega
theorem stepC_siz (o : List Sx) (c : Cl) : sizSs (stepC o c) = sizSs o + 1 := by
  unfold stepC
  have h := sizSs_append (o.take (o.length - takesC c)) (o.drop (o.length - takesC c))
  rw [List.take_append_drop] at h
  rw [sizSs_append, h]
  simp only [sizSs, sizS]; omega
theorem stackC_snoc (l : List Cl) (c : Cl) : stackC (l ++ [c]) = stepC (stackC l) c := by simp [stackC, List.foldl_append]
theorem foldC_siz : ∀ (l : List Cl) (o : List Sx), sizSs (l.foldl stepC o) = sizSs o + l.length
  | [], o => by simp
  | c :: l, o => by rw [List.foldl_cons, foldC_siz l, stepC_siz, List.length_cons]; omega
theorem stackC_siz (l : List Cl) : sizSs (stackC l) = l.length := by
  have := foldC_siz l []
  simp only [sizSs] at this
  unfold stackC; omega
theorem sizSs_len : ∀ l : List Sx, l.length ≤ sizSs l
  | [] => Nat.le_refl _
  | x :: l => by have := sizSs_len l; have := sizS_pos x; simp only [List.length_cons, sizSs]; omega
theorem stackC_len (l : List Cl) : (stackC l).length ≤ l.length := by have := sizSs_len (stackC l); rw [stackC_siz] at this; exact this
theorem bothC_siz {l : List Cl} {x : Sx} (h : bothC l = some x) : sizS x ≤ 30 := by
  unfold bothC at h
  split at h
  · simp at h
  · rename_i h30
    split at h
    · have h1 : x ∈ stackC l := List.mem_of_getLast? h
      obtain ⟨j, hj, rfl⟩ := List.getElem_of_mem h1
      have := sizSs_mem (List.getElem?_eq_getElem hj)
      rw [stackC_siz] at this; omega
    · simp at h

def cval (c : Cl) : Value := .agg #[.int .i64 c.op, .int .i64 c.kids, strV c.nm, strV c.md, strV c.nu, .bool c.ys]
set_option maxRecDepth 100000 in
set_option maxHeartbeats 16000000 in
theorem takes_c (c : Cl) (w : World) (hk : -9223372036854775808 ≤ c.kids ∧ c.kids < 9223372036854775808) : Calls Tryz.prog 13 #[cval c] w (NumPost (takesC c) w) := by
  obtain ⟨T, hT⟩ : ∃ T, takesC c = T := ⟨_, rfl⟩
  have HT := Lib.hid hT
  rw [hT]
  obtain ⟨op, kids, nm, md, nu, ys⟩ := c
  unfold takesC at hT
  unfold cval strV
  simp only at hT hk ⊢
  by_cases h4 : op ≤ 4
  · rw [if_pos (.inl h4)] at hT
    subst hT
    have d4 : decide (op ≤ 4) = true := decide_eq_true h4
    clear h4 HT
    go_enter Tryz.func13, Tryz.ntmps13
    go_wp2
    go_ret
    exact ⟨rfl, (by repeat (first | with_reducible exact gb_refl _ _ | with_reducible refine gb_drew ?_ | with_reducible refine gb_alloc ?_ _))⟩
  have d4 : decide (op ≤ 4) = false := decide_eq_false h4
  by_cases h24 : 24 < op
  · rw [if_pos (.inr h24)] at hT
    subst hT
    have d24 : decide (24 < op) = true := decide_eq_true h24
    clear h4 h24 HT
    go_enter Tryz.func13, Tryz.ntmps13
    go_wp2
    go_ret
    exact ⟨rfl, (by repeat (first | with_reducible exact gb_refl _ _ | with_reducible refine gb_drew ?_ | with_reducible refine gb_alloc ?_ _))⟩
  have d24 : decide (24 < op) = false := decide_eq_false h24
  rw [if_neg (by omega)] at hT
  by_cases h6 : op ≤ 6
  · rw [if_pos h6] at hT
    subst hT
    have d6 : decide (op ≤ 6) = true := decide_eq_true h6
    clear h4 h24 h6 HT
    go_enter Tryz.func13, Tryz.ntmps13
    go_wp2
    go_ret
    exact ⟨rfl, (by repeat (first | with_reducible exact gb_refl _ _ | with_reducible refine gb_drew ?_ | with_reducible refine gb_alloc ?_ _))⟩
  have d6 : decide (op ≤ 6) = false := decide_eq_false h6
  rw [if_neg h6] at hT
  by_cases h21 : op = 21
  · subst h21
    rw [if_pos rfl] at hT
    subst hT
    clear h4 h24 h6 HT d4 d6 d24
    go_enter Tryz.func13, Tryz.ntmps13
    go_wp2
    go_ret
    exact ⟨rfl, (by repeat (first | with_reducible exact gb_refl _ _ | with_reducible refine gb_drew ?_ | with_reducible refine gb_alloc ?_ _))⟩
  rw [if_neg h21] at hT
  have e21 : (op == 21) = false := beq_eq_false_iff_ne.2 h21
  by_cases hc : op = 24
  · subst hc
    rw [if_pos rfl] at hT
    have HT2 : Hid ((T : Int) = min (max kids 0) 9) := Lib.hid (by omega)
    clear h4 h24 h6 h21 e21 HT hT d4 d6 d24
    go_enter Tryz.func13, Tryz.ntmps13
    go_wp2
    go_ret
    exact ⟨by rw [HT2.out]; rfl, (by repeat (first | with_reducible exact gb_refl _ _ | with_reducible refine gb_drew ?_ | with_reducible refine gb_alloc ?_ _))⟩
  · rw [if_neg hc] at hT
    subst hT
    have e24 : (op == 24) = false := beq_eq_false_iff_ne.2 hc
    clear h4 h24 h6 h21 hc HT
    go_enter Tryz.func13, Tryz.ntmps13
    go_wp2
    go_ret
    exact ⟨rfl, (by repeat (first | with_reducible exact gb_refl _ _ | with_reducible refine gb_drew ?_ | with_reducible refine gb_alloc ?_ _))⟩
end Go.Proofs.YtijpelkjeejjfaaGreatDoor
