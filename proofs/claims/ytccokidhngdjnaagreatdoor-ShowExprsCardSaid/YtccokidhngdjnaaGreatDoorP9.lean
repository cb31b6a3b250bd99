/- Lemmas. -/
import Derived.Test.YtccokidhngdjnaaGreatDoorP43
import Derived.Test.YtccokidhngdjnaaGreatDoorP44
import Derived.Test.YtccokidhngdjnaaGreatDoorP8
set_option linter.unusedVariables false
set_option linter.unusedSimpArgs false
namespace Go.Proofs.YtccokidhngdjnaaGreatDoor
open Go.RowKit

def toI (t : Tok) : TokI := ⟨(t.kind : Int), t.lead, t.text, (t.pos : Int)⟩

/-! ### Kids, each once -/

/-! ### The form of each node -/

/-! ### Leaves and dumps -/

/-- A part of a row. -/
def PartAt (N : List Nd) (b : Nat) (P : List Nd) : Prop := ∀ (j : Nat) (x : Nd), P[j]? = some x → N[b + j]? = some x
theorem PartAt.left {N : List Nd} {b : Nat} {P Q : List Nd} (h : PartAt N b (P ++ Q)) : PartAt N b P := fun j x hx => h j x (by rw [List.getElem?_append_left (List.getElem?_eq_some_iff.1 hx).1]; exact hx)
theorem PartAt.right {N : List Nd} {b : Nat} {P Q : List Nd} (h : PartAt N b (P ++ Q)) : PartAt N (b + P.length) Q := fun j x hx => by
  have := h (P.length + j) x (by rw [List.getElem?_append_right (by omega), Nat.add_sub_cancel_left]; exact hx)
  rw [Nat.add_assoc]; exact this
theorem part_self (N : List Nd) : PartAt N 0 N := fun j x hx => by rw [Nat.zero_add]; exact hx
/-! ### How long a dump is -/

end Go.Proofs.YtccokidhngdjnaaGreatDoor
namespace Go.Proofs.YtccokidhngdjnaaGreatDoor.Zd
open Go.RowKit Mx

theorem md_cons (t : List UInt8) : minus (45 :: t) = true ∧ digs (45 :: t) = t := by
  simp [minus, digs, Lib.hasPrefix, Lib.trimPrefix]
theorem md_other {x : UInt8} {t : List UInt8} (h : x.toNat ≠ 45) : minus (x :: t) = false ∧ digs (x :: t) = x :: t := by
  have hx : x ≠ 45 := fun e => h (by rw [e]; rfl)
  have h1 : Lib.hasPrefix (x :: t) [45] = false := by
    have : ((45 : UInt8) == x) = false := beq_eq_false_iff_ne.2 (fun e => hx e.symm)
    simp [Lib.hasPrefix, List.isPrefixOf, this]
  exact ⟨h1, by unfold digs Lib.trimPrefix; rw [h1]; rfl⟩

theorem md45 {l : List UInt8} (h : 0 < l.length) (hb : l[0].toNat = 45) : minus l = true ∧ digs l = l.drop 1 := by
  match l, h, hb with
  | x :: t, _, hb =>
    obtain rfl : x = 45 := UInt8.toNat_inj.1 hb
    exact md_cons t
theorem mdne {l : List UInt8} (h : 0 < l.length) (hb : l[0].toNat ≠ 45) : minus l = false ∧ digs l = l := by
  match l, h, hb with
  | x :: t, _, hb => exact md_other hb

/-- The j-th digit. -/
def dgt (D : List UInt8) (j : Nat) : Nat := (D.getD j 0).toNat - 48

theorem dgt_get {D : List UInt8} {j : Nat} (h : j < D.length) : dgt D j = D[j].toNat - 48 := by
  unfold dgt; rw [List.getD_eq_getElem?_getD, List.getElem?_eq_getElem h]; rfl

theorem valL_V (D : List UInt8) : ∀ k, k ≤ D.length → valL (D.take k) = V 10 (fun j => dgt D (k - 1 - j)) 0 k
  | 0, _ => by simp [valL, V]
  | k + 1, h => by
    rw [valL_take (by omega), valL_V D k (by omega), V_front, ← dgt_get]
    simp only [Nat.add_sub_cancel]
    rw [V_congr (f := fun j => dgt D (k - j)) (g := fun j => dgt D (k - 1 - j)) (o := 1) (p := 0) (fun j hj => by
      show dgt D (k - (1 + j)) = dgt D (k - 1 - (0 + j))
      congr 1; omega)]
    show _ = dgt D (k - 0) + _
    rw [Nat.sub_zero]; omega

theorem valL_all (D : List UInt8) : valL D = V 10 (fun j => dgt D (D.length - 1 - j)) 0 D.length := by
  have := valL_V D D.length (Nat.le_refl _)
  rwa [List.take_length] at this

theorem v10_pos {n : Nat} {f : Nat → Nat} (t : n = 0 ∨ f (n - 1) ≠ 0) : 0 < n ↔ V 10 f 0 n ≠ 0 := by
  constructor
  · intro h
    rcases V_top (b := 10) (f := f) (o := 0) (n := n) (by simpa using t) with e | e
    · omega
    · have := Nat.pow_pos (n := n - 1) (show 0 < 10 by omega); omega
  · intro h
    rcases Nat.eq_zero_or_pos n with e | e
    · subst e; exact absurd rfl h
    · exact e

theorem lim_le_pow {N k : Nat} (h : N ≤ Bw ^ k) (hk : k < LimN) : N < Lim := by
  unfold Lim
  exact Nat.lt_of_le_of_lt h (Nat.pow_lt_pow_right (by unfold Bw; omega) hk)

theorem valL_go (l : List UInt8) (h : ∀ b ∈ l, b.toNat ≤ 57) (a : Nat) : l.foldl (fun a b => 10 * a + (b.toNat - 48)) a < (a + 1) * 10 ^ l.length := by
  induction l generalizing a with
  | nil => simp
  | cons x xs ih =>
    have h1 := h x (by simp)
    have h2 := ih (fun b hb => h b (by simp [hb])) (10 * a + (x.toNat - 48))
    rw [List.foldl_cons, List.length_cons, Nat.pow_succ]
    refine Nat.lt_of_lt_of_le h2 ?_
    have h3 : 10 * a + (x.toNat - 48) + 1 ≤ (a + 1) * 10 := by omega
    calc (10 * a + (x.toNat - 48) + 1) * 10 ^ xs.length ≤ ((a + 1) * 10) * 10 ^ xs.length := Nat.mul_le_mul_right _ h3
      _ = (a + 1) * (10 ^ xs.length * 10) := by rw [Nat.mul_assoc, Nat.mul_comm 10]

theorem valL_lt {l : List UInt8} (h : plain l = true) : valL l < 10 ^ l.length := by
  have := valL_go l (fun b hb => by
    obtain ⟨j, hj, rfl⟩ := List.getElem_of_mem hb
    exact (plain_dig h j hj).2) 0
  simpa [valL] using this

theorem digs_le (l : List UInt8) : (digs l).length ≤ l.length := by
  unfold digs Lib.trimPrefix
  split
  · simp
  · exact Nat.le_refl _

/-- What is read from a text of k bytes is less than 10 to the power of k, and of 60. -/
theorem parseV_lt (l : List UInt8) : (parseV l).natAbs < 10 ^ l.length ∧ (parseV l).natAbs < 10 ^ 60 := by
  unfold parseV
  by_cases h : parseE l = 0
  · rw [if_pos h]
    have e : (sgn (minus l) (valL (digs l))).natAbs = valL (digs l) := by unfold sgn; split <;> simp
    rw [e]
    have h1 : plain (digs l) = true ∧ (digs l).length ≤ 60 := by
      unfold parseE at h
      by_cases h60 : 60 < (digs l).length
      · rw [if_pos h60] at h; omega
      · rw [if_neg h60] at h
        by_cases hp : plain (digs l) = false
        · rw [if_pos (.inl hp)] at h; omega
        · exact ⟨by simpa using hp, by omega⟩
    have h2 := valL_lt h1.1
    exact ⟨Nat.lt_of_lt_of_le h2 (Nat.pow_le_pow_right (by omega) (digs_le l)), Nat.lt_of_lt_of_le h2 (Nat.pow_le_pow_right (by omega) h1.2)⟩
  · rw [if_neg h]
    exact ⟨by simpa using Nat.pow_pos (by omega), by simp⟩

theorem parseV_lim (l : List UInt8) : (parseV l).natAbs < Lim := by
  refine lim_le_pow (k := 4) (Nat.le_of_lt (Nat.lt_of_lt_of_le (parseV_lt l).2 ?_)) (by unfold LimN; omega)
  have h1 : (10 : Nat) ^ 60 ≤ (10 ^ 19) ^ 4 := by rw [← Nat.pow_mul]; exact Nat.pow_le_pow_right (by omega) (by omega)
  exact Nat.le_trans h1 (Nat.pow_le_pow_left (by unfold Bw; omega) 4)

theorem decL_digits {D : List UInt8} (hp : ∀ j (hj : j < D.length), 48 ≤ D[j].toNat ∧ D[j].toNat ≤ 57) (h0 : 0 < D.length) (ht : D[0].toNat ≠ 48) : valL D ≠ 0 ∧ decL (valL D) = D := by
  have hv := valL_all D
  have hf : ∀ j, j < D.length → dgt D (D.length - 1 - j) < 10 := by
    intro j hj
    have hjl : D.length - 1 - j < D.length := by omega
    have := hp _ hjl
    rw [dgt_get hjl]; omega
  have htop : dgt D (D.length - 1 - (D.length - 1)) ≠ 0 := by
    rw [Nat.sub_self, dgt_get h0]
    have := hp 0 h0; omega
  have hne : valL D ≠ 0 := by
    rw [hv]; exact (v10_pos (f := fun j => dgt D (D.length - 1 - j)) (.inr htop)).1 h0
  obtain ⟨d1, d2⟩ := digits_of (f := fun j => dgt D (D.length - 1 - j)) hf h0 htop hv.symm
  refine ⟨hne, List.ext_getElem (by rw [decL_len, ← d1]) fun j h1 h2 => ?_⟩
  apply UInt8.toNat_inj.1
  rw [decL_get, ← d1, ← d2 (D.length - 1 - j) (by omega)]
  show 48 + dgt D (D.length - 1 - (D.length - 1 - j)) = _
  rw [show D.length - 1 - (D.length - 1 - j) = j by omega, dgt_get h2]
  have := hp j h2
  omega

theorem split_l (l : List UInt8) : l = if minus l then 45 :: digs l else digs l := by
  match l with
  | [] => rfl
  | x :: t =>
    by_cases hx : x.toNat = 45
    · obtain ⟨h1, h2⟩ := md45 (l := x :: t) (by simp) hx
      have : x = 45 := UInt8.toNat_inj.1 hx
      rw [h1, if_pos rfl, h2, this]; rfl
    · obtain ⟨h1, h2⟩ := mdne (l := x :: t) (by simp) hx
      rw [h1, h2]; rfl

theorem txtL_parse {l : List UInt8} (h : parseE l = 0) : txtL (parseV l) = l := by
  have hE := h
  unfold parseE at h
  by_cases h60 : 60 < (digs l).length
  · rw [if_pos h60] at h; cases h
  · rw [if_neg h60] at h
    by_cases hb : plain (digs l) = false ∨ (minus l = true ∧ digs l = [48])
    · rw [if_pos hb] at h; cases h
    · have hp : plain (digs l) = true := by
        rcases hp : plain (digs l) with _ | _
        · exact absurd (.inl hp) hb
        · rfl
      have hdig := plain_dig hp
      have hmz : ¬ (minus l = true ∧ digs l = [48]) := fun h => hb (.inr h)
      have hsp := split_l l
      unfold parseV
      rw [if_pos hE]
      by_cases hz : digs l = [48]
      · have hm : minus l = false := by
          rcases hm : minus l with _ | _
          · rfl
          · exact absurd ⟨hm, hz⟩ hmz
        rw [hm] at hsp
        simp only [Bool.false_eq_true, if_false] at hsp
        rw [hm, hz]
        rw [hz] at hsp
        rw [hsp]; rfl
      · have h0 : 0 < (digs l).length := by
          rcases Nat.eq_zero_or_pos (digs l).length with e | e
          · rw [List.eq_nil_of_length_eq_zero e] at hp; cases hp
          · exact e
        have ht : (digs l)[0].toNat ≠ 48 := by
          intro e
          have e0 : (digs l)[0] = 48 := UInt8.toNat_inj.1 e
          unfold plain at hp
          rw [decide_eq_false hz, List.head?_eq_getElem?, List.getElem?_eq_getElem h0, e0] at hp
          simp at hp
        obtain ⟨k1, k2⟩ := decL_digits hdig h0 ht
        rcases hm : minus l with _ | _
        · rw [hm] at hsp
          simp only [Bool.false_eq_true, if_false] at hsp
          show txtL ((valL (digs l) : Nat) : Int) = l
          rw [txt_pos k1, k2]; exact hsp.symm
        · rw [hm] at hsp
          simp only [if_true] at hsp
          show txtL (-((valL (digs l) : Nat) : Int)) = l
          rw [txt_neg k1, k2]; exact hsp.symm

end Go.Proofs.YtccokidhngdjnaaGreatDoor.Zd
namespace Go.Proofs.YtccokidhngdjnaaGreatDoor
open Go.RowKit

/-- The number of an expression: of a Lit what its digits tell, else none. -/
def NumAt (F : Nat → Prop) (w : World) (op : Nat) (nu : List UInt8) (s : Bool) (p : Option Addr) (n c : Nat) : Prop :=
  if op = 1 then Zd.IsInt w (.agg #[.bool s, .slice p n c]) (Zd.parseV nu) ∧ Zd.parseE nu = 0 ∧ (0 < n → ∃ a, p = some a ∧ F a.block) else s = false ∧ p = none ∧ n = 0 ∧ c = 0
/-- A block of cells of which no string's bytes are part. -/
def FlatB (w : World) (g : Nat) : Prop := ∃ cs T, w.heap[g]? = some (.cells cs T (0, 0))
theorem FlatB.same {S : Nat → Prop} {w w' : World} {g : Nat} (h : FlatB w g) (hg : Fr2 S w w') (hS : ¬ S g) : FlatB w' g := by
  obtain ⟨cs, T, h⟩ := h
  exact ⟨cs, T, by rw [hg.block g (hlt h) hS]; exact h⟩
mutual
/-- Eight cells read as an expression; all its memory lies in F. -/
def EAt (F : Nat → Prop) (w : World) : Ex → List Value → Prop
  | .mk op nm md nu ys ks ps, q => ∃ s pw nw cw pk ck rows, q = [.int .i64 (op : Int), strV nm, strV md, .bool s, .slice pw nw cw, .bool ys, .slice pk ks.length ck, .int .i64 (ps : Int)] ∧ NumAt F w op nu s pw nw cw ∧ GAt 8 w pk rows ∧ LsE F w ks rows ∧ (ks ≠ [] → ∃ a, pk = some a ∧ F a.block ∧ FlatB w a.block)
def LsE (F : Nat → Prop) (w : World) : List Ex → List (List Value) → Prop
  | [], r => r = []
  | x :: l, r => ∃ q r', r = q :: r' ∧ EAt F w x q ∧ LsE F w l r'
end

theorem int_same {S : Nat → Prop} {w w' : World} {s : Bool} {p : Option Addr} {n c : Nat} {Z : Int} (h : Zd.IsInt w (.agg #[.bool s, .slice p n c]) Z) (hg : Fr2 S w w') (hS : 0 < n → ∀ a, p = some a → ¬ S a.block) : Zd.IsInt w' (.agg #[.bool s, .slice p n c]) Z := by
  obtain ⟨s', v, N, he, ⟨p', n', c', f, rfl, h1, h2, h3, h4⟩, r⟩ := h
  simp only [Value.agg.injEq, Array.mk.injEq, List.cons.injEq, Value.bool.injEq, Value.slice.injEq, and_true] at he
  obtain ⟨rfl, rfl, rfl, rfl⟩ := he
  refine ⟨s, _, N, rfl, ⟨p, n, c, f, rfl, h1, h2, ?_, h4⟩, r⟩
  rcases Nat.eq_zero_or_pos n with h0 | h0
  · exact .inl h0
  · obtain ⟨g, off, rfl, hl, hc⟩ := Or.resolve_left h3 (by omega)
    exact .inr ⟨g, off, rfl, Nat.lt_of_lt_of_le hl hg.size, fun j hj => by rw [World.cell?_of_block (w := w) (hg.block g hl (hS h0 _ rfl))]; exact hc j hj⟩
theorem NumAt.same {F S : Nat → Prop} {w w' : World} {op : Nat} {nu : List UInt8} {s : Bool} {p : Option Addr} {n c : Nat} (h : NumAt F w op nu s p n c) (hg : Fr2 S w w') (hS : ∀ k, F k → ¬ S k) : NumAt F w' op nu s p n c := by
  unfold NumAt at h ⊢
  split
  · rename_i ho
    rw [if_pos ho] at h
    exact ⟨int_same h.1 hg (fun h0 a ha => by obtain ⟨b, hb, hF⟩ := h.2.2 h0; rw [ha] at hb; injection hb with hb; subst hb; exact hS _ hF), h.2⟩
  · rename_i ho
    rw [if_neg ho] at h; exact h
theorem NumAt.mono {F F' : Nat → Prop} {w : World} {op : Nat} {nu : List UInt8} {s : Bool} {p : Option Addr} {n c : Nat} (h : NumAt F w op nu s p n c) (hF : ∀ k, F k → F' k) : NumAt F' w op nu s p n c := by
  unfold NumAt at h ⊢
  split
  · rename_i ho
    rw [if_pos ho] at h
    exact ⟨h.1, h.2.1, fun h0 => by obtain ⟨a, ha, h1⟩ := h.2.2 h0; exact ⟨a, ha, hF _ h1⟩⟩
  · rename_i ho
    rw [if_neg ho] at h; exact h

theorem Ls_len {F : Nat → Prop} {w : World} : ∀ {l : List Ex} {r : List (List Value)}, LsE F w l r → r.length = l.length
  | [], r, h => by simp only [LsE] at h; rw [h]; rfl
  | x :: l, r, h => by
    simp only [LsE] at h
    obtain ⟨q, r', rfl, -, h2⟩ := h
    rw [List.length_cons, Ls_len h2]; rfl
theorem Ls_snoc {F : Nat → Prop} {w : World} {x : Ex} {q : List Value} (hx : EAt F w x q) : ∀ {l : List Ex} {r : List (List Value)}, LsE F w l r → LsE F w (l ++ [x]) (r ++ [q])
  | [], r, h => by simp only [LsE] at h; subst h; simp only [List.nil_append, LsE]; exact ⟨q, [], rfl, hx, rfl⟩
  | y :: l, r, h => by
    simp only [LsE] at h
    obtain ⟨q', r', rfl, h1, h2⟩ := h
    simp only [List.cons_append, LsE]
    exact ⟨q', _, rfl, h1, Ls_snoc hx h2⟩
theorem gat_same {S F : Nat → Prop} {w w' : World} {p : Option Addr} {rows : List (List Value)} {n : Nat} (hr : rows.length = n) (h : GAt 8 w p rows) (hF : 0 < n → ∃ a, p = some a ∧ F a.block) (hg : Fr2 S w w') (hS : ∀ k, F k → ¬ S k) : GAt 8 w' p rows :=
  h.keptS hg (fun h0 a ha => by
    obtain ⟨b, hb, h1⟩ := hF (by have := List.length_pos_iff.2 h0; omega)
    rw [ha] at hb; injection hb with hb; subst hb; exact hS _ h1)
mutual
theorem EAt.same {F S : Nat → Prop} {w w' : World} (hg : Fr2 S w w') (hS : ∀ k, F k → ¬ S k) : ∀ {x : Ex} {q : List Value}, EAt F w x q → EAt F w' x q
  | .mk op nm md nu ys ks ps, q, h => by
    simp only [EAt] at h ⊢
    obtain ⟨s, pw, nw, cw, pk, ck, rows, h1, h2, h3, h4, h5⟩ := h
    exact ⟨s, pw, nw, cw, pk, ck, rows, h1, h2.same hg hS, gat_same (Ls_len h4) h3 (fun h0 => by obtain ⟨a, ha, h6, -⟩ := h5 (List.length_pos_iff.1 h0); exact ⟨a, ha, h6⟩) hg hS, LsE.same hg hS h4, fun h0 => by obtain ⟨a, ha, h6, h7⟩ := h5 h0; exact ⟨a, ha, h6, h7.same hg (hS _ h6)⟩⟩
theorem LsE.same {F S : Nat → Prop} {w w' : World} (hg : Fr2 S w w') (hS : ∀ k, F k → ¬ S k) : ∀ {l : List Ex} {r : List (List Value)}, LsE F w l r → LsE F w' l r
  | [], r, h => by simp only [LsE] at h ⊢; exact h
  | x :: l, r, h => by
    simp only [LsE] at h ⊢
    obtain ⟨q, r', h1, h2, h3⟩ := h
    exact ⟨q, r', h1, EAt.same hg hS h2, LsE.same hg hS h3⟩
end
mutual
theorem EAt.mono {F F' : Nat → Prop} {w : World} (hF : ∀ k, F k → F' k) : ∀ {x : Ex} {q : List Value}, EAt F w x q → EAt F' w x q
  | .mk op nm md nu ys ks ps, q, h => by
    simp only [EAt] at h ⊢
    obtain ⟨s, pw, nw, cw, pk, ck, rows, h1, h2, h3, h4, h5⟩ := h
    exact ⟨s, pw, nw, cw, pk, ck, rows, h1, h2.mono hF, h3, LsE.mono hF h4, fun h0 => by obtain ⟨a, ha, h6, h7⟩ := h5 h0; exact ⟨a, ha, hF _ h6, h7⟩⟩
theorem LsE.mono {F F' : Nat → Prop} {w : World} (hF : ∀ k, F k → F' k) : ∀ {l : List Ex} {r : List (List Value)}, LsE F w l r → LsE F' w l r
  | [], r, h => by simp only [LsE] at h ⊢; exact h
  | x :: l, r, h => by
    simp only [LsE] at h ⊢
    obtain ⟨q, r', h1, h2, h3⟩ := h
    exact ⟨q, r', h1, EAt.mono hF h2, LsE.mono hF h3⟩
end
theorem LsE.kept {F : Nat → Prop} {w w' : World} {l : List Ex} {r : List (List Value)} (h : LsE F w l r) (hg : w.grownBy w' none) : LsE F w' l r := LsE.same (S := fun _ => False) (Fr2.none hg) (fun _ _ h => h) h

/-- What is answered where an expression is. -/
def ExPost (x : Ex) (w : World) (e : Ending) (w' : World) : Prop := w.grownBy w' none ∧ ∃ q, e = .returned (.agg q.toArray) ∧ EAt (fun k => w.heap.size ≤ k) w' x q

/-! ### Numbers' digits -/

theorem dig_nat {b : UInt8} (h : isDig b = true) : 48 ≤ b.toNat ∧ b.toNat ≤ 57 := by
  unfold isDig at h
  rw [Bool.and_eq_true] at h
  exact ⟨UInt8.le_iff_toNat_le.1 (of_decide_eq_true h.1), UInt8.le_iff_toNat_le.1 (of_decide_eq_true h.2)⟩
theorem num_parse {t : List UInt8} (h : numOk t) : Zd.parseE t = 0 ∧ Zd.txtL (Zd.parseV t) = t := by
  obtain ⟨h0, h60, hd, hz⟩ := h
  have hm : Zd.minus t = false ∧ Zd.digs t = t := Zd.mdne h0 (by have := dig_nat (hd _ (List.getElem_mem h0)); omega)
  have hp : Zd.plain t = true := by
    unfold Zd.plain
    rw [Bool.and_eq_true, List.all_eq_true]
    refine ⟨fun b hb => decide_eq_true (dig_nat (hd b hb)), ?_⟩
    rw [Bool.or_eq_true, Bool.and_eq_true]
    by_cases h1 : 1 < t.length
    · exact .inr ⟨decide_eq_true (List.length_pos_iff.1 h0), decide_eq_true (hz h1)⟩
    · obtain ⟨a, rfl⟩ : ∃ a, t = [a] := List.length_eq_one_iff.1 (by omega)
      by_cases ha : a = 48
      · subst ha; exact .inl rfl
      · exact .inr ⟨rfl, decide_eq_true (by simpa using ha)⟩
  have he : Zd.parseE t = 0 := by
    unfold Zd.parseE
    rw [hm.1, hm.2, if_neg (by omega), if_neg (by rw [hp]; simp)]
  exact ⟨he, Zd.txtL_parse he⟩

/-! ### Trees in a row of nodes -/

def TrAt (N : List Nd) (k : Int) (t : Tr) : Prop := ∃ b : Nat, k = ((b + szR t - 1 : Nat) : Int) ∧ PartAt N b (post b t)
def KT (N : List Nd) (n : Nat) (ks : List Int) (l : List Tr) : Prop := ks.length = l.length ∧ ∀ (j : Nat) (t : Tr), l[j]? = some t → ∃ k : Nat, ks[j]? = some (k : Int) ∧ TrAt N k t ∧ k < n
theorem TrAt.lf {N : List Nd} {k : Int} {i : Nat} (h : TrAt N k (.lf i)) : ∃ n : Nat, k = (n : Int) ∧ N[n]? = some ⟨19, (i : Int), []⟩ := by
  obtain ⟨b, rfl, h⟩ := h
  have := h 0 ⟨19, (i : Int), []⟩ (by simp [post])
  exact ⟨b, by simp only [szR]; omega, by simpa using this⟩
theorem kt_posts {N : List Nd} : ∀ (l : List Tr) (b n : Nat), b + szRs l ≤ n → PartAt N b (posts b l) → KT N n (idxs b l) l
  | [], b, n, _, _ => ⟨by simp [idxs], fun j t ht => by simp at ht⟩
  | t :: l, b, n, hn, h => by
    simp only [posts] at h
    simp only [szRs] at hn
    have h2 := h.right
    rw [post_len] at h2
    have ih := kt_posts l (b + szR t) n (by omega) h2
    have hp := szR_pos t
    refine ⟨by simp only [idxs, List.length_cons]; rw [ih.1], fun j u hu => ?_⟩
    match j, hu with
    | 0, hu =>
      simp at hu; subst hu
      exact ⟨b + szR t - 1, by simp [idxs], ⟨b, rfl, h.left⟩, by omega⟩
    | j + 1, hu =>
      obtain ⟨k, hk, hr⟩ := ih.2 j u (by simpa using hu)
      exact ⟨k, by simpa [idxs] using hk, hr⟩
theorem TrAt.nd {N : List Nd} {k : Int} {m : Nat} {l : List Tr} (h : TrAt N k (.nd m l)) : ∃ (n : Nat) (ks : List Int), k = (n : Int) ∧ N[n]? = some ⟨(m : Int), -1, ks⟩ ∧ KT N n ks l := by
  obtain ⟨b, rfl, h⟩ := h
  simp only [post] at h
  have h1 := h.right 0 ⟨(m : Int), -1, idxs b l⟩ (by simp)
  rw [posts_len] at h1
  refine ⟨b + szRs l, idxs b l, by simp only [szR]; omega, by simpa using h1, kt_posts l b _ (Nat.le_refl _) h.left⟩
theorem TrAt.root (t : Tr) : TrAt (post 0 t) ((szR t - 1 : Nat) : Int) t := ⟨0, by rw [Nat.zero_add], part_self _⟩

theorem kids_at {B be nv cv nd nk ck nw cw : Nat} {W1 W5 W7 : World} {pv pk pw : Option Addr} {o1 o2 : List Sx} {r1 r2 : List (List Value)} {op : Int} {nm md : List UInt8} {nu : Int} {s ys : Bool} {sn sm : ByteArray}
    (hsn : (⟨nm.toArray⟩ : ByteArray) = sn) (hsm : (⟨md.toArray⟩ : ByteArray) = sm)
    (hOW : StkAt B W1 (.slice pv nv cv) (o1 ++ o2) (r1 ++ r2)) (hr1 : r1.length = nd) (ho1 : o1.length = nd) (hI : Zd.IsInt W5 (.agg #[.bool s, .slice pw nw cw]) nu) (hIF : 0 < nw → ∃ a, pw = some a ∧ be < a.block ∧ a.block < W5.heap.size)
    (hbe : W5.heap[be]? = some (.cells #[.int .i64 op, .string sn, .string sm, .bool s, .slice pw nw cw, .bool ys, .slice none 0 0, .int .i64 0] 30 (0, 0))) (hz : W1.heap.size = be) (hg5 : W1.grownBy W5 none) (hB : B ≤ be)
    (hO7 : OwnG 8 30 W7 W5.heap.size (.slice pk nk ck) r2) (hg7 : (W5.alloc (.cells #[] 30)).grownBy W7 (some W5.heap.size)) :
    W7.heap[be]? = some (.cells #[.int .i64 op, .string sn, .string sm, .bool s, .slice pw nw cw, .bool ys, .slice none 0 0, .int .i64 0] 30 (0, 0)) ∧
    (W7.setCell ⟨be, 6, none⟩ (.slice pk nk ck)).heap[be]? = some (.cells #[.int .i64 op, .string sn, .string sm, .bool s, .slice pw nw cw, .bool ys, .slice pk nk ck, .int .i64 0] 30 (0, 0)) ∧
    W1.grownBy (W7.setCell ⟨be, 6, none⟩ (.slice pk nk ck)) none ∧ StkAt B (W7.setCell ⟨be, 6, none⟩ (.slice pk nk ck)) (.slice pv nv cv) (o1 ++ o2) (r1 ++ r2) ∧
    SAt (fun k => B ≤ k ∧ k < (W7.setCell ⟨be, 6, none⟩ (.slice pk nk ck)).heap.size ∧ (Value.slice pv nv cv).ownBlock ≠ some k) (W7.setCell ⟨be, 6, none⟩ (.slice pk nk ck)) (.mk op nm md nu ys o2 0) [.int .i64 op, .string sn, .string sm, .bool s, .slice pw nw cw, .bool ys, .slice pk nk ck, .int .i64 0] ∧
    OwnG 8 30 (W7.setCell ⟨be, 6, none⟩ (.slice pk nk ck)) B (.slice pv nd cv) r1 := by
  have hg6 := World.grownBy_alloc W5 (.cells #[] 30) none
  have hg57 : W5.grownBy W7 none := fr_after hg6 (Fr2.of (S := fun k => k = W5.heap.size) hg7 (fun k e => (Option.some.inj (show some W5.heap.size = some k from e)).symm)) (fun i hi => by have hi : i = W5.heap.size := hi; omega)
  have hb7 := bx hg57 hbe
  have hbe5 : be < W5.heap.size := hlt hbe
  have hs8 : (W7.setCell ⟨be, 6, none⟩ (.slice pk nk ck)).heap[be]? = some (.cells #[.int .i64 op, .string sn, .string sm, .bool s, .slice pw nw cw, .bool ys, .slice pk nk ck, .int .i64 0] 30 (0, 0)) := set_cells (i := 6) (u := .slice pk nk ck) hb7
  have hf8 : Fr2 (fun k => k = be) W7 (W7.setCell ⟨be, 6, none⟩ (.slice pk nk ck)) := (Fr2.refl (fun k => k = be) W7).setCell (rfl : (fun k => k = be) be) _
  have hg8 : W1.grownBy (W7.setCell ⟨be, 6, none⟩ (.slice pk nk ck)) none := fr_after (gb_trans hg5 hg57) hf8 (fun i hi => by have hi : i = be := hi; omega)
  have how8 := hOW.kept hg8
  have hsz8 : W7.heap.size ≤ (W7.setCell ⟨be, 6, none⟩ (.slice pk nk ck)).heap.size := hf8.size
  have hsz57 := hg57.size
  have hown : ∀ k, (Value.slice pv nv cv).ownBlock = some k → k < be := fun k e => by have := (OwnG.at hOW.1 k e).2; omega
  refine ⟨hb7, hs8, hg8, how8, ?_, by have := OwnG.takeS r2 _ how8.1; rwa [hr1] at this⟩
  have hx := made_at (B := 0) (v := .slice none 0 0) (F := fun k => B ≤ k ∧ k < (W7.setCell ⟨be, 6, none⟩ (.slice pk nk ck)).heap.size ∧ (Value.slice pv nv cv).ownBlock ≠ some k) (op := op) (nm := nm) (md := md) (nu := nu) (ys := ys) (s := s) (pw := pw) (nw := nw) (cw := cw) (o := o2) (rows := r2)
    (int_sameS (hI.kept hg57) hf8 (fun h0 a ha e => by obtain ⟨a', ha', h1, -⟩ := hIF h0; rw [ha] at ha'; injection ha' with ha'; subst ha'; have e : a.block = be := e; omega))
    (fun h0 => by
      obtain ⟨a, ha, h1, h2⟩ := hIF h0
      exact ⟨a, ha, by omega, by omega, fun e => by have := hown _ e; omega⟩)
    (OwnG.keptF hO7 hf8 (fun k e e2 => by have := (OwnG.at hO7 k e).1; have e2 : k = be := e2; omega))
    (by
      obtain ⟨x1, x2, e, h1, h2⟩ := LsS.split how8.2.1
      have hl : x1.length = r1.length := by rw [h1.len, ho1, hr1]
      have ha : x2 = r2 := (List.append_inj e hl.symm).2.symm
      subst ha
      exact h2)
    (fun k h1 h2 => ⟨by omega, h2, fun e => by have := hown _ e; omega⟩)
  unfold strV at hx
  rw [hsn, hsm] at hx
  exact hx
/-- The stack behind the push. -/
theorem push_fin {B n nd n9 c g' cap' H : Nat} {W W8 Wx w9 : World} {p : Option Addr} {o1 o2 : List Sx} {r1 r2 : List (List Value)} {x : Sx} {q : List Value} (h : StkAt B W8 (.slice p n c) (o1 ++ o2) (r1 ++ r2)) (hr1 : r1.length = nd) (ho1 : o1.length = nd)
    (hx : SAt (fun k => B ≤ k ∧ k < W8.heap.size ∧ (Value.slice p n c).ownBlock ≠ some k) W8 x q) (hgx : W8.grownBy Wx none) (hO : OwnG 8 30 w9 B (.slice (some ⟨g', 0, none⟩) n9 cap') (r1 ++ [q])) (hg : Wx.grownBy w9 (Value.slice p nd c).ownBlock) (hH : (Value.slice p nd c).ownBlock = some g' ∨ g' = H) (hHw : Wx.heap.size ≤ H) (hW : W.grownBy W8 none) (hWB : W.heap.size ≤ B) :
    StkAt B w9 (.slice (some ⟨g', 0, none⟩) n9 cap') (o1 ++ [x]) (r1 ++ [q]) ∧ W.grownBy w9 none := by
  subst hr1
  refine ⟨StkAt.push (h.kept hgx) ho1.symm (SAt.mono (fun k hk => ⟨hk.1, Nat.lt_of_lt_of_le hk.2.1 hgx.size, hk.2.2⟩) (hx.kept hgx)) hO hg hH hHw, ?_⟩
  exact fr_after (gb_trans hW hgx) (Fr2.of (S := fun k => (Value.slice p r1.length c).ownBlock = some k) hg (fun k e => e)) (fun i hi => by
    have e : (Value.slice p n c).ownBlock = some i := by cases p <;> exact hi
    have := (OwnG.at h.1 i e).1; omega)
theorem okSs_app : ∀ {a b : List Sx}, okSs (a ++ b) ↔ okSs a ∧ okSs b
  | [], b => by simp [okSs]
  | x :: a, b => by simp only [List.cons_append, okSs, okSs_app (a := a) (b := b), and_assoc]
theorem numC_lim (c : Cl) : (numC c).natAbs < Zd.Lim := by
  unfold numC
  split
  · exact Zd.parseV_lim _
  · unfold Zd.Lim; exact Nat.pow_pos (by unfold Zd.Bw; omega)
theorem stepC_ok {o : List Sx} {c : Cl} (h : okSs o) (hf : fitsC c = true) : okSs (stepC o c) := by
  unfold stepC
  have h2 := h
  rw [← List.take_append_drop (o.length - takesC c) o] at h2
  have h3 := okSs_app.1 h2
  refine okSs_app.2 ⟨h3.1, ?_⟩
  unfold fitsC at hf
  simp only [Bool.and_eq_true] at hf
  have h4 := of_decide_eq_true hf.1.1
  have h5 := of_decide_eq_true hf.1.2
  simp only [okSs, okS, and_true]
  exact ⟨⟨by omega, by omega, numC_lim c⟩, h3.2⟩
theorem foldC_ok : ∀ (l : List Cl) (o : List Sx), okSs o → l.all fitsC = true → okSs (l.foldl stepC o)
  | [], o, h, _ => h
  | c :: l, o, h, hf => by
    simp only [List.all_cons, Bool.and_eq_true] at hf
    exact foldC_ok l _ (stepC_ok h hf.1) hf.2
theorem stackC_ok {l : List Cl} (h : l.all fitsC = true) : okSs (stackC l) := foldC_ok l [] (by simp [okSs]) h
theorem bothC_ok {l : List Cl} {x : Sx} (h : bothC l = some x) : okS x := by
  unfold bothC at h
  split at h
  · cases h
  · split at h
    · rename_i hf
      have h1 := stackC_ok hf
      rcases list_lastS (stackC l) with ho | ⟨o1, y, ho⟩
      · rw [ho] at h; cases h
      · rw [ho] at h h1
        rw [List.getLast?_append] at h
        have : y = x := by simpa using h
        subst this
        have := (okSs_app.1 h1).2
        simp only [okSs, and_true] at this
        exact this
    · cases h
end Go.Proofs.YtccokidhngdjnaaGreatDoor
