/- Slices that a call makes by append: what they hold, and one thing more. -/
import Derived.Test.YtkonfkcaefjabaaGcd
namespace Go.Proofs.Ytkonfkcaefjabaa
open Go.RowKit Mx

def lst (k : IntKind) (n : Nat) (f : Nat → Nat) : List Value := (List.range n).map fun j => Value.int k (f j)
theorem lst_len {k : IntKind} {n : Nat} {f : Nat → Nat} : (lst k n f).length = n := by simp [lst]
theorem lst_get {k : IntKind} {n : Nat} {f : Nat → Nat} {j : Nat} (h : j < n) : (lst k n f)[j]? = some (.int k (f j)) := by simp [lst, h]
theorem lst_succ {k : IntKind} {n : Nat} {f : Nat → Nat} {y : Nat} : lst k (n + 1) (upd f n y) = lst k n f ++ [.int k y] := by
  unfold lst
  rw [List.range_succ, List.map_append]
  congr 1
  · apply List.map_congr_left
    intro j hj
    rw [upd_ne (by simp at hj; omega)]
  · simp [upd]
theorem lst_take {k : IntKind} {n m : Nat} {f : Nat → Nat} (h : m ≤ n) : (lst k n f).take m = lst k m f := by
  unfold lst
  rw [← List.map_take, List.take_range, Nat.min_eq_left h]

/-- The slice v, of the call's own blocks from base on, holds the n numbers f 0 .. -/
def Own (k : IntKind) (e : TypeId) (w : World) (base : Nat) (v : Value) (n : Nat) (f : Nat → Nat) : Prop := w.ownsRow base e 1 v n (lst k n f)

section
variable {k : IntKind} {e : TypeId} {w w' : World} {base : Nat} {v : Value} {n : Nat} {f : Nat → Nat}
theorem Own.shape (h : Own k e w base v n f) : (v = .slice none 0 0 ∧ n = 0) ∨ ∃ g cap, v = .slice (some ⟨g, 0, none⟩) n cap ∧ base ≤ g ∧ g < w.heap.size ∧ n ≤ cap ∧ cap ≤ maxLen := by
  rcases h.2 with h2 | ⟨g, cap, cur, hv, hb, hg, hn, hc, _⟩
  · exact .inl h2
  · exact .inr ⟨g, cap, hv, hb, (Array.getElem?_eq_some_iff.1 hg).1, hn, hc⟩
theorem Own.at {p : Option Addr} {m cap : Nat} (h : Own k e w base (.slice p m cap) n f) : m = n ∧ At k w p n f := by
  rcases h.2 with ⟨hv, hn⟩ | ⟨g, cap', cur, hv, hb, hg, hn, hc, hs, htake⟩
  · injection hv with h1 h2; subst h1; subst h2; exact ⟨hn.symm, .inl hn⟩
  · injection hv with h1 h2 h3; subst h1; subst h2; subst h3
    refine ⟨rfl, .inr ⟨g, 0, rfl, (Array.getElem?_eq_some_iff.1 hg).1, fun j hj => ?_⟩⟩
    have := World.ownsRow.cells (w := w) (base := base) (e := e) (size := 1) (v := .slice (some ⟨g, 0, none⟩) m cap) (n := m) (xs := lst k m f) ⟨by simp [lst], .inr ⟨g, cap, cur, rfl, hb, hg, hn, hc, hs, htake⟩⟩ (g := g) rfl j (.int k (f j)) (lst_get hj)
    rwa [addr_add] at this
theorem Own.kept {row : Option Nat} (h : Own k e w base v n f) (hg : w.grownBy w' row) (hne : v.ownBlock = none ∨ v.ownBlock ≠ row) : Own k e w' base v n f := World.ownsRow.kept h hg hne
theorem Own.cut {g cap m : Nat} (h : Own k e w base (.slice (some ⟨g, 0, none⟩) n cap) n f) (hm : m ≤ n) : Own k e w base (.slice (some ⟨g, 0, none⟩) m cap) m f := by
  rcases h.2 with ⟨hv, _⟩ | ⟨g', cap', cur, hv, hb, hg, hn, hc, hs, htake⟩
  · cases hv
  · injection hv with h1 h2 h3
    injection h1 with h1
    injection h1 with h1
    subst h1; subst h3
    refine ⟨by simp [lst], .inr ⟨g, cap, cur, rfl, hb, hg, by omega, hc, hs, ?_⟩⟩
    rw [Nat.mul_one] at htake ⊢
    rw [← lst_take hm, ← htake, List.take_take, Nat.min_eq_left hm]
theorem Own.far (h : Own k e w base v n f) : ∀ g, v.ownBlock = some g → base ≤ g := by
  intro g hg
  rcases h.shape with ⟨rfl, _⟩ | ⟨g', cap, rfl, hb, _⟩
  · cases hg
  · simp [Value.ownBlock] at hg; omega
theorem Own.mono {base' : Nat} (h : Own k e w base v n f) (hb : base' ≤ base) : Own k e w base' v n f := by
  refine ⟨h.1, ?_⟩
  rcases h.2 with h2 | ⟨g, cap, cur, hv, hg, r⟩
  · exact .inl h2
  · exact .inr ⟨g, cap, cur, hv, by omega, r⟩
theorem gb_own {a : World} (h : a.grownBy w none) (ho : Own k e w base v n f) (hb : a.heap.size ≤ base) (hg : w.grownBy w' v.ownBlock) : a.grownBy w' none := by
  have hf := ho.far
  exact ⟨hg.os.trans h.os, hg.tape.trans h.tape, hg.output.trans h.output, Nat.le_trans h.size hg.size, fun i hi _ => (hg.block i (Nat.lt_of_lt_of_le hi h.size) (fun e => by have := hf i e.symm; omega)).trans (h.block i hi (by simp))⟩
theorem Own.nil : Own k e w base (.slice none 0 0) 0 f := World.ownsRow_nil w base e 1
theorem Own.congr {f2 : Nat → Nat} (h : Own k e w base v n f) (hf : ∀ j, j < n → f j = f2 j) : Own k e w base v n f2 := by
  have : lst k n f2 = lst k n f := by
    unfold lst
    apply List.map_congr_left
    intro j hj
    rw [hf j (by simpa using hj)]
  unfold Own
  rw [this]; exact h
theorem Own.set {g cap j x : Nat} (h : Own k e w base (.slice (some ⟨g, 0, none⟩) n cap) n f) (hj : j < n) : Own k e (w.setCell ⟨g, j, none⟩ (.int k x)) base (.slice (some ⟨g, 0, none⟩) n cap) n (upd f j x) := by
  have h2 := (World.ownsRow.stored h j (.int k x)).1
  have e : (lst k n f).set j (.int k x) = lst k n (upd f j x) := by
    apply List.ext_getElem?
    intro i
    rw [List.getElem?_set, lst_len]
    by_cases hi : i < n
    · rw [lst_get hi]
      by_cases hij : j = i
      · subst hij; rw [lst_get hi, upd_at]; simp [hi]
      · rw [if_neg hij, lst_get hi, upd_ne (by omega)]
    · rw [if_neg (by omega), List.getElem?_eq_none (by rw [lst_len]; omega), List.getElem?_eq_none (by rw [lst_len]; omega)]
  rw [e] at h2
  exact h2
theorem Own.cell {g cap j : Nat} (h : Own k e w base (.slice (some ⟨g, 0, none⟩) n cap) n f) (hj : j < n) : w.cell? ⟨g, j, none⟩ = some (.int k (f j)) := by
  rw [World.ownsRow.cellAt h j (by omega)]; exact lst_get hj
theorem Own.free {g cap j : Nat} (h : Own k e w base (.slice (some ⟨g, 0, none⟩) n cap) n f) : w.frozen? ⟨g, j, none⟩ = false := World.ownsRow.frozenAt h j
end

/-- append of one number, as a step of the walk. -/
theorem wpList_app1 {k : IntKind} {t e : TypeId} {bytes : Nat} (ht : Try.prog.underlying t = some (.slice e)) (hinfo : (Try.prog.info? e).map (fun i => (i.zero, i.size, i.bytes)) = some (some (.int k 0), 1, bytes)) (hby : bytes ≤ 8)
    {w0 : World} {ops : Array Oper} {rest : List Oper} {o : Oper} {a : Act} {Q : Exit → Act → World → Prop} (hgd : o.guard = none) (s x : Operand) (ho : o.op = .call { callee := .builtin .append, args := #[s, x], argTypes := #[t, t] })
    (base : Nat) (v : Value) (n : Nat) (f : Nat → Nat) (Y : Int) (y : Nat) (hY : Y = (y : Int)) (hs : a.eval s = v) (hown : Own k e w0 base v n f) (hx : a.eval x = .slice (some ⟨w0.heap.size, 0, none⟩) 1 1) (hn : n ≤ 1000000000) (hbase : base ≤ w0.heap.size)
    (K : ∀ v' w', Own k e w' base v' (n + 1) (upd f n y) → w0.grownBy w' v.ownBlock → wpList Try.prog ops Q rest (a.put o.dst v') w') :
    wpList Try.prog ops Q (o :: rest) a (w0.alloc (.cells #[.int k Y] e)) := by
  subst hY
  obtain ⟨i0, hi, hz0, hz1, hz2⟩ := info_parts hinfo
  refine wpList_append_own (P := Try.prog) _ hgd s x t ho base e i0 (.int k 0) 1 bytes ht hi hz0 hz1 hz2 rfl (by decide) v n (lst k n f) hs (hown.alloc _) ⟨w0.heap.size, 0, none⟩ 1 1 [.int k y] hx rfl ?_ ?_ (by unfold maxLen; omega) ?_ (by simp; omega) ?_
  · intro j u hj
    match j, hj with
    | 0, hj => simp at hj; subst hj; simp [Addr.add]
  · intro u hu; simp at hu; subst hu; rfl
  · have : (n + 1) * bytes ≤ (n + 1) * 8 := Nat.mul_le_mul_left _ hby
    omega
  · intro v' w' h1 h2 _
    refine K v' w' ?_ ⟨h2.os, h2.tape, h2.output, Nat.le_trans (by simp) h2.size, fun j hj hr => (h2.block j (by simp; omega) hr).trans (Below.heap_alloc w0 _ j hj)⟩
    unfold Own
    rw [lst_succ]; exact h1
end Go.Proofs.Ytkonfkcaefjabaa
