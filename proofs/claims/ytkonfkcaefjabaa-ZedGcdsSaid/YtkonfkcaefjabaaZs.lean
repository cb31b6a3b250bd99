/- Slices of Ints that append made. -/
import Derived.Test.YtkonfkcaefjabaaBest
import Derived.Deep.AppendLies
namespace Go.Proofs.Ytkonfkcaefjabaa
open Go.RowKit Mx

def cellsZ (s : Nat → Bool) (p : Nat → Option Addr) (l c : Nat → Nat) (n : Nat) : List Value := (List.range n).flatMap fun j => [.bool (s j), .slice (p j) (l j) (c j)]

theorem cellsZ_succ (s : Nat → Bool) (p : Nat → Option Addr) (l c : Nat → Nat) (n : Nat) : cellsZ s p l c (n + 1) = cellsZ s p l c n ++ [.bool (s n), .slice (p n) (l n) (c n)] := by
  unfold cellsZ
  rw [List.range_succ, List.flatMap_append]
  simp

theorem cellsZ_len (s : Nat → Bool) (p : Nat → Option Addr) (l c : Nat → Nat) (n : Nat) : (cellsZ s p l c n).length = n * 2 := by
  induction n with
  | zero => rfl
  | succ n ih => rw [cellsZ_succ, List.length_append, ih]; simp; omega

theorem cellsZ_get (s : Nat → Bool) (p : Nat → Option Addr) (l c : Nat → Nat) (n j : Nat) (h : j < n) : (cellsZ s p l c n)[2 * j]? = some (.bool (s j)) ∧ (cellsZ s p l c n)[2 * j + 1]? = some (.slice (p j) (l j) (c j)) := by
  induction n with
  | zero => omega
  | succ n ih =>
    rw [cellsZ_succ]
    by_cases e : j < n
    · rw [List.getElem?_append_left (by rw [cellsZ_len]; omega), List.getElem?_append_left (by rw [cellsZ_len]; omega)]
      exact ih e
    · obtain rfl : j = n := by omega
      rw [List.getElem?_append_right (by rw [cellsZ_len]; omega), List.getElem?_append_right (by rw [cellsZ_len]; omega), cellsZ_len]
      rw [show 2 * j - j * 2 = 0 by omega, show 2 * j + 1 - j * 2 = 1 by omega]
      exact ⟨rfl, rfl⟩

theorem cellsZ_congr {s s' : Nat → Bool} {p p' : Nat → Option Addr} {l l' c c' : Nat → Nat} {n : Nat} (h : ∀ j, j < n → s j = s' j ∧ p j = p' j ∧ l j = l' j ∧ c j = c' j) : cellsZ s p l c n = cellsZ s' p' l' c' n := by
  induction n with
  | zero => rfl
  | succ n ih =>
    obtain ⟨h1, h2, h3, h4⟩ := h n (by omega)
    rw [cellsZ_succ, cellsZ_succ, ih fun j hj => h j (by omega), h1, h2, h3, h4]

/-- A slice of one's own that reads as n numbers, whose words lie elsewhere. -/
def OwnZ (w : World) (base g cap n : Nat) (F : Nat → Int) : Prop :=
  ∃ (s : Nat → Bool) (p : Nat → Option Addr) (l c : Nat → Nat), w.ownsRow base 25 2 (.slice (some ⟨g, 0, none⟩) n cap) n (cellsZ s p l c n) ∧ ∀ j, j < n → IsInt w (.agg #[.bool (s j), .slice (p j) (l j) (c j)]) (F j) ∧ ∀ a, 0 < l j → p j = some a → a.block ≠ g

theorem OwnZ.kept {w w' : World} {base g cap n : Nat} {F : Nat → Int} (h : OwnZ w base g cap n F) (hg : w.grownBy w' none) : OwnZ w' base g cap n F := by
  obtain ⟨s, p, l, c, h1, h2⟩ := h
  exact ⟨s, p, l, c, h1.kept hg (.inr (by simp [Value.ownBlock])), fun j hj => ⟨(h2 j hj).1.kept hg, (h2 j hj).2⟩⟩

theorem OwnZ.zs {w : World} {base g cap n : Nat} {F : Nat → Int} (h : OwnZ w base g cap n F) : ∃ s p l c, Zs w g n s p l c F := by
  obtain ⟨s, p, l, c, h1, h2⟩ := h
  refine ⟨s, p, l, c, fun j hj => ?_⟩
  obtain ⟨g1, g2⟩ := cellsZ_get s p l c n j hj
  exact ⟨by rw [h1.cellAt _ (by omega)]; exact g1, by rw [h1.cellAt _ (by omega)]; exact g2, (h2 j hj).1⟩

theorem OwnZ.bounds {w : World} {base g cap n : Nat} {F : Nat → Int} (h : OwnZ w base g cap n F) (hn : 0 < n) : base ≤ g ∧ g < w.heap.size ∧ n ≤ cap ∧ cap ≤ maxLen := by
  obtain ⟨s, p, l, c, h1, _⟩ := h
  rcases h1.2 with ⟨_, h0⟩ | ⟨g', cap', cur, he, hb, hg, hnc, hcm, _⟩
  · omega
  · injection he with e1 _ e3
    injection e1 with e1
    injection e1 with e1
    subst e1; subst e3
    exact ⟨hb, (Array.getElem?_eq_some_iff.1 hg).1, hnc, hcm⟩

/-- A slice of one number, written out. -/
theorem OwnZ_one {w : World} {s0 : Bool} {p0 : Option Addr} {l0 c0 : Nat} {Z : Int} {base : Nat} (hb : base ≤ w.heap.size) (h : IsInt w (.agg #[.bool s0, .slice p0 l0 c0]) Z) :
    OwnZ (w.alloc (.cells #[.bool s0, .slice p0 l0 c0] 25)) base w.heap.size 1 1 (fun _ => Z) :=
  ⟨fun _ => s0, fun _ => p0, fun _ => l0, fun _ => c0, ⟨rfl, .inr ⟨w.heap.size, 1, _, rfl, hb, heap_alloc_new w _, Nat.le_refl _, by unfold maxLen; omega, rfl, rfl⟩⟩, fun _ _ => ⟨h.kept (World.grownBy_alloc w _ none), fun a h0 ha => by
    obtain ⟨a', e, hlt⟩ := int_some h h0
    have e2 : some a = some a' := ha.symm.trans e
    injection e2 with e2; subst e2
    omega⟩⟩

/-- What reads as a number, its words elsewhere, goes on so when a row is written. -/
theorem int_row {w w' : World} {s : Bool} {p : Option Addr} {n c g : Nat} {Z : Int} (h : IsInt w (.agg #[.bool s, .slice p n c]) Z) (hg : w.grownBy w' (some g)) (hp : ∀ a, 0 < n → p = some a → a.block ≠ g) : IsInt w' (.agg #[.bool s, .slice p n c]) Z := by
  obtain ⟨s', v, N, he, ⟨p', n', c', f, rfl, h1, h2, h3, h4⟩, h5⟩ := h
  simp at he
  obtain ⟨rfl, rfl, rfl, rfl⟩ := he
  refine ⟨s, _, N, rfl, ⟨p, n, c, f, rfl, h1, h2, ?_, h4⟩, h5⟩
  by_cases hn : n = 0
  · exact .inl hn
  · exact h3.grown hg (fun a ha e => hp a (by omega) ha (by simpa using e))

theorem infoZ : (Try.prog.info? 25).map (fun i => (i.zero, i.size, i.bytes)) = some (some (.agg #[.bool false, .slice none 0 0]), 2, 32) := by kernel_rfl

theorem infoZ_parts : ∃ i, Try.prog.info? 25 = some i ∧ i.zero = some (.agg #[.bool false, .slice none 0 0]) ∧ i.size = 2 ∧ i.bytes = 32 := by
  have h := infoZ
  rcases hi : Try.prog.info? 25 with _ | i
  · rw [hi] at h; cases h
  · rw [hi] at h
    simp at h
    exact ⟨i, rfl, h.1, h.2.1, h.2.2⟩

/-- append of one Int, as a step of the walk. -/
theorem wpList_appZ {t : TypeId} (ht : Try.prog.underlying t = some (.slice 25))
    {w0 : World} {ops : Array Oper} {rest : List Oper} {o : Oper} {a : Act} {Q : Exit → Act → World → Prop} (hgd : o.guard = none) (s x : Operand) (ho : o.op = .call { callee := .builtin .append, args := #[s, x], argTypes := #[t, t] })
    (base g cap n : Nat) (F : Nat → Int) (s0 : Bool) (p0 : Option Addr) (l0 c0 : Nat) (Z : Int) (hs : a.eval s = .slice (some ⟨g, 0, none⟩) n cap) (hown : OwnZ w0 base g cap n F) (hz : IsInt w0 (.agg #[.bool s0, .slice p0 l0 c0]) Z) (hzp : ∀ a, 0 < l0 → p0 = some a → a.block ≠ g)
    (H : Nat) (hH : w0.heap.size = H) (hx : a.eval x = .slice (some ⟨H, 0, none⟩) 1 1) (hn : n ≤ 1000000000) (hbase : base ≤ w0.heap.size)
    (K : ∀ g' cap' w', OwnZ w' base g' cap' (n + 1) (fun j => if j = n then Z else F j) → w0.grownBy w' (some g) → wpList Try.prog ops Q rest (a.put o.dst (.slice (some ⟨g', 0, none⟩) (n + 1) cap')) w') :
    wpList Try.prog ops Q (o :: rest) a (w0.alloc (.cells #[.bool s0, .slice p0 l0 c0] 25)) := by
  subst hH
  obtain ⟨i0, hi, hz0, hz1, hz2⟩ := infoZ_parts
  obtain ⟨sf, pf, lf, cf, h1, h2⟩ := hown
  have h1a := h1.kept (World.grownBy_alloc w0 (.cells #[.bool s0, .slice p0 l0 c0] 25) none) (.inr (by simp [Value.ownBlock]))
  refine wpList_append_lies (P := Try.prog) _ hgd s x t ho base 25 i0 (.agg #[.bool false, .slice none 0 0]) 2 32 ht hi hz0 hz1 hz2 rfl (by decide) _ n (cellsZ sf pf lf cf n) hs h1a ⟨w0.heap.size, 0, none⟩ 1 1 [.bool s0, .slice p0 l0 c0] hx rfl ?_ ?_ (by omega) (by unfold maxLen; omega) (by omega) (by simp; omega) (w0.heap.size + 1) (by simp) ?_
  · intro j u hj
    obtain ⟨q0, q1, _⟩ := cells_of (top1 w0 (.cells #[.bool s0, .slice p0 l0 c0] 25))
    match j, hj with
    | 0, hj => simp at hj; subst hj; simp [Addr.add]
    | 1, hj => simp at hj; subst hj; simp [Addr.add]
  · intro u hu; simp at hu; rcases hu with rfl | rfl <;> rfl
  · intro g' cap' w' h3 h4 h5 _
    have hgr : w0.grownBy w' (some g) := ⟨h4.os, h4.tape, h4.output, Nat.le_trans (by simp) h4.size, fun j hj hr => (h4.block j (by simp; omega) (by simpa [Value.ownBlock] using hr)).trans (Below.heap_alloc w0 _ j hj)⟩
    have hfar : ∀ (s : Bool) (p : Option Addr) (l c : Nat) (Y : Int), IsInt w0 (.agg #[.bool s, .slice p l c]) Y → (∀ a, 0 < l → p = some a → a.block ≠ g) → ∀ a, 0 < l → p = some a → a.block ≠ g' := by
      intro s p l c Y hI hne a hl ha
      obtain ⟨a', e, hlt⟩ := int_some hI hl
      rw [ha] at e; injection e with e; subst e
      rcases h5 with h5 | h5
      · simp [Value.ownBlock] at h5; subst h5; exact hne a hl ha
      · omega
    refine K g' cap' w' ⟨fun j => if j = n then s0 else sf j, fun j => if j = n then p0 else pf j, fun j => if j = n then l0 else lf j, fun j => if j = n then c0 else cf j, ?_, fun j hj => ?_⟩ hgr
    · rw [cellsZ_succ, if_pos rfl, if_pos rfl, if_pos rfl, if_pos rfl, cellsZ_congr (s' := sf) (p' := pf) (l' := lf) (c' := cf) (fun j hj => by simp [show j ≠ n by omega])]
      exact h3
    · by_cases e : j = n
      · subst e
        simp only [if_pos]
        exact ⟨int_row hz hgr hzp, hfar _ _ _ _ _ hz hzp⟩
      · simp only [if_neg e]
        obtain ⟨k1, k2⟩ := h2 j (by omega)
        exact ⟨int_row k1 hgr (fun a h => k2 a h), hfar _ _ _ _ _ k1 (fun a h => k2 a h)⟩
end Go.Proofs.Ytkonfkcaefjabaa
