/- Numbers as slices of words without a nought at the end: what sums, differences and products leave. -/
import Derived.Test.YtkonfkcaefjabaaWords
namespace Go.Proofs.Ytkonfkcaefjabaa
open Go.RowKit Mx

/-- The slice v reads as the number N. -/
def Num (w : World) (v : Value) (N : Nat) : Prop :=
  ∃ p n cap f, v = .slice p n cap ∧ n ≤ cap ∧ cap ≤ maxLen ∧ At .u64 w p n f ∧ (∀ j, j < n → f j < Bw) ∧ (n = 0 ∨ f (n - 1) ≠ 0) ∧ V Bw f 0 n = N

theorem Num.kept {w w' : World} {v : Value} {N : Nat} (h : Num w v N) (hg : w.grownBy w' none) : Num w' v N := by
  obtain ⟨p, n, cap, f, rfl, h1, h2, h3, r⟩ := h
  exact ⟨p, n, cap, f, rfl, h1, h2, h3.grown hg (by simp), r⟩

/-- No number here is as long as this. -/
def LimN : Nat := 100000
def Lim : Nat := Bw ^ LimN
theorem lim_len {n : Nat} {f : Nat → Nat} (t : n = 0 ∨ f (n - 1) ≠ 0) (h : V Bw f 0 n < Lim) : n ≤ LimN := by
  rcases V_top (b := Bw) (f := f) (o := 0) (n := n) (by simpa using t) with e | e
  · omega
  · by_cases hn : n ≤ LimN
    · exact hn
    · have : Bw ^ LimN ≤ Bw ^ (n - 1) := Nat.pow_le_pow_right Bw_pos (by omega)
      unfold Lim at h
      omega

def NumPost (N : Nat) (w : World) (e : Ending) (w' : World) : Prop := ∃ v, e = .returned v ∧ Num w' v N ∧ w.grownBy w' none

/-- Behind trim. -/
theorem trim_num (p : Option Addr) (n cap : Nat) (f : Nat → Nat) (w : World) (hn : n ≤ cap) (hc : cap ≤ maxLen) (h : At .u64 w p n f) (hf : ∀ j, j < n → f j < Bw) :
    Calls Try.prog 61 #[.slice p n cap] w fun e w' => ∃ v, e = .returned v ∧ Num w v (V Bw f 0 n) ∧ w = w' := by
  refine (trim_c p n cap f w hn hc h).mono ?_
  rintro e w' ⟨m, p', cap', rfl, hm, hm2, hc', ht, hz, h0, hp, rfl⟩
  refine ⟨_, rfl, ⟨p', m, cap', f, rfl, hm2, Nat.le_trans hc' hc, ?_, fun j hj => hf j (by omega), ht, ?_⟩, rfl⟩
  · by_cases e : m = 0
    · exact .inl e
    · rw [hp (by omega)]; exact h.pre hm
  · exact (V_pad (fun j h1 h2 => by simpa using hz j h1 h2) hm).symm

theorem addr_add (g o j : Nat) : (⟨g, o, none⟩ : Addr).add j = ⟨g, o + j, none⟩ := by unfold Addr.add; split <;> simp_all

/-- What is handed over by copy into a block of one's own. -/
theorem copy_run (w : World) (g M : Nat) (fz f : Nat → Nat) (p : Option Addr) (n cap : Nat) (hB : Blk .u64 w g M fz) (h : At .u64 w p n f) (hn : n ≤ M) :
    ∃ w', (Builtin.copy_ #[23, 23] 3 #[.slice (some ⟨g, 0, none⟩) M M, .slice p n cap]).run Try.prog w = .ok (.int .i64 n) w' ∧ Blk .u64 w' g M (fun j => if j < n then f j else fz j) ∧ w.grownBy w' (some g) := by
  by_cases h0 : n = 0
  · subst h0
    refine ⟨w, ?_, by simpa using hB, gb_refl _ _⟩
    exact run_copy_none w 23 23 3 40 _ _ _ _ _ _ Try.underlying23 (by kernel_rfl) (by simp)
  · rcases h with h | ⟨gb, ob, rfl, hg, hc⟩
    · omega
    obtain ⟨cur, T, hgg, hs, hcur⟩ := hB
    obtain ⟨L, hl, hL⟩ : ∃ L : List Value, L.length = n ∧ ∀ j, j < n → L[j]? = some (.int .u64 (f j)) := ⟨(List.range n).map fun j => Value.int .u64 (f j), by simp, fun j hj => by simp [hj]⟩
    have hmem : ∀ v ∈ L, v.oneCell' = true := by
      intro v hv
      obtain ⟨j, hj, rfl⟩ := List.getElem_of_mem hv
      have := hL j (by omega)
      rw [List.getElem?_eq_getElem hj] at this
      injection this with this
      rw [this]; rfl
    have hr := run_copy_row (P := Try.prog) w 23 23 3 40 g 0 M M ⟨gb, ob, none⟩ n cap cur T L Try.underlying23 (by kernel_rfl) hgg
      (by rw [hl]; exact (Nat.min_eq_left hn).symm) (fun j v hj => by
        have hjn : j < n := by rw [← hl]; exact (List.getElem?_eq_some_iff.1 hj).1
        rw [hL j hjn] at hj
        injection hj with hj
        rw [addr_add, ← hj]; exact hc j hjn) (by omega) hmem
    refine ⟨w.setRow g (cur.toList.take 0 ++ L ++ cur.toList.drop (0 + L.length)).toArray, ?_, ?_, ?_⟩
    · rw [hr, hl]; rfl
    · refine ⟨_, T, setRow_heap w g _ _ T _ hgg, by simp; omega, fun j hj => ?_⟩
      rw [List.getElem?_toArray, List.take_zero, List.nil_append, Nat.zero_add, hl, List.getElem?_append, hl]
      by_cases hjn : j < n
      · rw [if_pos hjn]; simp only [hjn, if_true]; exact hL j hjn
      · rw [if_neg hjn, List.getElem?_drop, Array.getElem?_toList, show n + (j - n) = j from by omega]
        simp only [hjn, if_false]
        exact hcur j hj
    · exact ⟨rfl, rfl, rfl, by simp [World.setRow], fun k _ hr => setRow_other w g k _ (by intro e; apply hr; rw [e])⟩

/-- copy as a step of the walk. -/
theorem wpList_copy64 {w : World} {ops : Array Oper} {rest : List Oper} {o : Oper} {a : Act} {Q : Exit → Act → World → Prop} (hgd : o.guard = none) (d s : Operand)
    (ho : o.op = .call { callee := .builtin .copy, args := #[d, s], argTypes := #[23, 23] }) (hty : o.type = 3)
    (g M n cap : Nat) (p : Option Addr) (fz f : Nat → Nat) (hd : a.eval d = .slice (some ⟨g, 0, none⟩) M M) (hs : a.eval s = .slice p n cap) (hB : Blk .u64 w g M fz) (h : At .u64 w p n f) (hn : n ≤ M)
    (K : ∀ w', Hid (Blk .u64 w' g M (fun j => if j < n then f j else fz j)) → Hid (w.grownBy w' (some g)) → wpList Try.prog ops Q rest (a.put o.dst (.int .i64 n)) w') :
    wpList Try.prog ops Q (o :: rest) a w := by
  refine wpList_plain hgd fun K' hK => ?_
  obtain ⟨w', hrun, h1, h2⟩ := copy_run w g M fz f p n cap hB h hn
  unfold Oper.wp
  simp [execOp, ho, resolve, invoke, builtin, hd, hs, hty, hrun, Result.andThen]
  exact hK _ _ (K w' h1 h2)
end Go.Proofs.Ytkonfkcaefjabaa
