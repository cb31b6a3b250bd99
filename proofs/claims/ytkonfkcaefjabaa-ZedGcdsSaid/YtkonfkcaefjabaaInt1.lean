/- Int: a sign and words. -/
import Derived.Test.YtkonfkcaefjabaaRev
namespace Go.Proofs.Ytkonfkcaefjabaa
open Go.RowKit Mx

/-- The value x reads as the whole number Z. -/
def IsInt (w : World) (x : Value) (Z : Int) : Prop := ∃ (s : Bool) (v : Value) (N : Nat), x = .agg #[.bool s, v] ∧ Num w v N ∧ (s = true → N ≠ 0) ∧ Z = if s then -(N : Int) else N

theorem IsInt.kept {w w' : World} {x : Value} {Z : Int} (h : IsInt w x Z) (hg : w.grownBy w' none) : IsInt w' x Z := by
  obtain ⟨s, v, N, rfl, hn, r⟩ := h
  exact ⟨s, v, N, rfl, hn.kept hg, r⟩

def IntPost (Z : Int) (w : World) (e : Ending) (w' : World) : Prop := ∃ x, e = .returned x ∧ IsInt w' x Z ∧ w.grownBy w' none

def sgn (s : Bool) (N : Nat) : Int := if s then -(N : Int) else N

theorem num_len {n : Nat} {f : Nat → Nat} (t : n = 0 ∨ f (n - 1) ≠ 0) : 0 < n ↔ V Bw f 0 n ≠ 0 := by
  constructor
  · intro h
    rcases V_top (b := Bw) (f := f) (o := 0) (n := n) (by simpa using t) with e | e
    · omega
    · have := Nat.pow_pos (n := n - 1) Bw_pos; omega
  · intro h
    exact num_pos h

theorem signed_fin {s : Bool} {p p' : Option Addr} {n m cap' : Nat} {f : Nat → Nat} {w : World} (q1 : m ≤ n) (q2 : m ≤ cap') (q3 : cap' ≤ maxLen) (h : At .u64 w p n f) (hf : ∀ j, j < n → f j < Bw)
    (q4 : m = 0 ∨ f (m - 1) ≠ 0) (q5 : ∀ j, m ≤ j → j < n → f j = 0) (q7 : 0 < m → p' = p) :
    IntPost (sgn s (V Bw f 0 n)) w (.returned (.agg #[.bool (s && decide (0 < m)), .slice p' m cap'])) (w.alloc (.cells #[.bool (s && decide (0 < m)), .slice p' m cap'] 25)) := by
  have hg := World.grownBy_alloc w (.cells #[.bool (s && decide (0 < m)), .slice p' m cap'] 25) none
  have hv : V Bw f 0 n = V Bw f 0 m := V_pad (fun j h1 h2 => by simpa using q5 j h1 h2) q1
  refine ⟨_, rfl, ⟨s && decide (0 < m), .slice p' m cap', V Bw f 0 n, rfl, ⟨p', m, cap', f, rfl, q2, q3, ?_, fun j hj => hf j (by omega), q4, hv.symm⟩, fun h => ?_, ?_⟩, hg⟩
  · by_cases e : m = 0
    · exact .inl e
    · have h2 := (h.pre q1).grown hg (by simp)
      rw [← q7 (by omega)] at h2; exact h2
  · rw [hv]; exact (num_len q4).1 (by simp at h; exact h.2)
  · rw [hv]
    by_cases e : 0 < m
    · cases s <;> simp [sgn, e]
    · obtain rfl : m = 0 := by omega
      cases s <;> simp [sgn, V]

set_option maxHeartbeats 1000000 in
theorem signed_c (s : Bool) (p : Option Addr) (n cap : Nat) (f : Nat → Nat) (w : World) (hn : n ≤ cap) (hc : cap ≤ maxLen) (h : At .u64 w p n f) (hf : ∀ j, j < n → f j < Bw) :
    Calls Try.prog 41 #[.bool s, .slice p n cap] w (IntPost (sgn s (V Bw f 0 n)) w) := by
  have HT := Lib.hid (fun w1 (hg : w.grownBy w1 none) => trim_c p n cap f w1 hn hc (h.grown hg (by simp)))
  have HH := Lib.hid h; have HF := Lib.hid hf
  clear h hf
  cases s
  · go_enter Try.func41, Try.ntmps41
    go_wp2_with (go_at_call 61; refine (HT.out _ ?_).mono ?_; (exact World.grownBy_alloc w _ none); rintro e w1 ⟨m, p', cap', rfl, q1, q2, q3, q4, q5, q6, q7, rfl⟩; have Q4 := Lib.hid q4; have Q5 := Lib.hid q5; have Q7 := Lib.hid q7; clear q4 q5 q6 q7)
    have hfin := signed_fin (s := false) q1 q2 (Nat.le_trans q3 hc) HH.out HF.out Q4.out Q5.out Q7.out
    have HFIN := Lib.hid hfin
    clear hfin
    exact bodyPost_ret (v := .agg #[.bool (false && decide (0 < m)), .slice p' m cap']) (by simp [results, Try.results41, go_sem]) rfl HFIN.out
  · go_enter Try.func41, Try.ntmps41
    go_wp2_with (go_at_call 61; refine (HT.out _ ?_).mono ?_; (exact World.grownBy_alloc w _ none); rintro e w1 ⟨m, p', cap', rfl, q1, q2, q3, q4, q5, q6, q7, rfl⟩; have Q4 := Lib.hid q4; have Q5 := Lib.hid q5; have Q7 := Lib.hid q7; clear q4 q5 q6 q7)
    have hfin := signed_fin (s := true) q1 q2 (Nat.le_trans q3 hc) HH.out HF.out Q4.out Q5.out Q7.out
    have HFIN := Lib.hid hfin
    clear hfin
    exact bodyPost_ret (v := .agg #[.bool (true && decide (0 < m)), .slice p' m cap']) (by simp [results, Try.results41, go_sem]) rfl HFIN.out
end Go.Proofs.Ytkonfkcaefjabaa
