/- The program's parser: imports, rows of imports and definitions; programs; formulas alone. -/
import Derived.Test.YtdilncefhfbgeaaGreatDoorPClause
import Derived.Test.YtdilncefhfbgeaaGreatDoorPRow
set_option linter.unusedVariables false
set_option linter.unusedSimpArgs false
namespace Go.Proofs.YtdilncefhfbgeaaGreatDoor
open Go.RowKit

/-- Many, as the program goes at them. -/
def rowP (T : List Tok) (c : St → Bool) (sub : St → RT) (most : Nat) : Nat → Nat → RT → RT
  | 0, _, r => r
  | f + 1, k, r => if c r.2 = true then (if k = most then (r.1, failQ T 15 r.2) else rowP T c sub most f (k + 1) (r.1 ++ (sub r.2).1, (sub r.2).2)) else r
theorem rowP_stop {T : List Tok} {c : St → Bool} {sub : St → RT} {most k : Nat} {r : RT} (hc : c r.2 = false) : ∀ f, rowP T c sub most f k r = r
  | 0 => rfl
  | f + 1 => by unfold rowP; rw [hc]; rfl
def LeftM (T : List Tok) (c : St → Bool) (sub : St → RT) (most : Nat) (R : RT) (k : Nat) (r : RT) : Prop := ∃ f, T.length - r.2.i + 1 ≤ f ∧ rowP T c sub most f k r = R
theorem LeftM.stop {T : List Tok} {c : St → Bool} {sub : St → RT} {most k : Nat} {R r : RT} (h : LeftM T c sub most R k r) (hc : c r.2 = false) : R = r := by
  obtain ⟨f, -, hf⟩ := h; rw [← hf, rowP_stop hc]
theorem LeftM.next {T : List Tok} {c : St → Bool} {sub : St → RT} {most k : Nat} {R r : RT} (h : LeftM T c sub most R k r) (hc : c r.2 = true) (hk : k ≠ most) (hi : r.2.i < T.length) (hl : r.2.i < (sub r.2).2.i) : LeftM T c sub most R (k + 1) (r.1 ++ (sub r.2).1, (sub r.2).2) := by
  obtain ⟨f, hf, hr⟩ := h
  obtain ⟨g, rfl⟩ : ∃ g, f = g + 1 := ⟨f - 1, by omega⟩
  refine ⟨g, by show T.length - (sub r.2).2.i + 1 ≤ g; omega, ?_⟩
  unfold rowP at hr
  rw [if_pos hc, if_neg hk] at hr
  exact hr

section
variable (b bb : Nat) (T : List Tok) (D n : Nat)

end
end Go.Proofs.YtdilncefhfbgeaaGreatDoor
namespace Go.Proofs.YtdilncefhfbgeaaGreatDoor
open Go.RowKit

/-- What taking the end leaves. -/
def EndIs (T : List Tok) (s : St) (N : List Nd) (v : Int) (u' : Nat) (N' : List Nd) : Prop :=
  ((kindT T 5 s).2.e = 0 → N' = N ++ [⟨19, (s.i : Int), []⟩] ∧ v = (N.length : Int) ∧ u' = s.i + 1 ∧ (kindT T 5 s).1 = [.lf s.i]) ∧ ((kindT T 5 s).2.e ≠ 0 → v = -1 ∧ N' = N ∧ u' = s.i)
def EPost (b bb : Nat) (T : List Tok) (D n : Nat) (s : St) (N : List Nd) (vn : Value) (A : Nat → Prop) (w : World) (e : Ending) (w' : World) : Prop :=
  ∃ (v : Int) (u' : Nat) (N' : List Nd) (vn' : Value), e = .returned (.int .i64 v) ∧ XAt w' b bb T D n (kindT T 5 s).2 u' N' vn' A ∧ Step b bb vn w vn' w' ∧ EndIs T s N v u' N'
/-- Of a whole reading. -/
def FinPost (b bb : Nat) (T : List Tok) (D kind : Nat) (s : St) (r : RT) (N : List Nd) (vn : Value) (A : Nat → Prop) (w : World) (e : Ending) (w' : World) : Prop :=
  ∃ (x : Int) (u : Nat) (N' : List Nd) (vn' : Value), e = .returned (.int .i64 x) ∧ XAt w' b bb T D 0 r.2 u N' vn' A ∧ Step b bb vn w vn' w' ∧ u ≤ T.length ∧ (r.2.e = 0 → N' = N ++ posts N.length [.nd kind r.1])

section
variable (b bb : Nat) (T : List Tok) (D n : Nat)

set_option maxRecDepth 100000 in
set_option maxHeartbeats 4000000 in
theorem endOf_c (hC : TokC T) (s : St) (N : List Nd) (vn : Value) (A : Nat → Prop) (w : World) (h : XAt w b bb T D n s s.i N vn A) :
    Calls Tryz.prog 105 #[.pointer (some ⟨b, 0, none⟩), .int .i64 5] w (EPost b bb T D n s N vn A w) := by
  have HA : Hid (Calls Tryz.prog 165 #[.pointer (some ⟨b, 0, none⟩), .int .i64 5] w (ValPost (.bool (decide (s.e = 0 ∧ (tokQ T s).kind = 5))) w)) := Lib.hid (atKind_c b bb T D n s s.i N vn A 5 w h)
  have HF := Lib.hid (fun w h => pfail_c b bb T D n 22 s s.i N vn A w h)
  have HX := Lib.hid h
  have HKT : Hid (kindT T 5 s = if s.e = 0 ∧ (tokQ T s).kind = 5 then leafT T s else ([], failQ T 22 s)) := Lib.hid rfl
  have HTK := Lib.hid (fun w h => take_c b bb T D n hC.len hC.short hC.ends s N vn A w h)
  clear h hC
  by_cases hc : s.e = 0 ∧ (tokQ T s).kind = 5
  · rw [decide_eq_true hc] at HA
    rw [if_pos hc] at HKT
    have HC := Lib.hid hc
    clear hc
    go_enter Tryz.func105, Tryz.ntmps105
    go_wp2_with fail
    refine HA.out.mono ?_
    rintro e w1 ⟨rfl, hg⟩
    have HX1 := Lib.hid (HX.out.kept hg); have HG := Lib.hid hg
    clear hg HA
    go_wp2_with fail
    refine (HTK.out _ HX1.out).mono ?_
    rintro e w2 ⟨vn', rfl, h1, h2⟩
    have HZ : Hid (EPost b bb T D n s N vn A w (.returned (.int .i64 (N.length : Int))) w2) := Lib.hid (by
      refine ⟨_, s.i + 1, _, vn', rfl, by rw [HKT.out]; exact h1, (Step.of HG.out).trans h2, ?_, ?_⟩
      · intro _; exact ⟨rfl, rfl, rfl, by rw [HKT.out]; rfl⟩
      · intro he; rw [HKT.out] at he; exact absurd (leaf_live T HC.out.1) he)
    clear h1 h2
    go_wp2_with fail
    go_ret
    exact HZ.out
  · rw [decide_eq_false hc] at HA
    rw [if_neg hc] at HKT
    clear hc
    go_enter Tryz.func105, Tryz.ntmps105
    go_wp2_with fail
    refine HA.out.mono ?_
    rintro e w1 ⟨rfl, hg⟩
    have HX1 := Lib.hid (HX.out.kept hg); have HG := Lib.hid hg
    clear hg HA
    go_wp2_with fail
    refine (HF.out _ HX1.out).mono ?_
    rintro e w2 ⟨rfl, h2, st2⟩
    have HZ : Hid (EPost b bb T D n s N vn A w (.returned (.int .i64 (-1))) w2) := Lib.hid (by
      refine ⟨-1, s.i, N, vn, rfl, by rw [HKT.out]; exact h2, (Step.of HG.out).trans st2, ?_, ?_⟩
      · intro he; rw [HKT.out] at he; exact absurd he (fail_e T (by decide) s)
      · intro _; exact ⟨rfl, rfl, rfl⟩)
    clear h2 st2
    go_wp2_with fail
    go_ret
    exact HZ.out
end

/-- Of all that was read: nodes and places. -/
def FinL (N0 : List Nd) (r : RT) (N : List Nd) (vs : List Int) : Prop := (r.2.e = 0 → N = N0 ++ posts N0.length r.1 ∧ vs = idxs N0.length r.1) ∧ (r.2.e ≠ 0 → (-1 : Int) ∈ vs)
section
variable {b bb : Nat} {T : List Tok} {D n : Nat} {A0 : Nat → Prop} {vn0 : Value} {w0 w w' : World} {s : St} {u : Nat} {N : List Nd} {vn : Value} {L : List (Value × Th)}
theorem FinL.of {k : Nat} {N0 N' : List Nd} {s0 : St} {a : RT} {vs : List Int} {v : Int} {u' : Nat} (h : OutL k N0 s0 a N vs) (he : EndIs T a.2 N v u' N') : FinL N0 (a.1 ++ (kindT T 5 a.2).1, (kindT T 5 a.2).2) N' (vs ++ [v]) := by
  refine ⟨fun e => ?_, fun e => ?_⟩
  · have ea : a.2.e = 0 := by
      rcases Nat.eq_zero_or_pos a.2.e with h9 | h9
      · exact h9
      · exact absurd e (by show ¬ (kindT T 5 a.2).2.e = 0; rw [(kind_keep T 5 a.2).dead (by omega)]; omega)
    obtain ⟨e1, e2, -⟩ := h.1 ea
    obtain ⟨f1, f2, f3, f4⟩ := he.1 e
    have hl : N.length = N0.length + szRs a.1 := by rw [e1, List.length_append, posts_len]
    rw [f4, posts_append, idxs_append, f1, f2, ← e2]
    refine ⟨?_, ?_⟩
    · rw [← List.append_assoc, ← e1]; simp [posts, post]
    · rw [hl]; simp [idxs, szR]
  · rw [(he.2 e).1]; exact List.mem_append_right _ (List.mem_singleton.2 rfl)
theorem KX.endOf (hk : KX b bb T D n A0 vn0 w0 w s s.i N vn L) (hC : TokC T) :
    Calls Tryz.prog 105 #[.pointer (some ⟨b, 0, none⟩), .int .i64 5] w fun e w' => ∃ (v : Int) (u' : Nat) (N' : List Nd) (vn' : Value), e = .returned (.int .i64 v) ∧ KX b bb T D n A0 vn0 w0 w' (kindT T 5 s).2 u' N' vn' L ∧ EndIs T s N v u' N' := by
  obtain ⟨A, h1, h2, h3, h4, h5⟩ := hk
  refine (endOf_c b bb T D n hC s N vn A w h1).mono ?_
  rintro e w' ⟨v, u', N', vn', rfl, g1, g2, g3⟩
  exact ⟨v, u', N', vn', rfl, KX.go h2 h3 h4 h5 h1.lt g1 g2, g3⟩
theorem KX.nodeEnd {kind : Nat} {v : Value} {vs : List Int} {N0 : List Nd} {r : RT} (hk : KX b bb T D n A0 vn0 w0 w r.2 u N vn L) (hm : (v, Th.ints vs) ∈ L) (hT : T.length ≤ 40000) (hu : u ≤ T.length) (hF : FinL N0 r N vs) (hl : vs.length ≤ 30000) (hr : r.2.e = 0 → N.length + 1 ≤ 2 * u) :
    Calls Tryz.prog 104 #[.pointer (some ⟨bb, 0, none⟩), .int .i64 (kind : Int), v] w fun e w' => ∃ (x : Int) (N' : List Nd) (vn' : Value), e = .returned (.int .i64 x) ∧ KX b bb T D n A0 vn0 w0 w' r.2 u N' vn' L ∧ (r.2.e = 0 → N' = N0 ++ posts N0.length [.nd kind r.1]) := by
  obtain ⟨p, c, rfl, hv, -, -⟩ := hk.list hm
  have hk2 := hk
  obtain ⟨A, h1, h2, h3, h4, h5⟩ := hk
  have hfew := h1.few
  by_cases he : r.2.e = 0
  · obtain ⟨e1, e2⟩ := hF.1 he
    have hok : okB N.length vs = true := okB_true fun j hj => by
      rw [e2] at hj
      have := idxs_in _ _ _ hj
      rw [e1, List.length_append, posts_len]; omega
    refine (Node_far A bb T u N vn (kind : Int) vs p c w (by omega) (by omega) h1.bld h1.new hv hok).mono ?_
    rintro e w' ⟨rfl, vn', g1, g2, g3⟩
    obtain ⟨hx, hst⟩ := h1.bump g1 g2 g3 (by rw [List.length_append]; exact hr he)
    refine ⟨_, _, vn', rfl, KX.go h2 h3 h4 h5 h1.lt hx hst, fun _ => ?_⟩
    simp only [posts, post, List.append_nil]
    rw [← List.append_assoc, ← e1, e2]
  · have hno : okB N.length vs = false := by
      obtain ⟨j, hj⟩ := List.getElem?_of_mem (hF.2 he)
      exact okB_false hj (by omega)
    refine (Node_none bb T u N vn (kind : Int) vs p c w (by omega) (by omega) h1.bld.bld hv hno).mono ?_
    rintro e w' ⟨rfl, hg⟩
    exact ⟨-1, N, vn, rfl, hk2.kept hg, fun e => absurd e he⟩
end

section
variable (T : List Tok) (D : Nat)
end

section
variable (b bb : Nat) (T : List Tok) (D : Nat)

end
end Go.Proofs.YtdilncefhfbgeaaGreatDoor
namespace Go.Proofs.YtdilncefhfbgeaaGreatDoor

section
variable {T : List Tok} {D n : Nat} {nt : NxT} {s : St}
theorem body_l (h1 : isQ T [108, 101, 116] s = true) : bodyE T D n nt s = letT T nt s := if_pos h1
theorem body_i (h1 : isQ T [108, 101, 116] s = false) (h2 : isQ T [105, 102] s = true) : bodyE T D n nt s = ifT T nt s := by
  unfold bodyE; rw [if_neg (by rw [h1]; decide), if_pos h2]
theorem body_a (h1 : isQ T [108, 101, 116] s = false) (h2 : isQ T [105, 102] s = false) (h3 : isQ T [97, 115, 115, 101, 114, 116] s = true) : bodyE T D n nt s = assertT T nt s := by
  unfold bodyE; rw [if_neg (by rw [h1]; decide), if_neg (by rw [h2]; decide), if_pos h3]
theorem body_f (h1 : isQ T [108, 101, 116] s = false) (h2 : isQ T [105, 102] s = false) (h3 : isQ T [97, 115, 115, 101, 114, 116] s = false) : bodyE T D n nt s = formulaT T D n nt s := by
  unfold bodyE; rw [if_neg (by rw [h1]; decide), if_neg (by rw [h2]; decide), if_neg (by rw [h3]; decide)]
end
end Go.Proofs.YtdilncefhfbgeaaGreatDoor
