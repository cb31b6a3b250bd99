/- The program's parser: the end; programs; formulas alone. -/
import Derived.Test.YtoahgeleenpnjaaGreatDoorE32
import Derived.Test.YtoahgeleenpnjaaGreatDoorE29
set_option linter.unusedVariables false
set_option linter.unusedSimpArgs false
namespace Go.Proofs.YtoahgeleenpnjaaGreatDoor
open Go.RowKit

/-- What taking the end leaves. -/
def EndIs (T : List Tok) (s : St) (N : List Nd) (v : Int) (u' : Nat) (N' : List Nd) : Prop :=
  ((kindT T 5 s).2.e = 0 → N' = N ++ [⟨19, (s.i : Int), []⟩] ∧ v = (N.length : Int) ∧ u' = s.i + 1 ∧ (kindT T 5 s).1 = [.lf s.i]) ∧ ((kindT T 5 s).2.e ≠ 0 → v = -1 ∧ N' = N ∧ u' = s.i)
def EPost (b bb : Nat) (T : List Tok) (D n : Nat) (s : St) (N : List Nd) (vn : Value) (A : Nat → Prop) (w : World) (e : Ending) (w' : World) : Prop :=
  ∃ (v : Int) (u' : Nat) (N' : List Nd) (vn' : Value), e = .returned (.int .i64 v) ∧ XAt w' b bb T D n (kindT T 5 s).2 u' N' vn' A ∧ Step b bb vn w vn' w' ∧ EndIs T s N v u' N'
/-- Of a whole reading. -/
def FinPost (b bb : Nat) (T : List Tok) (D kind : Nat) (s : St) (r : RT) (N : List Nd) (vn : Value) (A : Nat → Prop) (w : World) (e : Ending) (w' : World) : Prop :=
  ∃ (x : Int) (u : Nat) (N' : List Nd) (vn' : Value), e = .returned (.int .i64 x) ∧ XAt w' b bb T D 0 r.2 u N' vn' A ∧ Step b bb vn w vn' w' ∧ u ≤ T.length ∧ (r.2.e = 0 → N' = N ++ posts N.length [.nd kind r.1])

section
variable (b bb : Nat) (T : List Tok) (D n : Nat)

set_option maxRecDepth 100000 in
set_option maxHeartbeats 4000000 in
theorem endOf_c (hC : TokC T) (s : St) (N : List Nd) (vn : Value) (A : Nat → Prop) (w : World) (h : XAt w b bb T D n s s.i N vn A) :
    Calls Tryz.prog 53 #[.pointer (some ⟨b, 0, none⟩), .int .i64 5] w (EPost b bb T D n s N vn A w) := by
  have HA : Hid (Calls Tryz.prog 87 #[.pointer (some ⟨b, 0, none⟩), .int .i64 5] w (ValPost (.bool (decide (s.e = 0 ∧ (tokQ T s).kind = 5))) w)) := Lib.hid (atKind_c b bb T D n s s.i N vn A 5 w h)
  have HF := Lib.hid (fun w h => pfail_c b bb T D n 22 s s.i N vn A w h)
  have HX := Lib.hid h
  have HKT : Hid (kindT T 5 s = if s.e = 0 ∧ (tokQ T s).kind = 5 then leafT T s else ([], failQ T 22 s)) := Lib.hid rfl
  have HTK := Lib.hid (fun w h => take_c b bb T D n hC.len hC.short hC.ends s N vn A w h)
  clear h hC
  by_cases hc : s.e = 0 ∧ (tokQ T s).kind = 5
  · rw [decide_eq_true hc] at HA
    rw [if_pos hc] at HKT
    have HC := Lib.hid hc
    clear hc
    go_enter Tryz.func53, Tryz.ntmps53
    go_wp2_with fail
    refine HA.out.mono ?_
    rintro e w1 ⟨rfl, hg⟩
    have HX1 := Lib.hid (HX.out.kept hg); have HG := Lib.hid hg
    clear hg HA
    go_wp2_with fail
    refine (HTK.out _ HX1.out).mono ?_
    rintro e w2 ⟨vn', rfl, h1, h2⟩
    have HZ : Hid (EPost b bb T D n s N vn A w (.returned (.int .i64 (N.length : Int))) w2) := Lib.hid (by
      refine ⟨_, s.i + 1, _, vn', rfl, by rw [HKT.out]; exact h1, (Step.of HG.out).trans h2, ?_, ?_⟩
      · intro _; exact ⟨rfl, rfl, rfl, by rw [HKT.out]; rfl⟩
      · intro he; rw [HKT.out] at he; exact absurd (leaf_live T HC.out.1) he)
    clear h1 h2
    go_wp2_with fail
    go_ret
    exact HZ.out
  · rw [decide_eq_false hc] at HA
    rw [if_neg hc] at HKT
    clear hc
    go_enter Tryz.func53, Tryz.ntmps53
    go_wp2_with fail
    refine HA.out.mono ?_
    rintro e w1 ⟨rfl, hg⟩
    have HX1 := Lib.hid (HX.out.kept hg); have HG := Lib.hid hg
    clear hg HA
    go_wp2_with fail
    refine (HF.out _ HX1.out).mono ?_
    rintro e w2 ⟨rfl, h2, st2⟩
    have HZ : Hid (EPost b bb T D n s N vn A w (.returned (.int .i64 (-1))) w2) := Lib.hid (by
      refine ⟨-1, s.i, N, vn, rfl, by rw [HKT.out]; exact h2, (Step.of HG.out).trans st2, ?_, ?_⟩
      · intro he; rw [HKT.out] at he; exact absurd he (fail_e T (by decide) s)
      · intro _; exact ⟨rfl, rfl, rfl⟩)
    clear h2 st2
    go_wp2_with fail
    go_ret
    exact HZ.out
end

/-- Of all that was read: nodes and places. -/
def FinL (N0 : List Nd) (r : RT) (N : List Nd) (vs : List Int) : Prop := (r.2.e = 0 → N = N0 ++ posts N0.length r.1 ∧ vs = idxs N0.length r.1) ∧ (r.2.e ≠ 0 → (-1 : Int) ∈ vs)
section
variable {b bb : Nat} {T : List Tok} {D n : Nat} {A0 : Nat → Prop} {vn0 : Value} {w0 w w' : World} {s : St} {u : Nat} {N : List Nd} {vn : Value} {L : List (Value × Th)}
theorem FinL.of {k : Nat} {N0 N' : List Nd} {s0 : St} {a : RT} {vs : List Int} {v : Int} {u' : Nat} (h : OutL k N0 s0 a N vs) (he : EndIs T a.2 N v u' N') : FinL N0 (a.1 ++ (kindT T 5 a.2).1, (kindT T 5 a.2).2) N' (vs ++ [v]) := by
  refine ⟨fun e => ?_, fun e => ?_⟩
  · have ea : a.2.e = 0 := by
      rcases Nat.eq_zero_or_pos a.2.e with h9 | h9
      · exact h9
      · exact absurd e (by show ¬ (kindT T 5 a.2).2.e = 0; rw [(kind_keep T 5 a.2).dead (by omega)]; omega)
    obtain ⟨e1, e2, -⟩ := h.1 ea
    obtain ⟨f1, f2, f3, f4⟩ := he.1 e
    have hl : N.length = N0.length + szRs a.1 := by rw [e1, List.length_append, posts_len]
    rw [f4, posts_append, idxs_append, f1, f2, ← e2]
    refine ⟨?_, ?_⟩
    · rw [← List.append_assoc, ← e1]; simp [posts, post]
    · rw [hl]; simp [idxs, szR]
  · rw [(he.2 e).1]; exact List.mem_append_right _ (List.mem_singleton.2 rfl)
theorem KX.endOf (hk : KX b bb T D n A0 vn0 w0 w s s.i N vn L) (hC : TokC T) :
    Calls Tryz.prog 53 #[.pointer (some ⟨b, 0, none⟩), .int .i64 5] w fun e w' => ∃ (v : Int) (u' : Nat) (N' : List Nd) (vn' : Value), e = .returned (.int .i64 v) ∧ KX b bb T D n A0 vn0 w0 w' (kindT T 5 s).2 u' N' vn' L ∧ EndIs T s N v u' N' := by
  obtain ⟨A, h1, h2, h3, h4, h5⟩ := hk
  refine (endOf_c b bb T D n hC s N vn A w h1).mono ?_
  rintro e w' ⟨v, u', N', vn', rfl, g1, g2, g3⟩
  exact ⟨v, u', N', vn', rfl, KX.go h2 h3 h4 h5 h1.lt g1 g2, g3⟩
theorem KX.nodeEnd {kind : Nat} {v : Value} {vs : List Int} {N0 : List Nd} {r : RT} (hk : KX b bb T D n A0 vn0 w0 w r.2 u N vn L) (hm : (v, Th.ints vs) ∈ L) (hT : T.length ≤ 40000) (hu : u ≤ T.length) (hF : FinL N0 r N vs) (hl : vs.length ≤ 30000) (hr : r.2.e = 0 → N.length + 1 ≤ 2 * u) :
    Calls Tryz.prog 52 #[.pointer (some ⟨bb, 0, none⟩), .int .i64 (kind : Int), v] w fun e w' => ∃ (x : Int) (N' : List Nd) (vn' : Value), e = .returned (.int .i64 x) ∧ KX b bb T D n A0 vn0 w0 w' r.2 u N' vn' L ∧ (r.2.e = 0 → N' = N0 ++ posts N0.length [.nd kind r.1]) := by
  obtain ⟨p, c, rfl, hv, -, -⟩ := hk.list hm
  have hk2 := hk
  obtain ⟨A, h1, h2, h3, h4, h5⟩ := hk
  have hfew := h1.few
  by_cases he : r.2.e = 0
  · obtain ⟨e1, e2⟩ := hF.1 he
    have hok : okB N.length vs = true := okB_true fun j hj => by
      rw [e2] at hj
      have := idxs_in _ _ _ hj
      rw [e1, List.length_append, posts_len]; omega
    refine (Node_far A bb T u N vn (kind : Int) vs p c w (by omega) (by omega) h1.bld h1.new hv hok).mono ?_
    rintro e w' ⟨rfl, vn', g1, g2, g3⟩
    obtain ⟨hx, hst⟩ := h1.bump g1 g2 g3 (by rw [List.length_append]; exact hr he)
    refine ⟨_, _, vn', rfl, KX.go h2 h3 h4 h5 h1.lt hx hst, fun _ => ?_⟩
    simp only [posts, post, List.append_nil]
    rw [← List.append_assoc, ← e1, e2]
  · have hno : okB N.length vs = false := by
      obtain ⟨j, hj⟩ := List.getElem?_of_mem (hF.2 he)
      exact okB_false hj (by omega)
    refine (Node_none bb T u N vn (kind : Int) vs p c w (by omega) (by omega) h1.bld.bld hv hno).mono ?_
    rintro e w' ⟨rfl, hg⟩
    exact ⟨-1, N, vn, rfl, hk2.kept hg, fun e => absurd e he⟩
end

theorem rowP_shift {T : List Tok} {c : St → Bool} {sub : St → RT} {most : Nat} : ∀ f k (l : List Tr) (s : St), rowP T c sub most f k (l, s) = (l ++ (rowP T c sub most f k ([], s)).1, (rowP T c sub most f k ([], s)).2)
  | 0, k, l, s => by simp [rowP]
  | f + 1, k, l, s => by
    unfold rowP
    split
    · split
      · simp
      · show rowP T c sub most f (k + 1) (l ++ (sub s).1, (sub s).2) = _
        rw [rowP_shift f (k + 1) (l ++ (sub s).1), show (([], s) : RT).1 ++ (sub s).1 = (sub s).1 from rfl, rowP_shift f (k + 1) (sub s).1]
        simp
    · simp
theorem import_at {T : List Tok} (hC : TokC T) : atQ T [[105, 109, 112, 111, 114, 116]] = isQ T [105, 109, 112, 111, 114, 116] := funext fun s => at_one hC (by decide) s
theorem parts_inn {T : List Tok} {sub : St → RT} (hI : ∀ s, s.inn = false → (sub s).2.inn = false) : ∀ f k (r : RT), r.2.inn = false → (partsT T sub f k r).2.inn = false
  | 0, k, r, h => h
  | f + 1, k, r, h => by
    unfold partsT
    split
    · rename_i hc
      refine parts_inn hI f _ _ ?_
      have hl : (leafT T r.2).2.inn = false := (leaf_keep T (is_kind hc).2).inn.trans h
      show (sub (if k = 8 then failQ T 15 (leafT T r.2).2 else (leafT T r.2).2)).2.inn = false
      refine hI _ ?_
      split
      · exact (fail_keep T 15 (leafT T r.2).2 []).inn.trans hl
      · exact hl
    · exact h
theorem def_inn {T : List Tok} {D : Nat} (s : St) (h : s.inn = false) : (defT T (NT T D 0).expr s).2.inn = false := by
  have hA : (defAT T s).2.inn = false := by
    unfold defAT
    split
    · rename_i hc; exact (leaf_keep T (is_kind hc).2).inn.trans h
    · exact h
  have hB : (defBT T (defAT T s)).2.inn = false := by
    show (mustT T [40] (kindT T 1 (mustT T [102, 117, 110] (defAT T s).2).2).2).2.inn = false
    rw [(must_keep T [40] _).inn, (kind_keep T 1 _).inn, (must_keep T [102, 117, 110] _).inn]; exact hA
  have hC : (defCT T (NT T D 0).expr (defBT T (defAT T s))).2.inn = false := by
    generalize defBT T (defAT T s) = X at hB
    have hp : (paramsT T (NT T D 0).expr X.2).2.inn = false := by
      unfold paramsT
      exact parts_inn (T := T) (sub := parT T (NT T D 0).expr) (fun s h => par_inn (T := T) (D := D) s h) (fuelQ T (parT T (NT T D 0).expr X.2).2) 1 (parT T (NT T D 0).expr X.2) (par_inn (T := T) (D := D) X.2 hB)
    unfold defCT
    split
    · exact hp
    · exact hB
  generalize hg : defCT T (NT T D 0).expr (defBT T (defAT T s)) = a at hC
  have e : (defT T (NT T D 0).expr s).2 = (mustT T [59] ((NT T D 0).expr (mustT T [61] (typedT T (NT T D 0).expr (mustT T [41] a.2).2).2).2).2).2 := by rw [← hg]; rfl
  rw [e, (must_keep T [59] _).inn, ((nx_keep T D (D - 0)).expr _).inn, (must_keep T [61] _).inn]
  refine typed_inn (T := T) (D := D) _ ?_
  rw [(must_keep T [41] _).inn]; exact hC
theorem defs_at {T : List Tok} (hC : TokC T) : atQ T [[112, 117, 98], [102, 117, 110]] = isDef T := funext fun s => by rw [at_any hC (by decide)]; simp [isDef]
section
variable (T : List Tok) (D : Nat)
def progA (s : St) : RT := rowP T (isQ T [105, 109, 112, 111, 114, 116]) (imT T) 16 (fuelQ T s) 0 ([], s)
def progD (s : St) : RT := rowP T (isDef T) (defT T (NT T D 0).expr) 64 (fuelQ T s) 0 ([], s)
def progP (s : St) : RT := ((progA T s).1 ++ (progD T D (progA T s).2).1 ++ (kindT T 5 (progD T D (progA T s).2).2).1, (kindT T 5 (progD T D (progA T s).2).2).2)
theorem isDef_dead {s : St} (h : s.e ≠ 0) : isDef T s = false := by unfold isDef; rw [is_live h, is_live h]; rfl
theorem progD_dead {s : St} (h : s.e ≠ 0) : progD T D s = ([], s) := rowP_stop (isDef_dead T h) _
theorem progP_eqv (s : St) : Eqv (progP T D s) (programT T (NT T D 0).expr s) := by
  have hA : Eqv (progA T s) (importsT T ([], s)).2 := rowP_many (fun r h => imT_step h) _ _ _
  have hAb := many_bad T (c := isQ T [105, 109, 112, 111, 114, 116]) (stepT := impStepT T) (most := 16) (fuelQ T s) 0 ([], s)
  have hAb' : (importsT T ([], s)).1 = false → (importsT T ([], s)).2.2.e ≠ 0 := hAb
  unfold programT
  generalize importsT T ([], s) = I at *
  by_cases hd : I.2.2.e = 0
  · have hI : I.1 = true := by
      cases h : I.1
      · exact absurd hd (hAb' h)
      · rfl
    have eA : progA T s = I.2 := Prod.ext (hA.2 hd) hA.1
    have hDm : Eqv (rowP T (isDef T) (defT T (NT T D 0).expr) 64 (fuelQ T I.2.2) 0 I.2) (defsT T (NT T D 0).expr I.2).2 := rowP_many (fun r h => rfl) _ _ _
    have hDb : (defsT T (NT T D 0).expr I.2).1 = false → (defsT T (NT T D 0).expr I.2).2.2.e ≠ 0 := many_bad T (c := isDef T) (stepT := defStepT T (NT T D 0).expr) (most := 64) (fuelQ T I.2.2) 0 I.2
    rw [show I.2 = (I.2.1, I.2.2) from rfl, rowP_shift] at hDm
    unfold progP
    rw [eA, if_neg (by rw [hI]; decide)]
    have hDm' : Eqv (I.2.1 ++ (progD T D I.2.2).1, (progD T D I.2.2).2) (defsT T (NT T D 0).expr I.2).2 := hDm
    by_cases hJ : (defsT T (NT T D 0).expr I.2).1 = false
    · rw [if_pos hJ]
      have hdd := hDb hJ
      refine ⟨?_, fun e => absurd e hdd⟩
      show (kindT T 5 (progD T D I.2.2).2).2 = _
      rw [(kind_keep T 5 (progD T D I.2.2).2).dead (by rw [show (progD T D I.2.2).2 = _ from hDm'.1]; exact hdd)]
      exact hDm'.1
    · rw [if_neg hJ]
      have e1 : (progD T D I.2.2).2 = (defsT T (NT T D 0).expr I.2).2.2 := hDm'.1
      refine ⟨by show (kindT T 5 (progD T D I.2.2).2).2 = _; rw [e1], fun e => ?_⟩
      have ed : (defsT T (NT T D 0).expr I.2).2.2.e = 0 := by
        rcases Nat.eq_zero_or_pos (defsT T (NT T D 0).expr I.2).2.2.e with h9 | h9
        · exact h9
        · exact absurd e (by show ¬ (kindT T 5 (defsT T (NT T D 0).expr I.2).2.2).2.e = 0; rw [(kind_keep T 5 _).dead (by omega)]; omega)
      show I.2.1 ++ (progD T D I.2.2).1 ++ (kindT T 5 (progD T D I.2.2).2).1 = _
      rw [e1, show I.2.1 ++ (progD T D I.2.2).1 = _ from hDm'.2 ed]
  · have e1 : (progA T s).2 = I.2.2 := hA.1
    have hd1 : (progA T s).2.e ≠ 0 := by rw [e1]; exact hd
    have e2 : (progP T D s).2 = I.2.2 := by
      unfold progP
      rw [progD_dead T D hd1]
      show (kindT T 5 (progA T s).2).2 = _
      rw [(kind_keep T 5 _).dead hd1, e1]
    by_cases hI : I.1 = false
    · rw [if_pos hI]; exact ⟨e2, fun e => absurd e hd⟩
    · rw [if_neg hI]
      have e3 : defsT T (NT T D 0).expr I.2 = (true, I.2) := by
        unfold defsT fuelQ
        unfold manyT
        rw [isDef_dead T hd]; rfl
      rw [e3]
      have e4 : (kindT T 5 I.2.2).2 = I.2.2 := (kind_keep T 5 _).dead hd
      refine ⟨?_, fun e => absurd e (by show (kindT T 5 I.2.2).2.e ≠ 0; rw [e4]; exact hd)⟩
      show (progP T D s).2 = (kindT T 5 I.2.2).2
      rw [e2, e4]
end

section
variable (b bb : Nat) (T : List Tok) (D : Nat)

set_option maxRecDepth 100000 in
set_option maxHeartbeats 8000000 in
theorem program_p (hC : TokC T) (hDf : SubI b bb T D 0 (fun s => s.inn = false) 51 (defT T (NT T D 0).expr)) (s : St) (N : List Nd) (vn : Value) (A : Nat → Prop) (w : World) (hP : s.inn = false) (h : XAt w b bb T D 0 s s.i N vn A) :
    Calls Tryz.prog 24 #[.pointer (some ⟨b, 0, none⟩)] w (FinPost b bb T D 1 s (programT T (NT T D 0).expr s) N vn A w) := by
  have HCC := Lib.hid hC
  have HIMI : Hid (∀ s : St, s.inn = false → (imT T s).2.inn = false) := Lib.hid (fun s h => (must_keep T [59] _).inn.trans ((kind_keep T 1 _).inn.trans ((must_keep T [105, 109, 112, 111, 114, 116] s).inn.trans h)))
  have HDFI : Hid (∀ s : St, s.inn = false → (defT T (NT T D 0).expr s).2.inn = false) := Lib.hid (fun s h => def_inn (T := T) (D := D) s h)
  have HRI := Lib.hid (fun (w1 : World) (s : St) (N1 : List Nd) (vn1 v : Value) (L : List (Value × Th)) (hk : KX b bb T D 0 A vn w w1 s s.i N1 vn1 L) (hm : (v, Th.strs [[105, 109, 112, 111, 114, 116]]) ∈ L) (hi : s.inn = false) => row_imported b bb T D 0 hC (fun s => isQ T [105, 109, 112, 111, 114, 116] s = true) (imT T) 16 (by decide) (imported_p b bb T D 0 hC) HIMI.out [[105, 109, 112, 111, 114, 116]] (by decide) (fun s _ h => by rw [at_one hC (by decide)] at h; exact h) (fun s h => by rw [at_one hC (by decide)] at h; exact imT_less h) hk hm hi)
  have HRD := Lib.hid (fun (w1 : World) (s : St) (N1 : List Nd) (vn1 v : Value) (L : List (Value × Th)) (hk : KX b bb T D 0 A vn w w1 s s.i N1 vn1 L) (hm : (v, Th.strs [[112, 117, 98], [102, 117, 110]]) ∈ L) (hi : s.inn = false) => row_definition b bb T D 0 hC (fun s => s.inn = false) (defT T (NT T D 0).expr) 64 (by decide) hDf HDFI.out [[112, 117, 98], [102, 117, 110]] (by decide) (fun s hs _ => hs) (fun s h => by rw [defs_at hC] at h; exact defT_less h) hk hm hi)
  rw [import_at hC] at HRI
  rw [defs_at hC] at HRD
  have HK := Lib.hid (KX.start h)
  have HPP := Lib.hid hP
  clear h hC hP hDf HIMI HDFI
  go_enter Tryz.func24, Tryz.ntmps24
  go_wp2_with fail
  refine (HRI.out _ _ _ _ _ _ (HK.out.strs1 _ _) (List.mem_cons_self ..) HPP.out).mono ?_
  rintro e w1 ⟨⟨lv, vs, N1, vn1, rfl, hk, ho, hd, hl⟩, hi⟩
  have HK : Hid (KX b bb T D 0 A vn w w1 (progA T s).2 (progA T s).2.i N1 vn1 [(lv, .ints vs)]) := Lib.hid (hk.few (List.Sublist.cons_cons _ (List.nil_sublist _)))
  have HA : Hid (OutL 0 N s (progA T s) N1 vs) := Lib.hid ho
  have HDD := Lib.hid hd; have HL := Lib.hid hl; have HIN : Hid ((progA T s).2.inn = false) := Lib.hid hi
  clear hk ho hd hl hi
  go_wp2_with fail
  refine (HRD.out _ _ _ _ _ _ (HK.out.strs2 _ _ _) (List.mem_cons_self ..) HIN.out).mono ?_
  rintro e w2 ⟨⟨lv2, vs2, N2, vn2, rfl, hk, ho, hd, hl⟩, hi⟩
  obtain ⟨q2, c2, rfl, hv2, -, -⟩ := hk.list (List.mem_cons_self ..)
  have HK := Lib.hid (hk.few (L' := [(.slice q2 vs2.length c2, .ints vs2), (lv, .ints vs)]) (List.Sublist.cons_cons _ (List.sublist_cons_self _ _)))
  have HVV := Lib.hid hv2; have HL2 := Lib.hid hl
  obtain ⟨l2, hl2⟩ : ∃ l2, vs ++ vs2 = l2 := ⟨_, rfl⟩
  have HE2 := Lib.hid hl2; have HLL : Hid (l2.length ≤ 600) := Lib.hid (by rw [← hl2, List.length_append]; have := HL.out; omega)
  have HA : Hid (OutL 0 N s ((progA T s).1 ++ (progD T D (progA T s).2).1, (progD T D (progA T s).2).2) N2 l2) := Lib.hid (by rw [← hl2]; exact (HA.out.app ho hd).weak (by decide))
  obtain ⟨m2, hm2⟩ : ∃ m2, vs2.length = m2 := ⟨_, rfl⟩
  have HM2 := Lib.hid hm2
  rw [hm2] at HK ⊢
  clear hk ho hd hl hi hv2 hl2 hm2
  go_wp2_with (at_builtin; go_loud (refine wpList_kx rfl _ _ rfl HK.out (List.sublist_cons_self _ _) rfl rfl (l2 := vs2) HM2.out HVV.out (by have := HL.out; omega) (by have := HL2.out; omega) ?_))
  intro kv3 w3 hk3
  rw [HE2.out] at hk3
  have HK : Hid (KX b bb T D 0 A vn w w3 (progD T D (progA T s).2).2 (progD T D (progA T s).2).2.i N2 vn2 [(kv3, .ints l2)]) := Lib.hid hk3
  clear hk3 HVV HM2 HE2
  go_wp2_with fail
  have HKD := HK
  have HK := Lib.hid HK.out.drew
  go_region_held3 (fun w' => w'.cell? ⟨b, 0, none⟩ = some (.pointer (some ⟨bb, 0, none⟩))) (first | exact HK.out.cell | exact (HK.out.alloc _).cell)
    (first
      | (refine step_kx rfl _ _ rfl (HK.out.ints1 _) (List.sublist_cons_self _ _) rfl rfl (l2 := [_]) rfl (vat1 _ _) (by have := HLL.out; omega) (by simp) ?_; intro kv4 w9 hk9; have HK := Lib.hid hk9; clear hk9)
      | (go_at_call 52; refine (KX.nodeEnd (kind := 1) (r := progP T D s) HK.out ?_ HCC.out.len HUU.out HFL.out ?_ HRM.out).mono ?_; exact List.mem_cons_self ..; (have := HLL.out; rw [List.length_append]; simp; omega); rintro e w9 ⟨x9, N9, vn9, rfl, hk9, hz9⟩; have HK := Lib.hid hk9; have HZ := Lib.hid hz9; clear hk9 hz9)
      | (go_at_call 53; have HOK := Lib.hid HK.out.ok; have HRO := Lib.hid HK.out.room; (with_reducible refine (HK.out.endOf HCC.out).mono ?_); rintro e w9 ⟨v9, u9, N9, vn9, rfl, hk9, he9⟩; have HK := Lib.hid hk9; have HFL : Hid (FinL N (progP T D s) N9 (l2 ++ [v9])) := Lib.hid (FinL.of HA.out he9); have HUU : Hid (u9 ≤ T.length) := Lib.hid (by
          have h5 := HOK.out
          by_cases hz : (kindT T 5 (progD T D (progA T s).2).2).2.e = 0
          · rw [(he9.1 hz).2.2.1]; omega
          · rw [(he9.2 hz).2.2]; omega); have HRM : Hid ((progP T D s).2.e = 0 → N9.length + 1 ≤ 2 * u9) := Lib.hid (fun hz => by
          have h6 := HRO.out
          rw [(he9.1 hz).2.2.1, (he9.1 hz).1, List.length_append]; show N2.length + 1 + 1 ≤ _; omega); clear hk9 he9))
  all_goals
    have hx := HK.out.done
    have HQ : Hid (FinPost b bb T D 1 s (programT T (NT T D 0).expr s) N vn A w (.returned (.int .i64 x9)) w9) := Lib.hid (by
      have he := progP_eqv T D s
      refine ⟨x9, u9, N9, vn9, rfl, by rw [← he.1]; exact hx.1, hx.2, HUU.out, fun e => ?_⟩
      rw [← he.2 e]
      exact HZ.out (by rw [he.1]; exact e))
    clear hx
    go_wp2_with fail
    go_ret
    exact HQ.out
end
end Go.Proofs.YtoahgeleenpnjaaGreatDoor
namespace Go.Proofs.YtoahgeleenpnjaaGreatDoor

section
variable {T : List Tok} {D n : Nat} {nt : NxT} {s : St}
theorem body_l (h1 : isQ T [108, 101, 116] s = true) : bodyE T D n nt s = letT T nt s := if_pos h1
theorem body_i (h1 : isQ T [108, 101, 116] s = false) (h2 : isQ T [105, 102] s = true) : bodyE T D n nt s = ifT T nt s := by
  unfold bodyE; rw [if_neg (by rw [h1]; decide), if_pos h2]
theorem body_a (h1 : isQ T [108, 101, 116] s = false) (h2 : isQ T [105, 102] s = false) (h3 : isQ T [97, 115, 115, 101, 114, 116] s = true) : bodyE T D n nt s = assertT T nt s := by
  unfold bodyE; rw [if_neg (by rw [h1]; decide), if_neg (by rw [h2]; decide), if_pos h3]
theorem body_f (h1 : isQ T [108, 101, 116] s = false) (h2 : isQ T [105, 102] s = false) (h3 : isQ T [97, 115, 115, 101, 114, 116] s = false) : bodyE T D n nt s = formulaT T D n nt s := by
  unfold bodyE; rw [if_neg (by rw [h1]; decide), if_neg (by rw [h2]; decide), if_neg (by rw [h3]; decide)]
end
end Go.Proofs.YtoahgeleenpnjaaGreatDoor
