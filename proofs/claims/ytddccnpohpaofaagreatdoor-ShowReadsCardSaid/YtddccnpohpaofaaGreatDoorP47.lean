/- Lemmas. -/
import Derived.Test.YtddccnpohpaofaaGreatDoorP34
import Derived.Test.YtddccnpohpaofaaGreatDoorP46
set_option linter.unusedVariables false
set_option linter.unusedSimpArgs false
namespace Go.Proofs.YtddccnpohpaofaaGreatDoor

theorem num_txt {nu : Int} (h0 : 0 ≤ nu) (hl : (Zd.txtL nu).length ≤ 60) : numOk (Zd.txtL nu) := by
  by_cases hz : nu = 0
  · subst hz; refine ⟨by decide, by decide, by decide, by decide⟩
  · obtain ⟨N, rfl⟩ := Int.eq_ofNat_of_zero_le h0
    have hN : N ≠ 0 := fun e => hz (by rw [e]; rfl)
    have ht : Zd.txtL (N : Int) = Zd.decL N := by unfold Zd.txtL; rw [if_neg hz, if_neg (by omega)]; rfl
    rw [ht] at hl ⊢
    have hnd : 0 < Zd.nd N := by rw [Zd.nd, dif_neg hN]; omega
    have hlen : (Zd.decL N).length = Zd.nd N := by simp [Zd.decL]
    refine ⟨by omega, hl, fun b hb => ?_, fun h1 e => ?_⟩
    · obtain ⟨j, hj, rfl⟩ := List.mem_map.1 hb
      have h10 : Zd.dig N (Zd.nd N - 1 - j) < 10 := Nat.mod_lt _ (by omega)
      have : ∀ d, d < 10 → isDig (UInt8.ofNat (48 + d)) = true := by decide +kernel
      exact this _ h10
    · have hh : (Zd.decL N).head? = some (UInt8.ofNat (48 + Zd.dig N (Zd.nd N - 1))) := by
        rw [List.head?_eq_getElem?]; simp [Zd.decL, List.getElem?_range, hnd]
      rw [hh] at e
      have hge := Zd.nd_le N hN
      have hlt := Zd.nd_lt N
      have hd : Zd.dig N (Zd.nd N - 1) = N / 10 ^ (Zd.nd N - 1) := by
        unfold Zd.dig
        refine Nat.mod_eq_of_lt ((Nat.div_lt_iff_lt_mul (Nat.pow_pos (by omega))).2 ?_)
        have : 10 * 10 ^ (Zd.nd N - 1) = 10 ^ Zd.nd N := by rw [Nat.mul_comm, ← Nat.pow_succ]; congr 1; omega
        omega
      have h1 : 1 ≤ N / 10 ^ (Zd.nd N - 1) := (Nat.le_div_iff_mul_le (Nat.pow_pos (by omega))).2 (by omega)
      have h10 : Zd.dig N (Zd.nd N - 1) < 10 := Nat.mod_lt _ (by omega)
      have : ∀ d, d < 10 → some (UInt8.ofNat (48 + d)) = some 48 → d = 0 := by decide +kernel
      have := this _ h10 e
      omega
theorem seq_W {x : Sx} {least : Nat} {R : List UInt8} (h : ∀ R, NW R → SeqR (tkS x) R) (hR : NW R) : SeqR (wK x least) R := by
  unfold wK wrapK
  split
  · refine ⟨ok_open, seq_app (h _ ?_) ⟨ok_shut, trivial⟩⟩
    exact nw_cons (by decide)
  · exact h R hR
theorem hd_not45 {A : List Tk} {R : List UInt8} (h : HdK 9 A) : (txK A ++ R).head? ≠ some 45 := by
  obtain ⟨t, l, rfl, h1, h2, h3, h4, h5, h6, h7⟩ := h
  rw [txK_cons]
  unfold txK1
  rw [h1]
  have hne : t.t.head? ≠ some 45 := by
    by_cases hk : t.k = 4
    · rcases h4 hk with e | e
      · have := h6 hk e; omega
      · rw [e]; simp
    · exact h7 hk
  obtain ⟨a, r, e⟩ := List.exists_cons_of_ne_nil h2
  rw [e] at hne ⊢
  simpa using hne
theorem seq_S {x : Sx} (h : Fml x) : ∀ R, NW R → SeqR (tkS x) R := by
  induction h with
  | lit nu ps h1 h2 =>
    intro R hR
    have e : tkS (.mk 1 [] [] nu false [] ps) = [⟨false, 3, Zd.txtL nu⟩] := by simp [tkS, nodeK]
    rw [e]; exact ⟨ok_num (num_txt h1 h2) hR, trivial⟩
  | tru ys ps =>
    intro R hR
    have e : tkS (.mk 2 [] [] 0 ys [] ps) = [⟨false, 2, if ys then [116, 114, 117, 101] else [102, 97, 108, 115, 101]⟩] := by simp [tkS, nodeK]
    rw [e]
    cases ys
    · exact ⟨ok_word (k := 2) (by decide +kernel) (.inr rfl) (by decide +kernel) (by decide +kernel) hR, trivial⟩
    · exact ⟨ok_word (k := 2) (by decide +kernel) (.inr rfl) (by decide +kernel) (by decide +kernel) hR, trivial⟩
  | var nm ps h =>
    intro R hR
    have e : tkS (.mk 3 nm [] 0 false [] ps) = [⟨false, 1, nm⟩] := by simp [tkS, nodeK]
    rw [e]
    unfold plainB at h
    have h := of_decide_eq_true h
    exact ⟨ok_word (k := 1) h.1 (.inl rfl) h.2.1 h.2.2 hR, trivial⟩
  | res ps =>
    intro R hR
    have e : tkS (.mk 4 [] [] 0 false [] ps) = [⟨false, 2, [114, 101, 115]⟩] := by simp [tkS, nodeK]
    rw [e]
    exact ⟨ok_word (k := 2) (by decide +kernel) (.inr rfl) (by decide +kernel) (by decide +kernel) hR, trivial⟩
  | neg a ps h ih =>
    intro R hR
    rw [tk_neg]
    exact ⟨ok_minus (hd_not45 (wK_hd h 9)), seq_W ih hR⟩
  | not a ps h ih =>
    intro R hR
    rw [tk_not]
    refine ⟨ok_word (k := 2) (by decide +kernel) (.inr rfl) (by decide +kernel) (by decide +kernel) ?_, seq_ld (seq_W ih hR)⟩
    rw [ldK_text (wK_hd h 4)]
    exact nw_cons (by decide)
  | bin op a b ps h1 h2 ha hb iha ihb =>
    intro R hR
    rw [tk_bin h1 h2]
    refine seq_app (seq_W iha ?_) ⟨?_, seq_ld (seq_W ihb hR)⟩
    · rw [txK_cons]; exact nw_cons (by decide)
    · rw [ldK_text (wK_hd hb _)]; exact ok_op h1 h2
/-- All tokens of a formula's text. -/
theorem lex_S {x : Sx} (h : Fml x) : ∃ L e, allE (txS x) = (L ++ [e], 0, 0) ∧ e.kind = 5 ∧ L.map (fun k => (k.kind, k.text)) = (tkS x).map (fun t => (t.k, t.t)) := by
  have := lex_seq (tkS x) ((txS x).length + 1) 0 (seq_S h [] (fun b hb => by simp at hb)) (by rw [tkS_text h]; omega)
  rw [tkS_text h] at this
  exact this

/-- These tokens stand from there on. -/
def MtK (T : List Tok) (i : Nat) (A : List Tk) : Prop := ∀ j t, A[j]? = some t → ∃ k, T[i + j]? = some k ∧ k.kind = t.k ∧ k.text = t.t
theorem MtK.app {T : List Tok} {i : Nat} {A B : List Tk} (h : MtK T i (A ++ B)) : MtK T i A ∧ MtK T (i + A.length) B := by
  refine ⟨fun j t hj => h j t ?_, fun j t hj => ?_⟩
  · rw [List.getElem?_append_left (List.getElem?_eq_some_iff.1 hj).1]; exact hj
  · have := h (A.length + j) t (by rw [List.getElem?_append_right (by omega)]; simpa using hj)
    rwa [← Nat.add_assoc] at this
theorem MtK.cons {T : List Tok} {i : Nat} {t : Tk} {A : List Tk} (h : MtK T i (t :: A)) : (∃ k, T[i]? = some k ∧ k.kind = t.k ∧ k.text = t.t) ∧ MtK T (i + 1) A := by
  refine ⟨h 0 t rfl, fun j u hj => ?_⟩
  have := h (j + 1) u (by simpa using hj)
  rwa [show i + (j + 1) = i + 1 + j by omega] at this
theorem ldK_len : ∀ A : List Tk, (ldK A).length = A.length
  | [] => rfl
  | t :: A => rfl
theorem MtK.ld {T : List Tok} {i : Nat} : ∀ {A : List Tk}, MtK T i (ldK A) → MtK T i A
  | [], _ => fun j t hj => by simp at hj
  | u :: A, h => fun j t hj => by
    cases j with
    | zero =>
      simp at hj; subst hj
      obtain ⟨k, h1, h2, h3⟩ := h 0 { u with b := true } rfl
      exact ⟨k, h1, h2, h3⟩
    | succ j => exact h (j + 1) t (by simpa [ldK] using hj)

abbrev sI (c : Bool) (i : Nat) : St := ⟨i, c, 0, 0⟩
/-- The level of a sign between. -/
def lvT9 (t : List UInt8) : Nat := if t = [42] ∨ t = [47] ∨ t = [37] then 7 else if t = [43] ∨ t = [45] then 6 else if t = [61] ∨ t = [60, 62] ∨ t = [60] ∨ t = [60, 61] ∨ t = [62] ∨ t = [62, 61] then 5
  else if t = [38, 38] then 3 else if t = [124, 124] then 2 else if t = [61, 62] then 1 else 0
def oplK (k : Tok) : Nat := if k.kind = 2 ∨ k.kind = 4 then lvT9 k.text else 0
def opl (T : List Tok) (i : Nat) : Nat := oplK (T[i]?.getD ⟨5, [], [], 0⟩)
theorem lv_le (t : List UInt8) : lvT9 t ≤ 7 := by unfold lvT9; repeat' split <;> try omega
theorem opl_le (T : List Tok) (i : Nat) : opl T i ≤ 7 := by
  unfold opl oplK
  split
  · exact lv_le _
  · omega
theorem lv_sign {op : Int} (h1 : 7 ≤ op) (h2 : op ≤ 20) : lvT9 (signS op) = levS op := by
  obtain h | h | h | h | h | h | h | h | h | h | h | h | h | h : op = 7 ∨ op = 8 ∨ op = 9 ∨ op = 10 ∨ op = 11 ∨ op = 12 ∨ op = 13 ∨ op = 14 ∨ op = 15 ∨ op = 16 ∨ op = 17 ∨ op = 18 ∨ op = 19 ∨ op = 20 := by omega
  all_goals subst h; decide
section
variable {T : List Tok} {c : Bool} {i : Nat} {k : Tok}
theorem tokQ_at (h : T[i]? = some k) : tokQ T (sI c i) = k := by simp [tokQ, h]
theorem isQ_at (h : T[i]? = some k) (w : List UInt8) : isQ T w (sI c i) = decide ((k.kind = 2 ∨ k.kind = 4) ∧ k.text = w) := by
  unfold isQ; rw [tokQ_at h]; simp
theorem leafT_at (h : T[i]? = some k) (h5 : k.kind ≠ 5) : leafT T (sI c i) = ([.lf i], sI c (i + 1)) := by
  unfold leafT leafQ; rw [tokQ_at h, if_neg h5]
theorem isQ_opl {w : List UInt8} (h : isQ T w (sI c i) = true) : opl T i = lvT9 w := by
  unfold isQ at h
  have h := of_decide_eq_true h
  obtain ⟨-, h1, h2⟩ := h
  unfold tokQ at h1 h2
  unfold opl oplK
  rw [if_pos h1, h2]
theorem isQ_no {w : List UInt8} (h : opl T i ≠ lvT9 w) : isQ T w (sI c i) = false := by
  cases hq : isQ T w (sI c i)
  · rfl
  · exact absurd (isQ_opl hq) h
end
/-- What a row goes on at. -/
def cR (T : List Tok) (l : Nat) : St → Bool := if l = 7 then isMul T else if l = 6 then isAdd T else if l = 3 then isQ T [38, 38] else isQ T [124, 124]
theorem cR_no {T : List Tok} {c : Bool} {i l : Nat} (hl : l = 7 ∨ l = 6 ∨ l = 3 ∨ l = 2) (h : opl T i < l) : cR T l (sI c i) = false := by
  rcases hl with rfl | rfl | rfl | rfl
  · show isMul T _ = false
    unfold isMul
    rw [isQ_no, isQ_no, isQ_no] <;> first | rfl | (rw [show ∀ a, lvT9 a = lvT9 a from fun _ => rfl]; intro e; rw [e] at h; revert h; decide)
  · show isAdd T _ = false
    unfold isAdd
    rw [isQ_no, isQ_no] <;> first | rfl | (intro e; rw [e] at h; revert h; decide)
  · exact isQ_no (by intro e; rw [e] at h; revert h; decide)
  · exact isQ_no (by intro e; rw [e] at h; revert h; decide)
theorem cR_yes {T : List Tok} {c : Bool} {i l : Nat} {k : Tok} {op : Int} (hl : l = 7 ∨ l = 6 ∨ l = 3 ∨ l = 2) (h1 : 7 ≤ op) (h2 : op ≤ 20) (hlev : levS op = l) (hk : T[i]? = some k) (h4 : k.kind = 4) (ht : k.text = signS op) : cR T l (sI c i) = true := by
  have hq : ∀ w, signS op = w → isQ T w (sI c i) = true := fun w e => by rw [isQ_at hk]; exact decide_eq_true ⟨.inr h4, by rw [ht, e]⟩
  obtain h | h | h | h | h | h | h | h | h | h | h | h | h | h : op = 7 ∨ op = 8 ∨ op = 9 ∨ op = 10 ∨ op = 11 ∨ op = 12 ∨ op = 13 ∨ op = 14 ∨ op = 15 ∨ op = 16 ∨ op = 17 ∨ op = 18 ∨ op = 19 ∨ op = 20 := by omega
  all_goals subst h
  all_goals (rw [show l = _ from hlev.symm] at hl ⊢)
  all_goals first
    | (exfalso; revert hl; decide)
    | (show isMul T _ = true; unfold isMul; first | (rw [hq [42] (by decide)]; rfl) | (rw [hq [47] (by decide)]; simp) | (rw [hq [37] (by decide)]; simp))
    | (show isAdd T _ = true; unfold isAdd; first | (rw [hq [43] (by decide)]; rfl) | (rw [hq [45] (by decide)]; simp))
    | exact hq _ (by decide)
theorem isCmp_no {T : List Tok} {c : Bool} {i : Nat} (h : opl T i < 5) : isCmp T (sI c i) = false := by
  unfold isCmp
  rw [isQ_no, isQ_no, isQ_no, isQ_no, isQ_no, isQ_no] <;> first | rfl | (intro e; rw [e] at h; revert h; decide)
theorem isCmp_yes {T : List Tok} {c : Bool} {i : Nat} {k : Tok} {op : Int} (h1 : 12 ≤ op) (h2 : op ≤ 17) (hk : T[i]? = some k) (h4 : k.kind = 4) (ht : k.text = signS op) : isCmp T (sI c i) = true := by
  have hq : ∀ w, signS op = w → isQ T w (sI c i) = true := fun w e => by rw [isQ_at hk]; exact decide_eq_true ⟨.inr h4, by rw [ht, e]⟩
  unfold isCmp
  obtain h | h | h | h | h | h : op = 12 ∨ op = 13 ∨ op = 14 ∨ op = 15 ∨ op = 16 ∨ op = 17 := by omega
  all_goals subst h
  all_goals first | (rw [hq [61] (by decide)]; simp; done) | (rw [hq [60, 62] (by decide)]; simp; done) | (rw [hq [60] (by decide)]; simp; done) | (rw [hq [60, 61] (by decide)]; simp; done) | (rw [hq [62] (by decide)]; simp; done) | (rw [hq [62, 61] (by decide)]; simp; done)

/-- The parser's functions by their levels. -/
def pf (T : List Tok) (D n : Nat) (nt : NxT) : Nat → St → RT
  | 0 => exprT T D n nt
  | 1 => formulaT T D n nt
  | 2 => orT T D n nt
  | 3 => andT T D n nt
  | 4 => notT T D n nt
  | 5 => notT T D n nt
  | 6 => sumT T D n nt
  | 7 => productT T D n nt
  | _ + 8 => factorT T D n nt
mutual
/-- Without places. -/
def npE : Ex → Ex
  | .mk op nm md nu ys ks _ => .mk op nm md nu ys (npEs ks) 0
def npEs : List Ex → List Ex
  | [] => []
  | x :: l => npE x :: npEs l
end
mutual
def npS : Sx → Ex
  | .mk op nm md nu ys ks _ => .mk op.toNat nm md (if op = 1 then Zd.txtL nu else []) ys (npSs ks) 0
def npSs : List Sx → List Ex
  | [] => []
  | x :: l => npS x :: npSs l
end
/-- An expression was read there, up to here. -/
def RtOk (T : List Tok) (c : Bool) (f : St → RT) (i k : Nat) (x : Sx) : Prop := ∃ t, f (sI c i) = ([t], sI c k) ∧ isN t = true ∧ npE (axT T t) = npS x
theorem rw_stop {T : List Tok} {cc : St → Bool} {sub : St → RT} {f : Nat} {r : RT} (hf : 1 ≤ f) (h : cc r.2 = false) : rwT T cc sub f r = r := by
  obtain ⟨f, rfl⟩ : ∃ g, f = g + 1 := ⟨f - 1, by omega⟩
  unfold rwT; rw [h]; simp
theorem nest_rt {T : List Tok} {D n : Nat} {s : St} (h : n ≤ D) : nestQ T D n s = s := by unfold nestQ; rw [if_neg (by omega)]
theorem pf_row {T : List Tok} {D n : Nat} {nt : NxT} {l : Nat} (hl : l = 7 ∨ l = 6 ∨ l = 3 ∨ l = 2) (s : St) : pf T D n nt l s = rwT T (cR T l) (pf T D n nt (l + 1)) (fuelQ T (pf T D n nt (l + 1) s).2) (pf T D n nt (l + 1) s) := by
  rcases hl with rfl | rfl | rfl | rfl <;> rfl
section
variable {T : List Tok} {D n : Nat} {nt : NxT} {i k : Nat} {x : Sx}
theorem climb_row {l : Nat} (hl : l = 7 ∨ l = 6 ∨ l = 3 ∨ l = 2) {c : Bool} (h : RtOk T c (pf T D n nt (l + 1)) i k x) (ho : opl T k < l) : RtOk T c (pf T D n nt l) i k x := by
  obtain ⟨t, h1, h2, h3⟩ := h
  refine ⟨t, ?_, h2, h3⟩
  rw [pf_row hl, h1]
  exact rw_stop (by unfold fuelQ; omega) (cR_no hl ho)
theorem climb1 {L : Nat} (hL : L < 8) (h : RtOk T true (pf T D n nt (L + 1)) i k x) (ho : opl T k < max 1 L) (hn : n ≤ D) (hnot : L = 5 → isQ T [110, 111, 116] (sI true i) = false) : RtOk T true (pf T D n nt L) i k x := by
  obtain rfl | rfl | rfl | rfl | rfl | rfl | rfl | rfl : L = 7 ∨ L = 6 ∨ L = 5 ∨ L = 4 ∨ L = 3 ∨ L = 2 ∨ L = 1 ∨ L = 0 := by omega
  · exact climb_row (.inl rfl) h (by simpa using ho)
  · exact climb_row (.inr (.inl rfl)) h (by simpa using ho)
  · obtain ⟨t, h1, h2, h3⟩ := h
    refine ⟨t, ?_, h2, h3⟩
    have h1 : sumT T D n nt (sI true i) = ([t], sI true k) := h1
    show notT T D n nt (sI true i) = _
    unfold notT
    rw [hnot rfl]
    simp only [h1, isCmp_no (c := true) (show opl T k < 5 by simpa using ho)]
    simp
  · exact h
  · exact climb_row (.inr (.inr (.inl rfl))) h (by simpa using ho)
  · exact climb_row (.inr (.inr (.inr rfl))) h (by simpa using ho)
  · obtain ⟨t, h1, h2, h3⟩ := h
    refine ⟨t, ?_, h2, h3⟩
    have h1 : orT T D n nt (sI true i) = ([t], sI true k) := h1
    have hq : isQ T [61, 62] (sI true k) = false := isQ_no (by intro e; rw [e] at ho; revert ho; decide)
    show formulaT T D n nt (sI true i) = _
    unfold formulaT
    simp only [h1, hq]
    simp
  · obtain ⟨t, h1, h2, h3⟩ := h
    refine ⟨t, ?_, h2, h3⟩
    have h1 : formulaT T D n nt (sI true i) = ([t], sI true k) := h1
    show exprT T D n nt (sI true i) = _
    unfold exprT
    simp only [nest_rt hn, h1]
    simp
theorem climb : ∀ {L L' : Nat}, L ≤ L' → L' ≤ 8 → RtOk T true (pf T D n nt L') i k x → opl T k < max 1 L → n ≤ D → (L ≤ 5 → 6 ≤ L' → isQ T [110, 111, 116] (sI true i) = false) → RtOk T true (pf T D n nt L) i k x := by
  intro L L'
  obtain ⟨m, hm⟩ : ∃ m, L' - L = m := ⟨_, rfl⟩
  induction m generalizing L' with
  | zero =>
    intro h1 h2 h3 _ _ _
    have : L = L' := by omega
    subst this; exact h3
  | succ m ih =>
    intro h1 h2 h3 h4 h5 h6
    obtain ⟨M, rfl⟩ : ∃ M, L' = M + 1 := ⟨L' - 1, by omega⟩
    refine ih (L' := M) (by omega) (by omega) (by omega) (climb1 (by omega) h3 (by omega) h5 (fun e => h6 (by omega) (by omega))) h4 h5 (fun a b => h6 a (by omega))
end
end Go.Proofs.YtddccnpohpaofaaGreatDoor
namespace Go.Proofs.YtddccnpohpaofaaGreatDoor

section
variable (T : List Tok) (D : Nat)
/-- What is said of an expression at all levels up to its own. -/
def PaS (x : Sx) : Prop := ∀ d i, 2 * sizS x ≤ d → d ≤ D → MtK T i (tkS x) → ∀ L, L ≤ min 8 (levS x.op) → opl T (i + (tkS x).length) < max 1 L → RtOk T true (pf T D (D - d) (nxT T D d) L) i (i + (tkS x).length) x
end
theorem ax_grp {T : List Tok} {i j : Nat} {t : Tr} (h : isN t = true) : axT T (.nd 12 [.lf i, t, .lf j]) = axT T t := by
  cases t with
  | lf i => cases h
  | nd k l => simp [axT, axTs, isN]
theorem ax_node {T : List Tok} {k : Nat} {l : List Tr} (h : k ≠ 12) : axT T (.nd k l) = nodeE k (fun j => tkT T ((ownL l).getD j T.length)) (axTs T l) := by
  simp [axT, h]
theorem not_hd {T : List Tok} {i lev : Nat} {A : List Tk} (h : HdK lev A) (hm : MtK T i A) (hl : 5 ≤ lev) : isQ T [110, 111, 116] (sI true i) = false := by
  obtain ⟨t, l, rfl, h1, h2, h3, h4, h5, h6, h7⟩ := h
  obtain ⟨⟨k, hk, e1, e2⟩, -⟩ := hm.cons
  rw [isQ_at hk]
  refine decide_eq_false (fun ⟨a, b⟩ => ?_)
  rw [e1, e2] at *
  rcases a with a | a
  · have := h5 a b; omega
  · rcases h4 a with e | e <;> rw [e] at b <;> simp at b
/-- An expression that may stand in parentheses. -/
theorem par_W {T : List Tok} {D : Nat} {a : Sx} (hp : PaS T D a) (hF : Fml a) {least d i : Nat} (hd : 2 * sizS a + 1 ≤ d) (hD : d ≤ D) (hm : MtK T i (wK a least)) {L : Nat} (hL : L ≤ min 8 least) (ho : opl T (i + (wK a least).length) < max 1 L) :
    RtOk T true (pf T D (D - d) (nxT T D d) L) i (i + (wK a least).length) a := by
  by_cases hl : levS a.op < least
  · have e : wK a least = ⟨false, 4, [40]⟩ :: (tkS a ++ [⟨false, 4, [41]⟩]) := by unfold wK wrapK; rw [if_pos hl]
    rw [e] at hm ho ⊢
    obtain ⟨⟨k1, g1, g2, g3⟩, hm2⟩ := hm.cons
    obtain ⟨hm3, hm4⟩ := hm2.app
    obtain ⟨⟨k2, g4, g5, g6⟩, -⟩ := hm4.cons
    simp only [] at g2 g3 g5 g6
    obtain ⟨d', rfl⟩ : ∃ d', d = d' + 1 := ⟨d - 1, by omega⟩
    have ho2 : opl T (i + 1 + (tkS a).length) = 0 := by unfold opl; rw [g4]; simp [oplK, g5, g6, lvT9]
    obtain ⟨t, h1, h2, h3⟩ := hp d' (i + 1) (by omega) (by omega) hm3 0 (Nat.zero_le _) (by rw [ho2]; decide)
    have hlen : i + ((⟨false, 4, [40]⟩ : Tk) :: (tkS a ++ [⟨false, 4, [41]⟩])).length = i + 1 + (tkS a).length + 1 := by simp; omega
    rw [hlen] at ho ⊢
    have hq : ∀ w, w ≠ [40] → isQ T w (sI true i) = false := fun w hw => by rw [isQ_at g1]; exact decide_eq_false (fun h => hw (by rw [← h.2, g3]))
    have h8 : RtOk T true (pf T D (D - (d' + 1)) (nxT T D (d' + 1)) 8) i (i + 1 + (tkS a).length + 1) a := by
      refine ⟨.nd 12 [.lf i, t, .lf (i + 1 + (tkS a).length)], ?_, rfl, by rw [ax_grp h2]; exact h3⟩
      have h1 : (nxT T D (d' + 1)).expr (sI true (i + 1)) = ([t], sI true (i + 1 + (tkS a).length)) := h1
      have hs : isQ T [41] (sI true (i + 1 + (tkS a).length)) = true := by rw [isQ_at g4]; exact decide_eq_true ⟨.inr g5, g6⟩
      have ho40 : isQ T [40] (sI true i) = true := by rw [isQ_at g1]; exact decide_eq_true ⟨.inr g2, g3⟩
      show factorT T D _ _ (sI true i) = _
      unfold factorT
      rw [hq [45] (by decide)]
      simp only [Bool.false_eq_true, if_false]
      unfold atomT
      rw [hq [116, 114, 117, 101] (by decide), hq [102, 97, 108, 115, 101] (by decide), hq [114, 101, 115] (by decide), ho40, tokQ_at g1, g2, leafT_at g1 (by rw [g2]; decide)]
      simp only [h1]
      unfold mustT
      rw [hs, leafT_at g4 (by rw [g5]; decide)]
      simp
    exact climb (by omega) (Nat.le_refl 8) h8 ho (by omega) (fun _ _ => hq _ (by decide))
  · have e : wK a least = tkS a := by unfold wK wrapK; rw [if_neg hl]
    rw [e] at hm ho ⊢
    exact hp d i (by omega) hD hm L (by omega) ho
theorem fm_lev {x : Sx} (h : Fml x) (hl : levS x.op = 7 ∨ levS x.op = 6 ∨ levS x.op = 3 ∨ levS x.op = 2) : ∃ op a b ps, x = .mk op [] [] 0 false [a, b] ps ∧ 7 ≤ op ∧ op ≤ 20 ∧ Fml a ∧ Fml b := by
  cases h with
  | bin op a b ps h1 h2 ha hb => exact ⟨op, a, b, ps, rfl, h1, h2, ha, hb⟩
  | _ => simp [Sx.op, levS] at hl
theorem bin_of {op : Int} (h1 : 7 ≤ op) (h2 : op ≤ 20) : binE (signS op) = op.toNat := by
  obtain h | h | h | h | h | h | h | h | h | h | h | h | h | h : op = 7 ∨ op = 8 ∨ op = 9 ∨ op = 10 ∨ op = 11 ∨ op = 12 ∨ op = 13 ∨ op = 14 ∨ op = 15 ∨ op = 16 ∨ op = 17 ∨ op = 18 ∨ op = 19 ∨ op = 20 := by omega
  all_goals subst h; decide
theorem ax_bin {T : List Tok} {k : Nat} {tok : Tok} {op : Int} {a b : Sx} {ps : Int} {ta tb : Tr} (h1 : 7 ≤ op) (h2 : op ≤ 20) (hk : T[k]? = some tok) (ht : tok.text = signS op) (na : isN ta = true) (nb : isN tb = true) (ea : npE (axT T ta) = npS a) (eb : npE (axT T tb) = npS b) :
    npE (axT T (.nd 10 [ta, .lf k, tb])) = npS (.mk op [] [] 0 false [a, b] ps) := by
  have ho : ∀ t : Tr, isN t = true → ∀ l, ownL (t :: l) = ownL l := fun t ht l => by
    cases t with
    | lf i => cases ht
    | nd k m => rfl
  rw [ax_node (by decide)]
  have e1 : axTs T [ta, .lf k, tb] = [axT T ta, axT T tb] := by
    simp only [axTs, na, nb, if_true]
    simp [isN]
  have e2 : ownL [ta, .lf k, tb] = [k] := by rw [ho ta na]; show k :: ownL [tb] = [k]; rw [ho tb nb]; rfl
  rw [e1, e2]
  have e3 : (tkT T (([k] : List Nat).getD 0 T.length)).text = signS op := by simp [tkT, hk, ht]
  unfold nodeE
  simp only [show ¬ (10 = 7) by decide, show ¬ (10 = 8) by decide, show ¬ (10 = 9) by decide, if_false, if_true, e3, bin_of h1 h2, npE, npEs, ea, eb, npS, npSs]
  rw [if_neg (by omega)]
section
variable {T : List Tok} {D : Nat}
def RowSt (T : List Tok) (D d l i k : Nat) (x : Sx) : Prop := ∃ f t, pf T D (D - d) (nxT T D d) l (sI true i) = rwT T (cR T l) (pf T D (D - d) (nxT T D d) (l + 1)) f ([t], sI true k) ∧ T.length - k + 1 ≤ f ∧ isN t = true ∧ npE (axT T t) = npS x
theorem par_R {N l : Nat} (hl : l = 7 ∨ l = 6 ∨ l = 3 ∨ l = 2) (ih : ∀ y, sizS y ≤ N → Fml y → PaS T D y) : ∀ (M : Nat) (a : Sx), sizS a ≤ M → M ≤ N + 1 → (levS a.op = l ∨ sizS a ≤ N) → Fml a → ∀ d i, 2 * sizS a ≤ d → (levS a.op ≠ l → 2 * sizS a + 1 ≤ d) → d ≤ D → MtK T i (wK a l) → opl T (i + (wK a l).length) < l + 1 → RowSt T D d l i (i + (wK a l).length) a := by
  intro M
  induction M with
  | zero => intro a h; have := sizS_pos a; omega
  | succ M ihM =>
    intro a hM hMN hor hF d i hd hd1 hD hm ho
    by_cases hlev : levS a.op = l
    · obtain ⟨op, p, q, ps, rfl, h1, h2, hp, hq⟩ := fm_lev hF (by rw [hlev]; exact hl)
      have hlev' : levS op = l := hlev
      have hsz : sizS (.mk op [] [] 0 false [p, q] ps) = 1 + (sizS p + (sizS q + 0)) := rfl
      have hpp := sizS_pos p
      have hqq := sizS_pos q
      have e : wK (.mk op [] [] 0 false [p, q] ps) l = wK p l ++ ⟨true, 4, signS op⟩ :: ldK (wK q (l + 1)) := by
        have e0 : wK (.mk op [] [] 0 false [p, q] ps) l = tkS (.mk op [] [] 0 false [p, q] ps) := by unfold wK wrapK; rw [if_neg (by rw [hlev]; omega)]
        rw [e0, tk_bin h1 h2, hlev']
        have ea : sideA l = l := by rcases hl with rfl | rfl | rfl | rfl <;> rfl
        have eb : sideB l = l + 1 := by rcases hl with rfl | rfl | rfl | rfl <;> rfl
        rw [ea, eb]
      rw [e] at hm ho ⊢
      obtain ⟨hm1, hm2⟩ := hm.app
      obtain ⟨⟨tok, g1, g2, g3⟩, hm3⟩ := hm2.cons
      simp only [] at g2 g3
      have hm4 := hm3.ld
      have hok : opl T (i + (wK p l).length) = l := by unfold opl; rw [g1]; simp [oplK, g2, g3, lv_sign h1 h2, hlev']
      obtain ⟨f, t, r1, r2, r3, r4⟩ := ihM p (by omega) (by omega) (.inr (by omega)) hp d i (by omega) (fun _ => by omega) hD hm1 (by omega)
      have hlt : i + (wK p l).length < T.length := (List.getElem?_eq_some_iff.1 g1).1
      obtain ⟨f, rfl⟩ : ∃ g, f = g + 1 := ⟨f - 1, by omega⟩
      have hlen : i + (wK p l ++ ⟨true, 4, signS op⟩ :: ldK (wK q (l + 1))).length = i + (wK p l).length + 1 + (wK q (l + 1)).length := by
        simp only [List.length_append, List.length_cons, ldK_len]; omega
      rw [hlen] at ho ⊢
      obtain ⟨t2, s1, s2, s3⟩ := par_W (ih q (by omega) hq) hq (least := l + 1) (L := l + 1) (d := d) (by omega) hD hm4 (by omega) (by omega)
      refine ⟨f, .nd 10 [t, .lf (i + (wK p l).length), t2], ?_, by omega, rfl, ax_bin h1 h2 g1 g3 r3 s2 r4 s3⟩
      rw [r1]
      show rwT T (cR T l) _ (f + 1) _ = _
      conv => lhs; unfold rwT
      rw [cR_yes hl h1 h2 hlev' g1 g2 g3, leafT_at g1 (by rw [g2]; decide)]
      simp only [s1, if_true]
      simp
    · have e : wK a l = wK a (l + 1) := by
        unfold wK wrapK
        by_cases h : levS a.op < l
        · rw [if_pos h, if_pos (by omega)]
        · rw [if_neg h, if_neg (by omega)]
      rw [e] at hm ho ⊢
      have hN : sizS a ≤ N := by rcases hor with h | h; exact absurd h hlev; exact h
      obtain ⟨t, s1, s2, s3⟩ := par_W (ih a hN hF) hF (least := l + 1) (L := l + 1) (d := d) (hd1 hlev) hD hm (by omega) (by omega)
      refine ⟨_, t, ?_, Nat.le_refl _, s2, s3⟩
      rw [pf_row hl, s1]
      rfl
end
end Go.Proofs.YtddccnpohpaofaaGreatDoor
namespace Go.Proofs.YtddccnpohpaofaaGreatDoor

theorem ax_leaf {T : List Tok} {k i : Nat} {tok : Tok} (h : k ≠ 12) (hk : T[i]? = some tok) : ∃ o : Nat → Tok, o 0 = tok ∧ axT T (.nd k [.lf i]) = nodeE k o [] := by
  refine ⟨_, ?_, by rw [ax_node h]; rfl⟩
  simp [ownL, tkT, hk]
theorem ax_una {T : List Tok} {i : Nat} {tok : Tok} {t : Tr} {x : Ex} (hk : T[i]? = some tok) (hn : isN t = true) (e : npE (axT T t) = x) : npE (axT T (.nd 11 [.lf i, t])) = .mk (unE tok.text) [] [] [] false [x] 0 := by
  rw [ax_node (by decide)]
  have e1 : axTs T [.lf i, t] = [axT T t] := by
    simp only [axTs, hn, if_true]
    simp [isN]
  have e2 : (tkT T ((ownL [.lf i, t]).getD 0 T.length)).text = tok.text := by simp [ownL, tkT, hk]
  rw [e1]
  unfold nodeE
  simp only [show ¬ (11 = 7) by decide, show ¬ (11 = 8) by decide, show ¬ (11 = 9) by decide, show ¬ (11 = 10) by decide, if_false, if_true, e2, npE, npEs, e]
theorem lev_cmp {op : Int} (h1 : 7 ≤ op) (h2 : op ≤ 20) (h : levS op = 5) : 12 ≤ op ∧ op ≤ 17 := by
  obtain h3 | h3 | h3 | h3 | h3 | h3 | h3 | h3 | h3 | h3 | h3 | h3 | h3 | h3 : op = 7 ∨ op = 8 ∨ op = 9 ∨ op = 10 ∨ op = 11 ∨ op = 12 ∨ op = 13 ∨ op = 14 ∨ op = 15 ∨ op = 16 ∨ op = 17 ∨ op = 18 ∨ op = 19 ∨ op = 20 := by omega
  all_goals subst h3; first | omega | (exfalso; revert h; decide)
theorem lev_imp {op : Int} (h1 : 7 ≤ op) (h2 : op ≤ 20) (h : levS op = 1) : op = 20 := by
  obtain h3 | h3 | h3 | h3 | h3 | h3 | h3 | h3 | h3 | h3 | h3 | h3 | h3 | h3 : op = 7 ∨ op = 8 ∨ op = 9 ∨ op = 10 ∨ op = 11 ∨ op = 12 ∨ op = 13 ∨ op = 14 ∨ op = 15 ∨ op = 16 ∨ op = 17 ∨ op = 18 ∨ op = 19 ∨ op = 20 := by omega
  all_goals subst h3; first | rfl | (exfalso; revert h; decide)
theorem par_S (T : List Tok) (D : Nat) : ∀ (N : Nat) (x : Sx), sizS x ≤ N → Fml x → PaS T D x := by
  intro N
  induction N with
  | zero => intro x h; have := sizS_pos x; omega
  | succ N ih =>
    intro x hN hF
    -- from its own level downwards
    have down : ∀ {d i k l : Nat}, l ≤ 8 → RtOk T true (pf T D (D - d) (nxT T D d) l) i k x → d ≤ D → (6 ≤ l → isQ T [110, 111, 116] (sI true i) = false) → ∀ L, L ≤ l → opl T k < max 1 L → RtOk T true (pf T D (D - d) (nxT T D d) L) i k x :=
      fun h8 h hD hn L hL ho => climb hL h8 h ho (by omega) (fun _ h6 => hn h6)
    -- one token
    have one : ∀ {d i : Nat} {tok : Tok} {t : Tk} {k : Nat}, tkS x = [t] → levS x.op = 9 → d ≤ D → T[i]? = some tok → (t.t ≠ [45] ∨ t.k = 3) → (t.k = 2 → t.t ≠ [110, 111, 116]) → tok.kind = t.k → tok.text = t.t → t.k ≠ 4 →
        atomT T (nxT T D d) (sI true i) = ([.nd k [.lf i]], sI true (i + 1)) → npE (axT T (.nd k [.lf i])) = npS x → ∀ L, L ≤ min 8 (levS x.op) → opl T (i + (tkS x).length) < max 1 L → RtOk T true (pf T D (D - d) (nxT T D d) L) i (i + (tkS x).length) x := by
      intro d i tok t k e hlev hD hk h45 hnot e1 e2 h4 hat hax L hL ho
      have hl : (tkS x).length = 1 := by rw [e]; rfl
      rw [hl] at ho ⊢
      refine down (l := 8) (Nat.le_refl _) ⟨_, ?_, rfl, hax⟩ hD (fun _ => ?_) L (by omega) ho
      · show factorT T D _ _ (sI true i) = _
        unfold factorT
        rw [isQ_at hk, decide_eq_false]
        · simpa using hat
        · rintro ⟨a, b⟩
          rw [e1] at a; rw [e2] at b
          rcases h45 with h | h
          · exact h b
          · omega
      · rw [isQ_at hk]
        refine decide_eq_false ?_
        rintro ⟨a, b⟩
        rw [e1] at a; rw [e2] at b
        rcases a with a | a
        · exact hnot a b
        · exact h4 a
    cases hF with
    | lit nu ps h1 h2 =>
      intro d i hd hD hm
      have e : tkS (.mk 1 [] [] nu false [] ps) = [⟨false, 3, Zd.txtL nu⟩] := by simp [tkS, nodeK]
      rw [e] at hm
      obtain ⟨⟨tok, hk, e1, e2⟩, -⟩ := hm.cons
      simp only [] at e1 e2
      refine one e rfl hD hk (.inr rfl) (by simp) e1 e2 (by simp) (k := 15) ?_ ?_
      · unfold atomT
        rw [tokQ_at hk, e1, leafT_at hk (by rw [e1]; decide)]
        simp
      · obtain ⟨o, ho, ha⟩ := ax_leaf (T := T) (k := 15) (by decide) hk
        rw [ha]
        simp [nodeE, ho, e2, npE, npEs, npS, npSs]
    | tru ys ps =>
      intro d i hd hD hm
      have e : tkS (.mk 2 [] [] 0 ys [] ps) = [⟨false, 2, if ys then [116, 114, 117, 101] else [102, 97, 108, 115, 101]⟩] := by simp [tkS, nodeK]
      rw [e] at hm
      obtain ⟨⟨tok, hk, e1, e2⟩, -⟩ := hm.cons
      simp only [] at e1 e2
      refine one e rfl hD hk (.inl (by cases ys <;> simp)) (fun _ => by cases ys <;> simp) e1 e2 (by simp) (k := 16) ?_ ?_
      · unfold atomT
        rw [tokQ_at hk, leafT_at hk (by rw [e1]; decide), isQ_at hk, isQ_at hk, e1, e2]
        cases ys <;> simp
      · obtain ⟨o, ho, ha⟩ := ax_leaf (T := T) (k := 16) (by decide) hk
        rw [ha]
        cases ys <;> simp [nodeE, ho, e2, npE, npEs, npS, npSs]
    | var nm ps h =>
      intro d i hd hD hm
      have e : tkS (.mk 3 nm [] 0 false [] ps) = [⟨false, 1, nm⟩] := by simp [tkS, nodeK]
      rw [e] at hm
      obtain ⟨⟨tok, hk, e1, e2⟩, -⟩ := hm.cons
      simp only [] at e1 e2
      have h45 : nm ≠ [45] := by
        unfold plainB at h
        obtain ⟨a, r, rfl, ha⟩ := first_let (of_decide_eq_true h).1
        intro e
        injection e with e
        exact (isLet_bl ha).2 e
      refine one e rfl hD hk (.inl h45) (by simp) e1 e2 (by simp) (k := 14) ?_ ?_
      · unfold atomT
        rw [tokQ_at hk, isQ_at hk, isQ_at hk, isQ_at hk, isQ_at hk, e1]
        unfold nameT
        rw [leafT_at hk (by rw [e1]; decide)]
        simp
      · obtain ⟨o, ho, ha⟩ := ax_leaf (T := T) (k := 14) (by decide) hk
        rw [ha]
        simp [nodeE, ho, e2, npE, npEs, npS, npSs]
    | res ps =>
      intro d i hd hD hm
      have e : tkS (.mk 4 [] [] 0 false [] ps) = [⟨false, 2, [114, 101, 115]⟩] := by simp [tkS, nodeK]
      rw [e] at hm
      obtain ⟨⟨tok, hk, e1, e2⟩, -⟩ := hm.cons
      simp only [] at e1 e2
      refine one e rfl hD hk (.inl (by simp)) (by simp) e1 e2 (by simp) (k := 17) ?_ ?_
      · unfold atomT
        rw [tokQ_at hk, leafT_at hk (by rw [e1]; decide), isQ_at hk, isQ_at hk, isQ_at hk, e1, e2]
        simp
      · obtain ⟨o, ho, ha⟩ := ax_leaf (T := T) (k := 17) (by decide) hk
        rw [ha]
        simp [nodeE, npE, npEs, npS, npSs]
    | neg a ps h =>
      intro d i hd hD hm L hL ho
      have hsz : sizS (.mk 5 [] [] 0 false [a] ps) = 1 + (sizS a + 0) := rfl
      rw [tk_neg] at hm ho ⊢
      obtain ⟨⟨tok, hk, e1, e2⟩, hm2⟩ := hm.cons
      simp only [] at e1 e2
      obtain ⟨d, rfl⟩ : ∃ g, d = g + 1 := ⟨d - 1, by omega⟩
      have hlen : i + ((⟨false, 4, [45]⟩ : Tk) :: wK a 9).length = i + 1 + (wK a 9).length := by simp; omega
      rw [hlen] at ho ⊢
      obtain ⟨t, s1, s2, s3⟩ := par_W (ih a (by omega) h) h (least := 9) (L := 8) (d := d) (by omega) (by omega) hm2 (by omega) (by have := opl_le T (i + 1 + (wK a 9).length); omega)
      refine down (l := 8) (Nat.le_refl _) ⟨.nd 11 [.lf i, t], ?_, rfl, ?_⟩ hD (fun _ => ?_) L (by omega) ho
      · have s1 : (nxT T D (d + 1)).factor (sI true (i + 1)) = ([t], sI true (i + 1 + (wK a 9).length)) := s1
        show factorT T D _ _ (sI true i) = _
        unfold factorT signT
        rw [isQ_at hk, decide_eq_true ⟨.inr e1, e2⟩, leafT_at hk (by rw [e1]; decide)]
        simp only [if_true, nest_rt (T := T) (D := D) (show D - (d + 1) + 1 ≤ D by omega), s1]
        simp
      · rw [ax_una hk s2 s3, e2]; simp [unE, npS, npSs]
      · rw [isQ_at hk, e2]; simp
    | not a ps h =>
      intro d i hd hD hm L hL ho
      have hsz : sizS (.mk 6 [] [] 0 false [a] ps) = 1 + (sizS a + 0) := rfl
      have hL4 : L ≤ 4 := by simp [Sx.op, levS] at hL; omega
      rw [tk_not] at hm ho ⊢
      obtain ⟨⟨tok, hk, e1, e2⟩, hm2⟩ := hm.cons
      have hm3 := hm2.ld
      simp only [] at e1 e2
      obtain ⟨d, rfl⟩ : ∃ g, d = g + 1 := ⟨d - 1, by omega⟩
      have hlen : i + ((⟨false, 2, [110, 111, 116]⟩ : Tk) :: ldK (wK a 4)).length = i + 1 + (wK a 4).length := by simp [ldK_len]; omega
      rw [hlen] at ho ⊢
      obtain ⟨t, s1, s2, s3⟩ := par_W (ih a (by omega) h) h (least := 4) (L := 4) (d := d) (by omega) (by omega) hm3 (by omega) (by omega)
      refine down (l := 4) (by omega) ⟨.nd 11 [.lf i, t], ?_, rfl, ?_⟩ hD (fun h => by omega) L hL4 ho
      · have s1 : (nxT T D (d + 1)).nots (sI true (i + 1)) = ([t], sI true (i + 1 + (wK a 4).length)) := s1
        show notT T D _ _ (sI true i) = _
        unfold notT signT
        rw [isQ_at hk, decide_eq_true ⟨.inl e1, e2⟩, leafT_at hk (by rw [e1]; decide)]
        simp only [if_true, nest_rt (T := T) (D := D) (show D - (d + 1) + 1 ≤ D by omega), s1]
        simp
      · rw [ax_una hk s2 s3, e2]; simp [unE, npS, npSs]
    | bin op a b ps h1 h2 ha hb =>
      intro d i hd hD hm L hL ho
      have hsz : sizS (.mk op [] [] 0 false [a, b] ps) = 1 + (sizS a + (sizS b + 0)) := rfl
      have hF : Fml (.mk op [] [] 0 false [a, b] ps) := .bin op a b ps h1 h2 ha hb
      have hhd : HdK (levS op) (tkS (.mk op [] [] 0 false [a, b] ps)) := hdK_of hF
      have hL : L ≤ min 8 (levS op) := hL
      rcases lev_bin h1 h2 with hlev | hlev | hlev | hlev | hlev | hlev
      -- rows
      all_goals try (
        have hl : levS op = 7 ∨ levS op = 6 ∨ levS op = 3 ∨ levS op = 2 := by omega
        have ew : wK (.mk op [] [] 0 false [a, b] ps) (levS op) = tkS (.mk op [] [] 0 false [a, b] ps) := by unfold wK wrapK; exact if_neg (Nat.lt_irrefl _)
        obtain ⟨f, t, r1, r2, r3, r4⟩ := par_R (T := T) (D := D) (N := N) hl (fun y hy hf => ih y hy hf) (N + 1) _ hN (Nat.le_refl _) (.inl rfl) hF d i hd (fun h => absurd rfl h) hD (by rw [ew]; exact hm) (by rw [ew]; omega)
        rw [ew] at r1 r2
        refine down (l := levS op) (by omega) ⟨t, ?_, r3, r4⟩ hD (fun h6 => not_hd hhd hm (by omega)) L (by omega) ho
        rw [r1]
        exact rw_stop (by omega) (cR_no hl (by omega))
        done)
      · -- comparisons
        have h12 := lev_cmp h1 h2 hlev
        have hnq := not_hd hhd hm (by omega)
        rw [tk_bin h1 h2, hlev, show sideA 5 = 6 from rfl, show sideB 5 = 6 from rfl] at hm ho ⊢
        obtain ⟨hm1, hm2⟩ := hm.app
        obtain ⟨⟨tok, g1, g2, g3⟩, hm3⟩ := hm2.cons
        simp only [] at g2 g3
        have hm4 := hm3.ld
        have hok : opl T (i + (wK a 6).length) = 5 := by unfold opl; rw [g1]; simp [oplK, g2, g3, lv_sign h1 h2, hlev]
        have hlen : i + (wK a 6 ++ ⟨true, 4, signS op⟩ :: ldK (wK b 6)).length = i + (wK a 6).length + 1 + (wK b 6).length := by
          simp only [List.length_append, List.length_cons, ldK_len]; omega
        rw [hlen] at ho ⊢
        obtain ⟨ta, s1, s2, s3⟩ := par_W (ih a (by omega) ha) ha (least := 6) (L := 6) (d := d) (by omega) hD hm1 (by omega) (by omega)
        obtain ⟨tb, q1, q2, q3⟩ := par_W (ih b (by omega) hb) hb (least := 6) (L := 6) (d := d) (i := i + (wK a 6).length + 1) (by omega) hD hm4 (by omega) (by omega)
        refine down (l := 5) (by omega) ⟨.nd 10 [ta, .lf (i + (wK a 6).length), tb], ?_, rfl, ax_bin h1 h2 g1 g3 s2 q2 s3 q3⟩ hD (fun h => by omega) L (by omega) ho
        have s1 : sumT T D (D - d) (nxT T D d) (sI true i) = ([ta], sI true (i + (wK a 6).length)) := s1
        have q1 : sumT T D (D - d) (nxT T D d) (sI true (i + (wK a 6).length + 1)) = ([tb], sI true (i + (wK a 6).length + 1 + (wK b 6).length)) := q1
        have hc : isCmp T (sI true (i + (wK a 6).length)) = true := isCmp_yes h12.1 h12.2 g1 g2 g3
        have hlf : leafT T (sI true (i + (wK a 6).length)) = ([.lf (i + (wK a 6).length)], sI true (i + (wK a 6).length + 1)) := leafT_at g1 (by rw [g2]; decide)
        show notT T D _ _ (sI true i) = _
        unfold notT
        rw [hnq]
        simp only [s1, hc, hlf, q1]
        simp
      · -- =>
        have h20 := lev_imp h1 h2 hlev
        subst h20
        rw [tk_bin h1 h2, hlev, show sideA 1 = 2 from rfl, show sideB 1 = 1 from rfl] at hm ho ⊢
        obtain ⟨hm1, hm2⟩ := hm.app
        obtain ⟨⟨tok, g1, g2, g3⟩, hm3⟩ := hm2.cons
        simp only [] at g2 g3
        have hm4 := hm3.ld
        obtain ⟨d, rfl⟩ : ∃ g, d = g + 1 := ⟨d - 1, by omega⟩
        have hok : opl T (i + (wK a 2).length) = 1 := by unfold opl; rw [g1]; simp [oplK, g2, g3, lv_sign h1 h2, hlev]
        have hlen : i + (wK a 2 ++ ⟨true, 4, signS 20⟩ :: ldK (wK b 1)).length = i + (wK a 2).length + 1 + (wK b 1).length := by
          simp only [List.length_append, List.length_cons, ldK_len]; omega
        rw [hlen] at ho ⊢
        obtain ⟨ta, s1, s2, s3⟩ := par_W (ih a (by omega) ha) ha (least := 2) (L := 2) (d := d + 1) (by omega) hD hm1 (by omega) (by omega)
        obtain ⟨tb, q1, q2, q3⟩ := par_W (ih b (by omega) hb) hb (least := 1) (L := 1) (d := d) (i := i + (wK a 2).length + 1) (by omega) (by omega) hm4 (by omega) (by omega)
        refine down (l := 1) (by omega) ⟨.nd 10 [ta, .lf (i + (wK a 2).length), tb], ?_, rfl, ax_bin h1 h2 g1 g3 s2 q2 s3 q3⟩ hD (fun h => by omega) L (by omega) ho
        have s1 : orT T D (D - (d + 1)) (nxT T D (d + 1)) (sI true i) = ([ta], sI true (i + (wK a 2).length)) := s1
        have q1 : (nxT T D (d + 1)).formula (sI true (i + (wK a 2).length + 1)) = ([tb], sI true (i + (wK a 2).length + 1 + (wK b 1).length)) := q1
        have hc : isQ T [61, 62] (sI true (i + (wK a 2).length)) = true := by rw [isQ_at g1]; exact decide_eq_true ⟨.inr g2, g3⟩
        have hlf : leafT T (sI true (i + (wK a 2).length)) = ([.lf (i + (wK a 2).length)], sI true (i + (wK a 2).length + 1)) := leafT_at g1 (by rw [g2]; decide)
        show formulaT T D _ _ (sI true i) = _
        unfold formulaT
        simp only [s1, hc, hlf, nest_rt (T := T) (D := D) (show D - (d + 1) + 1 ≤ D by omega), q1]
        simp
open Go.RowKit

mutual
/-- An expression's dump. -/
def dmpE : Ex → List UInt8
  | .mk op nm md nu ys ks ps => openE (.mk op nm md nu ys ks ps) ++ dmpK ks ++ [93]
def dmpK : List Ex → List UInt8
  | [] => []
  | k :: l => 32 :: dmpE k ++ dmpK l
end
def stD (s : List UInt8) (x : Ex) (d : Nat) : List UInt8 := s ++ ((if d = 0 then openE x else []) ++ (if d = (kidsE x).length then [93] else [32]))
mutual
theorem runE_D : ∀ (x : Ex) (s : List UInt8), runE stD x s = s ++ dmpE x
  | .mk op nm md nu ys ks ps, s => by
    simp only [runE, dmpE]
    have h := runK_D (.mk op nm md nu ys ks ps) 0 ks (s ++ openE (.mk op nm md nu ys ks ps)) (by simp [kidsE])
    have e : stD s (.mk op nm md nu ys ks ps) 0 = s ++ openE (.mk op nm md nu ys ks ps) ++ (if ks = [] then [93] else [32]) := by
      unfold stD; rw [if_pos rfl]
      show s ++ (_ ++ (if 0 = ks.length then [93] else [32])) = _
      rw [List.append_assoc]
      by_cases hk : ks = []
      · subst hk; rfl
      · rw [if_neg hk, if_neg (by intro h0; exact hk (List.eq_nil_of_length_eq_zero h0.symm))]
    rw [e, h]; simp
theorem runK_D (x : Ex) : ∀ (j : Nat) (l : List Ex) (s : List UInt8), j + l.length = (kidsE x).length → runK stD x j l (s ++ (if l = [] then [93] else [32])) = s ++ dmpK l ++ [93]
  | j, [], s, h => by simp [runK, dmpK]
  | j, k :: l, s, h => by
    simp only [runK, dmpK]
    rw [if_neg (by simp), runE_D k]
    have h1 : j + 1 + l.length = (kidsE x).length := by simp at h; omega
    have e : stD (s ++ [32] ++ dmpE k) x (j + 1) = (s ++ 32 :: dmpE k) ++ (if l = [] then [93] else [32]) := by
      unfold stD
      rw [if_neg (by omega)]
      by_cases hl : l = []
      · subst hl
        rw [if_pos rfl, if_pos (by simpa using h1)]; simp
      · have : 0 < l.length := List.length_pos_iff.2 hl
        rw [if_neg hl, if_neg (by omega)]; simp
    rw [e, runK_D x (j + 1) l _ h1]; simp
end
mutual
/-- All parts of an expression are small. -/
def allS : Ex → Prop
  | .mk op nm md nu ys ks ps => smallE (.mk op nm md nu ys ks ps) ∧ allSs ks
def allSs : List Ex → Prop
  | [] => True
  | k :: l => allS k ∧ allSs l
end
theorem allSs_mem : ∀ {l : List Ex} {k : Ex}, allSs l → k ∈ l → allS k
  | [], k, _, h => by cases h
  | y :: l, k, hs, h => by
    simp only [allSs] at hs
    rcases List.mem_cons.1 h with h | h
    · subst h; exact hs.1
    · exact allSs_mem hs.2 h
theorem allS_kid {x k : Ex} (h : allS x) (hk : k ∈ kidsE x) : allS k := by
  cases x with
  | mk op nm md nu ys ks ps => simp only [allS] at h; exact allSs_mem h.2 hk
theorem allS_small {x : Ex} (h : allS x) : smallE x := by
  cases x with
  | mk op nm md nu ys ks ps => simp only [allS] at h; exact h.1

def PD (B b : Nat) (s : List UInt8) (w : World) : Prop := Lib.IsBuilder 75 5 B b (Lib.byteCells s) w ∧ B ≤ w.heap.size
def LD (s : List UInt8) : Prop := s.length ≤ 1000000

theorem PD.gb {B b : Nat} {s : List UInt8} {w w' : World} (h : PD B b s w) (hg : w.grownBy w' none) : PD B b s w' := ⟨bld_kept h.1 hg, Nat.le_trans h.2 hg.size⟩

set_option maxRecDepth 100000 in
set_option maxHeartbeats 16000000 in
theorem dump1_c (F : Nat → Prop) (B b : Nat) (hF : ∀ k, F k → k < B) (s : List UInt8) (f : Fm) (w : World) (hp : PD B b s w) (hx : PAtE F w f.g f.o f.x) (hd : f.d ≤ (kidsE f.x).length) (hq : allS f.x) (hl : LD (stD s f.x f.d)) :
    Calls Tryz.prog 24 #[.pointer (some ⟨f.g, f.o, none⟩), .int .i64 (f.d : Int), .pointer (some ⟨b, 0, none⟩)] w (fun e w' => e = .returned (.tuple #[]) ∧ PD B b (stD s f.x f.d) w' ∧ Below B w w' ∧ OKept b w w') := by
  have HOP := Lib.hid (aOpen_c F f.x f.g f.o w hx (allS_small hq))
  obtain ⟨pk, ck, c6, -⟩ := hx.kids
  have hgl := hx.2.1
  have HGB : Hid (f.g < B) := Lib.hid (hF _ hx.1)
  have HP := Lib.hid hp; have HL := Lib.hid hl
  obtain ⟨fg, hfg⟩ : ∃ fg, f.g = fg := ⟨_, rfl⟩
  obtain ⟨fo, hfo⟩ : ∃ fo, f.o = fo := ⟨_, rfl⟩
  obtain ⟨fd, hfd⟩ : ∃ fd, f.d = fd := ⟨_, rfl⟩
  obtain ⟨kn, hkn⟩ : ∃ kn, (kidsE f.x).length = kn := ⟨_, rfl⟩
  obtain ⟨x, hxx⟩ : ∃ x, f.x = x := ⟨_, rfl⟩
  rw [hfg, hfo] at HOP c6
  rw [hfg] at hgl HGB
  rw [hkn] at c6 hd
  rw [hfd] at HL hd
  rw [hfg, hfo, hfd]
  rw [hxx] at HOP HL hkn ⊢
  have HC6 := Lib.hid c6
  have HGL := Lib.hid hgl
  have HBW : Hid (B ≤ w.heap.size) := Lib.hid hp.2
  have HE : Hid (stD s x fd = s ++ ((if fd = 0 then openE x else []) ++ (if fd = kn then [93] else [32]))) := Lib.hid (by unfold stD; rw [hkn])
  clear hx hq hp hl hF hfg hfo hfd hkn hxx
  have HLL : Hid (s.length + (if fd = 0 then openE x else []).length + 1 ≤ 1000000) := Lib.hid (by
    have h := HL.out
    rw [HE.out] at h
    unfold LD at h
    simp only [List.length_append] at h
    have h3 : (if fd = kn then [93] else [32] : List UInt8).length = 1 := by split <;> rfl
    omega)
  -- the last byte told
  have HLAST : ∀ (t : List UInt8) (W : World), Hid (PD B b t W) → Hid (t.length + 1 ≤ 1000000) → ∀ (z : UInt8), Hid (Calls Tryz.prog 25 #[.pointer (some ⟨b, 0, none⟩), .string ⟨#[z]⟩] W (fun e w' => e = .returned (.tuple #[.int .i64 1, .nilIface]) ∧ PD B b (t ++ [z]) w' ∧ Below B W w' ∧ OKept b W w')) := fun t W h1 h2 z => Lib.hid ((WriteString_c B b _ ⟨#[z]⟩ W h1.out.1 (by rw [Lib.byteCells_length]; show t.length + 1 ≤ _; have := h2.out; omega) h1.out.2).mono (by
    rintro e w' ⟨rfl, ⟨h3, h4⟩, h5⟩
    refine ⟨rfl, ⟨.inr (by rw [Lib.byteCells_append]; exact h3), Nat.le_trans h1.out.2 h4.size⟩, h4, h5⟩))
  go_enter Tryz.func24, Tryz.ntmps24
  by_cases h0 : fd = 0
  · have e1 : ((fd : Int) == 0) = true := by rw [h0]; rfl
    have e1' : (fd == 0) = true := by rw [h0]; rfl
    have HLL2 : Hid (s.length + (openE x).length + 1 ≤ 1000000) := Lib.hid (by have h := HLL.out; rw [if_pos h0] at h; exact h)
    have HE2 : Hid (stD s x fd = s ++ openE x ++ (if fd = kn then [93] else [32])) := Lib.hid (by rw [HE.out, if_pos h0, List.append_assoc])
    clear h0 HE HLL
    go_wp2_with fail
    refine HOP.out.mono ?_
    rintro e w1 ⟨⟨y, rfl, hy⟩, hg1⟩
    have HY := Lib.hid hy; have HG1 := Lib.hid hg1
    have hys := sz_list hy
    have HYS : Hid (y.size ≤ 1000000) := Lib.hid (by rw [hys]; have := HLL2.out; omega)
    have HP1 := Lib.hid (HP.out.gb hg1)
    have HWS1 := Lib.hid (WriteString_c B b _ y w1 HP1.out.1 (by rw [Lib.byteCells_length, hys]; have := HLL2.out; omega) HP1.out.2)
    have c6 := hg1.cell c6 (by simp)
    have hgl := Nat.lt_of_lt_of_le hgl hg1.size
    clear hy hg1 HOP hys
    go_wp2_with fail
    refine HWS1.out.mono ?_
    rintro e w2 ⟨rfl, ⟨hb2, hbe2⟩, hok2⟩
    have HP2 : Hid (PD B b (s ++ openE x) w2) := Lib.hid ⟨.inr (by rw [← HY.out, Lib.byteCells_append]; exact hb2), Nat.le_trans HP1.out.2 hbe2.size⟩
    have HBE2 := Lib.hid (Below.trans2 (Below.gb HG1.out HBW.out) hbe2)
    have HOK2 := Lib.hid (OKept.trans (OKept.none HG1.out) hok2)
    have c6 := (World.cell?_of_block (a := ⟨fg, fo + 6, none⟩) (hbe2.block fg HGB.out)).trans c6
    have hgl := Nat.lt_of_lt_of_le hgl hbe2.size
    have HLA := fun z => HLAST _ _ HP2 (Lib.hid (by rw [List.length_append]; exact HLL2.out)) z
    clear hb2 hbe2 hok2 HWS1 HLAST
    by_cases hk : fd = kn
    · have e2 : ((fd : Int) == (kn : Int)) = true := beq_iff_eq.2 (by omega)
      have e2' : (fd == kn) = true := beq_iff_eq.2 hk
      have HK := Lib.hid hk
      have HLZ := HLA 93
      clear hk HLA
      go_wp2_with fail
      refine HLZ.out.mono ?_
      rintro e w3 ⟨rfl, hp3, hb3, ho3⟩
      go_wp2_with fail
      refine bodyPost_end (results_none rfl _ _ _) rfl ?_
      exact ⟨rfl, by rw [HE2.out, if_pos HK.out]; exact hp3, Below.trans2 HBE2.out hb3, OKept.trans HOK2.out ho3⟩
    · have e2 : ((fd : Int) == (kn : Int)) = false := beq_eq_false_iff_ne.2 (by omega)
      have e2' : (fd == kn) = false := beq_eq_false_iff_ne.2 hk
      have HK := Lib.hid hk
      have HLZ := HLA 32
      clear hk HLA
      go_wp2_with fail
      refine HLZ.out.mono ?_
      rintro e w3 ⟨rfl, hp3, hb3, ho3⟩
      go_wp2_with fail
      refine bodyPost_end (results_none rfl _ _ _) rfl ?_
      exact ⟨rfl, by rw [HE2.out, if_neg HK.out]; exact hp3, Below.trans2 HBE2.out hb3, OKept.trans HOK2.out ho3⟩
  · have e1 : ((fd : Int) == 0) = false := beq_eq_false_iff_ne.2 (by omega)
    have e1' : (fd == 0) = false := beq_eq_false_iff_ne.2 h0
    have HLL2 : Hid (s.length + 1 ≤ 1000000) := Lib.hid (by have h := HLL.out; omega)
    have HE2 : Hid (stD s x fd = s ++ (if fd = kn then [93] else [32])) := Lib.hid (by rw [HE.out, if_neg h0]; rfl)
    have HLA := fun z => HLAST _ _ HP HLL2 z
    clear h0 HE HLL HOP HLAST
    by_cases hk : fd = kn
    · have e2 : ((fd : Int) == (kn : Int)) = true := beq_iff_eq.2 (by omega)
      have e2' : (fd == kn) = true := beq_iff_eq.2 hk
      have HK := Lib.hid hk
      have HLZ := HLA 93
      clear hk HLA
      go_wp2_with fail
      refine HLZ.out.mono ?_
      rintro e w3 ⟨rfl, hp3, hb3, ho3⟩
      go_wp2_with fail
      refine bodyPost_end (results_none rfl _ _ _) rfl ?_
      exact ⟨rfl, by rw [HE2.out, if_pos HK.out]; exact hp3, hb3, ho3⟩
    · have e2 : ((fd : Int) == (kn : Int)) = false := beq_eq_false_iff_ne.2 (by omega)
      have e2' : (fd == kn) = false := beq_eq_false_iff_ne.2 hk
      have HK := Lib.hid hk
      have HLZ := HLA 32
      clear hk HLA
      go_wp2_with fail
      refine HLZ.out.mono ?_
      rintro e w3 ⟨rfl, hp3, hb3, ho3⟩
      go_wp2_with fail
      refine bodyPost_end (results_none rfl _ _ _) rfl ?_
      exact ⟨rfl, by rw [HE2.out, if_neg HK.out]; exact hp3, hb3, ho3⟩
end Go.Proofs.YtddccnpohpaofaaGreatDoor
