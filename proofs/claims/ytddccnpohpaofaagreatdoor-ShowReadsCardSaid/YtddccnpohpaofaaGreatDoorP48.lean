/- Lemmas. -/
import Derived.Test.YtddccnpohpaofaaGreatDoorP41
import Derived.Test.YtddccnpohpaofaaGreatDoorP45
set_option linter.unusedVariables false
set_option linter.unusedSimpArgs false
namespace Go.Proofs.YtddccnpohpaofaaGreatDoor
open Go.RowKit

theorem right_of {x : Sx} (h : Fml x) : rightB true x = true := by
  induction h with
  | lit nu ps h1 h2 => simp [rightB, rightBs, aloneB, mayB, countB, namesB, numB, h1, h2]
  | tru ys ps => simp [rightB, rightBs, aloneB, mayB, countB, namesB, numB]
  | var nm ps h => simp [rightB, rightBs, aloneB, mayB, countB, namesB, numB, h]
  | res ps => simp [rightB, rightBs, aloneB, mayB, countB, namesB, numB]
  | neg a ps h ih => simp [rightB, rightBs, aloneB, mayB, countB, namesB, numB, ih]
  | not a ps h ih => simp [rightB, rightBs, aloneB, mayB, countB, namesB, numB, ih]
  | bin op a b ps h1 h2 ha hb iha ihb =>
    obtain h | h | h | h | h | h | h | h | h | h | h | h | h | h : op = 7 ∨ op = 8 ∨ op = 9 ∨ op = 10 ∨ op = 11 ∨ op = 12 ∨ op = 13 ∨ op = 14 ∨ op = 15 ∨ op = 16 ∨ op = 17 ∨ op = 18 ∨ op = 19 ∨ op = 20 := by omega
    all_goals subst h; simp [rightB, rightBs, aloneB, mayB, countB, namesB, numB, iha, ihb]
theorem np_inv {ex : Ex} {op : Nat} {nm md nu : List UInt8} {ys : Bool} {l : List Ex} {p : Nat} (h : npE ex = .mk op nm md nu ys l p) : ∃ ks ps, ex = .mk op nm md nu ys ks ps ∧ npEs ks = l := by
  cases ex with
  | mk op' nm' md' nu' ys' ks ps =>
    simp only [npE, Ex.mk.injEq] at h
    obtain ⟨rfl, rfl, rfl, rfl, rfl, h, -⟩ := h
    exact ⟨ks, ps, rfl, h⟩
theorem nps_nil {ks : List Ex} (h : npEs ks = []) : ks = [] := by
  cases ks with
  | nil => rfl
  | cons x l => simp [npEs] at h
theorem nps_cons {ks l : List Ex} {a : Ex} (h : npEs ks = a :: l) : ∃ e m, ks = e :: m ∧ npE e = a ∧ npEs m = l := by
  cases ks with
  | nil => simp [npEs] at h
  | cons x m =>
    simp only [npEs, List.cons.injEq] at h
    exact ⟨x, m, rfl, h.1, h.2⟩
theorem same_S {x : Sx} (h : Fml x) : ∀ ex, npE ex = npS x → Fml (exS ex) ∧ (exS ex).op = x.op ∧ txS (exS ex) = txS x ∧ sizS (exS ex) = sizS x ∧ wgS (exS ex) = wgS x ∧ (okS x → okS (exS ex)) := by
  induction h with
  | lit nu ps h1 h2 =>
    intro ex he
    obtain ⟨ks, q, rfl, hk⟩ := np_inv (show npE ex = .mk 1 [] [] (Zd.txtL nu) false [] 0 from he)
    rw [nps_nil hk]
    have e : exS (.mk 1 [] [] (Zd.txtL nu) false [] q) = .mk 1 [] [] nu false [] q := by simp [exS, exSs, parse_txt h1 h2]
    rw [e]
    exact ⟨.lit nu _ h1 h2, rfl, rfl, rfl, rfl, fun h => h⟩
  | tru ys ps =>
    intro ex he
    obtain ⟨ks, q, rfl, hk⟩ := np_inv (show npE ex = .mk 2 [] [] [] ys [] 0 from he)
    rw [nps_nil hk]
    have e : exS (.mk 2 [] [] [] ys [] q) = .mk 2 [] [] 0 ys [] q := by simp [exS, exSs]
    rw [e]
    exact ⟨.tru ys _, rfl, rfl, rfl, rfl, fun h => h⟩
  | var nm ps h =>
    intro ex he
    obtain ⟨ks, q, rfl, hk⟩ := np_inv (show npE ex = .mk 3 nm [] [] false [] 0 from he)
    rw [nps_nil hk]
    have e : exS (.mk 3 nm [] [] false [] q) = .mk 3 nm [] 0 false [] q := by simp [exS, exSs]
    rw [e]
    exact ⟨.var nm _ h, rfl, rfl, rfl, rfl, fun h => h⟩
  | res ps =>
    intro ex he
    obtain ⟨ks, q, rfl, hk⟩ := np_inv (show npE ex = .mk 4 [] [] [] false [] 0 from he)
    rw [nps_nil hk]
    have e : exS (.mk 4 [] [] [] false [] q) = .mk 4 [] [] 0 false [] q := by simp [exS, exSs]
    rw [e]
    exact ⟨.res _, rfl, rfl, rfl, rfl, fun h => h⟩
  | neg a ps h ih =>
    intro ex he
    obtain ⟨ks, q, rfl, hk⟩ := np_inv (show npE ex = .mk 5 [] [] [] false [npS a] 0 from he)
    obtain ⟨e1, m, rfl, g1, g2⟩ := nps_cons hk
    rw [nps_nil g2]
    obtain ⟨i1, i2, i3, i4, i5, i6⟩ := ih e1 g1
    have e : exS (.mk 5 [] [] [] false [e1] q) = .mk 5 [] [] 0 false [exS e1] q := by simp [exS, exSs]
    rw [e]
    refine ⟨.neg _ _ i1, rfl, ?_, by simp only [sizS, sizSs, i4], by simp only [wgS, wgSs, i5], fun h => ?_⟩
    · rw [tx_neg, tx_neg]; unfold wrapS; rw [i2, i3]
    · simp only [okS, okSs] at h ⊢; exact ⟨h.1, i6 h.2.1, trivial⟩
  | not a ps h ih =>
    intro ex he
    obtain ⟨ks, q, rfl, hk⟩ := np_inv (show npE ex = .mk 6 [] [] [] false [npS a] 0 from he)
    obtain ⟨e1, m, rfl, g1, g2⟩ := nps_cons hk
    rw [nps_nil g2]
    obtain ⟨i1, i2, i3, i4, i5, i6⟩ := ih e1 g1
    have e : exS (.mk 6 [] [] [] false [e1] q) = .mk 6 [] [] 0 false [exS e1] q := by simp [exS, exSs]
    rw [e]
    refine ⟨.not _ _ i1, rfl, ?_, by simp only [sizS, sizSs, i4], by simp only [wgS, wgSs, i5], fun h => ?_⟩
    · rw [tx_not, tx_not]; unfold wrapS; rw [i2, i3]
    · simp only [okS, okSs] at h ⊢; exact ⟨h.1, i6 h.2.1, trivial⟩
  | bin op a b ps h1 h2 ha hb iha ihb =>
    intro ex he
    have hop : ((op.toNat : Nat) : Int) = op := by omega
    obtain ⟨ks, q, rfl, hk⟩ := np_inv (show npE ex = .mk op.toNat [] [] [] false [npS a, npS b] 0 by rw [he]; simp only [npS, npSs]; rw [if_neg (by omega)])
    obtain ⟨e1, m, rfl, g1, g2⟩ := nps_cons hk
    obtain ⟨e2, m2, rfl, g3, g4⟩ := nps_cons g2
    rw [nps_nil g4]
    obtain ⟨i1, i2, i3, i4, i5, i6⟩ := iha e1 g1
    obtain ⟨j1, j2, j3, j4, j5, j6⟩ := ihb e2 g3
    have e : exS (.mk op.toNat [] [] [] false [e1, e2] q) = .mk op [] [] 0 false [exS e1, exS e2] q := by
      simp only [exS, exSs, hop]; rw [if_neg (by omega)]
    rw [e]
    refine ⟨.bin op _ _ _ h1 h2 i1 j1, rfl, ?_, by simp only [sizS, sizSs, i4, j4], by simp only [wgS, wgSs, i5, j5], fun h => ?_⟩
    · rw [tx_bin h1 h2, tx_bin h1 h2]; unfold wrapS; rw [i2, i3, j2, j3]
    · simp only [okS, okSs] at h ⊢; exact ⟨h.1, i6 h.2.1, j6 h.2.2.1, trivial⟩

mutual
theorem dmp_np : ∀ e : Ex, dmpE (npE e) = dmpE e
  | .mk op nm md nu ys ks ps => by simp only [npE, dmpE, dmpK_np ks, openE, nmE, tailE]
theorem dmpK_np : ∀ l : List Ex, dmpK (npEs l) = dmpK l
  | [] => rfl
  | x :: l => by simp only [npEs, dmpK, dmp_np x, dmpK_np l]
end
mutual
theorem all_np : ∀ e : Ex, allS (npE e) ↔ allS e
  | .mk op nm md nu ys ks ps => by simp only [npE, allS, alls_np ks, smallE]
theorem alls_np : ∀ l : List Ex, allSs (npEs l) ↔ allSs l
  | [] => Iff.rfl
  | x :: l => by simp only [npEs, allSs, all_np x, alls_np l]
end
mutual
theorem cnt_np : ∀ e : Ex, cntE (npE e) = cntE e
  | .mk op nm md nu ys ks ps => by simp only [npE, cntE, cntK_np ks]
theorem cntK_np : ∀ l : List Ex, cntK (npEs l) = cntK l
  | [] => rfl
  | x :: l => by simp only [npEs, cntK, cnt_np x, cntK_np l]
end
theorem small_S {x : Sx} (h : Fml x) : (okS x → allS (npS x)) ∧ cntE (npS x) ≤ 3 * sizS x ∧ (dmpE (npS x)).length ≤ tbS x := by
  have hd : ∀ k, (decN k).length ≤ 2 := fun k => by unfold decN; split <;> simp
  induction h with
  | lit nu ps h1 h2 =>
    have h3 := hd 1
    refine ⟨fun _ => ?_, by simp [npS, npSs, cntE, cntK, sizS, sizSs], ?_⟩
    · simp only [npS, npSs, allS, allSs, smallE]; simp; omega
    · simp [npS, npSs, dmpE, dmpK, openE, nmE, tailE, tbS, tbSs] at h3 ⊢; omega
  | tru ys ps =>
    have h3 := hd 2
    refine ⟨fun _ => by simp [npS, npSs, allS, allSs, smallE], by simp [npS, npSs, cntE, cntK, sizS, sizSs], ?_⟩
    cases ys <;> simp [npS, npSs, dmpE, dmpK, openE, nmE, tailE, tbS, tbSs] at h3 ⊢ <;> omega
  | var nm ps h =>
    have h3 := hd 3
    refine ⟨fun ho => ?_, by simp [npS, npSs, cntE, cntK, sizS, sizSs], ?_⟩
    · simp only [okS] at ho; simp only [npS, npSs, allS, allSs, smallE]; simp; omega
    · have h4 : (if nm = [] then ([] : List UInt8) else 32 :: nm).length ≤ 1 + nm.length := by split <;> simp <;> omega
      simp [npS, npSs, dmpE, dmpK, openE, nmE, tailE, tbS, tbSs] at h3 ⊢; omega
  | res ps =>
    have h3 := hd 4
    refine ⟨fun _ => by simp [npS, npSs, allS, allSs, smallE], by simp [npS, npSs, cntE, cntK, sizS, sizSs], ?_⟩
    simp [npS, npSs, dmpE, dmpK, openE, nmE, tailE, tbS, tbSs] at h3 ⊢; omega
  | neg a ps h ih =>
    obtain ⟨i1, i2, i3⟩ := ih
    have h3 := hd 5
    refine ⟨fun ho => ?_, ?_, ?_⟩
    · simp only [okS, okSs] at ho
      have := i1 ho.2.1
      simp [npS, npSs, allS, allSs, smallE, this]
    · simp only [npS, npSs, cntE, cntK, sizS, sizSs]; omega
    · simp [npS, npSs, dmpE, dmpK, openE, nmE, tailE, tbS, tbSs] at h3 ⊢; omega
  | not a ps h ih =>
    obtain ⟨i1, i2, i3⟩ := ih
    have h3 := hd 6
    refine ⟨fun ho => ?_, ?_, ?_⟩
    · simp only [okS, okSs] at ho
      have := i1 ho.2.1
      simp [npS, npSs, allS, allSs, smallE, this]
    · simp only [npS, npSs, cntE, cntK, sizS, sizSs]; omega
    · simp [npS, npSs, dmpE, dmpK, openE, nmE, tailE, tbS, tbSs] at h3 ⊢; omega
  | bin op a b ps h1 h2 ha hb iha ihb =>
    obtain ⟨i1, i2, i3⟩ := iha
    obtain ⟨j1, j2, j3⟩ := ihb
    have h3 := hd op.toNat
    have e : npS (.mk op [] [] 0 false [a, b] ps) = .mk op.toNat [] [] [] false [npS a, npS b] 0 := by simp only [npS, npSs]; rw [if_neg (by omega)]
    rw [e]
    refine ⟨fun ho => ?_, ?_, ?_⟩
    · simp only [okS, okSs] at ho
      have g1 := i1 ho.2.1
      have g2 := j1 ho.2.2.1
      simp [allS, allSs, smallE, g1, g2]; omega
    · simp only [cntE, cntK, sizS, sizSs]; omega
    · have t1 : ¬ op.toNat = 1 := by omega
      have t2 : ¬ op.toNat = 2 := by omega
      simp [dmpE, dmpK, openE, nmE, tailE, tbS, tbSs, t1, t2]; omega

mutual
def toE : Sx → Ex
  | .mk op nm md nu ys ks ps => .mk op.toNat nm md (if op = 1 then Zd.txtL nu else []) ys (toEs ks) ps.toNat
def toEs : List Sx → List Ex
  | [] => []
  | x :: l => toE x :: toEs l
end
theorem toEs_len : ∀ l : List Sx, (toEs l).length = l.length
  | [] => rfl
  | x :: l => by simp only [toEs, List.length_cons, toEs_len l]
mutual
theorem np_to : ∀ x : Sx, npE (toE x) = npS x
  | .mk op nm md nu ys ks ps => by simp only [toE, npE, npS, nps_to ks]
theorem nps_to : ∀ l : List Sx, npEs (toEs l) = npSs l
  | [] => rfl
  | x :: l => by simp only [toEs, npEs, npSs, np_to x, nps_to l]
end
mutual
/-- What is asked of an expression that the dumps take. -/
def eoS : Sx → Prop
  | .mk op _ _ nu _ ks ps => (0 ≤ op ∧ (op = 1 → Zd.parseV (Zd.txtL nu) = nu ∧ Zd.parseE (Zd.txtL nu) = 0) ∧ (op ≠ 1 → nu = 0) ∧ ps = 0) ∧ eoSs ks
def eoSs : List Sx → Prop
  | [] => True
  | x :: l => eoS x ∧ eoSs l
end
mutual
def plS : Sx → Prop
  | .mk _ _ _ _ _ ks ps => ps = 0 ∧ plSs ks
def plSs : List Sx → Prop
  | [] => True
  | x :: l => plS x ∧ plSs l
end
theorem eo_of {x : Sx} (h : Fml x) : plS x → eoS x := by
  induction h with
  | lit nu ps h1 h2 => intro hp; simp only [plS, plSs] at hp; simp only [eoS, eoSs]; exact ⟨⟨by decide, fun _ => ⟨parse_txt h1 h2, (num_parse (num_txt h1 h2)).1⟩, fun e => absurd rfl e, hp.1⟩, trivial⟩
  | tru ys ps => intro hp; simp only [plS, plSs] at hp; simp [eoS, eoSs, hp]
  | var nm ps h => intro hp; simp only [plS, plSs] at hp; simp [eoS, eoSs, hp]
  | res ps => intro hp; simp only [plS, plSs] at hp; simp [eoS, eoSs, hp]
  | neg a ps h ih => intro hp; simp only [plS, plSs] at hp; simp [eoS, eoSs, hp, ih hp.2.1]
  | not a ps h ih => intro hp; simp only [plS, plSs] at hp; simp [eoS, eoSs, hp, ih hp.2.1]
  | bin op a b ps h1 h2 ha hb iha ihb =>
    intro hp
    simp only [plS, plSs] at hp
    simp only [eoS, eoSs]
    exact ⟨⟨by omega, fun e => by omega, fun _ => by trivial, hp.1⟩, iha hp.2.1, ihb hp.2.2.1, trivial⟩
mutual
theorem eat_of {F : Nat → Prop} {w : World} : ∀ {x : Sx} {q : List Value}, eoS x → SAt F w x q → EAt F w (toE x) q
  | .mk op nm md nu ys ks ps, q, ho, h => by
    simp only [eoS] at ho
    obtain ⟨⟨o1, o2, o3, o4⟩, o5⟩ := ho
    simp only [SAt] at h
    obtain ⟨s, pw, nw, cw, pk, ck, rows, rfl, hi, hiF, hg, hl, hf⟩ := h
    simp only [toE, EAt]
    refine ⟨s, pw, nw, cw, pk, ck, rows, ?_, ?_, hg, les_of o5 hl, fun h0 => ?_⟩
    · rw [toEs_len, show ((op.toNat : Nat) : Int) = op by omega, o4]; rfl
    · unfold NumAt
      by_cases h1 : op = 1
      · subst h1
        rw [if_pos rfl, if_pos (show Int.toNat 1 = 1 from rfl)]
        have := o2 rfl
        exact ⟨by rw [this.1]; exact hi, this.2, hiF⟩
      · rw [if_neg (by omega)]
        rw [o3 h1] at hi
        exact ⟨hi, hiF⟩
    · obtain ⟨a, ha, h1, h2⟩ := hf (fun e => h0 (by rw [e]; rfl))
      exact ⟨a, ha, h1, h2⟩
theorem les_of {F : Nat → Prop} {w : World} : ∀ {l : List Sx} {r : List (List Value)}, eoSs l → LsS F w l r → LsE F w (toEs l) r
  | [], r, _, h => by simp only [LsS] at h; simp only [toEs, LsE]; exact h
  | x :: l, r, ho, h => by
    simp only [eoSs] at ho
    simp only [LsS] at h
    obtain ⟨q, r', h1, h2, h3⟩ := h
    simp only [toEs, LsE]
    exact ⟨q, r', h1, eat_of ho.1 h2, les_of ho.2 h3⟩
end
theorem plSs_app : ∀ {a b : List Sx}, plSs (a ++ b) ↔ plSs a ∧ plSs b
  | [], b => by simp [plSs]
  | x :: a, b => by simp only [List.cons_append, plSs, plSs_app (a := a) (b := b), and_assoc]
theorem foldC_pl : ∀ (l : List Cl) (o : List Sx), plSs o → plSs (l.foldl stepC o)
  | [], o, h => h
  | c :: l, o, h => by
    refine foldC_pl l _ ?_
    unfold stepC
    rw [← List.take_append_drop (o.length - takesC c) o] at h
    have h3 := plSs_app.1 h
    refine plSs_app.2 ⟨h3.1, ?_⟩
    simp only [plSs, plS, and_true]
    exact ⟨trivial, h3.2⟩
theorem bothC_pl {l : List Cl} {x : Sx} (h : bothC l = some x) : plS x := by
  unfold bothC at h
  split at h
  · cases h
  · split at h
    · have h1 : plSs (stackC l) := foldC_pl l [] trivial
      rcases list_lastS (stackC l) with ho | ⟨o1, y, ho⟩
      · rw [ho] at h; cases h
      · rw [ho] at h h1
        rw [List.getLast?_append] at h
        have : y = x := by simpa using h
        subst this
        have := (plSs_app.1 h1).2
        simp only [plSs, and_true] at this
        exact this
    · cases h
end Go.Proofs.YtddccnpohpaofaaGreatDoor
