/- Blanks and remarks put between tokens change Leads and places alone. -/
import Derived.Test.YtohdpodnfgdnbaaDoorEMath2
namespace Go.Proofs.YtohdpodnfgdnbaaDoor

/-- What is put in is blank to its end. -/
def Closed (j : List UInt8) : Prop := (∀ x, sk false (j ++ x) = j.length + sk false x) ∧ ∀ b, j.head? = some b → isBl b = true

def joinE (J : Nat → List UInt8) : Nat → List Tok → List UInt8
  | _, [] => []
  | i, t :: L => J i ++ (t.lead ++ (t.text ++ joinE J (i + 1) L))

theorem joinE_snoc (J : Nat → List UInt8) (t : Tok) : ∀ (L : List Tok) (i : Nat), joinE J i (L ++ [t]) = joinE J i L ++ (J (i + L.length) ++ (t.lead ++ t.text))
  | [], i => by simp [joinE]
  | a :: L, i => by
    rw [List.cons_append, joinE, joinE_snoc J t L (i + 1), joinE]
    simp only [List.append_assoc, List.length_cons]
    rw [show i + 1 + L.length = i + (L.length + 1) by omega]

/-- What follows begins alike, or with a blank. -/
def NextE (R R' : List UInt8) : Prop := R'.head? = R.head? ∨ ∃ b, R'.head? = some b ∧ isBl b = true

theorem head_app {α : Type} {T A B : List α} (h : T ≠ []) : (T ++ A).head? = (T ++ B).head? := by
  cases T with
  | nil => exact absurd rfl h
  | cons a T => rfl

theorem sk_next : ∀ (A : List UInt8) (m : Bool) (b : UInt8) (Y Y' : List UInt8), (b = 45 → Y'.head? = some 45 → Y.head? = some 45) → sk m (A ++ b :: Y) = A.length → sk m (A ++ b :: Y') = A.length
  | [], true, b, Y, Y', _, h => by
    simp only [List.nil_append, sk, List.length_nil] at h
    split at h <;> omega
  | [], false, b, Y, Y', hb, h => by
    simp only [List.nil_append, sk, List.length_nil] at h ⊢
    split at h
    · omega
    · rename_i h1
      rw [if_neg h1]
      split at h
      · omega
      · rename_i h2
        rw [if_neg (fun h3 => h2 ⟨h3.1, hb h3.1 h3.2⟩)]
  | c :: A, true, b, Y, Y', hb, h => by
    simp only [List.cons_append, sk, List.length_cons] at h ⊢
    split at h
    · rename_i h1
      rw [if_pos h1, sk_next A false b Y Y' hb (by omega)]
    · rename_i h1
      rw [if_neg h1, sk_next A true b Y Y' hb (by omega)]
  | c :: A, false, b, Y, Y', hb, h => by
    simp only [List.cons_append, sk, List.length_cons] at h ⊢
    have hh : (A ++ b :: Y').head? = (A ++ b :: Y).head? := by cases A <;> rfl
    rw [hh]
    split at h
    · rename_i h1
      rw [if_pos h1, sk_next A false b Y Y' hb (by omega)]
    · rename_i h1
      rw [if_neg h1]
      split at h
      · rename_i h2
        rw [if_pos h2, sk_next A true b Y Y' hb (by omega)]
      · omega

theorem bl_not {b : UInt8} (h : isBl b = true) : inW b = false ∧ isDig b = false ∧ b ≠ 45 ∧ b ∉ ([62, 61, 38, 124] : List UInt8) := by
  unfold isBl at h
  simp only [Bool.or_eq_true, beq_iff_eq] at h
  rcases h with ((rfl | rfl) | rfl) | rfl <;> decide

theorem sign_take (l : List UInt8) : signN l = signN (l.take 2) := by
  have key : ∀ g ∈ signsL, g.isPrefixOf l = g.isPrefixOf (l.take 2) := fun g hg => by
    have hl : g.length ≤ 2 := (show ∀ g ∈ signsL, g.length ≤ 2 by decide) g hg
    rw [Bool.eq_iff_iff, List.isPrefixOf_iff_prefix, List.isPrefixOf_iff_prefix]
    constructor
    · intro h
      exact List.prefix_take_iff.2 ⟨h, hl⟩
    · intro h
      exact (List.prefix_take_iff.1 h).1
  have gen : ∀ (L : List (List UInt8)) (m : Nat), (∀ g ∈ L, g.isPrefixOf l = g.isPrefixOf (l.take 2)) → fm L l m = fm L (l.take 2) m := by
    intro L
    induction L with
    | nil => intro m _; rfl
    | cons g L ih =>
      intro m hh
      show fm L l (if g.isPrefixOf l then max m g.length else m) = fm L (l.take 2) (if g.isPrefixOf (l.take 2) then max m g.length else m)
      rw [hh g (List.mem_cons_self ..)]
      exact ih _ (fun g hg => hh g (List.mem_cons_of_mem _ hg))
  exact gen signsL 0 key

theorem sign_next {b : UInt8} {T R R' : List UInt8} (h : signN ((b :: T) ++ R) = (b :: T).length) (hn : NextE R R') : signN ((b :: T) ++ R') = (b :: T).length := by
  have h2 := signN_le2 ((b :: T) ++ R)
  rw [h] at h2
  match T, h, h2 with
  | [], h, _ =>
    rcases hn with hn | ⟨c, hc, hbl⟩
    · rw [sign_take] at h ⊢
      have : (([b] ++ R').take 2) = (([b] ++ R).take 2) := by
        cases R with
        | nil => cases R' with
          | nil => rfl
          | cons y Y => simp at hn
        | cons x X => cases R' with
          | nil => simp at hn
          | cons y Y => simp at hn; subst hn; rfl
      rw [this]; exact h
    · obtain ⟨Y, rfl⟩ : ∃ Y, R' = c :: Y := by
        cases R' with
        | nil => cases hc
        | cons y Y => simp at hc; subst hc; exact ⟨Y, rfl⟩
      have hb : b ∈ onesL := by
        rcases fm_mem (L := signsL) (l := [b] ++ R) 0 with h0 | ⟨g, hg, hp, h0⟩
        · have h0' : signN ([b] ++ R) = 0 := h0
          rw [h] at h0'; cases h0'
        · have h0' : signN ([b] ++ R) = g.length := h0
          rw [h] at h0'
          have hs : ∀ g ∈ signsL, g.length = 1 → ∃ a ∈ onesL, g = [a] := by decide
          obtain ⟨a, ha, rfl⟩ := hs g hg h0'.symm
          simp [List.isPrefixOf] at hp
          subst hp; exact ha
      refine signN_one (fun g hg => ?_) hb
      have hs : ∀ g ∈ twosL, g = [g.getD 0 0, g.getD 1 0] ∧ g.getD 1 0 ∈ ([62, 61, 38, 124] : List UInt8) := by decide
      obtain ⟨he, hd⟩ := hs g hg
      generalize g.getD 0 0 = a at *
      generalize g.getD 1 0 = d at *
      subst he
      rw [← Bool.not_eq_true]
      intro hp
      simp [List.isPrefixOf] at hp
      rw [hp.2] at hd
      exact (bl_not hbl).2.2.2 hd
  | [c], h, _ =>
    rw [sign_take] at h ⊢
    exact h
  | c :: d :: T, h, h2 => simp at h2

theorem first_next {T R R' : List UInt8} {k : Nat} (h0 : T ≠ []) (h : firstE (T ++ R) = (k, T.length)) (hn : NextE R R') : firstE (T ++ R') = (k, T.length) := by
  cases T with
  | nil => exact absurd rfl h0
  | cons b T =>
    have run : ∀ p : UInt8 → Bool, (∀ c, isBl c = true → p c = false) → runN p ((b :: T) ++ R) = (b :: T).length → runN p ((b :: T) ++ R') = (b :: T).length := fun p hp hr => by
      obtain ⟨h1, h2⟩ := runN_inv p hr
      refine runN_all p h1 (fun c hc => ?_)
      rcases hn with hn | ⟨d, hd, hbl⟩
      · exact h2 c (by rw [← hn]; exact hc)
      · rw [hd] at hc; injection hc with hc; subst hc; exact hp d hbl
    have tk : ∀ X : List UInt8, ((b :: T) ++ X).take (b :: T).length = b :: T := fun X => List.take_left
    rw [List.cons_append, firstE_cons, ← List.cons_append] at h ⊢
    cases hx : isLet b
    · rw [hx] at h
      rw [if_neg (by simp)] at h ⊢
      cases hy : isDig b
      · rw [hy] at h
        rw [if_neg (by simp)] at h ⊢
        split at h
        · injection h with h1 h2
          have h3 := sign_next h2 hn
          rw [h3, if_pos (by simp), ← h1]
        · injection h with h1 h2
          simp at h2
      · rw [hy] at h
        rw [if_pos rfl] at h ⊢
        injection h with h1 h2
        rw [run isDig (fun c hc => (bl_not hc).2.1) h2, ← h1]
    · rw [hx] at h
      rw [if_pos rfl] at h ⊢
      injection h with h1 h2
      rw [h2, tk] at h1
      rw [run inW (fun c hc => (bl_not hc).1) h2, tk, h1]

/-- The same tokens, further behind. -/
def SameE : List Tok → List Tok → Prop
  | [], [] => True
  | a :: A, b :: B => a.kind = b.kind ∧ a.text = b.text ∧ a.pos ≤ b.pos ∧ SameE A B
  | _, _ => False

theorem SameE.len : ∀ {A B : List Tok}, SameE A B → B.length = A.length
  | [], [], _ => rfl
  | a :: A, b :: B, h => by rw [List.length_cons, List.length_cons, SameE.len h.2.2.2]
  | [], b :: B, h => h.elim
  | a :: A, [], h => h.elim
theorem SameE.get : ∀ {A B : List Tok}, SameE A B → ∀ {i : Nat} {a b : Tok}, A[i]? = some a → B[i]? = some b → a.kind = b.kind ∧ a.text = b.text ∧ a.pos ≤ b.pos
  | [], [], _, i, a, b, h1, _ => by simp at h1
  | a :: A, b :: B, h, 0, x, y, h1, h2 => by simp at h1 h2; subst h1; subst h2; exact ⟨h.1, h.2.1, h.2.2.1⟩
  | a :: A, b :: B, h, i + 1, x, y, h1, h2 => SameE.get h.2.2.2 (i := i) (by simpa using h1) (by simpa using h2)
  | [], b :: B, h, _, _, _, _, _ => h.elim
  | a :: A, [], h, _, _, _, _, _ => h.elim

theorem join_next {J : Nat → List UInt8} (hJ : ∀ i, Closed (J i)) {L : List Tok} (i : Nat) (h : ∀ t X, L = t :: X → t.text = [] → X = []) : NextE (wholeL L) (joinE J i L) := by
  cases L with
  | nil => exact .inl rfl
  | cons t X =>
    rw [joinE, wholeL_cons]
    cases hj : J i with
    | cons b B => exact .inr ⟨b, rfl, (hJ i).2 b (by rw [hj]; rfl)⟩
    | nil =>
      refine .inl ?_
      rw [List.nil_append]
      by_cases hl : t.lead = []
      · by_cases ht : t.text = []
        · have := h t X rfl ht
          subst this
          rw [hl, ht]; rfl
        · rw [hl, List.nil_append, List.nil_append]; exact head_app ht
      · rw [List.append_assoc]; exact head_app hl

theorem join_lexG (J : Nat → List UInt8) (hJ : ∀ i, Closed (J i)) : ∀ (f : Nat) (l : List UInt8) (p i f' p' : Nat), l.length < f → (lexG f l p).2.1 = 0 → p ≤ p' → (joinE J i (lexG f l p).1).length < f' →
    (lexG f' (joinE J i (lexG f l p).1) p').2.1 = 0 ∧ SameE (lexG f l p).1 (lexG f' (joinE J i (lexG f l p).1) p').1
  | 0, l, p, i, f', p', h, _, _, _ => by omega
  | f + 1, l, p, i, f', p', h, h0, hp, hf' => by
    obtain ⟨f', rfl⟩ : ∃ y, f' = y + 1 := ⟨f' - 1, by omega⟩
    by_cases hw : wrongE (tokE l p).kind (tokE l p).text = 0
    · have hlead : (tokE l p).lead.length = sk false l := by
        unfold tokE; simp only [List.length_take]; have := sk_le l false; omega
      by_cases h5 : (tokE l p).kind = 5
      · rw [lexG_end hw h5] at hf' ⊢
        simp only at hf' ⊢
        have hte := (end_whole h5).2
        have hl : (tokE l p).lead = l := by
          have h1 := tok_whole l p
          rw [hte, (end_whole h5).1, List.take_length, List.append_nil] at h1; exact h1
        have hje : joinE J i [tokE l p] = J i ++ l := by simp [joinE, hte, hl]
        rw [hje] at hf' ⊢
        have hsk : sk false (J i ++ l) = (J i ++ l).length := by
          rw [(hJ i).1, ← hlead, hl, List.length_append]
        have hd : (J i ++ l).drop (sk false (J i ++ l)) = [] := by rw [hsk, List.drop_length]
        have hk' : (tokE (J i ++ l) p').kind = 5 := by unfold tokE; rw [hd]; rfl
        have hw' : wrongE (tokE (J i ++ l) p').kind (tokE (J i ++ l) p').text = 0 := by rw [hk']; simp [wrongE]
        rw [lexG_end hw' hk']
        refine ⟨rfl, by rw [h5, hk'], by rw [hte, (end_whole hk').2], ?_, trivial⟩
        show p + sk false l ≤ p' + sk false (J i ++ l)
        rw [(hJ i).1]; omega
      · rw [lexG_more hw h5] at h0 hf' ⊢
        simp only at h0 hf' ⊢
        have h1 := stepE_pos hw h5
        have h2 := stepE_le l
        have hlen : (l.drop (stepE l)).length < f := by rw [List.length_drop]; omega
        obtain ⟨hpl, hne⟩ := place_lexG f (l.drop (stepE l)) (p + stepE l) hlen h0
        have hrest := whole_lexG f (l.drop (stepE l)) (p + stepE l) hlen h0
        obtain ⟨L, hL⟩ : ∃ L, (lexG f (l.drop (stepE l)) (p + stepE l)).1 = L := ⟨_, rfl⟩
        have ih := fun p' f' => join_lexG J hJ f (l.drop (stepE l)) (p + stepE l) (i + 1) f' p' hlen h0
        rw [hL] at hpl hne hrest hf' ih ⊢
        have hnx : NextE (l.drop (stepE l)) (joinE J (i + 1) L) := by
          rw [← hrest]
          refine join_next hJ (i + 1) (fun t X e ht => ?_)
          obtain ⟨_, a2, a3⟩ := hpl 0 t (by rw [e]; rfl)
          have := a2.1 (a3.1 ht)
          rw [e] at this
          simpa using this.symm
        have hT := text_pos hw h5
        obtain ⟨T, hTe⟩ : ∃ T, (tokE l p).text = T := ⟨_, rfl⟩
        obtain ⟨A, hA⟩ : ∃ A, (tokE l p).lead = A := ⟨_, rfl⟩
        have hlT : l = A ++ (T ++ l.drop (stepE l)) := by
          have h1 := tok_whole l p
          rw [hTe, hA] at h1
          rw [← List.append_assoc, h1, List.take_append_drop]
        have hAl : A.length = sk false l := by rw [← hA]; exact hlead
        have hdr : l.drop (sk false l) = T ++ l.drop (stepE l) := by
          rw [← hAl]
          conv => lhs; rw [hlT]
          exact List.drop_left
        have hfe : firstE (T ++ l.drop (stepE l)) = ((tokE l p).kind, T.length) := by
          have h3 : T = (l.drop (sk false l)).take (firstE (l.drop (sk false l))).2 := hTe.symm
          have h4 := firstE_le (l.drop (sk false l))
          have h5 : T.length = (firstE (l.drop (sk false l))).2 := by rw [h3, List.length_take]; omega
          rw [← hdr, h5]; rfl
        rw [hTe] at hT hw
        have hfe' := first_next hT hfe hnx
        have hje : joinE J i (tokE l p :: L) = J i ++ (A ++ (T ++ joinE J (i + 1) L)) := by rw [joinE, hTe, hA]
        rw [hje] at hf' ⊢
        obtain ⟨b, T', rfl⟩ : ∃ b T', T = b :: T' := by
          cases T with
          | nil => exact absurd rfl hT
          | cons b T' => exact ⟨b, T', rfl⟩
        have hsk0 : sk false (A ++ ((b :: T') ++ l.drop (stepE l))) = A.length := by rw [← hlT, hAl]
        have hsk1 : sk false (A ++ ((b :: T') ++ joinE J (i + 1) L)) = A.length := by
          refine sk_next A false b (T' ++ l.drop (stepE l)) (T' ++ joinE J (i + 1) L) (fun _ h45 => ?_) hsk0
          by_cases hT' : T' = []
          · subst hT'
            rw [List.nil_append] at h45 ⊢
            rcases hnx with e | ⟨c, hc, hbl⟩
            · rw [← e]; exact h45
            · rw [hc] at h45; injection h45 with h45
              exact absurd h45 (bl_not hbl).2.2.1
          · rw [head_app (B := joinE J (i + 1) L) hT']; exact h45
        obtain ⟨t, ht⟩ : ∃ t, J i ++ (A ++ ((b :: T') ++ joinE J (i + 1) L)) = t := ⟨_, rfl⟩
        have hskt : sk false t = (J i).length + A.length := by rw [← ht, (hJ i).1, hsk1]
        have hdt : t.drop (sk false t) = (b :: T') ++ joinE J (i + 1) L := by
          rw [hskt, ← ht, ← List.append_assoc, List.drop_left' (by rw [List.length_append])]
        have hk' : (tokE t p').kind = (tokE l p).kind := by
          show (firstE (t.drop (sk false t))).1 = _
          rw [hdt, hfe']
        have hx' : (tokE t p').text = b :: T' := by
          show (t.drop (sk false t)).take (firstE (t.drop (sk false t))).2 = _
          rw [hdt, hfe']
          exact List.take_left
        have hst : stepE t = (J i).length + A.length + (b :: T').length := by
          unfold stepE; rw [hdt, hfe', hskt]
        have hrt : t.drop (stepE t) = joinE J (i + 1) L := by
          rw [hst, ← ht, ← List.append_assoc, ← List.append_assoc, List.drop_left' (by simp only [List.length_append])]
        have hw' : wrongE (tokE t p').kind (tokE t p').text = 0 := by rw [hk', hx']; exact hw
        rw [ht] at hf' ⊢
        rw [lexG_more hw' (by rw [hk']; exact h5), hrt]
        have hstl : stepE l = A.length + (b :: T').length := by
          unfold stepE; rw [hdr, hfe, hAl]
        have hlen2 : (joinE J (i + 1) L).length < f' := by
          rw [← hrt, List.length_drop]
          have := stepE_le t
          have h9 : 0 < stepE t := by rw [hst, List.length_cons]; omega
          omega
        obtain ⟨i1, i2⟩ := ih (p' + stepE t) f' (by rw [hst, hstl]; omega) hlen2
        refine ⟨i1, hk'.symm, by rw [hTe, hx'], ?_, i2⟩
        show p + sk false l ≤ p' + sk false t
        rw [hskt, ← hAl]; omega
    · rw [lexG_fault hw] at h0
      exact absurd h0 hw

theorem join_all {J : Nat → List UInt8} (hJ : ∀ i, Closed (J i)) {l : List UInt8} (h : (allE l).2.1 = 0) : (allE (joinE J 0 (allE l).1)).2.1 = 0 ∧ SameE (allE l).1 (allE (joinE J 0 (allE l).1)).1 :=
  join_lexG J hJ (l.length + 1) l 0 0 ((joinE J 0 (allE l).1).length + 1) 0 (by omega) h (Nat.le_refl _) (by unfold allE; omega)

def insE (r : Int) : List UInt8 := if r = 1 then [32, 9, 13, 10] else if r = 2 then [10, 45, 45, 108, 101, 116, 32, 39, 120, 10] else if r = 3 then [32, 45, 45, 32, 45, 45, 32, 40, 32, 10, 45, 45, 10] else []

theorem insE_closed (r : Int) : Closed (insE r) := by
  unfold insE
  split
  · exact ⟨fun x => by simp [sk, isBl]; omega, fun b hb => by simp at hb; subst hb; rfl⟩
  · split
    · exact ⟨fun x => by simp [sk, isBl]; omega, fun b hb => by simp at hb; subst hb; rfl⟩
    · split
      · exact ⟨fun x => by simp [sk, isBl]; omega, fun b hb => by simp at hb; subst hb; rfl⟩
      · exact ⟨fun x => by simp, fun b hb => by simp at hb⟩

theorem insE_len (r : Int) : (insE r).length ≤ 13 := by
  unfold insE
  split
  · simp
  · split
    · simp
    · split <;> simp

theorem joinE_len (J : Nat → List UInt8) (hJ : ∀ i, (J i).length ≤ 13) : ∀ (L : List Tok) (i : Nat), (joinE J i L).length ≤ (wholeL L).length + 13 * L.length
  | [], i => by simp [joinE]
  | t :: L, i => by
    have h1 := joinE_len J hJ L (i + 1)
    have h2 := hJ i
    rw [joinE, wholeL_cons]; simp only [List.length_append, List.length_cons]; omega
end Go.Proofs.YtohdpodnfgdnbaaDoor
