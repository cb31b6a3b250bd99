/- Programs, as the document has them; the trees that the parser makes of programs have the form that they ask for. -/
import Derived.Test.YtoahgeleenpnjaaGreatDoorE5
import Derived.Test.YtoahgeleenpnjaaGreatDoorE9
set_option linter.unusedVariables false
set_option linter.unusedSimpArgs false
namespace Go.Proofs.YtoahgeleenpnjaaGreatDoor

/-- A parameter, or a result: its name, base, clause (none or one), place, and the place behind its base, or -1. -/
structure Fx where
  nm : List UInt8
  base : Nat
  cl : List Ex
  ps : Nat
  bare : Int
/-- A definition: its parameters, its result (with its own name and place), its body. -/
structure Dx where
  pub : Bool
  ps : List Fx
  res : Fx
  body : Ex
structure Px where
  imps : List (List UInt8 × Nat)
  defs : List Dx

def intT : List UInt8 := [105, 110, 116]
def boolT : List UInt8 := [98, 111, 111, 108]
def pubT : List UInt8 := [112, 117, 98]
def baseN (t : List UInt8) : Nat := if t = intT then 1 else 2
def headL (T : List Tok) (l : List Tr) : Tok := tkT T ((ownL l).getD 0 T.length)
/-- What one kid tells of a parameter, or of a result. -/
def stepF (T : List Tok) (f : Fx) : Tr → Fx
  | .lf i => if (tkT T i).kind = 1 then { f with nm := (tkT T i).text, ps := (tkT T i).pos } else f
  | .nd k l => if k = 5 then { f with base := baseN (headL T l).text, bare := ((headL T l).pos + (headL T l).text.length : Nat) } else if k = 6 then { f with cl := [(axTs T l).headD nilE], bare := -1 } else f
def fieldX (T : List Tok) (l : List Tr) : Fx := l.foldl (stepF T) ⟨[], 0, [], 0, 0⟩
def kidsT : Tr → List Tr
  | .lf _ => []
  | .nd _ l => l
def kindT' : Tr → Nat
  | .lf _ => 19
  | .nd k _ => k
def paramsX (T : List Tok) (l : List Tr) : List Fx := (l.filter (fun t => kindT' t == 4)).map (fun t => fieldX T (kidsT t))
def defX (T : List Tok) (l : List Tr) : Dx := ⟨decide ((headL T l).text = pubT), paramsX T l, fieldX T l, axT T (l.getD (l.length - 2) (.lf 0))⟩
def impX (T : List Tok) (l : List Tr) : List UInt8 × Nat := ((tkT T ((ownL l).getD 1 T.length)).text, (tkT T ((ownL l).getD 1 T.length)).pos)
def progX (T : List Tok) (l : List Tr) : Px := ⟨(l.filter (fun t => kindT' t == 2)).map (fun t => impX T (kidsT t)), (l.filter (fun t => kindT' t == 3)).map (fun t => defX T (kidsT t))⟩

/-! ### The forms -/

inductive ShC (T : List Tok) : List Tr → Prop where
  | no : ShC T []
  | yes (i j : Nat) (e : Tr) : isN e = true → WE T e → ShC T [.nd 6 [.lf i, e, .lf j]]
inductive ShT (T : List Tok) : List Tr → Prop where
  | mk (c b : Nat) (cl : List Tr) : (tkT T c).kind ≠ 1 → (tkT T b).text = intT ∨ (tkT T b).text = boolT → ShC T cl → ShT T (.lf c :: .nd 5 [.lf b] :: cl)
inductive ShP (T : List Tok) : Tr → Prop where
  | mk (n : Nat) (l : List Tr) : (tkT T n).kind = 1 → ShT T l → ShP T (.nd 4 (.lf n :: l))
inductive ShPs (T : List Tok) : List Tr → Prop where
  | one (p : Tr) : ShP T p → ShPs T [p]
  | more (l : List Tr) (c : Nat) (p : Tr) : ShPs T l → (tkT T c).kind ≠ 1 → ShP T p → ShPs T (l ++ [.lf c] ++ [p])
inductive ShD (T : List Tok) : Tr → Prop where
  | mk (pb : List Tr) (f n o : Nat) (ps : List Tr) (c : Nat) (tl : List Tr) (q : Nat) (body : Tr) (m : Nat) : (pb = [] ∨ ∃ p, pb = [.lf p] ∧ (tkT T p).text = pubT ∧ (tkT T p).kind ≠ 1) → (tkT T f).text = [102, 117, 110] → (tkT T f).kind ≠ 1 → (tkT T n).kind = 1 → (tkT T o).kind ≠ 1 → (ps = [] ∨ ShPs T ps) → (tkT T c).kind ≠ 1 → ShT T tl → (tkT T q).kind ≠ 1 → isN body = true → WE T body → (tkT T m).kind ≠ 1 →
      ShD T (.nd 3 (pb ++ [.lf f, .lf n, .lf o] ++ ps ++ [.lf c] ++ tl ++ [.lf q] ++ [body] ++ [.lf m]))
inductive ShI (T : List Tok) : Tr → Prop where
  | mk (i n m : Nat) : (tkT T n).kind = 1 → ShI T (.nd 2 [.lf i, .lf n, .lf m])
/-- Imports, definitions, the end. -/
def ShProg (T : List Tok) (l : List Tr) : Prop := ∃ is ds e, l = is ++ ds ++ [.lf e] ∧ (∀ t ∈ is, ShI T t) ∧ (∀ t ∈ ds, ShD T t)

section
variable (T : List Tok)
theorem must_k {w : List UInt8} {s : St} (h : (mustT T w s).2.e = 0) : ∃ i, (mustT T w s).1 = [.lf i] ∧ (tkT T i).text = w ∧ (tkT T i).kind ≠ 1 ∧ s.e = 0 := by
  obtain ⟨h1, h2, h3, h4⟩ := must_w T h
  exact ⟨_, h1, h2, by omega, h4⟩
theorem is_k {w : List UInt8} {s : St} (h : isQ T w s = true) : (leafT T s).1 = [.lf s.i] ∧ (tkT T s.i).text = w ∧ (tkT T s.i).kind ≠ 1 ∧ s.e = 0 := by
  obtain ⟨h1, h2, h3⟩ := is_w T h
  exact ⟨rfl, h1, by omega, h3⟩
variable {et : St → RT} (hx : ∀ s, WO T (et s)) (hk : ∀ s, Keep s (et s))
theorem typB_w {a : RT} (h : (typBT T a).2.e = 0) : ∃ b, (typBT T a).1 = a.1 ++ [.nd 5 [.lf b]] ∧ ((tkT T b).text = intT ∨ (tkT T b).text = boolT) ∧ a.2.e = 0 := by
  unfold typBT at h ⊢
  split
  · rename_i hc
    rcases hc with hc | hc
    · exact ⟨a.2.i, rfl, .inl (is_w T hc).1, (is_w T hc).2.2⟩
    · exact ⟨a.2.i, rfl, .inr (is_w T hc).1, (is_w T hc).2.2⟩
  · rename_i hc
    rw [if_neg hc] at h
    exact absurd h (fail_e T (by decide) _)
include hx
theorem typed_w {s : St} (h : (typedT T et s).2.e = 0) : ShT T (typedT T et s).1 ∧ s.e = 0 := by
  unfold typedT at h ⊢
  have key : ∀ b : RT, (typCT T et b).2.e = 0 → ∃ cl, (typCT T et b).1 = b.1 ++ cl ∧ ShC T cl ∧ b.2.e = 0 := fun b hb => by
    unfold typCT at hb ⊢
    split
    · rename_i hc
      rw [if_pos hc] at hb
      obtain ⟨j, hj, -, -, he⟩ := must_k T hb
      have he : (et (setIn true (leafT T b.2).2)).2.e = 0 := he
      obtain ⟨u, hu, hu1, hu2⟩ := hx _ he
      simp only []
      rw [hj, hu]
      exact ⟨_, rfl, ShC.yes _ _ u hu1 hu2, (is_w T hc).2.2⟩
    · rename_i hc
      rw [if_neg hc] at hb
      exact ⟨[], by simp, ShC.no, hb⟩
  obtain ⟨cl, h1, h2, h3⟩ := key _ h
  obtain ⟨b, h4, h5, h6⟩ := typB_w T h3
  obtain ⟨c, h7, -, h8, h9⟩ := must_k T h6
  rw [h1, h4, h7]
  exact ⟨ShT.mk c b cl h8 h5 h2, h9⟩
theorem par_w {s : St} (h : (parT T et s).2.e = 0) : (∃ p, (parT T et s).1 = [p] ∧ ShP T p) ∧ s.e = 0 := by
  unfold parT at h ⊢
  obtain ⟨h1, h2⟩ := typed_w T hx h
  obtain ⟨h3, h4, h5⟩ := kind_w T h2
  simp only []
  rw [h3]
  exact ⟨⟨_, rfl, ShP.mk _ _ h4 h1⟩, h5⟩
theorem parts_p : ∀ f k r, (r.2.e = 0 → ShPs T r.1) → (partsT T (parT T et) f k r).2.e = 0 → ShPs T (partsT T (parT T et) f k r).1
  | 0, k, r, h, he => h he
  | f + 1, k, r, h, he => by
    unfold partsT at he ⊢
    split
    · rename_i hcc
      rw [if_pos hcc] at he
      refine parts_p f _ _ (fun he => ?_) he
      have he : (parT T et (if k = 8 then failQ T 15 (leafT T r.2).2 else (leafT T r.2).2)).2.e = 0 := he
      obtain ⟨⟨p, hp, hp2⟩, -⟩ := par_w T hx he
      show ShPs T (r.1 ++ (leafT T r.2).1 ++ (parT T et (if k = 8 then failQ T 15 (leafT T r.2).2 else (leafT T r.2).2)).1)
      rw [hp, leaf_1]
      exact ShPs.more _ _ _ (h (is_w T hcc).2.2) (is_k T hcc).2.2.1 hp2
    · rename_i hcc
      rw [if_neg hcc] at he
      exact h he
theorem params_w {s : St} (h : (paramsT T et s).2.e = 0) : ShPs T (paramsT T et s).1 := by
  unfold paramsT at h ⊢
  refine parts_p T hx _ _ _ (fun he => ?_) h
  obtain ⟨⟨p, hp, hp2⟩, -⟩ := par_w T hx he
  rw [hp]; exact ShPs.one p hp2
omit hx in
theorem defB_w {p : RT} (h : (defBT T p).2.e = 0) : ∃ f n o, (defBT T p).1 = p.1 ++ [.lf f, .lf n, .lf o] ∧ (tkT T f).text = [102, 117, 110] ∧ (tkT T f).kind ≠ 1 ∧ (tkT T n).kind = 1 ∧ (tkT T o).kind ≠ 1 ∧ p.2.e = 0 := by
  unfold defBT at h ⊢
  simp only [] at h ⊢
  obtain ⟨o, ho, -, hok, e7⟩ := must_k T h
  obtain ⟨hn, hnk, e8⟩ := kind_w T e7
  obtain ⟨f, hf, hft, hfk, e9⟩ := must_k T e8
  rw [ho, hn, hf]
  exact ⟨f, _, o, rfl, hft, hfk, hnk, hok, e9⟩
theorem defC_w {o : RT} (h : (defCT T et o).2.e = 0) : ∃ ps, (defCT T et o).1 = o.1 ++ ps ∧ (ps = [] ∨ ShPs T ps) ∧ o.2.e = 0 := by
  unfold defCT at h ⊢
  split
  · rename_i hcc
    rw [if_pos hcc] at h
    exact ⟨_, rfl, .inr (params_w T hx h), hcc.1⟩
  · rename_i hcc
    rw [if_neg hcc] at h
    exact ⟨[], by simp, .inl rfl, h⟩
include hk
theorem defD_w {r : RT} (h : (defDT T et r).2.e = 0) : ∃ c tl q u m, (defDT T et r).1 = r.1 ++ [.lf c] ++ tl ++ [.lf q] ++ [u] ++ [.lf m] ∧ (tkT T c).kind ≠ 1 ∧ ShT T tl ∧ (tkT T q).kind ≠ 1 ∧ isN u = true ∧ WE T u ∧ (tkT T m).kind ≠ 1 ∧ r.2.e = 0 := by
  unfold defDT at h ⊢
  simp only [] at h ⊢
  obtain ⟨m, hm, -, hmk, e1⟩ := must_k T h
  obtain ⟨u, hu, hu1, hu2⟩ := hx _ e1
  have e2 := alive (hk _) e1
  obtain ⟨q, hq, -, hqk, e3⟩ := must_k T e2
  obtain ⟨ht, e4⟩ := typed_w T hx e3
  obtain ⟨c, hc, -, hck, e5⟩ := must_k T e4
  rw [hm, hu, hq, hc]
  exact ⟨c, _, q, u, m, by simp only [List.append_assoc], hck, ht, hqk, hu1, hu2, hmk, e5⟩
theorem def_w {s : St} (h : (defT T et s).2.e = 0) : ∃ d, (defT T et s).1 = [d] ∧ ShD T d := by
  unfold defT at h ⊢
  simp only [] at h ⊢
  obtain ⟨c, tl, q, u, m, h1, hck, ht, hqk, hu1, hu2, hmk, e1⟩ := defD_w T hx hk h
  obtain ⟨ps, hps, hpw, e2⟩ := defC_w T hx e1
  obtain ⟨f, n, o, hB, hft, hfk, hnk, hok, e3⟩ := defB_w T e2
  obtain ⟨pb, hpb, hpw2⟩ : ∃ pb, (defAT T s).1 = pb ∧ (pb = [] ∨ ∃ p, pb = [.lf p] ∧ (tkT T p).text = pubT ∧ (tkT T p).kind ≠ 1) := by
    unfold defAT
    split
    · rename_i hcc
      exact ⟨_, rfl, .inr ⟨_, (is_k T hcc).1, (is_k T hcc).2.1, (is_k T hcc).2.2.1⟩⟩
    · exact ⟨[], rfl, .inl rfl⟩
  rw [h1, hps, hB, hpb]
  exact ⟨_, rfl, ShD.mk pb f n o ps c tl q u m hpw2 hft hfk hnk hok hpw hck ht hqk hu1 hu2 hmk⟩
omit hx hk
theorem many_all {c : St → Bool} {step : RT → RT} {most : Nat} {Q : Tr → Prop} (hs : ∀ r, c r.2 = true → (step r).2.e = 0 → ∃ t, (step r).1 = r.1 ++ [t] ∧ Q t ∧ r.2.e = 0) :
    ∀ f k (r : RT), (manyT T c step most f k r).1 = true → (manyT T c step most f k r).2.2.e = 0 → ∃ l, (manyT T c step most f k r).2.1 = r.1 ++ l ∧ (∀ t ∈ l, Q t) ∧ r.2.e = 0
  | 0, k, r, _, he => ⟨[], by simp [manyT], fun t ht => by simp at ht, he⟩
  | f + 1, k, r, h1, he => by
    unfold manyT at h1 he ⊢
    split
    · rename_i hc
      rw [if_pos hc] at h1 he
      split
      · rename_i hk
        rw [if_pos hk] at h1; cases h1
      · rename_i hk
        rw [if_neg hk] at h1 he
        obtain ⟨l, h2, h3, h4⟩ := many_all hs f _ _ h1 he
        obtain ⟨t, h5, h6, h7⟩ := hs r hc h4
        refine ⟨t :: l, by rw [h2, h5]; simp, fun u hu => ?_, h7⟩
        rcases List.mem_cons.1 hu with rfl | hu
        · exact h6
        · exact h3 u hu
    · rename_i hc
      rw [if_neg hc] at h1 he
      exact ⟨[], by simp, fun t ht => by simp at ht, he⟩
end
theorem prog_w {T : List Tok} (hT : NumTok T) {D : Nat} (he : (treeT T D false).2.e = 0) : ShProg T (treeT T D false).1 := by
  have hw := nx_w T hT D D (Nat.le_refl _)
  have hk := nx_keep T D D
  have e0 : treeT T D false = programT T (nxT T D D).expr startQ := rfl
  rw [e0] at he ⊢
  unfold programT at he ⊢
  by_cases h1 : (importsT T ([], startQ)).1 = false
  · rw [if_pos h1] at he
    exact absurd he (many_bad T _ _ _ h1)
  · have h1' : (importsT T ([], startQ)).1 = true := by simpa using h1
    rw [if_neg h1] at he ⊢
    by_cases h2 : (defsT T (nxT T D D).expr (importsT T ([], startQ)).2).1 = false
    · rw [if_pos h2] at he
      exact absurd he (many_bad T _ _ _ h2)
    · have h2' : (defsT T (nxT T D D).expr (importsT T ([], startQ)).2).1 = true := by simpa using h2
      rw [if_neg h2] at he ⊢
      obtain ⟨k1, -, e1⟩ := kind_w T he
      obtain ⟨ds, hd, hd2, e2⟩ := many_all T (Q := ShD T) (fun r hc hs => by
        obtain ⟨d, hd, hd2⟩ := def_w T hw.expr hk.expr (s := r.2) hs
        refine ⟨d, ?_, hd2, ?_⟩
        · show r.1 ++ (defT T (nxT T D D).expr r.2).1 = _
          rw [hd]
        · unfold isDef at hc
          rcases Bool.or_eq_true_iff.1 hc with hc | hc <;> exact (is_w T hc).2.2) _ _ _ h2' e1
      obtain ⟨is, hi, hi2, -⟩ := many_all T (Q := ShI T) (fun r hc hs => by
        unfold impStepT at hs ⊢
        simp only [] at hs ⊢
        obtain ⟨m, hm, -, -, e3⟩ := must_k T hs
        obtain ⟨hn, hnk, e4⟩ := kind_w T e3
        refine ⟨_, ?_, ShI.mk r.2.i _ m hnk, (is_w T hc).2.2⟩
        rw [hm, hn, leaf_1]; rfl) _ _ _ h1' e2
      have hd' : (defsT T (nxT T D D).expr (importsT T ([], startQ)).2).2.1 = (importsT T ([], startQ)).2.1 ++ ds := hd
      have hi' : (importsT T ([], startQ)).2.1 = [] ++ is := hi
      refine ⟨is, ds, (defsT T (nxT T D D).expr (importsT T ([], startQ)).2).2.2.i, ?_, hi2, hd2⟩
      show (defsT T (nxT T D D).expr (importsT T ([], startQ)).2).2.1 ++ (kindT T 5 (defsT T (nxT T D D).expr (importsT T ([], startQ)).2).2.2).1 = _
      rw [k1, hd', hi']; rfl
end Go.Proofs.YtoahgeleenpnjaaGreatDoor
