/- Lemmas. -/
import Derived.Test.YtddccnpohpaofaaGreatDoorP28
set_option linter.unusedVariables false
set_option linter.unusedSimpArgs false
namespace Go.Proofs.YtddccnpohpaofaaGreatDoor

mutual
def kOk : Tr → Prop
  | .lf _ => True
  | .nd k l => 1 ≤ k ∧ k ≤ 18 ∧ kOks l
def kOks : List Tr → Prop
  | [] => True
  | t :: l => kOk t ∧ kOks l
end
theorem kOks_append {a b : List Tr} (h1 : kOks a) (h2 : kOks b) : kOks (a ++ b) := by
  induction a with
  | nil => exact h2
  | cons t a ih => simp only [List.cons_append, kOks] at h1 ⊢; exact ⟨h1.1, ih h1.2⟩
theorem kOks_nd {k : Nat} {l : List Tr} (h1 : 1 ≤ k) (h2 : k ≤ 18) (h : kOks l) : kOks [.nd k l] := by simp only [kOks, kOk]; exact ⟨⟨h1, h2, h⟩, trivial⟩
theorem kOks_nil : kOks [] := by simp [kOks]
abbrev KO (r : RT) : Prop := kOks r.1
section
variable (T : List Tok)
theorem leaf_ko (s : St) : KO (leafT T s) := by simp [KO, leafT, kOks, kOk]
theorem must_ko (w : List UInt8) (s : St) : KO (mustT T w s) := by unfold mustT; split; exact leaf_ko T s; exact kOks_nil
theorem kind_ko (k : Nat) (s : St) : KO (kindT T k s) := by unfold kindT; split; exact leaf_ko T s; exact kOks_nil
theorem row_ko {c : St → Bool} {sub : St → RT} (hs : ∀ s, KO (sub s)) : ∀ f r, KO r → KO (rwT T c sub f r)
  | 0, r, h => h
  | f + 1, r, h => by
    unfold rwT
    split
    · exact row_ko hs f _ (kOks_nd (by decide) (by decide) (kOks_append (kOks_append h (leaf_ko T _)) (hs _)))
    · exact h
theorem parts_ko {sub : St → RT} (hs : ∀ s, KO (sub s)) : ∀ f k r, KO r → KO (partsT T sub f k r)
  | 0, k, r, h => h
  | f + 1, k, r, h => by
    unfold partsT
    split
    · exact parts_ko hs f _ _ (kOks_append (kOks_append h (leaf_ko T _)) (hs _))
    · exact h
structure NxO (nt : NxT) : Prop where
  expr : ∀ s, KO (nt.expr s)
  formula : ∀ s, KO (nt.formula s)
  nots : ∀ s, KO (nt.nots s)
  factor : ∀ s, KO (nt.factor s)
end
section
variable (T : List Tok) (D n : Nat) {nt : NxT} (h : NxO nt)
include h
theorem args_ko (s : St) : KO (argsT T nt s) := parts_ko T h.expr _ _ _ (h.expr s)
omit h in
theorem nameB_ko {a : RT} (ha : KO a) : KO (nameBT T a) := by
  unfold nameBT; split
  · exact kOks_append (kOks_append ha (leaf_ko T _)) (kind_ko T _ _)
  · exact ha
omit h in
theorem nameC_ko {a : RT} (ha : KO a) : KO (nameCT T a) := kOks_append ha (must_ko T _ _)
theorem nameD_ko {a : RT} (ha : KO a) : KO (nameDT T nt a) := by
  unfold nameDT; split
  · exact ha
  · exact kOks_append ha (args_ko T h _)
omit h in
theorem nameE_ko {a : RT} (ha : KO a) : KO (nameET T a) := kOks_nd (by decide) (by decide) (kOks_append ha (must_ko T _ _))
theorem name_ko (s : St) : KO (nameT T nt s) := by
  unfold nameT; split
  · exact kOks_nd (by decide) (by decide) (leaf_ko T _)
  · exact nameE_ko T (nameD_ko T h (nameC_ko T (nameB_ko T (leaf_ko T _))))
theorem atom_ko (s : St) : KO (atomT T nt s) := by
  unfold atomT
  split
  · exact kOks_nil
  split
  · exact kOks_nd (by decide) (by decide) (leaf_ko T _)
  split
  · exact kOks_nd (by decide) (by decide) (leaf_ko T _)
  split
  · exact kOks_nd (by decide) (by decide) (leaf_ko T _)
  split
  · exact kOks_nd (by decide) (by decide) (kOks_append (kOks_append (leaf_ko T _) (h.expr _)) (must_ko T _ _))
  split
  · exact name_ko T h s
  · exact kOks_nil
omit h in
theorem sign_ko {sub : St → RT} (hs : ∀ s, KO (sub s)) (s : St) : KO (signT T D n sub s) := by
  unfold signT
  simp only []
  split
  · exact kOks_nil
  · exact kOks_nd (by decide) (by decide) (kOks_append (leaf_ko T _) (hs _))
theorem factor_ko (s : St) : KO (factorT T D n nt s) := by
  unfold factorT; split
  · exact sign_ko T D n h.factor s
  · exact atom_ko T h s
theorem product_ko (s : St) : KO (productT T D n nt s) := row_ko T (factor_ko T D n h) _ _ (factor_ko T D n h s)
theorem sum_ko (s : St) : KO (sumT T D n nt s) := row_ko T (product_ko T D n h) _ _ (product_ko T D n h s)
theorem not_ko (s : St) : KO (notT T D n nt s) := by
  unfold notT
  simp only []
  split
  · exact sign_ko T D n h.nots s
  split
  · exact kOks_nd (by decide) (by decide) (kOks_append (kOks_append (sum_ko T D n h s) (leaf_ko T _)) (sum_ko T D n h _))
  · exact sum_ko T D n h s
theorem and_ko (s : St) : KO (andT T D n nt s) := row_ko T (not_ko T D n h) _ _ (not_ko T D n h s)
theorem or_ko (s : St) : KO (orT T D n nt s) := row_ko T (and_ko T D n h) _ _ (and_ko T D n h s)
theorem formula_ko (s : St) : KO (formulaT T D n nt s) := by
  unfold formulaT
  simp only []
  split
  · split
    · exact kOks_nil
    · exact kOks_nd (by decide) (by decide) (kOks_append (kOks_append (or_ko T D n h s) (leaf_ko T _)) (h.formula _))
  · exact or_ko T D n h s
theorem let_ko (s : St) : KO (letT T nt s) :=
  kOks_nd (by decide) (by decide) (kOks_append (kOks_append (kOks_append (kOks_append (kOks_append (leaf_ko T _) (kind_ko T _ _)) (must_ko T _ _)) (h.expr _)) (must_ko T _ _)) (h.expr _))
theorem if_ko (s : St) : KO (ifT T nt s) :=
  kOks_nd (by decide) (by decide) (kOks_append (kOks_append (kOks_append (kOks_append (kOks_append (leaf_ko T _) (h.expr _)) (must_ko T _ _)) (h.expr _)) (must_ko T _ _)) (h.expr _))
theorem assert_ko (s : St) : KO (assertT T nt s) :=
  kOks_nd (by decide) (by decide) (kOks_append (kOks_append (kOks_append (leaf_ko T _) (h.expr _)) (must_ko T _ _)) (h.expr _))
theorem expr_ko (s : St) : KO (exprT T D n nt s) := by
  unfold exprT
  simp only []
  split
  · exact kOks_nil
  split
  · exact let_ko T h _
  split
  · exact if_ko T h _
  split
  · exact assert_ko T h _
  · exact formula_ko T D n h _
end
theorem nx_ko (T : List Tok) (D : Nat) : ∀ d, NxO (nxT T D d)
  | 0 => ⟨fun s => kOks_nil, fun s => kOks_nil, fun s => kOks_nil, fun s => kOks_nil⟩
  | d + 1 => ⟨expr_ko T D _ (nx_ko T D d), formula_ko T D _ (nx_ko T D d), not_ko T D _ (nx_ko T D d), factor_ko T D _ (nx_ko T D d)⟩
section
variable (T : List Tok) {et : St → RT} (h : ∀ s, KO (et s))
include h
omit h in
theorem typB_ko {a : RT} (ha : KO a) : KO (typBT T a) := by
  unfold typBT; split
  · exact kOks_append ha (kOks_nd (by decide) (by decide) (leaf_ko T _))
  · exact ha
theorem typC_ko {a : RT} (ha : KO a) : KO (typCT T et a) := by
  unfold typCT; split
  · exact kOks_append ha (kOks_nd (by decide) (by decide) (kOks_append (kOks_append (leaf_ko T _) (h _)) (must_ko T _ _)))
  · exact ha
theorem typed_ko (s : St) : KO (typedT T et s) := typC_ko T h (typB_ko T (must_ko T _ s))
theorem par_ko (s : St) : KO (parT T et s) := kOks_nd (by decide) (by decide) (kOks_append (kind_ko T _ s) (typed_ko T h _))
theorem params_ko (s : St) : KO (paramsT T et s) := parts_ko T (par_ko T h) _ _ _ (par_ko T h s)
omit h in
theorem defA_ko (s : St) : KO (defAT T s) := by unfold defAT; split; exact leaf_ko T s; exact kOks_nil
omit h in
theorem defB_ko {a : RT} (ha : KO a) : KO (defBT T a) := kOks_append ha (kOks_append (kOks_append (must_ko T _ _) (kind_ko T _ _)) (must_ko T _ _))
theorem defC_ko {a : RT} (ha : KO a) : KO (defCT T et a) := by
  unfold defCT; split
  · exact kOks_append ha (params_ko T h _)
  · exact ha
theorem defD_ko {a : RT} (ha : KO a) : KO (defDT T et a) :=
  kOks_append (kOks_append (kOks_append ha (kOks_append (kOks_append (must_ko T _ _) (typed_ko T h _)) (must_ko T _ _))) (h _)) (must_ko T _ _)
theorem def_ko (s : St) : KO (defT T et s) := kOks_nd (by decide) (by decide) (defD_ko T h (defC_ko T h (defB_ko T (defA_ko T s))))
omit h in
theorem imp_ko {r : RT} (hr : KO r) : KO (impStepT T r) := kOks_append hr (kOks_nd (by decide) (by decide) (kOks_append (kOks_append (leaf_ko T _) (kind_ko T _ _)) (must_ko T _ _)))
omit h in
theorem many_ko {c : St → Bool} {step : RT → RT} {most : Nat} (hs : ∀ r, KO r → KO (step r)) : ∀ f k r, KO r → KO (manyT T c step most f k r).2
  | 0, k, r, hr => hr
  | f + 1, k, r, hr => by
    unfold manyT
    split
    · split
      · exact kOks_nil
      · exact many_ko hs f _ _ (hs r hr)
    · exact hr
theorem program_ko (s : St) : KO (programT T et s) := by
  have h1 : KO (importsT T ([], s)).2 := many_ko T (fun r hr => imp_ko T hr) _ _ _ kOks_nil
  have h2 : KO (defsT T et (importsT T ([], s)).2).2 := many_ko T (fun r hr => kOks_append hr (def_ko T h _)) _ _ _ h1
  unfold programT
  split
  · exact h1
  split
  · exact h2
  · exact kOks_append h2 (kind_ko T _ _)
theorem alone_ko (s : St) : KO (aloneT T et s) := kOks_append (h _) (kind_ko T _ _)
end
theorem tree_ko (T : List Tok) (D : Nat) (f : Bool) : KO (treeT T D f) := by
  unfold treeT
  split
  · exact alone_ko T (nx_ko T D D).expr _
  · exact program_ko T (nx_ko T D D).expr _
end Go.Proofs.YtddccnpohpaofaaGreatDoor
namespace Go.Proofs.YtddccnpohpaofaaGreatDoor.Zd
open Go.RowKit Mx

def minus (l : List UInt8) : Bool := Lib.hasPrefix l [45]
def digs (l : List UInt8) : List UInt8 := Lib.trimPrefix l [45]
/-- The number that digits tell. -/
def valL (l : List UInt8) : Nat := l.foldl (fun a b => 10 * a + (b.toNat - 48)) 0
def parseE (l : List UInt8) : Int := if 60 < (digs l).length then 11 else if plain (digs l) = false ∨ (minus l = true ∧ digs l = [48]) then 10 else 0
def parseV (l : List UInt8) : Int := if parseE l = 0 then sgn (minus l) (valL (digs l)) else 0

def ParsePost (l : List UInt8) (w : World) (e : Ending) (w' : World) : Prop := ∃ x, e = .returned (.tuple #[x, .int .i64 (parseE l)]) ∧ IsInt w' x (parseV l) ∧ w.grownBy w' none ∧ ∀ s p n c, x = .agg #[.bool s, .slice p n c] → 0 < n → ∃ a, p = some a ∧ w.heap.size ≤ a.block

theorem plain_dig {l : List UInt8} (h : plain l = true) (j : Nat) (hj : j < l.length) : 48 ≤ l[j].toNat ∧ l[j].toNat ≤ 57 := by
  unfold plain at h
  rw [Bool.and_eq_true, List.all_eq_true] at h
  exact of_decide_eq_true (h.1 _ (List.getElem_mem hj))

theorem valL_take {l : List UInt8} {k : Nat} (hk : k < l.length) : valL (l.take (k + 1)) = 10 * valL (l.take k) + (l[k].toNat - 48) := by
  rw [List.take_add_one, List.getElem?_eq_getElem hk]
  unfold valL
  rw [List.foldl_append]; rfl

theorem cut_c (s : ByteArray) (w : World) : Calls Tryz.prog 29 #[.string s, .string ⟨#[45]⟩] w fun e w' => e = .returned (.tuple #[.string ⟨(digs s.data.toList).toArray⟩, .bool (minus s.data.toList)]) ∧ w' = w :=
  Tryz.strings_CutPrefix s ⟨#[45]⟩ w

theorem zero_int (w : World) : IsInt w (.agg #[.bool false, .slice none 0 0]) 0 :=
  ⟨false, _, 0, rfl, ⟨none, 0, 0, fun _ => 0, rfl, Nat.le_refl _, by omega, .inl rfl, fun j h => by omega, .inl rfl, rfl⟩, by simp, rfl⟩

theorem bad_parse {l : List UInt8} {w : World} {E : Int} (hE : parseE l = E) (h : E ≠ 0) : ParsePost l w (.returned (.tuple #[.agg #[.bool false, .slice none 0 0], .int .i64 E])) (w.alloc (.cells #[.bool false, .slice none 0 0] 27)) :=
  ⟨_, by rw [hE], by unfold parseV; rw [hE, if_neg h]; exact zero_int _, gb_alloc (gb_refl w none) _, fun s p n c h h0 => by simp at h; omega⟩

theorem int_some {w : World} {s : Bool} {p : Option Addr} {n c : Nat} {Z : Int} (h : IsInt w (.agg #[.bool s, .slice p n c]) Z) (hn : 0 < n) : ∃ a, p = some a ∧ a.block < w.heap.size := by
  obtain ⟨s', v, N, he, ⟨p', n', c', f, rfl, _, _, hat, _⟩, _⟩ := h
  simp at he
  obtain ⟨rfl, rfl, rfl, rfl⟩ := he
  rcases hat with h | ⟨g, off, rfl, hg, _⟩
  · omega
  · exact ⟨_, rfl, hg⟩

def SgnPost (p : Option Addr) (Z : Int) (w : World) (e : Ending) (w' : World) : Prop := ∃ s3 p3 n3 c3, e = .returned (.agg #[.bool s3, .slice p3 n3 c3]) ∧ IsInt w' (.agg #[.bool s3, .slice p3 n3 c3]) Z ∧ w.grownBy w' none ∧ (0 < n3 → p3 = p)

theorem sgn_fin {b s : Bool} {p p' : Option Addr} {m cap' : Nat} {Z : Int} {w w' : World} (h : IntPost Z w (.returned (.agg #[.bool (s && b), .slice p' m cap'])) w') (q7 : 0 < m → p' = p) : SgnPost p Z w (.returned (.agg #[.bool (s && b), .slice p' m cap'])) w' := by
  obtain ⟨x, e, h1, h2⟩ := h
  injection e with e
  subst e
  exact ⟨_, _, _, _, rfl, h1, h2, q7⟩

set_option maxHeartbeats 1000000 in
theorem signed_p (s : Bool) (p : Option Addr) (n cap : Nat) (f : Nat → Nat) (w : World) (hn : n ≤ cap) (hc : cap ≤ maxLen) (h : At .u64 w p n f) (hf : ∀ j, j < n → f j < Bw) :
    Calls Tryz.prog 32 #[.bool s, .slice p n cap] w (SgnPost p (sgn s (V Bw f 0 n)) w) := by
  have HT := Lib.hid (fun w1 (hg : w.grownBy w1 none) => trim_c p n cap f w1 hn hc (h.grown hg (by simp)))
  have HH := Lib.hid h; have HF := Lib.hid hf
  clear h hf
  cases s
  · go_enter Tryz.func32, Tryz.ntmps32
    go_wp2_with (go_at_call 58; refine (HT.out _ ?_).mono ?_; (exact World.grownBy_alloc w _ none); rintro e w1 ⟨m, p', cap', rfl, q1, q2, q3, q4, q5, q6, q7, rfl⟩; have Q4 := Lib.hid q4; have Q5 := Lib.hid q5; have Q7 := Lib.hid q7; clear q4 q5 q6 q7)
    have hfin := sgn_fin (signed_fin (s := false) q1 q2 (Nat.le_trans q3 hc) HH.out HF.out Q4.out Q5.out Q7.out) Q7.out
    have HFIN := Lib.hid hfin
    clear hfin
    exact bodyPost_ret (v := .agg #[.bool (false && decide (0 < m)), .slice p' m cap']) (by simp [results, Tryz.results32, go_sem]) rfl HFIN.out
  · go_enter Tryz.func32, Tryz.ntmps32
    go_wp2_with (go_at_call 58; refine (HT.out _ ?_).mono ?_; (exact World.grownBy_alloc w _ none); rintro e w1 ⟨m, p', cap', rfl, q1, q2, q3, q4, q5, q6, q7, rfl⟩; have Q4 := Lib.hid q4; have Q5 := Lib.hid q5; have Q7 := Lib.hid q7; clear q4 q5 q6 q7)
    have hfin := sgn_fin (signed_fin (s := true) q1 q2 (Nat.le_trans q3 hc) HH.out HF.out Q4.out Q5.out Q7.out) Q7.out
    have HFIN := Lib.hid hfin
    clear hfin
    exact bodyPost_ret (v := .agg #[.bool (true && decide (0 < m)), .slice p' m cap']) (by simp [results, Tryz.results32, go_sem]) rfl HFIN.out

/-- What lies behind the rounds. -/
def PRel (l : List UInt8) (w : World) (k : Nat) (v : Value) (wr : World) : Prop :=
  ∃ (mm : Nat) (f : Nat → Nat), mm ≤ k ∧ Own .u64 86 wr (w.heap.size + 1) v mm f ∧ (∀ j, j < mm → f j < Bw) ∧ V Bw f 0 mm = valL (l.take k) ∧ Below (w.heap.size + 1) (w.alloc (.cells #[.bool false, .slice none 0 0] 27)) wr

set_option maxHeartbeats 2000000 in
theorem Parse_c (s : ByteArray) (w : World) : Calls Tryz.prog 12 #[.string s] w (ParsePost s.data.toList w) := by
  obtain ⟨d, hd⟩ : ∃ d : ByteArray, d = ⟨(digs s.data.toList).toArray⟩ := ⟨_, rfl⟩
  have hdl : d.data.toList = digs s.data.toList := by rw [hd]
  have hds : d.size = (digs s.data.toList).length := by rw [← hdl]; exact (Array.length_toList).symm
  obtain ⟨m, hm⟩ : ∃ m, minus s.data.toList = m := ⟨_, rfl⟩
  obtain ⟨n, hn⟩ : ∃ n, (digs s.data.toList).length = n := ⟨_, rfl⟩
  rw [hn] at hds
  have HD := Lib.hid hdl; have HM := Lib.hid hm; have HNN := Lib.hid hn
  have hcut : ∀ w, Calls Tryz.prog 29 #[.string s, .string ⟨#[45]⟩] w fun e w' => e = .returned (.tuple #[.string d, .bool m]) ∧ w' = w := by
    intro w; rw [hd, ← hm]; exact cut_c s w
  have HCUT := Lib.hid hcut
  clear hcut hd hdl hm hn
  by_cases h60 : 60 < n
  · have d1 : decide ((60 : Int) < n) = true := decide_eq_true (by omega)
    have hE : parseE s.data.toList = 11 := by unfold parseE; rw [HNN.out, if_pos h60]
    have HE := Lib.hid hE
    clear hE
    go_enter Tryz.func12, Tryz.ntmps12
    go_wp2_with (go_at_call 29; refine (HCUT.out _).mono ?_; rintro e w1 ⟨rfl, rfl⟩)
    exact bodyPost_ret (v := .tuple #[.agg #[.bool false, .slice none 0 0], .int .i64 11]) (by simp [results, Tryz.results12, go_sem]) rfl (bad_parse HE.out (by decide))
  · have d1 : decide ((60 : Int) < n) = false := decide_eq_false (by omega)
    obtain ⟨pb, hpb⟩ : ∃ pb, plain (digs s.data.toList) = pb := ⟨_, rfl⟩
    have HPB := Lib.hid hpb
    have hpl : ∀ w, Calls Tryz.prog 30 #[.string d] w (fun e w' => e = .returned (.bool pb) ∧ w' = w) := by
      intro w
      have := plain_c d w (by rw [HD.out, HNN.out]; omega)
      rwa [HD.out, hpb] at this
    have HPL := Lib.hid hpl
    have hE : parseE s.data.toList = if pb = false ∨ (m = true ∧ digs s.data.toList = [48]) then 10 else 0 := by unfold parseE; rw [HNN.out, if_neg h60, hpb, HM.out]
    have HE := Lib.hid hE
    clear hE hpl hpb
    cases pb
    · have hE : parseE s.data.toList = 10 := by rw [HE.out, if_pos (.inl rfl)]
      have HE := Lib.hid hE
      clear hE
      go_enter Tryz.func12, Tryz.ntmps12
      go_wp2_with (first
        | (go_at_call 29; refine (HCUT.out _).mono ?_; rintro e w1 ⟨rfl, rfl⟩)
        | (go_at_call 30; refine (HPL.out _).mono ?_; rintro e w1 ⟨rfl, rfl⟩))
      exact bodyPost_ret (v := .tuple #[.agg #[.bool false, .slice none 0 0], .int .i64 10]) (by simp [results, Tryz.results12, go_sem]) rfl (bad_parse HE.out (by decide))
    · by_cases h0 : m = true ∧ digs s.data.toList = [48]
      · obtain ⟨h01, h0⟩ := h0
        have hE : parseE s.data.toList = 10 := by rw [HE.out, if_pos (.inr ⟨h01, h0⟩)]
        subst h01
        have HE2 := Lib.hid hE
        have c1 : (d.toList == [48]) = true := by rw [toList_data, HD.out, h0]; rfl
        clear hE h0 HE
        go_enter Tryz.func12, Tryz.ntmps12
        go_wp2_with (first
          | (go_at_call 29; refine (HCUT.out _).mono ?_; rintro e w1 ⟨rfl, rfl⟩)
          | (go_at_call 30; refine (HPL.out _).mono ?_; rintro e w1 ⟨rfl, rfl⟩))
        exact bodyPost_ret (v := .tuple #[.agg #[.bool false, .slice none 0 0], .int .i64 10]) (by simp [results, Tryz.results12, go_sem]) rfl (bad_parse HE2.out (by decide))
      · have hE : parseE s.data.toList = 0 := by rw [HE.out, if_neg (by rintro (h | h); · cases h
                                                                        · exact h0 h)]
        have HE2 := Lib.hid hE
        have hp1 : plain (digs s.data.toList) = true := HPB.out
        have hdig := plain_dig hp1
        have HDIG := Lib.hid hdig
        have hstart : PRel (digs s.data.toList) w 0 (.slice none 0 0) (w.alloc (.cells #[.bool false, .slice none 0 0] 27)) :=
          ⟨0, fun _ => 0, Nat.le_refl _, ⟨rfl, .inl ⟨rfl, rfl⟩⟩, fun j h => by omega, by simp [V, valL], Below.refl _ _⟩
        have HST := Lib.hid hstart
        clear hE HE hp1 hdig hstart
        cases m
        · clear h0
          go_enter Tryz.func12, Tryz.ntmps12
          go_wp2_with (first
            | (go_at_call 29; refine (HCUT.out _).mono ?_; rintro e w1 ⟨rfl, rfl⟩)
            | (go_at_call 30; refine (HPL.out _).mono ?_; rintro e w1 ⟨rfl, rfl⟩))
          go_loopw [6, 30] (fun v i wr => ∃ k : Nat, k ≤ n ∧ i = .int .i64 k ∧ Hid (PRel (digs s.data.toList) w k v wr)) (fun _ i _ => n - (intOf i).toNat)
          case atStart => exact ⟨0, by omega, rfl, HST⟩
          case round =>
            clear HST
            obtain ⟨k, hk, rfl, HR⟩ := hrel
            by_cases hlt : k < n
            · obtain ⟨mm, f, h1, h2, h3, h4, h5⟩ := HR.out
              have hkl : k < (digs s.data.toList).length := by rw [HNN.out]; exact hlt
              obtain ⟨b, hbv⟩ : ∃ b : Nat, ((digs s.data.toList)[k]'hkl).toNat = b := ⟨_, rfl⟩
              have hix := idx_run d k b (by rw [HD.out]; exact hkl) (by rw [← hbv]; simp only [HD.out])
              have hb := HDIG.out k hkl
              rw [hbv] at hb
              have hv := valL_take hkl
              rw [hbv, ← h4] at hv
              have hsz := h5.size
              have HTP := Lib.hid (timesPlus_c (w.heap.size + 1) u6 mm 10 (b - 48) f wr h2 h3 (by unfold Bw; omega) (by unfold Bw; omega) (by omega) (by simpa using hsz))
              have HV := Lib.hid hv; have HB := Lib.hid h5
              have hb8 : IntKind.u8.wrap ((b : Int) - 48) = ((b - 48 : Nat) : Int) := by rw [IntKind.wrap_u8]; omega
              clear h2 h3 h4 h5 hv hbv hkl hsz
              go_wp2_with (go_at_call 31; refine HTP.out.mono ?_; rintro e w2 ⟨v', m', f', rfl, o1, o2, o3, o4, o5⟩; have O1 := Lib.hid o1; have O3 := Lib.hid o3; have O4 := Lib.hid o4; have O5 := Lib.hid o5; clear o1 o3 o4 o5)
              go_roundw
              case rel => exact ⟨k + 1, by omega, by go_num, m', f', by omega, O1.out, O3.out, by rw [O4.out, HV.out], HB.out.trans O5.out⟩
              case measure => simp [intOf]; omega
            · obtain rfl : k = n := by omega
              obtain ⟨mm, f, h1, h2, h3, h4, h5⟩ := HR.out
              obtain ⟨p, cap, rfl, hmc, hcm, hpa⟩ : ∃ p cap, u6 = .slice p mm cap ∧ mm ≤ cap ∧ cap ≤ maxLen ∧ ∀ a, p = some a → w.heap.size + 1 ≤ a.block := by
                rcases h2.shape with ⟨rfl, rfl⟩ | ⟨g, cap, rfl, hbg, _, hnc, hcm⟩
                · exact ⟨_, _, rfl, by omega, by omega, fun a h => by cases h⟩
                · exact ⟨_, _, rfl, hnc, hcm, fun a h => by cases h; exact hbg⟩
              rw [List.take_of_length_le (by rw [HNN.out]; omega)] at h4
              have HSG := Lib.hid (signed_p false p mm cap f wr hmc hcm h2.at.2 h3)
              have HV := Lib.hid h4; have HB := Lib.hid h5
              clear h2 h3 h4 h5 HR
              go_wp2_with (go_at_call 32; refine HSG.out.mono ?_; rintro e w3 ⟨s3, p3, n3, c3, rfl, hx, hg, hp3⟩; have HX := Lib.hid hx; have HP3 := Lib.hid hp3; clear hp3; have hgg := gb_trans (below_gb (row := none) (a := w.alloc (.cells #[.bool false, .slice none 0 0] 27)) (by simpa using HB.out)) hg; have HG3 := Lib.hid hgg; obtain ⟨hcr3, hfr3⟩ := bcell hgg; have hz3 : w.heap.size < w3.heap.size := (by have := hgg.size; simp at this; omega); clear hx hg hgg)
              have hb := top1 w (.cells #[.bool false, .slice none 0 0] 27)
              obtain ⟨x, e1, e2, e3⟩ := ret_box hb HG3.out HX.out (gb_alloc (gb_refl w none) _) (Nat.le_refl _)
              injection e1 with e1; subst e1
              obtain ⟨rc0, rc1⟩ := ret_cells (s := s3) (p := p3) (n := n3) (c := c3) hb HG3.out
              refine bodyPost_ret (v := .tuple #[.agg #[.bool s3, .slice p3 n3 c3], .int .i64 0]) (by simp [results, Tryz.results12, go_sem, rc0, rc1]) rfl ⟨_, by rw [HE2.out], ?_, e3, ?_⟩
              · unfold parseV
                rw [if_pos HE2.out, HM.out, ← HV.out]; exact e2
              · intro s p' n c h h0
                simp at h
                obtain ⟨rfl, rfl, rfl, rfl⟩ := h
                obtain ⟨a, ha, _⟩ := int_some e2 h0
                refine ⟨a, ha, ?_⟩
                have := hpa a (by rw [← HP3.out h0]; exact ha)
                omega
        · have c1 : (d.toList == [48]) = false := by rw [toList_data, HD.out]; exact beq_eq_false_iff_ne.2 (fun h => h0 ⟨rfl, h⟩)
          clear h0
          go_enter Tryz.func12, Tryz.ntmps12
          go_wp2_with (first
            | (go_at_call 29; refine (HCUT.out _).mono ?_; rintro e w1 ⟨rfl, rfl⟩)
            | (go_at_call 30; refine (HPL.out _).mono ?_; rintro e w1 ⟨rfl, rfl⟩))
          go_loopw [6, 30] (fun v i wr => ∃ k : Nat, k ≤ n ∧ i = .int .i64 k ∧ Hid (PRel (digs s.data.toList) w k v wr)) (fun _ i _ => n - (intOf i).toNat)
          case atStart => exact ⟨0, by omega, rfl, HST⟩
          case round =>
            clear HST
            obtain ⟨k, hk, rfl, HR⟩ := hrel
            by_cases hlt : k < n
            · obtain ⟨mm, f, h1, h2, h3, h4, h5⟩ := HR.out
              have hkl : k < (digs s.data.toList).length := by rw [HNN.out]; exact hlt
              obtain ⟨b, hbv⟩ : ∃ b : Nat, ((digs s.data.toList)[k]'hkl).toNat = b := ⟨_, rfl⟩
              have hix := idx_run d k b (by rw [HD.out]; exact hkl) (by rw [← hbv]; simp only [HD.out])
              have hb := HDIG.out k hkl
              rw [hbv] at hb
              have hv := valL_take hkl
              rw [hbv, ← h4] at hv
              have hsz := h5.size
              have HTP := Lib.hid (timesPlus_c (w.heap.size + 1) u6 mm 10 (b - 48) f wr h2 h3 (by unfold Bw; omega) (by unfold Bw; omega) (by omega) (by simpa using hsz))
              have HV := Lib.hid hv; have HB := Lib.hid h5
              have hb8 : IntKind.u8.wrap ((b : Int) - 48) = ((b - 48 : Nat) : Int) := by rw [IntKind.wrap_u8]; omega
              clear h2 h3 h4 h5 hv hbv hkl hsz
              go_wp2_with (go_at_call 31; refine HTP.out.mono ?_; rintro e w2 ⟨v', m', f', rfl, o1, o2, o3, o4, o5⟩; have O1 := Lib.hid o1; have O3 := Lib.hid o3; have O4 := Lib.hid o4; have O5 := Lib.hid o5; clear o1 o3 o4 o5)
              go_roundw
              case rel => exact ⟨k + 1, by omega, by go_num, m', f', by omega, O1.out, O3.out, by rw [O4.out, HV.out], HB.out.trans O5.out⟩
              case measure => simp [intOf]; omega
            · obtain rfl : k = n := by omega
              obtain ⟨mm, f, h1, h2, h3, h4, h5⟩ := HR.out
              obtain ⟨p, cap, rfl, hmc, hcm, hpa⟩ : ∃ p cap, u6 = .slice p mm cap ∧ mm ≤ cap ∧ cap ≤ maxLen ∧ ∀ a, p = some a → w.heap.size + 1 ≤ a.block := by
                rcases h2.shape with ⟨rfl, rfl⟩ | ⟨g, cap, rfl, hbg, _, hnc, hcm⟩
                · exact ⟨_, _, rfl, by omega, by omega, fun a h => by cases h⟩
                · exact ⟨_, _, rfl, hnc, hcm, fun a h => by cases h; exact hbg⟩
              rw [List.take_of_length_le (by rw [HNN.out]; omega)] at h4
              have HSG := Lib.hid (signed_p true p mm cap f wr hmc hcm h2.at.2 h3)
              have HV := Lib.hid h4; have HB := Lib.hid h5
              clear h2 h3 h4 h5 HR
              go_wp2_with (go_at_call 32; refine HSG.out.mono ?_; rintro e w3 ⟨s3, p3, n3, c3, rfl, hx, hg, hp3⟩; have HX := Lib.hid hx; have HP3 := Lib.hid hp3; clear hp3; have hgg := gb_trans (below_gb (row := none) (a := w.alloc (.cells #[.bool false, .slice none 0 0] 27)) (by simpa using HB.out)) hg; have HG3 := Lib.hid hgg; obtain ⟨hcr3, hfr3⟩ := bcell hgg; have hz3 : w.heap.size < w3.heap.size := (by have := hgg.size; simp at this; omega); clear hx hg hgg)
              have hb := top1 w (.cells #[.bool false, .slice none 0 0] 27)
              obtain ⟨x, e1, e2, e3⟩ := ret_box hb HG3.out HX.out (gb_alloc (gb_refl w none) _) (Nat.le_refl _)
              injection e1 with e1; subst e1
              obtain ⟨rc0, rc1⟩ := ret_cells (s := s3) (p := p3) (n := n3) (c := c3) hb HG3.out
              refine bodyPost_ret (v := .tuple #[.agg #[.bool s3, .slice p3 n3 c3], .int .i64 0]) (by simp [results, Tryz.results12, go_sem, rc0, rc1]) rfl ⟨_, by rw [HE2.out], ?_, e3, ?_⟩
              · unfold parseV
                rw [if_pos HE2.out, HM.out, ← HV.out]; exact e2
              · intro s p' n c h h0
                simp at h
                obtain ⟨rfl, rfl, rfl, rfl⟩ := h
                obtain ⟨a, ha, _⟩ := int_some e2 h0
                refine ⟨a, ha, ?_⟩
                have := hpa a (by rw [← HP3.out h0]; exact ha)
                omega
end Go.Proofs.YtddccnpohpaofaaGreatDoor.Zd
namespace Go.Proofs.YtddccnpohpaofaaGreatDoor
open Go.RowKit

section
variable (b bb : Nat) (T : List Tok) (D n : Nat)

set_option maxRecDepth 100000 in
set_option maxHeartbeats 4000000 in
theorem factor_p (hC : TokC T) (hD : D ≤ 200) (hn : n ≤ D) (hA : SubI b bb T D n (fun _ => True) 161 (atomT T (NT T D n))) (hB : n < D → SubI b bb T D (n + 1) (fun _ => True) 160 (factorT T D (n + 1) (NT T D (n + 1)))) : SubI b bb T D n (fun _ => True) 160 (factorT T D n (NT T D n)) := by
  intro s N vn A w hP h
  have HCC := Lib.hid hC; have HPP := Lib.hid hP
  have HSA := Lib.hid hA
  have HNB := Lib.hid (nested_factor b bb T D n hD hn (fun _ => True) _ hB)
  have HEQ := Lib.hid (fun s hk => sign_eqv T hn (sub := factorT T D (n + 1) (NT T D (n + 1))) (sub' := (NT T D n).factor) (fun hlt => by rw [NT_succ T hlt]) s hk)
  have HK := Lib.hid (KX.start h)
  have HFEW := Lib.hid h.few
  have HA := Lib.hid (OutL.nil N s)
  clear h hC hP hD hn hA hB
  go_enter Tryz.func160, Tryz.ntmps160
  go_wp2_with fail
  refine (KX.at (ws := [[45]]) (HK.out.strs1 _ _) (List.mem_cons_self ..) (by decide)).mono ?_
  rintro e w1 ⟨rfl, hk⟩
  have HK := Lib.hid (hk.nils)
  obtain ⟨b1, hb⟩ : ∃ b1, isQ T [45] s = b1 := ⟨_, rfl⟩
  rw [at_one HCC.out (by decide), hb]
  have HV1 := Lib.hid hb
  clear hk hb
  cases b1
  · skip
    go_wp2_with fail
    refine (HK.out.sub HSA.out trivial).mono ?_
    rintro e w9 ⟨v9, N9, vn9, rfl, hk9, ho9, hd9⟩
    have HQ := Lib.hid (KX.fin ho9 hk9 hd9 (r' := (factorT T D n (NT T D n)) s) (by unfold factorT; rw [if_neg (by rw [HV1.out]; decide)]; exact Eqv.refl _))
    clear hk9 ho9 hd9
    go_wp2_with fail
    go_ret
    exact HQ.out
  · skip
    have HLI := Lib.hid (is_kind HV1.out)
    go_wp2_with fail
    have HK := Lib.hid HK.out.drew
    go_region_held3 (fun w' => w'.cell? ⟨b, 0, none⟩ = some (.pointer (some ⟨bb, 0, none⟩))) (first | with_reducible exact HK.out.cell | with_reducible exact (HK.out.alloc _).cell | with_reducible exact ((HK.out.alloc _).alloc _).cell | with_reducible exact (((HK.out.alloc _).alloc _).alloc _).cell)
      (first
        | (go_at_call 76; (first | with_reducible refine (HK.out.take HCC.out HLI.out.1 HLI.out.2).mono ?_ | with_reducible refine ((HK.out.strs1 _ _).take HCC.out HLI.out.1 HLI.out.2).mono ?_ | with_reducible refine (((HK.out.strs1 _ _).strs1 _ _).take HCC.out HLI.out.1 HLI.out.2).mono ?_); rintro e w9 ⟨v9, N9, vn9, rfl, hk9, ho9, hd9⟩; have HK := Lib.hid hk9; have HD := Lib.hid (OutD.app HA.out ho9 hd9); have HA := Lib.hid HD.out.out; clear hk9 ho9 hd9)
        | (go_at_call 43; (first | with_reducible refine (HK.out.call (fun A h => HNB.out _ _ _ A _ trivial h)).mono ?_ | with_reducible refine ((HK.out.strs1 _ _).call (fun A h => HNB.out _ _ _ A _ trivial h)).mono ?_ | with_reducible refine (((HK.out.strs1 _ _).strs1 _ _).call (fun A h => HNB.out _ _ _ A _ trivial h)).mono ?_); rintro e w9 ⟨v9, N9, vn9, rfl, hk9, ho9, hd9⟩; have HK := Lib.hid hk9; have HD := Lib.hid (OutD.app HA.out ho9 hd9); have HA := Lib.hid HD.out.out; clear hk9 ho9 hd9)
        | (go_at_call 42; have HDW := Lib.hid (HD.out.weak (j := 0 + 1) (by decide)); refine (KX.node (k := 0) (kind := 11) (HK.out.ints2 _ _ ) ?_ HCC.out.len HDW.out ?_ HFEW.out ?_).mono ?_; exact List.mem_cons_self ..; rfl; simp; rintro e w9 ⟨v9, N9, vn9, rfl, hk9, ho9⟩; have HK := Lib.hid hk9; have HZ := Lib.hid ho9; clear hk9 ho9))
    all_goals
      have HQ := Lib.hid (KX.fin HZ.out HK.out (fun he => absurd HLI.out.2 he) (r' := (factorT T D n (NT T D n)) s) (by rw [show factorT T D n (NT T D n) s = signT T D n (NT T D n).factor s from if_pos HV1.out]; exact HEQ.out _ HLI.out.2))
      go_wp2_with fail
      go_ret
      exact HQ.out
end
end Go.Proofs.YtddccnpohpaofaaGreatDoor
