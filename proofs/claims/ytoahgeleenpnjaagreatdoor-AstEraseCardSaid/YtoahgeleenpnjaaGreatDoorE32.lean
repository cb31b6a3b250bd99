/- The program's parser: parameters and definitions. -/
import Derived.Test.YtoahgeleenpnjaaGreatDoorE31
set_option linter.unusedVariables false
set_option linter.unusedSimpArgs false
namespace Go.Proofs.YtoahgeleenpnjaaGreatDoor
open Go.RowKit

theorem typed_inn {T : List Tok} {D : Nat} (s : St) (h : s.inn = false) : (typedT T (NT T D 0).expr s).2.inn = false := by
  unfold typedT typCT
  have hb : (typBT T (mustT T [58] s)).2.inn = false := by
    unfold typBT
    have h1 := (must_keep T [58] s).inn
    split
    · rename_i hk
      have hl : (mustT T [58] s).2.e = 0 := by rcases hk with hk | hk <;> exact (is_kind hk).2
      exact (leaf_keep T hl).inn.trans (h1.trans h)
    · exact (fail_keep T 22 (mustT T [58] s).2 []).inn.trans (h1.trans h)
  split
  · exact (must_keep T [125] _).inn
  · exact hb
theorem typed_dead {T : List Tok} {D : Nat} (s : St) (h : s.e ≠ 0) : (typedT T (NT T D 0).expr s).2 = s := by
  have h1 := (must_keep T [58] s).dead h
  unfold typedT typCT typBT
  have n1 : ∀ x, isQ T x (mustT T [58] s).2 = false := fun x => is_live (by rw [h1]; exact h)
  have hb : ¬ (isQ T [105, 110, 116] (mustT T [58] s).2 = true ∨ isQ T [98, 111, 111, 108] (mustT T [58] s).2 = true) := by rw [n1, n1]; decide
  have hf : failQ T 22 (mustT T [58] s).2 = s := by rw [h1, fail_same T h]
  rw [if_neg hb]
  show (if isQ T [123] (failQ T 22 (mustT T [58] s).2) = true then _ else _ : RT).2 = s
  rw [hf, if_neg (by rw [is_live h]; decide)]
theorem par_inn {T : List Tok} {D : Nat} (s : St) (h : s.inn = false) : (parT T (NT T D 0).expr s).2.inn = false := typed_inn _ ((kind_keep T 1 s).inn.trans h)
theorem par_dead {T : List Tok} {D : Nat} (s : St) (h : s.e ≠ 0) : (parT T (NT T D 0).expr s).2 = s := by
  have h1 := (kind_keep T 1 s).dead h
  show (typedT T (NT T D 0).expr (kindT T 1 s).2).2 = s
  rw [typed_dead _ (by rw [h1]; exact h), h1]

section
variable (b bb : Nat) (T : List Tok) (D : Nat)

set_option maxRecDepth 100000 in
set_option maxHeartbeats 8000000 in
theorem params_f (hC : TokC T) (hX : SubI b bb T D 0 (fun s => s.inn = false ∧ isQ T [123] s = true) 119 (clauseT T (NT T D 0).expr)) : SubF b bb T D 0 (fun s => s.inn = false) 118 (parT T (NT T D 0).expr) := by
  intro A0 vn0 w0 w s N vn L g hP hk hm
  have HCC := Lib.hid hC
  have HTY := Lib.hid (fun (w : World) (s : St) (N : List Nd) (vn : Value) (L : List (Value × Th)) (hk : KX b bb T D 0 A0 vn0 w0 w s s.i N vn L) (hi : s.inn = false) => typed_p b bb T D hC hX hk hi)
  have HK := Lib.hid hk; have HM := Lib.hid hm
  have HFEW := Lib.hid hk.room
  have HIN : Hid ((kindT T 1 s).2.inn = false) := Lib.hid ((kind_keep T 1 s).inn.trans hP)
  have HDT : Hid (s.e ≠ 0 → (parT T (NT T D 0).expr s).2.e ≠ 0) := Lib.hid (fun h => by rw [par_dead s h]; exact h)
  have c0 := hk.boxc hm
  have HA := Lib.hid (OutL.nil N s)
  clear hC hX hk hP hm
  go_enter Tryz.func118, Tryz.ntmps118
  go_wp2_with fail
  have HKD := HK
  have HK := Lib.hid HK.out.drew
  go_region_held3 (fun w' => w'.cell? ⟨g, 0, none⟩ = some (.pointer (some ⟨b, 0, none⟩))) (first | exact HK.out.boxc HM.out | exact HK.out.boxc (List.mem_cons_of_mem _ HM.out) | exact HK.out.boxc (List.mem_cons_of_mem _ (List.mem_cons_of_mem _ HM.out)) | exact (HK.out.alloc _).boxc HM.out | exact (HK.out.alloc _).boxc (List.mem_cons_of_mem _ HM.out))
    (first
      | (refine step_kx rfl _ _ rfl HK.out (List.sublist_cons_self _ _) rfl rfl (l2 := ls7) rfl HVV.out (by simp) (by have := HL7.out; omega) ?_; intro kv4 w9 hk9; have HK := Lib.hid hk9; clear hk9)
      | (refine step_kx rfl _ _ rfl (HK.out.ints1 _) (List.Sublist.cons_cons _ (List.sublist_cons_self _ _)) rfl rfl (l2 := ls7) rfl (HVA.out _) (by simp) (by have := HL7.out; omega) ?_; intro kv4 w9 hk9; have HK := Lib.hid hk9; clear hk9)
      | (go_at_call 53; (with_reducible refine (HK.out.word HCC.out).mono ?_); rintro e w9 ⟨v9, N9, vn9, rfl, hk9, ho9, hd9⟩; have HK := Lib.hid hk9; have HA := Lib.hid (HA.out.app ho9.out hd9); clear hk9 ho9 hd9)
      | (go_at_call 83; (first | with_reducible refine (HTY.out _ _ _ _ _ HK.out HIN.out).mono ?_ | with_reducible refine (HTY.out _ _ _ _ _ (HK.out.ints1 _) HIN.out).mono ?_); rintro e w9 ⟨lv, ls7, N8, vn8, rfl, hk9, ho9, hd9, hl9⟩; obtain ⟨q7, c7, rfl, hv7, -, -⟩ := hk9.list (List.mem_cons_self ..); have HK := Lib.hid hk9; have HVV := Lib.hid hv7; have HVA := Lib.hid (fun o => hv7.kept (gb_alloc (gb_refl w9 none) o)); have HL7 := Lib.hid hl9; have HD := Lib.hid (OutD.app HA.out ho9 hd9); clear hk9 ho9 hd9 hl9 hv7))
  all_goals
    obtain ⟨l9, hl9⟩ : ∃ l9, [v9] ++ ls7 = l9 := ⟨_, rfl⟩
    have HLN : Hid (l9.length ≤ 310) := Lib.hid (by rw [← hl9, List.length_append]; have := HL7.out; simp; omega)
    have HK : Hid (KX b bb T D 0 A0 vn0 w0 w9 (typedT T (NT T D 0).expr (kindT T 1 s).2).2 (typedT T (NT T D 0).expr (kindT T 1 s).2).2.i N8 vn8 ((kv4, .ints l9) :: L)) := Lib.hid (by
      have h9 := HK.out.few (L' := (kv4, .ints ([v9] ++ ls7)) :: L) (by first | exact List.Sublist.refl _ | exact List.Sublist.cons_cons _ (List.sublist_cons_self _ _))
      rw [hl9] at h9; exact h9)
    have HOL : Hid (OutD (0 + 1) N s ((kindT T 1 s).1 ++ (typedT T (NT T D 0).expr (kindT T 1 s).2).1, (typedT T (NT T D 0).expr (kindT T 1 s).2).2) N8 l9) := Lib.hid (by rw [← hl9]; exact HD.out.weak (by decide))
    clear hl9 HA HD
    have c0 := HK.out.boxc (List.mem_cons_of_mem _ HM.out)
    have d0 := HK.out.cell
    go_wp2_with fail
    refine (KX.node (k := 0) (kind := 4) HK.out (List.mem_cons_self ..) HCC.out.len HOL.out rfl HFEW.out (by have := HLN.out; omega)).mono ?_
    rintro e w8 ⟨v6, N6, vn6, rfl, hk6, ho6⟩
    have HQ : Hid (CPost b bb T D 0 0 A0 vn0 w0 s (parT T (NT T D 0).expr s) N L (.returned (.int .i64 v6)) w8) := Lib.hid ⟨v6, N6, vn6, rfl, hk6.few (List.sublist_cons_self _ _), ho6, HDT.out⟩
    clear hk6 ho6 c0 d0
    go_wp2_with fail
    go_ret
    exact HQ.out
--TAIL
end
end Go.Proofs.YtoahgeleenpnjaaGreatDoor
namespace Go.Proofs.YtoahgeleenpnjaaGreatDoor
open Go.RowKit

theorem list_inn {T : List Tok} {sub : St → RT} (hI : ∀ s, s.inn = false → (sub s).2.inn = false) : ∀ j (r : RT), r.2.inn = false → (loopP T sub j r).2.inn = false
  | 0, r, h => (fail_keep T 15 r.2 r.1).inn.trans h
  | j + 1, r, h => by
    unfold loopP
    split
    · rename_i hc
      exact list_inn hI j _ ((leaf_keep T (is_kind hc).2).inn.trans (hI _ h))
    · exact hI _ h
theorem listP_inn {T : List Tok} {sub : St → RT} (hI : ∀ s, s.inn = false → (sub s).2.inn = false) (s : St) (h : s.inn = false) : (listP T sub s).2.inn = false := by
  unfold listP
  split
  · exact h
  · exact list_inn hI 8 _ h
section
variable (T : List Tok) (D : Nat)
/-- A definition as the program goes at it. -/
def def2P (a : RT) : RT := (a.1 ++ (listP T (parT T (NT T D 0).expr) a.2).1, (listP T (parT T (NT T D 0).expr) a.2).2)
def def3P (a : RT) : RT := (a.1 ++ (mustT T [41] a.2).1, (mustT T [41] a.2).2)
def def4P (a : RT) : RT := (a.1 ++ (typedT T (NT T D 0).expr a.2).1, (typedT T (NT T D 0).expr a.2).2)
def def5P (a : RT) : RT := (a.1 ++ ((mustT T [61] a.2).1 ++ ((NT T D 0).expr (mustT T [61] a.2).2).1 ++ (mustT T [59] ((NT T D 0).expr (mustT T [61] a.2).2).2).1), (mustT T [59] ((NT T D 0).expr (mustT T [61] a.2).2).2).2)
def defP (s : St) : RT := ([.nd 3 (def5P T D (def4P T D (def3P T (def2P T D (defBT T (defAT T s)))))).1], (def5P T D (def4P T D (def3P T (def2P T D (defBT T (defAT T s)))))).2)
theorem def5_eq (a : RT) : def5P T D (def4P T D (def3P T a)) = defDT T (NT T D 0).expr a := by
  unfold def5P def4P def3P defDT
  simp only [List.append_assoc]
theorem def5_dead (a : RT) (h : a.2.e ≠ 0) : (def5P T D (def4P T D (def3P T a))).2.e ≠ 0 := by
  have h1 := (must_keep T [41] a.2).dead h
  have h2 : (typedT T (NT T D 0).expr (mustT T [41] a.2).2).2 = a.2 := by rw [h1]; exact typed_dead _ h
  show (mustT T [59] ((NT T D 0).expr (mustT T [61] (typedT T (NT T D 0).expr (mustT T [41] a.2).2).2).2).2).2.e ≠ 0
  rw [h2]
  have h3 := (must_keep T [61] a.2).dead h
  rw [h3]
  have h4 := ((nx_keep T D (D - 0)).expr a.2).dead h
  show (mustT T [59] ((nxT T D (D - 0)).expr a.2).2).2.e ≠ 0
  rw [h4, (must_keep T [59] a.2).dead h]
  exact h
theorem def2_eqv (a : RT) (hi : a.2.i ≤ T.length) : Eqv (def2P T D a) (defCT T (NT T D 0).expr a) := by
  have h := list_parts T (par_good T (nx_good T D (D - 0)).expr) (fun s h => par_dead (D := D) s h) a.2 hi
  unfold def2P defCT
  by_cases he : a.2.e = 0
  · by_cases hq : isQ T [41] a.2 = true
    · rw [if_pos hq] at h
      rw [if_neg (by rw [hq]; simp)]
      exact ⟨h.1, fun e => by
        have := h.2 e
        show a.1 ++ (listP T (parT T (NT T D 0).expr) a.2).1 = a.1
        rw [show (listP T (parT T (NT T D 0).expr) a.2).1 = [] from this, List.append_nil]⟩
    · rw [if_neg hq] at h
      rw [if_pos ⟨he, by simpa using hq⟩]
      exact ⟨h.1, fun e => by
        have := h.2 e
        show a.1 ++ (listP T (parT T (NT T D 0).expr) a.2).1 = a.1 ++ _
        rw [show (listP T (parT T (NT T D 0).expr) a.2).1 = _ from this]; rfl⟩
  · rw [if_neg (fun e => he e.1)]
    have hq : isQ T [41] a.2 = false := is_live he
    rw [if_neg (by rw [hq]; decide), par_dead (D := D) _ he |> fun e => parts_stopT (T := T) (sub := parT T (nxT T D (D - 0)).expr) (by rw [show (parT T (nxT T D (D - 0)).expr a.2).2 = a.2 from e]; exact is_live he) _] at h
    exact ⟨h.1.trans (par_dead (D := D) _ he), fun e => absurd e he⟩
theorem defP_eqv (s : St) (hi : (defBT T (defAT T s)).2.i ≤ T.length) : Eqv (defP T D s) (defT T (NT T D 0).expr s) := by
  have h := def2_eqv T D _ hi
  unfold defP defT
  rw [def5_eq]
  have e1 : (defDT T (NT T D 0).expr (def2P T D (defBT T (defAT T s)))).2 = (defDT T (NT T D 0).expr (defCT T (NT T D 0).expr (defBT T (defAT T s)))).2 := by
    unfold defDT; rw [h.1]
  refine ⟨e1, fun e => ?_⟩
  have ha : (defCT T (NT T D 0).expr (defBT T (defAT T s))).2.e = 0 := by
    rcases Nat.eq_zero_or_pos (defCT T (NT T D 0).expr (defBT T (defAT T s))).2.e with h9 | h9
    · exact h9
    · have := def5_dead T D (defCT T (NT T D 0).expr (defBT T (defAT T s))) (by omega)
      rw [def5_eq] at this
      exact absurd e this
  have e2 : def2P T D (defBT T (defAT T s)) = defCT T (NT T D 0).expr (defBT T (defAT T s)) := Prod.ext (h.2 ha) h.1
  rw [e2]
end

section
variable (b bb : Nat) (T : List Tok) (D : Nat)

set_option maxRecDepth 100000 in
set_option maxHeartbeats 4000000 in
theorem parameters_p (hC : TokC T) (hX : SubI b bb T D 0 (fun s => s.inn = false ∧ isQ T [123] s = true) 119 (clauseT T (NT T D 0).expr)) {A0 : Nat → Prop} {vn0 : Value} {w0 w : World} {s : St} {N : List Nd} {vn : Value} {L : List (Value × Th)} (hk : KX b bb T D 0 A0 vn0 w0 w s s.i N vn L) (hi : s.inn = false) :
    Calls Tryz.prog 82 #[.pointer (some ⟨b, 0, none⟩)] w (CLPost b bb T D 0 0 A0 vn0 w0 s (listP T (parT T (NT T D 0).expr) s) N L) := by
  obtain ⟨g, hg⟩ : ∃ g, w.heap.size = g := ⟨_, rfl⟩
  have HK : Hid (KX b bb T D 0 A0 vn0 w0 (w.alloc (.cells #[.pointer (some ⟨b, 0, none⟩)] 81)) s s.i N vn ((boxV g, boxT b) :: L)) := Lib.hid (by rw [← hg]; exact hk.boxed _ _)
  have HLP := Lib.hid (list_params b bb T D 0 hC _ (params_f b bb T D hC hX) (fun s h => par_inn (T := T) (D := D) s h) HK.out (List.mem_cons_self ..) hi)
  have c0 := HK.out.boxc (List.mem_cons_self ..)
  clear hC hX hk hi HK
  go_enter Tryz.func82, Tryz.ntmps82
  go_wp2_with fail
  try rw [hg]
  refine HLP.out.mono ?_
  rintro e w7 ⟨lv, ls, N7, vn7, rfl, hk7, ho7, hd7, hl7⟩
  have HQ : Hid (CLPost b bb T D 0 0 A0 vn0 w0 s (listP T (parT T (NT T D 0).expr) s) N L (.returned lv) w7) := Lib.hid ⟨lv, ls, N7, vn7, rfl, hk7.few (List.Sublist.cons_cons _ (List.sublist_cons_self _ _)), ho7, hd7, hl7⟩
  clear hk7 ho7 hd7 hl7 HLP c0 hg
  go_wp2_with fail
  go_ret
  exact HQ.out

set_option maxRecDepth 100000 in
set_option maxHeartbeats 16000000 in
theorem definition_p (hC : TokC T) (hD : D ≤ 200) (hX : SubI b bb T D 0 (fun s => s.inn = false ∧ isQ T [123] s = true) 119 (clauseT T (NT T D 0).expr)) (hE : 0 < D → SubI b bb T D 1 (fun s => s.inn = false) 84 (bodyE T D 1 (NT T D 1))) : SubI b bb T D 0 (fun s => s.inn = false) 51 (defT T (NT T D 0).expr) := by
  intro s N vn A w hP h
  have HCC := Lib.hid hC
  have HTY := Lib.hid (fun (w1 : World) (s : St) (N1 : List Nd) (vn1 : Value) (L : List (Value × Th)) (hk : KX b bb T D 0 A vn w w1 s s.i N1 vn1 L) (hi : s.inn = false) => typed_p b bb T D hC hX hk hi)
  have HPA := Lib.hid (fun (w1 : World) (s : St) (N1 : List Nd) (vn1 : Value) (L : List (Value × Th)) (hk : KX b bb T D 0 A vn w w1 s s.i N1 vn1 L) (hi : s.inn = false) => parameters_p b bb T D hC hX hk hi)
  have HNE := Lib.hid (fun (s : St) (N : List Nd) (vn : Value) (A : Nat → Prop) (w : World) (hi : s.inn = false) h => (nested_expression b bb T D 0 hD (Nat.zero_le _) (fun s => s.inn = false) _ hE s N vn A w hi h).mono (fun e w' hp => hp.eqv (expr_nest T (Nat.zero_le _) s hi)))
  have HFEW := Lib.hid h.few
  have HPP := Lib.hid hP
  have HK := Lib.hid (KX.start h).nilS
  have HDB : Hid (∀ a : RT, a.2.e ≠ 0 → (defBT T a).2.e ≠ 0) := Lib.hid (fun a h => by
    show (mustT T [40] (kindT T 1 (mustT T [102, 117, 110] a.2).2).2).2.e ≠ 0
    rw [(must_keep T [102, 117, 110] a.2).dead h, (kind_keep T 1 a.2).dead h, (must_keep T [40] a.2).dead h]; exact h)
  clear h hC hX hE hP hD
  go_enter Tryz.func51, Tryz.ntmps51
  go_wp2_with fail
  refine (KX.at (ws := [[112, 117, 98]]) (HK.out.strs1 _ _) (List.mem_cons_self ..) (by decide)).mono ?_
  rintro e w0 ⟨rfl, hk⟩
  have HK := Lib.hid (hk.few (List.sublist_cons_self _ _))
  obtain ⟨b0, hb⟩ : ∃ b0, isQ T [112, 117, 98] s = b0 := ⟨_, rfl⟩
  rw [at_one HCC.out (by decide), hb]
  have HV0 := Lib.hid hb
  clear hk hb
  cases b0
  · obtain ⟨a, vs, HAE, HK, HA, HVS, HDD, HIN⟩ : ∃ (a : RT) (vs : List Int), Hid (defAT T s = a) ∧ Hid (KX b bb T D 0 A vn w w0 a.2 a.2.i N vn [(.slice none 0 0, .ints vs)]) ∧ Hid (OutL 0 N s a N vs) ∧ Hid (vs.length ≤ 3) ∧ Hid (s.e ≠ 0 → a.2.e ≠ 0) ∧ Hid (a.2.inn = false) :=
      ⟨([], s), [], Lib.hid (by unfold defAT; rw [if_neg (by rw [HV0.out]; decide)]), HK, Lib.hid (OutL.nil N s), Lib.hid (by simp), Lib.hid (fun h => h), HPP⟩
    have HDB := Lib.hid (HDB.out a)
    go_wp2_with fail
    refine (KX.one1 [102, 117, 110] (HK.out.strs1 _ _) HCC.out (by decide) ⟨_, by simp, List.mem_cons_self ..⟩).mono ?_
    rintro e w1 ⟨v1, N1, vn1, rfl, hk, ho, hd⟩
    have HK := Lib.hid (hk.few (List.sublist_cons_self _ _)); have HT := Lib.hid ho.out; have HDD := Lib.hid (fun h => hd (HDD.out h)); have HIN := Lib.hid ((must_keep T [102, 117, 110] _).inn.trans HIN.out)
    clear hk ho hd
    go_wp2_with fail
    refine (HK.out.word HCC.out).mono ?_
    rintro e w2 ⟨v2, N2, vn2, rfl, hk, ho, hd⟩
    have HK := Lib.hid hk; have HT := Lib.hid (HT.out.app ho.out hd); have HDD := Lib.hid (fun h => hd (HDD.out h)); have HIN := Lib.hid ((kind_keep T 1 _).inn.trans HIN.out)
    clear hk ho hd
    go_wp2_with fail
    refine (KX.one1 [40] (HK.out.strs1 _ _) HCC.out (by decide) ⟨_, by simp, List.mem_cons_self ..⟩).mono ?_
    rintro e w3 ⟨v3, N3, vn3, rfl, hk, ho, hd⟩
    have HK := Lib.hid (hk.few (List.sublist_cons_self _ _)); have HT := Lib.hid (HT.out.app ho.out hd); have HDD := Lib.hid (fun h => hd (HDD.out h)); have HIN := Lib.hid ((must_keep T [40] _).inn.trans HIN.out)
    obtain ⟨l3, hl3⟩ : ∃ l3, vs ++ [v1, v2, v3] = l3 := ⟨_, rfl⟩
    have HE3 := Lib.hid hl3; have HL3 : Hid (l3.length ≤ 10) := Lib.hid (by rw [← hl3, List.length_append]; have := HVS.out; simp; omega)
    have HA : Hid (OutL 1 N s (defBT T a) N3 l3) := Lib.hid (by rw [← hl3]; exact (OutL.app HA.out HT.out HDB.out).weak (by decide))
    clear hk ho hd hl3 HT
    go_wp2_with (at_builtin; go_loud (refine wpList_kx rfl _ _ rfl (HK.out.ints3 v1 v2 v3) (List.sublist_cons_self _ _) rfl rfl (l2 := [v1, v2, v3]) rfl (vat3 _ _ _ _) (by have := HVS.out; omega) (by simp) ?_))
    intro kv4 w4 hk4
    rw [HE3.out] at hk4
    obtain ⟨a1, ha1⟩ : ∃ a1, defBT T a = a1 := ⟨_, rfl⟩
    have HA1 := Lib.hid ha1
    have HK : Hid (KX b bb T D 0 A vn w w4 a1.2 a1.2.i N3 vn3 [(kv4, .ints l3)]) := Lib.hid (by rw [← ha1]; exact hk4)
    have HDD : Hid (s.e ≠ 0 → a1.2.e ≠ 0) := Lib.hid (by rw [← ha1]; exact HDD.out)
    have HIN : Hid (a1.2.inn = false) := Lib.hid (by rw [← ha1]; exact HIN.out)
    rw [ha1] at HA
    have HCI := Lib.hid HK.out.ok
    clear hk4 ha1 HE3
    go_wp2_with fail
    refine (HPA.out _ _ _ _ _ HK.out HIN.out).mono ?_
    rintro e w5 ⟨lv, ls, N5, vn5, rfl, hk7, ho7, hd7, hl7⟩
    obtain ⟨q5, c5, rfl, hv7, -, -⟩ := hk7.list (List.mem_cons_self ..)
    have HK := Lib.hid hk7; have HVV := Lib.hid hv7; have HL5 := Lib.hid hl7; have HDD := Lib.hid (fun h => hd7 (HDD.out h)); have HIN := Lib.hid (listP_inn (T := T) (sub := parT T (NT T D 0).expr) (fun s h => par_inn (T := T) (D := D) s h) _ HIN.out)
    obtain ⟨l5, hl5⟩ : ∃ l5, l3 ++ ls = l5 := ⟨_, rfl⟩
    have HE5 := Lib.hid hl5; have HLL5 : Hid (l5.length ≤ 320) := Lib.hid (by rw [← hl5, List.length_append]; have := HL3.out; omega)
    have HA : Hid (OutL 1 N s (def2P T D a1) N5 l5) := Lib.hid (by rw [← hl5]; exact (HA.out.app ho7 hd7).weak (by decide))
    obtain ⟨m5, hm5⟩ : ∃ m5, ls.length = m5 := ⟨_, rfl⟩
    have HM5 := Lib.hid hm5
    rw [hm5] at HK ⊢
    clear hk7 ho7 hd7 hl7 hv7 hl5 hm5
    go_wp2_with (at_builtin; go_loud (refine wpList_kx rfl _ _ rfl HK.out (List.sublist_cons_self _ _) rfl rfl (l2 := ls) HM5.out HVV.out (by have := HL3.out; omega) (by have := HL5.out; omega) ?_))
    intro kv6 w6 hk6
    rw [HE5.out] at hk6
    obtain ⟨a2, ha2⟩ : ∃ a2, def2P T D a1 = a2 := ⟨_, rfl⟩
    have HA2 := Lib.hid ha2
    have HK : Hid (KX b bb T D 0 A vn w w6 a2.2 a2.2.i N5 vn5 [(kv6, .ints l5)]) := Lib.hid (by rw [← ha2]; exact hk6)
    have HDD : Hid (s.e ≠ 0 → a2.2.e ≠ 0) := Lib.hid (by rw [← ha2]; exact HDD.out)
    have HIN : Hid (a2.2.inn = false) := Lib.hid (by rw [← ha2]; exact HIN.out)
    rw [ha2] at HA
    clear hk6 ha2 HE5 HVV HM5
    go_wp2_with fail
    refine (KX.one1 [41] (HK.out.strs1 _ _) HCC.out (by decide) ⟨_, by simp, List.mem_cons_self ..⟩).mono ?_
    rintro e w7 ⟨v7, N7, vn7, rfl, hk, ho, hd⟩
    have HK := Lib.hid (hk.few (List.sublist_cons_self _ _)); have HDD := Lib.hid (fun h => hd (HDD.out h)); have HIN := Lib.hid ((must_keep T [41] _).inn.trans HIN.out)
    obtain ⟨l7, hl7⟩ : ∃ l7, l5 ++ [v7] = l7 := ⟨_, rfl⟩
    have HE7 := Lib.hid hl7; have HL7 : Hid (l7.length ≤ 321) := Lib.hid (by rw [← hl7, List.length_append]; have := HLL5.out; simp; omega)
    have HA : Hid (OutL 1 N s (def3P T a2) N7 l7) := Lib.hid (by rw [← hl7]; exact (HA.out.app ho.out hd).weak (by decide))
    clear hk ho hd hl7
    go_wp2_with (at_builtin; go_loud (refine wpList_kx rfl _ _ rfl (HK.out.ints1 v7) (List.sublist_cons_self _ _) rfl rfl (l2 := [v7]) rfl (vat1 _ _) (by have := HLL5.out; omega) (by simp) ?_))
    intro kv8 w8 hk8
    rw [HE7.out] at hk8
    obtain ⟨a3, ha3⟩ : ∃ a3, def3P T a2 = a3 := ⟨_, rfl⟩
    have HA3 := Lib.hid ha3
    have HK : Hid (KX b bb T D 0 A vn w w8 a3.2 a3.2.i N7 vn7 [(kv8, .ints l7)]) := Lib.hid (by rw [← ha3]; exact hk8)
    have HDD : Hid (s.e ≠ 0 → a3.2.e ≠ 0) := Lib.hid (by rw [← ha3]; exact HDD.out)
    have HIN : Hid (a3.2.inn = false) := Lib.hid (by rw [← ha3]; exact HIN.out)
    rw [ha3] at HA
    clear hk8 ha3 HE7
    go_wp2_with fail
    refine (HTY.out _ _ _ _ _ HK.out HIN.out).mono ?_
    rintro e w9 ⟨lv, lt, N9, vn9, rfl, hk9, ho9, hd9, hl9⟩
    obtain ⟨q9, c9, rfl, hv9, -, -⟩ := hk9.list (List.mem_cons_self ..)
    have HK := Lib.hid hk9; have HVV := Lib.hid hv9; have HL9 := Lib.hid hl9; have HDD := Lib.hid (fun h => hd9 (HDD.out h)); have HIN := Lib.hid (typed_inn (T := T) (D := D) _ HIN.out)
    obtain ⟨l9, hl99⟩ : ∃ l9, l7 ++ lt = l9 := ⟨_, rfl⟩
    have HE9 := Lib.hid hl99; have HLL9 : Hid (l9.length ≤ 630) := Lib.hid (by rw [← hl99, List.length_append]; have := HL7.out; omega)
    have HA : Hid (OutL 1 N s (def4P T D a3) N9 l9) := Lib.hid (by rw [← hl99]; exact (HA.out.app ho9.out hd9).weak (by decide))
    obtain ⟨m9, hm9⟩ : ∃ m9, lt.length = m9 := ⟨_, rfl⟩
    have HM9 := Lib.hid hm9
    rw [hm9] at HK ⊢
    clear hk9 ho9 hd9 hl9 hv9 hl99 hm9
    go_wp2_with (at_builtin; go_loud (refine wpList_kx rfl _ _ rfl HK.out (List.sublist_cons_self _ _) rfl rfl (l2 := lt) HM9.out HVV.out (by have := HL7.out; omega) (by have := HL9.out; omega) ?_))
    intro kv10 w10 hk10
    rw [HE9.out] at hk10
    obtain ⟨a4, ha4⟩ : ∃ a4, def4P T D a3 = a4 := ⟨_, rfl⟩
    have HA4 := Lib.hid ha4
    have HK : Hid (KX b bb T D 0 A vn w w10 a4.2 a4.2.i N9 vn9 [(kv10, .ints l9)]) := Lib.hid (by rw [← ha4]; exact hk10)
    have HDD : Hid (s.e ≠ 0 → a4.2.e ≠ 0) := Lib.hid (by rw [← ha4]; exact HDD.out)
    have HIN : Hid (a4.2.inn = false) := Lib.hid (by rw [← ha4]; exact HIN.out)
    rw [ha4] at HA
    clear hk10 ha4 HE9 HVV HM9
    go_wp2_with fail
    refine (KX.one1 [61] (HK.out.strs1 _ _) HCC.out (by decide) ⟨_, by simp, List.mem_cons_self ..⟩).mono ?_
    rintro e w11 ⟨v11, N11, vn11, rfl, hk, ho, hd⟩
    have HK := Lib.hid (hk.few (List.sublist_cons_self _ _)); have HT := Lib.hid ho.out; have HD1 := Lib.hid hd; have HIN := Lib.hid ((must_keep T [61] _).inn.trans HIN.out)
    clear hk ho hd
    go_wp2_with fail
    refine (HK.out.call (fun A h => HNE.out _ _ _ A _ HIN.out h)).mono ?_
    rintro e w12 ⟨v12, N12, vn12, rfl, hk, ho, hd⟩
    have HK := Lib.hid hk; have HT := Lib.hid (HT.out.app ho.out hd); have HD1 := Lib.hid (fun h => hd (HD1.out h))
    clear hk ho hd
    go_wp2_with fail
    refine (KX.one1 [59] (HK.out.strs1 _ _) HCC.out (by decide) ⟨_, by simp, List.mem_cons_self ..⟩).mono ?_
    rintro e w13 ⟨v13, N13, vn13, rfl, hk, ho, hd⟩
    have HK := Lib.hid (hk.few (List.sublist_cons_self _ _)); have HTD := Lib.hid (OutD.app HT.out ho hd); have HD1 := Lib.hid (fun h => hd (HD1.out h))
    obtain ⟨l13, hl13⟩ : ∃ l13, l9 ++ [v11, v12, v13] = l13 := ⟨_, rfl⟩
    have HE13 := Lib.hid hl13; have HL13 : Hid (l13.length ≤ 640) := Lib.hid (by rw [← hl13, List.length_append]; have := HLL9.out; simp; omega)
    have HA : Hid (OutD (0 + 1) N s (def5P T D a4) N13 l13) := Lib.hid (by rw [← hl13]; exact (OutD.app HA.out HTD.out HD1.out).weak (by decide))
    have HDD : Hid (s.e ≠ 0 → (def5P T D a4).2.e ≠ 0) := Lib.hid (fun h => HD1.out (HDD.out h))
    clear hk ho hd hl13 HT HTD
    go_wp2_with (at_builtin; go_loud (refine wpList_kx rfl _ _ rfl (HK.out.ints3 v11 v12 v13) (List.sublist_cons_self _ _) rfl rfl (l2 := [v11, v12, v13]) rfl (vat3 _ _ _ _) (by have := HLL9.out; omega) (by simp) ?_))
    intro kv14 w14 hk14
    rw [HE13.out] at hk14
    have HK : Hid (KX b bb T D 0 A vn w w14 (def5P T D a4).2 (def5P T D a4).2.i N13 vn13 [(kv14, .ints l13)]) := Lib.hid hk14
    have d0 := HK.out.cell
    clear hk14 HE13
    go_wp2_with fail
    refine (KX.node (k := 0) (kind := 3) HK.out (List.mem_cons_self ..) HCC.out.len HA.out rfl HFEW.out (by have := HL13.out; omega)).mono ?_
    rintro e w15 ⟨v15, N15, vn15, rfl, hk15, ho15⟩
    have HQ := Lib.hid (KX.fin ho15 hk15 HDD.out (r' := defT T (NT T D 0).expr s) (by rw [← HA4.out, ← HA3.out, ← HA2.out, ← HA1.out, ← HAE.out]; exact defP_eqv T D s (Nat.le_of_lt (by rw [HAE.out, HA1.out]; exact HCI.out))))
    clear hk15 ho15 d0
    go_wp2_with fail
    go_ret
    exact HQ.out
  · have HLJ := Lib.hid (is_kind HV0.out)
    go_wp2_with fail
    refine (HK.out.take HCC.out HLJ.out.1 HLJ.out.2).mono ?_
    rintro e w1 ⟨v0, N0, vn0, rfl, hk, ho, hd⟩
    have HK := Lib.hid hk; have HO := Lib.hid ho.out
    clear hk ho hd
    go_wp2_with (at_builtin; go_loud (refine wpList_kx rfl _ _ rfl (HK.out.ints1 v0) (List.sublist_cons_self _ _) rfl rfl (l2 := [v0]) rfl (vat1 _ _) (by simp) (by simp) ?_))
    intro kv0 w2 hk2
    obtain ⟨a, vs, HAE, HK, HA, HVS, HDD, HIN⟩ : ∃ (a : RT) (vs : List Int), Hid (defAT T s = a) ∧ Hid (KX b bb T D 0 A vn w w2 a.2 a.2.i N0 vn0 [(kv0, .ints vs)]) ∧ Hid (OutL 0 N s a N0 vs) ∧ Hid (vs.length ≤ 3) ∧ Hid (s.e ≠ 0 → a.2.e ≠ 0) ∧ Hid (a.2.inn = false) :=
      ⟨leafT T s, [v0], Lib.hid (by unfold defAT; rw [if_pos HV0.out]), Lib.hid hk2, Lib.hid (HO.out.weak (by decide)), Lib.hid (by simp), Lib.hid (fun h => absurd HLJ.out.2 h), Lib.hid ((leaf_keep T HLJ.out.2).inn.trans HPP.out)⟩
    have HDB := Lib.hid (HDB.out a)
    clear hk2 HO
    go_wp2_with fail
    refine (KX.one1 [102, 117, 110] (HK.out.strs1 _ _) HCC.out (by decide) ⟨_, by simp, List.mem_cons_self ..⟩).mono ?_
    rintro e w1 ⟨v1, N1, vn1, rfl, hk, ho, hd⟩
    have HK := Lib.hid (hk.few (List.sublist_cons_self _ _)); have HT := Lib.hid ho.out; have HDD := Lib.hid (fun h => hd (HDD.out h)); have HIN := Lib.hid ((must_keep T [102, 117, 110] _).inn.trans HIN.out)
    clear hk ho hd
    go_wp2_with fail
    refine (HK.out.word HCC.out).mono ?_
    rintro e w2 ⟨v2, N2, vn2, rfl, hk, ho, hd⟩
    have HK := Lib.hid hk; have HT := Lib.hid (HT.out.app ho.out hd); have HDD := Lib.hid (fun h => hd (HDD.out h)); have HIN := Lib.hid ((kind_keep T 1 _).inn.trans HIN.out)
    clear hk ho hd
    go_wp2_with fail
    refine (KX.one1 [40] (HK.out.strs1 _ _) HCC.out (by decide) ⟨_, by simp, List.mem_cons_self ..⟩).mono ?_
    rintro e w3 ⟨v3, N3, vn3, rfl, hk, ho, hd⟩
    have HK := Lib.hid (hk.few (List.sublist_cons_self _ _)); have HT := Lib.hid (HT.out.app ho.out hd); have HDD := Lib.hid (fun h => hd (HDD.out h)); have HIN := Lib.hid ((must_keep T [40] _).inn.trans HIN.out)
    obtain ⟨l3, hl3⟩ : ∃ l3, vs ++ [v1, v2, v3] = l3 := ⟨_, rfl⟩
    have HE3 := Lib.hid hl3; have HL3 : Hid (l3.length ≤ 10) := Lib.hid (by rw [← hl3, List.length_append]; have := HVS.out; simp; omega)
    have HA : Hid (OutL 1 N s (defBT T a) N3 l3) := Lib.hid (by rw [← hl3]; exact (OutL.app HA.out HT.out HDB.out).weak (by decide))
    clear hk ho hd hl3 HT
    go_wp2_with (at_builtin; go_loud (refine wpList_kx rfl _ _ rfl (HK.out.ints3 v1 v2 v3) (List.sublist_cons_self _ _) rfl rfl (l2 := [v1, v2, v3]) rfl (vat3 _ _ _ _) (by have := HVS.out; omega) (by simp) ?_))
    intro kv4 w4 hk4
    rw [HE3.out] at hk4
    obtain ⟨a1, ha1⟩ : ∃ a1, defBT T a = a1 := ⟨_, rfl⟩
    have HA1 := Lib.hid ha1
    have HK : Hid (KX b bb T D 0 A vn w w4 a1.2 a1.2.i N3 vn3 [(kv4, .ints l3)]) := Lib.hid (by rw [← ha1]; exact hk4)
    have HDD : Hid (s.e ≠ 0 → a1.2.e ≠ 0) := Lib.hid (by rw [← ha1]; exact HDD.out)
    have HIN : Hid (a1.2.inn = false) := Lib.hid (by rw [← ha1]; exact HIN.out)
    rw [ha1] at HA
    have HCI := Lib.hid HK.out.ok
    clear hk4 ha1 HE3
    go_wp2_with fail
    refine (HPA.out _ _ _ _ _ HK.out HIN.out).mono ?_
    rintro e w5 ⟨lv, ls, N5, vn5, rfl, hk7, ho7, hd7, hl7⟩
    obtain ⟨q5, c5, rfl, hv7, -, -⟩ := hk7.list (List.mem_cons_self ..)
    have HK := Lib.hid hk7; have HVV := Lib.hid hv7; have HL5 := Lib.hid hl7; have HDD := Lib.hid (fun h => hd7 (HDD.out h)); have HIN := Lib.hid (listP_inn (T := T) (sub := parT T (NT T D 0).expr) (fun s h => par_inn (T := T) (D := D) s h) _ HIN.out)
    obtain ⟨l5, hl5⟩ : ∃ l5, l3 ++ ls = l5 := ⟨_, rfl⟩
    have HE5 := Lib.hid hl5; have HLL5 : Hid (l5.length ≤ 320) := Lib.hid (by rw [← hl5, List.length_append]; have := HL3.out; omega)
    have HA : Hid (OutL 1 N s (def2P T D a1) N5 l5) := Lib.hid (by rw [← hl5]; exact (HA.out.app ho7 hd7).weak (by decide))
    obtain ⟨m5, hm5⟩ : ∃ m5, ls.length = m5 := ⟨_, rfl⟩
    have HM5 := Lib.hid hm5
    rw [hm5] at HK ⊢
    clear hk7 ho7 hd7 hl7 hv7 hl5 hm5
    go_wp2_with (at_builtin; go_loud (refine wpList_kx rfl _ _ rfl HK.out (List.sublist_cons_self _ _) rfl rfl (l2 := ls) HM5.out HVV.out (by have := HL3.out; omega) (by have := HL5.out; omega) ?_))
    intro kv6 w6 hk6
    rw [HE5.out] at hk6
    obtain ⟨a2, ha2⟩ : ∃ a2, def2P T D a1 = a2 := ⟨_, rfl⟩
    have HA2 := Lib.hid ha2
    have HK : Hid (KX b bb T D 0 A vn w w6 a2.2 a2.2.i N5 vn5 [(kv6, .ints l5)]) := Lib.hid (by rw [← ha2]; exact hk6)
    have HDD : Hid (s.e ≠ 0 → a2.2.e ≠ 0) := Lib.hid (by rw [← ha2]; exact HDD.out)
    have HIN : Hid (a2.2.inn = false) := Lib.hid (by rw [← ha2]; exact HIN.out)
    rw [ha2] at HA
    clear hk6 ha2 HE5 HVV HM5
    go_wp2_with fail
    refine (KX.one1 [41] (HK.out.strs1 _ _) HCC.out (by decide) ⟨_, by simp, List.mem_cons_self ..⟩).mono ?_
    rintro e w7 ⟨v7, N7, vn7, rfl, hk, ho, hd⟩
    have HK := Lib.hid (hk.few (List.sublist_cons_self _ _)); have HDD := Lib.hid (fun h => hd (HDD.out h)); have HIN := Lib.hid ((must_keep T [41] _).inn.trans HIN.out)
    obtain ⟨l7, hl7⟩ : ∃ l7, l5 ++ [v7] = l7 := ⟨_, rfl⟩
    have HE7 := Lib.hid hl7; have HL7 : Hid (l7.length ≤ 321) := Lib.hid (by rw [← hl7, List.length_append]; have := HLL5.out; simp; omega)
    have HA : Hid (OutL 1 N s (def3P T a2) N7 l7) := Lib.hid (by rw [← hl7]; exact (HA.out.app ho.out hd).weak (by decide))
    clear hk ho hd hl7
    go_wp2_with (at_builtin; go_loud (refine wpList_kx rfl _ _ rfl (HK.out.ints1 v7) (List.sublist_cons_self _ _) rfl rfl (l2 := [v7]) rfl (vat1 _ _) (by have := HLL5.out; omega) (by simp) ?_))
    intro kv8 w8 hk8
    rw [HE7.out] at hk8
    obtain ⟨a3, ha3⟩ : ∃ a3, def3P T a2 = a3 := ⟨_, rfl⟩
    have HA3 := Lib.hid ha3
    have HK : Hid (KX b bb T D 0 A vn w w8 a3.2 a3.2.i N7 vn7 [(kv8, .ints l7)]) := Lib.hid (by rw [← ha3]; exact hk8)
    have HDD : Hid (s.e ≠ 0 → a3.2.e ≠ 0) := Lib.hid (by rw [← ha3]; exact HDD.out)
    have HIN : Hid (a3.2.inn = false) := Lib.hid (by rw [← ha3]; exact HIN.out)
    rw [ha3] at HA
    clear hk8 ha3 HE7
    go_wp2_with fail
    refine (HTY.out _ _ _ _ _ HK.out HIN.out).mono ?_
    rintro e w9 ⟨lv, lt, N9, vn9, rfl, hk9, ho9, hd9, hl9⟩
    obtain ⟨q9, c9, rfl, hv9, -, -⟩ := hk9.list (List.mem_cons_self ..)
    have HK := Lib.hid hk9; have HVV := Lib.hid hv9; have HL9 := Lib.hid hl9; have HDD := Lib.hid (fun h => hd9 (HDD.out h)); have HIN := Lib.hid (typed_inn (T := T) (D := D) _ HIN.out)
    obtain ⟨l9, hl99⟩ : ∃ l9, l7 ++ lt = l9 := ⟨_, rfl⟩
    have HE9 := Lib.hid hl99; have HLL9 : Hid (l9.length ≤ 630) := Lib.hid (by rw [← hl99, List.length_append]; have := HL7.out; omega)
    have HA : Hid (OutL 1 N s (def4P T D a3) N9 l9) := Lib.hid (by rw [← hl99]; exact (HA.out.app ho9.out hd9).weak (by decide))
    obtain ⟨m9, hm9⟩ : ∃ m9, lt.length = m9 := ⟨_, rfl⟩
    have HM9 := Lib.hid hm9
    rw [hm9] at HK ⊢
    clear hk9 ho9 hd9 hl9 hv9 hl99 hm9
    go_wp2_with (at_builtin; go_loud (refine wpList_kx rfl _ _ rfl HK.out (List.sublist_cons_self _ _) rfl rfl (l2 := lt) HM9.out HVV.out (by have := HL7.out; omega) (by have := HL9.out; omega) ?_))
    intro kv10 w10 hk10
    rw [HE9.out] at hk10
    obtain ⟨a4, ha4⟩ : ∃ a4, def4P T D a3 = a4 := ⟨_, rfl⟩
    have HA4 := Lib.hid ha4
    have HK : Hid (KX b bb T D 0 A vn w w10 a4.2 a4.2.i N9 vn9 [(kv10, .ints l9)]) := Lib.hid (by rw [← ha4]; exact hk10)
    have HDD : Hid (s.e ≠ 0 → a4.2.e ≠ 0) := Lib.hid (by rw [← ha4]; exact HDD.out)
    have HIN : Hid (a4.2.inn = false) := Lib.hid (by rw [← ha4]; exact HIN.out)
    rw [ha4] at HA
    clear hk10 ha4 HE9 HVV HM9
    go_wp2_with fail
    refine (KX.one1 [61] (HK.out.strs1 _ _) HCC.out (by decide) ⟨_, by simp, List.mem_cons_self ..⟩).mono ?_
    rintro e w11 ⟨v11, N11, vn11, rfl, hk, ho, hd⟩
    have HK := Lib.hid (hk.few (List.sublist_cons_self _ _)); have HT := Lib.hid ho.out; have HD1 := Lib.hid hd; have HIN := Lib.hid ((must_keep T [61] _).inn.trans HIN.out)
    clear hk ho hd
    go_wp2_with fail
    refine (HK.out.call (fun A h => HNE.out _ _ _ A _ HIN.out h)).mono ?_
    rintro e w12 ⟨v12, N12, vn12, rfl, hk, ho, hd⟩
    have HK := Lib.hid hk; have HT := Lib.hid (HT.out.app ho.out hd); have HD1 := Lib.hid (fun h => hd (HD1.out h))
    clear hk ho hd
    go_wp2_with fail
    refine (KX.one1 [59] (HK.out.strs1 _ _) HCC.out (by decide) ⟨_, by simp, List.mem_cons_self ..⟩).mono ?_
    rintro e w13 ⟨v13, N13, vn13, rfl, hk, ho, hd⟩
    have HK := Lib.hid (hk.few (List.sublist_cons_self _ _)); have HTD := Lib.hid (OutD.app HT.out ho hd); have HD1 := Lib.hid (fun h => hd (HD1.out h))
    obtain ⟨l13, hl13⟩ : ∃ l13, l9 ++ [v11, v12, v13] = l13 := ⟨_, rfl⟩
    have HE13 := Lib.hid hl13; have HL13 : Hid (l13.length ≤ 640) := Lib.hid (by rw [← hl13, List.length_append]; have := HLL9.out; simp; omega)
    have HA : Hid (OutD (0 + 1) N s (def5P T D a4) N13 l13) := Lib.hid (by rw [← hl13]; exact (OutD.app HA.out HTD.out HD1.out).weak (by decide))
    have HDD : Hid (s.e ≠ 0 → (def5P T D a4).2.e ≠ 0) := Lib.hid (fun h => HD1.out (HDD.out h))
    clear hk ho hd hl13 HT HTD
    go_wp2_with (at_builtin; go_loud (refine wpList_kx rfl _ _ rfl (HK.out.ints3 v11 v12 v13) (List.sublist_cons_self _ _) rfl rfl (l2 := [v11, v12, v13]) rfl (vat3 _ _ _ _) (by have := HLL9.out; omega) (by simp) ?_))
    intro kv14 w14 hk14
    rw [HE13.out] at hk14
    have HK : Hid (KX b bb T D 0 A vn w w14 (def5P T D a4).2 (def5P T D a4).2.i N13 vn13 [(kv14, .ints l13)]) := Lib.hid hk14
    have d0 := HK.out.cell
    clear hk14 HE13
    go_wp2_with fail
    refine (KX.node (k := 0) (kind := 3) HK.out (List.mem_cons_self ..) HCC.out.len HA.out rfl HFEW.out (by have := HL13.out; omega)).mono ?_
    rintro e w15 ⟨v15, N15, vn15, rfl, hk15, ho15⟩
    have HQ := Lib.hid (KX.fin ho15 hk15 HDD.out (r' := defT T (NT T D 0).expr s) (by rw [← HA4.out, ← HA3.out, ← HA2.out, ← HA1.out, ← HAE.out]; exact defP_eqv T D s (Nat.le_of_lt (by rw [HAE.out, HA1.out]; exact HCI.out))))
    clear hk15 ho15 d0
    go_wp2_with fail
    go_ret
    exact HQ.out
end
end Go.Proofs.YtoahgeleenpnjaaGreatDoor
namespace Go.Proofs.YtoahgeleenpnjaaGreatDoor
open Go.RowKit

def imT (T : List Tok) (s : St) : RT := ([.nd 2 ((mustT T [105, 109, 112, 111, 114, 116] s).1 ++ (kindT T 1 (mustT T [105, 109, 112, 111, 114, 116] s).2).1 ++ (mustT T [59] (kindT T 1 (mustT T [105, 109, 112, 111, 114, 116] s).2).2).1)], (mustT T [59] (kindT T 1 (mustT T [105, 109, 112, 111, 114, 116] s).2).2).2)
theorem imT_step {T : List Tok} {r : RT} (h : isQ T [105, 109, 112, 111, 114, 116] r.2 = true) : impStepT T r = (r.1 ++ (imT T r.2).1, (imT T r.2).2) := by
  have e : mustT T [105, 109, 112, 111, 114, 116] r.2 = leafT T r.2 := by unfold mustT; rw [if_pos h]
  unfold impStepT imT
  rw [e]
theorem imT_less {T : List Tok} {s : St} (h : isQ T [105, 109, 112, 111, 114, 116] s = true) : s.i < (imT T s).2.i := by
  have e : mustT T [105, 109, 112, 111, 114, 116] s = leafT T s := by unfold mustT; rw [if_pos h]
  have h1 := leaf_i (T := T) (is_kind h).1
  have h2 := (kind_good T 1 (leafT T s).2).mono
  have h3 := (must_good T [59] (kindT T 1 (leafT T s).2).2).mono
  show s.i < (mustT T [59] (kindT T 1 (mustT T [105, 109, 112, 111, 114, 116] s).2).2).2.i
  rw [e]; omega
theorem defT_less {T : List Tok} {D : Nat} {s : St} (h : isDef T s = true) : s.i < (defT T (NT T D 0).expr s).2.i := by
  have hx := (nx_good T D (D - 0)).expr
  have hg : ∀ a : RT, Good T a.2 (defDT T (NT T D 0).expr (defCT T (NT T D 0).expr a)) := fun a => defD_good T hx (defC_good T hx (Good.self T a))
  have key : s.i < (defBT T (defAT T s)).2.i := by
    unfold defAT
    by_cases hp : isQ T [112, 117, 98] s = true
    · rw [if_pos hp]
      have h1 := leaf_i (T := T) (is_kind hp).1
      have h2 := (defB_good T (Good.self T (leafT T s))).mono
      omega
    · rw [if_neg hp]
      have hf : isQ T [102, 117, 110] s = true := by
        unfold isDef at h
        rcases Bool.or_eq_true_iff.1 h with h | h
        · exact absurd h hp
        · exact h
      have e : mustT T [102, 117, 110] s = leafT T s := by unfold mustT; rw [if_pos hf]
      have h1 := leaf_i (T := T) (is_kind hf).1
      show s.i < (mustT T [40] (kindT T 1 (mustT T [102, 117, 110] s).2).2).2.i
      rw [e]
      have h2 := (kind_good T 1 (leafT T s).2).mono
      have h3 := (must_good T [40] (kindT T 1 (leafT T s).2).2).mono
      omega
  have := (hg (defBT T (defAT T s))).mono
  show s.i < (defDT T (NT T D 0).expr (defCT T (NT T D 0).expr (defBT T (defAT T s)))).2.i
  omega

/-- Many, as the program goes at them. -/
def rowP (T : List Tok) (c : St → Bool) (sub : St → RT) (most : Nat) : Nat → Nat → RT → RT
  | 0, _, r => r
  | f + 1, k, r => if c r.2 = true then (if k = most then (r.1, failQ T 15 r.2) else rowP T c sub most f (k + 1) (r.1 ++ (sub r.2).1, (sub r.2).2)) else r
theorem rowP_many {T : List Tok} {c : St → Bool} {sub : St → RT} {step : RT → RT} {most : Nat} (hs : ∀ r, c r.2 = true → step r = (r.1 ++ (sub r.2).1, (sub r.2).2)) : ∀ f k r, Eqv (rowP T c sub most f k r) (manyT T c step most f k r).2
  | 0, k, r => Eqv.refl _
  | f + 1, k, r => by
    unfold rowP manyT
    split
    · rename_i hc
      split
      · exact ⟨rfl, fun e => absurd e (fail_e T (by decide) _)⟩
      · rw [hs r hc]; exact rowP_many hs f _ _
    · exact Eqv.refl _
theorem rowP_stop {T : List Tok} {c : St → Bool} {sub : St → RT} {most k : Nat} {r : RT} (hc : c r.2 = false) : ∀ f, rowP T c sub most f k r = r
  | 0 => rfl
  | f + 1 => by unfold rowP; rw [hc]; rfl
def LeftM (T : List Tok) (c : St → Bool) (sub : St → RT) (most : Nat) (R : RT) (k : Nat) (r : RT) : Prop := ∃ f, T.length - r.2.i + 1 ≤ f ∧ rowP T c sub most f k r = R
theorem LeftM.stop {T : List Tok} {c : St → Bool} {sub : St → RT} {most k : Nat} {R r : RT} (h : LeftM T c sub most R k r) (hc : c r.2 = false) : R = r := by
  obtain ⟨f, -, hf⟩ := h; rw [← hf, rowP_stop hc]
theorem LeftM.full {T : List Tok} {c : St → Bool} {sub : St → RT} {most : Nat} {R r : RT} (h : LeftM T c sub most R most r) (hc : c r.2 = true) : R = (r.1, failQ T 15 r.2) := by
  obtain ⟨f, hf, hr⟩ := h
  obtain ⟨g, rfl⟩ : ∃ g, f = g + 1 := ⟨f - 1, by omega⟩
  unfold rowP at hr
  rw [if_pos hc, if_pos rfl] at hr
  exact hr.symm
theorem LeftM.next {T : List Tok} {c : St → Bool} {sub : St → RT} {most k : Nat} {R r : RT} (h : LeftM T c sub most R k r) (hc : c r.2 = true) (hk : k ≠ most) (hi : r.2.i < T.length) (hl : r.2.i < (sub r.2).2.i) : LeftM T c sub most R (k + 1) (r.1 ++ (sub r.2).1, (sub r.2).2) := by
  obtain ⟨f, hf, hr⟩ := h
  obtain ⟨g, rfl⟩ : ∃ g, f = g + 1 := ⟨f - 1, by omega⟩
  refine ⟨g, by show T.length - (sub r.2).2.i + 1 ≤ g; omega, ?_⟩
  unfold rowP at hr
  rw [if_pos hc, if_neg hk] at hr
  exact hr

section
variable (b bb : Nat) (T : List Tok) (D n : Nat)

set_option maxRecDepth 100000 in
set_option maxHeartbeats 8000000 in
theorem imported_p (hC : TokC T) : SubI b bb T D n (fun s => isQ T [105, 109, 112, 111, 114, 116] s = true) 50 (imT T) := by
  intro s N vn A w hP h
  have HCC := Lib.hid hC
  have HLI := Lib.hid (is_kind hP)
  have HKS1 : Hid ([105, 109, 112, 111, 114, 116] ∈ KS) := Lib.hid (by decide)
  have HKS2 : Hid ([59] ∈ KS) := Lib.hid (by decide)
  have HFEW := Lib.hid h.few
  have HK := Lib.hid (KX.start h)
  have HA := Lib.hid (OutL.nil N s)
  clear h hC hP
  go_enter Tryz.func50, Tryz.ntmps50
  go_wp2_with fail
  have HKD := HK
  have HK := Lib.hid HK.out.drew
  go_region_held3 (fun w' => w'.cell? ⟨b, 0, none⟩ = some (.pointer (some ⟨bb, 0, none⟩))) (first | with_reducible exact HK.out.cell | with_reducible exact (HK.out.alloc _).cell | with_reducible exact (HKD.out.alloc _).drew.cell | with_reducible exact ((HK.out.alloc _).alloc _).cell | with_reducible exact ((HKD.out.alloc _).alloc _).drew.cell | with_reducible exact (((HK.out.alloc _).alloc _).alloc _).cell)
    (first
      | (go_at_call 52; have HDW := Lib.hid (HD.out.weak (j := 0 + 1) (by decide)); refine (KX.node (k := 0) (kind := 2) (HK.out.ints3 _ _ _ ) ?_ HCC.out.len HDW.out ?_ HFEW.out ?_).mono ?_; exact List.mem_cons_self ..; rfl; simp; rintro e w9 ⟨v9, N9, vn9, rfl, hk9, ho9⟩; have HK := Lib.hid hk9; have HZ := Lib.hid ho9; clear hk9 ho9)
      | (go_at_call 53; (first | with_reducible refine (HK.out.word HCC.out).mono ?_ | with_reducible refine ((HK.out.strs1 _ _).word HCC.out).mono ?_ | with_reducible refine ((HKD.out.strs1 _ _).drew.word HCC.out).mono ?_ | with_reducible refine (((HK.out.strs1 _ _).strs1 _ _).word HCC.out).mono ?_ | with_reducible refine (((HKD.out.strs1 _ _).strs1 _ _).drew.word HCC.out).mono ?_); rintro e w9 ⟨v9, N9, vn9, rfl, hk9, ho9, hd9⟩; have HK := Lib.hid hk9; have HD := Lib.hid (OutD.app HA.out ho9 hd9); have HA := Lib.hid HD.out.out; clear hk9 ho9 hd9)
      | (go_at_call 80; (first | with_reducible refine (KX.one1 [105, 109, 112, 111, 114, 116] HK.out HCC.out HKS1.out ?_).mono ?_ | with_reducible refine (KX.one1 [105, 109, 112, 111, 114, 116] (HK.out.strs1 _ _) HCC.out HKS1.out ?_).mono ?_ | with_reducible refine (KX.one1 [105, 109, 112, 111, 114, 116] (HKD.out.strs1 _ _).drew HCC.out HKS1.out ?_).mono ?_ | with_reducible refine (KX.one1 [105, 109, 112, 111, 114, 116] ((HK.out.strs1 _ _).strs1 _ _) HCC.out HKS1.out ?_).mono ?_ | with_reducible refine (KX.one1 [105, 109, 112, 111, 114, 116] ((HKD.out.strs1 _ _).strs1 _ _).drew HCC.out HKS1.out ?_).mono ?_); (first | (refine ⟨_, ?_, List.mem_cons_self ..⟩; focus (simp; done)) | (refine ⟨_, ?_, List.mem_cons_of_mem _ (List.mem_cons_self ..)⟩; focus (simp; done)) | (refine ⟨_, ?_, List.mem_cons_of_mem _ (List.mem_cons_of_mem _ (List.mem_cons_self ..))⟩; focus (simp; done))); rintro e w9 ⟨v9, N9, vn9, rfl, hk9, ho9, hd9⟩; have HK := Lib.hid hk9; have HD := Lib.hid (OutD.app HA.out ho9 hd9); have HA := Lib.hid HD.out.out; clear hk9 ho9 hd9)
      | (go_at_call 80; (first | with_reducible refine (KX.one1 [59] HK.out HCC.out HKS2.out ?_).mono ?_ | with_reducible refine (KX.one1 [59] (HK.out.strs1 _ _) HCC.out HKS2.out ?_).mono ?_ | with_reducible refine (KX.one1 [59] (HKD.out.strs1 _ _).drew HCC.out HKS2.out ?_).mono ?_ | with_reducible refine (KX.one1 [59] ((HK.out.strs1 _ _).strs1 _ _) HCC.out HKS2.out ?_).mono ?_ | with_reducible refine (KX.one1 [59] ((HKD.out.strs1 _ _).strs1 _ _).drew HCC.out HKS2.out ?_).mono ?_); (first | (refine ⟨_, ?_, List.mem_cons_self ..⟩; focus (simp; done)) | (refine ⟨_, ?_, List.mem_cons_of_mem _ (List.mem_cons_self ..)⟩; focus (simp; done)) | (refine ⟨_, ?_, List.mem_cons_of_mem _ (List.mem_cons_of_mem _ (List.mem_cons_self ..))⟩; focus (simp; done))); rintro e w9 ⟨v9, N9, vn9, rfl, hk9, ho9, hd9⟩; have HK := Lib.hid hk9; have HD := Lib.hid (OutD.app HA.out ho9 hd9); have HA := Lib.hid HD.out.out; clear hk9 ho9 hd9))
  all_goals
    have HQ := Lib.hid (KX.fin HZ.out HK.out (fun he => absurd HLI.out.2 he) (r' := imT T s) (Eqv.refl _))
    go_wp2_with fail
    go_ret
    exact HQ.out

set_option maxRecDepth 100000 in
set_option maxHeartbeats 8000000 in
theorem row_imported (hC : TokC T) (P : St → Prop) (sub : St → RT) (most : Nat) (hmost : most ≤ 100) (hS : SubI b bb T D n P 50 sub) (hI : ∀ s, s.inn = false → (sub s).2.inn = false) (ws : List (List UInt8)) (hn : ws.length ≤ 100) (hP : ∀ s, s.inn = false → atQ T ws s = true → P s) (hl : ∀ s, atQ T ws s = true → s.i < (sub s).2.i) {A0 : Nat → Prop} {vn0 : Value} {w0 w : World} {s : St} {N : List Nd} {vn v : Value} {L : List (Value × Th)} (hk : KX b bb T D n A0 vn0 w0 w s s.i N vn L) (hm : (v, Th.strs ws) ∈ L) (hi : s.inn = false) :
    Calls Tryz.prog 49 #[.pointer (some ⟨b, 0, none⟩), .int .i64 (most : Int), .func (.func 50) #[] #[], v] w fun e w' => CLPost b bb T D n 0 A0 vn0 w0 s (rowP T (atQ T ws) sub most (fuelQ T s) 0 ([], s)) N L e w' ∧ (rowP T (atQ T ws) sub most (fuelQ T s) 0 ([], s)).2.inn = false := by
  have HCC := Lib.hid hC; have HS := Lib.hid hS; have HI := Lib.hid hI; have HM := Lib.hid hm; have HWN := Lib.hid hn; have HPP := Lib.hid hP; have HLS := Lib.hid hl; have HMO := Lib.hid hmost
  have HK := Lib.hid hk
  have HIN := Lib.hid hi
  obtain ⟨R, hR⟩ : ∃ R, rowP T (atQ T ws) sub most (fuelQ T s) 0 ([], s) = R := ⟨_, rfl⟩
  have HST : Hid (LeftM T (atQ T ws) sub most R 0 ([], s)) := Lib.hid ⟨_, Nat.le_refl _, hR⟩
  rw [hR]
  clear hC hS hI hm hn hP hl hk hi hR
  go_enter Tryz.func49, Tryz.ntmps49
  go_wp2_with fail
  go_loopw [9] (fun kv wr => ∃ (k : Nat) (r : RT) (N' : List Nd) (vn' : Value) (vs : List Int) (p : Option Addr) (c : Nat), kv = .slice p k c ∧ Hid (vs.length = k) ∧ Hid (k ≤ most) ∧ Hid (KX b bb T D n A0 vn0 w0 wr r.2 r.2.i N' vn' ((.slice p k c, .ints vs) :: L)) ∧ Hid (OutL 0 N s r N' vs) ∧ Hid (LeftM T (atQ T ws) sub most R k r) ∧ Hid (s.e ≠ 0 → r.2.e ≠ 0) ∧ Hid (r.2.inn = false)) (fun _ wr => T.length - uOf wr bb)
  case atStart => exact ⟨0, ([], s), N, vn, [], none, 0, rfl, Lib.hid rfl, Lib.hid (Nat.zero_le _), Lib.hid HK.out.nilS, Lib.hid (OutL.nil N s), HST, Lib.hid (fun h => h), HIN⟩
  case round =>
    clear HK HST HIN
    obtain ⟨k, r, N', vn', vs, p, c, rfl, HVS, HKM, HK, HA, HL, HDD, HIN⟩ := hrel
    have HKR : Hid (KX b bb T D n A0 vn0 w0 wr r.2 r.2.i N' vn' ((.slice p k c, .ints vs) :: L)) := HK
    go_wp2_with fail
    refine (KX.at HK.out (List.mem_cons_of_mem _ HM.out) HWN.out).mono ?_
    rintro e w2 ⟨rfl, hk⟩
    have HK := Lib.hid hk
    obtain ⟨a, ha⟩ : ∃ a, atQ T ws r.2 = a := ⟨_, rfl⟩
    rw [ha]
    have HV := Lib.hid ha
    clear hk ha
    cases a
    · have HE := Lib.hid (HL.out.stop HV.out)
      go_wp2_with fail
      go_ret
      rw [HE.out]
      exact ⟨⟨_, vs, N', vn', rfl, HK.out, HA.out, HDD.out, by have := HVS.out; have := HKM.out; have := HMO.out; omega⟩, HIN.out⟩
    · by_cases hkm : k = most
      · have d1 : ((k : Int) == (most : Int)) = true := by rw [hkm]; simp
        have d1' : (k == most) = true := by rw [hkm]; simp
        have HE : Hid (R = (r.1, failQ T 15 r.2)) := Lib.hid (by have h9 := HL.out; rw [hkm] at h9; exact h9.full HV.out)
        clear hkm
        go_wp2_with fail
        refine (HK.out.fail 15 (by decide)).mono ?_
        rintro e w3 ⟨v9, N9, vn9, rfl, hk9, ho9, hd9⟩
        have HK := Lib.hid hk9; have HA := Lib.hid (HA.out.app ho9.out hd9); have HDD := Lib.hid (fun h => hd9 (HDD.out h))
        clear hk9 ho9 hd9
        go_wp2_with fail
        go_ret
        rw [HE.out]
        exact ⟨⟨_, vs, N9, vn9, rfl, HK.out, ⟨fun e => absurd e (fail_e T (by decide) _), HA.out.2⟩, HDD.out, by have := HVS.out; have := HKM.out; have := HMO.out; omega⟩, (fail_keep T 15 r.2 r.1).inn.trans HIN.out⟩
      · have d1 : ((k : Int) == (most : Int)) = false := beq_eq_false_iff_ne.2 (by omega)
        have d1' : (k == most) = false := beq_eq_false_iff_ne.2 hkm
        have HNX := Lib.hid (HL.out.next HV.out hkm HK.out.ok (HLS.out _ HV.out))
        have HKK : Hid (k + 1 ≤ most) := Lib.hid (by have := HKM.out; omega)
        clear hkm
        go_wp2_with fail
        refine (HK.out.sub HS.out (HPP.out _ HIN.out HV.out)).mono ?_
        rintro e w3 ⟨v9, N9, vn9, rfl, hk9, ho9, hd9⟩
        have HK := Lib.hid hk9; have HA := Lib.hid (HA.out.app ho9.out hd9); have HDD := Lib.hid (fun h => hd9 (HDD.out h)); have HIN := Lib.hid (HI.out _ HIN.out)
        obtain ⟨l9, hl9⟩ : ∃ l9, vs ++ [v9] = l9 := ⟨_, rfl⟩
        have HE9 := Lib.hid hl9
        have HLN : Hid (l9.length = k + 1) := Lib.hid (by rw [← hl9, List.length_append, HVS.out]; rfl)
        rw [hl9] at HA
        clear hk9 ho9 hd9 hl9
        go_wp2_with (at_builtin; go_loud (refine wpList_kx rfl _ _ rfl (HK.out.ints1 v9) (List.sublist_cons_self _ _) rfl rfl (l2 := [v9]) rfl (vat1 _ _) (by have := HVS.out; have := HKM.out; have := HMO.out; omega) (by simp) ?_))
        intro kv2 w4 hk4
        rw [HE9.out] at hk4
        obtain ⟨p2, c2, rfl, -, -, -⟩ := hk4.list (List.mem_cons_self ..)
        rw [HLN.out] at hk4 ⊢
        have HK := Lib.hid hk4
        have HME : Hid (T.length - uOf w4 bb < T.length - uOf wr bb) := Lib.hid (by rw [hk4.used, HKR.out.used]; have h5 := HLS.out _ HV.out; have h6 := HKR.out.ok; have h7 := hk4.ok; omega)
        clear hk4
        go_wp2_with fail
        go_roundw
        case rel => exact ⟨k + 1, (r.1 ++ (sub r.2).1, (sub r.2).2), N9, vn9, l9, p2, c2, rfl, HLN, HKK, HK, Lib.hid HA.out, HNX, HDD, HIN⟩
        case measure => exact HME.out

set_option maxRecDepth 100000 in
set_option maxHeartbeats 8000000 in
theorem row_definition (hC : TokC T) (P : St → Prop) (sub : St → RT) (most : Nat) (hmost : most ≤ 100) (hS : SubI b bb T D n P 51 sub) (hI : ∀ s, s.inn = false → (sub s).2.inn = false) (ws : List (List UInt8)) (hn : ws.length ≤ 100) (hP : ∀ s, s.inn = false → atQ T ws s = true → P s) (hl : ∀ s, atQ T ws s = true → s.i < (sub s).2.i) {A0 : Nat → Prop} {vn0 : Value} {w0 w : World} {s : St} {N : List Nd} {vn v : Value} {L : List (Value × Th)} (hk : KX b bb T D n A0 vn0 w0 w s s.i N vn L) (hm : (v, Th.strs ws) ∈ L) (hi : s.inn = false) :
    Calls Tryz.prog 49 #[.pointer (some ⟨b, 0, none⟩), .int .i64 (most : Int), .func (.func 51) #[] #[], v] w fun e w' => CLPost b bb T D n 0 A0 vn0 w0 s (rowP T (atQ T ws) sub most (fuelQ T s) 0 ([], s)) N L e w' ∧ (rowP T (atQ T ws) sub most (fuelQ T s) 0 ([], s)).2.inn = false := by
  have HCC := Lib.hid hC; have HS := Lib.hid hS; have HI := Lib.hid hI; have HM := Lib.hid hm; have HWN := Lib.hid hn; have HPP := Lib.hid hP; have HLS := Lib.hid hl; have HMO := Lib.hid hmost
  have HK := Lib.hid hk
  have HIN := Lib.hid hi
  obtain ⟨R, hR⟩ : ∃ R, rowP T (atQ T ws) sub most (fuelQ T s) 0 ([], s) = R := ⟨_, rfl⟩
  have HST : Hid (LeftM T (atQ T ws) sub most R 0 ([], s)) := Lib.hid ⟨_, Nat.le_refl _, hR⟩
  rw [hR]
  clear hC hS hI hm hn hP hl hk hi hR
  go_enter Tryz.func49, Tryz.ntmps49
  go_wp2_with fail
  go_loopw [9] (fun kv wr => ∃ (k : Nat) (r : RT) (N' : List Nd) (vn' : Value) (vs : List Int) (p : Option Addr) (c : Nat), kv = .slice p k c ∧ Hid (vs.length = k) ∧ Hid (k ≤ most) ∧ Hid (KX b bb T D n A0 vn0 w0 wr r.2 r.2.i N' vn' ((.slice p k c, .ints vs) :: L)) ∧ Hid (OutL 0 N s r N' vs) ∧ Hid (LeftM T (atQ T ws) sub most R k r) ∧ Hid (s.e ≠ 0 → r.2.e ≠ 0) ∧ Hid (r.2.inn = false)) (fun _ wr => T.length - uOf wr bb)
  case atStart => exact ⟨0, ([], s), N, vn, [], none, 0, rfl, Lib.hid rfl, Lib.hid (Nat.zero_le _), Lib.hid HK.out.nilS, Lib.hid (OutL.nil N s), HST, Lib.hid (fun h => h), HIN⟩
  case round =>
    clear HK HST HIN
    obtain ⟨k, r, N', vn', vs, p, c, rfl, HVS, HKM, HK, HA, HL, HDD, HIN⟩ := hrel
    have HKR : Hid (KX b bb T D n A0 vn0 w0 wr r.2 r.2.i N' vn' ((.slice p k c, .ints vs) :: L)) := HK
    go_wp2_with fail
    refine (KX.at HK.out (List.mem_cons_of_mem _ HM.out) HWN.out).mono ?_
    rintro e w2 ⟨rfl, hk⟩
    have HK := Lib.hid hk
    obtain ⟨a, ha⟩ : ∃ a, atQ T ws r.2 = a := ⟨_, rfl⟩
    rw [ha]
    have HV := Lib.hid ha
    clear hk ha
    cases a
    · have HE := Lib.hid (HL.out.stop HV.out)
      go_wp2_with fail
      go_ret
      rw [HE.out]
      exact ⟨⟨_, vs, N', vn', rfl, HK.out, HA.out, HDD.out, by have := HVS.out; have := HKM.out; have := HMO.out; omega⟩, HIN.out⟩
    · by_cases hkm : k = most
      · have d1 : ((k : Int) == (most : Int)) = true := by rw [hkm]; simp
        have d1' : (k == most) = true := by rw [hkm]; simp
        have HE : Hid (R = (r.1, failQ T 15 r.2)) := Lib.hid (by have h9 := HL.out; rw [hkm] at h9; exact h9.full HV.out)
        clear hkm
        go_wp2_with fail
        refine (HK.out.fail 15 (by decide)).mono ?_
        rintro e w3 ⟨v9, N9, vn9, rfl, hk9, ho9, hd9⟩
        have HK := Lib.hid hk9; have HA := Lib.hid (HA.out.app ho9.out hd9); have HDD := Lib.hid (fun h => hd9 (HDD.out h))
        clear hk9 ho9 hd9
        go_wp2_with fail
        go_ret
        rw [HE.out]
        exact ⟨⟨_, vs, N9, vn9, rfl, HK.out, ⟨fun e => absurd e (fail_e T (by decide) _), HA.out.2⟩, HDD.out, by have := HVS.out; have := HKM.out; have := HMO.out; omega⟩, (fail_keep T 15 r.2 r.1).inn.trans HIN.out⟩
      · have d1 : ((k : Int) == (most : Int)) = false := beq_eq_false_iff_ne.2 (by omega)
        have d1' : (k == most) = false := beq_eq_false_iff_ne.2 hkm
        have HNX := Lib.hid (HL.out.next HV.out hkm HK.out.ok (HLS.out _ HV.out))
        have HKK : Hid (k + 1 ≤ most) := Lib.hid (by have := HKM.out; omega)
        clear hkm
        go_wp2_with fail
        refine (HK.out.sub HS.out (HPP.out _ HIN.out HV.out)).mono ?_
        rintro e w3 ⟨v9, N9, vn9, rfl, hk9, ho9, hd9⟩
        have HK := Lib.hid hk9; have HA := Lib.hid (HA.out.app ho9.out hd9); have HDD := Lib.hid (fun h => hd9 (HDD.out h)); have HIN := Lib.hid (HI.out _ HIN.out)
        obtain ⟨l9, hl9⟩ : ∃ l9, vs ++ [v9] = l9 := ⟨_, rfl⟩
        have HE9 := Lib.hid hl9
        have HLN : Hid (l9.length = k + 1) := Lib.hid (by rw [← hl9, List.length_append, HVS.out]; rfl)
        rw [hl9] at HA
        clear hk9 ho9 hd9 hl9
        go_wp2_with (at_builtin; go_loud (refine wpList_kx rfl _ _ rfl (HK.out.ints1 v9) (List.sublist_cons_self _ _) rfl rfl (l2 := [v9]) rfl (vat1 _ _) (by have := HVS.out; have := HKM.out; have := HMO.out; omega) (by simp) ?_))
        intro kv2 w4 hk4
        rw [HE9.out] at hk4
        obtain ⟨p2, c2, rfl, -, -, -⟩ := hk4.list (List.mem_cons_self ..)
        rw [HLN.out] at hk4 ⊢
        have HK := Lib.hid hk4
        have HME : Hid (T.length - uOf w4 bb < T.length - uOf wr bb) := Lib.hid (by rw [hk4.used, HKR.out.used]; have h5 := HLS.out _ HV.out; have h6 := HKR.out.ok; have h7 := hk4.ok; omega)
        clear hk4
        go_wp2_with fail
        go_roundw
        case rel => exact ⟨k + 1, (r.1 ++ (sub r.2).1, (sub r.2).2), N9, vn9, l9, p2, c2, rfl, HLN, HKK, HK, Lib.hid HA.out, HNX, HDD, HIN⟩
        case measure => exact HME.out
--TAIL
end
end Go.Proofs.YtoahgeleenpnjaaGreatDoor
