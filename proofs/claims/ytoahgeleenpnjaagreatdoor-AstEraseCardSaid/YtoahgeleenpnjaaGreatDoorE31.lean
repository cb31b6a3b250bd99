/- The program's parser: clauses; a base and a clause. -/
import Derived.Deep.RegionHeld3
import Derived.Test.YtoahgeleenpnjaaGreatDoorE30
set_option linter.unusedVariables false
set_option linter.unusedSimpArgs false
namespace Go.Proofs.YtoahgeleenpnjaaGreatDoor
open Go.RowKit

section
variable {b bb : Nat} {T : List Tok} {D n : Nat} {A0 : Nat → Prop} {vn0 : Value} {w0 w w' : World} {s : St} {u : Nat} {N : List Nd} {vn : Value} {L : List (Value × Th)}
theorem KX.setIn (hk : KX b bb T D n A0 vn0 w0 w s u N vn L) (v : Bool) : KX b bb T D n A0 vn0 w0 (w.setCell ⟨b, 7, none⟩ (.bool v)) (setIn v s) u N vn L := by
  obtain ⟨A, h1, h2, h3, h4, h5⟩ := hk
  have hf : Fr2 (Self b) w (w.setCell ⟨b, 7, none⟩ (.bool v)) := (Fr2.refl _ _).setCell (mine b) _
  exact KX.go h2 h3 h4 h5 h1.lt (h1.turn (s' := Go.Proofs.YtoahgeleenpnjaaGreatDoor.setIn v s) hf ((set_cells (i := 7) h1.box).trans rfl) h1.ok) (Step.self hf)
theorem KX.froz (hk : KX b bb T D n A0 vn0 w0 w s u N vn L) : ∀ o, w.frozen? ⟨b, o, none⟩ = false := by
  obtain ⟨A, h1, -⟩ := hk
  exact (cells10 h1.box).2.2.2.2.2.2.2.2.2.2
theorem KX.onex {v : Value} {ws : List (List UInt8)} (hk : KX b bb T D n A0 vn0 w0 w s s.i N vn L) (hC : TokC T) (hw : ∀ x ∈ ws, x ∈ KS) (hn : ws.length ≤ 100) (hm : ∃ v', v' = v ∧ (v', Th.strs ws) ∈ L) : Calls Tryz.prog 80 #[.pointer (some ⟨b, 0, none⟩), v] w (CPost b bb T D n 1 A0 vn0 w0 s (musT T ws s) N L) := by
  obtain ⟨v', rfl, hm⟩ := hm
  exact hk.one hC hm hn hw
theorem leaf_setIn (v : Bool) (s : St) : leafT T (setIn v s) = ((leafT T s).1, setIn v (leafT T s).2) := by
  unfold leafT leafQ
  have e : tokQ T (setIn v s) = tokQ T s := rfl
  rw [e]
  split <;> rfl
theorem must_setIn (x : List UInt8) (v : Bool) (s : St) : mustT T x (setIn v s) = ((mustT T x s).1, setIn v (mustT T x s).2) := by
  unfold mustT
  have e : isQ T x (setIn v s) = isQ T x s := rfl
  rw [e]
  split
  · exact leaf_setIn v s
  · show (([] : List Tr), failQ T 22 (setIn v s)) = ([], setIn v (failQ T 22 s))
    unfold failQ
    have e1 : (setIn v s).e = s.e := rfl
    rw [e1]
    split <;> rfl
end
/-- A clause. -/
def clauseT (T : List Tok) (et : St → RT) (s : St) : RT :=
  ([.nd 6 ((leafT T s).1 ++ (et (setIn true (leafT T s).2)).1 ++ (mustT T [125] (setIn false (et (setIn true (leafT T s).2)).2)).1)], (mustT T [125] (setIn false (et (setIn true (leafT T s).2)).2)).2)
/-- As the program goes at it. -/
def clauseP (T : List Tok) (et : St → RT) (s : St) : RT :=
  ([.nd 6 ((mustT T [123] (setIn true s)).1 ++ (et (mustT T [123] (setIn true s)).2).1 ++ (mustT T [125] (et (mustT T [123] (setIn true s)).2).2).1)], (mustT T [125] (et (mustT T [123] (setIn true s)).2).2).2)
theorem clause_eq {T : List Tok} {et : St → RT} {s : St} (h : isQ T [123] s = true) : ((clauseP T et s).1, setIn false (clauseP T et s).2) = clauseT T et s := by
  have e1 : mustT T [123] (setIn true s) = ((leafT T s).1, setIn true (leafT T s).2) := by
    rw [must_setIn]
    have : mustT T [123] s = leafT T s := by unfold mustT; rw [if_pos h]
    rw [this]
  unfold clauseP clauseT
  rw [e1, must_setIn]

section
variable (b bb : Nat) (T : List Tok) (D : Nat)
--GEN

set_option maxRecDepth 100000 in
set_option maxHeartbeats 8000000 in
theorem clause_p (hC : TokC T) (hD : D ≤ 200) (hB : 0 < D → SubI b bb T D 1 (fun _ => True) 67 (formulaT T D 1 (NT T D 1))) : SubI b bb T D 0 (fun s => s.inn = false ∧ isQ T [123] s = true) 119 (clauseT T (NT T D 0).expr) := by
  intro s N vn A w hP h
  have HCC := Lib.hid hC; have HPP := Lib.hid hP
  have HXB := Lib.hid (fun (s : St) (N : List Nd) (vn : Value) (A : Nat → Prop) (w : World) (hi : s.inn = true) h => (nested_formula b bb T D 0 hD (Nat.zero_le _) (fun _ => True) _ hB s N vn A w trivial h).mono (fun e w' hp => hp.eqv (form_nest T (Nat.zero_le _) s hi)))
  have HIT : Hid ((mustT T [123] (setIn true s)).2.inn = true) := Lib.hid (must_keep T [123] (setIn true s)).inn
  have HKS1 : Hid ([123] ∈ KS) := Lib.hid (by decide)
  have HKS2 : Hid ([125] ∈ KS) := Lib.hid (by decide)
  have HFEW : Hid (N.length ≤ 2 * (setIn true s).i) := Lib.hid h.few
  have HK := Lib.hid (KX.start h)
  have d7 := HK.out.innc
  have d0 := HK.out.cell
  have d10 := HK.out.froz
  have HK : Hid (KX b bb T D 0 A vn w (w.setCell ⟨b, 7, none⟩ (.bool true)) (setIn true s) (setIn true s).i N vn []) := Lib.hid (HK.out.setIn true)
  have HA := Lib.hid (OutL.nil N (setIn true s))
  clear h hC hP hD hB
  go_enter Tryz.func119, Tryz.ntmps119
  go_wp2_with fail
  clear d7 d0 d10
  generalize (w.setCell ⟨b, 7, none⟩ (.bool true)) = W1 at *
  have HKD := HK
  have HK := Lib.hid HK.out.drew
  go_region_held3 (fun w' => w'.cell? ⟨b, 0, none⟩ = some (.pointer (some ⟨bb, 0, none⟩))) (first | with_reducible exact HK.out.cell | with_reducible exact (HK.out.alloc _).cell | with_reducible exact (HKD.out.alloc _).drew.cell | with_reducible exact ((HK.out.alloc _).alloc _).cell | with_reducible exact ((HKD.out.alloc _).alloc _).drew.cell | with_reducible exact (((HK.out.alloc _).alloc _).alloc _).cell)
    (first
      | (go_at_call 52; have HDW := Lib.hid (HD.out.weak (j := 0 + 1) (by decide)); refine (KX.node (k := 0) (kind := 6) (HK.out.ints3 _ _ _ ) ?_ HCC.out.len HDW.out ?_ HFEW.out ?_).mono ?_; exact List.mem_cons_self ..; rfl; simp; rintro e w9 ⟨v9, N9, vn9, rfl, hk9, ho9⟩; have HK := Lib.hid hk9; have HZ := Lib.hid ho9; clear hk9 ho9)
      | (go_at_call 66; (first | with_reducible refine (HK.out.call (fun A h => HXB.out _ _ _ A _ HIT.out h)).mono ?_ | with_reducible refine ((HK.out.strs1 _ _).call (fun A h => HXB.out _ _ _ A _ HIT.out h)).mono ?_ | with_reducible refine ((HKD.out.strs1 _ _).drew.call (fun A h => HXB.out _ _ _ A _ HIT.out h)).mono ?_ | with_reducible refine (((HK.out.strs1 _ _).strs1 _ _).call (fun A h => HXB.out _ _ _ A _ HIT.out h)).mono ?_ | with_reducible refine (((HKD.out.strs1 _ _).strs1 _ _).drew.call (fun A h => HXB.out _ _ _ A _ HIT.out h)).mono ?_); rintro e w9 ⟨v9, N9, vn9, rfl, hk9, ho9, hd9⟩; have HK := Lib.hid hk9; have HD := Lib.hid (OutD.app HA.out ho9 hd9); have HA := Lib.hid HD.out.out; clear hk9 ho9 hd9)
      | (go_at_call 80; (first | with_reducible refine (KX.one1 [123] HK.out HCC.out HKS1.out ?_).mono ?_ | with_reducible refine (KX.one1 [123] (HK.out.strs1 _ _) HCC.out HKS1.out ?_).mono ?_ | with_reducible refine (KX.one1 [123] (HKD.out.strs1 _ _).drew HCC.out HKS1.out ?_).mono ?_ | with_reducible refine (KX.one1 [123] ((HK.out.strs1 _ _).strs1 _ _) HCC.out HKS1.out ?_).mono ?_ | with_reducible refine (KX.one1 [123] ((HKD.out.strs1 _ _).strs1 _ _).drew HCC.out HKS1.out ?_).mono ?_); (first | (refine ⟨_, ?_, List.mem_cons_self ..⟩; focus (simp; done)) | (refine ⟨_, ?_, List.mem_cons_of_mem _ (List.mem_cons_self ..)⟩; focus (simp; done)) | (refine ⟨_, ?_, List.mem_cons_of_mem _ (List.mem_cons_of_mem _ (List.mem_cons_self ..))⟩; focus (simp; done))); rintro e w9 ⟨v9, N9, vn9, rfl, hk9, ho9, hd9⟩; have HK := Lib.hid hk9; have HD := Lib.hid (OutD.app HA.out ho9 hd9); have HA := Lib.hid HD.out.out; clear hk9 ho9 hd9)
      | (go_at_call 80; (first | with_reducible refine (KX.one1 [125] HK.out HCC.out HKS2.out ?_).mono ?_ | with_reducible refine (KX.one1 [125] (HK.out.strs1 _ _) HCC.out HKS2.out ?_).mono ?_ | with_reducible refine (KX.one1 [125] (HKD.out.strs1 _ _).drew HCC.out HKS2.out ?_).mono ?_ | with_reducible refine (KX.one1 [125] ((HK.out.strs1 _ _).strs1 _ _) HCC.out HKS2.out ?_).mono ?_ | with_reducible refine (KX.one1 [125] ((HKD.out.strs1 _ _).strs1 _ _).drew HCC.out HKS2.out ?_).mono ?_); (first | (refine ⟨_, ?_, List.mem_cons_self ..⟩; focus (simp; done)) | (refine ⟨_, ?_, List.mem_cons_of_mem _ (List.mem_cons_self ..)⟩; focus (simp; done)) | (refine ⟨_, ?_, List.mem_cons_of_mem _ (List.mem_cons_of_mem _ (List.mem_cons_self ..))⟩; focus (simp; done))); rintro e w9 ⟨v9, N9, vn9, rfl, hk9, ho9, hd9⟩; have HK := Lib.hid hk9; have HD := Lib.hid (OutD.app HA.out ho9 hd9); have HA := Lib.hid HD.out.out; clear hk9 ho9 hd9))
  all_goals
    have HZ2 : Hid (OutD 0 N s ((clauseP T (NT T D 0).expr s).1, setIn false (clauseP T (NT T D 0).expr s).2) N9 [v9]) := Lib.hid ⟨⟨HZ.out.out.1, HZ.out.out.2⟩, HZ.out.dead⟩
    have HQ := Lib.hid (KX.fin HZ2.out (HK.out.setIn false) (fun he => absurd (is_kind HPP.out.2).2 he) (r' := clauseT T (NT T D 0).expr s) (by rw [clause_eq HPP.out.2]; exact Eqv.refl _))
    have d7 := HK.out.innc
    have d10 := HK.out.froz
    go_wp2_with fail
    go_ret
    exact HQ.out

/-- What a call that answers a list of places leaves: one of them is none where there is a fault. -/
def CDPost (b bb : Nat) (T : List Tok) (D n k : Nat) (A0 : Nat → Prop) (vn0 : Value) (w0 : World) (s : St) (r : RT) (N : List Nd) (L : List (Value × Th)) (e : Ending) (w' : World) : Prop :=
  ∃ (v : Value) (vs : List Int) (N' : List Nd) (vn' : Value), e = .returned v ∧ KX b bb T D n A0 vn0 w0 w' r.2 r.2.i N' vn' ((v, .ints vs) :: L) ∧ OutD k N s r N' vs ∧ (s.e ≠ 0 → r.2.e ≠ 0) ∧ vs.length ≤ 300
theorem CDPost.eqv {b bb : Nat} {T : List Tok} {D n k : Nat} {A0 : Nat → Prop} {vn0 : Value} {w0 : World} {s : St} {r r' : RT} {N : List Nd} {L : List (Value × Th)} {e : Ending} {w' : World} (h : CDPost b bb T D n k A0 vn0 w0 s r N L e w') (he : Eqv r r') : CDPost b bb T D n k A0 vn0 w0 s r' N L e w' := by
  obtain ⟨v, vs, N', vn', h1, h2, h3, h4, h5⟩ := h
  exact ⟨v, vs, N', vn', h1, he.1 ▸ h2, h3.eqv he, fun h => by rw [← he.1]; exact h4 h, h5⟩
/-- A base and a clause, as the program goes at them. -/
def baseP (T : List Tok) (s : St) : RT := ((mustT T [58] s).1 ++ [.nd 5 (musT T [[105, 110, 116], [98, 111, 111, 108]] (mustT T [58] s).2).1], (musT T [[105, 110, 116], [98, 111, 111, 108]] (mustT T [58] s).2).2)
theorem base_eq {T : List Tok} (hC : TokC T) (s : St) : Eqv (baseP T s) (typBT T (mustT T [58] s)) := by
  unfold baseP typBT musT
  rw [at_any hC (by decide)]
  by_cases h : isQ T [105, 110, 116] (mustT T [58] s).2 = true ∨ isQ T [98, 111, 111, 108] (mustT T [58] s).2 = true
  · rw [if_pos h, if_pos (by simpa using h)]; exact Eqv.refl _
  · rw [if_neg h, if_neg (by simpa using h)]
    exact ⟨rfl, fun e => absurd e (fail_e T (by decide) _)⟩
theorem typed_no {T : List Tok} {et : St → RT} (hC : TokC T) {s : St} (h : isQ T [123] (baseP T s).2 = false) : Eqv (baseP T s) (typedT T et s) := by
  have hb := base_eq hC s
  unfold typedT typCT
  rw [if_neg (by rw [← hb.1, h]; decide)]
  exact hb
theorem typed_yes {T : List Tok} {et : St → RT} (hC : TokC T) {s : St} (h : isQ T [123] (baseP T s).2 = true) : Eqv ((baseP T s).1 ++ (clauseT T et (baseP T s).2).1, (clauseT T et (baseP T s).2).2) (typedT T et s) := by
  have hb := base_eq hC s
  unfold typedT typCT
  rw [if_pos (by rw [← hb.1]; exact h)]
  rw [hb.2 (by rw [← hb.1]; exact (is_kind h).2), hb.1]
  exact Eqv.refl _
theorem base_inn {T : List Tok} {s : St} : (baseP T s).2.inn = s.inn := by
  refine Eq.trans ?_ (must_keep T [58] s).inn
  show (musT T [[105, 110, 116], [98, 111, 111, 108]] (mustT T [58] s).2).2.inn = _
  unfold musT
  split
  · exact (show (leafQ T (mustT T [58] s).2).2.inn = _ from by unfold leafQ; split <;> rfl)
  · exact (fail_keep T 22 _ []).inn

set_option maxRecDepth 100000 in
set_option maxHeartbeats 8000000 in
theorem typed_p (hC : TokC T) (hX : SubI b bb T D 0 (fun s => s.inn = false ∧ isQ T [123] s = true) 119 (clauseT T (NT T D 0).expr)) {A0 : Nat → Prop} {vn0 : Value} {w0 w : World} {s : St} {N : List Nd} {vn : Value} {L : List (Value × Th)} (hk : KX b bb T D 0 A0 vn0 w0 w s s.i N vn L) (hi : s.inn = false) :
    Calls Tryz.prog 83 #[.pointer (some ⟨b, 0, none⟩)] w (CDPost b bb T D 0 1 A0 vn0 w0 s (typedT T (NT T D 0).expr s) N L) := by
  have HCC := Lib.hid hC; have HSX := Lib.hid hX; have HIN := Lib.hid hi
  have HKS1 : Hid ([58] ∈ KS) := Lib.hid (by decide)
  have HKS2 : Hid (∀ x ∈ ([[105, 110, 116], [98, 111, 111, 108]] : List (List UInt8)), x ∈ KS) := Lib.hid (by decide)
  have HKS3 : Hid (([[105, 110, 116], [98, 111, 111, 108]] : List (List UInt8)).length ≤ 100) := Lib.hid (by decide)
  have HK := Lib.hid hk
  have HA := Lib.hid (OutL.nil N s)
  clear hC hX hk hi
  go_enter Tryz.func83, Tryz.ntmps83
  go_wp2_with fail
  have HKD := HK
  have HK := Lib.hid HK.out.drew
  go_region_held3 (fun w' => w'.cell? ⟨b, 0, none⟩ = some (.pointer (some ⟨bb, 0, none⟩))) (first | with_reducible exact HK.out.cell | with_reducible exact (HK.out.alloc _).cell | with_reducible exact (HKD.out.alloc _).drew.cell | with_reducible exact ((HK.out.alloc _).alloc _).cell | with_reducible exact ((HKD.out.alloc _).alloc _).drew.cell)
    (first
      | (go_at_call 52; refine (KX.node (k := 0) (kind := 5) (HK.out.ints1 _) ?_ HCC.out.len HB.out ?_ HN1.out ?_).mono ?_; exact List.mem_cons_self ..; rfl; simp; rintro e w9 ⟨v7, N7, vn7, rfl, hk9, ho9⟩; have HK := Lib.hid hk9; have HZ := Lib.hid ho9; clear hk9 ho9)
      | (go_at_call 80; (first | with_reducible refine (KX.one1 [58] HK.out HCC.out HKS1.out ?_).mono ?_ | with_reducible refine (KX.one1 [58] (HK.out.strs1 _ _) HCC.out HKS1.out ?_).mono ?_ | with_reducible refine (KX.one1 [58] (HKD.out.strs1 _ _).drew HCC.out HKS1.out ?_).mono ?_ | with_reducible refine (KX.one1 [58] (HK.out.strs2 _ _ _) HCC.out HKS1.out ?_).mono ?_ | with_reducible refine (KX.one1 [58] (HKD.out.strs2 _ _ _).drew HCC.out HKS1.out ?_).mono ?_ | with_reducible refine (KX.one1 [58] ((HK.out.strs1 _ _).strs2 _ _ _) HCC.out HKS1.out ?_).mono ?_ | with_reducible refine (KX.one1 [58] ((HKD.out.strs1 _ _).strs2 _ _ _).drew HCC.out HKS1.out ?_).mono ?_ | with_reducible refine (KX.one1 [58] ((HK.out.strs2 _ _ _).strs1 _ _) HCC.out HKS1.out ?_).mono ?_ | with_reducible refine (KX.one1 [58] ((HKD.out.strs2 _ _ _).strs1 _ _).drew HCC.out HKS1.out ?_).mono ?_); (first | (refine ⟨_, ?_, List.mem_cons_self ..⟩; focus (simp; done)) | (refine ⟨_, ?_, List.mem_cons_of_mem _ (List.mem_cons_self ..)⟩; focus (simp; done)) | (refine ⟨_, ?_, List.mem_cons_of_mem _ (List.mem_cons_of_mem _ (List.mem_cons_self ..))⟩; focus (simp; done))); rintro e w9 ⟨v9, N9, vn9, rfl, hk9, ho9, hd9⟩; have HK := Lib.hid hk9; have HA := Lib.hid (OutL.app HA.out ho9.out hd9); have HN1 := Lib.hid hk9.room; clear hk9 ho9 hd9)
      | (go_at_call 80; (first | with_reducible refine (KX.onex (ws := [[105, 110, 116], [98, 111, 111, 108]]) HK.out HCC.out HKS2.out HKS3.out ?_).mono ?_ | with_reducible refine (KX.onex (ws := [[105, 110, 116], [98, 111, 111, 108]]) (HK.out.strs1 _ _) HCC.out HKS2.out HKS3.out ?_).mono ?_ | with_reducible refine (KX.onex (ws := [[105, 110, 116], [98, 111, 111, 108]]) (HKD.out.strs1 _ _).drew HCC.out HKS2.out HKS3.out ?_).mono ?_ | with_reducible refine (KX.onex (ws := [[105, 110, 116], [98, 111, 111, 108]]) (HK.out.strs2 _ _ _) HCC.out HKS2.out HKS3.out ?_).mono ?_ | with_reducible refine (KX.onex (ws := [[105, 110, 116], [98, 111, 111, 108]]) (HKD.out.strs2 _ _ _).drew HCC.out HKS2.out HKS3.out ?_).mono ?_ | with_reducible refine (KX.onex (ws := [[105, 110, 116], [98, 111, 111, 108]]) ((HK.out.strs1 _ _).strs2 _ _ _) HCC.out HKS2.out HKS3.out ?_).mono ?_ | with_reducible refine (KX.onex (ws := [[105, 110, 116], [98, 111, 111, 108]]) ((HKD.out.strs1 _ _).strs2 _ _ _).drew HCC.out HKS2.out HKS3.out ?_).mono ?_ | with_reducible refine (KX.onex (ws := [[105, 110, 116], [98, 111, 111, 108]]) ((HK.out.strs2 _ _ _).strs1 _ _) HCC.out HKS2.out HKS3.out ?_).mono ?_ | with_reducible refine (KX.onex (ws := [[105, 110, 116], [98, 111, 111, 108]]) ((HKD.out.strs2 _ _ _).strs1 _ _).drew HCC.out HKS2.out HKS3.out ?_).mono ?_); (first | (refine ⟨_, ?_, List.mem_cons_self ..⟩; focus (simp; done)) | (refine ⟨_, ?_, List.mem_cons_of_mem _ (List.mem_cons_self ..)⟩; focus (simp; done)) | (refine ⟨_, ?_, List.mem_cons_of_mem _ (List.mem_cons_of_mem _ (List.mem_cons_self ..))⟩; focus (simp; done))); rintro e w9 ⟨v8, N8, vn8, rfl, hk9, ho9, hd9⟩; have HK := Lib.hid hk9; have HB := Lib.hid ho9; have HDB := Lib.hid hd9; clear hk9 ho9 hd9))
  all_goals
    have HK : Hid (KX b bb T D 0 A0 vn0 w0 w9 (baseP T s).2 (baseP T s).2.i N7 vn7 L) := Lib.hid (HK.out.few (by repeat (first | exact List.Sublist.refl _ | refine List.Sublist.cons _ ?_)))
    have HO : Hid (OutD 1 N s (baseP T s) N7 [v9, v7]) := Lib.hid ((OutD.app HA.out HZ.out HDB.out).weak (by decide))
    have HDD : Hid (s.e ≠ 0 → (baseP T s).2.e ≠ 0) := Lib.hid (fun h => HDB.out (by rw [(must_keep T [58] s).dead h]; exact h))
    have HK := Lib.hid (HK.out.ints2 v9 v7)
    clear HA HZ HB HDB
    go_wp2_with fail
    refine (KX.atx (ws := [[123]]) (HK.out.strs1 _ _) ⟨_, by simp, List.mem_cons_self ..⟩ (by decide)).mono ?_
    rintro e w2 ⟨rfl, hk⟩
    have HK := Lib.hid (hk.few (List.sublist_cons_self _ _))
    obtain ⟨b1, hb⟩ : ∃ b1, isQ T [123] (baseP T s).2 = b1 := ⟨_, rfl⟩
    rw [at_one HCC.out (by decide), hb]
    have HV1 := Lib.hid hb
    clear hk hb
    cases b1
    · have HQ : Hid (CDPost b bb T D 0 1 A0 vn0 w0 s (typedT T (NT T D 0).expr s) N L (.returned (.slice (some ⟨w9.heap.size, 0, none⟩) 2 2)) w2) := Lib.hid (CDPost.eqv ⟨_, _, _, _, rfl, HK.out, HO.out, HDD.out, by simp⟩ (typed_no HCC.out HV1.out))
      go_wp2_with fail
      go_ret
      exact HQ.out
    · go_wp2_with fail
      refine (HK.out.sub HSX.out ⟨base_inn.trans HIN.out, HV1.out⟩).mono ?_
      rintro e w3 ⟨v6, N6, vn6, rfl, hk9, ho9, hd9⟩
      have HK := Lib.hid hk9; have HO := Lib.hid ((OutD.app HO.out.out ho9 hd9).weak (j := 1) (by decide)); have HDD := Lib.hid (fun h => hd9 (HDD.out h))
      clear hk9 ho9 hd9
      go_wp2_with (at_builtin; go_loud (refine wpList_kx rfl _ _ rfl (HK.out.ints1 v6) (List.sublist_cons_self _ _) rfl rfl (l2 := [v6]) rfl (vat1 _ _) (by simp) (by simp) ?_))
      intro kv6 w6 hk6
      have HQ : Hid (CDPost b bb T D 0 1 A0 vn0 w0 s (typedT T (NT T D 0).expr s) N L (.returned kv6) w6) := Lib.hid (CDPost.eqv (r := ((baseP T s).1 ++ (clauseT T (NT T D 0).expr (baseP T s).2).1, (clauseT T (NT T D 0).expr (baseP T s).2).2)) ⟨_, _, _, _, rfl, hk6, HO.out, HDD.out, by simp⟩ (typed_yes HCC.out HV1.out))
      clear hk6
      go_wp2_with fail
      go_ret
      exact HQ.out
end
end Go.Proofs.YtoahgeleenpnjaaGreatDoor
