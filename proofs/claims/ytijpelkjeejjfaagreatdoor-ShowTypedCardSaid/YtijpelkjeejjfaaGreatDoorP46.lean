/- Lemmas. -/
import Derived.Test.YtijpelkjeejjfaaGreatDoorP44
set_option linter.unusedVariables false
set_option linter.unusedSimpArgs false
namespace Go.Proofs.YtijpelkjeejjfaaGreatDoor
open Go.RowKit

section
variable {b bb : Nat} {T : List Tok} {D n : Nat} {A0 : Nat → Prop} {vn0 : Value} {w0 w w' : World} {s : St} {u : Nat} {N : List Nd} {vn : Value} {L : List (Value × Th)}
theorem vat2 (w : World) (x y : Int) : VAt (w.alloc (.cells #[.int .i64 x, .int .i64 y] 3)) (some ⟨w.heap.size, 0, none⟩) (intsV [x, y]) := by
  refine .inr ⟨w.heap.size, 0, rfl, by simp, fun j v hj => ?_⟩
  rw [Nat.zero_add, cell_of_row _ _ j _ _ (0, 0) (heap_alloc_new w _)]
  simpa [intsV] using hj
theorem name_short (h : ¬ ((leafT T s).2.inn = true ∨ (isQ T [46] (leafT T s).2 = false ∧ isQ T [40] (leafT T s).2 = false))) {nt : NxT} : nameT T nt s = nameET T (nameDT T nt (nameCT T (nameBT T (leafT T s)))) := by unfold nameT; rw [if_neg h]
theorem name_word (h : (leafT T s).2.inn = true ∨ (isQ T [46] (leafT T s).2 = false ∧ isQ T [40] (leafT T s).2 = false)) {nt : NxT} : nameT T nt s = ([.nd 14 (leafT T s).1], (leafT T s).2) := by unfold nameT; rw [if_pos h]
/-- A call's end, where its arguments were read as the program does. -/
theorem name_end {nt : NxT} {c d : RT} (h : Eqv d (listP T nt.expr c.2)) (he : Eqv (listP T nt.expr c.2) (if isQ T [41] c.2 = true then ([], c.2) else argsT T nt c.2)) :
    Eqv ([.nd 13 (c.1 ++ d.1 ++ (mustT T [41] d.2).1)], (mustT T [41] d.2).2) (nameET T (nameDT T nt c)) := by
  have h1 : d.2 = (nameDT T nt c).2 ∧ ((nameDT T nt c).2.e = 0 → c.1 ++ d.1 = (nameDT T nt c).1) := by
    unfold nameDT
    by_cases hq : isQ T [41] c.2 = true
    · rw [if_pos hq] at he
      rw [if_pos hq]
      exact ⟨h.1.trans he.1, fun e => by rw [h.2 (by rw [he.1]; exact e), he.2 e, List.append_nil]⟩
    · rw [if_neg hq] at he
      rw [if_neg hq]
      exact ⟨h.1.trans he.1, fun e => by rw [h.2 (by rw [he.1]; exact e), he.2 e]⟩
  unfold nameET
  rw [h1.1]
  refine ⟨rfl, fun e => ?_⟩
  have h2 : (nameDT T nt c).2.e = 0 := by
    rcases Nat.eq_zero_or_pos (nameDT T nt c).2.e with h | h
    · exact h
    · exact absurd e (by show ¬ (mustT T [41] (nameDT T nt c).2).2.e = 0; rw [(must_keep T [41] (nameDT T nt c).2).dead (by omega)]; omega)
  show [Tr.nd 13 _] = [Tr.nd 13 _]
  rw [h1.2 h2]
end

section
variable (b bb : Nat) (T : List Tok) (D n : Nat)

set_option maxRecDepth 100000 in
set_option maxHeartbeats 4000000 in
theorem args_f (hX : SubI b bb T D n (fun s => s.inn = false) 173 (NT T D n).expr) : SubF b bb T D n (fun s => s.inn = false) 172 (NT T D n).expr := by
  intro A0 vn0 w0 w s N vn L g hP hk hm
  have HSX := Lib.hid hX; have HK := Lib.hid hk; have HPP := Lib.hid hP
  have c0 := hk.boxc hm
  clear hX hk hP hm
  go_enter Tryz.func172, Tryz.ntmps172
  go_wp2_with fail
  refine (HK.out.sub HSX.out HPP.out).mono ?_
  rintro e w9 ⟨v9, N9, vn9, rfl, hk9, ho9, hd9⟩
  have HQ : Hid (CPost b bb T D n 0 A0 vn0 w0 s ((NT T D n).expr s) N L (.returned (.int .i64 v9)) w9) := Lib.hid ⟨v9, N9, vn9, rfl, hk9, ho9, hd9⟩
  clear hk9 ho9 hd9
  go_wp2_with fail
  go_ret
  exact HQ.out

set_option maxRecDepth 100000 in
set_option maxHeartbeats 8000000 in
theorem named_p (hC : TokC T) (hX : SubI b bb T D n (fun s => s.inn = false) 173 (NT T D n).expr) : SubI b bb T D n (fun s => s.e = 0 ∧ (tokQ T s).kind = 1) 168 (nameT T (NT T D n)) := by
  intro s N vn A w hP h
  have HCC := Lib.hid hC
  have HLI := Lib.hid (show (tokQ T s).kind ≠ 5 ∧ s.e = 0 from ⟨by omega, hP.1⟩)
  have HFEW := Lib.hid h.few
  have HSF := Lib.hid (args_f b bb T D n hX)
  have HKE := Lib.hid (nx_keep T D (D - n)).expr
  have HLIST := Lib.hid (fun (s : St) (hi : s.i ≤ T.length) => list_parts T (nx_good T D (D - n)).expr (fun s he => ((nx_keep T D (D - n)).expr s).dead he) s hi)
  obtain ⟨g, hg⟩ : ∃ g, w.heap.size = g := ⟨_, rfl⟩
  have HK : Hid (KX b bb T D n A vn w (w.alloc (.cells #[.pointer (some ⟨b, 0, none⟩)] 101)) s s.i N vn [(boxV g, boxT b)]) := Lib.hid (by rw [← hg]; exact (KX.start h).boxed _ _)
  have c0 := HK.out.boxc (List.mem_cons_self ..)
  have HA := Lib.hid (OutL.nil N s)
  clear h hX hC hP
  go_enter Tryz.func168, Tryz.ntmps168
  go_wp2_with fail
  try rw [hg]
  refine (HK.out.take HCC.out HLI.out.1 HLI.out.2).mono ?_
  rintro e w1 ⟨v3, N1, vn1, rfl, hk, ho, hd⟩
  have HK := Lib.hid hk; have HO := Lib.hid ho; have HA := Lib.hid (HA.out.app ho.out hd); have HDD : Hid (s.e ≠ 0 → (leafT T s).2.e ≠ 0) := Lib.hid hd
  have HLV := Lib.hid (leaf_live T HLI.out.2)
  clear hk ho hd c0 hg
  have c0 := HK.out.boxc (List.mem_cons_self ..)
  have d0 := HK.out.cell
  have d7 := HK.out.innc
  obtain ⟨I, hI⟩ : ∃ I, (leafT T s).2.inn = I := ⟨_, rfl⟩
  have HI := Lib.hid hI
  rw [hI] at d7
  clear hI
  cases I
  rotate_left
  · go_wp2_with fail
    refine (KX.node (k := 0) (kind := 14) (HK.out.ints1 _) (List.mem_cons_self ..) HCC.out.len HO.out rfl HFEW.out (by simp)).mono ?_
    rintro e w9 ⟨v9, N9, vn9, rfl, hk9, ho9⟩
    have HQ := Lib.hid (KX.fin ho9 hk9 HDD.out (r' := nameT T (NT T D n) s) (by rw [name_word (.inl HI.out)]; exact Eqv.refl _))
    clear hk9 ho9
    go_wp2_with fail
    go_ret
    exact HQ.out
  · go_wp2_with fail
    refine (KX.at (ws := [[46], [40]]) (HK.out.strs2 _ _ _) (List.mem_cons_self ..) (by decide)).mono ?_
    rintro e w2 ⟨rfl, hk⟩
    have HK := Lib.hid (hk.few (List.sublist_cons_self _ _))
    obtain ⟨b2, hb⟩ : ∃ b2, atQ T [[46], [40]] (leafT T s).2 = b2 := ⟨_, rfl⟩
    rw [hb]
    have HV2 : Hid ((isQ T [46] (leafT T s).2 || isQ T [40] (leafT T s).2) = b2) := Lib.hid (by rw [← hb, at_any HCC.out (by decide)]; simp)
    clear hk hb c0 d0 d7
    have c0 := HK.out.boxc (List.mem_cons_self ..)
    have d0 := HK.out.cell
    cases b2
    · go_wp2_with fail
      refine (KX.node (k := 0) (kind := 14) (HK.out.ints1 _) (List.mem_cons_self ..) HCC.out.len HO.out rfl HFEW.out (by simp)).mono ?_
      rintro e w9 ⟨v9, N9, vn9, rfl, hk9, ho9⟩
      have HQ := Lib.hid (KX.fin ho9 hk9 HDD.out (r' := nameT T (NT T D n) s) (by rw [name_word (.inr (Bool.or_eq_false_iff.1 HV2.out))]; exact Eqv.refl _))
      clear hk9 ho9
      go_wp2_with fail
      go_ret
      exact HQ.out
    · have HSH := Lib.hid (name_short (T := T) (s := s) (nt := NT T D n) (fun e => by
        rcases e with e | e
        · rw [HI.out] at e; cases e
        · have h9 := HV2.out; rw [e.1, e.2] at h9; cases h9))
      have HK := Lib.hid (HK.out.ints1 v3)
      clear c0 d0
      have c0 := HK.out.boxc (List.mem_cons_of_mem _ (List.mem_cons_self ..))
      go_wp2_with fail
      refine (KX.atx (ws := [[46]]) (HK.out.strs1 _ _) ⟨_, by simp, List.mem_cons_self ..⟩ (by decide)).mono ?_
      rintro e w3 ⟨rfl, hk⟩
      have HK := Lib.hid (hk.few (List.sublist_cons_self _ _))
      obtain ⟨b3, hb⟩ : ∃ b3, isQ T [46] (leafT T s).2 = b3 := ⟨_, rfl⟩
      rw [at_one HCC.out (by decide), hb]
      have HV3 := Lib.hid hb
      clear hk hb c0
      cases b3
      · obtain ⟨a, vs, HAE, HK, HA, HVS, HDD, HIN⟩ : ∃ (a : RT) (vs : List Int), Hid (nameBT T (leafT T s) = a) ∧ Hid (KX b bb T D n A vn w w3 a.2 a.2.i N1 vn1 [(.slice (some ⟨w2.heap.size, 0, none⟩) 1 1, .ints vs), (boxV g, boxT b)]) ∧ Hid (OutL 1 N s a N1 vs) ∧ Hid (vs.length ≤ 3) ∧ Hid (s.e ≠ 0 → a.2.e ≠ 0) ∧ Hid (a.2.inn = false) :=
          ⟨leafT T s, [v3], Lib.hid (by unfold nameBT; rw [if_neg (by rw [HV3.out]; decide)]), HK, Lib.hid HO.out.out, Lib.hid (by simp), HDD, HI⟩
        have c0 := HK.out.boxc (List.mem_cons_of_mem _ (List.mem_cons_self ..))
        go_wp2_with fail
        refine (KX.one1 [40] (HK.out.strs1 _ _) HCC.out (by decide) ⟨_, rfl, List.mem_cons_self ..⟩).mono ?_
        rintro e w5 ⟨v5, N5, vn5, rfl, hk, ho, hd⟩
        have HK := Lib.hid (hk.few (List.sublist_cons_self _ _)); have HIN := Lib.hid ((must_keep T [40] a.2).inn.trans HIN.out)
        obtain ⟨l5, hl5⟩ : ∃ l5, vs ++ [v5] = l5 := ⟨_, rfl⟩
        have HL5 : Hid (l5.length ≤ 4) := Lib.hid (by rw [← hl5, List.length_append]; have := HVS.out; simp; omega)
        have HA : Hid (OutL 1 N s (nameCT T a) N5 l5) := Lib.hid (by rw [← hl5]; exact (HA.out.app ho.out hd).weak (by decide)); have HDD : Hid (s.e ≠ 0 → (nameCT T a).2.e ≠ 0) := Lib.hid (fun h => hd (HDD.out h))
        have HE5 := Lib.hid hl5
        clear hk ho hd c0 hl5
        go_wp2_with (at_builtin; go_loud (refine wpList_kx rfl _ _ rfl (HK.out.ints1 v5) (List.sublist_cons_self _ _) rfl rfl (l2 := [v5]) rfl (vat1 _ _) (by have := HVS.out; omega) (by simp) ?_))
        intro kv6 w6 hk6
        rw [HE5.out] at hk6
        have HK : Hid (KX b bb T D n A vn w w6 (nameCT T a).2 (nameCT T a).2.i N5 vn5 [(kv6, .ints l5), (boxV g, boxT b)]) := Lib.hid hk6
        have HIN : Hid ((nameCT T a).2.inn = false) := HIN
        obtain ⟨c, hc⟩ : ∃ c, nameCT T a = c := ⟨_, rfl⟩
        have HCE := Lib.hid hc
        rw [hc] at HK HA HDD HIN
        have HCI : Hid (c.2.i ≤ T.length) := Lib.hid (Nat.le_of_lt HK.out.ok)
        clear hk6 hc
        have c0 := HK.out.boxc (List.mem_cons_of_mem _ (List.mem_cons_self ..))
        go_wp2_with fail
        refine (list_args b bb T D n HCC.out _ HSF.out (fun s hs => ((HKE.out s).inn).trans hs) HK.out (List.mem_cons_of_mem _ (List.mem_cons_self ..)) HIN.out).mono ?_
        rintro e w7 ⟨lv, ls, N7, vn7, rfl, hk7, ho7, hd7, hl7⟩
        obtain ⟨q7, c7, rfl, hv7, -, -⟩ := hk7.list (List.mem_cons_self ..)
        have HK := Lib.hid hk7; have HVV := Lib.hid hv7; have HL7 := Lib.hid hl7
        obtain ⟨l7, hl77⟩ : ∃ l7, l5 ++ ls = l7 := ⟨_, rfl⟩
        have HE7 := Lib.hid hl77
        have HLL : Hid (l7.length ≤ 310) := Lib.hid (by rw [← hl77, List.length_append]; have := HL5.out; omega)
        have HA : Hid (OutL 1 N s (c.1 ++ (listP T (NT T D n).expr c.2).1, (listP T (NT T D n).expr c.2).2) N7 l7) := Lib.hid (by rw [← hl77]; exact (HA.out.app ho7 hd7).weak (by decide)); have HDD := Lib.hid (fun h => hd7 (HDD.out h))
        obtain ⟨m7, hm7⟩ : ∃ m7, ls.length = m7 := ⟨_, rfl⟩
        have HM7 := Lib.hid hm7
        rw [hm7] at HK ⊢
        clear hk7 ho7 hd7 hl7 hv7 hl77 hm7 c0
        go_wp2_with (at_builtin; go_loud (refine wpList_kx rfl _ _ rfl HK.out (List.sublist_cons_self _ _) rfl rfl (l2 := ls) HM7.out HVV.out (by have := HL5.out; omega) (by have := HL7.out; omega) ?_))
        intro kv8 w8 hk8
        rw [HE7.out] at hk8
        have HK := Lib.hid hk8; have HBM : Hid ((boxV g, boxT b) ∈ [(kv8, Th.ints l7), (boxV g, boxT b)]) := Lib.hid (List.mem_cons_of_mem _ (List.mem_cons_self ..))
        clear hk8
        go_wp2_with fail
        have HKD := HK
        have HK := Lib.hid HK.out.drew
        have HKS1 : Hid ([41] ∈ KS) := Lib.hid (by decide)
        go_region_held3 (fun w' => w'.cell? ⟨g, 0, none⟩ = some (.pointer (some ⟨b, 0, none⟩)) ∧ w'.cell? ⟨b, 0, none⟩ = some (.pointer (some ⟨bb, 0, none⟩))) (first | exact ⟨HK.out.boxc (by first | exact (List.mem_cons_of_mem _ (List.mem_cons_self ..)) | exact (List.mem_cons_of_mem _ (List.mem_cons_of_mem _ (List.mem_cons_self ..)))), HK.out.cell⟩ | exact ⟨(HK.out.alloc _).boxc (by first | exact (List.mem_cons_of_mem _ (List.mem_cons_self ..)) | exact (List.mem_cons_of_mem _ (List.mem_cons_of_mem _ (List.mem_cons_self ..)))), (HK.out.alloc _).cell⟩ | exact ⟨(HKD.out.alloc _).drew.boxc (by first | exact (List.mem_cons_of_mem _ (List.mem_cons_self ..)) | exact (List.mem_cons_of_mem _ (List.mem_cons_of_mem _ (List.mem_cons_self ..)))), (HKD.out.alloc _).drew.cell⟩ | exact ⟨((HK.out.alloc _).alloc _).boxc (by first | exact (List.mem_cons_of_mem _ (List.mem_cons_self ..)) | exact (List.mem_cons_of_mem _ (List.mem_cons_of_mem _ (List.mem_cons_self ..)))), ((HK.out.alloc _).alloc _).cell⟩)
          (first
            | (refine step_kx rfl _ _ rfl ((HK.out.few (List.sublist_cons_self _ _)).ints1 _) (List.sublist_cons_self _ _) rfl rfl (l2 := [_]) rfl (vat1 _ _) (by have := HLL.out; omega) (by simp) ?_; intro v8 w9 hk9; have HK := Lib.hid hk9; clear hk9)
            | (go_at_call 170; (first | with_reducible refine (KX.one1 [41] (HK.out.strs1 _ _) HCC.out HKS1.out ?_).mono ?_ | with_reducible refine (KX.one1 [41] (HKD.out.strs1 _ _).drew HCC.out HKS1.out ?_).mono ?_); (refine ⟨_, ?_, List.mem_cons_self ..⟩; first | rfl | (simp; done)); rintro e w9 ⟨v9, N9, vn9, rfl, hk9, ho9, hd9⟩; have HK := Lib.hid hk9; have HD := Lib.hid (OutD.app HA.out ho9 hd9); clear hk9 ho9 hd9)
            | (go_at_call 67; have HDW := Lib.hid (HD.out.weak (j := 0 + 1) (by decide)); refine (KX.node (k := 0) (kind := 13) HK.out ?_ HCC.out.len HDW.out ?_ HFEW.out ?_).mono ?_; exact List.mem_cons_self ..; rfl; (have := HLL.out; rw [List.length_append]; simp; omega); rintro e w9 ⟨v9, N9, vn9, rfl, hk9, ho9⟩; have HK := Lib.hid hk9; have HZ := Lib.hid ho9; clear hk9 ho9))
        all_goals
          have HQ := Lib.hid (KX.fin HZ.out HK.out (fun he => absurd HLI.out.2 he) (r' := nameT T (NT T D n) s) (by rw [HSH.out, HAE.out, HCE.out]; exact name_end (Eqv.refl _) (HLIST.out c.2 HCI.out)))
          go_wp2_with fail
          go_ret
          exact HQ.out
      · have HLJ := Lib.hid (is_kind HV3.out)
        go_wp2_with fail
        have HKD := HK
        have HK := Lib.hid HK.out.drew
        have HA := Lib.hid HO.out.out
        have HBM : Hid ((boxV g, boxT b) ∈ [(.slice (some ⟨w2.heap.size, 0, none⟩) 1 1, Th.ints [v3]), (boxV g, boxT b)]) := Lib.hid (List.mem_cons_of_mem _ (List.mem_cons_self ..))
        go_region_held3 (fun w' => w'.cell? ⟨g, 0, none⟩ = some (.pointer (some ⟨b, 0, none⟩))) (first | exact HK.out.boxc (List.mem_cons_of_mem _ (List.mem_cons_self ..)) | exact (HK.out.alloc _).boxc (List.mem_cons_of_mem _ (List.mem_cons_self ..)))
          (first
            | (refine step_kx rfl _ _ rfl (HK.out.ints2 _ _) (List.sublist_cons_self _ _) rfl rfl (l2 := [_, _]) rfl (vat2 _ _ _) (by simp) (by simp) ?_; intro kv4 w9 hk9; have HK := Lib.hid hk9; clear hk9)
            | (go_at_call 98; (with_reducible refine (HK.out.take HCC.out HLJ.out.1 HLJ.out.2).mono ?_); rintro e w9 ⟨v9, N9, vn9, rfl, hk9, ho9, hd9⟩; have HK := Lib.hid hk9; have HA := Lib.hid (HA.out.app ho9.out hd9); clear hk9 ho9 hd9)
            | (go_at_call 70; (with_reducible refine (HK.out.word HCC.out).mono ?_); rintro e w9 ⟨v9, N9, vn9, rfl, hk9, ho9, hd9⟩; have HK := Lib.hid hk9; have HA := Lib.hid (HA.out.app ho9.out hd9); clear hk9 ho9 hd9))
        all_goals
          obtain ⟨a, vs, HAE, HK, HA, HVS, HDD, HIN⟩ : ∃ (a : RT) (vs : List Int), Hid (nameBT T (leafT T s) = a) ∧ Hid (KX b bb T D n A vn w w9 a.2 a.2.i N9 vn9 [(kv4, .ints vs), (boxV g, boxT b)]) ∧ Hid (OutL 1 N s a N9 vs) ∧ Hid (vs.length ≤ 3) ∧ Hid (s.e ≠ 0 → a.2.e ≠ 0) ∧ Hid (a.2.inn = false) :=
            ⟨((leafT T s).1 ++ (leafT T (leafT T s).2).1 ++ (kindT T 1 (leafT T (leafT T s).2).2).1, (kindT T 1 (leafT T (leafT T s).2).2).2), _, Lib.hid (by unfold nameBT; rw [if_pos HV3.out]), HK, Lib.hid (by have h9 := HA.out.weak (j := 1) (by decide); rw [List.append_assoc [v3]] at h9; exact h9), Lib.hid (by simp), Lib.hid (fun h => absurd HLI.out.2 h), Lib.hid ((kind_keep T 1 _).inn.trans ((leaf_keep T HLJ.out.2).inn.trans HI.out))⟩
          have c0 := HK.out.boxc (List.mem_cons_of_mem _ (List.mem_cons_self ..))
          go_wp2_with fail
          refine (KX.one1 [40] (HK.out.strs1 _ _) HCC.out (by decide) ⟨_, rfl, List.mem_cons_self ..⟩).mono ?_
          rintro e w5 ⟨v5, N5, vn5, rfl, hk, ho, hd⟩
          have HK := Lib.hid (hk.few (List.sublist_cons_self _ _)); have HIN := Lib.hid ((must_keep T [40] a.2).inn.trans HIN.out)
          obtain ⟨l5, hl5⟩ : ∃ l5, vs ++ [v5] = l5 := ⟨_, rfl⟩
          have HL5 : Hid (l5.length ≤ 4) := Lib.hid (by rw [← hl5, List.length_append]; have := HVS.out; simp; omega)
          have HA : Hid (OutL 1 N s (nameCT T a) N5 l5) := Lib.hid (by rw [← hl5]; exact (HA.out.app ho.out hd).weak (by decide)); have HDD : Hid (s.e ≠ 0 → (nameCT T a).2.e ≠ 0) := Lib.hid (fun h => hd (HDD.out h))
          have HE5 := Lib.hid hl5
          clear hk ho hd c0 hl5
          go_wp2_with (at_builtin; go_loud (refine wpList_kx rfl _ _ rfl (HK.out.ints1 v5) (List.sublist_cons_self _ _) rfl rfl (l2 := [v5]) rfl (vat1 _ _) (by have := HVS.out; omega) (by simp) ?_))
          intro kv6 w6 hk6
          rw [HE5.out] at hk6
          have HK : Hid (KX b bb T D n A vn w w6 (nameCT T a).2 (nameCT T a).2.i N5 vn5 [(kv6, .ints l5), (boxV g, boxT b)]) := Lib.hid hk6
          have HIN : Hid ((nameCT T a).2.inn = false) := HIN
          obtain ⟨c, hc⟩ : ∃ c, nameCT T a = c := ⟨_, rfl⟩
          have HCE := Lib.hid hc
          rw [hc] at HK HA HDD HIN
          have HCI : Hid (c.2.i ≤ T.length) := Lib.hid (Nat.le_of_lt HK.out.ok)
          clear hk6 hc
          have c0 := HK.out.boxc (List.mem_cons_of_mem _ (List.mem_cons_self ..))
          go_wp2_with fail
          refine (list_args b bb T D n HCC.out _ HSF.out (fun s hs => ((HKE.out s).inn).trans hs) HK.out (List.mem_cons_of_mem _ (List.mem_cons_self ..)) HIN.out).mono ?_
          rintro e w7 ⟨lv, ls, N7, vn7, rfl, hk7, ho7, hd7, hl7⟩
          obtain ⟨q7, c7, rfl, hv7, -, -⟩ := hk7.list (List.mem_cons_self ..)
          have HK := Lib.hid hk7; have HVV := Lib.hid hv7; have HL7 := Lib.hid hl7
          obtain ⟨l7, hl77⟩ : ∃ l7, l5 ++ ls = l7 := ⟨_, rfl⟩
          have HE7 := Lib.hid hl77
          have HLL : Hid (l7.length ≤ 310) := Lib.hid (by rw [← hl77, List.length_append]; have := HL5.out; omega)
          have HA : Hid (OutL 1 N s (c.1 ++ (listP T (NT T D n).expr c.2).1, (listP T (NT T D n).expr c.2).2) N7 l7) := Lib.hid (by rw [← hl77]; exact (HA.out.app ho7 hd7).weak (by decide)); have HDD := Lib.hid (fun h => hd7 (HDD.out h))
          obtain ⟨m7, hm7⟩ : ∃ m7, ls.length = m7 := ⟨_, rfl⟩
          have HM7 := Lib.hid hm7
          rw [hm7] at HK ⊢
          clear hk7 ho7 hd7 hl7 hv7 hl77 hm7 c0
          go_wp2_with (at_builtin; go_loud (refine wpList_kx rfl _ _ rfl HK.out (List.sublist_cons_self _ _) rfl rfl (l2 := ls) HM7.out HVV.out (by have := HL5.out; omega) (by have := HL7.out; omega) ?_))
          intro kv8 w8 hk8
          rw [HE7.out] at hk8
          have HK := Lib.hid hk8; have HBM : Hid ((boxV g, boxT b) ∈ [(kv8, Th.ints l7), (boxV g, boxT b)]) := Lib.hid (List.mem_cons_of_mem _ (List.mem_cons_self ..))
          clear hk8
          go_wp2_with fail
          have HKD := HK
          have HK := Lib.hid HK.out.drew
          have HKS1 : Hid ([41] ∈ KS) := Lib.hid (by decide)
          go_region_held3 (fun w' => w'.cell? ⟨g, 0, none⟩ = some (.pointer (some ⟨b, 0, none⟩)) ∧ w'.cell? ⟨b, 0, none⟩ = some (.pointer (some ⟨bb, 0, none⟩))) (first | exact ⟨HK.out.boxc (by first | exact (List.mem_cons_of_mem _ (List.mem_cons_self ..)) | exact (List.mem_cons_of_mem _ (List.mem_cons_of_mem _ (List.mem_cons_self ..)))), HK.out.cell⟩ | exact ⟨(HK.out.alloc _).boxc (by first | exact (List.mem_cons_of_mem _ (List.mem_cons_self ..)) | exact (List.mem_cons_of_mem _ (List.mem_cons_of_mem _ (List.mem_cons_self ..)))), (HK.out.alloc _).cell⟩ | exact ⟨(HKD.out.alloc _).drew.boxc (by first | exact (List.mem_cons_of_mem _ (List.mem_cons_self ..)) | exact (List.mem_cons_of_mem _ (List.mem_cons_of_mem _ (List.mem_cons_self ..)))), (HKD.out.alloc _).drew.cell⟩ | exact ⟨((HK.out.alloc _).alloc _).boxc (by first | exact (List.mem_cons_of_mem _ (List.mem_cons_self ..)) | exact (List.mem_cons_of_mem _ (List.mem_cons_of_mem _ (List.mem_cons_self ..)))), ((HK.out.alloc _).alloc _).cell⟩)
            (first
              | (refine step_kx rfl _ _ rfl ((HK.out.few (List.sublist_cons_self _ _)).ints1 _) (List.sublist_cons_self _ _) rfl rfl (l2 := [_]) rfl (vat1 _ _) (by have := HLL.out; omega) (by simp) ?_; intro v8 w9 hk9; have HK := Lib.hid hk9; clear hk9)
              | (go_at_call 170; (first | with_reducible refine (KX.one1 [41] (HK.out.strs1 _ _) HCC.out HKS1.out ?_).mono ?_ | with_reducible refine (KX.one1 [41] (HKD.out.strs1 _ _).drew HCC.out HKS1.out ?_).mono ?_); (refine ⟨_, ?_, List.mem_cons_self ..⟩; first | rfl | (simp; done)); rintro e w9 ⟨v9, N9, vn9, rfl, hk9, ho9, hd9⟩; have HK := Lib.hid hk9; have HD := Lib.hid (OutD.app HA.out ho9 hd9); clear hk9 ho9 hd9)
              | (go_at_call 67; have HDW := Lib.hid (HD.out.weak (j := 0 + 1) (by decide)); refine (KX.node (k := 0) (kind := 13) HK.out ?_ HCC.out.len HDW.out ?_ HFEW.out ?_).mono ?_; exact List.mem_cons_self ..; rfl; (have := HLL.out; rw [List.length_append]; simp; omega); rintro e w9 ⟨v9, N9, vn9, rfl, hk9, ho9⟩; have HK := Lib.hid hk9; have HZ := Lib.hid ho9; clear hk9 ho9))
          all_goals
            have HQ := Lib.hid (KX.fin HZ.out HK.out (fun he => absurd HLI.out.2 he) (r' := nameT T (NT T D n) s) (by rw [HSH.out, HAE.out, HCE.out]; exact name_end (Eqv.refl _) (HLIST.out c.2 HCI.out)))
            go_wp2_with fail
            go_ret
            exact HQ.out
end
end Go.Proofs.YtijpelkjeejjfaaGreatDoor
namespace Go.Proofs.YtijpelkjeejjfaaGreatDoor
open Go.RowKit

mutual
/-- More than an expression's text has bytes. -/
def tbS : Sx → Nat
  | .mk _ nm md nu _ ks _ => 100 + nm.length + md.length + (Zd.txtL nu).length + tbSs ks
def tbSs : List Sx → Nat
  | [] => 0
  | x :: l => 4 + tbS x + tbSs l
end
def sumTx : List (Int × List UInt8) → Nat
  | [] => 0
  | a :: l => 4 + a.2.length + sumTx l
theorem wrap_len (op : Int) (t : List UInt8) (least : Nat) : (wrapT op t least).length ≤ t.length + 2 := by
  unfold wrapT; split <;> simp
theorem three_len : ∀ (k : List (Int × List UInt8)), (k.getD 0 (1, [])).2.length + (k.getD 1 (1, [])).2.length + (k.getD 2 (1, [])).2.length ≤ sumTx k
  | [] => by simp [sumTx]
  | [a] => by simp [sumTx]
  | [a, b] => by simp [sumTx]; omega
  | a :: b :: c :: l => by simp [sumTx]; omega
theorem join_len : ∀ k : List (Int × List UInt8), (joinT (k.map (·.2))).length ≤ sumTx k
  | [] => by simp [joinT, sumTx]
  | [a] => by simp [joinT, sumTx]
  | a :: b :: l => by
    have := join_len (b :: l)
    simp only [List.map_cons] at this
    simp only [List.map_cons, joinT, List.length_append, List.length_cons, List.length_nil, sumTx] at this ⊢; omega
theorem signT_len (op : Int) : (signS op).length ≤ 2 := by
  unfold signS
  rw [List.getD_eq_getElem?_getD]
  cases h : ([[43], [45], [42], [47], [37], [61], [60, 62], [60], [60, 61], [62], [62, 61], [38, 38], [124, 124], [61, 62]] : List (List UInt8))[(op - 7).toNat]? with
  | none => simp
  | some a =>
    have h2 := List.mem_of_getElem? h
    simp only [List.mem_cons, List.not_mem_nil, or_false] at h2
    rcases h2 with h | h | h | h | h | h | h | h | h | h | h | h | h | h <;> subst h <;> simp
theorem ite_le {c : Prop} [Decidable c] {a b : List UInt8} {n : Nat} (ha : a.length ≤ n) (hb : b.length ≤ n) : (if c then a else b).length ≤ n := by
  split
  · exact ha
  · exact hb
theorem node_len (op : Int) (nm md : List UInt8) (nu : Int) (ys : Bool) (k : List (Int × List UInt8)) : (nodeT op nm md nu ys k).length ≤ 100 + nm.length + md.length + (Zd.txtL nu).length + sumTx k := by
  have h3 := three_len k
  have hj := join_len k
  have hs := signT_len op
  have hw := fun j l => wrap_len (k.getD j (1, [])).1 (k.getD j (1, [])).2 l
  have a0 := hw 0 9
  have a1 := hw 0 4
  have b0 := hw 0 0
  have b1 := hw 1 0
  have b2 := hw 2 0
  have d0 := hw 0 (sideA (levS op))
  have d1 := hw 1 (sideB (levS op))
  simp only [nodeT]
  have hm : (if md = [] then [] else md ++ [46]).length ≤ md.length + 1 := ite_le (by simp) (by simp)
  clear hw
  generalize Zd.txtL nu = tl
  repeat' (refine ite_le ?_ ?_)
  all_goals try simp only [List.length_append, List.length_cons, List.length_nil]
  all_goals omega
mutual
theorem tb_len : ∀ x : Sx, (txS x).length ≤ tbS x
  | .mk op nm md nu ys ks ps => by
    have h1 := node_len op nm md nu ys (txSs ks)
    have h2 := tb_lens ks
    simp only [txS, tbS]; omega
theorem tb_lens : ∀ l : List Sx, sumTx (txSs l) ≤ tbSs l
  | [] => Nat.le_refl _
  | x :: l => by
    have h1 := tb_len x
    have h2 := tb_lens l
    simp only [txSs, sumTx, tbSs]; omega
end
theorem tbSs_mem : ∀ {l : List Sx} {j : Nat} {x : Sx}, l[j]? = some x → tbS x ≤ tbSs l
  | [], j, x, h => by simp at h
  | y :: l, 0, x, h => by simp at h; subst h; simp only [tbSs]; omega
  | y :: l, j + 1, x, h => by
    have := tbSs_mem (l := l) (j := j) (x := x) (by simpa using h)
    simp only [tbSs]; omega
theorem ba_cat (a b : List UInt8) : (⟨(a ++ b).toArray⟩ : ByteArray) = (⟨a.toArray⟩ : ByteArray) ++ (⟨b.toArray⟩ : ByteArray) := by rw [ByteArray.mk_append_mk]
/-- A text is told, and memory is kept. -/
def StrX (l : List UInt8) (w : World) (e : Ending) (w' : World) : Prop := e = .returned (.string ⟨l.toArray⟩) ∧ w.grownBy w' none
set_option maxRecDepth 100000 in
set_option maxHeartbeats 16000000 in
theorem rkid_c (op : Int) (sn sm su : ByteArray) (ys : Bool) (pk : Option Addr) (kl ck : Nat) (ps : Int) (least : Nat) (T : List UInt8) (w : World) (h1 : 1 ≤ op) (h2 : op ≤ 24) (hT : T.length ≤ 1000000000)
    (HT : ∀ W, w.grownBy W none → Calls Tryz.prog 7 #[.agg #[.int .i64 op, .string sn, .string sm, .string su, .bool ys, .slice pk kl ck, .int .i64 ps]] W (StrX T W)) :
    Calls Tryz.prog 17 #[.agg #[.int .i64 op, .string sn, .string sm, .string su, .bool ys, .slice pk kl ck, .int .i64 ps], .int .i64 least] w (StrX (wrapT op T least) w) := by
  have HLV := Lib.hid (rlevel_c op h1 h2)
  have HTX := Lib.hid HT
  obtain ⟨l, hl⟩ : ∃ l, levS op = l := ⟨_, rfl⟩
  have hwr : wrapT op T least = if l < least then [40] ++ T ++ [41] else T := by rw [← hl]; rfl
  rw [hl] at HLV
  obtain ⟨R, hR⟩ : ∃ R, wrapT op T least = R := ⟨_, rfl⟩
  rw [hR] at hwr ⊢
  have HR := Lib.hid hwr
  have HTL := Lib.hid hT
  clear hl hwr hR h1 h2 HT hT
  go_enter Tryz.func17, Tryz.ntmps17
  go_wp2_with fail
  have hga := World.grownBy_alloc w (.cells #[.int .i64 op, .string sn, .string sm, .string su, .bool ys, .slice pk kl ck, .int .i64 ps] 34) none
  have hbk := heap_alloc_new w (.cells #[.int .i64 op, .string sn, .string sm, .string su, .bool ys, .slice pk kl ck, .int .i64 ps] 34)
  generalize (w.alloc (.cells #[.int .i64 op, .string sn, .string sm, .string su, .bool ys, .slice pk kl ck, .int .i64 ps] 34)) = WA at *
  obtain ⟨b, hb⟩ : ∃ b, w.heap.size = b := ⟨_, rfl⟩
  rw [hb] at hbk ⊢
  have HGA := Lib.hid hga; have HBK := Lib.hid hbk
  clear hga hbk hb
  refine (HLV.out WA).mono ?_
  rintro e w1 ⟨rfl, hg1⟩
  have HG1 := Lib.hid (gb_trans HGA.out hg1)
  obtain ⟨c0, c1, c2, c3, c4, c5, c6, hbw⟩ := cells7x (bx hg1 HBK.out)
  clear hg1
  by_cases hlt : l < least
  · have x1 : decide (l < least) = true := decide_eq_true hlt
    have x2 : decide ((l : Int) < (least : Int)) = true := decide_eq_true (by omega)
    have HRR : Hid (R = [40] ++ T ++ [41]) := Lib.hid (by rw [HR.out, if_pos hlt])
    clear hlt
    go_wp2_with fail
    refine (HTX.out w1 HG1.out).mono ?_
    rintro e w2 ⟨rfl, hg2⟩
    have HG2 := Lib.hid (gb_trans HG1.out hg2)
    clear hg2
    have z1 : ¬ 9223372036854775807 < T.length + 1 := by have := HTL.out; omega
    have z2 : ¬ 9223372036854775807 < 1 + T.length := by have := HTL.out; omega
    have z3 : ¬ 9223372036854775807 < T.length + 1 + 1 := by have := HTL.out; omega
    have z4 : ¬ 9223372036854775807 < 1 + T.length + 1 := by have := HTL.out; omega
    have z5 : ¬ 9223372036854775807 < T.length + 2 := by have := HTL.out; omega
    go_wp2_with fail
    go_ret
    exact ⟨by rw [HRR.out, ba_cat, ba_cat]; rfl, HG2.out⟩
  · have x1 : decide (l < least) = false := decide_eq_false hlt
    have x2 : decide ((l : Int) < (least : Int)) = false := decide_eq_false (by omega)
    have HRR : Hid (R = T) := Lib.hid (by rw [HR.out, if_neg hlt])
    clear hlt
    go_wp2_with fail
    refine (HTX.out w1 HG1.out).mono ?_
    rintro e w2 ⟨rfl, hg2⟩
    have HG2 := Lib.hid (gb_trans HG1.out hg2)
    clear hg2
    go_wp2_with fail
    go_ret
    exact ⟨by rw [HRR.out]; rfl, HG2.out⟩

theorem tbSs_append (a b : List Sx) : tbSs (a ++ b) = tbSs a + tbSs b := by
  induction a with
  | nil => simp [tbSs]
  | cons x l ih => simp only [List.cons_append, tbSs, ih]; omega
theorem wgSs_append (a b : List Sx) : wgSs (a ++ b) = wgSs a + wgSs b := by
  induction a with
  | nil => simp [wgSs]
  | cons x l ih => simp only [List.cons_append, wgSs, ih]; omega
theorem numC_txt {c : Cl} (h : fitsC c = true) : (Zd.txtL (numC c)).length ≤ 80 := by
  have hz : (Zd.txtL 0).length ≤ 80 := by unfold Zd.txtL; rw [if_pos rfl]; simp
  unfold fitsC at h
  simp only [Bool.and_eq_true] at h
  have h3 := of_decide_eq_true h.2
  unfold numC
  split
  · by_cases hE : Zd.parseE c.nu = 0
    · rw [Zd.txtL_parse hE]; exact h3
    · have : Zd.parseV c.nu = 0 := by unfold Zd.parseV; rw [if_neg hE]
      rw [this]; exact hz
  · exact hz
theorem stepC_bnd {o : List Sx} {c : Cl} (h : fitsC c = true) : tbSs (stepC o c) ≤ tbSs o + 304 ∧ wgSs (stepC o c) = wgSs o + 8 := by
  have h1 := tbSs_append (o.take (o.length - takesC c)) (o.drop (o.length - takesC c))
  have h2 := wgSs_append (o.take (o.length - takesC c)) (o.drop (o.length - takesC c))
  rw [List.take_append_drop] at h1 h2
  have h3 := numC_txt h
  unfold fitsC at h
  simp only [Bool.and_eq_true] at h
  have h4 := of_decide_eq_true h.1.1
  have h5 := of_decide_eq_true h.1.2
  unfold stepC
  rw [tbSs_append, wgSs_append, h1, h2]
  simp only [tbSs, tbS, wgSs, wgS]
  omega
theorem foldC_bnd : ∀ (l : List Cl) (o : List Sx), l.all fitsC = true → tbSs (l.foldl stepC o) ≤ tbSs o + 304 * l.length ∧ wgSs (l.foldl stepC o) = wgSs o + 8 * l.length
  | [], o, _ => by simp
  | c :: l, o, h => by
    simp only [List.all_cons, Bool.and_eq_true] at h
    have h1 := foldC_bnd l (stepC o c) h.2
    have h2 := stepC_bnd (o := o) h.1
    rw [List.foldl_cons, List.length_cons]
    omega
theorem wgSs_mem : ∀ {l : List Sx} {j : Nat} {x : Sx}, l[j]? = some x → wgS x ≤ wgSs l
  | [], j, x, h => by simp at h
  | y :: l, 0, x, h => by simp at h; subst h; simp only [wgSs]; omega
  | y :: l, j + 1, x, h => by
    have := wgSs_mem (l := l) (j := j) (x := x) (by simpa using h)
    simp only [wgSs]; omega
theorem bothC_bnd {l : List Cl} {x : Sx} (h : bothC l = some x) : tbS x ≤ 10000 ∧ wgS x ≤ 500 := by
  unfold bothC at h
  split at h
  · cases h
  · rename_i h30
    split at h
    · rename_i hf
      have h1 : x ∈ stackC l := List.mem_of_getLast? h
      obtain ⟨j, hj, rfl⟩ := List.getElem_of_mem h1
      have h2 := tbSs_mem (List.getElem?_eq_getElem hj)
      have h3 := wgSs_mem (List.getElem?_eq_getElem hj)
      have h4 := foldC_bnd l [] hf
      unfold stackC at h2 h3 ⊢
      simp only [tbSs, wgSs] at h4
      omega
    · cases h

theorem join_snoc (t : List UInt8) : ∀ l : List (List UInt8), joinT (l ++ [t]) = joinT l ++ (if l.length = 0 then [] else [44, 32]) ++ t
  | [] => by simp [joinT]
  | [a] => by simp [joinT]
  | a :: b :: l => by
    have h := join_snoc t (b :: l)
    simp only [List.cons_append] at h ⊢
    simp only [joinT, h]
    simp
theorem join_take {ts : List (List UInt8)} {j : Nat} {t : List UInt8} (h : ts[j]? = some t) : joinT (ts.take (j + 1)) = joinT (ts.take j) ++ (if j = 0 then [] else [44, 32]) ++ t := by
  have hj := (List.getElem?_eq_some_iff.1 h).1
  rw [List.take_add_one, h]
  show joinT (ts.take j ++ [t]) = _
  rw [join_snoc, List.length_take, Nat.min_eq_left (by omega)]
theorem join_take_len (ts : List (List UInt8)) : ∀ j, (joinT (ts.take j)).length ≤ (joinT (ts.take (j + 1))).length := fun j => by
  cases h : ts[j]? with
  | none => rw [List.getElem?_eq_none_iff] at h; rw [List.take_of_length_le h, List.take_of_length_le (by omega)]; exact Nat.le_refl _
  | some t => rw [join_take h, List.length_append, List.length_append]; omega
theorem join_le (ts : List (List UInt8)) (j : Nat) : (joinT (ts.take j)).length ≤ (joinT ts).length := by
  have h : ∀ d, (joinT (ts.take j)).length ≤ (joinT (ts.take (j + d))).length := fun d => by
    induction d with
    | zero => exact Nat.le_refl _
    | succ d ih => exact Nat.le_trans ih (join_take_len ts (j + d))
  have := h ts.length
  rwa [List.take_of_length_le (l := ts) (i := j + ts.length) (by omega)] at this
set_option maxRecDepth 100000 in
set_option maxHeartbeats 16000000 in
theorem rcall_c (op : Int) (nm md : List UInt8) (su : ByteArray) (ys : Bool) (pk : Option Addr) (kl ck : Nat) (ps : Int) (rows : List (List Value)) (ts : List (List UInt8)) (w : World) (hG : GAt 7 w pk rows) (hr : rows.length = kl) (ht : ts.length = kl) (hk : kl ≤ 1000000) (hw7 : ∀ q ∈ rows, q.length = 7)
    (HK : ∀ (j : Nat) (q : List Value) (t : List UInt8), rows[j]? = some q → ts[j]? = some t → ∀ W, w.grownBy W none → Calls Tryz.prog 7 #[.agg q.toArray] W (StrX t W))
    (hT : md.length + nm.length + (joinT ts).length ≤ 2000000000) :
    Calls Tryz.prog 18 #[.agg #[.int .i64 op, .string ⟨nm.toArray⟩, .string ⟨md.toArray⟩, .string su, .bool ys, .slice pk kl ck, .int .i64 ps]] w (StrX ((if md = [] then [] else md ++ [46]) ++ nm ++ [40] ++ joinT ts ++ [41]) w) := by
  obtain ⟨pre, hpre⟩ : ∃ pre, (if md = [] then [] else md ++ [46]) ++ nm ++ [40] = pre := ⟨_, rfl⟩
  rw [hpre]
  have hpl : pre.length ≤ md.length + nm.length + 2 := by
    rw [← hpre, List.length_append, List.length_append]
    have := ite_le (c := md = []) (a := []) (b := md ++ [46]) (n := md.length + 1) (by simp) (by simp)
    simp only [List.length_cons, List.length_nil]; omega
  have HPR := Lib.hid hpre
  have HG := Lib.hid hG; have HR := Lib.hid hr; have HT := Lib.hid ht; have HKB := Lib.hid hk; have HW7 := Lib.hid hw7; have HK := Lib.hid HK; have HTL := Lib.hid hT; have HPL := Lib.hid hpl
  obtain ⟨R, hR⟩ : ∃ R, pre ++ joinT ts ++ [41] = R := ⟨_, rfl⟩
  rw [hR]
  have HRR := Lib.hid hR
  have z1 : ¬ 9223372036854775807 < nm.length + 1 := by omega
  have z2 : ¬ 9223372036854775807 < md.length + 1 := by omega
  have z3 : ¬ 9223372036854775807 < md.length + 1 + (nm.length + 1) := by omega
  clear hpre hG hr ht hk hw7 hT hpl hR
  go_enter Tryz.func18, Tryz.ntmps18
  go_upto_region 1 with fail
  have hgA := World.grownBy_alloc w (.cells #[.int .i64 op, .string ⟨nm.toArray⟩, .string ⟨md.toArray⟩, .string su, .bool ys, .slice pk kl ck, .int .i64 ps] 34) none
  have hbA := heap_alloc_new w (.cells #[.int .i64 op, .string ⟨nm.toArray⟩, .string ⟨md.toArray⟩, .string su, .bool ys, .slice pk kl ck, .int .i64 ps] 34)
  generalize (w.alloc (.cells #[.int .i64 op, .string ⟨nm.toArray⟩, .string ⟨md.toArray⟩, .string su, .bool ys, .slice pk kl ck, .int .i64 ps] 34)) = WA at *
  obtain ⟨b, hb⟩ : ∃ b, w.heap.size = b := ⟨_, rfl⟩
  rw [hb] at hbA ⊢
  have HGA := Lib.hid hgA; have HBA := Lib.hid hbA
  clear hgA hbA hb
  obtain ⟨c0, c1, c2, c3, c4, c5, c6, hbw⟩ := cells7x HBA.out
  by_cases hmd : md = []
  focus
    have hpe : Hid (pre = nm ++ [40]) := Lib.hid (by rw [← HPR.out, if_pos hmd]; rfl)
    subst hmd
    go_upto_region 4 with fail
    have hs : (⟨nm.toArray⟩ : ByteArray) ++ (⟨#[40]⟩ : ByteArray) = ⟨pre.toArray⟩ := by rw [hpe.out, ba_cat]
    rw [hs]
    clear hs hpe
  rotate_left 1
  focus
    have hpe : Hid (pre = (md ++ [46]) ++ (nm ++ [40])) := Lib.hid (by rw [← HPR.out, if_neg hmd]; simp)
    have hme : md.isEmpty = false := by cases md with | nil => exact absurd rfl hmd | cons a l => rfl
    go_upto_region 4 with fail
    have hs : (⟨md.toArray⟩ : ByteArray) ++ (⟨#[46]⟩ : ByteArray) ++ ((⟨nm.toArray⟩ : ByteArray) ++ (⟨#[40]⟩ : ByteArray)) = ⟨pre.toArray⟩ := by rw [hpe.out, ba_cat, ba_cat, ba_cat]
    rw [hs]
    clear hs hpe hme hmd
  rotate_left 1
  all_goals
    clear c0 c1 c2 c3 c4 c5 c6 hbw z1 z2 z3 HPR
    go_wp2_with fail
    go_loopg [3, 4] kl (fun gk sv iv wr => ∃ (j : Nat) (s : List UInt8), j ≤ kl ∧ iv = .int .i64 (j : Int) ∧ sv = .string ⟨s.toArray⟩ ∧ kl - j ≤ gk ∧ gk ≤ kl ∧ Hid (s = pre ++ joinT (ts.take j)) ∧ Hid (WA.grownBy wr none))
    case atStart => exact ⟨0, pre, Nat.zero_le _, rfl, rfl, by omega, Nat.le_refl _, Lib.hid (by simp [joinT]), Lib.hid (gb_refl _ _)⟩
    case round =>
      obtain ⟨j, s, hj, rfl, rfl, hgk1, hgk2, HS, HGR⟩ := hrel
      obtain ⟨c0, c1, c2, c3, c4, c5, c6, hbw⟩ := cells7x (bx HGR.out HBA.out)
      have HGW : Hid (w.grownBy wr none) := Lib.hid (gb_trans HGA.out HGR.out)
      have hsl : s.length ≤ 2000000010 := by
        rw [HS.out, List.length_append]
        have h1 := join_le ts j
        have h2 := HTL.out; have h3 := HPL.out; omega
      by_cases hlt : j < kl
      · have y3 : decide ((j : Int) < (kl : Int)) = true := decide_eq_true (by omega)
        have y4 : decide (j < kl) = true := decide_eq_true hlt
        have hwj : IntKind.i64.wrap ((j : Int) + 1) = (j : Int) + 1 := IntWalk.i64_in _ (by have := HKB.out; omega)
        obtain ⟨q, hq⟩ : ∃ q, rows[j]? = some q := ⟨rows[j]'(by rw [HR.out]; exact hlt), List.getElem?_eq_getElem _⟩
        obtain ⟨t, ht⟩ : ∃ t, ts[j]? = some t := ⟨ts[j]'(by rw [HT.out]; exact hlt), List.getElem?_eq_getElem _⟩
        have hq7 := HW7.out q (List.mem_of_getElem? hq)
        obtain ⟨v0, v1, v2, v3, v4, v5, v6, rfl⟩ : ∃ v0 v1 v2 v3 v4 v5 v6, q = [v0, v1, v2, v3, v4, v5, v6] := by
          match q, hq7 with
          | [v0, v1, v2, v3, v4, v5, v6], _ => exact ⟨_, _, _, _, _, _, _, rfl⟩
        have HCK := Lib.hid (HK.out j _ t hq ht wr HGW.out)
        have HNX := Lib.hid (join_take ht)
        have htl : t.length ≤ 2000000000 := by
          have h1 := join_le ts (j + 1)
          rw [join_take ht, List.length_append] at h1
          have h2 := HTL.out; omega
        obtain ⟨g, off, rfl, hgl, hc⟩ := HG.out.resolve_left (fun e => by rw [e] at hq; simp at hq)
        have hc := fun i v h => HGW.out.cell (hc j _ hq i v h) (by simp)
        have k0 := hc 0 _ rfl
        have k1 := hc 1 _ rfl
        have k2 := hc 2 _ rfl
        have k3 := hc 3 _ rfl
        have k4 := hc 4 _ rfl
        have k5 := hc 5 _ rfl
        have k6 := hc 6 _ rfl
        rw [Nat.add_zero] at k0
        have hgl := Nat.lt_of_lt_of_le hgl HGW.out.size
        clear hq ht hq7 hc
        rcases Nat.eq_zero_or_pos j with hj0 | hj0
        focus
          have hnx : Hid (s ++ t = pre ++ joinT (ts.take (j + 1))) := Lib.hid (by rw [HNX.out, HS.out, if_pos hj0]; simp)
          have y5 : decide ((0 : Int) < (j : Int)) = false := decide_eq_false (by omega)
          have y6 : ¬ 0 < j := by omega
          clear hj0
          have z4 : ¬ 9223372036854775807 < s.length + t.length := by omega
          go_wp2_with fail
        rotate_left 1
        focus
          have hnx : Hid (s ++ [44, 32] ++ t = pre ++ joinT (ts.take (j + 1))) := Lib.hid (by rw [HNX.out, HS.out, if_neg (by omega)]; simp)
          have y5 : decide ((0 : Int) < (j : Int)) = true := decide_eq_true (by omega)
          have z4 : ¬ 9223372036854775807 < s.length + 2 := by omega
          have z5 : ¬ 9223372036854775807 < s.length + 2 + t.length := by omega
          go_wp2_with fail
        rotate_left 1
        all_goals
          refine HCK.out.mono ?_
          rintro e w7 ⟨rfl, hg7⟩
          have HG7 : Hid (WA.grownBy w7 none) := Lib.hid (gb_trans HGR.out hg7)
          clear hg7 k0 k1 k2 k3 k4 k5 k6 hgl HCK c0 c1 c2 c3 c4 c5 c6 hbw
          go_wp2_with fail
          go_roundg (kl - (j + 1))
          case rel =>
            first
              | exact ⟨j + 1, s ++ t, by omega, by go_num, by rw [ba_cat], Nat.le_refl _, by omega, hnx, HG7⟩
              | exact ⟨j + 1, s ++ [44, 32] ++ t, by omega, by go_num, by rw [ba_cat, ba_cat], Nat.le_refl _, by omega, hnx, HG7⟩
          case measure => omega
      · obtain rfl : j = kl := by omega
        have y3 : decide ((j : Int) < (j : Int)) = false := decide_eq_false (by omega)
        have z4 : ¬ 9223372036854775807 < s.length + 1 := by omega
        have HF : Hid (R = s ++ [41]) := Lib.hid (by rw [← HRR.out, HS.out, List.take_of_length_le (by rw [HT.out]; exact Nat.le_refl _)])
        go_wp2_with fail
        go_ret
        exact ⟨by rw [HF.out, ba_cat]; rfl, HGW.out⟩

instance : Inhabited Cl := ⟨⟨0, 0, [], [], [], false⟩⟩
def inK (c : Cl) : Prop := -9223372036854775808 ≤ c.kids ∧ c.kids < 9223372036854775808

section
open Go.ChangeShapes Go.WideShapes Go.Deep
variable {H : Type} {enc : TypeId × Value → H} {P : Program} {w : World} {base : Nat} {spare : Nat → Bool} {held : Bool}

theorem open_cellC {e : TypeId} {f0 f1 f2 f3 f4 f5 : Field} {fuel : Nat} {q : List Value} {x : DataW H × List MemPlace} (he : P.underlying e = some (.struct #[f0, f1, f2, f3, f4, f5])) (hq : q.length = 6)
    (o0 : f0.offset = 0) (o1 : f1.offset = 1) (o2 : f2.offset = 2) (o3 : f3.offset = 3) (o4 : f4.offset = 4) (o5 : f5.offset = 5) (c0 : P.cellsOf f0.type = 1) (c1 : P.cellsOf f1.type = 1) (c2 : P.cellsOf f2.type = 1) (c3 : P.cellsOf f3.type = 1) (c4 : P.cellsOf f4.type = 1) (c5 : P.cellsOf f5.type = 1)
    (t0 : P.underlying f0.type = some (.int .i64)) (t1 : P.underlying f1.type = some (.int .i64)) (t2 : P.underlying f2.type = some .string) (t3 : P.underlying f3.type = some .string) (t4 : P.underlying f4.type = some .string) (t5 : P.underlying f5.type = some .bool)
    (h : DataW.trod enc P w base spare held fuel e q = some x) : ∃ c : Cl, q = cellR c ∧ inK c := by
  obtain ⟨xs, k, hk, hxy, _, hxl, hf⟩ := DataW.trod_struct he h
  match xs, hxl, q, hq with
  | [y0, y1, y2, y3, y4, y5], _, [v0, v1, v2, v3, v4, v5], _ =>
    have g0 := hf 0 f0 rfl
    have g1 := hf 1 f1 rfl
    have g2 := hf 2 f2 rfl
    have g3 := hf 3 f3 rfl
    have g4 := hf 4 f4 rfl
    have g5 := hf 5 f5 rfl
    simp [o0, o1, o2, o3, o4, o5, c0, c1, c2, c3, c4, c5] at g0 g1 g2 g3 g4 g5
    obtain ⟨n0, e0, -⟩ := DataW.trod_int t0 g0
    obtain ⟨n1, e1, -, hwf⟩ := DataW.trod_int t1 g1
    obtain ⟨s2, e2, -⟩ := DataW.trod_string t2 g2
    obtain ⟨s3, e3, -⟩ := DataW.trod_string t3 g3
    obtain ⟨s4, e4, -⟩ := DataW.trod_string t4 g4
    obtain ⟨b5, e5, -⟩ := DataW.trod_bool t5 g5
    simp at e0 e1 e2 e3 e4 e5
    subst e0; subst e1; subst e2; subst e3; subst e4; subst e5
    refine ⟨⟨n0, n1, s2.data.toList, s3.data.toList, s4.data.toList, b5⟩, rfl, ?_⟩
    unfold inK
    simp [Lit.wf] at hwf
    have h1 : IntKind.i64.min = -9223372036854775808 := by decide
    rw [h1] at hwf
    exact ⟨hwf.1, by show n1 < 9223372036854775808; omega⟩
theorem open_cellsC {t e : TypeId} {f0 f1 f2 f3 f4 f5 : Field} {fuel : Nat} {v : Option Addr} {n c : Nat} {x : DataW H × List MemPlace} (ht : P.underlying t = some (.slice e)) (he : P.underlying e = some (.struct #[f0, f1, f2, f3, f4, f5])) (ce : P.cellsOf e = 6)
    (o0 : f0.offset = 0) (o1 : f1.offset = 1) (o2 : f2.offset = 2) (o3 : f3.offset = 3) (o4 : f4.offset = 4) (o5 : f5.offset = 5) (c0 : P.cellsOf f0.type = 1) (c1 : P.cellsOf f1.type = 1) (c2 : P.cellsOf f2.type = 1) (c3 : P.cellsOf f3.type = 1) (c4 : P.cellsOf f4.type = 1) (c5 : P.cellsOf f5.type = 1)
    (t0 : P.underlying f0.type = some (.int .i64)) (t1 : P.underlying f1.type = some (.int .i64)) (t2 : P.underlying f2.type = some .string) (t3 : P.underlying f3.type = some .string) (t4 : P.underlying f4.type = some .string) (t5 : P.underlying f5.type = some .bool)
    (h : DataW.trod enc P w base spare held fuel t [.slice v n c] = some x) : ∃ T : List Cl, T.length = n ∧ GAt 6 w v (T.map cellR) ∧ ∀ c ∈ T, inK c := by
  obtain ⟨h1, h2, q, hq, hg⟩ := open_rows ht ce (by omega) h
  have each : ∀ j, j < n → ∃ c : Cl, q j = cellR c ∧ inK c := fun j hj => by
    obtain ⟨hl, f', x', hx⟩ := hq j hj
    exact open_cellC he hl o0 o1 o2 o3 o4 o5 c0 c1 c2 c3 c4 c5 t0 t1 t2 t3 t4 t5 hx
  obtain ⟨T, hT⟩ := choose_lt each
  refine ⟨(List.range n).map T, by simp, ?_, fun c hc => ?_⟩
  · have : ((List.range n).map T).map cellR = (List.range n).map q := by
      rw [List.map_map]
      exact List.map_congr_left fun j hj => (hT j (by simpa using hj)).1.symm
    rw [this]; exact hg
  · obtain ⟨j, hj, rfl⟩ := List.mem_map.1 hc
    exact (hT j (by simpa using hj)).2
end
end Go.Proofs.YtijpelkjeejjfaaGreatDoor
