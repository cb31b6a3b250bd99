/- The program's parser: parts with commas between them. -/
import Derived.Test.YthclkbaankjbiaaGreatDoorPRow
namespace Go.Proofs.YthclkbaankjbiaaGreatDoor
open Go.RowKit

/-- What a call that answers a list of places leaves. -/
def CLPost (b bb : Nat) (T : List Tok) (D n k : Nat) (A0 : Nat → Prop) (vn0 : Value) (w0 : World) (s : St) (r : RT) (N : List Nd) (L : List (Value × Th)) (e : Ending) (w' : World) : Prop :=
  ∃ (v : Value) (vs : List Int) (N' : List Nd) (vn' : Value), e = .returned v ∧ KX b bb T D n A0 vn0 w0 w' r.2 r.2.i N' vn' ((v, .ints vs) :: L) ∧ OutL k N s r N' vs ∧ (s.e ≠ 0 → r.2.e ≠ 0) ∧ vs.length ≤ 300
theorem CLPost.eqv {b bb : Nat} {T : List Tok} {D n k : Nat} {A0 : Nat → Prop} {vn0 : Value} {w0 : World} {s : St} {r r' : RT} {N : List Nd} {L : List (Value × Th)} {e : Ending} {w' : World} (h : CLPost b bb T D n k A0 vn0 w0 s r N L e w') (he : Eqv r r') : CLPost b bb T D n k A0 vn0 w0 s r' N L e w' := by
  obtain ⟨v, vs, N', vn', h1, h2, h3, h4, h5⟩ := h
  exact ⟨v, vs, N', vn', h1, he.1 ▸ h2, h3.eqv he, fun h => by rw [← he.1]; exact h4 h, h5⟩
def boxV (g : Nat) : Value := .slice (some ⟨g, 0, none⟩) 1 1
def boxT (b : Nat) : Th := .box (.pointer (some ⟨b, 0, none⟩))
/-- What a closure over the parser does. -/
def SubF (b bb : Nat) (T : List Tok) (D n : Nat) (P : St → Prop) (f : Nat) (sub : St → RT) : Prop :=
  ∀ (A0 : Nat → Prop) (vn0 : Value) (w0 w : World) (s : St) (N : List Nd) (vn : Value) (L : List (Value × Th)) (g : Nat), P s → KX b bb T D n A0 vn0 w0 w s s.i N vn L → (boxV g, boxT b) ∈ L → Calls Tryz.prog f #[.pointer (some ⟨g, 0, none⟩)] w (CPost b bb T D n 0 A0 vn0 w0 s (sub s) N L)

section
variable {b bb : Nat} {T : List Tok} {D n : Nat} {A0 : Nat → Prop} {vn0 : Value} {w0 w w' : World} {s : St} {u : Nat} {N : List Nd} {vn : Value} {L : List (Value × Th)}
theorem KX.room (h : KX b bb T D n A0 vn0 w0 w s u N vn L) : N.length ≤ 2 * u := by
  obtain ⟨A, h1, -⟩ := h
  exact h1.few
theorem KX.boxc {g : Nat} {x : Value} (h : KX b bb T D n A0 vn0 w0 w s u N vn L) (hm : (boxV g, Th.box x) ∈ L) : w.cell? ⟨g, 0, none⟩ = some x := by
  obtain ⟨A, h1, h2, h3, -⟩ := h
  obtain ⟨g', e, hc⟩ := (h3 _ hm).1
  unfold boxV at e
  injection e with e1 e2 e3
  injection e1 with e1
  injection e1 with e1
  rw [e1]; exact hc
theorem vat1 (w : World) (x : Int) : VAt (w.alloc (.cells #[.int .i64 x] 3)) (some ⟨w.heap.size, 0, none⟩) (intsV [x]) := by
  refine .inr ⟨w.heap.size, 0, rfl, by simp, fun j v hj => ?_⟩
  rw [Nat.zero_add, cell_of_row _ _ j _ _ (0, 0) (heap_alloc_new w _)]
  simpa [intsV] using hj
theorem OutL.failed {k m : Nat} {N N' : List Nd} {s : St} {r : RT} {vs : List Int} (h : OutL k N s r N' vs) (hm : m ≠ 0) : OutL 0 N s (r.1, failQ T m r.2) N' vs :=
  ⟨fun e => absurd e (fail_e T hm _), by show _ ≤ N.length + 2 * (failQ T m r.2).i; rw [fail_i]; exact h.2⟩
end

section
variable (b bb : Nat) (T : List Tok) (D n : Nat)

set_option maxRecDepth 100000 in
set_option maxHeartbeats 8000000 in
theorem list_args (hC : TokC T) (sub : St → RT) (hS : SubF b bb T D n (fun s => s.inn = false) 158 sub) (hI : ∀ s, s.inn = false → (sub s).2.inn = false) {A0 : Nat → Prop} {vn0 : Value} {w0 w : World} {s : St} {N : List Nd} {vn : Value} {L : List (Value × Th)} {g : Nat} (hk : KX b bb T D n A0 vn0 w0 w s s.i N vn L) (hm : (boxV g, boxT b) ∈ L) (hi : s.inn = false) :
    Calls Tryz.prog 102 #[.pointer (some ⟨b, 0, none⟩), .func (.func 158) #[] #[.pointer (some ⟨g, 0, none⟩)]] w (CLPost b bb T D n 0 A0 vn0 w0 s (listP T sub s) N L) := by
  have HCC := Lib.hid hC; have HS := Lib.hid hS; have HI := Lib.hid hI; have HM := Lib.hid hm; have HIN := Lib.hid hi
  have HK := Lib.hid hk
  obtain ⟨R, hR⟩ : ∃ R, listP T sub s = R := ⟨_, rfl⟩
  have HRT : Hid (isQ T [41] s = true → R = ([], s)) := Lib.hid (fun h => by rw [← hR]; unfold listP; rw [if_pos h])
  have HRN : Hid (isQ T [41] s = false → loopP T sub 8 ([], s) = R) := Lib.hid (fun h => by rw [← hR]; unfold listP; rw [if_neg (by rw [h]; decide)])
  rw [hR]
  clear hC hS hI hm hk hi hR
  go_enter Tryz.func102, Tryz.ntmps102
  go_wp2_with fail
  refine (KX.at (ws := [[41]]) (HK.out.strs1 _ _) (List.mem_cons_self ..) (by decide)).mono ?_
  rintro e w1 ⟨rfl, hk⟩
  have HK := Lib.hid (hk.few (List.sublist_cons_self _ _))
  obtain ⟨a, ha⟩ : ∃ a, isQ T [41] s = a := ⟨_, rfl⟩
  rw [at_one HCC.out (by decide), ha]
  have HV := Lib.hid ha
  clear hk ha
  cases a
  · have HR := Lib.hid (HRN.out HV.out)
    go_wp2_with fail
    go_loopw [5, 9] (fun kv jv wr => ∃ (j : Nat) (r : RT) (N' : List Nd) (vn' : Value) (vs : List Int), j ≤ 8 ∧ jv = .int .i64 j ∧ Hid (KX b bb T D n A0 vn0 w0 wr r.2 r.2.i N' vn' ((kv, .ints vs) :: L)) ∧ Hid (OutL 0 N s r N' vs) ∧ Hid (loopP T sub (8 - j) r = R) ∧ Hid (vs.length ≤ 2 * j) ∧ Hid (s.e ≠ 0 → r.2.e ≠ 0) ∧ Hid (r.2.inn = false)) (fun _ jv _ => 8 - (intOf jv).toNat)
    case atStart => exact ⟨0, ([], s), N, vn, [], Nat.zero_le _, rfl, Lib.hid HK.out.nilS, Lib.hid (OutL.nil N s), HR, Lib.hid (Nat.le_refl _), Lib.hid (fun h => h), HIN⟩
    case round =>
      clear HK HR
      obtain ⟨j, r, N', vn', vs, hj, rfl, HK, HA, HR, HVS, HDD, HIN⟩ := hrel
      by_cases hlt : j < 8
      · have d1 : decide ((j : Int) < 8) = true := decide_eq_true (by omega)
        have d1' : decide (j < 8) = true := decide_eq_true hlt
        obtain ⟨m, hm⟩ : ∃ m, 8 - j = m + 1 := ⟨7 - j, by omega⟩
        have HMM := Lib.hid hm
        have HLP : Hid (loopP T sub (8 - j) r = if isQ T [44] (sub r.2).2 = true then loopP T sub m (r.1 ++ (sub r.2).1 ++ (leafT T (sub r.2).2).1, (leafT T (sub r.2).2).2) else (r.1 ++ (sub r.2).1, (sub r.2).2)) := Lib.hid (by rw [hm, loopP])
        rw [HLP.out] at HR
        clear hm HLP
        go_wp2_with fail
        refine (HS.out _ _ _ _ _ _ _ _ g HIN.out HK.out (List.mem_cons_of_mem _ HM.out)).mono ?_
        rintro e w2 ⟨v9, N9, vn9, rfl, hk9, ho9, hd9⟩
        have HK := Lib.hid hk9; have HA := Lib.hid (HA.out.app ho9.out hd9); have HDD := Lib.hid (fun h => hd9 (HDD.out h)); have HIN := Lib.hid (HI.out _ HIN.out)
        clear hk9 ho9 hd9
        go_wp2_with (at_builtin; go_loud (refine wpList_kx rfl _ _ rfl (HK.out.ints1 v9) (List.sublist_cons_self _ _) rfl rfl (l2 := [v9]) rfl (vat1 _ _) (by have := HVS.out; omega) (by simp) ?_))
        intro kv2 w3 hk3
        have HK := Lib.hid hk3; have HVS : Hid ((vs ++ [v9]).length ≤ 2 * j + 1) := Lib.hid (by have := HVS.out; rw [List.length_append]; show vs.length + 1 ≤ _; omega)
        clear hk3
        go_wp2_with fail
        refine (KX.at (ws := [[44]]) (HK.out.strs1 _ _) (List.mem_cons_self ..) (by decide)).mono ?_
        rintro e w4 ⟨rfl, hk⟩
        have HK := Lib.hid (hk.few (List.sublist_cons_self _ _))
        obtain ⟨a, ha⟩ : ∃ a, isQ T [44] (sub r.2).2 = a := ⟨_, rfl⟩
        rw [at_one HCC.out (by decide), ha]
        rw [ha] at HR
        have HV := Lib.hid ha
        clear hk ha
        cases a
        · rw [if_neg (by decide)] at HR
          go_wp2_with fail
          go_ret
          rw [← HR.out]
          exact ⟨_, _, _, _, rfl, HK.out, HA.out.weak (Nat.zero_le _), HDD.out, by have := HVS.out; omega⟩
        · rw [if_pos rfl] at HR
          have HLI := Lib.hid (is_kind HV.out)
          go_wp2_with fail
          refine (HK.out.take HCC.out HLI.out.1 HLI.out.2).mono ?_
          rintro e w5 ⟨v8, N8, vn8, rfl, hk8, ho8, hd8⟩
          have HK := Lib.hid hk8; have HA := Lib.hid (HA.out.app ho8.out hd8); have HDD := Lib.hid (fun h => hd8 (HDD.out h)); have HIN := Lib.hid ((leaf_keep T HLI.out.2).inn.trans HIN.out)
          clear hk8 ho8 hd8
          go_wp2_with (at_builtin; go_loud (refine wpList_kx rfl _ _ rfl (HK.out.ints1 v8) (List.sublist_cons_self _ _) rfl rfl (l2 := [v8]) rfl (vat1 _ _) (by have := HVS.out; omega) (by simp) ?_))
          intro kv3 w6 hk6
          have HK := Lib.hid hk6; have HVS : Hid ((vs ++ [v9, v8]).length ≤ 2 * (j + 1)) := Lib.hid (by have := HVS.out; rw [List.length_append] at this ⊢; simp only [List.length_cons, List.length_nil] at this ⊢; omega)
          clear hk6
          have HM1 : Hid (8 - (j + 1) = m) := Lib.hid (by have := HMM.out; omega)
          go_wp2_with fail
          go_roundw
          case rel => exact ⟨j + 1, (r.1 ++ (sub r.2).1 ++ (leafT T (sub r.2).2).1, (leafT T (sub r.2).2).2), N8, vn8, vs ++ [v9, v8], by omega, by go_num, HK, Lib.hid (by have h9 := HA.out.weak (Nat.zero_le _); rw [List.append_assoc vs] at h9; exact h9), Lib.hid (by rw [HM1.out]; exact HR.out), HVS, HDD, HIN⟩
          case measure => (simp [intOf] <;> omega)
      · obtain rfl : j = 8 := by omega
        have d1 : decide (((8 : Nat) : Int) < 8) = false := by decide
        have HRF : Hid (R = (r.1, failQ T 15 r.2)) := Lib.hid (by rw [← HR.out]; rfl)
        go_wp2_with fail
        refine (HK.out.fail 15 (by decide)).mono ?_
        rintro e w2 ⟨v9, N9, vn9, rfl, hk9, ho9, hd9⟩
        have HK := Lib.hid hk9; have HA := Lib.hid (HA.out.app ho9.out hd9); have HDD := Lib.hid (fun h => hd9 (HDD.out h))
        clear hk9 ho9 hd9
        go_wp2_with fail
        go_ret
        rw [HRF.out]
        exact ⟨_, _, _, _, rfl, HK.out, ⟨fun e => absurd e (fail_e T (by decide) _), HA.out.2⟩, HDD.out, by have := HVS.out; omega⟩
  · go_wp2_with fail
    go_ret
    rw [HRT.out HV.out]
    exact ⟨_, [], N, vn, rfl, HK.out.nilS, OutL.nil N s, fun h => h, by simp⟩

set_option maxRecDepth 100000 in
set_option maxHeartbeats 8000000 in
theorem list_params (hC : TokC T) (sub : St → RT) (hS : SubF b bb T D n (fun s => s.inn = false) 103 sub) (hI : ∀ s, s.inn = false → (sub s).2.inn = false) {A0 : Nat → Prop} {vn0 : Value} {w0 w : World} {s : St} {N : List Nd} {vn : Value} {L : List (Value × Th)} {g : Nat} (hk : KX b bb T D n A0 vn0 w0 w s s.i N vn L) (hm : (boxV g, boxT b) ∈ L) (hi : s.inn = false) :
    Calls Tryz.prog 102 #[.pointer (some ⟨b, 0, none⟩), .func (.func 103) #[] #[.pointer (some ⟨g, 0, none⟩)]] w (CLPost b bb T D n 0 A0 vn0 w0 s (listP T sub s) N L) := by
  have HCC := Lib.hid hC; have HS := Lib.hid hS; have HI := Lib.hid hI; have HM := Lib.hid hm; have HIN := Lib.hid hi
  have HK := Lib.hid hk
  obtain ⟨R, hR⟩ : ∃ R, listP T sub s = R := ⟨_, rfl⟩
  have HRT : Hid (isQ T [41] s = true → R = ([], s)) := Lib.hid (fun h => by rw [← hR]; unfold listP; rw [if_pos h])
  have HRN : Hid (isQ T [41] s = false → loopP T sub 8 ([], s) = R) := Lib.hid (fun h => by rw [← hR]; unfold listP; rw [if_neg (by rw [h]; decide)])
  rw [hR]
  clear hC hS hI hm hk hi hR
  go_enter Tryz.func102, Tryz.ntmps102
  go_wp2_with fail
  refine (KX.at (ws := [[41]]) (HK.out.strs1 _ _) (List.mem_cons_self ..) (by decide)).mono ?_
  rintro e w1 ⟨rfl, hk⟩
  have HK := Lib.hid (hk.few (List.sublist_cons_self _ _))
  obtain ⟨a, ha⟩ : ∃ a, isQ T [41] s = a := ⟨_, rfl⟩
  rw [at_one HCC.out (by decide), ha]
  have HV := Lib.hid ha
  clear hk ha
  cases a
  · have HR := Lib.hid (HRN.out HV.out)
    go_wp2_with fail
    go_loopw [5, 9] (fun kv jv wr => ∃ (j : Nat) (r : RT) (N' : List Nd) (vn' : Value) (vs : List Int), j ≤ 8 ∧ jv = .int .i64 j ∧ Hid (KX b bb T D n A0 vn0 w0 wr r.2 r.2.i N' vn' ((kv, .ints vs) :: L)) ∧ Hid (OutL 0 N s r N' vs) ∧ Hid (loopP T sub (8 - j) r = R) ∧ Hid (vs.length ≤ 2 * j) ∧ Hid (s.e ≠ 0 → r.2.e ≠ 0) ∧ Hid (r.2.inn = false)) (fun _ jv _ => 8 - (intOf jv).toNat)
    case atStart => exact ⟨0, ([], s), N, vn, [], Nat.zero_le _, rfl, Lib.hid HK.out.nilS, Lib.hid (OutL.nil N s), HR, Lib.hid (Nat.le_refl _), Lib.hid (fun h => h), HIN⟩
    case round =>
      clear HK HR
      obtain ⟨j, r, N', vn', vs, hj, rfl, HK, HA, HR, HVS, HDD, HIN⟩ := hrel
      by_cases hlt : j < 8
      · have d1 : decide ((j : Int) < 8) = true := decide_eq_true (by omega)
        have d1' : decide (j < 8) = true := decide_eq_true hlt
        obtain ⟨m, hm⟩ : ∃ m, 8 - j = m + 1 := ⟨7 - j, by omega⟩
        have HMM := Lib.hid hm
        have HLP : Hid (loopP T sub (8 - j) r = if isQ T [44] (sub r.2).2 = true then loopP T sub m (r.1 ++ (sub r.2).1 ++ (leafT T (sub r.2).2).1, (leafT T (sub r.2).2).2) else (r.1 ++ (sub r.2).1, (sub r.2).2)) := Lib.hid (by rw [hm, loopP])
        rw [HLP.out] at HR
        clear hm HLP
        go_wp2_with fail
        refine (HS.out _ _ _ _ _ _ _ _ g HIN.out HK.out (List.mem_cons_of_mem _ HM.out)).mono ?_
        rintro e w2 ⟨v9, N9, vn9, rfl, hk9, ho9, hd9⟩
        have HK := Lib.hid hk9; have HA := Lib.hid (HA.out.app ho9.out hd9); have HDD := Lib.hid (fun h => hd9 (HDD.out h)); have HIN := Lib.hid (HI.out _ HIN.out)
        clear hk9 ho9 hd9
        go_wp2_with (at_builtin; go_loud (refine wpList_kx rfl _ _ rfl (HK.out.ints1 v9) (List.sublist_cons_self _ _) rfl rfl (l2 := [v9]) rfl (vat1 _ _) (by have := HVS.out; omega) (by simp) ?_))
        intro kv2 w3 hk3
        have HK := Lib.hid hk3; have HVS : Hid ((vs ++ [v9]).length ≤ 2 * j + 1) := Lib.hid (by have := HVS.out; rw [List.length_append]; show vs.length + 1 ≤ _; omega)
        clear hk3
        go_wp2_with fail
        refine (KX.at (ws := [[44]]) (HK.out.strs1 _ _) (List.mem_cons_self ..) (by decide)).mono ?_
        rintro e w4 ⟨rfl, hk⟩
        have HK := Lib.hid (hk.few (List.sublist_cons_self _ _))
        obtain ⟨a, ha⟩ : ∃ a, isQ T [44] (sub r.2).2 = a := ⟨_, rfl⟩
        rw [at_one HCC.out (by decide), ha]
        rw [ha] at HR
        have HV := Lib.hid ha
        clear hk ha
        cases a
        · rw [if_neg (by decide)] at HR
          go_wp2_with fail
          go_ret
          rw [← HR.out]
          exact ⟨_, _, _, _, rfl, HK.out, HA.out.weak (Nat.zero_le _), HDD.out, by have := HVS.out; omega⟩
        · rw [if_pos rfl] at HR
          have HLI := Lib.hid (is_kind HV.out)
          go_wp2_with fail
          refine (HK.out.take HCC.out HLI.out.1 HLI.out.2).mono ?_
          rintro e w5 ⟨v8, N8, vn8, rfl, hk8, ho8, hd8⟩
          have HK := Lib.hid hk8; have HA := Lib.hid (HA.out.app ho8.out hd8); have HDD := Lib.hid (fun h => hd8 (HDD.out h)); have HIN := Lib.hid ((leaf_keep T HLI.out.2).inn.trans HIN.out)
          clear hk8 ho8 hd8
          go_wp2_with (at_builtin; go_loud (refine wpList_kx rfl _ _ rfl (HK.out.ints1 v8) (List.sublist_cons_self _ _) rfl rfl (l2 := [v8]) rfl (vat1 _ _) (by have := HVS.out; omega) (by simp) ?_))
          intro kv3 w6 hk6
          have HK := Lib.hid hk6; have HVS : Hid ((vs ++ [v9, v8]).length ≤ 2 * (j + 1)) := Lib.hid (by have := HVS.out; rw [List.length_append] at this ⊢; simp only [List.length_cons, List.length_nil] at this ⊢; omega)
          clear hk6
          have HM1 : Hid (8 - (j + 1) = m) := Lib.hid (by have := HMM.out; omega)
          go_wp2_with fail
          go_roundw
          case rel => exact ⟨j + 1, (r.1 ++ (sub r.2).1 ++ (leafT T (sub r.2).2).1, (leafT T (sub r.2).2).2), N8, vn8, vs ++ [v9, v8], by omega, by go_num, HK, Lib.hid (by have h9 := HA.out.weak (Nat.zero_le _); rw [List.append_assoc vs] at h9; exact h9), Lib.hid (by rw [HM1.out]; exact HR.out), HVS, HDD, HIN⟩
          case measure => (simp [intOf] <;> omega)
      · obtain rfl : j = 8 := by omega
        have d1 : decide (((8 : Nat) : Int) < 8) = false := by decide
        have HRF : Hid (R = (r.1, failQ T 15 r.2)) := Lib.hid (by rw [← HR.out]; rfl)
        go_wp2_with fail
        refine (HK.out.fail 15 (by decide)).mono ?_
        rintro e w2 ⟨v9, N9, vn9, rfl, hk9, ho9, hd9⟩
        have HK := Lib.hid hk9; have HA := Lib.hid (HA.out.app ho9.out hd9); have HDD := Lib.hid (fun h => hd9 (HDD.out h))
        clear hk9 ho9 hd9
        go_wp2_with fail
        go_ret
        rw [HRF.out]
        exact ⟨_, _, _, _, rfl, HK.out, ⟨fun e => absurd e (fail_e T (by decide) _), HA.out.2⟩, HDD.out, by have := HVS.out; omega⟩
  · go_wp2_with fail
    go_ret
    rw [HRT.out HV.out]
    exact ⟨_, [], N, vn, rfl, HK.out.nilS, OutL.nil N s, fun h => h, by simp⟩
end
end Go.Proofs.YthclkbaankjbiaaGreatDoor
