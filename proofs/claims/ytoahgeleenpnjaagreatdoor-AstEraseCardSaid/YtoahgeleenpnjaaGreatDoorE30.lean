/- The program's parser: parts with commas between them. -/
import Derived.Test.YtoahgeleenpnjaaGreatDoorE29
import Derived.Deep.RegionHeld3
set_option linter.unusedVariables false
set_option linter.unusedSimpArgs false
namespace Go.Proofs.YtoahgeleenpnjaaGreatDoor
open Go.RowKit

/-- What a call that answers a list of places leaves. -/
def CLPost (b bb : Nat) (T : List Tok) (D n k : Nat) (A0 : Nat → Prop) (vn0 : Value) (w0 : World) (s : St) (r : RT) (N : List Nd) (L : List (Value × Th)) (e : Ending) (w' : World) : Prop :=
  ∃ (v : Value) (vs : List Int) (N' : List Nd) (vn' : Value), e = .returned v ∧ KX b bb T D n A0 vn0 w0 w' r.2 r.2.i N' vn' ((v, .ints vs) :: L) ∧ OutL k N s r N' vs ∧ (s.e ≠ 0 → r.2.e ≠ 0) ∧ vs.length ≤ 300
def boxV (g : Nat) : Value := .slice (some ⟨g, 0, none⟩) 1 1
def boxT (b : Nat) : Th := .box (.pointer (some ⟨b, 0, none⟩))
/-- What a closure over the parser does. -/
def SubF (b bb : Nat) (T : List Tok) (D n : Nat) (P : St → Prop) (f : Nat) (sub : St → RT) : Prop :=
  ∀ (A0 : Nat → Prop) (vn0 : Value) (w0 w : World) (s : St) (N : List Nd) (vn : Value) (L : List (Value × Th)) (g : Nat), P s → KX b bb T D n A0 vn0 w0 w s s.i N vn L → (boxV g, boxT b) ∈ L → Calls Tryz.prog f #[.pointer (some ⟨g, 0, none⟩)] w (CPost b bb T D n 0 A0 vn0 w0 s (sub s) N L)

section
variable {b bb : Nat} {T : List Tok} {D n : Nat} {A0 : Nat → Prop} {vn0 : Value} {w0 w w' : World} {s : St} {u : Nat} {N : List Nd} {vn : Value} {L : List (Value × Th)}
theorem KX.room (h : KX b bb T D n A0 vn0 w0 w s u N vn L) : N.length ≤ 2 * u := by
  obtain ⟨A, h1, -⟩ := h
  exact h1.few
theorem KX.boxc {g : Nat} {x : Value} (h : KX b bb T D n A0 vn0 w0 w s u N vn L) (hm : (boxV g, Th.box x) ∈ L) : w.cell? ⟨g, 0, none⟩ = some x := by
  obtain ⟨A, h1, h2, h3, -⟩ := h
  obtain ⟨g', e, hc⟩ := (h3 _ hm).1
  unfold boxV at e
  injection e with e1 e2 e3
  injection e1 with e1
  injection e1 with e1
  rw [e1]; exact hc
theorem vat1 (w : World) (x : Int) : VAt (w.alloc (.cells #[.int .i64 x] 3)) (some ⟨w.heap.size, 0, none⟩) (intsV [x]) := by
  refine .inr ⟨w.heap.size, 0, rfl, by simp, fun j v hj => ?_⟩
  rw [Nat.zero_add, cell_of_row _ _ j _ _ (0, 0) (heap_alloc_new w _)]
  simpa [intsV] using hj
end

section
variable (b bb : Nat) (T : List Tok) (D n : Nat)

set_option maxRecDepth 100000 in
set_option maxHeartbeats 8000000 in
theorem list_args (hC : TokC T) (sub : St → RT) (hS : SubF b bb T D n (fun s => s.inn = false) 177 sub) (hI : ∀ s, s.inn = false → (sub s).2.inn = false) {A0 : Nat → Prop} {vn0 : Value} {w0 w : World} {s : St} {N : List Nd} {vn : Value} {L : List (Value × Th)} {g : Nat} (hk : KX b bb T D n A0 vn0 w0 w s s.i N vn L) (hm : (boxV g, boxT b) ∈ L) (hi : s.inn = false) :
    Calls Tryz.prog 117 #[.pointer (some ⟨b, 0, none⟩), .func (.func 177) #[] #[.pointer (some ⟨g, 0, none⟩)]] w (CLPost b bb T D n 0 A0 vn0 w0 s (listP T sub s) N L) := by
  have HCC := Lib.hid hC; have HS := Lib.hid hS; have HI := Lib.hid hI; have HM := Lib.hid hm; have HIN := Lib.hid hi
  have HK := Lib.hid hk
  obtain ⟨R, hR⟩ : ∃ R, listP T sub s = R := ⟨_, rfl⟩
  have HRT : Hid (isQ T [41] s = true → R = ([], s)) := Lib.hid (fun h => by rw [← hR]; unfold listP; rw [if_pos h])
  have HRN : Hid (isQ T [41] s = false → loopP T sub 8 ([], s) = R) := Lib.hid (fun h => by rw [← hR]; unfold listP; rw [if_neg (by rw [h]; decide)])
  rw [hR]
  clear hC hS hI hm hk hi hR
  go_enter Tryz.func117, Tryz.ntmps117
  go_wp2_with fail
  refine (KX.at (ws := [[41]]) (HK.out.strs1 _ _) (List.mem_cons_self ..) (by decide)).mono ?_
  rintro e w1 ⟨rfl, hk⟩
  have HK := Lib.hid (hk.few (List.sublist_cons_self _ _))
  obtain ⟨a, ha⟩ : ∃ a, isQ T [41] s = a := ⟨_, rfl⟩
  rw [at_one HCC.out (by decide), ha]
  have HV := Lib.hid ha
  clear hk ha
  cases a
  · have HR := Lib.hid (HRN.out HV.out)
    go_wp2_with fail
    go_loopw [5, 9] (fun kv jv wr => ∃ (j : Nat) (r : RT) (N' : List Nd) (vn' : Value) (vs : List Int), j ≤ 8 ∧ jv = .int .i64 j ∧ Hid (KX b bb T D n A0 vn0 w0 wr r.2 r.2.i N' vn' ((kv, .ints vs) :: L)) ∧ Hid (OutL 0 N s r N' vs) ∧ Hid (loopP T sub (8 - j) r = R) ∧ Hid (vs.length ≤ 2 * j) ∧ Hid (s.e ≠ 0 → r.2.e ≠ 0) ∧ Hid (r.2.inn = false)) (fun _ jv _ => 8 - (intOf jv).toNat)
    case atStart => exact ⟨0, ([], s), N, vn, [], Nat.zero_le _, rfl, Lib.hid HK.out.nilS, Lib.hid (OutL.nil N s), HR, Lib.hid (Nat.le_refl _), Lib.hid (fun h => h), HIN⟩
    case round =>
      clear HK HR
      obtain ⟨j, r, N', vn', vs, hj, rfl, HK, HA, HR, HVS, HDD, HIN⟩ := hrel
      by_cases hlt : j < 8
      · have d1 : decide ((j : Int) < 8) = true := decide_eq_true (by omega)
        have d1' : decide (j < 8) = true := decide_eq_true hlt
        obtain ⟨m, hm⟩ : ∃ m, 8 - j = m + 1 := ⟨7 - j, by omega⟩
        have HMM := Lib.hid hm
        have HLP : Hid (loopP T sub (8 - j) r = if isQ T [44] (sub r.2).2 = true then loopP T sub m (r.1 ++ (sub r.2).1 ++ (leafT T (sub r.2).2).1, (leafT T (sub r.2).2).2) else (r.1 ++ (sub r.2).1, (sub r.2).2)) := Lib.hid (by rw [hm, loopP])
        rw [HLP.out] at HR
        clear hm HLP
        go_wp2_with fail
        refine (HS.out _ _ _ _ _ _ _ _ g HIN.out HK.out (List.mem_cons_of_mem _ HM.out)).mono ?_
        rintro e w2 ⟨v9, N9, vn9, rfl, hk9, ho9, hd9⟩
        have HK := Lib.hid hk9; have HA := Lib.hid (HA.out.app ho9.out hd9); have HDD := Lib.hid (fun h => hd9 (HDD.out h)); have HIN := Lib.hid (HI.out _ HIN.out)
        clear hk9 ho9 hd9
        go_wp2_with (at_builtin; go_loud (refine wpList_kx rfl _ _ rfl (HK.out.ints1 v9) (List.sublist_cons_self _ _) rfl rfl (l2 := [v9]) rfl (vat1 _ _) (by have := HVS.out; omega) (by simp) ?_))
        intro kv2 w3 hk3
        have HK := Lib.hid hk3; have HVS : Hid ((vs ++ [v9]).length ≤ 2 * j + 1) := Lib.hid (by have := HVS.out; rw [List.length_append]; show vs.length + 1 ≤ _; omega)
        clear hk3
        go_wp2_with fail
        refine (KX.at (ws := [[44]]) (HK.out.strs1 _ _) (List.mem_cons_self ..) (by decide)).mono ?_
        rintro e w4 ⟨rfl, hk⟩
        have HK := Lib.hid (hk.few (List.sublist_cons_self _ _))
        obtain ⟨a, ha⟩ : ∃ a, isQ T [44] (sub r.2).2 = a := ⟨_, rfl⟩
        rw [at_one HCC.out (by decide), ha]
        rw [ha] at HR
        have HV := Lib.hid ha
        clear hk ha
        cases a
        · rw [if_neg (by decide)] at HR
          go_wp2_with fail
          go_ret
          rw [← HR.out]
          exact ⟨_, _, _, _, rfl, HK.out, HA.out.weak (Nat.zero_le _), HDD.out, by have := HVS.out; omega⟩
        · rw [if_pos rfl] at HR
          have HLI := Lib.hid (is_kind HV.out)
          go_wp2_with fail
          refine (HK.out.take HCC.out HLI.out.1 HLI.out.2).mono ?_
          rintro e w5 ⟨v8, N8, vn8, rfl, hk8, ho8, hd8⟩
          have HK := Lib.hid hk8; have HA := Lib.hid (HA.out.app ho8.out hd8); have HDD := Lib.hid (fun h => hd8 (HDD.out h)); have HIN := Lib.hid ((leaf_keep T HLI.out.2).inn.trans HIN.out)
          clear hk8 ho8 hd8
          go_wp2_with (at_builtin; go_loud (refine wpList_kx rfl _ _ rfl (HK.out.ints1 v8) (List.sublist_cons_self _ _) rfl rfl (l2 := [v8]) rfl (vat1 _ _) (by have := HVS.out; omega) (by simp) ?_))
          intro kv3 w6 hk6
          have HK := Lib.hid hk6; have HVS : Hid ((vs ++ [v9, v8]).length ≤ 2 * (j + 1)) := Lib.hid (by have := HVS.out; rw [List.length_append] at this ⊢; simp only [List.length_cons, List.length_nil] at this ⊢; omega)
          clear hk6
          have HM1 : Hid (8 - (j + 1) = m) := Lib.hid (by have := HMM.out; omega)
          go_wp2_with fail
          go_roundw
          case rel => exact ⟨j + 1, (r.1 ++ (sub r.2).1 ++ (leafT T (sub r.2).2).1, (leafT T (sub r.2).2).2), N8, vn8, vs ++ [v9, v8], by omega, by go_num, HK, Lib.hid (by have h9 := HA.out.weak (Nat.zero_le _); rw [List.append_assoc vs] at h9; exact h9), Lib.hid (by rw [HM1.out]; exact HR.out), HVS, HDD, HIN⟩
          case measure => (simp [intOf] <;> omega)
      · obtain rfl : j = 8 := by omega
        have d1 : decide (((8 : Nat) : Int) < 8) = false := by decide
        have HRF : Hid (R = (r.1, failQ T 15 r.2)) := Lib.hid (by rw [← HR.out]; rfl)
        go_wp2_with fail
        refine (HK.out.fail 15 (by decide)).mono ?_
        rintro e w2 ⟨v9, N9, vn9, rfl, hk9, ho9, hd9⟩
        have HK := Lib.hid hk9; have HA := Lib.hid (HA.out.app ho9.out hd9); have HDD := Lib.hid (fun h => hd9 (HDD.out h))
        clear hk9 ho9 hd9
        go_wp2_with fail
        go_ret
        rw [HRF.out]
        exact ⟨_, _, _, _, rfl, HK.out, ⟨fun e => absurd e (fail_e T (by decide) _), HA.out.2⟩, HDD.out, by have := HVS.out; omega⟩
  · go_wp2_with fail
    go_ret
    rw [HRT.out HV.out]
    exact ⟨_, [], N, vn, rfl, HK.out.nilS, OutL.nil N s, fun h => h, by simp⟩

set_option maxRecDepth 100000 in
set_option maxHeartbeats 8000000 in
theorem list_params (hC : TokC T) (sub : St → RT) (hS : SubF b bb T D n (fun s => s.inn = false) 118 sub) (hI : ∀ s, s.inn = false → (sub s).2.inn = false) {A0 : Nat → Prop} {vn0 : Value} {w0 w : World} {s : St} {N : List Nd} {vn : Value} {L : List (Value × Th)} {g : Nat} (hk : KX b bb T D n A0 vn0 w0 w s s.i N vn L) (hm : (boxV g, boxT b) ∈ L) (hi : s.inn = false) :
    Calls Tryz.prog 117 #[.pointer (some ⟨b, 0, none⟩), .func (.func 118) #[] #[.pointer (some ⟨g, 0, none⟩)]] w (CLPost b bb T D n 0 A0 vn0 w0 s (listP T sub s) N L) := by
  have HCC := Lib.hid hC; have HS := Lib.hid hS; have HI := Lib.hid hI; have HM := Lib.hid hm; have HIN := Lib.hid hi
  have HK := Lib.hid hk
  obtain ⟨R, hR⟩ : ∃ R, listP T sub s = R := ⟨_, rfl⟩
  have HRT : Hid (isQ T [41] s = true → R = ([], s)) := Lib.hid (fun h => by rw [← hR]; unfold listP; rw [if_pos h])
  have HRN : Hid (isQ T [41] s = false → loopP T sub 8 ([], s) = R) := Lib.hid (fun h => by rw [← hR]; unfold listP; rw [if_neg (by rw [h]; decide)])
  rw [hR]
  clear hC hS hI hm hk hi hR
  go_enter Tryz.func117, Tryz.ntmps117
  go_wp2_with fail
  refine (KX.at (ws := [[41]]) (HK.out.strs1 _ _) (List.mem_cons_self ..) (by decide)).mono ?_
  rintro e w1 ⟨rfl, hk⟩
  have HK := Lib.hid (hk.few (List.sublist_cons_self _ _))
  obtain ⟨a, ha⟩ : ∃ a, isQ T [41] s = a := ⟨_, rfl⟩
  rw [at_one HCC.out (by decide), ha]
  have HV := Lib.hid ha
  clear hk ha
  cases a
  · have HR := Lib.hid (HRN.out HV.out)
    go_wp2_with fail
    go_loopw [5, 9] (fun kv jv wr => ∃ (j : Nat) (r : RT) (N' : List Nd) (vn' : Value) (vs : List Int), j ≤ 8 ∧ jv = .int .i64 j ∧ Hid (KX b bb T D n A0 vn0 w0 wr r.2 r.2.i N' vn' ((kv, .ints vs) :: L)) ∧ Hid (OutL 0 N s r N' vs) ∧ Hid (loopP T sub (8 - j) r = R) ∧ Hid (vs.length ≤ 2 * j) ∧ Hid (s.e ≠ 0 → r.2.e ≠ 0) ∧ Hid (r.2.inn = false)) (fun _ jv _ => 8 - (intOf jv).toNat)
    case atStart => exact ⟨0, ([], s), N, vn, [], Nat.zero_le _, rfl, Lib.hid HK.out.nilS, Lib.hid (OutL.nil N s), HR, Lib.hid (Nat.le_refl _), Lib.hid (fun h => h), HIN⟩
    case round =>
      clear HK HR
      obtain ⟨j, r, N', vn', vs, hj, rfl, HK, HA, HR, HVS, HDD, HIN⟩ := hrel
      by_cases hlt : j < 8
      · have d1 : decide ((j : Int) < 8) = true := decide_eq_true (by omega)
        have d1' : decide (j < 8) = true := decide_eq_true hlt
        obtain ⟨m, hm⟩ : ∃ m, 8 - j = m + 1 := ⟨7 - j, by omega⟩
        have HMM := Lib.hid hm
        have HLP : Hid (loopP T sub (8 - j) r = if isQ T [44] (sub r.2).2 = true then loopP T sub m (r.1 ++ (sub r.2).1 ++ (leafT T (sub r.2).2).1, (leafT T (sub r.2).2).2) else (r.1 ++ (sub r.2).1, (sub r.2).2)) := Lib.hid (by rw [hm, loopP])
        rw [HLP.out] at HR
        clear hm HLP
        go_wp2_with fail
        refine (HS.out _ _ _ _ _ _ _ _ g HIN.out HK.out (List.mem_cons_of_mem _ HM.out)).mono ?_
        rintro e w2 ⟨v9, N9, vn9, rfl, hk9, ho9, hd9⟩
        have HK := Lib.hid hk9; have HA := Lib.hid (HA.out.app ho9.out hd9); have HDD := Lib.hid (fun h => hd9 (HDD.out h)); have HIN := Lib.hid (HI.out _ HIN.out)
        clear hk9 ho9 hd9
        go_wp2_with (at_builtin; go_loud (refine wpList_kx rfl _ _ rfl (HK.out.ints1 v9) (List.sublist_cons_self _ _) rfl rfl (l2 := [v9]) rfl (vat1 _ _) (by have := HVS.out; omega) (by simp) ?_))
        intro kv2 w3 hk3
        have HK := Lib.hid hk3; have HVS : Hid ((vs ++ [v9]).length ≤ 2 * j + 1) := Lib.hid (by have := HVS.out; rw [List.length_append]; show vs.length + 1 ≤ _; omega)
        clear hk3
        go_wp2_with fail
        refine (KX.at (ws := [[44]]) (HK.out.strs1 _ _) (List.mem_cons_self ..) (by decide)).mono ?_
        rintro e w4 ⟨rfl, hk⟩
        have HK := Lib.hid (hk.few (List.sublist_cons_self _ _))
        obtain ⟨a, ha⟩ : ∃ a, isQ T [44] (sub r.2).2 = a := ⟨_, rfl⟩
        rw [at_one HCC.out (by decide), ha]
        rw [ha] at HR
        have HV := Lib.hid ha
        clear hk ha
        cases a
        · rw [if_neg (by decide)] at HR
          go_wp2_with fail
          go_ret
          rw [← HR.out]
          exact ⟨_, _, _, _, rfl, HK.out, HA.out.weak (Nat.zero_le _), HDD.out, by have := HVS.out; omega⟩
        · rw [if_pos rfl] at HR
          have HLI := Lib.hid (is_kind HV.out)
          go_wp2_with fail
          refine (HK.out.take HCC.out HLI.out.1 HLI.out.2).mono ?_
          rintro e w5 ⟨v8, N8, vn8, rfl, hk8, ho8, hd8⟩
          have HK := Lib.hid hk8; have HA := Lib.hid (HA.out.app ho8.out hd8); have HDD := Lib.hid (fun h => hd8 (HDD.out h)); have HIN := Lib.hid ((leaf_keep T HLI.out.2).inn.trans HIN.out)
          clear hk8 ho8 hd8
          go_wp2_with (at_builtin; go_loud (refine wpList_kx rfl _ _ rfl (HK.out.ints1 v8) (List.sublist_cons_self _ _) rfl rfl (l2 := [v8]) rfl (vat1 _ _) (by have := HVS.out; omega) (by simp) ?_))
          intro kv3 w6 hk6
          have HK := Lib.hid hk6; have HVS : Hid ((vs ++ [v9, v8]).length ≤ 2 * (j + 1)) := Lib.hid (by have := HVS.out; rw [List.length_append] at this ⊢; simp only [List.length_cons, List.length_nil] at this ⊢; omega)
          clear hk6
          have HM1 : Hid (8 - (j + 1) = m) := Lib.hid (by have := HMM.out; omega)
          go_wp2_with fail
          go_roundw
          case rel => exact ⟨j + 1, (r.1 ++ (sub r.2).1 ++ (leafT T (sub r.2).2).1, (leafT T (sub r.2).2).2), N8, vn8, vs ++ [v9, v8], by omega, by go_num, HK, Lib.hid (by have h9 := HA.out.weak (Nat.zero_le _); rw [List.append_assoc vs] at h9; exact h9), Lib.hid (by rw [HM1.out]; exact HR.out), HVS, HDD, HIN⟩
          case measure => (simp [intOf] <;> omega)
      · obtain rfl : j = 8 := by omega
        have d1 : decide (((8 : Nat) : Int) < 8) = false := by decide
        have HRF : Hid (R = (r.1, failQ T 15 r.2)) := Lib.hid (by rw [← HR.out]; rfl)
        go_wp2_with fail
        refine (HK.out.fail 15 (by decide)).mono ?_
        rintro e w2 ⟨v9, N9, vn9, rfl, hk9, ho9, hd9⟩
        have HK := Lib.hid hk9; have HA := Lib.hid (HA.out.app ho9.out hd9); have HDD := Lib.hid (fun h => hd9 (HDD.out h))
        clear hk9 ho9 hd9
        go_wp2_with fail
        go_ret
        rw [HRF.out]
        exact ⟨_, _, _, _, rfl, HK.out, ⟨fun e => absurd e (fail_e T (by decide) _), HA.out.2⟩, HDD.out, by have := HVS.out; omega⟩
  · go_wp2_with fail
    go_ret
    rw [HRT.out HV.out]
    exact ⟨_, [], N, vn, rfl, HK.out.nilS, OutL.nil N s, fun h => h, by simp⟩
end
end Go.Proofs.YtoahgeleenpnjaaGreatDoor
namespace Go.Proofs.YtoahgeleenpnjaaGreatDoor
open Go.RowKit

section
variable {b bb : Nat} {T : List Tok} {D n : Nat} {A0 : Nat → Prop} {vn0 : Value} {w0 w w' : World} {s : St} {u : Nat} {N : List Nd} {vn : Value} {L : List (Value × Th)}
theorem vat2 (w : World) (x y : Int) : VAt (w.alloc (.cells #[.int .i64 x, .int .i64 y] 3)) (some ⟨w.heap.size, 0, none⟩) (intsV [x, y]) := by
  refine .inr ⟨w.heap.size, 0, rfl, by simp, fun j v hj => ?_⟩
  rw [Nat.zero_add, cell_of_row _ _ j _ _ (0, 0) (heap_alloc_new w _)]
  simpa [intsV] using hj
theorem vat3 (w : World) (x y z : Int) : VAt (w.alloc (.cells #[.int .i64 x, .int .i64 y, .int .i64 z] 3)) (some ⟨w.heap.size, 0, none⟩) (intsV [x, y, z]) := by
  refine .inr ⟨w.heap.size, 0, rfl, by simp, fun j v hj => ?_⟩
  rw [Nat.zero_add, cell_of_row _ _ j _ _ (0, 0) (heap_alloc_new w _)]
  simpa [intsV] using hj
theorem name_short (h : ¬ ((leafT T s).2.inn = true ∨ (isQ T [46] (leafT T s).2 = false ∧ isQ T [40] (leafT T s).2 = false))) {nt : NxT} : nameT T nt s = nameET T (nameDT T nt (nameCT T (nameBT T (leafT T s)))) := by unfold nameT; rw [if_neg h]
theorem name_word (h : (leafT T s).2.inn = true ∨ (isQ T [46] (leafT T s).2 = false ∧ isQ T [40] (leafT T s).2 = false)) {nt : NxT} : nameT T nt s = ([.nd 14 (leafT T s).1], (leafT T s).2) := by unfold nameT; rw [if_pos h]
/-- A call's end, where its arguments were read as the program does. -/
theorem name_end {nt : NxT} {c d : RT} (h : Eqv d (listP T nt.expr c.2)) (he : Eqv (listP T nt.expr c.2) (if isQ T [41] c.2 = true then ([], c.2) else argsT T nt c.2)) :
    Eqv ([.nd 13 (c.1 ++ d.1 ++ (mustT T [41] d.2).1)], (mustT T [41] d.2).2) (nameET T (nameDT T nt c)) := by
  have h1 : d.2 = (nameDT T nt c).2 ∧ ((nameDT T nt c).2.e = 0 → c.1 ++ d.1 = (nameDT T nt c).1) := by
    unfold nameDT
    by_cases hq : isQ T [41] c.2 = true
    · rw [if_pos hq] at he
      rw [if_pos hq]
      exact ⟨h.1.trans he.1, fun e => by rw [h.2 (by rw [he.1]; exact e), he.2 e, List.append_nil]⟩
    · rw [if_neg hq] at he
      rw [if_neg hq]
      exact ⟨h.1.trans he.1, fun e => by rw [h.2 (by rw [he.1]; exact e), he.2 e]⟩
  unfold nameET
  rw [h1.1]
  refine ⟨rfl, fun e => ?_⟩
  have h2 : (nameDT T nt c).2.e = 0 := by
    rcases Nat.eq_zero_or_pos (nameDT T nt c).2.e with h | h
    · exact h
    · exact absurd e (by show ¬ (mustT T [41] (nameDT T nt c).2).2.e = 0; rw [(must_keep T [41] (nameDT T nt c).2).dead (by omega)]; omega)
  show [Tr.nd 13 _] = [Tr.nd 13 _]
  rw [h1.2 h2]
end

section
variable (b bb : Nat) (T : List Tok) (D n : Nat)

set_option maxRecDepth 100000 in
set_option maxHeartbeats 4000000 in
theorem args_f (hX : SubI b bb T D n (fun s => s.inn = false) 120 (NT T D n).expr) : SubF b bb T D n (fun s => s.inn = false) 177 (NT T D n).expr := by
  intro A0 vn0 w0 w s N vn L g hP hk hm
  have HSX := Lib.hid hX; have HK := Lib.hid hk; have HPP := Lib.hid hP
  have c0 := hk.boxc hm
  clear hX hk hP hm
  go_enter Tryz.func177, Tryz.ntmps177
  go_wp2_with fail
  refine (HK.out.sub HSX.out HPP.out).mono ?_
  rintro e w9 ⟨v9, N9, vn9, rfl, hk9, ho9, hd9⟩
  have HQ : Hid (CPost b bb T D n 0 A0 vn0 w0 s ((NT T D n).expr s) N L (.returned (.int .i64 v9)) w9) := Lib.hid ⟨v9, N9, vn9, rfl, hk9, ho9, hd9⟩
  clear hk9 ho9 hd9
  go_wp2_with fail
  go_ret
  exact HQ.out

set_option maxRecDepth 100000 in
set_option maxHeartbeats 8000000 in
theorem named_p (hC : TokC T) (hX : SubI b bb T D n (fun s => s.inn = false) 120 (NT T D n).expr) : SubI b bb T D n (fun s => s.e = 0 ∧ (tokQ T s).kind = 1) 176 (nameT T (NT T D n)) := by
  intro s N vn A w hP h
  have HCC := Lib.hid hC
  have HLI := Lib.hid (show (tokQ T s).kind ≠ 5 ∧ s.e = 0 from ⟨by omega, hP.1⟩)
  have HFEW := Lib.hid h.few
  have HSF := Lib.hid (args_f b bb T D n hX)
  have HKE := Lib.hid (nx_keep T D (D - n)).expr
  have HLIST := Lib.hid (fun (s : St) (hi : s.i ≤ T.length) => list_parts T (nx_good T D (D - n)).expr (fun s he => ((nx_keep T D (D - n)).expr s).dead he) s hi)
  obtain ⟨g, hg⟩ : ∃ g, w.heap.size = g := ⟨_, rfl⟩
  have HK : Hid (KX b bb T D n A vn w (w.alloc (.cells #[.pointer (some ⟨b, 0, none⟩)] 81)) s s.i N vn [(boxV g, boxT b)]) := Lib.hid (by rw [← hg]; exact (KX.start h).boxed _ _)
  have c0 := HK.out.boxc (List.mem_cons_self ..)
  have HA := Lib.hid (OutL.nil N s)
  clear h hX hC hP
  go_enter Tryz.func176, Tryz.ntmps176
  go_wp2_with fail
  try rw [hg]
  refine (HK.out.take HCC.out HLI.out.1 HLI.out.2).mono ?_
  rintro e w1 ⟨v3, N1, vn1, rfl, hk, ho, hd⟩
  have HK := Lib.hid hk; have HO := Lib.hid ho; have HA := Lib.hid (HA.out.app ho.out hd); have HDD : Hid (s.e ≠ 0 → (leafT T s).2.e ≠ 0) := Lib.hid hd
  have HLV := Lib.hid (leaf_live T HLI.out.2)
  clear hk ho hd c0 hg
  have c0 := HK.out.boxc (List.mem_cons_self ..)
  have d0 := HK.out.cell
  have d7 := HK.out.innc
  obtain ⟨I, hI⟩ : ∃ I, (leafT T s).2.inn = I := ⟨_, rfl⟩
  have HI := Lib.hid hI
  rw [hI] at d7
  clear hI
  cases I
  rotate_left
  · go_wp2_with fail
    refine (KX.node (k := 0) (kind := 14) (HK.out.ints1 _) (List.mem_cons_self ..) HCC.out.len HO.out rfl HFEW.out (by simp)).mono ?_
    rintro e w9 ⟨v9, N9, vn9, rfl, hk9, ho9⟩
    have HQ := Lib.hid (KX.fin ho9 hk9 HDD.out (r' := nameT T (NT T D n) s) (by rw [name_word (.inl HI.out)]; exact Eqv.refl _))
    clear hk9 ho9
    go_wp2_with fail
    go_ret
    exact HQ.out
  · go_wp2_with fail
    refine (KX.at (ws := [[46], [40]]) (HK.out.strs2 _ _ _) (List.mem_cons_self ..) (by decide)).mono ?_
    rintro e w2 ⟨rfl, hk⟩
    have HK := Lib.hid (hk.few (List.sublist_cons_self _ _))
    obtain ⟨b2, hb⟩ : ∃ b2, atQ T [[46], [40]] (leafT T s).2 = b2 := ⟨_, rfl⟩
    rw [hb]
    have HV2 : Hid ((isQ T [46] (leafT T s).2 || isQ T [40] (leafT T s).2) = b2) := Lib.hid (by rw [← hb, at_any HCC.out (by decide)]; simp)
    clear hk hb c0 d0 d7
    have c0 := HK.out.boxc (List.mem_cons_self ..)
    have d0 := HK.out.cell
    cases b2
    · go_wp2_with fail
      refine (KX.node (k := 0) (kind := 14) (HK.out.ints1 _) (List.mem_cons_self ..) HCC.out.len HO.out rfl HFEW.out (by simp)).mono ?_
      rintro e w9 ⟨v9, N9, vn9, rfl, hk9, ho9⟩
      have HQ := Lib.hid (KX.fin ho9 hk9 HDD.out (r' := nameT T (NT T D n) s) (by rw [name_word (.inr (Bool.or_eq_false_iff.1 HV2.out))]; exact Eqv.refl _))
      clear hk9 ho9
      go_wp2_with fail
      go_ret
      exact HQ.out
    · have HSH := Lib.hid (name_short (T := T) (s := s) (nt := NT T D n) (fun e => by
        rcases e with e | e
        · rw [HI.out] at e; cases e
        · have h9 := HV2.out; rw [e.1, e.2] at h9; cases h9))
      have HK := Lib.hid (HK.out.ints1 v3)
      clear c0 d0
      have c0 := HK.out.boxc (List.mem_cons_of_mem _ (List.mem_cons_self ..))
      go_wp2_with fail
      refine (KX.atx (ws := [[46]]) (HK.out.strs1 _ _) ⟨_, by simp, List.mem_cons_self ..⟩ (by decide)).mono ?_
      rintro e w3 ⟨rfl, hk⟩
      have HK := Lib.hid (hk.few (List.sublist_cons_self _ _))
      obtain ⟨b3, hb⟩ : ∃ b3, isQ T [46] (leafT T s).2 = b3 := ⟨_, rfl⟩
      rw [at_one HCC.out (by decide), hb]
      have HV3 := Lib.hid hb
      clear hk hb c0
      cases b3
      · obtain ⟨a, vs, HAE, HK, HA, HVS, HDD, HIN⟩ : ∃ (a : RT) (vs : List Int), Hid (nameBT T (leafT T s) = a) ∧ Hid (KX b bb T D n A vn w w3 a.2 a.2.i N1 vn1 [(.slice (some ⟨w2.heap.size, 0, none⟩) 1 1, .ints vs), (boxV g, boxT b)]) ∧ Hid (OutL 1 N s a N1 vs) ∧ Hid (vs.length ≤ 3) ∧ Hid (s.e ≠ 0 → a.2.e ≠ 0) ∧ Hid (a.2.inn = false) :=
          ⟨leafT T s, [v3], Lib.hid (by unfold nameBT; rw [if_neg (by rw [HV3.out]; decide)]), HK, Lib.hid HO.out.out, Lib.hid (by simp), HDD, HI⟩
        have c0 := HK.out.boxc (List.mem_cons_of_mem _ (List.mem_cons_self ..))
        go_wp2_with fail
        refine (KX.one1 [40] (HK.out.strs1 _ _) HCC.out (by decide) ⟨_, rfl, List.mem_cons_self ..⟩).mono ?_
        rintro e w5 ⟨v5, N5, vn5, rfl, hk, ho, hd⟩
        have HK := Lib.hid (hk.few (List.sublist_cons_self _ _)); have HIN := Lib.hid ((must_keep T [40] a.2).inn.trans HIN.out)
        obtain ⟨l5, hl5⟩ : ∃ l5, vs ++ [v5] = l5 := ⟨_, rfl⟩
        have HL5 : Hid (l5.length ≤ 4) := Lib.hid (by rw [← hl5, List.length_append]; have := HVS.out; simp; omega)
        have HA : Hid (OutL 1 N s (nameCT T a) N5 l5) := Lib.hid (by rw [← hl5]; exact (HA.out.app ho.out hd).weak (by decide)); have HDD : Hid (s.e ≠ 0 → (nameCT T a).2.e ≠ 0) := Lib.hid (fun h => hd (HDD.out h))
        have HE5 := Lib.hid hl5
        clear hk ho hd c0 hl5
        go_wp2_with (at_builtin; go_loud (refine wpList_kx rfl _ _ rfl (HK.out.ints1 v5) (List.sublist_cons_self _ _) rfl rfl (l2 := [v5]) rfl (vat1 _ _) (by have := HVS.out; omega) (by simp) ?_))
        intro kv6 w6 hk6
        rw [HE5.out] at hk6
        have HK : Hid (KX b bb T D n A vn w w6 (nameCT T a).2 (nameCT T a).2.i N5 vn5 [(kv6, .ints l5), (boxV g, boxT b)]) := Lib.hid hk6
        have HIN : Hid ((nameCT T a).2.inn = false) := HIN
        obtain ⟨c, hc⟩ : ∃ c, nameCT T a = c := ⟨_, rfl⟩
        have HCE := Lib.hid hc
        rw [hc] at HK HA HDD HIN
        have HCI : Hid (c.2.i ≤ T.length) := Lib.hid (Nat.le_of_lt HK.out.ok)
        clear hk6 hc
        have c0 := HK.out.boxc (List.mem_cons_of_mem _ (List.mem_cons_self ..))
        go_wp2_with fail
        refine (list_args b bb T D n HCC.out _ HSF.out (fun s hs => ((HKE.out s).inn).trans hs) HK.out (List.mem_cons_of_mem _ (List.mem_cons_self ..)) HIN.out).mono ?_
        rintro e w7 ⟨lv, ls, N7, vn7, rfl, hk7, ho7, hd7, hl7⟩
        obtain ⟨q7, c7, rfl, hv7, -, -⟩ := hk7.list (List.mem_cons_self ..)
        have HK := Lib.hid hk7; have HVV := Lib.hid hv7; have HL7 := Lib.hid hl7
        obtain ⟨l7, hl77⟩ : ∃ l7, l5 ++ ls = l7 := ⟨_, rfl⟩
        have HE7 := Lib.hid hl77
        have HLL : Hid (l7.length ≤ 310) := Lib.hid (by rw [← hl77, List.length_append]; have := HL5.out; omega)
        have HA : Hid (OutL 1 N s (c.1 ++ (listP T (NT T D n).expr c.2).1, (listP T (NT T D n).expr c.2).2) N7 l7) := Lib.hid (by rw [← hl77]; exact (HA.out.app ho7 hd7).weak (by decide)); have HDD := Lib.hid (fun h => hd7 (HDD.out h))
        obtain ⟨m7, hm7⟩ : ∃ m7, ls.length = m7 := ⟨_, rfl⟩
        have HM7 := Lib.hid hm7
        rw [hm7] at HK ⊢
        clear hk7 ho7 hd7 hl7 hv7 hl77 hm7 c0
        go_wp2_with (at_builtin; go_loud (refine wpList_kx rfl _ _ rfl HK.out (List.sublist_cons_self _ _) rfl rfl (l2 := ls) HM7.out HVV.out (by have := HL5.out; omega) (by have := HL7.out; omega) ?_))
        intro kv8 w8 hk8
        rw [HE7.out] at hk8
        have HK := Lib.hid hk8; have HBM : Hid ((boxV g, boxT b) ∈ [(kv8, Th.ints l7), (boxV g, boxT b)]) := Lib.hid (List.mem_cons_of_mem _ (List.mem_cons_self ..))
        clear hk8
        go_wp2_with fail
        have HKD := HK
        have HK := Lib.hid HK.out.drew
        have HKS1 : Hid ([41] ∈ KS) := Lib.hid (by decide)
        go_region_held3 (fun w' => w'.cell? ⟨g, 0, none⟩ = some (.pointer (some ⟨b, 0, none⟩)) ∧ w'.cell? ⟨b, 0, none⟩ = some (.pointer (some ⟨bb, 0, none⟩))) (first | exact ⟨HK.out.boxc (by first | exact (List.mem_cons_of_mem _ (List.mem_cons_self ..)) | exact (List.mem_cons_of_mem _ (List.mem_cons_of_mem _ (List.mem_cons_self ..)))), HK.out.cell⟩ | exact ⟨(HK.out.alloc _).boxc (by first | exact (List.mem_cons_of_mem _ (List.mem_cons_self ..)) | exact (List.mem_cons_of_mem _ (List.mem_cons_of_mem _ (List.mem_cons_self ..)))), (HK.out.alloc _).cell⟩ | exact ⟨(HKD.out.alloc _).drew.boxc (by first | exact (List.mem_cons_of_mem _ (List.mem_cons_self ..)) | exact (List.mem_cons_of_mem _ (List.mem_cons_of_mem _ (List.mem_cons_self ..)))), (HKD.out.alloc _).drew.cell⟩ | exact ⟨((HK.out.alloc _).alloc _).boxc (by first | exact (List.mem_cons_of_mem _ (List.mem_cons_self ..)) | exact (List.mem_cons_of_mem _ (List.mem_cons_of_mem _ (List.mem_cons_self ..)))), ((HK.out.alloc _).alloc _).cell⟩)
          (first
            | (refine step_kx rfl _ _ rfl ((HK.out.few (List.sublist_cons_self _ _)).ints1 _) (List.sublist_cons_self _ _) rfl rfl (l2 := [_]) rfl (vat1 _ _) (by have := HLL.out; omega) (by simp) ?_; intro v8 w9 hk9; have HK := Lib.hid hk9; clear hk9)
            | (go_at_call 80; (first | with_reducible refine (KX.one1 [41] (HK.out.strs1 _ _) HCC.out HKS1.out ?_).mono ?_ | with_reducible refine (KX.one1 [41] (HKD.out.strs1 _ _).drew HCC.out HKS1.out ?_).mono ?_); (refine ⟨_, ?_, List.mem_cons_self ..⟩; first | rfl | (simp; done)); rintro e w9 ⟨v9, N9, vn9, rfl, hk9, ho9, hd9⟩; have HK := Lib.hid hk9; have HD := Lib.hid (OutD.app HA.out ho9 hd9); clear hk9 ho9 hd9)
            | (go_at_call 52; have HDW := Lib.hid (HD.out.weak (j := 0 + 1) (by decide)); refine (KX.node (k := 0) (kind := 13) HK.out ?_ HCC.out.len HDW.out ?_ HFEW.out ?_).mono ?_; exact List.mem_cons_self ..; rfl; (have := HLL.out; rw [List.length_append]; simp; omega); rintro e w9 ⟨v9, N9, vn9, rfl, hk9, ho9⟩; have HK := Lib.hid hk9; have HZ := Lib.hid ho9; clear hk9 ho9))
        all_goals
          have HQ := Lib.hid (KX.fin HZ.out HK.out (fun he => absurd HLI.out.2 he) (r' := nameT T (NT T D n) s) (by rw [HSH.out, HAE.out, HCE.out]; exact name_end (Eqv.refl _) (HLIST.out c.2 HCI.out)))
          go_wp2_with fail
          go_ret
          exact HQ.out
      · have HLJ := Lib.hid (is_kind HV3.out)
        go_wp2_with fail
        have HKD := HK
        have HK := Lib.hid HK.out.drew
        have HA := Lib.hid HO.out.out
        have HBM : Hid ((boxV g, boxT b) ∈ [(.slice (some ⟨w2.heap.size, 0, none⟩) 1 1, Th.ints [v3]), (boxV g, boxT b)]) := Lib.hid (List.mem_cons_of_mem _ (List.mem_cons_self ..))
        go_region_held3 (fun w' => w'.cell? ⟨g, 0, none⟩ = some (.pointer (some ⟨b, 0, none⟩))) (first | exact HK.out.boxc (List.mem_cons_of_mem _ (List.mem_cons_self ..)) | exact (HK.out.alloc _).boxc (List.mem_cons_of_mem _ (List.mem_cons_self ..)))
          (first
            | (refine step_kx rfl _ _ rfl (HK.out.ints2 _ _) (List.sublist_cons_self _ _) rfl rfl (l2 := [_, _]) rfl (vat2 _ _ _) (by simp) (by simp) ?_; intro kv4 w9 hk9; have HK := Lib.hid hk9; clear hk9)
            | (go_at_call 81; (with_reducible refine (HK.out.take HCC.out HLJ.out.1 HLJ.out.2).mono ?_); rintro e w9 ⟨v9, N9, vn9, rfl, hk9, ho9, hd9⟩; have HK := Lib.hid hk9; have HA := Lib.hid (HA.out.app ho9.out hd9); clear hk9 ho9 hd9)
            | (go_at_call 53; (with_reducible refine (HK.out.word HCC.out).mono ?_); rintro e w9 ⟨v9, N9, vn9, rfl, hk9, ho9, hd9⟩; have HK := Lib.hid hk9; have HA := Lib.hid (HA.out.app ho9.out hd9); clear hk9 ho9 hd9))
        all_goals
          obtain ⟨a, vs, HAE, HK, HA, HVS, HDD, HIN⟩ : ∃ (a : RT) (vs : List Int), Hid (nameBT T (leafT T s) = a) ∧ Hid (KX b bb T D n A vn w w9 a.2 a.2.i N9 vn9 [(kv4, .ints vs), (boxV g, boxT b)]) ∧ Hid (OutL 1 N s a N9 vs) ∧ Hid (vs.length ≤ 3) ∧ Hid (s.e ≠ 0 → a.2.e ≠ 0) ∧ Hid (a.2.inn = false) :=
            ⟨((leafT T s).1 ++ (leafT T (leafT T s).2).1 ++ (kindT T 1 (leafT T (leafT T s).2).2).1, (kindT T 1 (leafT T (leafT T s).2).2).2), _, Lib.hid (by unfold nameBT; rw [if_pos HV3.out]), HK, Lib.hid (by have h9 := HA.out.weak (j := 1) (by decide); rw [List.append_assoc [v3]] at h9; exact h9), Lib.hid (by simp), Lib.hid (fun h => absurd HLI.out.2 h), Lib.hid ((kind_keep T 1 _).inn.trans ((leaf_keep T HLJ.out.2).inn.trans HI.out))⟩
          have c0 := HK.out.boxc (List.mem_cons_of_mem _ (List.mem_cons_self ..))
          go_wp2_with fail
          refine (KX.one1 [40] (HK.out.strs1 _ _) HCC.out (by decide) ⟨_, rfl, List.mem_cons_self ..⟩).mono ?_
          rintro e w5 ⟨v5, N5, vn5, rfl, hk, ho, hd⟩
          have HK := Lib.hid (hk.few (List.sublist_cons_self _ _)); have HIN := Lib.hid ((must_keep T [40] a.2).inn.trans HIN.out)
          obtain ⟨l5, hl5⟩ : ∃ l5, vs ++ [v5] = l5 := ⟨_, rfl⟩
          have HL5 : Hid (l5.length ≤ 4) := Lib.hid (by rw [← hl5, List.length_append]; have := HVS.out; simp; omega)
          have HA : Hid (OutL 1 N s (nameCT T a) N5 l5) := Lib.hid (by rw [← hl5]; exact (HA.out.app ho.out hd).weak (by decide)); have HDD : Hid (s.e ≠ 0 → (nameCT T a).2.e ≠ 0) := Lib.hid (fun h => hd (HDD.out h))
          have HE5 := Lib.hid hl5
          clear hk ho hd c0 hl5
          go_wp2_with (at_builtin; go_loud (refine wpList_kx rfl _ _ rfl (HK.out.ints1 v5) (List.sublist_cons_self _ _) rfl rfl (l2 := [v5]) rfl (vat1 _ _) (by have := HVS.out; omega) (by simp) ?_))
          intro kv6 w6 hk6
          rw [HE5.out] at hk6
          have HK : Hid (KX b bb T D n A vn w w6 (nameCT T a).2 (nameCT T a).2.i N5 vn5 [(kv6, .ints l5), (boxV g, boxT b)]) := Lib.hid hk6
          have HIN : Hid ((nameCT T a).2.inn = false) := HIN
          obtain ⟨c, hc⟩ : ∃ c, nameCT T a = c := ⟨_, rfl⟩
          have HCE := Lib.hid hc
          rw [hc] at HK HA HDD HIN
          have HCI : Hid (c.2.i ≤ T.length) := Lib.hid (Nat.le_of_lt HK.out.ok)
          clear hk6 hc
          have c0 := HK.out.boxc (List.mem_cons_of_mem _ (List.mem_cons_self ..))
          go_wp2_with fail
          refine (list_args b bb T D n HCC.out _ HSF.out (fun s hs => ((HKE.out s).inn).trans hs) HK.out (List.mem_cons_of_mem _ (List.mem_cons_self ..)) HIN.out).mono ?_
          rintro e w7 ⟨lv, ls, N7, vn7, rfl, hk7, ho7, hd7, hl7⟩
          obtain ⟨q7, c7, rfl, hv7, -, -⟩ := hk7.list (List.mem_cons_self ..)
          have HK := Lib.hid hk7; have HVV := Lib.hid hv7; have HL7 := Lib.hid hl7
          obtain ⟨l7, hl77⟩ : ∃ l7, l5 ++ ls = l7 := ⟨_, rfl⟩
          have HE7 := Lib.hid hl77
          have HLL : Hid (l7.length ≤ 310) := Lib.hid (by rw [← hl77, List.length_append]; have := HL5.out; omega)
          have HA : Hid (OutL 1 N s (c.1 ++ (listP T (NT T D n).expr c.2).1, (listP T (NT T D n).expr c.2).2) N7 l7) := Lib.hid (by rw [← hl77]; exact (HA.out.app ho7 hd7).weak (by decide)); have HDD := Lib.hid (fun h => hd7 (HDD.out h))
          obtain ⟨m7, hm7⟩ : ∃ m7, ls.length = m7 := ⟨_, rfl⟩
          have HM7 := Lib.hid hm7
          rw [hm7] at HK ⊢
          clear hk7 ho7 hd7 hl7 hv7 hl77 hm7 c0
          go_wp2_with (at_builtin; go_loud (refine wpList_kx rfl _ _ rfl HK.out (List.sublist_cons_self _ _) rfl rfl (l2 := ls) HM7.out HVV.out (by have := HL5.out; omega) (by have := HL7.out; omega) ?_))
          intro kv8 w8 hk8
          rw [HE7.out] at hk8
          have HK := Lib.hid hk8; have HBM : Hid ((boxV g, boxT b) ∈ [(kv8, Th.ints l7), (boxV g, boxT b)]) := Lib.hid (List.mem_cons_of_mem _ (List.mem_cons_self ..))
          clear hk8
          go_wp2_with fail
          have HKD := HK
          have HK := Lib.hid HK.out.drew
          have HKS1 : Hid ([41] ∈ KS) := Lib.hid (by decide)
          go_region_held3 (fun w' => w'.cell? ⟨g, 0, none⟩ = some (.pointer (some ⟨b, 0, none⟩)) ∧ w'.cell? ⟨b, 0, none⟩ = some (.pointer (some ⟨bb, 0, none⟩))) (first | exact ⟨HK.out.boxc (by first | exact (List.mem_cons_of_mem _ (List.mem_cons_self ..)) | exact (List.mem_cons_of_mem _ (List.mem_cons_of_mem _ (List.mem_cons_self ..)))), HK.out.cell⟩ | exact ⟨(HK.out.alloc _).boxc (by first | exact (List.mem_cons_of_mem _ (List.mem_cons_self ..)) | exact (List.mem_cons_of_mem _ (List.mem_cons_of_mem _ (List.mem_cons_self ..)))), (HK.out.alloc _).cell⟩ | exact ⟨(HKD.out.alloc _).drew.boxc (by first | exact (List.mem_cons_of_mem _ (List.mem_cons_self ..)) | exact (List.mem_cons_of_mem _ (List.mem_cons_of_mem _ (List.mem_cons_self ..)))), (HKD.out.alloc _).drew.cell⟩ | exact ⟨((HK.out.alloc _).alloc _).boxc (by first | exact (List.mem_cons_of_mem _ (List.mem_cons_self ..)) | exact (List.mem_cons_of_mem _ (List.mem_cons_of_mem _ (List.mem_cons_self ..)))), ((HK.out.alloc _).alloc _).cell⟩)
            (first
              | (refine step_kx rfl _ _ rfl ((HK.out.few (List.sublist_cons_self _ _)).ints1 _) (List.sublist_cons_self _ _) rfl rfl (l2 := [_]) rfl (vat1 _ _) (by have := HLL.out; omega) (by simp) ?_; intro v8 w9 hk9; have HK := Lib.hid hk9; clear hk9)
              | (go_at_call 80; (first | with_reducible refine (KX.one1 [41] (HK.out.strs1 _ _) HCC.out HKS1.out ?_).mono ?_ | with_reducible refine (KX.one1 [41] (HKD.out.strs1 _ _).drew HCC.out HKS1.out ?_).mono ?_); (refine ⟨_, ?_, List.mem_cons_self ..⟩; first | rfl | (simp; done)); rintro e w9 ⟨v9, N9, vn9, rfl, hk9, ho9, hd9⟩; have HK := Lib.hid hk9; have HD := Lib.hid (OutD.app HA.out ho9 hd9); clear hk9 ho9 hd9)
              | (go_at_call 52; have HDW := Lib.hid (HD.out.weak (j := 0 + 1) (by decide)); refine (KX.node (k := 0) (kind := 13) HK.out ?_ HCC.out.len HDW.out ?_ HFEW.out ?_).mono ?_; exact List.mem_cons_self ..; rfl; (have := HLL.out; rw [List.length_append]; simp; omega); rintro e w9 ⟨v9, N9, vn9, rfl, hk9, ho9⟩; have HK := Lib.hid hk9; have HZ := Lib.hid ho9; clear hk9 ho9))
          all_goals
            have HQ := Lib.hid (KX.fin HZ.out HK.out (fun he => absurd HLI.out.2 he) (r' := nameT T (NT T D n) s) (by rw [HSH.out, HAE.out, HCE.out]; exact name_end (Eqv.refl _) (HLIST.out c.2 HCI.out)))
            go_wp2_with fail
            go_ret
            exact HQ.out
end
end Go.Proofs.YtoahgeleenpnjaaGreatDoor
namespace Go.Proofs.YtoahgeleenpnjaaGreatDoor

def grpT (T : List Tok) (nt : NxT) (s : St) : RT := ([.nd 12 ((leafT T s).1 ++ (nt.expr (leafT T s).2).1 ++ (mustT T [41] (nt.expr (leafT T s).2).2).1)], (mustT T [41] (nt.expr (leafT T s).2).2).2)
section
variable {T : List Tok} {nt : NxT} {s : St}
theorem atom_num (h : s.e = 0 ∧ (tokQ T s).kind = 3) : atomT T nt s = ([.nd 15 (leafT T s).1], (leafT T s).2) := by
  unfold atomT; rw [if_neg (by omega), if_pos h.2]
theorem tf_iff : ((isQ T [116, 114, 117, 101] s || isQ T [102, 97, 108, 115, 101] s) = true) ↔ (isQ T [116, 114, 117, 101] s = true ∨ isQ T [102, 97, 108, 115, 101] s = true) := Bool.or_eq_true_iff
theorem tf_no (h : (isQ T [116, 114, 117, 101] s || isQ T [102, 97, 108, 115, 101] s) = false) : ¬ (isQ T [116, 114, 117, 101] s = true ∨ isQ T [102, 97, 108, 115, 101] s = true) := fun e => by rw [tf_iff.2 e] at h; cases h
theorem atom_truth (h1 : ¬ (s.e = 0 ∧ (tokQ T s).kind = 3)) (h2 : (isQ T [116, 114, 117, 101] s || isQ T [102, 97, 108, 115, 101] s) = true) (he : s.e = 0) : atomT T nt s = ([.nd 16 (leafT T s).1], (leafT T s).2) := by
  unfold atomT; rw [if_neg (by omega), if_neg (fun e => h1 ⟨he, e⟩), if_pos (tf_iff.1 h2)]
theorem atom_res (he : s.e = 0) (h1 : ¬ (s.e = 0 ∧ (tokQ T s).kind = 3)) (h2 : (isQ T [116, 114, 117, 101] s || isQ T [102, 97, 108, 115, 101] s) = false) (h3 : s.inn = true ∧ isQ T [114, 101, 115] s = true) : atomT T nt s = ([.nd 17 (leafT T s).1], (leafT T s).2) := by
  unfold atomT; rw [if_neg (by omega), if_neg (fun e => h1 ⟨he, e⟩), if_neg (tf_no h2), if_pos h3]
theorem atom_grp (h1 : ¬ (s.e = 0 ∧ (tokQ T s).kind = 3)) (h2 : (isQ T [116, 114, 117, 101] s || isQ T [102, 97, 108, 115, 101] s) = false) (h3 : ¬ (s.inn = true ∧ isQ T [114, 101, 115] s = true)) (h4 : isQ T [40] s = true) : atomT T nt s = grpT T nt s := by
  have he := (is_kind h4).2
  unfold atomT; rw [if_neg (by omega), if_neg (fun e => h1 ⟨he, e⟩), if_neg (tf_no h2), if_neg h3, if_pos h4]; rfl
theorem atom_name (he : s.e = 0) (h1 : ¬ (s.e = 0 ∧ (tokQ T s).kind = 3)) (h2 : (isQ T [116, 114, 117, 101] s || isQ T [102, 97, 108, 115, 101] s) = false) (h3 : ¬ (s.inn = true ∧ isQ T [114, 101, 115] s = true)) (h4 : isQ T [40] s = false) (h5 : (tokQ T s).kind = 1) : atomT T nt s = nameT T nt s := by
  unfold atomT; rw [if_neg (by omega), if_neg (fun e => h1 ⟨he, e⟩), if_neg (tf_no h2), if_neg h3, if_neg (by rw [h4]; decide), if_pos h5]
theorem atom_none (h1 : ¬ (s.e = 0 ∧ (tokQ T s).kind = 3)) (h2 : (isQ T [116, 114, 117, 101] s || isQ T [102, 97, 108, 115, 101] s) = false) (h3 : ¬ (s.inn = true ∧ isQ T [114, 101, 115] s = true)) (h4 : isQ T [40] s = false) (h5 : ¬ (s.e = 0 ∧ (tokQ T s).kind = 1)) : Eqv ([], failQ T 22 s) (atomT T nt s) := by
  unfold atomT
  by_cases he : s.e ≠ 0
  · rw [if_pos he, fail_same T he]; exact Eqv.refl _
  · have he0 : s.e = 0 := by omega
    rw [if_neg he, if_neg (fun e => h1 ⟨he0, e⟩), if_neg (tf_no h2), if_neg h3, if_neg (by rw [h4]; decide), if_neg (fun e => h5 ⟨he0, e⟩)]; exact Eqv.refl _
end
end Go.Proofs.YtoahgeleenpnjaaGreatDoor
