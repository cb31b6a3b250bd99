/- The program's parser: imports, rows of imports and definitions; programs; formulas alone. -/
import Derived.Test.YthclkbaankjbiaaGreatDoorPDef2
namespace Go.Proofs.YthclkbaankjbiaaGreatDoor
open Go.RowKit

def imT (T : List Tok) (s : St) : RT := ([.nd 2 ((mustT T [105, 109, 112, 111, 114, 116] s).1 ++ (kindT T 1 (mustT T [105, 109, 112, 111, 114, 116] s).2).1 ++ (mustT T [59] (kindT T 1 (mustT T [105, 109, 112, 111, 114, 116] s).2).2).1)], (mustT T [59] (kindT T 1 (mustT T [105, 109, 112, 111, 114, 116] s).2).2).2)
theorem imT_step {T : List Tok} {r : RT} (h : isQ T [105, 109, 112, 111, 114, 116] r.2 = true) : impStepT T r = (r.1 ++ (imT T r.2).1, (imT T r.2).2) := by
  have e : mustT T [105, 109, 112, 111, 114, 116] r.2 = leafT T r.2 := by unfold mustT; rw [if_pos h]
  unfold impStepT imT
  rw [e]
theorem imT_less {T : List Tok} {s : St} (h : isQ T [105, 109, 112, 111, 114, 116] s = true) : s.i < (imT T s).2.i := by
  have e : mustT T [105, 109, 112, 111, 114, 116] s = leafT T s := by unfold mustT; rw [if_pos h]
  have h1 := leaf_i (T := T) (is_kind h).1
  have h2 := (kind_good T 1 (leafT T s).2).mono
  have h3 := (must_good T [59] (kindT T 1 (leafT T s).2).2).mono
  show s.i < (mustT T [59] (kindT T 1 (mustT T [105, 109, 112, 111, 114, 116] s).2).2).2.i
  rw [e]; omega
theorem defT_less {T : List Tok} {D : Nat} {s : St} (h : isDef T s = true) : s.i < (defT T (NT T D 0).expr s).2.i := by
  have hx := (nx_good T D (D - 0)).expr
  have hg : ∀ a : RT, Good T a.2 (defDT T (NT T D 0).expr (defCT T (NT T D 0).expr a)) := fun a => defD_good T hx (defC_good T hx (Good.self T a))
  have key : s.i < (defBT T (defAT T s)).2.i := by
    unfold defAT
    by_cases hp : isQ T [112, 117, 98] s = true
    · rw [if_pos hp]
      have h1 := leaf_i (T := T) (is_kind hp).1
      have h2 := (defB_good T (Good.self T (leafT T s))).mono
      omega
    · rw [if_neg hp]
      have hf : isQ T [102, 117, 110] s = true := by
        unfold isDef at h
        rcases Bool.or_eq_true_iff.1 h with h | h
        · exact absurd h hp
        · exact h
      have e : mustT T [102, 117, 110] s = leafT T s := by unfold mustT; rw [if_pos hf]
      have h1 := leaf_i (T := T) (is_kind hf).1
      show s.i < (mustT T [40] (kindT T 1 (mustT T [102, 117, 110] s).2).2).2.i
      rw [e]
      have h2 := (kind_good T 1 (leafT T s).2).mono
      have h3 := (must_good T [40] (kindT T 1 (leafT T s).2).2).mono
      omega
  have := (hg (defBT T (defAT T s))).mono
  show s.i < (defDT T (NT T D 0).expr (defCT T (NT T D 0).expr (defBT T (defAT T s)))).2.i
  omega

/-- Many, as the program goes at them. -/
def rowP (T : List Tok) (c : St → Bool) (sub : St → RT) (most : Nat) : Nat → Nat → RT → RT
  | 0, _, r => r
  | f + 1, k, r => if c r.2 = true then (if k = most then (r.1, failQ T 15 r.2) else rowP T c sub most f (k + 1) (r.1 ++ (sub r.2).1, (sub r.2).2)) else r
theorem rowP_many {T : List Tok} {c : St → Bool} {sub : St → RT} {step : RT → RT} {most : Nat} (hs : ∀ r, c r.2 = true → step r = (r.1 ++ (sub r.2).1, (sub r.2).2)) : ∀ f k r, Eqv (rowP T c sub most f k r) (manyT T c step most f k r).2
  | 0, k, r => Eqv.refl _
  | f + 1, k, r => by
    unfold rowP manyT
    split
    · rename_i hc
      split
      · exact ⟨rfl, fun e => absurd e (fail_e T (by decide) _)⟩
      · rw [hs r hc]; exact rowP_many hs f _ _
    · exact Eqv.refl _
theorem rowP_stop {T : List Tok} {c : St → Bool} {sub : St → RT} {most k : Nat} {r : RT} (hc : c r.2 = false) : ∀ f, rowP T c sub most f k r = r
  | 0 => rfl
  | f + 1 => by unfold rowP; rw [hc]; rfl
def LeftM (T : List Tok) (c : St → Bool) (sub : St → RT) (most : Nat) (R : RT) (k : Nat) (r : RT) : Prop := ∃ f, T.length - r.2.i + 1 ≤ f ∧ rowP T c sub most f k r = R
theorem LeftM.stop {T : List Tok} {c : St → Bool} {sub : St → RT} {most k : Nat} {R r : RT} (h : LeftM T c sub most R k r) (hc : c r.2 = false) : R = r := by
  obtain ⟨f, -, hf⟩ := h; rw [← hf, rowP_stop hc]
theorem LeftM.full {T : List Tok} {c : St → Bool} {sub : St → RT} {most : Nat} {R r : RT} (h : LeftM T c sub most R most r) (hc : c r.2 = true) : R = (r.1, failQ T 15 r.2) := by
  obtain ⟨f, hf, hr⟩ := h
  obtain ⟨g, rfl⟩ : ∃ g, f = g + 1 := ⟨f - 1, by omega⟩
  unfold rowP at hr
  rw [if_pos hc, if_pos rfl] at hr
  exact hr.symm
theorem LeftM.next {T : List Tok} {c : St → Bool} {sub : St → RT} {most k : Nat} {R r : RT} (h : LeftM T c sub most R k r) (hc : c r.2 = true) (hk : k ≠ most) (hi : r.2.i < T.length) (hl : r.2.i < (sub r.2).2.i) : LeftM T c sub most R (k + 1) (r.1 ++ (sub r.2).1, (sub r.2).2) := by
  obtain ⟨f, hf, hr⟩ := h
  obtain ⟨g, rfl⟩ : ∃ g, f = g + 1 := ⟨f - 1, by omega⟩
  refine ⟨g, by show T.length - (sub r.2).2.i + 1 ≤ g; omega, ?_⟩
  unfold rowP at hr
  rw [if_pos hc, if_neg hk] at hr
  exact hr

section
variable (b bb : Nat) (T : List Tok) (D n : Nat)

set_option maxRecDepth 100000 in
set_option maxHeartbeats 8000000 in
theorem imported_p (hC : TokC T) : SubI b bb T D n (fun s => isQ T [105, 109, 112, 111, 114, 116] s = true) 38 (imT T) := by
  intro s N vn A w hP h
  have HCC := Lib.hid hC
  have HLI := Lib.hid (is_kind hP)
  have HKS1 : Hid ([105, 109, 112, 111, 114, 116] ∈ KS) := Lib.hid (by decide)
  have HKS2 : Hid ([59] ∈ KS) := Lib.hid (by decide)
  have HFEW := Lib.hid h.few
  have HK := Lib.hid (KX.start h)
  have HA := Lib.hid (OutL.nil N s)
  clear h hC hP
  go_enter Tryz.func38, Tryz.ntmps38
  go_wp2_with fail
  have HKD := HK
  have HK := Lib.hid HK.out.drew
  go_region_held3 (fun w' => w'.cell? ⟨b, 0, none⟩ = some (.pointer (some ⟨bb, 0, none⟩))) (first | with_reducible exact HK.out.cell | with_reducible exact (HK.out.alloc _).cell | with_reducible exact (HKD.out.alloc _).drew.cell | with_reducible exact ((HK.out.alloc _).alloc _).cell | with_reducible exact ((HKD.out.alloc _).alloc _).drew.cell | with_reducible exact (((HK.out.alloc _).alloc _).alloc _).cell)
    (first
      | (go_at_call 40; have HDW := Lib.hid (HD.out.weak (j := 0 + 1) (by decide)); refine (KX.node (k := 0) (kind := 2) (HK.out.ints3 _ _ _ ) ?_ HCC.out.len HDW.out ?_ HFEW.out ?_).mono ?_; exact List.mem_cons_self ..; rfl; simp; rintro e w9 ⟨v9, N9, vn9, rfl, hk9, ho9⟩; have HK := Lib.hid hk9; have HZ := Lib.hid ho9; clear hk9 ho9)
      | (go_at_call 41; (first | with_reducible refine (HK.out.word HCC.out).mono ?_ | with_reducible refine ((HK.out.strs1 _ _).word HCC.out).mono ?_ | with_reducible refine ((HKD.out.strs1 _ _).drew.word HCC.out).mono ?_ | with_reducible refine (((HK.out.strs1 _ _).strs1 _ _).word HCC.out).mono ?_ | with_reducible refine (((HKD.out.strs1 _ _).strs1 _ _).drew.word HCC.out).mono ?_); rintro e w9 ⟨v9, N9, vn9, rfl, hk9, ho9, hd9⟩; have HK := Lib.hid hk9; have HD := Lib.hid (OutD.app HA.out ho9 hd9); have HA := Lib.hid HD.out.out; clear hk9 ho9 hd9)
      | (go_at_call 68; (first | with_reducible refine (KX.one1 [105, 109, 112, 111, 114, 116] HK.out HCC.out HKS1.out ?_).mono ?_ | with_reducible refine (KX.one1 [105, 109, 112, 111, 114, 116] (HK.out.strs1 _ _) HCC.out HKS1.out ?_).mono ?_ | with_reducible refine (KX.one1 [105, 109, 112, 111, 114, 116] (HKD.out.strs1 _ _).drew HCC.out HKS1.out ?_).mono ?_ | with_reducible refine (KX.one1 [105, 109, 112, 111, 114, 116] ((HK.out.strs1 _ _).strs1 _ _) HCC.out HKS1.out ?_).mono ?_ | with_reducible refine (KX.one1 [105, 109, 112, 111, 114, 116] ((HKD.out.strs1 _ _).strs1 _ _).drew HCC.out HKS1.out ?_).mono ?_); (first | (refine ⟨_, ?_, List.mem_cons_self ..⟩; focus (simp; done)) | (refine ⟨_, ?_, List.mem_cons_of_mem _ (List.mem_cons_self ..)⟩; focus (simp; done)) | (refine ⟨_, ?_, List.mem_cons_of_mem _ (List.mem_cons_of_mem _ (List.mem_cons_self ..))⟩; focus (simp; done))); rintro e w9 ⟨v9, N9, vn9, rfl, hk9, ho9, hd9⟩; have HK := Lib.hid hk9; have HD := Lib.hid (OutD.app HA.out ho9 hd9); have HA := Lib.hid HD.out.out; clear hk9 ho9 hd9)
      | (go_at_call 68; (first | with_reducible refine (KX.one1 [59] HK.out HCC.out HKS2.out ?_).mono ?_ | with_reducible refine (KX.one1 [59] (HK.out.strs1 _ _) HCC.out HKS2.out ?_).mono ?_ | with_reducible refine (KX.one1 [59] (HKD.out.strs1 _ _).drew HCC.out HKS2.out ?_).mono ?_ | with_reducible refine (KX.one1 [59] ((HK.out.strs1 _ _).strs1 _ _) HCC.out HKS2.out ?_).mono ?_ | with_reducible refine (KX.one1 [59] ((HKD.out.strs1 _ _).strs1 _ _).drew HCC.out HKS2.out ?_).mono ?_); (first | (refine ⟨_, ?_, List.mem_cons_self ..⟩; focus (simp; done)) | (refine ⟨_, ?_, List.mem_cons_of_mem _ (List.mem_cons_self ..)⟩; focus (simp; done)) | (refine ⟨_, ?_, List.mem_cons_of_mem _ (List.mem_cons_of_mem _ (List.mem_cons_self ..))⟩; focus (simp; done))); rintro e w9 ⟨v9, N9, vn9, rfl, hk9, ho9, hd9⟩; have HK := Lib.hid hk9; have HD := Lib.hid (OutD.app HA.out ho9 hd9); have HA := Lib.hid HD.out.out; clear hk9 ho9 hd9))
  all_goals
    have HQ := Lib.hid (KX.fin HZ.out HK.out (fun he => absurd HLI.out.2 he) (r' := imT T s) (Eqv.refl _))
    go_wp2_with fail
    go_ret
    exact HQ.out

set_option maxRecDepth 100000 in
set_option maxHeartbeats 8000000 in
theorem row_imported (hC : TokC T) (P : St → Prop) (sub : St → RT) (most : Nat) (hmost : most ≤ 100) (hS : SubI b bb T D n P 38 sub) (hI : ∀ s, s.inn = false → (sub s).2.inn = false) (ws : List (List UInt8)) (hn : ws.length ≤ 100) (hP : ∀ s, s.inn = false → atQ T ws s = true → P s) (hl : ∀ s, atQ T ws s = true → s.i < (sub s).2.i) {A0 : Nat → Prop} {vn0 : Value} {w0 w : World} {s : St} {N : List Nd} {vn v : Value} {L : List (Value × Th)} (hk : KX b bb T D n A0 vn0 w0 w s s.i N vn L) (hm : (v, Th.strs ws) ∈ L) (hi : s.inn = false) :
    Calls Tryz.prog 37 #[.pointer (some ⟨b, 0, none⟩), .int .i64 (most : Int), .func (.func 38) #[] #[], v] w fun e w' => CLPost b bb T D n 0 A0 vn0 w0 s (rowP T (atQ T ws) sub most (fuelQ T s) 0 ([], s)) N L e w' ∧ (rowP T (atQ T ws) sub most (fuelQ T s) 0 ([], s)).2.inn = false := by
  have HCC := Lib.hid hC; have HS := Lib.hid hS; have HI := Lib.hid hI; have HM := Lib.hid hm; have HWN := Lib.hid hn; have HPP := Lib.hid hP; have HLS := Lib.hid hl; have HMO := Lib.hid hmost
  have HK := Lib.hid hk
  have HIN := Lib.hid hi
  obtain ⟨R, hR⟩ : ∃ R, rowP T (atQ T ws) sub most (fuelQ T s) 0 ([], s) = R := ⟨_, rfl⟩
  have HST : Hid (LeftM T (atQ T ws) sub most R 0 ([], s)) := Lib.hid ⟨_, Nat.le_refl _, hR⟩
  rw [hR]
  clear hC hS hI hm hn hP hl hk hi hR
  go_enter Tryz.func37, Tryz.ntmps37
  go_wp2_with fail
  go_loopw [9] (fun kv wr => ∃ (k : Nat) (r : RT) (N' : List Nd) (vn' : Value) (vs : List Int) (p : Option Addr) (c : Nat), kv = .slice p k c ∧ Hid (vs.length = k) ∧ Hid (k ≤ most) ∧ Hid (KX b bb T D n A0 vn0 w0 wr r.2 r.2.i N' vn' ((.slice p k c, .ints vs) :: L)) ∧ Hid (OutL 0 N s r N' vs) ∧ Hid (LeftM T (atQ T ws) sub most R k r) ∧ Hid (s.e ≠ 0 → r.2.e ≠ 0) ∧ Hid (r.2.inn = false)) (fun _ wr => T.length - uOf wr bb)
  case atStart => exact ⟨0, ([], s), N, vn, [], none, 0, rfl, Lib.hid rfl, Lib.hid (Nat.zero_le _), Lib.hid HK.out.nilS, Lib.hid (OutL.nil N s), HST, Lib.hid (fun h => h), HIN⟩
  case round =>
    clear HK HST HIN
    obtain ⟨k, r, N', vn', vs, p, c, rfl, HVS, HKM, HK, HA, HL, HDD, HIN⟩ := hrel
    have HKR : Hid (KX b bb T D n A0 vn0 w0 wr r.2 r.2.i N' vn' ((.slice p k c, .ints vs) :: L)) := HK
    go_wp2_with fail
    refine (KX.at HK.out (List.mem_cons_of_mem _ HM.out) HWN.out).mono ?_
    rintro e w2 ⟨rfl, hk⟩
    have HK := Lib.hid hk
    obtain ⟨a, ha⟩ : ∃ a, atQ T ws r.2 = a := ⟨_, rfl⟩
    rw [ha]
    have HV := Lib.hid ha
    clear hk ha
    cases a
    · have HE := Lib.hid (HL.out.stop HV.out)
      go_wp2_with fail
      go_ret
      rw [HE.out]
      exact ⟨⟨_, vs, N', vn', rfl, HK.out, HA.out, HDD.out, by have := HVS.out; have := HKM.out; have := HMO.out; omega⟩, HIN.out⟩
    · by_cases hkm : k = most
      · have d1 : ((k : Int) == (most : Int)) = true := by rw [hkm]; simp
        have d1' : (k == most) = true := by rw [hkm]; simp
        have HE : Hid (R = (r.1, failQ T 15 r.2)) := Lib.hid (by have h9 := HL.out; rw [hkm] at h9; exact h9.full HV.out)
        clear hkm
        go_wp2_with fail
        refine (HK.out.fail 15 (by decide)).mono ?_
        rintro e w3 ⟨v9, N9, vn9, rfl, hk9, ho9, hd9⟩
        have HK := Lib.hid hk9; have HA := Lib.hid (HA.out.app ho9.out hd9); have HDD := Lib.hid (fun h => hd9 (HDD.out h))
        clear hk9 ho9 hd9
        go_wp2_with fail
        go_ret
        rw [HE.out]
        exact ⟨⟨_, vs, N9, vn9, rfl, HK.out, ⟨fun e => absurd e (fail_e T (by decide) _), HA.out.2⟩, HDD.out, by have := HVS.out; have := HKM.out; have := HMO.out; omega⟩, (fail_keep T 15 r.2 r.1).inn.trans HIN.out⟩
      · have d1 : ((k : Int) == (most : Int)) = false := beq_eq_false_iff_ne.2 (by omega)
        have d1' : (k == most) = false := beq_eq_false_iff_ne.2 hkm
        have HNX := Lib.hid (HL.out.next HV.out hkm HK.out.ok (HLS.out _ HV.out))
        have HKK : Hid (k + 1 ≤ most) := Lib.hid (by have := HKM.out; omega)
        clear hkm
        go_wp2_with fail
        refine (HK.out.sub HS.out (HPP.out _ HIN.out HV.out)).mono ?_
        rintro e w3 ⟨v9, N9, vn9, rfl, hk9, ho9, hd9⟩
        have HK := Lib.hid hk9; have HA := Lib.hid (HA.out.app ho9.out hd9); have HDD := Lib.hid (fun h => hd9 (HDD.out h)); have HIN := Lib.hid (HI.out _ HIN.out)
        obtain ⟨l9, hl9⟩ : ∃ l9, vs ++ [v9] = l9 := ⟨_, rfl⟩
        have HE9 := Lib.hid hl9
        have HLN : Hid (l9.length = k + 1) := Lib.hid (by rw [← hl9, List.length_append, HVS.out]; rfl)
        rw [hl9] at HA
        clear hk9 ho9 hd9 hl9
        go_wp2_with (at_builtin; go_loud (refine wpList_kx rfl _ _ rfl (HK.out.ints1 v9) (List.sublist_cons_self _ _) rfl rfl (l2 := [v9]) rfl (vat1 _ _) (by have := HVS.out; have := HKM.out; have := HMO.out; omega) (by simp) ?_))
        intro kv2 w4 hk4
        rw [HE9.out] at hk4
        obtain ⟨p2, c2, rfl, -, -, -⟩ := hk4.list (List.mem_cons_self ..)
        rw [HLN.out] at hk4 ⊢
        have HK := Lib.hid hk4
        have HME : Hid (T.length - uOf w4 bb < T.length - uOf wr bb) := Lib.hid (by rw [hk4.used, HKR.out.used]; have h5 := HLS.out _ HV.out; have h6 := HKR.out.ok; have h7 := hk4.ok; omega)
        clear hk4
        go_wp2_with fail
        go_roundw
        case rel => exact ⟨k + 1, (r.1 ++ (sub r.2).1, (sub r.2).2), N9, vn9, l9, p2, c2, rfl, HLN, HKK, HK, Lib.hid HA.out, HNX, HDD, HIN⟩
        case measure => exact HME.out

set_option maxRecDepth 100000 in
set_option maxHeartbeats 8000000 in
theorem row_definition (hC : TokC T) (P : St → Prop) (sub : St → RT) (most : Nat) (hmost : most ≤ 100) (hS : SubI b bb T D n P 39 sub) (hI : ∀ s, s.inn = false → (sub s).2.inn = false) (ws : List (List UInt8)) (hn : ws.length ≤ 100) (hP : ∀ s, s.inn = false → atQ T ws s = true → P s) (hl : ∀ s, atQ T ws s = true → s.i < (sub s).2.i) {A0 : Nat → Prop} {vn0 : Value} {w0 w : World} {s : St} {N : List Nd} {vn v : Value} {L : List (Value × Th)} (hk : KX b bb T D n A0 vn0 w0 w s s.i N vn L) (hm : (v, Th.strs ws) ∈ L) (hi : s.inn = false) :
    Calls Tryz.prog 37 #[.pointer (some ⟨b, 0, none⟩), .int .i64 (most : Int), .func (.func 39) #[] #[], v] w fun e w' => CLPost b bb T D n 0 A0 vn0 w0 s (rowP T (atQ T ws) sub most (fuelQ T s) 0 ([], s)) N L e w' ∧ (rowP T (atQ T ws) sub most (fuelQ T s) 0 ([], s)).2.inn = false := by
  have HCC := Lib.hid hC; have HS := Lib.hid hS; have HI := Lib.hid hI; have HM := Lib.hid hm; have HWN := Lib.hid hn; have HPP := Lib.hid hP; have HLS := Lib.hid hl; have HMO := Lib.hid hmost
  have HK := Lib.hid hk
  have HIN := Lib.hid hi
  obtain ⟨R, hR⟩ : ∃ R, rowP T (atQ T ws) sub most (fuelQ T s) 0 ([], s) = R := ⟨_, rfl⟩
  have HST : Hid (LeftM T (atQ T ws) sub most R 0 ([], s)) := Lib.hid ⟨_, Nat.le_refl _, hR⟩
  rw [hR]
  clear hC hS hI hm hn hP hl hk hi hR
  go_enter Tryz.func37, Tryz.ntmps37
  go_wp2_with fail
  go_loopw [9] (fun kv wr => ∃ (k : Nat) (r : RT) (N' : List Nd) (vn' : Value) (vs : List Int) (p : Option Addr) (c : Nat), kv = .slice p k c ∧ Hid (vs.length = k) ∧ Hid (k ≤ most) ∧ Hid (KX b bb T D n A0 vn0 w0 wr r.2 r.2.i N' vn' ((.slice p k c, .ints vs) :: L)) ∧ Hid (OutL 0 N s r N' vs) ∧ Hid (LeftM T (atQ T ws) sub most R k r) ∧ Hid (s.e ≠ 0 → r.2.e ≠ 0) ∧ Hid (r.2.inn = false)) (fun _ wr => T.length - uOf wr bb)
  case atStart => exact ⟨0, ([], s), N, vn, [], none, 0, rfl, Lib.hid rfl, Lib.hid (Nat.zero_le _), Lib.hid HK.out.nilS, Lib.hid (OutL.nil N s), HST, Lib.hid (fun h => h), HIN⟩
  case round =>
    clear HK HST HIN
    obtain ⟨k, r, N', vn', vs, p, c, rfl, HVS, HKM, HK, HA, HL, HDD, HIN⟩ := hrel
    have HKR : Hid (KX b bb T D n A0 vn0 w0 wr r.2 r.2.i N' vn' ((.slice p k c, .ints vs) :: L)) := HK
    go_wp2_with fail
    refine (KX.at HK.out (List.mem_cons_of_mem _ HM.out) HWN.out).mono ?_
    rintro e w2 ⟨rfl, hk⟩
    have HK := Lib.hid hk
    obtain ⟨a, ha⟩ : ∃ a, atQ T ws r.2 = a := ⟨_, rfl⟩
    rw [ha]
    have HV := Lib.hid ha
    clear hk ha
    cases a
    · have HE := Lib.hid (HL.out.stop HV.out)
      go_wp2_with fail
      go_ret
      rw [HE.out]
      exact ⟨⟨_, vs, N', vn', rfl, HK.out, HA.out, HDD.out, by have := HVS.out; have := HKM.out; have := HMO.out; omega⟩, HIN.out⟩
    · by_cases hkm : k = most
      · have d1 : ((k : Int) == (most : Int)) = true := by rw [hkm]; simp
        have d1' : (k == most) = true := by rw [hkm]; simp
        have HE : Hid (R = (r.1, failQ T 15 r.2)) := Lib.hid (by have h9 := HL.out; rw [hkm] at h9; exact h9.full HV.out)
        clear hkm
        go_wp2_with fail
        refine (HK.out.fail 15 (by decide)).mono ?_
        rintro e w3 ⟨v9, N9, vn9, rfl, hk9, ho9, hd9⟩
        have HK := Lib.hid hk9; have HA := Lib.hid (HA.out.app ho9.out hd9); have HDD := Lib.hid (fun h => hd9 (HDD.out h))
        clear hk9 ho9 hd9
        go_wp2_with fail
        go_ret
        rw [HE.out]
        exact ⟨⟨_, vs, N9, vn9, rfl, HK.out, ⟨fun e => absurd e (fail_e T (by decide) _), HA.out.2⟩, HDD.out, by have := HVS.out; have := HKM.out; have := HMO.out; omega⟩, (fail_keep T 15 r.2 r.1).inn.trans HIN.out⟩
      · have d1 : ((k : Int) == (most : Int)) = false := beq_eq_false_iff_ne.2 (by omega)
        have d1' : (k == most) = false := beq_eq_false_iff_ne.2 hkm
        have HNX := Lib.hid (HL.out.next HV.out hkm HK.out.ok (HLS.out _ HV.out))
        have HKK : Hid (k + 1 ≤ most) := Lib.hid (by have := HKM.out; omega)
        clear hkm
        go_wp2_with fail
        refine (HK.out.sub HS.out (HPP.out _ HIN.out HV.out)).mono ?_
        rintro e w3 ⟨v9, N9, vn9, rfl, hk9, ho9, hd9⟩
        have HK := Lib.hid hk9; have HA := Lib.hid (HA.out.app ho9.out hd9); have HDD := Lib.hid (fun h => hd9 (HDD.out h)); have HIN := Lib.hid (HI.out _ HIN.out)
        obtain ⟨l9, hl9⟩ : ∃ l9, vs ++ [v9] = l9 := ⟨_, rfl⟩
        have HE9 := Lib.hid hl9
        have HLN : Hid (l9.length = k + 1) := Lib.hid (by rw [← hl9, List.length_append, HVS.out]; rfl)
        rw [hl9] at HA
        clear hk9 ho9 hd9 hl9
        go_wp2_with (at_builtin; go_loud (refine wpList_kx rfl _ _ rfl (HK.out.ints1 v9) (List.sublist_cons_self _ _) rfl rfl (l2 := [v9]) rfl (vat1 _ _) (by have := HVS.out; have := HKM.out; have := HMO.out; omega) (by simp) ?_))
        intro kv2 w4 hk4
        rw [HE9.out] at hk4
        obtain ⟨p2, c2, rfl, -, -, -⟩ := hk4.list (List.mem_cons_self ..)
        rw [HLN.out] at hk4 ⊢
        have HK := Lib.hid hk4
        have HME : Hid (T.length - uOf w4 bb < T.length - uOf wr bb) := Lib.hid (by rw [hk4.used, HKR.out.used]; have h5 := HLS.out _ HV.out; have h6 := HKR.out.ok; have h7 := hk4.ok; omega)
        clear hk4
        go_wp2_with fail
        go_roundw
        case rel => exact ⟨k + 1, (r.1 ++ (sub r.2).1, (sub r.2).2), N9, vn9, l9, p2, c2, rfl, HLN, HKK, HK, Lib.hid HA.out, HNX, HDD, HIN⟩
        case measure => exact HME.out
--TAIL
end
end Go.Proofs.YthclkbaankjbiaaGreatDoor
