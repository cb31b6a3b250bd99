/- Lemmas. -/
import Derived.Test.YtddccnpohpaofaaGreatDoorP28
set_option linter.unusedVariables false
set_option linter.unusedSimpArgs false
namespace Go.Proofs.YtddccnpohpaofaaGreatDoor
open Go.RowKit

/-- How many tokens are used. -/
def uOf (w : World) (bb : Nat) : Nat := match w.cell? ⟨bb, 1, none⟩ with
  | some (.int _ x) => x.toNat
  | _ => 0
theorem KX.used {b bb : Nat} {T : List Tok} {D n : Nat} {A0 : Nat → Prop} {vn0 : Value} {w0 w : World} {s : St} {u : Nat} {N : List Nd} {vn : Value} {L : List (Value × Th)} (h : KX b bb T D n A0 vn0 w0 w s u N vn L) : uOf w bb = u := by
  obtain ⟨A, h1, -⟩ := h
  obtain ⟨pt, ct, K, hB, -⟩ := h1.bld
  unfold uOf; rw [(cells3' hB.box).2.1]; rfl
def cmpT (T : List Tok) (D n : Nat) (nt : NxT) (s : St) : RT := if isCmp T (sumT T D n nt s).2 = true then ([.nd 10 ((sumT T D n nt s).1 ++ (leafT T (sumT T D n nt s).2).1 ++ (sumT T D n nt (leafT T (sumT T D n nt s).2).2).1)], (sumT T D n nt (leafT T (sumT T D n nt s).2).2).2) else sumT T D n nt s
theorem not_cmp {T : List Tok} {D n : Nat} {nt : NxT} {s : St} (h : isQ T [110, 111, 116] s = false) : notT T D n nt s = cmpT T D n nt s := by unfold notT cmpT; rw [if_neg (by rw [h]; decide)]

section
variable (b bb : Nat) (T : List Tok) (D n : Nat)

set_option maxRecDepth 100000 in
set_option maxHeartbeats 8000000 in
theorem chain_conjunction (hC : TokC T) (sub : St → RT) (hS : SubI b bb T D n (fun _ => True) 108 sub) (hG : ∀ s, Good T s (sub s)) (ws : List (List UInt8)) (hn : ws.length ≤ 100) (hw : ∀ x ∈ ws, x ∈ KS) {A0 : Nat → Prop} {vn0 : Value} {w0 w : World} {s : St} {N : List Nd} {vn v : Value} {L : List (Value × Th)} (hk : KX b bb T D n A0 vn0 w0 w s s.i N vn L) (hm : (v, Th.strs ws) ∈ L) (hN : N.length ≤ 2 * s.i) :
    Calls Tryz.prog 107 #[.pointer (some ⟨b, 0, none⟩), .func (.func 108) #[] #[], v] w (CPost b bb T D n 0 A0 vn0 w0 s (rwT T (atQ T ws) sub (fuelQ T (sub s).2) (sub s)) N L) := by
  have HCC := Lib.hid hC; have HS := Lib.hid hS; have HG := Lib.hid hG; have HM := Lib.hid hm; have HWN := Lib.hid hn
  have HKEY := Lib.hid (keys_of hC hw)
  have HK := Lib.hid hk; have HFEW := Lib.hid hN
  have HST := Lib.hid (LeftR.start T (atQ T ws) sub s)
  obtain ⟨R, hR⟩ : ∃ R, rwT T (atQ T ws) sub (fuelQ T (sub s).2) (sub s) = R := ⟨_, rfl⟩
  rw [hR] at HST ⊢
  clear hC hS hG hm hn hw hk hN hR
  go_enter Tryz.func107, Tryz.ntmps107
  go_wp2_with fail
  refine (HK.out.sub HS.out trivial).mono ?_
  rintro e w1 ⟨x1, N1, vn1, rfl, hk1, ho1, hd1⟩
  have HK1 := Lib.hid hk1; have HO1 := Lib.hid ho1; have HD1 := Lib.hid hd1
  clear hk1 ho1 hd1 HK
  go_wp2_with fail
  go_loopw [7] (fun xv wr => ∃ (r : RT) (N' : List Nd) (vn' : Value) (x : Int), xv = .int .i64 x ∧ Hid (OutD 0 N s r N' [x]) ∧ Hid (KX b bb T D n A0 vn0 w0 wr r.2 r.2.i N' vn' L) ∧ Hid (LeftR T (atQ T ws) sub R r) ∧ Hid (s.e ≠ 0 → r.2.e ≠ 0)) (fun _ wr => T.length - uOf wr bb)
  case atStart => exact ⟨_, _, _, _, rfl, HO1, HK1, HST, HD1⟩
  case round =>
    clear HK1 HO1 HD1 HST
    obtain ⟨r, N', vn', x, rfl, HO, HK, HL, HDD⟩ := hrel
    have HKR : Hid (KX b bb T D n A0 vn0 w0 wr r.2 r.2.i N' vn' L) := HK
    go_wp2_with fail
    refine (KX.at HK.out HM.out HWN.out).mono ?_
    rintro e w2 ⟨rfl, hk⟩
    have HK := Lib.hid hk
    obtain ⟨a, ha⟩ : ∃ a, atQ T ws r.2 = a := ⟨_, rfl⟩
    rw [ha]
    have HV := Lib.hid ha
    clear hk ha
    cases a
    · have HE := Lib.hid (HL.out.stop HV.out)
      go_wp2_with fail
      go_ret
      rw [HE.out]
      exact ⟨x, N', vn', rfl, HK.out, HO.out, HDD.out⟩
    · have HLI := Lib.hid (HKEY.out _ HV.out)
      have HA := Lib.hid HO.out.out
      have HNX := Lib.hid (HL.out.next HV.out HLI.out.1 HK.out.ok (HG.out _).mono)
      go_wp2_with fail
      have HK := Lib.hid HK.out.drew
      go_region_held3 (fun w' => w'.cell? ⟨b, 0, none⟩ = some (.pointer (some ⟨bb, 0, none⟩))) (first | with_reducible exact HK.out.cell | with_reducible exact (HK.out.alloc _).cell | with_reducible exact ((HK.out.alloc _).alloc _).cell | with_reducible exact (((HK.out.alloc _).alloc _).alloc _).cell)
        (first
          | (go_at_call 76; (first | with_reducible refine (HK.out.take HCC.out HLI.out.1 HLI.out.2).mono ?_ | with_reducible refine ((HK.out.strs1 _ _).take HCC.out HLI.out.1 HLI.out.2).mono ?_ | with_reducible refine (((HK.out.strs1 _ _).strs1 _ _).take HCC.out HLI.out.1 HLI.out.2).mono ?_); rintro e w9 ⟨v9, N9, vn9, rfl, hk9, ho9, hd9⟩; have HK := Lib.hid hk9; have HD := Lib.hid (OutD.app HA.out ho9 hd9); have HA := Lib.hid HD.out.out; clear hk9 ho9 hd9)
          | (go_at_call 108; (first | with_reducible refine (HK.out.sub HS.out trivial).mono ?_ | with_reducible refine ((HK.out.strs1 _ _).sub HS.out trivial).mono ?_ | with_reducible refine (((HK.out.strs1 _ _).strs1 _ _).sub HS.out trivial).mono ?_); rintro e w9 ⟨v9, N9, vn9, rfl, hk9, ho9, hd9⟩; have HK := Lib.hid hk9; have HD := Lib.hid (OutD.app HA.out ho9 hd9); have HA := Lib.hid HD.out.out; clear hk9 ho9 hd9)
          | (go_at_call 42; have HDW := Lib.hid (HD.out.weak (j := 0 + 1) (by decide)); refine (KX.node (k := 0) (kind := 10) (HK.out.ints3 _ _ _ ) ?_ HCC.out.len HDW.out ?_ HFEW.out ?_).mono ?_; exact List.mem_cons_self ..; rfl; simp; rintro e w9 ⟨v9, N9, vn9, rfl, hk9, ho9⟩; have HK := Lib.hid hk9; have HZ := Lib.hid ho9; clear hk9 ho9))
      all_goals
        have HME : Hid (T.length - uOf w9 bb < T.length - uOf wr bb) := Lib.hid (by rw [HK.out.used, HKR.out.used]; have h5 : r.2.i < (sub (leafT T r.2).2).2.i := HNX.out.2; have h6 := HKR.out.ok; have h7 := HK.out.ok; omega)
        have HDE : Hid (s.e ≠ 0 → (rowS T sub r).2.e ≠ 0) := Lib.hid (fun he => absurd HLI.out.2 (HDD.out he))
        go_wp2_with fail
        go_roundw
        case rel => exact ⟨rowS T sub r, _, _, _, rfl, HZ, Lib.hid (HK.out.few (List.sublist_cons_self _ _)), Lib.hid HNX.out.1, HDE⟩
        case measure => exact HME.out

set_option maxRecDepth 100000 in
set_option maxHeartbeats 8000000 in
theorem chain_negation (hC : TokC T) (sub : St → RT) (hS : SubI b bb T D n (fun _ => True) 125 sub) (hG : ∀ s, Good T s (sub s)) (ws : List (List UInt8)) (hn : ws.length ≤ 100) (hw : ∀ x ∈ ws, x ∈ KS) {A0 : Nat → Prop} {vn0 : Value} {w0 w : World} {s : St} {N : List Nd} {vn v : Value} {L : List (Value × Th)} (hk : KX b bb T D n A0 vn0 w0 w s s.i N vn L) (hm : (v, Th.strs ws) ∈ L) (hN : N.length ≤ 2 * s.i) :
    Calls Tryz.prog 107 #[.pointer (some ⟨b, 0, none⟩), .func (.func 125) #[] #[], v] w (CPost b bb T D n 0 A0 vn0 w0 s (rwT T (atQ T ws) sub (fuelQ T (sub s).2) (sub s)) N L) := by
  have HCC := Lib.hid hC; have HS := Lib.hid hS; have HG := Lib.hid hG; have HM := Lib.hid hm; have HWN := Lib.hid hn
  have HKEY := Lib.hid (keys_of hC hw)
  have HK := Lib.hid hk; have HFEW := Lib.hid hN
  have HST := Lib.hid (LeftR.start T (atQ T ws) sub s)
  obtain ⟨R, hR⟩ : ∃ R, rwT T (atQ T ws) sub (fuelQ T (sub s).2) (sub s) = R := ⟨_, rfl⟩
  rw [hR] at HST ⊢
  clear hC hS hG hm hn hw hk hN hR
  go_enter Tryz.func107, Tryz.ntmps107
  go_wp2_with fail
  refine (HK.out.sub HS.out trivial).mono ?_
  rintro e w1 ⟨x1, N1, vn1, rfl, hk1, ho1, hd1⟩
  have HK1 := Lib.hid hk1; have HO1 := Lib.hid ho1; have HD1 := Lib.hid hd1
  clear hk1 ho1 hd1 HK
  go_wp2_with fail
  go_loopw [7] (fun xv wr => ∃ (r : RT) (N' : List Nd) (vn' : Value) (x : Int), xv = .int .i64 x ∧ Hid (OutD 0 N s r N' [x]) ∧ Hid (KX b bb T D n A0 vn0 w0 wr r.2 r.2.i N' vn' L) ∧ Hid (LeftR T (atQ T ws) sub R r) ∧ Hid (s.e ≠ 0 → r.2.e ≠ 0)) (fun _ wr => T.length - uOf wr bb)
  case atStart => exact ⟨_, _, _, _, rfl, HO1, HK1, HST, HD1⟩
  case round =>
    clear HK1 HO1 HD1 HST
    obtain ⟨r, N', vn', x, rfl, HO, HK, HL, HDD⟩ := hrel
    have HKR : Hid (KX b bb T D n A0 vn0 w0 wr r.2 r.2.i N' vn' L) := HK
    go_wp2_with fail
    refine (KX.at HK.out HM.out HWN.out).mono ?_
    rintro e w2 ⟨rfl, hk⟩
    have HK := Lib.hid hk
    obtain ⟨a, ha⟩ : ∃ a, atQ T ws r.2 = a := ⟨_, rfl⟩
    rw [ha]
    have HV := Lib.hid ha
    clear hk ha
    cases a
    · have HE := Lib.hid (HL.out.stop HV.out)
      go_wp2_with fail
      go_ret
      rw [HE.out]
      exact ⟨x, N', vn', rfl, HK.out, HO.out, HDD.out⟩
    · have HLI := Lib.hid (HKEY.out _ HV.out)
      have HA := Lib.hid HO.out.out
      have HNX := Lib.hid (HL.out.next HV.out HLI.out.1 HK.out.ok (HG.out _).mono)
      go_wp2_with fail
      have HK := Lib.hid HK.out.drew
      go_region_held3 (fun w' => w'.cell? ⟨b, 0, none⟩ = some (.pointer (some ⟨bb, 0, none⟩))) (first | with_reducible exact HK.out.cell | with_reducible exact (HK.out.alloc _).cell | with_reducible exact ((HK.out.alloc _).alloc _).cell | with_reducible exact (((HK.out.alloc _).alloc _).alloc _).cell)
        (first
          | (go_at_call 76; (first | with_reducible refine (HK.out.take HCC.out HLI.out.1 HLI.out.2).mono ?_ | with_reducible refine ((HK.out.strs1 _ _).take HCC.out HLI.out.1 HLI.out.2).mono ?_ | with_reducible refine (((HK.out.strs1 _ _).strs1 _ _).take HCC.out HLI.out.1 HLI.out.2).mono ?_); rintro e w9 ⟨v9, N9, vn9, rfl, hk9, ho9, hd9⟩; have HK := Lib.hid hk9; have HD := Lib.hid (OutD.app HA.out ho9 hd9); have HA := Lib.hid HD.out.out; clear hk9 ho9 hd9)
          | (go_at_call 125; (first | with_reducible refine (HK.out.sub HS.out trivial).mono ?_ | with_reducible refine ((HK.out.strs1 _ _).sub HS.out trivial).mono ?_ | with_reducible refine (((HK.out.strs1 _ _).strs1 _ _).sub HS.out trivial).mono ?_); rintro e w9 ⟨v9, N9, vn9, rfl, hk9, ho9, hd9⟩; have HK := Lib.hid hk9; have HD := Lib.hid (OutD.app HA.out ho9 hd9); have HA := Lib.hid HD.out.out; clear hk9 ho9 hd9)
          | (go_at_call 42; have HDW := Lib.hid (HD.out.weak (j := 0 + 1) (by decide)); refine (KX.node (k := 0) (kind := 10) (HK.out.ints3 _ _ _ ) ?_ HCC.out.len HDW.out ?_ HFEW.out ?_).mono ?_; exact List.mem_cons_self ..; rfl; simp; rintro e w9 ⟨v9, N9, vn9, rfl, hk9, ho9⟩; have HK := Lib.hid hk9; have HZ := Lib.hid ho9; clear hk9 ho9))
      all_goals
        have HME : Hid (T.length - uOf w9 bb < T.length - uOf wr bb) := Lib.hid (by rw [HK.out.used, HKR.out.used]; have h5 : r.2.i < (sub (leafT T r.2).2).2.i := HNX.out.2; have h6 := HKR.out.ok; have h7 := HK.out.ok; omega)
        have HDE : Hid (s.e ≠ 0 → (rowS T sub r).2.e ≠ 0) := Lib.hid (fun he => absurd HLI.out.2 (HDD.out he))
        go_wp2_with fail
        go_roundw
        case rel => exact ⟨rowS T sub r, _, _, _, rfl, HZ, Lib.hid (HK.out.few (List.sublist_cons_self _ _)), Lib.hid HNX.out.1, HDE⟩
        case measure => exact HME.out

set_option maxRecDepth 100000 in
set_option maxHeartbeats 8000000 in
theorem chain_product (hC : TokC T) (sub : St → RT) (hS : SubI b bb T D n (fun _ => True) 159 sub) (hG : ∀ s, Good T s (sub s)) (ws : List (List UInt8)) (hn : ws.length ≤ 100) (hw : ∀ x ∈ ws, x ∈ KS) {A0 : Nat → Prop} {vn0 : Value} {w0 w : World} {s : St} {N : List Nd} {vn v : Value} {L : List (Value × Th)} (hk : KX b bb T D n A0 vn0 w0 w s s.i N vn L) (hm : (v, Th.strs ws) ∈ L) (hN : N.length ≤ 2 * s.i) :
    Calls Tryz.prog 107 #[.pointer (some ⟨b, 0, none⟩), .func (.func 159) #[] #[], v] w (CPost b bb T D n 0 A0 vn0 w0 s (rwT T (atQ T ws) sub (fuelQ T (sub s).2) (sub s)) N L) := by
  have HCC := Lib.hid hC; have HS := Lib.hid hS; have HG := Lib.hid hG; have HM := Lib.hid hm; have HWN := Lib.hid hn
  have HKEY := Lib.hid (keys_of hC hw)
  have HK := Lib.hid hk; have HFEW := Lib.hid hN
  have HST := Lib.hid (LeftR.start T (atQ T ws) sub s)
  obtain ⟨R, hR⟩ : ∃ R, rwT T (atQ T ws) sub (fuelQ T (sub s).2) (sub s) = R := ⟨_, rfl⟩
  rw [hR] at HST ⊢
  clear hC hS hG hm hn hw hk hN hR
  go_enter Tryz.func107, Tryz.ntmps107
  go_wp2_with fail
  refine (HK.out.sub HS.out trivial).mono ?_
  rintro e w1 ⟨x1, N1, vn1, rfl, hk1, ho1, hd1⟩
  have HK1 := Lib.hid hk1; have HO1 := Lib.hid ho1; have HD1 := Lib.hid hd1
  clear hk1 ho1 hd1 HK
  go_wp2_with fail
  go_loopw [7] (fun xv wr => ∃ (r : RT) (N' : List Nd) (vn' : Value) (x : Int), xv = .int .i64 x ∧ Hid (OutD 0 N s r N' [x]) ∧ Hid (KX b bb T D n A0 vn0 w0 wr r.2 r.2.i N' vn' L) ∧ Hid (LeftR T (atQ T ws) sub R r) ∧ Hid (s.e ≠ 0 → r.2.e ≠ 0)) (fun _ wr => T.length - uOf wr bb)
  case atStart => exact ⟨_, _, _, _, rfl, HO1, HK1, HST, HD1⟩
  case round =>
    clear HK1 HO1 HD1 HST
    obtain ⟨r, N', vn', x, rfl, HO, HK, HL, HDD⟩ := hrel
    have HKR : Hid (KX b bb T D n A0 vn0 w0 wr r.2 r.2.i N' vn' L) := HK
    go_wp2_with fail
    refine (KX.at HK.out HM.out HWN.out).mono ?_
    rintro e w2 ⟨rfl, hk⟩
    have HK := Lib.hid hk
    obtain ⟨a, ha⟩ : ∃ a, atQ T ws r.2 = a := ⟨_, rfl⟩
    rw [ha]
    have HV := Lib.hid ha
    clear hk ha
    cases a
    · have HE := Lib.hid (HL.out.stop HV.out)
      go_wp2_with fail
      go_ret
      rw [HE.out]
      exact ⟨x, N', vn', rfl, HK.out, HO.out, HDD.out⟩
    · have HLI := Lib.hid (HKEY.out _ HV.out)
      have HA := Lib.hid HO.out.out
      have HNX := Lib.hid (HL.out.next HV.out HLI.out.1 HK.out.ok (HG.out _).mono)
      go_wp2_with fail
      have HK := Lib.hid HK.out.drew
      go_region_held3 (fun w' => w'.cell? ⟨b, 0, none⟩ = some (.pointer (some ⟨bb, 0, none⟩))) (first | with_reducible exact HK.out.cell | with_reducible exact (HK.out.alloc _).cell | with_reducible exact ((HK.out.alloc _).alloc _).cell | with_reducible exact (((HK.out.alloc _).alloc _).alloc _).cell)
        (first
          | (go_at_call 76; (first | with_reducible refine (HK.out.take HCC.out HLI.out.1 HLI.out.2).mono ?_ | with_reducible refine ((HK.out.strs1 _ _).take HCC.out HLI.out.1 HLI.out.2).mono ?_ | with_reducible refine (((HK.out.strs1 _ _).strs1 _ _).take HCC.out HLI.out.1 HLI.out.2).mono ?_); rintro e w9 ⟨v9, N9, vn9, rfl, hk9, ho9, hd9⟩; have HK := Lib.hid hk9; have HD := Lib.hid (OutD.app HA.out ho9 hd9); have HA := Lib.hid HD.out.out; clear hk9 ho9 hd9)
          | (go_at_call 159; (first | with_reducible refine (HK.out.sub HS.out trivial).mono ?_ | with_reducible refine ((HK.out.strs1 _ _).sub HS.out trivial).mono ?_ | with_reducible refine (((HK.out.strs1 _ _).strs1 _ _).sub HS.out trivial).mono ?_); rintro e w9 ⟨v9, N9, vn9, rfl, hk9, ho9, hd9⟩; have HK := Lib.hid hk9; have HD := Lib.hid (OutD.app HA.out ho9 hd9); have HA := Lib.hid HD.out.out; clear hk9 ho9 hd9)
          | (go_at_call 42; have HDW := Lib.hid (HD.out.weak (j := 0 + 1) (by decide)); refine (KX.node (k := 0) (kind := 10) (HK.out.ints3 _ _ _ ) ?_ HCC.out.len HDW.out ?_ HFEW.out ?_).mono ?_; exact List.mem_cons_self ..; rfl; simp; rintro e w9 ⟨v9, N9, vn9, rfl, hk9, ho9⟩; have HK := Lib.hid hk9; have HZ := Lib.hid ho9; clear hk9 ho9))
      all_goals
        have HME : Hid (T.length - uOf w9 bb < T.length - uOf wr bb) := Lib.hid (by rw [HK.out.used, HKR.out.used]; have h5 : r.2.i < (sub (leafT T r.2).2).2.i := HNX.out.2; have h6 := HKR.out.ok; have h7 := HK.out.ok; omega)
        have HDE : Hid (s.e ≠ 0 → (rowS T sub r).2.e ≠ 0) := Lib.hid (fun he => absurd HLI.out.2 (HDD.out he))
        go_wp2_with fail
        go_roundw
        case rel => exact ⟨rowS T sub r, _, _, _, rfl, HZ, Lib.hid (HK.out.few (List.sublist_cons_self _ _)), Lib.hid HNX.out.1, HDE⟩
        case measure => exact HME.out

set_option maxRecDepth 100000 in
set_option maxHeartbeats 8000000 in
theorem chain_factor (hC : TokC T) (sub : St → RT) (hS : SubI b bb T D n (fun _ => True) 160 sub) (hG : ∀ s, Good T s (sub s)) (ws : List (List UInt8)) (hn : ws.length ≤ 100) (hw : ∀ x ∈ ws, x ∈ KS) {A0 : Nat → Prop} {vn0 : Value} {w0 w : World} {s : St} {N : List Nd} {vn v : Value} {L : List (Value × Th)} (hk : KX b bb T D n A0 vn0 w0 w s s.i N vn L) (hm : (v, Th.strs ws) ∈ L) (hN : N.length ≤ 2 * s.i) :
    Calls Tryz.prog 107 #[.pointer (some ⟨b, 0, none⟩), .func (.func 160) #[] #[], v] w (CPost b bb T D n 0 A0 vn0 w0 s (rwT T (atQ T ws) sub (fuelQ T (sub s).2) (sub s)) N L) := by
  have HCC := Lib.hid hC; have HS := Lib.hid hS; have HG := Lib.hid hG; have HM := Lib.hid hm; have HWN := Lib.hid hn
  have HKEY := Lib.hid (keys_of hC hw)
  have HK := Lib.hid hk; have HFEW := Lib.hid hN
  have HST := Lib.hid (LeftR.start T (atQ T ws) sub s)
  obtain ⟨R, hR⟩ : ∃ R, rwT T (atQ T ws) sub (fuelQ T (sub s).2) (sub s) = R := ⟨_, rfl⟩
  rw [hR] at HST ⊢
  clear hC hS hG hm hn hw hk hN hR
  go_enter Tryz.func107, Tryz.ntmps107
  go_wp2_with fail
  refine (HK.out.sub HS.out trivial).mono ?_
  rintro e w1 ⟨x1, N1, vn1, rfl, hk1, ho1, hd1⟩
  have HK1 := Lib.hid hk1; have HO1 := Lib.hid ho1; have HD1 := Lib.hid hd1
  clear hk1 ho1 hd1 HK
  go_wp2_with fail
  go_loopw [7] (fun xv wr => ∃ (r : RT) (N' : List Nd) (vn' : Value) (x : Int), xv = .int .i64 x ∧ Hid (OutD 0 N s r N' [x]) ∧ Hid (KX b bb T D n A0 vn0 w0 wr r.2 r.2.i N' vn' L) ∧ Hid (LeftR T (atQ T ws) sub R r) ∧ Hid (s.e ≠ 0 → r.2.e ≠ 0)) (fun _ wr => T.length - uOf wr bb)
  case atStart => exact ⟨_, _, _, _, rfl, HO1, HK1, HST, HD1⟩
  case round =>
    clear HK1 HO1 HD1 HST
    obtain ⟨r, N', vn', x, rfl, HO, HK, HL, HDD⟩ := hrel
    have HKR : Hid (KX b bb T D n A0 vn0 w0 wr r.2 r.2.i N' vn' L) := HK
    go_wp2_with fail
    refine (KX.at HK.out HM.out HWN.out).mono ?_
    rintro e w2 ⟨rfl, hk⟩
    have HK := Lib.hid hk
    obtain ⟨a, ha⟩ : ∃ a, atQ T ws r.2 = a := ⟨_, rfl⟩
    rw [ha]
    have HV := Lib.hid ha
    clear hk ha
    cases a
    · have HE := Lib.hid (HL.out.stop HV.out)
      go_wp2_with fail
      go_ret
      rw [HE.out]
      exact ⟨x, N', vn', rfl, HK.out, HO.out, HDD.out⟩
    · have HLI := Lib.hid (HKEY.out _ HV.out)
      have HA := Lib.hid HO.out.out
      have HNX := Lib.hid (HL.out.next HV.out HLI.out.1 HK.out.ok (HG.out _).mono)
      go_wp2_with fail
      have HK := Lib.hid HK.out.drew
      go_region_held3 (fun w' => w'.cell? ⟨b, 0, none⟩ = some (.pointer (some ⟨bb, 0, none⟩))) (first | with_reducible exact HK.out.cell | with_reducible exact (HK.out.alloc _).cell | with_reducible exact ((HK.out.alloc _).alloc _).cell | with_reducible exact (((HK.out.alloc _).alloc _).alloc _).cell)
        (first
          | (go_at_call 76; (first | with_reducible refine (HK.out.take HCC.out HLI.out.1 HLI.out.2).mono ?_ | with_reducible refine ((HK.out.strs1 _ _).take HCC.out HLI.out.1 HLI.out.2).mono ?_ | with_reducible refine (((HK.out.strs1 _ _).strs1 _ _).take HCC.out HLI.out.1 HLI.out.2).mono ?_); rintro e w9 ⟨v9, N9, vn9, rfl, hk9, ho9, hd9⟩; have HK := Lib.hid hk9; have HD := Lib.hid (OutD.app HA.out ho9 hd9); have HA := Lib.hid HD.out.out; clear hk9 ho9 hd9)
          | (go_at_call 160; (first | with_reducible refine (HK.out.sub HS.out trivial).mono ?_ | with_reducible refine ((HK.out.strs1 _ _).sub HS.out trivial).mono ?_ | with_reducible refine (((HK.out.strs1 _ _).strs1 _ _).sub HS.out trivial).mono ?_); rintro e w9 ⟨v9, N9, vn9, rfl, hk9, ho9, hd9⟩; have HK := Lib.hid hk9; have HD := Lib.hid (OutD.app HA.out ho9 hd9); have HA := Lib.hid HD.out.out; clear hk9 ho9 hd9)
          | (go_at_call 42; have HDW := Lib.hid (HD.out.weak (j := 0 + 1) (by decide)); refine (KX.node (k := 0) (kind := 10) (HK.out.ints3 _ _ _ ) ?_ HCC.out.len HDW.out ?_ HFEW.out ?_).mono ?_; exact List.mem_cons_self ..; rfl; simp; rintro e w9 ⟨v9, N9, vn9, rfl, hk9, ho9⟩; have HK := Lib.hid hk9; have HZ := Lib.hid ho9; clear hk9 ho9))
      all_goals
        have HME : Hid (T.length - uOf w9 bb < T.length - uOf wr bb) := Lib.hid (by rw [HK.out.used, HKR.out.used]; have h5 : r.2.i < (sub (leafT T r.2).2).2.i := HNX.out.2; have h6 := HKR.out.ok; have h7 := HK.out.ok; omega)
        have HDE : Hid (s.e ≠ 0 → (rowS T sub r).2.e ≠ 0) := Lib.hid (fun he => absurd HLI.out.2 (HDD.out he))
        go_wp2_with fail
        go_roundw
        case rel => exact ⟨rowS T sub r, _, _, _, rfl, HZ, Lib.hid (HK.out.few (List.sublist_cons_self _ _)), Lib.hid HNX.out.1, HDE⟩
        case measure => exact HME.out

set_option maxRecDepth 100000 in
set_option maxHeartbeats 4000000 in
theorem product_p (hC : TokC T) (hA : SubI b bb T D n (fun _ => True) 160 (factorT T D n (NT T D n))) : SubI b bb T D n (fun _ => True) 159 (productT T D n (NT T D n)) := by
  intro s N vn A w _ h
  have HG : Hid (∀ s, Good T s (factorT T D n (NT T D n) s)) := Lib.hid (factor_good T D n (nx_good T D (D - n)))
  have HE : Hid (atQ T [[42], [47], [37]] = isMul T) := Lib.hid (funext fun s => by rw [at_any hC (by decide)]; simp [isMul, Bool.or_assoc])
  have HCC := Lib.hid hC; have HSA := Lib.hid hA; have HFEW := Lib.hid h.few
  have HK := Lib.hid (KX.start h)
  clear h hA hC
  go_enter Tryz.func159, Tryz.ntmps159
  go_wp2_with fail
  refine (chain_factor b bb T D n HCC.out _ HSA.out HG.out [[42], [47], [37]] (by decide) (by decide) (HK.out.strs [⟨#[42]⟩, ⟨#[47]⟩, ⟨#[37]⟩] _) (List.mem_cons_self ..) HFEW.out).mono ?_
  rintro e w1 ⟨v9, N9, vn9, rfl, hk9, ho9, hd9⟩
  have HQ := Lib.hid (KX.fin ho9 hk9 hd9 (r' := productT T D n (NT T D n) s) (by rw [HE.out]; exact Eqv.refl _))
  clear hk9 ho9 hd9
  go_wp2_with fail
  go_ret
  exact HQ.out

set_option maxRecDepth 100000 in
set_option maxHeartbeats 4000000 in
theorem sum_p (hC : TokC T) (hA : SubI b bb T D n (fun _ => True) 159 (productT T D n (NT T D n))) : SubI b bb T D n (fun _ => True) 152 (sumT T D n (NT T D n)) := by
  intro s N vn A w _ h
  have HG : Hid (∀ s, Good T s (productT T D n (NT T D n) s)) := Lib.hid (product_good T D n (nx_good T D (D - n)))
  have HE : Hid (atQ T [[43], [45]] = isAdd T) := Lib.hid (funext fun s => by rw [at_any hC (by decide)]; simp [isAdd])
  have HCC := Lib.hid hC; have HSA := Lib.hid hA; have HFEW := Lib.hid h.few
  have HK := Lib.hid (KX.start h)
  clear h hA hC
  go_enter Tryz.func152, Tryz.ntmps152
  go_wp2_with fail
  refine (chain_product b bb T D n HCC.out _ HSA.out HG.out [[43], [45]] (by decide) (by decide) (HK.out.strs [⟨#[43]⟩, ⟨#[45]⟩] _) (List.mem_cons_self ..) HFEW.out).mono ?_
  rintro e w1 ⟨v9, N9, vn9, rfl, hk9, ho9, hd9⟩
  have HQ := Lib.hid (KX.fin ho9 hk9 hd9 (r' := sumT T D n (NT T D n) s) (by rw [HE.out]; exact Eqv.refl _))
  clear hk9 ho9 hd9
  go_wp2_with fail
  go_ret
  exact HQ.out

set_option maxRecDepth 100000 in
set_option maxHeartbeats 4000000 in
theorem conjunction_p (hC : TokC T) (hA : SubI b bb T D n (fun _ => True) 125 (notT T D n (NT T D n))) : SubI b bb T D n (fun _ => True) 108 (andT T D n (NT T D n)) := by
  intro s N vn A w _ h
  have HG : Hid (∀ s, Good T s (notT T D n (NT T D n) s)) := Lib.hid (not_good T D n (nx_good T D (D - n)))
  have HE : Hid (atQ T [[38, 38]] = isQ T [38, 38]) := Lib.hid (funext fun s => by rw [at_any hC (by decide)]; simp [])
  have HCC := Lib.hid hC; have HSA := Lib.hid hA; have HFEW := Lib.hid h.few
  have HK := Lib.hid (KX.start h)
  clear h hA hC
  go_enter Tryz.func108, Tryz.ntmps108
  go_wp2_with fail
  refine (chain_negation b bb T D n HCC.out _ HSA.out HG.out [[38, 38]] (by decide) (by decide) (HK.out.strs [⟨#[38, 38]⟩] _) (List.mem_cons_self ..) HFEW.out).mono ?_
  rintro e w1 ⟨v9, N9, vn9, rfl, hk9, ho9, hd9⟩
  have HQ := Lib.hid (KX.fin ho9 hk9 hd9 (r' := andT T D n (NT T D n) s) (by rw [HE.out]; exact Eqv.refl _))
  clear hk9 ho9 hd9
  go_wp2_with fail
  go_ret
  exact HQ.out

set_option maxRecDepth 100000 in
set_option maxHeartbeats 4000000 in
theorem disjunction_p (hC : TokC T) (hA : SubI b bb T D n (fun _ => True) 108 (andT T D n (NT T D n))) : SubI b bb T D n (fun _ => True) 74 (orT T D n (NT T D n)) := by
  intro s N vn A w _ h
  have HG : Hid (∀ s, Good T s (andT T D n (NT T D n) s)) := Lib.hid (and_good T D n (nx_good T D (D - n)))
  have HE : Hid (atQ T [[124, 124]] = isQ T [124, 124]) := Lib.hid (funext fun s => by rw [at_any hC (by decide)]; simp [])
  have HCC := Lib.hid hC; have HSA := Lib.hid hA; have HFEW := Lib.hid h.few
  have HK := Lib.hid (KX.start h)
  clear h hA hC
  go_enter Tryz.func74, Tryz.ntmps74
  go_wp2_with fail
  refine (chain_conjunction b bb T D n HCC.out _ HSA.out HG.out [[124, 124]] (by decide) (by decide) (HK.out.strs [⟨#[124, 124]⟩] _) (List.mem_cons_self ..) HFEW.out).mono ?_
  rintro e w1 ⟨v9, N9, vn9, rfl, hk9, ho9, hd9⟩
  have HQ := Lib.hid (KX.fin ho9 hk9 hd9 (r' := orT T D n (NT T D n) s) (by rw [HE.out]; exact Eqv.refl _))
  clear hk9 ho9 hd9
  go_wp2_with fail
  go_ret
  exact HQ.out

set_option maxRecDepth 100000 in
set_option maxHeartbeats 8000000 in
theorem comparison_p (hC : TokC T) (hA : SubI b bb T D n (fun _ => True) 152 (sumT T D n (NT T D n))) : SubI b bb T D n (fun _ => True) 140 (cmpT T D n (NT T D n)) := by
  intro s N vn A w _ h
  have HE : Hid (atQ T [[61], [60, 62], [60], [60, 61], [62], [62, 61]] = isCmp T) := Lib.hid (funext fun s => by rw [at_any hC (by decide)]; simp [isCmp, Bool.or_assoc])
  have HCC := Lib.hid hC; have HSA := Lib.hid hA; have HFEW := Lib.hid h.few
  have HK := Lib.hid (KX.start h)
  clear h hA hC
  go_enter Tryz.func140, Tryz.ntmps140
  go_wp2_with fail
  refine (HK.out.sub HSA.out trivial).mono ?_
  rintro e w1 ⟨x1, N1, vn1, rfl, hk1, ho1, hd1⟩
  have HK := Lib.hid hk1; have HO := Lib.hid ho1; have HDD := Lib.hid hd1
  have HA := Lib.hid ho1.out
  clear hk1 ho1 hd1
  go_wp2_with fail
  refine (KX.at (ws := [[61], [60, 62], [60], [60, 61], [62], [62, 61]]) (HK.out.strs [⟨#[61]⟩, ⟨#[60, 62]⟩, ⟨#[60]⟩, ⟨#[60, 61]⟩, ⟨#[62]⟩, ⟨#[62, 61]⟩] _) (List.mem_cons_self ..) (by decide)).mono ?_
  rintro e w2 ⟨rfl, hk⟩
  have HK := Lib.hid (hk.nils)
  obtain ⟨a, ha⟩ : ∃ a, atQ T [[61], [60, 62], [60], [60, 61], [62], [62, 61]] (sumT T D n (NT T D n) s).2 = a := ⟨_, rfl⟩
  rw [ha]
  have HV := Lib.hid (show isCmp T (sumT T D n (NT T D n) s).2 = a from by rw [← HE.out]; exact ha)
  clear hk ha
  cases a
  · have HQ := Lib.hid (KX.fin HO.out HK.out HDD.out (r' := cmpT T D n (NT T D n) s) (by unfold cmpT; rw [if_neg (by rw [HV.out]; decide)]; exact Eqv.refl _))
    go_wp2_with fail
    go_ret
    exact HQ.out
  · have HLI := Lib.hid (show (tokQ T (sumT T D n (NT T D n) s).2).kind ≠ 5 ∧ (sumT T D n (NT T D n) s).2.e = 0 from keys_of HCC.out (ws := [[61], [60, 62], [60], [60, 61], [62], [62, 61]]) (by decide) _ (by rw [HE.out]; exact HV.out))
    go_wp2_with fail
    have HK := Lib.hid HK.out.drew
    go_region_held3 (fun w' => w'.cell? ⟨b, 0, none⟩ = some (.pointer (some ⟨bb, 0, none⟩))) (first | with_reducible exact HK.out.cell | with_reducible exact (HK.out.alloc _).cell | with_reducible exact ((HK.out.alloc _).alloc _).cell | with_reducible exact (((HK.out.alloc _).alloc _).alloc _).cell)
      (first
        | (go_at_call 76; (first | with_reducible refine (HK.out.take HCC.out HLI.out.1 HLI.out.2).mono ?_ | with_reducible refine ((HK.out.strs1 _ _).take HCC.out HLI.out.1 HLI.out.2).mono ?_ | with_reducible refine (((HK.out.strs1 _ _).strs1 _ _).take HCC.out HLI.out.1 HLI.out.2).mono ?_); rintro e w9 ⟨v9, N9, vn9, rfl, hk9, ho9, hd9⟩; have HK := Lib.hid hk9; have HD := Lib.hid (OutD.app HA.out ho9 hd9); have HA := Lib.hid HD.out.out; clear hk9 ho9 hd9)
        | (go_at_call 152; (first | with_reducible refine (HK.out.sub HSA.out trivial).mono ?_ | with_reducible refine ((HK.out.strs1 _ _).sub HSA.out trivial).mono ?_ | with_reducible refine (((HK.out.strs1 _ _).strs1 _ _).sub HSA.out trivial).mono ?_); rintro e w9 ⟨v9, N9, vn9, rfl, hk9, ho9, hd9⟩; have HK := Lib.hid hk9; have HD := Lib.hid (OutD.app HA.out ho9 hd9); have HA := Lib.hid HD.out.out; clear hk9 ho9 hd9)
        | (go_at_call 42; have HDW := Lib.hid (HD.out.weak (j := 0 + 1) (by decide)); refine (KX.node (k := 0) (kind := 10) (HK.out.ints3 _ _ _ ) ?_ HCC.out.len HDW.out ?_ HFEW.out ?_).mono ?_; exact List.mem_cons_self ..; rfl; simp; rintro e w9 ⟨v9, N9, vn9, rfl, hk9, ho9⟩; have HK := Lib.hid hk9; have HZ := Lib.hid ho9; clear hk9 ho9))
    all_goals
      have HQ := Lib.hid (KX.fin HZ.out HK.out (fun he => absurd HLI.out.2 (HDD.out he)) (r' := cmpT T D n (NT T D n) s) (by rw [show cmpT T D n (NT T D n) s = _ from if_pos HV.out]; exact Eqv.refl _))
      go_wp2_with fail
      go_ret
      exact HQ.out
end
end Go.Proofs.YtddccnpohpaofaaGreatDoor
