/- The document's Expr, of any node that the parser makes of an expression: the walk. -/
import Derived.StillTailTactics
import Derived.Deep.RegionHeld3
import Derived.Test.YtdilncefhfbgeaaGreatDoorARmade
set_option linter.unusedVariables false
set_option linter.unusedSimpArgs false
namespace Go.Proofs.YtdilncefhfbgeaaGreatDoor
open Go.RowKit

set_option maxRecDepth 100000 in
set_option maxHeartbeats 64000000 in
theorem rexpr_13 (T : List Tok) (N : List Nd) (K : Nat → Option Addr × Nat) (pt pn : Option Addr) (ct cn m : Nat) (hIH : RIH T N K pt pn ct cn m) (hT : T.length ≤ 40000) (hN : N.length ≤ 150000)
    (n : Nat) (ks : List Int) (kd : Nat) (l : List Tr) (hx : N[n]? = some ⟨(kd : Int), -1, ks⟩) (hkt : KT N n ks l) (hm : szRs l ≤ m) (hll : l.length ≤ 150000) (hko : kOks l) (hlv : ∀ z ∈ lvTs l, z < T.length) (hwe : WEs T l) (hs : ShE T kd l) (hk : kd = 13)
    (w : World) (ht : ToksAt w pt (T.map toI)) (hw : NodesAt w pn N K) :
    Calls Tryz.prog 28 #[.agg #[.slice pt T.length ct, .slice pn N.length cn], .int .i64 (n : Int)] w (RExPost (axT T (.nd kd l)) w) := by
  have HM := Lib.hid (fun (op ps : Nat) W h1 h2 => made_c T N K pt pn ct cn m hIH hT hN n ks (kd : Int) l hx hkt hm hll hko (good_kids hwe hko hlv) op ps W h1 h2)
  have HIX := Lib.hid hIH; have HKT := Lib.hid hkt; have HKO := Lib.hid hko; have HLV := Lib.hid hlv; have HWE := Lib.hid hwe; have HSH := Lib.hid hs; have HSZ := Lib.hid hm; have HTL := Lib.hid hT; have HNL := Lib.hid hN
  obtain ⟨k0, ak, y1, y2, ap, hk0, hf0, hL0⟩ := leaf_first (K := K) (pt := pt) (pn := pn) (ct := ct) (cn := cn) hT hN hkt hko hlv (by cases hs <;> simp)
  have HF0 := Lib.hid hf0
  have HL0 := Lib.hid hL0
  obtain ⟨kI, hkI⟩ : ∃ kI : Int, (kd : Int) = kI := ⟨_, rfl⟩
  have HKI := Lib.hid hkI
  rw [hkI] at hx
  obtain ⟨g, off, rfl, hgl, c0, c1, c2⟩ := node_at hw hx
  have HKA := Lib.hid (hw.2 n _ hx)
  have hn : n < N.length := (List.getElem?_eq_some_iff.1 hx).1
  have HW := Lib.hid hw; have HT := Lib.hid ht
  have HKL := Lib.hid hkt.1
  obtain ⟨M, hM⟩ : ∃ M, N.length = M := ⟨_, rfl⟩
  obtain ⟨tm, htm⟩ : ∃ tm, T.length = tm := ⟨_, rfl⟩
  obtain ⟨kl, hkl2⟩ : ∃ kl, ks.length = kl := ⟨_, rfl⟩
  have hl0 : 0 < kl := by rw [← hkl2, HKL.out]; cases hs <;> simp
  have HMM := Lib.hid hM; have HTM := Lib.hid htm; have HKN := Lib.hid hkl2
  simp only at c0 c1 c2
  rw [hM] at hn hN HM HL0 ⊢
  rw [htm] at hT HM HL0 ⊢
  rw [hkl2] at c2
  obtain ⟨kq, hkq⟩ : ∃ kq, (K n).1 = kq := ⟨_, rfl⟩
  obtain ⟨kc, hkc⟩ : ∃ kc, (K n).2 = kc := ⟨_, rfl⟩
  have HKA : Hid (VAt w kq (intsV ks)) := Lib.hid (by rw [← hkq]; exact HKA.out)
  rw [hkq, hkc] at c2
  have d1 : decide (n < M) = true := decide_eq_true hn
  have d1' : decide ((n : Int) < (M : Int)) = true := decide_eq_true (by omega)
  have HS0 : Hid (g < w.heap.size) := Lib.hid hgl
  obtain ⟨g1, off1, rfl, hgl1, v0⟩ := kid_at HKA.out hk0
  have HS1 : Hid (g1 < w.heap.size) := Lib.hid hgl1
  rw [Nat.add_zero] at v0
  have HV0 := Lib.hid v0
  have z0 : (0 : Int) < (kl : Int) := by omega
  have z0' : decide ((0 : Int) < (kl : Int)) = true := decide_eq_true z0
  have z0'' : decide (0 < kl) = true := decide_eq_true (by omega)
  obtain ⟨X, hX⟩ : ∃ X, axT T (.nd kd l) = X := ⟨_, rfl⟩
  have HX := Lib.hid hX
  rw [hX]
  clear hx hw ht hIH hM htm hkl2 hkq hkc hko hm hll hlv hwe hL0 hk0 hkt v0 hT hN hs hkI hf0 hX
  have hgC := gb_alloc (gb_alloc (World.grownBy_alloc w (.cells #[.slice pt tm ct, .slice (some ⟨g, off, none⟩) M cn] 46) none) (.cells #[.int .i64 0, .string ⟨#[]⟩, .string ⟨#[]⟩, .string ⟨#[]⟩, .bool false, .slice none 0 0, .int .i64 0] 68)) (.cells #[.int .i64 kI, .int .i64 (-1), .slice (some ⟨g1, off1, none⟩) kl kc] 108)
  have c0 := hgC.cell c0 (by simp)
  have c1 := hgC.cell c1 (by simp)
  have c2 := hgC.cell c2 (by simp)
  go_enter Tryz.func28, Tryz.ntmps28
  go_wp2_with fail
  obtain ⟨W, b0, b1, b2, hW, e0, e1, e2, hB0, hB1, hB2, hgW, h01, h12⟩ := three w (.cells #[.slice pt tm ct, .slice (some ⟨g, off, none⟩) M cn] 46) (.cells #[.int .i64 0, .string ⟨#[]⟩, .string ⟨#[]⟩, .string ⟨#[]⟩, .bool false, .slice none 0 0, .int .i64 0] 68) (.cells #[.int .i64 kI, .int .i64 (-1), .slice (some ⟨g1, off1, none⟩) kl kc] 108)
  have hsW : W.heap.size = b2 + 1 := by rw [hW]; simp; omega
  have HB0 := Lib.hid hB0; have HB1 := Lib.hid hB1; have HB2 := Lib.hid hB2; have HGW := Lib.hid hgW; have HE0 := Lib.hid e0; have HE1 := Lib.hid e1; have HSW := Lib.hid hsW
  clear hB0 hB1 hB2 hgW c2 hgC c0 c1
  try rw [← hW]
  try rw [e2]
  try rw [e1]
  try rw [e0]
  clear e0 e1 e2 hW hsW
  obtain ⟨a0, a1, a2⟩ := cells2 HB0.out
  obtain ⟨n0, n1, n2, n3⟩ := cells3 HB2.out
  have v0 := HGW.out.cell HV0.out (by simp)
  have hb0 : b0 < W.heap.size := hlt HB0.out
  have hb2 : b2 < W.heap.size := hlt HB2.out
  have hg1w : g1 < W.heap.size := Nat.lt_of_lt_of_le HS1.out HGW.out.size
  go_cut [6] (fun t6 wx => Hid (TokBox W b2 ak y1 y2 ap t6 wx))
  case first =>
    go_region_held3 (fun w' => w'.cell? ⟨b0, 0, none⟩ = some (.slice pt tm ct) ∧ w'.cell? ⟨b0, 1, none⟩ = some (.slice (some ⟨g, off, none⟩) M cn) ∧ w'.cell? ⟨b2, 2, none⟩ = some (.slice (some ⟨g1, off1, none⟩) kl kc) ∧ w'.cell? ⟨g1, off1, none⟩ = some (.int .i64 (k0 : Int)))
      (first | with_reducible exact ⟨a0, a1, n2, v0⟩ | with_reducible exact ⟨keep4 a0 (by omega), keep4 a1 (by omega), keep4 n2 (by omega), keep4 v0 (by omega)⟩ | go_keep)
      (first | (go_at_call 52; refine (HL0.out _ (HT.out.kept (gb_trans HGW.out (by repeat (first | with_reducible exact gb_refl _ _ | with_reducible refine gb_drew ?_ | with_reducible refine gb_alloc ?_ _)))) (HW.out.kept (gb_trans HGW.out (by repeat (first | with_reducible exact gb_refl _ _ | with_reducible refine gb_drew ?_ | with_reducible refine gb_alloc ?_ _))))).mono ?_; rintro e w2 ⟨rfl, hg2⟩; (try (have he2 := bx hg2 (heap_alloc_new W (.cells #[.int .i64 0, .string ⟨#[]⟩, .string ⟨#[]⟩, .int .i64 0] 110)))); (try (have hc4 := cells4 he2; obtain ⟨q0, q1, q2, q3, q4⟩ := hc4)); have HG2 := Lib.hid (gb_trans (show W.grownBy _ none from (by repeat (first | with_reducible exact gb_refl _ _ | with_reducible refine gb_drew ?_ | with_reducible refine gb_alloc ?_ _))) hg2); obtain ⟨a0, a1, a2⟩ := cells2 (bx HG2.out HB0.out); obtain ⟨n0, n1, n2, n3⟩ := cells3 (bx HG2.out HB2.out); have v0 := HG2.out.cell v0 (by simp); clear hg2))
    all_goals
      have s2 : W.heap.size ≤ w2.heap.size := HG2.out.size
      go_wp2_with fail
      go_meet
      first
        | (with_reducible refine Lib.hid (tok_new HG2.out ?_)
           omega)
        | (with_reducible refine Lib.hid (tok_old HG2.out (Nat.le_refl _) hb2 he2))
  case rest =>
    obtain ⟨b3, rfl, hb3, h23, hgc⟩ := hcut.out
    have HGC := Lib.hid (gb_trans HGW.out hgc)
    have HB0 := Lib.hid (bx hgc HB0.out); have HB1 := Lib.hid (bx hgc HB1.out); have HB2 := Lib.hid (bx hgc HB2.out); have HB3 := Lib.hid hb3
    have HT := Lib.hid (HT.out.kept HGC.out); have HW := Lib.hid (HW.out.kept HGC.out)
    have HE1 : Hid (w.heap.size ≤ b1 ∧ b1 < b2) := Lib.hid (by have := HE1.out; omega)
    obtain ⟨a0, a1, a2⟩ := cells2 HB0.out
    obtain ⟨n0, n1, n2, n3⟩ := cells3 HB2.out
    obtain ⟨t0, t1, t2, t3, t4⟩ := cells4 HB3.out
    have hb0 : b0 < wc.heap.size := hlt HB0.out
    have hb1 : b1 < wc.heap.size := hlt HB1.out
    have HLC : Hid (b1 < wc.heap.size) := Lib.hid hb1
    have hb2 : b2 < wc.heap.size := hlt HB2.out
    have hb3 : b3 < wc.heap.size := hlt HB3.out
    have hg1w : g1 < wc.heap.size := Nat.lt_of_lt_of_le HS1.out HGC.out.size
    clear hcut hgc
    have hs := HSH.out
    cases hs with
    | let_ i j k' m' t u h1 h2 => exact absurd hk (by decide)
    | if_ i j k' t u v h1 h2 h3 => exact absurd hk (by decide)
    | assert_ i j t u h1 h2 => exact absurd hk (by decide)
    | bin i t u h1 h2 h3 => exact absurd hk (by decide)
    | una i t h1 h2 => exact absurd hk (by decide)
    | grp i j t h1 => exact absurd hk (by decide)
    | call i j l' h1 =>
      clear hk
      obtain rfl : kI = 13 := by rw [← HKI.out]; rfl
      obtain ⟨hy, hap⟩ := HF0.out i rfl
      have HY := Lib.hid hy
      have hx := HX.out.symm.trans (ax13 T i j _ h1)
      rw [← hap] at hx
      obtain ⟨k1, ak1, y11, y21, ap1, hk1, hy1, hap1, hL1⟩ := leaf_kid (K := K) (pt := pt) (pn := some ⟨g, off, none⟩) (ct := ct) (cn := cn) HTL.out HNL.out HKT.out (j := 1) (i := j) rfl (HLV.out j (by simp [lvTs, lvT]))
      rw [HTM.out, HMM.out] at hL1
      have HL1 := Lib.hid hL1; have HY1 := Lib.hid hy1
      obtain ⟨g', off', hp', -, v1⟩ := kid_at HKA.out hk1
      injection hp' with hp'; injection hp' with hp1 hp2; subst hp1 hp2
      have HV1 := Lib.hid v1
      have v1 := HGC.out.cell HV1.out (by simp)
      have hkl := HKL.out
      rw [HKN.out] at hkl
      simp only [List.length_cons, List.length_nil] at hkl
      have z1 : (1 : Int) < (kl : Int) := by omega
      have z1' : decide ((1 : Int) < (kl : Int)) = true := decide_eq_true z1
      have z1'' : decide (1 < kl) = true := decide_eq_true (by omega)
      clear hkl
      have e1 : (y21.toList == [46]) = false := by rw [toList_data, HY1.out]; exact beq_eq_false_iff_ne.2 h1
      subst hx
      clear HX hap hy hk1 hy1 hap1 hL1
      go_wp2_with fail
      refine (HM.out 24 ap _ HT.out HW.out).mono ?_
      rintro e w5 ⟨hg5, q, rfl, hq⟩
      obtain ⟨pk, nk, ck, rfl, hq2⟩ := hq.plain
      have HQ := Lib.hid hq2
      have HS5 := Lib.hid hg5.size
      have HC5 := Lib.hid hg5
      have HG5 := Lib.hid (gb_trans HGC.out hg5)
      have hB := bx hg5 HB1.out
      obtain ⟨f0, f1, f2, f3, f4, f5, f6, f7⟩ := cells7c hB
      have HB1 := Lib.hid hB
      clear hq hq2 hg5 HM hB
      have HL15 : Hid (b1 < w5.heap.size) := Lib.hid (hlt HB1.out)
      clear t0 t1 t2 t3 t4 hb3
      obtain ⟨t0, t1, t2, t3, t4⟩ := cells4 (bx HC5.out HB3.out)
      have hb3 : b3 < w5.heap.size := Nat.lt_of_lt_of_le (hlt HB3.out) HC5.out.size
      go_wp2_with fail
      obtain ⟨W6, b7, hW6, e7, hB7, hgW6, hs7⟩ := one0 w5 (.cells #[.int .i64 24, .string y2, .string ⟨#[]⟩, .string ⟨#[]⟩, .bool false, .slice pk nk ck, .int .i64 (ap : Int)] 68)
      have HE7 : Hid (b7 = w5.heap.size) := Lib.hid e7.symm
      have HG6 := Lib.hid (gb_trans HG5.out hgW6)
      have HC6 := Lib.hid (gb_trans HC5.out hgW6)
      have HW6 := Lib.hid hgW6
      have HB0c := HB0; have HB2c := HB2
      have HB7 := Lib.hid hB7
      have HB1 := Lib.hid (bx hgW6 HB1.out)
      have HB0 := Lib.hid (bx HC6.out HB0.out); have HB2 := Lib.hid (bx HC6.out HB2.out); have HB3 := Lib.hid (bx HC6.out HB3.out)
      have HT := Lib.hid (HT.out.kept HC6.out); have HW := Lib.hid (HW.out.kept HC6.out)
      clear a0 a1 a2 n0 n1 n2 n3 t0 t1 t2 t3 t4 f0 f1 f2 f3 f4 f5 f6 f7 hb0 hb1 hb2 hb3 hB7 hgW6 hs7
      obtain ⟨a0, a1, a2⟩ := cells2 HB0.out
      obtain ⟨n0, n1, n2, n3⟩ := cells3 HB2.out
      obtain ⟨t0, t1, t2, t3, t4⟩ := cells4 HB3.out
      obtain ⟨l0, l1, l2, l3, l4, l5, l6, l7⟩ := cells7c HB7.out
      obtain ⟨f0, f1, f2, f3, f4, f5, f6, f7⟩ := cells7c HB1.out
      have hb0 : b0 < W6.heap.size := hlt HB0.out
      have hb1 : b1 < W6.heap.size := hlt HB1.out
      have hb2 : b2 < W6.heap.size := hlt HB2.out
      have hb3 : b3 < W6.heap.size := hlt HB3.out
      have hb7 : b7 < W6.heap.size := hlt HB7.out
      have hg1w : g1 < W6.heap.size := Nat.lt_of_lt_of_le HS1.out HG6.out.size
      have h17 : Hid (b1 < b7) := Lib.hid (by have h1 := HE7.out; have h2 := HL15.out; omega)
      have v1 := HG6.out.cell HV1.out (by simp)
      try rw [← hW6]
      try rw [e7]
      clear hW6 e7
      have hfd := field_tok
      go_still_tail 5, (by kernel_rfl)
      try (change wpList _ _ _ _ _ W6.drew)
      go_wp2_with fail
      refine (HL1.out _ (HT.out.kept (by repeat (first | with_reducible exact gb_refl _ _ | with_reducible refine gb_drew ?_ | with_reducible refine gb_alloc ?_ _))) (HW.out.kept (by repeat (first | with_reducible exact gb_refl _ _ | with_reducible refine gb_drew ?_ | with_reducible refine gb_alloc ?_ _)))).mono ?_
      rintro e w7 ⟨rfl, hg7⟩
      have HG7 := Lib.hid (gb_trans (show W6.grownBy _ none from (by repeat (first | with_reducible exact gb_refl _ _ | with_reducible refine gb_drew ?_ | with_reducible refine gb_alloc ?_ _))) hg7)
      have HB7w := Lib.hid (bx HG7.out HB7.out); have HB1w := Lib.hid (bx HG7.out HB1.out)
      obtain ⟨l0, l1, l2, l3, l4, l5, l6, l7⟩ := cells7c HB7w.out
      obtain ⟨f0, f1, f2, f3, f4, f5, f6, f7⟩ := cells7c HB1w.out
      have hb1 : b1 < w7.heap.size := Nat.lt_of_lt_of_le hb1 HG7.out.size
      have hb7 : b7 < w7.heap.size := Nat.lt_of_lt_of_le hb7 HG7.out.size
      clear hg7
      have h17p : b1 < b7 := h17.out
      go_wp2_with fail
      have HQ7 := RAt.kept ((HQ.out (tkT T i).text []).bound) (gb_trans HW6.out HG7.out)
      rw [← HY.out] at HQ7
      have HBW := bx HG7.out HB1.out
      have HP := Lib.hid (rex_put (w := w) (gb_trans HG6.out HG7.out) HE1.out.1 HBW HQ7 (fun k hk => by have h2 := HGC.out.size; have h3 := h17.out; have hk : wc.heap.size ≤ k ∧ k < w5.heap.size := hk; have h4 := HE7.out; exact ⟨by omega, by have := HLC.out; omega⟩))
      obtain ⟨hp, -⟩ := put7c HBW (.int .i64 24) (.string y2) (.string ⟨#[]⟩) (.string ⟨#[]⟩) (.bool false) (.slice pk nk ck) (.int .i64 (ap : Int))
      obtain ⟨r0, r1, r2, r3, r4, r5, r6, -⟩ := cells7c hp
      refine bodyPost_ret (v := .agg #[(.int .i64 24), (.string y2), (.string ⟨#[]⟩), (.string ⟨#[]⟩), (.bool false), (.slice pk nk ck), (.int .i64 (ap : Int))]) (by simp [results, Tryz.results28, go_sem, r0, r1, r2, r3, r4, r5, r6]) rfl HP.out
    | callm i j k3 l' h1 =>
      clear hk
      obtain rfl : kI = 13 := by rw [← HKI.out]; rfl
      obtain ⟨hy, hap⟩ := HF0.out i rfl
      have HY := Lib.hid hy
      have hx := HX.out.symm.trans (ax13m T i j k3 _ h1)
      rw [← hap] at hx
      obtain ⟨k1, ak1, y11, y21, ap1, hk1, hy1, hap1, hL1⟩ := leaf_kid (K := K) (pt := pt) (pn := some ⟨g, off, none⟩) (ct := ct) (cn := cn) HTL.out HNL.out HKT.out (j := 1) (i := j) rfl (HLV.out j (by simp [lvTs, lvT]))
      rw [HTM.out, HMM.out] at hL1
      have HL1 := Lib.hid hL1; have HY1 := Lib.hid hy1
      obtain ⟨g', off', hp', -, v1⟩ := kid_at HKA.out hk1
      injection hp' with hp'; injection hp' with hp1 hp2; subst hp1 hp2
      have HV1 := Lib.hid v1
      have v1 := HGC.out.cell HV1.out (by simp)
      obtain ⟨k2, ak2, y12, y22, ap2, hk2, hy2, hap2, hL2⟩ := leaf_kid (K := K) (pt := pt) (pn := some ⟨g, off, none⟩) (ct := ct) (cn := cn) HTL.out HNL.out HKT.out (j := 2) (i := k3) rfl (HLV.out k3 (by simp [lvTs, lvT]))
      rw [HTM.out, HMM.out] at hL2
      have HL2 := Lib.hid hL2; have HY2 := Lib.hid hy2
      obtain ⟨g', off', hp', -, v2⟩ := kid_at HKA.out hk2
      injection hp' with hp'; injection hp' with hp1 hp2; subst hp1 hp2
      have HV2 := Lib.hid v2
      have v2 := HGC.out.cell HV2.out (by simp)
      have hkl := HKL.out
      rw [HKN.out] at hkl
      simp only [List.length_cons, List.length_nil] at hkl
      have z1 : (1 : Int) < (kl : Int) := by omega
      have z1' : decide ((1 : Int) < (kl : Int)) = true := decide_eq_true z1
      have z1'' : decide (1 < kl) = true := decide_eq_true (by omega)
      have z2 : (2 : Int) < (kl : Int) := by omega
      have z2' : decide ((2 : Int) < (kl : Int)) = true := decide_eq_true z2
      have z2'' : decide (2 < kl) = true := decide_eq_true (by omega)
      clear hkl
      have e1 : (y21.toList == [46]) = true := by rw [toList_data, HY1.out, h1]; rfl
      subst hx
      clear HX hap hy hk1 hy1 hap1 hL1 hk2 hy2 hap2 hL2
      have HTc := Lib.hid HT.out; have HWc := Lib.hid HW.out
      go_wp2_with fail
      refine (HM.out 24 ap _ HT.out HW.out).mono ?_
      rintro e w5 ⟨hg5, q, rfl, hq⟩
      obtain ⟨pk, nk, ck, rfl, hq2⟩ := hq.plain
      have HQ := Lib.hid hq2
      have HS5 := Lib.hid hg5.size
      have HC5 := Lib.hid hg5
      have HG5 := Lib.hid (gb_trans HGC.out hg5)
      have hB := bx hg5 HB1.out
      obtain ⟨f0, f1, f2, f3, f4, f5, f6, f7⟩ := cells7c hB
      have HB1 := Lib.hid hB
      clear hq hq2 hg5 HM hB
      have HL15 : Hid (b1 < w5.heap.size) := Lib.hid (hlt HB1.out)
      clear t0 t1 t2 t3 t4 hb3
      obtain ⟨t0, t1, t2, t3, t4⟩ := cells4 (bx HC5.out HB3.out)
      have hb3 : b3 < w5.heap.size := Nat.lt_of_lt_of_le (hlt HB3.out) HC5.out.size
      go_wp2_with fail
      obtain ⟨W6, b7, hW6, e7, hB7, hgW6, hs7⟩ := one0 w5 (.cells #[.int .i64 24, .string y2, .string ⟨#[]⟩, .string ⟨#[]⟩, .bool false, .slice pk nk ck, .int .i64 (ap : Int)] 68)
      have HE7 : Hid (b7 = w5.heap.size) := Lib.hid e7.symm
      have HG6 := Lib.hid (gb_trans HG5.out hgW6)
      have HC6 := Lib.hid (gb_trans HC5.out hgW6)
      have HW6 := Lib.hid hgW6
      have HB0c := HB0; have HB2c := HB2
      have HB7 := Lib.hid hB7
      have HB1 := Lib.hid (bx hgW6 HB1.out)
      have HB0 := Lib.hid (bx HC6.out HB0.out); have HB2 := Lib.hid (bx HC6.out HB2.out); have HB3 := Lib.hid (bx HC6.out HB3.out)
      have HT := Lib.hid (HT.out.kept HC6.out); have HW := Lib.hid (HW.out.kept HC6.out)
      clear a0 a1 a2 n0 n1 n2 n3 t0 t1 t2 t3 t4 f0 f1 f2 f3 f4 f5 f6 f7 hb0 hb1 hb2 hb3 hB7 hgW6 hs7
      obtain ⟨a0, a1, a2⟩ := cells2 HB0.out
      obtain ⟨n0, n1, n2, n3⟩ := cells3 HB2.out
      obtain ⟨t0, t1, t2, t3, t4⟩ := cells4 HB3.out
      obtain ⟨l0, l1, l2, l3, l4, l5, l6, l7⟩ := cells7c HB7.out
      obtain ⟨f0, f1, f2, f3, f4, f5, f6, f7⟩ := cells7c HB1.out
      have hb0 : b0 < W6.heap.size := hlt HB0.out
      have hb1 : b1 < W6.heap.size := hlt HB1.out
      have hb2 : b2 < W6.heap.size := hlt HB2.out
      have hb3 : b3 < W6.heap.size := hlt HB3.out
      have hb7 : b7 < W6.heap.size := hlt HB7.out
      have hg1w : g1 < W6.heap.size := Nat.lt_of_lt_of_le HS1.out HG6.out.size
      have h17 : Hid (b1 < b7) := Lib.hid (by have h1 := HE7.out; have h2 := HL15.out; omega)
      have v1 := HG6.out.cell HV1.out (by simp)
      try rw [← hW6]
      try rw [e7]
      clear hW6 e7
      have hfd := field_tok
      go_still_tail 5, (by kernel_rfl)
      try (change wpList _ _ _ _ _ W6.drew)
      go_wp2_with fail
      refine (HL1.out _ (HT.out.kept (by repeat (first | with_reducible exact gb_refl _ _ | with_reducible refine gb_drew ?_ | with_reducible refine gb_alloc ?_ _))) (HW.out.kept (by repeat (first | with_reducible exact gb_refl _ _ | with_reducible refine gb_drew ?_ | with_reducible refine gb_alloc ?_ _)))).mono ?_
      rintro e w7 ⟨rfl, hg7⟩
      have HG7 := Lib.hid (gb_trans (show W6.grownBy _ none from (by repeat (first | with_reducible exact gb_refl _ _ | with_reducible refine gb_drew ?_ | with_reducible refine gb_alloc ?_ _))) hg7)
      have HB7w := Lib.hid (bx HG7.out HB7.out); have HB1w := Lib.hid (bx HG7.out HB1.out)
      obtain ⟨l0, l1, l2, l3, l4, l5, l6, l7⟩ := cells7c HB7w.out
      obtain ⟨f0, f1, f2, f3, f4, f5, f6, f7⟩ := cells7c HB1w.out
      have hb1 : b1 < w7.heap.size := Nat.lt_of_lt_of_le hb1 HG7.out.size
      have hb7 : b7 < w7.heap.size := Nat.lt_of_lt_of_le hb7 HG7.out.size
      clear hg7
      have h17p : b1 < b7 := h17.out
      have HB2w := Lib.hid (bx HG7.out HB2.out); have HB3w := Lib.hid (bx HG7.out HB3.out); have HB0w := Lib.hid (bx HG7.out HB0.out)
      obtain ⟨t0, t1, t2, t3, t4⟩ := cells4 HB3w.out
      have hb3 : b3 < w7.heap.size := Nat.lt_of_lt_of_le hb3 HG7.out.size
      go_wp2_with fail
      have hf8 : Fr2 (fun k => k = b7) w7 (w7.setCell ⟨b7, 2, none⟩ (.string y2)) := Fr2.setCell (S := fun k => k = b7) (Fr2.refl _ _) (g := b7) (j := 2) rfl _
      have HF8 := Lib.hid hf8
      have HBa7 := Lib.hid (set_cells (i := 2) (u := .string y2) HB7w.out)
      have HBa0 := Lib.hid (hf8.keep HB0w.out (by have h1 := hlt HB0.out; have h2 := HE7.out; have h3 := hlt (bx HC5.out HB0c.out); omega))
      have HBa1 := Lib.hid (hf8.keep HB1w.out (by have := h17.out; omega))
      have HBa2 := Lib.hid (hf8.keep HB2w.out (by have h2 := HE7.out; have h3 := hlt (bx HC5.out HB2c.out); omega))
      have HTa := Lib.hid (toks_fr HTc.out (HT.out.kept HG7.out) hf8 (fun k e => by have e : k = b7 := e; have := HE7.out; have := HC5.out.size; omega))
      have HWa := Lib.hid (nodes_fr HWc.out (HW.out.kept HG7.out) hf8 (fun k e => by have e : k = b7 := e; have := HE7.out; have := HC5.out.size; omega))
      have HG7w := Lib.hid (Fr2.after (gb_trans HG6.out HG7.out) hf8 (fun k e => by have h1 := HE7.out; have h2 := HG5.out.size; have e : k = b7 := e; omega))
      obtain ⟨wS, hwS⟩ : ∃ wS, w7.setCell ⟨b7, 2, none⟩ (.string y2) = wS := ⟨_, rfl⟩
      rw [hwS] at HF8 HBa7 HBa0 HBa1 HBa2 HTa HWa HG7w ⊢
      clear hwS hf8 a0 a1 a2 n0 n1 n2 n3 t0 t1 t2 t3 t4 l0 l1 l2 l3 l4 l5 l6 l7 f0 f1 f2 f3 f4 f5 f6 f7 hb0 hb1 hb2 hb3 hb7 hg1w v1 v2
      obtain ⟨a0, a1, a2⟩ := cells2 HBa0.out
      obtain ⟨n0, n1, n2, n3⟩ := cells3 HBa2.out
      have hb0 : b0 < wS.heap.size := hlt HBa0.out
      have hb1 : b1 < wS.heap.size := hlt HBa1.out
      have hb2 : b2 < wS.heap.size := hlt HBa2.out
      have hb7 : b7 < wS.heap.size := hlt HBa7.out
      have hg1w : g1 < wS.heap.size := Nat.lt_of_lt_of_le HS1.out HG7w.out.size
      have v2 := HG7w.out.cell HV2.out (by simp)
      go_still_tail 5, (by kernel_rfl)
      try (change wpList _ _ _ _ _ wS.drew)
      go_wp2_with fail
      refine (HL2.out _ (HTa.out.kept (by repeat (first | with_reducible exact gb_refl _ _ | with_reducible refine gb_drew ?_ | with_reducible refine gb_alloc ?_ _))) (HWa.out.kept (by repeat (first | with_reducible exact gb_refl _ _ | with_reducible refine gb_drew ?_ | with_reducible refine gb_alloc ?_ _)))).mono ?_
      rintro e w8 ⟨rfl, hg8⟩
      have HG8 := Lib.hid (gb_trans (show wS.grownBy _ none from (by repeat (first | with_reducible exact gb_refl _ _ | with_reducible refine gb_drew ?_ | with_reducible refine gb_alloc ?_ _))) hg8)
      have HB7x := Lib.hid (bx HG8.out HBa7.out); have HB1x := Lib.hid (bx HG8.out HBa1.out)
      obtain ⟨l0, l1, l2, l3, l4, l5, l6, l7⟩ := cells7c (show w8.heap[b7]? = some (.cells #[.int .i64 24, .string y2, .string y2, .string ⟨#[]⟩, .bool false, .slice pk nk ck, .int .i64 (ap : Int)] 68 (0, 0)) from HB7x.out)
      obtain ⟨f0, f1, f2, f3, f4, f5, f6, f7⟩ := cells7c HB1x.out
      have hb1 : b1 < w8.heap.size := Nat.lt_of_lt_of_le hb1 HG8.out.size
      have hb7 : b7 < w8.heap.size := Nat.lt_of_lt_of_le hb7 HG8.out.size
      clear hg8
      go_wp2_with fail
      have hf9 : Fr2 (fun k => k = b7) w8 (w8.setCell ⟨b7, 1, none⟩ (.string y22)) := Fr2.setCell (S := fun k => k = b7) (Fr2.refl _ _) (g := b7) (j := 1) rfl _
      have HB1s := hf9.keep HB1x.out (by have := h17.out; omega)
      have HQ7 := RAt.same HF8.out (fun k (hk : wc.heap.size ≤ k ∧ k < w5.heap.size) e => by have e : k = b7 := e; have := HE7.out; omega) (RAt.kept ((HQ.out (tkT T k3).text (tkT T i).text).bound) (gb_trans HW6.out HG7.out))
      have HQ8 := RAt.same hf9 (fun k (hk : wc.heap.size ≤ k ∧ k < w5.heap.size) e => by have e : k = b7 := e; have := HE7.out; omega) (RAt.kept HQ7 HG8.out)
      rw [← HY.out, ← HY2.out] at HQ8
      have HGs : w.grownBy (w8.setCell ⟨b7, 1, none⟩ (.string y22)) none := Fr2.after (gb_trans HG7w.out HG8.out) hf9 (fun k e => by have h1 := HE7.out; have h2 := HG5.out.size; have e : k = b7 := e; omega)
      have HP := Lib.hid (rex_put (w := w) HGs HE1.out.1 HB1s HQ8 (fun k hk => by have h2 := HGC.out.size; have h3 := h17.out; have hk : wc.heap.size ≤ k ∧ k < w5.heap.size := hk; have h4 := HE7.out; exact ⟨by omega, by have := HLC.out; omega⟩))
      obtain ⟨hp, -⟩ := put7c HB1s (.int .i64 24) (.string y22) (.string y2) (.string ⟨#[]⟩) (.bool false) (.slice pk nk ck) (.int .i64 (ap : Int))
      obtain ⟨r0, r1, r2, r3, r4, r5, r6, -⟩ := cells7c hp
      refine bodyPost_ret (v := .agg #[(.int .i64 24), (.string y22), (.string y2), (.string ⟨#[]⟩), (.bool false), (.slice pk nk ck), (.int .i64 (ap : Int))]) (by simp [results, Tryz.results28, go_sem, r0, r1, r2, r3, r4, r5, r6]) rfl HP.out
    | nam i => exact absurd hk (by decide)
    | num i h1 => exact absurd hk (by decide)
    | tru i => exact absurd hk (by decide)
    | res i => exact absurd hk (by decide)
end Go.Proofs.YtdilncefhfbgeaaGreatDoor
