/- The document's Expr, of any node that the parser makes of an expression: the walk. -/
import Derived.StillTailTactics
import Derived.Deep.RegionHeld3
import Derived.Test.YtdilncefhfbgeaaGreatDoorARmade
set_option linter.unusedVariables false
set_option linter.unusedSimpArgs false
namespace Go.Proofs.YtdilncefhfbgeaaGreatDoor
open Go.RowKit

set_option maxRecDepth 100000 in
set_option maxHeartbeats 64000000 in
theorem rexpr_12 (T : List Tok) (N : List Nd) (K : Nat → Option Addr × Nat) (pt pn : Option Addr) (ct cn m : Nat) (hIH : RIH T N K pt pn ct cn m) (hT : T.length ≤ 40000) (hN : N.length ≤ 150000)
    (n : Nat) (ks : List Int) (kd : Nat) (l : List Tr) (hx : N[n]? = some ⟨(kd : Int), -1, ks⟩) (hkt : KT N n ks l) (hm : szRs l ≤ m) (hll : l.length ≤ 150000) (hko : kOks l) (hlv : ∀ z ∈ lvTs l, z < T.length) (hwe : WEs T l) (hs : ShE T kd l) (hk : kd = 12)
    (w : World) (ht : ToksAt w pt (T.map toI)) (hw : NodesAt w pn N K) :
    Calls Tryz.prog 28 #[.agg #[.slice pt T.length ct, .slice pn N.length cn], .int .i64 (n : Int)] w (RExPost (axT T (.nd kd l)) w) := by
  have HM := Lib.hid (fun (op ps : Nat) W h1 h2 => made_c T N K pt pn ct cn m hIH hT hN n ks (kd : Int) l hx hkt hm hll hko (good_kids hwe hko hlv) op ps W h1 h2)
  have HIX := Lib.hid hIH; have HKT := Lib.hid hkt; have HKO := Lib.hid hko; have HLV := Lib.hid hlv; have HWE := Lib.hid hwe; have HSH := Lib.hid hs; have HSZ := Lib.hid hm; have HTL := Lib.hid hT; have HNL := Lib.hid hN
  obtain ⟨k0, ak, y1, y2, ap, hk0, hf0, hL0⟩ := leaf_first (K := K) (pt := pt) (pn := pn) (ct := ct) (cn := cn) hT hN hkt hko hlv (by cases hs <;> simp)
  have HF0 := Lib.hid hf0
  have HL0 := Lib.hid hL0
  obtain ⟨kI, hkI⟩ : ∃ kI : Int, (kd : Int) = kI := ⟨_, rfl⟩
  have HKI := Lib.hid hkI
  rw [hkI] at hx
  obtain ⟨g, off, rfl, hgl, c0, c1, c2⟩ := node_at hw hx
  have HKA := Lib.hid (hw.2 n _ hx)
  have hn : n < N.length := (List.getElem?_eq_some_iff.1 hx).1
  have HW := Lib.hid hw; have HT := Lib.hid ht
  have HKL := Lib.hid hkt.1
  obtain ⟨M, hM⟩ : ∃ M, N.length = M := ⟨_, rfl⟩
  obtain ⟨tm, htm⟩ : ∃ tm, T.length = tm := ⟨_, rfl⟩
  obtain ⟨kl, hkl2⟩ : ∃ kl, ks.length = kl := ⟨_, rfl⟩
  have hl0 : 0 < kl := by rw [← hkl2, HKL.out]; cases hs <;> simp
  have HMM := Lib.hid hM; have HTM := Lib.hid htm; have HKN := Lib.hid hkl2
  simp only at c0 c1 c2
  rw [hM] at hn hN HM HL0 ⊢
  rw [htm] at hT HM HL0 ⊢
  rw [hkl2] at c2
  obtain ⟨kq, hkq⟩ : ∃ kq, (K n).1 = kq := ⟨_, rfl⟩
  obtain ⟨kc, hkc⟩ : ∃ kc, (K n).2 = kc := ⟨_, rfl⟩
  have HKA : Hid (VAt w kq (intsV ks)) := Lib.hid (by rw [← hkq]; exact HKA.out)
  rw [hkq, hkc] at c2
  have d1 : decide (n < M) = true := decide_eq_true hn
  have d1' : decide ((n : Int) < (M : Int)) = true := decide_eq_true (by omega)
  have HS0 : Hid (g < w.heap.size) := Lib.hid hgl
  obtain ⟨g1, off1, rfl, hgl1, v0⟩ := kid_at HKA.out hk0
  have HS1 : Hid (g1 < w.heap.size) := Lib.hid hgl1
  rw [Nat.add_zero] at v0
  have HV0 := Lib.hid v0
  have z0 : (0 : Int) < (kl : Int) := by omega
  have z0' : decide ((0 : Int) < (kl : Int)) = true := decide_eq_true z0
  have z0'' : decide (0 < kl) = true := decide_eq_true (by omega)
  obtain ⟨X, hX⟩ : ∃ X, axT T (.nd kd l) = X := ⟨_, rfl⟩
  have HX := Lib.hid hX
  rw [hX]
  clear hx hw ht hIH hM htm hkl2 hkq hkc hko hm hll hlv hwe hL0 hk0 hkt v0 hT hN hs hkI hf0 hX
  have hgC := gb_alloc (gb_alloc (World.grownBy_alloc w (.cells #[.slice pt tm ct, .slice (some ⟨g, off, none⟩) M cn] 46) none) (.cells #[.int .i64 0, .string ⟨#[]⟩, .string ⟨#[]⟩, .string ⟨#[]⟩, .bool false, .slice none 0 0, .int .i64 0] 68)) (.cells #[.int .i64 kI, .int .i64 (-1), .slice (some ⟨g1, off1, none⟩) kl kc] 108)
  have c0 := hgC.cell c0 (by simp)
  have c1 := hgC.cell c1 (by simp)
  have c2 := hgC.cell c2 (by simp)
  go_enter Tryz.func28, Tryz.ntmps28
  go_wp2_with fail
  obtain ⟨W, b0, b1, b2, hW, e0, e1, e2, hB0, hB1, hB2, hgW, h01, h12⟩ := three w (.cells #[.slice pt tm ct, .slice (some ⟨g, off, none⟩) M cn] 46) (.cells #[.int .i64 0, .string ⟨#[]⟩, .string ⟨#[]⟩, .string ⟨#[]⟩, .bool false, .slice none 0 0, .int .i64 0] 68) (.cells #[.int .i64 kI, .int .i64 (-1), .slice (some ⟨g1, off1, none⟩) kl kc] 108)
  have hsW : W.heap.size = b2 + 1 := by rw [hW]; simp; omega
  have HB0 := Lib.hid hB0; have HB1 := Lib.hid hB1; have HB2 := Lib.hid hB2; have HGW := Lib.hid hgW; have HE0 := Lib.hid e0; have HE1 := Lib.hid e1; have HSW := Lib.hid hsW
  clear hB0 hB1 hB2 hgW c2 hgC c0 c1
  try rw [← hW]
  try rw [e2]
  try rw [e1]
  try rw [e0]
  clear e0 e1 e2 hW hsW
  obtain ⟨a0, a1, a2⟩ := cells2 HB0.out
  obtain ⟨n0, n1, n2, n3⟩ := cells3 HB2.out
  have v0 := HGW.out.cell HV0.out (by simp)
  have hb0 : b0 < W.heap.size := hlt HB0.out
  have hb2 : b2 < W.heap.size := hlt HB2.out
  have hg1w : g1 < W.heap.size := Nat.lt_of_lt_of_le HS1.out HGW.out.size
  go_cut [6] (fun t6 wx => Hid (TokBox W b2 ak y1 y2 ap t6 wx))
  case first =>
    go_region_held3 (fun w' => w'.cell? ⟨b0, 0, none⟩ = some (.slice pt tm ct) ∧ w'.cell? ⟨b0, 1, none⟩ = some (.slice (some ⟨g, off, none⟩) M cn) ∧ w'.cell? ⟨b2, 2, none⟩ = some (.slice (some ⟨g1, off1, none⟩) kl kc) ∧ w'.cell? ⟨g1, off1, none⟩ = some (.int .i64 (k0 : Int)))
      (first | with_reducible exact ⟨a0, a1, n2, v0⟩ | with_reducible exact ⟨keep4 a0 (by omega), keep4 a1 (by omega), keep4 n2 (by omega), keep4 v0 (by omega)⟩ | go_keep)
      (first | (go_at_call 52; refine (HL0.out _ (HT.out.kept (gb_trans HGW.out (by repeat (first | with_reducible exact gb_refl _ _ | with_reducible refine gb_drew ?_ | with_reducible refine gb_alloc ?_ _)))) (HW.out.kept (gb_trans HGW.out (by repeat (first | with_reducible exact gb_refl _ _ | with_reducible refine gb_drew ?_ | with_reducible refine gb_alloc ?_ _))))).mono ?_; rintro e w2 ⟨rfl, hg2⟩; (try (have he2 := bx hg2 (heap_alloc_new W (.cells #[.int .i64 0, .string ⟨#[]⟩, .string ⟨#[]⟩, .int .i64 0] 110)))); (try (have hc4 := cells4 he2; obtain ⟨q0, q1, q2, q3, q4⟩ := hc4)); have HG2 := Lib.hid (gb_trans (show W.grownBy _ none from (by repeat (first | with_reducible exact gb_refl _ _ | with_reducible refine gb_drew ?_ | with_reducible refine gb_alloc ?_ _))) hg2); obtain ⟨a0, a1, a2⟩ := cells2 (bx HG2.out HB0.out); obtain ⟨n0, n1, n2, n3⟩ := cells3 (bx HG2.out HB2.out); have v0 := HG2.out.cell v0 (by simp); clear hg2))
    all_goals
      have s2 : W.heap.size ≤ w2.heap.size := HG2.out.size
      go_wp2_with fail
      go_meet
      first
        | (with_reducible refine Lib.hid (tok_new HG2.out ?_)
           omega)
        | (with_reducible refine Lib.hid (tok_old HG2.out (Nat.le_refl _) hb2 he2))
  case rest =>
    obtain ⟨b3, rfl, hb3, h23, hgc⟩ := hcut.out
    have HGC := Lib.hid (gb_trans HGW.out hgc)
    have HB0 := Lib.hid (bx hgc HB0.out); have HB1 := Lib.hid (bx hgc HB1.out); have HB2 := Lib.hid (bx hgc HB2.out); have HB3 := Lib.hid hb3
    have HT := Lib.hid (HT.out.kept HGC.out); have HW := Lib.hid (HW.out.kept HGC.out)
    have HE1 : Hid (w.heap.size ≤ b1 ∧ b1 < b2) := Lib.hid (by have := HE1.out; omega)
    obtain ⟨a0, a1, a2⟩ := cells2 HB0.out
    obtain ⟨n0, n1, n2, n3⟩ := cells3 HB2.out
    obtain ⟨t0, t1, t2, t3, t4⟩ := cells4 HB3.out
    have hb0 : b0 < wc.heap.size := hlt HB0.out
    have hb1 : b1 < wc.heap.size := hlt HB1.out
    have HLC : Hid (b1 < wc.heap.size) := Lib.hid hb1
    have hb2 : b2 < wc.heap.size := hlt HB2.out
    have hb3 : b3 < wc.heap.size := hlt HB3.out
    have hg1w : g1 < wc.heap.size := Nat.lt_of_lt_of_le HS1.out HGC.out.size
    clear hcut hgc
    have hs := HSH.out
    cases hs with
    | let_ i j k' m' t u h1 h2 => exact absurd hk (by decide)
    | if_ i j k' t u v h1 h2 h3 => exact absurd hk (by decide)
    | assert_ i j t u h1 h2 => exact absurd hk (by decide)
    | bin i t u h1 h2 h3 => exact absurd hk (by decide)
    | una i t h1 h2 => exact absurd hk (by decide)
    | grp i j t h1 =>
      cases t with
      | lf _ => simp [isN] at h1
      | nd m1 q1 =>
        obtain ⟨kc1, hc1, hta1, -⟩ := HKT.out.2 1 (.nd m1 q1) rfl
        have HIX := Lib.hid (fun W h1 h2 => HIX.out (.nd m1 q1) kc1 W (by have := HSZ.out; simp only [szRs] at this; omega) ((good_kids HWE.out HKO.out HLV.out) (.nd m1 q1) (by simp) rfl kc1 hta1) h1 h2)
        rw [HTM.out, HMM.out] at HIX
        obtain ⟨g', off', hp', -, vc1⟩ := kid_at HKA.out hc1
        injection hp' with hp'; injection hp' with hp1 hp2; subst hp1 hp2
        have vc1 := HGC.out.cell vc1 (by simp)
        clear hc1 hta1
        clear hk
        obtain rfl : kI = 12 := by rw [← HKI.out]; rfl
        obtain ⟨hy, hap⟩ := HF0.out i rfl
        have HY := Lib.hid hy
        have hx := HX.out.symm.trans (grp_ax T i j (u := .nd m1 q1) rfl)
        have hkl := HKL.out
        rw [HKN.out] at hkl
        simp only [List.length_cons, List.length_nil] at hkl
        have zc1 : (1 : Int) < (kl : Int) := by omega
        have zc1' : decide ((1 : Int) < (kl : Int)) = true := decide_eq_true zc1
        have zc1'' : decide (1 < kl) = true := decide_eq_true (by omega)
        clear hkl
        subst hx
        clear HX hap hy
        go_wp2_with fail
        go_still_tail 5, (by kernel_rfl)
        try (change wpList _ _ _ _ _ wc.drew)
        go_wp2_with fail
        refine (HIX.out _ (HT.out.kept (by repeat (first | with_reducible exact gb_refl _ _ | with_reducible refine gb_drew ?_ | with_reducible refine gb_alloc ?_ _))) (HW.out.kept (by repeat (first | with_reducible exact gb_refl _ _ | with_reducible refine gb_drew ?_ | with_reducible refine gb_alloc ?_ _)))).mono ?_
        rintro e w5 ⟨hg5, q, rfl, hq⟩
        obtain ⟨o0, s1, s2, s3, u4, p5, l5, k5, o6, rfl⟩ := hq.form
        have HG5 := Lib.hid (gb_trans (show wc.grownBy _ none from (by repeat (first | with_reducible exact gb_refl _ _ | with_reducible refine gb_drew ?_ | with_reducible refine gb_alloc ?_ _))) hg5)
        have HBW := Lib.hid (bx HG5.out HB1.out)
        obtain ⟨f0, f1, f2, f3, f4, f5, f6, f7⟩ := cells7c HBW.out
        have hb1 : b1 < w5.heap.size := hlt HBW.out
        have HQ := Lib.hid hq
        clear hg5 hq
        go_wp2_with fail
        have HP := Lib.hid (rex_put (w := w) (gb_trans HGC.out HG5.out) HE1.out.1 HBW.out HQ.out (fun k hk => by have h2 := HGC.out.size; have h3 := hlt HB1.out; have hk : wc.heap.size ≤ k := hk; exact ⟨by omega, by omega⟩))
        obtain ⟨hp, -⟩ := put7c HBW.out (.int .i64 o0) (.string s1) (.string s2) (.string s3) (.bool u4) (.slice p5 l5 k5) (.int .i64 o6)
        obtain ⟨r0, r1, r2, r3, r4, r5, r6, -⟩ := cells7c hp
        refine bodyPost_ret (v := .agg #[(.int .i64 o0), (.string s1), (.string s2), (.string s3), (.bool u4), (.slice p5 l5 k5), (.int .i64 o6)]) (by simp [results, Tryz.results28, go_sem, r0, r1, r2, r3, r4, r5, r6]) rfl HP.out
    | call i j l' h1 => exact absurd hk (by decide)
    | callm i j k3 l' h1 => exact absurd hk (by decide)
    | nam i => exact absurd hk (by decide)
    | num i h1 => exact absurd hk (by decide)
    | tru i => exact absurd hk (by decide)
    | res i => exact absurd hk (by decide)
end Go.Proofs.YtdilncefhfbgeaaGreatDoor
