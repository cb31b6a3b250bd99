/- The document's Expr, of any node that the parser makes of an expression: the walk. -/
import Derived.StillTailTactics
import Derived.Deep.RegionHeld3
import Derived.Test.YtdilncefhfbgeaaGreatDoorARmade
set_option linter.unusedVariables false
set_option linter.unusedSimpArgs false
namespace Go.Proofs.YtdilncefhfbgeaaGreatDoor
open Go.RowKit

set_option maxRecDepth 100000 in
set_option maxHeartbeats 64000000 in
theorem rexpr_10 (T : List Tok) (N : List Nd) (K : Nat → Option Addr × Nat) (pt pn : Option Addr) (ct cn m : Nat) (hIH : RIH T N K pt pn ct cn m) (hT : T.length ≤ 40000) (hN : N.length ≤ 150000)
    (n : Nat) (ks : List Int) (kd : Nat) (l : List Tr) (hx : N[n]? = some ⟨(kd : Int), -1, ks⟩) (hkt : KT N n ks l) (hm : szRs l ≤ m) (hll : l.length ≤ 150000) (hko : kOks l) (hlv : ∀ z ∈ lvTs l, z < T.length) (hwe : WEs T l) (hs : ShE T kd l) (hk : kd = 10)
    (w : World) (ht : ToksAt w pt (T.map toI)) (hw : NodesAt w pn N K) :
    Calls Tryz.prog 28 #[.agg #[.slice pt T.length ct, .slice pn N.length cn], .int .i64 (n : Int)] w (RExPost (axT T (.nd kd l)) w) := by
  have HM := Lib.hid (fun (op ps : Nat) W h1 h2 => made_c T N K pt pn ct cn m hIH hT hN n ks (kd : Int) l hx hkt hm hll hko (good_kids hwe hko hlv) op ps W h1 h2)
  have HIX := Lib.hid hIH; have HKT := Lib.hid hkt; have HKO := Lib.hid hko; have HLV := Lib.hid hlv; have HWE := Lib.hid hwe; have HSH := Lib.hid hs; have HSZ := Lib.hid hm; have HTL := Lib.hid hT; have HNL := Lib.hid hN
  obtain ⟨k0, ak, y1, y2, ap, hk0, hf0, hL0⟩ := leaf_first (K := K) (pt := pt) (pn := pn) (ct := ct) (cn := cn) hT hN hkt hko hlv (by cases hs <;> simp)
  have HF0 := Lib.hid hf0
  have HL0 := Lib.hid hL0
  obtain ⟨kI, hkI⟩ : ∃ kI : Int, (kd : Int) = kI := ⟨_, rfl⟩
  have HKI := Lib.hid hkI
  rw [hkI] at hx
  obtain ⟨g, off, rfl, hgl, c0, c1, c2⟩ := node_at hw hx
  have HKA := Lib.hid (hw.2 n _ hx)
  have hn : n < N.length := (List.getElem?_eq_some_iff.1 hx).1
  have HW := Lib.hid hw; have HT := Lib.hid ht
  have HKL := Lib.hid hkt.1
  obtain ⟨M, hM⟩ : ∃ M, N.length = M := ⟨_, rfl⟩
  obtain ⟨tm, htm⟩ : ∃ tm, T.length = tm := ⟨_, rfl⟩
  obtain ⟨kl, hkl2⟩ : ∃ kl, ks.length = kl := ⟨_, rfl⟩
  have hl0 : 0 < kl := by rw [← hkl2, HKL.out]; cases hs <;> simp
  have HMM := Lib.hid hM; have HTM := Lib.hid htm; have HKN := Lib.hid hkl2
  simp only at c0 c1 c2
  rw [hM] at hn hN HM HL0 ⊢
  rw [htm] at hT HM HL0 ⊢
  rw [hkl2] at c2
  obtain ⟨kq, hkq⟩ : ∃ kq, (K n).1 = kq := ⟨_, rfl⟩
  obtain ⟨kc, hkc⟩ : ∃ kc, (K n).2 = kc := ⟨_, rfl⟩
  have HKA : Hid (VAt w kq (intsV ks)) := Lib.hid (by rw [← hkq]; exact HKA.out)
  rw [hkq, hkc] at c2
  have d1 : decide (n < M) = true := decide_eq_true hn
  have d1' : decide ((n : Int) < (M : Int)) = true := decide_eq_true (by omega)
  have HS0 : Hid (g < w.heap.size) := Lib.hid hgl
  obtain ⟨g1, off1, rfl, hgl1, v0⟩ := kid_at HKA.out hk0
  have HS1 : Hid (g1 < w.heap.size) := Lib.hid hgl1
  rw [Nat.add_zero] at v0
  have HV0 := Lib.hid v0
  have z0 : (0 : Int) < (kl : Int) := by omega
  have z0' : decide ((0 : Int) < (kl : Int)) = true := decide_eq_true z0
  have z0'' : decide (0 < kl) = true := decide_eq_true (by omega)
  obtain ⟨X, hX⟩ : ∃ X, axT T (.nd kd l) = X := ⟨_, rfl⟩
  have HX := Lib.hid hX
  rw [hX]
  clear hx hw ht hIH hM htm hkl2 hkq hkc hko hm hll hlv hwe hL0 hk0 hkt v0 hT hN hs hkI hf0 hX
  have hgC := gb_alloc (gb_alloc (World.grownBy_alloc w (.cells #[.slice pt tm ct, .slice (some ⟨g, off, none⟩) M cn] 46) none) (.cells #[.int .i64 0, .string ⟨#[]⟩, .string ⟨#[]⟩, .string ⟨#[]⟩, .bool false, .slice none 0 0, .int .i64 0] 68)) (.cells #[.int .i64 kI, .int .i64 (-1), .slice (some ⟨g1, off1, none⟩) kl kc] 108)
  have c0 := hgC.cell c0 (by simp)
  have c1 := hgC.cell c1 (by simp)
  have c2 := hgC.cell c2 (by simp)
  go_enter Tryz.func28, Tryz.ntmps28
  go_wp2_with fail
  obtain ⟨W, b0, b1, b2, hW, e0, e1, e2, hB0, hB1, hB2, hgW, h01, h12⟩ := three w (.cells #[.slice pt tm ct, .slice (some ⟨g, off, none⟩) M cn] 46) (.cells #[.int .i64 0, .string ⟨#[]⟩, .string ⟨#[]⟩, .string ⟨#[]⟩, .bool false, .slice none 0 0, .int .i64 0] 68) (.cells #[.int .i64 kI, .int .i64 (-1), .slice (some ⟨g1, off1, none⟩) kl kc] 108)
  have hsW : W.heap.size = b2 + 1 := by rw [hW]; simp; omega
  have HB0 := Lib.hid hB0; have HB1 := Lib.hid hB1; have HB2 := Lib.hid hB2; have HGW := Lib.hid hgW; have HE0 := Lib.hid e0; have HE1 := Lib.hid e1; have HSW := Lib.hid hsW
  clear hB0 hB1 hB2 hgW c2 hgC c0 c1
  try rw [← hW]
  try rw [e2]
  try rw [e1]
  try rw [e0]
  clear e0 e1 e2 hW hsW
  obtain ⟨a0, a1, a2⟩ := cells2 HB0.out
  obtain ⟨n0, n1, n2, n3⟩ := cells3 HB2.out
  have v0 := HGW.out.cell HV0.out (by simp)
  have hb0 : b0 < W.heap.size := hlt HB0.out
  have hb2 : b2 < W.heap.size := hlt HB2.out
  have hg1w : g1 < W.heap.size := Nat.lt_of_lt_of_le HS1.out HGW.out.size
  go_cut [6] (fun t6 wx => Hid (TokBox W b2 ak y1 y2 ap t6 wx))
  case first =>
    go_region_held3 (fun w' => w'.cell? ⟨b0, 0, none⟩ = some (.slice pt tm ct) ∧ w'.cell? ⟨b0, 1, none⟩ = some (.slice (some ⟨g, off, none⟩) M cn) ∧ w'.cell? ⟨b2, 2, none⟩ = some (.slice (some ⟨g1, off1, none⟩) kl kc) ∧ w'.cell? ⟨g1, off1, none⟩ = some (.int .i64 (k0 : Int)))
      (first | with_reducible exact ⟨a0, a1, n2, v0⟩ | with_reducible exact ⟨keep4 a0 (by omega), keep4 a1 (by omega), keep4 n2 (by omega), keep4 v0 (by omega)⟩ | go_keep)
      (first | (go_at_call 52; refine (HL0.out _ (HT.out.kept (gb_trans HGW.out (by repeat (first | with_reducible exact gb_refl _ _ | with_reducible refine gb_drew ?_ | with_reducible refine gb_alloc ?_ _)))) (HW.out.kept (gb_trans HGW.out (by repeat (first | with_reducible exact gb_refl _ _ | with_reducible refine gb_drew ?_ | with_reducible refine gb_alloc ?_ _))))).mono ?_; rintro e w2 ⟨rfl, hg2⟩; (try (have he2 := bx hg2 (heap_alloc_new W (.cells #[.int .i64 0, .string ⟨#[]⟩, .string ⟨#[]⟩, .int .i64 0] 110)))); (try (have hc4 := cells4 he2; obtain ⟨q0, q1, q2, q3, q4⟩ := hc4)); have HG2 := Lib.hid (gb_trans (show W.grownBy _ none from (by repeat (first | with_reducible exact gb_refl _ _ | with_reducible refine gb_drew ?_ | with_reducible refine gb_alloc ?_ _))) hg2); obtain ⟨a0, a1, a2⟩ := cells2 (bx HG2.out HB0.out); obtain ⟨n0, n1, n2, n3⟩ := cells3 (bx HG2.out HB2.out); have v0 := HG2.out.cell v0 (by simp); clear hg2))
    all_goals
      have s2 : W.heap.size ≤ w2.heap.size := HG2.out.size
      go_wp2_with fail
      go_meet
      first
        | (with_reducible refine Lib.hid (tok_new HG2.out ?_)
           omega)
        | (with_reducible refine Lib.hid (tok_old HG2.out (Nat.le_refl _) hb2 he2))
  case rest =>
    obtain ⟨b3, rfl, hb3, h23, hgc⟩ := hcut.out
    have HGC := Lib.hid (gb_trans HGW.out hgc)
    have HB0 := Lib.hid (bx hgc HB0.out); have HB1 := Lib.hid (bx hgc HB1.out); have HB2 := Lib.hid (bx hgc HB2.out); have HB3 := Lib.hid hb3
    have HT := Lib.hid (HT.out.kept HGC.out); have HW := Lib.hid (HW.out.kept HGC.out)
    have HE1 : Hid (w.heap.size ≤ b1 ∧ b1 < b2) := Lib.hid (by have := HE1.out; omega)
    obtain ⟨a0, a1, a2⟩ := cells2 HB0.out
    obtain ⟨n0, n1, n2, n3⟩ := cells3 HB2.out
    obtain ⟨t0, t1, t2, t3, t4⟩ := cells4 HB3.out
    have hb0 : b0 < wc.heap.size := hlt HB0.out
    have hb1 : b1 < wc.heap.size := hlt HB1.out
    have HLC : Hid (b1 < wc.heap.size) := Lib.hid hb1
    have hb2 : b2 < wc.heap.size := hlt HB2.out
    have hb3 : b3 < wc.heap.size := hlt HB3.out
    have hg1w : g1 < wc.heap.size := Nat.lt_of_lt_of_le HS1.out HGC.out.size
    clear hcut hgc
    have hs := HSH.out
    cases hs with
    | let_ i j k' m' t u h1 h2 => exact absurd hk (by decide)
    | if_ i j k' t u v h1 h2 h3 => exact absurd hk (by decide)
    | assert_ i j t u h1 h2 => exact absurd hk (by decide)
    | bin i t u h1 h2 h3 =>
      cases t with
      | lf _ => simp [isN] at h1
      | nd m1 q1 =>
        clear hk
        obtain rfl : kI = 10 := by rw [← HKI.out]; rfl
        have hx := HX.out.symm.trans (ax10 T m1 i q1 _)
        obtain ⟨k1, ak1, y11, y21, ap1, hk1, hy1, hap1, hL1⟩ := leaf_kid (K := K) (pt := pt) (pn := some ⟨g, off, none⟩) (ct := ct) (cn := cn) HTL.out HNL.out HKT.out (j := 1) (i := i) rfl (HLV.out i (by simp [lvTs, lvT]))
        rw [HTM.out, HMM.out] at hL1
        have HL1 := Lib.hid hL1; have HY1 := Lib.hid hy1
        obtain ⟨g', off', hp', -, v1⟩ := kid_at HKA.out hk1
        injection hp' with hp'; injection hp' with hp1 hp2; subst hp1 hp2
        have HV1 := Lib.hid v1
        have v1 := HGC.out.cell HV1.out (by simp)
        rw [← hap1] at hx
        have hkl := HKL.out
        rw [HKN.out] at hkl
        simp only [List.length_cons, List.length_nil] at hkl
        have z1 : (1 : Int) < (kl : Int) := by omega
        have z1' : decide ((1 : Int) < (kl : Int)) = true := decide_eq_true z1
        have z1'' : decide (1 < kl) = true := decide_eq_true (by omega)
        clear hkl
        obtain ⟨o10, ho⟩ : ∃ o, binE (tkT T i).text = o := ⟨_, rfl⟩
        rw [ho] at hx
        subst hx
        clear HX hk1 hy1 hap1 hL1
        have HOP : Hid (∀ W, Calls Tryz.prog 65 #[.string y21] W (fun e w' => e = .returned (.int .i64 (o10 : Int)) ∧ W.grownBy w' none)) := Lib.hid (fun W => by rw [← ho, HY1.out]; exact rop_c _ W)
        clear ho
        go_wp2_with fail
        obtain ⟨wk, rfl⟩ : ∃ wk, wk = wc := ⟨_, rfl⟩
        go_cut [8] (fun t8 wx => Hid (TokBox wk b3 ak1 y11 y21 ap1 t8 wx))
        case first =>
          go_region_held3 (fun w' => w'.cell? ⟨b0, 0, none⟩ = some (.slice pt tm ct) ∧ w'.cell? ⟨b0, 1, none⟩ = some (.slice (some ⟨g, off, none⟩) M cn) ∧ w'.cell? ⟨b2, 2, none⟩ = some (.slice (some ⟨g1, off1, none⟩) kl kc) ∧ w'.cell? ⟨g1, off1 + 1, none⟩ = some (.int .i64 (k1 : Int)))
            (first | with_reducible exact ⟨a0, a1, n2, v1⟩ | with_reducible exact ⟨keep4 a0 (by omega), keep4 a1 (by omega), keep4 n2 (by omega), keep4 v1 (by omega)⟩ | go_keep)
            (first | (go_at_call 52; refine (HL1.out _ (HT.out.kept (by repeat (first | with_reducible exact gb_refl _ _ | with_reducible refine gb_drew ?_ | with_reducible refine gb_alloc ?_ _))) (HW.out.kept (by repeat (first | with_reducible exact gb_refl _ _ | with_reducible refine gb_drew ?_ | with_reducible refine gb_alloc ?_ _)))).mono ?_; rintro e w2 ⟨rfl, hg2⟩; (try (have he2 := bx hg2 (heap_alloc_new wk (.cells #[.int .i64 0, .string ⟨#[]⟩, .string ⟨#[]⟩, .int .i64 0] 110)))); (try (have hc4 := cells4 he2; obtain ⟨q0, q1, q2, q3, q4⟩ := hc4)); have HG2 := Lib.hid (gb_trans (show wk.grownBy _ none from (by repeat (first | with_reducible exact gb_refl _ _ | with_reducible refine gb_drew ?_ | with_reducible refine gb_alloc ?_ _))) hg2); obtain ⟨a0, a1, a2⟩ := cells2 (bx HG2.out HB0.out); obtain ⟨n0, n1, n2, n3⟩ := cells3 (bx HG2.out HB2.out); have v1 := HG2.out.cell v1 (by simp); clear hg2))
          all_goals
            have s2 : wk.heap.size ≤ w2.heap.size := HG2.out.size
            go_wp2_with fail
            go_meet
            first
              | (with_reducible refine Lib.hid (tok_new HG2.out ?_)
                 omega)
              | (with_reducible refine Lib.hid (tok_old HG2.out (Nat.le_refl _) hb3 he2))
        case rest =>
          obtain ⟨b8, rfl, hb8, h38, hgc⟩ := hcut.out
          have HGK := Lib.hid hgc
          have HB0 := Lib.hid (bx hgc HB0.out); have HB1 := Lib.hid (bx hgc HB1.out); have HB8 := Lib.hid hb8
          have HT := Lib.hid (HT.out.kept hgc); have HW := Lib.hid (HW.out.kept hgc)
          obtain ⟨a0, a1, a2⟩ := cells2 HB0.out
          obtain ⟨t0, t1, t2, t3, t4⟩ := cells4 HB8.out
          have hb0 : b0 < wc.heap.size := hlt HB0.out
          have hb1 : b1 < wc.heap.size := hlt HB1.out
          have hb8 : b8 < wc.heap.size := hlt HB8.out
          clear hcut hgc n0 n1 n2 n3 v1
          go_wp2_with fail
          have h13b : b1 < b8 := by have := HE1.out; omega
          go_region_held3 (fun w' => w'.cell? ⟨b0, 0, none⟩ = some (.slice pt tm ct) ∧ w'.cell? ⟨b0, 1, none⟩ = some (.slice (some ⟨g, off, none⟩) M cn) ∧ w'.cell? ⟨b8, 2, none⟩ = some (.string y21) ∧ w'.cell? ⟨b8, 3, none⟩ = some (.int .i64 (ap1 : Int)))
            (first | with_reducible exact ⟨a0, a1, t2, t3⟩ | with_reducible exact ⟨keep7 a0 (by omega), keep7 a1 (by omega), keep7 t2 (by omega), keep7 t3 (by omega)⟩ | go_keep)
            (first
            | (go_at_call 65; refine (HOP.out _).mono ?_; rintro e w4 ⟨rfl, hg4⟩; have HG4 := Lib.hid (gb_trans (show wc.grownBy _ none from (by repeat (first | with_reducible exact gb_refl _ _ | with_reducible refine gb_drew ?_ | with_reducible refine gb_alloc ?_ _))) hg4); obtain ⟨a0, a1, a2⟩ := cells2 (bx HG4.out HB0.out); obtain ⟨t0, t1, t2, t3, t4⟩ := cells4 (bx HG4.out HB8.out); have hb0 : b0 < w4.heap.size := Nat.lt_of_lt_of_le hb0 HG4.out.size; have hb8 : b8 < w4.heap.size := Nat.lt_of_lt_of_le hb8 HG4.out.size; clear hg4)
            | (go_at_call 64; refine (HM.out o10 ap1 _ (HT.out.kept (gb_trans HG4.out (by repeat (first | with_reducible exact gb_refl _ _ | with_reducible refine gb_drew ?_ | with_reducible refine gb_alloc ?_ _)))) (HW.out.kept (gb_trans HG4.out (by repeat (first | with_reducible exact gb_refl _ _ | with_reducible refine gb_drew ?_ | with_reducible refine gb_alloc ?_ _))))).mono ?_; rintro e w5 ⟨hg5, q, rfl, hq⟩; obtain ⟨pk, nk, ck, rfl, hq2⟩ := hq.plain; have HQ := Lib.hid hq2; have HG5 := Lib.hid (gb_trans HG4.out (gb_trans (show w4.grownBy _ none from (by repeat (first | with_reducible exact gb_refl _ _ | with_reducible refine gb_drew ?_ | with_reducible refine gb_alloc ?_ _))) hg5)); have HBW := Lib.hid (bx HG5.out HB1.out); obtain ⟨f0, f1, f2, f3, f4, f5, f6, f7⟩ := cells7c HBW.out; have hb1 : b1 < w5.heap.size := hlt HBW.out; obtain ⟨a0, a1, a2⟩ := cells2 (bx HG5.out HB0.out); obtain ⟨t0, t1, t2, t3, t4⟩ := cells4 (bx HG5.out HB8.out); clear hg5 hq hq2))
          all_goals
            go_wp2_with fail
            have HP := Lib.hid (rex_put (w := w) (gb_trans HGC.out (gb_trans HGK.out HG5.out)) HE1.out.1 HBW.out (HQ.out [] []) (fun k hk => by have h2 := HGC.out.size; have h3 := hlt HB1.out; have h4 := HGK.out.size; have h5 := HG4.out.size; have hk : w4.heap.size ≤ k := hk; exact ⟨by omega, by omega⟩))
            obtain ⟨hp, -⟩ := put7c HBW.out (.int .i64 (o10 : Int)) (.string ⟨#[]⟩) (.string ⟨#[]⟩) (.string ⟨#[]⟩) (.bool false) (.slice pk nk ck) (.int .i64 (ap1 : Int))
            obtain ⟨r0, r1, r2, r3, r4, r5, r6, -⟩ := cells7c hp
            refine bodyPost_ret (v := .agg #[(.int .i64 (o10 : Int)), (.string ⟨#[]⟩), (.string ⟨#[]⟩), (.string ⟨#[]⟩), (.bool false), (.slice pk nk ck), (.int .i64 (ap1 : Int))]) (by simp [results, Tryz.results28, go_sem, r0, r1, r2, r3, r4, r5, r6]) rfl HP.out
    | una i t h1 h2 => exact absurd hk (by decide)
    | grp i j t h1 => exact absurd hk (by decide)
    | call i j l' h1 => exact absurd hk (by decide)
    | callm i j k3 l' h1 => exact absurd hk (by decide)
    | nam i => exact absurd hk (by decide)
    | num i h1 => exact absurd hk (by decide)
    | tru i => exact absurd hk (by decide)
    | res i => exact absurd hk (by decide)
end Go.Proofs.YtdilncefhfbgeaaGreatDoor
