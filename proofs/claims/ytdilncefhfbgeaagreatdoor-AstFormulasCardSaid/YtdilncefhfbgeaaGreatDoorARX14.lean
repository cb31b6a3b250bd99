/- The document's Expr, of any node that the parser makes of an expression: the walk. -/
import Derived.StillTailTactics
import Derived.Deep.RegionHeld3
import Derived.Test.YtdilncefhfbgeaaGreatDoorARmade
set_option linter.unusedVariables false
set_option linter.unusedSimpArgs false
namespace Go.Proofs.YtdilncefhfbgeaaGreatDoor
open Go.RowKit

set_option maxRecDepth 100000 in
set_option maxHeartbeats 64000000 in
theorem rexpr_14 (T : List Tok) (N : List Nd) (K : Nat → Option Addr × Nat) (pt pn : Option Addr) (ct cn m : Nat) (hIH : RIH T N K pt pn ct cn m) (hT : T.length ≤ 40000) (hN : N.length ≤ 150000)
    (n : Nat) (ks : List Int) (kd : Nat) (l : List Tr) (hx : N[n]? = some ⟨(kd : Int), -1, ks⟩) (hkt : KT N n ks l) (hm : szRs l ≤ m) (hll : l.length ≤ 150000) (hko : kOks l) (hlv : ∀ z ∈ lvTs l, z < T.length) (hwe : WEs T l) (hs : ShE T kd l) (hk : kd = 14 ∨ kd = 15 ∨ kd = 16 ∨ kd = 17)
    (w : World) (ht : ToksAt w pt (T.map toI)) (hw : NodesAt w pn N K) :
    Calls Tryz.prog 28 #[.agg #[.slice pt T.length ct, .slice pn N.length cn], .int .i64 (n : Int)] w (RExPost (axT T (.nd kd l)) w) := by
  have HM := Lib.hid (fun (op ps : Nat) W h1 h2 => made_c T N K pt pn ct cn m hIH hT hN n ks (kd : Int) l hx hkt hm hll hko (good_kids hwe hko hlv) op ps W h1 h2)
  have HIX := Lib.hid hIH; have HKT := Lib.hid hkt; have HKO := Lib.hid hko; have HLV := Lib.hid hlv; have HWE := Lib.hid hwe; have HSH := Lib.hid hs; have HSZ := Lib.hid hm; have HTL := Lib.hid hT; have HNL := Lib.hid hN
  obtain ⟨k0, ak, y1, y2, ap, hk0, hf0, hL0⟩ := leaf_first (K := K) (pt := pt) (pn := pn) (ct := ct) (cn := cn) hT hN hkt hko hlv (by cases hs <;> simp)
  have HF0 := Lib.hid hf0
  have HL0 := Lib.hid hL0
  obtain ⟨kI, hkI⟩ : ∃ kI : Int, (kd : Int) = kI := ⟨_, rfl⟩
  have HKI := Lib.hid hkI
  rw [hkI] at hx
  obtain ⟨g, off, rfl, hgl, c0, c1, c2⟩ := node_at hw hx
  have HKA := Lib.hid (hw.2 n _ hx)
  have hn : n < N.length := (List.getElem?_eq_some_iff.1 hx).1
  have HW := Lib.hid hw; have HT := Lib.hid ht
  have HKL := Lib.hid hkt.1
  obtain ⟨M, hM⟩ : ∃ M, N.length = M := ⟨_, rfl⟩
  obtain ⟨tm, htm⟩ : ∃ tm, T.length = tm := ⟨_, rfl⟩
  obtain ⟨kl, hkl2⟩ : ∃ kl, ks.length = kl := ⟨_, rfl⟩
  have hl0 : 0 < kl := by rw [← hkl2, HKL.out]; cases hs <;> simp
  have HMM := Lib.hid hM; have HTM := Lib.hid htm; have HKN := Lib.hid hkl2
  simp only at c0 c1 c2
  rw [hM] at hn hN HM HL0 ⊢
  rw [htm] at hT HM HL0 ⊢
  rw [hkl2] at c2
  obtain ⟨kq, hkq⟩ : ∃ kq, (K n).1 = kq := ⟨_, rfl⟩
  obtain ⟨kc, hkc⟩ : ∃ kc, (K n).2 = kc := ⟨_, rfl⟩
  have HKA : Hid (VAt w kq (intsV ks)) := Lib.hid (by rw [← hkq]; exact HKA.out)
  rw [hkq, hkc] at c2
  have d1 : decide (n < M) = true := decide_eq_true hn
  have d1' : decide ((n : Int) < (M : Int)) = true := decide_eq_true (by omega)
  have HS0 : Hid (g < w.heap.size) := Lib.hid hgl
  obtain ⟨g1, off1, rfl, hgl1, v0⟩ := kid_at HKA.out hk0
  have HS1 : Hid (g1 < w.heap.size) := Lib.hid hgl1
  rw [Nat.add_zero] at v0
  have HV0 := Lib.hid v0
  have z0 : (0 : Int) < (kl : Int) := by omega
  have z0' : decide ((0 : Int) < (kl : Int)) = true := decide_eq_true z0
  have z0'' : decide (0 < kl) = true := decide_eq_true (by omega)
  obtain ⟨X, hX⟩ : ∃ X, axT T (.nd kd l) = X := ⟨_, rfl⟩
  have HX := Lib.hid hX
  rw [hX]
  clear hx hw ht hIH hM htm hkl2 hkq hkc hko hm hll hlv hwe hL0 hk0 hkt v0 hT hN hs hkI hf0 hX
  have hgC := gb_alloc (gb_alloc (World.grownBy_alloc w (.cells #[.slice pt tm ct, .slice (some ⟨g, off, none⟩) M cn] 46) none) (.cells #[.int .i64 0, .string ⟨#[]⟩, .string ⟨#[]⟩, .string ⟨#[]⟩, .bool false, .slice none 0 0, .int .i64 0] 68)) (.cells #[.int .i64 kI, .int .i64 (-1), .slice (some ⟨g1, off1, none⟩) kl kc] 108)
  have c0 := hgC.cell c0 (by simp)
  have c1 := hgC.cell c1 (by simp)
  have c2 := hgC.cell c2 (by simp)
  go_enter Tryz.func28, Tryz.ntmps28
  go_wp2_with fail
  obtain ⟨W, b0, b1, b2, hW, e0, e1, e2, hB0, hB1, hB2, hgW, h01, h12⟩ := three w (.cells #[.slice pt tm ct, .slice (some ⟨g, off, none⟩) M cn] 46) (.cells #[.int .i64 0, .string ⟨#[]⟩, .string ⟨#[]⟩, .string ⟨#[]⟩, .bool false, .slice none 0 0, .int .i64 0] 68) (.cells #[.int .i64 kI, .int .i64 (-1), .slice (some ⟨g1, off1, none⟩) kl kc] 108)
  have hsW : W.heap.size = b2 + 1 := by rw [hW]; simp; omega
  have HB0 := Lib.hid hB0; have HB1 := Lib.hid hB1; have HB2 := Lib.hid hB2; have HGW := Lib.hid hgW; have HE0 := Lib.hid e0; have HE1 := Lib.hid e1; have HSW := Lib.hid hsW
  clear hB0 hB1 hB2 hgW c2 hgC c0 c1
  try rw [← hW]
  try rw [e2]
  try rw [e1]
  try rw [e0]
  clear e0 e1 e2 hW hsW
  obtain ⟨a0, a1, a2⟩ := cells2 HB0.out
  obtain ⟨n0, n1, n2, n3⟩ := cells3 HB2.out
  have v0 := HGW.out.cell HV0.out (by simp)
  have hb0 : b0 < W.heap.size := hlt HB0.out
  have hb2 : b2 < W.heap.size := hlt HB2.out
  have hg1w : g1 < W.heap.size := Nat.lt_of_lt_of_le HS1.out HGW.out.size
  go_cut [6] (fun t6 wx => Hid (TokBox W b2 ak y1 y2 ap t6 wx))
  case first =>
    go_region_held3 (fun w' => w'.cell? ⟨b0, 0, none⟩ = some (.slice pt tm ct) ∧ w'.cell? ⟨b0, 1, none⟩ = some (.slice (some ⟨g, off, none⟩) M cn) ∧ w'.cell? ⟨b2, 2, none⟩ = some (.slice (some ⟨g1, off1, none⟩) kl kc) ∧ w'.cell? ⟨g1, off1, none⟩ = some (.int .i64 (k0 : Int)))
      (first | with_reducible exact ⟨a0, a1, n2, v0⟩ | with_reducible exact ⟨keep4 a0 (by omega), keep4 a1 (by omega), keep4 n2 (by omega), keep4 v0 (by omega)⟩ | go_keep)
      (first | (go_at_call 52; refine (HL0.out _ (HT.out.kept (gb_trans HGW.out (by repeat (first | with_reducible exact gb_refl _ _ | with_reducible refine gb_drew ?_ | with_reducible refine gb_alloc ?_ _)))) (HW.out.kept (gb_trans HGW.out (by repeat (first | with_reducible exact gb_refl _ _ | with_reducible refine gb_drew ?_ | with_reducible refine gb_alloc ?_ _))))).mono ?_; rintro e w2 ⟨rfl, hg2⟩; (try (have he2 := bx hg2 (heap_alloc_new W (.cells #[.int .i64 0, .string ⟨#[]⟩, .string ⟨#[]⟩, .int .i64 0] 110)))); (try (have hc4 := cells4 he2; obtain ⟨q0, q1, q2, q3, q4⟩ := hc4)); have HG2 := Lib.hid (gb_trans (show W.grownBy _ none from (by repeat (first | with_reducible exact gb_refl _ _ | with_reducible refine gb_drew ?_ | with_reducible refine gb_alloc ?_ _))) hg2); obtain ⟨a0, a1, a2⟩ := cells2 (bx HG2.out HB0.out); obtain ⟨n0, n1, n2, n3⟩ := cells3 (bx HG2.out HB2.out); have v0 := HG2.out.cell v0 (by simp); clear hg2))
    all_goals
      have s2 : W.heap.size ≤ w2.heap.size := HG2.out.size
      go_wp2_with fail
      go_meet
      first
        | (with_reducible refine Lib.hid (tok_new HG2.out ?_)
           omega)
        | (with_reducible refine Lib.hid (tok_old HG2.out (Nat.le_refl _) hb2 he2))
  case rest =>
    obtain ⟨b3, rfl, hb3, h23, hgc⟩ := hcut.out
    have HGC := Lib.hid (gb_trans HGW.out hgc)
    have HB0 := Lib.hid (bx hgc HB0.out); have HB1 := Lib.hid (bx hgc HB1.out); have HB2 := Lib.hid (bx hgc HB2.out); have HB3 := Lib.hid hb3
    have HT := Lib.hid (HT.out.kept HGC.out); have HW := Lib.hid (HW.out.kept HGC.out)
    have HE1 : Hid (w.heap.size ≤ b1 ∧ b1 < b2) := Lib.hid (by have := HE1.out; omega)
    obtain ⟨a0, a1, a2⟩ := cells2 HB0.out
    obtain ⟨n0, n1, n2, n3⟩ := cells3 HB2.out
    obtain ⟨t0, t1, t2, t3, t4⟩ := cells4 HB3.out
    have hb0 : b0 < wc.heap.size := hlt HB0.out
    have hb1 : b1 < wc.heap.size := hlt HB1.out
    have HLC : Hid (b1 < wc.heap.size) := Lib.hid hb1
    have hb2 : b2 < wc.heap.size := hlt HB2.out
    have hb3 : b3 < wc.heap.size := hlt HB3.out
    have hg1w : g1 < wc.heap.size := Nat.lt_of_lt_of_le HS1.out HGC.out.size
    clear hcut hgc
    have hs := HSH.out
    cases hs with
    | let_ i j k' m' t u h1 h2 => exact absurd hk (by decide)
    | if_ i j k' t u v h1 h2 h3 => exact absurd hk (by decide)
    | assert_ i j t u h1 h2 => exact absurd hk (by decide)
    | bin i t u h1 h2 h3 => exact absurd hk (by decide)
    | una i t h1 h2 => exact absurd hk (by decide)
    | grp i j t h1 => exact absurd hk (by decide)
    | call i j l' h1 => exact absurd hk (by decide)
    | callm i j k3 l' h1 => exact absurd hk (by decide)
    | nam i =>
      clear hk
      obtain rfl : kI = 14 := by rw [← HKI.out]; rfl
      obtain ⟨hy, hap⟩ := HF0.out i rfl
      have HY := Lib.hid hy
      have hx := HX.out.symm.trans (ax14 T i)
      rw [← hap] at hx
      subst hx
      clear HX hap hy
      have HXX : Hid (RAt (fun _ => False) wc _ [(.int .i64 3), (.string y2), (.string ⟨#[]⟩), (.string ⟨#[]⟩), (.bool false), (.slice none 0 0), (.int .i64 (ap : Int))]) := Lib.hid (by rw [HY.out]; exact RAt.none_ 3 ap (tkT T i).text [] false)
      obtain ⟨f0, f1, f2, f3, f4, f5, f6, f7⟩ := cells7c HB1.out
      go_wp2_with fail
      have HP := Lib.hid (rex_put (w := w) HGC.out HE1.out.1 HB1.out HXX.out (fun k hk => hk.elim))
      obtain ⟨hp, -⟩ := put7c HB1.out (.int .i64 3) (.string y2) (.string ⟨#[]⟩) (.string ⟨#[]⟩) (.bool false) (.slice none 0 0) (.int .i64 (ap : Int))
      obtain ⟨r0, r1, r2, r3, r4, r5, r6, -⟩ := cells7c hp
      refine bodyPost_ret (v := .agg #[(.int .i64 3), (.string y2), (.string ⟨#[]⟩), (.string ⟨#[]⟩), (.bool false), (.slice none 0 0), (.int .i64 (ap : Int))]) (by simp [results, Tryz.results28, go_sem, r0, r1, r2, r3, r4, r5, r6]) rfl HP.out
    | num i h1 =>
      clear hk
      obtain rfl : kI = 15 := by rw [← HKI.out]; rfl
      obtain ⟨hy, hap⟩ := HF0.out i rfl
      have HY := Lib.hid hy
      have hx := HX.out.symm.trans (ax15 T i)
      rw [← hap] at hx
      subst hx
      clear HX hap hy
      have HXX : Hid (RAt (fun _ => False) wc _ [(.int .i64 1), (.string ⟨#[]⟩), (.string ⟨#[]⟩), (.string y2), (.bool false), (.slice none 0 0), (.int .i64 (ap : Int))]) := Lib.hid (by rw [HY.out]; exact RAt.none_ 1 ap [] (tkT T i).text false)
      obtain ⟨f0, f1, f2, f3, f4, f5, f6, f7⟩ := cells7c HB1.out
      go_wp2_with fail
      have HP := Lib.hid (rex_put (w := w) HGC.out HE1.out.1 HB1.out HXX.out (fun k hk => hk.elim))
      obtain ⟨hp, -⟩ := put7c HB1.out (.int .i64 1) (.string ⟨#[]⟩) (.string ⟨#[]⟩) (.string y2) (.bool false) (.slice none 0 0) (.int .i64 (ap : Int))
      obtain ⟨r0, r1, r2, r3, r4, r5, r6, -⟩ := cells7c hp
      refine bodyPost_ret (v := .agg #[(.int .i64 1), (.string ⟨#[]⟩), (.string ⟨#[]⟩), (.string y2), (.bool false), (.slice none 0 0), (.int .i64 (ap : Int))]) (by simp [results, Tryz.results28, go_sem, r0, r1, r2, r3, r4, r5, r6]) rfl HP.out
    | tru i =>
      by_cases h16 : (tkT T i).text = [116, 114, 117, 101]
      · clear hk
        obtain rfl : kI = 16 := by rw [← HKI.out]; rfl
        obtain ⟨hy, hap⟩ := HF0.out i rfl
        have HY := Lib.hid hy
        have hx := HX.out.symm.trans (ax16t T i h16)
        rw [← hap] at hx
        have e1 : (y2.toList == [116, 114, 117, 101]) = true := by rw [toList_data, HY.out]; rw [h16]; rfl
        subst hx
        clear HX hap hy
        have HXX : Hid (RAt (fun _ => False) wc _ [(.int .i64 2), (.string ⟨#[]⟩), (.string ⟨#[]⟩), (.string ⟨#[]⟩), (.bool true), (.slice none 0 0), (.int .i64 (ap : Int))]) := Lib.hid (by exact RAt.none_ 2 ap [] [] true)
        obtain ⟨f0, f1, f2, f3, f4, f5, f6, f7⟩ := cells7c HB1.out
        go_wp2_with fail
        have HP := Lib.hid (rex_put (w := w) HGC.out HE1.out.1 HB1.out HXX.out (fun k hk => hk.elim))
        obtain ⟨hp, -⟩ := put7c HB1.out (.int .i64 2) (.string ⟨#[]⟩) (.string ⟨#[]⟩) (.string ⟨#[]⟩) (.bool true) (.slice none 0 0) (.int .i64 (ap : Int))
        obtain ⟨r0, r1, r2, r3, r4, r5, r6, -⟩ := cells7c hp
        refine bodyPost_ret (v := .agg #[(.int .i64 2), (.string ⟨#[]⟩), (.string ⟨#[]⟩), (.string ⟨#[]⟩), (.bool true), (.slice none 0 0), (.int .i64 (ap : Int))]) (by simp [results, Tryz.results28, go_sem, r0, r1, r2, r3, r4, r5, r6]) rfl HP.out
      · clear hk
        obtain rfl : kI = 16 := by rw [← HKI.out]; rfl
        obtain ⟨hy, hap⟩ := HF0.out i rfl
        have HY := Lib.hid hy
        have hx := HX.out.symm.trans (ax16f T i h16)
        rw [← hap] at hx
        have e1 : (y2.toList == [116, 114, 117, 101]) = false := by rw [toList_data, HY.out]; exact beq_eq_false_iff_ne.2 h16
        subst hx
        clear HX hap hy
        have HXX : Hid (RAt (fun _ => False) wc _ [(.int .i64 2), (.string ⟨#[]⟩), (.string ⟨#[]⟩), (.string ⟨#[]⟩), (.bool false), (.slice none 0 0), (.int .i64 (ap : Int))]) := Lib.hid (by exact RAt.none_ 2 ap [] [] false)
        obtain ⟨f0, f1, f2, f3, f4, f5, f6, f7⟩ := cells7c HB1.out
        go_wp2_with fail
        have HP := Lib.hid (rex_put (w := w) HGC.out HE1.out.1 HB1.out HXX.out (fun k hk => hk.elim))
        obtain ⟨hp, -⟩ := put7c HB1.out (.int .i64 2) (.string ⟨#[]⟩) (.string ⟨#[]⟩) (.string ⟨#[]⟩) (.bool false) (.slice none 0 0) (.int .i64 (ap : Int))
        obtain ⟨r0, r1, r2, r3, r4, r5, r6, -⟩ := cells7c hp
        refine bodyPost_ret (v := .agg #[(.int .i64 2), (.string ⟨#[]⟩), (.string ⟨#[]⟩), (.string ⟨#[]⟩), (.bool false), (.slice none 0 0), (.int .i64 (ap : Int))]) (by simp [results, Tryz.results28, go_sem, r0, r1, r2, r3, r4, r5, r6]) rfl HP.out
    | res i =>
      clear hk
      obtain rfl : kI = 17 := by rw [← HKI.out]; rfl
      obtain ⟨hy, hap⟩ := HF0.out i rfl
      have HY := Lib.hid hy
      have hx := HX.out.symm.trans (ax17 T i)
      rw [← hap] at hx
      subst hx
      clear HX hap hy
      have HXX : Hid (RAt (fun _ => False) wc _ [(.int .i64 4), (.string ⟨#[]⟩), (.string ⟨#[]⟩), (.string ⟨#[]⟩), (.bool false), (.slice none 0 0), (.int .i64 (ap : Int))]) := Lib.hid (by exact RAt.none_ 4 ap [] [] false)
      obtain ⟨f0, f1, f2, f3, f4, f5, f6, f7⟩ := cells7c HB1.out
      go_wp2_with fail
      have HP := Lib.hid (rex_put (w := w) HGC.out HE1.out.1 HB1.out HXX.out (fun k hk => hk.elim))
      obtain ⟨hp, -⟩ := put7c HB1.out (.int .i64 4) (.string ⟨#[]⟩) (.string ⟨#[]⟩) (.string ⟨#[]⟩) (.bool false) (.slice none 0 0) (.int .i64 (ap : Int))
      obtain ⟨r0, r1, r2, r3, r4, r5, r6, -⟩ := cells7c hp
      refine bodyPost_ret (v := .agg #[(.int .i64 4), (.string ⟨#[]⟩), (.string ⟨#[]⟩), (.string ⟨#[]⟩), (.bool false), (.slice none 0 0), (.int .i64 (ap : Int))]) (by simp [results, Tryz.results28, go_sem, r0, r1, r2, r3, r4, r5, r6]) rfl HP.out
end Go.Proofs.YtdilncefhfbgeaaGreatDoor
