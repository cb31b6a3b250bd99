/- Lemmas. -/
import Derived.Test.YtddccnpohpaofaaGreatDoorP21
set_option linter.unusedVariables false
set_option linter.unusedSimpArgs false
namespace Go.Proofs.YtddccnpohpaofaaGreatDoor
open Go.RowKit

set_option maxRecDepth 100000 in
set_option maxHeartbeats 16000000 in
theorem expr_c {T : List Tok} {N : List Nd} {K : Kf} (hT : T.length ≤ 150000) (hN : N.length ≤ 150000) (pt pn : Option Addr) (ct cn : Nat) : ∀ (m : Nat) (t : Tr) (kx : Int) (w : World), m ≤ 150000 → szR t ≤ m → GoodE T N kx t → TAt w pt T → NodesAt w pn N K → LaidS w →
    Calls Tryz.prog 20 #[.agg #[.slice pt T.length ct, .slice pn N.length cn], .int .i64 kx] w (ExPost (axT T t) w) := by
  intro m
  induction m with
  | zero => intro t kx w _ h; have := szR_pos t; omega
  | succ m ih =>
    intro t kx w hm hsz hgd ht hn hla
    have IH := Lib.hid ih
    have HKI := Lib.hid (fun (n : Nat) (x : Nd) W (hx : N[n]? = some x) h => kind_r (K := K) hN hx pt pn T.length ct cn W h)
    have HKD := Lib.hid (fun (n : Nat) (x : Nd) W (hx : N[n]? = some x) h => kids_r (K := K) hN hx pt pn T.length ct cn W h)
    have HTK := Lib.hid (fun (n : Nat) (k : Nat) (ks : List Int) (l : List Tr) W (hx : N[n]? = some ⟨(k : Int), -1, ks⟩) (hkt : KT N n ks l) (hko : kOks l) (hlv : ∀ i ∈ lvTs l, i < T.length) (hlm : l.length ≤ 150000) h1 h2 => aTokens_c (K := K) hT hN hx hkt hko hlv hlm pt pn ct cn W h1 h2)
    have HT := Lib.hid ht; have HN := Lib.hid hn; have HLA := Lib.hid hla
    have HGD := Lib.hid hgd
    obtain ⟨mt, hmt⟩ : ∃ mt, T.length = mt := ⟨_, rfl⟩
    obtain ⟨mn, hmn⟩ : ∃ mn, N.length = mn := ⟨_, rfl⟩
    rw [hmt, hmn] at HKI HKD HTK IH ⊢
    have HMT := Lib.hid hmt
    clear ht hn hla ih hT hN hmt hmn hgd
    go_enter Tryz.func20, Tryz.ntmps20
    go_wp2_with fail
    obtain ⟨W, b0, b1, hW, e0, e1, hB0, hB1, hgW, h01⟩ := two w (.cells #[.slice pt mt ct, .slice pn mn cn] 66) (.cells #[.int .i64 0, .string ⟨#[]⟩, .string ⟨#[]⟩, .bool false, .slice none 0 0, .bool false, .slice none 0 0, .int .i64 0] 30)
    have HB0 := Lib.hid hB0; have HB1 := Lib.hid hB1; have HGW := Lib.hid hgW; have HE0 := Lib.hid e0
    clear hB0 hB1 hgW
    try rw [← hW]
    try rw [e1]
    try rw [e0]
    clear e0 e1 hW
    go_loopg [1] (m + 1) (fun gk nv wr => ∃ (t' : Tr) (kx' : Int), nv = .int .i64 kx' ∧ szR t' ≤ gk ∧ gk ≤ m + 1 ∧ Hid (GoodE T N kx' t') ∧ Hid (axT T t' = axT T t) ∧ Hid (W.grownBy wr none))
    case atStart => exact ⟨t, kx, rfl, hsz, Nat.le_refl _, HGD, Lib.hid rfl, Lib.hid (gb_refl _ _)⟩
    case round =>
      obtain ⟨t', kx', rfl, hs', hgk, HG', HA', HW'⟩ := hrel
      obtain ⟨nd', we', ko', lv', pl'⟩ := HG'.out
      cases t' with
      | lf i => simp [isN] at nd'
      | nd k l =>
        obtain ⟨n, ks, rfl, hx, hkt⟩ := pl'.nd
        simp only [WE] at we'
        simp only [kOk] at ko'
        simp only [lvT] at lv'
        have hb0 := bx HW'.out HB0.out
        have HB0r := Lib.hid hb0
        obtain ⟨a0, a1, a2⟩ := cells2 hb0
        have HNr := Lib.hid (HN.out.kept (gb_trans HGW.out HW'.out)); have HTr := Lib.hid (HT.out.kept (gb_trans HGW.out HW'.out)); have HLr := Lib.hid (HLA.out.kept (gb_trans HGW.out HW'.out))
        have HK1 := Lib.hid (fun W h => HKI.out n _ W hx h)
        clear hb0 nd' pl'
        by_cases h12 : k = 12
        · have e1 : ((k : Int) == 12) = true := by rw [h12]; rfl
          obtain ⟨i, j, u, rfl, hu⟩ : ∃ i j u, l = [.lf i, u, .lf j] ∧ isN u = true := by
            have h := we'.1
            rw [h12] at h
            cases h with
            | grp i j u h1 => exact ⟨i, j, u, rfl, h1⟩
          obtain ⟨k1, hk1, hta, -⟩ := hkt.2 1 u rfl
          have HK2 := Lib.hid (fun W h => HKD.out n _ W hx h)
          obtain ⟨g, off, hpk, hgl, ck⟩ := kid_at (HNr.out.2 n _ hx) hk1
          have hL : ks.length = 3 := hkt.1
          obtain ⟨L, hLL⟩ : ∃ L, ks.length = L := ⟨_, rfl⟩
          rw [hLL] at hL
          have HK2 : Hid (∀ W, NodesAt W pn N K → Calls Tryz.prog 21 #[.agg #[.slice pt mt ct, .slice pn mn cn], .int .i64 (n : Int)] W (ValPost (.slice (some ⟨g, off, none⟩) L (K n).2) W)) := Lib.hid (by rw [← hpk, ← hLL]; exact HK2.out)
          have z1 : decide (1 < L) = true := decide_eq_true (by omega)
          have z1' : decide ((1 : Int) < (L : Int)) = true := decide_eq_true (by omega)
          have zz1 : (1 : Int) < (L : Int) := by omega
          have HU : Hid (GoodE T N (k1 : Int) u) := Lib.hid ⟨hu, (by have h := WEs_get we'.2 (j := 1) (t := u) rfl; exact h), kOks_get ko'.2.2 (j := 1) (t := u) rfl, fun i hi => lv' i (lvTs_get (j := 1) (t := u) rfl i hi), hta⟩
          have HAU : Hid (axT T u = axT T t) := Lib.hid (by
            have h : axT T (.nd k [.lf i, u, .lf j]) = axT T u := by rw [h12]; exact grp_ax T i j hu
            rw [← h]; exact HA'.out)
          have HSU : Hid (szR u + 2 < gk) := Lib.hid (by simp only [szR, szRs] at hs'; omega)
          generalize (K n).2 = cc at *
          clear hx hkt hk1 hta hpk hu hLL hL h12 we' ko' lv' hs' HG' HA'
          go_wp2_with fail
          refine (HK1.out _ HNr.out).mono ?_
          rintro e w1 ⟨rfl, hg1⟩
          have hb0 := bx hg1 HB0r.out
          have HB01 := Lib.hid hb0
          obtain ⟨a0, a1, a2⟩ := cells2 hb0
          have HN1 := Lib.hid (HNr.out.kept hg1)
          have HG1 := Lib.hid (gb_trans HW'.out hg1)
          have ck := hg1.cell ck (by simp)
          have hgl := Nat.lt_of_lt_of_le hgl hg1.size
          clear hg1 HK1 hb0
          go_wp2_with fail
          refine (HK2.out _ HN1.out).mono ?_
          rintro e w2 ⟨rfl, hg2⟩
          have HG2 := Lib.hid (gb_trans HG1.out hg2)
          have ck := hg2.cell ck (by simp)
          have hgl := Nat.lt_of_lt_of_le hgl hg2.size
          clear hg2 HK2
          go_wp2_with fail
          go_roundg (szR u)
          case measure => have := HSU.out; omega
          case rel => exact ⟨u, _, rfl, Nat.le_refl _, by have := HSU.out; omega, HU, HAU, HG2⟩
        · have e1 : ((k : Int) == 12) = false := beq_eq_false_iff_ne.2 (by omega)
          have e1' : (k == 12) = false := beq_eq_false_iff_ne.2 h12
          have HWE := Lib.hid we'; have HKO := Lib.hid ko'; have HLV := Lib.hid lv'; have HX := Lib.hid hx; have HKT := Lib.hid hkt; have H12 := Lib.hid h12
          have HSZ : Hid (szRs l ≤ m) := Lib.hid (by simp only [szR] at hs'; omega)
          clear we' ko' lv' hx hkt h12 hs'
          go_wp2_with fail
          refine (HK1.out _ HNr.out).mono ?_
          rintro e w1 ⟨rfl, hg1⟩
          have HG1 := Lib.hid (gb_trans HW'.out hg1)
          have hb0 := bx hg1 HB0r.out
          have HB01 := Lib.hid hb0
          obtain ⟨a0, a1, a2⟩ := cells2 hb0
          have HN1 := Lib.hid (HNr.out.kept hg1); have HT1 := Lib.hid (HTr.out.kept hg1); have HL1 := Lib.hid (HLr.out.kept hg1)
          clear hg1 hb0 HB0r HNr HTr HLr
          have HK2 := Lib.hid (fun W h1 h2 => HTK.out n k ks l W HX.out HKT.out HKO.out.2.2 (fun i hi => by rw [← HMT.out]; exact HLV.out i hi) (by have := len_szRs l; have := HSZ.out; omega) h1 h2)
          have HK3 := Lib.hid (fun W p c h1 h2 => with_all HWE.out.1 H12.out p c W (by have := len_szRs l; have := HSZ.out; omega) h1 h2)
          obtain ⟨op, nm, md, nu, ys, ps, hnd⟩ := nodeE_kids k (fun j => tkT T ((ownL l).getD j T.length))
          rw [hnd] at HK3
          have HND := Lib.hid hnd
          have HSW := Lib.hid HG1.out.size
          have HBS : Hid (b1 < w1.heap.size) := Lib.hid (Nat.lt_of_lt_of_le (hlt HB1.out) HG1.out.size)
          have hbs0 : b0 < w1.heap.size := by have := HBS.out; omega
          have HGW1 := Lib.hid (gb_trans HGW.out HG1.out)
          clear hnd
          go_wp2_with fail
          go_cut [5] (fun t5 wx => Hid (AfterE w b1 op ps nm md nu ys t5 wx ∧ w1.grownBy wx none))
          case first =>
            go_region_with (first
              | (go_at_call 48; refine (HK1.out _ (HN1.out.kept (by repeat (first | with_reducible exact gb_refl _ _ | with_reducible refine gb_drew ?_ | with_reducible refine gb_alloc ?_ _)))).mono ?_; rintro e w2 ⟨rfl, hg2⟩; (try (have he2 := bx hg2 (heap_alloc_new w1 (.cells #[.int .i64 0, .string ⟨#[]⟩, .string ⟨#[]⟩, .bool false, .slice none 0 0, .bool false, .slice none 0 0, .int .i64 0] 30)))); have HG2 := Lib.hid (gb_trans (show w1.grownBy _ none from (by repeat (first | with_reducible exact gb_refl _ _ | with_reducible refine gb_drew ?_ | with_reducible refine gb_alloc ?_ _))) hg2); have hs2 := HG2.out.size; obtain ⟨d0, d1, d2⟩ := cells2 (bx HG2.out HB01.out); have hbs2 : b0 < w2.heap.size := Nat.lt_of_lt_of_le hbs0 hs2; clear hg2)
              | (go_at_call 50; refine (HK2.out _ (HT1.out.kept (gb_trans HG2.out (by repeat (first | with_reducible exact gb_refl _ _ | with_reducible refine gb_drew ?_ | with_reducible refine gb_alloc ?_ _)))) (HN1.out.kept (gb_trans HG2.out (by repeat (first | with_reducible exact gb_refl _ _ | with_reducible refine gb_drew ?_ | with_reducible refine gb_alloc ?_ _))))).mono ?_; rintro e w3 ⟨hg3, po, co, rfl, hto⟩; (try (have he3 := bx hg3 he2)); (try (have he3 := bx hg3 (heap_alloc_new w2 (.cells #[.int .i64 0, .string ⟨#[]⟩, .string ⟨#[]⟩, .bool false, .slice none 0 0, .bool false, .slice none 0 0, .int .i64 0] 30)))); have HTO := Lib.hid hto; have HG3 := Lib.hid (gb_trans (gb_trans HG2.out (show w2.grownBy _ none from (by repeat (first | with_reducible exact gb_refl _ _ | with_reducible refine gb_drew ?_ | with_reducible refine gb_alloc ?_ _)))) hg3); clear hg3 hto)
              | (go_at_call 49; refine (HK3.out _ _ _ (HTO.out.kept (by repeat (first | with_reducible exact gb_refl _ _ | with_reducible refine gb_drew ?_ | with_reducible refine gb_alloc ?_ _))) (HL1.out.kept (gb_trans HG3.out (by repeat (first | with_reducible exact gb_refl _ _ | with_reducible refine gb_drew ?_ | with_reducible refine gb_alloc ?_ _))))).mono ?_; rintro e w4 ⟨hg4, q, rfl, hq, hq6⟩; obtain ⟨s, pw, nw, cw, rfl, hnum⟩ := hq.parts hq6; (try (have he4 := bx hg4 he3)); (try (have he4 := bx hg4 (heap_alloc_new w3 (.cells #[.int .i64 0, .string ⟨#[]⟩, .string ⟨#[]⟩, .bool false, .slice none 0 0, .bool false, .slice none 0 0, .int .i64 0] 30)))); (try (have hc4 := cells8x he4; obtain ⟨c0, c1, c2, c3, c4, c5, c6, c7, c8⟩ := hc4)); have HNUM := Lib.hid hnum; have HG4 := Lib.hid (gb_trans (gb_trans HG3.out (show w3.grownBy _ none from (by repeat (first | with_reducible exact gb_refl _ _ | with_reducible refine gb_drew ?_ | with_reducible refine gb_alloc ?_ _)))) hg4); (try clear hg4); (try clear hq); (try clear hq6); (try clear hnum)))
            all_goals
              have s3 : w1.heap.size ≤ w3.heap.size := HG3.out.size
              have s4 : w1.heap.size ≤ w4.heap.size := HG4.out.size
              have s1 : w.heap.size ≤ w1.heap.size := HGW1.out.size
              have hb1w := HBS.out
              go_wp2_with fail
              go_meet
              have hgw4 := gb_trans HGW1.out HG4.out
              have hnum := HNUM.out
              first
                | (with_reducible refine Lib.hid ⟨after_new (w3 := w3) hgw4 ?_ ?_ ?_ ?_, gb_alloc HG4.out _⟩
                   · omega
                   · omega
                   · omega
                   · exact hnum)
                | (with_reducible refine Lib.hid ⟨after_old (w3 := w3) (b := w1.heap.size) hgw4 ?_ ?_ ?_ ?_ he4 ?_, old_gb HG4.out ?_ he4⟩
                   · omega
                   · omega
                   · omega
                   · exact hlt he3
                   · exact hnum
                   · omega)
                | (with_reducible refine Lib.hid ⟨after_old (w3 := w3) (b := w2.heap.size) hgw4 ?_ ?_ ?_ ?_ he4 ?_, old_gb HG4.out ?_ he4⟩
                   · omega
                   · omega
                   · omega
                   · exact hlt he3
                   · exact hnum
                   · omega)
                | (with_reducible refine Lib.hid ⟨after_old (w3 := (w3.alloc (.cells #[.int .i64 0, .string ⟨#[]⟩, .string ⟨#[]⟩, .bool false, .slice none 0 0, .bool false, .slice none 0 0, .int .i64 0] 30))) (b := w3.heap.size) hgw4 ?_ ?_ ?_ ?_ he4 ?_, old_gb HG4.out ?_ he4⟩
                   · simp; omega
                   · omega
                   · omega
                   · simp
                   · exact hnum
                   · omega)
          case rest =>
            obtain ⟨⟨b2, s, pw, nw, cw, rfl, hb2, hnum, h12b, hgw⟩, hgc⟩ := hcut.out
            have HGC := Lib.hid hgc; have HNUM := Lib.hid hnum; have HGWC := Lib.hid hgw
            have HNc := Lib.hid (HN1.out.kept hgc); have HTc := Lib.hid (HT1.out.kept hgc); have HLc := Lib.hid (HL1.out.kept hgc)
            have HB0c := Lib.hid (bx hgc HB01.out)
            have HB1c := Lib.hid (bx (gb_trans HG1.out hgc) HB1.out)
            have HB2c := Lib.hid hb2
            have HKK := Lib.hid (HKD.out n _ wc HX.out HNc.out)
            have hkl : ks.length = l.length := HKT.out.1
            obtain ⟨M, hM⟩ : ∃ M, ks.length = M := ⟨_, rfl⟩
            have HML : Hid (M = l.length) := Lib.hid (by rw [← hM]; exact hkl)
            have hMm : M ≤ 150000 := by have := len_szRs l; have := HSZ.out; omega
            have HKK : Hid (Calls Tryz.prog 21 #[.agg #[.slice pt mt ct, .slice pn mn cn], .int .i64 (n : Int)] wc (ValPost (.slice (K n).1 M (K n).2) wc)) := Lib.hid (by rw [← hM]; exact HKK.out)
            have HKV : Hid (∀ W, NodesAt W pn N K → VAt W (K n).1 (intsV ks)) := Lib.hid (fun W h => h.2 n _ HX.out)
            obtain ⟨a0, a1, a2⟩ := cells2 HB0c.out
            generalize (K n).1 = pk at *
            generalize (K n).2 = ck at *
            clear hcut hgc hnum hgw hb2 hkl hM HK1 HK2 HK3 HN1 HT1 HL1 HB01
            go_wp2_with fail
            refine HKK.out.mono ?_
            rintro e w5 ⟨rfl, hg5⟩
            have HG5 := Lib.hid hg5
            have HN5 := Lib.hid (HNc.out.kept hg5); have HT5 := Lib.hid (HTc.out.kept hg5); have HL5 := Lib.hid (HLc.out.kept hg5)
            have HB05 := Lib.hid (bx hg5 HB0c.out); have HB15 := Lib.hid (bx hg5 HB1c.out); have HB25 := Lib.hid (bx hg5 HB2c.out)
            have HNU5 : Hid (NumAt (fun k => b1 + 1 ≤ k ∧ k < w5.heap.size ∧ k ≠ b2) w5 op nu s pw nw cw) := Lib.hid ((HNUM.out.same (S := fun _ => False) (Fr2.none hg5) (fun _ _ h => h)).mono (fun k hk => ⟨hk.1, Nat.lt_of_lt_of_le hk.2.1 hg5.size, hk.2.2⟩))
            have HG5W := Lib.hid (gb_trans HGWC.out hg5)
            have HS2 : Hid (b2 < w5.heap.size) := Lib.hid (hlt HB25.out)
            have hb05 : b0 < w5.heap.size := by have := HS2.out; omega
            clear HKK hg5 HNc HTc HLc HB0c HB1c HB2c HNUM
            obtain ⟨a0, a1, a2⟩ := cells2 HB05.out
            go_wp2_with fail
            go_loopw [28] (fun iv wr => ∃ (j : Nat) (rows : List (List Value)) (pv : Option Addr) (nv cv : Nat), j ≤ M ∧ iv = .int .i64 (j : Int) ∧ Hid (wr.heap[b2]? = some (.cells #[.int .i64 (op : Int), .string ⟨nm.toArray⟩, .string ⟨md.toArray⟩, .bool s, .slice pw nw cw, .bool ys, .slice pv nv cv, .int .i64 (ps : Int)] 30 (0, 0))) ∧ Hid (OwnG 8 30 wr w5.heap.size (.slice pv nv cv) rows) ∧ Hid (LsE (fun k => b1 + 1 ≤ k ∧ k < wr.heap.size ∧ k ≠ b2 ∧ (Value.slice pv nv cv).ownBlock ≠ some k) wr (axTs T (l.take j)) rows) ∧ Hid (Fr2 (fun k => k = b2) w5 wr)) (fun iv _ => M - (intOf iv).toNat)
            case atStart => exact ⟨0, [], none, 0, 0, Nat.zero_le _, rfl, HB25, Lib.hid (OwnG.nil _ _ _ _), Lib.hid (by simp [axTs, LsE]), Lib.hid (Fr2.refl _ _)⟩
            case round =>
              obtain ⟨j, rows, pv, nv, cv, hj, rfl, HB2r, HO, HLS, HF⟩ := hrel
              have HGr : Hid (w.grownBy wr none) := Lib.hid (Fr2.after HG5W.out HF.out (fun i hi => by have := HE0.out; omega))
              have HNr := Lib.hid (HN.out.kept HGr.out)
              have HTr := Lib.hid (HT.out.kept HGr.out)
              have HLr := Lib.hid (HLA.out.kept HGr.out)
              have HB0r := Lib.hid (HF.out.keep HB05.out (by omega))
              have HB1r := Lib.hid (HF.out.keep HB15.out (by omega))
              obtain ⟨a0, a1, a2⟩ := cells2 HB0r.out
              obtain ⟨c0, c1, c2, c3, c4, c5, c6, c7, c8⟩ := cells8x HB2r.out
              have hb0r : b0 < wr.heap.size := hlt HB0r.out
              have hb2r : b2 < wr.heap.size := hlt HB2r.out
              by_cases hlt : j < M
              · obtain ⟨u, hu⟩ : ∃ u, l[j]? = some u := ⟨l[j]'(by have := HML.out; omega), List.getElem?_eq_getElem _⟩
                obtain ⟨k1, hk1, hta, hkn⟩ := HKT.out.2 j u hu
                obtain ⟨g, off, rfl, hgl, ck0⟩ := kid_at (HKV.out _ HNr.out) hk1
                have y1 : (0 : Int) ≤ (j : Int) := by omega
                have y2 : (j : Int) < (M : Int) := by omega
                have y3 : decide (j < M) = true := decide_eq_true hlt
                have y4 : decide ((j : Int) < (M : Int)) = true := decide_eq_true y2
                cases u with
                | lf i =>
                  obtain ⟨n', hn', hnx⟩ := hta.lf
                  have hn' : k1 = n' := by omega
                  subst hn'
                  have HK1 := Lib.hid (HKI.out k1 _ wr hnx HNr.out)
                  have HTE := Lib.hid (axTs_lf T hu)
                  clear hu hk1 hta hkn hnx
                  go_wp2_with fail
                  refine HK1.out.mono ?_
                  rintro e w6 ⟨rfl, hg6⟩
                  have HG6 := Lib.hid hg6
                  clear hg6 HK1
                  go_wp2_with fail
                  go_roundw
                  case rel => exact ⟨j + 1, rows, pv, nv, cv, by omega, by go_num, Lib.hid (bx HG6.out HB2r.out), Lib.hid (HO.out.kept HG6.out), Lib.hid (by rw [HTE.out]; exact LsE.mono (fun k hk => ⟨hk.1, Nat.lt_of_lt_of_le hk.2.1 HG6.out.size, hk.2.2⟩) (HLS.out.kept HG6.out)), Lib.hid (HF.out.trans (Fr2.none HG6.out))⟩
                  case measure => simp [intOf]; omega
                | nd m' q' =>
                  obtain ⟨n', ks', hn', hnx, -⟩ := hta.nd
                  have hn' : k1 = n' := by omega
                  subst hn'
                  have hkd := kOks_get HKO.out.2.2 hu
                  have hkd2 := hkd
                  simp only [kOk] at hkd
                  have hne : ((m' : Int) != 19) = true := bne_iff_ne.2 (by omega)
                  have hne' : (m' != 19) = true := bne_iff_ne.2 (by omega)
                  have HK1 := Lib.hid (HKI.out k1 _ wr hnx HNr.out)
                  have HTE := Lib.hid (axTs_nd T hu rfl)
                  have HGU : Hid (GoodE T N (k1 : Int) (.nd m' q')) := Lib.hid ⟨rfl, WEs_get HWE.out.2 hu, hkd2, fun i hi => HLV.out i (lvTs_get hu i hi), hta⟩
                  have HIH := Lib.hid (fun W h1 h2 h3 => IH.out (.nd m' q') (k1 : Int) W (by omega) (Nat.le_trans (szRs_get hu) HSZ.out) HGU.out h1 h2 h3)
                  have HRL : Hid (rows.length ≤ 1000000) := Lib.hid (by have h1 := Ls_len HLS.out; have h2 := axTs_len T (l.take j); have h3 := List.length_take (i := j) (l := l); omega)
                  obtain ⟨pv', cv', hve, -⟩ := HO.out.is
                  have hve2 : nv = rows.length := by injection hve
                  have HNV := Lib.hid hve2
                  clear hu hk1 hta hkn hnx hkd hkd2 hve hve2
                  go_wp2_with fail
                  refine HK1.out.mono ?_
                  rintro e w6 ⟨rfl, hg6⟩
                  have HG6 := Lib.hid hg6
                  have HB26 := Lib.hid (bx hg6 HB2r.out); have HB06 := Lib.hid (bx hg6 HB0r.out)
                  have HN6 := Lib.hid (HNr.out.kept hg6); have HT6 := Lib.hid (HTr.out.kept hg6); have HL6 := Lib.hid (HLr.out.kept hg6)
                  have HO6 := Lib.hid (HO.out.kept hg6)
                  have HLS6 : Hid (LsE (fun k => b1 + 1 ≤ k ∧ k < w6.heap.size ∧ k ≠ b2 ∧ (Value.slice pv nv cv).ownBlock ≠ some k) w6 (axTs T (l.take j)) rows) := Lib.hid (LsE.mono (fun k hk => ⟨hk.1, Nat.lt_of_lt_of_le hk.2.1 hg6.size, hk.2.2⟩) (HLS.out.kept hg6))
                  have HF6 := Lib.hid (HF.out.trans (Fr2.none hg6))
                  obtain ⟨a0, a1, a2⟩ := cells2 HB06.out
                  obtain ⟨c0, c1, c2, c3, c4, c5, c6, c7, c8⟩ := cells8x HB26.out
                  have hb06 : b0 < w6.heap.size := _root_.Go.Proofs.YtddccnpohpaofaaGreatDoor.hlt HB06.out
                  have hb26 : b2 < w6.heap.size := _root_.Go.Proofs.YtddccnpohpaofaaGreatDoor.hlt HB26.out
                  clear hg6 HK1 HB2r HB0r HNr HTr HLr HO HLS HF
                  go_wp2_with fail
                  go_region_law (first
                    | (refine step_appGl (s := 8) (t := 28) (T := 30) (by decide) Tryz.underlying28 infoEx rfl (by omega) rfl _ _ rfl w5.heap.size rows [q0, q1, q2, q3, q4, q5, q6, q7] rfl HQ1.out (.slice pv nv cv) rfl (OwnG.kept HO7.out (by repeat (first | with_reducible exact gb_refl _ _ | with_reducible refine gb_drew ?_ | with_reducible refine gb_alloc ?_ _))) w7.heap.size _ rfl (by exact HNEW.out) rfl HRL.out (by have := HS57.out; simp; omega) (w7.heap.size + 1) (by simp) ?_; intro g9 cap9 w9 hO9 hg9 hl9; have hb9 := (hg9.block b2 (by simp; omega) (fun e => by have := (OwnG.at HO7.out b2 e.symm).1; have := HS2.out; omega)).trans (show _ = _ from bx (show w7.grownBy _ none from (by repeat (first | with_reducible exact gb_refl _ _ | with_reducible refine gb_drew ?_ | with_reducible refine gb_alloc ?_ _))) HB27.out); obtain ⟨d0, d1, d2, d3, d4, d5, d6, d7, d8⟩ := cells8x hb9; have HB9 := Lib.hid hb9; have HO9 := Lib.hid hO9; have HG9 := Lib.hid hg9; have HL9 := Lib.hid hl9; clear hb9 hO9 hg9 hl9)
                    | (go_simp; go_at_call 20; refine (HIH.out _ (HT6.out.kept (by repeat (first | with_reducible exact gb_refl _ _ | with_reducible refine gb_drew ?_))) (HN6.out.kept (by repeat (first | with_reducible exact gb_refl _ _ | with_reducible refine gb_drew ?_))) (HL6.out.kept (by repeat (first | with_reducible exact gb_refl _ _ | with_reducible refine gb_drew ?_)))).mono ?_; rintro e w7 ⟨hg7, q, rfl, hq⟩; obtain ⟨q0, q1, q2, q3, q4, q5, q6, q7, rfl⟩ := hq.eight; have HQ1 := Lib.hid hq.one.2; have HQ := Lib.hid hq; have HG7 := Lib.hid (gb_trans (show w6.grownBy _ none from (by repeat (first | with_reducible exact gb_refl _ _ | with_reducible refine gb_drew ?_))) hg7); have HO7 := Lib.hid (HO6.out.kept HG7.out); have HB27 := Lib.hid (bx HG7.out HB26.out); obtain ⟨f0, f1, f2, f3, f4, f5, f6, f7, f8⟩ := cells8x HB27.out; have hb27 : b2 < w7.heap.size := _root_.Go.Proofs.YtddccnpohpaofaaGreatDoor.hlt HB27.out; have HS57 : Hid (w5.heap.size ≤ w7.heap.size) := Lib.hid (Nat.le_trans HF6.out.size HG7.out.size); have HNEW := Lib.hid (heap_alloc_new w7 (.cells #[q0, q1, q2, q3, q4, q5, q6, q7] 30)); clear hg7 hq))
                  all_goals
                    have hga : w7.grownBy (w7.alloc (.cells #[q0, q1, q2, q3, q4, q5, q6, q7] 30)) none := World.grownBy_alloc _ _ _
                    have HLS9 : Hid (LsE (fun k => b1 + 1 ≤ k ∧ k < (w9.setCell ⟨b2, 6, none⟩ (.slice (some ⟨g9, 0, none⟩) (rows.length + 1) cap9)).heap.size ∧ k ≠ b2 ∧ (Value.slice (some ⟨g9, 0, none⟩) (rows.length + 1) cap9).ownBlock ≠ some k) (w9.setCell ⟨b2, 6, none⟩ (.slice (some ⟨g9, 0, none⟩) (rows.length + 1) cap9)) (axTs T (l.take (j + 1))) (rows ++ [[q0, q1, q2, q3, q4, q5, q6, q7]])) := Lib.hid (by
                      rw [HTE.out]
                      exact push_kid (w7 := w7) (wa := w7.alloc (.cells #[q0, q1, q2, q3, q4, q5, q6, q7] 30)) (by have := HS2.out; have := HF6.out.size; omega) HO6.out HS2.out hb26 HLS6.out HG7.out HQ.out hga (by simp) HG9.out HL9.out (gb_refl _ _))
                    have HB10 : Hid ((w9.setCell ⟨b2, 6, none⟩ (.slice (some ⟨g9, 0, none⟩) (rows.length + 1) cap9)).heap[b2]? = some (.cells #[.int .i64 (op : Int), .string ⟨nm.toArray⟩, .string ⟨md.toArray⟩, .bool s, .slice pw nw cw, .bool ys, .slice (some ⟨g9, 0, none⟩) (rows.length + 1) cap9, .int .i64 (ps : Int)] 30 (0, 0))) := Lib.hid (set_cells (i := 6) (u := .slice (some ⟨g9, 0, none⟩) (rows.length + 1) cap9) HB9.out)
                    have HO10 : Hid (OwnG 8 30 (w9.setCell ⟨b2, 6, none⟩ (.slice (some ⟨g9, 0, none⟩) (rows.length + 1) cap9)) w5.heap.size (.slice (some ⟨g9, 0, none⟩) (rows.length + 1) cap9) (rows ++ [[q0, q1, q2, q3, q4, q5, q6, q7]])) := Lib.hid (HO9.out.keptS (Fr2.setCell (S := fun k => k = b2) (Fr2.refl _ _) (g := b2) (j := 6) rfl _) (fun g hg e => by have := HS2.out; omega))
                    have HF10 : Hid (Fr2 (fun k => k = b2) w5 (w9.setCell ⟨b2, 6, none⟩ (.slice (some ⟨g9, 0, none⟩) (rows.length + 1) cap9))) := Lib.hid ((HF6.out.low (Below.trans2 (Below.gb HG7.out HF6.out.size) (Below.trans2 (Below.gb hga HS57.out) ((Fr2.of HG9.out (S := fun k => (Value.slice pv nv cv).ownBlock = some k) (fun k e => e)).below (by have := HS57.out; simp; omega) (fun k e => (OwnG.at HO7.out k e).1))))).setCell rfl _)
                    clear hga HO9 HB9 HG9 HL9 HNEW HQ HQ1 HO7 HB27 d0 d1 d2 d3 d4 d5 d6 d7 d8 f0 f1 f2 f3 f4 f5 f6 f7 f8 HLS6 HO6 HF6
                    go_wp2_with fail
                    go_roundw
                    case rel => exact ⟨j + 1, rows ++ [[q0, q1, q2, q3, q4, q5, q6, q7]], some ⟨g9, 0, none⟩, rows.length + 1, cap9, by omega, by go_num, HB10, HO10, HLS9, HF10⟩
                    case measure => simp [intOf]; omega
              · obtain rfl : j = M := by omega
                have hls := HLS.out
                rw [List.take_of_length_le (by have := HML.out; omega)] at hls
                obtain ⟨hnv, hrow, hblk⟩ := HO.out.rows
                have hrl := Ls_len hls
                have HEX : Hid (∀ W', wr.grownBy W' none ∨ Fr2 (Self b1) wr W' → EAt (fun k => w.heap.size ≤ k) W' (axT T t) [.int .i64 (op : Int), .string ⟨nm.toArray⟩, .string ⟨md.toArray⟩, .bool s, .slice pw nw cw, .bool ys, .slice pv nv cv, .int .i64 (ps : Int)]) := Lib.hid (fun W' hW' => by
                  have hfr : Fr2 (fun k => k = b1) wr W' := by
                    rcases hW' with h | h
                    · exact Fr2.none h
                    · exact h
                  rw [← HA'.out, ax_nd T H12.out, HND.out]
                  have h5 : NumAt (fun k => b1 + 1 ≤ k ∧ k < w5.heap.size ∧ k ≠ b2) wr op nu s pw nw cw := HNU5.out.same HF.out (fun k hk e => hk.2.2 e)
                  have hl : nv = (axTs T l).length := hnv.trans hrl
                  subst hl
                  have hle : w.heap.size ≤ b1 := by have := HE0.out; omega
                  exact EAt.fill ((h5.same hfr (fun k hk e => by omega)).mono (fun k hk => by omega)) (hrow.keptS hfr (fun h0 a ha e => by obtain ⟨a', ha', hb', -⟩ := hblk h0; rw [ha] at ha'; injection ha' with ha'; subst ha'; have := HS2.out; omega)) (LsE.mono (fun k hk => by omega) (LsE.same hfr (fun k hk e => by have := hk.1; omega) hls)) (fun h0 => by
                    obtain ⟨a', ha', hb', -⟩ := hblk (fun e => by rw [e] at hrl; exact h0 (List.eq_nil_of_length_eq_zero hrl.symm))
                    have hfl := HO.out
                    rw [ha'] at hfl
                    exact ⟨a', ha', by have := HS2.out; omega, hfl.flat.same hfr (fun e => by have := HS2.out; omega)⟩))
                obtain ⟨f0, f1, f2, f3, f4, f5, f6, f7, f8⟩ := cells8x HB1r.out
                clear hls hnv hrow hblk hrl
                go_wp2_with fail
                obtain ⟨hp, hf⟩ := put8c HB1r.out (.int .i64 (op : Int)) (.string ⟨nm.toArray⟩) (.string ⟨md.toArray⟩) (.bool s) (.slice pw nw cw) (.bool ys) (.slice pv nv cv) (.int .i64 (ps : Int))
                obtain ⟨k0, k1, k2, k3, k4, k5, k6, k7, -⟩ := cells8x hp
                have HFX := Lib.hid (Fr2.after HGr.out hf (fun i hi => by have e : i = b1 := hi; have := HE0.out; omega))
                have HPX : Hid (ExPost (axT T t) w (.returned (.agg #[.int .i64 (op : Int), .string ⟨nm.toArray⟩, .string ⟨md.toArray⟩, .bool s, .slice pw nw cw, .bool ys, .slice pv nv cv, .int .i64 (ps : Int)])) _) := Lib.hid ⟨HFX.out, _, rfl, HEX.out _ (.inr hf)⟩
                refine bodyPost_ret (v := .agg #[.int .i64 (op : Int), .string ⟨nm.toArray⟩, .string ⟨md.toArray⟩, .bool s, .slice pw nw cw, .bool ys, .slice pv nv cv, .int .i64 (ps : Int)]) (by simp [results, Tryz.results20, go_sem, k0, k1, k2, k3, k4, k5, k6, k7]) rfl HPX.out
end Go.Proofs.YtddccnpohpaofaaGreatDoor
