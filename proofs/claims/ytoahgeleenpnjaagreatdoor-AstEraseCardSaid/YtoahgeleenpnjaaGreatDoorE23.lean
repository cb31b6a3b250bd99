/- A definition, read out of a tree's nodes. -/
import Derived.Test.YtoahgeleenpnjaaGreatDoorE22
import Derived.Test.YtoahgeleenpnjaaGreatDoorE16
set_option linter.unusedVariables false
set_option linter.unusedSimpArgs false
namespace Go.Proofs.YtoahgeleenpnjaaGreatDoor
open Go.RowKit

set_option maxRecDepth 100000 in
set_option maxHeartbeats 32000000 in
theorem def_c {T : List Tok} {N : List Nd} {K : Kf} (hT : T.length ≤ 150000) (hN : N.length ≤ 150000) {n kd : Nat} {ks : List Int} {l : List Tr} (hx : N[n]? = some ⟨(kd : Int), -1, ks⟩) (hkt : KT N n ks l) (hko : kOks l) (hlv : ∀ i ∈ lvTs l, i < T.length) (hsz : szRs l ≤ 150000) (hok : ∀ t ∈ l, OkK T t) (hok4 : ∀ l', Tr.nd 4 l' ∈ l → ∀ t ∈ l', OkK T t) (hbd : ∀ i, (tkT T i).pos ≤ 1000000 ∧ (tkT T i).text.length ≤ 1000000)
    {i0 : Nat} (h0 : l[0]? = some (.lf i0)) {u : Tr} (hbu : l[l.length - 2]? = some u) (hu1 : isN u = true) (hu2 : WE T u) (hl2 : 2 ≤ l.length) (pt pn : Option Addr) (ct cn : Nat) (w : World) (ht : TAt w pt T) (hn : NodesAt w pn N K) (hla : LaidS w) :
    Calls Tryz.prog 58 #[.agg #[.slice pt T.length ct, .slice pn N.length cn], .int .i64 (n : Int)] w (DefPost (defX T l) w) := by
  have hlm : l.length ≤ 150000 := Nat.le_trans (len_szRs l) hsz
  have HKI := Lib.hid (fun (n : Nat) (x : Nd) W (hx : N[n]? = some x) h => kind_r (K := K) hN hx pt pn T.length ct cn W h)
  have HK0 := Lib.hid (fun W h => kids_r (K := K) hN hx pt pn T.length ct cn W h)
  have HPA := Lib.hid (fun W h1 h2 h3 => param_c (K := K) hT hN hx hkt hko hlv hsz hok hbd pt pn ct cn W h1 h2 h3)
  have HPK := Lib.hid (fun (n k : Nat) (ks : List Int) (l : List Tr) W (hx : N[n]? = some ⟨(k : Int), -1, ks⟩) (hkt : KT N n ks l) (hko : kOks l) (hlv : ∀ i ∈ lvTs l, i < T.length) (hsz : szRs l ≤ 150000) (hok : ∀ t ∈ l, OkK T t) h1 h2 h3 => param_c (K := K) hT hN hx hkt hko hlv hsz hok hbd pt pn ct cn W h1 h2 h3)
  obtain ⟨k0, hk0, hta0, -⟩ := hkt.2 0 _ h0
  obtain ⟨n0, hn0, hnx0⟩ := hta0.lf
  have hn0 : k0 = n0 := by omega
  subst hn0
  have hi0 : i0 < T.length := hlv i0 (lv_mem h0)
  have HTK := Lib.hid (fun W h1 h2 => token_r (K := K) hT hN hnx0 hi0 pt pn ct cn W h1 h2)
  obtain ⟨kb, hkb, htb, -⟩ := hkt.2 _ _ hbu
  have hge : GoodE T N (kb : Int) u := ⟨hu1, hu2, kOks_get hko hbu, fun z hz => hlv z (lvTs_get hbu z hz), htb⟩
  have HEX := Lib.hid (fun W h1 h2 h3 => expr_c (K := K) hT hN pt pn ct cn (szR u) u (kb : Int) W (by have := szRs_get hbu; omega) (Nat.le_refl _) hge h1 h2 h3)
  have hhl : headL T l = tkT T i0 := by
    cases l with
    | nil => simp at h0
    | cons a r => simp at h0; subst h0; simp [headL, ownL]
  have hgd : l.getD (l.length - 2) (.lf 0) = u := by rw [List.getD_eq_getElem?_getD, hbu]; rfl
  have HDX : Hid (defX T l = ⟨decide ((tkT T i0).text = pubT), paramsX T l, fieldX T l, axT T u⟩) := Lib.hid (by unfold defX; rw [hhl, hgd])
  have HX := Lib.hid hx; have HKT := Lib.hid hkt; have HKO := Lib.hid hko; have HLV := Lib.hid hlv; have HSZ := Lib.hid hsz; have HOK4 := Lib.hid hok4
  have HT := Lib.hid ht; have HN := Lib.hid hn; have HLA := Lib.hid hla
  have HKV : Hid (VAt w (K n).1 (intsV ks)) := Lib.hid (hn.2 n _ hx)
  obtain ⟨mt, hmt⟩ : ∃ mt, T.length = mt := ⟨_, rfl⟩
  obtain ⟨mn, hmn⟩ : ∃ mn, N.length = mn := ⟨_, rfl⟩
  obtain ⟨M, hM⟩ : ∃ M, ks.length = M := ⟨_, rfl⟩
  have hML : M = l.length := by rw [← hM]; exact hkt.1
  have HML := Lib.hid hML
  have hMm : M ≤ 150000 ∧ 2 ≤ M := by omega
  rw [hmt, hmn] at HKI HK0 HPA HPK HTK HEX ⊢
  have HK0 : Hid (∀ W, NodesAt W pn N K → Calls Tryz.prog 39 #[.agg #[.slice pt mt ct, .slice pn mn cn], .int .i64 (n : Int)] W (ValPost (.slice (K n).1 M (K n).2) W)) := Lib.hid (fun W h => by rw [← hM]; exact HK0.out W h)
  have HMT := Lib.hid hmt
  obtain ⟨pk, hpk⟩ : ∃ pk, (K n).1 = pk := ⟨_, rfl⟩
  have HPK1 := Lib.hid hpk
  rw [hpk] at HKV HK0
  generalize (K n).2 = ck at *
  obtain ⟨g, off, rfl, hgl, v0⟩ := kid_at HKV.out hk0
  obtain ⟨g', off', hp', -, vb⟩ := kid_at HKV.out hkb
  injection hp' with hp'; injection hp' with hp1 hp2; subst hp1 hp2
  rw [Nat.add_zero] at v0
  rw [← hML] at vb
  have HV0 := Lib.hid v0; have HVB := Lib.hid vb; have HGL := Lib.hid hgl
  obtain ⟨tk, htk⟩ : ∃ tk, (tkT T i0).kind = tk := ⟨_, rfl⟩
  obtain ⟨tp, htp⟩ : ∃ tp, (tkT T i0).pos = tp := ⟨_, rfl⟩
  obtain ⟨y9, hy9⟩ : ∃ y : ByteArray, (⟨(tkT T i0).lead.toArray⟩ : ByteArray) = y := ⟨_, rfl⟩
  obtain ⟨yt, hyt⟩ : ∃ y : ByteArray, (⟨(tkT T i0).text.toArray⟩ : ByteArray) = y := ⟨_, rfl⟩
  obtain ⟨pub, hpub⟩ : ∃ pub : Bool, (yt.toList == [112, 117, 98]) = pub := ⟨_, rfl⟩
  have hpd : decide ((tkT T i0).text = pubT) = pub := by
    rw [← hpub, toList_data, ← hyt]
    show decide ((tkT T i0).text = pubT) = ((tkT T i0).text == pubT)
    rw [Bool.eq_iff_iff]; simp
  rw [hpd] at HDX
  unfold tokVal strV at HTK
  rw [htk, htp, hy9, hyt] at HTK
  obtain ⟨F, hF⟩ : ∃ F, fieldX T l = F := ⟨_, rfl⟩
  rw [hF] at HPA HDX
  have HPB := Lib.hid hpub
  clear ht hn hla hx hkt hko hlv hsz hok hok4 hbd hT hN hmt hmn hM hML hlm h0 hbu hu1 hu2 hl2 hk0 hta0 hnx0 hi0 hkb htb hge hhl hgd htk htp hy9 hyt hpd hF v0 vb hpub HKV hpk
  go_enter Tryz.func58, Tryz.ntmps58
  go_wp2_with fail
  obtain ⟨W, b0, b1, hW, e0, e1, hB0, hB1, hgW, h01⟩ := two w (.cells #[.slice pt mt ct, .slice pn mn cn] 83) (.cells #[.bool false, .string ⟨#[]⟩, .slice none 0 0, .int .i64 0, .slice none 0 0, .int .i64 0, .string ⟨#[]⟩, .string ⟨#[]⟩, .bool false, .slice none 0 0, .bool false, .slice none 0 0, .int .i64 0, .int .i64 0, .int .i64 0] 62)
  have hsW : W.heap.size = b1 + 1 := by rw [hW]; simp; omega
  have HB0 := Lib.hid hB0; have HB1 := Lib.hid hB1; have HGW := Lib.hid hgW; have HE0 := Lib.hid e0; have HSW := Lib.hid hsW
  clear hB0 hB1 hgW
  try rw [← hW]
  try rw [e1]
  try rw [e0]
  clear e0 e1 hW hsW
  have HTw := HT; have HNw := HN; have HLw := HLA
  have HT := Lib.hid (HT.out.kept HGW.out); have HN := Lib.hid (HN.out.kept HGW.out); have HLA := Lib.hid (HLA.out.kept HGW.out)
  obtain ⟨a0, a1, a2⟩ := cells2 HB0.out
  have hb0 : b0 < W.heap.size := hlt HB0.out
  go_cut [5, 6] (fun t5 t6 wx => Hid (t5 = .slice (some ⟨g, off, none⟩) M ck ∧ ParBox W (b1 + 1) F t6 wx))
  case first =>
    go_region_held3 (fun w' => w'.cell? ⟨b0, 0, none⟩ = some (.slice pt mt ct) ∧ w'.cell? ⟨b0, 1, none⟩ = some (.slice pn mn cn))
      (first | with_reducible exact ⟨a0, a1⟩ | with_reducible exact ⟨keep5 a0 (by omega), keep5 a1 (by omega)⟩ | go_keep)
      (first
        | (go_at_call 39; refine (HK0.out _ (HN.out.kept (by repeat (first | with_reducible exact gb_refl _ _ | with_reducible refine gb_drew ?_ | with_reducible refine gb_alloc ?_ _)))).mono ?_; rintro e w5 ⟨rfl, hg5⟩; (try (have he5 := bx hg5 (heap_alloc_new W (.cells #[.string ⟨#[]⟩, .int .i64 0, .slice none 0 0, .int .i64 0, .int .i64 0] 73)))); have HG5 := Lib.hid (gb_trans (show W.grownBy _ none from (by repeat (first | with_reducible exact gb_refl _ _ | with_reducible refine gb_drew ?_ | with_reducible refine gb_alloc ?_ _))) hg5); have s5 : W.heap.size ≤ w5.heap.size := HG5.out.size; have a0 := HG5.out.cell a0 (by simp); have a1 := HG5.out.cell a1 (by simp); clear hg5)
        | (go_at_call 93; refine (HPA.out _ (HT.out.kept (gb_trans HG5.out (by repeat (first | with_reducible exact gb_refl _ _ | with_reducible refine gb_drew ?_ | with_reducible refine gb_alloc ?_ _)))) (HN.out.kept (gb_trans HG5.out (by repeat (first | with_reducible exact gb_refl _ _ | with_reducible refine gb_drew ?_ | with_reducible refine gb_alloc ?_ _)))) (HLA.out.kept (gb_trans HG5.out (by repeat (first | with_reducible exact gb_refl _ _ | with_reducible refine gb_drew ?_ | with_reducible refine gb_alloc ?_ _))))).mono ?_; rintro e w6 ⟨hg6, q, rfl, hq⟩; obtain ⟨pc, nc, cc, rfl⟩ := hq.form; (try (have he6 := bx hg6 he5)); (try (have he6 := bx hg6 (heap_alloc_new w5 (.cells #[.string ⟨#[]⟩, .int .i64 0, .slice none 0 0, .int .i64 0, .int .i64 0] 73)))); (try (have hc6 := cells5c he6; obtain ⟨r0, r1, r2, r3, r4, r5⟩ := hc6)); have HG6 := Lib.hid (gb_trans (show w5.grownBy _ none from (by repeat (first | with_reducible exact gb_refl _ _ | with_reducible refine gb_drew ?_ | with_reducible refine gb_alloc ?_ _))) hg6); have s6 : w5.heap.size ≤ w6.heap.size := HG6.out.size; have HQ := Lib.hid hq; have a0 := HG6.out.cell a0 (by simp); have a1 := HG6.out.cell a1 (by simp); clear hg6 hq))
    all_goals
      have hs1 := HSW.out
      go_wp2_with fail
      go_meet
      refine Lib.hid ⟨rfl, ?_⟩
      have hgg := gb_trans HG5.out HG6.out
      first
        | (with_reducible refine par_new hgg ?_ ?_ HQ.out
           · show b1 + 1 ≤ w5.heap.size
             omega
           · omega)
        | (with_reducible refine par_old (b0 := W.heap.size) hgg (Nat.le_refl _) ?_ ?_ he6 HQ.out
           · omega
           · exact hlt he5)
        | (with_reducible refine par_old (b0 := w5.heap.size) hgg s5 ?_ ?_ he6 HQ.out
           · omega
           · simp)
  case rest =>
    obtain ⟨rfl, b6, q6, rfl, hb6, hq6, hB6, hgc⟩ := hcut.out
    obtain ⟨pc, nc, cc, rfl⟩ := hq6.form
    have HGC := Lib.hid hgc; have HB6 := Lib.hid hb6; have HQ6 := Lib.hid hq6; have HL6 := Lib.hid hB6
    have HB0 := Lib.hid (bx hgc HB0.out); have HB1 := Lib.hid (bx hgc HB1.out)
    have HT := Lib.hid (HT.out.kept hgc); have HN := Lib.hid (HN.out.kept hgc); have HLA := Lib.hid (HLA.out.kept hgc)
    have HGW := Lib.hid (gb_trans HGW.out hgc)
    clear hcut hb6 hq6 hB6 hgc a0 a1 a2
    obtain ⟨a0, a1, a2⟩ := cells2 HB0.out
    obtain ⟨f0, f1, f2, f3, f4, f5⟩ := cells5c HB6.out
    have hb0 : b0 < wc.heap.size := hlt HB0.out
    have hb6 : b6 < wc.heap.size := hlt HB6.out
    have v0 := HGW.out.cell HV0.out (by simp)
    have hgw : g < wc.heap.size := Nat.lt_of_lt_of_le HGL.out HGW.out.size
    have m0 : (0 : Int) < (M : Int) := by omega
    have m1 : decide ((0 : Int) < (M : Int)) = true := decide_eq_true m0
    have m2 : decide (0 < M) = true := decide_eq_true (by omega)
    have m3 : 0 < M := by omega
    go_wp2_with fail
    obtain ⟨W7, b7, hW7, e7, hB7, hgW7, hs7⟩ := one0 wc (.cells #[.bool false, .string ⟨F.nm.toArray⟩, .slice none 0 0, .int .i64 (F.base : Int), .slice pc nc cc, .int .i64 0, .string ⟨#[]⟩, .string ⟨#[]⟩, .bool false, .slice none 0 0, .bool false, .slice none 0 0, .int .i64 0, .int .i64 (F.ps : Int), .int .i64 F.bare] 62)
    have HG7 := Lib.hid hgW7
    have HB7 := Lib.hid hB7
    have HB0 := Lib.hid (bx hgW7 HB0.out); have HB1 := Lib.hid (bx hgW7 HB1.out)
    have HQ6 := Lib.hid (HQ6.out.kept hgW7)
    have HT := Lib.hid (HT.out.kept hgW7); have HN := Lib.hid (HN.out.kept hgW7); have HLA := Lib.hid (HLA.out.kept hgW7)
    have HGW := Lib.hid (gb_trans HGW.out hgW7)
    have h67 : b6 < b7 := by rw [← e7]; exact hb6
    have HSC : Hid (wc.heap.size = b7) := Lib.hid e7
    have hb1l : b1 < b6 := by have := HL6.out; omega
    clear a0 a1 a2 f0 f1 f2 f3 f4 f5 hb0 hb6 v0 hgw
    obtain ⟨a0, a1, a2⟩ := cells2 HB0.out
    obtain ⟨d0, d1, d2, d3, d4, d5, d6, d7, d8, d9, d10, d11, d12, d13, d14, d15⟩ := cells15c HB7.out
    have hb0 : b0 < W7.heap.size := hlt HB0.out
    have hb7 : b7 < W7.heap.size := hlt HB7.out
    have v0 := HGW.out.cell HV0.out (by simp)
    have hgw : g < W7.heap.size := Nat.lt_of_lt_of_le HGL.out HGW.out.size
    try rw [← hW7]
    try rw [e7]
    clear hW7 e7 hB7 hgW7 hs7
    have hne0 : b7 ≠ b0 := by omega
    have hneg : b7 ≠ g := by have h1 := HGL.out; have h2 := HE0.out; omega
    have hfd := field_lex
    have q1 : (yt.toList == [112, 117, 98]) = pub := HPB.out
    go_region_held3 (fun w' => w'.cell? ⟨b0, 0, none⟩ = some (.slice pt mt ct) ∧ w'.cell? ⟨b0, 1, none⟩ = some (.slice pn mn cn) ∧ w'.cell? ⟨g, off, none⟩ = some (.int .i64 (k0 : Int)))
      (first | with_reducible exact ⟨a0, a1, v0⟩ | go_keep)
      (first | (go_at_call 92; refine (HTK.out _ (HT.out.kept (by repeat (first | with_reducible exact gb_refl _ _ | with_reducible refine gb_drew ?_ | with_reducible refine gb_alloc ?_ _))) (HN.out.kept (by repeat (first | with_reducible exact gb_refl _ _ | with_reducible refine gb_drew ?_ | with_reducible refine gb_alloc ?_ _)))).mono ?_; rintro e w8 ⟨rfl, hg8⟩; have HG8 := Lib.hid (gb_trans (show W7.grownBy _ none from (by repeat (first | with_reducible exact gb_refl _ _ | with_reducible refine gb_drew ?_ | with_reducible refine gb_alloc ?_ _))) hg8); obtain ⟨a0, a1, a2⟩ := cells2 (bx HG8.out HB0.out); obtain ⟨d0, d1, d2, d3, d4, d5, d6, d7, d8, d9, d10, d11, d12, d13, d14, d15⟩ := cells15c (bx HG8.out HB7.out); have v0 := HG8.out.cell v0 (by simp); have hb7 : b7 < w8.heap.size := Nat.lt_of_lt_of_le hb7 HG8.out.size; clear hg8))
    all_goals
      go_wp2_with fail
      have hf9 : Fr2 (fun k => k = b7) W7 (w8.setCell ⟨b7, 0, none⟩ (.bool pub)) := (Fr2.none HG8.out).trans (Fr2.setCell (S := fun k => k = b7) (Fr2.refl _ _) (g := b7) (j := 0) rfl _)
      have HB79 := Lib.hid (set_cells (i := 0) (u := .bool pub) (bx HG8.out HB7.out))
      obtain ⟨W9, hW9⟩ : ∃ W9, w8.setCell ⟨b7, 0, none⟩ (.bool pub) = W9 := ⟨_, rfl⟩
      rw [hW9] at hf9 HB79 ⊢
      have HB79 : Hid (W9.heap[b7]? = some (.cells #[.bool pub, .string ⟨F.nm.toArray⟩, .slice none 0 0, .int .i64 (F.base : Int), .slice pc nc cc, .int .i64 0, .string ⟨#[]⟩, .string ⟨#[]⟩, .bool false, .slice none 0 0, .bool false, .slice none 0 0, .int .i64 0, .int .i64 (F.ps : Int), .int .i64 F.bare] 62 (0, 0))) := HB79
      have hbw : w.heap.size ≤ b7 := by have := HE0.out; omega
      have HG9 := Lib.hid (Fr2.after HGW.out hf9 (fun k e => by have e : k = b7 := e; omega))
      have HB09 := Lib.hid (hf9.keep HB0.out (by omega)); have HB19 := Lib.hid (hf9.keep HB1.out (by omega))
      have HQ9 := Lib.hid (PAt.same hf9 (fun k hk e => by have e : k = b7 := e; have h1 := hk.2.1; have h2 := HSC.out; omega) HQ6.out)
      have HS9 : Hid (b7 + 1 ≤ W9.heap.size) := Lib.hid (hlt HB79.out)
      clear hf9 hW9 a0 a1 a2 d0 d1 d2 d3 d4 d5 d6 d7 d8 d9 d10 d11 d12 d13 d14 d15 hb0 hb7 v0 hgw
      go_loopw [37] (fun iv wr => ∃ (j : Nat) (rows : List (List Value)) (pv : Option Addr) (nv cv : Nat), j ≤ M ∧ iv = .int .i64 (j : Int) ∧ Hid (wr.heap[b7]? = some (.cells #[.bool pub, .string ⟨F.nm.toArray⟩, .slice pv nv cv, .int .i64 (F.base : Int), .slice pc nc cc, .int .i64 0, .string ⟨#[]⟩, .string ⟨#[]⟩, .bool false, .slice none 0 0, .bool false, .slice none 0 0, .int .i64 0, .int .i64 (F.ps : Int), .int .i64 F.bare] 62 (0, 0))) ∧ Hid (OwnG 5 73 wr W9.heap.size (.slice pv nv cv) rows) ∧ Hid (PsAt (fun k => b7 + 1 ≤ k ∧ k < wr.heap.size ∧ k ≠ b7 ∧ (Value.slice pv nv cv).ownBlock ≠ some k) wr (paramsX T (l.take j)) rows) ∧ Hid (Fr2 (fun k => k = b7) W9 wr)) (fun iv _ => M - (intOf iv).toNat)
      case atStart => exact ⟨0, [], none, 0, 0, Nat.zero_le _, rfl, HB79, Lib.hid (OwnG.nil _ _ _ _), Lib.hid (by simp [paramsX, PsAt]), Lib.hid (Fr2.refl _ _)⟩
      case round =>
        obtain ⟨j, rows, pv, nv, cv, hj, rfl, HB7r, HO, HLS, HF⟩ := hrel
        have HGr : Hid (w.grownBy wr none) := Lib.hid (Fr2.after HG9.out HF.out (fun i hi => by have e : i = b7 := hi; omega))
        have HB0r := Lib.hid (HF.out.keep HB09.out (by omega)); have HB1r := Lib.hid (HF.out.keep HB19.out (by omega))
        have HSr : Hid (b7 + 1 ≤ wr.heap.size) := Lib.hid (Nat.le_trans HS9.out HF.out.size)
        have HTr := Lib.hid (HTw.out.kept HGr.out); have HNr := Lib.hid (HNw.out.kept HGr.out); have HLr := Lib.hid (HLw.out.kept HGr.out)
        obtain ⟨a0, a1, a2⟩ := cells2 HB0r.out
        obtain ⟨d0, d1, d2, d3, d4, d5, d6, d7, d8, d9, d10, d11, d12, d13, d14, d15⟩ := cells15c HB7r.out
        have hb0 : b0 < wr.heap.size := hlt HB0r.out
        have hb7 : b7 < wr.heap.size := hlt HB7r.out
        have hgr : g < wr.heap.size := Nat.lt_of_lt_of_le HGL.out HGr.out.size
        by_cases hlj : j < M
        · obtain ⟨uj, huj⟩ : ∃ u, l[j]? = some u := ⟨l[j]'(by have := HML.out; omega), List.getElem?_eq_getElem _⟩
          obtain ⟨k1, hk1, hta, hkn⟩ := HKT.out.2 j uj huj
          obtain ⟨gg, oo, hpp, -, ck0⟩ := kid_at (HNw.out.2 n _ HX.out) hk1
          rw [HPK1.out] at hpp
          injection hpp with hpp; injection hpp with hp1 hp2; subst hp1 hp2
          have ck0 := HGr.out.cell ck0 (by simp)
          have y1 : (0 : Int) ≤ (j : Int) := by omega
          have y2 : (j : Int) < (M : Int) := by omega
          have y3 : decide (j < M) = true := decide_eq_true hlj
          have y4 : decide ((j : Int) < (M : Int)) = true := decide_eq_true y2
          have HNX := Lib.hid (paramsX_next T huj)
          by_cases h4 : kindT' uj = 4
          · cases uj with
            | lf i => simp [kindT'] at h4
            | nd k' l' =>
              have h4 : k' = 4 := h4
              subst h4
              obtain ⟨n', ks', hn', hnx, hkt'⟩ := hta.nd
              have hn' : k1 = n' := by omega
              subst hn'
              have hkd := kOks_get HKO.out huj
              simp only [kOk] at hkd
              have HK1 := Lib.hid (HKI.out k1 _ wr hnx HNr.out)
              have HPX := Lib.hid (fun W h1 h2 h3 => HPK.out k1 4 ks' l' W hnx hkt' hkd.2.2 (fun z hz => by rw [← HMT.out]; exact HLV.out z (lvTs_get huj z (by simp only [lvT]; exact hz))) (by have h9 := szRs_get huj; have h8 := HSZ.out; simp only [szR] at h9; omega) (HOK4.out l' (List.mem_of_getElem? huj)) h1 h2 h3)
              have HNX : Hid (paramsX T (l.take (j + 1)) = paramsX T (l.take j) ++ [fieldX T l']) := Lib.hid (by rw [HNX.out, if_pos (show kindT' (.nd 4 l') = 4 from rfl)]; rfl)
              have HRL : Hid (rows.length ≤ 1000000) := Lib.hid (by have h1 := Ps_len HLS.out; have h2 := paramsX_len T (l.take j); have h3 := List.length_take (i := j) (l := l); omega)
              obtain ⟨pv', cv', hve, -⟩ := HO.out.is
              have hve2 : nv = rows.length := by injection hve
              have HNV := Lib.hid hve2
              clear huj hk1 hta hkn hnx hkt' hkd hve hve2
              go_wp2_with fail
              refine HK1.out.mono ?_
              rintro e w6 ⟨rfl, hg6⟩
              have HG6 := Lib.hid hg6
              clear a0 a1 a2 d0 d1 d2 d3 d4 d5 d6 d7 d8 d9 d10 d11 d12 d13 d14 d15
              obtain ⟨a0, a1, a2⟩ := cells2 (bx hg6 HB0r.out)
              obtain ⟨d0, d1, d2, d3, d4, d5, d6, d7, d8, d9, d10, d11, d12, d13, d14, d15⟩ := cells15c (bx hg6 HB7r.out)
              have hb0 : b0 < w6.heap.size := Nat.lt_of_lt_of_le hb0 hg6.size
              have hb7 : b7 < w6.heap.size := Nat.lt_of_lt_of_le hb7 hg6.size
              clear hg6 HK1
              go_wp2_with fail
              go_region_law (first
                | (refine step_appGl (s := 5) (t := 54) (T := 73) (by decide) Tryz.underlying54 infoPar rfl (by omega) rfl _ _ rfl W9.heap.size rows [q0, q1, q2, q3, q4] rfl HQ1.out (.slice pv nv cv) rfl (OwnG.kept HO7.out (by repeat (first | with_reducible exact gb_refl _ _ | with_reducible refine gb_drew ?_ | with_reducible refine gb_drewN ?_ _ | with_reducible refine gb_alloc ?_ _))) w7.heap.size _ rfl (by exact HNEW.out) rfl HRL.out (by have := HS57.out; simp; omega) (w7.heap.size + 1) (by simp) ?_; intro g9 cap9 w9 hO9 hg9 hl9; have hb9 := (hg9.block b7 (by simp; omega) (fun e => by have := (OwnG.at HO7.out b7 e.symm).1; have := HS9.out; omega)).trans (show _ = _ from bx (show w7.grownBy _ none from (by repeat (first | with_reducible exact gb_refl _ _ | with_reducible refine gb_drew ?_ | with_reducible refine gb_drewN ?_ _ | with_reducible refine gb_alloc ?_ _))) HB77.out); obtain ⟨r0, r1, r2, r3, r4, r5, r6, r7, r8, r9, r10, r11, r12, r13, r14, r15⟩ := cells15c hb9; have HB9 := Lib.hid hb9; have HO9 := Lib.hid hO9; have HG9' := Lib.hid hg9; have HL9 := Lib.hid hl9; clear hb9 hO9 hg9 hl9)
                | (go_simp; go_at_call 93; refine (HPX.out _ (HTr.out.kept (gb_trans HG6.out (by repeat (first | with_reducible exact gb_refl _ _ | with_reducible refine gb_drew ?_ | with_reducible refine gb_drewN ?_ _ | with_reducible refine gb_alloc ?_ _)))) (HNr.out.kept (gb_trans HG6.out (by repeat (first | with_reducible exact gb_refl _ _ | with_reducible refine gb_drew ?_ | with_reducible refine gb_drewN ?_ _ | with_reducible refine gb_alloc ?_ _)))) (HLr.out.kept (gb_trans HG6.out (by repeat (first | with_reducible exact gb_refl _ _ | with_reducible refine gb_drew ?_ | with_reducible refine gb_drewN ?_ _ | with_reducible refine gb_alloc ?_ _))))).mono ?_; rintro e w7 ⟨hg7, q, rfl, hq⟩; obtain ⟨-, hq1, q0, q1, q2, q3, q4, rfl⟩ := hq.five; have HQ1 := Lib.hid hq1; have HG7' := Lib.hid (gb_trans HG6.out (gb_trans (show w6.grownBy _ none from (by repeat (first | with_reducible exact gb_refl _ _ | with_reducible refine gb_drew ?_ | with_reducible refine gb_drewN ?_ _ | with_reducible refine gb_alloc ?_ _))) hg7)); have HQ : Hid (PAt (fun k => wr.heap.size ≤ k) w7 _ [q0, q1, q2, q3, q4]) := Lib.hid (PAt.mono (fun k hk => Nat.le_trans HG6.out.size hk) hq); have HO7 := Lib.hid (HO.out.kept HG7'.out); have HB77 := Lib.hid (bx HG7'.out HB7r.out); obtain ⟨x0, x1, x2, x3, x4, x5, x6, x7, x8, x9, x10, x11, x12, x13, x14, x15⟩ := cells15c HB77.out; have hb77 : b7 < w7.heap.size := hlt HB77.out; have HS57 : Hid (W9.heap.size ≤ w7.heap.size) := Lib.hid (Nat.le_trans HF.out.size HG7'.out.size); have HNEW := Lib.hid (heap_alloc_new w7 (.cells #[q0, q1, q2, q3, q4] 73)); clear hg7 hq hq1))
              all_goals
                have hga : w7.grownBy (w7.alloc (.cells #[q0, q1, q2, q3, q4] 73)) none := World.grownBy_alloc _ _ _
                have HLS9 : Hid (PsAt (fun k => b7 + 1 ≤ k ∧ k < (w9.setCell ⟨b7, 2, none⟩ (.slice (some ⟨g9, 0, none⟩) (rows.length + 1) cap9)).heap.size ∧ k ≠ b7 ∧ (Value.slice (some ⟨g9, 0, none⟩) (rows.length + 1) cap9).ownBlock ≠ some k) (w9.setCell ⟨b7, 2, none⟩ (.slice (some ⟨g9, 0, none⟩) (rows.length + 1) cap9)) (paramsX T (l.take (j + 1))) (rows ++ [[q0, q1, q2, q3, q4]])) := Lib.hid (by
                  rw [HNX.out]
                  exact push_par (w7 := w7) (wa := w7.alloc (.cells #[q0, q1, q2, q3, q4] 73)) HSr.out HO.out (by have := HS9.out; omega) (hlt HB7r.out) HLS.out HG7'.out HQ.out hga (by simp) HG9'.out HL9.out (gb_refl _ _))
                have HB10 : Hid ((w9.setCell ⟨b7, 2, none⟩ (.slice (some ⟨g9, 0, none⟩) (rows.length + 1) cap9)).heap[b7]? = some (.cells #[.bool pub, .string ⟨F.nm.toArray⟩, .slice (some ⟨g9, 0, none⟩) (rows.length + 1) cap9, .int .i64 (F.base : Int), .slice pc nc cc, .int .i64 0, .string ⟨#[]⟩, .string ⟨#[]⟩, .bool false, .slice none 0 0, .bool false, .slice none 0 0, .int .i64 0, .int .i64 (F.ps : Int), .int .i64 F.bare] 62 (0, 0))) := Lib.hid (set_cells (i := 2) (u := .slice (some ⟨g9, 0, none⟩) (rows.length + 1) cap9) HB9.out)
                have HO10 : Hid (OwnG 5 73 (w9.setCell ⟨b7, 2, none⟩ (.slice (some ⟨g9, 0, none⟩) (rows.length + 1) cap9)) W9.heap.size (.slice (some ⟨g9, 0, none⟩) (rows.length + 1) cap9) (rows ++ [[q0, q1, q2, q3, q4]])) := Lib.hid (HO9.out.keptS (Fr2.setCell (S := fun k => k = b7) (Fr2.refl _ _) (g := b7) (j := 2) rfl _) (fun g hg e => by have := HS9.out; omega))
                have HF10 : Hid (Fr2 (fun k => k = b7) W9 (w9.setCell ⟨b7, 2, none⟩ (.slice (some ⟨g9, 0, none⟩) (rows.length + 1) cap9))) := Lib.hid ((HF.out.low (Below.trans2 (Below.gb HG7'.out HF.out.size) (Below.trans2 (Below.gb hga HS57.out) ((Fr2.of HG9'.out (S := fun k => (Value.slice pv nv cv).ownBlock = some k) (fun k e => e)).below (by have := HS57.out; simp; omega) (fun k e => (OwnG.at HO7.out k e).1))))).setCell rfl _)
                clear hga HO9 HB9 HG9' HL9 HNEW HQ HQ1 HO7 HB77 r0 r1 r2 r3 r4 r5 r6 r7 r8 r9 r10 r11 r12 r13 r14 r15 x0 x1 x2 x3 x4 x5 x6 x7 x8 x9 x10 x11 x12 x13 x14 x15 HLS HO HF
                go_wp2_with fail
                go_roundw
                case rel => exact ⟨j + 1, rows ++ [[q0, q1, q2, q3, q4]], some ⟨g9, 0, none⟩, rows.length + 1, cap9, by omega, by go_num, HB10, HO10, HLS9, HF10⟩
                case measure => simp [intOf]; omega
          · have HNX : Hid (paramsX T (l.take (j + 1)) = paramsX T (l.take j)) := Lib.hid (by rw [HNX.out, if_neg h4, List.append_nil])
            obtain ⟨xk, HKx, hxk⟩ : ∃ xk : Int, (Calls Tryz.prog 56 #[.agg #[.slice pt mt ct, .slice pn mn cn], .int .i64 (k1 : Int)] wr (ValPost (.int .i64 xk) wr)) ∧ (xk == 4) = false := by
              cases uj with
              | lf i =>
                obtain ⟨n', hn', hnx⟩ := hta.lf
                have hn' : k1 = n' := by omega
                subst hn'
                exact ⟨19, HKI.out k1 _ wr hnx HNr.out, rfl⟩
              | nd k' l' =>
                obtain ⟨n', ks', hn', hnx, -⟩ := hta.nd
                have hn' : k1 = n' := by omega
                subst hn'
                exact ⟨(k' : Int), HKI.out k1 _ wr hnx HNr.out, beq_eq_false_iff_ne.2 (fun e => h4 (by have e2 : k' = 4 := (by omega); exact e2))⟩
            have HKx := Lib.hid HKx
            clear huj hk1 hta hkn h4
            go_wp2_with fail
            refine HKx.out.mono ?_
            rintro e w6 ⟨rfl, hg6⟩
            have HG6 := Lib.hid hg6
            clear hg6
            go_wp2_with fail
            go_roundw
            case rel => exact ⟨j + 1, rows, pv, nv, cv, by omega, by go_num, Lib.hid (bx HG6.out HB7r.out), Lib.hid (HO.out.kept HG6.out), Lib.hid (by rw [HNX.out]; exact Ps_mono (fun k hk => ⟨hk.1, Nat.lt_of_lt_of_le hk.2.1 HG6.out.size, hk.2.2⟩) (Ps_kept HLS.out HG6.out)), Lib.hid (HF.out.trans (Fr2.none HG6.out))⟩
            case measure => simp [intOf]; omega
        · obtain rfl : j = M := by omega
          obtain ⟨R, hR⟩ : ∃ R, j - 2 = R := ⟨_, rfl⟩
          have hw2 : IntKind.i64.wrap ((j : Int) - 2) = (R : Int) := by rw [IntWalk.i64_in _ (by omega)]; omega
          have i1 : (0 : Int) ≤ (R : Int) := by omega
          have i2 : (R : Int) < (j : Int) := by omega
          have i3 : decide ((R : Int) < (j : Int)) = true := decide_eq_true i2
          have i4 : decide (R < j) = true := decide_eq_true (by omega)
          have i5 : R < j := by omega
          have vb := HGr.out.cell HVB.out (by simp)
          rw [hR] at vb
          clear hR
          have hne0 : b7 ≠ b0 := by omega
          have hneg : b7 ≠ g := by have h1 := HGL.out; have h2 := HE0.out; omega
          have h17 : b1 < b7 := by omega
          go_wp2_with fail
          go_region_held3 (fun w' => w'.cell? ⟨b0, 0, none⟩ = some (.slice pt mt ct) ∧ w'.cell? ⟨b0, 1, none⟩ = some (.slice pn mn cn) ∧ w'.cell? ⟨g, off + R, none⟩ = some (.int .i64 (kb : Int)))
            (first | with_reducible exact ⟨a0, a1, vb⟩ | with_reducible exact ⟨keep8o a0 hne0, keep8o a1 hne0, keep8o vb hneg⟩ | go_keep)
            (first | (go_at_call 38; refine (HEX.out _ (HTr.out.kept (by repeat (first | with_reducible exact gb_refl _ _ | with_reducible refine gb_drew ?_ | with_reducible refine gb_drewN ?_ _ | with_reducible refine gb_alloc ?_ _))) (HNr.out.kept (by repeat (first | with_reducible exact gb_refl _ _ | with_reducible refine gb_drew ?_ | with_reducible refine gb_drewN ?_ _ | with_reducible refine gb_alloc ?_ _))) (HLr.out.kept (by repeat (first | with_reducible exact gb_refl _ _ | with_reducible refine gb_drew ?_ | with_reducible refine gb_drewN ?_ _ | with_reducible refine gb_alloc ?_ _)))).mono ?_; rintro e w8 ⟨hg8, q, rfl, hq⟩; obtain ⟨op, ps8, sa, sb, bs, by8, pw, pk, nw, cw, nk, ck8, rfl⟩ := hq.form; have HG8 := Lib.hid (gb_trans (show wr.grownBy _ none from (by repeat (first | with_reducible exact gb_refl _ _ | with_reducible refine gb_drew ?_ | with_reducible refine gb_drewN ?_ _ | with_reducible refine gb_alloc ?_ _))) hg8); have HQE : Hid (EAt (fun k => wr.heap.size ≤ k) w8 _ _) := Lib.hid hq; obtain ⟨a0, a1, a2⟩ := cells2 (bx HG8.out HB0r.out); obtain ⟨d0, d1, d2, d3, d4, d5, d6, d7, d8, d9, d10, d11, d12, d13, d14, d15⟩ := cells15c (bx HG8.out HB7r.out); have vb := HG8.out.cell vb (by simp); have hb7 : b7 < w8.heap.size := Nat.lt_of_lt_of_le hb7 HG8.out.size; clear hg8 hq))
          all_goals
            obtain ⟨g0, g1, g2, g3, g4, g5, g6, g7, g8, g9, g10, g11, g12, g13, g14, g15⟩ := cells15c (bx HG8.out HB1r.out)
            have hb1 : b1 < w8.heap.size := hlt (bx HG8.out HB1r.out)
            obtain ⟨hBS, hfS⟩ := put8o (bx HG8.out HB7r.out) (.int .i64 op) (.string sa) (.string sb) (.bool bs) (.slice pw nw cw) (.bool by8) (.slice pk nk ck8) (.int .i64 ps8)
            have hB1S := hfS.keep (bx HG8.out HB1r.out) (fun e => by have e : b1 = b7 := e; omega)
            obtain ⟨WS, hWS⟩ : ∃ WS, ((((((((w8.setCell ⟨b7, 5, none⟩ (.int .i64 op)).setCell ⟨b7, 6, none⟩ (.string sa)).setCell ⟨b7, 7, none⟩ (.string sb)).setCell ⟨b7, 8, none⟩ (.bool bs)).setCell ⟨b7, 9, none⟩ (.slice pw nw cw)).setCell ⟨b7, 10, none⟩ (.bool by8)).setCell ⟨b7, 11, none⟩ (.slice pk nk ck8)).setCell ⟨b7, 12, none⟩ (.int .i64 ps8)) = WS := ⟨_, rfl⟩
            rw [hWS] at hfS hBS hB1S ⊢
            clear hWS d0 d1 d2 d3 d4 d5 d6 d7 d8 d9 d10 d11 d12 d13 d14 d15 g0 g1 g2 g3 g4 g5 g6 g7 g8 g9 g10 g11 g12 g13 g14 g15 a0 a1 a2 vb
            have HFS := Lib.hid hfS; have HBS := Lib.hid hBS; have HB1S := Lib.hid hB1S
            have HRG := Lib.hid (range_of (cs := [.bool pub, .string ⟨F.nm.toArray⟩, .slice pv nv cv, .int .i64 (F.base : Int), .slice pc nc cc, .int .i64 op, .string sa, .string sb, .bool bs, .slice pw nw cw, .bool by8, .slice pk nk ck8, .int .i64 ps8, .int .i64 (F.ps : Int), .int .i64 F.bare]) hBS)
            obtain ⟨g0, g1, g2, g3, g4, g5, g6, g7, g8, g9, g10, g11, g12, g13, g14, g15⟩ := cells15c hB1S
            have hb1 : b1 < WS.heap.size := hlt hB1S
            clear hfS hBS hB1S
            go_wp2_with (refine wpList_load_mid rfl 62 _ rfl b7 0 rfl [.bool pub, .string ⟨F.nm.toArray⟩, .slice pv nv cv, .int .i64 (F.base : Int), .slice pc nc cc, .int .i64 op, .string sa, .string sb, .bool bs, .slice pw nw cw, .bool by8, .slice pk nk ck8, .int .i64 ps8, .int .i64 (F.ps : Int), .int .i64 F.bare] _ HRG.out Tryz.underlying62 rfl sizeDef ?_)
            obtain ⟨hp, -⟩ := put15c HB1S.out (.bool pub) (.string ⟨F.nm.toArray⟩) (.slice pv nv cv) (.int .i64 (F.base : Int)) (.slice pc nc cc) (.int .i64 op) (.string sa) (.string sb) (.bool bs) (.slice pw nw cw) (.bool by8) (.slice pk nk ck8) (.int .i64 ps8) (.int .i64 (F.ps : Int)) (.int .i64 F.bare)
            obtain ⟨r0, r1, r2, r3, r4, r5, r6, r7, r8, r9, r10, r11, r12, r13, r14, -⟩ := cells15c hp
            have hls := HLS.out
            rw [List.take_of_length_le (by have := HML.out; omega)] at hls
            have HPost := Lib.hid (def_fin (pub := pub) HE0.out h01 h17 HGr.out HG8.out HFS.out HB1S.out HSC.out HS9.out HSr.out HQ9.out HF.out HO.out hls HQE.out)
            refine bodyPost_ret (v := .agg #[.bool pub, .string ⟨F.nm.toArray⟩, .slice pv nv cv, .int .i64 (F.base : Int), .slice pc nc cc, .int .i64 op, .string sa, .string sb, .bool bs, .slice pw nw cw, .bool by8, .slice pk nk ck8, .int .i64 ps8, .int .i64 (F.ps : Int), .int .i64 F.bare]) (by simp [results, Tryz.results58, go_sem, r0, r1, r2, r3, r4, r5, r6, r7, r8, r9, r10, r11, r12, r13, r14]) rfl (by rw [HDX.out]; exact HPost.out)
end Go.Proofs.YtoahgeleenpnjaaGreatDoor
