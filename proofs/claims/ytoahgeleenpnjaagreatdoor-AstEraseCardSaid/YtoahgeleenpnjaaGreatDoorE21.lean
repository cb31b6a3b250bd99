/- A parameter, or a result, read out of a tree's nodes. -/
import Derived.Deep.LoopGhost
import Derived.Deep.CutBlock
import Derived.Deep.DeepCutAuto
import Derived.StillTailTactics
import Derived.Test.YtoahgeleenpnjaaGreatDoorE20
set_option linter.unusedVariables false
set_option linter.unusedSimpArgs false
namespace Go.Proofs.YtoahgeleenpnjaaGreatDoor
open Go.RowKit

set_option maxRecDepth 100000 in
set_option maxHeartbeats 32000000 in
theorem param_c {T : List Tok} {N : List Nd} {K : Kf} (hT : T.length ≤ 150000) (hN : N.length ≤ 150000) {n kd : Nat} {ks : List Int} {l : List Tr} (hx : N[n]? = some ⟨(kd : Int), -1, ks⟩) (hkt : KT N n ks l) (hko : kOks l) (hlv : ∀ i ∈ lvTs l, i < T.length) (hsz : szRs l ≤ 150000) (hok : ∀ t ∈ l, OkK T t) (hbd : ∀ i, (tkT T i).pos ≤ 1000000 ∧ (tkT T i).text.length ≤ 1000000) (pt pn : Option Addr) (ct cn : Nat) (w : World) (ht : TAt w pt T) (hn : NodesAt w pn N K) (hla : LaidS w) :
    Calls Tryz.prog 93 #[.agg #[.slice pt T.length ct, .slice pn N.length cn], .int .i64 (n : Int)] w (ParPost (fieldX T l) w) := by
  have hlm : l.length ≤ 150000 := Nat.le_trans (len_szRs l) hsz
  have HKI := Lib.hid (fun (n : Nat) (x : Nd) W (hx : N[n]? = some x) h => kind_r (K := K) hN hx pt pn T.length ct cn W h)
  have HKD := Lib.hid (fun (n : Nat) (x : Nd) W (hx : N[n]? = some x) h => kids_r (K := K) hN hx pt pn T.length ct cn W h)
  have HTK := Lib.hid (fun (n i : Nat) W (hx : N[n]? = some ⟨19, (i : Int), []⟩) (hi : i < T.length) h1 h2 => token_r (K := K) hT hN hx hi pt pn ct cn W h1 h2)
  have HOT := Lib.hid (fun (n : Nat) (k : Nat) (ks : List Int) (l : List Tr) W (hx : N[n]? = some ⟨(k : Int), -1, ks⟩) (hkt : KT N n ks l) (hko : kOks l) (hlv : ∀ i ∈ lvTs l, i < T.length) (hlm : l.length ≤ 150000) h1 h2 => aTokens_c (K := K) hT hN hx hkt hko hlv hlm pt pn ct cn W h1 h2)
  have HEX := Lib.hid (fun (t : Tr) (kx : Int) W (hs : szR t ≤ 150000) (hg : GoodE T N kx t) h1 h2 h3 => expr_c (K := K) hT hN pt pn ct cn (szR t) t kx W hs (Nat.le_refl _) hg h1 h2 h3)
  have HX := Lib.hid hx; have HKT := Lib.hid hkt; have HKO := Lib.hid hko; have HLV := Lib.hid hlv; have HSZ := Lib.hid hsz; have HOK := Lib.hid hok; have HBD := Lib.hid hbd
  have HT := Lib.hid ht; have HN := Lib.hid hn; have HLA := Lib.hid hla
  have HK0 := Lib.hid (fun W h => HKD.out n _ W hx h)
  have HKV : Hid (∀ W, NodesAt W pn N K → VAt W (K n).1 (intsV ks)) := Lib.hid (fun W h => h.2 n _ hx)
  obtain ⟨mt, hmt⟩ : ∃ mt, T.length = mt := ⟨_, rfl⟩
  obtain ⟨mn, hmn⟩ : ∃ mn, N.length = mn := ⟨_, rfl⟩
  obtain ⟨M, hM⟩ : ∃ M, ks.length = M := ⟨_, rfl⟩
  have hML : M = l.length := by rw [← hM]; exact hkt.1
  have HML := Lib.hid hML
  have hMm : M ≤ 150000 := by omega
  rw [hmt, hmn] at HKI HKD HTK HOT HEX HK0 ⊢
  have HK0 : Hid (∀ W, NodesAt W pn N K → Calls Tryz.prog 39 #[.agg #[.slice pt mt ct, .slice pn mn cn], .int .i64 (n : Int)] W (ValPost (.slice (K n).1 M (K n).2) W)) := Lib.hid (fun W h => by rw [← hM]; exact HK0.out W h)
  have HMT := Lib.hid hmt
  generalize (K n).1 = pk at *
  generalize (K n).2 = ck at *
  clear ht hn hla hx hkt hko hlv hsz hok hbd hT hN hmt hmn hM hML hlm
  go_enter Tryz.func93, Tryz.ntmps93
  go_wp2_with fail
  obtain ⟨W, b0, b1, b2, hW, e0, e1, e2, hB0, hB1, hB2, hgW, h01, h12⟩ := three w (.cells #[.slice pt mt ct, .slice pn mn cn] 83) (.cells #[.string ⟨#[]⟩, .int .i64 0, .slice none 0 0, .int .i64 0, .int .i64 0] 73) (.cells #[.string ⟨#[]⟩, .int .i64 0, .slice none 0 0, .int .i64 0, .int .i64 0] 73)
  have hsW : W.heap.size = b2 + 1 := by rw [hW]; simp; omega
  have HB0 := Lib.hid hB0; have HB1 := Lib.hid hB1; have HB2 := Lib.hid hB2; have HGW := Lib.hid hgW; have HE0 := Lib.hid e0; have HE1 := Lib.hid e1; have HSW := Lib.hid hsW
  clear hB0 hB1 hB2 hgW
  try rw [← hW]
  try rw [e2]
  try rw [e1]
  try rw [e0]
  clear e0 e1 e2 hW hsW
  refine (HK0.out _ (HN.out.kept HGW.out)).mono ?_
  rintro e w5 ⟨rfl, hg5⟩
  have HG5 := Lib.hid (gb_trans HGW.out hg5)
  have HB05 := Lib.hid (bx hg5 HB0.out); have HB15 := Lib.hid (bx hg5 HB1.out); have HB25 := Lib.hid (bx hg5 HB2.out)
  have HS5 : Hid (b2 + 1 ≤ w5.heap.size) := Lib.hid (by have := HSW.out; have := hg5.size; omega)
  clear hg5
  go_wp2_with fail
  go_loopw [14] (fun iv wr => ∃ (j : Nat) (q : List Value), j ≤ M ∧ iv = .int .i64 (j : Int) ∧ Hid (wr.heap[b2]? = some (.cells q.toArray 73 (0, 0))) ∧ Hid (PAt (fun k => b2 + 1 ≤ k ∧ k < wr.heap.size) wr (fieldX T (l.take j)) q) ∧ Hid (Fr2 (fun k => k = b2) w5 wr)) (fun iv _ => M - (intOf iv).toNat)
  case atStart => exact ⟨0, _, Nat.zero_le _, rfl, HB25, Lib.hid ⟨none, 0, [], rfl, GAt.nil, by simp [fieldX, LsE], fun h => absurd rfl h⟩, Lib.hid (Fr2.refl _ _)⟩
  case round =>
    obtain ⟨j, q, hj, rfl, HB2r, HPr, HF⟩ := hrel
    have HGr : Hid (w.grownBy wr none) := Lib.hid (Fr2.after HG5.out HF.out (fun i hi => by have := HE0.out; omega))
    have HNr := Lib.hid (HN.out.kept HGr.out); have HTr := Lib.hid (HT.out.kept HGr.out); have HLr := Lib.hid (HLA.out.kept HGr.out)
    have HB0r := Lib.hid (HF.out.keep HB05.out (by omega)); have HB1r := Lib.hid (HF.out.keep HB15.out (by omega))
    have HSr : Hid (b2 + 1 ≤ wr.heap.size) := Lib.hid (Nat.le_trans HS5.out HF.out.size)
    obtain ⟨a0, a1, a2⟩ := cells2 HB0r.out
    have hb0 : b0 < wr.heap.size := hlt HB0r.out
    obtain ⟨F, hF⟩ : ∃ F, fieldX T (l.take j) = F := ⟨_, rfl⟩
    have HFJ := Lib.hid hF
    rw [hF] at HPr
    clear hF
    obtain ⟨pc, nc, cc, rfl⟩ := HPr.out.form
    by_cases hlj : j < M
    · obtain ⟨u, hu⟩ : ∃ u, l[j]? = some u := ⟨l[j]'(by have := HML.out; omega), List.getElem?_eq_getElem _⟩
      obtain ⟨k1, hk1, hta, hkn⟩ := HKT.out.2 j u hu
      obtain ⟨g, off, rfl, hgl, ck0⟩ := kid_at (HKV.out _ HNr.out) hk1
      have y1 : (0 : Int) ≤ (j : Int) := by omega
      have y2 : (j : Int) < (M : Int) := by omega
      have y3 : decide (j < M) = true := decide_eq_true hlj
      have y4 : decide ((j : Int) < (M : Int)) = true := decide_eq_true y2
      have HOKu := Lib.hid (HOK.out u (List.mem_of_getElem? hu))
      have HNX := Lib.hid (fieldX_next T hu)
      rw [HFJ.out] at HNX
      cases u with
      | lf i =>
        obtain ⟨n', hn', hnx⟩ := hta.lf
        have hn' : k1 = n' := by omega
        subst hn'
        have hi : i < mt := by rw [← HMT.out]; exact HLV.out i (lv_mem hu)
        have HK1 := Lib.hid (HKI.out k1 _ wr hnx HNr.out)
        have HTKi := Lib.hid (fun W h1 h2 => HTK.out k1 i W hnx hi h1 h2)
        unfold tokVal at HTKi
        obtain ⟨tk, htk⟩ : ∃ tk, (tkT T i).kind = tk := ⟨_, rfl⟩
        obtain ⟨tp, htp⟩ : ∃ tp, (tkT T i).pos = tp := ⟨_, rfl⟩
        obtain ⟨y9, hy9⟩ : ∃ y : ByteArray, (⟨(tkT T i).lead.toArray⟩ : ByteArray) = y := ⟨_, rfl⟩
        obtain ⟨yt, hyt⟩ : ∃ y : ByteArray, (⟨(tkT T i).text.toArray⟩ : ByteArray) = y := ⟨_, rfl⟩
        have HYT := Lib.hid hyt
        unfold strV at HTKi
        rw [htk, htp, hy9, hyt] at HTKi
        have HNX : Hid (fieldX T (l.take (j + 1)) = if tk = 1 then { F with nm := (tkT T i).text, ps := tp } else F) := Lib.hid (by rw [HNX.out, stepF, htk, htp])
        clear hu hk1 hta hkn hnx hi htk htp hy9 hyt HOKu
        go_wp2_with fail
        refine HK1.out.mono ?_
        rintro e w6 ⟨rfl, hg6⟩
        have HG6 := Lib.hid hg6
        obtain ⟨a0, a1, a2⟩ := cells2 (bx hg6 HB0r.out)
        have hb0 : b0 < w6.heap.size := Nat.lt_of_lt_of_le hb0 hg6.size
        clear hg6 HK1
        go_wp2_with fail
        refine (HTKi.out _ (HTr.out.kept HG6.out) (HNr.out.kept HG6.out)).mono ?_
        rintro e w7 ⟨rfl, hg7⟩
        have HG7 := Lib.hid (gb_trans HG6.out hg7)
        obtain ⟨f0, f1, f2, f3, f4, f5⟩ := cells5c (bx HG7.out HB2r.out)
        have hb2 : b2 < w7.heap.size := hlt (bx HG7.out HB2r.out)
        clear hg7 HTKi
        by_cases h1 : tk = 1
        · have q1 : ((tk : Int) == 1) = true := by rw [h1]; rfl
          rw [if_pos h1] at HNX
          clear h1
          go_wp2_with fail
          obtain ⟨W8, b8, hW8, e8, hB8, hgW8, hs8⟩ := one0 w7 (.cells #[.int .i64 (tk : Int), .string y9, .string yt, .int .i64 (tp : Int)] 92)
          have HG8 := Lib.hid (gb_trans HG7.out hgW8)
          have HB28 := Lib.hid (bx HG8.out HB2r.out)
          clear f0 f1 f2 f3 f4 f5
          obtain ⟨t0, t1, t2, t3, t4⟩ := cells4 hB8
          obtain ⟨f0, f1, f2, f3, f4, f5⟩ := cells5c HB28.out
          have hb28 : b2 < b8 := by rw [← e8]; exact hb2
          have hb2 : b2 < W8.heap.size := hlt HB28.out
          have hb8 : b8 < W8.heap.size := hlt hB8
          try rw [← hW8]
          try rw [e8]
          clear hW8 e8 hB8 hgW8 hs8
          go_region
          all_goals
            go_wp2_with fail
            have hgd : wr.grownBy W8.drew none := gb_drew HG8.out
            have hf : Fr2 (fun k => k = b2) W8.drew ((W8.drew.setCell ⟨b2, 0, none⟩ (.string yt)).setCell ⟨b2, 3, none⟩ (.int .i64 (tp : Int))) := Fr2.setCell (S := fun k => k = b2) (Fr2.setCell (S := fun k => k = b2) (Fr2.refl _ _) (g := b2) (j := 0) rfl _) (g := b2) (j := 3) rfl _
            have HBn := Lib.hid (set_cells (i := 3) (u := .int .i64 (tp : Int)) (set_cells (i := 0) (u := .string yt) (bx (gb_drew (gb_refl W8 none)) HB28.out)))
            have HPn := Lib.hid (PAt.mono (F' := fun k => b2 + 1 ≤ k ∧ k < ((W8.drew.setCell ⟨b2, 0, none⟩ (.string yt)).setCell ⟨b2, 3, none⟩ (.int .i64 (tp : Int))).heap.size) (fun k hk => ⟨hk.1, Nat.lt_of_lt_of_le hk.2 (Nat.le_trans hgd.size hf.size)⟩) (PAt.same hf (fun k hk e => by have e : k = b2 := e; have := hk.1; omega) (PAt.turn (HPr.out.kept hgd) (tkT T i).text F.base tp F.bare)))
            rw [HYT.out] at HPn
            have HFn := Lib.hid ((HF.out.trans (Fr2.none hgd)).trans hf)
            clear hgd hf
            go_roundw
            case rel => exact ⟨j + 1, _, by omega, by go_num, HBn, Lib.hid (by rw [HNX.out]; exact HPn.out), HFn⟩
            case measure => simp [intOf]; omega
        · have q1 : ((tk : Int) == 1) = false := beq_eq_false_iff_ne.2 (by omega)
          rw [if_neg h1] at HNX
          clear h1
          go_wp2_with fail
          go_roundw
          case rel => exact ⟨j + 1, _, by omega, by go_num, Lib.hid (bx (gb_alloc HG7.out _) HB2r.out), Lib.hid (by rw [HNX.out]; exact PAt.mono (fun k hk => ⟨hk.1, Nat.lt_of_lt_of_le hk.2 (gb_alloc HG7.out _).size⟩) (HPr.out.kept (gb_alloc HG7.out _))), Lib.hid (HF.out.trans (Fr2.none (gb_alloc HG7.out _)))⟩
          case measure => simp [intOf]; omega
      | nd k' l' =>
        obtain ⟨n', ks', hn', hnx, hkt'⟩ := hta.nd
        have hn' : k1 = n' := by omega
        subst hn'
        have hkd := kOks_get HKO.out hu
        simp only [kOk] at hkd
        have hko' := hkd.2.2
        have hlv' : ∀ z ∈ lvTs l', z < T.length := fun z hz => HLV.out z (lvTs_get hu z (by simp only [lvT]; exact hz))
        have hsz' : szRs l' + 1 ≤ 150000 := by have h9 := szRs_get hu; have h8 := HSZ.out; simp only [szR] at h9; omega
        have q19 : ((k' : Int) == 19) = false := beq_eq_false_iff_ne.2 (by omega)
        have HK1 := Lib.hid (HKI.out k1 _ wr hnx HNr.out)
        by_cases h5 : k' = 5
        · obtain ⟨b, rfl⟩ := HOKu.out.1 h5
          have q5 : ((k' : Int) == 5) = true := by rw [h5]; rfl
          have HOB := Lib.hid (fun W h1 h2 => HOT.out k1 k' ks' [.lf b] W hnx hkt' hko' (fun z hz => by have := hlv' z hz; rw [HMT.out] at this; exact this) (by simp) h1 h2)
          obtain ⟨tk, htk⟩ : ∃ tk, (tkT T b).kind = tk := ⟨_, rfl⟩
          obtain ⟨tp, htp⟩ : ∃ tp, (tkT T b).pos = tp := ⟨_, rfl⟩
          obtain ⟨y9, hy9⟩ : ∃ y : ByteArray, (⟨(tkT T b).lead.toArray⟩ : ByteArray) = y := ⟨_, rfl⟩
          obtain ⟨yt, hyt⟩ : ∃ y : ByteArray, (⟨(tkT T b).text.toArray⟩ : ByteArray) = y := ⟨_, rfl⟩
          have HYT := Lib.hid hyt
          have hyl : yt.data.toList = (tkT T b).text := by rw [← hyt]
          have hys : yt.size = (tkT T b).text.length := by rw [← list_len, hyl]
          have hbd := HBD.out b
          rw [htp, ← hys] at hbd
          have hw1 : IntKind.i64.wrap ((tp : Int) + (yt.size : Int)) = ((tp + yt.size : Nat) : Int) := by rw [IntWalk.i64_in _ (by omega)]; simp
          have HBA := Lib.hid (fun W => base_c yt W)
          rw [hyl] at HBA
          have HNX : Hid (fieldX T (l.take (j + 1)) = { F with base := baseN (tkT T b).text, bare := ((tp + yt.size : Nat) : Int) }) := Lib.hid (by rw [HNX.out, stepF, if_pos h5, hys, ← htp]; rfl)
          obtain ⟨bn, hbn⟩ : ∃ bn, baseN (tkT T b).text = bn := ⟨_, rfl⟩
          rw [hbn] at HBA HNX
          have HTC : Hid (∀ (W : World) (p : Option Addr), TAt W p ((ownL [Tr.lf b]).map (tkT T)) → ∃ g off, p = some ⟨g, off, none⟩ ∧ g < W.heap.size ∧ W.cell? ⟨g, off, none⟩ = some (.int .i64 (tk : Int)) ∧ W.cell? ⟨g, off + 1, none⟩ = some (.string y9) ∧ W.cell? ⟨g, off + 2, none⟩ = some (.string yt) ∧ W.cell? ⟨g, off + 3, none⟩ = some (.int .i64 (tp : Int))) := Lib.hid (fun W p h => by
            obtain ⟨g2, off2, hp2, hl2, c0, c1, c2, c3⟩ := tok_cells h (i := 0) (by simp [ownL])
            have e0 : tkT ((ownL [Tr.lf b]).map (tkT T)) 0 = tkT T b := by simp [tkT, ownL]
            rw [e0, Nat.zero_mul, Nat.add_zero] at c0 c1 c2 c3
            unfold strV at c1 c2
            rw [htk] at c0; rw [hy9] at c1; rw [hyt] at c2; rw [htp] at c3
            exact ⟨g2, off2, hp2, hl2, c0, c1, c2, c3⟩)
          have HOB : Hid (∀ W, TAt W pt T → NodesAt W pn N K → Calls Tryz.prog 57 #[.agg #[.slice pt mt ct, .slice pn mn cn], .int .i64 (k1 : Int)] W (fun e w' => W.grownBy w' none ∧ ∃ p c, e = .returned (.slice p 1 c) ∧ TAt w' p ((ownL [Tr.lf b]).map (tkT T)))) := HOB
          clear hu hk1 hta hkn hnx hkd hko' hlv' hsz' HOKu h5 hkt' htk htp hy9 hyt hyl hys hbn
          go_wp2_with fail
          refine HK1.out.mono ?_
          rintro e w6 ⟨rfl, hg6⟩
          have HG6 := Lib.hid hg6
          obtain ⟨a0, a1, a2⟩ := cells2 (bx hg6 HB0r.out)
          have hb0 : b0 < w6.heap.size := Nat.lt_of_lt_of_le hb0 hg6.size
          clear hg6 HK1
          go_wp2_with fail
          refine (HOB.out _ (HTr.out.kept HG6.out) (HNr.out.kept HG6.out)).mono ?_
          rintro e w7 ⟨hg7, pr, cr, rfl, htr⟩
          obtain ⟨gr, offr, rfl, hgr, r0, r1, r2, r3⟩ := HTC.out _ _ htr
          have HG7 := Lib.hid (gb_trans HG6.out hg7)
          obtain ⟨f0, f1, f2, f3, f4, f5⟩ := cells5c (bx HG7.out HB2r.out)
          have hb2 : b2 < w7.heap.size := hlt (bx HG7.out HB2r.out)
          clear hg7 HOB htr HTC
          go_wp2_with fail
          obtain ⟨W8, b9, hW8, e8, hB9, hgW8, hs8⟩ := one0 w7 (.cells #[.int .i64 (tk : Int), .string y9, .string yt, .int .i64 (tp : Int)] 92)
          have HG8 := Lib.hid (gb_trans HG7.out hgW8)
          have HB28 := Lib.hid (bx HG8.out HB2r.out); have HB9 := Lib.hid hB9
          clear f0 f1 f2 f3 f4 f5 r0 r1 r2 r3
          obtain ⟨t0, t1, t2, t3, t4⟩ := cells4 HB9.out
          obtain ⟨f0, f1, f2, f3, f4, f5⟩ := cells5c HB28.out
          have hb29 : b2 < b9 := by rw [← e8]; exact hb2
          have hne29 : b2 ≠ b9 := by omega
          have hb2 : b2 < W8.heap.size := hlt HB28.out
          have hb9 : b9 < W8.heap.size := hlt HB9.out
          try rw [← hW8]
          try rw [e8]
          clear hW8 e8 hB9 hgW8 hs8
          go_region_held3 (fun w' => w'.cell? ⟨b9, 2, none⟩ = some (.string yt) ∧ w'.cell? ⟨b9, 3, none⟩ = some (.int .i64 (tp : Int)))
            (first | with_reducible exact ⟨t2, t3⟩ | go_keep)
            (first | (go_at_call 122; refine (HBA.out _).mono ?_; rintro e w9 ⟨rfl, hg9⟩; have HG9 := Lib.hid (gb_trans (show W8.grownBy _ none from (by repeat (first | with_reducible exact gb_refl _ _ | with_reducible refine gb_drew ?_ | with_reducible refine gb_alloc ?_ _))) hg9); obtain ⟨t0, t1, t2, t3, t4⟩ := cells4 (bx HG9.out HB9.out); obtain ⟨f0, f1, f2, f3, f4, f5⟩ := cells5c (bx HG9.out HB28.out); have hb2 : b2 < w9.heap.size := Nat.lt_of_lt_of_le hb2 HG9.out.size; clear hg9))
          all_goals
            go_wp2_with fail
            have hgd : wr.grownBy w9 none := gb_trans HG8.out HG9.out
            have hf : Fr2 (fun k => k = b2) w9 ((w9.setCell ⟨b2, 1, none⟩ (.int .i64 (bn : Int))).setCell ⟨b2, 4, none⟩ (.int .i64 ((tp + yt.size : Nat) : Int))) := Fr2.setCell (S := fun k => k = b2) (Fr2.setCell (S := fun k => k = b2) (Fr2.refl _ _) (g := b2) (j := 1) rfl _) (g := b2) (j := 4) rfl _
            have HBn := Lib.hid (set_cells (i := 4) (u := .int .i64 ((tp + yt.size : Nat) : Int)) (set_cells (i := 1) (u := .int .i64 (bn : Int)) (bx HG9.out HB28.out)))
            have HPn := Lib.hid (PAt.mono (F' := fun k => b2 + 1 ≤ k ∧ k < ((w9.setCell ⟨b2, 1, none⟩ (.int .i64 (bn : Int))).setCell ⟨b2, 4, none⟩ (.int .i64 ((tp + yt.size : Nat) : Int))).heap.size) (fun k hk => ⟨hk.1, Nat.lt_of_lt_of_le hk.2 (Nat.le_trans hgd.size hf.size)⟩) (PAt.same hf (fun k hk e => by have e : k = b2 := e; have := hk.1; omega) (PAt.turn (HPr.out.kept hgd) F.nm bn F.ps ((tp + yt.size : Nat) : Int))))
            have HFn := Lib.hid ((HF.out.trans (Fr2.none hgd)).trans hf)
            clear hgd hf
            go_roundw
            case rel => exact ⟨j + 1, _, by omega, by go_num, HBn, Lib.hid (by rw [HNX.out]; exact HPn.out), HFn⟩
            case measure => simp [intOf]; omega
        · by_cases h6 : k' = 6
          · obtain ⟨i6, e6, j6, rfl, he1, he2⟩ := HOKu.out.2 h6
            have q5 : ((k' : Int) == 5) = false := beq_eq_false_iff_ne.2 (by omega)
            have q6 : ((k' : Int) == 6) = true := by rw [h6]; rfl
            obtain ⟨ke, hke, hte, -⟩ := hkt'.2 1 e6 rfl
            have hge : GoodE T N (ke : Int) e6 := ⟨he1, he2, kOks_get hko' (j := 1) (t := e6) rfl, fun z hz => hlv' z (lvTs_get (j := 1) (t := e6) rfl z hz), hte⟩
            have HEE := Lib.hid (fun W h1 h2 h3 => HEX.out e6 (ke : Int) W (by have h9 := szRs_get (l := [Tr.lf i6, e6, Tr.lf j6]) (j := 1) (t := e6) rfl; omega) hge h1 h2 h3)
            have HKE := Lib.hid (fun W h => HKD.out k1 _ W hnx h)
            obtain ⟨g6, off6, hp6, hl6, ce⟩ := kid_at (HN.out.2 k1 _ hnx) hke
            have hne6 : b2 ≠ g6 := by have := HE0.out; omega
            have hne0 : b2 ≠ b0 := by omega
            have ce := HGr.out.cell ce (by simp)
            have hl6 : g6 < wr.heap.size := Nat.lt_of_lt_of_le hl6 HGr.out.size
            simp only at HKE
            rw [hp6] at HKE
            have hk3 : ks'.length = 3 := hkt'.1
            rw [hk3] at HKE
            generalize (K k1).2 = ck6 at HKE
            have hax : (axTs T [Tr.lf i6, e6, Tr.lf j6]).headD nilE = axT T e6 := by rw [axTs, if_neg (by simp [isN]), axTs, if_pos he1]; rfl
            have HNX : Hid (fieldX T (l.take (j + 1)) = { F with cl := [axT T e6], bare := -1 }) := Lib.hid (by rw [HNX.out, stepF, if_neg h5, if_pos h6, hax])
            have HC6 := Lib.hid ce
            clear hu hk1 hta hkn hnx hkd hko' hlv' hsz' HOKu h5 h6 hkt' hke hte hge hp6 hk3 hax he1 he2
            go_wp2_with fail
            refine HK1.out.mono ?_
            rintro e w6 ⟨rfl, hg6⟩
            have HG6 := Lib.hid hg6
            obtain ⟨a0, a1, a2⟩ := cells2 (bx hg6 HB0r.out)
            obtain ⟨f0, f1, f2, f3, f4, f5⟩ := cells5c (bx hg6 HB2r.out)
            have hb0 : b0 < w6.heap.size := Nat.lt_of_lt_of_le hb0 hg6.size
            have hb2 : b2 < w6.heap.size := hlt (bx hg6 HB2r.out)
            have ce := hg6.cell ce (by simp)
            have hl6 : g6 < w6.heap.size := Nat.lt_of_lt_of_le hl6 hg6.size
            clear hg6 HK1
            go_wp2_with fail
            have HL6 := Lib.hid hl6
            go_region_held3 (fun w' => w'.cell? ⟨b0, 0, none⟩ = some (.slice pt mt ct) ∧ w'.cell? ⟨b0, 1, none⟩ = some (.slice pn mn cn) ∧ w'.cell? ⟨g6, off6 + 1, none⟩ = some (.int .i64 (ke : Int)))
              (first | with_reducible exact ⟨a0, a1, ce⟩ | go_keep)
              (first
                | (go_at_call 39; refine (HKE.out _ (HNr.out.kept (gb_trans HG6.out (by repeat (first | with_reducible exact gb_refl _ _ | with_reducible refine gb_drew ?_ | with_reducible refine gb_alloc ?_ _))))).mono ?_; rintro e w7 ⟨rfl, hg7⟩; have HG7 := Lib.hid (gb_trans HG6.out (gb_trans (show w6.grownBy _ none from (by repeat (first | with_reducible exact gb_refl _ _ | with_reducible refine gb_drew ?_ | with_reducible refine gb_alloc ?_ _))) hg7)); obtain ⟨a0, a1, a2⟩ := cells2 (bx HG7.out HB0r.out); obtain ⟨f0, f1, f2, f3, f4, f5⟩ := cells5c (bx HG7.out HB2r.out); have ce := HG7.out.cell HC6.out (by simp); have hb2 : b2 < w7.heap.size := hlt (bx HG7.out HB2r.out); have hl6 : g6 < w7.heap.size := Nat.lt_of_lt_of_le HL6.out (gb_trans (show w6.grownBy _ none from (by repeat (first | with_reducible exact gb_refl _ _ | with_reducible refine gb_drew ?_ | with_reducible refine gb_alloc ?_ _))) hg7).size; clear hg7)
                | (go_at_call 38; refine (HEE.out _ (HTr.out.kept (gb_trans HG7.out (by repeat (first | with_reducible exact gb_refl _ _ | with_reducible refine gb_drew ?_ | with_reducible refine gb_alloc ?_ _)))) (HNr.out.kept (gb_trans HG7.out (by repeat (first | with_reducible exact gb_refl _ _ | with_reducible refine gb_drew ?_ | with_reducible refine gb_alloc ?_ _)))) (HLr.out.kept (gb_trans HG7.out (by repeat (first | with_reducible exact gb_refl _ _ | with_reducible refine gb_drew ?_ | with_reducible refine gb_alloc ?_ _))))).mono ?_; rintro e w8 ⟨hg8, qe, rfl, hq⟩; obtain ⟨q0, q1, q2, q3, q4, q5', q6', q7, rfl⟩ := hq.eight; have HQ := Lib.hid hq; have s78 : w7.heap.size ≤ w8.heap.size := (gb_trans (show w7.grownBy _ none from (by repeat (first | with_reducible exact gb_refl _ _ | with_reducible refine gb_drew ?_ | with_reducible refine gb_alloc ?_ _))) hg8).size; have HG8 := Lib.hid (gb_trans HG7.out (gb_trans (show w7.grownBy _ none from (by repeat (first | with_reducible exact gb_refl _ _ | with_reducible refine gb_drew ?_ | with_reducible refine gb_alloc ?_ _))) hg8)); have hl6 : g6 < w8.heap.size := Nat.lt_of_lt_of_le hl6 s78; obtain ⟨a0, a1, a2⟩ := cells2 (bx HG8.out HB0r.out); obtain ⟨f0, f1, f2, f3, f4, f5⟩ := cells5c (bx HG8.out HB2r.out); have ce := HG8.out.cell HC6.out (by simp); have hb2 : b2 < w8.heap.size := hlt (bx HG8.out HB2r.out); clear hg8 hq))
            all_goals
              go_wp2_with fail
              have hf : Fr2 (fun k => k = b2) w8 ((w8.setCell ⟨b2, 2, none⟩ (.slice (some ⟨w8.heap.size, 0, none⟩) 1 1)).setCell ⟨b2, 4, none⟩ (.int .i64 (-1))) := Fr2.setCell (S := fun k => k = b2) (Fr2.setCell (S := fun k => k = b2) (Fr2.refl _ _) (g := b2) (j := 2) rfl _) (g := b2) (j := 4) rfl _
              have hs8 : ((w8.setCell ⟨b2, 2, none⟩ (.slice (some ⟨w8.heap.size, 0, none⟩) 1 1)).setCell ⟨b2, 4, none⟩ (.int .i64 (-1))).heap.size = w8.heap.size := by simp [World.setCell]
              have hga := World.grownBy_alloc ((w8.setCell ⟨b2, 2, none⟩ (.slice (some ⟨w8.heap.size, 0, none⟩) 1 1)).setCell ⟨b2, 4, none⟩ (.int .i64 (-1))) (.cells #[q0, q1, q2, q3, q4, q5', q6', q7] 60) none
              have hA := heap_alloc_new ((w8.setCell ⟨b2, 2, none⟩ (.slice (some ⟨w8.heap.size, 0, none⟩) 1 1)).setCell ⟨b2, 4, none⟩ (.int .i64 (-1))) (.cells #[q0, q1, q2, q3, q4, q5', q6', q7] 60)
              rw [hs8] at hA
              have hsz9 : (((w8.setCell ⟨b2, 2, none⟩ (.slice (some ⟨w8.heap.size, 0, none⟩) 1 1)).setCell ⟨b2, 4, none⟩ (.int .i64 (-1))).alloc (.cells #[q0, q1, q2, q3, q4, q5', q6', q7] 60)).heap.size = w8.heap.size + 1 := by rw [← hs8]; simp
              have HBn := Lib.hid (bx hga (set_cells (i := 4) (u := .int .i64 (-1)) (set_cells (i := 2) (u := .slice (some ⟨w8.heap.size, 0, none⟩) 1 1) (bx HG8.out HB2r.out))))
              have hb27 : b2 < w7.heap.size := by have h1 := HSr.out; have h2 := HG7.out.size; omega
              have hq9 := (EAt.same hf (fun k hk e => by have e : k = b2 := e; have h1 : w7.heap.size ≤ k := hk.1; omega) HQ.out.bound).kept hga
              have HPn : Hid (PAt (fun k => b2 + 1 ≤ k ∧ k < (((w8.setCell ⟨b2, 2, none⟩ (.slice (some ⟨w8.heap.size, 0, none⟩) 1 1)).setCell ⟨b2, 4, none⟩ (.int .i64 (-1))).alloc (.cells #[q0, q1, q2, q3, q4, q5', q6', q7] 60)).heap.size) (((w8.setCell ⟨b2, 2, none⟩ (.slice (some ⟨w8.heap.size, 0, none⟩) 1 1)).setCell ⟨b2, 4, none⟩ (.int .i64 (-1))).alloc (.cells #[q0, q1, q2, q3, q4, q5', q6', q7] 60)) { F with cl := [axT T e6], bare := -1 } [.string ⟨F.nm.toArray⟩, .int .i64 (F.base : Int), .slice (some ⟨w8.heap.size, 0, none⟩) 1 1, .int .i64 (F.ps : Int), .int .i64 (-1)]) := Lib.hid ⟨_, 1, [[q0, q1, q2, q3, q4, q5', q6', q7]], rfl, gat_one hA, by
                simp only [LsE]
                exact ⟨_, [], rfl, EAt.mono (fun k hk => by have h1 : w7.heap.size ≤ k := hk.1; have h2 := hk.2; rw [hsz9]; omega) hq9, rfl⟩, fun _ => ⟨_, rfl, by rw [hsz9]; have h2 := hlt (bx HG8.out HB2r.out); simp only; omega⟩⟩
              have HFn := Lib.hid (((HF.out.trans (Fr2.none HG8.out)).trans hf).trans (Fr2.none hga))
              clear hf hs8 hga hA hsz9 hq9
              go_roundw
              case rel => exact ⟨j + 1, _, by omega, by go_num, HBn, Lib.hid (by rw [HNX.out]; exact HPn.out), HFn⟩
              case measure => simp [intOf]; omega
          · have q5 : ((k' : Int) == 5) = false := beq_eq_false_iff_ne.2 (by omega)
            have q6 : ((k' : Int) == 6) = false := beq_eq_false_iff_ne.2 (by omega)
            have HNX : Hid (fieldX T (l.take (j + 1)) = F) := Lib.hid (by rw [HNX.out, stepF, if_neg h5, if_neg h6])
            clear hu hk1 hta hkn hnx hkd hko' hlv' hsz' HOKu h5 h6 hkt'
            go_wp2_with fail
            refine HK1.out.mono ?_
            rintro e w6 ⟨rfl, hg6⟩
            have HG6 := Lib.hid hg6
            clear hg6 HK1
            go_wp2_with fail
            go_roundw
            case rel => exact ⟨j + 1, _, by omega, by go_num, Lib.hid (bx HG6.out HB2r.out), Lib.hid (by rw [HNX.out]; exact PAt.mono (fun k hk => ⟨hk.1, Nat.lt_of_lt_of_le hk.2 HG6.out.size⟩) (HPr.out.kept HG6.out)), Lib.hid (HF.out.trans (Fr2.none HG6.out))⟩
            case measure => simp [intOf]; omega
    · obtain rfl : j = M := by omega
      have hfx : fieldX T l = F := by rw [← HFJ.out, List.take_of_length_le (by have := HML.out; omega)]
      have HFX := Lib.hid hfx
      obtain ⟨f0, f1, f2, f3, f4, f5⟩ := cells5c HB2r.out
      obtain ⟨g0, g1, g2, g3, g4, g5⟩ := cells5c HB1r.out
      have hb1 : b1 < wr.heap.size := hlt HB1r.out
      have hb2 : b2 < wr.heap.size := hlt HB2r.out
      clear hfx
      go_wp2_with fail
      obtain ⟨hp, hf⟩ := put5c HB1r.out (.string ⟨F.nm.toArray⟩) (.int .i64 (F.base : Int)) (.slice pc nc cc) (.int .i64 (F.ps : Int)) (.int .i64 F.bare)
      obtain ⟨r0, r1, r2, r3, r4, -⟩ := cells5c hp
      have HP : Hid (ParPost F w (.returned (.agg #[.string ⟨F.nm.toArray⟩, .int .i64 (F.base : Int), .slice pc nc cc, .int .i64 (F.ps : Int), .int .i64 F.bare])) _) := Lib.hid ⟨Fr2.after HGr.out hf (fun k e => by have e : k = b1 := e; have := HE0.out; have := HE1.out; omega), _, rfl, PAt.mono (fun k hk => by have := HE0.out; have := hk.1; omega) (PAt.same hf (fun k hk e => by have e : k = b1 := e; have := hk.1; omega) HPr.out)⟩
      refine bodyPost_ret (v := .agg #[.string ⟨F.nm.toArray⟩, .int .i64 (F.base : Int), .slice pc nc cc, .int .i64 (F.ps : Int), .int .i64 F.bare]) (by simp [results, Tryz.results93, go_sem, r0, r1, r2, r3, r4]) rfl (by rw [HFX.out]; exact HP.out)
end Go.Proofs.YtoahgeleenpnjaaGreatDoor
