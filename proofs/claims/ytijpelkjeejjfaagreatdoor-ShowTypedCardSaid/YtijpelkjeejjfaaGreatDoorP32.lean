/- Lemmas. -/
import Derived.Test.YtijpelkjeejjfaaGreatDoorP46
set_option linter.unusedVariables false
set_option linter.unusedSimpArgs false
namespace Go.Proofs.YtijpelkjeejjfaaGreatDoor
open Go.RowKit

theorem textPs_app (a b : List Pc) : textPs (a ++ b) = textPs a ++ textPs b := by simp [textPs]
set_option maxRecDepth 100000 in
set_option maxHeartbeats 16000000 in
theorem text_c9 (S F : Nat → Prop) (B b : Nat) (rows : List (List Value)) (l : List Pc) (w : World) (h : WrAt S B b w rows) (hp : PcsAt F w l rows) (h0 : rows ≠ []) (hW : wgPs l ≤ 500000) (hrl : rows.length ≤ 500000) (hF : ∀ k, F k → S k) (hSg : S 0) (hla : LaidW w) (hft : ∀ p ∈ l, fitP p) (hT : (textPs l).length ≤ 1000000000) :
    Calls Tryz.prog 22 #[.pointer (some ⟨b, 0, none⟩)] w (fun e w' => e = .returned (.string ⟨(textPs l).toArray⟩) ∧ Fr2 (fun k => ¬ S k) w w') := by
  obtain ⟨g, cap, cb, hBg, hgw, hSg9, hbB, hcap, hfz⟩ := h.cell h0
  have hg := World.grownBy_alloc w (.cells #[.pointer none, .slice none 0 0] 91) none
  have hbl := bld_new w w.heap.size (Nat.le_refl _)
  have hSs : ∀ k, S k → k < w.heap.size := by obtain ⟨v, -, -, -, -, -, -, hh⟩ := h; exact hh
  have c1 := hg.cell cb (by simp)
  have hsz : (w.alloc (.cells #[.pointer none, .slice none 0 0] 91)).heap.size = w.heap.size + 1 := by simp
  have HREV := Lib.hid (rev_w S F B b w.heap.size g rows.length cap cap [] rows l [] _ (h.kept hg) (hp.same (S := fun _ => False) (Fr2.none hg) (fun _ _ h => h)) hF hbl c1 (by omega))
  have HG := Lib.hid hg; have HSS := Lib.hid hSs; have HF := Lib.hid hF; have HSG := Lib.hid hSg; have HFT := Lib.hid hft; have HT := Lib.hid hT
  have HLA : Hid (∀ W, Fr2 (fun k => ¬ S k) w W → LaidW W) := Lib.hid (fun W hf => hla.same hf hSg (hSs _ hSg))
  have HBW : Hid (b < w.heap.size) := Lib.hid (by obtain ⟨v, hb, -⟩ := h; exact hlt hb)
  obtain ⟨T, hTT⟩ : ∃ T, textPs l = T := ⟨_, rfl⟩
  have HTT := Lib.hid hTT
  rw [hTT]
  have hbw := HBW.out
  clear h hp h0 hF hSg hla hft hT hg hbl hSs cb hBg hSg9 hbB hcap hfz hTT hgw
  go_enter Tryz.func22, Tryz.ntmps22
  go_wp2_with fail
  refine HREV.out.mono ?_
  rintro e w2 ⟨rfl, hw2, hp2, hb2, hf2⟩
  have HW2 := Lib.hid hw2; have HP2 := Lib.hid hp2; have HB2 := Lib.hid hb2; have HF2 := Lib.hid ((Fr2.none HG.out).trans hf2)
  have HZ2 : Hid (w.heap.size < w2.heap.size) := Lib.hid (by have := hf2.size; rw [hsz] at this; omega)
  clear hw2 hp2 hb2 hf2 c1 hsz HG
  obtain ⟨bb, hbb⟩ : ∃ bb, w.heap.size = bb := ⟨_, rfl⟩
  have HBB := Lib.hid hbb
  rw [hbb] at HB2 HZ2 ⊢
  clear hbb HREV hbw
  go_wp2_with fail
  go_loopg [4, 5] (wgPs l) (fun gk sv tv wr => ∃ st out R, wgPs st ≤ gk ∧ gk ≤ 500000 ∧ Hid (WrAt S B b wr R) ∧ Hid (PcsAt F wr st.reverse R) ∧ Hid (BldI bb (Lib.byteCells out) wr) ∧ Hid (out ++ textPs st = T) ∧ Hid (Fr2 (fun k => ¬ S k) w wr) ∧ Hid (∀ p ∈ st, fitP p) ∧ Hid (bb < wr.heap.size))
  case atStart => exact ⟨l, [], rows.reverse, Nat.le_refl _, hW, HW2, HP2, HB2, Lib.hid (by rw [HTT.out]; rfl), HF2, HFT, HZ2⟩
  case round =>
    obtain ⟨st, out, R, hcg, hgk, HWR, HPA, HBD, HTX, HFR, HFI, HZR⟩ := hrel
    rcases st with _ | ⟨p, st'⟩
    · obtain ⟨p0, k0, c0⟩ := HWR.out.len0
      have hR : R.length = 0 := HPA.out.len
      rw [hR] at c0
      have HSTR := Lib.hid (Tryz.Builder_String_any_k bb bb _ wr (Lib.IsBuilderF.of HBD.out) (Nat.le_of_lt HZR.out))
      have hbw2 : b < wr.heap.size := Nat.lt_of_lt_of_le HBW.out HFR.out.size
      clear hcg hgk hR HPA HBD HWR HZR HFI
      clear hW hrl
      go_upto_region 11 with fail
      go_wp2_with fail
      refine HSTR.out.mono ?_
      rintro e w7 ⟨rfl, -, hbe7, -⟩
      have HF7 := Lib.hid (HFR.out.trans (fr_below hbe7 (fun k hk => by have := HSS.out k hk; rw [HBB.out] at this; exact this)))
      clear hbe7
      go_wp2_with fail
      go_ret
      have hTe : T = out := by have := HTX.out; rw [show textPs ([] : List Pc) = [] from rfl, List.append_nil] at this; exact this.symm
      exact ⟨by rw [hTe]; rfl, HF7.out⟩
    · obtain ⟨R0, q0, rfl, hp0, hq0⟩ : ∃ R0 q0, R = R0 ++ [q0] ∧ PcsAt F wr st'.reverse R0 ∧ PcAt F wr p q0 := by
        have := HPA.out
        rw [List.reverse_cons] at this
        obtain ⟨r1, r2, rfl, h1, h2⟩ := this.split
        obtain ⟨q, r', rfl, h3, h4⟩ := h2
        have h4 : r' = [] := h4
        subst h4
        exact ⟨r1, q, rfl, h1, h3⟩
      obtain ⟨g2, cap2, c0, -, hg2w, -, -, hcap2, hfz⟩ := HWR.out.cell (by simp)
      obtain ⟨hn1, hlc⟩ := HWR.out.last c0
      obtain ⟨q00, q01, q02, rfl⟩ : ∃ a b c, q0 = [a, b, c] := by
        cases p with
        | bs s => exact ⟨_, _, _, hq0⟩
        | ex x least => obtain ⟨g, o, q, h, -⟩ := hq0; exact ⟨_, _, _, h⟩
      have HPOP := Lib.hid (pop_w HWR.out hp0 hq0 HF.out HBD.out c0)
      have a0 := hlc 0 _ rfl
      have a1 := hlc 1 _ rfl
      have a2 := hlc 2 _ rfl
      obtain ⟨L, hL⟩ : ∃ L, R0.length = L := ⟨_, rfl⟩
      have hwg := wgPs_cons p st'
      have hLb : L + 1 ≤ 500000 := by
        have h1 := hp0.len
        rw [List.length_reverse, hL] at h1
        have h2 := len_wgPs st'
        have h3 := wgP_pos p
        omega
      rw [hn1, hL] at c0
      rw [hL] at a0 a1 a2 HPOP
      rw [Nat.add_zero] at a0
      obtain ⟨n1, hn1e⟩ : ∃ n1, L + 1 = n1 := ⟨_, rfl⟩
      rw [hn1e] at c0
      have hw1 : IntKind.i64.wrap ((n1 : Int) - 1) = (L : Int) := by rw [IntWalk.i64_in _ (by omega)]; omega
      have x1 : (0 : Int) ≤ (L : Int) := by omega
      have x2 : (L : Int) < (n1 : Int) := by omega
      have x3 : decide (L < n1) = true := decide_eq_true (by omega)
      have x4 : decide ((L : Int) < (n1 : Int)) = true := decide_eq_true x2
      have x5 : decide ((0 : Int) < (n1 : Int)) = true := decide_eq_true (by omega)
      have x6 : decide (0 < n1) = true := decide_eq_true (by omega)
      have hbw2 : b < wr.heap.size := Nat.lt_of_lt_of_le HBW.out HFR.out.size
      have y1 : L ≤ cap2 := by rw [List.length_append, hL] at hcap2; omega
      have y2 : (L : Int) ≤ (cap2 : Int) := by omega
      have y3 : ¬ ((cap2 : Int) < (L : Int)) := by omega
      clear hcap2
      have HL := Lib.hid hL
      have HN1 := Lib.hid hn1e
      have HCG := Lib.hid hcg; have HGK := Lib.hid hgk; have HWG := Lib.hid hwg
      clear hp0 hq0 hn1 hlc hcg hgk hwg hW hrl HWR HPA HBD hL hn1e
      cases p with
      | bs s =>
        have hq9 := HPOP.out.2.2.1
        obtain ⟨sb, hsb⟩ : ∃ sb : ByteArray, (⟨s.toArray⟩ : ByteArray) = sb := ⟨_, rfl⟩
        have hq9 : [q00, q01, q02] = [.string ⟨s.toArray⟩, .pointer none, .int .i64 0] := hq9
        rw [hsb] at hq9
        simp only [List.cons.injEq, and_true] at hq9
        obtain ⟨rfl, rfl, rfl⟩ := hq9
        have HSB := Lib.hid hsb
        clear hsb
        go_upto_region 7 with fail
        obtain ⟨hw3, hps3, -, hb3, hf3, hbk3, -⟩ := HPOP.out
        change WrAt S B b ((wr.setCell ⟨b, 0, none⟩ (.slice (some ⟨g2, 0, none⟩) L cap2)).alloc (.cells #[.string sb, .pointer none, .int .i64 0] 94)) R0 at hw3
        change PcsAt F ((wr.setCell ⟨b, 0, none⟩ (.slice (some ⟨g2, 0, none⟩) L cap2)).alloc (.cells #[.string sb, .pointer none, .int .i64 0] 94)) _ R0 at hps3
        change BldI bb _ ((wr.setCell ⟨b, 0, none⟩ (.slice (some ⟨g2, 0, none⟩) L cap2)).alloc (.cells #[.string sb, .pointer none, .int .i64 0] 94)) at hb3
        change Fr2 _ wr ((wr.setCell ⟨b, 0, none⟩ (.slice (some ⟨g2, 0, none⟩) L cap2)).alloc (.cells #[.string sb, .pointer none, .int .i64 0] 94)) at hf3
        change ((wr.setCell ⟨b, 0, none⟩ (.slice (some ⟨g2, 0, none⟩) L cap2)).alloc (.cells #[.string sb, .pointer none, .int .i64 0] 94)).heap[wr.heap.size]? = some (.cells #[.string sb, .pointer none, .int .i64 0] 94 (0, 0)) at hbk3
        clear HPOP HW2 HP2 HB2 HF2 HZ2
        generalize ((wr.setCell ⟨b, 0, none⟩ (.slice (some ⟨g2, 0, none⟩) L cap2)).alloc (.cells #[.string sb, .pointer none, .int .i64 0] 94)) = w3 at *
        obtain ⟨d0, d1, d2, -⟩ := cells3 hbk3
        have HW3 := Lib.hid hw3; have HP3 := Lib.hid hps3; have HB3 := Lib.hid hb3; have HF3 := Lib.hid (HFR.out.trans hf3)
        have HZ3 : Hid (bb < w3.heap.size) := Lib.hid (Nat.lt_of_lt_of_le HZR.out hf3.size)
        have HLEN : Hid ((Lib.byteCells out).length + sb.size ≤ 140737488355328) := Lib.hid (by
          have h1 := congrArg List.length HTX.out
          have h2 := HT.out
          rw [HTT.out, ← h1] at h2
          have h3 : sb.size = s.length := by rw [← HSB.out]; rfl
          rw [Lib.byteCells_length, h3]
          simp only [textPs, List.flatMap_cons, textP, List.length_append] at h2
          omega)
        clear hw3 hps3 hb3 hf3 hbk3 c0 a0 a1 a2 hfz x1 x2 x3 x4 x5 x6 y1 y2 y3 hw1 hg2w hbw2 HFR
        obtain ⟨nb, hnb⟩ : ∃ nb, wr.heap.size = nb := ⟨_, rfl⟩
        rw [hnb] at d0 d1 d2 ⊢
        clear hnb
        go_wp2_with fail
        refine (WriteString_c bb bb _ sb _ HB3.out HLEN.out (Nat.le_of_lt HZ3.out)).mono ?_
        rintro e w4 ⟨rfl, ⟨hb4, hbe4⟩, hok4⟩
        have HW4 := Lib.hid (HW3.out.wrote hok4 hbe4 (fun _ => HB3.out.cells))
        have hf4 : Fr2 (fun k => ¬ S k) w3 w4 := fr_below hbe4 (fun k hk => by have := HSS.out k hk; rw [HBB.out] at this; exact this)
        have HP4 := Lib.hid (HP3.out.same hf4 (fun k hk e => e (HF.out k hk)))
        have HF4 := Lib.hid (HF3.out.trans hf4)
        have HZ4 : Hid (bb < w4.heap.size) := Lib.hid (Nat.lt_of_lt_of_le HZ3.out hf4.size)
        have HB4 : Hid (BldI bb (Lib.byteCells (out ++ s)) w4) := Lib.hid (.inr (by rw [Lib.byteCells_append]; rw [← HSB.out] at hb4; exact hb4))
        clear hb4 hbe4 hok4 hf4 d0 d1 d2 HW3 HP3 HB3 HF3 HZ3 HLEN
        go_wp2_with fail
        go_roundg (wgPs st')
        case rel => exact ⟨st', out ++ s, R0, Nat.le_refl _, by have h1 := HCG.out; have h2 := HWG.out; have h3 := HGK.out; omega, HW4, HP4, HB4, Lib.hid (by rw [← HTX.out]; simp [textPs, textP]), HF4, Lib.hid (fun p hp => HFI.out p (List.mem_cons_of_mem _ hp)), HZ4⟩
        case measure => have h1 := HCG.out; have h2 := HWG.out; simp only [wgP] at h2; omega
      | ex x least =>
        have hq9 := HPOP.out.2.2.1
        obtain ⟨gx, ox, qx, hq9, -⟩ := hq9
        simp only [rowX, List.cons.injEq, and_true] at hq9
        obtain ⟨rfl, rfl, rfl⟩ := hq9
        go_upto_region 7 with fail
        obtain ⟨hw3, hps3, hp9, hb3, hf3, hbk3, -⟩ := HPOP.out
        change WrAt S B b ((wr.setCell ⟨b, 0, none⟩ (.slice (some ⟨g2, 0, none⟩) L cap2)).alloc (.cells #[.string ⟨#[]⟩, .pointer (some ⟨gx, ox, none⟩), .int .i64 (least : Int)] 94)) R0 at hw3
        change PcsAt F ((wr.setCell ⟨b, 0, none⟩ (.slice (some ⟨g2, 0, none⟩) L cap2)).alloc (.cells #[.string ⟨#[]⟩, .pointer (some ⟨gx, ox, none⟩), .int .i64 (least : Int)] 94)) _ R0 at hps3
        change PcAt F ((wr.setCell ⟨b, 0, none⟩ (.slice (some ⟨g2, 0, none⟩) L cap2)).alloc (.cells #[.string ⟨#[]⟩, .pointer (some ⟨gx, ox, none⟩), .int .i64 (least : Int)] 94)) _ _ at hp9
        change BldI bb _ ((wr.setCell ⟨b, 0, none⟩ (.slice (some ⟨g2, 0, none⟩) L cap2)).alloc (.cells #[.string ⟨#[]⟩, .pointer (some ⟨gx, ox, none⟩), .int .i64 (least : Int)] 94)) at hb3
        change Fr2 _ wr ((wr.setCell ⟨b, 0, none⟩ (.slice (some ⟨g2, 0, none⟩) L cap2)).alloc (.cells #[.string ⟨#[]⟩, .pointer (some ⟨gx, ox, none⟩), .int .i64 (least : Int)] 94)) at hf3
        change ((wr.setCell ⟨b, 0, none⟩ (.slice (some ⟨g2, 0, none⟩) L cap2)).alloc (.cells #[.string ⟨#[]⟩, .pointer (some ⟨gx, ox, none⟩), .int .i64 (least : Int)] 94)).heap[wr.heap.size]? = some (.cells #[.string ⟨#[]⟩, .pointer (some ⟨gx, ox, none⟩), .int .i64 (least : Int)] 94 (0, 0)) at hbk3
        clear HPOP HW2 HP2 HB2 HF2 HZ2
        generalize ((wr.setCell ⟨b, 0, none⟩ (.slice (some ⟨g2, 0, none⟩) L cap2)).alloc (.cells #[.string ⟨#[]⟩, .pointer (some ⟨gx, ox, none⟩), .int .i64 (least : Int)] 94)) = w3 at *
        obtain ⟨d0, d1, d2, -⟩ := cells3 hbk3
        have hfx : fitS x := HFI.out (.ex x least) List.mem_cons_self
        have hf03 := HFR.out.trans hf3
        have HOP := Lib.hid (open_w S F B b bb R0 x least gx ox (Lib.byteCells out) w3 hw3 (by have := HL.out; omega) hp9 hfx HF.out HSG.out (HLA.out _ hf03) hb3)
        have HP3 := Lib.hid hps3; have HF3 := Lib.hid hf03
        have HZ3 : Hid (bb < w3.heap.size) := Lib.hid (Nat.lt_of_lt_of_le HZR.out hf3.size)
        have HFX := Lib.hid hfx
        have hL2 : L + 1 ≤ 500000 := hLb
        clear hw3 hps3 hp9 hb3 hf3 hbk3 c0 a0 a1 a2 hfz x1 x2 x3 x4 x5 x6 y1 y2 y3 hw1 hg2w hbw2 HFR hfx hf03 hLb
        obtain ⟨nb, hnb⟩ : ∃ nb, wr.heap.size = nb := ⟨_, rfl⟩
        rw [hnb] at d0 d1 d2 ⊢
        clear hnb
        go_wp2_with fail
        refine HOP.out.mono ?_
        rintro e w4 ⟨rfl, R1, hw4, hp4, hb4, hf4⟩
        have hlen := hp4.len
        have hR1 : 1 ≤ R1.length := by
          rw [hlen]
          rcases ho : openP x least with _ | ⟨a, t⟩
          · exact absurd ho (openP_ne x least)
          · simp
        have hR2 : R1.length ≤ 500000 := by
          have h1 := len_wgPs (openP x least)
          have h2 := fit_wg HFX.out least
          have h3 := HCG.out; have h4 := HWG.out; have h5 := HGK.out
          simp only [wgP] at h4
          omega
        obtain ⟨g4, cap4, c4, -, hg4w, -, -, hcap4, hfz4⟩ := hw4.cell (by intro h; rw [List.append_eq_nil_iff] at h; rw [h.2] at hR1; simp at hR1)
        have HREV4 := Lib.hid (fun cap' => rev_w S F B b bb g4 (R0 ++ R1).length cap4 cap' R0 R1 (openP x least) (Lib.byteCells out) w4 hw4 hp4 HF.out hb4 c4 (by omega))
        obtain ⟨M, hM⟩ : ∃ M, R1.length = M := ⟨_, rfl⟩
        have hcl : (R0 ++ R1).length = L + M := by rw [List.length_append, HL.out, hM]
        rw [hcl] at c4 hcap4
        rw [HL.out, hM] at HREV4
        obtain ⟨n4, hn4⟩ : ∃ n4, L + M = n4 := ⟨_, rfl⟩
        have hM2 : n4 - L = M := by omega
        rw [hn4] at c4 hcap4
        have HP4 := Lib.hid (HP3.out.same hf4 (fun k hk e => e (HF.out k hk)))
        have HF4 := Lib.hid (HF3.out.trans hf4)
        have HZ4 : Hid (bb < w4.heap.size) := Lib.hid (Nat.lt_of_lt_of_le HZ3.out hf4.size)
        have hbw4 : b < w4.heap.size := Nat.lt_of_lt_of_le HBW.out HF4.out.size
        have x1 : (0 : Int) ≤ (L : Int) := by omega
        have x2 : (L : Int) ≤ (n4 : Int) := by omega
        have x3 : L ≤ n4 := by omega
        have x4 : (n4 : Int) ≤ (cap4 : Int) := by omega
        have x5 : n4 ≤ cap4 := by omega
        have x6 : ¬ cap4 = L := by omega
        have x7 : ¬ (n4 : Int) < (L : Int) := by omega
        have x8 : L ≤ cap4 := by omega
        clear hw4 hp4 hb4 hf4 hlen hR1 hR2 hcl hcap4 hM hn4 HOP HP3 HF3 HZ3 d0 d1 d2
        go_wp2_with fail
        refine (HREV4.out _).mono ?_
        rintro e w5 ⟨rfl, hw5, hp5, hb5, hf5⟩
        have HW5 := Lib.hid hw5
        have HP5 : Hid (PcsAt F w5 (openP x least ++ st').reverse (R0 ++ R1.reverse)) := Lib.hid (by rw [List.reverse_append]; exact (HP4.out.same hf5 (fun k hk e => e (HF.out k hk))).app hp5)
        have HB5 := Lib.hid hb5; have HF5 := Lib.hid (HF4.out.trans hf5)
        have HZ5 : Hid (bb < w5.heap.size) := Lib.hid (Nat.lt_of_lt_of_le HZ4.out hf5.size)
        have HME : Hid (wgPs (openP x least ++ st') < gk) := Lib.hid (by
          have h2 := fit_wg HFX.out least
          have h3 := HCG.out; have h4 := HWG.out
          simp only [wgP] at h4
          rw [wgPs_append]; omega)
        clear hw5 hp5 hb5 hf5 c4 hfz4 x1 x2 x3 x4 x5 x6 x7 x8 hM2 HREV4 HP4 HF4 HZ4 hbw4 hg4w
        go_wp2_with fail
        go_roundg (wgPs (openP x least ++ st'))
        case rel =>
          exact ⟨openP x least ++ st', out, R0 ++ R1.reverse, Nat.le_refl _, by have h1 := HME.out; have h3 := HGK.out; omega, HW5, HP5, HB5, Lib.hid (by rw [← HTX.out, textPs_app, fit_text HFX.out]; rfl), HF5, Lib.hid (fun p hp => (List.mem_append.1 hp).elim (fit_open HFX.out least p) (fun h => HFI.out p (List.mem_cons_of_mem _ h))), HZ5⟩
        case measure => exact HME.out

section
variable {b bb : Nat} {T : List Tok} {D n : Nat} {A0 : Nat → Prop} {vn0 : Value} {w0 w w' : World} {s : St} {u : Nat} {N : List Nd} {vn : Value} {L : List (Value × Th)}
theorem KX.setIn (hk : KX b bb T D n A0 vn0 w0 w s u N vn L) (v : Bool) : KX b bb T D n A0 vn0 w0 (w.setCell ⟨b, 7, none⟩ (.bool v)) (setIn v s) u N vn L := by
  obtain ⟨A, h1, h2, h3, h4, h5⟩ := hk
  have hf : Fr2 (Self b) w (w.setCell ⟨b, 7, none⟩ (.bool v)) := (Fr2.refl _ _).setCell (mine b) _
  exact KX.go h2 h3 h4 h5 h1.lt (h1.turn (s' := Go.Proofs.YtijpelkjeejjfaaGreatDoor.setIn v s) hf ((set_cells (i := 7) h1.box).trans rfl) h1.ok) (Step.self hf)
theorem KX.froz (hk : KX b bb T D n A0 vn0 w0 w s u N vn L) : ∀ o, w.frozen? ⟨b, o, none⟩ = false := by
  obtain ⟨A, h1, -⟩ := hk
  exact (cells10 h1.box).2.2.2.2.2.2.2.2.2.2
end
section
variable (b bb : Nat) (T : List Tok) (D : Nat)
--GEN

end
end Go.Proofs.YtijpelkjeejjfaaGreatDoor
namespace Go.Proofs.YtijpelkjeejjfaaGreatDoor
open Go.RowKit

/-- What taking the end leaves. -/
def EndIs (T : List Tok) (s : St) (N : List Nd) (v : Int) (u' : Nat) (N' : List Nd) : Prop :=
  ((kindT T 5 s).2.e = 0 → N' = N ++ [⟨19, (s.i : Int), []⟩] ∧ v = (N.length : Int) ∧ u' = s.i + 1 ∧ (kindT T 5 s).1 = [.lf s.i]) ∧ ((kindT T 5 s).2.e ≠ 0 → v = -1 ∧ N' = N ∧ u' = s.i)
def EPost (b bb : Nat) (T : List Tok) (D n : Nat) (s : St) (N : List Nd) (vn : Value) (A : Nat → Prop) (w : World) (e : Ending) (w' : World) : Prop :=
  ∃ (v : Int) (u' : Nat) (N' : List Nd) (vn' : Value), e = .returned (.int .i64 v) ∧ XAt w' b bb T D n (kindT T 5 s).2 u' N' vn' A ∧ Step b bb vn w vn' w' ∧ EndIs T s N v u' N'
/-- Of a whole reading. -/
def FinPost (b bb : Nat) (T : List Tok) (D kind : Nat) (s : St) (r : RT) (N : List Nd) (vn : Value) (A : Nat → Prop) (w : World) (e : Ending) (w' : World) : Prop :=
  ∃ (x : Int) (u : Nat) (N' : List Nd) (vn' : Value), e = .returned (.int .i64 x) ∧ XAt w' b bb T D 0 r.2 u N' vn' A ∧ Step b bb vn w vn' w' ∧ u ≤ T.length ∧ (r.2.e = 0 → N' = N ++ posts N.length [.nd kind r.1])

section
variable (b bb : Nat) (T : List Tok) (D n : Nat)

set_option maxRecDepth 100000 in
set_option maxHeartbeats 4000000 in
theorem endOf_c (hC : TokC T) (s : St) (N : List Nd) (vn : Value) (A : Nat → Prop) (w : World) (h : XAt w b bb T D n s s.i N vn A) :
    Calls Tryz.prog 70 #[.pointer (some ⟨b, 0, none⟩), .int .i64 5] w (EPost b bb T D n s N vn A w) := by
  have HA : Hid (Calls Tryz.prog 99 #[.pointer (some ⟨b, 0, none⟩), .int .i64 5] w (ValPost (.bool (decide (s.e = 0 ∧ (tokQ T s).kind = 5))) w)) := Lib.hid (atKind_c b bb T D n s s.i N vn A 5 w h)
  have HF := Lib.hid (fun w h => pfail_c b bb T D n 22 s s.i N vn A w h)
  have HX := Lib.hid h
  have HKT : Hid (kindT T 5 s = if s.e = 0 ∧ (tokQ T s).kind = 5 then leafT T s else ([], failQ T 22 s)) := Lib.hid rfl
  have HTK := Lib.hid (fun w h => take_c b bb T D n hC.len hC.short hC.ends s N vn A w h)
  clear h hC
  by_cases hc : s.e = 0 ∧ (tokQ T s).kind = 5
  · rw [decide_eq_true hc] at HA
    rw [if_pos hc] at HKT
    have HC := Lib.hid hc
    clear hc
    go_enter Tryz.func70, Tryz.ntmps70
    go_wp2_with fail
    refine HA.out.mono ?_
    rintro e w1 ⟨rfl, hg⟩
    have HX1 := Lib.hid (HX.out.kept hg); have HG := Lib.hid hg
    clear hg HA
    go_wp2_with fail
    refine (HTK.out _ HX1.out).mono ?_
    rintro e w2 ⟨vn', rfl, h1, h2⟩
    have HZ : Hid (EPost b bb T D n s N vn A w (.returned (.int .i64 (N.length : Int))) w2) := Lib.hid (by
      refine ⟨_, s.i + 1, _, vn', rfl, by rw [HKT.out]; exact h1, (Step.of HG.out).trans h2, ?_, ?_⟩
      · intro _; exact ⟨rfl, rfl, rfl, by rw [HKT.out]; rfl⟩
      · intro he; rw [HKT.out] at he; exact absurd (leaf_live T HC.out.1) he)
    clear h1 h2
    go_wp2_with fail
    go_ret
    exact HZ.out
  · rw [decide_eq_false hc] at HA
    rw [if_neg hc] at HKT
    clear hc
    go_enter Tryz.func70, Tryz.ntmps70
    go_wp2_with fail
    refine HA.out.mono ?_
    rintro e w1 ⟨rfl, hg⟩
    have HX1 := Lib.hid (HX.out.kept hg); have HG := Lib.hid hg
    clear hg HA
    go_wp2_with fail
    refine (HF.out _ HX1.out).mono ?_
    rintro e w2 ⟨rfl, h2, st2⟩
    have HZ : Hid (EPost b bb T D n s N vn A w (.returned (.int .i64 (-1))) w2) := Lib.hid (by
      refine ⟨-1, s.i, N, vn, rfl, by rw [HKT.out]; exact h2, (Step.of HG.out).trans st2, ?_, ?_⟩
      · intro he; rw [HKT.out] at he; exact absurd he (fail_e T (by decide) s)
      · intro _; exact ⟨rfl, rfl, rfl⟩)
    clear h2 st2
    go_wp2_with fail
    go_ret
    exact HZ.out
end

/-- Of all that was read: nodes and places. -/
def FinL (N0 : List Nd) (r : RT) (N : List Nd) (vs : List Int) : Prop := (r.2.e = 0 → N = N0 ++ posts N0.length r.1 ∧ vs = idxs N0.length r.1) ∧ (r.2.e ≠ 0 → (-1 : Int) ∈ vs)
section
variable {b bb : Nat} {T : List Tok} {D n : Nat} {A0 : Nat → Prop} {vn0 : Value} {w0 w w' : World} {s : St} {u : Nat} {N : List Nd} {vn : Value} {L : List (Value × Th)}
theorem FinL.of {k : Nat} {N0 N' : List Nd} {s0 : St} {a : RT} {vs : List Int} {v : Int} {u' : Nat} (h : OutL k N0 s0 a N vs) (he : EndIs T a.2 N v u' N') : FinL N0 (a.1 ++ (kindT T 5 a.2).1, (kindT T 5 a.2).2) N' (vs ++ [v]) := by
  refine ⟨fun e => ?_, fun e => ?_⟩
  · have ea : a.2.e = 0 := by
      rcases Nat.eq_zero_or_pos a.2.e with h9 | h9
      · exact h9
      · exact absurd e (by show ¬ (kindT T 5 a.2).2.e = 0; rw [(kind_keep T 5 a.2).dead (by omega)]; omega)
    obtain ⟨e1, e2, -⟩ := h.1 ea
    obtain ⟨f1, f2, f3, f4⟩ := he.1 e
    have hl : N.length = N0.length + szRs a.1 := by rw [e1, List.length_append, posts_len]
    rw [f4, posts_append, idxs_append, f1, f2, ← e2]
    refine ⟨?_, ?_⟩
    · rw [← List.append_assoc, ← e1]; simp [posts, post]
    · rw [hl]; simp [idxs, szR]
  · rw [(he.2 e).1]; exact List.mem_append_right _ (List.mem_singleton.2 rfl)
theorem KX.endOf (hk : KX b bb T D n A0 vn0 w0 w s s.i N vn L) (hC : TokC T) :
    Calls Tryz.prog 70 #[.pointer (some ⟨b, 0, none⟩), .int .i64 5] w fun e w' => ∃ (v : Int) (u' : Nat) (N' : List Nd) (vn' : Value), e = .returned (.int .i64 v) ∧ KX b bb T D n A0 vn0 w0 w' (kindT T 5 s).2 u' N' vn' L ∧ EndIs T s N v u' N' := by
  obtain ⟨A, h1, h2, h3, h4, h5⟩ := hk
  refine (endOf_c b bb T D n hC s N vn A w h1).mono ?_
  rintro e w' ⟨v, u', N', vn', rfl, g1, g2, g3⟩
  exact ⟨v, u', N', vn', rfl, KX.go h2 h3 h4 h5 h1.lt g1 g2, g3⟩
theorem KX.nodeEnd {kind : Nat} {v : Value} {vs : List Int} {N0 : List Nd} {r : RT} (hk : KX b bb T D n A0 vn0 w0 w r.2 u N vn L) (hm : (v, Th.ints vs) ∈ L) (hT : T.length ≤ 40000) (hu : u ≤ T.length) (hF : FinL N0 r N vs) (hl : vs.length ≤ 30000) (hr : r.2.e = 0 → N.length + 1 ≤ 2 * u) :
    Calls Tryz.prog 67 #[.pointer (some ⟨bb, 0, none⟩), .int .i64 (kind : Int), v] w fun e w' => ∃ (x : Int) (N' : List Nd) (vn' : Value), e = .returned (.int .i64 x) ∧ KX b bb T D n A0 vn0 w0 w' r.2 u N' vn' L ∧ (r.2.e = 0 → N' = N0 ++ posts N0.length [.nd kind r.1]) := by
  obtain ⟨p, c, rfl, hv, -, -⟩ := hk.list hm
  have hk2 := hk
  obtain ⟨A, h1, h2, h3, h4, h5⟩ := hk
  have hfew := h1.few
  by_cases he : r.2.e = 0
  · obtain ⟨e1, e2⟩ := hF.1 he
    have hok : okB N.length vs = true := okB_true fun j hj => by
      rw [e2] at hj
      have := idxs_in _ _ _ hj
      rw [e1, List.length_append, posts_len]; omega
    refine (Node_far A bb T u N vn (kind : Int) vs p c w (by omega) (by omega) h1.bld h1.new hv hok).mono ?_
    rintro e w' ⟨rfl, vn', g1, g2, g3⟩
    obtain ⟨hx, hst⟩ := h1.bump g1 g2 g3 (by rw [List.length_append]; exact hr he)
    refine ⟨_, _, vn', rfl, KX.go h2 h3 h4 h5 h1.lt hx hst, fun _ => ?_⟩
    simp only [posts, post, List.append_nil]
    rw [← List.append_assoc, ← e1, e2]
  · have hno : okB N.length vs = false := by
      obtain ⟨j, hj⟩ := List.getElem?_of_mem (hF.2 he)
      exact okB_false hj (by omega)
    refine (Node_none bb T u N vn (kind : Int) vs p c w (by omega) (by omega) h1.bld.bld hv hno).mono ?_
    rintro e w' ⟨rfl, hg⟩
    exact ⟨-1, N, vn, rfl, hk2.kept hg, fun e => absurd e he⟩
end

section
variable (T : List Tok) (D : Nat)
end

section
variable (b bb : Nat) (T : List Tok) (D : Nat)

end
end Go.Proofs.YtijpelkjeejjfaaGreatDoor
namespace Go.Proofs.YtijpelkjeejjfaaGreatDoor
open Go.RowKit

section
variable (b bb : Nat) (T : List Tok) (D n : Nat)

set_option maxRecDepth 100000 in
set_option maxHeartbeats 4000000 in
theorem factor_p (hC : TokC T) (hD : D ≤ 200) (hn : n ≤ D) (hA : SubI b bb T D n (fun _ => True) 166 (atomT T (NT T D n))) (hB : n < D → SubI b bb T D (n + 1) (fun _ => True) 165 (factorT T D (n + 1) (NT T D (n + 1)))) : SubI b bb T D n (fun _ => True) 165 (factorT T D n (NT T D n)) := by
  intro s N vn A w hP h
  have HCC := Lib.hid hC; have HPP := Lib.hid hP
  have HSA := Lib.hid hA
  have HNB := Lib.hid (nested_factor b bb T D n hD hn (fun _ => True) _ hB)
  have HEQ := Lib.hid (fun s hk => sign_eqv T hn (sub := factorT T D (n + 1) (NT T D (n + 1))) (sub' := (NT T D n).factor) (fun hlt => by rw [NT_succ T hlt]) s hk)
  have HK := Lib.hid (KX.start h)
  have HFEW := Lib.hid h.few
  have HA := Lib.hid (OutL.nil N s)
  clear h hC hP hD hn hA hB
  go_enter Tryz.func165, Tryz.ntmps165
  go_wp2_with fail
  refine (KX.at (ws := [[45]]) (HK.out.strs1 _ _) (List.mem_cons_self ..) (by decide)).mono ?_
  rintro e w1 ⟨rfl, hk⟩
  have HK := Lib.hid (hk.nils)
  obtain ⟨b1, hb⟩ : ∃ b1, isQ T [45] s = b1 := ⟨_, rfl⟩
  rw [at_one HCC.out (by decide), hb]
  have HV1 := Lib.hid hb
  clear hk hb
  cases b1
  · skip
    go_wp2_with fail
    refine (HK.out.sub HSA.out trivial).mono ?_
    rintro e w9 ⟨v9, N9, vn9, rfl, hk9, ho9, hd9⟩
    have HQ := Lib.hid (KX.fin ho9 hk9 hd9 (r' := (factorT T D n (NT T D n)) s) (by unfold factorT; rw [if_neg (by rw [HV1.out]; decide)]; exact Eqv.refl _))
    clear hk9 ho9 hd9
    go_wp2_with fail
    go_ret
    exact HQ.out
  · skip
    have HLI := Lib.hid (is_kind HV1.out)
    go_wp2_with fail
    have HK := Lib.hid HK.out.drew
    go_region_held3 (fun w' => w'.cell? ⟨b, 0, none⟩ = some (.pointer (some ⟨bb, 0, none⟩))) (first | with_reducible exact HK.out.cell | with_reducible exact (HK.out.alloc _).cell | with_reducible exact ((HK.out.alloc _).alloc _).cell | with_reducible exact (((HK.out.alloc _).alloc _).alloc _).cell)
      (first
        | (go_at_call 98; (first | with_reducible refine (HK.out.take HCC.out HLI.out.1 HLI.out.2).mono ?_ | with_reducible refine ((HK.out.strs1 _ _).take HCC.out HLI.out.1 HLI.out.2).mono ?_ | with_reducible refine (((HK.out.strs1 _ _).strs1 _ _).take HCC.out HLI.out.1 HLI.out.2).mono ?_); rintro e w9 ⟨v9, N9, vn9, rfl, hk9, ho9, hd9⟩; have HK := Lib.hid hk9; have HD := Lib.hid (OutD.app HA.out ho9 hd9); have HA := Lib.hid HD.out.out; clear hk9 ho9 hd9)
        | (go_at_call 68; (first | with_reducible refine (HK.out.call (fun A h => HNB.out _ _ _ A _ trivial h)).mono ?_ | with_reducible refine ((HK.out.strs1 _ _).call (fun A h => HNB.out _ _ _ A _ trivial h)).mono ?_ | with_reducible refine (((HK.out.strs1 _ _).strs1 _ _).call (fun A h => HNB.out _ _ _ A _ trivial h)).mono ?_); rintro e w9 ⟨v9, N9, vn9, rfl, hk9, ho9, hd9⟩; have HK := Lib.hid hk9; have HD := Lib.hid (OutD.app HA.out ho9 hd9); have HA := Lib.hid HD.out.out; clear hk9 ho9 hd9)
        | (go_at_call 67; have HDW := Lib.hid (HD.out.weak (j := 0 + 1) (by decide)); refine (KX.node (k := 0) (kind := 11) (HK.out.ints2 _ _ ) ?_ HCC.out.len HDW.out ?_ HFEW.out ?_).mono ?_; exact List.mem_cons_self ..; rfl; simp; rintro e w9 ⟨v9, N9, vn9, rfl, hk9, ho9⟩; have HK := Lib.hid hk9; have HZ := Lib.hid ho9; clear hk9 ho9))
    all_goals
      have HQ := Lib.hid (KX.fin HZ.out HK.out (fun he => absurd HLI.out.2 he) (r' := (factorT T D n (NT T D n)) s) (by rw [show factorT T D n (NT T D n) s = signT T D n (NT T D n).factor s from if_pos HV1.out]; exact HEQ.out _ HLI.out.2))
      go_wp2_with fail
      go_ret
      exact HQ.out
end
end Go.Proofs.YtijpelkjeejjfaaGreatDoor
namespace Go.Proofs.YtijpelkjeejjfaaGreatDoor

theorem tok_of : ∀ (f : Nat) (l : List UInt8) (p : Nat) (t : Tok), t ∈ (lexG f l p).1 → ∃ l' p', t = tokE l' p'
  | 0, l, p, t, h => by simp [lexG] at h
  | f + 1, l, p, t, h => by
    unfold lexG at h
    split at h
    · simp at h
    split at h
    · simp at h; exact ⟨l, p, h⟩
    · rcases List.mem_cons.1 h with rfl | h
      · exact ⟨l, p, rfl⟩
      · exact tok_of f _ _ t h
theorem ks_let : ∀ x ∈ KS, (x.head?.any isLet) = true → keysL.contains x = true := by decide
theorem ks_dig : ∀ x ∈ KS, (x.head?.any isDig) = false := by decide
theorem ks_nil : ([] : List UInt8) ∉ KS := by decide
theorem take_run (p : UInt8 → Bool) (a : UInt8) (r : List UInt8) (h : p a = true) : ((a :: r).take (runN p (a :: r))).head? = some a := by
  have : runN p (a :: r) = runN p r + 1 := by simp [runN, h]
  rw [this]; rfl
theorem first_keys (m : List UInt8) (h : m.take (firstE m).2 ∈ KS) : (firstE m).1 = 2 ∨ (firstE m).1 = 4 := by
  cases m with
  | nil => exact absurd h ks_nil
  | cons a r =>
    rw [firstE_cons] at h ⊢
    by_cases h1 : isLet a = true
    · rw [if_pos h1] at h ⊢
      have hw : inW a = true := by unfold inW; rw [h1]; rfl
      have hh := take_run inW a r hw
      have := ks_let _ h (by simp only [] at hh ⊢; rw [hh]; simpa using h1)
      simp only [] at this ⊢
      rw [if_pos this]; exact .inl rfl
    · rw [if_neg h1] at h ⊢
      by_cases h2 : isDig a = true
      · rw [if_pos h2] at h
        have hh := take_run isDig a r h2
        have := ks_dig _ h
        simp only [] at hh this
        rw [hh] at this
        simp [h2] at this
      · rw [if_neg h2] at h ⊢
        by_cases h3 : 0 < signN (a :: r)
        · rw [if_pos h3]; exact .inr rfl
        · rw [if_neg h3] at h
          exact absurd h ks_nil
theorem short_whole {L : List Tok} {n : Nat} (h : (wholeL L).length ≤ n) (hn : n ≤ 1000000) : Short L := fun t ht => by
  obtain ⟨k, hk⟩ := List.getElem?_of_mem ht
  have h1 := wholeL_next hk
  have h2 := wholeL_take L (k + 1)
  rw [h1, List.length_append, List.length_append] at h2
  omega
theorem tokC_all {l : List UInt8} (h : (allE l).2.1 = 0) (hl : l.length ≤ 30000) : TokC (allE l).1 := by
  have h1 := len_all h
  refine ⟨by omega, short_whole (n := 30000) (by rw [whole_all h]; exact hl) (by omega), (end_all h).1, fun i t ht hk => ?_⟩
  obtain ⟨l', p', rfl⟩ := tok_of _ _ _ t (List.mem_of_getElem? ht)
  exact first_keys _ hk
open Go.RowKit

/-- A row of cells: its cells, where it lies, its room. -/
structure Cr where
  l : List Cl
  p : Option Addr
  c : Nat
instance : Inhabited Cr := ⟨⟨[], none, 0⟩⟩
def crV (y : Cr) : Value := .slice y.p y.l.length y.c
def CrAt (w : World) (y : Cr) : Prop := GAt 6 w y.p (y.l.map cellR) ∧ ∀ c ∈ y.l, inK c

section
open Go.ChangeShapes Go.WideShapes Go.Deep
variable {H : Type} {enc : TypeId × Value → H} {P : Program} {w : World} {base : Nat} {spare : Nat → Bool} {held : Bool}

theorem open_rowsCC {t u e : TypeId} {f0 f1 f2 f3 f4 f5 : Field} {fuel : Nat} {v : Option Addr} {n c : Nat} {x : DataW H × List MemPlace} (ht : P.underlying t = some (.slice u)) (cu : P.cellsOf u = 1) (hu : P.underlying u = some (.slice e)) (he : P.underlying e = some (.struct #[f0, f1, f2, f3, f4, f5])) (ce : P.cellsOf e = 6)
    (o0 : f0.offset = 0) (o1 : f1.offset = 1) (o2 : f2.offset = 2) (o3 : f3.offset = 3) (o4 : f4.offset = 4) (o5 : f5.offset = 5) (c0 : P.cellsOf f0.type = 1) (c1 : P.cellsOf f1.type = 1) (c2 : P.cellsOf f2.type = 1) (c3 : P.cellsOf f3.type = 1) (c4 : P.cellsOf f4.type = 1) (c5 : P.cellsOf f5.type = 1)
    (t0 : P.underlying f0.type = some (.int .i64)) (t1 : P.underlying f1.type = some (.int .i64)) (t2 : P.underlying f2.type = some .string) (t3 : P.underlying f3.type = some .string) (t4 : P.underlying f4.type = some .string) (t5 : P.underlying f5.type = some .bool)
    (h : DataW.trod enc P w base spare held fuel t [.slice v n c] = some x) : ∃ L : List Cr, L.length = n ∧ GAt 1 w v (L.map fun y => [crV y]) ∧ ∀ y ∈ L, CrAt w y := by
  obtain ⟨-, -, q, hq, hg⟩ := open_rows ht cu (by omega) h
  have each : ∀ j, j < n → ∃ y : Cr, q j = [crV y] ∧ CrAt w y := fun j hj => by
    obtain ⟨hl, f', x', hx⟩ := hq j hj
    obtain ⟨v0, hv0⟩ : ∃ v0, q j = [v0] := by
      match q j, hl with
      | [v0], _ => exact ⟨v0, rfl⟩
    rw [hv0] at hx
    obtain ⟨p, m, c', rfl⟩ : ∃ p m c', v0 = .slice p m c' := by
      rcases open_slice hu hx with ⟨h0, -⟩ | ⟨a, len, cap, m, nn, Dd, Pl, hcs, -⟩
      · simp at h0; exact ⟨_, _, _, h0⟩
      · simp at hcs; exact ⟨_, _, _, hcs⟩
    obtain ⟨T, hT, hG, hk⟩ := open_cellsC hu he ce o0 o1 o2 o3 o4 o5 c0 c1 c2 c3 c4 c5 t0 t1 t2 t3 t4 t5 hx
    exact ⟨⟨T, p, c'⟩, by rw [hv0, ← hT]; rfl, hG, hk⟩
  obtain ⟨L, hL⟩ := choose_lt each
  refine ⟨(List.range n).map L, by simp, ?_, fun y hy => ?_⟩
  · have : ((List.range n).map L).map (fun y => [crV y]) = (List.range n).map q := by
      rw [List.map_map]
      exact List.map_congr_left fun j hj => (hL j (by simpa using hj)).1.symm
    rw [this]; exact hg
  · obtain ⟨j, hj, rfl⟩ := List.mem_map.1 hy
    exact (hL j (by simpa using hj)).2
end
end Go.Proofs.YtijpelkjeejjfaaGreatDoor
namespace Go.Proofs.YtijpelkjeejjfaaGreatDoor.showTyped
open Go.ChangeShapes Go.WideShapes Go.ChangeAt Go.RowKit

theorem k1 : (Rows.showTypedRow.inPlace == Tryz.prog.inPlace 3) = true := by kernel_rfl
theorem k2 : (Rows.showTypedRow.unfollowed == Tryz.prog.unfollowed 3) = true := by kernel_rfl
theorem k3 : (Rows.showTypedRow.recurses == Tryz.prog.recurses 3) = true := by kernel_rfl
theorem k4 : (Rows.showTypedRow.named == Tryz.prog.varsNamed 3) = true := by kernel_rfl
theorem k5 : laidOutB Tryz.prog = true := by kernel_rfl
theorem k6 : mapsRowed Tryz.prog = true := by kernel_rfl
theorem k7 : Rows.showTypedRow.wf (OpenSpec.ofChange Rows.showTypedSpec) = true := by kernel_rfl
theorem closed : joinedFacts Tryz.prog 3 Tryz.f3 Rows.showTypedSpec Rows.showTypedRow = true := by
  unfold joinedFacts
  simp only [Bool.and_eq_true]
  repeat' apply And.intro
  all_goals first
    | with_reducible exact k1
    | with_reducible exact k2
    | with_reducible exact k3
    | with_reducible exact k4
    | with_reducible exact k5
    | with_reducible exact k6
    | with_reducible exact k7
    | kernel_rfl
end Go.Proofs.YtijpelkjeejjfaaGreatDoor.showTyped
