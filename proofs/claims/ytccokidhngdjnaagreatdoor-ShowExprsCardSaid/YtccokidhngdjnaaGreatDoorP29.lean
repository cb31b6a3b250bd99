/- Lemmas. -/
import Derived.Test.YtccokidhngdjnaaGreatDoorP26
set_option linter.unusedVariables false
set_option linter.unusedSimpArgs false
namespace Go.Proofs.YtccokidhngdjnaaGreatDoor
open Go.RowKit

theorem textPs_app (a b : List Pc) : textPs (a ++ b) = textPs a ++ textPs b := by simp [textPs]
set_option maxRecDepth 100000 in
set_option maxHeartbeats 16000000 in
theorem text_c9 (S F : Nat → Prop) (B b : Nat) (rows : List (List Value)) (l : List Pc) (w : World) (h : WrAt S B b w rows) (hp : PcsAt F w l rows) (h0 : rows ≠ []) (hW : wgPs l ≤ 500000) (hrl : rows.length ≤ 500000) (hF : ∀ k, F k → S k) (hSg : S 3) (hla : LaidW w) (hft : ∀ p ∈ l, fitP p) (hT : (textPs l).length ≤ 1000000000) :
    Calls Tryz.prog 32 #[.pointer (some ⟨b, 0, none⟩)] w (fun e w' => e = .returned (.string ⟨(textPs l).toArray⟩) ∧ Fr2 (fun k => ¬ S k) w w') := by
  obtain ⟨g, cap, cb, hBg, hgw, hSg9, hbB, hcap, hfz⟩ := h.cell h0
  have hg := World.grownBy_alloc w (.cells #[.pointer none, .slice none 0 0] 107) none
  have hbl := bld_new w w.heap.size (Nat.le_refl _)
  have hSs : ∀ k, S k → k < w.heap.size := by obtain ⟨v, -, -, -, -, -, -, hh⟩ := h; exact hh
  have c1 := hg.cell cb (by simp)
  have hsz : (w.alloc (.cells #[.pointer none, .slice none 0 0] 107)).heap.size = w.heap.size + 1 := by simp
  have HREV := Lib.hid (rev_w S F B b w.heap.size g rows.length cap cap [] rows l [] _ (h.kept hg) (hp.same (S := fun _ => False) (Fr2.none hg) (fun _ _ h => h)) hF hbl c1 (by omega))
  have HG := Lib.hid hg; have HSS := Lib.hid hSs; have HF := Lib.hid hF; have HSG := Lib.hid hSg; have HFT := Lib.hid hft; have HT := Lib.hid hT
  have HLA : Hid (∀ W, Fr2 (fun k => ¬ S k) w W → LaidW W) := Lib.hid (fun W hf => hla.same hf hSg (hSs _ hSg))
  have HBW : Hid (b < w.heap.size) := Lib.hid (by obtain ⟨v, hb, -⟩ := h; exact hlt hb)
  obtain ⟨T, hTT⟩ : ∃ T, textPs l = T := ⟨_, rfl⟩
  have HTT := Lib.hid hTT
  rw [hTT]
  have hbw := HBW.out
  clear h hp h0 hF hSg hla hft hT hg hbl hSs cb hBg hSg9 hbB hcap hfz hTT hgw
  go_enter Tryz.func32, Tryz.ntmps32
  go_wp2_with fail
  refine HREV.out.mono ?_
  rintro e w2 ⟨rfl, hw2, hp2, hb2, hf2⟩
  have HW2 := Lib.hid hw2; have HP2 := Lib.hid hp2; have HB2 := Lib.hid hb2; have HF2 := Lib.hid ((Fr2.none HG.out).trans hf2)
  have HZ2 : Hid (w.heap.size < w2.heap.size) := Lib.hid (by have := hf2.size; rw [hsz] at this; omega)
  clear hw2 hp2 hb2 hf2 c1 hsz HG
  obtain ⟨bb, hbb⟩ : ∃ bb, w.heap.size = bb := ⟨_, rfl⟩
  have HBB := Lib.hid hbb
  rw [hbb] at HB2 HZ2 ⊢
  clear hbb HREV hbw
  go_wp2_with fail
  go_loopg [4, 5] (wgPs l) (fun gk sv tv wr => ∃ st out R, wgPs st ≤ gk ∧ gk ≤ 500000 ∧ Hid (WrAt S B b wr R) ∧ Hid (PcsAt F wr st.reverse R) ∧ Hid (BldI bb (Lib.byteCells out) wr) ∧ Hid (out ++ textPs st = T) ∧ Hid (Fr2 (fun k => ¬ S k) w wr) ∧ Hid (∀ p ∈ st, fitP p) ∧ Hid (bb < wr.heap.size))
  case atStart => exact ⟨l, [], rows.reverse, Nat.le_refl _, hW, HW2, HP2, HB2, Lib.hid (by rw [HTT.out]; rfl), HF2, HFT, HZ2⟩
  case round =>
    obtain ⟨st, out, R, hcg, hgk, HWR, HPA, HBD, HTX, HFR, HFI, HZR⟩ := hrel
    rcases st with _ | ⟨p, st'⟩
    · obtain ⟨p0, k0, c0⟩ := HWR.out.len0
      have hR : R.length = 0 := HPA.out.len
      rw [hR] at c0
      have HSTR := Lib.hid (Tryz.Builder_String_any_k bb bb _ wr (Lib.IsBuilderF.of HBD.out) (Nat.le_of_lt HZR.out))
      have hbw2 : b < wr.heap.size := Nat.lt_of_lt_of_le HBW.out HFR.out.size
      clear hcg hgk hR HPA HBD HWR HZR HFI
      clear hW hrl
      go_upto_region 11 with fail
      go_wp2_with fail
      refine HSTR.out.mono ?_
      rintro e w7 ⟨rfl, -, hbe7, -⟩
      have HF7 := Lib.hid (HFR.out.trans (fr_below hbe7 (fun k hk => by have := HSS.out k hk; rw [HBB.out] at this; exact this)))
      clear hbe7
      go_wp2_with fail
      go_ret
      have hTe : T = out := by have := HTX.out; rw [show textPs ([] : List Pc) = [] from rfl, List.append_nil] at this; exact this.symm
      exact ⟨by rw [hTe]; rfl, HF7.out⟩
    · obtain ⟨R0, q0, rfl, hp0, hq0⟩ : ∃ R0 q0, R = R0 ++ [q0] ∧ PcsAt F wr st'.reverse R0 ∧ PcAt F wr p q0 := by
        have := HPA.out
        rw [List.reverse_cons] at this
        obtain ⟨r1, r2, rfl, h1, h2⟩ := this.split
        obtain ⟨q, r', rfl, h3, h4⟩ := h2
        have h4 : r' = [] := h4
        subst h4
        exact ⟨r1, q, rfl, h1, h3⟩
      obtain ⟨g2, cap2, c0, -, hg2w, -, -, hcap2, hfz⟩ := HWR.out.cell (by simp)
      obtain ⟨hn1, hlc⟩ := HWR.out.last c0
      obtain ⟨q00, q01, q02, rfl⟩ : ∃ a b c, q0 = [a, b, c] := by
        cases p with
        | bs s => exact ⟨_, _, _, hq0⟩
        | ex x least => obtain ⟨g, o, q, h, -⟩ := hq0; exact ⟨_, _, _, h⟩
      have HPOP := Lib.hid (pop_w HWR.out hp0 hq0 HF.out HBD.out c0)
      have a0 := hlc 0 _ rfl
      have a1 := hlc 1 _ rfl
      have a2 := hlc 2 _ rfl
      obtain ⟨L, hL⟩ : ∃ L, R0.length = L := ⟨_, rfl⟩
      have hwg := wgPs_cons p st'
      have hLb : L + 1 ≤ 500000 := by
        have h1 := hp0.len
        rw [List.length_reverse, hL] at h1
        have h2 := len_wgPs st'
        have h3 := wgP_pos p
        omega
      rw [hn1, hL] at c0
      rw [hL] at a0 a1 a2 HPOP
      rw [Nat.add_zero] at a0
      obtain ⟨n1, hn1e⟩ : ∃ n1, L + 1 = n1 := ⟨_, rfl⟩
      rw [hn1e] at c0
      have hw1 : IntKind.i64.wrap ((n1 : Int) - 1) = (L : Int) := by rw [IntWalk.i64_in _ (by omega)]; omega
      have x1 : (0 : Int) ≤ (L : Int) := by omega
      have x2 : (L : Int) < (n1 : Int) := by omega
      have x3 : decide (L < n1) = true := decide_eq_true (by omega)
      have x4 : decide ((L : Int) < (n1 : Int)) = true := decide_eq_true x2
      have x5 : decide ((0 : Int) < (n1 : Int)) = true := decide_eq_true (by omega)
      have x6 : decide (0 < n1) = true := decide_eq_true (by omega)
      have hbw2 : b < wr.heap.size := Nat.lt_of_lt_of_le HBW.out HFR.out.size
      have y1 : L ≤ cap2 := by rw [List.length_append, hL] at hcap2; omega
      have y2 : (L : Int) ≤ (cap2 : Int) := by omega
      have y3 : ¬ ((cap2 : Int) < (L : Int)) := by omega
      clear hcap2
      have HL := Lib.hid hL
      have HN1 := Lib.hid hn1e
      have HCG := Lib.hid hcg; have HGK := Lib.hid hgk; have HWG := Lib.hid hwg
      clear hp0 hq0 hn1 hlc hcg hgk hwg hW hrl HWR HPA HBD hL hn1e
      cases p with
      | bs s =>
        have hq9 := HPOP.out.2.2.1
        obtain ⟨sb, hsb⟩ : ∃ sb : ByteArray, (⟨s.toArray⟩ : ByteArray) = sb := ⟨_, rfl⟩
        have hq9 : [q00, q01, q02] = [.string ⟨s.toArray⟩, .pointer none, .int .i64 0] := hq9
        rw [hsb] at hq9
        simp only [List.cons.injEq, and_true] at hq9
        obtain ⟨rfl, rfl, rfl⟩ := hq9
        have HSB := Lib.hid hsb
        clear hsb
        go_upto_region 7 with fail
        obtain ⟨hw3, hps3, -, hb3, hf3, hbk3, -⟩ := HPOP.out
        change WrAt S B b ((wr.setCell ⟨b, 0, none⟩ (.slice (some ⟨g2, 0, none⟩) L cap2)).alloc (.cells #[.string sb, .pointer none, .int .i64 0] 104)) R0 at hw3
        change PcsAt F ((wr.setCell ⟨b, 0, none⟩ (.slice (some ⟨g2, 0, none⟩) L cap2)).alloc (.cells #[.string sb, .pointer none, .int .i64 0] 104)) _ R0 at hps3
        change BldI bb _ ((wr.setCell ⟨b, 0, none⟩ (.slice (some ⟨g2, 0, none⟩) L cap2)).alloc (.cells #[.string sb, .pointer none, .int .i64 0] 104)) at hb3
        change Fr2 _ wr ((wr.setCell ⟨b, 0, none⟩ (.slice (some ⟨g2, 0, none⟩) L cap2)).alloc (.cells #[.string sb, .pointer none, .int .i64 0] 104)) at hf3
        change ((wr.setCell ⟨b, 0, none⟩ (.slice (some ⟨g2, 0, none⟩) L cap2)).alloc (.cells #[.string sb, .pointer none, .int .i64 0] 104)).heap[wr.heap.size]? = some (.cells #[.string sb, .pointer none, .int .i64 0] 104 (0, 0)) at hbk3
        clear HPOP HW2 HP2 HB2 HF2 HZ2
        generalize ((wr.setCell ⟨b, 0, none⟩ (.slice (some ⟨g2, 0, none⟩) L cap2)).alloc (.cells #[.string sb, .pointer none, .int .i64 0] 104)) = w3 at *
        obtain ⟨d0, d1, d2, -⟩ := cells3 hbk3
        have HW3 := Lib.hid hw3; have HP3 := Lib.hid hps3; have HB3 := Lib.hid hb3; have HF3 := Lib.hid (HFR.out.trans hf3)
        have HZ3 : Hid (bb < w3.heap.size) := Lib.hid (Nat.lt_of_lt_of_le HZR.out hf3.size)
        have HLEN : Hid ((Lib.byteCells out).length + sb.size ≤ 140737488355328) := Lib.hid (by
          have h1 := congrArg List.length HTX.out
          have h2 := HT.out
          rw [HTT.out, ← h1] at h2
          have h3 : sb.size = s.length := by rw [← HSB.out]; rfl
          rw [Lib.byteCells_length, h3]
          simp only [textPs, List.flatMap_cons, textP, List.length_append] at h2
          omega)
        clear hw3 hps3 hb3 hf3 hbk3 c0 a0 a1 a2 hfz x1 x2 x3 x4 x5 x6 y1 y2 y3 hw1 hg2w hbw2 HFR
        obtain ⟨nb, hnb⟩ : ∃ nb, wr.heap.size = nb := ⟨_, rfl⟩
        rw [hnb] at d0 d1 d2 ⊢
        clear hnb
        go_wp2_with fail
        refine (WriteString_c bb bb _ sb _ HB3.out HLEN.out (Nat.le_of_lt HZ3.out)).mono ?_
        rintro e w4 ⟨rfl, ⟨hb4, hbe4⟩, hok4⟩
        have HW4 := Lib.hid (HW3.out.wrote hok4 hbe4 (fun _ => HB3.out.cells))
        have hf4 : Fr2 (fun k => ¬ S k) w3 w4 := fr_below hbe4 (fun k hk => by have := HSS.out k hk; rw [HBB.out] at this; exact this)
        have HP4 := Lib.hid (HP3.out.same hf4 (fun k hk e => e (HF.out k hk)))
        have HF4 := Lib.hid (HF3.out.trans hf4)
        have HZ4 : Hid (bb < w4.heap.size) := Lib.hid (Nat.lt_of_lt_of_le HZ3.out hf4.size)
        have HB4 : Hid (BldI bb (Lib.byteCells (out ++ s)) w4) := Lib.hid (.inr (by rw [Lib.byteCells_append]; rw [← HSB.out] at hb4; exact hb4))
        clear hb4 hbe4 hok4 hf4 d0 d1 d2 HW3 HP3 HB3 HF3 HZ3 HLEN
        go_wp2_with fail
        go_roundg (wgPs st')
        case rel => exact ⟨st', out ++ s, R0, Nat.le_refl _, by have h1 := HCG.out; have h2 := HWG.out; have h3 := HGK.out; omega, HW4, HP4, HB4, Lib.hid (by rw [← HTX.out]; simp [textPs, textP]), HF4, Lib.hid (fun p hp => HFI.out p (List.mem_cons_of_mem _ hp)), HZ4⟩
        case measure => have h1 := HCG.out; have h2 := HWG.out; simp only [wgP] at h2; omega
      | ex x least =>
        have hq9 := HPOP.out.2.2.1
        obtain ⟨gx, ox, qx, hq9, -⟩ := hq9
        simp only [rowX, List.cons.injEq, and_true] at hq9
        obtain ⟨rfl, rfl, rfl⟩ := hq9
        go_upto_region 7 with fail
        obtain ⟨hw3, hps3, hp9, hb3, hf3, hbk3, -⟩ := HPOP.out
        change WrAt S B b ((wr.setCell ⟨b, 0, none⟩ (.slice (some ⟨g2, 0, none⟩) L cap2)).alloc (.cells #[.string ⟨#[]⟩, .pointer (some ⟨gx, ox, none⟩), .int .i64 (least : Int)] 104)) R0 at hw3
        change PcsAt F ((wr.setCell ⟨b, 0, none⟩ (.slice (some ⟨g2, 0, none⟩) L cap2)).alloc (.cells #[.string ⟨#[]⟩, .pointer (some ⟨gx, ox, none⟩), .int .i64 (least : Int)] 104)) _ R0 at hps3
        change PcAt F ((wr.setCell ⟨b, 0, none⟩ (.slice (some ⟨g2, 0, none⟩) L cap2)).alloc (.cells #[.string ⟨#[]⟩, .pointer (some ⟨gx, ox, none⟩), .int .i64 (least : Int)] 104)) _ _ at hp9
        change BldI bb _ ((wr.setCell ⟨b, 0, none⟩ (.slice (some ⟨g2, 0, none⟩) L cap2)).alloc (.cells #[.string ⟨#[]⟩, .pointer (some ⟨gx, ox, none⟩), .int .i64 (least : Int)] 104)) at hb3
        change Fr2 _ wr ((wr.setCell ⟨b, 0, none⟩ (.slice (some ⟨g2, 0, none⟩) L cap2)).alloc (.cells #[.string ⟨#[]⟩, .pointer (some ⟨gx, ox, none⟩), .int .i64 (least : Int)] 104)) at hf3
        change ((wr.setCell ⟨b, 0, none⟩ (.slice (some ⟨g2, 0, none⟩) L cap2)).alloc (.cells #[.string ⟨#[]⟩, .pointer (some ⟨gx, ox, none⟩), .int .i64 (least : Int)] 104)).heap[wr.heap.size]? = some (.cells #[.string ⟨#[]⟩, .pointer (some ⟨gx, ox, none⟩), .int .i64 (least : Int)] 104 (0, 0)) at hbk3
        clear HPOP HW2 HP2 HB2 HF2 HZ2
        generalize ((wr.setCell ⟨b, 0, none⟩ (.slice (some ⟨g2, 0, none⟩) L cap2)).alloc (.cells #[.string ⟨#[]⟩, .pointer (some ⟨gx, ox, none⟩), .int .i64 (least : Int)] 104)) = w3 at *
        obtain ⟨d0, d1, d2, -⟩ := cells3 hbk3
        have hfx : fitS x := HFI.out (.ex x least) List.mem_cons_self
        have hf03 := HFR.out.trans hf3
        have HOP := Lib.hid (open_w S F B b bb R0 x least gx ox (Lib.byteCells out) w3 hw3 (by have := HL.out; omega) hp9 hfx HF.out HSG.out (HLA.out _ hf03) hb3)
        have HP3 := Lib.hid hps3; have HF3 := Lib.hid hf03
        have HZ3 : Hid (bb < w3.heap.size) := Lib.hid (Nat.lt_of_lt_of_le HZR.out hf3.size)
        have HFX := Lib.hid hfx
        have hL2 : L + 1 ≤ 500000 := hLb
        clear hw3 hps3 hp9 hb3 hf3 hbk3 c0 a0 a1 a2 hfz x1 x2 x3 x4 x5 x6 y1 y2 y3 hw1 hg2w hbw2 HFR hfx hf03 hLb
        obtain ⟨nb, hnb⟩ : ∃ nb, wr.heap.size = nb := ⟨_, rfl⟩
        rw [hnb] at d0 d1 d2 ⊢
        clear hnb
        go_wp2_with fail
        refine HOP.out.mono ?_
        rintro e w4 ⟨rfl, R1, hw4, hp4, hb4, hf4⟩
        have hlen := hp4.len
        have hR1 : 1 ≤ R1.length := by
          rw [hlen]
          rcases ho : openP x least with _ | ⟨a, t⟩
          · exact absurd ho (openP_ne x least)
          · simp
        have hR2 : R1.length ≤ 500000 := by
          have h1 := len_wgPs (openP x least)
          have h2 := fit_wg HFX.out least
          have h3 := HCG.out; have h4 := HWG.out; have h5 := HGK.out
          simp only [wgP] at h4
          omega
        obtain ⟨g4, cap4, c4, -, hg4w, -, -, hcap4, hfz4⟩ := hw4.cell (by intro h; rw [List.append_eq_nil_iff] at h; rw [h.2] at hR1; simp at hR1)
        have HREV4 := Lib.hid (fun cap' => rev_w S F B b bb g4 (R0 ++ R1).length cap4 cap' R0 R1 (openP x least) (Lib.byteCells out) w4 hw4 hp4 HF.out hb4 c4 (by omega))
        obtain ⟨M, hM⟩ : ∃ M, R1.length = M := ⟨_, rfl⟩
        have hcl : (R0 ++ R1).length = L + M := by rw [List.length_append, HL.out, hM]
        rw [hcl] at c4 hcap4
        rw [HL.out, hM] at HREV4
        obtain ⟨n4, hn4⟩ : ∃ n4, L + M = n4 := ⟨_, rfl⟩
        have hM2 : n4 - L = M := by omega
        rw [hn4] at c4 hcap4
        have HP4 := Lib.hid (HP3.out.same hf4 (fun k hk e => e (HF.out k hk)))
        have HF4 := Lib.hid (HF3.out.trans hf4)
        have HZ4 : Hid (bb < w4.heap.size) := Lib.hid (Nat.lt_of_lt_of_le HZ3.out hf4.size)
        have hbw4 : b < w4.heap.size := Nat.lt_of_lt_of_le HBW.out HF4.out.size
        have x1 : (0 : Int) ≤ (L : Int) := by omega
        have x2 : (L : Int) ≤ (n4 : Int) := by omega
        have x3 : L ≤ n4 := by omega
        have x4 : (n4 : Int) ≤ (cap4 : Int) := by omega
        have x5 : n4 ≤ cap4 := by omega
        have x6 : ¬ cap4 = L := by omega
        have x7 : ¬ (n4 : Int) < (L : Int) := by omega
        have x8 : L ≤ cap4 := by omega
        clear hw4 hp4 hb4 hf4 hlen hR1 hR2 hcl hcap4 hM hn4 HOP HP3 HF3 HZ3 d0 d1 d2
        go_wp2_with fail
        refine (HREV4.out _).mono ?_
        rintro e w5 ⟨rfl, hw5, hp5, hb5, hf5⟩
        have HW5 := Lib.hid hw5
        have HP5 : Hid (PcsAt F w5 (openP x least ++ st').reverse (R0 ++ R1.reverse)) := Lib.hid (by rw [List.reverse_append]; exact (HP4.out.same hf5 (fun k hk e => e (HF.out k hk))).app hp5)
        have HB5 := Lib.hid hb5; have HF5 := Lib.hid (HF4.out.trans hf5)
        have HZ5 : Hid (bb < w5.heap.size) := Lib.hid (Nat.lt_of_lt_of_le HZ4.out hf5.size)
        have HME : Hid (wgPs (openP x least ++ st') < gk) := Lib.hid (by
          have h2 := fit_wg HFX.out least
          have h3 := HCG.out; have h4 := HWG.out
          simp only [wgP] at h4
          rw [wgPs_append]; omega)
        clear hw5 hp5 hb5 hf5 c4 hfz4 x1 x2 x3 x4 x5 x6 x7 x8 hM2 HREV4 HP4 HF4 HZ4 hbw4 hg4w
        go_wp2_with fail
        go_roundg (wgPs (openP x least ++ st'))
        case rel =>
          exact ⟨openP x least ++ st', out, R0 ++ R1.reverse, Nat.le_refl _, by have h1 := HME.out; have h3 := HGK.out; omega, HW5, HP5, HB5, Lib.hid (by rw [← HTX.out, textPs_app, fit_text HFX.out]; rfl), HF5, Lib.hid (fun p hp => (List.mem_append.1 hp).elim (fit_open HFX.out least p) (fun h => HFI.out p (List.mem_cons_of_mem _ h))), HZ5⟩
        case measure => exact HME.out

theorem ret_bp {p : Prop} {w w' : World} {b : Bool} (hg : w.grownBy w' none) (h : b = true ↔ p) : BoolOf p w (.returned (.bool b)) w' := ⟨hg, b, rfl, h⟩
theorem first_eq {α : Type} {l l' : List α} {m : Nat} (h1 : l.length = m) (h2 : l'.length = m) (h : ∀ i, i < m → l[i]? = l'[i]?) : l = l' := by
  refine List.ext_getElem? fun i => ?_
  rcases Nat.lt_or_ge i m with hi | hi
  · exact h i hi
  · rw [List.getElem?_eq_none (by omega), List.getElem?_eq_none (by omega)]
theorem bytes_ne {a b : List UInt8} (h : a ≠ b) : ((⟨a.toArray⟩ : ByteArray).toList == (⟨b.toArray⟩ : ByteArray).toList) = false := by
  rw [toList_data, toList_data]; exact beq_eq_false_iff_ne.2 h
theorem bytes_eq {a b : List UInt8} (h : a = b) : ((⟨a.toArray⟩ : ByteArray).toList == (⟨b.toArray⟩ : ByteArray).toList) = true := by rw [h]; exact beq_self_eq_true _

set_option maxRecDepth 100000 in
set_option maxHeartbeats 8000000 in
theorem eqToksI_c (T T' : List TokI) (hT : T.length ≤ 150000) (hT' : T'.length ≤ 150000) (p p' : Option Addr) (c c' : Nat) (w : World) (h : ToksAt w p T) (h' : ToksAt w p' T') :
    Calls Tryz.prog 93 #[.slice p T.length c, .slice p' T'.length c'] w (BoolOf (T = T') w) := by
  have HA := Lib.hid h; have HB := Lib.hid h'
  obtain ⟨m, hm⟩ : ∃ m, T.length = m := ⟨_, rfl⟩
  obtain ⟨m', hm'⟩ : ∃ m', T'.length = m' := ⟨_, rfl⟩
  have HM := Lib.hid hm; have HM' := Lib.hid hm'
  rw [hm] at hT ⊢
  rw [hm'] at hT' ⊢
  clear h h' hm hm'
  by_cases hmm : m = m'
  · subst hmm
    go_enter Tryz.func93, Tryz.ntmps93
    go_wp2_with fail
    go_loopw [13] (fun iv wr => ∃ j : Nat, j ≤ m ∧ iv = .int .i64 (j : Int) ∧ Hid (w.grownBy wr none) ∧ Hid (∀ i, i < j → T[i]? = T'[i]?)) (fun iv _ => m - (intOf iv).toNat)
    case atStart => exact ⟨0, Nat.zero_le _, rfl, gb_refl _ _, Lib.hid (fun i hi => by omega)⟩
    case round =>
      obtain ⟨j, hj, rfl, HG, HE⟩ := hrel
      by_cases hlt : j < m
      · obtain ⟨t, ht⟩ : ∃ t, T[j]? = some t := ⟨T[j]'(by rw [HM.out]; exact hlt), List.getElem?_eq_getElem _⟩
        obtain ⟨u, hu⟩ : ∃ u, T'[j]? = some u := ⟨T'[j]'(by rw [HM'.out]; exact hlt), List.getElem?_eq_getElem _⟩
        obtain ⟨g, off, rfl, hgl, t0, t1, t2, t3⟩ := tok_at (HA.out.kept HG.out) ht
        obtain ⟨g', off', rfl, hgl', u0, u1, u2, u3⟩ := tok_at (HB.out.kept HG.out) hu
        have y1 : (0 : Int) ≤ (j : Int) := by omega
        have y2 : (j : Int) < (m : Int) := by omega
        have y3 : decide (j < m) = true := decide_eq_true hlt
        have y4 : decide ((j : Int) < (m : Int)) = true := decide_eq_true y2
        have HTU : Hid (T[j]? = some t ∧ T'[j]? = some u) := Lib.hid ⟨ht, hu⟩
        have HNE : Hid (t ≠ u → ¬ T = T') := Lib.hid (fun hne e => by rw [e, hu] at ht; injection ht with ht; exact hne ht.symm)
        have HEQ : Hid (t = u → ∀ i, i < j + 1 → T[i]? = T'[i]?) := Lib.hid (fun e i hi => by
          rcases Nat.lt_or_ge i j with h1 | h1
          · exact HE.out i h1
          · obtain rfl : i = j := by omega
            rw [ht, hu, e])
        clear ht hu
        obtain ⟨tk, tl, tx, tp⟩ := t
        obtain ⟨uk, ul, ux, up⟩ := u
        unfold strV at t1 t2 u1 u2
        simp only at t0 t1 t2 t3 u0 u1 u2 u3
        by_cases k0 : tk = uk
        · have q0 : (tk == uk) = true := beq_iff_eq.2 k0
          by_cases k1 : tl = ul
          · have q1 := bytes_eq k1
            by_cases k2 : tx = ux
            · have q2 := bytes_eq k2
              by_cases k3 : tp = up
              · have q3 : (tp == up) = true := beq_iff_eq.2 k3
                have HJ := Lib.hid (HEQ.out (by rw [k0, k1, k2, k3]))
                clear k0 k1 k2 k3
                generalize (⟨tl.toArray⟩ : ByteArray) = le at *
                generalize (⟨tx.toArray⟩ : ByteArray) = te at *
                generalize (⟨ul.toArray⟩ : ByteArray) = le' at *
                generalize (⟨ux.toArray⟩ : ByteArray) = te' at *
                go_wp2_with fail
                go_quiet (fail)
                go_wp2_with fail
                go_roundw
                case rel => exact ⟨j + 1, by omega, by go_num, Lib.hid (gb_drewN HG.out _), HJ⟩
                case measure => simp [intOf]; omega
              · have q3 : (tp == up) = false := beq_eq_false_iff_ne.2 k3
                have HJ := Lib.hid (HNE.out (fun e => by injection e; contradiction))
                clear k0 k1 k2 k3
                generalize (⟨tl.toArray⟩ : ByteArray) = le at *
                generalize (⟨tx.toArray⟩ : ByteArray) = te at *
                generalize (⟨ul.toArray⟩ : ByteArray) = le' at *
                generalize (⟨ux.toArray⟩ : ByteArray) = te' at *
                go_wp2_with fail
                go_quiet (fail)
                go_wp2_with fail
                go_ret
                exact ret_false (gb_drewN HG.out _) HJ.out
            · have q2 := bytes_ne k2
              have HJ := Lib.hid (HNE.out (fun e => by injection e; contradiction))
              clear k0 k1 k2
              generalize (⟨tl.toArray⟩ : ByteArray) = le at *
              generalize (⟨tx.toArray⟩ : ByteArray) = te at *
              generalize (⟨ul.toArray⟩ : ByteArray) = le' at *
              generalize (⟨ux.toArray⟩ : ByteArray) = te' at *
              go_wp2_with fail
              go_quiet (fail)
              go_wp2_with fail
              go_ret
              exact ret_false (gb_drewN HG.out _) HJ.out
          · have q1 := bytes_ne k1
            have HJ := Lib.hid (HNE.out (fun e => by injection e; contradiction))
            clear k0 k1
            generalize (⟨tl.toArray⟩ : ByteArray) = le at *
            generalize (⟨tx.toArray⟩ : ByteArray) = te at *
            generalize (⟨ul.toArray⟩ : ByteArray) = le' at *
            generalize (⟨ux.toArray⟩ : ByteArray) = te' at *
            go_wp2_with fail
            go_quiet (fail)
            go_wp2_with fail
            go_ret
            exact ret_false (gb_drewN HG.out _) HJ.out
        · have q0 : (tk == uk) = false := beq_eq_false_iff_ne.2 k0
          have HJ := Lib.hid (HNE.out (fun e => by injection e; contradiction))
          clear k0
          generalize (⟨tl.toArray⟩ : ByteArray) = le at *
          generalize (⟨tx.toArray⟩ : ByteArray) = te at *
          generalize (⟨ul.toArray⟩ : ByteArray) = le' at *
          generalize (⟨ux.toArray⟩ : ByteArray) = te' at *
          go_wp2_with fail
          go_quiet (fail)
          go_wp2_with fail
          go_ret
          exact ret_false (gb_drewN HG.out _) HJ.out
      · obtain rfl : j = m := by omega
        go_wp2_with fail
        go_ret
        exact ret_bp HG.out ⟨fun _ => first_eq HM.out HM'.out HE.out, fun _ => rfl⟩
  · have d1 : ((m : Int) != (m' : Int)) = true := bne_iff_ne.2 (by omega)
    have d2 : (m != m') = true := bne_iff_ne.2 hmm
    have d3 : ((m : Int) == (m' : Int)) = false := beq_eq_false_iff_ne.2 (by omega)
    have d4 : (m == m') = false := beq_eq_false_iff_ne.2 hmm
    have HJ : Hid (¬ T = T') := Lib.hid (fun e => hmm (by rw [← HM.out, ← HM'.out, e]))
    clear hmm
    go_enter Tryz.func93, Tryz.ntmps93
    go_wp2_with fail
    go_ret
    exact ret_false (gb_refl _ _) HJ.out

set_option maxRecDepth 100000 in
set_option maxHeartbeats 8000000 in
theorem eqIntsI_c (l l' : List Int) (hl : l.length ≤ 150000) (hl' : l'.length ≤ 150000) (p p' : Option Addr) (c c' : Nat) (w : World) (h : VAt w p (intsV l)) (h' : VAt w p' (intsV l')) :
    Calls Tryz.prog 128 #[.slice p l.length c, .slice p' l'.length c'] w (BoolOf (l = l') w) := by
  have HA := Lib.hid h; have HB := Lib.hid h'
  obtain ⟨m, hm⟩ : ∃ m, l.length = m := ⟨_, rfl⟩
  obtain ⟨m', hm'⟩ : ∃ m', l'.length = m' := ⟨_, rfl⟩
  have HM := Lib.hid hm; have HM' := Lib.hid hm'
  rw [hm] at hl ⊢
  rw [hm'] at hl' ⊢
  clear h h' hm hm'
  by_cases hmm : m = m'
  · subst hmm
    go_enter Tryz.func128, Tryz.ntmps128
    go_wp2_with fail
    go_loopw [13] (fun iv wr => ∃ j : Nat, j ≤ m ∧ iv = .int .i64 (j : Int) ∧ Hid (w.grownBy wr none) ∧ Hid (∀ i, i < j → l[i]? = l'[i]?)) (fun iv _ => m - (intOf iv).toNat)
    case atStart => exact ⟨0, Nat.zero_le _, rfl, gb_refl _ _, Lib.hid (fun i hi => by omega)⟩
    case round =>
      obtain ⟨j, hj, rfl, HG, HE⟩ := hrel
      by_cases hlt : j < m
      · obtain ⟨x, hx⟩ : ∃ x, l[j]? = some x := ⟨l[j]'(by rw [HM.out]; exact hlt), List.getElem?_eq_getElem _⟩
        obtain ⟨y, hy⟩ : ∃ y, l'[j]? = some y := ⟨l'[j]'(by rw [HM'.out]; exact hlt), List.getElem?_eq_getElem _⟩
        obtain ⟨g, off, rfl, hgl, t0⟩ := kid_at (HA.out.kept HG.out) hx
        obtain ⟨g', off', rfl, hgl', u0⟩ := kid_at (HB.out.kept HG.out) hy
        have y1 : (0 : Int) ≤ (j : Int) := by omega
        have y2 : (j : Int) < (m : Int) := by omega
        have y3 : decide (j < m) = true := decide_eq_true hlt
        have y4 : decide ((j : Int) < (m : Int)) = true := decide_eq_true y2
        by_cases k0 : x = y
        · have q0 : (x == y) = true := beq_iff_eq.2 k0
          have q1 : (x != y) = false := by rw [bne, q0]; rfl
          have HJ : Hid (∀ i, i < j + 1 → l[i]? = l'[i]?) := Lib.hid (fun i hi => by
            rcases Nat.lt_or_ge i j with h1 | h1
            · exact HE.out i h1
            · obtain rfl : i = j := by omega
              rw [hx, hy, k0])
          clear k0 hx hy
          go_wp2_with fail
          go_quiet (fail)
          go_wp2_with fail
          go_roundw
          case rel => exact ⟨j + 1, by omega, by go_num, Lib.hid (gb_drewN HG.out _), HJ⟩
          case measure => simp [intOf]; omega
        · have q0 : (x == y) = false := beq_eq_false_iff_ne.2 k0
          have q1 : (x != y) = true := bne_iff_ne.2 k0
          have HJ : Hid (¬ l = l') := Lib.hid (fun e => by rw [e, hy] at hx; injection hx with hx; exact k0 hx.symm)
          clear k0 hx hy
          go_wp2_with fail
          go_quiet (fail)
          go_wp2_with fail
          go_ret
          exact ret_false (gb_drewN HG.out _) HJ.out
      · obtain rfl : j = m := by omega
        go_wp2_with fail
        go_ret
        exact ret_bp HG.out ⟨fun _ => first_eq HM.out HM'.out HE.out, fun _ => rfl⟩
  · have d1 : ((m : Int) != (m' : Int)) = true := bne_iff_ne.2 (by omega)
    have d2 : (m != m') = true := bne_iff_ne.2 hmm
    have d3 : ((m : Int) == (m' : Int)) = false := beq_eq_false_iff_ne.2 (by omega)
    have d4 : (m == m') = false := beq_eq_false_iff_ne.2 hmm
    have HJ : Hid (¬ l = l') := Lib.hid (fun e => hmm (by rw [← HM.out, ← HM'.out, e]))
    clear hmm
    go_enter Tryz.func128, Tryz.ntmps128
    go_wp2_with fail
    go_ret
    exact ret_false (gb_refl _ _) HJ.out

set_option maxRecDepth 100000 in
set_option maxHeartbeats 8000000 in
theorem sameNodeI_c (k t k' t' : Int) (l l' : List Int) (hl : l.length ≤ 150000) (hl' : l'.length ≤ 150000) (p p' : Option Addr) (c c' : Nat) (w : World) (h : VAt w p (intsV l)) (h' : VAt w p' (intsV l')) :
    Calls Tryz.prog 95 #[.agg #[.int .i64 k, .int .i64 t, .slice p l.length c], .agg #[.int .i64 k', .int .i64 t', .slice p' l'.length c']] w (BoolOf (k = k' ∧ t = t' ∧ l = l') w) := by
  have HE := Lib.hid (fun W h1 h2 => eqIntsI_c l l' hl hl' p p' c c' W h1 h2)
  have HA := Lib.hid h; have HB := Lib.hid h'
  generalize l.length = m at *
  generalize l'.length = m' at *
  clear h h' hl hl'
  by_cases k0 : k = k'
  · have q0 : (k == k') = true := beq_iff_eq.2 k0
    by_cases k1 : t = t'
    · have q1 : (t == t') = true := beq_iff_eq.2 k1
      have HK : Hid (k = k' ∧ t = t') := Lib.hid ⟨k0, k1⟩
      clear k0 k1
      go_enter Tryz.func95, Tryz.ntmps95
      go_wp2_with fail
      refine (HE.out _ (HA.out.kept (gb_alloc (gb_alloc (gb_refl _ _) _) _)) (HB.out.kept (gb_alloc (gb_alloc (gb_refl _ _) _) _))).mono ?_
      rintro e w1 ⟨hg1, b, rfl, hb⟩
      have HG1 := Lib.hid (gb_trans (gb_alloc (gb_alloc (gb_refl w _) _) _) hg1)
      have HBB := Lib.hid hb
      clear hg1 HE hb
      go_wp2_with fail
      go_ret
      exact ret_bp HG1.out ⟨fun h => ⟨HK.out.1, HK.out.2, HBB.out.1 h⟩, fun h => HBB.out.2 h.2.2⟩
    · have q1 : (t == t') = false := beq_eq_false_iff_ne.2 k1
      have HK : Hid (¬ (k = k' ∧ t = t' ∧ l = l')) := Lib.hid (fun h => k1 h.2.1)
      clear k0 k1
      go_enter Tryz.func95, Tryz.ntmps95
      go_wp2_with fail
      go_ret
      exact ret_false (gb_alloc (gb_alloc (gb_refl _ _) _) _) HK.out
  · have q0 : (k == k') = false := beq_eq_false_iff_ne.2 k0
    have HK : Hid (¬ (k = k' ∧ t = t' ∧ l = l')) := Lib.hid (fun h => k0 h.1)
    clear k0
    go_enter Tryz.func95, Tryz.ntmps95
    go_wp2_with fail
    go_ret
    exact ret_false (gb_alloc (gb_alloc (gb_refl _ _) _) _) HK.out

theorem nd_eq {x y : Nd} (h : x.kind = y.kind ∧ x.tok = y.tok ∧ x.kids = y.kids) : x = y := by
  obtain ⟨a, b, c⟩ := x; obtain ⟨a', b', c'⟩ := y
  simp only at h
  obtain ⟨rfl, rfl, rfl⟩ := h; rfl

set_option maxRecDepth 100000 in
set_option maxHeartbeats 16000000 in
theorem eqNodesI_c (N N' : List Nd) (K K' : Kf) (hN : N.length ≤ 150000) (hN' : N'.length ≤ 150000) (hk : ∀ (i : Nat) (x : Nd), N[i]? = some x → x.kids.length ≤ 150000) (hk' : ∀ (i : Nat) (x : Nd), N'[i]? = some x → x.kids.length ≤ 150000) (p p' : Option Addr) (c c' : Nat) (w : World) (h : NodesAt w p N K) (h' : NodesAt w p' N' K') :
    Calls Tryz.prog 94 #[.slice p N.length c, .slice p' N'.length c', .func (.func 95) #[] #[]] w (BoolOf (N = N') w) := by
  have HA := Lib.hid h; have HB := Lib.hid h'; have HK := Lib.hid hk; have HK' := Lib.hid hk'
  obtain ⟨m, hm⟩ : ∃ m, N.length = m := ⟨_, rfl⟩
  obtain ⟨m', hm'⟩ : ∃ m', N'.length = m' := ⟨_, rfl⟩
  have HM := Lib.hid hm; have HM' := Lib.hid hm'
  rw [hm] at hN ⊢
  rw [hm'] at hN' ⊢
  clear h h' hm hm' hk hk'
  by_cases hmm : m = m'
  · subst hmm
    go_enter Tryz.func94, Tryz.ntmps94
    go_wp2_with fail
    go_loopw [17] (fun iv wr => ∃ j : Nat, j ≤ m ∧ iv = .int .i64 (j : Int) ∧ Hid (w.grownBy wr none) ∧ Hid (∀ i, i < j → N[i]? = N'[i]?)) (fun iv _ => m - (intOf iv).toNat)
    case atStart => exact ⟨0, Nat.zero_le _, rfl, gb_refl _ _, Lib.hid (fun i hi => by omega)⟩
    case round =>
      obtain ⟨j, hj, rfl, HG, HE⟩ := hrel
      by_cases hlt : j < m
      · obtain ⟨x, hx⟩ : ∃ x, N[j]? = some x := ⟨N[j]'(by rw [HM.out]; exact hlt), List.getElem?_eq_getElem _⟩
        obtain ⟨y, hy⟩ : ∃ y, N'[j]? = some y := ⟨N'[j]'(by rw [HM'.out]; exact hlt), List.getElem?_eq_getElem _⟩
        have HAr := Lib.hid (HA.out.kept HG.out); have HBr := Lib.hid (HB.out.kept HG.out)
        obtain ⟨g, off, rfl, hgl, t0, t1, t2⟩ := node_at HAr.out hx
        obtain ⟨g', off', rfl, hgl', u0, u1, u2⟩ := node_at HBr.out hy
        have y1 : (0 : Int) ≤ (j : Int) := by omega
        have y2 : (j : Int) < (m : Int) := by omega
        have y3 : decide (j < m) = true := decide_eq_true hlt
        have y4 : decide ((j : Int) < (m : Int)) = true := decide_eq_true y2
        have HS := Lib.hid (fun W h1 h2 => sameNodeI_c x.kind x.tok y.kind y.tok x.kids y.kids (HK.out j x hx) (HK'.out j y hy) (K j).1 (K' j).1 (K j).2 (K' j).2 W h1 h2)
        have HV := Lib.hid (HAr.out.2 j x hx); have HV' := Lib.hid (HBr.out.2 j y hy)
        obtain ⟨P, hP⟩ : ∃ P : Prop, (x.kind = y.kind ∧ x.tok = y.tok ∧ x.kids = y.kids) = P := ⟨_, rfl⟩
        have HNE : Hid (¬ P → ¬ N = N') := Lib.hid (fun hne e => hne (by rw [e, hy] at hx; injection hx with hx; rw [← hP, hx]; exact ⟨rfl, rfl, rfl⟩))
        have HEQ : Hid (P → ∀ i, i < j + 1 → N[i]? = N'[i]?) := Lib.hid (fun e i hi => by
          rcases Nat.lt_or_ge i j with h1 | h1
          · exact HE.out i h1
          · obtain rfl : i = j := by omega
            rw [hx, hy, nd_eq (x := x) (y := y) (by rw [hP]; exact e)])
        rw [hP] at HS
        clear hx hy hP
        generalize (K j).1 = pk at *
        generalize (K j).2 = ck at *
        generalize (K' j).1 = pk' at *
        generalize (K' j).2 = ck' at *
        generalize x.kids.length = kl at *
        generalize y.kids.length = kl' at *
        generalize x.kind = xk at *
        generalize x.tok = xt at *
        generalize y.kind = yk at *
        generalize y.tok = yt at *
        have v0 := (World.grownBy_alloc wr (.cells #[.int .i64 xk, .int .i64 xt, .slice pk kl ck] 134) none).cell u0 (by simp)
        have v1 := (World.grownBy_alloc wr (.cells #[.int .i64 xk, .int .i64 xt, .slice pk kl ck] 134) none).cell u1 (by simp)
        have v2 := (World.grownBy_alloc wr (.cells #[.int .i64 xk, .int .i64 xt, .slice pk kl ck] 134) none).cell u2 (by simp)
        go_wp2_with fail
        refine (HS.out _ (HV.out.kept (gb_alloc (gb_alloc (gb_refl _ _) _) _)) (HV'.out.kept (gb_alloc (gb_alloc (gb_refl _ _) _) _))).mono ?_
        rintro e w1 ⟨hg1, b, rfl, hb⟩
        have HG1 := Lib.hid (gb_trans HG.out (gb_trans (gb_alloc (gb_alloc (gb_refl wr _) _) _) hg1))
        have HBB := Lib.hid hb
        clear hg1 HS hb
        cases b
        · go_wp2_with fail
          go_ret
          exact ret_false HG1.out (HNE.out (fun h => by have := HBB.out.2 h; cases this))
        · go_wp2_with fail
          go_roundw
          case rel => exact ⟨j + 1, by omega, by go_num, HG1, Lib.hid (HEQ.out (HBB.out.1 (by simp)))⟩
          case measure => simp [intOf]; omega
      · obtain rfl : j = m := by omega
        go_wp2_with fail
        go_ret
        exact ret_bp HG.out ⟨fun _ => first_eq HM.out HM'.out HE.out, fun _ => rfl⟩
  · have d1 : ((m : Int) != (m' : Int)) = true := bne_iff_ne.2 (by omega)
    have d2 : (m != m') = true := bne_iff_ne.2 hmm
    have d3 : ((m : Int) == (m' : Int)) = false := beq_eq_false_iff_ne.2 (by omega)
    have d4 : (m == m') = false := beq_eq_false_iff_ne.2 hmm
    have HJ : Hid (¬ N = N') := Lib.hid (fun e => hmm (by rw [← HM.out, ← HM'.out, e]))
    clear hmm
    go_enter Tryz.func94, Tryz.ntmps94
    go_wp2_with fail
    go_ret
    exact ret_false (gb_refl _ _) HJ.out

set_option maxRecDepth 100000 in
set_option maxHeartbeats 8000000 in
theorem sameTreeI_c (T T' : List TokI) (N N' : List Nd) (K K' : Kf) (hT : T.length ≤ 150000) (hT' : T'.length ≤ 150000) (hN : N.length ≤ 150000) (hN' : N'.length ≤ 150000) (hk : ∀ (i : Nat) (x : Nd), N[i]? = some x → x.kids.length ≤ 150000) (hk' : ∀ (i : Nat) (x : Nd), N'[i]? = some x → x.kids.length ≤ 150000) (pt pt' pn pn' : Option Addr) (ct ct' cn cn' : Nat) (w : World) (ht : ToksAt w pt T) (ht' : ToksAt w pt' T') (h : NodesAt w pn N K) (h' : NodesAt w pn' N' K') :
    Calls Tryz.prog 63 #[.agg #[.slice pt T.length ct, .slice pn N.length cn], .agg #[.slice pt' T'.length ct', .slice pn' N'.length cn']] w (BoolOf (T = T' ∧ N = N') w) := by
  have HE := Lib.hid (fun W h1 h2 => eqToksI_c T T' hT hT' pt pt' ct ct' W h1 h2)
  have HF := Lib.hid (fun W h1 h2 => eqNodesI_c N N' K K' hN hN' hk hk' pn pn' cn cn' W h1 h2)
  have HA := Lib.hid ht; have HB := Lib.hid ht'; have HC := Lib.hid h; have HD := Lib.hid h'
  generalize T.length = m at *
  generalize N.length = M at *
  generalize T'.length = m' at *
  generalize N'.length = M' at *
  clear h h' ht ht' hk hk'
  have HGW : Hid (w.grownBy ((w.alloc (.cells #[.slice pt m ct, .slice pn M cn] 59)).alloc (.cells #[.slice pt' m' ct', .slice pn' M' cn'] 59)) none) := Lib.hid (gb_alloc (gb_alloc (gb_refl _ _) _) _)
  go_enter Tryz.func63, Tryz.ntmps63
  go_wp2_with fail
  refine (HE.out _ (HA.out.kept HGW.out) (HB.out.kept HGW.out)).mono ?_
  rintro e w1 ⟨hg1, b, rfl, hb⟩
  have HG1 := Lib.hid (gb_trans HGW.out hg1)
  obtain ⟨W0, b0, b1, hW, e0, e1, hB0, hB1, -, -⟩ := two w (.cells #[.slice pt m ct, .slice pn M cn] 59) (.cells #[.slice pt' m' ct', .slice pn' M' cn'] 59)
  rw [← hW] at hg1
  obtain ⟨a0, a1, a2⟩ := cells2 (bx hg1 hB0)
  obtain ⟨c0, c1, c2⟩ := cells2 (bx hg1 hB1)
  rw [← e0] at a0 a1 a2
  rw [← e1] at c0 c1 c2
  have HBB := Lib.hid hb
  clear hg1 HE hB0 hB1 hW e0 e1 hb
  cases b
  · go_wp2_with fail
    go_ret
    exact ret_false HG1.out (fun h => by have := HBB.out.2 h.1; cases this)
  · go_wp2_with fail
    refine (HF.out _ (HC.out.kept HG1.out) (HD.out.kept HG1.out)).mono ?_
    rintro e w2 ⟨hg2, b, rfl, hb⟩
    have HG2 := Lib.hid (gb_trans HG1.out hg2)
    have HB2 := Lib.hid hb
    clear hg2 HF hb
    go_wp2_with fail
    go_ret
    exact ret_bp HG2.out ⟨fun h => ⟨HBB.out.1 (by simp), HB2.out.1 h⟩, fun h => HB2.out.2 h.2⟩

/-- What taking the end leaves. -/
def EndIs (T : List Tok) (s : St) (N : List Nd) (v : Int) (u' : Nat) (N' : List Nd) : Prop :=
  ((kindT T 5 s).2.e = 0 → N' = N ++ [⟨19, (s.i : Int), []⟩] ∧ v = (N.length : Int) ∧ u' = s.i + 1 ∧ (kindT T 5 s).1 = [.lf s.i]) ∧ ((kindT T 5 s).2.e ≠ 0 → v = -1 ∧ N' = N ∧ u' = s.i)
def EPost (b bb : Nat) (T : List Tok) (D n : Nat) (s : St) (N : List Nd) (vn : Value) (A : Nat → Prop) (w : World) (e : Ending) (w' : World) : Prop :=
  ∃ (v : Int) (u' : Nat) (N' : List Nd) (vn' : Value), e = .returned (.int .i64 v) ∧ XAt w' b bb T D n (kindT T 5 s).2 u' N' vn' A ∧ Step b bb vn w vn' w' ∧ EndIs T s N v u' N'
/-- Of a whole reading. -/
def FinPost (b bb : Nat) (T : List Tok) (D kind : Nat) (s : St) (r : RT) (N : List Nd) (vn : Value) (A : Nat → Prop) (w : World) (e : Ending) (w' : World) : Prop :=
  ∃ (x : Int) (u : Nat) (N' : List Nd) (vn' : Value), e = .returned (.int .i64 x) ∧ XAt w' b bb T D 0 r.2 u N' vn' A ∧ Step b bb vn w vn' w' ∧ u ≤ T.length ∧ (r.2.e = 0 → N' = N ++ posts N.length [.nd kind r.1])

section
variable (b bb : Nat) (T : List Tok) (D n : Nat)

set_option maxRecDepth 100000 in
set_option maxHeartbeats 4000000 in
theorem endOf_c (hC : TokC T) (s : St) (N : List Nd) (vn : Value) (A : Nat → Prop) (w : World) (h : XAt w b bb T D n s s.i N vn A) :
    Calls Tryz.prog 61 #[.pointer (some ⟨b, 0, none⟩), .int .i64 5] w (EPost b bb T D n s N vn A w) := by
  have HA : Hid (Calls Tryz.prog 91 #[.pointer (some ⟨b, 0, none⟩), .int .i64 5] w (ValPost (.bool (decide (s.e = 0 ∧ (tokQ T s).kind = 5))) w)) := Lib.hid (atKind_c b bb T D n s s.i N vn A 5 w h)
  have HF := Lib.hid (fun w h => pfail_c b bb T D n 22 s s.i N vn A w h)
  have HX := Lib.hid h
  have HKT : Hid (kindT T 5 s = if s.e = 0 ∧ (tokQ T s).kind = 5 then leafT T s else ([], failQ T 22 s)) := Lib.hid rfl
  have HTK := Lib.hid (fun w h => take_c b bb T D n hC.len hC.short hC.ends s N vn A w h)
  clear h hC
  by_cases hc : s.e = 0 ∧ (tokQ T s).kind = 5
  · rw [decide_eq_true hc] at HA
    rw [if_pos hc] at HKT
    have HC := Lib.hid hc
    clear hc
    go_enter Tryz.func61, Tryz.ntmps61
    go_wp2_with fail
    refine HA.out.mono ?_
    rintro e w1 ⟨rfl, hg⟩
    have HX1 := Lib.hid (HX.out.kept hg); have HG := Lib.hid hg
    clear hg HA
    go_wp2_with fail
    refine (HTK.out _ HX1.out).mono ?_
    rintro e w2 ⟨vn', rfl, h1, h2⟩
    have HZ : Hid (EPost b bb T D n s N vn A w (.returned (.int .i64 (N.length : Int))) w2) := Lib.hid (by
      refine ⟨_, s.i + 1, _, vn', rfl, by rw [HKT.out]; exact h1, (Step.of HG.out).trans h2, ?_, ?_⟩
      · intro _; exact ⟨rfl, rfl, rfl, by rw [HKT.out]; rfl⟩
      · intro he; rw [HKT.out] at he; exact absurd (leaf_live T HC.out.1) he)
    clear h1 h2
    go_wp2_with fail
    go_ret
    exact HZ.out
  · rw [decide_eq_false hc] at HA
    rw [if_neg hc] at HKT
    clear hc
    go_enter Tryz.func61, Tryz.ntmps61
    go_wp2_with fail
    refine HA.out.mono ?_
    rintro e w1 ⟨rfl, hg⟩
    have HX1 := Lib.hid (HX.out.kept hg); have HG := Lib.hid hg
    clear hg HA
    go_wp2_with fail
    refine (HF.out _ HX1.out).mono ?_
    rintro e w2 ⟨rfl, h2, st2⟩
    have HZ : Hid (EPost b bb T D n s N vn A w (.returned (.int .i64 (-1))) w2) := Lib.hid (by
      refine ⟨-1, s.i, N, vn, rfl, by rw [HKT.out]; exact h2, (Step.of HG.out).trans st2, ?_, ?_⟩
      · intro he; rw [HKT.out] at he; exact absurd he (fail_e T (by decide) s)
      · intro _; exact ⟨rfl, rfl, rfl⟩)
    clear h2 st2
    go_wp2_with fail
    go_ret
    exact HZ.out
end

/-- Of all that was read: nodes and places. -/
def FinL (N0 : List Nd) (r : RT) (N : List Nd) (vs : List Int) : Prop := (r.2.e = 0 → N = N0 ++ posts N0.length r.1 ∧ vs = idxs N0.length r.1) ∧ (r.2.e ≠ 0 → (-1 : Int) ∈ vs)
section
variable {b bb : Nat} {T : List Tok} {D n : Nat} {A0 : Nat → Prop} {vn0 : Value} {w0 w w' : World} {s : St} {u : Nat} {N : List Nd} {vn : Value} {L : List (Value × Th)}
theorem FinL.of {k : Nat} {N0 N' : List Nd} {s0 : St} {a : RT} {vs : List Int} {v : Int} {u' : Nat} (h : OutL k N0 s0 a N vs) (he : EndIs T a.2 N v u' N') : FinL N0 (a.1 ++ (kindT T 5 a.2).1, (kindT T 5 a.2).2) N' (vs ++ [v]) := by
  refine ⟨fun e => ?_, fun e => ?_⟩
  · have ea : a.2.e = 0 := by
      rcases Nat.eq_zero_or_pos a.2.e with h9 | h9
      · exact h9
      · exact absurd e (by show ¬ (kindT T 5 a.2).2.e = 0; rw [(kind_keep T 5 a.2).dead (by omega)]; omega)
    obtain ⟨e1, e2, -⟩ := h.1 ea
    obtain ⟨f1, f2, f3, f4⟩ := he.1 e
    have hl : N.length = N0.length + szRs a.1 := by rw [e1, List.length_append, posts_len]
    rw [f4, posts_append, idxs_append, f1, f2, ← e2]
    refine ⟨?_, ?_⟩
    · rw [← List.append_assoc, ← e1]; simp [posts, post]
    · rw [hl]; simp [idxs, szR]
  · rw [(he.2 e).1]; exact List.mem_append_right _ (List.mem_singleton.2 rfl)
theorem KX.endOf (hk : KX b bb T D n A0 vn0 w0 w s s.i N vn L) (hC : TokC T) :
    Calls Tryz.prog 61 #[.pointer (some ⟨b, 0, none⟩), .int .i64 5] w fun e w' => ∃ (v : Int) (u' : Nat) (N' : List Nd) (vn' : Value), e = .returned (.int .i64 v) ∧ KX b bb T D n A0 vn0 w0 w' (kindT T 5 s).2 u' N' vn' L ∧ EndIs T s N v u' N' := by
  obtain ⟨A, h1, h2, h3, h4, h5⟩ := hk
  refine (endOf_c b bb T D n hC s N vn A w h1).mono ?_
  rintro e w' ⟨v, u', N', vn', rfl, g1, g2, g3⟩
  exact ⟨v, u', N', vn', rfl, KX.go h2 h3 h4 h5 h1.lt g1 g2, g3⟩
theorem KX.nodeEnd {kind : Nat} {v : Value} {vs : List Int} {N0 : List Nd} {r : RT} (hk : KX b bb T D n A0 vn0 w0 w r.2 u N vn L) (hm : (v, Th.ints vs) ∈ L) (hT : T.length ≤ 40000) (hu : u ≤ T.length) (hF : FinL N0 r N vs) (hl : vs.length ≤ 30000) (hr : r.2.e = 0 → N.length + 1 ≤ 2 * u) :
    Calls Tryz.prog 58 #[.pointer (some ⟨bb, 0, none⟩), .int .i64 (kind : Int), v] w fun e w' => ∃ (x : Int) (N' : List Nd) (vn' : Value), e = .returned (.int .i64 x) ∧ KX b bb T D n A0 vn0 w0 w' r.2 u N' vn' L ∧ (r.2.e = 0 → N' = N0 ++ posts N0.length [.nd kind r.1]) := by
  obtain ⟨p, c, rfl, hv, -, -⟩ := hk.list hm
  have hk2 := hk
  obtain ⟨A, h1, h2, h3, h4, h5⟩ := hk
  have hfew := h1.few
  by_cases he : r.2.e = 0
  · obtain ⟨e1, e2⟩ := hF.1 he
    have hok : okB N.length vs = true := okB_true fun j hj => by
      rw [e2] at hj
      have := idxs_in _ _ _ hj
      rw [e1, List.length_append, posts_len]; omega
    refine (Node_far A bb T u N vn (kind : Int) vs p c w (by omega) (by omega) h1.bld h1.new hv hok).mono ?_
    rintro e w' ⟨rfl, vn', g1, g2, g3⟩
    obtain ⟨hx, hst⟩ := h1.bump g1 g2 g3 (by rw [List.length_append]; exact hr he)
    refine ⟨_, _, vn', rfl, KX.go h2 h3 h4 h5 h1.lt hx hst, fun _ => ?_⟩
    simp only [posts, post, List.append_nil]
    rw [← List.append_assoc, ← e1, e2]
  · have hno : okB N.length vs = false := by
      obtain ⟨j, hj⟩ := List.getElem?_of_mem (hF.2 he)
      exact okB_false hj (by omega)
    refine (Node_none bb T u N vn (kind : Int) vs p c w (by omega) (by omega) h1.bld.bld hv hno).mono ?_
    rintro e w' ⟨rfl, hg⟩
    exact ⟨-1, N, vn, rfl, hk2.kept hg, fun e => absurd e he⟩
end

section
variable (T : List Tok) (D : Nat)
end

section
variable (b bb : Nat) (T : List Tok) (D : Nat)

end
end Go.Proofs.YtccokidhngdjnaaGreatDoor
namespace Go.Proofs.YtccokidhngdjnaaGreatDoor
open Go.RowKit

section
variable (b bb : Nat) (T : List Tok) (D n : Nat)

set_option maxRecDepth 100000 in
set_option maxHeartbeats 4000000 in
theorem factor_p (hC : TokC T) (hD : D ≤ 200) (hn : n ≤ D) (hA : SubI b bb T D n (fun _ => True) 161 (atomT T (NT T D n))) (hB : n < D → SubI b bb T D (n + 1) (fun _ => True) 160 (factorT T D (n + 1) (NT T D (n + 1)))) : SubI b bb T D n (fun _ => True) 160 (factorT T D n (NT T D n)) := by
  intro s N vn A w hP h
  have HCC := Lib.hid hC; have HPP := Lib.hid hP
  have HSA := Lib.hid hA
  have HNB := Lib.hid (nested_factor b bb T D n hD hn (fun _ => True) _ hB)
  have HEQ := Lib.hid (fun s hk => sign_eqv T hn (sub := factorT T D (n + 1) (NT T D (n + 1))) (sub' := (NT T D n).factor) (fun hlt => by rw [NT_succ T hlt]) s hk)
  have HK := Lib.hid (KX.start h)
  have HFEW := Lib.hid h.few
  have HA := Lib.hid (OutL.nil N s)
  clear h hC hP hD hn hA hB
  go_enter Tryz.func160, Tryz.ntmps160
  go_wp2_with fail
  refine (KX.at (ws := [[45]]) (HK.out.strs1 _ _) (List.mem_cons_self ..) (by decide)).mono ?_
  rintro e w1 ⟨rfl, hk⟩
  have HK := Lib.hid (hk.nils)
  obtain ⟨b1, hb⟩ : ∃ b1, isQ T [45] s = b1 := ⟨_, rfl⟩
  rw [at_one HCC.out (by decide), hb]
  have HV1 := Lib.hid hb
  clear hk hb
  cases b1
  · skip
    go_wp2_with fail
    refine (HK.out.sub HSA.out trivial).mono ?_
    rintro e w9 ⟨v9, N9, vn9, rfl, hk9, ho9, hd9⟩
    have HQ := Lib.hid (KX.fin ho9 hk9 hd9 (r' := (factorT T D n (NT T D n)) s) (by unfold factorT; rw [if_neg (by rw [HV1.out]; decide)]; exact Eqv.refl _))
    clear hk9 ho9 hd9
    go_wp2_with fail
    go_ret
    exact HQ.out
  · skip
    have HLI := Lib.hid (is_kind HV1.out)
    go_wp2_with fail
    have HK := Lib.hid HK.out.drew
    go_region_held3 (fun w' => w'.cell? ⟨b, 0, none⟩ = some (.pointer (some ⟨bb, 0, none⟩))) (first | with_reducible exact HK.out.cell | with_reducible exact (HK.out.alloc _).cell | with_reducible exact ((HK.out.alloc _).alloc _).cell | with_reducible exact (((HK.out.alloc _).alloc _).alloc _).cell)
      (first
        | (go_at_call 90; (first | with_reducible refine (HK.out.take HCC.out HLI.out.1 HLI.out.2).mono ?_ | with_reducible refine ((HK.out.strs1 _ _).take HCC.out HLI.out.1 HLI.out.2).mono ?_ | with_reducible refine (((HK.out.strs1 _ _).strs1 _ _).take HCC.out HLI.out.1 HLI.out.2).mono ?_); rintro e w9 ⟨v9, N9, vn9, rfl, hk9, ho9, hd9⟩; have HK := Lib.hid hk9; have HD := Lib.hid (OutD.app HA.out ho9 hd9); have HA := Lib.hid HD.out.out; clear hk9 ho9 hd9)
        | (go_at_call 59; (first | with_reducible refine (HK.out.call (fun A h => HNB.out _ _ _ A _ trivial h)).mono ?_ | with_reducible refine ((HK.out.strs1 _ _).call (fun A h => HNB.out _ _ _ A _ trivial h)).mono ?_ | with_reducible refine (((HK.out.strs1 _ _).strs1 _ _).call (fun A h => HNB.out _ _ _ A _ trivial h)).mono ?_); rintro e w9 ⟨v9, N9, vn9, rfl, hk9, ho9, hd9⟩; have HK := Lib.hid hk9; have HD := Lib.hid (OutD.app HA.out ho9 hd9); have HA := Lib.hid HD.out.out; clear hk9 ho9 hd9)
        | (go_at_call 58; have HDW := Lib.hid (HD.out.weak (j := 0 + 1) (by decide)); refine (KX.node (k := 0) (kind := 11) (HK.out.ints2 _ _ ) ?_ HCC.out.len HDW.out ?_ HFEW.out ?_).mono ?_; exact List.mem_cons_self ..; rfl; simp; rintro e w9 ⟨v9, N9, vn9, rfl, hk9, ho9⟩; have HK := Lib.hid hk9; have HZ := Lib.hid ho9; clear hk9 ho9))
    all_goals
      have HQ := Lib.hid (KX.fin HZ.out HK.out (fun he => absurd HLI.out.2 he) (r' := (factorT T D n (NT T D n)) s) (by rw [show factorT T D n (NT T D n) s = signT T D n (NT T D n).factor s from if_pos HV1.out]; exact HEQ.out _ HLI.out.2))
      go_wp2_with fail
      go_ret
      exact HQ.out
end
end Go.Proofs.YtccokidhngdjnaaGreatDoor
