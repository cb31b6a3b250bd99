/- Lemmas. -/
import Derived.Test.YtddccnpohpaofaaGreatDoorP24
import Derived.Test.YtddccnpohpaofaaGreatDoorP43
set_option linter.unusedVariables false
set_option linter.unusedSimpArgs false
namespace Go.Proofs.YtddccnpohpaofaaGreatDoor
open Go.RowKit

theorem pop_w {S F : Nat → Prop} {B b bb g n cap : Nat} {w : World} {R0 : List (List Value)} {q : List Value} {l : List Pc} {p : Pc} {out : List Value} (h : WrAt S B b w (R0 ++ [q])) (hp0 : PcsAt F w l R0) (hp1 : PcAt F w p q) (hF : ∀ k, F k → S k) (hbl : BldI bb out w) (c0 : w.cell? ⟨b, 0, none⟩ = some (.slice (some ⟨g, 0, none⟩) n cap)) :
    WrAt S B b ((w.setCell ⟨b, 0, none⟩ (.slice (some ⟨g, 0, none⟩) R0.length cap)).alloc (.cells q.toArray 130)) R0 ∧ PcsAt F ((w.setCell ⟨b, 0, none⟩ (.slice (some ⟨g, 0, none⟩) R0.length cap)).alloc (.cells q.toArray 130)) l R0 ∧ PcAt F ((w.setCell ⟨b, 0, none⟩ (.slice (some ⟨g, 0, none⟩) R0.length cap)).alloc (.cells q.toArray 130)) p q ∧ BldI bb out ((w.setCell ⟨b, 0, none⟩ (.slice (some ⟨g, 0, none⟩) R0.length cap)).alloc (.cells q.toArray 130)) ∧ Fr2 (fun k => ¬ S k) w ((w.setCell ⟨b, 0, none⟩ (.slice (some ⟨g, 0, none⟩) R0.length cap)).alloc (.cells q.toArray 130)) ∧ ((w.setCell ⟨b, 0, none⟩ (.slice (some ⟨g, 0, none⟩) R0.length cap)).alloc (.cells q.toArray 130)).heap[w.heap.size]? = some (.cells q.toArray 130 (0, 0)) ∧ b < w.heap.size := by
  obtain ⟨S2, hS2, hW2, hk⟩ := h.bld hbl
  have hbw : b < w.heap.size := by obtain ⟨v, hb, -⟩ := h; exact hlt hb
  obtain ⟨h3, hf3⟩ := hW2.pop c0
  have hga := World.grownBy_alloc (w.setCell ⟨b, 0, none⟩ (.slice (some ⟨g, 0, none⟩) R0.length cap)) (.cells q.toArray 130) none
  have hf : Fr2 (fun k => ¬ S2 k) w _ := hf3.trans (Fr2.none hga)
  have hf1 : Fr2 (fun k => ¬ S k) w _ := hf.mono (fun k e h => e (hS2 k h))
  have hsz : (w.setCell ⟨b, 0, none⟩ (.slice (some ⟨g, 0, none⟩) R0.length cap)).heap.size = w.heap.size := by simp
  refine ⟨(h3.kept hga).weak hS2, hp0.same hf1 (fun k hk e => e (hF k hk)), hp1.same hf1 (fun k hk e => e (hF k hk)), hk _ hf, hf1, ?_, hbw⟩
  rw [← hsz]
  exact heap_alloc_new _ _
/-- What the last row's cells are, and where they lie. -/
theorem WrAt.last {S : Nat → Prop} {B b g n cap : Nat} {w : World} {R0 : List (List Value)} {q : List Value} (h : WrAt S B b w (R0 ++ [q])) (c0 : w.cell? ⟨b, 0, none⟩ = some (.slice (some ⟨g, 0, none⟩) n cap)) :
    n = R0.length + 1 ∧ ∀ i v, q[i]? = some v → w.cell? ⟨g, R0.length * 3 + i, none⟩ = some v := by
  obtain ⟨v, hb, hO, hbB, hB, hSb, hSv, hSs⟩ := h
  rw [cell_of_row w b 0 _ _ (0, 0) hb] at c0
  have c0 : v = .slice (some ⟨g, 0, none⟩) n cap := Option.some.inj c0
  subst c0
  exact ⟨hO.popS.1, fun i v hi => hO.cellS (j := R0.length) (by simp) hi⟩
theorem ite_ne {α : Type} {c : Prop} [Decidable c] {a b : List α} (ha : a ≠ []) (hb : b ≠ []) : (if c then a else b) ≠ [] := by
  split
  · exact ha
  · exact hb
theorem openP_ne (x : Sx) (least : Nat) : openP x least ≠ [] := by
  cases x with
  | mk op nm md nu ys ks ps =>
    unfold openP
    refine ite_ne (by simp) ?_
    simp only [bareP]
    repeat' (first | exact List.cons_ne_nil _ _ | refine ite_ne ?_ ?_)
    simp
theorem wgP_pos (p : Pc) : 1 ≤ wgP p := by
  cases p with
  | bs s => exact Nat.le_refl _
  | ex x l => cases x with | mk op nm md nu ys ks ps => simp only [wgP, wgS]; omega
theorem len_wgPs : ∀ l : List Pc, l.length ≤ wgPs l
  | [] => Nat.le_refl _
  | p :: l => by
    have h1 := len_wgPs l
    have h2 := wgP_pos p
    rw [wgPs_cons, List.length_cons]; omega
theorem fit_wg {x : Sx} (h : fitS x) (least : Nat) : wgPs (openP x least) < wgS x := by
  cases x with
  | mk op nm md nu ys ks ps =>
    simp only [fitS] at h
    exact open_wg (x := .mk op nm md nu ys ks ps) least h.1.1 h.1.2.1 h.1.2.2.1
theorem fit_text {x : Sx} (h : fitS x) (least : Nat) : textPs (openP x least) = wrapS x least := by
  cases x with
  | mk op nm md nu ys ks ps =>
    simp only [fitS] at h
    exact open_text (x := .mk op nm md nu ys ks ps) least h.1.1 h.1.2.1 h.1.2.2.1

theorem textPs_app (a b : List Pc) : textPs (a ++ b) = textPs a ++ textPs b := by simp [textPs]
set_option maxRecDepth 100000 in
set_option maxHeartbeats 16000000 in
theorem text_c9 (S F : Nat → Prop) (B b : Nat) (rows : List (List Value)) (l : List Pc) (w : World) (h : WrAt S B b w rows) (hp : PcsAt F w l rows) (h0 : rows ≠ []) (hW : wgPs l ≤ 500000) (hrl : rows.length ≤ 500000) (hF : ∀ k, F k → S k) (hSg : S 5) (hla : LaidW w) (hft : ∀ p ∈ l, fitP p) (hT : (textPs l).length ≤ 1000000000) :
    Calls Tryz.prog 37 #[.pointer (some ⟨b, 0, none⟩)] w (fun e w' => e = .returned (.string ⟨(textPs l).toArray⟩) ∧ Fr2 (fun k => ¬ S k) w w') := by
  obtain ⟨g, cap, cb, hBg, hgw, hSg9, hbB, hcap, hfz⟩ := h.cell h0
  have hg := World.grownBy_alloc w (.cells #[.pointer none, .slice none 0 0] 75) none
  have hbl := bld_new w w.heap.size (Nat.le_refl _)
  have hSs : ∀ k, S k → k < w.heap.size := by obtain ⟨v, -, -, -, -, -, -, hh⟩ := h; exact hh
  have c1 := hg.cell cb (by simp)
  have hsz : (w.alloc (.cells #[.pointer none, .slice none 0 0] 75)).heap.size = w.heap.size + 1 := by simp
  have HREV := Lib.hid (rev_w S F B b w.heap.size g rows.length cap cap [] rows l [] _ (h.kept hg) (hp.same (S := fun _ => False) (Fr2.none hg) (fun _ _ h => h)) hF hbl c1 (by omega))
  have HG := Lib.hid hg; have HSS := Lib.hid hSs; have HF := Lib.hid hF; have HSG := Lib.hid hSg; have HFT := Lib.hid hft; have HT := Lib.hid hT
  have HLA : Hid (∀ W, Fr2 (fun k => ¬ S k) w W → LaidW W) := Lib.hid (fun W hf => hla.same hf hSg (hSs _ hSg))
  have HBW : Hid (b < w.heap.size) := Lib.hid (by obtain ⟨v, hb, -⟩ := h; exact hlt hb)
  obtain ⟨T, hTT⟩ : ∃ T, textPs l = T := ⟨_, rfl⟩
  have HTT := Lib.hid hTT
  rw [hTT]
  have hbw := HBW.out
  clear h hp h0 hF hSg hla hft hT hg hbl hSs cb hBg hSg9 hbB hcap hfz hTT hgw
  go_enter Tryz.func37, Tryz.ntmps37
  go_wp2_with fail
  refine HREV.out.mono ?_
  rintro e w2 ⟨rfl, hw2, hp2, hb2, hf2⟩
  have HW2 := Lib.hid hw2; have HP2 := Lib.hid hp2; have HB2 := Lib.hid hb2; have HF2 := Lib.hid ((Fr2.none HG.out).trans hf2)
  have HZ2 : Hid (w.heap.size < w2.heap.size) := Lib.hid (by have := hf2.size; rw [hsz] at this; omega)
  clear hw2 hp2 hb2 hf2 c1 hsz HG
  obtain ⟨bb, hbb⟩ : ∃ bb, w.heap.size = bb := ⟨_, rfl⟩
  have HBB := Lib.hid hbb
  rw [hbb] at HB2 HZ2 ⊢
  clear hbb HREV hbw
  go_wp2_with fail
  go_loopg [4, 5] (wgPs l) (fun gk sv tv wr => ∃ st out R, wgPs st ≤ gk ∧ gk ≤ 500000 ∧ Hid (WrAt S B b wr R) ∧ Hid (PcsAt F wr st.reverse R) ∧ Hid (BldI bb (Lib.byteCells out) wr) ∧ Hid (out ++ textPs st = T) ∧ Hid (Fr2 (fun k => ¬ S k) w wr) ∧ Hid (∀ p ∈ st, fitP p) ∧ Hid (bb < wr.heap.size))
  case atStart => exact ⟨l, [], rows.reverse, Nat.le_refl _, hW, HW2, HP2, HB2, Lib.hid (by rw [HTT.out]; rfl), HF2, HFT, HZ2⟩
  case round =>
    obtain ⟨st, out, R, hcg, hgk, HWR, HPA, HBD, HTX, HFR, HFI, HZR⟩ := hrel
    rcases st with _ | ⟨p, st'⟩
    · obtain ⟨p0, k0, c0⟩ := HWR.out.len0
      have hR : R.length = 0 := HPA.out.len
      rw [hR] at c0
      have HSTR := Lib.hid (Tryz.Builder_String_any_k bb bb _ wr (Lib.IsBuilderF.of HBD.out) (Nat.le_of_lt HZR.out))
      have hbw2 : b < wr.heap.size := Nat.lt_of_lt_of_le HBW.out HFR.out.size
      clear hcg hgk hR HPA HBD HWR HZR HFI
      clear hW hrl
      go_upto_region 11 with fail
      go_wp2_with fail
      refine HSTR.out.mono ?_
      rintro e w7 ⟨rfl, -, hbe7, -⟩
      have HF7 := Lib.hid (HFR.out.trans (fr_below hbe7 (fun k hk => by have := HSS.out k hk; rw [HBB.out] at this; exact this)))
      clear hbe7
      go_wp2_with fail
      go_ret
      have hTe : T = out := by have := HTX.out; rw [show textPs ([] : List Pc) = [] from rfl, List.append_nil] at this; exact this.symm
      exact ⟨by rw [hTe]; rfl, HF7.out⟩
    · obtain ⟨R0, q0, rfl, hp0, hq0⟩ : ∃ R0 q0, R = R0 ++ [q0] ∧ PcsAt F wr st'.reverse R0 ∧ PcAt F wr p q0 := by
        have := HPA.out
        rw [List.reverse_cons] at this
        obtain ⟨r1, r2, rfl, h1, h2⟩ := this.split
        obtain ⟨q, r', rfl, h3, h4⟩ := h2
        have h4 : r' = [] := h4
        subst h4
        exact ⟨r1, q, rfl, h1, h3⟩
      obtain ⟨g2, cap2, c0, -, hg2w, -, -, hcap2, hfz⟩ := HWR.out.cell (by simp)
      obtain ⟨hn1, hlc⟩ := HWR.out.last c0
      obtain ⟨q00, q01, q02, rfl⟩ : ∃ a b c, q0 = [a, b, c] := by
        cases p with
        | bs s => exact ⟨_, _, _, hq0⟩
        | ex x least => obtain ⟨g, o, q, h, -⟩ := hq0; exact ⟨_, _, _, h⟩
      have HPOP := Lib.hid (pop_w HWR.out hp0 hq0 HF.out HBD.out c0)
      have a0 := hlc 0 _ rfl
      have a1 := hlc 1 _ rfl
      have a2 := hlc 2 _ rfl
      obtain ⟨L, hL⟩ : ∃ L, R0.length = L := ⟨_, rfl⟩
      have hwg := wgPs_cons p st'
      have hLb : L + 1 ≤ 500000 := by
        have h1 := hp0.len
        rw [List.length_reverse, hL] at h1
        have h2 := len_wgPs st'
        have h3 := wgP_pos p
        omega
      rw [hn1, hL] at c0
      rw [hL] at a0 a1 a2 HPOP
      rw [Nat.add_zero] at a0
      obtain ⟨n1, hn1e⟩ : ∃ n1, L + 1 = n1 := ⟨_, rfl⟩
      rw [hn1e] at c0
      have hw1 : IntKind.i64.wrap ((n1 : Int) - 1) = (L : Int) := by rw [IntWalk.i64_in _ (by omega)]; omega
      have x1 : (0 : Int) ≤ (L : Int) := by omega
      have x2 : (L : Int) < (n1 : Int) := by omega
      have x3 : decide (L < n1) = true := decide_eq_true (by omega)
      have x4 : decide ((L : Int) < (n1 : Int)) = true := decide_eq_true x2
      have x5 : decide ((0 : Int) < (n1 : Int)) = true := decide_eq_true (by omega)
      have x6 : decide (0 < n1) = true := decide_eq_true (by omega)
      have hbw2 : b < wr.heap.size := Nat.lt_of_lt_of_le HBW.out HFR.out.size
      have y1 : L ≤ cap2 := by rw [List.length_append, hL] at hcap2; omega
      have y2 : (L : Int) ≤ (cap2 : Int) := by omega
      have y3 : ¬ ((cap2 : Int) < (L : Int)) := by omega
      clear hcap2
      have HL := Lib.hid hL
      have HN1 := Lib.hid hn1e
      have HCG := Lib.hid hcg; have HGK := Lib.hid hgk; have HWG := Lib.hid hwg
      clear hp0 hq0 hn1 hlc hcg hgk hwg hW hrl HWR HPA HBD hL hn1e
      cases p with
      | bs s =>
        have hq9 := HPOP.out.2.2.1
        obtain ⟨sb, hsb⟩ : ∃ sb : ByteArray, (⟨s.toArray⟩ : ByteArray) = sb := ⟨_, rfl⟩
        have hq9 : [q00, q01, q02] = [.string ⟨s.toArray⟩, .pointer none, .int .i64 0] := hq9
        rw [hsb] at hq9
        simp only [List.cons.injEq, and_true] at hq9
        obtain ⟨rfl, rfl, rfl⟩ := hq9
        have HSB := Lib.hid hsb
        clear hsb
        go_upto_region 7 with fail
        obtain ⟨hw3, hps3, -, hb3, hf3, hbk3, -⟩ := HPOP.out
        change WrAt S B b ((wr.setCell ⟨b, 0, none⟩ (.slice (some ⟨g2, 0, none⟩) L cap2)).alloc (.cells #[.string sb, .pointer none, .int .i64 0] 130)) R0 at hw3
        change PcsAt F ((wr.setCell ⟨b, 0, none⟩ (.slice (some ⟨g2, 0, none⟩) L cap2)).alloc (.cells #[.string sb, .pointer none, .int .i64 0] 130)) _ R0 at hps3
        change BldI bb _ ((wr.setCell ⟨b, 0, none⟩ (.slice (some ⟨g2, 0, none⟩) L cap2)).alloc (.cells #[.string sb, .pointer none, .int .i64 0] 130)) at hb3
        change Fr2 _ wr ((wr.setCell ⟨b, 0, none⟩ (.slice (some ⟨g2, 0, none⟩) L cap2)).alloc (.cells #[.string sb, .pointer none, .int .i64 0] 130)) at hf3
        change ((wr.setCell ⟨b, 0, none⟩ (.slice (some ⟨g2, 0, none⟩) L cap2)).alloc (.cells #[.string sb, .pointer none, .int .i64 0] 130)).heap[wr.heap.size]? = some (.cells #[.string sb, .pointer none, .int .i64 0] 130 (0, 0)) at hbk3
        clear HPOP HW2 HP2 HB2 HF2 HZ2
        generalize ((wr.setCell ⟨b, 0, none⟩ (.slice (some ⟨g2, 0, none⟩) L cap2)).alloc (.cells #[.string sb, .pointer none, .int .i64 0] 130)) = w3 at *
        obtain ⟨d0, d1, d2, -⟩ := cells3 hbk3
        have HW3 := Lib.hid hw3; have HP3 := Lib.hid hps3; have HB3 := Lib.hid hb3; have HF3 := Lib.hid (HFR.out.trans hf3)
        have HZ3 : Hid (bb < w3.heap.size) := Lib.hid (Nat.lt_of_lt_of_le HZR.out hf3.size)
        have HLEN : Hid ((Lib.byteCells out).length + sb.size ≤ 140737488355328) := Lib.hid (by
          have h1 := congrArg List.length HTX.out
          have h2 := HT.out
          rw [HTT.out, ← h1] at h2
          have h3 : sb.size = s.length := by rw [← HSB.out]; rfl
          rw [Lib.byteCells_length, h3]
          simp only [textPs, List.flatMap_cons, textP, List.length_append] at h2
          omega)
        clear hw3 hps3 hb3 hf3 hbk3 c0 a0 a1 a2 hfz x1 x2 x3 x4 x5 x6 y1 y2 y3 hw1 hg2w hbw2 HFR
        obtain ⟨nb, hnb⟩ : ∃ nb, wr.heap.size = nb := ⟨_, rfl⟩
        rw [hnb] at d0 d1 d2 ⊢
        clear hnb
        go_wp2_with fail
        refine (WriteString_c bb bb _ sb _ HB3.out HLEN.out (Nat.le_of_lt HZ3.out)).mono ?_
        rintro e w4 ⟨rfl, ⟨hb4, hbe4⟩, hok4⟩
        have HW4 := Lib.hid (HW3.out.wrote hok4 hbe4 (fun _ => HB3.out.cells))
        have hf4 : Fr2 (fun k => ¬ S k) w3 w4 := fr_below hbe4 (fun k hk => by have := HSS.out k hk; rw [HBB.out] at this; exact this)
        have HP4 := Lib.hid (HP3.out.same hf4 (fun k hk e => e (HF.out k hk)))
        have HF4 := Lib.hid (HF3.out.trans hf4)
        have HZ4 : Hid (bb < w4.heap.size) := Lib.hid (Nat.lt_of_lt_of_le HZ3.out hf4.size)
        have HB4 : Hid (BldI bb (Lib.byteCells (out ++ s)) w4) := Lib.hid (.inr (by rw [Lib.byteCells_append]; rw [← HSB.out] at hb4; exact hb4))
        clear hb4 hbe4 hok4 hf4 d0 d1 d2 HW3 HP3 HB3 HF3 HZ3 HLEN
        go_wp2_with fail
        go_roundg (wgPs st')
        case rel => exact ⟨st', out ++ s, R0, Nat.le_refl _, by have h1 := HCG.out; have h2 := HWG.out; have h3 := HGK.out; omega, HW4, HP4, HB4, Lib.hid (by rw [← HTX.out]; simp [textPs, textP]), HF4, Lib.hid (fun p hp => HFI.out p (List.mem_cons_of_mem _ hp)), HZ4⟩
        case measure => have h1 := HCG.out; have h2 := HWG.out; simp only [wgP] at h2; omega
      | ex x least =>
        have hq9 := HPOP.out.2.2.1
        obtain ⟨gx, ox, qx, hq9, -⟩ := hq9
        simp only [rowX, List.cons.injEq, and_true] at hq9
        obtain ⟨rfl, rfl, rfl⟩ := hq9
        go_upto_region 7 with fail
        obtain ⟨hw3, hps3, hp9, hb3, hf3, hbk3, -⟩ := HPOP.out
        change WrAt S B b ((wr.setCell ⟨b, 0, none⟩ (.slice (some ⟨g2, 0, none⟩) L cap2)).alloc (.cells #[.string ⟨#[]⟩, .pointer (some ⟨gx, ox, none⟩), .int .i64 (least : Int)] 130)) R0 at hw3
        change PcsAt F ((wr.setCell ⟨b, 0, none⟩ (.slice (some ⟨g2, 0, none⟩) L cap2)).alloc (.cells #[.string ⟨#[]⟩, .pointer (some ⟨gx, ox, none⟩), .int .i64 (least : Int)] 130)) _ R0 at hps3
        change PcAt F ((wr.setCell ⟨b, 0, none⟩ (.slice (some ⟨g2, 0, none⟩) L cap2)).alloc (.cells #[.string ⟨#[]⟩, .pointer (some ⟨gx, ox, none⟩), .int .i64 (least : Int)] 130)) _ _ at hp9
        change BldI bb _ ((wr.setCell ⟨b, 0, none⟩ (.slice (some ⟨g2, 0, none⟩) L cap2)).alloc (.cells #[.string ⟨#[]⟩, .pointer (some ⟨gx, ox, none⟩), .int .i64 (least : Int)] 130)) at hb3
        change Fr2 _ wr ((wr.setCell ⟨b, 0, none⟩ (.slice (some ⟨g2, 0, none⟩) L cap2)).alloc (.cells #[.string ⟨#[]⟩, .pointer (some ⟨gx, ox, none⟩), .int .i64 (least : Int)] 130)) at hf3
        change ((wr.setCell ⟨b, 0, none⟩ (.slice (some ⟨g2, 0, none⟩) L cap2)).alloc (.cells #[.string ⟨#[]⟩, .pointer (some ⟨gx, ox, none⟩), .int .i64 (least : Int)] 130)).heap[wr.heap.size]? = some (.cells #[.string ⟨#[]⟩, .pointer (some ⟨gx, ox, none⟩), .int .i64 (least : Int)] 130 (0, 0)) at hbk3
        clear HPOP HW2 HP2 HB2 HF2 HZ2
        generalize ((wr.setCell ⟨b, 0, none⟩ (.slice (some ⟨g2, 0, none⟩) L cap2)).alloc (.cells #[.string ⟨#[]⟩, .pointer (some ⟨gx, ox, none⟩), .int .i64 (least : Int)] 130)) = w3 at *
        obtain ⟨d0, d1, d2, -⟩ := cells3 hbk3
        have hfx : fitS x := HFI.out (.ex x least) List.mem_cons_self
        have hf03 := HFR.out.trans hf3
        have HOP := Lib.hid (open_w S F B b bb R0 x least gx ox (Lib.byteCells out) w3 hw3 (by have := HL.out; omega) hp9 hfx HF.out HSG.out (HLA.out _ hf03) hb3)
        have HP3 := Lib.hid hps3; have HF3 := Lib.hid hf03
        have HZ3 : Hid (bb < w3.heap.size) := Lib.hid (Nat.lt_of_lt_of_le HZR.out hf3.size)
        have HFX := Lib.hid hfx
        have hL2 : L + 1 ≤ 500000 := hLb
        clear hw3 hps3 hp9 hb3 hf3 hbk3 c0 a0 a1 a2 hfz x1 x2 x3 x4 x5 x6 y1 y2 y3 hw1 hg2w hbw2 HFR hfx hf03 hLb
        obtain ⟨nb, hnb⟩ : ∃ nb, wr.heap.size = nb := ⟨_, rfl⟩
        rw [hnb] at d0 d1 d2 ⊢
        clear hnb
        go_wp2_with fail
        refine HOP.out.mono ?_
        rintro e w4 ⟨rfl, R1, hw4, hp4, hb4, hf4⟩
        have hlen := hp4.len
        have hR1 : 1 ≤ R1.length := by
          rw [hlen]
          rcases ho : openP x least with _ | ⟨a, t⟩
          · exact absurd ho (openP_ne x least)
          · simp
        have hR2 : R1.length ≤ 500000 := by
          have h1 := len_wgPs (openP x least)
          have h2 := fit_wg HFX.out least
          have h3 := HCG.out; have h4 := HWG.out; have h5 := HGK.out
          simp only [wgP] at h4
          omega
        obtain ⟨g4, cap4, c4, -, hg4w, -, -, hcap4, hfz4⟩ := hw4.cell (by intro h; rw [List.append_eq_nil_iff] at h; rw [h.2] at hR1; simp at hR1)
        have HREV4 := Lib.hid (fun cap' => rev_w S F B b bb g4 (R0 ++ R1).length cap4 cap' R0 R1 (openP x least) (Lib.byteCells out) w4 hw4 hp4 HF.out hb4 c4 (by omega))
        obtain ⟨M, hM⟩ : ∃ M, R1.length = M := ⟨_, rfl⟩
        have hcl : (R0 ++ R1).length = L + M := by rw [List.length_append, HL.out, hM]
        rw [hcl] at c4 hcap4
        rw [HL.out, hM] at HREV4
        obtain ⟨n4, hn4⟩ : ∃ n4, L + M = n4 := ⟨_, rfl⟩
        have hM2 : n4 - L = M := by omega
        rw [hn4] at c4 hcap4
        have HP4 := Lib.hid (HP3.out.same hf4 (fun k hk e => e (HF.out k hk)))
        have HF4 := Lib.hid (HF3.out.trans hf4)
        have HZ4 : Hid (bb < w4.heap.size) := Lib.hid (Nat.lt_of_lt_of_le HZ3.out hf4.size)
        have hbw4 : b < w4.heap.size := Nat.lt_of_lt_of_le HBW.out HF4.out.size
        have x1 : (0 : Int) ≤ (L : Int) := by omega
        have x2 : (L : Int) ≤ (n4 : Int) := by omega
        have x3 : L ≤ n4 := by omega
        have x4 : (n4 : Int) ≤ (cap4 : Int) := by omega
        have x5 : n4 ≤ cap4 := by omega
        have x6 : ¬ cap4 = L := by omega
        have x7 : ¬ (n4 : Int) < (L : Int) := by omega
        have x8 : L ≤ cap4 := by omega
        clear hw4 hp4 hb4 hf4 hlen hR1 hR2 hcl hcap4 hM hn4 HOP HP3 HF3 HZ3 d0 d1 d2
        go_wp2_with fail
        refine (HREV4.out _).mono ?_
        rintro e w5 ⟨rfl, hw5, hp5, hb5, hf5⟩
        have HW5 := Lib.hid hw5
        have HP5 : Hid (PcsAt F w5 (openP x least ++ st').reverse (R0 ++ R1.reverse)) := Lib.hid (by rw [List.reverse_append]; exact (HP4.out.same hf5 (fun k hk e => e (HF.out k hk))).app hp5)
        have HB5 := Lib.hid hb5; have HF5 := Lib.hid (HF4.out.trans hf5)
        have HZ5 : Hid (bb < w5.heap.size) := Lib.hid (Nat.lt_of_lt_of_le HZ4.out hf5.size)
        have HME : Hid (wgPs (openP x least ++ st') < gk) := Lib.hid (by
          have h2 := fit_wg HFX.out least
          have h3 := HCG.out; have h4 := HWG.out
          simp only [wgP] at h4
          rw [wgPs_append]; omega)
        clear hw5 hp5 hb5 hf5 c4 hfz4 x1 x2 x3 x4 x5 x6 x7 x8 hM2 HREV4 HP4 HF4 HZ4 hbw4 hg4w
        go_wp2_with fail
        go_roundg (wgPs (openP x least ++ st'))
        case rel =>
          exact ⟨openP x least ++ st', out, R0 ++ R1.reverse, Nat.le_refl _, by have h1 := HME.out; have h3 := HGK.out; omega, HW5, HP5, HB5, Lib.hid (by rw [← HTX.out, textPs_app, fit_text HFX.out]; rfl), HF5, Lib.hid (fun p hp => (List.mem_append.1 hp).elim (fit_open HFX.out least p) (fun h => HFI.out p (List.mem_cons_of_mem _ h))), HZ5⟩
        case measure => exact HME.out

def wholeI (l : List TokI) : List UInt8 := l.flatMap fun t => t.lead ++ t.text

theorem wholeI_append (l r : List TokI) : wholeI (l ++ r) = wholeI l ++ wholeI r := by unfold wholeI; rw [List.flatMap_append]
theorem wholeI_next {l : List TokI} {k : Nat} {t : TokI} (h : l[k]? = some t) : wholeI (l.take (k + 1)) = wholeI (l.take k) ++ t.lead ++ t.text := by
  rw [List.take_add_one, h, wholeI_append]; simp [wholeI]
theorem wholeI_take (l : List TokI) (k : Nat) : (wholeI (l.take k)).length ≤ (wholeI l).length := by
  have h1 : wholeI l = wholeI (l.take k) ++ wholeI (l.drop k) := by rw [← wholeI_append, List.take_append_drop]
  rw [h1, List.length_append]; omega

set_option maxRecDepth 100000 in
set_option maxHeartbeats 8000000 in
theorem WholeI_c (q : Option Addr) (c : Nat) (l : List TokI) (w : World) (hl : l.length ≤ 1000000) (hL : (wholeI l).length ≤ 1000000) (h : ToksAt w q l) : Calls Tryz.prog 78 #[.slice q l.length c] w (StrGb (wholeI l) w) := by
  obtain ⟨m, hm⟩ : ∃ m, l.length = m := ⟨_, rfl⟩
  have HM := Lib.hid hm; have HA := Lib.hid h; have HL := Lib.hid hL
  rw [hm] at hl ⊢
  clear hm h hL
  go_enter Tryz.func78, Tryz.ntmps78
  go_wp2_with fail
  have hbl := bld_new w w.heap.size (Nat.le_refl _)
  have hga := World.grownBy_alloc w (.cells #[.pointer none, .slice none 0 0] 75) none
  generalize (w.alloc (.cells #[.pointer none, .slice none 0 0] 75)) = W at *
  obtain ⟨b, hb⟩ : ∃ b, w.heap.size = b := ⟨_, rfl⟩
  have HBB := Lib.hid hb
  rw [hb] at hbl ⊢
  have HBL := Lib.hid hbl; have HGA := Lib.hid hga
  clear hbl hga hb
  go_loopw [8] (fun i wr => ∃ k : Nat, k ≤ m ∧ i = .int .i64 k ∧ Hid (Lib.IsBuilder 75 5 b b (Lib.byteCells (wholeI (l.take k))) wr) ∧ Hid (w.grownBy wr none)) (fun i _ => m - (intOf i).toNat)
  case atStart => exact ⟨0, Nat.zero_le _, rfl, HBL, HGA⟩
  case round =>
    clear HBL HGA
    obtain ⟨k, hk, rfl, HBL, HG⟩ := hrel
    by_cases hlt : k < m
    · have d1 : decide ((k : Int) < (m : Int)) = true := decide_eq_true (by omega)
      have d1' : decide (k < m) = true := decide_eq_true hlt
      obtain ⟨t, ht⟩ : ∃ t, l[k]? = some t := ⟨l[k]'(by rw [HM.out]; exact hlt), List.getElem?_eq_getElem _⟩
      obtain ⟨g, off, rfl, hgl, c0, c1, c2, c3⟩ := tok_at HA.out ht
      have c0 := HG.out.cell c0 (by simp)
      have c1 := HG.out.cell c1 (by simp)
      have c2 := HG.out.cell c2 (by simp)
      have c3 := HG.out.cell c3 (by simp)
      have hnx := wholeI_next ht
      have hle1 := wholeI_take l k
      have hle2 := wholeI_take l (k + 1)
      have hL := HL.out
      rw [hnx] at hle2
      simp only [List.length_append] at hle2
      obtain ⟨x, hx⟩ : ∃ x : ByteArray, (⟨t.lead.toArray⟩ : ByteArray) = x := ⟨_, rfl⟩
      obtain ⟨y, hy⟩ : ∃ y : ByteArray, (⟨t.text.toArray⟩ : ByteArray) = y := ⟨_, rfl⟩
      have hxl : x.data.toList = t.lead := by rw [← hx]
      have hyl : y.data.toList = t.text := by rw [← hy]
      have hxs : x.size = t.lead.length := by rw [← list_len, hxl]
      have hys : y.size = t.text.length := by rw [← list_len, hyl]
      unfold strV at c1 c2
      rw [hx] at c1
      rw [hy] at c2
      have HNX : Hid (Lib.byteCells (wholeI (l.take (k + 1))) = Lib.byteCells (wholeI (l.take k)) ++ Lib.strCells x ++ Lib.strCells y) := Lib.hid (by
        rw [hnx, Lib.byteCells_append, Lib.byteCells_append, ← strCells_mk t.lead, ← strCells_mk t.text, hx, hy])
      have HZ1 : Hid ((Lib.byteCells (wholeI (l.take k))).length + x.size ≤ 140737488355328) := Lib.hid (by rw [Lib.byteCells_length]; omega)
      have HZ2 : Hid ((Lib.byteCells (wholeI (l.take k)) ++ Lib.strCells x).length + y.size ≤ 140737488355328) := Lib.hid (by rw [List.length_append, Lib.byteCells_length, Lib.strCells_length]; omega)
      have HBX := Lib.hid (heap_alloc_new wr (.cells #[.int .i64 t.kind, .string x, .string y, .int .i64 t.pos] 98))
      have hga := World.grownBy_alloc wr (.cells #[.int .i64 t.kind, .string x, .string y, .int .i64 t.pos] 98) none
      have HB2 := Lib.hid (bld_kept HBL.out hga)
      have HG2 := Lib.hid (gb_trans HG.out hga)
      have HXS : Hid (b < wr.heap.size) := Lib.hid (by
        rcases HBL.out with h | h
        · exact h.lt
        · exact h.lt)
      obtain ⟨b0, b1, b2, b3, b4⟩ := cells4 HBX.out
      generalize t.kind = tk at *
      generalize t.pos = tp at *
      clear hgl ht hnx hle1 hle2 hL hx hy hxl hyl hxs hys hga HBL HG b4
      go_wp2_with fail
      refine (WriteString_c b b _ x _ HB2.out HZ1.out (by have := HG2.out.size; rw [HBB.out] at this; exact this)).mono ?_
      rintro e w2 ⟨rfl, ⟨hb2, hbe2⟩, hok2⟩
      have HB3 := Lib.hid hb2
      have hgg : w.grownBy w2 none := below_gb (Below.trans2 (gb_below HG2.out) (by rw [HBB.out]; exact hbe2))
      have HG3 := Lib.hid hgg
      have hbx2 := hok2 _ _ _ HBX.out (by decide) (by have := HXS.out; omega)
      obtain ⟨e0, e1, e2, e3, e4⟩ := cells4 hbx2
      clear hb2 hbe2 hok2 hgg hbx2 b0 b1 b2 b3 c0 c1 c2 c3 HB2 e4
      go_wp2_with fail
      refine (WriteString_c b b _ y _ (.inr HB3.out) HZ2.out (by have := HG3.out.size; rw [HBB.out] at this; exact this)).mono ?_
      rintro e w3 ⟨rfl, ⟨hb3, hbe3⟩, -⟩
      rw [← HNX.out] at hb3
      have HB4 : Hid (Lib.IsBuilder 75 5 b b (Lib.byteCells (wholeI (l.take (k + 1)))) w3) := Lib.hid (.inr hb3)
      have hgg : w.grownBy w3 none := below_gb (Below.trans2 (gb_below HG3.out) (by rw [HBB.out]; exact hbe3))
      have HG4 := Lib.hid hgg
      clear hb3 hbe3 hgg HB3 HG2 HG3 e0 e1 e2 e3
      go_wp2_with fail
      go_roundw
      case rel => exact ⟨k + 1, by omega, by go_num, HB4, HG4⟩
      case measure => (simp [intOf] <;> omega)
    · obtain rfl : k = m := by omega
      rw [List.take_of_length_le (by rw [HM.out]; exact Nat.le_refl _)] at HBL
      have HSTR := Lib.hid (Tryz.Builder_String_any_k b b _ wr (Lib.IsBuilderF.of HBL.out) (by have := HG.out.size; rw [HBB.out] at this; exact this))
      go_wp2_with fail
      refine HSTR.out.mono ?_
      rintro e w7 ⟨rfl, -, hbe7, -⟩
      have HG7 : Hid (w.grownBy w7 none) := Lib.hid (below_gb (Below.trans2 (gb_below HG.out) (by rw [HBB.out]; exact hbe7)))
      clear hbe7
      go_wp2_with fail
      go_ret
      exact ⟨⟨_, rfl, rfl⟩, HG7.out⟩
set_option maxRecDepth 100000 in
set_option maxHeartbeats 4000000 in
theorem ShowI_c (l : List TokI) (pt pn : Option Addr) (ct M cn : Nat) (w : World) (hl : l.length ≤ 1000000) (hL : (wholeI l).length ≤ 1000000) (h : ToksAt w pt l) :
    Calls Tryz.prog 46 #[.agg #[.slice pt l.length ct, .slice pn M cn]] w (StrGb (wholeI l) w) := by
  have HWH := Lib.hid (fun W (h : ToksAt W pt l) => WholeI_c pt ct l W hl hL h)
  have HT := Lib.hid h
  obtain ⟨m, hm⟩ : ∃ m, l.length = m := ⟨_, rfl⟩
  rw [hm] at HWH ⊢
  clear hm h hl hL
  go_enter Tryz.func46, Tryz.ntmps46
  go_wp2_with fail
  have hgA := World.grownBy_alloc w (.cells #[.slice pt m ct, .slice pn M cn] 42) none
  refine (HWH.out _ (HT.out.kept hgA)).mono ?_
  rintro e w1 ⟨⟨s, rfl, hs⟩, hg⟩
  have HS := Lib.hid hs
  have HG := Lib.hid (gb_trans hgA hg)
  clear hgA hg hs
  go_wp2_with fail
  go_ret
  exact ⟨⟨s, rfl, HS.out⟩, HG.out⟩
theorem wholeI_toI (l : List Tok) : wholeI (l.map toI) = wholeL l := by unfold wholeI wholeL; rw [List.flatMap_map]; rfl

section
variable (b bb : Nat) (T : List Tok) (D n : Nat)

set_option maxRecDepth 100000 in
set_option maxHeartbeats 4000000 in
theorem atom_p (hC : TokC T) (hD : D ≤ 200) (hn : n ≤ D) (hG : SubI b bb T D n (fun s => isQ T [40] s = true) 162 (grpT T (NT T D n))) (hM : SubI b bb T D n (fun s => s.e = 0 ∧ (tokQ T s).kind = 1) 163 (nameT T (NT T D n))) : SubI b bb T D n (fun _ => True) 161 (atomT T (NT T D n)) := by
  intro s N vn A w hP h
  have HCC := Lib.hid hC; have HPP := Lib.hid hP
  have HSG := Lib.hid hG
  have HSM := Lib.hid hM
  have HK := Lib.hid (KX.start h)
  have HFEW := Lib.hid h.few
  have HA := Lib.hid (OutL.nil N s)
  clear h hC hP hD hn hG hM
  go_enter Tryz.func161, Tryz.ntmps161
  go_wp2_with fail
  refine (HK.out.kind 3).mono ?_
  rintro e w1 ⟨rfl, hk⟩
  have HK := Lib.hid hk
  by_cases hc1 : s.e = 0 ∧ (tokQ T s).kind = 3
  · rw [decide_eq_true hc1]
    have HLI := Lib.hid (show (tokQ T s).kind ≠ 5 ∧ s.e = 0 from ⟨by omega, hc1.1⟩); have HV1 := Lib.hid hc1; clear hc1 hk
    go_wp2_with fail
    have HKD := HK
    have HK := Lib.hid HK.out.drew
    go_region_held3 (fun w' => w'.cell? ⟨b, 0, none⟩ = some (.pointer (some ⟨bb, 0, none⟩))) (first | with_reducible exact HK.out.cell | with_reducible exact (HK.out.alloc _).cell | with_reducible exact (HKD.out.alloc _).drew.cell | with_reducible exact ((HK.out.alloc _).alloc _).cell | with_reducible exact ((HKD.out.alloc _).alloc _).drew.cell | with_reducible exact (((HK.out.alloc _).alloc _).alloc _).cell)
      (first
        | (go_at_call 76; (first | with_reducible refine (HK.out.take HCC.out HLI.out.1 HLI.out.2).mono ?_ | with_reducible refine ((HK.out.strs1 _ _).take HCC.out HLI.out.1 HLI.out.2).mono ?_ | with_reducible refine ((HKD.out.strs1 _ _).drew.take HCC.out HLI.out.1 HLI.out.2).mono ?_ | with_reducible refine (((HK.out.strs1 _ _).strs1 _ _).take HCC.out HLI.out.1 HLI.out.2).mono ?_ | with_reducible refine (((HKD.out.strs1 _ _).strs1 _ _).drew.take HCC.out HLI.out.1 HLI.out.2).mono ?_); rintro e w9 ⟨v9, N9, vn9, rfl, hk9, ho9, hd9⟩; have HK := Lib.hid hk9; have HD := Lib.hid (OutD.app HA.out ho9 hd9); have HA := Lib.hid HD.out.out; clear hk9 ho9 hd9)
        | (go_at_call 42; have HDW := Lib.hid (HD.out.weak (j := 0 + 1) (by decide)); refine (KX.node (k := 0) (kind := 15) (HK.out.ints1 _ ) ?_ HCC.out.len HDW.out ?_ HFEW.out ?_).mono ?_; exact List.mem_cons_self ..; rfl; simp; rintro e w9 ⟨v9, N9, vn9, rfl, hk9, ho9⟩; have HK := Lib.hid hk9; have HZ := Lib.hid ho9; clear hk9 ho9))
    all_goals
      have HQ := Lib.hid (KX.fin HZ.out HK.out (fun he => absurd HLI.out.2 he) (r' := (atomT T (NT T D n)) s) (by rw [atom_num HV1.out]; exact Eqv.refl _))
      go_wp2_with fail
      go_ret
      exact HQ.out
  · rw [decide_eq_false hc1]
    have HV1 := Lib.hid hc1; clear hc1 hk
    go_wp2_with fail
    refine (KX.at (ws := [[116, 114, 117, 101], [102, 97, 108, 115, 101]]) (HK.out.strs2 _ _ _) (List.mem_cons_self ..) (by decide)).mono ?_
    rintro e w2 ⟨rfl, hk⟩
    have HK := Lib.hid hk.nils
    obtain ⟨b2, hb⟩ : ∃ b2, atQ T [[116, 114, 117, 101], [102, 97, 108, 115, 101]] s = b2 := ⟨_, rfl⟩
    rw [hb]
    have HV2 : Hid ((isQ T [116, 114, 117, 101] s || isQ T [102, 97, 108, 115, 101] s) = b2) := Lib.hid (by rw [← hb, at_any HCC.out (by decide)]; simp)
    clear hk hb
    cases b2
    · skip
      have d0 := HK.out.cell; have d7 := HK.out.innc
      go_wp2_with fail
      refine (KX.at (ws := [[114, 101, 115]]) (HK.out.strs1 _ _) (List.mem_cons_self ..) (by decide)).mono ?_
      rintro e w3 ⟨rfl, hk⟩
      have HK := Lib.hid hk.nils
      obtain ⟨b3, hb⟩ : ∃ b3, isQ T [114, 101, 115] s = b3 := ⟨_, rfl⟩
      rw [at_one HCC.out (by decide), hb]
      have HV3 := Lib.hid hb
      clear hk hb d0 d7
      have d7 := HK.out.innc
      obtain ⟨I, hI⟩ : ∃ I, s.inn = I := ⟨_, rfl⟩
      have HI := Lib.hid hI
      rw [hI] at d7
      clear hI
      cases b3
      · skip
        go_wp2_with fail
        refine (KX.at (ws := [[40]]) (HK.out.strs1 _ _) (List.mem_cons_self ..) (by decide)).mono ?_
        rintro e w4 ⟨rfl, hk⟩
        have HK := Lib.hid (hk.nils)
        obtain ⟨b4, hb⟩ : ∃ b4, isQ T [40] s = b4 := ⟨_, rfl⟩
        rw [at_one HCC.out (by decide), hb]
        have HV4 := Lib.hid hb
        clear hk hb
        cases b4
        · skip
          go_wp2_with fail
          refine (HK.out.kind 1).mono ?_
          rintro e w5 ⟨rfl, hk⟩
          have HK := Lib.hid hk
          by_cases hc5 : s.e = 0 ∧ (tokQ T s).kind = 1
          · rw [decide_eq_true hc5]
            have HV5 := Lib.hid hc5; clear hc5 hk
            go_wp2_with fail
            refine (HK.out.sub HSM.out HV5.out).mono ?_
            rintro e w9 ⟨v9, N9, vn9, rfl, hk9, ho9, hd9⟩
            have HQ := Lib.hid (KX.fin ho9 hk9 hd9 (r' := (atomT T (NT T D n)) s) (by rw [atom_name HV5.out.1 HV1.out HV2.out (fun h => by rw [HV3.out] at h; cases h.2) HV4.out HV5.out.2]; exact Eqv.refl _))
            clear hk9 ho9 hd9
            go_wp2_with fail
            go_ret
            exact HQ.out
          · rw [decide_eq_false hc5]
            have HV5 := Lib.hid hc5; clear hc5 hk
            go_wp2_with fail
            refine (HK.out.fail 22 (by decide)).mono ?_
            rintro e w9 ⟨v9, N9, vn9, rfl, hk9, ho9, hd9⟩
            have HQ := Lib.hid (KX.fin ho9 hk9 hd9 (r' := (atomT T (NT T D n)) s) (atom_none HV1.out HV2.out (fun h => by rw [HV3.out] at h; cases h.2) HV4.out HV5.out))
            clear hk9 ho9 hd9
            go_wp2_with fail
            go_ret
            exact HQ.out
        · skip
          go_wp2_with fail
          refine (HK.out.sub HSG.out HV4.out).mono ?_
          rintro e w9 ⟨v9, N9, vn9, rfl, hk9, ho9, hd9⟩
          have HQ := Lib.hid (KX.fin ho9 hk9 hd9 (r' := (atomT T (NT T D n)) s) (by rw [atom_grp HV1.out HV2.out (fun h => by rw [HV3.out] at h; cases h.2) HV4.out]; exact Eqv.refl _))
          clear hk9 ho9 hd9
          go_wp2_with fail
          go_ret
          exact HQ.out
      · cases I
        · skip
          go_wp2_with fail
          refine (KX.at (ws := [[40]]) (HK.out.strs1 _ _) (List.mem_cons_self ..) (by decide)).mono ?_
          rintro e w4 ⟨rfl, hk⟩
          have HK := Lib.hid (hk.nils)
          obtain ⟨b4, hb⟩ : ∃ b4, isQ T [40] s = b4 := ⟨_, rfl⟩
          rw [at_one HCC.out (by decide), hb]
          have HV4 := Lib.hid hb
          clear hk hb
          cases b4
          · skip
            go_wp2_with fail
            refine (HK.out.kind 1).mono ?_
            rintro e w5 ⟨rfl, hk⟩
            have HK := Lib.hid hk
            by_cases hc5 : s.e = 0 ∧ (tokQ T s).kind = 1
            · rw [decide_eq_true hc5]
              have HV5 := Lib.hid hc5; clear hc5 hk
              go_wp2_with fail
              refine (HK.out.sub HSM.out HV5.out).mono ?_
              rintro e w9 ⟨v9, N9, vn9, rfl, hk9, ho9, hd9⟩
              have HQ := Lib.hid (KX.fin ho9 hk9 hd9 (r' := (atomT T (NT T D n)) s) (by rw [atom_name HV5.out.1 HV1.out HV2.out (fun h => by rw [HI.out] at h; cases h.1) HV4.out HV5.out.2]; exact Eqv.refl _))
              clear hk9 ho9 hd9
              go_wp2_with fail
              go_ret
              exact HQ.out
            · rw [decide_eq_false hc5]
              have HV5 := Lib.hid hc5; clear hc5 hk
              go_wp2_with fail
              refine (HK.out.fail 22 (by decide)).mono ?_
              rintro e w9 ⟨v9, N9, vn9, rfl, hk9, ho9, hd9⟩
              have HQ := Lib.hid (KX.fin ho9 hk9 hd9 (r' := (atomT T (NT T D n)) s) (atom_none HV1.out HV2.out (fun h => by rw [HI.out] at h; cases h.1) HV4.out HV5.out))
              clear hk9 ho9 hd9
              go_wp2_with fail
              go_ret
              exact HQ.out
          · skip
            go_wp2_with fail
            refine (HK.out.sub HSG.out HV4.out).mono ?_
            rintro e w9 ⟨v9, N9, vn9, rfl, hk9, ho9, hd9⟩
            have HQ := Lib.hid (KX.fin ho9 hk9 hd9 (r' := (atomT T (NT T D n)) s) (by rw [atom_grp HV1.out HV2.out (fun h => by rw [HI.out] at h; cases h.1) HV4.out]; exact Eqv.refl _))
            clear hk9 ho9 hd9
            go_wp2_with fail
            go_ret
            exact HQ.out
        · skip
          have HLI := Lib.hid (is_kind HV3.out)
          go_wp2_with fail
          have HKD := HK
          have HK := Lib.hid HK.out.drew
          go_region_held3 (fun w' => w'.cell? ⟨b, 0, none⟩ = some (.pointer (some ⟨bb, 0, none⟩))) (first | with_reducible exact HK.out.cell | with_reducible exact (HK.out.alloc _).cell | with_reducible exact (HKD.out.alloc _).drew.cell | with_reducible exact ((HK.out.alloc _).alloc _).cell | with_reducible exact ((HKD.out.alloc _).alloc _).drew.cell | with_reducible exact (((HK.out.alloc _).alloc _).alloc _).cell)
            (first
              | (go_at_call 76; (first | with_reducible refine (HK.out.take HCC.out HLI.out.1 HLI.out.2).mono ?_ | with_reducible refine ((HK.out.strs1 _ _).take HCC.out HLI.out.1 HLI.out.2).mono ?_ | with_reducible refine ((HKD.out.strs1 _ _).drew.take HCC.out HLI.out.1 HLI.out.2).mono ?_ | with_reducible refine (((HK.out.strs1 _ _).strs1 _ _).take HCC.out HLI.out.1 HLI.out.2).mono ?_ | with_reducible refine (((HKD.out.strs1 _ _).strs1 _ _).drew.take HCC.out HLI.out.1 HLI.out.2).mono ?_); rintro e w9 ⟨v9, N9, vn9, rfl, hk9, ho9, hd9⟩; have HK := Lib.hid hk9; have HD := Lib.hid (OutD.app HA.out ho9 hd9); have HA := Lib.hid HD.out.out; clear hk9 ho9 hd9)
              | (go_at_call 42; have HDW := Lib.hid (HD.out.weak (j := 0 + 1) (by decide)); refine (KX.node (k := 0) (kind := 17) (HK.out.ints1 _ ) ?_ HCC.out.len HDW.out ?_ HFEW.out ?_).mono ?_; exact List.mem_cons_self ..; rfl; simp; rintro e w9 ⟨v9, N9, vn9, rfl, hk9, ho9⟩; have HK := Lib.hid hk9; have HZ := Lib.hid ho9; clear hk9 ho9))
          all_goals
            have HQ := Lib.hid (KX.fin HZ.out HK.out (fun he => absurd HLI.out.2 he) (r' := (atomT T (NT T D n)) s) (by rw [atom_res HLI.out.2 HV1.out HV2.out ⟨HI.out, HV3.out⟩]; exact Eqv.refl _))
            go_wp2_with fail
            go_ret
            exact HQ.out
    · skip
      have HLI := Lib.hid (show (tokQ T s).kind ≠ 5 ∧ s.e = 0 from (by have h9 := HV2.out; rcases Bool.or_eq_true_iff.1 h9 with h | h <;> exact is_kind h))
      go_wp2_with fail
      have HKD := HK
      have HK := Lib.hid HK.out.drew
      go_region_held3 (fun w' => w'.cell? ⟨b, 0, none⟩ = some (.pointer (some ⟨bb, 0, none⟩))) (first | with_reducible exact HK.out.cell | with_reducible exact (HK.out.alloc _).cell | with_reducible exact (HKD.out.alloc _).drew.cell | with_reducible exact ((HK.out.alloc _).alloc _).cell | with_reducible exact ((HKD.out.alloc _).alloc _).drew.cell | with_reducible exact (((HK.out.alloc _).alloc _).alloc _).cell)
        (first
          | (go_at_call 76; (first | with_reducible refine (HK.out.take HCC.out HLI.out.1 HLI.out.2).mono ?_ | with_reducible refine ((HK.out.strs1 _ _).take HCC.out HLI.out.1 HLI.out.2).mono ?_ | with_reducible refine ((HKD.out.strs1 _ _).drew.take HCC.out HLI.out.1 HLI.out.2).mono ?_ | with_reducible refine (((HK.out.strs1 _ _).strs1 _ _).take HCC.out HLI.out.1 HLI.out.2).mono ?_ | with_reducible refine (((HKD.out.strs1 _ _).strs1 _ _).drew.take HCC.out HLI.out.1 HLI.out.2).mono ?_); rintro e w9 ⟨v9, N9, vn9, rfl, hk9, ho9, hd9⟩; have HK := Lib.hid hk9; have HD := Lib.hid (OutD.app HA.out ho9 hd9); have HA := Lib.hid HD.out.out; clear hk9 ho9 hd9)
          | (go_at_call 42; have HDW := Lib.hid (HD.out.weak (j := 0 + 1) (by decide)); refine (KX.node (k := 0) (kind := 16) (HK.out.ints1 _ ) ?_ HCC.out.len HDW.out ?_ HFEW.out ?_).mono ?_; exact List.mem_cons_self ..; rfl; simp; rintro e w9 ⟨v9, N9, vn9, rfl, hk9, ho9⟩; have HK := Lib.hid hk9; have HZ := Lib.hid ho9; clear hk9 ho9))
      all_goals
        have HQ := Lib.hid (KX.fin HZ.out HK.out (fun he => absurd HLI.out.2 he) (r' := (atomT T (NT T D n)) s) (by rw [atom_truth HV1.out HV2.out HLI.out.2]; exact Eqv.refl _))
        go_wp2_with fail
        go_ret
        exact HQ.out
end
end Go.Proofs.YtddccnpohpaofaaGreatDoor
namespace Go.Proofs.YtddccnpohpaofaaGreatDoor
open Go.RowKit

section
variable (b bb : Nat) (T : List Tok) (D n : Nat)

set_option maxRecDepth 100000 in
set_option maxHeartbeats 4000000 in
theorem group_p (hC : TokC T) (hD : D ≤ 200) (hn : n ≤ D) (hB : n < D → SubI b bb T D (n + 1) (fun _ => True) 44 (formulaT T D (n + 1) (NT T D (n + 1)))) (hE : n < D → SubI b bb T D (n + 1) (fun s => s.inn = false) 164 (bodyE T D (n + 1) (NT T D (n + 1)))) : SubI b bb T D n (fun s => isQ T [40] s = true) 162 (grpT T (NT T D n)) := by
  intro s N vn A w hP h
  have HCC := Lib.hid hC; have HPP := Lib.hid hP
  have HNB := Lib.hid (nested_formula b bb T D n hD hn (fun _ => True) _ hB)
  have HNE := Lib.hid (nested_expression b bb T D n hD hn (fun s => s.inn = false) _ hE)
  have HXB := Lib.hid (fun (s : St) (N : List Nd) (vn : Value) (A : Nat → Prop) (w : World) (hi : s.inn = true) h => (HNB.out s N vn A w trivial h).mono (fun e w' hp => hp.eqv (form_nest T hn s hi)))
  have HXE := Lib.hid (fun (s : St) (N : List Nd) (vn : Value) (A : Nat → Prop) (w : World) (hi : s.inn = false) h => (HNE.out s N vn A w hi h).mono (fun e w' hp => hp.eqv (expr_nest T hn s hi)))
  have HLI := Lib.hid (is_kind hP)
  have HKS1 : Hid ([41] ∈ KS) := Lib.hid (by decide)
  have HK := Lib.hid (KX.start h)
  have HFEW := Lib.hid h.few
  have HA := Lib.hid (OutL.nil N s)
  have d0 := HK.out.cell
  have d7 := HK.out.innc
  obtain ⟨I, hI⟩ : ∃ I, s.inn = I := ⟨_, rfl⟩
  have HI := Lib.hid hI
  rw [hI] at d7
  clear hI
  clear h hC hP hD hn hB hE
  go_enter Tryz.func162, Tryz.ntmps162
  cases I
  · skip
    go_wp2_with fail
    have HKD := HK
    have HK := Lib.hid HK.out.drew
    go_region_held3 (fun w' => w'.cell? ⟨b, 0, none⟩ = some (.pointer (some ⟨bb, 0, none⟩))) (first | with_reducible exact HK.out.cell | with_reducible exact (HK.out.alloc _).cell | with_reducible exact (HKD.out.alloc _).drew.cell | with_reducible exact ((HK.out.alloc _).alloc _).cell | with_reducible exact ((HKD.out.alloc _).alloc _).drew.cell | with_reducible exact (((HK.out.alloc _).alloc _).alloc _).cell)
      (first
        | (go_at_call 76; (first | with_reducible refine (HK.out.take HCC.out HLI.out.1 HLI.out.2).mono ?_ | with_reducible refine ((HK.out.strs1 _ _).take HCC.out HLI.out.1 HLI.out.2).mono ?_ | with_reducible refine ((HKD.out.strs1 _ _).drew.take HCC.out HLI.out.1 HLI.out.2).mono ?_ | with_reducible refine (((HK.out.strs1 _ _).strs1 _ _).take HCC.out HLI.out.1 HLI.out.2).mono ?_ | with_reducible refine (((HKD.out.strs1 _ _).strs1 _ _).drew.take HCC.out HLI.out.1 HLI.out.2).mono ?_); rintro e w9 ⟨v9, N9, vn9, rfl, hk9, ho9, hd9⟩; have HK := Lib.hid hk9; have HD := Lib.hid (OutD.app HA.out ho9 hd9); have HA := Lib.hid HD.out.out; clear hk9 ho9 hd9)
        | (go_at_call 43; (first | with_reducible refine (HK.out.call (fun A h => HXE.out _ _ _ A _ ((leaf_keep T HLI.out.2).inn.trans HI.out) h)).mono ?_ | with_reducible refine ((HK.out.strs1 _ _).call (fun A h => HXE.out _ _ _ A _ ((leaf_keep T HLI.out.2).inn.trans HI.out) h)).mono ?_ | with_reducible refine ((HKD.out.strs1 _ _).drew.call (fun A h => HXE.out _ _ _ A _ ((leaf_keep T HLI.out.2).inn.trans HI.out) h)).mono ?_ | with_reducible refine (((HK.out.strs1 _ _).strs1 _ _).call (fun A h => HXE.out _ _ _ A _ ((leaf_keep T HLI.out.2).inn.trans HI.out) h)).mono ?_ | with_reducible refine (((HKD.out.strs1 _ _).strs1 _ _).drew.call (fun A h => HXE.out _ _ _ A _ ((leaf_keep T HLI.out.2).inn.trans HI.out) h)).mono ?_); rintro e w9 ⟨v9, N9, vn9, rfl, hk9, ho9, hd9⟩; have HK := Lib.hid hk9; have HD := Lib.hid (OutD.app HA.out ho9 hd9); have HA := Lib.hid HD.out.out; clear hk9 ho9 hd9)
        | (go_at_call 165; (first | with_reducible refine (KX.one1 [41] HK.out HCC.out HKS1.out ?_).mono ?_ | with_reducible refine (KX.one1 [41] (HK.out.strs1 _ _) HCC.out HKS1.out ?_).mono ?_ | with_reducible refine (KX.one1 [41] (HKD.out.strs1 _ _).drew HCC.out HKS1.out ?_).mono ?_ | with_reducible refine (KX.one1 [41] ((HK.out.strs1 _ _).strs1 _ _) HCC.out HKS1.out ?_).mono ?_ | with_reducible refine (KX.one1 [41] ((HKD.out.strs1 _ _).strs1 _ _).drew HCC.out HKS1.out ?_).mono ?_); (first | exact ⟨_, (by first | rfl | simp), List.mem_cons_self ..⟩ | exact ⟨_, (by first | rfl | simp), List.mem_cons_of_mem _ (List.mem_cons_self ..)⟩ | exact ⟨_, (by first | rfl | simp), List.mem_cons_of_mem _ (List.mem_cons_of_mem _ (List.mem_cons_self ..))⟩); rintro e w9 ⟨v9, N9, vn9, rfl, hk9, ho9, hd9⟩; have HK := Lib.hid hk9; have HD := Lib.hid (OutD.app HA.out ho9 hd9); have HA := Lib.hid HD.out.out; clear hk9 ho9 hd9)
        | (go_at_call 42; have HDW := Lib.hid (HD.out.weak (j := 0 + 1) (by decide)); refine (KX.node (k := 0) (kind := 12) (HK.out.ints3 _ _ _ ) ?_ HCC.out.len HDW.out ?_ HFEW.out ?_).mono ?_; exact List.mem_cons_self ..; rfl; simp; rintro e w9 ⟨v9, N9, vn9, rfl, hk9, ho9⟩; have HK := Lib.hid hk9; have HZ := Lib.hid ho9; clear hk9 ho9))
    all_goals
      have HQ := Lib.hid (KX.fin HZ.out HK.out (fun he => absurd HLI.out.2 he) (r' := (grpT T (NT T D n)) s) (Eqv.refl _))
      go_wp2_with fail
      go_ret
      exact HQ.out
  · skip
    go_wp2_with fail
    have HKD := HK
    have HK := Lib.hid HK.out.drew
    go_region_held3 (fun w' => w'.cell? ⟨b, 0, none⟩ = some (.pointer (some ⟨bb, 0, none⟩))) (first | with_reducible exact HK.out.cell | with_reducible exact (HK.out.alloc _).cell | with_reducible exact (HKD.out.alloc _).drew.cell | with_reducible exact ((HK.out.alloc _).alloc _).cell | with_reducible exact ((HKD.out.alloc _).alloc _).drew.cell | with_reducible exact (((HK.out.alloc _).alloc _).alloc _).cell)
      (first
        | (go_at_call 76; (first | with_reducible refine (HK.out.take HCC.out HLI.out.1 HLI.out.2).mono ?_ | with_reducible refine ((HK.out.strs1 _ _).take HCC.out HLI.out.1 HLI.out.2).mono ?_ | with_reducible refine ((HKD.out.strs1 _ _).drew.take HCC.out HLI.out.1 HLI.out.2).mono ?_ | with_reducible refine (((HK.out.strs1 _ _).strs1 _ _).take HCC.out HLI.out.1 HLI.out.2).mono ?_ | with_reducible refine (((HKD.out.strs1 _ _).strs1 _ _).drew.take HCC.out HLI.out.1 HLI.out.2).mono ?_); rintro e w9 ⟨v9, N9, vn9, rfl, hk9, ho9, hd9⟩; have HK := Lib.hid hk9; have HD := Lib.hid (OutD.app HA.out ho9 hd9); have HA := Lib.hid HD.out.out; clear hk9 ho9 hd9)
        | (go_at_call 43; (first | with_reducible refine (HK.out.call (fun A h => HXB.out _ _ _ A _ ((leaf_keep T HLI.out.2).inn.trans HI.out) h)).mono ?_ | with_reducible refine ((HK.out.strs1 _ _).call (fun A h => HXB.out _ _ _ A _ ((leaf_keep T HLI.out.2).inn.trans HI.out) h)).mono ?_ | with_reducible refine ((HKD.out.strs1 _ _).drew.call (fun A h => HXB.out _ _ _ A _ ((leaf_keep T HLI.out.2).inn.trans HI.out) h)).mono ?_ | with_reducible refine (((HK.out.strs1 _ _).strs1 _ _).call (fun A h => HXB.out _ _ _ A _ ((leaf_keep T HLI.out.2).inn.trans HI.out) h)).mono ?_ | with_reducible refine (((HKD.out.strs1 _ _).strs1 _ _).drew.call (fun A h => HXB.out _ _ _ A _ ((leaf_keep T HLI.out.2).inn.trans HI.out) h)).mono ?_); rintro e w9 ⟨v9, N9, vn9, rfl, hk9, ho9, hd9⟩; have HK := Lib.hid hk9; have HD := Lib.hid (OutD.app HA.out ho9 hd9); have HA := Lib.hid HD.out.out; clear hk9 ho9 hd9)
        | (go_at_call 165; (first | with_reducible refine (KX.one1 [41] HK.out HCC.out HKS1.out ?_).mono ?_ | with_reducible refine (KX.one1 [41] (HK.out.strs1 _ _) HCC.out HKS1.out ?_).mono ?_ | with_reducible refine (KX.one1 [41] (HKD.out.strs1 _ _).drew HCC.out HKS1.out ?_).mono ?_ | with_reducible refine (KX.one1 [41] ((HK.out.strs1 _ _).strs1 _ _) HCC.out HKS1.out ?_).mono ?_ | with_reducible refine (KX.one1 [41] ((HKD.out.strs1 _ _).strs1 _ _).drew HCC.out HKS1.out ?_).mono ?_); (first | exact ⟨_, (by first | rfl | simp), List.mem_cons_self ..⟩ | exact ⟨_, (by first | rfl | simp), List.mem_cons_of_mem _ (List.mem_cons_self ..)⟩ | exact ⟨_, (by first | rfl | simp), List.mem_cons_of_mem _ (List.mem_cons_of_mem _ (List.mem_cons_self ..))⟩); rintro e w9 ⟨v9, N9, vn9, rfl, hk9, ho9, hd9⟩; have HK := Lib.hid hk9; have HD := Lib.hid (OutD.app HA.out ho9 hd9); have HA := Lib.hid HD.out.out; clear hk9 ho9 hd9)
        | (go_at_call 42; have HDW := Lib.hid (HD.out.weak (j := 0 + 1) (by decide)); refine (KX.node (k := 0) (kind := 12) (HK.out.ints3 _ _ _ ) ?_ HCC.out.len HDW.out ?_ HFEW.out ?_).mono ?_; exact List.mem_cons_self ..; rfl; simp; rintro e w9 ⟨v9, N9, vn9, rfl, hk9, ho9⟩; have HK := Lib.hid hk9; have HZ := Lib.hid ho9; clear hk9 ho9))
    all_goals
      have HQ := Lib.hid (KX.fin HZ.out HK.out (fun he => absurd HLI.out.2 he) (r' := (grpT T (NT T D n)) s) (Eqv.refl _))
      go_wp2_with fail
      go_ret
      exact HQ.out
end
end Go.Proofs.YtddccnpohpaofaaGreatDoor
namespace Go.Proofs.YtddccnpohpaofaaGreatDoor
open Go.RowKit

instance : Inhabited Cl := ⟨⟨0, 0, [], [], [], false⟩⟩
def inK (c : Cl) : Prop := -9223372036854775808 ≤ c.kids ∧ c.kids < 9223372036854775808

section
open Go.ChangeShapes Go.WideShapes Go.Deep
variable {H : Type} {enc : TypeId × Value → H} {P : Program} {w : World} {base : Nat} {spare : Nat → Bool} {held : Bool}

theorem open_cellC {e : TypeId} {f0 f1 f2 f3 f4 f5 : Field} {fuel : Nat} {q : List Value} {x : DataW H × List MemPlace} (he : P.underlying e = some (.struct #[f0, f1, f2, f3, f4, f5])) (hq : q.length = 6)
    (o0 : f0.offset = 0) (o1 : f1.offset = 1) (o2 : f2.offset = 2) (o3 : f3.offset = 3) (o4 : f4.offset = 4) (o5 : f5.offset = 5) (c0 : P.cellsOf f0.type = 1) (c1 : P.cellsOf f1.type = 1) (c2 : P.cellsOf f2.type = 1) (c3 : P.cellsOf f3.type = 1) (c4 : P.cellsOf f4.type = 1) (c5 : P.cellsOf f5.type = 1)
    (t0 : P.underlying f0.type = some (.int .i64)) (t1 : P.underlying f1.type = some (.int .i64)) (t2 : P.underlying f2.type = some .string) (t3 : P.underlying f3.type = some .string) (t4 : P.underlying f4.type = some .string) (t5 : P.underlying f5.type = some .bool)
    (h : DataW.trod enc P w base spare held fuel e q = some x) : ∃ c : Cl, q = cellR c ∧ inK c := by
  obtain ⟨xs, k, hk, hxy, _, hxl, hf⟩ := DataW.trod_struct he h
  match xs, hxl, q, hq with
  | [y0, y1, y2, y3, y4, y5], _, [v0, v1, v2, v3, v4, v5], _ =>
    have g0 := hf 0 f0 rfl
    have g1 := hf 1 f1 rfl
    have g2 := hf 2 f2 rfl
    have g3 := hf 3 f3 rfl
    have g4 := hf 4 f4 rfl
    have g5 := hf 5 f5 rfl
    simp [o0, o1, o2, o3, o4, o5, c0, c1, c2, c3, c4, c5] at g0 g1 g2 g3 g4 g5
    obtain ⟨n0, e0, -⟩ := DataW.trod_int t0 g0
    obtain ⟨n1, e1, -, hwf⟩ := DataW.trod_int t1 g1
    obtain ⟨s2, e2, -⟩ := DataW.trod_string t2 g2
    obtain ⟨s3, e3, -⟩ := DataW.trod_string t3 g3
    obtain ⟨s4, e4, -⟩ := DataW.trod_string t4 g4
    obtain ⟨b5, e5, -⟩ := DataW.trod_bool t5 g5
    simp at e0 e1 e2 e3 e4 e5
    subst e0; subst e1; subst e2; subst e3; subst e4; subst e5
    refine ⟨⟨n0, n1, s2.data.toList, s3.data.toList, s4.data.toList, b5⟩, rfl, ?_⟩
    unfold inK
    simp [Lit.wf] at hwf
    have h1 : IntKind.i64.min = -9223372036854775808 := by decide
    rw [h1] at hwf
    exact ⟨hwf.1, by show n1 < 9223372036854775808; omega⟩
theorem open_cellsC {t e : TypeId} {f0 f1 f2 f3 f4 f5 : Field} {fuel : Nat} {v : Option Addr} {n c : Nat} {x : DataW H × List MemPlace} (ht : P.underlying t = some (.slice e)) (he : P.underlying e = some (.struct #[f0, f1, f2, f3, f4, f5])) (ce : P.cellsOf e = 6)
    (o0 : f0.offset = 0) (o1 : f1.offset = 1) (o2 : f2.offset = 2) (o3 : f3.offset = 3) (o4 : f4.offset = 4) (o5 : f5.offset = 5) (c0 : P.cellsOf f0.type = 1) (c1 : P.cellsOf f1.type = 1) (c2 : P.cellsOf f2.type = 1) (c3 : P.cellsOf f3.type = 1) (c4 : P.cellsOf f4.type = 1) (c5 : P.cellsOf f5.type = 1)
    (t0 : P.underlying f0.type = some (.int .i64)) (t1 : P.underlying f1.type = some (.int .i64)) (t2 : P.underlying f2.type = some .string) (t3 : P.underlying f3.type = some .string) (t4 : P.underlying f4.type = some .string) (t5 : P.underlying f5.type = some .bool)
    (h : DataW.trod enc P w base spare held fuel t [.slice v n c] = some x) : ∃ T : List Cl, T.length = n ∧ GAt 6 w v (T.map cellR) ∧ ∀ c ∈ T, inK c := by
  obtain ⟨h1, h2, q, hq, hg⟩ := open_rows ht ce (by omega) h
  have each : ∀ j, j < n → ∃ c : Cl, q j = cellR c ∧ inK c := fun j hj => by
    obtain ⟨hl, f', x', hx⟩ := hq j hj
    exact open_cellC he hl o0 o1 o2 o3 o4 o5 c0 c1 c2 c3 c4 c5 t0 t1 t2 t3 t4 t5 hx
  obtain ⟨T, hT⟩ := choose_lt each
  refine ⟨(List.range n).map T, by simp, ?_, fun c hc => ?_⟩
  · have : ((List.range n).map T).map cellR = (List.range n).map q := by
      rw [List.map_map]
      exact List.map_congr_left fun j hj => (hT j (by simpa using hj)).1.symm
    rw [this]; exact hg
  · obtain ⟨j, hj, rfl⟩ := List.mem_map.1 hc
    exact (hT j (by simpa using hj)).2
end
end Go.Proofs.YtddccnpohpaofaaGreatDoor
