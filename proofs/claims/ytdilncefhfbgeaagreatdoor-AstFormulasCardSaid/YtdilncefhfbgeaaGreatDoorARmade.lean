/- The document's 'made': the kids of a node that are no leaves. -/
import Derived.Deep.LoopGhost
import Derived.Deep.CutBlock
import Derived.Deep.DeepCutAuto
import Derived.Test.YtdilncefhfbgeaaGreatDoorARBox
set_option linter.unusedVariables false
set_option linter.unusedSimpArgs false
namespace Go.Proofs.YtdilncefhfbgeaaGreatDoor
open Go.RowKit

set_option maxRecDepth 100000 in
set_option maxHeartbeats 16000000 in
theorem made_c (T : List Tok) (N : List Nd) (K : Nat → Option Addr × Nat) (pt pn : Option Addr) (ct cn m : Nat) (hIH : RIH T N K pt pn ct cn m) (hT : T.length ≤ 40000) (hN : N.length ≤ 150000)
    (n : Nat) (ks : List Int) (kd : Int) (l : List Tr) (hx : N[n]? = some ⟨kd, -1, ks⟩) (hk : KT N n ks l) (hm : szRs l ≤ m) (hll : l.length ≤ 150000) (hko : kOks l) (hl : ∀ t ∈ l, isN t = true → ∀ k : Int, TrAt N k t → GoodE T N k t)
    (op ps : Nat) (w : World) (ht : ToksAt w pt (T.map toI)) (hw : NodesAt w pn N K) :
    Calls Tryz.prog 64 #[.agg #[.slice pt T.length ct, .slice pn N.length cn], .int .i64 (n : Int), .int .i64 (op : Int), .int .i64 (ps : Int)] w (RExPost (.mk op [] [] [] false (axTs T l) ps) w) := by
  obtain ⟨g, off, rfl, hgl, c0, c1, c2⟩ := node_at hw hx
  have HKA := Lib.hid (hw.2 n _ hx)
  have hn : n < N.length := (List.getElem?_eq_some_iff.1 hx).1
  have HW := Lib.hid hw; have HT := Lib.hid ht; have HIH := Lib.hid hIH; have HL := Lib.hid hl; have HKT := Lib.hid hk; have HKO := Lib.hid hko; have HSZ := Lib.hid hm
  obtain ⟨M, hM⟩ : ∃ M, N.length = M := ⟨_, rfl⟩
  obtain ⟨tm, htm⟩ : ∃ tm, T.length = tm := ⟨_, rfl⟩
  obtain ⟨kl, hkl⟩ : ∃ kl, ks.length = kl := ⟨_, rfl⟩
  have HLL : Hid (kl = l.length) := Lib.hid (by rw [← hkl]; exact hk.1)
  have HM := Lib.hid hM; have HTM := Lib.hid htm
  have hkm : kl ≤ 150000 := by have := HLL.out; omega
  simp only at c0 c1 c2
  rw [hM] at hn hN ⊢
  rw [htm] at hT ⊢
  rw [hkl] at c2
  have HIH : Hid (∀ (t : Tr) (k : Nat) (w : World), szR t ≤ m → GoodE T N (k : Int) t → ToksAt w pt (T.map toI) → NodesAt w (some ⟨g, off, none⟩) N K → Calls Tryz.prog 28 #[.agg #[.slice pt tm ct, .slice (some ⟨g, off, none⟩) M cn], .int .i64 (k : Int)] w (RExPost (axT T t) w)) := Lib.hid (by rw [← hM, ← htm]; exact HIH.out)
  obtain ⟨kq, hkq⟩ : ∃ kq, (K n).1 = kq := ⟨_, rfl⟩
  obtain ⟨kc, hkc⟩ : ∃ kc, (K n).2 = kc := ⟨_, rfl⟩
  have HKA : Hid (VAt w kq (intsV ks)) := Lib.hid (by rw [← hkq]; exact HKA.out)
  rw [hkq, hkc] at c2
  have d1 : decide (n < M) = true := decide_eq_true hn
  have d1' : decide ((n : Int) < (M : Int)) = true := decide_eq_true (by omega)
  have HS0 : Hid (g < w.heap.size) := Lib.hid hgl
  clear hx hw ht hIH hl hk hM htm hkl hkq hkc hko hm hll
  have hgC := gb_alloc (gb_alloc (World.grownBy_alloc w (.cells #[.slice pt tm ct, .slice (some ⟨g, off, none⟩) M cn] 46) none) (.cells #[.int .i64 0, .string ⟨#[]⟩, .string ⟨#[]⟩, .string ⟨#[]⟩, .bool false, .slice none 0 0, .int .i64 0] 68)) (.cells #[.int .i64 (op : Int), .string ⟨#[]⟩, .string ⟨#[]⟩, .string ⟨#[]⟩, .bool false, .slice none 0 0, .int .i64 (ps : Int)] 68)
  have c2 := hgC.cell c2 (by simp)
  go_enter Tryz.func64, Tryz.ntmps64
  go_wp2_with fail
  obtain ⟨W, b0, b1, b2, hW, e0, e1, e2, hB0, hB1, hB2, hgW, h01, h12⟩ := three w (.cells #[.slice pt tm ct, .slice (some ⟨g, off, none⟩) M cn] 46) (.cells #[.int .i64 0, .string ⟨#[]⟩, .string ⟨#[]⟩, .string ⟨#[]⟩, .bool false, .slice none 0 0, .int .i64 0] 68) (.cells #[.int .i64 (op : Int), .string ⟨#[]⟩, .string ⟨#[]⟩, .string ⟨#[]⟩, .bool false, .slice none 0 0, .int .i64 (ps : Int)] 68)
  have hsW : W.heap.size = b2 + 1 := by rw [hW]; simp; omega
  have HB0 := Lib.hid hB0; have HB1 := Lib.hid hB1; have HB2 := Lib.hid hB2; have HGW := Lib.hid hgW; have HE0 := Lib.hid e0; have HE1 := Lib.hid e1; have HSW := Lib.hid hsW
  clear hB0 hB1 hB2 hgW c2 hgC c0 c1
  try rw [← hW]
  try rw [e2]
  try rw [e1]
  try rw [e0]
  clear e0 e1 e2 hW hsW
  go_loopw [11] (fun iv wr => ∃ (j : Nat) (rows : List (List Value)) (pv : Option Addr) (nv cv : Nat), j ≤ kl ∧ iv = .int .i64 (j : Int) ∧ Hid (wr.heap[b2]? = some (.cells #[.int .i64 (op : Int), .string ⟨#[]⟩, .string ⟨#[]⟩, .string ⟨#[]⟩, .bool false, .slice pv nv cv, .int .i64 (ps : Int)] 68 (0, 0))) ∧ Hid (OwnG 7 68 wr (b2 + 1) (.slice pv nv cv) rows) ∧ Hid (LsR (fun k => b2 + 1 ≤ k ∧ k < wr.heap.size ∧ k ≠ b2 ∧ (Value.slice pv nv cv).ownBlock ≠ some k) wr (axTs T (l.take j)) rows) ∧ Hid (Fr2 (fun k => k = b2) W wr)) (fun iv _ => kl - (intOf iv).toNat)
  case atStart => exact ⟨0, [], none, 0, 0, Nat.zero_le _, rfl, HB2, Lib.hid (OwnG.nil _ _ _ _), Lib.hid (by simp [axTs, LsR]), Lib.hid (Fr2.refl _ _)⟩
  case round =>
    obtain ⟨j, rows, pv, nv, cv, hj, rfl, HB2r, HO, HLS, HF⟩ := hrel
    have HGr : Hid (w.grownBy wr none) := Lib.hid (Fr2.after HGW.out HF.out (fun i hi => by have := HE0.out; omega))
    have HWr := Lib.hid (HW.out.kept HGr.out)
    have HTr := Lib.hid (HT.out.kept HGr.out)
    have HB0r := Lib.hid (HF.out.keep HB0.out (by omega))
    have HB1r := Lib.hid (HF.out.keep HB1.out (by omega))
    have HSr : Hid (b2 + 1 ≤ wr.heap.size) := Lib.hid (by rw [← HSW.out]; exact HF.out.size)
    have hgr : g < wr.heap.size := Nat.lt_of_lt_of_le HS0.out HGr.out.size
    obtain ⟨a0, a1, a2⟩ := cells2 HB0r.out
    obtain ⟨f0, f1, f2, f3, f4, f5, f6, f7⟩ := cells7c HB2r.out
    have hb0r : b0 < wr.heap.size := hlt HB0r.out
    have hb2r : b2 < wr.heap.size := hlt HB2r.out
    by_cases hlt : j < kl
    · obtain ⟨u, hu⟩ : ∃ u, l[j]? = some u := ⟨l[j]'(by have := HLL.out; omega), List.getElem?_eq_getElem _⟩
      obtain ⟨k1, hk1, hta, hkn⟩ := HKT.out.2 j u hu
      obtain ⟨g1, off1, rfl, hgl1, ck0⟩ := kid_at HKA.out hk1
      have ck0 := HGr.out.cell ck0 (by simp)
      have hgl1 : g1 < wr.heap.size := Nat.lt_of_lt_of_le hgl1 HGr.out.size
      have y1 : (0 : Int) ≤ (j : Int) := by omega
      have y2 : (j : Int) < (kl : Int) := by omega
      have y3 : decide (j < kl) = true := decide_eq_true hlt
      have y4 : decide ((j : Int) < (kl : Int)) = true := decide_eq_true y2
      have x1 : (0 : Int) ≤ (k1 : Int) := by omega
      have x2 : (k1 : Int) < (M : Int) := by omega
      have x3 : decide (k1 < M) = true := decide_eq_true (by omega)
      have x4 : decide ((k1 : Int) < (M : Int)) = true := decide_eq_true x2
      cases u with
      | lf i =>
        obtain ⟨n', hn', hnx⟩ := hta.lf
        have hn' : k1 = n' := by omega
        subst hn'
        obtain ⟨g', off', hp', -, e0, -, -⟩ := node_at HWr.out hnx
        injection hp' with hp'; injection hp' with hp1 hp2; subst hp1 hp2
        have HTE := Lib.hid (axTs_lf T hu)
        clear hu hk1 hta hkn hnx
        go_wp2_with fail
        go_quiet (fail)
        go_wp2_with fail
        go_roundw
        case rel => exact ⟨j + 1, rows, pv, nv, cv, by omega, by go_num, Lib.hid (bx (gb_drewN (gb_refl _ _) _) HB2r.out), Lib.hid (HO.out.kept (gb_drewN (gb_refl _ _) _)), Lib.hid (by rw [HTE.out]; exact HLS.out.kept (gb_drewN (gb_refl _ _) _)), Lib.hid (HF.out.trans (Fr2.none (gb_drewN (gb_refl _ _) _)))⟩
        case measure => simp [intOf]; omega
      | nd m' q' =>
        obtain ⟨n', ks', hn', hnx, -⟩ := hta.nd
        have hn' : k1 = n' := by omega
        subst hn'
        obtain ⟨g', off', hp', -, e0, -, -⟩ := node_at HWr.out hnx
        injection hp' with hp'; injection hp' with hp1 hp2; subst hp1 hp2
        have hkd := kOks_get HKO.out hu
        simp only [kOk] at hkd
        have hne : ((m' : Int) != 19) = true := bne_iff_ne.2 (by omega)
        have hne' : (m' != 19) = true := bne_iff_ne.2 (by omega)
        have HTE := Lib.hid (axTs_nd T hu rfl)
        have HGU := Lib.hid (HL.out _ (List.mem_of_getElem? hu) rfl (k1 : Int) hta)
        have HIX := Lib.hid (fun W h1 h2 => HIH.out (.nd m' q') k1 W (Nat.le_trans (szRs_get hu) HSZ.out) HGU.out h1 h2)
        have HRL : Hid (rows.length ≤ 1000000) := Lib.hid (by have h1 := Lr_len HLS.out; have h2 := axTs_len T (l.take j); have h3 := List.length_take (i := j) (l := l); omega)
        obtain ⟨pv', cv', hve, -⟩ := HO.out.is
        have hve2 : nv = rows.length := by injection hve
        have HNV := Lib.hid hve2
        clear hu hk1 hta hkn hnx hkd hve hve2
        go_wp2_with fail
        go_quiet (fail)
        go_wp2_with fail
        go_region_law (first
          | (refine step_appGl (s := 7) (t := 64) (T := 68) (by decide) Tryz.underlying64 infoRE rfl (by omega) rfl _ _ rfl (b2 + 1) rows [q0, q1, q2, q3, q4, q5, q6] rfl HQ1.out (.slice pv nv cv) rfl (OwnG.kept HO7.out (by repeat (first | with_reducible exact gb_refl _ _ | with_reducible refine gb_drew ?_ | with_reducible refine gb_drewN ?_ _ | with_reducible refine gb_alloc ?_ _))) w7.heap.size _ rfl (by exact HNEW.out) rfl HRL.out (by have := HS57.out; simp; omega) (w7.heap.size + 1) (by simp) ?_; intro g9 cap9 w9 hO9 hg9 hl9; have hb9 := (hg9.block b2 (by simp; omega) (fun e => by have := (OwnG.at HO7.out b2 e.symm).1; omega)).trans (show _ = _ from bx (show w7.grownBy _ none from (by repeat (first | with_reducible exact gb_refl _ _ | with_reducible refine gb_drew ?_ | with_reducible refine gb_drewN ?_ _ | with_reducible refine gb_alloc ?_ _))) HB27.out); obtain ⟨d0, d1, d2, d3, d4, d5, d6, d7⟩ := cells7c hb9; have HB9 := Lib.hid hb9; have HO9 := Lib.hid hO9; have HG9 := Lib.hid hg9; have HL9 := Lib.hid hl9; clear hb9 hO9 hg9 hl9)
          | (go_simp; go_at_call 28; refine (HIX.out _ (HTr.out.kept (by repeat (first | with_reducible exact gb_refl _ _ | with_reducible refine gb_drew ?_ | with_reducible refine gb_drewN ?_ _ | with_reducible refine gb_alloc ?_ _))) (HWr.out.kept (by repeat (first | with_reducible exact gb_refl _ _ | with_reducible refine gb_drew ?_ | with_reducible refine gb_drewN ?_ _ | with_reducible refine gb_alloc ?_ _)))).mono ?_; rintro e w7 ⟨hg7, q, rfl, hq⟩; obtain ⟨q0, q1, q2, q3, q4, q5, q6, rfl⟩ := hq.seven; have HQ1 := Lib.hid hq.one.2; have HQ : Hid (RAt (fun k => wr.heap.size ≤ k) w7 _ [q0, q1, q2, q3, q4, q5, q6]) := Lib.hid hq; have HG7 := Lib.hid (gb_trans (show wr.grownBy _ none from (by repeat (first | with_reducible exact gb_refl _ _ | with_reducible refine gb_drew ?_ | with_reducible refine gb_drewN ?_ _ | with_reducible refine gb_alloc ?_ _))) hg7); have HO7 := Lib.hid (HO.out.kept HG7.out); have HB27 := Lib.hid (bx HG7.out HB2r.out); obtain ⟨h0, h1, h2, h3, h4, h5, h6, h7⟩ := cells7c HB27.out; have hb27 : b2 < w7.heap.size := _root_.Go.Proofs.YtdilncefhfbgeaaGreatDoor.hlt HB27.out; have HS57 : Hid (b2 + 1 ≤ w7.heap.size) := Lib.hid (Nat.le_trans HSr.out HG7.out.size); have HNEW := Lib.hid (heap_alloc_new w7 (.cells #[q0, q1, q2, q3, q4, q5, q6] 68)); clear hg7 hq))
        all_goals
          have hga : w7.grownBy (w7.alloc (.cells #[q0, q1, q2, q3, q4, q5, q6] 68)) none := World.grownBy_alloc _ _ _
          have HLS9 : Hid (LsR (fun k => b2 + 1 ≤ k ∧ k < (w9.setCell ⟨b2, 5, none⟩ (.slice (some ⟨g9, 0, none⟩) (rows.length + 1) cap9)).heap.size ∧ k ≠ b2 ∧ (Value.slice (some ⟨g9, 0, none⟩) (rows.length + 1) cap9).ownBlock ≠ some k) (w9.setCell ⟨b2, 5, none⟩ (.slice (some ⟨g9, 0, none⟩) (rows.length + 1) cap9)) (axTs T (l.take (j + 1))) (rows ++ [[q0, q1, q2, q3, q4, q5, q6]])) := Lib.hid (by
            rw [HTE.out]
            exact push_kid7 (w7 := w7) (wa := w7.alloc (.cells #[q0, q1, q2, q3, q4, q5, q6] 68)) HSr.out HO.out (by omega) hb2r HLS.out HG7.out HQ.out hga (by simp) HG9.out HL9.out (gb_refl _ _))
          have HB10 : Hid ((w9.setCell ⟨b2, 5, none⟩ (.slice (some ⟨g9, 0, none⟩) (rows.length + 1) cap9)).heap[b2]? = some (.cells #[.int .i64 (op : Int), .string ⟨#[]⟩, .string ⟨#[]⟩, .string ⟨#[]⟩, .bool false, .slice (some ⟨g9, 0, none⟩) (rows.length + 1) cap9, .int .i64 (ps : Int)] 68 (0, 0))) := Lib.hid (set_cells (i := 5) (u := .slice (some ⟨g9, 0, none⟩) (rows.length + 1) cap9) HB9.out)
          have HO10 : Hid (OwnG 7 68 (w9.setCell ⟨b2, 5, none⟩ (.slice (some ⟨g9, 0, none⟩) (rows.length + 1) cap9)) (b2 + 1) (.slice (some ⟨g9, 0, none⟩) (rows.length + 1) cap9) (rows ++ [[q0, q1, q2, q3, q4, q5, q6]])) := Lib.hid (HO9.out.keptS (Fr2.setCell (S := fun k => k = b2) (Fr2.refl _ _) (g := b2) (j := 5) rfl _) (fun g hg e => by omega))
          have HF10 : Hid (Fr2 (fun k => k = b2) W (w9.setCell ⟨b2, 5, none⟩ (.slice (some ⟨g9, 0, none⟩) (rows.length + 1) cap9))) := Lib.hid ((HF.out.low (Below.trans2 (Below.gb HG7.out HF.out.size) (Below.trans2 (Below.gb hga (by have := HS57.out; have := HSW.out; omega)) ((Fr2.of HG9.out (S := fun k => (Value.slice pv nv cv).ownBlock = some k) (fun k e => e)).below (by have := HS57.out; have := HSW.out; simp; omega) (fun k e => by rw [HSW.out]; exact (OwnG.at HO7.out k e).1))))).setCell rfl _)
          clear hga HO9 HB9 HG9 HL9 HNEW HQ HQ1 HO7 HB27 d0 d1 d2 d3 d4 d5 d6 d7 h0 h1 h2 h3 h4 h5 h6 h7 HLS HO HF
          go_wp2_with fail
          go_roundw
          case rel => exact ⟨j + 1, rows ++ [[q0, q1, q2, q3, q4, q5, q6]], some ⟨g9, 0, none⟩, rows.length + 1, cap9, by omega, by go_num, HB10, HO10, HLS9, HF10⟩
          case measure => simp [intOf]; omega
    · obtain rfl : j = kl := by omega
      have hls := HLS.out
      rw [List.take_of_length_le (by have := HLL.out; omega)] at hls
      obtain ⟨hnv, hrow, hblk⟩ := HO.out.rows
      have hrl := Lr_len hls
      have HEX : Hid (RAt (fun k => b2 + 1 ≤ k) wr (.mk op [] [] [] false (axTs T l) ps) [.int .i64 (op : Int), .string ⟨#[]⟩, .string ⟨#[]⟩, .string ⟨#[]⟩, .bool false, .slice pv nv cv, .int .i64 (ps : Int)]) := Lib.hid (by
        have hl : nv = (axTs T l).length := hnv.trans hrl
        subst hl
        simp only [RAt]
        refine ⟨pv, cv, rows, rfl, hrow, LsR.mono (fun k hk => hk.1) hls, fun h0 => ?_⟩
        obtain ⟨a', ha', hb', -⟩ := hblk (fun e => by rw [e] at hrl; exact h0 (List.eq_nil_of_length_eq_zero hrl.symm))
        exact ⟨a', ha', hb'⟩)
      obtain ⟨g0, g1, g2, g3, g4, g5, g6, g7⟩ := cells7c HB1r.out
      have hb1r : b1 < wr.heap.size := _root_.Go.Proofs.YtdilncefhfbgeaaGreatDoor.hlt HB1r.out
      have HP := Lib.hid (rex_put (w := w) HGr.out (by have := HE1.out; omega) HB1r.out HEX.out (fun k hk => by have h1 := HE1.out; have hk : b2 + 1 ≤ k := hk; exact ⟨by omega, by omega⟩))
      clear hls hnv hrow hblk hrl
      go_wp2_with fail
      obtain ⟨hp, -⟩ := put7c HB1r.out (.int .i64 (op : Int)) (.string ⟨#[]⟩) (.string ⟨#[]⟩) (.string ⟨#[]⟩) (.bool false) (.slice pv nv cv) (.int .i64 (ps : Int))
      obtain ⟨r0, r1, r2, r3, r4, r5, r6, -⟩ := cells7c hp
      refine bodyPost_ret (v := .agg #[.int .i64 (op : Int), .string ⟨#[]⟩, .string ⟨#[]⟩, .string ⟨#[]⟩, .bool false, .slice pv nv cv, .int .i64 (ps : Int)]) (by simp [results, Tryz.results64, go_sem, r0, r1, r2, r3, r4, r5, r6]) rfl HP.out
end Go.Proofs.YtdilncefhfbgeaaGreatDoor
