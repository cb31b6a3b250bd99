/- The law on what is one's own, walked. -/
import Derived.Test.YtljpgmhgnfnbkaaBOwn1
namespace Go.Proofs.Ytljpgmhgnfnbkaa
open Go.RowKit Mx

theorem wf_small (k : Nat) (h : k ≤ 1000) : (Lit.int .i64 (k : Int)).wf = true := by
  simp [Lit.wf, IntKind.min, IntKind.max, IntKind.signed, IntKind.bits]; omega

theorem fr2_set {X : Nat → Prop} {a b : World} (h : Fr2 X a b) {g j : Nat} (hg : X g) (u : Value) : Fr2 X a (b.setCell ⟨g, j, none⟩ u) :=
  h.trans (Fr2.of (row := some g) (gb_set (gb_refl _ _) u) (fun k e => by injection e with e; exact e ▸ hg))

set_option maxRecDepth 100000 in
set_option maxHeartbeats 32000000 in
theorem own_yes (p0 : Option Addr) (c0 : Nat) (l : List Int) (w : World) (hl : l.length ≤ 40) (h : LAt w p0 l) :
    Calls Try.prog 8 #[.slice p0 l.length c0] w (ValPost (.bool true) w) := by
  obtain ⟨n, hn⟩ : ∃ n, l.length = n := ⟨_, rfl⟩
  have HN := Lib.hid hn; have HA := Lib.hid h
  rw [hn] at hl ⊢
  have d1 : decide ((40 : Int) < (n : Int)) = false := decide_eq_false (by omega)
  have d1' : decide (40 < n) = false := decide_eq_false (by omega)
  clear h hn
  go_enter Try.func8, Try.ntmps8
  go_wp2_with fail
  refine (anchor_c _).mono ?_
  rintro e w0 ⟨rfl, hg0⟩
  have HG0 := Lib.hid hg0
  have HA0 := Lib.hid (HA.out.kept hg0)
  have HA0B : Hid (l ≠ [] → ∀ a, p0 = some a → a.block < w0.heap.size) := Lib.hid (fun h0 a ha => by
    obtain ⟨g, off, e, hl, -⟩ := HA0.out.resolve_left h0
    rw [e] at ha; injection ha with ha; subst ha; exact hl)
  clear hg0
  have hro : OwnL (w0.alloc (.cells #[] 3)) w0.heap.size (.slice (some ⟨w0.heap.size, 0, none⟩) 0 0) [] := World.ownsRow_made w0 #[] 0 (Nat.le_refl _) (by unfold maxLen; omega) rfl
  have HRO := Lib.hid hro
  have hga := World.grownBy_alloc w0 (.cells #[] 3) none
  have HGA := Lib.hid hga; have HAA := Lib.hid (HA0.out.kept hga)
  clear hro hga
  go_wp2_with (at_builtin; go_loud (refine wpList_appL (t := 22) Try.underlying22 rfl _ _ rfl w0.heap.size [] l p0 c0 (.slice (some ⟨w0.heap.size, 0, none⟩) 0 0) rfl HRO.out HAA.out n HN.out rfl (by simp) (by have := HN.out; omega) (by simp) ?_))
  intro p3 n3 c3 w1 hn3 hO3 hB3
  have hO3 : OwnL w1 w0.heap.size (.slice p3 n3 c3) l := by simpa using hO3
  obtain rfl : n3 = n := hn3.trans (by rw [HN.out]; try rfl)
  have HG1 : Hid (w0.grownBy w1 none) := Lib.hid (below_gb (Below.trans2 (Below.gb HGA.out (Nat.le_refl _)) hB3))
  have HO3 := Lib.hid hO3
  have hwr := WrI.own hO3
  rw [HN.out] at hwr
  have HW3 := Lib.hid hwr
  obtain ⟨pz, cz, he, hi1, hi2, hi3⟩ := (isL_of_row (S := l) hO3).1
  injection he with e1 e2 e3
  subst e1; subst e3
  have HI3 := Lib.hid hi3
  have hof := Of_c p3 c3 l w1 (by have := HN.out; omega) hi1 hi3
  rw [HN.out] at hof
  have HOF := Lib.hid hof
  clear hn3 hO3 hB3 hwr hi1 hi2 hi3 e2 hof HRO HGA HAA d1 d1'
  go_wp2_with fail
  refine HOF.out.mono ?_
  rintro e w2 ⟨S, p4, n4, c4, rfl, hset, hisl, hfr, hslen, hg2⟩
  obtain ⟨pz, cz, he, hi1, hi2, hi3⟩ := hisl
  injection he with e1 e2 e3
  subst e1; subst e2; subst e3
  have HSET := Lib.hid hset; have HSA := Lib.hid hi3; have HSF := Lib.hid hfr; have HG2 := Lib.hid hg2
  have HSL : Hid (S.length ≤ 40) := Lib.hid (by rw [HN.out] at hslen; omega)
  have hnr := NewRow_c p3 c3 l w2 (by have := HN.out; omega) (HI3.out.kept hg2)
  rw [HN.out] at hnr
  have HNR := Lib.hid hnr
  clear hset hi1 hi2 hi3 hfr hslen hg2 hnr HOF
  go_wp2_with fail
  refine HNR.out.mono ?_
  rintro e w3 ⟨q, rg, R, first, pr, f, rfl, hrow, hR, hq, hrg, hrg2, hg3⟩
  have HROW := Lib.hid hrow; have HRB := Lib.hid (And.intro hq (And.intro hrg hrg2)); have HG3 := Lib.hid hg3
  clear hrow hR hq hrg hrg2 hg3 HNR
  go_wp2_with fail
  refine (NewMap_c w3).mono ?_
  rintro e w4 ⟨qm, bm, rfl, hmap, hqm, hbm, hg4⟩
  have HMAP := Lib.hid hmap; have HMB := Lib.hid (And.intro hqm hbm); have HG4 := Lib.hid hg4
  clear hmap hqm hbm hg4
  go_wp2_with fail
  have hb4 := heap_alloc_new w4 (.cells #[.slice p4 S.length c4] 25)
  have hga := World.grownBy_alloc w4 (.cells #[.slice p4 S.length c4] 25) none
  have hsz : (w4.alloc (.cells #[.slice p4 S.length c4] 25)).heap.size = w4.heap.size + 1 := by simp
  have HB4 := Lib.hid hb4; have HGB := Lib.hid hga; have HSZ := Lib.hid hsz
  have HM4 := Lib.hid (HMAP.out.kept hga)
  clear hb4 hga hsz
  generalize w4.alloc (.cells #[.slice p4 S.length c4] 25) = W4 at *
  have HT : Hid (w0.heap.size ≤ w1.heap.size ∧ w1.heap.size ≤ w2.heap.size ∧ w2.heap.size ≤ w3.heap.size ∧ w3.heap.size ≤ w4.heap.size ∧ w4.heap.size < W4.heap.size) := Lib.hid ⟨HG1.out.size, HG2.out.size, HG3.out.size, HG4.out.size, by rw [HSZ.out]; omega⟩
  have HL3 : Hid (LAt W4 p3 l) := Lib.hid ((((HI3.out.kept HG2.out).kept HG3.out).kept HG4.out).kept HGB.out)
  have HL3B : Hid (l ≠ [] → ∀ a, p3 = some a → a.block < w1.heap.size) := Lib.hid (fun h0 a ha => by
    obtain ⟨g, off, e, hl, -⟩ := HI3.out.resolve_left h0
    rw [e] at ha; injection ha with ha; subst ha; exact hl)
  go_loopw [34] (fun i wr => ∃ k : Nat, k ≤ n3 ∧ i = .int .i64 k ∧ Hid (MapAt wr qm bm k (keyL l k)) ∧ Hid (W4.grownBy wr (some bm))) (fun i _ => n3 - (intOf i).toNat)
  case atStart => exact ⟨0, Nat.zero_le _, rfl, HM4, Lib.hid (gb_refl _ _)⟩
  case round =>
    clear HM4
    obtain ⟨k, hk, rfl, HM4, HF⟩ := hrel
    by_cases hlt : k < n3
    · have d1 : decide ((k : Int) < (n3 : Int)) = true := decide_eq_true (by omega)
      have d1' : decide (k < n3) = true := decide_eq_true hlt
      have hne : l ≠ [] := fun e => by have := HN.out; rw [e] at this; simp at this; omega
      have hla := lat_keptS (X := fun i => i = bm) HL3.out (Fr2.of HF.out (fun i e => by injection e with e; exact e.symm)) (fun h0 a ha e => by
        have := HL3B.out h0 a ha; have := HT.out; have := HMB.out.2; omega)
      obtain ⟨g3, o3, rfl, -, hc3⟩ := hla.resolve_left hne
      have x0 := hc3 k (by have := HN.out; omega)
      have hput := MPut_c (k : Int) (l.getD k 0) (by omega) (wf_small k (by omega)) HM4.out
      rw [keyL_put] at hput
      have HPUT := Lib.hid hput
      generalize l.getD k 0 = y at *
      clear hne hla hc3 hput
      go_wp2_with fail
      refine HPUT.out.mono ?_
      rintro e w5 ⟨rfl, hm5, hg5⟩
      have HM5 := Lib.hid hm5; have HF5 := Lib.hid (gb_trans HF.out hg5)
      clear hm5 hg5 HPUT x0
      go_wp2_with fail
      go_roundw
      case rel => exact ⟨k + 1, by omega, by go_num, HM5, HF5⟩
      case measure => (simp [intOf] <;> omega)
    · obtain rfl : k = n3 := by omega
      have d1 : decide ((k : Int) < (k : Int)) = false := decide_eq_false (by omega)
      obtain ⟨T1, hT1⟩ : ∃ T, w1.heap.size = T := ⟨_, rfl⟩
      obtain ⟨T2, hT2⟩ : ∃ T, wr.heap.size = T := ⟨_, rfl⟩
      obtain ⟨b4, hb4⟩ : ∃ b, w4.heap.size = b := ⟨_, rfl⟩
      rw [hb4] at HB4 ⊢
      obtain ⟨nm, hnm⟩ : ∃ x, k = x := ⟨_, rfl⟩
      have HKB : Hid (KeptB wr l p0 w0.heap.size T1 T2 S p4 c4 b4 q rg R first pr f qm bm nm) := Lib.hid (by
        have hT := HT.out
        have hfr : Fr2 (fun i => i = bm) W4 wr := Fr2.of HF.out (fun i e => by injection e with e; exact e.symm)
        have hws := HF.out.size
        have hbl := HMAP.out.own.lt
        have hql := (Array.getElem?_eq_some_iff.1 HROW.out.box).1
        have hqml := (Array.getElem?_eq_some_iff.1 HMAP.out.box).1
        have hmb := HMB.out
        have hrb := HRB.out
        have hsb : S ≠ [] → ∀ a, p4 = some a → w1.heap.size ≤ a.block ∧ a.block < w2.heap.size := fun h0 a ha => by
          obtain ⟨g, off, e, hl, -⟩ := HSA.out.resolve_left h0
          obtain ⟨a', e', hb'⟩ := HSF.out p4 S.length c4 rfl (List.length_pos_iff.2 h0)
          rw [e'] at ha; injection ha with ha; subst ha
          rw [e] at e'; injection e' with e'; subst e'
          exact ⟨hb', hl⟩
        refine ⟨?_, HA0B.out, ?_, ?_, ?_, ?_, ?_, ?_, ?_, ?_⟩
        · exact lat_keptS ((((HA0.out.kept HG1.out).kept HG2.out).kept HG3.out |>.kept HG4.out).kept HGB.out) hfr (fun h0 a ha e => by have := HA0B.out h0 a ha; omega)
        · exact lat_keptS (((HSA.out.kept HG3.out).kept HG4.out).kept HGB.out) hfr (fun h0 a ha e => by have := hsb h0 a ha; omega)
        · exact fun h0 a ha => by have := hsb h0 a ha; omega
        · exact fr_keep hfr HB4.out (by omega)
        · omega
        · exact row_keptS ((HROW.out.kept HG4.out).kept HGB.out) hfr (by omega) (by omega)
        · omega
        · rw [HN.out, ← hnm]; exact HM4.out
        · omega)
      have HW3b : Hid (WrI wr w0.heap.size T1 (.slice p3 k c3) k) := Lib.hid (by
        obtain ⟨px, cx, ex, hx⟩ := ((((HW3.out.kept HG2.out).kept HG3.out).kept HG4.out).kept HGB.out)
        rw [hT1] at hx
        have hT := HT.out
        have hmb := HMB.out
        refine ⟨px, cx, ex, hx.imp id fun ⟨g, a, b, d, cur, TT, hh, r⟩ => ⟨g, a, b, d, cur, TT, ?_, r⟩⟩
        exact fr_keep (X := fun i => i = bm) (Fr2.of HF.out (fun i e => by injection e with e; exact e.symm)) hh (by omega))
      have HGW : Hid (w0.grownBy wr none) := Lib.hid (Fr2.after (S := fun i => i = bm) (gb_trans HG1.out (gb_trans HG2.out (gb_trans HG3.out (gb_trans HG4.out HGB.out)))) (Fr2.of HF.out (fun i e => by injection e with e; exact e.symm)) (fun i e => by have := HT.out; have := HMB.out; omega))
      have HTT : Hid (w0.heap.size ≤ T1 ∧ T1 ≤ T2) := Lib.hid (by have := HT.out; have := HF.out.size; omega)
      have HSU := Lib.hid HSET.out
      have HT2 : Hid (T2 ≤ wr.heap.size) := Lib.hid (by omega)
      clear HM4 HF HL3 HL3B HT HB4 HGB HSZ HMAP HMB HROW HRB HSA HSF HI3 HO3 HW3 HG1 HG2 HG3 HG4 HA0 HA0B HA hT1 hT2 hnm hb4 HSET
      go_wp2_with fail
      go_loopw [46] (fun i wr2 => ∃ j : Nat, j ≤ k ∧ i = .int .i64 j ∧ Hid (WrI wr2 w0.heap.size T1 (.slice p3 k c3) k) ∧ Hid (KeptB wr2 l p0 w0.heap.size T1 T2 S p4 c4 b4 q rg R first pr f qm bm nm) ∧ Hid (w0.grownBy wr2 none) ∧ Hid (T2 ≤ wr2.heap.size)) (fun i _ => k - (intOf i).toNat)
      case atStart => exact ⟨0, Nat.zero_le _, rfl, HW3b, HKB, HGW, HT2⟩
      case round =>
        clear HW3b HKB HGW HT2
        obtain ⟨j, hj, rfl, HW3b, HKB, HGW, HT2⟩ := hrel
        by_cases hlt2 : j < k
        · have d2 : decide ((j : Int) < (k : Int)) = true := decide_eq_true (by omega)
          have d2' : decide (j < k) = true := decide_eq_true hlt2
          obtain ⟨px, cx, ex, hx⟩ := HW3b.out
          obtain ⟨g, hpg, hgB, hgU, hrow⟩ := hx.resolve_left (by omega)
          injection ex with e1 e2 e3
          subst e3; rw [hpg] at e1; subst e1
          obtain ⟨⟨x, x0⟩, f0⟩ := hrow.cell hlt2
          have HX : Hid (∀ y : Int, WrI (wr.setCell ⟨g, j, none⟩ (.int .i64 y)) w0.heap.size T1 (.slice (some ⟨g, 0, none⟩) k c3) k ∧ KeptB (wr.setCell ⟨g, j, none⟩ (.int .i64 y)) l p0 w0.heap.size T1 T2 S p4 c4 b4 q rg R first pr f qm bm nm ∧ w0.grownBy (wr.setCell ⟨g, j, none⟩ (.int .i64 y)) none ∧ T2 ≤ (wr.setCell ⟨g, j, none⟩ (.int .i64 y)).heap.size) := Lib.hid (fun y => by
            refine ⟨HW3b.out.set g j y, HKB.out.kept (X := fun i => i = g) (fr2_set (X := fun i => i = g) (Fr2.refl _ _) rfl _) (fun i e => by omega), below_gb ((gb_below HGW.out).setCell hgB _), ?_⟩
            have := HT2.out
            simpa [World.setCell] using this)
          clear hx hrow HW3b HKB HGW HT2 hpg e2
          go_wp2_with fail
          go_roundw
          case rel => exact ⟨j + 1, by omega, by go_num, Lib.hid (HX.out _).1, Lib.hid (HX.out _).2.1, Lib.hid (HX.out _).2.2.1, Lib.hid (HX.out _).2.2.2⟩
          case measure => (simp [intOf] <;> omega)
        · obtain rfl : j = k := by omega
          have d2 : decide ((j : Int) < (j : Int)) = false := decide_eq_false (by omega)
          clear HW3b
          have x0 := cell1 HKB.out.box
          have hit := ItemsO_c p4 c4 S wr (by have := HSL.out; omega) HKB.out.set
          obtain ⟨ns, hns⟩ : ∃ ns, S.length = ns := ⟨_, rfl⟩
          have HNS := Lib.hid hns
          unfold OwnPost at hit
          rw [hns] at hit x0
          have HIT := Lib.hid hit
          clear hit hns
          go_wp2_with fail
          refine HIT.out.mono ?_
          rintro e w6 ⟨p6, c6, rfl, ho6, hg6⟩
          have HG6 := Lib.hid (gb_trans HGW.out hg6); have HK6 := Lib.hid (HKB.out.kept (X := fun _ => False) (Fr2.of hg6 (fun i e => by cases e)) (fun i e => e.elim))
          have HV1 : Hid (WrI w6 T2 w6.heap.size (.slice p6 ns c6) ns) := Lib.hid (by
            have h := (WrI.own ho6).down HT2.out
            rw [HNS.out] at h; exact h)
          have hal := AllO_c HK6.out.row
          rw [HN.out] at hal
          have HAL := Lib.hid hal
          have HT6 : Hid (T2 ≤ w6.heap.size) := Lib.hid (Nat.le_trans HT2.out hg6.size)
          clear ho6 hg6 HIT hal x0 HKB HGW HT2
          go_wp2_with fail
          refine HAL.out.mono ?_
          rintro e w7 ⟨rfl, ⟨f7, hb7, -⟩, hg7⟩
          have HG7 := Lib.hid (gb_trans HG6.out hg7); have HK7 := Lib.hid (HK6.out.kept (X := fun _ => False) (Fr2.of hg7 (fun i e => by cases e)) (fun i e => e.elim))
          have HV1b := Lib.hid ((HV1.out.kept hg7).up hg7.size)
          have HV2 := Lib.hid ((WrI.blk hb7).down HT6.out)
          have HT7 : Hid (T2 ≤ w7.heap.size) := Lib.hid (Nat.le_trans HT6.out hg7.size)
          have HKY := Lib.hid (MKeys_c (by rw [keyL_len]; have := HN.out; omega) HK7.out.map)
          clear hb7 hg7 HAL HV1 HG6 HK6
          generalize w6.heap.size = b7 at *
          go_wp2_with fail
          refine HKY.out.mono ?_
          rintro e w8 ⟨p8, n8, c8, rfl, hn8, ho8, hg8⟩
          have e8 : j = n8 := by rw [hn8, keyL_len, HN.out]
          subst e8
          have HG8 := Lib.hid (gb_trans HG7.out hg8); have HK8 := Lib.hid (HK7.out.kept (X := fun _ => False) (Fr2.of hg8 (fun i e => by cases e)) (fun i e => e.elim))
          have HV1c := Lib.hid ((HV1b.out.kept hg8).up hg8.size)
          have HV2c := Lib.hid ((HV2.out.kept hg8).up hg8.size)
          have HV3 : Hid (WrI w8 T2 w8.heap.size (.slice p8 j c8) j) := Lib.hid (by
            have h := (WrI.own ho8).down HT7.out
            rw [List.length_map, keyL_len, HN.out] at h; exact h)
          have HT8 : Hid (T2 ≤ w8.heap.size) := Lib.hid (Nat.le_trans HT7.out hg8.size)
          clear hn8 ho8 hg8 HKY HV1b HV2 HG7 HK7
          go_wp2_with fail
          obtain ⟨bs, hbs⟩ : ∃ b, w8.heap.size = b := ⟨_, rfl⟩
          obtain ⟨Good, hGood⟩ : ∃ G : World → Prop, (fun W => (WrI W T2 bs (.slice p6 ns c6) ns ∧ WrI W T2 bs (.slice (some ⟨b7, 0, none⟩) j j) j ∧ WrI W T2 bs (.slice p8 j c8) j ∧ W.heap[bs]? = some (.cells #[.slice p6 ns c6, .slice (some ⟨b7, 0, none⟩) j j, .slice p8 j c8] 22 (0, 0)) ∧ KeptB W l p0 w0.heap.size T1 T2 S p4 c4 b4 q rg R first pr f qm bm nm ∧ w0.grownBy W none)) = G := ⟨_, rfl⟩
          have HGD : Hid (∀ W, Good W = (WrI W T2 bs (.slice p6 ns c6) ns ∧ WrI W T2 bs (.slice (some ⟨b7, 0, none⟩) j j) j ∧ WrI W T2 bs (.slice p8 j c8) j ∧ W.heap[bs]? = some (.cells #[.slice p6 ns c6, .slice (some ⟨b7, 0, none⟩) j j, .slice p8 j c8] 22 (0, 0)) ∧ KeptB W l p0 w0.heap.size T1 T2 S p4 c4 b4 q rg R first pr f qm bm nm ∧ w0.grownBy W none)) := Lib.hid (fun W => by rw [← hGood])
          have HG9 : Hid (Good (w8.alloc (.cells #[.slice p6 ns c6, .slice (some ⟨b7, 0, none⟩) j j, .slice p8 j c8] 22))) := Lib.hid (by
            have hga := World.grownBy_alloc w8 (.cells #[.slice p6 ns c6, .slice (some ⟨b7, 0, none⟩) j j, .slice p8 j c8] 22) none
            rw [HGD.out, ← hbs]
            exact ⟨HV1c.out.kept hga, HV2c.out.kept hga, HV3.out.kept hga, heap_alloc_new w8 _, HK8.out.kept (X := fun _ => False) (Fr2.of hga (fun i e => by cases e)) (fun i e => e.elim), gb_trans HG8.out hga⟩)
          have HGS : Hid (∀ W g x y, Good W → T2 ≤ g → g < bs → Good (W.setCell ⟨g, x, none⟩ (.int .i64 y))) := Lib.hid (fun W g x y h hg1 hg2 => by
            rw [HGD.out] at h ⊢
            obtain ⟨a1, a2, a3, a4, a5, a6⟩ := h
            refine ⟨a1.set g x y, a2.set g x y, a3.set g x y, ?_, a5.kept (X := fun i => i = g) (fr2_set (X := fun i => i = g) (Fr2.refl _ _) rfl _) (fun i e => by have := HTT.out; omega), ?_⟩
            · rw [Below.heap_setCell _ _ _ _ (by simp; omega)]; exact a4
            · exact below_gb ((gb_below a6).setCell (by have := HTT.out; show _ ≤ g; omega) _))
          have HGG : Hid (∀ W W', Good W → W.grownBy W' none → Good W') := Lib.hid (fun W W' h hg => by
            rw [HGD.out] at h ⊢
            obtain ⟨a1, a2, a3, a4, a5, a6⟩ := h
            exact ⟨a1.kept hg, a2.kept hg, a3.kept hg, bx hg a4, a5.kept (X := fun _ => False) (Fr2.of hg (fun i e => by cases e)) (fun i e => e.elim), gb_trans a6 hg⟩)
          generalize w8.alloc (.cells #[.slice p6 ns c6, .slice (some ⟨b7, 0, none⟩) j j, .slice p8 j c8] 22) = W9 at *
          rw [hbs]
          clear hbs hGood HV1c HV2c HV3 HG8 HK8
          go_loopw [66] (fun i wr2 => ∃ x : Nat, x ≤ 3 ∧ i = .int .i64 x ∧ Hid (Good wr2)) (fun i _ => 3 - (intOf i).toNat)
          case atStart => exact ⟨0, Nat.zero_le _, rfl, HG9⟩
          case round =>
            clear HG9
            obtain ⟨x, hx3, rfl, HGO⟩ := hrel
            by_cases hlt3 : x < 3
            · have d3 : decide ((x : Int) < 3) = true := decide_eq_true (by omega)
              have d3' : decide (x < 3) = true := decide_eq_true hlt3
              obtain ⟨v, n', hv, hw, hn'⟩ : ∃ v n', wr.cell? ⟨bs, x, none⟩ = some v ∧ WrI wr T2 bs v n' ∧ n' ≤ 40 := by
                have hG := HGO.out
                rw [HGD.out] at hG
                obtain ⟨a1, a2, a3, a4, -, -⟩ := hG
                rcases (show x = 0 ∨ x = 1 ∨ x = 2 by omega) with rfl | rfl | rfl
                · exact ⟨_, _, by rw [cell_of_row _ bs _ _ _ (0, 0) a4]; rfl, a1, by have := HSL.out; have := HNS.out; omega⟩
                · exact ⟨_, _, by rw [cell_of_row _ bs _ _ _ (0, 0) a4]; rfl, a2, hl⟩
                · exact ⟨_, _, by rw [cell_of_row _ bs _ _ _ (0, 0) a4]; rfl, a3, hl⟩
              have HWI := Lib.hid hw
              obtain ⟨p', c', rfl, -⟩ := hw
              go_wp2_with fail
              clear hv
              go_loopw [72] (fun i wr3 => ∃ y : Nat, y ≤ n' ∧ i = .int .i64 y ∧ Hid (Good wr3) ∧ Hid (WrI wr3 T2 bs (.slice p' n' c') n')) (fun i _ => n' - (intOf i).toNat)
              case atStart => exact ⟨0, Nat.zero_le _, rfl, HGO, HWI⟩
              case round =>
                clear HGO HWI
                obtain ⟨y, hy, rfl, HGO, HWI⟩ := hrel
                by_cases hlt4 : y < n'
                · have d4 : decide ((y : Int) < (n' : Int)) = true := decide_eq_true (by omega)
                  have d4' : decide (y < n') = true := decide_eq_true hlt4
                  obtain ⟨px, cx, ex, hx⟩ := HWI.out
                  obtain ⟨g, hpg, hgB, hgU, hrow⟩ := hx.resolve_left (by omega)
                  injection ex with e1 e2 e3
                  subst e3; rw [hpg] at e1; subst e1
                  obtain ⟨⟨z, x0⟩, f0⟩ := hrow.cell hlt4
                  have HX : Hid (∀ u : Int, Good (wr.setCell ⟨g, y, none⟩ (.int .i64 u)) ∧ WrI (wr.setCell ⟨g, y, none⟩ (.int .i64 u)) T2 bs (.slice (some ⟨g, 0, none⟩) n' c') n') := Lib.hid (fun u =>
                    ⟨HGS.out _ _ _ _ HGO.out hgB hgU, HWI.out.set g y u⟩)
                  clear hx hrow HGO HWI hpg e2
                  go_wp2_with fail
                  go_roundw
                  case rel => exact ⟨y + 1, by omega, by go_num, Lib.hid (HX.out _).1, Lib.hid (HX.out _).2⟩
                  case measure => (simp [intOf] <;> omega)
                · obtain rfl : y = n' := by omega
                  have d4 : decide ((y : Int) < (y : Int)) = false := decide_eq_false (by omega)
                  clear HWI
                  go_wp2_with fail
                  go_roundw
                  case rel => exact ⟨x + 1, by omega, by go_num, HGO⟩
                  case measure => (simp [intOf] <;> omega)
            · obtain rfl : x = 3 := by omega
              have hK := HGO.out
              rw [HGD.out] at hK
              have hpr := MPairs_c (by rw [keyL_len]; have := HN.out; omega) hK.2.2.2.2.1.map
              unfold MPairsPost at hpr
              rw [keyL_len, HN.out] at hpr
              have HPR := Lib.hid hpr
              clear hK hpr
              go_wp2_with fail
              refine HPR.out.mono ?_
              rintro e w10 ⟨p10, c10, rfl, ho10, hg10⟩
              have HPA : Hid (PAt w10 p10 (keyL l j)) := Lib.hid (by
                exact (pat_row (l := keyL l j) (by rw [keyL_len]; exact ho10)).2.1)
              have HGO2 := Lib.hid (HGG.out _ _ HGO.out hg10)
              clear ho10 hg10 HPR HGO
              go_wp2_with fail
              go_loopw [88] (fun i wr2 => ∃ y : Nat, y ≤ j ∧ i = .int .i64 y ∧ Hid (Good wr2) ∧ Hid (w10.grownBy wr2 none)) (fun i _ => j - (intOf i).toNat)
              case atStart => exact ⟨0, Nat.zero_le _, rfl, HGO2, gb_refl _ _⟩
              case round =>
                clear HGO2
                obtain ⟨y, hy, rfl, HGO2, HF⟩ := hrel
                by_cases hlt4 : y < j
                · have d4 : decide ((y : Int) < (j : Int)) = true := decide_eq_true (by omega)
                  have d4' : decide (y < j) = true := decide_eq_true hlt4
                  obtain ⟨g, off, rfl, hgl, hc⟩ := (HPA.out.kept HF.out).resolve_left (fun h => by have := congrArg List.length h; rw [keyL_len] at this; simp at this; omega)
                  obtain ⟨x0, x1⟩ := hc y (by rw [keyL_len]; exact hlt4)
                  generalize ((keyL l j).getD y (0, 0)).1 = k0 at *
                  generalize ((keyL l j).getD y (0, 0)).2 = k1 at *
                  have hga := World.grownBy_alloc wr (.cells #[.int .i64 k0, .int .i64 k1] 60) none
                  have HG11 := Lib.hid (HGG.out _ _ HGO2.out (below_gb (gb_new (gb_below hga) (Nat.le_refl _) (gb_set (gb_refl (wr.alloc (.cells #[.int .i64 k0, .int .i64 k1] 60)) (some wr.heap.size)) (j := 1) (.int .i64 0)))))
                  have HF11 : Hid (w10.grownBy ((wr.alloc (.cells #[.int .i64 k0, .int .i64 k1] 60)).setCell ⟨wr.heap.size, 1, none⟩ (.int .i64 0)) none) := Lib.hid (gb_trans HF.out (below_gb (gb_new (gb_below hga) (Nat.le_refl _) (gb_set (gb_refl _ _) _))))
                  have HG12 := Lib.hid (HGG.out _ _ HGO2.out (World.grownBy_alloc wr (.cells #[.int .i64 k0, .int .i64 0] 60) none))
                  have HF12 := Lib.hid (gb_trans HF.out (World.grownBy_alloc wr (.cells #[.int .i64 k0, .int .i64 0] 60) none))
                  clear hc hga HGO2 HF
                  go_wp2_with fail
                  go_roundw
                  case rel => first | exact ⟨y + 1, by omega, by go_num, HG12, HF12⟩ | exact ⟨y + 1, by omega, by go_num, HG11, HF11⟩
                  case measure => (simp [intOf] <;> omega)
                · obtain rfl : y = j := by omega
                  have d4 : decide ((y : Int) < (y : Int)) = false := decide_eq_false (by omega)
                  have hK := HGO2.out
                  rw [HGD.out] at hK
                  have HK := Lib.hid hK.2.2.2.2.1
                  have x0 := cell1 HK.out.box
                  have hit := ItemsO_c p4 c4 S wr (by have := HSL.out; omega) HK.out.set
                  unfold OwnPost at hit
                  rw [HNS.out] at hit x0
                  have HIT := Lib.hid hit
                  clear hK hit HPA HF
                  go_wp2_with fail
                  refine HIT.out.mono ?_
                  rintro e w11 ⟨p11, c11, rfl, ho11, hg11⟩
                  have HGO3 := Lib.hid (HGG.out _ _ HGO2.out hg11)
                  have HK11 := Lib.hid (HK.out.kept (X := fun _ => False) (Fr2.of hg11 (fun i e => by cases e)) (fun i e => e.elim))
                  have HL11 : Hid (LAt w11 p11 S) := Lib.hid ((lat_row (zs := S) (n := ns) (by exact ho11)).2)
                  have hrof := ROf_c p0 c0 l w11 (by have := HN.out; omega) HK11.out.inp
                  rw [HN.out] at hrof
                  have HROF := Lib.hid hrof
                  clear ho11 hg11 HIT hrof x0 HK HGO2
                  go_wp2_with fail
                  refine HROF.out.mono ?_
                  rintro e w12 ⟨S', p12, n12, c12, rfl, ⟨hset', -⟩, ⟨pz, cz, he, -, -, hl12⟩, hg12⟩
                  injection he with e1 e2 e3
                  subst e1; subst e2; subst e3
                  obtain rfl : S' = S := asc_ext hset'.1 HSU.out.1 (fun x => by rw [hset'.2 x, HSU.out.2 x])
                  have hsame := RSame_c p11 p12 c11 c12 S' S' w12 (by have := HSL.out; omega) (HL11.out.kept hg12) hl12
                  rw [HNS.out, decide_eq_true rfl] at hsame
                  rw [HNS.out]
                  have HSAME := Lib.hid hsame
                  have HGO4 := Lib.hid (HGG.out _ _ HGO3.out hg12)
                  have HK12 := Lib.hid (HK11.out.kept (X := fun _ => False) (Fr2.of hg12 (fun i e => by cases e)) (fun i e => e.elim))
                  clear hset' hl12 hg12 hsame HROF HGO3 HK11
                  go_wp2_with fail
                  refine HSAME.out.mono ?_
                  rintro e w13 ⟨rfl, hg13⟩
                  have HGO5 := Lib.hid (HGG.out _ _ HGO4.out hg13)
                  have HK13 := Lib.hid (HK12.out.kept (X := fun _ => False) (Fr2.of hg13 (fun i e => by cases e)) (fun i e => e.elim))
                  have hal := AllO_c HK13.out.row
                  rw [HN.out] at hal
                  have HAL := Lib.hid hal
                  clear hg13 hal HSAME HGO4 HK12
                  go_wp2_with fail
                  refine HAL.out.mono ?_
                  rintro e w14 ⟨rfl, ⟨f14, hb14, hv14⟩, hg14⟩
                  have HGO6 := Lib.hid (HGG.out _ _ HGO5.out hg14)
                  have HK14 := Lib.hid (HK13.out.kept (X := fun _ => False) (Fr2.of hg14 (fun i e => by cases e)) (fun i e => e.elim))
                  have hl14 : LAt w14 (some ⟨w13.heap.size, 0, none⟩) l := .inr ⟨_, 0, rfl, hb14.lt, fun i hi => by
                    rw [Nat.zero_add, hb14.cell (by have := HN.out; omega), hv14 i (by have := HN.out; omega)]⟩
                  have hsame := RSame_c (some ⟨w13.heap.size, 0, none⟩) p0 y c0 l l w14 (by have := HN.out; omega) hl14 HK14.out.inp
                  rw [HN.out, decide_eq_true rfl] at hsame
                  have HSAME := Lib.hid hsame
                  clear hb14 hv14 hg14 hl14 hsame HAL HGO5 HK13
                  go_wp2_with fail
                  refine HSAME.out.mono ?_
                  rintro e w15 ⟨rfl, hg15⟩
                  have HGO7 := Lib.hid (HGG.out _ _ HGO6.out hg15)
                  have HK15 := Lib.hid (HK14.out.kept (X := fun _ => False) (Fr2.of hg15 (fun i e => by cases e)) (fun i e => e.elim))
                  have hml := MLen_c HK15.out.map
                  rw [keyL_len, HN.out] at hml
                  have HML := Lib.hid hml
                  clear hg15 hml HSAME HGO6 HK14
                  go_wp2_with fail
                  refine HML.out.mono ?_
                  rintro e w16 ⟨rfl, rfl⟩
                  clear HML HK15
                  go_wp2_with fail
                  go_loopw [116] (fun i wr3 => ∃ z : Nat, z ≤ y ∧ i = .int .i64 z ∧ Hid (Good wr3)) (fun i _ => y - (intOf i).toNat)
                  case atStart => exact ⟨0, Nat.zero_le _, rfl, HGO7⟩
                  case round =>
                    clear HGO7
                    obtain ⟨z, hz, rfl, HGO7⟩ := hrel
                    have hK := HGO7.out
                    rw [HGD.out] at hK
                    by_cases hlt5 : z < y
                    · have d5 : decide ((z : Int) < (y : Int)) = true := decide_eq_true (by omega)
                      have d5' : decide (z < y) = true := decide_eq_true hlt5
                      obtain ⟨g, off, rfl, hgl, hc⟩ := hK.2.2.2.2.1.inp.resolve_left (fun h => by have := HN.out; rw [h] at this; simp at this; omega)
                      have x0 := hc z (by have := HN.out; omega)
                      have hget := MGet_c (z : Int) (wf_small z (by omega)) hK.2.2.2.2.1.map
                      unfold MGetPost at hget
                      obtain ⟨k1, k2⟩ := keyL_get l (k := l.length) (i := z) (by have := HN.out; omega)
                      rw [k1, k2] at hget
                      have HGET := Lib.hid hget
                      generalize l.getD z 0 = u at *
                      clear hK hc hget k1 k2
                      go_wp2_with fail
                      refine HGET.out.mono ?_
                      rintro e w17 ⟨rfl, hg17⟩
                      have HGO8 := Lib.hid (HGG.out _ _ HGO7.out hg17)
                      clear hg17 HGET HGO7
                      go_wp2_with fail
                      go_roundw
                      case rel => exact ⟨z + 1, by omega, by go_num, HGO8⟩
                      case measure => (simp [intOf] <;> omega)
                    · obtain rfl : z = y := by omega
                      have d5 : decide ((z : Int) < (z : Int)) = false := decide_eq_false (by omega)
                      have HGF := Lib.hid hK.2.2.2.2.2
                      clear hK
                      go_wp2_with fail
                      go_ret
                      exact ⟨rfl, gb_trans HG0.out HGF.out⟩

set_option maxRecDepth 100000 in
set_option maxHeartbeats 2000000 in
theorem own_c (p0 : Option Addr) (c0 : Nat) (l : List Int) (w : World) (hl : l.length < 9223372036854775808) (h : LAt w p0 l) :
    Calls Try.prog 8 #[.slice p0 l.length c0] w (ValPost (.bool true) w) := by
  by_cases hb : 40 < l.length
  · generalize l.length = n at *
    have d1 : decide ((40 : Int) < (n : Int)) = true := decide_eq_true (by omega)
    have d1' : decide (40 < n) = true := decide_eq_true hb
    clear h
    go_enter Try.func8, Try.ntmps8
    go_wp2_with fail
    refine (anchor_c _).mono ?_
    rintro e w0 ⟨rfl, hg0⟩
    have HG0 := Lib.hid hg0
    clear hg0
    go_wp2_with fail
    go_ret
    exact ⟨rfl, HG0.out⟩
  · exact own_yes p0 c0 l w (by omega) h
end Go.Proofs.Ytljpgmhgnfnbkaa
