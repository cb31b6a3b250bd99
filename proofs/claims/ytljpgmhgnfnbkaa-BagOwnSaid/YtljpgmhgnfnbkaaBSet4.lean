/- merge, walked. -/
import Derived.Test.YtljpgmhgnfnbkaaBSet3
namespace Go.Proofs.Ytljpgmhgnfnbkaa
open Go.RowKit Go.Sort

theorem LAt.pre {w : World} {p : Option Addr} {zs : List Int} (h : LAt w p zs) (t : Nat) : LAt w p (zs.take t) := by
  rcases h with h | ⟨g, off, rfl, hl, hc⟩
  · subst h; exact .inl (by simp)
  · refine .inr ⟨g, off, rfl, hl, fun j hj => ?_⟩
    simp at hj
    rw [hc j (by omega)]
    simp [List.getD, List.getElem?_take, show j < t by omega]

theorem LAt.drop2 {w : World} {p : Option Addr} {zs : List Int} {t c : Nat} (h : LAt w p zs) (hc : zs.length ≤ c) : LAt w (if c = t then p else Option.map (fun x => x.add t) p) (zs.drop t) := by
  by_cases h0 : zs.drop t = []
  · exact .inl h0
  · have hlt : t < zs.length := by
      rcases Nat.lt_or_ge t zs.length with h | h
      · exact h
      · exact absurd (List.drop_eq_nil_of_le h) h0
    have hne : zs ≠ [] := fun e => by rw [e] at hlt; simp at hlt
    obtain ⟨g, off, rfl, hl, hcell⟩ := h.resolve_left hne
    rw [if_neg (by omega)]
    refine .inr ⟨g, off + t, by simp [Addr.add], hl, fun j hj => ?_⟩
    simp at hj
    rw [Nat.add_assoc, hcell (t + j) (by omega)]
    simp [List.getD]

theorem drop_blk {p : Option Addr} {zs : List Int} {t c B : Nat} (h : zs ≠ [] → ∀ x, p = some x → x.block < B) (h0 : zs.drop t ≠ []) {x : Addr} (hx : (if c = t then p else Option.map (fun x => x.add t) p) = some x) : x.block < B := by
  have hne : zs ≠ [] := fun e => h0 (by rw [e]; simp)
  by_cases e : c = t
  · rw [if_pos e] at hx; exact h hne x hx
  · rw [if_neg e] at hx
    cases p with
    | none => cases hx
    | some a =>
      simp at hx; subst hx
      have e2 : (a.add t).block = a.block := by unfold Addr.add; split <;> rfl
      rw [e2]; exact h hne a rfl

theorem makeI0_run (n : Nat) (C : Int) (hC : C = (n : Int)) (hn : n ≤ 10000000) (w : World) : (Instr.makeSlice 22 (.int .i64 0) (.int .i64 C)).run Try.prog w = .ok (.slice (some ⟨w.heap.size, 0, none⟩) 0 n) (w.alloc (.cells (madeCells #[.int .i64 0] n) 3)) := by
  obtain ⟨i0, hi, hi0, hi1, hi2⟩ := infoI_parts
  subst hC
  have h := run_makeSlice (P := Try.prog) (w := w) 22 3 i0 (.int .i64 0) Try.underlying22 hi hi0 .i64 .i64 0 (n : Int) (by omega) (by omega) (by rw [hi1]; simp; omega) (by rw [hi2]; omega) (by omega)
  have e : (Value.int .i64 0).cells = #[Value.int .i64 0] := rfl
  simpa [hi1, e] using h

def MRel (a b : List Int) (k : Nat) (av v : Value) (w wr : World) : Prop :=
  ∃ (O A : List Int) (pA : Option Addr) (cA : Nat), av = .slice pA A.length cA ∧ A.length ≤ cA ∧ cA ≤ maxLen ∧ LAt wr pA A ∧ (A ≠ [] → ∀ x, pA = some x → x.block < w.heap.size) ∧ OwnL wr w.heap.size v O ∧ Below w.heap.size w wr ∧ MergeI a b k O A

set_option maxRecDepth 100000 in
set_option maxHeartbeats 4000000 in
theorem merge_c (p1 p2 : Option Addr) (c1 c2 : Nat) (a b : List Int) (w : World) (hl : a.length ≤ 10000) (hl2 : b.length ≤ 10000) (ha : Asc a) (hb : Asc b) (hc1 : a.length ≤ c1) (hc1m : c1 ≤ maxLen) (h1 : LAt w p1 a) (h2 : LAt w p2 b) :
    Calls Try.prog 51 #[.slice p1 a.length c1, .slice p2 b.length c2] w (ListPost w (fun S => Asc S ∧ ∀ x, x ∈ S ↔ x ∈ a ∨ x ∈ b)) := by
  obtain ⟨n, hn⟩ : ∃ n, a.length = n := ⟨_, rfl⟩
  obtain ⟨m, hm⟩ : ∃ m, b.length = m := ⟨_, rfl⟩
  have HN := Lib.hid hn; have HM := Lib.hid hm; have HB := Lib.hid h2; have HBA := Lib.hid hb
  have hwr : IntKind.i64.wrap ((n : Int) + (m : Int)) = (n : Int) + (m : Int) := IntWalk.i64_in _ (by omega)
  have hmk := fun w => makeI0_run (n + m) ((n : Int) + (m : Int)) (by omega) (by omega) w
  have hst : MRel a b 0 (.slice p1 n c1) (.slice (some ⟨w.heap.size, 0, none⟩) 0 (n + m)) w (w.alloc (.cells (madeCells #[.int .i64 0] (n + m)) 3)) :=
    ⟨[], a, p1, c1, by rw [hn], hc1, hc1m, h1.kept (World.grownBy_alloc _ _ _), h1.blk, World.ownsRow_made w _ (n + m) (Nat.le_refl _) (by unfold maxLen; omega) (by simpa using size_madeCells #[Value.int .i64 0] (n + m)), Below.gb (World.grownBy_alloc _ _ _) (Nat.le_refl _), MergeI.start ha⟩
  have HST := Lib.hid hst
  rw [hn] at hl hc1 ⊢
  rw [hm] at hl2 ⊢
  clear hn hm h1 h2 ha hb hst
  go_enter Try.func51, Try.ntmps51
  go_wp2_with fail
  generalize w.alloc (.cells (madeCells #[.int .i64 0] (n + m)) 3) = W at *
  go_loopw [0, 5, 18] (fun av v i wr => ∃ k : Nat, k ≤ m ∧ i = .int .i64 k ∧ Hid (MRel a b k av v w wr)) (fun _ _ i _ => m - (intOf i).toNat)
  case atStart => exact ⟨0, by omega, rfl, HST⟩
  case round =>
    clear HST
    obtain ⟨k, hk, rfl, HR⟩ := hrel
    obtain ⟨O, A, pA, cA, rfl, hAc, hcm, hat, hblk, hown, hbel, hM⟩ := HR.out
    have HLO : Hid (O.length ≤ 100000 ∧ A.length ≤ 100000) := Lib.hid (by have := hM.len; have := HN.out; omega)
    by_cases hlt : k < m
    · have hne1 : b ≠ [] := fun e => by have := HM.out; rw [e] at this; simp at this; omega
      obtain ⟨g1, o1, rfl, hg1, hc1⟩ := HB.out.resolve_left hne1
      have hck := (hbel.cell (p := ⟨g1, o1 + k, none⟩) hg1).trans (hc1 k (by have := HM.out; omega))
      obtain ⟨x, hx⟩ : ∃ x, b.getD k 0 = x := ⟨_, rfl⟩
      rw [hx] at hck
      have HS := Lib.hid (hM.step HBA.out (by have := HM.out; omega) hx)
      have hasc : Asc A := (List.pairwise_append.1 hM.asc).2.1
      obtain ⟨es1, es2⟩ := asc_split hasc x
      have HC := Lib.hid (Search_c pA cA A x wr (by have := HLO.out; omega) hasc hat)
      have htl := List.countP_le_length (p := fun y => decide (y < x)) (l := A)
      have HAT := Lib.hid hat; have HBK := Lib.hid hblk; have HOW := Lib.hid hown; have HBE := Lib.hid hbel; have HE1 := Lib.hid es1; have HE2 := Lib.hid es2
      generalize A.countP (fun y => decide (y < x)) = t at *
      generalize hAl : A.length = q at *
      have HAL := Lib.hid hAl
      have htc : t ≤ cA := by omega
      obtain ⟨found, hf⟩ : ∃ f, decide (x ∈ A) = f := ⟨_, rfl⟩
      rw [hf] at HC
      have HF := Lib.hid hf
      clear hAl hat hblk hown hbel hM hc1 hne1 hx hasc es1 es2 HR hf
      unfold maxLen at hcm
      have HTK : Hid ((A.take t).length = t) := Lib.hid (by have := HAL.out; simp; omega)
      go_wp2_with (first
        | (go_at_call 50; refine HC.out.mono ?_; rintro e w2 ⟨rfl, hg⟩; have HG2 := Lib.hid hg; clear hg)
        | (at_builtin; go_loud (refine wpList_appL (t := 22) Try.underlying22 rfl _ _ rfl w.heap.size O (A.take t) pA cA u5 rfl (HOW.out.kept HG2.out) (LAt.kept (LAt.pre HAT.out t) HG2.out) t HTK.out rfl (by have := HLO.out; omega) (by have := HLO.out; have := HTK.out; omega) (Nat.le_trans HBE.out.size HG2.out.size) ?_)))
      intro p3 n3 c3 w3 hn3 hO3 hB3
      have HO3 := Lib.hid hO3
      have hB3' := hB3
      have HB3 := Lib.hid (Below.trans2 (Below.trans2 HBE.out (Below.gb HG2.out HBE.out.size)) hB3)
      have HN3 := Lib.hid hn3
      clear hO3 hB3 hn3 hck
      have hdl : (A.drop t).length = q - t := by have := HAL.out; simp; omega
      have HDL := Lib.hid hdl
      have HLA : Hid (∀ W, wr.grownBy w2 none → Below w.heap.size w2 W → LAt W (if cA = t then pA else Option.map (fun x => x.add t) pA) (A.drop t)) := Lib.hid (fun W h1 h2 => LAt.drop2 ((LAt.kept HAT.out h1).low h2 HBK.out) (by have := HAL.out; omega))
      have HLB : Hid (A.drop t ≠ [] → ∀ x, (if cA = t then pA else Option.map (fun x => x.add t) pA) = some x → x.block < w.heap.size) := Lib.hid (fun h0 y hy => drop_blk HBK.out h0 hy)
      have HB23 := Lib.hid hB3'
      clear hdl hB3'
      cases found with
      | true =>
        have HS2 : Hid (MergeI a b (k + 1) (O ++ A.take t) (A.drop t)) := Lib.hid (by have := HS.out; rwa [if_pos (of_decide_eq_true HF.out), ← HE1.out, ← HE2.out] at this)
        go_wp2_with fail
        go_roundw
        case rel => exact ⟨k + 1, by omega, by go_num, Lib.hid ⟨O ++ A.take t, A.drop t, _, cA - t, by rw [HDL.out], by have := HDL.out; omega, by unfold maxLen; omega, HLA.out _ HG2.out HB23.out, HLB.out, HO3.out, HB3.out, HS2.out⟩⟩
        case measure => simp [intOf]; omega
      | false =>
        have HS2 : Hid (MergeI a b (k + 1) (O ++ A.take t ++ [x]) (A.drop t)) := Lib.hid (by have := HS.out; rwa [if_neg (of_decide_eq_false HF.out), ← HE1.out, ← HE2.out] at this)
        have HLO3 : Hid ((O ++ A.take t).length ≤ 1000000) := Lib.hid (by have := HLO.out; have := HTK.out; simp; omega)
        have hOL : (O ++ A.take t).length = n3 := by rw [HN3.out]; simp
        have HOL := Lib.hid hOL
        clear hOL
        by_cases hct : cA = t
        · go_wp2_with (at_builtin; go_loud (refine wpList_appI (t := 22) Try.underlying22 rfl _ _ rfl w.heap.size (O ++ A.take t) x (.slice p3 n3 c3) rfl HO3.out _ rfl rfl HLO3.out HB3.out.size ?_))
          intro g4 cap4 w4 hO4 hB4
          have HO4 := Lib.hid hO4
          have HB4 := Lib.hid (Below.trans2 HB3.out hB4)
          have HB24 := Lib.hid (Below.trans2 HB23.out hB4)
          clear hO4 hB4
          go_wp2_with fail
          go_roundw
          case rel => exact ⟨k + 1, by omega, by go_num, Lib.hid ⟨O ++ A.take t ++ [x], A.drop t, _, _, by rw [HDL.out], by have := HDL.out; omega, by unfold maxLen; omega, by simpa [hct] using HLA.out _ HG2.out HB24.out, by simpa [hct] using HLB.out, by simpa using HO4.out, HB4.out, HS2.out⟩⟩
          case measure => simp [intOf]; omega
        · go_wp2_with (at_builtin; go_loud (refine wpList_appI (t := 22) Try.underlying22 rfl _ _ rfl w.heap.size (O ++ A.take t) x (.slice p3 n3 c3) rfl HO3.out _ rfl rfl HLO3.out HB3.out.size ?_))
          intro g4 cap4 w4 hO4 hB4
          have HO4 := Lib.hid hO4
          have HB4 := Lib.hid (Below.trans2 HB3.out hB4)
          have HB24 := Lib.hid (Below.trans2 HB23.out hB4)
          clear hO4 hB4
          go_wp2_with fail
          go_roundw
          case rel => exact ⟨k + 1, by omega, by go_num, Lib.hid ⟨O ++ A.take t ++ [x], A.drop t, _, _, by rw [HDL.out], by have := HDL.out; omega, by unfold maxLen; omega, by simpa [hct] using HLA.out _ HG2.out HB24.out, by simpa [hct] using HLB.out, by simpa using HO4.out, HB4.out, HS2.out⟩⟩
          case measure => simp [intOf]; omega
    · obtain rfl : k = m := by omega
      have hcA : ∀ y, y ∈ O ++ A ↔ y ∈ a ∨ y ∈ b := by have := hM.mem; rwa [List.take_of_length_le (by have := HM.out; omega)] at this
      have HME := Lib.hid hcA; have HASC := Lib.hid hM.asc
      have HAT := Lib.hid hat; have HOW := Lib.hid hown; have HBE := Lib.hid hbel
      generalize hAl : A.length = q at *
      have HAL := Lib.hid hAl
      clear hAl hat hblk hown hbel hM hcA HR
      go_wp2_with (at_builtin; go_loud (refine wpList_appL (t := 22) Try.underlying22 rfl _ _ rfl w.heap.size O A pA cA u5 rfl HOW.out HAT.out q HAL.out rfl (by have := HLO.out; omega) (by have := HLO.out; have := HAL.out; omega) HBE.out.size ?_))
      intro p3 n3 c3 w3 hn3 hO3 hB3
      have hn3' : n3 = (O ++ A).length := by rw [hn3]; simp
      have HFI := Lib.hid (isL_of_row (S := O ++ A) (hn3' ▸ hO3)).1
      have HB3 := Lib.hid (Below.trans2 HBE.out hB3)
      have HN3 := Lib.hid hn3'
      clear hn3 hO3 hB3 hn3'
      go_wp2_with fail
      go_ret
      exact ⟨O ++ A, _, _, _, rfl, ⟨HASC.out, HME.out⟩, HN3.out.symm ▸ HFI.out, below_gb HB3.out⟩
end Go.Proofs.Ytljpgmhgnfnbkaa
