/- The law's recursion on free names, walked. -/
import Derived.Sort.Walk0
import Derived.Deep.CutBlock
import Derived.Deep.DeepCutAuto
import Derived.Test.YtmlcpihedmmlfaaGreatDoorK24
import Derived.Test.YtmlcpihedmmlfaaGreatDoorK38
set_option linter.unusedVariables false
set_option linter.unusedSimpArgs false
namespace Go.Proofs.YtmlcpihedmmlfaaGreatDoor
open Go.RowKit

theorem cntK_get : ∀ {l : List Ex} {j : Nat} {k : Ex}, l[j]? = some k → cntE k ≤ cntK l := fun h => kid_size _ _ _ h
theorem letE_parts {op ps : Nat} {nm md nu : List UInt8} {ys : Bool} {ks : List Ex} (h : letE (.mk op nm md nu ys ks ps)) {j : Nat} {k : Ex} (hk : ks[j]? = some k) : letE k := letE_kid h hk
theorem frQ_parts {op ps : Nat} {nm md nu : List UInt8} {ys : Bool} {ks : List Ex} (h : frQ (.mk op nm md nu ys ks ps)) {j : Nat} {k : Ex} (hk : ks[j]? = some k) : frQ k := frQ_kid h (List.mem_of_getElem? hk)
/-- Rising names: an earlier one is less. -/
theorem asc_less {S : List (List UInt8)} (h : Bg.AscS S) {j : Nat} (hj : j + 1 < S.length) : S.getD j [] < S.getD (j + 1) [] := by
  have h1 := List.pairwise_iff_getElem.1 h j (j + 1) (by omega) hj (by omega)
  have e1 : S.getD j [] = S[j] := by simp [List.getD]; rw [List.getElem?_eq_getElem (by omega)]; rfl
  have e2 : S.getD (j + 1) [] = S[j + 1] := by simp [List.getD]; rw [List.getElem?_eq_getElem hj]; rfl
  rw [e1, e2]; exact h1
theorem bless (a b : ByteArray) : Op.bytesLess a.toList b.toList = decide (a.data.toList < b.data.toList) := by
  rw [bytesLess_eq, toList_data, toList_data]
theorem less_no {a b : List UInt8} (h : a < b) : Op.bytesLess (⟨b.toArray⟩ : ByteArray).toList (⟨a.toArray⟩ : ByteArray).toList = false ∧ ((⟨b.toArray⟩ : ByteArray).toList == (⟨a.toArray⟩ : ByteArray).toList) = false := by
  refine ⟨?_, ?_⟩
  · rw [bless]
    exact decide_eq_false (fun k => List.lt_irrefl _ (List.lt_trans h k))
  · rw [toList_data, toList_data]
    exact beq_eq_false_iff_ne.2 (fun e => by
      have e : b = a := e
      rw [e] at h; exact List.lt_irrefl _ h)
/-- A name that a kid has: it is one of the whole's. -/
def fndP (op : Nat) (nm : List UInt8) (ks : List Ex) (s : List UInt8) (k : Nat) : Prop := (op = 3 ∧ s = nm) ∨ ∃ i x, i < k ∧ ks[i]? = some x ∧ frE x s ∧ (op ≠ 22 ∨ i = 0 ∨ nm ≠ s)
theorem fndP_next {op : Nat} {nm : List UInt8} {ks : List Ex} {s : List UInt8} {k : Nat} {x : Ex} (h : ks[k]? = some x) : fndP op nm ks s (k + 1) ↔ fndP op nm ks s k ∨ (frE x s ∧ (op ≠ 22 ∨ k = 0 ∨ nm ≠ s)) := by
  unfold fndP
  constructor
  · rintro (h1 | ⟨i, y, h1, h2, h3⟩)
    · exact .inl (.inl h1)
    · rcases Nat.lt_or_ge i k with h4 | h4
      · exact .inl (.inr ⟨i, y, h4, h2, h3⟩)
      · obtain rfl : i = k := by omega
        rw [h] at h2; injection h2 with h2; subst h2
        exact .inr h3
  · rintro ((h1 | ⟨i, y, h1, h2, h3⟩) | h1)
    · exact .inl h1
    · exact .inr ⟨i, y, by omega, h2, h3⟩
    · exact .inr ⟨k, x, by omega, h, h1⟩
theorem fndP_all {op ps : Nat} {nm md nu : List UInt8} {ys : Bool} {ks : List Ex} {s : List UInt8} : fndP op nm ks s ks.length ↔ frE (.mk op nm md nu ys ks ps) s := by
  rw [frE_iff]
  unfold fndP
  constructor
  · rintro (h1 | ⟨i, y, h1, h2, h3⟩)
    · exact .inl h1
    · exact .inr ⟨i, y, h2, h3⟩
  · rintro (h1 | ⟨i, y, h2, h3⟩)
    · exact .inl h1
    · exact .inr ⟨i, y, (List.getElem?_eq_some_iff.1 h2).1, h2, h3⟩

/-- The cells of a kid. -/
theorem kid_cells {F : Nat → Prop} {w w' : World} {pk : Option Addr} {rows : List (List Value)} {ks : List Ex} (hg : GAt 8 w pk rows) (hls : LsE F w ks rows) {k : Nat} {x : Ex} (hk : ks[k]? = some x) (hgw : w.grownBy w' none) :
    ∃ (o9 p9 : Int) (a9 b9 : ByteArray) (s9 y9 : Bool) (z9 z9' : Option Addr) (n9 c9 n9' c9' : Nat) (g off : Nat), pk = some ⟨g, off, none⟩ ∧ g < w'.heap.size ∧ EAt F w' x [.int .i64 o9, .string a9, .string b9, .bool s9, .slice z9 n9 c9, .bool y9, .slice z9' n9' c9', .int .i64 p9] ∧
      w'.cell? ⟨g, off + k * 8, none⟩ = some (.int .i64 o9) ∧ w'.cell? ⟨g, off + k * 8 + 1, none⟩ = some (.string a9) ∧ w'.cell? ⟨g, off + k * 8 + 2, none⟩ = some (.string b9) ∧ w'.cell? ⟨g, off + k * 8 + 3, none⟩ = some (.bool s9) ∧ w'.cell? ⟨g, off + k * 8 + 4, none⟩ = some (.slice z9 n9 c9) ∧ w'.cell? ⟨g, off + k * 8 + 5, none⟩ = some (.bool y9) ∧ w'.cell? ⟨g, off + k * 8 + 6, none⟩ = some (.slice z9' n9' c9') ∧ w'.cell? ⟨g, off + k * 8 + 7, none⟩ = some (.int .i64 p9) := by
  obtain ⟨qx, hqx, hEx⟩ := Ls_get hls hk
  obtain ⟨g, off, rfl, hgl, hc⟩ := hg.resolve_left (fun e => by rw [e] at hqx; simp at hqx)
  obtain ⟨o9, p9, a9, b9, s9, y9, z9, z9', n9, c9, n9', c9', rfl⟩ := hEx.form
  have hc := fun i v h => hgw.cell (hc k _ hqx i v h) (by simp)
  have c0 := hc 0 _ rfl
  rw [Nat.add_zero] at c0
  exact ⟨o9, p9, a9, b9, s9, y9, z9, z9', n9, c9, n9', c9', g, off, rfl, Nat.lt_of_lt_of_le hgl hgw.size, hEx.kept hgw, c0, hc 1 _ rfl, hc 2 _ rfl, hc 3 _ rfl, hc 4 _ rfl, hc 5 _ rfl, hc 6 _ rfl, hc 7 _ rfl⟩
/-- What is known of a row of free names. -/
structure FrRow (x : Ex) (w : World) (S : List (List UInt8)) (p : Option Addr) : Prop where
  asc : Bg.AscS S
  mem : ∀ n, n ∈ S ↔ frE x n
  sat : Bg.SAt w p S
  len : S.length ≤ 1000000

set_option maxRecDepth 100000 in
set_option maxHeartbeats 32000000 in
theorem lfree_c : ∀ (n : Nat) (x : Ex), cntE x ≤ n → n ≤ 1000000 → ∀ (F : Nat → Prop) (q : List Value) (w : World), EAt F w x q → letE x → frQ x →
    Calls Tryz.prog 25 #[.agg q.toArray] w (ValPost (.bool true) w) := by
  intro n
  induction n with
  | zero => intro x hn; cases x; simp [cntE] at hn
  | succ n ih =>
    intro x hn hn6 F q w hx hle hfq
    have HFX := Lib.hid (fun W (h : w.grownBy W none) => Free_c F x q W (hx.kept h) hle hfq (by omega))
    cases x with
    | mk op nm md nu ys ks ps =>
      have HKF := Lib.hid (fun (j : Nat) (k : Ex) (hk : ks[j]? = some k) W (q : List Value) (h : EAt F W k q) => Free_c F k q W h (letE_parts hle hk) (frQ_parts hfq hk) (by have := cntK_get hk; simp only [cntE] at hn; omega))
      have HKR := Lib.hid (fun (j : Nat) (k : Ex) (hk : ks[j]? = some k) W (q : List Value) (h : EAt F W k q) => ih k (by have := cntK_get hk; simp only [cntE] at hn; omega) (by omega) F q W h (letE_parts hle hk) (frQ_parts hfq hk))
      have hx0 := hx
      simp only [EAt] at hx
      obtain ⟨s, pw, nw, cw, pk, ck, rows, rfl, -, hg, hls, -⟩ := hx
      unfold strV at *
      obtain ⟨y, hy⟩ : ∃ y : ByteArray, (⟨nm.toArray⟩ : ByteArray) = y := ⟨_, rfl⟩
      obtain ⟨z, hz⟩ : ∃ z : ByteArray, (⟨md.toArray⟩ : ByteArray) = z := ⟨_, rfl⟩
      have HYL : Hid (y.toList = nm) := Lib.hid (by rw [toList_data, ← hy])
      rw [hy, hz] at HFX ⊢
      obtain ⟨kl, hkl⟩ : ∃ kl, ks.length = kl := ⟨_, rfl⟩
      have HKL := Lib.hid hkl
      have HG := Lib.hid hg; have HLS := Lib.hid hls
      have hkb : kl ≤ 1000000 := by
        have h1 := kids_count ks
        simp only [cntE] at hn
        omega
      have HFA : Hid (∀ s, fndP op nm ks s kl ↔ frE (.mk op nm md nu ys ks ps) s) := Lib.hid (fun s => by rw [← hkl]; exact fndP_all)
      rw [hkl] at HFX ⊢
      obtain ⟨X, hX⟩ : ∃ X, Ex.mk op nm md nu ys ks ps = X := ⟨_, rfl⟩
      rw [hX] at HFX HFA
      clear hg hls hn ih hkl hx0 hle hfq hX hz
      go_enter Tryz.func25, Tryz.ntmps25
      go_wp2_with fail
      obtain ⟨WA, b, hWA, e0, hB, hgA⟩ := three0 w (.cells #[.int .i64 (op : Int), .string y, .string z, .bool s, .slice pw nw cw, .bool ys, .slice pk kl ck, .int .i64 (ps : Int)] 60)
      have HB := Lib.hid hB; have HGA := Lib.hid hgA
      clear hB hgA
      try rw [← hWA]
      try rw [e0]
      clear e0 hWA
      refine (HFX.out _ HGA.out).mono ?_
      rintro e w1 ⟨hg1, S, p, c, rfl, hasc, hmem, hsat, hsl⟩
      have HG1 := Lib.hid (gb_trans HGA.out hg1)
      have HB1 := Lib.hid (bx hg1 HB.out)
      have HS1 := Lib.hid (FrRow.mk hasc hmem hsat hsl)
      obtain ⟨m, hm⟩ : ∃ m, S.length = m := ⟨_, rfl⟩
      have HM := Lib.hid hm
      have hmb : m ≤ 1000000 := by omega
      rw [hm]
      clear hg1 hasc hmem hsat hsl HFX HB hm
      go_wp2_with fail
      go_loopg [18] m (fun gk iv wr => ∃ j : Nat, j ≤ m ∧ iv = .int .i64 (j : Int) ∧ m - j ≤ gk ∧ gk ≤ m ∧ Hid (w1.grownBy wr none))
      case atStart => exact ⟨0, Nat.zero_le _, rfl, by omega, Nat.le_refl _, gb_refl _ _⟩
      case round =>
        obtain ⟨j, hj, rfl, hgk, hgm, HGR⟩ := hrel
        have HBr := Lib.hid (bx HGR.out HB1.out)
        obtain ⟨x0, x1, x2, x3, x4, x5, x6, x7, x8⟩ := cells8x HBr.out
        have hbr : b < wr.heap.size := hlt HBr.out
        by_cases hlt' : j < m
        · obtain ⟨g, off, rfl, hgl, cs⟩ := sat_cell (HS1.out.sat.kept HGR.out) (j := j) (by rw [HM.out]; exact hlt')
          have y1 : (0 : Int) ≤ (j : Int) := by omega
          have y2 : (j : Int) < (m : Int) := by omega
          have y3 : decide (j < m) = true := decide_eq_true hlt'
          have y4 : decide ((j : Int) < (m : Int)) = true := decide_eq_true y2
          obtain ⟨v, hv⟩ : ∃ v, S.getD j [] = v := ⟨_, rfl⟩
          have HSV : Hid (frE X v) := Lib.hid ((HS1.out.mem v).1 (mem_getD.2 ⟨j, by rw [HM.out]; exact hlt', hv⟩))
          have HVL : Hid (S.getD j [] = v) := Lib.hid hv
          rw [hv] at cs
          obtain ⟨vb, hvb⟩ : ∃ vb : ByteArray, (⟨v.toArray⟩ : ByteArray) = vb := ⟨_, rfl⟩
          have HVB : Hid ((⟨v.toArray⟩ : ByteArray) = vb) := Lib.hid hvb
          have HVT : Hid (vb.toList = v) := Lib.hid (by rw [toList_data, ← hvb])
          rw [hvb] at cs
          clear hv hvb
          go_upto_region 6 with fail
          go_cut [18, 33] (fun t18 t33 wx => Hid (t18 = .int .i64 (j : Int) ∧ t33 = .bool false ∧ wx = wr))
          case first =>
            rcases Nat.eq_zero_or_pos j with hj0 | hj0
            · have d1 : decide ((0 : Int) < (j : Int)) = false := decide_eq_false (by omega)
              have d2 : decide (0 < j) = false := decide_eq_false (by omega)
              go_wp2_with fail
              go_meet
              exact Lib.hid ⟨rfl, rfl, rfl⟩
            · obtain ⟨J, hJ⟩ : ∃ J, j = J + 1 := ⟨j - 1, by omega⟩
              have d1 : decide ((0 : Int) < (j : Int)) = true := decide_eq_true (by omega)
              have d2 : decide (0 < j) = true := decide_eq_true (by omega)
              obtain ⟨g2, off2, hp2, -, cz⟩ := sat_cell (HS1.out.sat.kept HGR.out) (j := J) (by rw [HM.out]; omega)
              injection hp2 with hp2; injection hp2 with hp2 hp3; subst hp2 hp3
              obtain ⟨q1, q2⟩ := less_no (asc_less HS1.out.asc (j := J) (by rw [HM.out]; omega))
              rw [show J + 1 = j by omega, HVL.out, HVB.out] at q1 q2
              obtain ⟨zb, hzb⟩ : ∃ zb : ByteArray, (⟨(S.getD J []).toArray⟩ : ByteArray) = zb := ⟨_, rfl⟩
              rw [hzb] at cz q1 q2
              have hw1 : IntKind.i64.wrap ((j : Int) - 1) = (J : Int) := by rw [IntWalk.i64_in _ (by omega)]; omega
              have i1 : (0 : Int) ≤ (J : Int) := by omega
              have i2 : (J : Int) < (m : Int) := by omega
              have i3 : decide ((J : Int) < (m : Int)) = true := decide_eq_true i2
              have i4 : decide (J < m) = true := decide_eq_true (by omega)
              have hJs : j - 1 = J := by omega
              clear hzb hJ
              go_wp2_with fail
              go_meet
              exact Lib.hid ⟨rfl, rfl, rfl⟩
          case rest =>
            obtain ⟨rfl, rfl, rfl⟩ := hcut.out
            clear hcut
            go_upto_region 8 with fail
            go_cut [18, 7] (fun t18 t7 wx => Hid (t18 = .int .i64 (j : Int) ∧ wx = wc ∧ ∃ fb : Bool, t7 = .bool fb ∧ (fb = true ↔ fndP op nm ks v 0)))
            case first =>
              by_cases o3 : op = 3
              · have e3 : ((op : Int) == 3) = true := by rw [o3]; rfl
                by_cases hn : nm = v
                · have q0 : (y.toList == vb.toList) = true := by rw [HYL.out, HVT.out, hn]; exact beq_self_eq_true _
                  have HZ : Hid (fndP op nm ks v 0) := Lib.hid (.inl ⟨o3, hn.symm⟩)
                  clear o3 hn
                  go_wp2_with fail
                  go_meet
                  exact Lib.hid ⟨rfl, rfl, true, rfl, fun _ => HZ.out, fun _ => rfl⟩
                · have q0 : (y.toList == vb.toList) = false := by rw [HYL.out, HVT.out]; exact beq_eq_false_iff_ne.2 hn
                  have HZ : Hid (¬ fndP op nm ks v 0) := Lib.hid (fun h => by
                    rcases h with h | ⟨i, x, h, -⟩
                    · exact hn h.2.symm
                    · omega)
                  clear o3 hn
                  go_wp2_with fail
                  go_meet
                  exact Lib.hid ⟨rfl, rfl, false, rfl, fun h => (by cases h), fun h => absurd h HZ.out⟩
              · have e3 : ((op : Int) == 3) = false := beq_eq_false_iff_ne.2 (by omega)
                have HZ : Hid (¬ fndP op nm ks v 0) := Lib.hid (fun h => by
                  rcases h with h | ⟨i, x, h, -⟩
                  · exact o3 h.1
                  · omega)
                clear o3
                go_wp2_with fail
                go_meet
                exact Lib.hid ⟨rfl, rfl, false, rfl, fun h => (by cases h), fun h => absurd h HZ.out⟩
            case rest =>
              obtain ⟨rfl, rfl, fb0, rfl, hfb0⟩ := hcut.out
              have HF0 := Lib.hid hfb0
              clear hcut hfb0
              go_wp2_with fail
              go_loopg [7, 46] kl (fun gk2 fv iv wr2 => ∃ (k : Nat) (fb : Bool), k ≤ kl ∧ fv = .bool fb ∧ iv = .int .i64 (k : Int) ∧ kl - k ≤ gk2 ∧ gk2 ≤ kl ∧ Hid (fb = true ↔ fndP op nm ks v k) ∧ Hid (wc.grownBy wr2 none))
              case atStart => exact ⟨0, fb0, Nat.zero_le _, rfl, rfl, by omega, Nat.le_refl _, HF0, gb_refl _ _⟩
              case round =>
                obtain ⟨k, fb, hk, rfl, rfl, hgk2, hgm2, HFB, HGR2⟩ := hrel
                have HGW2 : Hid (w.grownBy wr none) := Lib.hid (gb_trans HG1.out (gb_trans HGR.out HGR2.out))
                by_cases hlk : k < kl
                · obtain ⟨x', hx'⟩ : ∃ x', ks[k]? = some x' := ⟨ks[k]'(by rw [HKL.out]; exact hlk), List.getElem?_eq_getElem _⟩
                  obtain ⟨o9, p9, a9, b9, s9, y9, z9, z9', n9, c9, n9', c9', gq, offq, rfl, hgq, hE9, c0, c1, c2, c3, c4, c5, c6, c7⟩ := kid_cells HG.out HLS.out hx' HGW2.out
                  have HNX := Lib.hid (fndP_next (op := op) (nm := nm) (s := v) hx')
                  have HFR := Lib.hid (fun W (h : wr.grownBy W none) => HKF.out k x' hx' W _ (hE9.kept h))
                  have k1 : (0 : Int) ≤ (k : Int) := by omega
                  have k2 : (k : Int) < (kl : Int) := by omega
                  have k3 : decide (k < kl) = true := decide_eq_true hlk
                  have k4 : decide ((k : Int) < (kl : Int)) = true := decide_eq_true k2
                  clear hE9 hx'
                  have HBq := Lib.hid (bx HGR2.out HBr.out)
                  have hbq : b < wr.heap.size := hlt HBq.out
                  have HGX := Lib.hid (World.grownBy_alloc wr (.cells #[.int .i64 o9, .string a9, .string b9, .bool s9, .slice z9 n9 c9, .bool y9, .slice z9' n9' c9', .int .i64 p9] 60) none)
                  have HBX := Lib.hid (heap_alloc_new wr (.cells #[.int .i64 o9, .string a9, .string b9, .bool s9, .slice z9 n9 c9, .bool y9, .slice z9' n9' c9', .int .i64 p9] 60))
                  cases fb
                  · go_wp2_with fail
                    refine (HFR.out _ HGX.out).mono ?_
                    rintro e w4 ⟨hg4, S', p', c', rfl, hasc', hmem', hsat', hsl'⟩
                    have HG4 := Lib.hid (gb_trans HGX.out hg4)
                    have HM' := Lib.hid hmem'
                    have HHAS := Lib.hid (has_c S' p' c' v w4 hsl' hsat')
                    obtain ⟨m', hm'⟩ : ∃ m', S'.length = m' := ⟨_, rfl⟩
                    rw [HVB.out, hm'] at HHAS
                    rw [hm']
                    clear hg4 hasc' hmem' hsat' hsl' hm' HFR
                    go_wp2_with fail
                    refine HHAS.out.mono ?_
                    rintro e w5 ⟨hg5, h, rfl, hh⟩
                    have HG5 := Lib.hid (gb_trans HG4.out hg5)
                    have HHV : Hid (h = true ↔ frE x' v) := Lib.hid (hh.trans (HM'.out v))
                    obtain ⟨f0, f1, f2, f3, f4, f5, f6, f7, f8⟩ := cells8x (bx HG5.out HBq.out)
                    have hb5 : b < w5.heap.size := hlt (bx HG5.out HBq.out)
                    have HGN := Lib.hid (gb_trans HGR2.out HG5.out)
                    clear hg5 hh HHAS
                    cases h
                    · have HFN : Hid (false = true ↔ fndP op nm ks v (k + 1)) := Lib.hid ⟨fun h => (by cases h), fun h => by
                        rcases HNX.out.1 h with h | ⟨h, -⟩
                        · exact HFB.out.2 h
                        · exact HHV.out.2 h⟩
                      go_wp2_with fail
                      go_roundg (kl - (k + 1))
                      case measure => omega
                      case rel => exact ⟨k + 1, false, by omega, rfl, by go_num, Nat.le_refl _, by omega, HFN, HGN⟩
                    · by_cases o22 : op = 22
                      · have e22 : ((op : Int) != 22) = false := by rw [o22]; rfl
                        have e22' : ((op : Int) == 22) = true := by rw [o22]; rfl
                        by_cases hk0 : k = 0
                        · have e0 : ((k : Int) == 0) = true := by rw [hk0]; rfl
                          have HFN : Hid (true = true ↔ fndP op nm ks v (k + 1)) := Lib.hid ⟨fun _ => HNX.out.2 (.inr ⟨HHV.out.1 (by simp), .inr (.inl hk0)⟩), fun _ => rfl⟩
                          clear o22 hk0
                          go_wp2_with fail
                          go_roundg (kl - (k + 1))
                          case measure => omega
                          case rel => exact ⟨k + 1, true, by omega, rfl, by go_num, Nat.le_refl _, by omega, Lib.hid (by simpa using HFN.out), HGN⟩
                        · have e0 : ((k : Int) == 0) = false := beq_eq_false_iff_ne.2 (by omega)
                          by_cases hn : nm = v
                          · have q0 : (y.toList == vb.toList) = true := by rw [HYL.out, HVT.out, hn]; exact beq_self_eq_true _
                            have HFN : Hid (false = true ↔ fndP op nm ks v (k + 1)) := Lib.hid ⟨fun h => (by cases h), fun h => by
                              rcases HNX.out.1 h with h | ⟨-, h | h | h⟩
                              · exact HFB.out.2 h
                              · exact absurd o22 h
                              · exact absurd h hk0
                              · exact absurd hn h⟩
                            clear o22 hk0 hn
                            go_wp2_with fail
                            go_roundg (kl - (k + 1))
                            case measure => omega
                            case rel => exact ⟨k + 1, false, by omega, rfl, by go_num, Nat.le_refl _, by omega, HFN, HGN⟩
                          · have q0 : (y.toList == vb.toList) = false := by rw [HYL.out, HVT.out]; exact beq_eq_false_iff_ne.2 hn
                            have HFN : Hid (true = true ↔ fndP op nm ks v (k + 1)) := Lib.hid ⟨fun _ => HNX.out.2 (.inr ⟨HHV.out.1 (by simp), .inr (.inr hn)⟩), fun _ => rfl⟩
                            clear o22 hk0 hn
                            go_wp2_with fail
                            go_roundg (kl - (k + 1))
                            case measure => omega
                            case rel => exact ⟨k + 1, true, by omega, rfl, by go_num, Nat.le_refl _, by omega, Lib.hid (by simpa using HFN.out), HGN⟩
                      · have e22 : ((op : Int) != 22) = true := bne_iff_ne.2 (by omega)
                        have e22' : ((op : Int) == 22) = false := beq_eq_false_iff_ne.2 (by omega)
                        have HFN : Hid (true = true ↔ fndP op nm ks v (k + 1)) := Lib.hid ⟨fun _ => HNX.out.2 (.inr ⟨HHV.out.1 (by simp), .inl o22⟩), fun _ => rfl⟩
                        clear o22
                        go_wp2_with fail
                        go_roundg (kl - (k + 1))
                        case measure => omega
                        case rel => exact ⟨k + 1, true, by omega, rfl, by go_num, Nat.le_refl _, by omega, Lib.hid (by simpa using HFN.out), HGN⟩
                  · have HFN : Hid (true = true ↔ fndP op nm ks v (k + 1)) := Lib.hid ⟨fun _ => HNX.out.2 (.inl (HFB.out.1 (by simp))), fun _ => rfl⟩
                    have HGN := Lib.hid (gb_trans HGR2.out HGX.out)
                    go_wp2_with fail
                    go_roundg (kl - (k + 1))
                    case measure => omega
                    case rel => exact ⟨k + 1, true, by omega, rfl, by go_num, Nat.le_refl _, by omega, Lib.hid (by simpa using HFN.out), HGN⟩
                · obtain rfl : k = kl := by omega
                  have hft : fb = true := HFB.out.2 ((HFA.out v).2 HSV.out)
                  subst hft
                  have HGN := Lib.hid (gb_trans HGR.out HGR2.out)
                  go_wp2_with fail
                  go_roundg (m - (j + 1))
                  case measure => omega
                  case rel => exact ⟨j + 1, by omega, by go_num, Nat.le_refl _, by omega, HGN⟩
        · obtain rfl : j = m := by omega
          go_wp2_with fail
          go_loopg [81] kl (fun gk iv wr2 => ∃ k : Nat, k ≤ kl ∧ iv = .int .i64 (k : Int) ∧ kl - k ≤ gk ∧ gk ≤ kl ∧ Hid (wr.grownBy wr2 none))
          case atStart => exact ⟨0, Nat.zero_le _, rfl, by omega, Nat.le_refl _, gb_refl _ _⟩
          case round =>
            obtain ⟨k, hk, rfl, hgk2, hgm2, HGR2⟩ := hrel
            have HGW2 : Hid (w.grownBy wr none) := Lib.hid (gb_trans HG1.out (gb_trans HGR.out HGR2.out))
            by_cases hlk : k < kl
            · obtain ⟨x', hx'⟩ : ∃ x', ks[k]? = some x' := ⟨ks[k]'(by rw [HKL.out]; exact hlk), List.getElem?_eq_getElem _⟩
              obtain ⟨o9, p9, a9, b9, s9, y9, z9, z9', n9, c9, n9', c9', gq, offq, rfl, hgq, hE9, c0, c1, c2, c3, c4, c5, c6, c7⟩ := kid_cells HG.out HLS.out hx' HGW2.out
              have HFR := Lib.hid (fun W (h : wr.grownBy W none) => HKF.out k x' hx' W _ (hE9.kept h))
              have HRE := Lib.hid (fun W (h : wr.grownBy W none) => HKR.out k x' hx' W _ (hE9.kept h))
              have HXP : Hid (∀ s, frE x' s → ¬ frE X s → op = 22 ∧ k ≠ 0 ∧ nm = s) := Lib.hid (fun s h1 h2 => by
                have h3 : ¬ (op ≠ 22 ∨ k = 0 ∨ nm ≠ s) := fun h => h2 ((HFA.out s).1 (.inr ⟨k, x', hlk, hx', h1, h⟩))
                refine ⟨?_, ?_, ?_⟩
                · rcases Nat.decEq op 22 with h | h
                  · exact absurd (.inl h) h3
                  · exact h
                · exact fun h => h3 (.inr (.inl h))
                · exact Classical.byContradiction fun h => h3 (.inr (.inr h)))
              have k1 : (0 : Int) ≤ (k : Int) := by omega
              have k2 : (k : Int) < (kl : Int) := by omega
              have k3 : decide (k < kl) = true := decide_eq_true hlk
              have k4 : decide ((k : Int) < (kl : Int)) = true := decide_eq_true k2
              clear hE9 hx'
              have HBq := Lib.hid (bx HGR2.out HBr.out)
              have hbq : b < wr.heap.size := hlt HBq.out
              go_wp2_with fail
              obtain ⟨WX, b9x, hWX, e9x, hBX, hgX⟩ := three0 wr (.cells #[.int .i64 o9, .string a9, .string b9, .bool s9, .slice z9 n9 c9, .bool y9, .slice z9' n9' c9', .int .i64 p9] 60)
              have HBX := Lib.hid hBX; have HGX := Lib.hid hgX
              clear hBX hgX
              try rw [← hWX]
              try rw [e9x]
              clear e9x hWX
              refine (HRE.out _ HGX.out).mono ?_
              rintro e w4 ⟨rfl, hg4⟩
              have HG4 := Lib.hid (gb_trans HGX.out hg4)
              obtain ⟨f0, f1, f2, f3, f4, f5, f6, f7, f8⟩ := cells8x (bx hg4 HBX.out)
              have hb9 : b9x < w4.heap.size := hlt (bx hg4 HBX.out)
              clear hg4 HRE
              go_wp2_with fail
              refine (HFR.out _ HG4.out).mono ?_
              rintro e w5 ⟨hg5, S', p', c', rfl, hasc', hmem', hsat', hsl'⟩
              have HG5 := Lib.hid (gb_trans HG4.out hg5)
              have HM' := Lib.hid hmem'; have HS' := Lib.hid hsat'
              obtain ⟨m', hm'⟩ : ∃ m', S'.length = m' := ⟨_, rfl⟩
              have HML := Lib.hid hm'
              have hmb' : m' ≤ 1000000 := by omega
              rw [hm']
              clear hg5 hasc' hmem' hsat' hsl' hm' HFR f0 f1 f2 f3 f4 f5 f6 f7 f8 hb9
              go_wp2_with fail
              go_loopg [92] m' (fun gk iv wr2 => ∃ i : Nat, i ≤ m' ∧ iv = .int .i64 (i : Int) ∧ m' - i ≤ gk ∧ gk ≤ m' ∧ Hid (w5.grownBy wr2 none))
              case atStart => exact ⟨0, Nat.zero_le _, rfl, by omega, Nat.le_refl _, gb_refl _ _⟩
              case round =>
                obtain ⟨i, hi, rfl, hgk3, hgm3, HGR3⟩ := hrel
                by_cases hli : i < m'
                · obtain ⟨gs, offs, rfl, hgs, cs⟩ := sat_cell (HS'.out.kept HGR3.out) (j := i) (by rw [HML.out]; exact hli)
                  obtain ⟨v, hv⟩ : ∃ v, S'.getD i [] = v := ⟨_, rfl⟩
                  have HV : Hid (frE x' v) := Lib.hid ((HM'.out v).1 (mem_getD.2 ⟨i, by rw [HML.out]; exact hli, hv⟩))
                  rw [hv] at cs
                  have HHAS := Lib.hid (fun W (h : w1.grownBy W none) => has_c S p c v W HS1.out.len (HS1.out.sat.kept h))
                  obtain ⟨vb, hvb⟩ : ∃ vb : ByteArray, (⟨v.toArray⟩ : ByteArray) = vb := ⟨_, rfl⟩
                  have HVT : Hid (vb.toList = v) := Lib.hid (by rw [toList_data, ← hvb])
                  rw [hvb, HM.out] at HHAS
                  rw [hvb] at cs
                  have i1 : (0 : Int) ≤ (i : Int) := by omega
                  have i2 : (i : Int) < (m' : Int) := by omega
                  have i3 : decide (i < m') = true := decide_eq_true hli
                  have i4 : decide ((i : Int) < (m' : Int)) = true := decide_eq_true i2
                  have HGZ : Hid (w1.grownBy wr none) := Lib.hid (gb_trans HGR.out (gb_trans HGR2.out (gb_trans HG5.out HGR3.out)))
                  clear hv hvb
                  go_wp2_with fail
                  refine (HHAS.out _ HGZ.out).mono ?_
                  rintro e w6 ⟨hg6, h, rfl, hh⟩
                  have HG6 := Lib.hid (gb_trans HGR3.out hg6)
                  have HH := Lib.hid hh
                  have hbx6 := bx (gb_trans HGZ.out hg6) HB1.out
                  obtain ⟨f0, f1, f2, f3, f4, f5, f6, f7, f8⟩ := cells8x hbx6
                  have hb6 : b < w6.heap.size := hlt hbx6
                  clear hg6 hh HHAS hbx6
                  cases h
                  · have hno : ¬ frE X v := fun h => by have := HH.out.2 ((HS1.out.mem v).2 h); cases this
                    obtain ⟨o22, hk0, hn⟩ := HXP.out v HV.out hno
                    have e22 : ((op : Int) != 22) = false := by rw [o22]; rfl
                    have e22' : ((op : Int) == 22) = true := by rw [o22]; rfl
                    have e0 : ((k : Int) == 0) = false := beq_eq_false_iff_ne.2 (by omega)
                    have q0 : (y.toList == vb.toList) = true := by rw [HYL.out, HVT.out, hn]; exact beq_self_eq_true _
                    clear o22 hk0 hn hno
                    go_wp2_with fail
                    go_roundg (m' - (i + 1))
                    case measure => omega
                    case rel => exact ⟨i + 1, by omega, by go_num, Nat.le_refl _, by omega, HG6⟩
                  · go_wp2_with fail
                    go_roundg (m' - (i + 1))
                    case measure => omega
                    case rel => exact ⟨i + 1, by omega, by go_num, Nat.le_refl _, by omega, HG6⟩
                · obtain rfl : i = m' := by omega
                  have HGN := Lib.hid (gb_trans HGR2.out (gb_trans HG5.out HGR3.out))
                  go_wp2_with fail
                  go_roundg (kl - (k + 1))
                  case measure => omega
                  case rel => exact ⟨k + 1, by omega, by go_num, Nat.le_refl _, by omega, HGN⟩
            · obtain rfl : k = kl := by omega
              go_wp2_with fail
              go_ret
              exact ⟨rfl, HGW2.out⟩
end Go.Proofs.YtmlcpihedmmlfaaGreatDoor
