/- Decimal digits of a number, and digitsFromLast. -/
import Derived.Test.YtoahgeleenpnjaaGreatDoorE9
import Derived.BigRegion
import Derived.Deep.CutBlock
import Derived.Deep.DeepCutAuto
import Derived.Test.YtoahgeleenpnjaaGreatDoorE1
set_option linter.unusedVariables false
set_option linter.unusedSimpArgs false
namespace Go.Proofs.YtoahgeleenpnjaaGreatDoor.Zd
open Go.RowKit Mx

/-- How many decimal digits N has (0 of 0). -/
def nd (N : Nat) : Nat := if h : N = 0 then 0 else nd (N / 10) + 1
termination_by N
decreasing_by omega

theorem nd_lt (N : Nat) : N < 10 ^ nd N := by
  induction N using nd.induct with
  | case1 => simp [nd]
  | case2 N h ih => rw [nd, dif_neg h, Nat.pow_succ]; omega

theorem nd_le (N : Nat) (h : N ≠ 0) : 10 ^ (nd N - 1) ≤ N := by
  induction N using nd.induct with
  | case1 => exact absurd rfl h
  | case2 N h ih =>
    rw [nd, dif_neg h, Nat.add_sub_cancel]
    by_cases h1 : N / 10 = 0
    · rw [h1, nd, dif_pos rfl]; simp; omega
    · have := ih h1
      have e : 10 ^ nd (N / 10) = 10 ^ (nd (N / 10) - 1) * 10 := by
        rw [← Nat.pow_succ]; congr 1
        have : nd (N / 10) ≠ 0 := by rw [nd, dif_neg h1]; omega
        omega
      omega

theorem nd_of {N n : Nat} (h1 : N < 10 ^ n) (h2 : 10 ^ (n - 1) ≤ N) (hn : 0 < n) : n = nd N := by
  have hN : N ≠ 0 := by have := Nat.pow_pos (n := n - 1) (show 0 < 10 by omega); omega
  have a := nd_lt N
  have b := nd_le N hN
  rcases Nat.lt_trichotomy n (nd N) with h | h | h
  · have : 10 ^ n ≤ 10 ^ (nd N - 1) := Nat.pow_le_pow_right (by omega) (by omega); omega
  · exact h
  · have : 10 ^ nd N ≤ 10 ^ (n - 1) := Nat.pow_le_pow_right (by omega) (by omega); omega

def dig (N j : Nat) : Nat := N / 10 ^ j % 10

/-- Digits without a nought at the end are the number's. -/
theorem digits_of {f : Nat → Nat} {n N : Nat} (hf : ∀ j, j < n → f j < 10) (hn : 0 < n) (ht : f (n - 1) ≠ 0) (hV : V 10 f 0 n = N) : n = nd N ∧ ∀ j, j < n → f j = dig N j := by
  refine ⟨nd_of ?_ ?_ hn, fun j hj => ?_⟩
  · rw [← hV]; exact V_lt (fun j hj => by rw [Nat.zero_add]; exact hf j hj)
  · rcases V_top (b := 10) (f := f) (o := 0) (n := n) (.inr (by simpa using ht)) with h | h
    · omega
    · rw [← hV]; exact h
  · have := V_digit (b := 10) (f := f) (o := 0) (n := n) (by omega) (fun j hj => by rw [Nat.zero_add]; exact hf j hj) hj
    rw [Nat.zero_add] at this
    rw [← this, ← hV]; rfl

/-- A number's text without a sign, the highest digit first. -/
def decL (N : Nat) : List UInt8 := (List.range (nd N)).map fun j => UInt8.ofNat (48 + dig N (nd N - 1 - j))

/-- A number's text. -/
def txtL (Z : Int) : List UInt8 := if Z = 0 then [48] else if Z < 0 then 45 :: decL Z.natAbs else decL Z.natAbs
def txt (Z : Int) : Value := .string ⟨(txtL Z).toArray⟩

def DigPost (N : Nat) (w : World) (e : Ending) (w' : World) : Prop :=
  ∃ g cap f, e = .returned (.slice (some ⟨g, 0, none⟩) ((nd N : Nat)) cap) ∧ Own .u8 5 w' w.heap.size (.slice (some ⟨g, 0, none⟩) (nd N) cap) (nd N) f ∧ (∀ j, j < nd N → f j = 48 + dig N j) ∧ w.grownBy w' none

theorem info8 : (Tryz.prog.info? 5).map (fun i => (i.zero, i.size, i.bytes)) = some (some (.int .u8 0), 1, 1) := by kernel_rfl

def ten19 : Nat := 10000000000000000000

/-- The digits that bytes are. -/
def dv (f : Nat → Nat) : Nat → Nat := fun j => f j - 48

def DRel (w : World) (N na : Nat) (g : Nat) (left out : Value) (wr : World) : Prop :=
  ∃ nl p cl fl n fb, left = .slice p nl cl ∧ nl ≤ cl ∧ cl ≤ maxLen ∧ nl ≤ na ∧ (0 < nl → p = some ⟨w.heap.size, 0, none⟩) ∧ Blk .u64 wr w.heap.size na fl ∧ (∀ j, j < na → fl j < Bw) ∧ (nl = 0 ∨ fl (nl - 1) ≠ 0) ∧ V Bw fl 0 nl = g ∧
    Own .u8 5 wr (w.heap.size + 1) out n fb ∧ (∀ j, j < n → 48 ≤ fb j ∧ fb j < 58) ∧ V 10 (dv fb) 0 n + 10 ^ n * g = N ∧ w.grownBy wr none

def GRel (w wo : World) (na : Nat) (fl fb : Nat → Nat) (n r0 : Nat) (r gn : Nat) (out : Value) (wr : World) : Prop :=
  ∃ fb', Blk .u64 wr w.heap.size na fl ∧ Own .u8 5 wr (w.heap.size + 1) out (n + r) fb' ∧ (∀ j, j < n + r → 48 ≤ fb' j ∧ fb' j < 58) ∧ gn < 10 ^ (19 - r) ∧ V 10 (dv fb') 0 (n + r) + 10 ^ (n + r) * gn = V 10 (dv fb) 0 n + 10 ^ n * r0 ∧ w.grownBy wr none

theorem dv_upd {f : Nat → Nat} {n y : Nat} : V 10 (dv (upd f n y)) 0 (n + 1) = V 10 (dv f) 0 n + (y - 48) * 10 ^ n := by
  rw [V_succ, Nat.zero_add]
  congr 1
  · exact V_congr (fun j hj => by unfold dv; rw [upd_ne (by omega)])
  · simp [dv, upd]

theorem digit_step {f : Nat → Nat} {m gn T : Nat} (h : V 10 (dv f) 0 m + 10 ^ m * gn = T) : V 10 (dv (upd f m (48 + gn % 10))) 0 (m + 1) + 10 ^ (m + 1) * (gn / 10) = T := by
  rw [dv_upd, Nat.add_sub_cancel_left, Nat.pow_succ, ← h]
  have := Nat.div_add_mod gn 10
  generalize gn / 10 = a at *
  generalize gn % 10 = b at *
  rw [← this]; grind

theorem digit_rng {f : Nat → Nat} {m gn : Nat} (h : ∀ j, j < m → 48 ≤ f j ∧ f j < 58) : ∀ j, j < m + 1 → 48 ≤ upd f m (48 + gn % 10) j ∧ upd f m (48 + gn % 10) j < 58 := by
  intro j hj
  unfold upd
  split
  · omega
  · exact h j (by omega)

theorem digit_len {n X g N na : Nat} (h : X + 10 ^ n * g = N) (hg : 0 < g) (hN : N < Bw ^ na) : n < 64 * na := by
  have h1 : 10 ^ n * 1 ≤ 10 ^ n * g := Nat.mul_le_mul_left _ hg
  have h2 : 2 ^ n ≤ 10 ^ n := Nat.pow_le_pow_left (by omega) n
  have h3 : Bw ^ na = 2 ^ (64 * na) := by rw [Nat.pow_mul]; rfl
  have h4 : 2 ^ n < 2 ^ (64 * na) := by rw [← h3]; omega
  exact (Nat.pow_lt_pow_iff_right (by omega)).1 h4

set_option maxHeartbeats 2000000 in
theorem digitsFromLast_w (pa : Option Addr) (na capa : Nat) (f : Nat → Nat) (w : World) (hna : na ≤ 100000) (ha : At .u64 w pa na f) (hf : ∀ j, j < na → f j < Bw) (t : na = 0 ∨ f (na - 1) ≠ 0) (h0 : 0 < na) :
    Calls Tryz.prog 103 #[.slice pa na capa] w (DigPost (V Bw f 0 na) w) := by
  have hmk : ∀ w, (Instr.makeSlice 56 (.int .i64 (na : Int)) (.int .i64 (na : Int))).run Tryz.prog w = .ok (.slice (some ⟨w.heap.size, 0, none⟩) na na) (w.alloc (.cells (madeCells #[.int .u64 0] na) 183)) :=
    fun w => make64_run na (by omega) w
  have HA := Lib.hid ha; have HF := Lib.hid hf; have HT := Lib.hid t
  have hN0 : V Bw f 0 na ≠ 0 := by
    rcases V_top (b := Bw) (f := f) (o := 0) (n := na) (by simpa using t) with e | e
    · omega
    · have := Nat.pow_pos (n := na - 1) Bw_pos; omega
  have HN0 := Lib.hid hN0
  clear ha hf t hN0
  go_enter Tryz.func103, Tryz.ntmps103
  go_wp2_with (with_reducible refine wpList_copy64 rfl _ _ rfl rfl w.heap.size na na capa pa (fun _ => 0) f rfl rfl (Blk_made _ _ _) (HA.out.grown (World.grownBy_alloc _ _ none) (by simp)) (by omega) ?_)
  intro w2 HB2 HG2
  have HBEL := Lib.hid (own_below (Below.refl _ _) HG2.out)
  have HSZ := HB2.out.lt
  have HF2 := Lib.hid (lt_cut HF.out (M := na))
  clear hmk HG2 HA
  have hNlt : V Bw f 0 na < Bw ^ na := V_lt (fun j hj => by rw [Nat.zero_add]; exact HF.out j hj)
  have HNL := Lib.hid hNlt
  have HS : Hid (DRel w (V Bw f 0 na) na (V Bw f 0 na) (.slice (some ⟨w.heap.size, 0, none⟩) na na) (.slice none 0 0) w2) :=
    ⟨na, _, na, _, 0, fun _ => 0, rfl, Nat.le_refl _, by unfold maxLen; omega, Nat.le_refl _, fun _ => rfl, HB2.out, HF2.out, by have := HT.out; rcases this with h | h; exact .inl h; exact .inr (by rw [if_pos (by omega)]; exact h), V_congr (fun j hj => by simp [hj]), Own.nil, fun j hj => by omega, by simp [V], HBEL.out⟩
  clear hNlt HB2 HBEL HF2 HSZ
  go_wp2_with fail
  go_loopg [3, 4] (V Bw f 0 na) (fun g left out wr => DRel w (V Bw f 0 na) na g left out wr)
  case atStart => exact HS.out
  case round =>
    clear HS
    obtain ⟨nl, p, cl, fl, n, fb, rfl, q1, q2, q3, q4, q5, q6, q7, q8, q9, q10, q11, q12⟩ := hrel
    by_cases hnl : 0 < nl
    · obtain rfl := q4 hnl
      have hg0 : 0 < gk := by
        rw [← q8]
        rcases V_top (b := Bw) (f := fl) (o := 0) (n := nl) (by simpa using q7) with e | e
        · omega
        · have := Nat.pow_pos (n := nl - 1) Bw_pos; omega
      have hlen := digit_len q11 hg0 HNL.out
      have HBL := Lib.hid q5; have HFL := Lib.hid q6; have HV8 := Lib.hid q8; have HO := Lib.hid q9; have HR10 := Lib.hid q10; have HE := Lib.hid q11; have HW := Lib.hid q12
      have ht19 : 0 < ten19 := by unfold ten19; omega
      have ht19B : ten19 < Bw := by unfold ten19 Bw; omega
      have HT1 := Lib.hid ht19; have HT2 := Lib.hid ht19B
      have HGK0 := Lib.hid hg0
      clear q4 q5 q6 q7 q8 q9 q10 q11 q12 ht19 ht19B hg0
      go_wp2_with (go_at_call 130; rw [show (10000000000000000000 : Int) = ((ten19 : Nat) : Int) from rfl]; refine (divideInPlace_c w.heap.size 0 nl _ na ten19 fl _ HBL.out (by omega) (by omega) HFL.out HT1.out HT2.out).mono ?_; rintro e w3 ⟨r0, f3, rfl, hr, hB3, hF3, hO3, hV3, hG3⟩; have HB3 := Lib.hid hB3; have HF3 := Lib.hid hF3; have HV3 := Lib.hid hV3; have HG3 := Lib.hid hG3; have HR := Lib.hid hr; clear hB3 hF3 hO3 hV3 hG3 hr)
      refine (trim_c _ nl cl f3 _ q1 q2 (HB3.out.at0.pre q3)).mono ?_
      rintro e w4 ⟨m, p', cap', rfl, hm, hm2, hc', ht, hz, hm0, hmp, rfl⟩
      have HM1 := Lib.hid ht; have HM2 := Lib.hid hz; have HM3 := Lib.hid hmp
      clear ht hz hm0 hmp
      have HSZ4 := HO.out.far
      have hblk := HO.out.kept HG3.out (by
        rcases HO.out.shape with ⟨e, _⟩ | ⟨g', c', e, hb, _⟩
        · subst e; exact .inl rfl
        · subst e; exact .inr (by simp [Value.ownBlock]; omega))
      have HBK := Lib.hid hblk
      have HW3 := Lib.hid (below_gb (row := none) (gb_new (gb_below HW.out) (Nat.le_refl _) HG3.out))
      have HGS : Hid (GRel w w na f3 fb n r0 0 r0 u4 w3) := ⟨fb, HB3.out, HBK.out, HR10.out, by have := HR.out; unfold ten19 at this; omega, rfl, HW3.out⟩
      clear hblk HSZ4 HBK HW3 HBL HG3 HW HO
      go_wp2_with fail
      go_loopg [4, 5, 19] 19 (fun g out grp i wr => ∃ r gn : Nat, g = 19 - r ∧ r ≤ 19 ∧ i = .int .i64 r ∧ grp = .int .u64 gn ∧ GRel w w na f3 fb n r0 r gn out wr)
      case atStart => exact ⟨0, r0, rfl, by omega, rfl, rfl, HGS.out⟩
      case round =>
        clear HGS
        obtain ⟨r, gn, rfl, hr19, rfl, rfl, fb', g1, g2, g3, g4, g5, g6⟩ := hrel
        by_cases hlt : r < 19
        · have i1 : (0 : Int) ≤ (gn : Int) % 10 := by omega
          have i2 : (gn : Int) % 10 < 10 := by omega
          have i3 : (0 : Int) ≤ gn := by omega
          have i4 : (gn : Int) ≤ 18446744073709551615 := by
            have : 10 ^ (19 - r) ≤ 10 ^ 19 := Nat.pow_le_pow_right (by omega) (by omega)
            omega
          have G1 := Lib.hid g1; have G2 := Lib.hid g2; have G3 := Lib.hid g3; have G4 := Lib.hid g4; have G5 := Lib.hid g5; have G6 := Lib.hid g6
          have hsz := G6.out.size
          have hL := G1.out.lt
          clear g1 g2 g3 g4 g5 g6
          go_wp2_with (at_builtin; refine wpList_app1 (k := .u8) (t := 95) (e := 5) (bytes := 1) Tryz.underlying95 info8 (by omega) rfl _ _ rfl (w.heap.size + 1) u4 (n + r) fb' _ (48 + gn % 10) (by omega) rfl G2.out rfl (by omega) (by omega) ?_)
          intro v' w' hO' hG'
          have HO' := Lib.hid hO'; have HG' := Lib.hid hG'
          clear hO' hG'
          go_wp2_with fail
          have hg2 : gn / 10 < 10 ^ (19 - (r + 1)) := by
            have e : 10 ^ (19 - r) = 10 ^ (19 - (r + 1)) * 10 := by rw [← Nat.pow_succ]; congr 1; omega
            have := G4.out
            omega
          have hL2 : w.heap.size ≠ w.heap.size + 1 := by omega
          have hBL : Blk .u64 w' w.heap.size na f3 := by
            refine G1.out.kept HG'.out ?_
            intro e
            have := G2.out.far _ e.symm
            omega
          go_roundg (19 - (r + 1))
          case measure => omega
          case rel => exact ⟨r + 1, gn / 10, rfl, by omega, by go_num, val_of (by omega), upd fb' (n + r) (48 + gn % 10), hBL, HO'.out, digit_rng G3.out, hg2, digit_step G5.out, gb_own G6.out G2.out (by omega) HG'.out⟩
        · obtain rfl : r = 19 := by omega
          have hz : gn = 0 := by have : gn < 10 ^ 0 := g4; simpa using this
          rw [hz, Nat.mul_zero, Nat.add_zero] at g5
          have hv3 : V Bw f3 0 m = V Bw f3 0 nl := (V_pad (fun j h1 h2 => by simpa using HM2.out j h1 h2) hm).symm
          have hgk : gk = V Bw f3 0 m * ten19 + r0 := by rw [hv3, HV3.out]; exact HV8.out.symm
          have hlt2 : V Bw f3 0 m < gk := by
            have h1 := HT1.out
            have h2 := HGK0.out
            have h3 : V Bw f3 0 m * 2 ≤ V Bw f3 0 m * ten19 := Nat.mul_le_mul_left _ (by unfold ten19; omega)
            omega
          have hE2 : V 10 (dv fb') 0 (n + 19) + 10 ^ (n + 19) * V Bw f3 0 m = V Bw f 0 na := by
            rw [g5, ← HE.out, hgk, Nat.pow_add]
            have e : ten19 = 10 ^ 19 := by unfold ten19; rfl
            rw [e]; generalize (10:Nat) ^ 19 = t; grind
          have HH := Lib.hid (show DRel w (V Bw f 0 na) na (V Bw f3 0 m) (.slice p' m cap') u4 wr from ⟨m, p', cap', f3, n + 19, fb', rfl, hm2, by omega, by omega, HM3.out, g1, HF3.out, HM1.out, rfl, g2, g3, hE2, g6⟩)
          have HLT2 := Lib.hid hlt2
          clear hE2 hgk hv3 hz g1 g2 g3 g4 g5 g6 hlt2
          go_wp2_with fail
          go_roundg (V Bw f3 0 m)
          case measure => exact HLT2.out
          case rel => exact HH.out
    · obtain rfl : nl = 0 := by omega
      have hg : gk = 0 := q8.symm
      rw [hg, Nat.mul_zero, Nat.add_zero] at q11
      have hn0 : 0 < n := by
        rcases Nat.eq_zero_or_pos n with h | h
        · subst h; exact absurd q11.symm HN0.out
        · exact h
      obtain ⟨G, cap, rfl, hG1, hG2, hG3, hG4⟩ : ∃ g cap, u4 = .slice (some ⟨g, 0, none⟩) n cap ∧ w.heap.size + 1 ≤ g ∧ g < wr.heap.size ∧ n ≤ cap ∧ cap ≤ maxLen := by
        rcases q9.shape with ⟨_, h⟩ | h
        · omega
        · exact h
      have HO := Lib.hid q9; have HR10 := Lib.hid q10; have HE := Lib.hid q11; have HW := Lib.hid q12
      clear q4 q5 q6 q7 q8 q9 q10 q11 q12 hg HT HF
      go_wp2_with fail
      go_loopg [4] n (fun g out wx => ∃ m : Nat, g = m ∧ 0 < m ∧ m ≤ n ∧ out = .slice (some ⟨G, 0, none⟩) m cap ∧ Hid (V 10 (dv fb) 0 m = V Bw f 0 na) ∧ wr = wx)
      case atStart => exact ⟨n, rfl, hn0, Nat.le_refl _, rfl, HE, rfl⟩
      case round =>
        obtain ⟨m, hgm, hm0, hmn, rfl, HM, rfl⟩ := hrel
        obtain rfl : m = _ := hgm.symm
        have hcell := HO.out.cell (j := m - 1) (by omega)
        have hrng := HR10.out (m - 1) (by omega)
        unfold maxLen at hG4
        have i1 : (0 : Int) ≤ (m : Int) - 1 := by omega
        have i2 : (m : Int) - 1 < m := by omega
        by_cases hx : fb (m - 1) = 48
        · rw [hx] at hcell
          have hvm : V 10 (dv fb) 0 (m - 1) = V Bw f 0 na := by
            have := HM.out
            obtain ⟨t, rfl⟩ : ∃ t, m = t + 1 := ⟨m - 1, by omega⟩
            rw [V_succ, Nat.zero_add] at this
            simp only [Nat.add_sub_cancel] at hx ⊢
            have e : dv fb t = 0 := by unfold dv; rw [hx]
            rw [e, Nat.zero_mul, Nat.add_zero] at this
            exact this
          have hm1 : 0 < m - 1 := by
            rcases Nat.eq_zero_or_pos (m - 1) with h | h
            · rw [h] at hvm; exact absurd hvm.symm HN0.out
            · exact h
          have HVM := Lib.hid hvm
          clear hvm hx hrng
          go_wp2_with fail
          go_roundg (m - 1)
          case measure => omega
          case rel => exact ⟨m - 1, rfl, hm1, by omega, rfl, HVM, rfl⟩
        · have hd := digits_of (f := dv fb) (n := m) (N := V Bw f 0 na) (fun j hj => by have := HR10.out j (by omega); unfold dv; omega) hm0 (by unfold dv; omega) HM.out
          have hfin : DigPost (V Bw f 0 na) w (.returned (.slice (some ⟨G, 0, none⟩) m cap)) wr := by
            refine ⟨G, cap, fb, by rw [← hd.1], ?_, fun j hj => ?_, HW.out⟩
            · rw [← hd.1]; exact (HO.out.cut hmn).mono (by omega)
            · have h1 := HR10.out j (by omega)
              have h2 := hd.2 j (by omega)
              unfold dv at h2
              omega
          have HFIN := Lib.hid hfin
          have hne : ((fb (m - 1) : Int) == 48) = false := beq_eq_false_iff_ne.2 (by omega)
          clear hfin hd hrng hx
          go_wp2_with fail
          go_ret
          exact HFIN.out
end Go.Proofs.YtoahgeleenpnjaaGreatDoor.Zd
namespace Go.Proofs.YtoahgeleenpnjaaGreatDoor.Zd
open Go.RowKit Mx

def RevPost (g cap n : Nat) (f : Nat → Nat) (base : Nat) (w : World) (e : Ending) (w' : World) : Prop :=
  e = .returned (.tuple #[]) ∧ Own .u8 5 w' base (.slice (some ⟨g, 0, none⟩) n cap) n (fun j => f (n - 1 - j)) ∧ w.grownBy w' (some g)

def rv (f : Nat → Nat) (n k : Nat) : Nat → Nat := fun j => if j < k ∨ n ≤ j + k then f (n - 1 - j) else f j

theorem rv_step {f : Nat → Nat} {n k : Nat} (h : 2 * k + 1 < n) : ∀ j, j < n → upd (upd (rv f n k) k (f (n - 1 - k))) (n - 1 - k) (f k) j = rv f n (k + 1) j := by
  intro j hj
  unfold upd rv
  split
  · subst_vars
    rw [if_pos (by omega)]
    congr 1; omega
  · split
    · subst_vars; rw [if_pos (by omega)]
    · by_cases h1 : j < k ∨ n ≤ j + k
      · rw [if_pos h1, if_pos (by omega)]
      · rw [if_neg h1, if_neg (by omega)]

set_option maxHeartbeats 2000000 in
theorem reverse_c (g cap n : Nat) (f : Nat → Nat) (base : Nat) (w : World) (h : Own .u8 5 w base (.slice (some ⟨g, 0, none⟩) n cap) n f) (hn : n ≤ 1000000000) :
    Calls Tryz.prog 104 #[.slice (some ⟨g, 0, none⟩) n cap] w (RevPost g cap n f base w) := by
  have HO := Lib.hid h
  clear h
  go_enter Tryz.func104, Tryz.ntmps104
  go_wp2
  go_loopw [2, 3] (fun i j wr => ∃ k : Nat, 2 * k ≤ n + 1 ∧ i = .int .i64 k ∧ j = .int .i64 ((n : Int) - 1 - k) ∧ Hid (Own .u8 5 wr base (.slice (some ⟨g, 0, none⟩) n cap) n (rv f n k)) ∧ Hid (w.grownBy wr (some g))) (fun i _ _ => n - (intOf i).toNat)
  case atStart => exact ⟨0, by omega, rfl, by simp, HO.out.congr (fun j hj => by simp [rv]; omega), gb_refl _ _⟩
  case round =>
    obtain ⟨k, hk, rfl, rfl, HK, HG⟩ := hrel
    by_cases hlt : 2 * k + 1 < n
    · have c1 := HK.out.cell (j := k) (by omega)
      have c2 := HK.out.cell (j := n - 1 - k) (by omega)
      have f1 := HK.out.free (j := k)
      have f2 := HK.out.free (j := n - 1 - k)
      have e1 : rv f n k k = f k := by unfold rv; rw [if_neg (by omega)]
      have e2 : rv f n k (n - 1 - k) = f (n - 1 - k) := by unfold rv; rw [if_neg (by omega)]
      rw [e1] at c1; rw [e2] at c2
      obtain ⟨x, hx⟩ : ∃ x, f k = x := ⟨_, rfl⟩
      obtain ⟨y, hy⟩ : ∃ y, f (n - 1 - k) = y := ⟨_, rfl⟩
      rw [hx] at c1; rw [hy] at c2
      have HNEXT := Lib.hid (((HK.out.set (j := k) (x := y) (by omega)).set (j := n - 1 - k) (x := x) (by omega)).congr (f2 := rv f n (k + 1)) (by rw [← hx, ← hy]; exact rv_step hlt))
      obtain ⟨l, hl⟩ : ∃ l, n - 1 - k = l := ⟨_, rfl⟩
      have hli : (n : Int) - 1 - k = (l : Int) := by omega
      rw [hl] at c2 f2 HNEXT
      rw [hli]
      have i1 : (k : Int) < l := by omega
      have i2 : (l : Int) < n := by omega
      have hkl : k < l := by omega
      have hln : l < n := by omega
      have HL := Lib.hid hl
      have hf2' : (wr.setCell ⟨g, k, none⟩ (.int .u8 y)).frozen? ⟨g, l, none⟩ = false := (HK.out.set (j := k) (x := y) (by omega)).free
      have hc2' := (HK.out.set (j := k) (x := y) (by omega)).cell (j := l) (by omega)
      have e3 : rv f n k l = y := by rw [← hl, e2]; exact hy
      rw [upd_ne (by omega), e3] at hc2'
      clear e1 e2 e3 hx hy hl hli
      go_wp2
      go_region
      all_goals go_wp2
      go_roundw
      case rel => exact ⟨k + 1, by omega, by go_num, val_of (by have := HL.out; omega), HNEXT.out, gb_drew (gb_set (gb_set HG.out _) _)⟩
      case measure => simp [intOf]; omega
    · have hfin : RevPost g cap n f base w (.returned (.tuple #[])) wr := ⟨rfl, HK.out.congr (fun j hj => by
        unfold rv
        by_cases h : j < k ∨ n ≤ j + k
        · rw [if_pos h]
        · rw [if_neg h]; congr 1; omega), HG.out⟩
      have HFIN := Lib.hid hfin
      have i1 : ¬ ((k : Int) < (n : Int) - 1 - k) := by omega
      clear hfin
      go_wp2
      go_end0
      exact HFIN.out

theorem times_alg {A F c P m r s x c2 B : Nat} (h : A + c * P = m * F + r) (hs : s + c2 * B = x * m + c) : A + s * P + c2 * (P * B) = m * (F + x * P) + r := by
  have e : A + s * P + c2 * (P * B) = A + (s + c2 * B) * P := by grind
  rw [e, hs]
  have e2 : A + (x * m + c) * P = (A + c * P) + x * m * P := by grind
  rw [e2, h]; grind

def TPPost (base : Nat) (n m r : Nat) (f : Nat → Nat) (w : World) (e : Ending) (w' : World) : Prop :=
  ∃ v' n' f', e = .returned v' ∧ Own .u64 183 w' base v' n' f' ∧ n' ≤ n + 1 ∧ (∀ j, j < n' → f' j < Bw) ∧ V Bw f' 0 n' = m * V Bw f 0 n + r ∧ Below base w w'

theorem tp_arith {m x c hi lo s ov : Nat} (hm : m < Bw) (hx : x < Bw) (hc : c < Bw) (hml : hi * Bw + lo = x * m) (h1 : s + ov * Bw = lo + c + 0) (hs : s < Bw) : hi + ov < Bw ∧ s + (hi + ov) * Bw = x * m + c := by
  have := mul_top hx hm
  generalize x * m = P at *
  unfold Bw at *
  omega

set_option maxHeartbeats 2000000 in
theorem timesPlus_c (base : Nat) (v : Value) (n m r : Nat) (f : Nat → Nat) (w : World) (hO : Own .u64 183 w base v n f) (hf : ∀ j, j < n → f j < Bw) (hm : m < Bw) (hr : r < Bw) (hn : n ≤ 100000) (hbase : base ≤ w.heap.size) :
    Calls Tryz.prog 127 #[v, .int .u64 m, .int .u64 r] w (TPPost base n m r f w) := by
  obtain ⟨p, cap, rfl, hp⟩ : ∃ p cap, v = .slice p n cap ∧ (0 < n → ∃ g, p = some ⟨g, 0, none⟩ ∧ base ≤ g ∧ g < w.heap.size) := by
    rcases hO.shape with ⟨rfl, rfl⟩ | ⟨g, cap, rfl, hbg, hgs, hnc, hcm⟩
    · exact ⟨_, _, rfl, fun h => by omega⟩
    · exact ⟨_, _, rfl, fun _ => ⟨g, rfl, hbg, hgs⟩⟩
  have HS := Lib.hid hO; have HF := Lib.hid hf; have HM := Lib.hid hm; have HR := Lib.hid hr
  clear hO hf hm hr
  go_enter Tryz.func127, Tryz.ntmps127
  go_wp2
  go_loopw [2, 14] (fun c i wr => ∃ (k c' : Nat) (fk : Nat → Nat), k ≤ n ∧ i = .int .i64 k ∧ c = .int .u64 c' ∧ Hid (c' < Bw) ∧ Hid (Own .u64 183 wr base (.slice p n cap) n fk) ∧ Hid (∀ j, j < n → fk j < Bw) ∧ Hid (∀ j, k ≤ j → j < n → fk j = f j) ∧
      Hid (V Bw fk 0 k + c' * Bw ^ k = m * V Bw f 0 k + r) ∧ Hid (Below base w wr)) (fun _ i _ => n - (intOf i).toNat)
  case atStart => exact ⟨0, r, f, by omega, rfl, rfl, HR, HS, HF, fun _ _ _ => rfl, by simp [Hid, V], Below.refl _ _⟩
  case round =>
    clear HS HF HR
    obtain ⟨k, c', fk, hk, rfl, rfl, HC, HO, HF, HE, HV, HB⟩ := hrel
    by_cases hlt : k < n
    · obtain ⟨g, rfl, hbg, hgs⟩ := hp (by omega)
      have hc1 := HO.out.cell hlt
      have hf1 := HO.out.free (j := k)
      obtain ⟨hi, lo, hmul, hhi, hlo, hml⟩ := mul64_c (fk k) m (HF.out k hlt) HM.out
      obtain ⟨s, ov, hrun, hs, hov, hsum⟩ := add64_run lo c' 0 (by omega) hlo HC.out
      obtain ⟨hcn, har⟩ := tp_arith HM.out (HF.out k hlt) HC.out hml hsum hs
      have hr1 : ∀ w, (callFunc 142 #[.int .u64 lo, .int .u64 c', .int .u64 0]).run Tryz.prog w = .ok (.value (.tuple #[.int .u64 s, .int .u64 ov])) w := hrun
      have HMUL := Lib.hid hmul
      have H2 : Hid (V Bw (upd fk k s) 0 (k + 1) + (hi + ov) * Bw ^ (k + 1) = m * V Bw f 0 (k + 1) + r) := by
        show _ = _
        rw [V_succ, V_succ, Nat.zero_add, upd_at, V_upd_out (by omega), Nat.pow_succ, ← HE.out k (Nat.le_refl _) hlt]
        exact times_alg HV.out har
      have HCN := Lib.hid hcn
      have hcn2 : hi + ov < 18446744073709551616 := hcn
      have HSB := Lib.hid hs
      clear hrun hmul hml hsum hcn har hs hhi hlo
      go_wp2_with (go_at_call 141; refine (HMUL.out _).mono ?_; rintro e w' ⟨rfl, rfl⟩)
      go_roundw
      case rel => exact ⟨k + 1, hi + ov, upd fk k s, by omega, by go_num, by go_num, HCN, HO.out.set hlt, lt_upd HF.out HSB.out, (fun j h1 h2 => by rw [upd_ne (by omega)]; exact HE.out j (by omega) h2), H2, HB.out.setCell hbg _⟩
      case measure => simp [intOf]; omega
    · obtain rfl : k = n := by omega
      by_cases h0 : c' = 0
      · subst h0
        have hfin : TPPost base k m r f w (.returned (.slice p k cap)) wr := ⟨_, k, fk, rfl, HO.out, by omega, HF.out, by have := HV.out; rwa [Nat.zero_mul, Nat.add_zero] at this, HB.out⟩
        have HFIN := Lib.hid hfin
        clear hfin
        go_wp2
        go_ret
        exact HFIN.out
      · have hr0 : ((c' : Int) == 0) = false := beq_eq_false_iff_ne.2 (by omega)
        have hbs : base ≤ wr.heap.size := Nat.le_trans hbase HB.out.size
        have hfar := Lib.hid HO.out.far
        clear hp
        go_wp2_with (at_builtin; refine wpList_app1 (k := .u64) (t := 56) (e := 183) (bytes := 8) Tryz.underlying56 info64 (by omega) rfl _ _ rfl base (.slice p k cap) k fk _ c' rfl rfl HO.out rfl (by omega) (by omega) ?_)
        intro v' w' hO' hG'
        have HO' := Lib.hid hO'; have HG' := Lib.hid hG'
        clear hO' hG'
        go_wp2_with fail
        go_ret
        refine ⟨v', k + 1, _, rfl, HO'.out, by omega, fun j hj => ?_, ?_, HB.out.grown HG'.out hbs hfar.out⟩
        · unfold upd; split
          · exact HC.out
          · exact HF.out j (by omega)
        · rw [V_succ, Nat.zero_add, upd_at, V_upd_out (by omega)]; exact HV.out
end Go.Proofs.YtoahgeleenpnjaaGreatDoor.Zd
namespace Go.Proofs.YtoahgeleenpnjaaGreatDoor.Zd
open Go.RowKit Mx

/-- The value x reads as the whole number Z. -/
def IsInt (w : World) (x : Value) (Z : Int) : Prop := ∃ (s : Bool) (v : Value) (N : Nat), x = .agg #[.bool s, v] ∧ Num w v N ∧ (s = true → N ≠ 0) ∧ Z = if s then -(N : Int) else N

theorem IsInt.kept {w w' : World} {x : Value} {Z : Int} (h : IsInt w x Z) (hg : w.grownBy w' none) : IsInt w' x Z := by
  obtain ⟨s, v, N, rfl, hn, r⟩ := h
  exact ⟨s, v, N, rfl, hn.kept hg, r⟩

def IntPost (Z : Int) (w : World) (e : Ending) (w' : World) : Prop := ∃ x, e = .returned x ∧ IsInt w' x Z ∧ w.grownBy w' none

def sgn (s : Bool) (N : Nat) : Int := if s then -(N : Int) else N

theorem num_len {n : Nat} {f : Nat → Nat} (t : n = 0 ∨ f (n - 1) ≠ 0) : 0 < n ↔ V Bw f 0 n ≠ 0 := by
  constructor
  · intro h
    rcases V_top (b := Bw) (f := f) (o := 0) (n := n) (by simpa using t) with e | e
    · omega
    · have := Nat.pow_pos (n := n - 1) Bw_pos; omega
  · intro h
    exact num_pos h

theorem signed_fin {s : Bool} {p p' : Option Addr} {n m cap' : Nat} {f : Nat → Nat} {w : World} (q1 : m ≤ n) (q2 : m ≤ cap') (q3 : cap' ≤ maxLen) (h : At .u64 w p n f) (hf : ∀ j, j < n → f j < Bw)
    (q4 : m = 0 ∨ f (m - 1) ≠ 0) (q5 : ∀ j, m ≤ j → j < n → f j = 0) (q7 : 0 < m → p' = p) :
    IntPost (sgn s (V Bw f 0 n)) w (.returned (.agg #[.bool (s && decide (0 < m)), .slice p' m cap'])) (w.alloc (.cells #[.bool (s && decide (0 < m)), .slice p' m cap'] 58)) := by
  have hg := World.grownBy_alloc w (.cells #[.bool (s && decide (0 < m)), .slice p' m cap'] 58) none
  have hv : V Bw f 0 n = V Bw f 0 m := V_pad (fun j h1 h2 => by simpa using q5 j h1 h2) q1
  refine ⟨_, rfl, ⟨s && decide (0 < m), .slice p' m cap', V Bw f 0 n, rfl, ⟨p', m, cap', f, rfl, q2, q3, ?_, fun j hj => hf j (by omega), q4, hv.symm⟩, fun h => ?_, ?_⟩, hg⟩
  · by_cases e : m = 0
    · exact .inl e
    · have h2 := (h.pre q1).grown hg (by simp)
      rw [← q7 (by omega)] at h2; exact h2
  · rw [hv]; exact (num_len q4).1 (by simp at h; exact h.2)
  · rw [hv]
    by_cases e : 0 < m
    · cases s <;> simp [sgn, e]
    · obtain rfl : m = 0 := by omega
      cases s <;> simp [sgn, V]

def ValPost (v : Value) (w : World) (e : Ending) (w' : World) : Prop := e = .returned v ∧ w.grownBy w' none
theorem int_open {w : World} {x : Value} {Z : Int} (h : IsInt w x Z) : ∃ s p n cap f, x = .agg #[.bool s, .slice p n cap] ∧ n ≤ cap ∧ cap ≤ maxLen ∧ At .u64 w p n f ∧ (∀ j, j < n → f j < Bw) ∧ (n = 0 ∨ f (n - 1) ≠ 0) ∧ (s = true → 0 < n) ∧ Z = sgn s (V Bw f 0 n) := by
  obtain ⟨s, v, N, rfl, ⟨p, n, cap, f, rfl, h1, h2, h3, h4, h5, rfl⟩, h6, h7⟩ := h
  exact ⟨s, p, n, cap, f, rfl, h1, h2, h3, h4, h5, fun e => num_pos (h6 e), h7⟩
theorem top1 (w : World) (o1 : Obj) : (w.alloc o1).heap[w.heap.size]? = some o1 := heap_alloc_new w o1
theorem int_parts {w : World} {x : Value} {Z : Int} (h : IsInt w x Z) : ∃ s p n cap, x = .agg #[.bool s, .slice p n cap] ∧ Hid (IsInt w (.agg #[.bool s, .slice p n cap]) Z) := by
  obtain ⟨s, v, N, rfl, hn, r⟩ := h
  obtain ⟨p, n, cap, f, rfl, q⟩ := hn
  exact ⟨s, p, n, cap, rfl, s, _, N, rfl, ⟨p, n, cap, f, rfl, q⟩, r⟩

theorem At.off {k : IntKind} {w w' : World} {p : Option Addr} {n r : Nat} {f : Nat → Nat} (h : At k w p n f) (hn : ∀ o x, w.cell? ⟨r, o, none⟩ ≠ some (.int k x)) (hs : w.heap.size ≤ w'.heap.size) (hc : ∀ b o, b ≠ r → w'.cell? ⟨b, o, none⟩ = w.cell? ⟨b, o, none⟩) : At k w' p n f := by
  rcases h with h | ⟨g, off, rfl, hg, hcell⟩
  · exact .inl h
  · by_cases hn0 : n = 0
    · exact .inl hn0
    · have hgr : g ≠ r := by
        intro e; subst e
        exact hn _ _ (hcell 0 (by omega))
      exact .inr ⟨g, off, rfl, Nat.lt_of_lt_of_le hg hs, fun j hj => (hc g _ hgr).trans (hcell j hj)⟩

theorem Num.off {w w' : World} {v : Value} {N r : Nat} (h : Num w v N) (hn : ∀ o x, w.cell? ⟨r, o, none⟩ ≠ some (.int .u64 x)) (hs : w.heap.size ≤ w'.heap.size) (hc : ∀ b o, b ≠ r → w'.cell? ⟨b, o, none⟩ = w.cell? ⟨b, o, none⟩) : Num w' v N := by
  obtain ⟨p, n, cap, f, rfl, h1, h2, h3, r⟩ := h
  exact ⟨p, n, cap, f, rfl, h1, h2, h3.off hn hs hc, r⟩

theorem box_cells {w : World} {r : Nat} {b0 : Bool} {T : TypeId} {q : Option Addr} {l c : Nat} (hb : w.heap[r]? = some (.cells #[.bool b0, .slice q l c] T (0, 0))) (k : IntKind) : ∀ o x, w.cell? ⟨r, o, none⟩ ≠ some (.int k x) := by
  intro o x h
  rw [cell_of_row w r o _ T (0, 0) hb] at h
  match o, h with
  | 0, h => simp at h
  | 1, h => simp at h
  | o + 2, h => simp at h

theorem ret_box {w W w3 : World} {r : Nat} {b0 : Bool} {T : TypeId} {s : Bool} {p : Option Addr} {n c : Nat} {Z : Int} (hb : W.heap[r]? = some (.cells #[.bool b0, .slice none 0 0] T (0, 0))) (hg : W.grownBy w3 none) (hx : IsInt w3 (.agg #[.bool s, .slice p n c]) Z)
    (h0 : w.grownBy W none) (hr : w.heap.size ≤ r) :
    IntPost Z w (.returned (.agg #[.bool s, .slice p n c])) ((w3.setCell ⟨r, 0, none⟩ (.bool s)).setCell ⟨r, 1, none⟩ (.slice p n c)) := by
  have hrW := (Array.getElem?_eq_some_iff.1 hb).1
  have hb3 := (hg.block r hrW (by simp)).trans hb
  refine ⟨_, rfl, ?_, below_gb (gb_new (gb_below (gb_trans h0 hg)) hr (gb_set (gb_set (gb_refl _ _) _) _))⟩
  obtain ⟨s', v', N, he, hn, h1, h2⟩ := hx
  refine ⟨s', v', N, he, hn.off (box_cells hb3 _) (by simp [World.setCell]) (fun b o hbr => ?_), h1, h2⟩
  have e1 : ((w3.setCell ⟨r, 0, none⟩ (.bool s)).setCell ⟨r, 1, none⟩ (.slice p n c)).heap[b]? = w3.heap[b]? := by
    rw [Below.heap_setCell _ _ _ _ (by simpa using hbr), Below.heap_setCell _ _ _ _ (by simpa using hbr)]
  exact World.cell?_of_block (w := w3) e1
theorem ret_cells {W w3 : World} {r : Nat} {b0 : Bool} {T : TypeId} {s : Bool} {p : Option Addr} {n c : Nat} (hb : W.heap[r]? = some (.cells #[.bool b0, .slice none 0 0] T (0, 0))) (hg : W.grownBy w3 none) :
    (w3.setCell ⟨r, 0, none⟩ (.bool s)).cell? ⟨r, 0, none⟩ = some (.bool s) ∧ ((w3.setCell ⟨r, 0, none⟩ (.bool s)).setCell ⟨r, 1, none⟩ (.slice p n c)).cell? ⟨r, 1, none⟩ = some (.slice p n c) := by
  have hrW := (Array.getElem?_eq_some_iff.1 hb).1
  have hb3 := (hg.block r hrW (by simp)).trans hb
  have h1 : (w3.setCell ⟨r, 0, none⟩ (.bool s)).heap[r]? = some (.cells #[.bool s, .slice none 0 0] T (0, 0)) := by
    simp only [World.setCell, Array.getElem?_modify, hb3, if_true, Option.map_some]; rfl
  have h2 : ((w3.setCell ⟨r, 0, none⟩ (.bool s)).setCell ⟨r, 1, none⟩ (.slice p n c)).heap[r]? = some (.cells #[.bool s, .slice p n c] T (0, 0)) := by
    rw [World.setCell]
    simp only [Array.getElem?_modify, h1, if_true, Option.map_some]; rfl
  exact ⟨by rw [cell_of_row _ r 0 _ T (0, 0) h1]; rfl, by rw [cell_of_row _ r 1 _ T (0, 0) h2]; rfl⟩
end Go.Proofs.YtoahgeleenpnjaaGreatDoor.Zd
namespace Go.Proofs.YtoahgeleenpnjaaGreatDoor.Zd
open Go.RowKit Mx

theorem digits_w (p : Option Addr) (n cap : Nat) (f : Nat → Nat) (w : World) (h3 : At .u64 w p n f) (h4 : ∀ j, j < n → f j < Bw) (h5 : n = 0 ∨ f (n - 1) ≠ 0) (h0 : 0 < n) (hL : V Bw f 0 n < Lim) : Calls Tryz.prog 103 #[.slice p n cap] w (DigPost (V Bw f 0 n) w) := by
  have hn := lim_len h5 hL
  unfold LimN at hn
  exact digitsFromLast_w p n cap f w hn h3 h4 h5 h0

theorem nd_small {N : Nat} (h : N < Lim) : nd N ≤ 6400000 := by
  rcases Nat.lt_or_ge 6400000 (nd N) with hlt | hge
  · exfalso
    have hN : N ≠ 0 := by intro e; subst e; rw [nd, dif_pos rfl] at hlt; omega
    have h1 := nd_le N hN
    have h2 : 2 ^ (nd N - 1) ≤ 10 ^ (nd N - 1) := Nat.pow_le_pow_left (by omega) _
    have h3 : Lim = 2 ^ (64 * LimN) := by unfold Lim; rw [Nat.pow_mul, show (2 : Nat) ^ 64 = Bw from rfl]
    have h4 : 2 ^ (64 * LimN) ≤ 2 ^ (nd N - 1) := Nat.pow_le_pow_right (by omega) (by unfold LimN; omega)
    omega
  · exact hge

theorem decL_len (N : Nat) : (decL N).length = nd N := by simp [decL]
theorem dig_lt (N j : Nat) : dig N j < 10 := Nat.mod_lt _ (by omega)
theorem decL_get (N j : Nat) (h : j < (decL N).length) : (decL N)[j].toNat = 48 + dig N (nd N - 1 - j) := by
  have := dig_lt N (nd N - 1 - j)
  simp [decL]
  omega

theorem txt_pos {N : Nat} (h : N ≠ 0) : txtL (N : Int) = decL N := by
  unfold txtL
  rw [if_neg (by omega), if_neg (by omega)]; simp
theorem txt_neg {N : Nat} (h : N ≠ 0) : txtL (-(N : Int)) = 45 :: decL N := by
  unfold txtL
  rw [if_neg (by omega), if_pos (by omega)]; simp

theorem conv_run (w : World) (base g cap n : Nat) (f : Nat → Nat) (l : List UInt8) (h : Own .u8 5 w base (.slice (some ⟨g, 0, none⟩) n cap) n f) (hl : l.length = n) (hf : ∀ j (hj : j < l.length), l[j].toNat = f j) :
    (convert 95 9 (.slice (some ⟨g, 0, none⟩) n cap)).run Tryz.prog w = .ok (.string ⟨l.toArray⟩) w := by
  have := run_convert_bytes_back (P := Tryz.prog) w 95 9 5 ⟨g, 0, none⟩ cap l Tryz.underlying95 Tryz.underlying5 Tryz.underlying9 (fun j hj => by
    rw [addr_add, Nat.zero_add, h.cell (by omega), hf j hj])
  rwa [hl] at this

theorem neg_bytes {N : Nat} {fd : Nat → Nat} (hF : ∀ j, j < nd N → fd j = 48 + dig N j) : ∀ j (hj : j < (45 :: decL N).length), (45 :: decL N)[j].toNat = upd fd (nd N) 45 (nd N + 1 - 1 - j) := by
  intro j hj
  rw [List.length_cons, decL_len] at hj
  match j with
  | 0 => simp [upd]
  | j + 1 =>
    rw [upd_ne (by omega), List.getElem_cons_succ, decL_get, hF _ (by omega)]
    congr 2; omega

set_option maxHeartbeats 2000000 in
theorem String_c (x : Value) (Z : Int) (w : World) (h : IsInt w x Z) (hZ : Z.natAbs < Lim) : Calls Tryz.prog 70 #[x] w (ValPost (txt Z) w) := by
  obtain ⟨s, p, n, cap, f, rfl, h1, h2, h3, h4, h5, h6, rfl⟩ := int_open h
  have hg := World.grownBy_alloc w (.cells #[.bool s, .slice p n cap] 58) none
  have hab : (sgn s (V Bw f 0 n)).natAbs = V Bw f 0 n := by cases s <;> simp [sgn]
  rw [hab] at hZ
  by_cases hn : n = 0
  · subst hn
    have hz : sgn s (V Bw f 0 0) = 0 := by cases s <;> simp [sgn, V]
    rw [hz]
    have hfin : ValPost (txt 0) w (.returned (.string ⟨#[48]⟩)) (w.alloc (.cells #[.bool s, .slice p 0 cap] 58)) := ⟨rfl, hg⟩
    have HFIN := Lib.hid hfin
    clear hfin h h3 h4 h5 h6 hg hz hab hZ
    go_enter Tryz.func70, Tryz.ntmps70
    go_wp2
    go_ret
    exact HFIN.out
  · have hv := (num_len h5).1 (by omega)
    have hne : ((n : Int) == 0) = false := beq_eq_false_iff_ne.2 (by omega)
    have HD := Lib.hid (digits_w p n cap f _ (h3.grown hg (by simp)) h4 h5 (by omega) hZ)
    have HND := Lib.hid (nd_small hZ)
    have HV := Lib.hid hv
    have HG := Lib.hid hg
    generalize V Bw f 0 n = N at *
    clear h h3 h4 h5 h6 hg hab hZ hv
    cases s
    · go_enter Tryz.func70, Tryz.ntmps70
      go_wp2_with (first
        | (go_at_call 103; refine HD.out.mono ?_; rintro e w2 ⟨g, cp, fd, rfl, hO, hF, hg2⟩; have HO := Lib.hid hO; have HF := Lib.hid hF; have HG2 := Lib.hid hg2; obtain ⟨hcr, hfr⟩ := bcell hg2; have hsz2 := hg2.size; clear hO hF hg2)
        | (go_at_call 104; refine (reverse_c g cp (nd N) fd _ _ HO.out (by have := HND.out; omega)).mono ?_; rintro e w3 ⟨rfl, hO3, hG3⟩; have hcv := conv_run w3 _ g cp (nd N) _ (decL N) hO3 (decL_len N) (by intro j hj; rw [decL_get]; rw [decL_len] at hj; exact (HF.out _ (by omega)).symm); have HG3 := Lib.hid hG3; clear hO3 hG3))
      go_ret
      refine ⟨?_, gb_own (gb_trans HG.out HG2.out) HO.out (by simp) HG3.out⟩
      have : txt (sgn false (N : Int).toNat) = .string ⟨(decL N).toArray⟩ := by
        show Value.string ⟨(txtL ((N : Int).toNat : Int)).toArray⟩ = _
        rw [Int.toNat_natCast, txt_pos HV.out]
      rw [Int.toNat_natCast] at this
      rw [this]; rfl
    · go_enter Tryz.func70, Tryz.ntmps70
      go_wp2_with (first
        | (go_at_call 103; refine HD.out.mono ?_; rintro e w2 ⟨g, cp, fd, rfl, hO, hF, hg2⟩; have HO := Lib.hid hO; have HF := Lib.hid hF; have HG2 := Lib.hid hg2; obtain ⟨hcr, hfr⟩ := bcell hg2; have hsz2 := hg2.size; have hND := HND.out; clear hO hF hg2)
        | (at_builtin; refine wpList_app1 (k := .u8) (t := 95) (e := 5) (bytes := 1) Tryz.underlying95 info8 (by omega) rfl _ _ rfl _ (.slice (some ⟨g, 0, none⟩) (nd N) cp) (nd N) fd _ 45 rfl rfl HO.out rfl (by omega) hsz2 ?_))
      intro v' w3 hO' hG'
      obtain ⟨g', cp', rfl, hb', hs', hc', hm'⟩ : ∃ g' cp', v' = .slice (some ⟨g', 0, none⟩) (nd N + 1) cp' ∧ _ ≤ g' ∧ g' < w3.heap.size ∧ nd N + 1 ≤ cp' ∧ cp' ≤ maxLen := by
        rcases hO'.shape with ⟨_, h⟩ | h
        · omega
        · exact h
      have HO' := Lib.hid hO'; have HG' := Lib.hid (gb_own (gb_trans HG.out HG2.out) HO.out (by simp) hG')
      clear hO' hG' hcr hfr hc' hm'
      go_wp2_with (go_at_call 104; refine (reverse_c g' cp' (nd N + 1) _ _ _ HO'.out (by omega)).mono ?_; rintro e w4 ⟨rfl, hO4, hG4⟩; have hcv := conv_run w4 _ g' cp' (nd N + 1) _ (45 :: decL N) hO4 (by rw [List.length_cons, decL_len]) (neg_bytes HF.out); have HG4 := Lib.hid hG4; clear hO4 hG4)
      go_ret
      refine ⟨?_, gb_own HG'.out HO'.out (by simp) HG4.out⟩
      have : txt (sgn true (N : Int).toNat) = .string ⟨(45 :: decL N).toArray⟩ := by
        show Value.string ⟨(txtL (-((N : Int).toNat : Int))).toArray⟩ = _
        rw [Int.toNat_natCast, txt_neg HV.out]
      rw [Int.toNat_natCast] at this
      rw [this]; rfl
end Go.Proofs.YtoahgeleenpnjaaGreatDoor.Zd
namespace Go.Proofs.YtoahgeleenpnjaaGreatDoor.Zd
open Go.RowKit Mx

/-- Plain digits: one at least, no nought ahead of others. -/
def plain (l : List UInt8) : Bool := (l.all fun b => decide (48 ≤ b.toNat ∧ b.toNat ≤ 57)) && (decide (l = [48]) || (decide (l ≠ []) && decide (l.head? ≠ some 48)))

theorem idx_run (s : ByteArray) (k b : Nat) (h : k < s.data.toList.length) (hb : (s.data.toList[k]).toNat = b) : ∀ w : World, (Instr.index 9 (.string s) (.int .i64 (k : Int))).run Tryz.prog w = .ok (.int .u8 (b : Int)) w := by
  intro w
  have hs : s.data.toList.length = s.size := Array.length_toList
  rw [run_index_string w 9 s .i64 k Tryz.underlying9, dif_pos ⟨by omega, by omega⟩]
  have e : (s[((k : Int)).toNat]'(by omega)).toNat = b := by
    rw [← hb]; simp [ByteArray.getElem_eq_getElem_data]
  rw [e]

theorem toList_data (s : ByteArray) : s.toList = s.data.toList := ByteArray.toList_eq s

theorem byte_lt (x : UInt8) : x.toNat < 256 := x.toNat_lt

set_option maxHeartbeats 2000000 in
theorem plain_c (s : ByteArray) (w : World) (hs : s.data.toList.length ≤ 1000) : Calls Tryz.prog 126 #[.string s] w (fun e w' => e = .returned (.bool (plain s.data.toList)) ∧ w' = w) := by
  obtain ⟨n, hn⟩ : ∃ n, s.data.toList.length = n := ⟨_, rfl⟩
  have hsz : s.size = n := by rw [← hn]; exact (Array.length_toList).symm
  rw [hn] at hs
  have HN := Lib.hid hn
  clear hn
  go_enter Tryz.func126, Tryz.ntmps126
  go_wp2
  go_loopw [6] (fun i wr => ∃ k : Nat, k ≤ n ∧ i = .int .i64 k ∧ Hid (∀ j (hj : j < s.data.toList.length), j < k → 48 ≤ (s.data.toList[j]).toNat ∧ (s.data.toList[j]).toNat ≤ 57) ∧ wr = w) (fun i _ => n - (intOf i).toNat)
  case atStart => exact ⟨0, by omega, rfl, fun j _ h => by omega, rfl⟩
  case round =>
    obtain ⟨k, hk, rfl, HD, rfl⟩ := hrel
    by_cases hlt : k < n
    · obtain ⟨b, hb⟩ : ∃ b : Nat, (s.data.toList[k]'(by rw [HN.out]; exact hlt)).toNat = b := ⟨_, rfl⟩
      have hb2 : b < 256 := by rw [← hb]; exact byte_lt _
      have hix := idx_run s k b (by rw [HN.out]; exact hlt) hb
      have HB := Lib.hid hb
      clear hb
      have hbad : (b < 48 ∨ 57 < b) → plain s.data.toList = false := by
        intro h
        unfold plain
        have : (s.data.toList.all fun b => decide (48 ≤ b.toNat ∧ b.toNat ≤ 57)) = false := by
          rw [List.all_eq_false]
          exact ⟨_, List.getElem_mem (by rw [HN.out]; exact hlt), by rw [HB.out]; simp; omega⟩
        rw [this]; rfl
      have HBAD := Lib.hid hbad
      clear hbad
      by_cases h1 : b < 48
      · have d1 : decide ((b : Int) < 48) = true := decide_eq_true (by omega)
        go_wp2
        go_ret
        exact ⟨congrArg (fun b => Ending.returned (.bool b)) (HBAD.out (.inl h1)).symm, rfl⟩
      · have d1 : decide ((b : Int) < 48) = false := decide_eq_false (by omega)
        by_cases h2 : 57 < b
        · have d2 : decide ((57 : Int) < b) = true := decide_eq_true (by omega)
          go_wp2
          go_ret
          exact ⟨congrArg (fun b => Ending.returned (.bool b)) (HBAD.out (.inr h2)).symm, rfl⟩
        · have d2 : decide ((57 : Int) < b) = false := decide_eq_false (by omega)
          go_wp2
          go_roundw
          case rel =>
            refine ⟨k + 1, by omega, by go_num, fun j hj h => ?_, by first | rfl | trivial⟩
            rcases Nat.lt_or_ge j k with h | h
            · exact HD.out j hj h
            · obtain rfl : j = k := by omega
              rw [HB.out]; omega
          case measure => simp [intOf]; omega
    · obtain rfl : k = n := by omega
      have hall : (s.data.toList.all fun b => decide (48 ≤ b.toNat ∧ b.toNat ≤ 57)) = true := by
        rw [List.all_eq_true]
        intro x hx
        obtain ⟨j, hj, rfl⟩ := List.getElem_of_mem hx
        exact decide_eq_true (HD.out j hj (by rw [← HN.out]; exact hj))
      have hp : plain s.data.toList = (decide (s.data.toList = [48]) || (decide (s.data.toList ≠ []) && decide (s.data.toList.head? ≠ some 48))) := by
        unfold plain; rw [hall]; rfl
      have HP := Lib.hid hp
      clear hall hp
      by_cases hz : s.data.toList = [48]
      · have c1 : (s.toList == [48]) = true := by rw [toList_data, hz]; rfl
        have HZ := Lib.hid hz
        clear hz
        go_wp2
        go_ret
        exact ⟨congrArg (fun b => Ending.returned (.bool b)) (show true = plain s.data.toList by rw [HP.out, HZ.out]; rfl), by first | rfl | trivial⟩
      · have c1 : (s.toList == [48]) = false := by rw [toList_data]; exact beq_eq_false_iff_ne.2 hz
        by_cases h0 : k = 0
        · subst h0
          have hnil : s.data.toList = [] := List.eq_nil_of_length_eq_zero HN.out
          have c2 : s.toList.isEmpty = true := by rw [toList_data, hnil]; rfl
          have HZ := Lib.hid hnil
          clear hz hnil
          go_wp2
          go_ret
          exact ⟨congrArg (fun b => Ending.returned (.bool b)) (show false = plain s.data.toList by rw [HP.out, HZ.out]; rfl), by first | rfl | trivial⟩
        · have h0' : 0 < s.data.toList.length := by rw [HN.out]; omega
          have hnil : s.data.toList ≠ [] := List.ne_nil_of_length_pos h0'
          have c2 : s.toList.isEmpty = false := by rw [toList_data]; simpa using hnil
          have hpl : ∀ h : 0 < s.size, ((((s[0]'h).toNat : Nat) : Int) != 48) = plain s.data.toList := by
            intro h
            have e : s[0]'h = s.data.toList[0]'h0' := by simp [ByteArray.getElem_eq_getElem_data]
            rw [e, HP.out, decide_eq_false hz, decide_eq_true hnil, Bool.false_or, Bool.true_and, List.head?_eq_getElem?, List.getElem?_eq_getElem h0']
            generalize s.data.toList[0] = x
            by_cases hx : x = 48
            · subst hx; decide
            · rw [decide_eq_true (by simpa using hx)]
              exact bne_iff_ne.2 (fun e => hx (UInt8.toNat_inj.1 (by have : x.toNat = 48 := by omega
                                                                     rw [this]; rfl)))
          have HPL := Lib.hid hpl
          clear hz hnil hpl
          go_wp2
          go_ret
          exact ⟨congrArg (fun b => Ending.returned (.bool b)) (HPL.out _), by first | rfl | trivial⟩
end Go.Proofs.YtoahgeleenpnjaaGreatDoor.Zd
namespace Go.Proofs.YtoahgeleenpnjaaGreatDoor.Zd
open Go.RowKit Mx

def minus (l : List UInt8) : Bool := Lib.hasPrefix l [45]
def digs (l : List UInt8) : List UInt8 := Lib.trimPrefix l [45]
/-- The number that digits tell. -/
def valL (l : List UInt8) : Nat := l.foldl (fun a b => 10 * a + (b.toNat - 48)) 0
def parseE (l : List UInt8) : Int := if 60 < (digs l).length then 11 else if plain (digs l) = false ∨ (minus l = true ∧ digs l = [48]) then 10 else 0
def parseV (l : List UInt8) : Int := if parseE l = 0 then sgn (minus l) (valL (digs l)) else 0

def ParsePost (l : List UInt8) (w : World) (e : Ending) (w' : World) : Prop := ∃ x, e = .returned (.tuple #[x, .int .i64 (parseE l)]) ∧ IsInt w' x (parseV l) ∧ w.grownBy w' none ∧ ∀ s p n c, x = .agg #[.bool s, .slice p n c] → 0 < n → ∃ a, p = some a ∧ w.heap.size ≤ a.block

theorem plain_dig {l : List UInt8} (h : plain l = true) (j : Nat) (hj : j < l.length) : 48 ≤ l[j].toNat ∧ l[j].toNat ≤ 57 := by
  unfold plain at h
  rw [Bool.and_eq_true, List.all_eq_true] at h
  exact of_decide_eq_true (h.1 _ (List.getElem_mem hj))

theorem valL_take {l : List UInt8} {k : Nat} (hk : k < l.length) : valL (l.take (k + 1)) = 10 * valL (l.take k) + (l[k].toNat - 48) := by
  rw [List.take_add_one, List.getElem?_eq_getElem hk]
  unfold valL
  rw [List.foldl_append]; rfl

theorem cut_c (s : ByteArray) (w : World) : Calls Tryz.prog 125 #[.string s, .string ⟨#[45]⟩] w fun e w' => e = .returned (.tuple #[.string ⟨(digs s.data.toList).toArray⟩, .bool (minus s.data.toList)]) ∧ w' = w :=
  Tryz.strings_CutPrefix s ⟨#[45]⟩ w

theorem zero_int (w : World) : IsInt w (.agg #[.bool false, .slice none 0 0]) 0 :=
  ⟨false, _, 0, rfl, ⟨none, 0, 0, fun _ => 0, rfl, Nat.le_refl _, by omega, .inl rfl, fun j h => by omega, .inl rfl, rfl⟩, by simp, rfl⟩

theorem bad_parse {l : List UInt8} {w : World} {E : Int} (hE : parseE l = E) (h : E ≠ 0) : ParsePost l w (.returned (.tuple #[.agg #[.bool false, .slice none 0 0], .int .i64 E])) (w.alloc (.cells #[.bool false, .slice none 0 0] 58)) :=
  ⟨_, by rw [hE], by unfold parseV; rw [hE, if_neg h]; exact zero_int _, gb_alloc (gb_refl w none) _, fun s p n c h h0 => by simp at h; omega⟩

theorem int_some {w : World} {s : Bool} {p : Option Addr} {n c : Nat} {Z : Int} (h : IsInt w (.agg #[.bool s, .slice p n c]) Z) (hn : 0 < n) : ∃ a, p = some a ∧ a.block < w.heap.size := by
  obtain ⟨s', v, N, he, ⟨p', n', c', f, rfl, _, _, hat, _⟩, _⟩ := h
  simp at he
  obtain ⟨rfl, rfl, rfl, rfl⟩ := he
  rcases hat with h | ⟨g, off, rfl, hg, _⟩
  · omega
  · exact ⟨_, rfl, hg⟩

def SgnPost (p : Option Addr) (Z : Int) (w : World) (e : Ending) (w' : World) : Prop := ∃ s3 p3 n3 c3, e = .returned (.agg #[.bool s3, .slice p3 n3 c3]) ∧ IsInt w' (.agg #[.bool s3, .slice p3 n3 c3]) Z ∧ w.grownBy w' none ∧ (0 < n3 → p3 = p)

theorem sgn_fin {b s : Bool} {p p' : Option Addr} {m cap' : Nat} {Z : Int} {w w' : World} (h : IntPost Z w (.returned (.agg #[.bool (s && b), .slice p' m cap'])) w') (q7 : 0 < m → p' = p) : SgnPost p Z w (.returned (.agg #[.bool (s && b), .slice p' m cap'])) w' := by
  obtain ⟨x, e, h1, h2⟩ := h
  injection e with e
  subst e
  exact ⟨_, _, _, _, rfl, h1, h2, q7⟩

set_option maxHeartbeats 1000000 in
theorem signed_p (s : Bool) (p : Option Addr) (n cap : Nat) (f : Nat → Nat) (w : World) (hn : n ≤ cap) (hc : cap ≤ maxLen) (h : At .u64 w p n f) (hf : ∀ j, j < n → f j < Bw) :
    Calls Tryz.prog 128 #[.bool s, .slice p n cap] w (SgnPost p (sgn s (V Bw f 0 n)) w) := by
  have HT := Lib.hid (fun w1 (hg : w.grownBy w1 none) => trim_c p n cap f w1 hn hc (h.grown hg (by simp)))
  have HH := Lib.hid h; have HF := Lib.hid hf
  clear h hf
  cases s
  · go_enter Tryz.func128, Tryz.ntmps128
    go_wp2_with (go_at_call 131; refine (HT.out _ ?_).mono ?_; (exact World.grownBy_alloc w _ none); rintro e w1 ⟨m, p', cap', rfl, q1, q2, q3, q4, q5, q6, q7, rfl⟩; have Q4 := Lib.hid q4; have Q5 := Lib.hid q5; have Q7 := Lib.hid q7; clear q4 q5 q6 q7)
    have hfin := sgn_fin (signed_fin (s := false) q1 q2 (Nat.le_trans q3 hc) HH.out HF.out Q4.out Q5.out Q7.out) Q7.out
    have HFIN := Lib.hid hfin
    clear hfin
    exact bodyPost_ret (v := .agg #[.bool (false && decide (0 < m)), .slice p' m cap']) (by simp [results, Tryz.results128, go_sem]) rfl HFIN.out
  · go_enter Tryz.func128, Tryz.ntmps128
    go_wp2_with (go_at_call 131; refine (HT.out _ ?_).mono ?_; (exact World.grownBy_alloc w _ none); rintro e w1 ⟨m, p', cap', rfl, q1, q2, q3, q4, q5, q6, q7, rfl⟩; have Q4 := Lib.hid q4; have Q5 := Lib.hid q5; have Q7 := Lib.hid q7; clear q4 q5 q6 q7)
    have hfin := sgn_fin (signed_fin (s := true) q1 q2 (Nat.le_trans q3 hc) HH.out HF.out Q4.out Q5.out Q7.out) Q7.out
    have HFIN := Lib.hid hfin
    clear hfin
    exact bodyPost_ret (v := .agg #[.bool (true && decide (0 < m)), .slice p' m cap']) (by simp [results, Tryz.results128, go_sem]) rfl HFIN.out

/-- What lies behind the rounds. -/
def PRel (l : List UInt8) (w : World) (k : Nat) (v : Value) (wr : World) : Prop :=
  ∃ (mm : Nat) (f : Nat → Nat), mm ≤ k ∧ Own .u64 183 wr (w.heap.size + 1) v mm f ∧ (∀ j, j < mm → f j < Bw) ∧ V Bw f 0 mm = valL (l.take k) ∧ Below (w.heap.size + 1) (w.alloc (.cells #[.bool false, .slice none 0 0] 58)) wr

set_option maxHeartbeats 2000000 in
theorem Parse_c (s : ByteArray) (w : World) : Calls Tryz.prog 101 #[.string s] w (ParsePost s.data.toList w) := by
  obtain ⟨d, hd⟩ : ∃ d : ByteArray, d = ⟨(digs s.data.toList).toArray⟩ := ⟨_, rfl⟩
  have hdl : d.data.toList = digs s.data.toList := by rw [hd]
  have hds : d.size = (digs s.data.toList).length := by rw [← hdl]; exact (Array.length_toList).symm
  obtain ⟨m, hm⟩ : ∃ m, minus s.data.toList = m := ⟨_, rfl⟩
  obtain ⟨n, hn⟩ : ∃ n, (digs s.data.toList).length = n := ⟨_, rfl⟩
  rw [hn] at hds
  have HD := Lib.hid hdl; have HM := Lib.hid hm; have HNN := Lib.hid hn
  have hcut : ∀ w, Calls Tryz.prog 125 #[.string s, .string ⟨#[45]⟩] w fun e w' => e = .returned (.tuple #[.string d, .bool m]) ∧ w' = w := by
    intro w; rw [hd, ← hm]; exact cut_c s w
  have HCUT := Lib.hid hcut
  clear hcut hd hdl hm hn
  by_cases h60 : 60 < n
  · have d1 : decide ((60 : Int) < n) = true := decide_eq_true (by omega)
    have hE : parseE s.data.toList = 11 := by unfold parseE; rw [HNN.out, if_pos h60]
    have HE := Lib.hid hE
    clear hE
    go_enter Tryz.func101, Tryz.ntmps101
    go_wp2_with (go_at_call 125; refine (HCUT.out _).mono ?_; rintro e w1 ⟨rfl, rfl⟩)
    exact bodyPost_ret (v := .tuple #[.agg #[.bool false, .slice none 0 0], .int .i64 11]) (by simp [results, Tryz.results101, go_sem]) rfl (bad_parse HE.out (by decide))
  · have d1 : decide ((60 : Int) < n) = false := decide_eq_false (by omega)
    obtain ⟨pb, hpb⟩ : ∃ pb, plain (digs s.data.toList) = pb := ⟨_, rfl⟩
    have HPB := Lib.hid hpb
    have hpl : ∀ w, Calls Tryz.prog 126 #[.string d] w (fun e w' => e = .returned (.bool pb) ∧ w' = w) := by
      intro w
      have := plain_c d w (by rw [HD.out, HNN.out]; omega)
      rwa [HD.out, hpb] at this
    have HPL := Lib.hid hpl
    have hE : parseE s.data.toList = if pb = false ∨ (m = true ∧ digs s.data.toList = [48]) then 10 else 0 := by unfold parseE; rw [HNN.out, if_neg h60, hpb, HM.out]
    have HE := Lib.hid hE
    clear hE hpl hpb
    cases pb
    · have hE : parseE s.data.toList = 10 := by rw [HE.out, if_pos (.inl rfl)]
      have HE := Lib.hid hE
      clear hE
      go_enter Tryz.func101, Tryz.ntmps101
      go_wp2_with (first
        | (go_at_call 125; refine (HCUT.out _).mono ?_; rintro e w1 ⟨rfl, rfl⟩)
        | (go_at_call 126; refine (HPL.out _).mono ?_; rintro e w1 ⟨rfl, rfl⟩))
      exact bodyPost_ret (v := .tuple #[.agg #[.bool false, .slice none 0 0], .int .i64 10]) (by simp [results, Tryz.results101, go_sem]) rfl (bad_parse HE.out (by decide))
    · by_cases h0 : m = true ∧ digs s.data.toList = [48]
      · obtain ⟨h01, h0⟩ := h0
        have hE : parseE s.data.toList = 10 := by rw [HE.out, if_pos (.inr ⟨h01, h0⟩)]
        subst h01
        have HE2 := Lib.hid hE
        have c1 : (d.toList == [48]) = true := by rw [toList_data, HD.out, h0]; rfl
        clear hE h0 HE
        go_enter Tryz.func101, Tryz.ntmps101
        go_wp2_with (first
          | (go_at_call 125; refine (HCUT.out _).mono ?_; rintro e w1 ⟨rfl, rfl⟩)
          | (go_at_call 126; refine (HPL.out _).mono ?_; rintro e w1 ⟨rfl, rfl⟩))
        exact bodyPost_ret (v := .tuple #[.agg #[.bool false, .slice none 0 0], .int .i64 10]) (by simp [results, Tryz.results101, go_sem]) rfl (bad_parse HE2.out (by decide))
      · have hE : parseE s.data.toList = 0 := by rw [HE.out, if_neg (by rintro (h | h); · cases h
                                                                        · exact h0 h)]
        have HE2 := Lib.hid hE
        have hp1 : plain (digs s.data.toList) = true := HPB.out
        have hdig := plain_dig hp1
        have HDIG := Lib.hid hdig
        have hstart : PRel (digs s.data.toList) w 0 (.slice none 0 0) (w.alloc (.cells #[.bool false, .slice none 0 0] 58)) :=
          ⟨0, fun _ => 0, Nat.le_refl _, ⟨rfl, .inl ⟨rfl, rfl⟩⟩, fun j h => by omega, by simp [V, valL], Below.refl _ _⟩
        have HST := Lib.hid hstart
        clear hE HE hp1 hdig hstart
        cases m
        · clear h0
          go_enter Tryz.func101, Tryz.ntmps101
          go_wp2_with (first
            | (go_at_call 125; refine (HCUT.out _).mono ?_; rintro e w1 ⟨rfl, rfl⟩)
            | (go_at_call 126; refine (HPL.out _).mono ?_; rintro e w1 ⟨rfl, rfl⟩))
          go_loopw [6, 30] (fun v i wr => ∃ k : Nat, k ≤ n ∧ i = .int .i64 k ∧ Hid (PRel (digs s.data.toList) w k v wr)) (fun _ i _ => n - (intOf i).toNat)
          case atStart => exact ⟨0, by omega, rfl, HST⟩
          case round =>
            clear HST
            obtain ⟨k, hk, rfl, HR⟩ := hrel
            by_cases hlt : k < n
            · obtain ⟨mm, f, h1, h2, h3, h4, h5⟩ := HR.out
              have hkl : k < (digs s.data.toList).length := by rw [HNN.out]; exact hlt
              obtain ⟨b, hbv⟩ : ∃ b : Nat, ((digs s.data.toList)[k]'hkl).toNat = b := ⟨_, rfl⟩
              have hix := idx_run d k b (by rw [HD.out]; exact hkl) (by rw [← hbv]; simp only [HD.out])
              have hb := HDIG.out k hkl
              rw [hbv] at hb
              have hv := valL_take hkl
              rw [hbv, ← h4] at hv
              have hsz := h5.size
              have HTP := Lib.hid (timesPlus_c (w.heap.size + 1) u6 mm 10 (b - 48) f wr h2 h3 (by unfold Bw; omega) (by unfold Bw; omega) (by omega) (by simpa using hsz))
              have HV := Lib.hid hv; have HB := Lib.hid h5
              have hb8 : IntKind.u8.wrap ((b : Int) - 48) = ((b - 48 : Nat) : Int) := by rw [IntKind.wrap_u8]; omega
              clear h2 h3 h4 h5 hv hbv hkl hsz
              go_wp2_with (go_at_call 127; refine HTP.out.mono ?_; rintro e w2 ⟨v', m', f', rfl, o1, o2, o3, o4, o5⟩; have O1 := Lib.hid o1; have O3 := Lib.hid o3; have O4 := Lib.hid o4; have O5 := Lib.hid o5; clear o1 o3 o4 o5)
              go_roundw
              case rel => exact ⟨k + 1, by omega, by go_num, m', f', by omega, O1.out, O3.out, by rw [O4.out, HV.out], HB.out.trans O5.out⟩
              case measure => simp [intOf]; omega
            · obtain rfl : k = n := by omega
              obtain ⟨mm, f, h1, h2, h3, h4, h5⟩ := HR.out
              obtain ⟨p, cap, rfl, hmc, hcm, hpa⟩ : ∃ p cap, u6 = .slice p mm cap ∧ mm ≤ cap ∧ cap ≤ maxLen ∧ ∀ a, p = some a → w.heap.size + 1 ≤ a.block := by
                rcases h2.shape with ⟨rfl, rfl⟩ | ⟨g, cap, rfl, hbg, _, hnc, hcm⟩
                · exact ⟨_, _, rfl, by omega, by omega, fun a h => by cases h⟩
                · exact ⟨_, _, rfl, hnc, hcm, fun a h => by cases h; exact hbg⟩
              rw [List.take_of_length_le (by rw [HNN.out]; omega)] at h4
              have HSG := Lib.hid (signed_p false p mm cap f wr hmc hcm h2.at.2 h3)
              have HV := Lib.hid h4; have HB := Lib.hid h5
              clear h2 h3 h4 h5 HR
              go_wp2_with (go_at_call 128; refine HSG.out.mono ?_; rintro e w3 ⟨s3, p3, n3, c3, rfl, hx, hg, hp3⟩; have HX := Lib.hid hx; have HP3 := Lib.hid hp3; clear hp3; have hgg := gb_trans (below_gb (row := none) (a := w.alloc (.cells #[.bool false, .slice none 0 0] 58)) (by simpa using HB.out)) hg; have HG3 := Lib.hid hgg; obtain ⟨hcr3, hfr3⟩ := bcell hgg; have hz3 : w.heap.size < w3.heap.size := (by have := hgg.size; simp at this; omega); clear hx hg hgg)
              have hb := top1 w (.cells #[.bool false, .slice none 0 0] 58)
              obtain ⟨x, e1, e2, e3⟩ := ret_box hb HG3.out HX.out (gb_alloc (gb_refl w none) _) (Nat.le_refl _)
              injection e1 with e1; subst e1
              obtain ⟨rc0, rc1⟩ := ret_cells (s := s3) (p := p3) (n := n3) (c := c3) hb HG3.out
              refine bodyPost_ret (v := .tuple #[.agg #[.bool s3, .slice p3 n3 c3], .int .i64 0]) (by simp [results, Tryz.results101, go_sem, rc0, rc1]) rfl ⟨_, by rw [HE2.out], ?_, e3, ?_⟩
              · unfold parseV
                rw [if_pos HE2.out, HM.out, ← HV.out]; exact e2
              · intro s p' n c h h0
                simp at h
                obtain ⟨rfl, rfl, rfl, rfl⟩ := h
                obtain ⟨a, ha, _⟩ := int_some e2 h0
                refine ⟨a, ha, ?_⟩
                have := hpa a (by rw [← HP3.out h0]; exact ha)
                omega
        · have c1 : (d.toList == [48]) = false := by rw [toList_data, HD.out]; exact beq_eq_false_iff_ne.2 (fun h => h0 ⟨rfl, h⟩)
          clear h0
          go_enter Tryz.func101, Tryz.ntmps101
          go_wp2_with (first
            | (go_at_call 125; refine (HCUT.out _).mono ?_; rintro e w1 ⟨rfl, rfl⟩)
            | (go_at_call 126; refine (HPL.out _).mono ?_; rintro e w1 ⟨rfl, rfl⟩))
          go_loopw [6, 30] (fun v i wr => ∃ k : Nat, k ≤ n ∧ i = .int .i64 k ∧ Hid (PRel (digs s.data.toList) w k v wr)) (fun _ i _ => n - (intOf i).toNat)
          case atStart => exact ⟨0, by omega, rfl, HST⟩
          case round =>
            clear HST
            obtain ⟨k, hk, rfl, HR⟩ := hrel
            by_cases hlt : k < n
            · obtain ⟨mm, f, h1, h2, h3, h4, h5⟩ := HR.out
              have hkl : k < (digs s.data.toList).length := by rw [HNN.out]; exact hlt
              obtain ⟨b, hbv⟩ : ∃ b : Nat, ((digs s.data.toList)[k]'hkl).toNat = b := ⟨_, rfl⟩
              have hix := idx_run d k b (by rw [HD.out]; exact hkl) (by rw [← hbv]; simp only [HD.out])
              have hb := HDIG.out k hkl
              rw [hbv] at hb
              have hv := valL_take hkl
              rw [hbv, ← h4] at hv
              have hsz := h5.size
              have HTP := Lib.hid (timesPlus_c (w.heap.size + 1) u6 mm 10 (b - 48) f wr h2 h3 (by unfold Bw; omega) (by unfold Bw; omega) (by omega) (by simpa using hsz))
              have HV := Lib.hid hv; have HB := Lib.hid h5
              have hb8 : IntKind.u8.wrap ((b : Int) - 48) = ((b - 48 : Nat) : Int) := by rw [IntKind.wrap_u8]; omega
              clear h2 h3 h4 h5 hv hbv hkl hsz
              go_wp2_with (go_at_call 127; refine HTP.out.mono ?_; rintro e w2 ⟨v', m', f', rfl, o1, o2, o3, o4, o5⟩; have O1 := Lib.hid o1; have O3 := Lib.hid o3; have O4 := Lib.hid o4; have O5 := Lib.hid o5; clear o1 o3 o4 o5)
              go_roundw
              case rel => exact ⟨k + 1, by omega, by go_num, m', f', by omega, O1.out, O3.out, by rw [O4.out, HV.out], HB.out.trans O5.out⟩
              case measure => simp [intOf]; omega
            · obtain rfl : k = n := by omega
              obtain ⟨mm, f, h1, h2, h3, h4, h5⟩ := HR.out
              obtain ⟨p, cap, rfl, hmc, hcm, hpa⟩ : ∃ p cap, u6 = .slice p mm cap ∧ mm ≤ cap ∧ cap ≤ maxLen ∧ ∀ a, p = some a → w.heap.size + 1 ≤ a.block := by
                rcases h2.shape with ⟨rfl, rfl⟩ | ⟨g, cap, rfl, hbg, _, hnc, hcm⟩
                · exact ⟨_, _, rfl, by omega, by omega, fun a h => by cases h⟩
                · exact ⟨_, _, rfl, hnc, hcm, fun a h => by cases h; exact hbg⟩
              rw [List.take_of_length_le (by rw [HNN.out]; omega)] at h4
              have HSG := Lib.hid (signed_p true p mm cap f wr hmc hcm h2.at.2 h3)
              have HV := Lib.hid h4; have HB := Lib.hid h5
              clear h2 h3 h4 h5 HR
              go_wp2_with (go_at_call 128; refine HSG.out.mono ?_; rintro e w3 ⟨s3, p3, n3, c3, rfl, hx, hg, hp3⟩; have HX := Lib.hid hx; have HP3 := Lib.hid hp3; clear hp3; have hgg := gb_trans (below_gb (row := none) (a := w.alloc (.cells #[.bool false, .slice none 0 0] 58)) (by simpa using HB.out)) hg; have HG3 := Lib.hid hgg; obtain ⟨hcr3, hfr3⟩ := bcell hgg; have hz3 : w.heap.size < w3.heap.size := (by have := hgg.size; simp at this; omega); clear hx hg hgg)
              have hb := top1 w (.cells #[.bool false, .slice none 0 0] 58)
              obtain ⟨x, e1, e2, e3⟩ := ret_box hb HG3.out HX.out (gb_alloc (gb_refl w none) _) (Nat.le_refl _)
              injection e1 with e1; subst e1
              obtain ⟨rc0, rc1⟩ := ret_cells (s := s3) (p := p3) (n := n3) (c := c3) hb HG3.out
              refine bodyPost_ret (v := .tuple #[.agg #[.bool s3, .slice p3 n3 c3], .int .i64 0]) (by simp [results, Tryz.results101, go_sem, rc0, rc1]) rfl ⟨_, by rw [HE2.out], ?_, e3, ?_⟩
              · unfold parseV
                rw [if_pos HE2.out, HM.out, ← HV.out]; exact e2
              · intro s p' n c h h0
                simp at h
                obtain ⟨rfl, rfl, rfl, rfl⟩ := h
                obtain ⟨a, ha, _⟩ := int_some e2 h0
                refine ⟨a, ha, ?_⟩
                have := hpa a (by rw [← HP3.out h0]; exact ha)
                omega
end Go.Proofs.YtoahgeleenpnjaaGreatDoor.Zd
namespace Go.Proofs.YtoahgeleenpnjaaGreatDoor.Zd
open Go.RowKit Mx

theorem md_cons (t : List UInt8) : minus (45 :: t) = true ∧ digs (45 :: t) = t := by
  simp [minus, digs, Lib.hasPrefix, Lib.trimPrefix]
theorem md_other {x : UInt8} {t : List UInt8} (h : x.toNat ≠ 45) : minus (x :: t) = false ∧ digs (x :: t) = x :: t := by
  have hx : x ≠ 45 := fun e => h (by rw [e]; rfl)
  have h1 : Lib.hasPrefix (x :: t) [45] = false := by
    have : ((45 : UInt8) == x) = false := beq_eq_false_iff_ne.2 (fun e => hx e.symm)
    simp [Lib.hasPrefix, List.isPrefixOf, this]
  exact ⟨h1, by unfold digs Lib.trimPrefix; rw [h1]; rfl⟩

theorem md45 {l : List UInt8} (h : 0 < l.length) (hb : l[0].toNat = 45) : minus l = true ∧ digs l = l.drop 1 := by
  match l, h, hb with
  | x :: t, _, hb =>
    obtain rfl : x = 45 := UInt8.toNat_inj.1 hb
    exact md_cons t
theorem mdne {l : List UInt8} (h : 0 < l.length) (hb : l[0].toNat ≠ 45) : minus l = false ∧ digs l = l := by
  match l, h, hb with
  | x :: t, _, hb => exact md_other hb

/-- The j-th digit. -/
def dgt (D : List UInt8) (j : Nat) : Nat := (D.getD j 0).toNat - 48

theorem dgt_get {D : List UInt8} {j : Nat} (h : j < D.length) : dgt D j = D[j].toNat - 48 := by
  unfold dgt; rw [List.getD_eq_getElem?_getD, List.getElem?_eq_getElem h]; rfl

theorem valL_V (D : List UInt8) : ∀ k, k ≤ D.length → valL (D.take k) = V 10 (fun j => dgt D (k - 1 - j)) 0 k
  | 0, _ => by simp [valL, V]
  | k + 1, h => by
    rw [valL_take (by omega), valL_V D k (by omega), V_front, ← dgt_get]
    simp only [Nat.add_sub_cancel]
    rw [V_congr (f := fun j => dgt D (k - j)) (g := fun j => dgt D (k - 1 - j)) (o := 1) (p := 0) (fun j hj => by
      show dgt D (k - (1 + j)) = dgt D (k - 1 - (0 + j))
      congr 1; omega)]
    show _ = dgt D (k - 0) + _
    rw [Nat.sub_zero]; omega

theorem valL_all (D : List UInt8) : valL D = V 10 (fun j => dgt D (D.length - 1 - j)) 0 D.length := by
  have := valL_V D D.length (Nat.le_refl _)
  rwa [List.take_length] at this

theorem v10_pos {n : Nat} {f : Nat → Nat} (t : n = 0 ∨ f (n - 1) ≠ 0) : 0 < n ↔ V 10 f 0 n ≠ 0 := by
  constructor
  · intro h
    rcases V_top (b := 10) (f := f) (o := 0) (n := n) (by simpa using t) with e | e
    · omega
    · have := Nat.pow_pos (n := n - 1) (show 0 < 10 by omega); omega
  · intro h
    rcases Nat.eq_zero_or_pos n with e | e
    · subst e; exact absurd rfl h
    · exact e

theorem lim_le_pow {N k : Nat} (h : N ≤ Bw ^ k) (hk : k < LimN) : N < Lim := by
  unfold Lim
  exact Nat.lt_of_le_of_lt h (Nat.pow_lt_pow_right (by unfold Bw; omega) hk)

theorem valL_go (l : List UInt8) (h : ∀ b ∈ l, b.toNat ≤ 57) (a : Nat) : l.foldl (fun a b => 10 * a + (b.toNat - 48)) a < (a + 1) * 10 ^ l.length := by
  induction l generalizing a with
  | nil => simp
  | cons x xs ih =>
    have h1 := h x (by simp)
    have h2 := ih (fun b hb => h b (by simp [hb])) (10 * a + (x.toNat - 48))
    rw [List.foldl_cons, List.length_cons, Nat.pow_succ]
    refine Nat.lt_of_lt_of_le h2 ?_
    have h3 : 10 * a + (x.toNat - 48) + 1 ≤ (a + 1) * 10 := by omega
    calc (10 * a + (x.toNat - 48) + 1) * 10 ^ xs.length ≤ ((a + 1) * 10) * 10 ^ xs.length := Nat.mul_le_mul_right _ h3
      _ = (a + 1) * (10 ^ xs.length * 10) := by rw [Nat.mul_assoc, Nat.mul_comm 10]

theorem valL_lt {l : List UInt8} (h : plain l = true) : valL l < 10 ^ l.length := by
  have := valL_go l (fun b hb => by
    obtain ⟨j, hj, rfl⟩ := List.getElem_of_mem hb
    exact (plain_dig h j hj).2) 0
  simpa [valL] using this

theorem digs_le (l : List UInt8) : (digs l).length ≤ l.length := by
  unfold digs Lib.trimPrefix
  split
  · simp
  · exact Nat.le_refl _

/-- What is read from a text of k bytes is less than 10 to the power of k, and of 60. -/
theorem parseV_lt (l : List UInt8) : (parseV l).natAbs < 10 ^ l.length ∧ (parseV l).natAbs < 10 ^ 60 := by
  unfold parseV
  by_cases h : parseE l = 0
  · rw [if_pos h]
    have e : (sgn (minus l) (valL (digs l))).natAbs = valL (digs l) := by unfold sgn; split <;> simp
    rw [e]
    have h1 : plain (digs l) = true ∧ (digs l).length ≤ 60 := by
      unfold parseE at h
      by_cases h60 : 60 < (digs l).length
      · rw [if_pos h60] at h; omega
      · rw [if_neg h60] at h
        by_cases hp : plain (digs l) = false
        · rw [if_pos (.inl hp)] at h; omega
        · exact ⟨by simpa using hp, by omega⟩
    have h2 := valL_lt h1.1
    exact ⟨Nat.lt_of_lt_of_le h2 (Nat.pow_le_pow_right (by omega) (digs_le l)), Nat.lt_of_lt_of_le h2 (Nat.pow_le_pow_right (by omega) h1.2)⟩
  · rw [if_neg h]
    exact ⟨by simpa using Nat.pow_pos (by omega), by simp⟩

theorem parseV_lim (l : List UInt8) : (parseV l).natAbs < Lim := by
  refine lim_le_pow (k := 4) (Nat.le_of_lt (Nat.lt_of_lt_of_le (parseV_lt l).2 ?_)) (by unfold LimN; omega)
  have h1 : (10 : Nat) ^ 60 ≤ (10 ^ 19) ^ 4 := by rw [← Nat.pow_mul]; exact Nat.pow_le_pow_right (by omega) (by omega)
  exact Nat.le_trans h1 (Nat.pow_le_pow_left (by unfold Bw; omega) 4)

theorem decL_digits {D : List UInt8} (hp : ∀ j (hj : j < D.length), 48 ≤ D[j].toNat ∧ D[j].toNat ≤ 57) (h0 : 0 < D.length) (ht : D[0].toNat ≠ 48) : valL D ≠ 0 ∧ decL (valL D) = D := by
  have hv := valL_all D
  have hf : ∀ j, j < D.length → dgt D (D.length - 1 - j) < 10 := by
    intro j hj
    have hjl : D.length - 1 - j < D.length := by omega
    have := hp _ hjl
    rw [dgt_get hjl]; omega
  have htop : dgt D (D.length - 1 - (D.length - 1)) ≠ 0 := by
    rw [Nat.sub_self, dgt_get h0]
    have := hp 0 h0; omega
  have hne : valL D ≠ 0 := by
    rw [hv]; exact (v10_pos (f := fun j => dgt D (D.length - 1 - j)) (.inr htop)).1 h0
  obtain ⟨d1, d2⟩ := digits_of (f := fun j => dgt D (D.length - 1 - j)) hf h0 htop hv.symm
  refine ⟨hne, List.ext_getElem (by rw [decL_len, ← d1]) fun j h1 h2 => ?_⟩
  apply UInt8.toNat_inj.1
  rw [decL_get, ← d1, ← d2 (D.length - 1 - j) (by omega)]
  show 48 + dgt D (D.length - 1 - (D.length - 1 - j)) = _
  rw [show D.length - 1 - (D.length - 1 - j) = j by omega, dgt_get h2]
  have := hp j h2
  omega

theorem split_l (l : List UInt8) : l = if minus l then 45 :: digs l else digs l := by
  match l with
  | [] => rfl
  | x :: t =>
    by_cases hx : x.toNat = 45
    · obtain ⟨h1, h2⟩ := md45 (l := x :: t) (by simp) hx
      have : x = 45 := UInt8.toNat_inj.1 hx
      rw [h1, if_pos rfl, h2, this]; rfl
    · obtain ⟨h1, h2⟩ := mdne (l := x :: t) (by simp) hx
      rw [h1, h2]; rfl

theorem txtL_parse {l : List UInt8} (h : parseE l = 0) : txtL (parseV l) = l := by
  have hE := h
  unfold parseE at h
  by_cases h60 : 60 < (digs l).length
  · rw [if_pos h60] at h; cases h
  · rw [if_neg h60] at h
    by_cases hb : plain (digs l) = false ∨ (minus l = true ∧ digs l = [48])
    · rw [if_pos hb] at h; cases h
    · have hp : plain (digs l) = true := by
        rcases hp : plain (digs l) with _ | _
        · exact absurd (.inl hp) hb
        · rfl
      have hdig := plain_dig hp
      have hmz : ¬ (minus l = true ∧ digs l = [48]) := fun h => hb (.inr h)
      have hsp := split_l l
      unfold parseV
      rw [if_pos hE]
      by_cases hz : digs l = [48]
      · have hm : minus l = false := by
          rcases hm : minus l with _ | _
          · rfl
          · exact absurd ⟨hm, hz⟩ hmz
        rw [hm] at hsp
        simp only [Bool.false_eq_true, if_false] at hsp
        rw [hm, hz]
        rw [hz] at hsp
        rw [hsp]; rfl
      · have h0 : 0 < (digs l).length := by
          rcases Nat.eq_zero_or_pos (digs l).length with e | e
          · rw [List.eq_nil_of_length_eq_zero e] at hp; cases hp
          · exact e
        have ht : (digs l)[0].toNat ≠ 48 := by
          intro e
          have e0 : (digs l)[0] = 48 := UInt8.toNat_inj.1 e
          unfold plain at hp
          rw [decide_eq_false hz, List.head?_eq_getElem?, List.getElem?_eq_getElem h0, e0] at hp
          simp at hp
        obtain ⟨k1, k2⟩ := decL_digits hdig h0 ht
        rcases hm : minus l with _ | _
        · rw [hm] at hsp
          simp only [Bool.false_eq_true, if_false] at hsp
          show txtL ((valL (digs l) : Nat) : Int) = l
          rw [txt_pos k1, k2]; exact hsp.symm
        · rw [hm] at hsp
          simp only [if_true] at hsp
          show txtL (-((valL (digs l) : Nat) : Int)) = l
          rw [txt_neg k1, k2]; exact hsp.symm

end Go.Proofs.YtoahgeleenpnjaaGreatDoor.Zd
