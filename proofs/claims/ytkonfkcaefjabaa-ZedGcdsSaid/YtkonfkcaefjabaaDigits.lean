/- Decimal digits of a number, and digitsFromLast. -/
import Derived.Test.YtkonfkcaefjabaaOwn
namespace Go.Proofs.Ytkonfkcaefjabaa
open Go.RowKit Mx

/-- How many decimal digits N has (0 of 0). -/
def nd (N : Nat) : Nat := if h : N = 0 then 0 else nd (N / 10) + 1
termination_by N
decreasing_by omega

theorem nd_lt (N : Nat) : N < 10 ^ nd N := by
  induction N using nd.induct with
  | case1 => simp [nd]
  | case2 N h ih => rw [nd, dif_neg h, Nat.pow_succ]; omega

theorem nd_le (N : Nat) (h : N ≠ 0) : 10 ^ (nd N - 1) ≤ N := by
  induction N using nd.induct with
  | case1 => exact absurd rfl h
  | case2 N h ih =>
    rw [nd, dif_neg h, Nat.add_sub_cancel]
    by_cases h1 : N / 10 = 0
    · rw [h1, nd, dif_pos rfl]; simp; omega
    · have := ih h1
      have e : 10 ^ nd (N / 10) = 10 ^ (nd (N / 10) - 1) * 10 := by
        rw [← Nat.pow_succ]; congr 1
        have : nd (N / 10) ≠ 0 := by rw [nd, dif_neg h1]; omega
        omega
      omega

theorem nd_of {N n : Nat} (h1 : N < 10 ^ n) (h2 : 10 ^ (n - 1) ≤ N) (hn : 0 < n) : n = nd N := by
  have hN : N ≠ 0 := by have := Nat.pow_pos (n := n - 1) (show 0 < 10 by omega); omega
  have a := nd_lt N
  have b := nd_le N hN
  rcases Nat.lt_trichotomy n (nd N) with h | h | h
  · have : 10 ^ n ≤ 10 ^ (nd N - 1) := Nat.pow_le_pow_right (by omega) (by omega); omega
  · exact h
  · have : 10 ^ nd N ≤ 10 ^ (n - 1) := Nat.pow_le_pow_right (by omega) (by omega); omega

def dig (N j : Nat) : Nat := N / 10 ^ j % 10

/-- Digits without a nought at the end are the number's. -/
theorem digits_of {f : Nat → Nat} {n N : Nat} (hf : ∀ j, j < n → f j < 10) (hn : 0 < n) (ht : f (n - 1) ≠ 0) (hV : V 10 f 0 n = N) : n = nd N ∧ ∀ j, j < n → f j = dig N j := by
  refine ⟨nd_of ?_ ?_ hn, fun j hj => ?_⟩
  · rw [← hV]; exact V_lt (fun j hj => by rw [Nat.zero_add]; exact hf j hj)
  · rcases V_top (b := 10) (f := f) (o := 0) (n := n) (.inr (by simpa using ht)) with h | h
    · omega
    · rw [← hV]; exact h
  · have := V_digit (b := 10) (f := f) (o := 0) (n := n) (by omega) (fun j hj => by rw [Nat.zero_add]; exact hf j hj) hj
    rw [Nat.zero_add] at this
    rw [← this, ← hV]; rfl

/-- A number's text without a sign, the highest digit first. -/
def decL (N : Nat) : List UInt8 := (List.range (nd N)).map fun j => UInt8.ofNat (48 + dig N (nd N - 1 - j))

/-- A number's text. -/
def txtL (Z : Int) : List UInt8 := if Z = 0 then [48] else if Z < 0 then 45 :: decL Z.natAbs else decL Z.natAbs
def txt (Z : Int) : Value := .string ⟨(txtL Z).toArray⟩

def DigPost (N : Nat) (w : World) (e : Ending) (w' : World) : Prop :=
  ∃ g cap f, e = .returned (.slice (some ⟨g, 0, none⟩) ((nd N : Nat)) cap) ∧ Own .u8 5 w' w.heap.size (.slice (some ⟨g, 0, none⟩) (nd N) cap) (nd N) f ∧ (∀ j, j < nd N → f j = 48 + dig N j) ∧ w.grownBy w' none

theorem info8 : (Try.prog.info? 5).map (fun i => (i.zero, i.size, i.bytes)) = some (some (.int .u8 0), 1, 1) := by kernel_rfl

def ten19 : Nat := 10000000000000000000

/-- The digits that bytes are. -/
def dv (f : Nat → Nat) : Nat → Nat := fun j => f j - 48

def DRel (w : World) (N na : Nat) (g : Nat) (left out : Value) (wr : World) : Prop :=
  ∃ nl p cl fl n fb, left = .slice p nl cl ∧ nl ≤ cl ∧ cl ≤ maxLen ∧ nl ≤ na ∧ (0 < nl → p = some ⟨w.heap.size, 0, none⟩) ∧ Blk .u64 wr w.heap.size na fl ∧ (∀ j, j < na → fl j < Bw) ∧ (nl = 0 ∨ fl (nl - 1) ≠ 0) ∧ V Bw fl 0 nl = g ∧
    Own .u8 5 wr (w.heap.size + 1) out n fb ∧ (∀ j, j < n → 48 ≤ fb j ∧ fb j < 58) ∧ V 10 (dv fb) 0 n + 10 ^ n * g = N ∧ w.grownBy wr none

def GRel (w wo : World) (na : Nat) (fl fb : Nat → Nat) (n r0 : Nat) (r gn : Nat) (out : Value) (wr : World) : Prop :=
  ∃ fb', Blk .u64 wr w.heap.size na fl ∧ Own .u8 5 wr (w.heap.size + 1) out (n + r) fb' ∧ (∀ j, j < n + r → 48 ≤ fb' j ∧ fb' j < 58) ∧ gn < 10 ^ (19 - r) ∧ V 10 (dv fb') 0 (n + r) + 10 ^ (n + r) * gn = V 10 (dv fb) 0 n + 10 ^ n * r0 ∧ w.grownBy wr none

theorem dv_upd {f : Nat → Nat} {n y : Nat} : V 10 (dv (upd f n y)) 0 (n + 1) = V 10 (dv f) 0 n + (y - 48) * 10 ^ n := by
  rw [V_succ, Nat.zero_add]
  congr 1
  · exact V_congr (fun j hj => by unfold dv; rw [upd_ne (by omega)])
  · simp [dv, upd]

theorem digit_step {f : Nat → Nat} {m gn T : Nat} (h : V 10 (dv f) 0 m + 10 ^ m * gn = T) : V 10 (dv (upd f m (48 + gn % 10))) 0 (m + 1) + 10 ^ (m + 1) * (gn / 10) = T := by
  rw [dv_upd, Nat.add_sub_cancel_left, Nat.pow_succ, ← h]
  have := Nat.div_add_mod gn 10
  generalize gn / 10 = a at *
  generalize gn % 10 = b at *
  rw [← this]; grind

theorem digit_rng {f : Nat → Nat} {m gn : Nat} (h : ∀ j, j < m → 48 ≤ f j ∧ f j < 58) : ∀ j, j < m + 1 → 48 ≤ upd f m (48 + gn % 10) j ∧ upd f m (48 + gn % 10) j < 58 := by
  intro j hj
  unfold upd
  split
  · omega
  · exact h j (by omega)

theorem digit_len {n X g N na : Nat} (h : X + 10 ^ n * g = N) (hg : 0 < g) (hN : N < Bw ^ na) : n < 64 * na := by
  have h1 : 10 ^ n * 1 ≤ 10 ^ n * g := Nat.mul_le_mul_left _ hg
  have h2 : 2 ^ n ≤ 10 ^ n := Nat.pow_le_pow_left (by omega) n
  have h3 : Bw ^ na = 2 ^ (64 * na) := by rw [Nat.pow_mul]; rfl
  have h4 : 2 ^ n < 2 ^ (64 * na) := by rw [← h3]; omega
  exact (Nat.pow_lt_pow_iff_right (by omega)).1 h4

set_option maxHeartbeats 2000000 in
theorem digitsFromLast_w (pa : Option Addr) (na capa : Nat) (f : Nat → Nat) (w : World) (hna : na ≤ 100000) (ha : At .u64 w pa na f) (hf : ∀ j, j < na → f j < Bw) (t : na = 0 ∨ f (na - 1) ≠ 0) (h0 : 0 < na) :
    Calls Try.prog 43 #[.slice pa na capa] w (DigPost (V Bw f 0 na) w) := by
  have hmk : ∀ w, (Instr.makeSlice 23 (.int .i64 (na : Int)) (.int .i64 (na : Int))).run Try.prog w = .ok (.slice (some ⟨w.heap.size, 0, none⟩) na na) (w.alloc (.cells (madeCells #[.int .u64 0] na) 40)) :=
    fun w => make64_run na (by omega) w
  have HA := Lib.hid ha; have HF := Lib.hid hf; have HT := Lib.hid t
  have hN0 : V Bw f 0 na ≠ 0 := by
    rcases V_top (b := Bw) (f := f) (o := 0) (n := na) (by simpa using t) with e | e
    · omega
    · have := Nat.pow_pos (n := na - 1) Bw_pos; omega
  have HN0 := Lib.hid hN0
  clear ha hf t hN0
  go_enter Try.func43, Try.ntmps43
  go_wp2_with (with_reducible refine wpList_copy64 rfl _ _ rfl rfl w.heap.size na na capa pa (fun _ => 0) f rfl rfl (Blk_made _ _ _) (HA.out.grown (World.grownBy_alloc _ _ none) (by simp)) (by omega) ?_)
  intro w2 HB2 HG2
  have HBEL := Lib.hid (own_below (Below.refl _ _) HG2.out)
  have HSZ := HB2.out.lt
  have HF2 := Lib.hid (lt_cut HF.out (M := na))
  clear hmk HG2 HA
  have hNlt : V Bw f 0 na < Bw ^ na := V_lt (fun j hj => by rw [Nat.zero_add]; exact HF.out j hj)
  have HNL := Lib.hid hNlt
  have HS : Hid (DRel w (V Bw f 0 na) na (V Bw f 0 na) (.slice (some ⟨w.heap.size, 0, none⟩) na na) (.slice none 0 0) w2) :=
    ⟨na, _, na, _, 0, fun _ => 0, rfl, Nat.le_refl _, by unfold maxLen; omega, Nat.le_refl _, fun _ => rfl, HB2.out, HF2.out, by have := HT.out; rcases this with h | h; exact .inl h; exact .inr (by rw [if_pos (by omega)]; exact h), V_congr (fun j hj => by simp [hj]), Own.nil, fun j hj => by omega, by simp [V], HBEL.out⟩
  clear hNlt HB2 HBEL HF2 HSZ
  go_wp2_with fail
  go_loopg [3, 4] (V Bw f 0 na) (fun g left out wr => DRel w (V Bw f 0 na) na g left out wr)
  case atStart => exact HS.out
  case round =>
    clear HS
    obtain ⟨nl, p, cl, fl, n, fb, rfl, q1, q2, q3, q4, q5, q6, q7, q8, q9, q10, q11, q12⟩ := hrel
    by_cases hnl : 0 < nl
    · obtain rfl := q4 hnl
      have hg0 : 0 < gk := by
        rw [← q8]
        rcases V_top (b := Bw) (f := fl) (o := 0) (n := nl) (by simpa using q7) with e | e
        · omega
        · have := Nat.pow_pos (n := nl - 1) Bw_pos; omega
      have hlen := digit_len q11 hg0 HNL.out
      have HBL := Lib.hid q5; have HFL := Lib.hid q6; have HV8 := Lib.hid q8; have HO := Lib.hid q9; have HR10 := Lib.hid q10; have HE := Lib.hid q11; have HW := Lib.hid q12
      have ht19 : 0 < ten19 := by unfold ten19; omega
      have ht19B : ten19 < Bw := by unfold ten19 Bw; omega
      have HT1 := Lib.hid ht19; have HT2 := Lib.hid ht19B
      have HGK0 := Lib.hid hg0
      clear q4 q5 q6 q7 q8 q9 q10 q11 q12 ht19 ht19B hg0
      go_wp2_with (go_at_call 62; rw [show (10000000000000000000 : Int) = ((ten19 : Nat) : Int) from rfl]; refine (divideInPlace_c w.heap.size 0 nl _ na ten19 fl _ HBL.out (by omega) (by omega) HFL.out HT1.out HT2.out).mono ?_; rintro e w3 ⟨r0, f3, rfl, hr, hB3, hF3, hO3, hV3, hG3⟩; have HB3 := Lib.hid hB3; have HF3 := Lib.hid hF3; have HV3 := Lib.hid hV3; have HG3 := Lib.hid hG3; have HR := Lib.hid hr; clear hB3 hF3 hO3 hV3 hG3 hr)
      refine (trim_c _ nl cl f3 _ q1 q2 (HB3.out.at0.pre q3)).mono ?_
      rintro e w4 ⟨m, p', cap', rfl, hm, hm2, hc', ht, hz, hm0, hmp, rfl⟩
      have HM1 := Lib.hid ht; have HM2 := Lib.hid hz; have HM3 := Lib.hid hmp
      clear ht hz hm0 hmp
      have HSZ4 := HO.out.far
      have hblk := HO.out.kept HG3.out (by
        rcases HO.out.shape with ⟨e, _⟩ | ⟨g', c', e, hb, _⟩
        · subst e; exact .inl rfl
        · subst e; exact .inr (by simp [Value.ownBlock]; omega))
      have HBK := Lib.hid hblk
      have HW3 := Lib.hid (below_gb (row := none) (gb_new (gb_below HW.out) (Nat.le_refl _) HG3.out))
      have HGS : Hid (GRel w w na f3 fb n r0 0 r0 u4 w3) := ⟨fb, HB3.out, HBK.out, HR10.out, by have := HR.out; unfold ten19 at this; omega, rfl, HW3.out⟩
      clear hblk HSZ4 HBK HW3 HBL HG3 HW HO
      go_wp2_with fail
      go_loopg [4, 5, 19] 19 (fun g out grp i wr => ∃ r gn : Nat, g = 19 - r ∧ r ≤ 19 ∧ i = .int .i64 r ∧ grp = .int .u64 gn ∧ GRel w w na f3 fb n r0 r gn out wr)
      case atStart => exact ⟨0, r0, rfl, by omega, rfl, rfl, HGS.out⟩
      case round =>
        clear HGS
        obtain ⟨r, gn, rfl, hr19, rfl, rfl, fb', g1, g2, g3, g4, g5, g6⟩ := hrel
        by_cases hlt : r < 19
        · have i1 : (0 : Int) ≤ (gn : Int) % 10 := by omega
          have i2 : (gn : Int) % 10 < 10 := by omega
          have i3 : (0 : Int) ≤ gn := by omega
          have i4 : (gn : Int) ≤ 18446744073709551615 := by
            have : 10 ^ (19 - r) ≤ 10 ^ 19 := Nat.pow_le_pow_right (by omega) (by omega)
            omega
          have G1 := Lib.hid g1; have G2 := Lib.hid g2; have G3 := Lib.hid g3; have G4 := Lib.hid g4; have G5 := Lib.hid g5; have G6 := Lib.hid g6
          have hsz := G6.out.size
          have hL := G1.out.lt
          clear g1 g2 g3 g4 g5 g6
          go_wp2_with (at_builtin; refine wpList_app1 (k := .u8) (t := 70) (e := 5) (bytes := 1) Try.underlying70 info8 (by omega) rfl _ _ rfl (w.heap.size + 1) u4 (n + r) fb' _ (48 + gn % 10) (by omega) rfl G2.out rfl (by omega) (by omega) ?_)
          intro v' w' hO' hG'
          have HO' := Lib.hid hO'; have HG' := Lib.hid hG'
          clear hO' hG'
          go_wp2_with fail
          have hg2 : gn / 10 < 10 ^ (19 - (r + 1)) := by
            have e : 10 ^ (19 - r) = 10 ^ (19 - (r + 1)) * 10 := by rw [← Nat.pow_succ]; congr 1; omega
            have := G4.out
            omega
          have hL2 : w.heap.size ≠ w.heap.size + 1 := by omega
          have hBL : Blk .u64 w' w.heap.size na f3 := by
            refine G1.out.kept HG'.out ?_
            intro e
            have := G2.out.far _ e.symm
            omega
          go_roundg (19 - (r + 1))
          case measure => omega
          case rel => exact ⟨r + 1, gn / 10, rfl, by omega, by go_num, val_of (by omega), upd fb' (n + r) (48 + gn % 10), hBL, HO'.out, digit_rng G3.out, hg2, digit_step G5.out, gb_own G6.out G2.out (by omega) HG'.out⟩
        · obtain rfl : r = 19 := by omega
          have hz : gn = 0 := by have : gn < 10 ^ 0 := g4; simpa using this
          rw [hz, Nat.mul_zero, Nat.add_zero] at g5
          have hv3 : V Bw f3 0 m = V Bw f3 0 nl := (V_pad (fun j h1 h2 => by simpa using HM2.out j h1 h2) hm).symm
          have hgk : gk = V Bw f3 0 m * ten19 + r0 := by rw [hv3, HV3.out]; exact HV8.out.symm
          have hlt2 : V Bw f3 0 m < gk := by
            have h1 := HT1.out
            have h2 := HGK0.out
            have h3 : V Bw f3 0 m * 2 ≤ V Bw f3 0 m * ten19 := Nat.mul_le_mul_left _ (by unfold ten19; omega)
            omega
          have hE2 : V 10 (dv fb') 0 (n + 19) + 10 ^ (n + 19) * V Bw f3 0 m = V Bw f 0 na := by
            rw [g5, ← HE.out, hgk, Nat.pow_add]
            have e : ten19 = 10 ^ 19 := by unfold ten19; rfl
            rw [e]; generalize (10:Nat) ^ 19 = t; grind
          have HH := Lib.hid (show DRel w (V Bw f 0 na) na (V Bw f3 0 m) (.slice p' m cap') u4 wr from ⟨m, p', cap', f3, n + 19, fb', rfl, hm2, by omega, by omega, HM3.out, g1, HF3.out, HM1.out, rfl, g2, g3, hE2, g6⟩)
          have HLT2 := Lib.hid hlt2
          clear hE2 hgk hv3 hz g1 g2 g3 g4 g5 g6 hlt2
          go_wp2_with fail
          go_roundg (V Bw f3 0 m)
          case measure => exact HLT2.out
          case rel => exact HH.out
    · obtain rfl : nl = 0 := by omega
      have hg : gk = 0 := q8.symm
      rw [hg, Nat.mul_zero, Nat.add_zero] at q11
      have hn0 : 0 < n := by
        rcases Nat.eq_zero_or_pos n with h | h
        · subst h; exact absurd q11.symm HN0.out
        · exact h
      obtain ⟨G, cap, rfl, hG1, hG2, hG3, hG4⟩ : ∃ g cap, u4 = .slice (some ⟨g, 0, none⟩) n cap ∧ w.heap.size + 1 ≤ g ∧ g < wr.heap.size ∧ n ≤ cap ∧ cap ≤ maxLen := by
        rcases q9.shape with ⟨_, h⟩ | h
        · omega
        · exact h
      have HO := Lib.hid q9; have HR10 := Lib.hid q10; have HE := Lib.hid q11; have HW := Lib.hid q12
      clear q4 q5 q6 q7 q8 q9 q10 q11 q12 hg HT HF
      go_wp2_with fail
      go_loopg [4] n (fun g out wx => ∃ m : Nat, g = m ∧ 0 < m ∧ m ≤ n ∧ out = .slice (some ⟨G, 0, none⟩) m cap ∧ Hid (V 10 (dv fb) 0 m = V Bw f 0 na) ∧ wr = wx)
      case atStart => exact ⟨n, rfl, hn0, Nat.le_refl _, rfl, HE, rfl⟩
      case round =>
        obtain ⟨m, hgm, hm0, hmn, rfl, HM, rfl⟩ := hrel
        obtain rfl : m = _ := hgm.symm
        have hcell := HO.out.cell (j := m - 1) (by omega)
        have hrng := HR10.out (m - 1) (by omega)
        unfold maxLen at hG4
        have i1 : (0 : Int) ≤ (m : Int) - 1 := by omega
        have i2 : (m : Int) - 1 < m := by omega
        by_cases hx : fb (m - 1) = 48
        · rw [hx] at hcell
          have hvm : V 10 (dv fb) 0 (m - 1) = V Bw f 0 na := by
            have := HM.out
            obtain ⟨t, rfl⟩ : ∃ t, m = t + 1 := ⟨m - 1, by omega⟩
            rw [V_succ, Nat.zero_add] at this
            simp only [Nat.add_sub_cancel] at hx ⊢
            have e : dv fb t = 0 := by unfold dv; rw [hx]
            rw [e, Nat.zero_mul, Nat.add_zero] at this
            exact this
          have hm1 : 0 < m - 1 := by
            rcases Nat.eq_zero_or_pos (m - 1) with h | h
            · rw [h] at hvm; exact absurd hvm.symm HN0.out
            · exact h
          have HVM := Lib.hid hvm
          clear hvm hx hrng
          go_wp2_with fail
          go_roundg (m - 1)
          case measure => omega
          case rel => exact ⟨m - 1, rfl, hm1, by omega, rfl, HVM, rfl⟩
        · have hd := digits_of (f := dv fb) (n := m) (N := V Bw f 0 na) (fun j hj => by have := HR10.out j (by omega); unfold dv; omega) hm0 (by unfold dv; omega) HM.out
          have hfin : DigPost (V Bw f 0 na) w (.returned (.slice (some ⟨G, 0, none⟩) m cap)) wr := by
            refine ⟨G, cap, fb, by rw [← hd.1], ?_, fun j hj => ?_, HW.out⟩
            · rw [← hd.1]; exact (HO.out.cut hmn).mono (by omega)
            · have h1 := HR10.out j (by omega)
              have h2 := hd.2 j (by omega)
              unfold dv at h2
              omega
          have HFIN := Lib.hid hfin
          have hne : ((fb (m - 1) : Int) == 48) = false := beq_eq_false_iff_ne.2 (by omega)
          clear hfin hd hrng hx
          go_wp2_with fail
          go_ret
          exact HFIN.out
end Go.Proofs.Ytkonfkcaefjabaa
