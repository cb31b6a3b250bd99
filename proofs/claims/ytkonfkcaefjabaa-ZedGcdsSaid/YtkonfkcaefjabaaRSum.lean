/- The document's digits compared. -/
import Derived.Test.YtkonfkcaefjabaaRMul
import Derived.BigRegion
namespace Go.Proofs.Ytkonfkcaefjabaa
open Go.RowKit Mx

set_option maxRecDepth 100000 in
set_option maxHeartbeats 4000000 in
theorem rcompare_c (pa pb : Option Addr) (n m ca cb : Nat) (f g : Nat → Nat) (w : World) (ha : At .i64 w pa n f) (hb : At .i64 w pb m g) (hf : ∀ j, j < n → f j < 10) (hg : ∀ j, j < m → g j < 10) (ft : n = 0 ∨ f (n - 1) ≠ 0) (gt : m = 0 ∨ g (m - 1) ≠ 0) (hn : n ≤ 10000) (hm : m ≤ 10000) :
    Calls Try.prog 49 #[.slice pa n ca, .slice pb m cb] w (ValPost (.int .i64 (cmpZ (V 10 f 0 n : Nat) (V 10 g 0 m : Nat))) w) := by
  have HA := Lib.hid ha; have HB := Lib.hid hb; have HF := Lib.hid hf; have HG := Lib.hid hg
  by_cases h1 : n < m
  · have hlt := V_long (b := 10) (f := f) (g := g) (o := 0) (p := 0) (by omega) (fun j hj => by rw [Nat.zero_add]; exact hf j hj) h1 (by rcases gt with h | h; omega; simpa using h)
    have hc : cmpZ (V 10 f 0 n : Nat) (V 10 g 0 m : Nat) = -1 := by unfold cmpZ; rw [if_pos (by omega)]
    rw [hc]
    have d1 : decide ((n : Int) < m) = true := decide_eq_true (by omega)
    clear hlt hc ha hb hf hg ft gt
    go_enter Try.func49, Try.ntmps49
    go_wp2
    go_ret
    exact ⟨rfl, gb_refl _ _⟩
  · have d1 : decide ((n : Int) < m) = false := decide_eq_false (by omega)
    by_cases h2 : m < n
    · have hlt := V_long (b := 10) (f := g) (g := f) (o := 0) (p := 0) (by omega) (fun j hj => by rw [Nat.zero_add]; exact hg j hj) h2 (by rcases ft with h | h; omega; simpa using h)
      have hc : cmpZ (V 10 f 0 n : Nat) (V 10 g 0 m : Nat) = 1 := by unfold cmpZ; rw [if_neg (by omega), if_neg (by omega)]
      rw [hc]
      have d2 : decide ((m : Int) < n) = true := decide_eq_true (by omega)
      clear hlt hc ha hb hf hg ft gt
      go_enter Try.func49, Try.ntmps49
      go_wp2
      go_ret
      exact ⟨rfl, gb_refl _ _⟩
    · obtain rfl : n = m := by omega
      have d2 : decide ((n : Int) < n) = false := decide_eq_false (by omega)
      have hbel : ∀ q, 0 < q → q ≤ n → (∀ j, q ≤ j → j < n → f j = g j) → (f (q - 1) < g (q - 1) → cmpZ (V 10 f 0 n : Nat) (V 10 g 0 n : Nat) = -1) ∧ (g (q - 1) < f (q - 1) → cmpZ (V 10 f 0 n : Nat) (V 10 g 0 n : Nat) = 1) := by
        intro q h0 hq he
        constructor
        · intro hlt
          have := V_below (b := 10) (f := f) (g := g) (o := 0) (p := 0) (n := n) (fun j hj => by rw [Nat.zero_add]; exact hf j hj) (i := q - 1) (by omega) (by simpa using hlt) (fun j h1 h2 => by simpa using he j (by omega) h2)
          unfold cmpZ; rw [if_pos (by omega)]
        · intro hlt
          have := V_below (b := 10) (f := g) (g := f) (o := 0) (p := 0) (n := n) (fun j hj => by rw [Nat.zero_add]; exact hg j hj) (i := q - 1) (by omega) (by simpa using hlt) (fun j h1 h2 => by simpa using (he j (by omega) h2).symm)
          unfold cmpZ; rw [if_neg (by omega), if_neg (by omega)]
      have heq : (∀ j, 0 ≤ j → j < n → f j = g j) → cmpZ (V 10 f 0 n : Nat) (V 10 g 0 n : Nat) = 0 := by
        intro he
        have := V_congr (b := 10) (f := f) (g := g) (o := 0) (p := 0) (n := n) (fun j hj => by simpa using he j (Nat.zero_le _) hj)
        unfold cmpZ; rw [this, if_neg (by omega), if_pos rfl]
      have HBEL := Lib.hid hbel; have HEQ := Lib.hid heq
      generalize cmpZ (V 10 f 0 n : Nat) (V 10 g 0 n : Nat) = r at *
      clear hbel heq ha hb hf hg ft gt
      go_enter Try.func49, Try.ntmps49
      go_wp2
      go_loopw [5] (fun i wr => ∃ q : Nat, q ≤ n ∧ i = .int .i64 ((q : Int) - 1) ∧ Hid (∀ j, q ≤ j → j < n → f j = g j) ∧ Hid (w.grownBy wr none)) (fun i _ => (intOf i + 1).toNat)
      case atStart => exact ⟨n, Nat.le_refl _, rfl, (fun j h1 h2 => by omega), gb_refl _ _⟩
      case round =>
        obtain ⟨q, hq, rfl, HQ, HW⟩ := hrel
        by_cases hlt : 0 < q
        · obtain ⟨ga, oa, rfl, hga, hcA⟩ : ∃ g o, pa = some ⟨g, o, none⟩ ∧ g < w.heap.size ∧ ∀ j, j < n → w.cell? ⟨g, o + j, none⟩ = some (.int .i64 (f j)) := by
            rcases HA.out with h | h
            · omega
            · exact h
          obtain ⟨gb, ob, rfl, hgb, hcB⟩ : ∃ g' o, pb = some ⟨g', o, none⟩ ∧ g' < w.heap.size ∧ ∀ j, j < n → w.cell? ⟨g', o + j, none⟩ = some (.int .i64 (g j)) := by
            rcases HB.out with h | h
            · omega
            · exact h
          have a0 := HW.out.cell (hcA (q - 1) (by omega)) (by simp)
          have b0 := HW.out.cell (hcB (q - 1) (by omega)) (by simp)
          have hb' := HBEL.out q hlt hq HQ.out
          have HBL := Lib.hid hb'
          have HFG := Lib.hid (show ∀ j, q - 1 ≤ j → j < n → f (q - 1) = g (q - 1) → f j = g j from fun j h1 h2 h => by
            by_cases e : j = q - 1
            · subst e; exact h
            · exact HQ.out j (by omega) h2)
          have hi0 : (0 : Int) ≤ (q : Int) - 1 := by omega
          have hd1 : (f (q - 1) < g (q - 1)) → r = -1 := hb'.1
          clear hcA hcB hb' HBEL
          generalize f (q - 1) = x at *
          generalize g (q - 1) = y at *
          by_cases c1 : x < y
          · have d3 : decide ((x : Int) < y) = true := decide_eq_true (by omega)
            obtain rfl := (HBL.out.1 c1).symm
            go_wp2_with fail
            go_region
            go_wp2
            go_ret
            exact ⟨rfl, gb_drew HW.out⟩
          · have d3 : decide ((x : Int) < y) = false := decide_eq_false (by omega)
            by_cases c2 : y < x
            · have d4 : decide ((y : Int) < x) = true := decide_eq_true (by omega)
              obtain rfl := (HBL.out.2 c2).symm
              go_wp2_with fail
              go_region
              go_wp2_with fail
              go_region
              go_wp2
              go_ret
              exact ⟨rfl, by repeat (first | exact HW.out | refine gb_drew ?_)⟩
            · have d4 : decide ((y : Int) < x) = false := decide_eq_false (by omega)
              have hxy : x = y := by omega
              go_wp2_with fail
              go_region
              go_wp2_with fail
              go_region
              go_wp2
              go_roundw
              case rel => exact ⟨q - 1, by omega, by go_num, (fun j h1 h2 => HFG.out j h1 h2 hxy), by repeat (first | exact HW.out | refine gb_drew ?_)⟩
              case measure => simp [intOf]; omega
        · obtain rfl : q = 0 := by omega
          obtain rfl := (HEQ.out HQ.out).symm
          go_wp2
          go_ret
          exact ⟨rfl, HW.out⟩

/-- Digits that tell T. -/
def SPost (T : Nat) (w : World) (e : Ending) (w' : World) : Prop :=
  ∃ p l cap h, e = .returned (.slice p l cap) ∧ l ≤ cap ∧ cap ≤ maxLen ∧ At .i64 w' p l h ∧ (∀ j, j < l → h j < 10) ∧ V 10 h 0 l = T ∧ w.grownBy w' none ∧ (∀ a, p = some a → w.heap.size ≤ a.block)

/-- The j-th digit, and 0 beyond the last. -/
def dz (f : Nat → Nat) (n : Nat) : Nat → Nat := fun j => if j < n then f j else 0

theorem dz_V {f : Nat → Nat} {n k : Nat} (h : n ≤ k) : V 10 (dz f n) 0 k = V 10 f 0 n := by
  rw [V_pad (n := n) (m := k) (fun j h1 h2 => by simp [dz, show ¬ j < n by omega]) h]
  exact V_congr fun j hj => by simp [dz, hj]
theorem dz_in {f : Nat → Nat} {n k : Nat} (h : k < n) : dz f n k = f k := by simp [dz, h]
theorem dz_out {f : Nat → Nat} {n k : Nat} (h : ¬ k < n) : dz f n k = 0 := by simp [dz, h]
theorem dz_lt {f : Nat → Nat} {n : Nat} (h : ∀ j, j < n → f j < 10) (k : Nat) : dz f n k < 10 := by
  by_cases e : k < n
  · rw [dz_in e]; exact h k e
  · rw [dz_out e]; omega

/-- What lies behind k rounds of the sum. -/
def PlusRel (w : World) (F G : Nat → Nat) (k c : Nat) (v : Value) (wr : World) : Prop :=
  c ≤ 1 ∧ ∃ h, Own .i64 3 wr w.heap.size v k h ∧ (∀ j, j < k → h j < 10) ∧ V 10 h 0 k + c * 10 ^ k = V 10 F 0 k + V 10 G 0 k ∧ w.grownBy wr none

theorem plus_step {w wr w' : World} {F G : Nat → Nat} {k c : Nat} {v v' : Value} {h : Nat → Nat} (hc : c ≤ 1) (hd : ∀ j, j < k → h j < 10) (hv : V 10 h 0 k + c * 10 ^ k = V 10 F 0 k + V 10 G 0 k) (hg : w.grownBy wr none) (ho : Own .i64 3 wr w.heap.size v k h)
    (hF : F k < 10) (hG : G k < 10) (hO' : Own .i64 3 w' w.heap.size v' (k + 1) (upd h k ((c + F k + G k) % 10))) (hG' : wr.grownBy w' v.ownBlock) : PlusRel w F G (k + 1) ((c + F k + G k) / 10) v' w' := by
  refine ⟨by omega, _, hO', fun j hj => ?_, ?_, gb_own hg ho (Nat.le_refl _) hG'⟩
  · by_cases e : j = k
    · subst e; rw [upd_at]; omega
    · rw [upd_ne e]; exact hd j (by omega)
  · rw [V_succ, V_succ, V_succ, Nat.zero_add, upd_at, V_upd_out (by omega), Nat.pow_succ]
    have h1 := Nat.div_add_mod (c + F k + G k) 10
    generalize (c + F k + G k) / 10 = a at *
    generalize (c + F k + G k) % 10 = b at *
    generalize 10 ^ k = P at *
    have e1 : (c + F k + G k) * P = (10 * a + b) * P := by rw [h1]
    rw [Nat.add_mul, Nat.add_mul, Nat.add_mul] at e1
    have e2 : a * (P * 10) = 10 * a * P := by rw [Nat.mul_comm P 10, ← Nat.mul_assoc, Nat.mul_comm a 10]
    rw [e2]
    omega

theorem plus_at {w wr : World} {F G : Nat → Nat} {k c : Nat} {v : Value} {f : Nat → Nat} {n : Nat} {p : Option Addr} (hR : PlusRel w F G k c v wr) (ha : At .i64 w p n f) {j : Nat} (hj : j < n) : ∃ g o, p = some ⟨g, o, none⟩ ∧ wr.cell? ⟨g, o + j, none⟩ = some (.int .i64 (f j)) := by
  obtain ⟨_, h, _, _, _, hg⟩ := hR
  rcases ha with h | ⟨g, o, rfl, _, hc⟩
  · omega
  · exact ⟨g, o, rfl, hg.cell (hc j hj) (by simp)⟩

set_option maxRecDepth 100000 in
set_option maxHeartbeats 4000000 in
theorem rplus_c (pa pb : Option Addr) (n m ca cb : Nat) (f g : Nat → Nat) (w : World) (ha : At .i64 w pa n f) (hb : At .i64 w pb m g) (hf : ∀ j, j < n → f j < 10) (hg : ∀ j, j < m → g j < 10) (hn : n ≤ 10000) (hm : m ≤ 10000) :
    Calls Try.prog 48 #[.slice pa n ca, .slice pb m cb] w (SPost (V 10 f 0 n + V 10 g 0 m) w) := by
  have HA := Lib.hid ha; have HB := Lib.hid hb; have HF := Lib.hid (dz_lt hf); have HG := Lib.hid (dz_lt hg)
  obtain ⟨M, hM, hMn, hMm⟩ : ∃ M, M ≤ 10000 ∧ n ≤ M ∧ m ≤ M := ⟨max n m, by omega, by omega, by omega⟩
  have hMx : M = n ∨ M = m ∨ True := .inr (.inr trivial)
  clear ha hb hf hg hMx
  go_enter Try.func48, Try.ntmps48
  go_wp2
  go_loopw [5, 6, 7] (fun v c i wr => ∃ k cn : Nat, k ≤ M + 1 ∧ (cn ≤ 1) ∧ (k = M + 1 → cn = 0) ∧ i = .int .i64 k ∧ c = .int .i64 cn ∧ Hid (PlusRel w (dz f n) (dz g m) k cn v wr)) (fun _ _ i _ => M + 1 - (intOf i).toNat)
  case atStart => exact ⟨0, 0, by omega, by omega, by omega, rfl, rfl, by omega, fun _ => 0, Own.nil, (fun j h => by omega), by simp [V], gb_refl _ _⟩
  case round =>
    obtain ⟨k, cn, hk, hc1, hk1, rfl, rfl, HR⟩ := hrel
    obtain ⟨-, h, hO, hD, hV, hGr⟩ := HR.out
    have HO := Lib.hid hO; have HD := Lib.hid hD; have HV := Lib.hid hV; have HGr := Lib.hid hGr
    have hsz := hGr.size
    have HST := Lib.hid (fun v' w' => plus_step (v' := v') (w' := w') hc1 hD hV hGr hO (HF.out k) (HG.out k))
    clear hO hD hV hGr
    by_cases h1 : k < n
    · obtain ⟨ga, oa, rfl, a0⟩ := plus_at HR.out HA.out h1
      have d1 : decide ((k : Int) < n) = true := decide_eq_true (by omega)
      have hfk := HF.out k
      have HST := HST.out
      rw [dz_in h1] at hfk HST
      have HST := Lib.hid HST
      by_cases h2 : k < m
      · obtain ⟨gb, ob, rfl, b0⟩ := plus_at HR.out HB.out h2
        have d2 : decide ((k : Int) < m) = true := decide_eq_true (by omega)
        have hgk := HG.out k
        have HST := HST.out
        rw [dz_in h2] at hgk HST
        have HST := Lib.hid HST
        clear HR
        generalize f k = x at *
        generalize g k = y at *
        go_wp2_with (at_builtin; refine wpList_app1 (k := .i64) (t := 29) (e := 3) (bytes := 8) Try.underlying29 infoI (by omega) rfl _ _ rfl w.heap.size u5 k h _ ((cn + x + y) % 10) (by omega) rfl HO.out rfl (by omega) hsz ?_)
        intro v' w' hO' hG'
        have HR' := Lib.hid (HST.out v' w' hO' hG')
        clear hO' hG'
        go_wp2_with fail
        go_roundw
        case rel => exact ⟨k + 1, (cn + x + y) / 10, by omega, by omega, by omega, by go_num, val_of (by omega), HR'⟩
        case measure => simp [intOf]; omega
      · have d2 : decide ((k : Int) < m) = false := decide_eq_false (by omega)
        have HST := HST.out
        rw [dz_out h2] at HST
        have HST := Lib.hid HST
        clear HR
        generalize f k = x at *
        go_wp2_with (at_builtin; refine wpList_app1 (k := .i64) (t := 29) (e := 3) (bytes := 8) Try.underlying29 infoI (by omega) rfl _ _ rfl w.heap.size u5 k h _ ((cn + x + 0) % 10) (by omega) rfl HO.out rfl (by omega) hsz ?_)
        intro v' w' hO' hG'
        have HR' := Lib.hid (HST.out v' w' hO' hG')
        clear hO' hG'
        go_wp2_with fail
        go_roundw
        case rel => exact ⟨k + 1, (cn + x + 0) / 10, by omega, by omega, by omega, by go_num, val_of (by omega), HR'⟩
        case measure => simp [intOf]; omega
    · have d1 : decide ((k : Int) < n) = false := decide_eq_false (by omega)
      have HST := HST.out
      rw [dz_out h1] at HST
      have HST := Lib.hid HST
      by_cases h2 : k < m
      · obtain ⟨gb, ob, rfl, b0⟩ := plus_at HR.out HB.out h2
        have d2 : decide ((k : Int) < m) = true := decide_eq_true (by omega)
        have hgk := HG.out k
        have HST := HST.out
        rw [dz_in h2] at hgk HST
        have HST := Lib.hid HST
        clear HR
        generalize g k = y at *
        go_wp2_with (at_builtin; refine wpList_app1 (k := .i64) (t := 29) (e := 3) (bytes := 8) Try.underlying29 infoI (by omega) rfl _ _ rfl w.heap.size u5 k h _ ((cn + 0 + y) % 10) (by omega) rfl HO.out rfl (by omega) hsz ?_)
        intro v' w' hO' hG'
        have HR' := Lib.hid (HST.out v' w' hO' hG')
        clear hO' hG'
        go_wp2_with fail
        go_roundw
        case rel => exact ⟨k + 1, (cn + 0 + y) / 10, by omega, by omega, by omega, by go_num, val_of (by omega), HR'⟩
        case measure => simp [intOf]; omega
      · have d2 : decide ((k : Int) < m) = false := decide_eq_false (by omega)
        have HST := HST.out
        rw [dz_out h2] at HST
        have HST := Lib.hid HST
        by_cases h3 : 0 < cn
        · obtain rfl : cn = 1 := by omega
          clear HR
          go_wp2_with (at_builtin; refine wpList_app1 (k := .i64) (t := 29) (e := 3) (bytes := 8) Try.underlying29 infoI (by omega) rfl _ _ rfl w.heap.size u5 k h _ ((1 + 0 + 0) % 10) (by omega) rfl HO.out rfl (by omega) hsz ?_)
          intro v' w' hO' hG'
          have HR' := Lib.hid (HST.out v' w' hO' hG')
          clear hO' hG'
          go_wp2_with fail
          go_roundw
          case rel => exact ⟨k + 1, (1 + 0 + 0) / 10, by omega, by omega, by omega, by go_num, val_of (by omega), HR'⟩
          case measure => simp [intOf]; omega
        · obtain rfl : cn = 0 := by omega
          obtain ⟨p, cap, rfl, hmc, hcm⟩ : ∃ p cap, u5 = .slice p k cap ∧ k ≤ cap ∧ cap ≤ maxLen := by
            rcases HO.out.shape with ⟨e1, e2⟩ | ⟨g, cap, e1, _, _, hnc, hcm⟩
            · exact ⟨none, 0, by rw [e1, e2], by omega, by omega⟩
            · exact ⟨_, _, e1, hnc, hcm⟩
          have hfin : SPost (V 10 f 0 n + V 10 g 0 m) w (.returned (.slice p k cap)) wr := by
            refine ⟨p, k, cap, h, rfl, hmc, hcm, HO.out.at.2, HD.out, ?_, HGr.out, fun a ha => HO.out.far a.block (by simp [Value.ownBlock, ha])⟩
            · have := HV.out
              rw [Nat.zero_mul, Nat.add_zero, dz_V (by omega), dz_V (by omega)] at this
              exact this
          have HFIN := Lib.hid hfin
          clear hfin HR
          go_wp2_with fail
          go_ret
          exact HFIN.out

/-- What lies behind k rounds of the difference. -/
def MinusRel (w : World) (F G : Nat → Nat) (k c : Nat) (v : Value) (wr : World) : Prop :=
  c ≤ 1 ∧ ∃ h, Own .i64 3 wr w.heap.size v k h ∧ (∀ j, j < k → h j < 10) ∧ V 10 F 0 k + c * 10 ^ k = V 10 h 0 k + V 10 G 0 k ∧ w.grownBy wr none

theorem minus_step {w wr w' : World} {F G : Nat → Nat} {k c d c' : Nat} {v v' : Value} {h : Nat → Nat} (hc' : c' ≤ 1) (hdd : d < 10) (he : F k + c' * 10 = d + G k + c) (hd : ∀ j, j < k → h j < 10) (hv : V 10 F 0 k + c * 10 ^ k = V 10 h 0 k + V 10 G 0 k) (hg : w.grownBy wr none) (ho : Own .i64 3 wr w.heap.size v k h)
    (hO' : Own .i64 3 w' w.heap.size v' (k + 1) (upd h k d)) (hG' : wr.grownBy w' v.ownBlock) : MinusRel w F G (k + 1) c' v' w' := by
  refine ⟨hc', _, hO', fun j hj => ?_, ?_, gb_own hg ho (Nat.le_refl _) hG'⟩
  · by_cases e : j = k
    · subst e; rw [upd_at]; exact hdd
    · rw [upd_ne e]; exact hd j (by omega)
  · rw [V_succ, V_succ, V_succ, Nat.zero_add, upd_at, V_upd_out (by omega), Nat.pow_succ]
    generalize 10 ^ k = P at *
    have e1 : (F k + c' * 10) * P = (d + G k + c) * P := by rw [he]
    rw [Nat.add_mul, Nat.add_mul, Nat.add_mul] at e1
    have e2 : c' * (P * 10) = c' * 10 * P := by rw [Nat.mul_comm P 10, ← Nat.mul_assoc]
    rw [e2]
    omega

theorem minus_at {w wr : World} {F G : Nat → Nat} {k c : Nat} {v : Value} {f : Nat → Nat} {n : Nat} {p : Option Addr} (hR : MinusRel w F G k c v wr) (ha : At .i64 w p n f) {j : Nat} (hj : j < n) : ∃ g o, p = some ⟨g, o, none⟩ ∧ wr.cell? ⟨g, o + j, none⟩ = some (.int .i64 (f j)) := by
  obtain ⟨_, h, _, _, _, hg⟩ := hR
  rcases ha with h | ⟨g, o, rfl, _, hc⟩
  · omega
  · exact ⟨g, o, rfl, hg.cell (hc j hj) (by simp)⟩

set_option maxRecDepth 100000 in
set_option maxHeartbeats 4000000 in
theorem rminus_c (pa pb : Option Addr) (n m ca cb : Nat) (f g : Nat → Nat) (w : World) (ha : At .i64 w pa n f) (hb : At .i64 w pb m g) (hf : ∀ j, j < n → f j < 10) (hg : ∀ j, j < m → g j < 10) (hn : n ≤ 10000) (hm : m ≤ 10000) (gt : m = 0 ∨ g (m - 1) ≠ 0) (hle : V 10 g 0 m ≤ V 10 f 0 n) :
    Calls Try.prog 50 #[.slice pa n ca, .slice pb m cb] w (SPost (V 10 f 0 n - V 10 g 0 m) w) := by
  have hmn : m ≤ n := by
    rcases Nat.lt_or_ge n m with h | h
    · have := V_long (b := 10) (f := f) (g := g) (o := 0) (p := 0) (by omega) (fun j hj => by rw [Nat.zero_add]; exact hf j hj) h (by rcases gt with h | h; omega; simpa using h)
      omega
    · exact h
  have HA := Lib.hid ha; have HB := Lib.hid hb; have HF := Lib.hid (dz_lt hf); have HG := Lib.hid (dz_lt hg); have HLE := Lib.hid hle
  clear ha hb hf hg gt hle
  go_enter Try.func50, Try.ntmps50
  go_wp2
  go_loopw [5, 6, 7] (fun v c i wr => ∃ k cn : Nat, k ≤ n ∧ (cn ≤ 1) ∧ i = .int .i64 k ∧ c = .int .i64 (-(cn : Int)) ∧ Hid (MinusRel w (dz f n) (dz g m) k cn v wr)) (fun _ _ i _ => n - (intOf i).toNat)
  case atStart => exact ⟨0, 0, by omega, by omega, rfl, rfl, by omega, fun _ => 0, Own.nil, (fun j h => by omega), by simp [V], gb_refl _ _⟩
  case round =>
    obtain ⟨k, cn, hk, hc1, rfl, rfl, HR⟩ := hrel
    obtain ⟨-, h, hO, hD, hV, hGr⟩ := HR.out
    have HO := Lib.hid hO; have HD := Lib.hid hD; have HV := Lib.hid hV; have HGr := Lib.hid hGr
    have hsz := hGr.size
    have HST := Lib.hid (fun v' w' d c' (q1 : c' ≤ 1) (q2 : d < 10) (q3 : dz f n k + c' * 10 = d + dz g m k + cn) => minus_step (v' := v') (w' := w') (d := d) (c' := c') (F := dz f n) (G := dz g m) (c := cn) q1 q2 q3 hD hV hGr hO)
    clear hO hD hV hGr
    by_cases h1 : k < n
    · obtain ⟨ga, oa, rfl, a0⟩ := minus_at HR.out HA.out h1
      have d1 : decide ((k : Int) < n) = true := decide_eq_true (by omega)
      have hfk := HF.out k
      have HST := HST.out
      rw [dz_in h1] at hfk HST
      have HST := Lib.hid HST
      by_cases h2 : k < m
      · obtain ⟨gb, ob, rfl, b0⟩ := minus_at HR.out HB.out h2
        have d2 : decide ((k : Int) < m) = true := decide_eq_true (by omega)
        have hgk := HG.out k
        have HST := HST.out
        rw [dz_in h2] at hgk HST
        have HST := Lib.hid HST
        clear HR
        generalize f k = x at *
        generalize g k = y at *
        by_cases hneg : x < y + cn
        · have d3 : decide (-(cn : Int) + x - y < 0) = true := decide_eq_true (by omega)
          go_wp2_with (at_builtin; refine wpList_app1 (k := .i64) (t := 29) (e := 3) (bytes := 8) Try.underlying29 infoI (by omega) rfl _ _ rfl w.heap.size u5 k h _ (x + 10 - y - cn) (by omega) rfl HO.out rfl (by omega) hsz ?_)
          intro v' w' hO' hG'
          have HR' := Lib.hid (HST.out v' w' (x + 10 - y - cn) 1 (by omega) (by omega) (by omega) hO' hG')
          clear hO' hG'
          go_wp2_with fail
          go_roundw
          case rel => exact ⟨k + 1, 1, by omega, by omega, by go_num, rfl, HR'⟩
          case measure => simp [intOf]; omega
        · have d3 : decide (-(cn : Int) + x - y < 0) = false := decide_eq_false (by omega)
          go_wp2_with (at_builtin; refine wpList_app1 (k := .i64) (t := 29) (e := 3) (bytes := 8) Try.underlying29 infoI (by omega) rfl _ _ rfl w.heap.size u5 k h _ (x - y - cn) (by omega) rfl HO.out rfl (by omega) hsz ?_)
          intro v' w' hO' hG'
          have HR' := Lib.hid (HST.out v' w' (x - y - cn) 0 (by omega) (by omega) (by omega) hO' hG')
          clear hO' hG'
          go_wp2_with fail
          go_roundw
          case rel => exact ⟨k + 1, 0, by omega, by omega, by go_num, rfl, HR'⟩
          case measure => simp [intOf]; omega
      · have d2 : decide ((k : Int) < m) = false := decide_eq_false (by omega)
        have HST := HST.out
        rw [dz_out h2] at HST
        have HST := Lib.hid HST
        clear HR
        generalize f k = x at *
        by_cases hneg : x < cn
        · have d3 : decide (-(cn : Int) + x < 0) = true := decide_eq_true (by omega)
          go_wp2_with (at_builtin; refine wpList_app1 (k := .i64) (t := 29) (e := 3) (bytes := 8) Try.underlying29 infoI (by omega) rfl _ _ rfl w.heap.size u5 k h _ (x + 10 - cn) (by omega) rfl HO.out rfl (by omega) hsz ?_)
          intro v' w' hO' hG'
          have HR' := Lib.hid (HST.out v' w' (x + 10 - cn) 1 (by omega) (by omega) (by omega) hO' hG')
          clear hO' hG'
          go_wp2_with fail
          go_roundw
          case rel => exact ⟨k + 1, 1, by omega, by omega, by go_num, rfl, HR'⟩
          case measure => simp [intOf]; omega
        · have d3 : decide (-(cn : Int) + x < 0) = false := decide_eq_false (by omega)
          go_wp2_with (at_builtin; refine wpList_app1 (k := .i64) (t := 29) (e := 3) (bytes := 8) Try.underlying29 infoI (by omega) rfl _ _ rfl w.heap.size u5 k h _ (x - cn) (by omega) rfl HO.out rfl (by omega) hsz ?_)
          intro v' w' hO' hG'
          have HR' := Lib.hid (HST.out v' w' (x - cn) 0 (by omega) (by omega) (by omega) hO' hG')
          clear hO' hG'
          go_wp2_with fail
          go_roundw
          case rel => exact ⟨k + 1, 0, by omega, by omega, by go_num, rfl, HR'⟩
          case measure => simp [intOf]; omega
    · obtain rfl : k = n := by omega
      obtain ⟨p, cap, rfl, hmc, hcm⟩ : ∃ p cap, u5 = .slice p k cap ∧ k ≤ cap ∧ cap ≤ maxLen := by
        rcases HO.out.shape with ⟨e1, e2⟩ | ⟨g, cap, e1, _, _, hnc, hcm⟩
        · exact ⟨none, 0, by rw [e1, e2], by omega, by omega⟩
        · exact ⟨_, _, e1, hnc, hcm⟩
      have hfin : SPost (V 10 f 0 k - V 10 g 0 m) w (.returned (.slice p k cap)) wr := by
        refine ⟨p, k, cap, h, rfl, hmc, hcm, HO.out.at.2, HD.out, ?_, HGr.out, fun a ha => HO.out.far a.block (by simp [Value.ownBlock, ha])⟩
        · have := HV.out
          rw [dz_V (Nat.le_refl _), dz_V hmn] at this
          have h2 := HLE.out
          have h3 : V 10 h 0 k < 10 ^ k := V_lt (fun j hj => by rw [Nat.zero_add]; exact HD.out j hj)
          rcases (show cn = 0 ∨ cn = 1 by omega) with rfl | rfl
          · omega
          · omega
      have HFIN := Lib.hid hfin
      clear hfin HR
      go_wp2_with fail
      go_ret
      exact HFIN.out
end Go.Proofs.Ytkonfkcaefjabaa
