/- Lemmas. -/
import Derived.Deep.RegionHeld3
import Derived.StillTailTactics
import Derived.Test.YtddccnpohpaofaaGreatDoorP9
set_option linter.unusedVariables false
set_option linter.unusedSimpArgs false
namespace Go.Proofs.YtddccnpohpaofaaGreatDoor

section
variable (T : List Tok) (et : St → RT)
def typBT (a : RT) : RT :=
  if isQ T [105, 110, 116] a.2 = true ∨ isQ T [98, 111, 111, 108] a.2 = true then (a.1 ++ [.nd 5 (leafT T a.2).1], (leafT T a.2).2)
  else (a.1, failQ T 22 a.2)
def typCT (b : RT) : RT :=
  if isQ T [123] b.2 = true then
    let f := et (setIn true (leafT T b.2).2)
    let m := mustT T [125] (setIn false f.2)
    (b.1 ++ [.nd 6 ((leafT T b.2).1 ++ f.1 ++ m.1)], m.2)
  else b
def typedT (s : St) : RT := typCT T et (typBT T (mustT T [58] s))
def parT (s : St) : RT :=
  let k := kindT T 1 s
  let t := typedT T et k.2
  ([.nd 4 (k.1 ++ t.1)], t.2)
def paramsT (s : St) : RT := partsT T (parT T et) (fuelQ T (parT T et s).2) 1 (parT T et s)
def defAT (s : St) : RT := if isQ T [112, 117, 98] s = true then leafT T s else ([], s)
def defBT (p : RT) : RT :=
  let u := mustT T [102, 117, 110] p.2
  let k := kindT T 1 u.2
  let o := mustT T [40] k.2
  (p.1 ++ (u.1 ++ k.1 ++ o.1), o.2)
def defCT (o : RT) : RT := if o.2.e = 0 ∧ isQ T [41] o.2 = false then (o.1 ++ (paramsT T et o.2).1, (paramsT T et o.2).2) else o
def defDT (r : RT) : RT :=
  let c := mustT T [41] r.2
  let t := typedT T et c.2
  let q := mustT T [61] t.2
  let x := et q.2
  let m := mustT T [59] x.2
  (r.1 ++ (c.1 ++ t.1 ++ q.1) ++ x.1 ++ m.1, m.2)
def defT (s : St) : RT := ([.nd 3 (defDT T et (defCT T et (defBT T (defAT T s)))).1], (defDT T et (defCT T et (defBT T (defAT T s)))).2)
def impStepT (r : RT) : RT :=
  let l := leafT T r.2
  let k := kindT T 1 l.2
  let m := mustT T [59] k.2
  (r.1 ++ [.nd 2 (l.1 ++ k.1 ++ m.1)], m.2)
def manyT (c : St → Bool) (step : RT → RT) (most : Nat) : Nat → Nat → RT → Bool × RT
  | 0, _, r => (true, r)
  | f + 1, k, r => if c r.2 = true then (if k = most then (false, ([], failQ T 15 r.2)) else manyT c step most f (k + 1) (step r)) else (true, r)
def importsT (r : RT) : Bool × RT := manyT T (isQ T [105, 109, 112, 111, 114, 116]) (impStepT T) 16 (fuelQ T r.2) 0 r
def defStepT (r : RT) : RT := (r.1 ++ (defT T et r.2).1, (defT T et r.2).2)
def defsT (r : RT) : Bool × RT := manyT T (isDef T) (defStepT T et) 64 (fuelQ T r.2) 0 r
/-- A program's parts; none where it is refused. -/
def programT (s : St) : RT :=
  if (importsT T ([], s)).1 = false then (importsT T ([], s)).2
  else if (defsT T et (importsT T ([], s)).2).1 = false then (defsT T et (importsT T ([], s)).2).2
  else ((defsT T et (importsT T ([], s)).2).2.1 ++ (kindT T 5 (defsT T et (importsT T ([], s)).2).2.2).1, (kindT T 5 (defsT T et (importsT T ([], s)).2).2.2).2)
def aloneT (s : St) : RT :=
  let x := et (setIn true s)
  let k := kindT T 5 x.2
  (x.1 ++ k.1, k.2)

variable {ex : St → RQ} (h : ∀ s, ex s = im T (et s))
include h
omit h in
theorem typB_m (a : RT) : typB T (im T a) = im T (typBT T a) := by
  unfold typB typBT; rw [im_ite]; simp only [im_snd, leaf_m, im_fst]; simp only [im, dmps_append, dmps_node]; rfl
theorem typC_m (a : RT) : typC T ex (im T a) = im T (typCT T et a) := by
  unfold typC typCT; simp only [im_ite, im_snd, leaf_m, im_fst, h, must_m]; simp only [im, dmps_append, dmps_node]; simp [digT]
theorem typed_m (s : St) : typedQ T ex s = im T (typedT T et s) := by
  unfold typedQ typedT; rw [must_m, typB_m, typC_m T et h]
theorem par_m (s : St) : parQ T ex s = im T (parT T et s) := by
  unfold parQ parT; simp only [kind_m, im_snd, typed_m T et h, im_fst]; simp only [im, dmps_append, dmps_node]; simp [digT]
theorem params_m (s : St) : paramsQ T ex s = im T (paramsT T et s) := by
  unfold paramsQ paramsT; rw [par_m T et h, parts_m T (par_m T et h)]; rfl

/-- What stands ahead of the rest: a definition's number. -/
def ahead (a : List UInt8) (r : RQ) : RQ := (a ++ r.1, r.2)
omit h in
theorem defA_m (s : St) : defA T s = ahead [32, 40, 51] (im T (defAT T s)) := by
  unfold defA defAT; rw [im_ite, leaf_m]; split <;> simp [ahead, im, dmps]
omit h in
theorem defB_m (a : RT) : defB T (ahead [32, 40, 51] (im T a)) = ahead [32, 40, 51] (im T (defBT T a)) := by
  unfold defB defBT
  show ((ahead [32, 40, 51] (im T a)).1 ++ _, _) = _
  simp only [ahead, im_snd, must_m, kind_m, im_fst]
  simp only [im, dmps_append]; simp
theorem defC_m (a : RT) : defC T ex (ahead [32, 40, 51] (im T a)) = ahead [32, 40, 51] (im T (defCT T et a)) := by
  unfold defC defCT
  rw [im_ite]
  simp only [ahead, im_snd, params_m T et h, im_fst]
  split <;> simp [im, dmps_append]
theorem defD_m (a : RT) : defD T ex (ahead [32, 40, 51] (im T a)) = (([32, 40, 51] ++ (im T (defDT T et a)).1 ++ [41]), (defDT T et a).2) := by
  unfold defD defDT
  simp only [ahead, im_snd, must_m, typed_m T et h, h, im_fst]
  simp only [im, dmps_append]; simp
theorem def_m (s : St) : defQ T ex s = im T (defT T et s) := by
  unfold defQ defT
  rw [defA_m, defB_m, defC_m T et h, defD_m T et h]
  simp only [im, dmps_node]; rfl
omit h in
theorem impStep_m (r : RT) : impStep T (ahead [40, 49] (im T r)) = ahead [40, 49] (im T (impStepT T r)) := by
  unfold impStep impStepT
  simp only [ahead, im_snd, leaf_m, must_m, kind_m, im_fst]
  simp only [im, dmps_append, dmps_node]; simp [digT]
theorem defStep_m (r : RT) : defStep T ex (ahead [40, 49] (im T r)) = ahead [40, 49] (im T (defStepT T et r)) := by
  unfold defStep defStepT
  simp only [ahead, im_snd, def_m T et h, im_fst]
  simp only [im, dmps_append]; simp
/-- The same of what many answer: none, or what stands ahead and the texts. -/
def outM (T : List Tok) (b : Bool × RT) : Bool × RQ := (b.1, if b.1 = true then ahead [40, 49] (im T b.2) else im T b.2)
omit h in
theorem many_m {c : St → Bool} {step : RQ → RQ} {stepT : RT → RT} {most : Nat} (hs : ∀ r, step (ahead [40, 49] (im T r)) = ahead [40, 49] (im T (stepT r))) : ∀ f k r, manyQ T c step most f k (ahead [40, 49] (im T r)) = outM T (manyT T c stepT most f k r)
  | 0, k, r => rfl
  | f + 1, k, r => by
    unfold manyQ manyT
    have e : (ahead [40, 49] (im T r)).2 = r.2 := rfl
    rw [e]
    split
    · split
      · simp [outM, im, dmps]
      · rw [hs, many_m hs f]
    · rfl
omit h in
theorem imports_m (s : St) : importsQ T ([40, 49], s) = outM T (importsT T ([], s)) := by
  have e : (([40, 49], s) : RQ) = ahead [40, 49] (im T ([], s)) := by simp [ahead, im, dmps]
  unfold importsQ importsT
  rw [e, many_m T (impStep_m T)]; rfl
theorem defs_m (r : RT) : defsQ T ex (ahead [40, 49] (im T r)) = outM T (defsT T et r) := by
  unfold defsQ defsT
  rw [many_m T (defStep_m T et h)]; rfl
omit h in
theorem many_bad {c : St → Bool} {stepT : RT → RT} {most : Nat} : ∀ f k r, (manyT T c stepT most f k r).1 = false → (manyT T c stepT most f k r).2.2.e ≠ 0
  | 0, k, r, hh => by cases hh
  | f + 1, k, r, hh => by
    unfold manyT at hh ⊢
    split at hh
    · rename_i hc
      rw [if_pos hc]
      split at hh
      · rename_i hk
        rw [if_pos hk]
        exact fail_e T (by decide) _
      · rename_i hk
        rw [if_neg hk]
        exact many_bad f _ _ hh
    · cases hh
/-- Where no fault was, a program's answer is its tree's text. -/
theorem program_m (s : St) : (programQ T ex s).2 = (programT T et s).2 ∧ ((programT T et s).2.e = 0 → (programQ T ex s).1 = dmp T (.nd 1 (programT T et s).1)) := by
  have hb1 := many_bad T (c := isQ T [105, 109, 112, 111, 114, 116]) (stepT := impStepT T) (most := 16) (fuelQ T s) 0 ([], s)
  have hb1' : (importsT T ([], s)).1 = false → (importsT T ([], s)).2.2.e ≠ 0 := hb1
  have hI := imports_m T s
  unfold programQ programT
  rw [hI]
  generalize importsT T ([], s) = I at *
  obtain ⟨i1, r⟩ := I
  cases i1
  · refine ⟨rfl, fun he => absurd he (hb1' rfl)⟩
  · have hb2 := many_bad T (c := isDef T) (stepT := defStepT T et) (most := 64) (fuelQ T r.2) 0 r
    have hb2' : (defsT T et r).1 = false → (defsT T et r).2.2.e ≠ 0 := hb2
    have hD := defs_m T et h r
    have e : (outM T (true, r)).2 = ahead [40, 49] (im T r) := rfl
    have e1 : (outM T (true, r)).1 = true := rfl
    rw [e, hD, e1]
    show (if true = false then _ else _ : RQ).2 = (if true = false then _ else _ : RT).2 ∧ _
    generalize defsT T et r = J at *
    obtain ⟨j1, z⟩ := J
    cases j1
    · refine ⟨by simp [outM, im], fun he => absurd he (by simpa using hb2' rfl)⟩
    · have e2 : (outM T (true, z)).2 = ahead [40, 49] (im T z) := rfl
      have e3 : (outM T (true, z)).1 = true := rfl
      rw [e2, e3]
      simp only [endQ, ahead, im_snd, kind_m, im_fst]
      refine ⟨by simp, fun _ => ?_⟩
      simp only [dmp]; simp [digT, dmps_append]
theorem alone_m (s : St) : (aloneQ T ex s).2 = (aloneT T et s).2 ∧ (aloneQ T ex s).1 = dmp T (.nd 18 (aloneT T et s).1) := by
  unfold aloneQ aloneT
  simp only [h, im_snd, kind_m, im_fst]
  refine ⟨trivial, ?_⟩
  simp only [dmp, dmps_append]; simp [digT]
end
end Go.Proofs.YtddccnpohpaofaaGreatDoor
namespace Go.Proofs.YtddccnpohpaofaaGreatDoor.Zd
open Go.RowKit Mx

theorem lt_upd {f : Nat → Nat} {M k s B : Nat} (h : ∀ j, j < M → f j < B) (hs : s < B) : ∀ j, j < M → upd f k s j < B := by
  intro j hj; unfold upd; split <;> first | exact hs | exact h j hj

theorem mul_top {q x : Nat} (hq : q < Bw) (hx : x < Bw) : q * x ≤ 340282366920938463426481119284349108225 := by
  have : q * x ≤ 18446744073709551615 * 18446744073709551615 := Nat.mul_le_mul (by unfold Bw at hq; omega) (by unfold Bw at hx; omega)
  omega

def TrimPost (p : Option Addr) (n cap : Nat) (f : Nat → Nat) (w : World) (e : Ending) (w' : World) : Prop :=
  ∃ m p' cap', e = .returned (.slice p' m cap') ∧ m ≤ n ∧ m ≤ cap' ∧ cap' ≤ cap ∧ (m = 0 ∨ f (m - 1) ≠ 0) ∧ (∀ j, m ≤ j → j < n → f j = 0) ∧ (m = 0 → p' = none) ∧ (0 < m → p' = p) ∧ w = w'

set_option maxHeartbeats 400000 in
theorem trim_c (p : Option Addr) (n cap : Nat) (f : Nat → Nat) (w : World) (hn : n ≤ cap) (hc : cap ≤ maxLen) (h : At .u64 w p n f) :
    Calls Tryz.prog 58 #[.slice p n cap] w (TrimPost p n cap f w) := by
  unfold maxLen at hc
  go_enter Tryz.func58, Tryz.ntmps58
  go_wp2
  go_loop [3] (fun i => ∃ m : Nat, m ≤ n ∧ i = .int .i64 m ∧ Hid (∀ j, m ≤ j → j < n → f j = 0)) (fun i => (intOf i).toNat)
  case atStart => exact ⟨n, Nat.le_refl _, rfl, fun j h1 h2 => by omega⟩
  case round =>
    obtain ⟨m, hm, rfl, HZ⟩ := hrel
    by_cases h0 : 0 < m
    · rcases h with h | ⟨g, off, rfl, hg, hcell⟩
      · omega
      have hk := hcell (m - 1) (by omega)
      clear hcell
      have hi : (0:Int) < (m : Int) := by omega
      by_cases hv : f (m - 1) = 0
      · rw [hv] at hk
        have HV := Lib.hid hv
        clear hv
        go_wp2
        go_round
        case rel => exact ⟨m - 1, by omega, val_of (by omega), fun j h1 h2 => by
          by_cases e : j = m - 1
          · subst e; exact HV.out
          · exact HZ.out j (by omega) h2⟩
        case measure => simp [intOf]; omega
      · have hfin : TrimPost (some ⟨g, off, none⟩) n cap f w (.returned (.slice (some ⟨g, off, none⟩) m cap)) w := ⟨m, _, cap, rfl, hm, by omega, by omega, .inr hv, HZ.out, fun e => by omega, fun _ => rfl, rfl⟩
        have HFIN := Lib.hid hfin
        have hv1 : ((f (m - 1) : Int) == 0) = false := beq_eq_false_iff_ne.2 (by omega)
        have hv2 : ((m : Int) == 0) = false := beq_eq_false_iff_ne.2 (by omega)
        clear hfin
        go_wp2
        go_ret
        exact HFIN.out
    · obtain rfl : m = 0 := by omega
      have hfin : TrimPost p n cap f w (.returned (.slice none 0 0)) w := ⟨0, none, 0, rfl, by omega, by omega, by omega, .inl rfl, HZ.out, fun _ => rfl, fun e => by omega, rfl⟩
      have HFIN := Lib.hid hfin
      clear hfin
      go_wp2
      go_ret
      exact HFIN.out

def LenPost (A : Nat) (w : World) (e : Ending) (w' : World) : Prop := ∃ n : Nat, e = .returned (.int .i64 n) ∧ (A = 0 → n = 0) ∧ (A ≠ 0 → 2 ^ (n - 1) ≤ A ∧ A < 2 ^ n ∧ 0 < n) ∧ w = w'

theorem info64 : (Tryz.prog.info? 86).map (fun i => (i.zero, i.size, i.bytes)) = some (some (.int .u64 0), 1, 8) := by kernel_rfl

theorem Blk_made (w : World) (n : Nat) (T : TypeId) : Blk .u64 (w.alloc (.cells (madeCells #[.int .u64 0] n) T)) w.heap.size n (fun _ => 0) := by
  refine ⟨_, T, heap_alloc_new w _, size_madeCells _ _, fun j hj => ?_⟩
  rw [← Array.getElem?_toList, toList_madeCells_one]
  simp [hj]

theorem make64_run (n : Nat) (hn : n ≤ 1099511627776) (w : World) : (Instr.makeSlice 25 (.int .i64 (n : Int)) (.int .i64 (n : Int))).run Tryz.prog w = .ok (.slice (some ⟨w.heap.size, 0, none⟩) n n) (w.alloc (.cells (madeCells #[.int .u64 0] n) 86)) :=
  run_make_row' 25 86 (.int .u64 0) 8 Tryz.underlying25 info64 rfl .i64 .i64 n (by omega) (by omega) w

def ShortPost (g off n M d : Nat) (f : Nat → Nat) (w : World) (e : Ending) (w' : World) : Prop :=
  ∃ (r : Nat) (f' : Nat → Nat), e = .returned (.int .u64 r) ∧ r < d ∧ Blk .u64 w' g M f' ∧ (∀ j, j < M → f' j < Bw) ∧ (∀ j, (j < off ∨ off + n ≤ j) → f' j = f j) ∧ V Bw f' off n * d + r = V Bw f off n ∧ w.grownBy w' (some g)

theorem short_alg {A F d B q r r2 x : Nat} (HV : A * d + r = F) (hq : q * d + r2 = r * B + x) : (q + B * A) * d + r2 = x + B * F := by
  rw [← HV]
  have e : (q + B * A) * d + r2 = (q * d + r2) + B * (A * d) := by grind
  rw [e, hq]; grind

theorem short_step {f fk : Nat → Nat} {off n k d q r r2 : Nat} (hk : k < n) (HO : ∀ j, (j < off + (k + 1) ∨ off + n ≤ j) → fk j = f j) (HV : V Bw fk (off + (k + 1)) (n - (k + 1)) * d + r = V Bw f (off + (k + 1)) (n - (k + 1)))
    (hq : q * d + r2 = r * Bw + fk (off + k)) :
    (∀ j, (j < off + k ∨ off + n ≤ j) → upd fk (off + k) q j = f j) ∧ V Bw (upd fk (off + k) q) (off + k) (n - k) * d + r2 = V Bw f (off + k) (n - k) := by
  refine ⟨fun j hj => ?_, ?_⟩
  · rw [upd_ne (by omega)]; exact HO j (by omega)
  · obtain ⟨m, rfl⟩ : ∃ m, n = k + 1 + m := ⟨n - (k + 1), by omega⟩
    have e1 : k + 1 + m - k = m + 1 := by omega
    have e2 : k + 1 + m - (k + 1) = m := by omega
    rw [e2] at HV
    rw [e1, V_front, V_front, upd_at, V_upd_out (by omega), Nat.add_assoc off k 1, ← HO (off + k) (by omega)]
    exact short_alg HV hq

theorem heap_cell {w w' : World} (h : w'.heap = w.heap) (a : Addr) : w'.cell? a = w.cell? a := by simp [World.cell?, h]
theorem heap_frozen {w w' : World} (h : w'.heap = w.heap) (a : Addr) : w'.frozen? a = w.frozen? a := by simp [World.frozen?, h]
theorem heap_blk {k : IntKind} {w w' : World} {g M : Nat} {f : Nat → Nat} (h : w'.heap = w.heap) (hb : Blk k w g M f) : Blk k w' g M f := by
  unfold Blk; rw [h]; exact hb

set_option maxHeartbeats 400000 in
theorem divideInPlace_c (g off n cap M d : Nat) (f : Nat → Nat) (w : World) (hB : Blk .u64 w g M f) (hl : off + n ≤ M) (hM : M ≤ 1099511627776) (hf : ∀ j, j < M → f j < Bw) (hd : 0 < d) (hdB : d < Bw) :
    Calls Tryz.prog 90 #[.slice (some ⟨g, off, none⟩) n cap, .int .u64 d] w (ShortPost g off n M d f w) := by
  go_enter Tryz.func90, Tryz.ntmps90
  go_wp2
  go_loopw [5, 6] (fun r i wr => ∃ (k rn : Nat) (fk : Nat → Nat), k ≤ n ∧ i = .int .i64 ((k : Int) - 1) ∧ r = .int .u64 rn ∧ rn < d ∧ Hid (Blk .u64 wr g M fk) ∧ Hid (∀ j, j < M → fk j < Bw) ∧ Hid (∀ j, (j < off + k ∨ off + n ≤ j) → fk j = f j) ∧
      Hid (V Bw fk (off + k) (n - k) * d + rn = V Bw f (off + k) (n - k)) ∧ Hid (w.grownBy wr (some g)))
    (fun _ i _ => (intOf i + 1).toNat)
  case atStart => exact ⟨n, 0, f, by omega, rfl, rfl, hd, hB, hf, fun _ _ => rfl, by simp [Hid, V], gb_refl _ _⟩
  case round =>
    obtain ⟨k1, rn, fk, hk1, rfl, rfl, hr, HB, HF, HO, HV, HG⟩ := hrel
    by_cases h0 : 0 < k1
    · obtain ⟨k, rfl⟩ : ∃ k, k1 = k + 1 := ⟨k1 - 1, by omega⟩
      have hc1 := HB.out.cell (j := off + k) (by omega)
      have hf1 := HB.out.free (off + k)
      have hx := HF.out (off + k) (by omega)
      have HST := Lib.hid (fun q r2 h => short_step (q := q) (r2 := r2) (show k < n by omega) HO.out HV.out h)
      have HDV := Lib.hid (fun w => div64_c rn (fk (off + k)) d w hr hdB hx)
      have hfd := HF.out
      have HFD := Lib.hid hfd
      have hkk : ((k + 1 : Nat) : Int) - 1 = (k : Int) := by omega
      rw [hkk]
      clear hf hB hfd hx hkk
      go_wp2_with (go_at_call 113; refine (HDV.out _).mono ?_; rintro e w1 ⟨q, r2, rfl, hq, hr2, hdv, m, hw1⟩; (have hh1 : w1.heap = wr.heap := by rw [hw1]; rfl); (have hg1 : wr.grownBy w1 none := by rw [hw1]; exact gb_drewN (gb_refl _ _) _); clear hw1; have HQ := Lib.hid hq; have HDD := Lib.hid hdv; have HH := Lib.hid hh1; have HG1 := Lib.hid hg1; have hf2 := (heap_frozen hh1 _).trans hf1; have hc2 := (heap_cell hh1 _).trans hc1; clear hq hdv hh1 hg1 hf1 hc1)
      go_roundw
      case rel => exact ⟨k, r2, _, by omega, rfl, rfl, hr2, (heap_blk HH.out HB.out).set q, lt_upd HF.out HQ.out, (HST.out q r2 HDD.out).1, (HST.out q r2 HDD.out).2, gb_set (gb_trans HG.out (below_gb (gb_below HG1.out))) _⟩
      case measure => simp [intOf]
    · obtain rfl : k1 = 0 := by omega
      have hfin : ShortPost g off n M d f w (.returned (.int .u64 rn)) wr := ⟨rn, fk, rfl, hr, HB.out, HF.out, HO.out, HV.out, HG.out⟩
      have HFIN := Lib.hid hfin
      clear hfin hf hB
      go_wp2
      go_ret
      exact HFIN.out

/-- The slice v reads as the number N. -/
def Num (w : World) (v : Value) (N : Nat) : Prop :=
  ∃ p n cap f, v = .slice p n cap ∧ n ≤ cap ∧ cap ≤ maxLen ∧ At .u64 w p n f ∧ (∀ j, j < n → f j < Bw) ∧ (n = 0 ∨ f (n - 1) ≠ 0) ∧ V Bw f 0 n = N

theorem Num.kept {w w' : World} {v : Value} {N : Nat} (h : Num w v N) (hg : w.grownBy w' none) : Num w' v N := by
  obtain ⟨p, n, cap, f, rfl, h1, h2, h3, r⟩ := h
  exact ⟨p, n, cap, f, rfl, h1, h2, h3.grown hg (by simp), r⟩

/-- No number here is as long as this. -/
def LimN : Nat := 100000
def Lim : Nat := Bw ^ LimN
theorem lim_len {n : Nat} {f : Nat → Nat} (t : n = 0 ∨ f (n - 1) ≠ 0) (h : V Bw f 0 n < Lim) : n ≤ LimN := by
  rcases V_top (b := Bw) (f := f) (o := 0) (n := n) (by simpa using t) with e | e
  · omega
  · by_cases hn : n ≤ LimN
    · exact hn
    · have : Bw ^ LimN ≤ Bw ^ (n - 1) := Nat.pow_le_pow_right Bw_pos (by omega)
      unfold Lim at h
      omega

def NumPost (N : Nat) (w : World) (e : Ending) (w' : World) : Prop := ∃ v, e = .returned v ∧ Num w' v N ∧ w.grownBy w' none

theorem addr_add (g o j : Nat) : (⟨g, o, none⟩ : Addr).add j = ⟨g, o + j, none⟩ := by unfold Addr.add; split <;> simp_all

/-- What is handed over by copy into a block of one's own. -/
theorem copy_run (w : World) (g M : Nat) (fz f : Nat → Nat) (p : Option Addr) (n cap : Nat) (hB : Blk .u64 w g M fz) (h : At .u64 w p n f) (hn : n ≤ M) :
    ∃ w', (Builtin.copy_ #[25, 25] 3 #[.slice (some ⟨g, 0, none⟩) M M, .slice p n cap]).run Tryz.prog w = .ok (.int .i64 n) w' ∧ Blk .u64 w' g M (fun j => if j < n then f j else fz j) ∧ w.grownBy w' (some g) := by
  by_cases h0 : n = 0
  · subst h0
    refine ⟨w, ?_, by simpa using hB, gb_refl _ _⟩
    exact run_copy_none w 25 25 3 86 _ _ _ _ _ _ Tryz.underlying25 (by kernel_rfl) (by simp)
  · rcases h with h | ⟨gb, ob, rfl, hg, hc⟩
    · omega
    obtain ⟨cur, T, hgg, hs, hcur⟩ := hB
    obtain ⟨L, hl, hL⟩ : ∃ L : List Value, L.length = n ∧ ∀ j, j < n → L[j]? = some (.int .u64 (f j)) := ⟨(List.range n).map fun j => Value.int .u64 (f j), by simp, fun j hj => by simp [hj]⟩
    have hmem : ∀ v ∈ L, v.oneCell' = true := by
      intro v hv
      obtain ⟨j, hj, rfl⟩ := List.getElem_of_mem hv
      have := hL j (by omega)
      rw [List.getElem?_eq_getElem hj] at this
      injection this with this
      rw [this]; rfl
    have hr := run_copy_row (P := Tryz.prog) w 25 25 3 86 g 0 M M ⟨gb, ob, none⟩ n cap cur T L Tryz.underlying25 (by kernel_rfl) hgg
      (by rw [hl]; exact (Nat.min_eq_left hn).symm) (fun j v hj => by
        have hjn : j < n := by rw [← hl]; exact (List.getElem?_eq_some_iff.1 hj).1
        rw [hL j hjn] at hj
        injection hj with hj
        rw [addr_add, ← hj]; exact hc j hjn) (by omega) hmem
    refine ⟨w.setRow g (cur.toList.take 0 ++ L ++ cur.toList.drop (0 + L.length)).toArray, ?_, ?_, ?_⟩
    · rw [hr, hl]; rfl
    · refine ⟨_, T, setRow_heap w g _ _ T _ hgg, by simp; omega, fun j hj => ?_⟩
      rw [List.getElem?_toArray, List.take_zero, List.nil_append, Nat.zero_add, hl, List.getElem?_append, hl]
      by_cases hjn : j < n
      · rw [if_pos hjn]; simp only [hjn, if_true]; exact hL j hjn
      · rw [if_neg hjn, List.getElem?_drop, Array.getElem?_toList, show n + (j - n) = j from by omega]
        simp only [hjn, if_false]
        exact hcur j hj
    · exact ⟨rfl, rfl, rfl, by simp [World.setRow], fun k _ hr => setRow_other w g k _ (by intro e; apply hr; rw [e])⟩

/-- copy as a step of the walk. -/
theorem wpList_copy64 {w : World} {ops : Array Oper} {rest : List Oper} {o : Oper} {a : Act} {Q : Exit → Act → World → Prop} (hgd : o.guard = none) (d s : Operand)
    (ho : o.op = .call { callee := .builtin .copy, args := #[d, s], argTypes := #[25, 25] }) (hty : o.type = 3)
    (g M n cap : Nat) (p : Option Addr) (fz f : Nat → Nat) (hd : a.eval d = .slice (some ⟨g, 0, none⟩) M M) (hs : a.eval s = .slice p n cap) (hB : Blk .u64 w g M fz) (h : At .u64 w p n f) (hn : n ≤ M)
    (K : ∀ w', Hid (Blk .u64 w' g M (fun j => if j < n then f j else fz j)) → Hid (w.grownBy w' (some g)) → wpList Tryz.prog ops Q rest (a.put o.dst (.int .i64 n)) w') :
    wpList Tryz.prog ops Q (o :: rest) a w := by
  refine wpList_plain hgd fun K' hK => ?_
  obtain ⟨w', hrun, h1, h2⟩ := copy_run w g M fz f p n cap hB h hn
  unfold Oper.wp
  simp [execOp, ho, resolve, invoke, builtin, hd, hs, hty, hrun, Result.andThen]
  exact hK _ _ (K w' h1 h2)

def lst (k : IntKind) (n : Nat) (f : Nat → Nat) : List Value := (List.range n).map fun j => Value.int k (f j)
theorem lst_len {k : IntKind} {n : Nat} {f : Nat → Nat} : (lst k n f).length = n := by simp [lst]
theorem lst_get {k : IntKind} {n : Nat} {f : Nat → Nat} {j : Nat} (h : j < n) : (lst k n f)[j]? = some (.int k (f j)) := by simp [lst, h]
theorem lst_succ {k : IntKind} {n : Nat} {f : Nat → Nat} {y : Nat} : lst k (n + 1) (upd f n y) = lst k n f ++ [.int k y] := by
  unfold lst
  rw [List.range_succ, List.map_append]
  congr 1
  · apply List.map_congr_left
    intro j hj
    rw [upd_ne (by simp at hj; omega)]
  · simp [upd]
theorem lst_take {k : IntKind} {n m : Nat} {f : Nat → Nat} (h : m ≤ n) : (lst k n f).take m = lst k m f := by
  unfold lst
  rw [← List.map_take, List.take_range, Nat.min_eq_left h]

/-- The slice v, of the call's own blocks from base on, holds the n numbers f 0 .. -/
def Own (k : IntKind) (e : TypeId) (w : World) (base : Nat) (v : Value) (n : Nat) (f : Nat → Nat) : Prop := w.ownsRow base e 1 v n (lst k n f)

section
variable {k : IntKind} {e : TypeId} {w w' : World} {base : Nat} {v : Value} {n : Nat} {f : Nat → Nat}
theorem Own.shape (h : Own k e w base v n f) : (v = .slice none 0 0 ∧ n = 0) ∨ ∃ g cap, v = .slice (some ⟨g, 0, none⟩) n cap ∧ base ≤ g ∧ g < w.heap.size ∧ n ≤ cap ∧ cap ≤ maxLen := by
  rcases h.2 with h2 | ⟨g, cap, cur, hv, hb, hg, hn, hc, _⟩
  · exact .inl h2
  · exact .inr ⟨g, cap, hv, hb, (Array.getElem?_eq_some_iff.1 hg).1, hn, hc⟩
theorem Own.at {p : Option Addr} {m cap : Nat} (h : Own k e w base (.slice p m cap) n f) : m = n ∧ At k w p n f := by
  rcases h.2 with ⟨hv, hn⟩ | ⟨g, cap', cur, hv, hb, hg, hn, hc, hs, htake⟩
  · injection hv with h1 h2; subst h1; subst h2; exact ⟨hn.symm, .inl hn⟩
  · injection hv with h1 h2 h3; subst h1; subst h2; subst h3
    refine ⟨rfl, .inr ⟨g, 0, rfl, (Array.getElem?_eq_some_iff.1 hg).1, fun j hj => ?_⟩⟩
    have := World.ownsRow.cells (w := w) (base := base) (e := e) (size := 1) (v := .slice (some ⟨g, 0, none⟩) m cap) (n := m) (xs := lst k m f) ⟨by simp [lst], .inr ⟨g, cap, cur, rfl, hb, hg, hn, hc, hs, htake⟩⟩ (g := g) rfl j (.int k (f j)) (lst_get hj)
    rwa [addr_add] at this
theorem Own.kept {row : Option Nat} (h : Own k e w base v n f) (hg : w.grownBy w' row) (hne : v.ownBlock = none ∨ v.ownBlock ≠ row) : Own k e w' base v n f := World.ownsRow.kept h hg hne
theorem Own.cut {g cap m : Nat} (h : Own k e w base (.slice (some ⟨g, 0, none⟩) n cap) n f) (hm : m ≤ n) : Own k e w base (.slice (some ⟨g, 0, none⟩) m cap) m f := by
  rcases h.2 with ⟨hv, _⟩ | ⟨g', cap', cur, hv, hb, hg, hn, hc, hs, htake⟩
  · cases hv
  · injection hv with h1 h2 h3
    injection h1 with h1
    injection h1 with h1
    subst h1; subst h3
    refine ⟨by simp [lst], .inr ⟨g, cap, cur, rfl, hb, hg, by omega, hc, hs, ?_⟩⟩
    rw [Nat.mul_one] at htake ⊢
    rw [← lst_take hm, ← htake, List.take_take, Nat.min_eq_left hm]
theorem Own.far (h : Own k e w base v n f) : ∀ g, v.ownBlock = some g → base ≤ g := by
  intro g hg
  rcases h.shape with ⟨rfl, _⟩ | ⟨g', cap, rfl, hb, _⟩
  · cases hg
  · simp [Value.ownBlock] at hg; omega
theorem Own.mono {base' : Nat} (h : Own k e w base v n f) (hb : base' ≤ base) : Own k e w base' v n f := by
  refine ⟨h.1, ?_⟩
  rcases h.2 with h2 | ⟨g, cap, cur, hv, hg, r⟩
  · exact .inl h2
  · exact .inr ⟨g, cap, cur, hv, by omega, r⟩
theorem gb_own {a : World} (h : a.grownBy w none) (ho : Own k e w base v n f) (hb : a.heap.size ≤ base) (hg : w.grownBy w' v.ownBlock) : a.grownBy w' none := by
  have hf := ho.far
  exact ⟨hg.os.trans h.os, hg.tape.trans h.tape, hg.output.trans h.output, Nat.le_trans h.size hg.size, fun i hi _ => (hg.block i (Nat.lt_of_lt_of_le hi h.size) (fun e => by have := hf i e.symm; omega)).trans (h.block i hi (by simp))⟩
theorem Own.nil : Own k e w base (.slice none 0 0) 0 f := World.ownsRow_nil w base e 1
theorem Own.congr {f2 : Nat → Nat} (h : Own k e w base v n f) (hf : ∀ j, j < n → f j = f2 j) : Own k e w base v n f2 := by
  have : lst k n f2 = lst k n f := by
    unfold lst
    apply List.map_congr_left
    intro j hj
    rw [hf j (by simpa using hj)]
  unfold Own
  rw [this]; exact h
theorem Own.set {g cap j x : Nat} (h : Own k e w base (.slice (some ⟨g, 0, none⟩) n cap) n f) (hj : j < n) : Own k e (w.setCell ⟨g, j, none⟩ (.int k x)) base (.slice (some ⟨g, 0, none⟩) n cap) n (upd f j x) := by
  have h2 := (World.ownsRow.stored h j (.int k x)).1
  have e : (lst k n f).set j (.int k x) = lst k n (upd f j x) := by
    apply List.ext_getElem?
    intro i
    rw [List.getElem?_set, lst_len]
    by_cases hi : i < n
    · rw [lst_get hi]
      by_cases hij : j = i
      · subst hij; rw [lst_get hi, upd_at]; simp [hi]
      · rw [if_neg hij, lst_get hi, upd_ne (by omega)]
    · rw [if_neg (by omega), List.getElem?_eq_none (by rw [lst_len]; omega), List.getElem?_eq_none (by rw [lst_len]; omega)]
  rw [e] at h2
  exact h2
theorem Own.cell {g cap j : Nat} (h : Own k e w base (.slice (some ⟨g, 0, none⟩) n cap) n f) (hj : j < n) : w.cell? ⟨g, j, none⟩ = some (.int k (f j)) := by
  rw [World.ownsRow.cellAt h j (by omega)]; exact lst_get hj
theorem Own.free {g cap j : Nat} (h : Own k e w base (.slice (some ⟨g, 0, none⟩) n cap) n f) : w.frozen? ⟨g, j, none⟩ = false := World.ownsRow.frozenAt h j
end

/-- append of one number, as a step of the walk. -/
theorem wpList_app1 {k : IntKind} {t e : TypeId} {bytes : Nat} (ht : Tryz.prog.underlying t = some (.slice e)) (hinfo : (Tryz.prog.info? e).map (fun i => (i.zero, i.size, i.bytes)) = some (some (.int k 0), 1, bytes)) (hby : bytes ≤ 8)
    {w0 : World} {ops : Array Oper} {rest : List Oper} {o : Oper} {a : Act} {Q : Exit → Act → World → Prop} (hgd : o.guard = none) (s x : Operand) (ho : o.op = .call { callee := .builtin .append, args := #[s, x], argTypes := #[t, t] })
    (base : Nat) (v : Value) (n : Nat) (f : Nat → Nat) (Y : Int) (y : Nat) (hY : Y = (y : Int)) (hs : a.eval s = v) (hown : Own k e w0 base v n f) (hx : a.eval x = .slice (some ⟨w0.heap.size, 0, none⟩) 1 1) (hn : n ≤ 1000000000) (hbase : base ≤ w0.heap.size)
    (K : ∀ v' w', Own k e w' base v' (n + 1) (upd f n y) → w0.grownBy w' v.ownBlock → wpList Tryz.prog ops Q rest (a.put o.dst v') w') :
    wpList Tryz.prog ops Q (o :: rest) a (w0.alloc (.cells #[.int k Y] e)) := by
  subst hY
  obtain ⟨i0, hi, hz0, hz1, hz2⟩ := info_parts hinfo
  refine wpList_append_own (P := Tryz.prog) _ hgd s x t ho base e i0 (.int k 0) 1 bytes ht hi hz0 hz1 hz2 rfl (by decide) v n (lst k n f) hs (hown.alloc _) ⟨w0.heap.size, 0, none⟩ 1 1 [.int k y] hx rfl ?_ ?_ (by unfold maxLen; omega) ?_ (by simp; omega) ?_
  · intro j u hj
    match j, hj with
    | 0, hj => simp at hj; subst hj; simp [Addr.add]
  · intro u hu; simp at hu; subst hu; rfl
  · have : (n + 1) * bytes ≤ (n + 1) * 8 := Nat.mul_le_mul_left _ hby
    omega
  · intro v' w' h1 h2 _
    refine K v' w' ?_ ⟨h2.os, h2.tape, h2.output, Nat.le_trans (by simp) h2.size, fun j hj hr => (h2.block j (by simp; omega) hr).trans (Below.heap_alloc w0 _ j hj)⟩
    unfold Own
    rw [lst_succ]; exact h1
theorem own_below {w w1 w2 : World} (h : Below w.heap.size w w1) {o : Obj} (hg : (w1.alloc o).grownBy w2 (some w1.heap.size)) : w.grownBy w2 none :=
  below_gb (gb_new (h.alloc h.size o) h.size hg)

theorem lt_cut {f : Nat → Nat} {n M : Nat} (h : ∀ j, j < n → f j < Bw) : ∀ j, j < M → (fun j => if j < n then f j else 0) j < Bw := by
  intro j _
  show (if j < n then f j else 0) < Bw
  split
  · exact h j ‹_›
  · exact Bw_pos

theorem num_pos {n : Nat} {f : Nat → Nat} (hB : V Bw f 0 n ≠ 0) : 0 < n := by
  rcases Nat.eq_zero_or_pos n with h | h
  · subst h; exact absurd rfl hB
  · exact h
end Go.Proofs.YtddccnpohpaofaaGreatDoor.Zd
namespace Go.Proofs.YtddccnpohpaofaaGreatDoor.Zd
open Go.RowKit Mx

/-- How many decimal digits N has (0 of 0). -/
def nd (N : Nat) : Nat := if h : N = 0 then 0 else nd (N / 10) + 1
termination_by N
decreasing_by omega

theorem nd_lt (N : Nat) : N < 10 ^ nd N := by
  induction N using nd.induct with
  | case1 => simp [nd]
  | case2 N h ih => rw [nd, dif_neg h, Nat.pow_succ]; omega

theorem nd_le (N : Nat) (h : N ≠ 0) : 10 ^ (nd N - 1) ≤ N := by
  induction N using nd.induct with
  | case1 => exact absurd rfl h
  | case2 N h ih =>
    rw [nd, dif_neg h, Nat.add_sub_cancel]
    by_cases h1 : N / 10 = 0
    · rw [h1, nd, dif_pos rfl]; simp; omega
    · have := ih h1
      have e : 10 ^ nd (N / 10) = 10 ^ (nd (N / 10) - 1) * 10 := by
        rw [← Nat.pow_succ]; congr 1
        have : nd (N / 10) ≠ 0 := by rw [nd, dif_neg h1]; omega
        omega
      omega

theorem nd_of {N n : Nat} (h1 : N < 10 ^ n) (h2 : 10 ^ (n - 1) ≤ N) (hn : 0 < n) : n = nd N := by
  have hN : N ≠ 0 := by have := Nat.pow_pos (n := n - 1) (show 0 < 10 by omega); omega
  have a := nd_lt N
  have b := nd_le N hN
  rcases Nat.lt_trichotomy n (nd N) with h | h | h
  · have : 10 ^ n ≤ 10 ^ (nd N - 1) := Nat.pow_le_pow_right (by omega) (by omega); omega
  · exact h
  · have : 10 ^ nd N ≤ 10 ^ (n - 1) := Nat.pow_le_pow_right (by omega) (by omega); omega

def dig (N j : Nat) : Nat := N / 10 ^ j % 10

/-- Digits without a nought at the end are the number's. -/
theorem digits_of {f : Nat → Nat} {n N : Nat} (hf : ∀ j, j < n → f j < 10) (hn : 0 < n) (ht : f (n - 1) ≠ 0) (hV : V 10 f 0 n = N) : n = nd N ∧ ∀ j, j < n → f j = dig N j := by
  refine ⟨nd_of ?_ ?_ hn, fun j hj => ?_⟩
  · rw [← hV]; exact V_lt (fun j hj => by rw [Nat.zero_add]; exact hf j hj)
  · rcases V_top (b := 10) (f := f) (o := 0) (n := n) (.inr (by simpa using ht)) with h | h
    · omega
    · rw [← hV]; exact h
  · have := V_digit (b := 10) (f := f) (o := 0) (n := n) (by omega) (fun j hj => by rw [Nat.zero_add]; exact hf j hj) hj
    rw [Nat.zero_add] at this
    rw [← this, ← hV]; rfl

/-- A number's text without a sign, the highest digit first. -/
def decL (N : Nat) : List UInt8 := (List.range (nd N)).map fun j => UInt8.ofNat (48 + dig N (nd N - 1 - j))

/-- A number's text. -/
def txtL (Z : Int) : List UInt8 := if Z = 0 then [48] else if Z < 0 then 45 :: decL Z.natAbs else decL Z.natAbs
def txt (Z : Int) : Value := .string ⟨(txtL Z).toArray⟩

def DigPost (N : Nat) (w : World) (e : Ending) (w' : World) : Prop :=
  ∃ g cap f, e = .returned (.slice (some ⟨g, 0, none⟩) ((nd N : Nat)) cap) ∧ Own .u8 5 w' w.heap.size (.slice (some ⟨g, 0, none⟩) (nd N) cap) (nd N) f ∧ (∀ j, j < nd N → f j = 48 + dig N j) ∧ w.grownBy w' none

theorem info8 : (Tryz.prog.info? 5).map (fun i => (i.zero, i.size, i.bytes)) = some (some (.int .u8 0), 1, 1) := by kernel_rfl

def ten19 : Nat := 10000000000000000000

/-- The digits that bytes are. -/
def dv (f : Nat → Nat) : Nat → Nat := fun j => f j - 48

def DRel (w : World) (N na : Nat) (g : Nat) (left out : Value) (wr : World) : Prop :=
  ∃ nl p cl fl n fb, left = .slice p nl cl ∧ nl ≤ cl ∧ cl ≤ maxLen ∧ nl ≤ na ∧ (0 < nl → p = some ⟨w.heap.size, 0, none⟩) ∧ Blk .u64 wr w.heap.size na fl ∧ (∀ j, j < na → fl j < Bw) ∧ (nl = 0 ∨ fl (nl - 1) ≠ 0) ∧ V Bw fl 0 nl = g ∧
    Own .u8 5 wr (w.heap.size + 1) out n fb ∧ (∀ j, j < n → 48 ≤ fb j ∧ fb j < 58) ∧ V 10 (dv fb) 0 n + 10 ^ n * g = N ∧ w.grownBy wr none

def GRel (w wo : World) (na : Nat) (fl fb : Nat → Nat) (n r0 : Nat) (r gn : Nat) (out : Value) (wr : World) : Prop :=
  ∃ fb', Blk .u64 wr w.heap.size na fl ∧ Own .u8 5 wr (w.heap.size + 1) out (n + r) fb' ∧ (∀ j, j < n + r → 48 ≤ fb' j ∧ fb' j < 58) ∧ gn < 10 ^ (19 - r) ∧ V 10 (dv fb') 0 (n + r) + 10 ^ (n + r) * gn = V 10 (dv fb) 0 n + 10 ^ n * r0 ∧ w.grownBy wr none

theorem dv_upd {f : Nat → Nat} {n y : Nat} : V 10 (dv (upd f n y)) 0 (n + 1) = V 10 (dv f) 0 n + (y - 48) * 10 ^ n := by
  rw [V_succ, Nat.zero_add]
  congr 1
  · exact V_congr (fun j hj => by unfold dv; rw [upd_ne (by omega)])
  · simp [dv, upd]

theorem digit_step {f : Nat → Nat} {m gn T : Nat} (h : V 10 (dv f) 0 m + 10 ^ m * gn = T) : V 10 (dv (upd f m (48 + gn % 10))) 0 (m + 1) + 10 ^ (m + 1) * (gn / 10) = T := by
  rw [dv_upd, Nat.add_sub_cancel_left, Nat.pow_succ, ← h]
  have := Nat.div_add_mod gn 10
  generalize gn / 10 = a at *
  generalize gn % 10 = b at *
  rw [← this]; grind

theorem digit_rng {f : Nat → Nat} {m gn : Nat} (h : ∀ j, j < m → 48 ≤ f j ∧ f j < 58) : ∀ j, j < m + 1 → 48 ≤ upd f m (48 + gn % 10) j ∧ upd f m (48 + gn % 10) j < 58 := by
  intro j hj
  unfold upd
  split
  · omega
  · exact h j (by omega)

theorem digit_len {n X g N na : Nat} (h : X + 10 ^ n * g = N) (hg : 0 < g) (hN : N < Bw ^ na) : n < 64 * na := by
  have h1 : 10 ^ n * 1 ≤ 10 ^ n * g := Nat.mul_le_mul_left _ hg
  have h2 : 2 ^ n ≤ 10 ^ n := Nat.pow_le_pow_left (by omega) n
  have h3 : Bw ^ na = 2 ^ (64 * na) := by rw [Nat.pow_mul]; rfl
  have h4 : 2 ^ n < 2 ^ (64 * na) := by rw [← h3]; omega
  exact (Nat.pow_lt_pow_iff_right (by omega)).1 h4

set_option maxHeartbeats 2000000 in
theorem digitsFromLast_w (pa : Option Addr) (na capa : Nat) (f : Nat → Nat) (w : World) (hna : na ≤ 100000) (ha : At .u64 w pa na f) (hf : ∀ j, j < na → f j < Bw) (t : na = 0 ∨ f (na - 1) ≠ 0) (h0 : 0 < na) :
    Calls Tryz.prog 59 #[.slice pa na capa] w (DigPost (V Bw f 0 na) w) := by
  have hmk : ∀ w, (Instr.makeSlice 25 (.int .i64 (na : Int)) (.int .i64 (na : Int))).run Tryz.prog w = .ok (.slice (some ⟨w.heap.size, 0, none⟩) na na) (w.alloc (.cells (madeCells #[.int .u64 0] na) 86)) :=
    fun w => make64_run na (by omega) w
  have HA := Lib.hid ha; have HF := Lib.hid hf; have HT := Lib.hid t
  have hN0 : V Bw f 0 na ≠ 0 := by
    rcases V_top (b := Bw) (f := f) (o := 0) (n := na) (by simpa using t) with e | e
    · omega
    · have := Nat.pow_pos (n := na - 1) Bw_pos; omega
  have HN0 := Lib.hid hN0
  clear ha hf t hN0
  go_enter Tryz.func59, Tryz.ntmps59
  go_wp2_with (with_reducible refine wpList_copy64 rfl _ _ rfl rfl w.heap.size na na capa pa (fun _ => 0) f rfl rfl (Blk_made _ _ _) (HA.out.grown (World.grownBy_alloc _ _ none) (by simp)) (by omega) ?_)
  intro w2 HB2 HG2
  have HBEL := Lib.hid (own_below (Below.refl _ _) HG2.out)
  have HSZ := HB2.out.lt
  have HF2 := Lib.hid (lt_cut HF.out (M := na))
  clear hmk HG2 HA
  have hNlt : V Bw f 0 na < Bw ^ na := V_lt (fun j hj => by rw [Nat.zero_add]; exact HF.out j hj)
  have HNL := Lib.hid hNlt
  have HS : Hid (DRel w (V Bw f 0 na) na (V Bw f 0 na) (.slice (some ⟨w.heap.size, 0, none⟩) na na) (.slice none 0 0) w2) :=
    ⟨na, _, na, _, 0, fun _ => 0, rfl, Nat.le_refl _, by unfold maxLen; omega, Nat.le_refl _, fun _ => rfl, HB2.out, HF2.out, by have := HT.out; rcases this with h | h; exact .inl h; exact .inr (by rw [if_pos (by omega)]; exact h), V_congr (fun j hj => by simp [hj]), Own.nil, fun j hj => by omega, by simp [V], HBEL.out⟩
  clear hNlt HB2 HBEL HF2 HSZ
  go_wp2_with fail
  go_loopg [3, 4] (V Bw f 0 na) (fun g left out wr => DRel w (V Bw f 0 na) na g left out wr)
  case atStart => exact HS.out
  case round =>
    clear HS
    obtain ⟨nl, p, cl, fl, n, fb, rfl, q1, q2, q3, q4, q5, q6, q7, q8, q9, q10, q11, q12⟩ := hrel
    by_cases hnl : 0 < nl
    · obtain rfl := q4 hnl
      have hg0 : 0 < gk := by
        rw [← q8]
        rcases V_top (b := Bw) (f := fl) (o := 0) (n := nl) (by simpa using q7) with e | e
        · omega
        · have := Nat.pow_pos (n := nl - 1) Bw_pos; omega
      have hlen := digit_len q11 hg0 HNL.out
      have HBL := Lib.hid q5; have HFL := Lib.hid q6; have HV8 := Lib.hid q8; have HO := Lib.hid q9; have HR10 := Lib.hid q10; have HE := Lib.hid q11; have HW := Lib.hid q12
      have ht19 : 0 < ten19 := by unfold ten19; omega
      have ht19B : ten19 < Bw := by unfold ten19 Bw; omega
      have HT1 := Lib.hid ht19; have HT2 := Lib.hid ht19B
      have HGK0 := Lib.hid hg0
      clear q4 q5 q6 q7 q8 q9 q10 q11 q12 ht19 ht19B hg0
      go_wp2_with (go_at_call 90; rw [show (10000000000000000000 : Int) = ((ten19 : Nat) : Int) from rfl]; refine (divideInPlace_c w.heap.size 0 nl _ na ten19 fl _ HBL.out (by omega) (by omega) HFL.out HT1.out HT2.out).mono ?_; rintro e w3 ⟨r0, f3, rfl, hr, hB3, hF3, hO3, hV3, hG3⟩; have HB3 := Lib.hid hB3; have HF3 := Lib.hid hF3; have HV3 := Lib.hid hV3; have HG3 := Lib.hid hG3; have HR := Lib.hid hr; clear hB3 hF3 hO3 hV3 hG3 hr)
      refine (trim_c _ nl cl f3 _ q1 q2 (HB3.out.at0.pre q3)).mono ?_
      rintro e w4 ⟨m, p', cap', rfl, hm, hm2, hc', ht, hz, hm0, hmp, rfl⟩
      have HM1 := Lib.hid ht; have HM2 := Lib.hid hz; have HM3 := Lib.hid hmp
      clear ht hz hm0 hmp
      have HSZ4 := HO.out.far
      have hblk := HO.out.kept HG3.out (by
        rcases HO.out.shape with ⟨e, _⟩ | ⟨g', c', e, hb, _⟩
        · subst e; exact .inl rfl
        · subst e; exact .inr (by simp [Value.ownBlock]; omega))
      have HBK := Lib.hid hblk
      have HW3 := Lib.hid (below_gb (row := none) (gb_new (gb_below HW.out) (Nat.le_refl _) HG3.out))
      have HGS : Hid (GRel w w na f3 fb n r0 0 r0 u4 w3) := ⟨fb, HB3.out, HBK.out, HR10.out, by have := HR.out; unfold ten19 at this; omega, rfl, HW3.out⟩
      clear hblk HSZ4 HBK HW3 HBL HG3 HW HO
      go_wp2_with fail
      go_loopg [4, 5, 19] 19 (fun g out grp i wr => ∃ r gn : Nat, g = 19 - r ∧ r ≤ 19 ∧ i = .int .i64 r ∧ grp = .int .u64 gn ∧ GRel w w na f3 fb n r0 r gn out wr)
      case atStart => exact ⟨0, r0, rfl, by omega, rfl, rfl, HGS.out⟩
      case round =>
        clear HGS
        obtain ⟨r, gn, rfl, hr19, rfl, rfl, fb', g1, g2, g3, g4, g5, g6⟩ := hrel
        by_cases hlt : r < 19
        · have i1 : (0 : Int) ≤ (gn : Int) % 10 := by omega
          have i2 : (gn : Int) % 10 < 10 := by omega
          have i3 : (0 : Int) ≤ gn := by omega
          have i4 : (gn : Int) ≤ 18446744073709551615 := by
            have : 10 ^ (19 - r) ≤ 10 ^ 19 := Nat.pow_le_pow_right (by omega) (by omega)
            omega
          have G1 := Lib.hid g1; have G2 := Lib.hid g2; have G3 := Lib.hid g3; have G4 := Lib.hid g4; have G5 := Lib.hid g5; have G6 := Lib.hid g6
          have hsz := G6.out.size
          have hL := G1.out.lt
          clear g1 g2 g3 g4 g5 g6
          go_wp2_with (at_builtin; refine wpList_app1 (k := .u8) (t := 73) (e := 5) (bytes := 1) Tryz.underlying73 info8 (by omega) rfl _ _ rfl (w.heap.size + 1) u4 (n + r) fb' _ (48 + gn % 10) (by omega) rfl G2.out rfl (by omega) (by omega) ?_)
          intro v' w' hO' hG'
          have HO' := Lib.hid hO'; have HG' := Lib.hid hG'
          clear hO' hG'
          go_wp2_with fail
          have hg2 : gn / 10 < 10 ^ (19 - (r + 1)) := by
            have e : 10 ^ (19 - r) = 10 ^ (19 - (r + 1)) * 10 := by rw [← Nat.pow_succ]; congr 1; omega
            have := G4.out
            omega
          have hL2 : w.heap.size ≠ w.heap.size + 1 := by omega
          have hBL : Blk .u64 w' w.heap.size na f3 := by
            refine G1.out.kept HG'.out ?_
            intro e
            have := G2.out.far _ e.symm
            omega
          go_roundg (19 - (r + 1))
          case measure => omega
          case rel => exact ⟨r + 1, gn / 10, rfl, by omega, by go_num, val_of (by omega), upd fb' (n + r) (48 + gn % 10), hBL, HO'.out, digit_rng G3.out, hg2, digit_step G5.out, gb_own G6.out G2.out (by omega) HG'.out⟩
        · obtain rfl : r = 19 := by omega
          have hz : gn = 0 := by have : gn < 10 ^ 0 := g4; simpa using this
          rw [hz, Nat.mul_zero, Nat.add_zero] at g5
          have hv3 : V Bw f3 0 m = V Bw f3 0 nl := (V_pad (fun j h1 h2 => by simpa using HM2.out j h1 h2) hm).symm
          have hgk : gk = V Bw f3 0 m * ten19 + r0 := by rw [hv3, HV3.out]; exact HV8.out.symm
          have hlt2 : V Bw f3 0 m < gk := by
            have h1 := HT1.out
            have h2 := HGK0.out
            have h3 : V Bw f3 0 m * 2 ≤ V Bw f3 0 m * ten19 := Nat.mul_le_mul_left _ (by unfold ten19; omega)
            omega
          have hE2 : V 10 (dv fb') 0 (n + 19) + 10 ^ (n + 19) * V Bw f3 0 m = V Bw f 0 na := by
            rw [g5, ← HE.out, hgk, Nat.pow_add]
            have e : ten19 = 10 ^ 19 := by unfold ten19; rfl
            rw [e]; generalize (10:Nat) ^ 19 = t; grind
          have HH := Lib.hid (show DRel w (V Bw f 0 na) na (V Bw f3 0 m) (.slice p' m cap') u4 wr from ⟨m, p', cap', f3, n + 19, fb', rfl, hm2, by omega, by omega, HM3.out, g1, HF3.out, HM1.out, rfl, g2, g3, hE2, g6⟩)
          have HLT2 := Lib.hid hlt2
          clear hE2 hgk hv3 hz g1 g2 g3 g4 g5 g6 hlt2
          go_wp2_with fail
          go_roundg (V Bw f3 0 m)
          case measure => exact HLT2.out
          case rel => exact HH.out
    · obtain rfl : nl = 0 := by omega
      have hg : gk = 0 := q8.symm
      rw [hg, Nat.mul_zero, Nat.add_zero] at q11
      have hn0 : 0 < n := by
        rcases Nat.eq_zero_or_pos n with h | h
        · subst h; exact absurd q11.symm HN0.out
        · exact h
      obtain ⟨G, cap, rfl, hG1, hG2, hG3, hG4⟩ : ∃ g cap, u4 = .slice (some ⟨g, 0, none⟩) n cap ∧ w.heap.size + 1 ≤ g ∧ g < wr.heap.size ∧ n ≤ cap ∧ cap ≤ maxLen := by
        rcases q9.shape with ⟨_, h⟩ | h
        · omega
        · exact h
      have HO := Lib.hid q9; have HR10 := Lib.hid q10; have HE := Lib.hid q11; have HW := Lib.hid q12
      clear q4 q5 q6 q7 q8 q9 q10 q11 q12 hg HT HF
      go_wp2_with fail
      go_loopg [4] n (fun g out wx => ∃ m : Nat, g = m ∧ 0 < m ∧ m ≤ n ∧ out = .slice (some ⟨G, 0, none⟩) m cap ∧ Hid (V 10 (dv fb) 0 m = V Bw f 0 na) ∧ wr = wx)
      case atStart => exact ⟨n, rfl, hn0, Nat.le_refl _, rfl, HE, rfl⟩
      case round =>
        obtain ⟨m, hgm, hm0, hmn, rfl, HM, rfl⟩ := hrel
        obtain rfl : m = _ := hgm.symm
        have hcell := HO.out.cell (j := m - 1) (by omega)
        have hrng := HR10.out (m - 1) (by omega)
        unfold maxLen at hG4
        have i1 : (0 : Int) ≤ (m : Int) - 1 := by omega
        have i2 : (m : Int) - 1 < m := by omega
        by_cases hx : fb (m - 1) = 48
        · rw [hx] at hcell
          have hvm : V 10 (dv fb) 0 (m - 1) = V Bw f 0 na := by
            have := HM.out
            obtain ⟨t, rfl⟩ : ∃ t, m = t + 1 := ⟨m - 1, by omega⟩
            rw [V_succ, Nat.zero_add] at this
            simp only [Nat.add_sub_cancel] at hx ⊢
            have e : dv fb t = 0 := by unfold dv; rw [hx]
            rw [e, Nat.zero_mul, Nat.add_zero] at this
            exact this
          have hm1 : 0 < m - 1 := by
            rcases Nat.eq_zero_or_pos (m - 1) with h | h
            · rw [h] at hvm; exact absurd hvm.symm HN0.out
            · exact h
          have HVM := Lib.hid hvm
          clear hvm hx hrng
          go_wp2_with fail
          go_roundg (m - 1)
          case measure => omega
          case rel => exact ⟨m - 1, rfl, hm1, by omega, rfl, HVM, rfl⟩
        · have hd := digits_of (f := dv fb) (n := m) (N := V Bw f 0 na) (fun j hj => by have := HR10.out j (by omega); unfold dv; omega) hm0 (by unfold dv; omega) HM.out
          have hfin : DigPost (V Bw f 0 na) w (.returned (.slice (some ⟨G, 0, none⟩) m cap)) wr := by
            refine ⟨G, cap, fb, by rw [← hd.1], ?_, fun j hj => ?_, HW.out⟩
            · rw [← hd.1]; exact (HO.out.cut hmn).mono (by omega)
            · have h1 := HR10.out j (by omega)
              have h2 := hd.2 j (by omega)
              unfold dv at h2
              omega
          have HFIN := Lib.hid hfin
          have hne : ((fb (m - 1) : Int) == 48) = false := beq_eq_false_iff_ne.2 (by omega)
          clear hfin hd hrng hx
          go_wp2_with fail
          go_ret
          exact HFIN.out

def RevPost (g cap n : Nat) (f : Nat → Nat) (base : Nat) (w : World) (e : Ending) (w' : World) : Prop :=
  e = .returned (.tuple #[]) ∧ Own .u8 5 w' base (.slice (some ⟨g, 0, none⟩) n cap) n (fun j => f (n - 1 - j)) ∧ w.grownBy w' (some g)

def rv (f : Nat → Nat) (n k : Nat) : Nat → Nat := fun j => if j < k ∨ n ≤ j + k then f (n - 1 - j) else f j

theorem rv_step {f : Nat → Nat} {n k : Nat} (h : 2 * k + 1 < n) : ∀ j, j < n → upd (upd (rv f n k) k (f (n - 1 - k))) (n - 1 - k) (f k) j = rv f n (k + 1) j := by
  intro j hj
  unfold upd rv
  split
  · subst_vars
    rw [if_pos (by omega)]
    congr 1; omega
  · split
    · subst_vars; rw [if_pos (by omega)]
    · by_cases h1 : j < k ∨ n ≤ j + k
      · rw [if_pos h1, if_pos (by omega)]
      · rw [if_neg h1, if_neg (by omega)]

set_option maxHeartbeats 2000000 in
theorem reverse_c (g cap n : Nat) (f : Nat → Nat) (base : Nat) (w : World) (h : Own .u8 5 w base (.slice (some ⟨g, 0, none⟩) n cap) n f) (hn : n ≤ 1000000000) :
    Calls Tryz.prog 60 #[.slice (some ⟨g, 0, none⟩) n cap] w (RevPost g cap n f base w) := by
  have HO := Lib.hid h
  clear h
  go_enter Tryz.func60, Tryz.ntmps60
  go_wp2
  go_loopw [2, 3] (fun i j wr => ∃ k : Nat, 2 * k ≤ n + 1 ∧ i = .int .i64 k ∧ j = .int .i64 ((n : Int) - 1 - k) ∧ Hid (Own .u8 5 wr base (.slice (some ⟨g, 0, none⟩) n cap) n (rv f n k)) ∧ Hid (w.grownBy wr (some g))) (fun i _ _ => n - (intOf i).toNat)
  case atStart => exact ⟨0, by omega, rfl, by simp, HO.out.congr (fun j hj => by simp [rv]; omega), gb_refl _ _⟩
  case round =>
    obtain ⟨k, hk, rfl, rfl, HK, HG⟩ := hrel
    by_cases hlt : 2 * k + 1 < n
    · have c1 := HK.out.cell (j := k) (by omega)
      have c2 := HK.out.cell (j := n - 1 - k) (by omega)
      have f1 := HK.out.free (j := k)
      have f2 := HK.out.free (j := n - 1 - k)
      have e1 : rv f n k k = f k := by unfold rv; rw [if_neg (by omega)]
      have e2 : rv f n k (n - 1 - k) = f (n - 1 - k) := by unfold rv; rw [if_neg (by omega)]
      rw [e1] at c1; rw [e2] at c2
      obtain ⟨x, hx⟩ : ∃ x, f k = x := ⟨_, rfl⟩
      obtain ⟨y, hy⟩ : ∃ y, f (n - 1 - k) = y := ⟨_, rfl⟩
      rw [hx] at c1; rw [hy] at c2
      have HNEXT := Lib.hid (((HK.out.set (j := k) (x := y) (by omega)).set (j := n - 1 - k) (x := x) (by omega)).congr (f2 := rv f n (k + 1)) (by rw [← hx, ← hy]; exact rv_step hlt))
      obtain ⟨l, hl⟩ : ∃ l, n - 1 - k = l := ⟨_, rfl⟩
      have hli : (n : Int) - 1 - k = (l : Int) := by omega
      rw [hl] at c2 f2 HNEXT
      rw [hli]
      have i1 : (k : Int) < l := by omega
      have i2 : (l : Int) < n := by omega
      have hkl : k < l := by omega
      have hln : l < n := by omega
      have HL := Lib.hid hl
      have hf2' : (wr.setCell ⟨g, k, none⟩ (.int .u8 y)).frozen? ⟨g, l, none⟩ = false := (HK.out.set (j := k) (x := y) (by omega)).free
      have hc2' := (HK.out.set (j := k) (x := y) (by omega)).cell (j := l) (by omega)
      have e3 : rv f n k l = y := by rw [← hl, e2]; exact hy
      rw [upd_ne (by omega), e3] at hc2'
      clear e1 e2 e3 hx hy hl hli
      go_wp2
      go_region
      all_goals go_wp2
      go_roundw
      case rel => exact ⟨k + 1, by omega, by go_num, val_of (by have := HL.out; omega), HNEXT.out, gb_drew (gb_set (gb_set HG.out _) _)⟩
      case measure => simp [intOf]; omega
    · have hfin : RevPost g cap n f base w (.returned (.tuple #[])) wr := ⟨rfl, HK.out.congr (fun j hj => by
        unfold rv
        by_cases h : j < k ∨ n ≤ j + k
        · rw [if_pos h]
        · rw [if_neg h]; congr 1; omega), HG.out⟩
      have HFIN := Lib.hid hfin
      have i1 : ¬ ((k : Int) < (n : Int) - 1 - k) := by omega
      clear hfin
      go_wp2
      go_end0
      exact HFIN.out

theorem times_alg {A F c P m r s x c2 B : Nat} (h : A + c * P = m * F + r) (hs : s + c2 * B = x * m + c) : A + s * P + c2 * (P * B) = m * (F + x * P) + r := by
  have e : A + s * P + c2 * (P * B) = A + (s + c2 * B) * P := by grind
  rw [e, hs]
  have e2 : A + (x * m + c) * P = (A + c * P) + x * m * P := by grind
  rw [e2, h]; grind

def TPPost (base : Nat) (n m r : Nat) (f : Nat → Nat) (w : World) (e : Ending) (w' : World) : Prop :=
  ∃ v' n' f', e = .returned v' ∧ Own .u64 86 w' base v' n' f' ∧ n' ≤ n + 1 ∧ (∀ j, j < n' → f' j < Bw) ∧ V Bw f' 0 n' = m * V Bw f 0 n + r ∧ Below base w w'

theorem tp_arith {m x c hi lo s ov : Nat} (hm : m < Bw) (hx : x < Bw) (hc : c < Bw) (hml : hi * Bw + lo = x * m) (h1 : s + ov * Bw = lo + c + 0) (hs : s < Bw) : hi + ov < Bw ∧ s + (hi + ov) * Bw = x * m + c := by
  have := mul_top hx hm
  generalize x * m = P at *
  unfold Bw at *
  omega

set_option maxHeartbeats 2000000 in
theorem timesPlus_c (base : Nat) (v : Value) (n m r : Nat) (f : Nat → Nat) (w : World) (hO : Own .u64 86 w base v n f) (hf : ∀ j, j < n → f j < Bw) (hm : m < Bw) (hr : r < Bw) (hn : n ≤ 100000) (hbase : base ≤ w.heap.size) :
    Calls Tryz.prog 31 #[v, .int .u64 m, .int .u64 r] w (TPPost base n m r f w) := by
  obtain ⟨p, cap, rfl, hp⟩ : ∃ p cap, v = .slice p n cap ∧ (0 < n → ∃ g, p = some ⟨g, 0, none⟩ ∧ base ≤ g ∧ g < w.heap.size) := by
    rcases hO.shape with ⟨rfl, rfl⟩ | ⟨g, cap, rfl, hbg, hgs, hnc, hcm⟩
    · exact ⟨_, _, rfl, fun h => by omega⟩
    · exact ⟨_, _, rfl, fun _ => ⟨g, rfl, hbg, hgs⟩⟩
  have HS := Lib.hid hO; have HF := Lib.hid hf; have HM := Lib.hid hm; have HR := Lib.hid hr
  clear hO hf hm hr
  go_enter Tryz.func31, Tryz.ntmps31
  go_wp2
  go_loopw [2, 14] (fun c i wr => ∃ (k c' : Nat) (fk : Nat → Nat), k ≤ n ∧ i = .int .i64 k ∧ c = .int .u64 c' ∧ Hid (c' < Bw) ∧ Hid (Own .u64 86 wr base (.slice p n cap) n fk) ∧ Hid (∀ j, j < n → fk j < Bw) ∧ Hid (∀ j, k ≤ j → j < n → fk j = f j) ∧
      Hid (V Bw fk 0 k + c' * Bw ^ k = m * V Bw f 0 k + r) ∧ Hid (Below base w wr)) (fun _ i _ => n - (intOf i).toNat)
  case atStart => exact ⟨0, r, f, by omega, rfl, rfl, HR, HS, HF, fun _ _ _ => rfl, by simp [Hid, V], Below.refl _ _⟩
  case round =>
    clear HS HF HR
    obtain ⟨k, c', fk, hk, rfl, rfl, HC, HO, HF, HE, HV, HB⟩ := hrel
    by_cases hlt : k < n
    · obtain ⟨g, rfl, hbg, hgs⟩ := hp (by omega)
      have hc1 := HO.out.cell hlt
      have hf1 := HO.out.free (j := k)
      obtain ⟨hi, lo, hmul, hhi, hlo, hml⟩ := mul64_c (fk k) m (HF.out k hlt) HM.out
      obtain ⟨s, ov, hrun, hs, hov, hsum⟩ := add64_run lo c' 0 (by omega) hlo HC.out
      obtain ⟨hcn, har⟩ := tp_arith HM.out (HF.out k hlt) HC.out hml hsum hs
      have hr1 : ∀ w, (callFunc 57 #[.int .u64 lo, .int .u64 c', .int .u64 0]).run Tryz.prog w = .ok (.value (.tuple #[.int .u64 s, .int .u64 ov])) w := hrun
      have HMUL := Lib.hid hmul
      have H2 : Hid (V Bw (upd fk k s) 0 (k + 1) + (hi + ov) * Bw ^ (k + 1) = m * V Bw f 0 (k + 1) + r) := by
        show _ = _
        rw [V_succ, V_succ, Nat.zero_add, upd_at, V_upd_out (by omega), Nat.pow_succ, ← HE.out k (Nat.le_refl _) hlt]
        exact times_alg HV.out har
      have HCN := Lib.hid hcn
      have hcn2 : hi + ov < 18446744073709551616 := hcn
      have HSB := Lib.hid hs
      clear hrun hmul hml hsum hcn har hs hhi hlo
      go_wp2_with (go_at_call 56; refine (HMUL.out _).mono ?_; rintro e w' ⟨rfl, rfl⟩)
      go_roundw
      case rel => exact ⟨k + 1, hi + ov, upd fk k s, by omega, by go_num, by go_num, HCN, HO.out.set hlt, lt_upd HF.out HSB.out, (fun j h1 h2 => by rw [upd_ne (by omega)]; exact HE.out j (by omega) h2), H2, HB.out.setCell hbg _⟩
      case measure => simp [intOf]; omega
    · obtain rfl : k = n := by omega
      by_cases h0 : c' = 0
      · subst h0
        have hfin : TPPost base k m r f w (.returned (.slice p k cap)) wr := ⟨_, k, fk, rfl, HO.out, by omega, HF.out, by have := HV.out; rwa [Nat.zero_mul, Nat.add_zero] at this, HB.out⟩
        have HFIN := Lib.hid hfin
        clear hfin
        go_wp2
        go_ret
        exact HFIN.out
      · have hr0 : ((c' : Int) == 0) = false := beq_eq_false_iff_ne.2 (by omega)
        have hbs : base ≤ wr.heap.size := Nat.le_trans hbase HB.out.size
        have hfar := Lib.hid HO.out.far
        clear hp
        go_wp2_with (at_builtin; refine wpList_app1 (k := .u64) (t := 25) (e := 86) (bytes := 8) Tryz.underlying25 info64 (by omega) rfl _ _ rfl base (.slice p k cap) k fk _ c' rfl rfl HO.out rfl (by omega) (by omega) ?_)
        intro v' w' hO' hG'
        have HO' := Lib.hid hO'; have HG' := Lib.hid hG'
        clear hO' hG'
        go_wp2_with fail
        go_ret
        refine ⟨v', k + 1, _, rfl, HO'.out, by omega, fun j hj => ?_, ?_, HB.out.grown HG'.out hbs hfar.out⟩
        · unfold upd; split
          · exact HC.out
          · exact HF.out j (by omega)
        · rw [V_succ, Nat.zero_add, upd_at, V_upd_out (by omega)]; exact HV.out
end Go.Proofs.YtddccnpohpaofaaGreatDoor.Zd
namespace Go.Proofs.YtddccnpohpaofaaGreatDoor
open Go

section
variable {P : Program} {ops : Array Oper} {Q : Exit → Act → World → Prop} {md : Region.Mode} {S : World → Prop} {z : Nat}

/-- Whatever comes up next, S holds behind it, but behind number z. -/
def wpG (P : Program) (md : Region.Mode) (ops : Array Oper) (Q : Exit → Act → World → Prop) (S : World → Prop) (z : Nat) : Nat → Array Bool → Act → World → Prop
  | 0, L, a, w => Region.ready md ops L = [] ∧ Q .normal a w
  | n + 1, L, a, w => (Region.ready md ops L = [] → Q .normal a w) ∧ ∀ i ∈ Region.ready md ops L, wpOp P ops Q i (fun a' w' => (i ≠ z → S w') ∧ wpG P md ops Q S z n (L.setIfInBounds i true) a' w') a w

theorem wpG_any : ∀ (n : Nat) (L : Array Bool) (a : Act) (w : World), wpG P md ops Q S z n L a w → wpAny P md ops Q n L a w
  | 0, _, _, _, h => h
  | n + 1, _, _, _, h => ⟨h.1, fun i hi => wpOp_mono (fun a' w' k => wpG_any n _ a' w' k.2) (h.2 i hi)⟩

/-- What waits for something that hasn't come up can't come up. -/
theorem not_ready {L : Array Bool} {i : Nat} (hz : Region.waitsFor md ops z i = true) (hi : L.getD i true = false) : z ∉ Region.ready md ops L := fun h => by
  obtain ⟨oz, hoz, e, he, hb, hei⟩ := Region.waitsFor_spec hz
  obtain ⟨-, o, ho, hall⟩ := mem_ready.1 h
  obtain rfl : o = oz := Option.some.inj (ho.symm.trans hoz)
  have h1 := hall e he hb
  rw [hei] at h1
  have h2 := getD_both hi
  rw [h1] at h2
  cases h2

theorem wpG_first {i : Nat} {oi : Oper} {v : Value} (hi : ops[i]? = some oi) (hsel : ∀ (j : Nat) (o : Oper) cs b, ops[j]? = some o → o.op ≠ .select cs b) (hz : Region.waitsFor md ops z i = true)
    (hQ : ∀ c a w, Q (.panic c) (a.put oi.dst v) w → Q (.panic c) a w) : ∀ (n : Nat) (L : Array Bool) (a : Act) (w : World),
      (∀ j oj, ops[j]? = some oj → j ≠ i → L.getD j true = false → (∀ e ∈ oj.after, Region.binds md e = true → e.on ≠ i) → oi.apart ops oj = true) →
      i ∈ Region.ready md ops L → YieldsIf P ops S oi v a → S w → wpG P md ops Q S z n (L.setIfInBounds i true) (a.put oi.dst v) w → wpG P md ops Q S z (n + 1) L a w := by
  intro n
  induction n with
  | zero =>
    intro L a w _ hr hy hS H
    refine ⟨fun h0 => (by rw [h0] at hr; cases hr), fun j hj => ?_⟩
    by_cases hne : j = i
    · subst hne; exact hy.wpOp hi hS ⟨fun _ => hS, H⟩
    · have h1 := ready_mono hj hne
      rw [H.1] at h1; cases h1
  | succ n ih =>
    intro L a w hap hr hy hS H
    refine ⟨fun h0 => (by rw [h0] at hr; cases hr), fun j hj => ?_⟩
    by_cases hne : j = i
    · subst hne; exact hy.wpOp hi hS ⟨fun _ => hS, H⟩
    · have hil := (mem_ready.1 hr).1
      have hjz : j ≠ z := fun e => not_ready hz hil (e ▸ hj)
      obtain ⟨hjl, oj, hoj, hall⟩ := mem_ready.1 hj
      have hno : ∀ e ∈ oj.after, Region.binds md e = true → e.on ≠ i := fun e he hb h0 => by
        have h1 := hall e he hb
        rw [h0, getD_both hil] at h1
        cases h1
      have hstep := wpOp_putIf hoj (hap j oj hoj hne hjl hno) (fun cs b => hsel i oi cs b hi) (fun cs b => hsel j oj cs b hoj) hQ hy (H.2 j (ready_mono hj hne))
      refine wpOp_mono (fun a' w' k => ⟨fun _ => k.2.1 hjz, ih (L.setIfInBounds j true) a' w' (fun m om hm hmi hml hmn => hap m om hm hmi ?_ hmn) (ready_mono hr (Ne.symm hne)) k.1 (k.2.1 hjz) ?_⟩) hstep
      · by_cases hjm : j = m
        · subst hjm; exact hjl
        · rwa [getD_set_ne true hjm] at hml
      · have hc := Array.setIfInBounds_comm (xs := L) true true hne
        rw [hc]; exact k.2.2

theorem wpG_take {i : Nat} {oi : Oper} {v : Value} {n : Nat} {L : Array Bool} {a : Act} {w : World} (hi : ops[i]? = some oi) (hs : Region.noSelect ops = true) (hf : Region.free md ops L i = true) (hr : (Region.ready md ops L).contains i = true) (hz : Region.waitsFor md ops z i = true)
    (hQ : ∀ c a w, Q (.panic c) (a.put oi.dst v) w → Q (.panic c) a w) (hw : Region.wanted oi (yielded ops a.tmps) = true) (hy : ∀ w, S w → (execOp a.eval oi).run P w = .ok (.value v) w) (hS : S w)
    (h : wpG P md ops Q S z n (L.setIfInBounds i true) (a.put oi.dst v) w) : wpG P md ops Q S z (n + 1) L a w :=
  wpG_first hi (Region.noSelect_spec hs) hz hQ n L a w (Region.free_spec hi hf) (by simpa using hr) (.inl ⟨hw, hy⟩) hS h

theorem wpG_step {i : Nat} {o : Oper} {n : Nat} {L : Array Bool} {a : Act} {w : World} (hr : Region.ready md ops L = [i]) (ho : ops[i]? = some o)
    (h : ∀ K : Act → World → Prop, Shut (∀ a' w', (i ≠ z → S w') → ((i ≠ z → S w') → wpG P md ops Q S z n (L.setIfInBounds i true) a' w') → K a' w') → if Region.wanted o (yielded ops a.tmps) = true then Oper.wp P o a w K Q else K (a.put o.dst undef) w) : wpG P md ops Q S z (n + 1) L a w :=
  ⟨fun h0 => (by rw [hr] at h0; cases h0), fun j hj => by
    rw [hr] at hj
    obtain rfl : j = i := by simpa using hj
    exact wpOp_step ho (fun K hK => h K (fun a' w' h1 h2 => hK a' w' ⟨h1, h2 h1⟩))⟩

theorem wpG_done {n : Nat} {L : Array Bool} {a : Act} {w : World} (hr : Region.ready md ops L = []) (h : Q .normal a w) : wpG P md ops Q S z n L a w := by
  cases n with
  | zero => exact ⟨hr, h⟩
  | succ n => exact ⟨fun _ => h, fun i hi => (by rw [hr] at hi; cases hi)⟩

theorem wp_region_G {id : Nat} {a : Act} {w : World} (hm : P.follows .mixedOrders = true) (hS : S w.drew)
    (h : S w.drew → wpG P .any ops Q S z ops.size (Array.replicate ops.size false) a w.drew) : (Code.region id ops true).wp P Q a w :=
  wp_region_any hm (wpG_any _ _ _ _ (h hS))
end
end Go.Proofs.YtddccnpohpaofaaGreatDoor
