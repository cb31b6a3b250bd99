/- Lemmas. -/
import Derived.Deep.RegionHeld3
import Derived.StillTailTactics
import Derived.Test.YtccokidhngdjnaaGreatDoorP1
import Derived.Test.YtccokidhngdjnaaGreatDoorP10
set_option linter.unusedVariables false
set_option linter.unusedSimpArgs false
namespace Go.Proofs.YtccokidhngdjnaaGreatDoor.Zd
open Go.RowKit Mx

theorem lt_upd {f : Nat → Nat} {M k s B : Nat} (h : ∀ j, j < M → f j < B) (hs : s < B) : ∀ j, j < M → upd f k s j < B := by
  intro j hj; unfold upd; split <;> first | exact hs | exact h j hj

theorem mul_top {q x : Nat} (hq : q < Bw) (hx : x < Bw) : q * x ≤ 340282366920938463426481119284349108225 := by
  have : q * x ≤ 18446744073709551615 * 18446744073709551615 := Nat.mul_le_mul (by unfold Bw at hq; omega) (by unfold Bw at hx; omega)
  omega

def TrimPost (p : Option Addr) (n cap : Nat) (f : Nat → Nat) (w : World) (e : Ending) (w' : World) : Prop :=
  ∃ m p' cap', e = .returned (.slice p' m cap') ∧ m ≤ n ∧ m ≤ cap' ∧ cap' ≤ cap ∧ (m = 0 ∨ f (m - 1) ≠ 0) ∧ (∀ j, m ≤ j → j < n → f j = 0) ∧ (m = 0 → p' = none) ∧ (0 < m → p' = p) ∧ w = w'

set_option maxHeartbeats 400000 in
theorem trim_c (p : Option Addr) (n cap : Nat) (f : Nat → Nat) (w : World) (hn : n ≤ cap) (hc : cap ≤ maxLen) (h : At .u64 w p n f) :
    Calls Tryz.prog 45 #[.slice p n cap] w (TrimPost p n cap f w) := by
  unfold maxLen at hc
  go_enter Tryz.func45, Tryz.ntmps45
  go_wp2
  go_loop [3] (fun i => ∃ m : Nat, m ≤ n ∧ i = .int .i64 m ∧ Hid (∀ j, m ≤ j → j < n → f j = 0)) (fun i => (intOf i).toNat)
  case atStart => exact ⟨n, Nat.le_refl _, rfl, fun j h1 h2 => by omega⟩
  case round =>
    obtain ⟨m, hm, rfl, HZ⟩ := hrel
    by_cases h0 : 0 < m
    · rcases h with h | ⟨g, off, rfl, hg, hcell⟩
      · omega
      have hk := hcell (m - 1) (by omega)
      clear hcell
      have hi : (0:Int) < (m : Int) := by omega
      by_cases hv : f (m - 1) = 0
      · rw [hv] at hk
        have HV := Lib.hid hv
        clear hv
        go_wp2
        go_round
        case rel => exact ⟨m - 1, by omega, val_of (by omega), fun j h1 h2 => by
          by_cases e : j = m - 1
          · subst e; exact HV.out
          · exact HZ.out j (by omega) h2⟩
        case measure => simp [intOf]; omega
      · have hfin : TrimPost (some ⟨g, off, none⟩) n cap f w (.returned (.slice (some ⟨g, off, none⟩) m cap)) w := ⟨m, _, cap, rfl, hm, by omega, by omega, .inr hv, HZ.out, fun e => by omega, fun _ => rfl, rfl⟩
        have HFIN := Lib.hid hfin
        have hv1 : ((f (m - 1) : Int) == 0) = false := beq_eq_false_iff_ne.2 (by omega)
        have hv2 : ((m : Int) == 0) = false := beq_eq_false_iff_ne.2 (by omega)
        clear hfin
        go_wp2
        go_ret
        exact HFIN.out
    · obtain rfl : m = 0 := by omega
      have hfin : TrimPost p n cap f w (.returned (.slice none 0 0)) w := ⟨0, none, 0, rfl, by omega, by omega, by omega, .inl rfl, HZ.out, fun _ => rfl, fun e => by omega, rfl⟩
      have HFIN := Lib.hid hfin
      clear hfin
      go_wp2
      go_ret
      exact HFIN.out

def LenPost (A : Nat) (w : World) (e : Ending) (w' : World) : Prop := ∃ n : Nat, e = .returned (.int .i64 n) ∧ (A = 0 → n = 0) ∧ (A ≠ 0 → 2 ^ (n - 1) ≤ A ∧ A < 2 ^ n ∧ 0 < n) ∧ w = w'

theorem info64 : (Tryz.prog.info? 70).map (fun i => (i.zero, i.size, i.bytes)) = some (some (.int .u64 0), 1, 8) := by kernel_rfl

theorem Blk_made (w : World) (n : Nat) (T : TypeId) : Blk .u64 (w.alloc (.cells (madeCells #[.int .u64 0] n) T)) w.heap.size n (fun _ => 0) := by
  refine ⟨_, T, heap_alloc_new w _, size_madeCells _ _, fun j hj => ?_⟩
  rw [← Array.getElem?_toList, toList_madeCells_one]
  simp [hj]

theorem make64_run (n : Nat) (hn : n ≤ 1099511627776) (w : World) : (Instr.makeSlice 25 (.int .i64 (n : Int)) (.int .i64 (n : Int))).run Tryz.prog w = .ok (.slice (some ⟨w.heap.size, 0, none⟩) n n) (w.alloc (.cells (madeCells #[.int .u64 0] n) 70)) :=
  run_make_row' 25 70 (.int .u64 0) 8 Tryz.underlying25 info64 rfl .i64 .i64 n (by omega) (by omega) w

def ShortPost (g off n M d : Nat) (f : Nat → Nat) (w : World) (e : Ending) (w' : World) : Prop :=
  ∃ (r : Nat) (f' : Nat → Nat), e = .returned (.int .u64 r) ∧ r < d ∧ Blk .u64 w' g M f' ∧ (∀ j, j < M → f' j < Bw) ∧ (∀ j, (j < off ∨ off + n ≤ j) → f' j = f j) ∧ V Bw f' off n * d + r = V Bw f off n ∧ w.grownBy w' (some g)

theorem short_alg {A F d B q r r2 x : Nat} (HV : A * d + r = F) (hq : q * d + r2 = r * B + x) : (q + B * A) * d + r2 = x + B * F := by
  rw [← HV]
  have e : (q + B * A) * d + r2 = (q * d + r2) + B * (A * d) := by grind
  rw [e, hq]; grind

theorem short_step {f fk : Nat → Nat} {off n k d q r r2 : Nat} (hk : k < n) (HO : ∀ j, (j < off + (k + 1) ∨ off + n ≤ j) → fk j = f j) (HV : V Bw fk (off + (k + 1)) (n - (k + 1)) * d + r = V Bw f (off + (k + 1)) (n - (k + 1)))
    (hq : q * d + r2 = r * Bw + fk (off + k)) :
    (∀ j, (j < off + k ∨ off + n ≤ j) → upd fk (off + k) q j = f j) ∧ V Bw (upd fk (off + k) q) (off + k) (n - k) * d + r2 = V Bw f (off + k) (n - k) := by
  refine ⟨fun j hj => ?_, ?_⟩
  · rw [upd_ne (by omega)]; exact HO j (by omega)
  · obtain ⟨m, rfl⟩ : ∃ m, n = k + 1 + m := ⟨n - (k + 1), by omega⟩
    have e1 : k + 1 + m - k = m + 1 := by omega
    have e2 : k + 1 + m - (k + 1) = m := by omega
    rw [e2] at HV
    rw [e1, V_front, V_front, upd_at, V_upd_out (by omega), Nat.add_assoc off k 1, ← HO (off + k) (by omega)]
    exact short_alg HV hq

theorem heap_cell {w w' : World} (h : w'.heap = w.heap) (a : Addr) : w'.cell? a = w.cell? a := by simp [World.cell?, h]
theorem heap_frozen {w w' : World} (h : w'.heap = w.heap) (a : Addr) : w'.frozen? a = w.frozen? a := by simp [World.frozen?, h]
theorem heap_blk {k : IntKind} {w w' : World} {g M : Nat} {f : Nat → Nat} (h : w'.heap = w.heap) (hb : Blk k w g M f) : Blk k w' g M f := by
  unfold Blk; rw [h]; exact hb

set_option maxHeartbeats 400000 in
theorem divideInPlace_c (g off n cap M d : Nat) (f : Nat → Nat) (w : World) (hB : Blk .u64 w g M f) (hl : off + n ≤ M) (hM : M ≤ 1099511627776) (hf : ∀ j, j < M → f j < Bw) (hd : 0 < d) (hdB : d < Bw) :
    Calls Tryz.prog 68 #[.slice (some ⟨g, off, none⟩) n cap, .int .u64 d] w (ShortPost g off n M d f w) := by
  go_enter Tryz.func68, Tryz.ntmps68
  go_wp2
  go_loopw [5, 6] (fun r i wr => ∃ (k rn : Nat) (fk : Nat → Nat), k ≤ n ∧ i = .int .i64 ((k : Int) - 1) ∧ r = .int .u64 rn ∧ rn < d ∧ Hid (Blk .u64 wr g M fk) ∧ Hid (∀ j, j < M → fk j < Bw) ∧ Hid (∀ j, (j < off + k ∨ off + n ≤ j) → fk j = f j) ∧
      Hid (V Bw fk (off + k) (n - k) * d + rn = V Bw f (off + k) (n - k)) ∧ Hid (w.grownBy wr (some g)))
    (fun _ i _ => (intOf i + 1).toNat)
  case atStart => exact ⟨n, 0, f, by omega, rfl, rfl, hd, hB, hf, fun _ _ => rfl, by simp [Hid, V], gb_refl _ _⟩
  case round =>
    obtain ⟨k1, rn, fk, hk1, rfl, rfl, hr, HB, HF, HO, HV, HG⟩ := hrel
    by_cases h0 : 0 < k1
    · obtain ⟨k, rfl⟩ : ∃ k, k1 = k + 1 := ⟨k1 - 1, by omega⟩
      have hc1 := HB.out.cell (j := off + k) (by omega)
      have hf1 := HB.out.free (off + k)
      have hx := HF.out (off + k) (by omega)
      have HST := Lib.hid (fun q r2 h => short_step (q := q) (r2 := r2) (show k < n by omega) HO.out HV.out h)
      have HDV := Lib.hid (fun w => div64_c rn (fk (off + k)) d w hr hdB hx)
      have hfd := HF.out
      have HFD := Lib.hid hfd
      have hkk : ((k + 1 : Nat) : Int) - 1 = (k : Int) := by omega
      rw [hkk]
      clear hf hB hfd hx hkk
      go_wp2_with (go_at_call 100; refine (HDV.out _).mono ?_; rintro e w1 ⟨q, r2, rfl, hq, hr2, hdv, m, hw1⟩; (have hh1 : w1.heap = wr.heap := by rw [hw1]; rfl); (have hg1 : wr.grownBy w1 none := by rw [hw1]; exact gb_drewN (gb_refl _ _) _); clear hw1; have HQ := Lib.hid hq; have HDD := Lib.hid hdv; have HH := Lib.hid hh1; have HG1 := Lib.hid hg1; have hf2 := (heap_frozen hh1 _).trans hf1; have hc2 := (heap_cell hh1 _).trans hc1; clear hq hdv hh1 hg1 hf1 hc1)
      go_roundw
      case rel => exact ⟨k, r2, _, by omega, rfl, rfl, hr2, (heap_blk HH.out HB.out).set q, lt_upd HF.out HQ.out, (HST.out q r2 HDD.out).1, (HST.out q r2 HDD.out).2, gb_set (gb_trans HG.out (below_gb (gb_below HG1.out))) _⟩
      case measure => simp [intOf]
    · obtain rfl : k1 = 0 := by omega
      have hfin : ShortPost g off n M d f w (.returned (.int .u64 rn)) wr := ⟨rn, fk, rfl, hr, HB.out, HF.out, HO.out, HV.out, HG.out⟩
      have HFIN := Lib.hid hfin
      clear hfin hf hB
      go_wp2
      go_ret
      exact HFIN.out

/-- The slice v reads as the number N. -/
def Num (w : World) (v : Value) (N : Nat) : Prop :=
  ∃ p n cap f, v = .slice p n cap ∧ n ≤ cap ∧ cap ≤ maxLen ∧ At .u64 w p n f ∧ (∀ j, j < n → f j < Bw) ∧ (n = 0 ∨ f (n - 1) ≠ 0) ∧ V Bw f 0 n = N

theorem Num.kept {w w' : World} {v : Value} {N : Nat} (h : Num w v N) (hg : w.grownBy w' none) : Num w' v N := by
  obtain ⟨p, n, cap, f, rfl, h1, h2, h3, r⟩ := h
  exact ⟨p, n, cap, f, rfl, h1, h2, h3.grown hg (by simp), r⟩

/-- No number here is as long as this. -/
def LimN : Nat := 100000
def Lim : Nat := Bw ^ LimN
theorem lim_len {n : Nat} {f : Nat → Nat} (t : n = 0 ∨ f (n - 1) ≠ 0) (h : V Bw f 0 n < Lim) : n ≤ LimN := by
  rcases V_top (b := Bw) (f := f) (o := 0) (n := n) (by simpa using t) with e | e
  · omega
  · by_cases hn : n ≤ LimN
    · exact hn
    · have : Bw ^ LimN ≤ Bw ^ (n - 1) := Nat.pow_le_pow_right Bw_pos (by omega)
      unfold Lim at h
      omega

def NumPost (N : Nat) (w : World) (e : Ending) (w' : World) : Prop := ∃ v, e = .returned v ∧ Num w' v N ∧ w.grownBy w' none

theorem addr_add (g o j : Nat) : (⟨g, o, none⟩ : Addr).add j = ⟨g, o + j, none⟩ := by unfold Addr.add; split <;> simp_all

/-- What is handed over by copy into a block of one's own. -/
theorem copy_run (w : World) (g M : Nat) (fz f : Nat → Nat) (p : Option Addr) (n cap : Nat) (hB : Blk .u64 w g M fz) (h : At .u64 w p n f) (hn : n ≤ M) :
    ∃ w', (Builtin.copy_ #[25, 25] 3 #[.slice (some ⟨g, 0, none⟩) M M, .slice p n cap]).run Tryz.prog w = .ok (.int .i64 n) w' ∧ Blk .u64 w' g M (fun j => if j < n then f j else fz j) ∧ w.grownBy w' (some g) := by
  by_cases h0 : n = 0
  · subst h0
    refine ⟨w, ?_, by simpa using hB, gb_refl _ _⟩
    exact run_copy_none w 25 25 3 70 _ _ _ _ _ _ Tryz.underlying25 (by kernel_rfl) (by simp)
  · rcases h with h | ⟨gb, ob, rfl, hg, hc⟩
    · omega
    obtain ⟨cur, T, hgg, hs, hcur⟩ := hB
    obtain ⟨L, hl, hL⟩ : ∃ L : List Value, L.length = n ∧ ∀ j, j < n → L[j]? = some (.int .u64 (f j)) := ⟨(List.range n).map fun j => Value.int .u64 (f j), by simp, fun j hj => by simp [hj]⟩
    have hmem : ∀ v ∈ L, v.oneCell' = true := by
      intro v hv
      obtain ⟨j, hj, rfl⟩ := List.getElem_of_mem hv
      have := hL j (by omega)
      rw [List.getElem?_eq_getElem hj] at this
      injection this with this
      rw [this]; rfl
    have hr := run_copy_row (P := Tryz.prog) w 25 25 3 70 g 0 M M ⟨gb, ob, none⟩ n cap cur T L Tryz.underlying25 (by kernel_rfl) hgg
      (by rw [hl]; exact (Nat.min_eq_left hn).symm) (fun j v hj => by
        have hjn : j < n := by rw [← hl]; exact (List.getElem?_eq_some_iff.1 hj).1
        rw [hL j hjn] at hj
        injection hj with hj
        rw [addr_add, ← hj]; exact hc j hjn) (by omega) hmem
    refine ⟨w.setRow g (cur.toList.take 0 ++ L ++ cur.toList.drop (0 + L.length)).toArray, ?_, ?_, ?_⟩
    · rw [hr, hl]; rfl
    · refine ⟨_, T, setRow_heap w g _ _ T _ hgg, by simp; omega, fun j hj => ?_⟩
      rw [List.getElem?_toArray, List.take_zero, List.nil_append, Nat.zero_add, hl, List.getElem?_append, hl]
      by_cases hjn : j < n
      · rw [if_pos hjn]; simp only [hjn, if_true]; exact hL j hjn
      · rw [if_neg hjn, List.getElem?_drop, Array.getElem?_toList, show n + (j - n) = j from by omega]
        simp only [hjn, if_false]
        exact hcur j hj
    · exact ⟨rfl, rfl, rfl, by simp [World.setRow], fun k _ hr => setRow_other w g k _ (by intro e; apply hr; rw [e])⟩

/-- copy as a step of the walk. -/
theorem wpList_copy64 {w : World} {ops : Array Oper} {rest : List Oper} {o : Oper} {a : Act} {Q : Exit → Act → World → Prop} (hgd : o.guard = none) (d s : Operand)
    (ho : o.op = .call { callee := .builtin .copy, args := #[d, s], argTypes := #[25, 25] }) (hty : o.type = 3)
    (g M n cap : Nat) (p : Option Addr) (fz f : Nat → Nat) (hd : a.eval d = .slice (some ⟨g, 0, none⟩) M M) (hs : a.eval s = .slice p n cap) (hB : Blk .u64 w g M fz) (h : At .u64 w p n f) (hn : n ≤ M)
    (K : ∀ w', Hid (Blk .u64 w' g M (fun j => if j < n then f j else fz j)) → Hid (w.grownBy w' (some g)) → wpList Tryz.prog ops Q rest (a.put o.dst (.int .i64 n)) w') :
    wpList Tryz.prog ops Q (o :: rest) a w := by
  refine wpList_plain hgd fun K' hK => ?_
  obtain ⟨w', hrun, h1, h2⟩ := copy_run w g M fz f p n cap hB h hn
  unfold Oper.wp
  simp [execOp, ho, resolve, invoke, builtin, hd, hs, hty, hrun, Result.andThen]
  exact hK _ _ (K w' h1 h2)

def lst (k : IntKind) (n : Nat) (f : Nat → Nat) : List Value := (List.range n).map fun j => Value.int k (f j)
theorem lst_len {k : IntKind} {n : Nat} {f : Nat → Nat} : (lst k n f).length = n := by simp [lst]
theorem lst_get {k : IntKind} {n : Nat} {f : Nat → Nat} {j : Nat} (h : j < n) : (lst k n f)[j]? = some (.int k (f j)) := by simp [lst, h]
theorem lst_succ {k : IntKind} {n : Nat} {f : Nat → Nat} {y : Nat} : lst k (n + 1) (upd f n y) = lst k n f ++ [.int k y] := by
  unfold lst
  rw [List.range_succ, List.map_append]
  congr 1
  · apply List.map_congr_left
    intro j hj
    rw [upd_ne (by simp at hj; omega)]
  · simp [upd]
theorem lst_take {k : IntKind} {n m : Nat} {f : Nat → Nat} (h : m ≤ n) : (lst k n f).take m = lst k m f := by
  unfold lst
  rw [← List.map_take, List.take_range, Nat.min_eq_left h]

/-- The slice v, of the call's own blocks from base on, holds the n numbers f 0 .. -/
def Own (k : IntKind) (e : TypeId) (w : World) (base : Nat) (v : Value) (n : Nat) (f : Nat → Nat) : Prop := w.ownsRow base e 1 v n (lst k n f)

section
variable {k : IntKind} {e : TypeId} {w w' : World} {base : Nat} {v : Value} {n : Nat} {f : Nat → Nat}
theorem Own.shape (h : Own k e w base v n f) : (v = .slice none 0 0 ∧ n = 0) ∨ ∃ g cap, v = .slice (some ⟨g, 0, none⟩) n cap ∧ base ≤ g ∧ g < w.heap.size ∧ n ≤ cap ∧ cap ≤ maxLen := by
  rcases h.2 with h2 | ⟨g, cap, cur, hv, hb, hg, hn, hc, _⟩
  · exact .inl h2
  · exact .inr ⟨g, cap, hv, hb, (Array.getElem?_eq_some_iff.1 hg).1, hn, hc⟩
theorem Own.at {p : Option Addr} {m cap : Nat} (h : Own k e w base (.slice p m cap) n f) : m = n ∧ At k w p n f := by
  rcases h.2 with ⟨hv, hn⟩ | ⟨g, cap', cur, hv, hb, hg, hn, hc, hs, htake⟩
  · injection hv with h1 h2; subst h1; subst h2; exact ⟨hn.symm, .inl hn⟩
  · injection hv with h1 h2 h3; subst h1; subst h2; subst h3
    refine ⟨rfl, .inr ⟨g, 0, rfl, (Array.getElem?_eq_some_iff.1 hg).1, fun j hj => ?_⟩⟩
    have := World.ownsRow.cells (w := w) (base := base) (e := e) (size := 1) (v := .slice (some ⟨g, 0, none⟩) m cap) (n := m) (xs := lst k m f) ⟨by simp [lst], .inr ⟨g, cap, cur, rfl, hb, hg, hn, hc, hs, htake⟩⟩ (g := g) rfl j (.int k (f j)) (lst_get hj)
    rwa [addr_add] at this
theorem Own.kept {row : Option Nat} (h : Own k e w base v n f) (hg : w.grownBy w' row) (hne : v.ownBlock = none ∨ v.ownBlock ≠ row) : Own k e w' base v n f := World.ownsRow.kept h hg hne
theorem Own.cut {g cap m : Nat} (h : Own k e w base (.slice (some ⟨g, 0, none⟩) n cap) n f) (hm : m ≤ n) : Own k e w base (.slice (some ⟨g, 0, none⟩) m cap) m f := by
  rcases h.2 with ⟨hv, _⟩ | ⟨g', cap', cur, hv, hb, hg, hn, hc, hs, htake⟩
  · cases hv
  · injection hv with h1 h2 h3
    injection h1 with h1
    injection h1 with h1
    subst h1; subst h3
    refine ⟨by simp [lst], .inr ⟨g, cap, cur, rfl, hb, hg, by omega, hc, hs, ?_⟩⟩
    rw [Nat.mul_one] at htake ⊢
    rw [← lst_take hm, ← htake, List.take_take, Nat.min_eq_left hm]
theorem Own.far (h : Own k e w base v n f) : ∀ g, v.ownBlock = some g → base ≤ g := by
  intro g hg
  rcases h.shape with ⟨rfl, _⟩ | ⟨g', cap, rfl, hb, _⟩
  · cases hg
  · simp [Value.ownBlock] at hg; omega
theorem Own.mono {base' : Nat} (h : Own k e w base v n f) (hb : base' ≤ base) : Own k e w base' v n f := by
  refine ⟨h.1, ?_⟩
  rcases h.2 with h2 | ⟨g, cap, cur, hv, hg, r⟩
  · exact .inl h2
  · exact .inr ⟨g, cap, cur, hv, by omega, r⟩
theorem gb_own {a : World} (h : a.grownBy w none) (ho : Own k e w base v n f) (hb : a.heap.size ≤ base) (hg : w.grownBy w' v.ownBlock) : a.grownBy w' none := by
  have hf := ho.far
  exact ⟨hg.os.trans h.os, hg.tape.trans h.tape, hg.output.trans h.output, Nat.le_trans h.size hg.size, fun i hi _ => (hg.block i (Nat.lt_of_lt_of_le hi h.size) (fun e => by have := hf i e.symm; omega)).trans (h.block i hi (by simp))⟩
theorem Own.nil : Own k e w base (.slice none 0 0) 0 f := World.ownsRow_nil w base e 1
theorem Own.congr {f2 : Nat → Nat} (h : Own k e w base v n f) (hf : ∀ j, j < n → f j = f2 j) : Own k e w base v n f2 := by
  have : lst k n f2 = lst k n f := by
    unfold lst
    apply List.map_congr_left
    intro j hj
    rw [hf j (by simpa using hj)]
  unfold Own
  rw [this]; exact h
theorem Own.set {g cap j x : Nat} (h : Own k e w base (.slice (some ⟨g, 0, none⟩) n cap) n f) (hj : j < n) : Own k e (w.setCell ⟨g, j, none⟩ (.int k x)) base (.slice (some ⟨g, 0, none⟩) n cap) n (upd f j x) := by
  have h2 := (World.ownsRow.stored h j (.int k x)).1
  have e : (lst k n f).set j (.int k x) = lst k n (upd f j x) := by
    apply List.ext_getElem?
    intro i
    rw [List.getElem?_set, lst_len]
    by_cases hi : i < n
    · rw [lst_get hi]
      by_cases hij : j = i
      · subst hij; rw [lst_get hi, upd_at]; simp [hi]
      · rw [if_neg hij, lst_get hi, upd_ne (by omega)]
    · rw [if_neg (by omega), List.getElem?_eq_none (by rw [lst_len]; omega), List.getElem?_eq_none (by rw [lst_len]; omega)]
  rw [e] at h2
  exact h2
theorem Own.cell {g cap j : Nat} (h : Own k e w base (.slice (some ⟨g, 0, none⟩) n cap) n f) (hj : j < n) : w.cell? ⟨g, j, none⟩ = some (.int k (f j)) := by
  rw [World.ownsRow.cellAt h j (by omega)]; exact lst_get hj
theorem Own.free {g cap j : Nat} (h : Own k e w base (.slice (some ⟨g, 0, none⟩) n cap) n f) : w.frozen? ⟨g, j, none⟩ = false := World.ownsRow.frozenAt h j
end

/-- append of one number, as a step of the walk. -/
theorem wpList_app1 {k : IntKind} {t e : TypeId} {bytes : Nat} (ht : Tryz.prog.underlying t = some (.slice e)) (hinfo : (Tryz.prog.info? e).map (fun i => (i.zero, i.size, i.bytes)) = some (some (.int k 0), 1, bytes)) (hby : bytes ≤ 8)
    {w0 : World} {ops : Array Oper} {rest : List Oper} {o : Oper} {a : Act} {Q : Exit → Act → World → Prop} (hgd : o.guard = none) (s x : Operand) (ho : o.op = .call { callee := .builtin .append, args := #[s, x], argTypes := #[t, t] })
    (base : Nat) (v : Value) (n : Nat) (f : Nat → Nat) (Y : Int) (y : Nat) (hY : Y = (y : Int)) (hs : a.eval s = v) (hown : Own k e w0 base v n f) (hx : a.eval x = .slice (some ⟨w0.heap.size, 0, none⟩) 1 1) (hn : n ≤ 1000000000) (hbase : base ≤ w0.heap.size)
    (K : ∀ v' w', Own k e w' base v' (n + 1) (upd f n y) → w0.grownBy w' v.ownBlock → wpList Tryz.prog ops Q rest (a.put o.dst v') w') :
    wpList Tryz.prog ops Q (o :: rest) a (w0.alloc (.cells #[.int k Y] e)) := by
  subst hY
  obtain ⟨i0, hi, hz0, hz1, hz2⟩ := info_parts hinfo
  refine wpList_append_own (P := Tryz.prog) _ hgd s x t ho base e i0 (.int k 0) 1 bytes ht hi hz0 hz1 hz2 rfl (by decide) v n (lst k n f) hs (hown.alloc _) ⟨w0.heap.size, 0, none⟩ 1 1 [.int k y] hx rfl ?_ ?_ (by unfold maxLen; omega) ?_ (by simp; omega) ?_
  · intro j u hj
    match j, hj with
    | 0, hj => simp at hj; subst hj; simp [Addr.add]
  · intro u hu; simp at hu; subst hu; rfl
  · have : (n + 1) * bytes ≤ (n + 1) * 8 := Nat.mul_le_mul_left _ hby
    omega
  · intro v' w' h1 h2 _
    refine K v' w' ?_ ⟨h2.os, h2.tape, h2.output, Nat.le_trans (by simp) h2.size, fun j hj hr => (h2.block j (by simp; omega) hr).trans (Below.heap_alloc w0 _ j hj)⟩
    unfold Own
    rw [lst_succ]; exact h1
theorem own_below {w w1 w2 : World} (h : Below w.heap.size w w1) {o : Obj} (hg : (w1.alloc o).grownBy w2 (some w1.heap.size)) : w.grownBy w2 none :=
  below_gb (gb_new (h.alloc h.size o) h.size hg)

theorem lt_cut {f : Nat → Nat} {n M : Nat} (h : ∀ j, j < n → f j < Bw) : ∀ j, j < M → (fun j => if j < n then f j else 0) j < Bw := by
  intro j _
  show (if j < n then f j else 0) < Bw
  split
  · exact h j ‹_›
  · exact Bw_pos

theorem num_pos {n : Nat} {f : Nat → Nat} (hB : V Bw f 0 n ≠ 0) : 0 < n := by
  rcases Nat.eq_zero_or_pos n with h | h
  · subst h; exact absurd rfl hB
  · exact h
end Go.Proofs.YtccokidhngdjnaaGreatDoor.Zd
namespace Go.Proofs.YtccokidhngdjnaaGreatDoor.Zd
open Go.RowKit Mx

/-- How many decimal digits N has (0 of 0). -/
def nd (N : Nat) : Nat := if h : N = 0 then 0 else nd (N / 10) + 1
termination_by N
decreasing_by omega

theorem nd_lt (N : Nat) : N < 10 ^ nd N := by
  induction N using nd.induct with
  | case1 => simp [nd]
  | case2 N h ih => rw [nd, dif_neg h, Nat.pow_succ]; omega

theorem nd_le (N : Nat) (h : N ≠ 0) : 10 ^ (nd N - 1) ≤ N := by
  induction N using nd.induct with
  | case1 => exact absurd rfl h
  | case2 N h ih =>
    rw [nd, dif_neg h, Nat.add_sub_cancel]
    by_cases h1 : N / 10 = 0
    · rw [h1, nd, dif_pos rfl]; simp; omega
    · have := ih h1
      have e : 10 ^ nd (N / 10) = 10 ^ (nd (N / 10) - 1) * 10 := by
        rw [← Nat.pow_succ]; congr 1
        have : nd (N / 10) ≠ 0 := by rw [nd, dif_neg h1]; omega
        omega
      omega

theorem nd_of {N n : Nat} (h1 : N < 10 ^ n) (h2 : 10 ^ (n - 1) ≤ N) (hn : 0 < n) : n = nd N := by
  have hN : N ≠ 0 := by have := Nat.pow_pos (n := n - 1) (show 0 < 10 by omega); omega
  have a := nd_lt N
  have b := nd_le N hN
  rcases Nat.lt_trichotomy n (nd N) with h | h | h
  · have : 10 ^ n ≤ 10 ^ (nd N - 1) := Nat.pow_le_pow_right (by omega) (by omega); omega
  · exact h
  · have : 10 ^ nd N ≤ 10 ^ (n - 1) := Nat.pow_le_pow_right (by omega) (by omega); omega

def dig (N j : Nat) : Nat := N / 10 ^ j % 10

/-- Digits without a nought at the end are the number's. -/
theorem digits_of {f : Nat → Nat} {n N : Nat} (hf : ∀ j, j < n → f j < 10) (hn : 0 < n) (ht : f (n - 1) ≠ 0) (hV : V 10 f 0 n = N) : n = nd N ∧ ∀ j, j < n → f j = dig N j := by
  refine ⟨nd_of ?_ ?_ hn, fun j hj => ?_⟩
  · rw [← hV]; exact V_lt (fun j hj => by rw [Nat.zero_add]; exact hf j hj)
  · rcases V_top (b := 10) (f := f) (o := 0) (n := n) (.inr (by simpa using ht)) with h | h
    · omega
    · rw [← hV]; exact h
  · have := V_digit (b := 10) (f := f) (o := 0) (n := n) (by omega) (fun j hj => by rw [Nat.zero_add]; exact hf j hj) hj
    rw [Nat.zero_add] at this
    rw [← this, ← hV]; rfl

/-- A number's text without a sign, the highest digit first. -/
def decL (N : Nat) : List UInt8 := (List.range (nd N)).map fun j => UInt8.ofNat (48 + dig N (nd N - 1 - j))

/-- A number's text. -/
def txtL (Z : Int) : List UInt8 := if Z = 0 then [48] else if Z < 0 then 45 :: decL Z.natAbs else decL Z.natAbs
def txt (Z : Int) : Value := .string ⟨(txtL Z).toArray⟩

def DigPost (N : Nat) (w : World) (e : Ending) (w' : World) : Prop :=
  ∃ g cap f, e = .returned (.slice (some ⟨g, 0, none⟩) ((nd N : Nat)) cap) ∧ Own .u8 5 w' w.heap.size (.slice (some ⟨g, 0, none⟩) (nd N) cap) (nd N) f ∧ (∀ j, j < nd N → f j = 48 + dig N j) ∧ w.grownBy w' none

theorem info8 : (Tryz.prog.info? 5).map (fun i => (i.zero, i.size, i.bytes)) = some (some (.int .u8 0), 1, 1) := by kernel_rfl

def ten19 : Nat := 10000000000000000000

/-- The digits that bytes are. -/
def dv (f : Nat → Nat) : Nat → Nat := fun j => f j - 48

def DRel (w : World) (N na : Nat) (g : Nat) (left out : Value) (wr : World) : Prop :=
  ∃ nl p cl fl n fb, left = .slice p nl cl ∧ nl ≤ cl ∧ cl ≤ maxLen ∧ nl ≤ na ∧ (0 < nl → p = some ⟨w.heap.size, 0, none⟩) ∧ Blk .u64 wr w.heap.size na fl ∧ (∀ j, j < na → fl j < Bw) ∧ (nl = 0 ∨ fl (nl - 1) ≠ 0) ∧ V Bw fl 0 nl = g ∧
    Own .u8 5 wr (w.heap.size + 1) out n fb ∧ (∀ j, j < n → 48 ≤ fb j ∧ fb j < 58) ∧ V 10 (dv fb) 0 n + 10 ^ n * g = N ∧ w.grownBy wr none

def GRel (w wo : World) (na : Nat) (fl fb : Nat → Nat) (n r0 : Nat) (r gn : Nat) (out : Value) (wr : World) : Prop :=
  ∃ fb', Blk .u64 wr w.heap.size na fl ∧ Own .u8 5 wr (w.heap.size + 1) out (n + r) fb' ∧ (∀ j, j < n + r → 48 ≤ fb' j ∧ fb' j < 58) ∧ gn < 10 ^ (19 - r) ∧ V 10 (dv fb') 0 (n + r) + 10 ^ (n + r) * gn = V 10 (dv fb) 0 n + 10 ^ n * r0 ∧ w.grownBy wr none

theorem dv_upd {f : Nat → Nat} {n y : Nat} : V 10 (dv (upd f n y)) 0 (n + 1) = V 10 (dv f) 0 n + (y - 48) * 10 ^ n := by
  rw [V_succ, Nat.zero_add]
  congr 1
  · exact V_congr (fun j hj => by unfold dv; rw [upd_ne (by omega)])
  · simp [dv, upd]

theorem digit_step {f : Nat → Nat} {m gn T : Nat} (h : V 10 (dv f) 0 m + 10 ^ m * gn = T) : V 10 (dv (upd f m (48 + gn % 10))) 0 (m + 1) + 10 ^ (m + 1) * (gn / 10) = T := by
  rw [dv_upd, Nat.add_sub_cancel_left, Nat.pow_succ, ← h]
  have := Nat.div_add_mod gn 10
  generalize gn / 10 = a at *
  generalize gn % 10 = b at *
  rw [← this]; grind

theorem digit_rng {f : Nat → Nat} {m gn : Nat} (h : ∀ j, j < m → 48 ≤ f j ∧ f j < 58) : ∀ j, j < m + 1 → 48 ≤ upd f m (48 + gn % 10) j ∧ upd f m (48 + gn % 10) j < 58 := by
  intro j hj
  unfold upd
  split
  · omega
  · exact h j (by omega)

theorem digit_len {n X g N na : Nat} (h : X + 10 ^ n * g = N) (hg : 0 < g) (hN : N < Bw ^ na) : n < 64 * na := by
  have h1 : 10 ^ n * 1 ≤ 10 ^ n * g := Nat.mul_le_mul_left _ hg
  have h2 : 2 ^ n ≤ 10 ^ n := Nat.pow_le_pow_left (by omega) n
  have h3 : Bw ^ na = 2 ^ (64 * na) := by rw [Nat.pow_mul]; rfl
  have h4 : 2 ^ n < 2 ^ (64 * na) := by rw [← h3]; omega
  exact (Nat.pow_lt_pow_iff_right (by omega)).1 h4

set_option maxHeartbeats 2000000 in
theorem digitsFromLast_w (pa : Option Addr) (na capa : Nat) (f : Nat → Nat) (w : World) (hna : na ≤ 100000) (ha : At .u64 w pa na f) (hf : ∀ j, j < na → f j < Bw) (t : na = 0 ∨ f (na - 1) ≠ 0) (h0 : 0 < na) :
    Calls Tryz.prog 46 #[.slice pa na capa] w (DigPost (V Bw f 0 na) w) := by
  have hmk : ∀ w, (Instr.makeSlice 25 (.int .i64 (na : Int)) (.int .i64 (na : Int))).run Tryz.prog w = .ok (.slice (some ⟨w.heap.size, 0, none⟩) na na) (w.alloc (.cells (madeCells #[.int .u64 0] na) 70)) :=
    fun w => make64_run na (by omega) w
  have HA := Lib.hid ha; have HF := Lib.hid hf; have HT := Lib.hid t
  have hN0 : V Bw f 0 na ≠ 0 := by
    rcases V_top (b := Bw) (f := f) (o := 0) (n := na) (by simpa using t) with e | e
    · omega
    · have := Nat.pow_pos (n := na - 1) Bw_pos; omega
  have HN0 := Lib.hid hN0
  clear ha hf t hN0
  go_enter Tryz.func46, Tryz.ntmps46
  go_wp2_with (with_reducible refine wpList_copy64 rfl _ _ rfl rfl w.heap.size na na capa pa (fun _ => 0) f rfl rfl (Blk_made _ _ _) (HA.out.grown (World.grownBy_alloc _ _ none) (by simp)) (by omega) ?_)
  intro w2 HB2 HG2
  have HBEL := Lib.hid (own_below (Below.refl _ _) HG2.out)
  have HSZ := HB2.out.lt
  have HF2 := Lib.hid (lt_cut HF.out (M := na))
  clear hmk HG2 HA
  have hNlt : V Bw f 0 na < Bw ^ na := V_lt (fun j hj => by rw [Nat.zero_add]; exact HF.out j hj)
  have HNL := Lib.hid hNlt
  have HS : Hid (DRel w (V Bw f 0 na) na (V Bw f 0 na) (.slice (some ⟨w.heap.size, 0, none⟩) na na) (.slice none 0 0) w2) :=
    ⟨na, _, na, _, 0, fun _ => 0, rfl, Nat.le_refl _, by unfold maxLen; omega, Nat.le_refl _, fun _ => rfl, HB2.out, HF2.out, by have := HT.out; rcases this with h | h; exact .inl h; exact .inr (by rw [if_pos (by omega)]; exact h), V_congr (fun j hj => by simp [hj]), Own.nil, fun j hj => by omega, by simp [V], HBEL.out⟩
  clear hNlt HB2 HBEL HF2 HSZ
  go_wp2_with fail
  go_loopg [3, 4] (V Bw f 0 na) (fun g left out wr => DRel w (V Bw f 0 na) na g left out wr)
  case atStart => exact HS.out
  case round =>
    clear HS
    obtain ⟨nl, p, cl, fl, n, fb, rfl, q1, q2, q3, q4, q5, q6, q7, q8, q9, q10, q11, q12⟩ := hrel
    by_cases hnl : 0 < nl
    · obtain rfl := q4 hnl
      have hg0 : 0 < gk := by
        rw [← q8]
        rcases V_top (b := Bw) (f := fl) (o := 0) (n := nl) (by simpa using q7) with e | e
        · omega
        · have := Nat.pow_pos (n := nl - 1) Bw_pos; omega
      have hlen := digit_len q11 hg0 HNL.out
      have HBL := Lib.hid q5; have HFL := Lib.hid q6; have HV8 := Lib.hid q8; have HO := Lib.hid q9; have HR10 := Lib.hid q10; have HE := Lib.hid q11; have HW := Lib.hid q12
      have ht19 : 0 < ten19 := by unfold ten19; omega
      have ht19B : ten19 < Bw := by unfold ten19 Bw; omega
      have HT1 := Lib.hid ht19; have HT2 := Lib.hid ht19B
      have HGK0 := Lib.hid hg0
      clear q4 q5 q6 q7 q8 q9 q10 q11 q12 ht19 ht19B hg0
      go_wp2_with (go_at_call 68; rw [show (10000000000000000000 : Int) = ((ten19 : Nat) : Int) from rfl]; refine (divideInPlace_c w.heap.size 0 nl _ na ten19 fl _ HBL.out (by omega) (by omega) HFL.out HT1.out HT2.out).mono ?_; rintro e w3 ⟨r0, f3, rfl, hr, hB3, hF3, hO3, hV3, hG3⟩; have HB3 := Lib.hid hB3; have HF3 := Lib.hid hF3; have HV3 := Lib.hid hV3; have HG3 := Lib.hid hG3; have HR := Lib.hid hr; clear hB3 hF3 hO3 hV3 hG3 hr)
      refine (trim_c _ nl cl f3 _ q1 q2 (HB3.out.at0.pre q3)).mono ?_
      rintro e w4 ⟨m, p', cap', rfl, hm, hm2, hc', ht, hz, hm0, hmp, rfl⟩
      have HM1 := Lib.hid ht; have HM2 := Lib.hid hz; have HM3 := Lib.hid hmp
      clear ht hz hm0 hmp
      have HSZ4 := HO.out.far
      have hblk := HO.out.kept HG3.out (by
        rcases HO.out.shape with ⟨e, _⟩ | ⟨g', c', e, hb, _⟩
        · subst e; exact .inl rfl
        · subst e; exact .inr (by simp [Value.ownBlock]; omega))
      have HBK := Lib.hid hblk
      have HW3 := Lib.hid (below_gb (row := none) (gb_new (gb_below HW.out) (Nat.le_refl _) HG3.out))
      have HGS : Hid (GRel w w na f3 fb n r0 0 r0 u4 w3) := ⟨fb, HB3.out, HBK.out, HR10.out, by have := HR.out; unfold ten19 at this; omega, rfl, HW3.out⟩
      clear hblk HSZ4 HBK HW3 HBL HG3 HW HO
      go_wp2_with fail
      go_loopg [4, 5, 19] 19 (fun g out grp i wr => ∃ r gn : Nat, g = 19 - r ∧ r ≤ 19 ∧ i = .int .i64 r ∧ grp = .int .u64 gn ∧ GRel w w na f3 fb n r0 r gn out wr)
      case atStart => exact ⟨0, r0, rfl, by omega, rfl, rfl, HGS.out⟩
      case round =>
        clear HGS
        obtain ⟨r, gn, rfl, hr19, rfl, rfl, fb', g1, g2, g3, g4, g5, g6⟩ := hrel
        by_cases hlt : r < 19
        · have i1 : (0 : Int) ≤ (gn : Int) % 10 := by omega
          have i2 : (gn : Int) % 10 < 10 := by omega
          have i3 : (0 : Int) ≤ gn := by omega
          have i4 : (gn : Int) ≤ 18446744073709551615 := by
            have : 10 ^ (19 - r) ≤ 10 ^ 19 := Nat.pow_le_pow_right (by omega) (by omega)
            omega
          have G1 := Lib.hid g1; have G2 := Lib.hid g2; have G3 := Lib.hid g3; have G4 := Lib.hid g4; have G5 := Lib.hid g5; have G6 := Lib.hid g6
          have hsz := G6.out.size
          have hL := G1.out.lt
          clear g1 g2 g3 g4 g5 g6
          go_wp2_with (at_builtin; refine wpList_app1 (k := .u8) (t := 95) (e := 5) (bytes := 1) Tryz.underlying95 info8 (by omega) rfl _ _ rfl (w.heap.size + 1) u4 (n + r) fb' _ (48 + gn % 10) (by omega) rfl G2.out rfl (by omega) (by omega) ?_)
          intro v' w' hO' hG'
          have HO' := Lib.hid hO'; have HG' := Lib.hid hG'
          clear hO' hG'
          go_wp2_with fail
          have hg2 : gn / 10 < 10 ^ (19 - (r + 1)) := by
            have e : 10 ^ (19 - r) = 10 ^ (19 - (r + 1)) * 10 := by rw [← Nat.pow_succ]; congr 1; omega
            have := G4.out
            omega
          have hL2 : w.heap.size ≠ w.heap.size + 1 := by omega
          have hBL : Blk .u64 w' w.heap.size na f3 := by
            refine G1.out.kept HG'.out ?_
            intro e
            have := G2.out.far _ e.symm
            omega
          go_roundg (19 - (r + 1))
          case measure => omega
          case rel => exact ⟨r + 1, gn / 10, rfl, by omega, by go_num, val_of (by omega), upd fb' (n + r) (48 + gn % 10), hBL, HO'.out, digit_rng G3.out, hg2, digit_step G5.out, gb_own G6.out G2.out (by omega) HG'.out⟩
        · obtain rfl : r = 19 := by omega
          have hz : gn = 0 := by have : gn < 10 ^ 0 := g4; simpa using this
          rw [hz, Nat.mul_zero, Nat.add_zero] at g5
          have hv3 : V Bw f3 0 m = V Bw f3 0 nl := (V_pad (fun j h1 h2 => by simpa using HM2.out j h1 h2) hm).symm
          have hgk : gk = V Bw f3 0 m * ten19 + r0 := by rw [hv3, HV3.out]; exact HV8.out.symm
          have hlt2 : V Bw f3 0 m < gk := by
            have h1 := HT1.out
            have h2 := HGK0.out
            have h3 : V Bw f3 0 m * 2 ≤ V Bw f3 0 m * ten19 := Nat.mul_le_mul_left _ (by unfold ten19; omega)
            omega
          have hE2 : V 10 (dv fb') 0 (n + 19) + 10 ^ (n + 19) * V Bw f3 0 m = V Bw f 0 na := by
            rw [g5, ← HE.out, hgk, Nat.pow_add]
            have e : ten19 = 10 ^ 19 := by unfold ten19; rfl
            rw [e]; generalize (10:Nat) ^ 19 = t; grind
          have HH := Lib.hid (show DRel w (V Bw f 0 na) na (V Bw f3 0 m) (.slice p' m cap') u4 wr from ⟨m, p', cap', f3, n + 19, fb', rfl, hm2, by omega, by omega, HM3.out, g1, HF3.out, HM1.out, rfl, g2, g3, hE2, g6⟩)
          have HLT2 := Lib.hid hlt2
          clear hE2 hgk hv3 hz g1 g2 g3 g4 g5 g6 hlt2
          go_wp2_with fail
          go_roundg (V Bw f3 0 m)
          case measure => exact HLT2.out
          case rel => exact HH.out
    · obtain rfl : nl = 0 := by omega
      have hg : gk = 0 := q8.symm
      rw [hg, Nat.mul_zero, Nat.add_zero] at q11
      have hn0 : 0 < n := by
        rcases Nat.eq_zero_or_pos n with h | h
        · subst h; exact absurd q11.symm HN0.out
        · exact h
      obtain ⟨G, cap, rfl, hG1, hG2, hG3, hG4⟩ : ∃ g cap, u4 = .slice (some ⟨g, 0, none⟩) n cap ∧ w.heap.size + 1 ≤ g ∧ g < wr.heap.size ∧ n ≤ cap ∧ cap ≤ maxLen := by
        rcases q9.shape with ⟨_, h⟩ | h
        · omega
        · exact h
      have HO := Lib.hid q9; have HR10 := Lib.hid q10; have HE := Lib.hid q11; have HW := Lib.hid q12
      clear q4 q5 q6 q7 q8 q9 q10 q11 q12 hg HT HF
      go_wp2_with fail
      go_loopg [4] n (fun g out wx => ∃ m : Nat, g = m ∧ 0 < m ∧ m ≤ n ∧ out = .slice (some ⟨G, 0, none⟩) m cap ∧ Hid (V 10 (dv fb) 0 m = V Bw f 0 na) ∧ wr = wx)
      case atStart => exact ⟨n, rfl, hn0, Nat.le_refl _, rfl, HE, rfl⟩
      case round =>
        obtain ⟨m, hgm, hm0, hmn, rfl, HM, rfl⟩ := hrel
        obtain rfl : m = _ := hgm.symm
        have hcell := HO.out.cell (j := m - 1) (by omega)
        have hrng := HR10.out (m - 1) (by omega)
        unfold maxLen at hG4
        have i1 : (0 : Int) ≤ (m : Int) - 1 := by omega
        have i2 : (m : Int) - 1 < m := by omega
        by_cases hx : fb (m - 1) = 48
        · rw [hx] at hcell
          have hvm : V 10 (dv fb) 0 (m - 1) = V Bw f 0 na := by
            have := HM.out
            obtain ⟨t, rfl⟩ : ∃ t, m = t + 1 := ⟨m - 1, by omega⟩
            rw [V_succ, Nat.zero_add] at this
            simp only [Nat.add_sub_cancel] at hx ⊢
            have e : dv fb t = 0 := by unfold dv; rw [hx]
            rw [e, Nat.zero_mul, Nat.add_zero] at this
            exact this
          have hm1 : 0 < m - 1 := by
            rcases Nat.eq_zero_or_pos (m - 1) with h | h
            · rw [h] at hvm; exact absurd hvm.symm HN0.out
            · exact h
          have HVM := Lib.hid hvm
          clear hvm hx hrng
          go_wp2_with fail
          go_roundg (m - 1)
          case measure => omega
          case rel => exact ⟨m - 1, rfl, hm1, by omega, rfl, HVM, rfl⟩
        · have hd := digits_of (f := dv fb) (n := m) (N := V Bw f 0 na) (fun j hj => by have := HR10.out j (by omega); unfold dv; omega) hm0 (by unfold dv; omega) HM.out
          have hfin : DigPost (V Bw f 0 na) w (.returned (.slice (some ⟨G, 0, none⟩) m cap)) wr := by
            refine ⟨G, cap, fb, by rw [← hd.1], ?_, fun j hj => ?_, HW.out⟩
            · rw [← hd.1]; exact (HO.out.cut hmn).mono (by omega)
            · have h1 := HR10.out j (by omega)
              have h2 := hd.2 j (by omega)
              unfold dv at h2
              omega
          have HFIN := Lib.hid hfin
          have hne : ((fb (m - 1) : Int) == 48) = false := beq_eq_false_iff_ne.2 (by omega)
          clear hfin hd hrng hx
          go_wp2_with fail
          go_ret
          exact HFIN.out
end Go.Proofs.YtccokidhngdjnaaGreatDoor.Zd
namespace Go.Proofs.YtccokidhngdjnaaGreatDoor
open Go.RowKit

/-- An expression of any Op: its Op, its name, its module, its number, its truth, its kids, its place. -/
inductive Sx where
  | mk (op : Int) (nm md : List UInt8) (nu : Int) (ys : Bool) (ks : List Sx) (ps : Int)
def Sx.op : Sx → Int | .mk op _ _ _ _ _ _ => op
def Sx.ks : Sx → List Sx | .mk _ _ _ _ _ ks _ => ks

/-- Is a text one word, and no key? -/
def plainB (l : List UInt8) : Bool := decide ((firstE l).1 = 1 ∧ (firstE l).2 = l.length ∧ wrongE 1 l = 0)
def countB (op : Int) (n : Nat) : Bool :=
  if op ≤ 4 then decide (n = 0) else if op ≤ 6 then decide (n = 1) else if op ≤ 20 ∨ op = 22 ∨ op = 23 then decide (n = 2) else if op = 21 then decide (n = 3) else decide (n ≤ 8)
def namesB (op : Int) (nm md : List UInt8) : Bool :=
  if op = 3 ∨ op = 22 then plainB nm && decide (md = []) else if op = 24 then plainB nm && (decide (md = []) || plainB md) else decide (nm = []) && decide (md = [])
/-- Is a number right for an Op: of at most 60 digits, none below 0; none (0) for another Op? -/
def numB (op : Int) (nu : Int) : Bool := if op = 1 then decide (0 ≤ nu) && decide ((Zd.txtL nu).length ≤ 60) else decide (nu = 0)
/-- Is an expression right, but for its kids? -/
def aloneB (op : Int) (nm md : List UInt8) (nu : Int) (ys : Bool) (n : Nat) : Bool :=
  decide (1 ≤ op) && decide (op ≤ 24) && countB op n && namesB op nm md && numB op nu && (decide (op = 2) || !ys)
def mayB (f : Bool) (op : Int) : Bool := if f then decide (op < 21) else decide (op ≠ 4)
mutual
/-- Is an expression right, as a formula (f), or as a body? -/
def rightB (f : Bool) : Sx → Bool
  | .mk op nm md nu ys ks _ => mayB f op && aloneB op nm md nu ys ks.length && rightBs f ks
def rightBs (f : Bool) : List Sx → Bool
  | [] => true
  | x :: l => rightB f x && rightBs f l
end
mutual
def sizS : Sx → Nat
  | .mk _ _ _ _ _ ks _ => 1 + sizSs ks
def sizSs : List Sx → Nat
  | [] => 0
  | x :: l => sizS x + sizSs l
end
theorem sizS_pos (x : Sx) : 0 < sizS x := by cases x; simp only [sizS]; omega
theorem sizSs_mem : ∀ {l : List Sx} {j : Nat} {x : Sx}, l[j]? = some x → sizS x ≤ sizSs l
  | [], j, x, h => by simp at h
  | y :: l, 0, x, h => by simp at h; subst h; simp only [sizSs]; omega
  | y :: l, j + 1, x, h => by
    have := sizSs_mem (l := l) (j := j) (x := x) (by simpa using h)
    simp only [sizSs]; omega
theorem sizS_kid {x k : Sx} {j : Nat} (h : x.ks[j]? = some k) : sizS k < sizS x := by
  cases x with
  | mk op nm md nu ys ks ps => simp only [Sx.ks] at h; have := sizSs_mem h; simp only [sizS]; omega
theorem rightBs_take {f : Bool} : ∀ {l : List Sx} {j : Nat} {x : Sx}, l[j]? = some x → rightBs f (l.take (j + 1)) = (rightBs f (l.take j) && rightB f x)
  | [], j, x, h => by simp at h
  | y :: l, 0, x, h => by simp at h; subst h; simp [rightBs]
  | y :: l, j + 1, x, h => by
    have := rightBs_take (f := f) (l := l) (j := j) (x := x) (by simpa using h)
    simp only [List.take_succ_cons, rightBs, this, Bool.and_assoc]

/-- The level of an Op. -/
def levS (op : Int) : Nat :=
  if op = 5 then 8 else if op = 6 then 4 else if op = 7 ∨ op = 8 then 6 else if 9 ≤ op ∧ op ≤ 11 then 7 else if 12 ≤ op ∧ op ≤ 17 then 5 else if op = 18 then 3 else if op = 19 then 2 else if op = 20 then 1
  else if 21 ≤ op ∧ op ≤ 23 then 0 else 9
def sideA (l : Nat) : Nat := if l = 1 then 2 else if l = 5 then 6 else l
def sideB (l : Nat) : Nat := if l = 1 then 1 else l + 1
def signS (op : Int) : List UInt8 :=
  [[43], [45], [42], [47], [37], [61], [60, 62], [60], [60, 61], [62], [62, 61], [38, 38], [124, 124], [61, 62]].getD (op - 7).toNat []
/-- A piece: bytes, or an expression with the level that it may have. -/
inductive Pc where
  | bs (l : List UInt8)
  | ex (x : Sx) (least : Nat)
/-- A text in parentheses if its level is less. -/
def wrapT (op : Int) (t : List UInt8) (least : Nat) : List UInt8 := if levS op < least then [40] ++ t ++ [41] else t
def joinT : List (List UInt8) → List UInt8
  | [] => []
  | [t] => t
  | t :: l => t ++ [44, 32] ++ joinT l
/-- The text of an expression, of the Ops and texts of its kids. -/
def nodeT (op : Int) (nm md : List UInt8) (nu : Int) (ys : Bool) (k : List (Int × List UInt8)) : List UInt8 :=
  let K := fun j least => wrapT (k.getD j (1, [])).1 (k.getD j (1, [])).2 least
  if op = 1 then Zd.txtL nu else if op = 2 then (if ys then [116, 114, 117, 101] else [102, 97, 108, 115, 101]) else if op = 3 then nm else if op = 4 then [114, 101, 115]
  else if op = 5 then [45] ++ K 0 9 else if op = 6 then [110, 111, 116, 32] ++ K 0 4
  else if op = 21 then [105, 102, 32] ++ K 0 0 ++ [32, 116, 104, 101, 110, 32] ++ K 1 0 ++ [32, 101, 108, 115, 101, 32] ++ K 2 0
  else if op = 22 then [108, 101, 116, 32] ++ nm ++ [32, 61, 32] ++ K 0 0 ++ [32, 105, 110, 32] ++ K 1 0
  else if op = 23 then [97, 115, 115, 101, 114, 116, 32] ++ K 0 0 ++ [32, 105, 110, 32] ++ K 1 0
  else if op = 24 then (if md = [] then [] else md ++ [46]) ++ nm ++ [40] ++ joinT (k.map (·.2)) ++ [41]
  else K 0 (sideA (levS op)) ++ ([32] ++ signS op ++ [32]) ++ K 1 (sideB (levS op))
mutual
def txS : Sx → List UInt8
  | .mk op nm md nu ys ks _ => nodeT op nm md nu ys (txSs ks)
def txSs : List Sx → List (Int × List UInt8)
  | [] => []
  | x :: l => (x.op, txS x) :: txSs l
end
def wrapS (x : Sx) (least : Nat) : List UInt8 := wrapT x.op (txS x) least
theorem txSs_get : ∀ (l : List Sx) (j : Nat), (txSs l)[j]? = l[j]?.map (fun x => (x.op, txS x))
  | [], j => by simp [txSs]
  | x :: l, 0 => by simp [txSs]
  | x :: l, j + 1 => by simp [txSs, txSs_get l j]
def textP : Pc → List UInt8
  | .bs l => l
  | .ex x least => wrapS x least
def textPs (l : List Pc) : List UInt8 := l.flatMap textP
/-- The pieces that a call's kids make: with a comma between. -/
def argsP : List Sx → List Pc
  | [] => []
  | [x] => [.ex x 0]
  | x :: l => .ex x 0 :: .bs [44, 32] :: argsP l
def nilS : Sx := .mk 1 [] [] 0 false [] 0
/-- The pieces of an expression, its kids whole. -/
def bareP : Sx → List Pc
  | .mk op nm md nu ys ks _ =>
    let K := fun j => ks.getD j nilS
    if op = 1 then [.bs (Zd.txtL nu)] else if op = 2 then [.bs (if ys then [116, 114, 117, 101] else [102, 97, 108, 115, 101])] else if op = 3 then [.bs nm] else if op = 4 then [.bs [114, 101, 115]]
    else if op = 5 then [.bs [45], .ex (K 0) 9] else if op = 6 then [.bs [110, 111, 116, 32], .ex (K 0) 4]
    else if op = 21 then [.bs [105, 102, 32], .ex (K 0) 0, .bs [32, 116, 104, 101, 110, 32], .ex (K 1) 0, .bs [32, 101, 108, 115, 101, 32], .ex (K 2) 0]
    else if op = 22 then [.bs ([108, 101, 116, 32] ++ nm ++ [32, 61, 32]), .ex (K 0) 0, .bs [32, 105, 110, 32], .ex (K 1) 0]
    else if op = 23 then [.bs [97, 115, 115, 101, 114, 116, 32], .ex (K 0) 0, .bs [32, 105, 110, 32], .ex (K 1) 0]
    else if op = 24 then (if md = [] then [] else [.bs (md ++ [46])]) ++ [.bs (nm ++ [40])] ++ argsP ks ++ [.bs [41]]
    else [.ex (K 0) (sideA (levS op)), .bs ([32] ++ signS op ++ [32]), .ex (K 1) (sideB (levS op))]
def openP (x : Sx) (least : Nat) : List Pc := if levS x.op < least then .bs [40] :: bareP x ++ [.bs [41]] else bareP x

theorem wrapT0 (op : Int) (t : List UInt8) : wrapT op t 0 = t := by simp [wrapT]
theorem args_text : ∀ l : List Sx, textPs (argsP l) = joinT ((txSs l).map (·.2))
  | [] => rfl
  | [x] => by simp [argsP, textPs, textP, wrapS, wrapT0, txSs, joinT]
  | x :: y :: l => by
    have := args_text (y :: l)
    simp only [textPs] at this
    simp only [argsP, textPs, List.flatMap_cons, this, textP, wrapS, wrapT0]
    simp [txSs, joinT]
theorem kid_get {ks : List Sx} {j least : Nat} (h : j < ks.length) : wrapT ((txSs ks).getD j (1, [])).1 ((txSs ks).getD j (1, [])).2 least = wrapS (ks.getD j nilS) least := by
  have h1 : (txSs ks).getD j (1, []) = ((ks.getD j nilS).op, txS (ks.getD j nilS)) := by
    simp only [List.getD_eq_getElem?_getD, txSs_get, List.getElem?_eq_getElem h, Option.map_some, Option.getD_some]
  rw [h1]; rfl
theorem bare_text {op : Int} {nm md : List UInt8} {nu : Int} {ys : Bool} {ks : List Sx} {ps : Int} (h1 : 1 ≤ op) (h2 : op ≤ 24) (hc : countB op ks.length = true) :
    textPs (bareP (.mk op nm md nu ys ks ps)) = txS (.mk op nm md nu ys ks ps) := by
  have hk : (5 ≤ op ∧ op ≤ 6 → 1 = ks.length) ∧ (7 ≤ op ∧ op ≤ 20 ∨ op = 22 ∨ op = 23 → 2 = ks.length) ∧ (op = 21 → 3 = ks.length) := by
    unfold countB at hc
    refine ⟨fun h => ?_, fun h => ?_, fun h => ?_⟩
    · rw [if_neg (by omega), if_pos (by omega)] at hc; exact (of_decide_eq_true hc).symm
    · rw [if_neg (by omega), if_neg (by omega), if_pos (by omega)] at hc; exact (of_decide_eq_true hc).symm
    · rw [if_neg (by omega), if_neg (by omega), if_neg (by omega), if_pos h] at hc; exact (of_decide_eq_true hc).symm
  simp only [bareP, txS, nodeT]
  by_cases e1 : op = 1
  · simp [e1, textPs, textP]
  rw [if_neg e1, if_neg e1]
  by_cases e2 : op = 2
  · simp [e2, textPs, textP]
  rw [if_neg e2, if_neg e2]
  by_cases e3 : op = 3
  · simp [e3, textPs, textP]
  rw [if_neg e3, if_neg e3]
  by_cases e4 : op = 4
  · simp [e4, textPs, textP]
  rw [if_neg e4, if_neg e4]
  by_cases e5 : op = 5
  · rw [if_pos e5, if_pos e5, kid_get (by omega)]; simp [textPs, textP]
  rw [if_neg e5, if_neg e5]
  by_cases e6 : op = 6
  · rw [if_pos e6, if_pos e6, kid_get (by omega)]; simp [textPs, textP]
  rw [if_neg e6, if_neg e6]
  by_cases e21 : op = 21
  · have := hk.2.2 e21
    rw [if_pos e21, if_pos e21, kid_get (by omega), kid_get (by omega), kid_get (by omega)]; simp [textPs, textP]
  rw [if_neg e21, if_neg e21]
  by_cases e22 : op = 22
  · have := hk.2.1 (by omega)
    rw [if_pos e22, if_pos e22, kid_get (by omega), kid_get (by omega)]; simp [textPs, textP]
  rw [if_neg e22, if_neg e22]
  by_cases e23 : op = 23
  · have := hk.2.1 (by omega)
    rw [if_pos e23, if_pos e23, kid_get (by omega), kid_get (by omega)]; simp [textPs, textP]
  rw [if_neg e23, if_neg e23]
  by_cases e24 : op = 24
  · rw [if_pos e24, if_pos e24]
    have := args_text ks
    simp only [textPs] at this
    by_cases hm : md = []
    · simp [hm, textPs, textP, this]
    · simp [hm, textPs, textP, this]
  rw [if_neg e24, if_neg e24]
  have := hk.2.1 (by omega)
  rw [kid_get (by omega), kid_get (by omega)]; simp [textPs, textP]
theorem open_text {x : Sx} (least : Nat) (h1 : 1 ≤ x.op) (h2 : x.op ≤ 24) (hc : countB x.op x.ks.length = true) : textPs (openP x least) = wrapS x least := by
  cases x with
  | mk op nm md nu ys ks ps =>
    simp only [Sx.op, Sx.ks] at h1 h2 hc
    have h := bare_text (nm := nm) (md := md) (nu := nu) (ys := ys) (ps := ps) h1 h2 hc
    show textPs (if levS op < least then Pc.bs [40] :: bareP (.mk op nm md nu ys ks ps) ++ [.bs [41]] else bareP (.mk op nm md nu ys ks ps)) = if levS op < least then [40] ++ txS (.mk op nm md nu ys ks ps) ++ [41] else txS (.mk op nm md nu ys ks ps)
    by_cases hl : levS op < least
    · rw [if_pos hl, if_pos hl]; simp only [textPs] at h; simp [textPs, textP, h]
    · rw [if_neg hl, if_neg hl]; exact h
mutual
/-- How many turns an expression takes at most, till its text is written. -/
def wgS : Sx → Nat
  | .mk _ _ _ _ _ ks _ => 6 + wgSs ks
def wgSs : List Sx → Nat
  | [] => 0
  | x :: l => 2 + wgS x + wgSs l
end
def wgP : Pc → Nat
  | .bs _ => 1
  | .ex x _ => wgS x
def wgPs (l : List Pc) : Nat := (l.map wgP).sum
theorem wgPs_append (a b : List Pc) : wgPs (a ++ b) = wgPs a + wgPs b := by simp [wgPs, List.map_append, List.sum_append]
theorem wgPs_cons (a : Pc) (b : List Pc) : wgPs (a :: b) = wgP a + wgPs b := by simp [wgPs]
theorem args_wg : ∀ l : List Sx, wgPs (argsP l) ≤ wgSs l
  | [] => by simp [argsP, wgPs, wgSs]
  | [x] => by simp [argsP, wgPs, wgSs, wgP]
  | x :: y :: l => by
    have := args_wg (y :: l)
    simp only [argsP, wgPs_cons, wgP, wgSs] at this ⊢; omega
theorem get_wg : ∀ {ks : List Sx} {n : Nat}, ks.length = n → (n = 1 → wgSs ks = 2 + wgS (ks.getD 0 nilS)) ∧ (n = 2 → wgSs ks = 4 + wgS (ks.getD 0 nilS) + wgS (ks.getD 1 nilS)) ∧ (n = 3 → wgSs ks = 6 + wgS (ks.getD 0 nilS) + wgS (ks.getD 1 nilS) + wgS (ks.getD 2 nilS))
  | [], n, h => by simp at h; subst h; simp
  | [x], n, h => by simp at h; subst h; simp [wgSs]
  | [x, y], n, h => by simp at h; subst h; simp [wgSs]; omega
  | [x, y, z], n, h => by simp at h; subst h; simp [wgSs]; omega
  | x :: y :: z :: u :: l, n, h => by simp at h; omega
theorem bare_wg {op : Int} {nm md : List UInt8} {nu : Int} {ys : Bool} {ks : List Sx} {ps : Int} (h1 : 1 ≤ op) (h2 : op ≤ 24) (hc : countB op ks.length = true) :
    wgPs (bareP (.mk op nm md nu ys ks ps)) + 2 < wgS (.mk op nm md nu ys ks ps) := by
  have hk : (5 ≤ op ∧ op ≤ 6 → ks.length = 1) ∧ (7 ≤ op ∧ op ≤ 20 ∨ op = 22 ∨ op = 23 → ks.length = 2) ∧ (op = 21 → ks.length = 3) := by
    unfold countB at hc
    refine ⟨fun h => ?_, fun h => ?_, fun h => ?_⟩
    · rw [if_neg (by omega), if_pos (by omega)] at hc; exact of_decide_eq_true hc
    · rw [if_neg (by omega), if_neg (by omega), if_pos (by omega)] at hc; exact of_decide_eq_true hc
    · rw [if_neg (by omega), if_neg (by omega), if_neg (by omega), if_pos h] at hc; exact of_decide_eq_true hc
  obtain ⟨g1, g2, g3⟩ := get_wg (ks := ks) rfl
  simp only [bareP, wgS]
  by_cases e1 : op = 1
  · rw [if_pos e1]; simp only [wgPs, List.map, wgP, List.sum_cons, List.sum_nil]; omega
  rw [if_neg e1]
  by_cases e2 : op = 2
  · rw [if_pos e2]; simp only [wgPs, List.map, wgP, List.sum_cons, List.sum_nil]; omega
  rw [if_neg e2]
  by_cases e3 : op = 3
  · rw [if_pos e3]; simp only [wgPs, List.map, wgP, List.sum_cons, List.sum_nil]; omega
  rw [if_neg e3]
  by_cases e4 : op = 4
  · rw [if_pos e4]; simp only [wgPs, List.map, wgP, List.sum_cons, List.sum_nil]; omega
  rw [if_neg e4]
  by_cases e5 : op = 5
  · rw [if_pos e5]; have := g1 (hk.1 (by omega)); simp only [wgPs, List.map, wgP, List.sum_cons, List.sum_nil]; omega
  rw [if_neg e5]
  by_cases e6 : op = 6
  · rw [if_pos e6]; have := g1 (hk.1 (by omega)); simp only [wgPs, List.map, wgP, List.sum_cons, List.sum_nil]; omega
  rw [if_neg e6]
  by_cases e21 : op = 21
  · rw [if_pos e21]; have := g3 (hk.2.2 e21); simp only [wgPs, List.map, wgP, List.sum_cons, List.sum_nil]; omega
  rw [if_neg e21]
  by_cases e22 : op = 22
  · rw [if_pos e22]; have := g2 (hk.2.1 (by omega)); simp only [wgPs, List.map, wgP, List.sum_cons, List.sum_nil]; omega
  rw [if_neg e22]
  by_cases e23 : op = 23
  · rw [if_pos e23]; have := g2 (hk.2.1 (by omega)); simp only [wgPs, List.map, wgP, List.sum_cons, List.sum_nil]; omega
  rw [if_neg e23]
  by_cases e24 : op = 24
  · rw [if_pos e24]
    have := args_wg ks
    by_cases hm : md = []
    · rw [if_pos hm]; simp only [wgPs_append, wgPs_cons, wgP, List.nil_append]; simp only [wgPs, List.map_nil, List.sum_nil] at *; omega
    · rw [if_neg hm]; simp only [wgPs_append, wgPs_cons, wgP]; simp only [wgPs, List.map_nil, List.sum_nil] at *; omega
  rw [if_neg e24]
  have := g2 (hk.2.1 (by omega))
  simp only [wgPs, List.map, wgP, List.sum_cons, List.sum_nil]; omega
theorem open_wg {x : Sx} (least : Nat) (h1 : 1 ≤ x.op) (h2 : x.op ≤ 24) (hc : countB x.op x.ks.length = true) : wgPs (openP x least) < wgS x := by
  cases x with
  | mk op nm md nu ys ks ps =>
    simp only [Sx.op, Sx.ks] at h1 h2 hc
    have h := bare_wg (nm := nm) (md := md) (nu := nu) (ys := ys) (ps := ps) h1 h2 hc
    show wgPs (if levS op < least then Pc.bs [40] :: bareP (.mk op nm md nu ys ks ps) ++ [.bs [41]] else bareP (.mk op nm md nu ys ks ps)) < _
    by_cases hl : levS op < least
    · rw [if_pos hl]; simp only [List.cons_append, wgPs_cons, wgPs_append, wgP] at *; simp only [wgPs, List.map_nil, List.sum_nil] at *; omega
    · rw [if_neg hl]; omega

theorem isLet_bl {a : UInt8} (h : isLet a = true) : isBl a = false ∧ a ≠ 45 := by
  unfold isLet at h
  have e : ∀ b : UInt8, isLet b = true → isBl b = false ∧ b ≠ 45 := by
    intro b hb
    unfold isLet at hb
    simp only [Bool.or_eq_true, Bool.and_eq_true, decide_eq_true_eq] at hb
    refine ⟨?_, ?_⟩
    · unfold isBl
      simp only [Bool.or_eq_false_iff, beq_eq_false_iff_ne]
      refine ⟨⟨⟨?_, ?_⟩, ?_⟩, ?_⟩ <;> (rintro rfl; revert hb; decide)
    · rintro rfl; revert hb; decide
  exact e a (by unfold isLet; exact h)
theorem first_let {l : List UInt8} (h : (firstE l).1 = 1) : ∃ a r, l = a :: r ∧ isLet a = true := by
  cases l with
  | nil => simp [firstE] at h
  | cons a r =>
    rw [firstE_cons] at h
    by_cases hl : isLet a = true
    · exact ⟨a, r, rfl, hl⟩
    · rw [if_neg hl] at h
      split at h
      · simp at h
      · split at h <;> simp at h
theorem sk_let {a : UInt8} {r : List UInt8} (h : isLet a = true) : sk false (a :: r) = 0 := by
  refine sk_zero (fun b hb => ?_) ?_
  · simp at hb; subst hb; exact (isLet_bl h).1
  · have := (isLet_bl h).2
    simp [List.isPrefixOf, beq_eq_false_iff_ne.2 (Ne.symm this)]
theorem tok_nil (p : Nat) : tokE [] p = ⟨5, [], [], p⟩ := by
  have h : sk false [] = 0 := sk_zero (fun b hb => by simp at hb) rfl
  unfold tokE
  rw [h]; rfl
theorem plain_all (l : List UInt8) : ((allE l).2.1 = 0 ∧ ∃ a b, (allE l).1 = [a, b] ∧ a.kind = 1 ∧ a.text = l) ↔ plainB l = true := by
  unfold plainB allE
  rw [decide_eq_true_eq]
  constructor
  · rintro ⟨h0, a, b, hab, hk, ht⟩
    by_cases hf : wrongE (tokE l 0).kind (tokE l 0).text = 0
    · by_cases h5 : (tokE l 0).kind = 5
      · rw [lexG_end hf h5] at hab; simp at hab
      · rw [lexG_more hf h5] at hab
        simp only [List.cons.injEq] at hab
        obtain ⟨rfl, -⟩ := hab
        have hk' : (firstE (l.drop (sk false l))).1 = 1 := hk
        have ht' : (l.drop (sk false l)).take (firstE (l.drop (sk false l))).2 = l := ht
        obtain ⟨c, r, hc, -⟩ := first_let hk'
        have hlen := congrArg List.length ht'
        rw [List.length_take, List.length_drop] at hlen
        have hpos : 0 < (l.drop (sk false l)).length := by rw [hc]; simp
        rw [List.length_drop] at hpos
        have hs : sk false l = 0 := by omega
        rw [hs, List.drop_zero] at hk' hlen
        rw [hs, List.drop_zero] at ht'
        have hle := firstE_le l
        refine ⟨hk', by omega, ?_⟩
        have e : wrongE (tokE l 0).kind (tokE l 0).text = wrongE 1 l := by rw [hk, ht]
        rw [← e]; exact hf
    · rw [lexG_fault hf] at hab; simp at hab
  · rintro ⟨h1, h2, h3⟩
    obtain ⟨a, r, rfl, hl⟩ := first_let h1
    have hs := sk_let (r := r) hl
    have hk : (tokE (a :: r) 0).kind = 1 := by show (firstE ((a :: r).drop (sk false (a :: r)))).1 = 1; rw [hs]; exact h1
    have ht : (tokE (a :: r) 0).text = a :: r := by
      show ((a :: r).drop (sk false (a :: r))).take (firstE ((a :: r).drop (sk false (a :: r)))).2 = a :: r
      rw [hs, List.drop_zero, h2, List.take_length]
    have hst : stepE (a :: r) = (a :: r).length := by unfold stepE; rw [hs, List.drop_zero, h2, Nat.zero_add]
    have hf : wrongE (tokE (a :: r) 0).kind (tokE (a :: r) 0).text = 0 := by rw [hk, ht]; exact h3
    rw [lexG_more hf (by rw [hk]; decide), hst, List.drop_length]
    rw [List.length_cons, lexG_end (by rw [tok_nil]; rfl) (by rw [tok_nil])]
    exact ⟨rfl, _, _, rfl, hk, ht⟩

/-- What is answered: a truth, all memory as it was. -/
def TruePost (b : Bool) (w : World) (e : Ending) (w' : World) : Prop := e = .returned (.bool b) ∧ w.grownBy w' none

set_option maxRecDepth 100000 in
set_option maxHeartbeats 8000000 in
theorem Plain_c (s : ByteArray) (w : World) (hs : s.size ≤ 60000) (hla : LaidE w) : Calls Tryz.prog 101 #[.string s] w (TruePost (plainB s.data.toList) w) := by
  have HF := Lib.hid (first_c s w (by omega) hla)
  have HW := Lib.hid (fun W => wrong_c 1 (by omega) s W (by omega))
  have hb : plainB s.data.toList = (decide ((firstE s.data.toList).1 = 1) && (decide ((firstE s.data.toList).2 = s.size) && decide (wrongE 1 s.data.toList = 0))) := by
    unfold plainB
    rw [list_len]
    by_cases h1 : (firstE s.data.toList).1 = 1 <;> by_cases h2 : (firstE s.data.toList).2 = s.size <;> by_cases h3 : wrongE 1 s.data.toList = 0 <;> simp [h1, h2, h3]
  rw [hb]
  obtain ⟨k, hk⟩ : ∃ k, (firstE s.data.toList).1 = k := ⟨_, rfl⟩
  obtain ⟨z, hz⟩ : ∃ z, (firstE s.data.toList).2 = z := ⟨_, rfl⟩
  obtain ⟨v, hv⟩ : ∃ v, wrongE 1 s.data.toList = v := ⟨_, rfl⟩
  rw [hk, hz] at HF
  rw [hv] at HW
  rw [hk, hz, hv]
  have HE : Hid (((v : Int) == 0) = decide (v = 0)) := Lib.hid (by
    by_cases h : v = 0
    · subst h; rfl
    · rw [decide_eq_false h]; exact beq_eq_false_iff_ne.2 (by omega))
  clear hk hz hv hs hla hb
  by_cases h1 : k = 1
  · subst h1
    by_cases h2 : z = s.size
    · have e2 : ((z : Int) == (s.size : Int)) = true := by simp [h2]
      rw [decide_eq_true h2]
      clear h2
      go_enter Tryz.func101, Tryz.ntmps101
      go_wp2_with (first | (go_at_call 80; refine HF.out.mono ?_; rintro e w1 ⟨rfl, rfl⟩; skip) | (go_at_call 81; refine (HW.out _).mono ?_; rintro e w1 ⟨rfl, rfl⟩; skip))
      go_ret
      exact ⟨by rw [HE.out]; simp, by repeat (first | with_reducible exact gb_refl _ _ | with_reducible refine gb_drew ?_ | with_reducible refine gb_alloc ?_ _)⟩
    · have e2 : ((z : Int) == (s.size : Int)) = false := beq_eq_false_iff_ne.2 (by omega)
      rw [decide_eq_false h2]
      clear h2
      go_enter Tryz.func101, Tryz.ntmps101
      go_wp2_with (go_at_call 80; refine HF.out.mono ?_; rintro e w1 ⟨rfl, rfl⟩; skip)
      go_ret
      exact ⟨by simp, by repeat (first | with_reducible exact gb_refl _ _ | with_reducible refine gb_drew ?_ | with_reducible refine gb_alloc ?_ _)⟩
  · have e1 : ((k : Int) == 1) = false := beq_eq_false_iff_ne.2 (by omega)
    rw [decide_eq_false h1]
    clear h1
    go_enter Tryz.func101, Tryz.ntmps101
    go_wp2_with (go_at_call 80; refine HF.out.mono ?_; rintro e w1 ⟨rfl, rfl⟩; skip)
    go_ret
    exact ⟨by simp, by repeat (first | with_reducible exact gb_refl _ _ | with_reducible refine gb_drew ?_ | with_reducible refine gb_alloc ?_ _)⟩
open Go

section
variable {P : Program} {ops : Array Oper} {Q : Exit → Act → World → Prop} {md : Region.Mode} {S : World → Prop} {z : Nat}

/-- Whatever comes up next, S holds behind it, but behind number z. -/
def wpG (P : Program) (md : Region.Mode) (ops : Array Oper) (Q : Exit → Act → World → Prop) (S : World → Prop) (z : Nat) : Nat → Array Bool → Act → World → Prop
  | 0, L, a, w => Region.ready md ops L = [] ∧ Q .normal a w
  | n + 1, L, a, w => (Region.ready md ops L = [] → Q .normal a w) ∧ ∀ i ∈ Region.ready md ops L, wpOp P ops Q i (fun a' w' => (i ≠ z → S w') ∧ wpG P md ops Q S z n (L.setIfInBounds i true) a' w') a w

theorem wpG_any : ∀ (n : Nat) (L : Array Bool) (a : Act) (w : World), wpG P md ops Q S z n L a w → wpAny P md ops Q n L a w
  | 0, _, _, _, h => h
  | n + 1, _, _, _, h => ⟨h.1, fun i hi => wpOp_mono (fun a' w' k => wpG_any n _ a' w' k.2) (h.2 i hi)⟩

/-- What waits for something that hasn't come up can't come up. -/
theorem not_ready {L : Array Bool} {i : Nat} (hz : Region.waitsFor md ops z i = true) (hi : L.getD i true = false) : z ∉ Region.ready md ops L := fun h => by
  obtain ⟨oz, hoz, e, he, hb, hei⟩ := Region.waitsFor_spec hz
  obtain ⟨-, o, ho, hall⟩ := mem_ready.1 h
  obtain rfl : o = oz := Option.some.inj (ho.symm.trans hoz)
  have h1 := hall e he hb
  rw [hei] at h1
  have h2 := getD_both hi
  rw [h1] at h2
  cases h2

theorem wpG_first {i : Nat} {oi : Oper} {v : Value} (hi : ops[i]? = some oi) (hsel : ∀ (j : Nat) (o : Oper) cs b, ops[j]? = some o → o.op ≠ .select cs b) (hz : Region.waitsFor md ops z i = true)
    (hQ : ∀ c a w, Q (.panic c) (a.put oi.dst v) w → Q (.panic c) a w) : ∀ (n : Nat) (L : Array Bool) (a : Act) (w : World),
      (∀ j oj, ops[j]? = some oj → j ≠ i → L.getD j true = false → (∀ e ∈ oj.after, Region.binds md e = true → e.on ≠ i) → oi.apart ops oj = true) →
      i ∈ Region.ready md ops L → YieldsIf P ops S oi v a → S w → wpG P md ops Q S z n (L.setIfInBounds i true) (a.put oi.dst v) w → wpG P md ops Q S z (n + 1) L a w := by
  intro n
  induction n with
  | zero =>
    intro L a w _ hr hy hS H
    refine ⟨fun h0 => (by rw [h0] at hr; cases hr), fun j hj => ?_⟩
    by_cases hne : j = i
    · subst hne; exact hy.wpOp hi hS ⟨fun _ => hS, H⟩
    · have h1 := ready_mono hj hne
      rw [H.1] at h1; cases h1
  | succ n ih =>
    intro L a w hap hr hy hS H
    refine ⟨fun h0 => (by rw [h0] at hr; cases hr), fun j hj => ?_⟩
    by_cases hne : j = i
    · subst hne; exact hy.wpOp hi hS ⟨fun _ => hS, H⟩
    · have hil := (mem_ready.1 hr).1
      have hjz : j ≠ z := fun e => not_ready hz hil (e ▸ hj)
      obtain ⟨hjl, oj, hoj, hall⟩ := mem_ready.1 hj
      have hno : ∀ e ∈ oj.after, Region.binds md e = true → e.on ≠ i := fun e he hb h0 => by
        have h1 := hall e he hb
        rw [h0, getD_both hil] at h1
        cases h1
      have hstep := wpOp_putIf hoj (hap j oj hoj hne hjl hno) (fun cs b => hsel i oi cs b hi) (fun cs b => hsel j oj cs b hoj) hQ hy (H.2 j (ready_mono hj hne))
      refine wpOp_mono (fun a' w' k => ⟨fun _ => k.2.1 hjz, ih (L.setIfInBounds j true) a' w' (fun m om hm hmi hml hmn => hap m om hm hmi ?_ hmn) (ready_mono hr (Ne.symm hne)) k.1 (k.2.1 hjz) ?_⟩) hstep
      · by_cases hjm : j = m
        · subst hjm; exact hjl
        · rwa [getD_set_ne true hjm] at hml
      · have hc := Array.setIfInBounds_comm (xs := L) true true hne
        rw [hc]; exact k.2.2

theorem wpG_take {i : Nat} {oi : Oper} {v : Value} {n : Nat} {L : Array Bool} {a : Act} {w : World} (hi : ops[i]? = some oi) (hs : Region.noSelect ops = true) (hf : Region.free md ops L i = true) (hr : (Region.ready md ops L).contains i = true) (hz : Region.waitsFor md ops z i = true)
    (hQ : ∀ c a w, Q (.panic c) (a.put oi.dst v) w → Q (.panic c) a w) (hw : Region.wanted oi (yielded ops a.tmps) = true) (hy : ∀ w, S w → (execOp a.eval oi).run P w = .ok (.value v) w) (hS : S w)
    (h : wpG P md ops Q S z n (L.setIfInBounds i true) (a.put oi.dst v) w) : wpG P md ops Q S z (n + 1) L a w :=
  wpG_first hi (Region.noSelect_spec hs) hz hQ n L a w (Region.free_spec hi hf) (by simpa using hr) (.inl ⟨hw, hy⟩) hS h

theorem wpG_step {i : Nat} {o : Oper} {n : Nat} {L : Array Bool} {a : Act} {w : World} (hr : Region.ready md ops L = [i]) (ho : ops[i]? = some o)
    (h : ∀ K : Act → World → Prop, Shut (∀ a' w', (i ≠ z → S w') → ((i ≠ z → S w') → wpG P md ops Q S z n (L.setIfInBounds i true) a' w') → K a' w') → if Region.wanted o (yielded ops a.tmps) = true then Oper.wp P o a w K Q else K (a.put o.dst undef) w) : wpG P md ops Q S z (n + 1) L a w :=
  ⟨fun h0 => (by rw [hr] at h0; cases h0), fun j hj => by
    rw [hr] at hj
    obtain rfl : j = i := by simpa using hj
    exact wpOp_step ho (fun K hK => h K (fun a' w' h1 h2 => hK a' w' ⟨h1, h2 h1⟩))⟩

theorem wpG_done {n : Nat} {L : Array Bool} {a : Act} {w : World} (hr : Region.ready md ops L = []) (h : Q .normal a w) : wpG P md ops Q S z n L a w := by
  cases n with
  | zero => exact ⟨hr, h⟩
  | succ n => exact ⟨fun _ => h, fun i hi => (by rw [hr] at hi; cases hi)⟩

theorem wp_region_G {id : Nat} {a : Act} {w : World} (hm : P.follows .mixedOrders = true) (hS : S w.drew)
    (h : S w.drew → wpG P .any ops Q S z ops.size (Array.replicate ops.size false) a w.drew) : (Code.region id ops true).wp P Q a w :=
  wp_region_any hm (wpG_any _ _ _ _ (h hS))
end
end Go.Proofs.YtccokidhngdjnaaGreatDoor
