/- Lemmas. -/
import Derived.Test.YtijpelkjeejjfaaGreatDoorP14
set_option linter.unusedVariables false
set_option linter.unusedSimpArgs false
namespace Go.Proofs.YtijpelkjeejjfaaGreatDoor.Zd
open Go.RowKit Mx

def RevPost (g cap n : Nat) (f : Nat → Nat) (base : Nat) (w : World) (e : Ending) (w' : World) : Prop :=
  e = .returned (.tuple #[]) ∧ Own .u8 5 w' base (.slice (some ⟨g, 0, none⟩) n cap) n (fun j => f (n - 1 - j)) ∧ w.grownBy w' (some g)

def rv (f : Nat → Nat) (n k : Nat) : Nat → Nat := fun j => if j < k ∨ n ≤ j + k then f (n - 1 - j) else f j

theorem rv_step {f : Nat → Nat} {n k : Nat} (h : 2 * k + 1 < n) : ∀ j, j < n → upd (upd (rv f n k) k (f (n - 1 - k))) (n - 1 - k) (f k) j = rv f n (k + 1) j := by
  intro j hj
  unfold upd rv
  split
  · subst_vars
    rw [if_pos (by omega)]
    congr 1; omega
  · split
    · subst_vars; rw [if_pos (by omega)]
    · by_cases h1 : j < k ∨ n ≤ j + k
      · rw [if_pos h1, if_pos (by omega)]
      · rw [if_neg h1, if_neg (by omega)]

set_option maxHeartbeats 2000000 in
theorem reverse_c (g cap n : Nat) (f : Nat → Nat) (base : Nat) (w : World) (h : Own .u8 5 w base (.slice (some ⟨g, 0, none⟩) n cap) n f) (hn : n ≤ 1000000000) :
    Calls Tryz.prog 58 #[.slice (some ⟨g, 0, none⟩) n cap] w (RevPost g cap n f base w) := by
  have HO := Lib.hid h
  clear h
  go_enter Tryz.func58, Tryz.ntmps58
  go_wp2
  go_loopw [2, 3] (fun i j wr => ∃ k : Nat, 2 * k ≤ n + 1 ∧ i = .int .i64 k ∧ j = .int .i64 ((n : Int) - 1 - k) ∧ Hid (Own .u8 5 wr base (.slice (some ⟨g, 0, none⟩) n cap) n (rv f n k)) ∧ Hid (w.grownBy wr (some g))) (fun i _ _ => n - (intOf i).toNat)
  case atStart => exact ⟨0, by omega, rfl, by simp, HO.out.congr (fun j hj => by simp [rv]; omega), gb_refl _ _⟩
  case round =>
    obtain ⟨k, hk, rfl, rfl, HK, HG⟩ := hrel
    by_cases hlt : 2 * k + 1 < n
    · have c1 := HK.out.cell (j := k) (by omega)
      have c2 := HK.out.cell (j := n - 1 - k) (by omega)
      have f1 := HK.out.free (j := k)
      have f2 := HK.out.free (j := n - 1 - k)
      have e1 : rv f n k k = f k := by unfold rv; rw [if_neg (by omega)]
      have e2 : rv f n k (n - 1 - k) = f (n - 1 - k) := by unfold rv; rw [if_neg (by omega)]
      rw [e1] at c1; rw [e2] at c2
      obtain ⟨x, hx⟩ : ∃ x, f k = x := ⟨_, rfl⟩
      obtain ⟨y, hy⟩ : ∃ y, f (n - 1 - k) = y := ⟨_, rfl⟩
      rw [hx] at c1; rw [hy] at c2
      have HNEXT := Lib.hid (((HK.out.set (j := k) (x := y) (by omega)).set (j := n - 1 - k) (x := x) (by omega)).congr (f2 := rv f n (k + 1)) (by rw [← hx, ← hy]; exact rv_step hlt))
      obtain ⟨l, hl⟩ : ∃ l, n - 1 - k = l := ⟨_, rfl⟩
      have hli : (n : Int) - 1 - k = (l : Int) := by omega
      rw [hl] at c2 f2 HNEXT
      rw [hli]
      have i1 : (k : Int) < l := by omega
      have i2 : (l : Int) < n := by omega
      have hkl : k < l := by omega
      have hln : l < n := by omega
      have HL := Lib.hid hl
      have hf2' : (wr.setCell ⟨g, k, none⟩ (.int .u8 y)).frozen? ⟨g, l, none⟩ = false := (HK.out.set (j := k) (x := y) (by omega)).free
      have hc2' := (HK.out.set (j := k) (x := y) (by omega)).cell (j := l) (by omega)
      have e3 : rv f n k l = y := by rw [← hl, e2]; exact hy
      rw [upd_ne (by omega), e3] at hc2'
      clear e1 e2 e3 hx hy hl hli
      go_wp2
      go_region
      all_goals go_wp2
      go_roundw
      case rel => exact ⟨k + 1, by omega, by go_num, val_of (by have := HL.out; omega), HNEXT.out, gb_drew (gb_set (gb_set HG.out _) _)⟩
      case measure => simp [intOf]; omega
    · have hfin : RevPost g cap n f base w (.returned (.tuple #[])) wr := ⟨rfl, HK.out.congr (fun j hj => by
        unfold rv
        by_cases h : j < k ∨ n ≤ j + k
        · rw [if_pos h]
        · rw [if_neg h]; congr 1; omega), HG.out⟩
      have HFIN := Lib.hid hfin
      have i1 : ¬ ((k : Int) < (n : Int) - 1 - k) := by omega
      clear hfin
      go_wp2
      go_end0
      exact HFIN.out

theorem times_alg {A F c P m r s x c2 B : Nat} (h : A + c * P = m * F + r) (hs : s + c2 * B = x * m + c) : A + s * P + c2 * (P * B) = m * (F + x * P) + r := by
  have e : A + s * P + c2 * (P * B) = A + (s + c2 * B) * P := by grind
  rw [e, hs]
  have e2 : A + (x * m + c) * P = (A + c * P) + x * m * P := by grind
  rw [e2, h]; grind

def TPPost (base : Nat) (n m r : Nat) (f : Nat → Nat) (w : World) (e : Ending) (w' : World) : Prop :=
  ∃ v' n' f', e = .returned v' ∧ Own .u64 78 w' base v' n' f' ∧ n' ≤ n + 1 ∧ (∀ j, j < n' → f' j < Bw) ∧ V Bw f' 0 n' = m * V Bw f 0 n + r ∧ Below base w w'

theorem tp_arith {m x c hi lo s ov : Nat} (hm : m < Bw) (hx : x < Bw) (hc : c < Bw) (hml : hi * Bw + lo = x * m) (h1 : s + ov * Bw = lo + c + 0) (hs : s < Bw) : hi + ov < Bw ∧ s + (hi + ov) * Bw = x * m + c := by
  have := mul_top hx hm
  generalize x * m = P at *
  unfold Bw at *
  omega

set_option maxHeartbeats 2000000 in
theorem timesPlus_c (base : Nat) (v : Value) (n m r : Nat) (f : Nat → Nat) (w : World) (hO : Own .u64 78 w base v n f) (hf : ∀ j, j < n → f j < Bw) (hm : m < Bw) (hr : r < Bw) (hn : n ≤ 100000) (hbase : base ≤ w.heap.size) :
    Calls Tryz.prog 30 #[v, .int .u64 m, .int .u64 r] w (TPPost base n m r f w) := by
  obtain ⟨p, cap, rfl, hp⟩ : ∃ p cap, v = .slice p n cap ∧ (0 < n → ∃ g, p = some ⟨g, 0, none⟩ ∧ base ≤ g ∧ g < w.heap.size) := by
    rcases hO.shape with ⟨rfl, rfl⟩ | ⟨g, cap, rfl, hbg, hgs, hnc, hcm⟩
    · exact ⟨_, _, rfl, fun h => by omega⟩
    · exact ⟨_, _, rfl, fun _ => ⟨g, rfl, hbg, hgs⟩⟩
  have HS := Lib.hid hO; have HF := Lib.hid hf; have HM := Lib.hid hm; have HR := Lib.hid hr
  clear hO hf hm hr
  go_enter Tryz.func30, Tryz.ntmps30
  go_wp2
  go_loopw [2, 14] (fun c i wr => ∃ (k c' : Nat) (fk : Nat → Nat), k ≤ n ∧ i = .int .i64 k ∧ c = .int .u64 c' ∧ Hid (c' < Bw) ∧ Hid (Own .u64 78 wr base (.slice p n cap) n fk) ∧ Hid (∀ j, j < n → fk j < Bw) ∧ Hid (∀ j, k ≤ j → j < n → fk j = f j) ∧
      Hid (V Bw fk 0 k + c' * Bw ^ k = m * V Bw f 0 k + r) ∧ Hid (Below base w wr)) (fun _ i _ => n - (intOf i).toNat)
  case atStart => exact ⟨0, r, f, by omega, rfl, rfl, HR, HS, HF, fun _ _ _ => rfl, by simp [Hid, V], Below.refl _ _⟩
  case round =>
    clear HS HF HR
    obtain ⟨k, c', fk, hk, rfl, rfl, HC, HO, HF, HE, HV, HB⟩ := hrel
    by_cases hlt : k < n
    · obtain ⟨g, rfl, hbg, hgs⟩ := hp (by omega)
      have hc1 := HO.out.cell hlt
      have hf1 := HO.out.free (j := k)
      obtain ⟨hi, lo, hmul, hhi, hlo, hml⟩ := mul64_c (fk k) m (HF.out k hlt) HM.out
      obtain ⟨s, ov, hrun, hs, hov, hsum⟩ := add64_run lo c' 0 (by omega) hlo HC.out
      obtain ⟨hcn, har⟩ := tp_arith HM.out (HF.out k hlt) HC.out hml hsum hs
      have hr1 : ∀ w, (callFunc 55 #[.int .u64 lo, .int .u64 c', .int .u64 0]).run Tryz.prog w = .ok (.value (.tuple #[.int .u64 s, .int .u64 ov])) w := hrun
      have HMUL := Lib.hid hmul
      have H2 : Hid (V Bw (upd fk k s) 0 (k + 1) + (hi + ov) * Bw ^ (k + 1) = m * V Bw f 0 (k + 1) + r) := by
        show _ = _
        rw [V_succ, V_succ, Nat.zero_add, upd_at, V_upd_out (by omega), Nat.pow_succ, ← HE.out k (Nat.le_refl _) hlt]
        exact times_alg HV.out har
      have HCN := Lib.hid hcn
      have hcn2 : hi + ov < 18446744073709551616 := hcn
      have HSB := Lib.hid hs
      clear hrun hmul hml hsum hcn har hs hhi hlo
      go_wp2_with (go_at_call 54; refine (HMUL.out _).mono ?_; rintro e w' ⟨rfl, rfl⟩)
      go_roundw
      case rel => exact ⟨k + 1, hi + ov, upd fk k s, by omega, by go_num, by go_num, HCN, HO.out.set hlt, lt_upd HF.out HSB.out, (fun j h1 h2 => by rw [upd_ne (by omega)]; exact HE.out j (by omega) h2), H2, HB.out.setCell hbg _⟩
      case measure => simp [intOf]; omega
    · obtain rfl : k = n := by omega
      by_cases h0 : c' = 0
      · subst h0
        have hfin : TPPost base k m r f w (.returned (.slice p k cap)) wr := ⟨_, k, fk, rfl, HO.out, by omega, HF.out, by have := HV.out; rwa [Nat.zero_mul, Nat.add_zero] at this, HB.out⟩
        have HFIN := Lib.hid hfin
        clear hfin
        go_wp2
        go_ret
        exact HFIN.out
      · have hr0 : ((c' : Int) == 0) = false := beq_eq_false_iff_ne.2 (by omega)
        have hbs : base ≤ wr.heap.size := Nat.le_trans hbase HB.out.size
        have hfar := Lib.hid HO.out.far
        clear hp
        go_wp2_with (at_builtin; refine wpList_app1 (k := .u64) (t := 27) (e := 78) (bytes := 8) Tryz.underlying27 info64 (by omega) rfl _ _ rfl base (.slice p k cap) k fk _ c' rfl rfl HO.out rfl (by omega) (by omega) ?_)
        intro v' w' hO' hG'
        have HO' := Lib.hid hO'; have HG' := Lib.hid hG'
        clear hO' hG'
        go_wp2_with fail
        go_ret
        refine ⟨v', k + 1, _, rfl, HO'.out, by omega, fun j hj => ?_, ?_, HB.out.grown HG'.out hbs hfar.out⟩
        · unfold upd; split
          · exact HC.out
          · exact HF.out j (by omega)
        · rw [V_succ, Nat.zero_add, upd_at, V_upd_out (by omega)]; exact HV.out

/-- The value x reads as the whole number Z. -/
def IsInt (w : World) (x : Value) (Z : Int) : Prop := ∃ (s : Bool) (v : Value) (N : Nat), x = .agg #[.bool s, v] ∧ Num w v N ∧ (s = true → N ≠ 0) ∧ Z = if s then -(N : Int) else N

theorem IsInt.kept {w w' : World} {x : Value} {Z : Int} (h : IsInt w x Z) (hg : w.grownBy w' none) : IsInt w' x Z := by
  obtain ⟨s, v, N, rfl, hn, r⟩ := h
  exact ⟨s, v, N, rfl, hn.kept hg, r⟩

def IntPost (Z : Int) (w : World) (e : Ending) (w' : World) : Prop := ∃ x, e = .returned x ∧ IsInt w' x Z ∧ w.grownBy w' none

def sgn (s : Bool) (N : Nat) : Int := if s then -(N : Int) else N

theorem num_len {n : Nat} {f : Nat → Nat} (t : n = 0 ∨ f (n - 1) ≠ 0) : 0 < n ↔ V Bw f 0 n ≠ 0 := by
  constructor
  · intro h
    rcases V_top (b := Bw) (f := f) (o := 0) (n := n) (by simpa using t) with e | e
    · omega
    · have := Nat.pow_pos (n := n - 1) Bw_pos; omega
  · intro h
    exact num_pos h

theorem signed_fin {s : Bool} {p p' : Option Addr} {n m cap' : Nat} {f : Nat → Nat} {w : World} (q1 : m ≤ n) (q2 : m ≤ cap') (q3 : cap' ≤ maxLen) (h : At .u64 w p n f) (hf : ∀ j, j < n → f j < Bw)
    (q4 : m = 0 ∨ f (m - 1) ≠ 0) (q5 : ∀ j, m ≤ j → j < n → f j = 0) (q7 : 0 < m → p' = p) :
    IntPost (sgn s (V Bw f 0 n)) w (.returned (.agg #[.bool (s && decide (0 < m)), .slice p' m cap'])) (w.alloc (.cells #[.bool (s && decide (0 < m)), .slice p' m cap'] 29)) := by
  have hg := World.grownBy_alloc w (.cells #[.bool (s && decide (0 < m)), .slice p' m cap'] 29) none
  have hv : V Bw f 0 n = V Bw f 0 m := V_pad (fun j h1 h2 => by simpa using q5 j h1 h2) q1
  refine ⟨_, rfl, ⟨s && decide (0 < m), .slice p' m cap', V Bw f 0 n, rfl, ⟨p', m, cap', f, rfl, q2, q3, ?_, fun j hj => hf j (by omega), q4, hv.symm⟩, fun h => ?_, ?_⟩, hg⟩
  · by_cases e : m = 0
    · exact .inl e
    · have h2 := (h.pre q1).grown hg (by simp)
      rw [← q7 (by omega)] at h2; exact h2
  · rw [hv]; exact (num_len q4).1 (by simp at h; exact h.2)
  · rw [hv]
    by_cases e : 0 < m
    · cases s <;> simp [sgn, e]
    · obtain rfl : m = 0 := by omega
      cases s <;> simp [sgn, V]

def ValPost (v : Value) (w : World) (e : Ending) (w' : World) : Prop := e = .returned v ∧ w.grownBy w' none
theorem int_open {w : World} {x : Value} {Z : Int} (h : IsInt w x Z) : ∃ s p n cap f, x = .agg #[.bool s, .slice p n cap] ∧ n ≤ cap ∧ cap ≤ maxLen ∧ At .u64 w p n f ∧ (∀ j, j < n → f j < Bw) ∧ (n = 0 ∨ f (n - 1) ≠ 0) ∧ (s = true → 0 < n) ∧ Z = sgn s (V Bw f 0 n) := by
  obtain ⟨s, v, N, rfl, ⟨p, n, cap, f, rfl, h1, h2, h3, h4, h5, rfl⟩, h6, h7⟩ := h
  exact ⟨s, p, n, cap, f, rfl, h1, h2, h3, h4, h5, fun e => num_pos (h6 e), h7⟩
theorem top1 (w : World) (o1 : Obj) : (w.alloc o1).heap[w.heap.size]? = some o1 := heap_alloc_new w o1
theorem int_parts {w : World} {x : Value} {Z : Int} (h : IsInt w x Z) : ∃ s p n cap, x = .agg #[.bool s, .slice p n cap] ∧ Hid (IsInt w (.agg #[.bool s, .slice p n cap]) Z) := by
  obtain ⟨s, v, N, rfl, hn, r⟩ := h
  obtain ⟨p, n, cap, f, rfl, q⟩ := hn
  exact ⟨s, p, n, cap, rfl, s, _, N, rfl, ⟨p, n, cap, f, rfl, q⟩, r⟩

theorem At.off {k : IntKind} {w w' : World} {p : Option Addr} {n r : Nat} {f : Nat → Nat} (h : At k w p n f) (hn : ∀ o x, w.cell? ⟨r, o, none⟩ ≠ some (.int k x)) (hs : w.heap.size ≤ w'.heap.size) (hc : ∀ b o, b ≠ r → w'.cell? ⟨b, o, none⟩ = w.cell? ⟨b, o, none⟩) : At k w' p n f := by
  rcases h with h | ⟨g, off, rfl, hg, hcell⟩
  · exact .inl h
  · by_cases hn0 : n = 0
    · exact .inl hn0
    · have hgr : g ≠ r := by
        intro e; subst e
        exact hn _ _ (hcell 0 (by omega))
      exact .inr ⟨g, off, rfl, Nat.lt_of_lt_of_le hg hs, fun j hj => (hc g _ hgr).trans (hcell j hj)⟩

theorem Num.off {w w' : World} {v : Value} {N r : Nat} (h : Num w v N) (hn : ∀ o x, w.cell? ⟨r, o, none⟩ ≠ some (.int .u64 x)) (hs : w.heap.size ≤ w'.heap.size) (hc : ∀ b o, b ≠ r → w'.cell? ⟨b, o, none⟩ = w.cell? ⟨b, o, none⟩) : Num w' v N := by
  obtain ⟨p, n, cap, f, rfl, h1, h2, h3, r⟩ := h
  exact ⟨p, n, cap, f, rfl, h1, h2, h3.off hn hs hc, r⟩

theorem box_cells {w : World} {r : Nat} {b0 : Bool} {T : TypeId} {q : Option Addr} {l c : Nat} (hb : w.heap[r]? = some (.cells #[.bool b0, .slice q l c] T (0, 0))) (k : IntKind) : ∀ o x, w.cell? ⟨r, o, none⟩ ≠ some (.int k x) := by
  intro o x h
  rw [cell_of_row w r o _ T (0, 0) hb] at h
  match o, h with
  | 0, h => simp at h
  | 1, h => simp at h
  | o + 2, h => simp at h

theorem ret_box {w W w3 : World} {r : Nat} {b0 : Bool} {T : TypeId} {s : Bool} {p : Option Addr} {n c : Nat} {Z : Int} (hb : W.heap[r]? = some (.cells #[.bool b0, .slice none 0 0] T (0, 0))) (hg : W.grownBy w3 none) (hx : IsInt w3 (.agg #[.bool s, .slice p n c]) Z)
    (h0 : w.grownBy W none) (hr : w.heap.size ≤ r) :
    IntPost Z w (.returned (.agg #[.bool s, .slice p n c])) ((w3.setCell ⟨r, 0, none⟩ (.bool s)).setCell ⟨r, 1, none⟩ (.slice p n c)) := by
  have hrW := (Array.getElem?_eq_some_iff.1 hb).1
  have hb3 := (hg.block r hrW (by simp)).trans hb
  refine ⟨_, rfl, ?_, below_gb (gb_new (gb_below (gb_trans h0 hg)) hr (gb_set (gb_set (gb_refl _ _) _) _))⟩
  obtain ⟨s', v', N, he, hn, h1, h2⟩ := hx
  refine ⟨s', v', N, he, hn.off (box_cells hb3 _) (by simp [World.setCell]) (fun b o hbr => ?_), h1, h2⟩
  have e1 : ((w3.setCell ⟨r, 0, none⟩ (.bool s)).setCell ⟨r, 1, none⟩ (.slice p n c)).heap[b]? = w3.heap[b]? := by
    rw [Below.heap_setCell _ _ _ _ (by simpa using hbr), Below.heap_setCell _ _ _ _ (by simpa using hbr)]
  exact World.cell?_of_block (w := w3) e1
theorem ret_cells {W w3 : World} {r : Nat} {b0 : Bool} {T : TypeId} {s : Bool} {p : Option Addr} {n c : Nat} (hb : W.heap[r]? = some (.cells #[.bool b0, .slice none 0 0] T (0, 0))) (hg : W.grownBy w3 none) :
    (w3.setCell ⟨r, 0, none⟩ (.bool s)).cell? ⟨r, 0, none⟩ = some (.bool s) ∧ ((w3.setCell ⟨r, 0, none⟩ (.bool s)).setCell ⟨r, 1, none⟩ (.slice p n c)).cell? ⟨r, 1, none⟩ = some (.slice p n c) := by
  have hrW := (Array.getElem?_eq_some_iff.1 hb).1
  have hb3 := (hg.block r hrW (by simp)).trans hb
  have h1 : (w3.setCell ⟨r, 0, none⟩ (.bool s)).heap[r]? = some (.cells #[.bool s, .slice none 0 0] T (0, 0)) := by
    simp only [World.setCell, Array.getElem?_modify, hb3, if_true, Option.map_some]; rfl
  have h2 : ((w3.setCell ⟨r, 0, none⟩ (.bool s)).setCell ⟨r, 1, none⟩ (.slice p n c)).heap[r]? = some (.cells #[.bool s, .slice p n c] T (0, 0)) := by
    rw [World.setCell]
    simp only [Array.getElem?_modify, h1, if_true, Option.map_some]; rfl
  exact ⟨by rw [cell_of_row _ r 0 _ T (0, 0) h1]; rfl, by rw [cell_of_row _ r 1 _ T (0, 0) h2]; rfl⟩
end Go.Proofs.YtijpelkjeejjfaaGreatDoor.Zd
namespace Go.Proofs.YtijpelkjeejjfaaGreatDoor
open Go.RowKit

/-- A block of cells of which no string's bytes are part. -/
def Flat (w : World) (g : Nat) : Prop := ∃ cs T, w.heap[g]? = some (.cells cs T (0, 0))
theorem Flat.same {S : Nat → Prop} {w w' : World} {g : Nat} (h : Flat w g) (hg : Fr2 S w w') (hS : ¬ S g) : Flat w' g := by
  obtain ⟨cs, T, h⟩ := h
  exact ⟨cs, T, by rw [hg.block g (hlt h) hS]; exact h⟩
mutual
/-- Eight cells read as an expression of any Op; all its memory lies in F. -/
def SAt (F : Nat → Prop) (w : World) : Sx → List Value → Prop
  | .mk op nm md nu ys ks ps, q => ∃ s pw nw cw pk ck rows, q = [.int .i64 op, strV nm, strV md, .bool s, .slice pw nw cw, .bool ys, .slice pk ks.length ck, .int .i64 ps] ∧ Zd.IsInt w (.agg #[.bool s, .slice pw nw cw]) nu ∧ (0 < nw → ∃ a, pw = some a ∧ F a.block) ∧ GAt 8 w pk rows ∧ LsS F w ks rows ∧ (ks ≠ [] → ∃ a, pk = some a ∧ F a.block ∧ Flat w a.block)
def LsS (F : Nat → Prop) (w : World) : List Sx → List (List Value) → Prop
  | [], r => r = []
  | x :: l, r => ∃ q r', r = q :: r' ∧ SAt F w x q ∧ LsS F w l r'
end
theorem int_sameS {S : Nat → Prop} {w w' : World} {s : Bool} {p : Option Addr} {n c : Nat} {Z : Int} (h : Zd.IsInt w (.agg #[.bool s, .slice p n c]) Z) (hg : Fr2 S w w') (hS : 0 < n → ∀ a, p = some a → ¬ S a.block) : Zd.IsInt w' (.agg #[.bool s, .slice p n c]) Z := by
  obtain ⟨s', v, N, he, ⟨p', n', c', f, rfl, h1, h2, h3, h4⟩, r⟩ := h
  simp only [Value.agg.injEq, Array.mk.injEq, List.cons.injEq, Value.bool.injEq, Value.slice.injEq, and_true] at he
  obtain ⟨rfl, rfl, rfl, rfl⟩ := he
  refine ⟨s, _, N, rfl, ⟨p, n, c, f, rfl, h1, h2, ?_, h4⟩, r⟩
  rcases Nat.eq_zero_or_pos n with h0 | h0
  · exact .inl h0
  · obtain ⟨g, off, rfl, hl, hc⟩ := Or.resolve_left h3 (by omega)
    exact .inr ⟨g, off, rfl, Nat.lt_of_lt_of_le hl hg.size, fun j hj => by rw [World.cell?_of_block (w := w) (hg.block g hl (hS h0 _ rfl))]; exact hc j hj⟩
theorem SAt.len {F : Nat → Prop} {w : World} : ∀ {x : Sx} {q : List Value}, SAt F w x q → q.length = 8
  | .mk op nm md nu ys ks ps, q, h => by
    simp only [SAt] at h
    obtain ⟨s, pw, nw, cw, pk, ck, rows, rfl, -⟩ := h
    rfl
theorem LsS.len {F : Nat → Prop} {w : World} : ∀ {l : List Sx} {r : List (List Value)}, LsS F w l r → r.length = l.length
  | [], r, h => by simp only [LsS] at h; rw [h]; rfl
  | x :: l, r, h => by
    simp only [LsS] at h
    obtain ⟨q, r', rfl, -, h2⟩ := h
    rw [List.length_cons, LsS.len h2]; rfl
theorem LsS.wid {F : Nat → Prop} {w : World} : ∀ {l : List Sx} {r : List (List Value)}, LsS F w l r → ∀ q ∈ r, q.length = 8
  | [], r, h => by simp only [LsS] at h; subst h; simp
  | x :: l, r, h => by
    simp only [LsS] at h
    obtain ⟨q, r', rfl, h1, h2⟩ := h
    intro z hz
    rcases List.mem_cons.1 hz with rfl | hz
    · exact h1.len
    · exact LsS.wid h2 z hz
theorem LsS.get {F : Nat → Prop} {w : World} : ∀ {l : List Sx} {r : List (List Value)} {j : Nat} {x : Sx}, LsS F w l r → l[j]? = some x → ∃ q, r[j]? = some q ∧ SAt F w x q
  | [], r, j, x, h, hx => by simp at hx
  | y :: l, r, j, x, h, hx => by
    simp only [LsS] at h
    obtain ⟨q, r', rfl, h1, h2⟩ := h
    match j, hx with
    | 0, hx => simp at hx; subst hx; exact ⟨q, rfl, h1⟩
    | j + 1, hx =>
      obtain ⟨q', hq, hr⟩ := LsS.get h2 (j := j) (by simpa using hx)
      exact ⟨q', by simpa using hq, hr⟩
theorem LsS.snoc {F : Nat → Prop} {w : World} {x : Sx} {q : List Value} (hx : SAt F w x q) : ∀ {l : List Sx} {r : List (List Value)}, LsS F w l r → LsS F w (l ++ [x]) (r ++ [q])
  | [], r, h => by simp only [LsS] at h; subst h; simp only [List.nil_append, LsS]; exact ⟨q, [], rfl, hx, rfl⟩
  | y :: l, r, h => by
    simp only [LsS] at h
    obtain ⟨q', r', rfl, h1, h2⟩ := h
    simp only [List.cons_append, LsS]
    exact ⟨q', _, rfl, h1, LsS.snoc hx h2⟩
theorem LsS.nil {F : Nat → Prop} {w : World} : LsS F w [] [] := by simp [LsS]
theorem gat_sameS {S F : Nat → Prop} {w w' : World} {p : Option Addr} {rows : List (List Value)} {n : Nat} (hr : rows.length = n) (h : GAt 8 w p rows) (hF : 0 < n → ∃ a, p = some a ∧ F a.block) (hg : Fr2 S w w') (hS : ∀ k, F k → ¬ S k) : GAt 8 w' p rows :=
  h.keptS hg (fun h0 a ha => by
    obtain ⟨b, hb, h1⟩ := hF (by have := List.length_pos_iff.2 h0; omega)
    rw [ha] at hb; injection hb with hb; subst hb; exact hS _ h1)
mutual
theorem SAt.same {F S : Nat → Prop} {w w' : World} (hg : Fr2 S w w') (hS : ∀ k, F k → ¬ S k) : ∀ {x : Sx} {q : List Value}, SAt F w x q → SAt F w' x q
  | .mk op nm md nu ys ks ps, q, h => by
    simp only [SAt] at h ⊢
    obtain ⟨s, pw, nw, cw, pk, ck, rows, h1, h2, h6, h3, h4, h5⟩ := h
    exact ⟨s, pw, nw, cw, pk, ck, rows, h1, int_sameS h2 hg (fun h0 a ha => by obtain ⟨b, hb, hF⟩ := h6 h0; rw [ha] at hb; injection hb with hb; subst hb; exact hS _ hF), h6, gat_sameS h4.len h3 (fun h0 => by obtain ⟨a, ha, hF, -⟩ := h5 (List.length_pos_iff.1 h0); exact ⟨a, ha, hF⟩) hg hS, LsS.same hg hS h4, fun h0 => by obtain ⟨a, ha, hF, hl⟩ := h5 h0; exact ⟨a, ha, hF, hl.same hg (hS _ hF)⟩⟩
theorem LsS.same {F S : Nat → Prop} {w w' : World} (hg : Fr2 S w w') (hS : ∀ k, F k → ¬ S k) : ∀ {l : List Sx} {r : List (List Value)}, LsS F w l r → LsS F w' l r
  | [], r, h => by simp only [LsS] at h ⊢; exact h
  | x :: l, r, h => by
    simp only [LsS] at h ⊢
    obtain ⟨q, r', h1, h2, h3⟩ := h
    exact ⟨q, r', h1, SAt.same hg hS h2, LsS.same hg hS h3⟩
end
mutual
theorem SAt.mono {F F' : Nat → Prop} {w : World} (hF : ∀ k, F k → F' k) : ∀ {x : Sx} {q : List Value}, SAt F w x q → SAt F' w x q
  | .mk op nm md nu ys ks ps, q, h => by
    simp only [SAt] at h ⊢
    obtain ⟨s, pw, nw, cw, pk, ck, rows, h1, h2, h6, h3, h4, h5⟩ := h
    exact ⟨s, pw, nw, cw, pk, ck, rows, h1, h2, fun h0 => by obtain ⟨a, ha, h7⟩ := h6 h0; exact ⟨a, ha, hF _ h7⟩, h3, LsS.mono hF h4, fun h0 => by obtain ⟨a, ha, h6, h8⟩ := h5 h0; exact ⟨a, ha, hF _ h6, h8⟩⟩
theorem LsS.mono {F F' : Nat → Prop} {w : World} (hF : ∀ k, F k → F' k) : ∀ {l : List Sx} {r : List (List Value)}, LsS F w l r → LsS F' w l r
  | [], r, h => by simp only [LsS] at h ⊢; exact h
  | x :: l, r, h => by
    simp only [LsS] at h ⊢
    obtain ⟨q, r', h1, h2, h3⟩ := h
    exact ⟨q, r', h1, SAt.mono hF h2, LsS.mono hF h3⟩
end
theorem SAt.kept {F : Nat → Prop} {w w' : World} {x : Sx} {q : List Value} (h : SAt F w x q) (hg : w.grownBy w' none) : SAt F w' x q := SAt.same (S := fun _ => False) (Fr2.none hg) (fun _ _ h => h) h
theorem LsS.kept {F : Nat → Prop} {w w' : World} {l : List Sx} {r : List (List Value)} (h : LsS F w l r) (hg : w.grownBy w' none) : LsS F w' l r := LsS.same (S := fun _ => False) (Fr2.none hg) (fun _ _ h => h) h

/-! ### The same cells tell of the same size -/

theorem gat_eq {s : Nat} {w : World} {p : Option Addr} {r1 r2 : List (List Value)} (h1 : GAt s w p r1) (h2 : GAt s w p r2) (hl : r1.length = r2.length) (e1 : ∀ q ∈ r1, q.length = s) (e2 : ∀ q ∈ r2, q.length = s) : r1 = r2 := by
  rcases h1 with h1 | ⟨g, off, rfl, -, c1⟩
  · subst h1; exact (List.eq_nil_of_length_eq_zero (by rw [← hl]; rfl)).symm
  rcases h2 with h2 | ⟨g', off', hp, -, c2⟩
  · subst h2; exact List.eq_nil_of_length_eq_zero hl
  simp only [Option.some.injEq, Addr.mk.injEq, and_true] at hp
  obtain ⟨rfl, rfl⟩ := hp
  refine List.ext_getElem hl fun j hj1 hj2 => ?_
  have a1 := List.getElem?_eq_getElem hj1
  have a2 := List.getElem?_eq_getElem hj2
  have b1 := e1 _ (List.getElem_mem hj1)
  have b2 := e2 _ (List.getElem_mem hj2)
  refine List.ext_getElem (by rw [b1, b2]) fun i hi1 hi2 => ?_
  have d1 := c1 j _ a1 i _ (List.getElem?_eq_getElem hi1)
  have d2 := c2 j _ a2 i _ (List.getElem?_eq_getElem hi2)
  rw [d1] at d2; injection d2
mutual
theorem SAt.size {F F' : Nat → Prop} {w : World} : ∀ {x y : Sx} {q : List Value}, SAt F w x q → SAt F' w y q → sizS x = sizS y
  | .mk op nm md nu ys ks ps, .mk op' nm' md' nu' ys' ks' ps', q, h, h' => by
    simp only [SAt] at h h'
    obtain ⟨s, pw, nw, cw, pk, ck, rows, h1, -, -, h3, h4, -⟩ := h
    obtain ⟨s', pw', nw', cw', pk', ck', rows', h1', -, -, h3', h4', -⟩ := h'
    rw [h1] at h1'
    simp only [List.cons.injEq, Value.slice.injEq, and_true] at h1'
    obtain ⟨-, -, -, -, -, -, ⟨rfl, hn, rfl⟩, -⟩ := h1'
    have hr : rows = rows' := gat_eq h3 h3' (by rw [h4.len, h4'.len, hn]) h4.wid h4'.wid
    subst hr
    simp only [sizS]
    rw [LsS.size h4 h4']
theorem LsS.size {F F' : Nat → Prop} {w : World} : ∀ {l m : List Sx} {r : List (List Value)}, LsS F w l r → LsS F' w m r → sizSs l = sizSs m
  | [], [], r, _, _ => rfl
  | [], y :: m, r, h, h' => by simp only [LsS] at h h'; obtain ⟨q, r', e, -⟩ := h'; rw [h] at e; cases e
  | x :: l, [], r, h, h' => by simp only [LsS] at h h'; obtain ⟨q, r', e, -⟩ := h; rw [h'] at e; cases e
  | x :: l, y :: m, r, h, h' => by
    simp only [LsS] at h h'
    obtain ⟨q, r', e, h1, h2⟩ := h
    obtain ⟨q', r'', e', h1', h2'⟩ := h'
    rw [e] at e'; injection e' with e1 e2; subst e1; subst e2
    simp only [sizSs]
    rw [SAt.size h1 h1', LsS.size h2 h2']
end
/-- An address at which eight cells stand. -/
def CAt (w : World) (a : Addr) (q : List Value) : Prop := ∃ g off, a = ⟨g, off, none⟩ ∧ (g < w.heap.size ∧ Flat w g) ∧ ∀ (i : Nat) (v : Value), q[i]? = some v → w.cell? ⟨g, off + i, none⟩ = some v
theorem CAt.eq {w : World} {a : Addr} {q r : List Value} (h1 : CAt w a q) (h2 : CAt w a r) (hl : q.length = r.length) : q = r := by
  obtain ⟨g, off, rfl, -, c1⟩ := h1
  obtain ⟨g', off', hp, -, c2⟩ := h2
  simp only [Addr.mk.injEq, and_true] at hp
  obtain ⟨rfl, rfl⟩ := hp
  refine List.ext_getElem hl fun i hi1 hi2 => ?_
  have d1 := c1 i _ (List.getElem?_eq_getElem hi1)
  have d2 := c2 i _ (List.getElem?_eq_getElem hi2)
  rw [d1] at d2; injection d2
theorem CAt.same {S : Nat → Prop} {w w' : World} {a : Addr} {q : List Value} (h : CAt w a q) (hg : Fr2 S w w') (hS : ¬ S a.block) : CAt w' a q := by
  obtain ⟨g, off, rfl, ⟨hl, hfl⟩, c⟩ := h
  exact ⟨g, off, rfl, ⟨Nat.lt_of_lt_of_le hl hg.size, hfl.same hg hS⟩, fun i v hi => by rw [World.cell?_of_block (w := w) (hg.block g hl hS)]; exact c i v hi⟩
/-- A kid's cells, and where they stand. -/
theorem GAt.at {s : Nat} {w : World} {p : Option Addr} {rows : List (List Value)} {j : Nat} {q : List Value} (h : GAt s w p rows) (hj : rows[j]? = some q) (hf : ∀ a, p = some a → Flat w a.block) : ∃ g off, p = some ⟨g, off, none⟩ ∧ CAt w ⟨g, off + j * s, none⟩ q := by
  rcases h with h | ⟨g, off, rfl, hl, c⟩
  · subst h; simp at hj
  · exact ⟨g, off, rfl, ⟨g, _, rfl, ⟨hl, hf _ rfl⟩, fun i v hi => c j q hj i v hi⟩⟩
/-- Two expressions at one place are of one size. -/
theorem cat_size {F F' : Nat → Prop} {w : World} {a : Addr} {x y : Sx} {q r : List Value} (h1 : CAt w a q) (hx : SAt F w x q) (h2 : CAt w a r) (hy : SAt F' w y r) : sizS x = sizS y := by
  have := h1.eq h2 (by rw [hx.len, hy.len]); subst this
  exact hx.size hy

theorem emp_dec (l : List UInt8) : l.isEmpty = decide (l = []) := by cases l <;> simp
set_option maxRecDepth 100000 in
set_option maxHeartbeats 16000000 in
theorem names_plain (op : Int) (hop : op = 3 ∨ op = 22) (a : Addr) (nm md : List UInt8) (w : World) (hla : LaidE w) (h0 : w.cell? a = some (.int .i64 op)) (g off : Nat) (ha : a = ⟨g, off, none⟩) (c1 : w.cell? ⟨g, off + 1, none⟩ = some (.string ⟨nm.toArray⟩)) (c2 : w.cell? ⟨g, off + 2, none⟩ = some (.string ⟨md.toArray⟩)) (h1 : nm.length ≤ 60000) :
    Calls Tryz.prog 109 #[.pointer (some a)] w (TruePost (plainB nm && decide (md = [])) w) := by
  subst ha
  have HN := Lib.hid (fun W h => Plain_c ⟨nm.toArray⟩ W (by show nm.length ≤ 60000; exact h1) h)
  have HLA := Lib.hid hla
  have e1 := emp_dec md
  obtain ⟨b1, hb1⟩ : ∃ b, plainB nm = b := ⟨_, rfl⟩
  obtain ⟨b2, hb2⟩ : ∃ b, decide (md = []) = b := ⟨_, rfl⟩
  have HB1 := Lib.hid hb1
  rw [hb2] at e1
  rw [hb1, hb2]
  clear hla h1 hb1 hb2
  have HC2 := Lib.hid c2
  rcases hop with rfl | rfl
  all_goals
    go_enter Tryz.func109, Tryz.ntmps109
    go_wp2_with (go_at_call 135; refine (HN.out _ HLA.out).mono ?_; rintro e w1 ⟨rfl, hg⟩; have HG := Lib.hid hg; have c2 := hg.cell HC2.out (by simp); rw [HB1.out]; clear hg; cases b1)
    all_goals
      go_wp2_with fail
      go_ret
      exact ⟨by simp, HG.out⟩
set_option maxRecDepth 100000 in
set_option maxHeartbeats 16000000 in
theorem names_call (a : Addr) (nm md : List UInt8) (w : World) (hla : LaidE w) (h0 : w.cell? a = some (.int .i64 24)) (g off : Nat) (ha : a = ⟨g, off, none⟩) (c1 : w.cell? ⟨g, off + 1, none⟩ = some (.string ⟨nm.toArray⟩)) (c2 : w.cell? ⟨g, off + 2, none⟩ = some (.string ⟨md.toArray⟩)) (h1 : nm.length ≤ 60000) (h2 : md.length ≤ 60000) :
    Calls Tryz.prog 109 #[.pointer (some a)] w (TruePost (plainB nm && (decide (md = []) || plainB md)) w) := by
  subst ha
  have HN := Lib.hid (fun W h => Plain_c ⟨nm.toArray⟩ W (by show nm.length ≤ 60000; exact h1) h)
  have HM := Lib.hid (fun W h => Plain_c ⟨md.toArray⟩ W (by show md.length ≤ 60000; exact h2) h)
  have HLA := Lib.hid hla
  have e1 := emp_dec md
  obtain ⟨b1, hb1⟩ : ∃ b, plainB nm = b := ⟨_, rfl⟩
  obtain ⟨b2, hb2⟩ : ∃ b, decide (md = []) = b := ⟨_, rfl⟩
  obtain ⟨b3, hb3⟩ : ∃ b, plainB md = b := ⟨_, rfl⟩
  have HB1 := Lib.hid hb1
  have HB3 := Lib.hid hb3
  rw [hb2] at e1
  rw [hb1, hb2, hb3]
  clear hla h1 h2 hb1 hb2 hb3
  have HC2 := Lib.hid c2
  cases b2
  · go_enter Tryz.func109, Tryz.ntmps109
    go_wp2_with fail
    refine (HN.out _ HLA.out).mono ?_
    rintro e w1 ⟨rfl, hg⟩
    have HG := Lib.hid hg
    have c2 := hg.cell HC2.out (by simp)
    rw [HB1.out]
    clear hg
    cases b1
    · go_wp2_with fail
      go_ret
      exact ⟨by simp, HG.out⟩
    · go_wp2_with fail
      refine (HM.out _ (HLA.out.kept HG.out)).mono ?_
      rintro e w2 ⟨rfl, hg2⟩
      have HG2 := Lib.hid hg2
      rw [HB3.out]
      clear hg2
      go_wp2_with fail
      go_ret
      exact ⟨by simp, gb_trans HG.out HG2.out⟩
  · go_enter Tryz.func109, Tryz.ntmps109
    go_wp2_with fail
    refine (HN.out _ HLA.out).mono ?_
    rintro e w1 ⟨rfl, hg⟩
    have HG := Lib.hid hg
    have c2 := hg.cell HC2.out (by simp)
    rw [HB1.out]
    clear hg
    cases b1
    all_goals
      go_wp2_with fail
      go_ret
      exact ⟨by simp, HG.out⟩
set_option maxRecDepth 100000 in
set_option maxHeartbeats 16000000 in
theorem names_none (op : Int) (hop : op ≠ 3 ∧ op ≠ 22 ∧ op ≠ 24) (a : Addr) (nm md : List UInt8) (w : World) (h0 : w.cell? a = some (.int .i64 op)) (g off : Nat) (ha : a = ⟨g, off, none⟩) (c1 : w.cell? ⟨g, off + 1, none⟩ = some (.string ⟨nm.toArray⟩)) (c2 : w.cell? ⟨g, off + 2, none⟩ = some (.string ⟨md.toArray⟩)) :
    Calls Tryz.prog 109 #[.pointer (some a)] w (TruePost (decide (nm = []) && decide (md = [])) w) := by
  subst ha
  have e1 := emp_dec md
  have e2 := emp_dec nm
  obtain ⟨b1, hb1⟩ : ∃ b, decide (nm = []) = b := ⟨_, rfl⟩
  obtain ⟨b2, hb2⟩ : ∃ b, decide (md = []) = b := ⟨_, rfl⟩
  rw [hb2] at e1
  rw [hb1] at e2
  rw [hb1, hb2]
  have d3 : (op == 3) = false := beq_eq_false_iff_ne.2 hop.1
  have d22 : (op == 22) = false := beq_eq_false_iff_ne.2 hop.2.1
  have d24 : (op == 24) = false := beq_eq_false_iff_ne.2 hop.2.2
  clear hb1 hb2 hop
  cases b1
  all_goals
    go_enter Tryz.func109, Tryz.ntmps109
    go_wp2_with fail
    go_ret
    exact ⟨by simp, gb_refl _ _⟩
/-- Its names alone: as the document says. -/
theorem rightNames_c (F : Nat → Prop) (a : Addr) (op : Int) (nm md : List UInt8) (nu : Int) (ys : Bool) (ks : List Sx) (ps : Int) (q : List Value) (w : World) (hla : LaidE w) (hc : CAt w a q) (hx : SAt F w (.mk op nm md nu ys ks ps) q) (h1 : nm.length ≤ 60000) (h2 : md.length ≤ 60000) :
    Calls Tryz.prog 109 #[.pointer (some a)] w (TruePost (namesB op nm md) w) := by
  simp only [SAt] at hx
  obtain ⟨s, pw, nw, cw, pk, ck, rows, rfl, -⟩ := hx
  obtain ⟨g, off, rfl, hg, hc⟩ := hc
  have c0 := hc 0 _ rfl
  have c1 := hc 1 _ rfl
  have c2 := hc 2 _ rfl
  rw [Nat.add_zero] at c0
  unfold strV at *
  unfold namesB
  by_cases hA : op = 3 ∨ op = 22
  · rw [if_pos hA]; exact names_plain op hA _ nm md w hla c0 g off rfl c1 c2 h1
  · rw [if_neg hA]
    by_cases hB : op = 24
    · rw [if_pos hB]; subst hB; exact names_call _ nm md w hla c0 g off rfl c1 c2 h1 h2
    · rw [if_neg hB]; exact names_none op ⟨fun e => hA (.inl e), fun e => hA (.inr e), hB⟩ _ nm md w c0 g off rfl c1 c2

/-- A place of the path: an address, the expression there, how many of its kids are begun. -/
abbrev Pq := Addr × Sx × Nat
def todo1 (f : Bool) (p : Pq) : Bool := if p.2.2 = 0 then rightB f p.2.1 else rightBs f (p.2.1.ks.drop p.2.2)
def todoP (f : Bool) (P : List Pq) : Bool := P.all (todo1 f)
mutual
def cstS : Sx → Nat
  | .mk _ _ _ _ _ ks _ => 1 + cstSs ks
def cstSs : List Sx → Nat
  | [] => 0
  | x :: l => 1 + cstS x + cstSs l
end
def cst1 (p : Pq) : Nat := 1 + cstSs (p.2.1.ks.drop p.2.2)
def cstP (P : List Pq) : Nat := (P.map cst1).sum
mutual
theorem cst_siz : ∀ x : Sx, cstS x + 1 = 2 * sizS x
  | .mk op nm md nu ys ks ps => by simp only [cstS, sizS]; have := cst_sizs ks; omega
theorem cst_sizs : ∀ l : List Sx, cstSs l = 2 * sizSs l
  | [] => rfl
  | x :: l => by simp only [cstSs, sizSs]; have := cst_siz x; have := cst_sizs l; omega
end
theorem cstP_append (a b : List Pq) : cstP (a ++ b) = cstP a + cstP b := by simp [cstP, List.map_append, List.sum_append]
theorem todoP_append (f : Bool) (a b : List Pq) : todoP f (a ++ b) = (todoP f a && todoP f b) := by simp [todoP, List.all_append]
theorem cst1_start (a : Addr) (x : Sx) : cst1 (a, x, 0) = cstS x := by cases x; simp [cst1, Sx.ks, cstS]
theorem drop_cons {ks : List Sx} {d : Nat} {k : Sx} (h : ks[d]? = some k) : ks.drop d = k :: ks.drop (d + 1) := by
  obtain ⟨hd, hk⟩ := List.getElem?_eq_some_iff.1 h
  rw [List.drop_eq_getElem_cons hd, hk]
/-- A kid more is begun. -/
theorem todo_push {f : Bool} {P : List Pq} {a b : Addr} {x k : Sx} {d : Nat} (h0 : d = 0 → rightB f x = rightBs f x.ks) (hk : x.ks[d]? = some k) : todoP f (P ++ [(a, x, d)]) = todoP f (P ++ [(a, x, d + 1)] ++ [(b, k, 0)]) := by
  have e : todo1 f (a, x, d) = (rightB f k && rightBs f (x.ks.drop (d + 1))) := by
    have hdc := drop_cons hk
    unfold todo1
    simp only
    split
    · rename_i h
      rw [h0 h]
      have h : d = 0 := h
      subst h
      rw [List.drop_zero] at hdc
      rw [hdc]; simp only [rightBs, List.drop_succ_cons, List.drop_zero]
    · rw [hdc]; simp only [rightBs]
  have e2 : todo1 f (a, x, d + 1) = rightBs f (x.ks.drop (d + 1)) := rfl
  have e3 : todo1 f (b, k, 0) = rightB f k := rfl
  rw [todoP_append, todoP_append, todoP_append]
  simp only [todoP, List.all_cons, List.all_nil, Bool.and_true, e, e2, e3]
  cases List.all P (todo1 f) <;> cases rightB f k <;> simp
theorem cst_push {P : List Pq} {a b : Addr} {x k : Sx} {d : Nat} (hk : x.ks[d]? = some k) : cstP (P ++ [(a, x, d)]) = cstP (P ++ [(a, x, d + 1)] ++ [(b, k, 0)]) + 1 := by
  have hdc := drop_cons hk
  rw [cstP_append, cstP_append, cstP_append]
  simp only [cstP, List.map_cons, List.map_nil, List.sum_cons, List.sum_nil]
  rw [cst1_start]
  simp only [cst1, hdc, cstSs]; omega
/-- All of it is seen. -/
theorem todo_pop {f : Bool} {P : List Pq} {a : Addr} {x : Sx} {d : Nat} (h0 : d = 0 → rightB f x = rightBs f x.ks) (hd : d = x.ks.length) : todoP f (P ++ [(a, x, d)]) = todoP f P := by
  have e : todo1 f (a, x, d) = true := by
    unfold todo1
    simp only
    split
    · rename_i h
      have h : d = 0 := h
      rw [h0 h, List.eq_nil_of_length_eq_zero (hd.symm.trans h)]; rfl
    · rw [hd, List.drop_length]; rfl
  rw [todoP_append]
  simp only [todoP, List.all_cons, List.all_nil, e, Bool.and_true]
theorem cst_pop {P : List Pq} {a : Addr} {x : Sx} {d : Nat} : cstP P < cstP (P ++ [(a, x, d)]) := by
  rw [cstP_append]
  simp only [cstP, List.map_cons, List.map_nil, List.sum_cons, List.sum_nil, cst1]; omega
theorem todo_bad {f : Bool} {P : List Pq} {a : Addr} {x : Sx} (h : rightB f x = false) : todoP f (P ++ [(a, x, 0)]) = false := by
  rw [todoP_append]
  simp [todoP, todo1, h]
theorem right_alone {f : Bool} {op : Int} {nm md : List UInt8} {nu : Int} {ys : Bool} {ks : List Sx} {ps : Int} (h : (mayB f op && aloneB op nm md nu ys ks.length) = true) : rightB f (.mk op nm md nu ys ks ps) = rightBs f ks := by
  simp only [rightB, h, Bool.true_and]
theorem right_not {f : Bool} {op : Int} {nm md : List UInt8} {nu : Int} {ys : Bool} {ks : List Sx} {ps : Int} (h : (mayB f op && aloneB op nm md nu ys ks.length) = false) : rightB f (.mk op nm md nu ys ks ps) = false := by
  simp only [rightB, h, Bool.false_and]

/-- The path in memory: each place's eight cells, all below block B; each is greater than those behind it. -/
structure PathI (F : Nat → Prop) (w : World) (n : Nat) (P : List Pq) : Prop where
  at_ : ∀ p ∈ P, ∃ q, CAt w p.1 q ∧ SAt F w p.2.1 q ∧ p.2.2 ≤ p.2.1.ks.length
  siz : ∀ (i : Nat) (p : Pq), P[i]? = some p → i + sizS p.2.1 ≤ n
  dec : ∀ (i j : Nat) (p r : Pq), i < j → P[i]? = some p → P[j]? = some r → sizS r.2.1 < sizS p.2.1
theorem PathI.start {F : Nat → Prop} {w : World} {a : Addr} {x : Sx} {q : List Value} (h1 : CAt w a q) (h2 : SAt F w x q) : PathI F w (sizS x) [(a, x, 0)] :=
  ⟨fun p hp => by simp at hp; subst hp; exact ⟨q, h1, h2, Nat.zero_le _⟩, fun i p hp => by
    rcases i with _ | i
    · simp at hp; subst hp; simp
    · simp at hp, fun i j p r hij hp hr => by
    rcases j with _ | j
    · omega
    · simp at hr⟩
theorem PathI.pop {F : Nat → Prop} {w : World} {n : Nat} {P : List Pq} {p : Pq} (h : PathI F w n (P ++ [p])) : PathI F w n P :=
  ⟨fun r hr => h.at_ r (List.mem_append_left _ hr), fun i r hi => h.siz i r (by rw [List.getElem?_append_left (List.getElem?_eq_some_iff.1 hi).1]; exact hi),
   fun i j r s hij hi hj => h.dec i j r s hij (by rw [List.getElem?_append_left (List.getElem?_eq_some_iff.1 hi).1]; exact hi) (by rw [List.getElem?_append_left (List.getElem?_eq_some_iff.1 hj).1]; exact hj)⟩
theorem PathI.last {F : Nat → Prop} {w : World} {n : Nat} {P : List Pq} {p : Pq} (h : PathI F w n (P ++ [p])) : P.length + sizS p.2.1 ≤ n := h.siz P.length p (by simp)
theorem snoc_get {P : List Pq} {p r : Pq} {i : Nat} (h : (P ++ [p])[i]? = some r) : (i < P.length ∧ P[i]? = some r) ∨ (i = P.length ∧ r = p) := by
  obtain ⟨hi, -⟩ := List.getElem?_eq_some_iff.1 h
  rw [List.length_append, List.length_singleton] at hi
  by_cases hl : i < P.length
  · rw [List.getElem?_append_left hl] at h; exact .inl ⟨hl, h⟩
  · have e : i = P.length := by omega
    subst e
    simp at h; exact .inr ⟨rfl, h.symm⟩
theorem PathI.step {F : Nat → Prop} {w : World} {n : Nat} {P : List Pq} {a b : Addr} {x k : Sx} {d : Nat} {q : List Value} (h : PathI F w n (P ++ [(a, x, d)])) (hk : x.ks[d]? = some k) (h1 : CAt w b q) (h2 : SAt F w k q) : PathI F w n (P ++ [(a, x, d + 1)] ++ [(b, k, 0)]) := by
  have hs := sizS_kid hk
  have hd : d < x.ks.length := (List.getElem?_eq_some_iff.1 hk).1
  have hl := h.last
  simp only at hl
  have g : ∀ (i : Nat) (p : Pq), (P ++ [(a, x, d + 1)])[i]? = some p → ∃ p', (P ++ [(a, x, d)])[i]? = some p' ∧ p'.2.1 = p.2.1 := fun i p hp => by
    rcases snoc_get hp with ⟨h1, h2⟩ | ⟨rfl, rfl⟩
    · exact ⟨p, by rw [List.getElem?_append_left h1]; exact h2, rfl⟩
    · exact ⟨(a, x, d), by simp, rfl⟩
  refine ⟨fun p hp => ?_, fun i p hp => ?_, fun i j p r hij hp hr => ?_⟩
  · simp only [List.append_assoc, List.cons_append, List.nil_append, List.mem_append, List.mem_cons, List.not_mem_nil, or_false] at hp
    rcases hp with hp | rfl | rfl
    · exact h.at_ p (List.mem_append_left _ hp)
    · obtain ⟨q', e1, e2, -⟩ := h.at_ (a, x, d) (by simp)
      exact ⟨q', e1, e2, by simp only; omega⟩
    · exact ⟨q, h1, h2, Nat.zero_le _⟩
  · rcases snoc_get hp with ⟨h3, h4⟩ | ⟨rfl, rfl⟩
    · obtain ⟨p', e1, e2⟩ := g i p h4
      rw [← e2]; exact h.siz i p' e1
    · simp only [List.length_append, List.length_singleton]; omega
  · rcases snoc_get hr with ⟨h3, h4⟩ | ⟨rfl, rfl⟩
    · have hp' := hp
      rw [List.getElem?_append_left (by omega)] at hp'
      obtain ⟨p1, e1, e2⟩ := g i p hp'
      obtain ⟨r1, e3, e4⟩ := g j r h4
      rw [← e2, ← e4]; exact h.dec i j p1 r1 hij e1 e3
    · simp only [List.length_append, List.length_singleton] at hij
      rw [List.getElem?_append_left (by simpa using hij)] at hp
      obtain ⟨p1, e1, e2⟩ := g i p hp
      rw [← e2]
      rcases snoc_get e1 with ⟨h3, h4⟩ | ⟨rfl, rfl⟩
      · have := h.dec i P.length p1 (a, x, d) h3 e1 (by simp)
        simp only at this ⊢; omega
      · simp only; omega
/-- A kid stands at no place of the path. -/
theorem PathI.ne {F : Nat → Prop} {w : World} {n : Nat} {P : List Pq} {a b : Addr} {x k : Sx} {d i : Nat} {q : List Value} {p : Pq} (h : PathI F w n (P ++ [(a, x, d)])) (hk : x.ks[d]? = some k) (h1 : CAt w b q) (h2 : SAt F w k q) (hp : (P ++ [(a, x, d)])[i]? = some p) : b ≠ p.1 := by
  intro e
  obtain ⟨r, c1, c2, -⟩ := h.at_ p (List.mem_of_getElem? hp)
  rw [← e] at c1
  have h3 := cat_size h1 h2 c1 c2
  have h4 := sizS_kid hk
  rcases snoc_get hp with ⟨h5, h6⟩ | ⟨rfl, rfl⟩
  · have := h.dec i P.length p (a, x, d) h5 hp (by simp)
    simp only at this; omega
  · simp only at h3; omega

set_option maxRecDepth 100000 in
theorem rdigit_c (b : UInt8) (w : World) : Calls Tryz.prog 114 #[.int .u8 (b.toNat : Int)] w (BoolIs (isDig b) w) := by
  rw [isDig_nat]
  have hb := b.toNat_lt
  generalize b.toNat = n at *
  go_enter Tryz.func114, Tryz.ntmps114
  go_wp2
  all_goals
    go_ret
    refine ⟨ret_bool ?_, rfl⟩
    rw [Bool.eq_iff_iff]; simp; try omega

set_option maxRecDepth 100000 in
theorem rletter_c (b : UInt8) (w : World) : Calls Tryz.prog 113 #[.int .u8 (b.toNat : Int)] w (BoolIs (isLet b) w) := by
  rw [isLet_nat]
  have hb := b.toNat_lt
  generalize b.toNat = n at *
  go_enter Tryz.func113, Tryz.ntmps113
  go_wp2
  all_goals
    go_ret
    refine ⟨ret_bool ?_, rfl⟩
    rw [Bool.eq_iff_iff]; simp; try omega

set_option maxRecDepth 100000 in
theorem rblank_c (b : UInt8) (w : World) : Calls Tryz.prog 112 #[.int .u8 (b.toNat : Int)] w (BoolIs (isBl b) w) := by
  rw [isBl_nat]
  have hb := b.toNat_lt
  generalize b.toNat = n at *
  go_enter Tryz.func112, Tryz.ntmps112
  go_wp2
  all_goals
    go_ret
    refine ⟨ret_bool ?_, rfl⟩
    rw [Bool.eq_iff_iff]; simp; try omega

theorem drop_at {s : ByteArray} {k : Nat} (h : k < s.size) : s.data.toList.drop k = s[k] :: s.data.toList.drop (k + 1) := by
  have h1 := byte_at (s := s) h
  obtain ⟨h2, h3⟩ := List.getElem?_eq_some_iff.1 h1
  have := List.drop_eq_getElem_cons h2
  rw [h3] at this
  exact this

theorem drop_end {s : ByteArray} {k : Nat} (h : s.size ≤ k) : s.data.toList.drop k = [] := List.drop_of_length_le (by rw [list_len]; exact h)

set_option maxRecDepth 100000 in
set_option maxHeartbeats 8000000 in
theorem rlead_c (s : ByteArray) (p0 : Nat) (w : World) (hs : s.size ≤ 1000000) (hp0 : p0 ≤ s.size) : Calls Tryz.prog 79 #[.string s, .int .i64 (p0 : Int)] w (IntIs ((p0 + sk false (s.data.toList.drop p0) : Nat) : Int) w) := by
  obtain ⟨V, hV⟩ : ∃ V, p0 + sk false (s.data.toList.drop p0) = V := ⟨_, rfl⟩
  rw [hV]
  have HV := Lib.hid hV
  have HBL := Lib.hid (fun b W => rblank_c b W)
  clear hV
  go_enter Tryz.func79, Tryz.ntmps79
  go_wp2_with fail
  go_loopw [1] (fun i wr => ∃ p : Nat, p ≤ s.size ∧ i = .int .i64 p ∧ Hid (p + sk false (s.data.toList.drop p) = V) ∧ wr = w) (fun i _ => s.size - (intOf i).toNat)
  case atStart => exact ⟨p0, hp0, rfl, HV, rfl⟩
  case round =>
    clear HV hp0
    obtain ⟨p, hp, rfl, HV, rfl⟩ := hrel
    by_cases hlt : p < s.size
    · have d1 : decide ((p : Int) < (s.size : Int)) = true := decide_eq_true (by omega)
      have d1' : decide (p < s.size) = true := decide_eq_true hlt
      have HB := Lib.hid (HBL.out s[p] wr)
      have hd := drop_at hlt
      have hw1 : IntKind.i64.wrap ((p : Int) + 1) = (p : Int) + 1 := IntWalk.i64_in _ (by omega)
      cases hx : isBl s[p]
      · rw [hx] at HB
        by_cases h45 : s[p] = 45
        · have d2 : ((s[p].toNat : Int) == 45) = true := byte_eq 45 rfl h45
          by_cases hlt2 : p + 1 < s.size
          · have d3 : decide ((p : Int) + 1 < (s.size : Int)) = true := decide_eq_true (by omega)
            have d3' : decide (p + 1 < s.size) = true := decide_eq_true hlt2
            have hd2 := drop_at hlt2
            by_cases h452 : s[p + 1] = 45
            · have d4 : ((s[p + 1].toNat : Int) == 45) = true := byte_eq 45 rfl h452
              have HV2 : Hid (p + sk true (s.data.toList.drop p) = V) := Lib.hid (by
                rw [← HV.out, hd, hd2]
                simp [sk, h45, h452, isBl])
              have H45 := Lib.hid h45
              clear hx hd hd2 h45 h452
              go_wp2_with fail
              refine HB.out.mono ?_
              rintro e w1 ⟨rfl, rfl⟩
              go_wp2_with fail
              clear d1 d1' d2 d3 d3' d4 HB
              go_loopw [1] (fun i wr2 => ∃ q : Nat, p ≤ q ∧ q ≤ s.size ∧ i = .int .i64 q ∧ Hid (q + sk true (s.data.toList.drop q) = V) ∧ wr2 = wr) (fun i _ => s.size - (intOf i).toNat)
              case atStart => exact ⟨p, Nat.le_refl _, hp, rfl, HV2, rfl⟩
              case round =>
                clear HV2
                obtain ⟨q, hpq, hq, rfl, HV2, rfl⟩ := hrel
                by_cases hlt3 : q < s.size
                · have d1 : decide ((q : Int) < (s.size : Int)) = true := decide_eq_true (by omega)
                  have d1' : decide (q < s.size) = true := decide_eq_true hlt3
                  have hd := drop_at hlt3
                  by_cases h10 : s[q] = 10
                  · have d2 : ((s[q].toNat : Int) == 10) = true := byte_eq 10 rfl h10
                    have d2' : ((s[q].toNat : Int) != 10) = false := by rw [bne, d2]; rfl
                    have HV3 : Hid (q + sk false (s.data.toList.drop q) = V) := Lib.hid (by
                      rw [← HV2.out, hd]
                      simp [sk, h10, isBl])
                    have hne : q ≠ p := by
                      rintro rfl
                      rw [H45.out] at h10; cases h10
                    clear hd h10
                    go_wp2_with fail
                    go_roundw
                    case rel => exact ⟨q, hq, rfl, HV3, by first | rfl | trivial⟩
                    case measure => (simp [intOf] <;> omega)
                  · have d2 : ((s[q].toNat : Int) == 10) = false := byte_ne 10 rfl h10
                    have d2' : ((s[q].toNat : Int) != 10) = true := by rw [bne, d2]; rfl
                    have hw2 : IntKind.i64.wrap ((q : Int) + 1) = (q : Int) + 1 := IntWalk.i64_in _ (by omega)
                    have HV3 : Hid (q + 1 + sk true (s.data.toList.drop (q + 1)) = V) := Lib.hid (by
                      rw [← HV2.out, hd]
                      simp [sk, h10]; omega)
                    clear hd h10
                    go_wp2_with fail
                    go_roundw
                    case rel => exact ⟨q + 1, by omega, by omega, by go_num, HV3, by first | rfl | trivial⟩
                    case measure => (simp [intOf] <;> omega)
                · obtain rfl : q = s.size := by omega
                  have d1 : decide ((s.size : Int) < (s.size : Int)) = false := decide_eq_false (by omega)
                  have HV3 : Hid (s.size + sk false (s.data.toList.drop s.size) = V) := Lib.hid (by
                    rw [← HV2.out, drop_end (Nat.le_refl _)]; rfl)
                  go_wp2_with fail
                  go_roundw
                  case rel => exact ⟨s.size, Nat.le_refl _, rfl, HV3, by first | rfl | trivial⟩
                  case measure => (simp [intOf] <;> omega)
            · have d4 : ((s[p + 1].toNat : Int) == 45) = false := byte_ne 45 rfl h452
              have HR : Hid (p = V) := Lib.hid (by
                rw [← HV.out, hd, hd2]
                simp [sk, h45, h452, isBl])
              clear hx hd hd2 h45 h452
              go_wp2_with fail
              refine HB.out.mono ?_
              rintro e w1 ⟨rfl, rfl⟩
              go_wp2_with fail
              go_ret
              exact ⟨by rw [← HR.out]; rfl, rfl⟩
          · have d3 : decide ((p : Int) + 1 < (s.size : Int)) = false := decide_eq_false (by omega)
            have d3' : decide (p + 1 < s.size) = false := decide_eq_false hlt2
            have HR : Hid (p = V) := Lib.hid (by
              rw [← HV.out, hd, drop_end (by omega)]
              simp [sk, h45, isBl])
            clear hx hd h45
            go_wp2_with fail
            refine HB.out.mono ?_
            rintro e w1 ⟨rfl, rfl⟩
            go_wp2_with fail
            go_ret
            exact ⟨by rw [← HR.out]; rfl, rfl⟩
        · have d2 : ((s[p].toNat : Int) == 45) = false := byte_ne 45 rfl h45
          have HR : Hid (p = V) := Lib.hid (by
            rw [← HV.out, hd]
            simp [sk, h45, hx])
          clear hx hd h45
          by_cases hlt2 : p + 1 < s.size
          · have d3 : decide ((p : Int) + 1 < (s.size : Int)) = true := decide_eq_true (by omega)
            have d3' : decide (p + 1 < s.size) = true := decide_eq_true hlt2
            go_wp2_with fail
            refine HB.out.mono ?_
            rintro e w1 ⟨rfl, rfl⟩
            go_wp2_with fail
            go_ret
            exact ⟨by rw [← HR.out]; rfl, rfl⟩
          · have d3 : decide ((p : Int) + 1 < (s.size : Int)) = false := decide_eq_false (by omega)
            have d3' : decide (p + 1 < s.size) = false := decide_eq_false hlt2
            go_wp2_with fail
            refine HB.out.mono ?_
            rintro e w1 ⟨rfl, rfl⟩
            go_wp2_with fail
            go_ret
            exact ⟨by rw [← HR.out]; rfl, rfl⟩
      · rw [hx] at HB
        have HV3 : Hid (p + 1 + sk false (s.data.toList.drop (p + 1)) = V) := Lib.hid (by
          rw [← HV.out, hd]
          simp [sk, hx]; omega)
        clear hx hd
        go_wp2_with fail
        refine HB.out.mono ?_
        rintro e w1 ⟨rfl, rfl⟩
        go_wp2_with fail
        go_roundw
        case rel => exact ⟨p + 1, by omega, by go_num, HV3, by first | rfl | trivial⟩
        case measure => (simp [intOf] <;> omega)
    · obtain rfl : p = s.size := by omega
      have d1 : decide ((s.size : Int) < (s.size : Int)) = false := decide_eq_false (by omega)
      have HR : Hid (s.size = V) := Lib.hid (by
        rw [← HV.out, drop_end (Nat.le_refl _)]; rfl)
      go_wp2_with fail
      go_ret
      exact ⟨by rw [← HR.out]; rfl, rfl⟩

def GbBool (v : Bool) (w : World) (e : Ending) (w' : World) : Prop := e = .returned (.bool v) ∧ w.grownBy w' none

def rkeysL : List (List UInt8) := [[105, 109, 112, 111, 114, 116], [112, 117, 98], [102, 117, 110], [108, 101, 116], [105, 110], [105, 102], [116, 104, 101, 110], [101, 108, 115, 101], [97, 115, 115, 101, 114, 116], [116, 114, 117, 101], [102, 97, 108, 115, 101], [110, 111, 116], [105, 110, 116], [98, 111, 111, 108], [114, 101, 115]]

theorem rkeys_same (w : List UInt8) : rkeysL.contains w = keysL.contains w := by
  have h1 : ∀ g ∈ rkeysL, g ∈ keysL := by decide
  have h2 : ∀ g ∈ keysL, g ∈ rkeysL := by decide
  rw [Bool.eq_iff_iff, List.contains_iff_mem, List.contains_iff_mem]
  exact ⟨h1 w, h2 w⟩

theorem cell_arr {w : World} {T : TypeId} {L : List (List UInt8)} {k : Nat} {x : List UInt8} (hx : L[k]? = some x) : (w.alloc (.cells (L.map strV).toArray T)).cell? ⟨w.heap.size, k, none⟩ = some (.string ⟨x.toArray⟩) := by
  rw [cell_of_row _ w.heap.size k _ T (0, 0) (heap_alloc_new w _)]
  simp [hx, strV]

theorem ones_arr (L : List (List UInt8)) : (L.map strV).toArray.all (·.oneCell') = true := by
  simp [strV, Value.oneCell']

set_option maxRecDepth 100000 in
set_option maxHeartbeats 4000000 in
theorem rkey_c (s : ByteArray) (w : World) : Calls Tryz.prog 115 #[.string s] w (GbBool (keysL.contains s.data.toList) w) := by
  rw [← rkeys_same]
  have HST : Hid (rkeysL.contains s.data.toList = (rkeysL.drop 0).contains s.data.toList) := Lib.hid rfl
  have HSL := Lib.hid (toList_data s)
  go_enter Tryz.func115, Tryz.ntmps115
  go_wp2_with (refine wpList_store_row rfl 186 _ _ rfl w.heap.size (rkeysL.map strV).toArray rfl rfl 186 _ (heap_alloc_new w _) (by kernel_rfl) rfl (ones_arr _) ?_)
  rw [World.setRow_alloc_new]
  have HW := Lib.hid (World.grownBy_alloc w (.cells (rkeysL.map strV).toArray 186) none)
  have HCE : Hid (∀ k x, rkeysL[k]? = some x → (w.alloc (.cells (rkeysL.map strV).toArray 186)).cell? ⟨w.heap.size, k, none⟩ = some (.string ⟨x.toArray⟩)) := Lib.hid (fun k x hx => cell_arr hx)
  generalize w.alloc (.cells (rkeysL.map strV).toArray 186) = W at *
  go_wp2
  go_loopw [4] (fun i wr => ∃ k : Nat, k ≤ 15 ∧ i = .int .i64 k ∧ Hid (rkeysL.contains s.data.toList = (rkeysL.drop k).contains s.data.toList) ∧ wr = W) (fun i _ => 15 - (intOf i).toNat)
  case atStart => exact ⟨0, Nat.zero_le _, rfl, HST, rfl⟩
  case round =>
    clear HST
    obtain ⟨k, hk, rfl, HC, rfl⟩ := hrel
    by_cases hlt : k < 15
    · have d1 : decide ((k : Int) < 15) = true := decide_eq_true (by omega)
      have d1' : decide (k < 15) = true := decide_eq_true hlt
      obtain ⟨x, hx⟩ : ∃ x, rkeysL[k]? = some x := ⟨rkeysL[k]'hlt, List.getElem?_eq_getElem _⟩
      have hc := HCE.out k x hx
      obtain ⟨y, hy⟩ : ∃ y : ByteArray, (⟨x.toArray⟩ : ByteArray) = y := ⟨_, rfl⟩
      have hyl : y.toList = x := by rw [toList_data, ← hy]
      rw [hy] at hc
      by_cases he : x = s.data.toList
      · have d2 : (y.toList == s.toList) = true := by rw [hyl, HSL.out, he]; simp
        have HR : Hid (rkeysL.contains s.data.toList = true) := Lib.hid (by rw [← he]; simpa using List.mem_of_getElem? hx)
        clear hx he hyl hy
        go_wp2
        go_ret
        exact ⟨by rw [HR.out]; rfl, HW.out⟩
      · have d2 : (y.toList == s.toList) = false := by rw [hyl, HSL.out]; simpa using he
        have HR := Lib.hid (contains_step HC.out hx he)
        clear hx he hyl hy
        go_wp2
        go_roundw
        case rel => exact ⟨k + 1, by omega, by go_num, HR, by first | rfl | trivial⟩
        case measure => (simp [intOf] <;> omega)
    · obtain rfl : k = 15 := by omega
      have HR : Hid (rkeysL.contains s.data.toList = false) := Lib.hid HC.out
      go_wp2
      go_ret
      exact ⟨by rw [HR.out]; rfl, HW.out⟩
end Go.Proofs.YtijpelkjeejjfaaGreatDoor
