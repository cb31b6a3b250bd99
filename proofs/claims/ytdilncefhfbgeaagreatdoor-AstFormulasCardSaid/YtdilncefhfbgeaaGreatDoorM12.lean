/- slices.Reverse on bytes; timesPlus. -/
import Derived.BigRegion
import Derived.Test.YtdilncefhfbgeaaGreatDoorM11
import Derived.Deep.CutBlock
import Derived.Deep.DeepCutAuto
set_option linter.unusedVariables false
set_option linter.unusedSimpArgs false
namespace Go.Proofs.YtdilncefhfbgeaaGreatDoor.Zd
open Go.RowKit Mx

def RevPost (g cap n : Nat) (f : Nat → Nat) (base : Nat) (w : World) (e : Ending) (w' : World) : Prop :=
  e = .returned (.tuple #[]) ∧ Own .u8 5 w' base (.slice (some ⟨g, 0, none⟩) n cap) n (fun j => f (n - 1 - j)) ∧ w.grownBy w' (some g)

def rv (f : Nat → Nat) (n k : Nat) : Nat → Nat := fun j => if j < k ∨ n ≤ j + k then f (n - 1 - j) else f j

theorem rv_step {f : Nat → Nat} {n k : Nat} (h : 2 * k + 1 < n) : ∀ j, j < n → upd (upd (rv f n k) k (f (n - 1 - k))) (n - 1 - k) (f k) j = rv f n (k + 1) j := by
  intro j hj
  unfold upd rv
  split
  · subst_vars
    rw [if_pos (by omega)]
    congr 1; omega
  · split
    · subst_vars; rw [if_pos (by omega)]
    · by_cases h1 : j < k ∨ n ≤ j + k
      · rw [if_pos h1, if_pos (by omega)]
      · rw [if_neg h1, if_neg (by omega)]

set_option maxHeartbeats 2000000 in
theorem reverse_c (g cap n : Nat) (f : Nat → Nat) (base : Nat) (w : World) (h : Own .u8 5 w base (.slice (some ⟨g, 0, none⟩) n cap) n f) (hn : n ≤ 1000000000) :
    Calls Tryz.prog 178 #[.slice (some ⟨g, 0, none⟩) n cap] w (RevPost g cap n f base w) := by
  have HO := Lib.hid h
  clear h
  go_enter Tryz.func178, Tryz.ntmps178
  go_wp2
  go_loopw [2, 3] (fun i j wr => ∃ k : Nat, 2 * k ≤ n + 1 ∧ i = .int .i64 k ∧ j = .int .i64 ((n : Int) - 1 - k) ∧ Hid (Own .u8 5 wr base (.slice (some ⟨g, 0, none⟩) n cap) n (rv f n k)) ∧ Hid (w.grownBy wr (some g))) (fun i _ _ => n - (intOf i).toNat)
  case atStart => exact ⟨0, by omega, rfl, by simp, HO.out.congr (fun j hj => by simp [rv]; omega), gb_refl _ _⟩
  case round =>
    obtain ⟨k, hk, rfl, rfl, HK, HG⟩ := hrel
    by_cases hlt : 2 * k + 1 < n
    · have c1 := HK.out.cell (j := k) (by omega)
      have c2 := HK.out.cell (j := n - 1 - k) (by omega)
      have f1 := HK.out.free (j := k)
      have f2 := HK.out.free (j := n - 1 - k)
      have e1 : rv f n k k = f k := by unfold rv; rw [if_neg (by omega)]
      have e2 : rv f n k (n - 1 - k) = f (n - 1 - k) := by unfold rv; rw [if_neg (by omega)]
      rw [e1] at c1; rw [e2] at c2
      obtain ⟨x, hx⟩ : ∃ x, f k = x := ⟨_, rfl⟩
      obtain ⟨y, hy⟩ : ∃ y, f (n - 1 - k) = y := ⟨_, rfl⟩
      rw [hx] at c1; rw [hy] at c2
      have HNEXT := Lib.hid (((HK.out.set (j := k) (x := y) (by omega)).set (j := n - 1 - k) (x := x) (by omega)).congr (f2 := rv f n (k + 1)) (by rw [← hx, ← hy]; exact rv_step hlt))
      obtain ⟨l, hl⟩ : ∃ l, n - 1 - k = l := ⟨_, rfl⟩
      have hli : (n : Int) - 1 - k = (l : Int) := by omega
      rw [hl] at c2 f2 HNEXT
      rw [hli]
      have i1 : (k : Int) < l := by omega
      have i2 : (l : Int) < n := by omega
      have hkl : k < l := by omega
      have hln : l < n := by omega
      have HL := Lib.hid hl
      have hf2' : (wr.setCell ⟨g, k, none⟩ (.int .u8 y)).frozen? ⟨g, l, none⟩ = false := (HK.out.set (j := k) (x := y) (by omega)).free
      have hc2' := (HK.out.set (j := k) (x := y) (by omega)).cell (j := l) (by omega)
      have e3 : rv f n k l = y := by rw [← hl, e2]; exact hy
      rw [upd_ne (by omega), e3] at hc2'
      clear e1 e2 e3 hx hy hl hli
      go_wp2
      go_region
      all_goals go_wp2
      go_roundw
      case rel => exact ⟨k + 1, by omega, by go_num, val_of (by have := HL.out; omega), HNEXT.out, gb_drew (gb_set (gb_set HG.out _) _)⟩
      case measure => simp [intOf]; omega
    · have hfin : RevPost g cap n f base w (.returned (.tuple #[])) wr := ⟨rfl, HK.out.congr (fun j hj => by
        unfold rv
        by_cases h : j < k ∨ n ≤ j + k
        · rw [if_pos h]
        · rw [if_neg h]; congr 1; omega), HG.out⟩
      have HFIN := Lib.hid hfin
      have i1 : ¬ ((k : Int) < (n : Int) - 1 - k) := by omega
      clear hfin
      go_wp2
      go_end0
      exact HFIN.out

theorem times_alg {A F c P m r s x c2 B : Nat} (h : A + c * P = m * F + r) (hs : s + c2 * B = x * m + c) : A + s * P + c2 * (P * B) = m * (F + x * P) + r := by
  have e : A + s * P + c2 * (P * B) = A + (s + c2 * B) * P := by grind
  rw [e, hs]
  have e2 : A + (x * m + c) * P = (A + c * P) + x * m * P := by grind
  rw [e2, h]; grind

def TPPost (base : Nat) (n m r : Nat) (f : Nat → Nat) (w : World) (e : Ending) (w' : World) : Prop :=
  ∃ v' n' f', e = .returned v' ∧ Own .u64 196 w' base v' n' f' ∧ n' ≤ n + 1 ∧ (∀ j, j < n' → f' j < Bw) ∧ V Bw f' 0 n' = m * V Bw f 0 n + r ∧ Below base w w'

theorem tp_arith {m x c hi lo s ov : Nat} (hm : m < Bw) (hx : x < Bw) (hc : c < Bw) (hml : hi * Bw + lo = x * m) (h1 : s + ov * Bw = lo + c + 0) (hs : s < Bw) : hi + ov < Bw ∧ s + (hi + ov) * Bw = x * m + c := by
  have := mul_top hx hm
  generalize x * m = P at *
  unfold Bw at *
  omega

set_option maxHeartbeats 2000000 in
theorem timesPlus_c (base : Nat) (v : Value) (n m r : Nat) (f : Nat → Nat) (w : World) (hO : Own .u64 196 w base v n f) (hf : ∀ j, j < n → f j < Bw) (hm : m < Bw) (hr : r < Bw) (hn : n ≤ 100000) (hbase : base ≤ w.heap.size) :
    Calls Tryz.prog 128 #[v, .int .u64 m, .int .u64 r] w (TPPost base n m r f w) := by
  obtain ⟨p, cap, rfl, hp⟩ : ∃ p cap, v = .slice p n cap ∧ (0 < n → ∃ g, p = some ⟨g, 0, none⟩ ∧ base ≤ g ∧ g < w.heap.size) := by
    rcases hO.shape with ⟨rfl, rfl⟩ | ⟨g, cap, rfl, hbg, hgs, hnc, hcm⟩
    · exact ⟨_, _, rfl, fun h => by omega⟩
    · exact ⟨_, _, rfl, fun _ => ⟨g, rfl, hbg, hgs⟩⟩
  have HS := Lib.hid hO; have HF := Lib.hid hf; have HM := Lib.hid hm; have HR := Lib.hid hr
  clear hO hf hm hr
  go_enter Tryz.func128, Tryz.ntmps128
  go_wp2
  go_loopw [2, 14] (fun c i wr => ∃ (k c' : Nat) (fk : Nat → Nat), k ≤ n ∧ i = .int .i64 k ∧ c = .int .u64 c' ∧ Hid (c' < Bw) ∧ Hid (Own .u64 196 wr base (.slice p n cap) n fk) ∧ Hid (∀ j, j < n → fk j < Bw) ∧ Hid (∀ j, k ≤ j → j < n → fk j = f j) ∧
      Hid (V Bw fk 0 k + c' * Bw ^ k = m * V Bw f 0 k + r) ∧ Hid (Below base w wr)) (fun _ i _ => n - (intOf i).toNat)
  case atStart => exact ⟨0, r, f, by omega, rfl, rfl, HR, HS, HF, fun _ _ _ => rfl, by simp [Hid, V], Below.refl _ _⟩
  case round =>
    clear HS HF HR
    obtain ⟨k, c', fk, hk, rfl, rfl, HC, HO, HF, HE, HV, HB⟩ := hrel
    by_cases hlt : k < n
    · obtain ⟨g, rfl, hbg, hgs⟩ := hp (by omega)
      have hc1 := HO.out.cell hlt
      have hf1 := HO.out.free (j := k)
      obtain ⟨hi, lo, hmul, hhi, hlo, hml⟩ := mul64_c (fk k) m (HF.out k hlt) HM.out
      obtain ⟨s, ov, hrun, hs, hov, hsum⟩ := add64_run lo c' 0 (by omega) hlo HC.out
      obtain ⟨hcn, har⟩ := tp_arith HM.out (HF.out k hlt) HC.out hml hsum hs
      have hr1 : ∀ w, (callFunc 189 #[.int .u64 lo, .int .u64 c', .int .u64 0]).run Tryz.prog w = .ok (.value (.tuple #[.int .u64 s, .int .u64 ov])) w := hrun
      have HMUL := Lib.hid hmul
      have H2 : Hid (V Bw (upd fk k s) 0 (k + 1) + (hi + ov) * Bw ^ (k + 1) = m * V Bw f 0 (k + 1) + r) := by
        show _ = _
        rw [V_succ, V_succ, Nat.zero_add, upd_at, V_upd_out (by omega), Nat.pow_succ, ← HE.out k (Nat.le_refl _) hlt]
        exact times_alg HV.out har
      have HCN := Lib.hid hcn
      have hcn2 : hi + ov < 18446744073709551616 := hcn
      have HSB := Lib.hid hs
      clear hrun hmul hml hsum hcn har hs hhi hlo
      go_wp2_with (go_at_call 188; refine (HMUL.out _).mono ?_; rintro e w' ⟨rfl, rfl⟩)
      go_roundw
      case rel => exact ⟨k + 1, hi + ov, upd fk k s, by omega, by go_num, by go_num, HCN, HO.out.set hlt, lt_upd HF.out HSB.out, (fun j h1 h2 => by rw [upd_ne (by omega)]; exact HE.out j (by omega) h2), H2, HB.out.setCell hbg _⟩
      case measure => simp [intOf]; omega
    · obtain rfl : k = n := by omega
      by_cases h0 : c' = 0
      · subst h0
        have hfin : TPPost base k m r f w (.returned (.slice p k cap)) wr := ⟨_, k, fk, rfl, HO.out, by omega, HF.out, by have := HV.out; rwa [Nat.zero_mul, Nat.add_zero] at this, HB.out⟩
        have HFIN := Lib.hid hfin
        clear hfin
        go_wp2
        go_ret
        exact HFIN.out
      · have hr0 : ((c' : Int) == 0) = false := beq_eq_false_iff_ne.2 (by omega)
        have hbs : base ≤ wr.heap.size := Nat.le_trans hbase HB.out.size
        have hfar := Lib.hid HO.out.far
        clear hp
        go_wp2_with (at_builtin; refine wpList_app1 (k := .u64) (t := 56) (e := 196) (bytes := 8) Tryz.underlying56 info64 (by omega) rfl _ _ rfl base (.slice p k cap) k fk _ c' rfl rfl HO.out rfl (by omega) (by omega) ?_)
        intro v' w' hO' hG'
        have HO' := Lib.hid hO'; have HG' := Lib.hid hG'
        clear hO' hG'
        go_wp2_with fail
        go_ret
        refine ⟨v', k + 1, _, rfl, HO'.out, by omega, fun j hj => ?_, ?_, HB.out.grown HG'.out hbs hfar.out⟩
        · unfold upd; split
          · exact HC.out
          · exact HF.out j (by omega)
        · rw [V_succ, Nat.zero_add, upd_at, V_upd_out (by omega)]; exact HV.out
end Go.Proofs.YtdilncefhfbgeaaGreatDoor.Zd
namespace Go.Proofs.YtdilncefhfbgeaaGreatDoor.Zd
open Go.RowKit Mx

/-- The value x reads as the whole number Z. -/
def IsInt (w : World) (x : Value) (Z : Int) : Prop := ∃ (s : Bool) (v : Value) (N : Nat), x = .agg #[.bool s, v] ∧ Num w v N ∧ (s = true → N ≠ 0) ∧ Z = if s then -(N : Int) else N

theorem IsInt.kept {w w' : World} {x : Value} {Z : Int} (h : IsInt w x Z) (hg : w.grownBy w' none) : IsInt w' x Z := by
  obtain ⟨s, v, N, rfl, hn, r⟩ := h
  exact ⟨s, v, N, rfl, hn.kept hg, r⟩

def IntPost (Z : Int) (w : World) (e : Ending) (w' : World) : Prop := ∃ x, e = .returned x ∧ IsInt w' x Z ∧ w.grownBy w' none

def sgn (s : Bool) (N : Nat) : Int := if s then -(N : Int) else N

theorem num_len {n : Nat} {f : Nat → Nat} (t : n = 0 ∨ f (n - 1) ≠ 0) : 0 < n ↔ V Bw f 0 n ≠ 0 := by
  constructor
  · intro h
    rcases V_top (b := Bw) (f := f) (o := 0) (n := n) (by simpa using t) with e | e
    · omega
    · have := Nat.pow_pos (n := n - 1) Bw_pos; omega
  · intro h
    exact num_pos h

theorem signed_fin {s : Bool} {p p' : Option Addr} {n m cap' : Nat} {f : Nat → Nat} {w : World} (q1 : m ≤ n) (q2 : m ≤ cap') (q3 : cap' ≤ maxLen) (h : At .u64 w p n f) (hf : ∀ j, j < n → f j < Bw)
    (q4 : m = 0 ∨ f (m - 1) ≠ 0) (q5 : ∀ j, m ≤ j → j < n → f j = 0) (q7 : 0 < m → p' = p) :
    IntPost (sgn s (V Bw f 0 n)) w (.returned (.agg #[.bool (s && decide (0 < m)), .slice p' m cap'])) (w.alloc (.cells #[.bool (s && decide (0 < m)), .slice p' m cap'] 58)) := by
  have hg := World.grownBy_alloc w (.cells #[.bool (s && decide (0 < m)), .slice p' m cap'] 58) none
  have hv : V Bw f 0 n = V Bw f 0 m := V_pad (fun j h1 h2 => by simpa using q5 j h1 h2) q1
  refine ⟨_, rfl, ⟨s && decide (0 < m), .slice p' m cap', V Bw f 0 n, rfl, ⟨p', m, cap', f, rfl, q2, q3, ?_, fun j hj => hf j (by omega), q4, hv.symm⟩, fun h => ?_, ?_⟩, hg⟩
  · by_cases e : m = 0
    · exact .inl e
    · have h2 := (h.pre q1).grown hg (by simp)
      rw [← q7 (by omega)] at h2; exact h2
  · rw [hv]; exact (num_len q4).1 (by simp at h; exact h.2)
  · rw [hv]
    by_cases e : 0 < m
    · cases s <;> simp [sgn, e]
    · obtain rfl : m = 0 := by omega
      cases s <;> simp [sgn, V]

def ValPost (v : Value) (w : World) (e : Ending) (w' : World) : Prop := e = .returned v ∧ w.grownBy w' none
theorem int_open {w : World} {x : Value} {Z : Int} (h : IsInt w x Z) : ∃ s p n cap f, x = .agg #[.bool s, .slice p n cap] ∧ n ≤ cap ∧ cap ≤ maxLen ∧ At .u64 w p n f ∧ (∀ j, j < n → f j < Bw) ∧ (n = 0 ∨ f (n - 1) ≠ 0) ∧ (s = true → 0 < n) ∧ Z = sgn s (V Bw f 0 n) := by
  obtain ⟨s, v, N, rfl, ⟨p, n, cap, f, rfl, h1, h2, h3, h4, h5, rfl⟩, h6, h7⟩ := h
  exact ⟨s, p, n, cap, f, rfl, h1, h2, h3, h4, h5, fun e => num_pos (h6 e), h7⟩
theorem top1 (w : World) (o1 : Obj) : (w.alloc o1).heap[w.heap.size]? = some o1 := heap_alloc_new w o1
theorem int_parts {w : World} {x : Value} {Z : Int} (h : IsInt w x Z) : ∃ s p n cap, x = .agg #[.bool s, .slice p n cap] ∧ Hid (IsInt w (.agg #[.bool s, .slice p n cap]) Z) := by
  obtain ⟨s, v, N, rfl, hn, r⟩ := h
  obtain ⟨p, n, cap, f, rfl, q⟩ := hn
  exact ⟨s, p, n, cap, rfl, s, _, N, rfl, ⟨p, n, cap, f, rfl, q⟩, r⟩

theorem At.off {k : IntKind} {w w' : World} {p : Option Addr} {n r : Nat} {f : Nat → Nat} (h : At k w p n f) (hn : ∀ o x, w.cell? ⟨r, o, none⟩ ≠ some (.int k x)) (hs : w.heap.size ≤ w'.heap.size) (hc : ∀ b o, b ≠ r → w'.cell? ⟨b, o, none⟩ = w.cell? ⟨b, o, none⟩) : At k w' p n f := by
  rcases h with h | ⟨g, off, rfl, hg, hcell⟩
  · exact .inl h
  · by_cases hn0 : n = 0
    · exact .inl hn0
    · have hgr : g ≠ r := by
        intro e; subst e
        exact hn _ _ (hcell 0 (by omega))
      exact .inr ⟨g, off, rfl, Nat.lt_of_lt_of_le hg hs, fun j hj => (hc g _ hgr).trans (hcell j hj)⟩

theorem Num.off {w w' : World} {v : Value} {N r : Nat} (h : Num w v N) (hn : ∀ o x, w.cell? ⟨r, o, none⟩ ≠ some (.int .u64 x)) (hs : w.heap.size ≤ w'.heap.size) (hc : ∀ b o, b ≠ r → w'.cell? ⟨b, o, none⟩ = w.cell? ⟨b, o, none⟩) : Num w' v N := by
  obtain ⟨p, n, cap, f, rfl, h1, h2, h3, r⟩ := h
  exact ⟨p, n, cap, f, rfl, h1, h2, h3.off hn hs hc, r⟩

theorem box_cells {w : World} {r : Nat} {b0 : Bool} {T : TypeId} {q : Option Addr} {l c : Nat} (hb : w.heap[r]? = some (.cells #[.bool b0, .slice q l c] T (0, 0))) (k : IntKind) : ∀ o x, w.cell? ⟨r, o, none⟩ ≠ some (.int k x) := by
  intro o x h
  rw [cell_of_row w r o _ T (0, 0) hb] at h
  match o, h with
  | 0, h => simp at h
  | 1, h => simp at h
  | o + 2, h => simp at h

theorem ret_box {w W w3 : World} {r : Nat} {b0 : Bool} {T : TypeId} {s : Bool} {p : Option Addr} {n c : Nat} {Z : Int} (hb : W.heap[r]? = some (.cells #[.bool b0, .slice none 0 0] T (0, 0))) (hg : W.grownBy w3 none) (hx : IsInt w3 (.agg #[.bool s, .slice p n c]) Z)
    (h0 : w.grownBy W none) (hr : w.heap.size ≤ r) :
    IntPost Z w (.returned (.agg #[.bool s, .slice p n c])) ((w3.setCell ⟨r, 0, none⟩ (.bool s)).setCell ⟨r, 1, none⟩ (.slice p n c)) := by
  have hrW := (Array.getElem?_eq_some_iff.1 hb).1
  have hb3 := (hg.block r hrW (by simp)).trans hb
  refine ⟨_, rfl, ?_, below_gb (gb_new (gb_below (gb_trans h0 hg)) hr (gb_set (gb_set (gb_refl _ _) _) _))⟩
  obtain ⟨s', v', N, he, hn, h1, h2⟩ := hx
  refine ⟨s', v', N, he, hn.off (box_cells hb3 _) (by simp [World.setCell]) (fun b o hbr => ?_), h1, h2⟩
  have e1 : ((w3.setCell ⟨r, 0, none⟩ (.bool s)).setCell ⟨r, 1, none⟩ (.slice p n c)).heap[b]? = w3.heap[b]? := by
    rw [Below.heap_setCell _ _ _ _ (by simpa using hbr), Below.heap_setCell _ _ _ _ (by simpa using hbr)]
  exact World.cell?_of_block (w := w3) e1
theorem ret_cells {W w3 : World} {r : Nat} {b0 : Bool} {T : TypeId} {s : Bool} {p : Option Addr} {n c : Nat} (hb : W.heap[r]? = some (.cells #[.bool b0, .slice none 0 0] T (0, 0))) (hg : W.grownBy w3 none) :
    (w3.setCell ⟨r, 0, none⟩ (.bool s)).cell? ⟨r, 0, none⟩ = some (.bool s) ∧ ((w3.setCell ⟨r, 0, none⟩ (.bool s)).setCell ⟨r, 1, none⟩ (.slice p n c)).cell? ⟨r, 1, none⟩ = some (.slice p n c) := by
  have hrW := (Array.getElem?_eq_some_iff.1 hb).1
  have hb3 := (hg.block r hrW (by simp)).trans hb
  have h1 : (w3.setCell ⟨r, 0, none⟩ (.bool s)).heap[r]? = some (.cells #[.bool s, .slice none 0 0] T (0, 0)) := by
    simp only [World.setCell, Array.getElem?_modify, hb3, if_true, Option.map_some]; rfl
  have h2 : ((w3.setCell ⟨r, 0, none⟩ (.bool s)).setCell ⟨r, 1, none⟩ (.slice p n c)).heap[r]? = some (.cells #[.bool s, .slice p n c] T (0, 0)) := by
    rw [World.setCell]
    simp only [Array.getElem?_modify, h1, if_true, Option.map_some]; rfl
  exact ⟨by rw [cell_of_row _ r 0 _ T (0, 0) h1]; rfl, by rw [cell_of_row _ r 1 _ T (0, 0) h2]; rfl⟩
end Go.Proofs.YtdilncefhfbgeaaGreatDoor.Zd
namespace Go.Proofs.YtdilncefhfbgeaaGreatDoor.Zd
open Go.RowKit Mx

theorem digits_w (p : Option Addr) (n cap : Nat) (f : Nat → Nat) (w : World) (h3 : At .u64 w p n f) (h4 : ∀ j, j < n → f j < Bw) (h5 : n = 0 ∨ f (n - 1) ≠ 0) (h0 : 0 < n) (hL : V Bw f 0 n < Lim) : Calls Tryz.prog 177 #[.slice p n cap] w (DigPost (V Bw f 0 n) w) := by
  have hn := lim_len h5 hL
  unfold LimN at hn
  exact digitsFromLast_w p n cap f w hn h3 h4 h5 h0

theorem nd_small {N : Nat} (h : N < Lim) : nd N ≤ 6400000 := by
  rcases Nat.lt_or_ge 6400000 (nd N) with hlt | hge
  · exfalso
    have hN : N ≠ 0 := by intro e; subst e; rw [nd, dif_pos rfl] at hlt; omega
    have h1 := nd_le N hN
    have h2 : 2 ^ (nd N - 1) ≤ 10 ^ (nd N - 1) := Nat.pow_le_pow_left (by omega) _
    have h3 : Lim = 2 ^ (64 * LimN) := by unfold Lim; rw [Nat.pow_mul, show (2 : Nat) ^ 64 = Bw from rfl]
    have h4 : 2 ^ (64 * LimN) ≤ 2 ^ (nd N - 1) := Nat.pow_le_pow_right (by omega) (by unfold LimN; omega)
    omega
  · exact hge

theorem decL_len (N : Nat) : (decL N).length = nd N := by simp [decL]
theorem dig_lt (N j : Nat) : dig N j < 10 := Nat.mod_lt _ (by omega)
theorem decL_get (N j : Nat) (h : j < (decL N).length) : (decL N)[j].toNat = 48 + dig N (nd N - 1 - j) := by
  have := dig_lt N (nd N - 1 - j)
  simp [decL]
  omega

theorem txt_pos {N : Nat} (h : N ≠ 0) : txtL (N : Int) = decL N := by
  unfold txtL
  rw [if_neg (by omega), if_neg (by omega)]; simp
theorem txt_neg {N : Nat} (h : N ≠ 0) : txtL (-(N : Int)) = 45 :: decL N := by
  unfold txtL
  rw [if_neg (by omega), if_pos (by omega)]; simp

theorem conv_run (w : World) (base g cap n : Nat) (f : Nat → Nat) (l : List UInt8) (h : Own .u8 5 w base (.slice (some ⟨g, 0, none⟩) n cap) n f) (hl : l.length = n) (hf : ∀ j (hj : j < l.length), l[j].toNat = f j) :
    (convert 115 9 (.slice (some ⟨g, 0, none⟩) n cap)).run Tryz.prog w = .ok (.string ⟨l.toArray⟩) w := by
  have := run_convert_bytes_back (P := Tryz.prog) w 115 9 5 ⟨g, 0, none⟩ cap l Tryz.underlying115 Tryz.underlying5 Tryz.underlying9 (fun j hj => by
    rw [addr_add, Nat.zero_add, h.cell (by omega), hf j hj])
  rwa [hl] at this

theorem neg_bytes {N : Nat} {fd : Nat → Nat} (hF : ∀ j, j < nd N → fd j = 48 + dig N j) : ∀ j (hj : j < (45 :: decL N).length), (45 :: decL N)[j].toNat = upd fd (nd N) 45 (nd N + 1 - 1 - j) := by
  intro j hj
  rw [List.length_cons, decL_len] at hj
  match j with
  | 0 => simp [upd]
  | j + 1 =>
    rw [upd_ne (by omega), List.getElem_cons_succ, decL_get, hF _ (by omega)]
    congr 2; omega

set_option maxHeartbeats 2000000 in
theorem String_c (x : Value) (Z : Int) (w : World) (h : IsInt w x Z) (hZ : Z.natAbs < Lim) : Calls Tryz.prog 119 #[x] w (ValPost (txt Z) w) := by
  obtain ⟨s, p, n, cap, f, rfl, h1, h2, h3, h4, h5, h6, rfl⟩ := int_open h
  have hg := World.grownBy_alloc w (.cells #[.bool s, .slice p n cap] 58) none
  have hab : (sgn s (V Bw f 0 n)).natAbs = V Bw f 0 n := by cases s <;> simp [sgn]
  rw [hab] at hZ
  by_cases hn : n = 0
  · subst hn
    have hz : sgn s (V Bw f 0 0) = 0 := by cases s <;> simp [sgn, V]
    rw [hz]
    have hfin : ValPost (txt 0) w (.returned (.string ⟨#[48]⟩)) (w.alloc (.cells #[.bool s, .slice p 0 cap] 58)) := ⟨rfl, hg⟩
    have HFIN := Lib.hid hfin
    clear hfin h h3 h4 h5 h6 hg hz hab hZ
    go_enter Tryz.func119, Tryz.ntmps119
    go_wp2
    go_ret
    exact HFIN.out
  · have hv := (num_len h5).1 (by omega)
    have hne : ((n : Int) == 0) = false := beq_eq_false_iff_ne.2 (by omega)
    have HD := Lib.hid (digits_w p n cap f _ (h3.grown hg (by simp)) h4 h5 (by omega) hZ)
    have HND := Lib.hid (nd_small hZ)
    have HV := Lib.hid hv
    have HG := Lib.hid hg
    generalize V Bw f 0 n = N at *
    clear h h3 h4 h5 h6 hg hab hZ hv
    cases s
    · go_enter Tryz.func119, Tryz.ntmps119
      go_wp2_with (first
        | (go_at_call 177; refine HD.out.mono ?_; rintro e w2 ⟨g, cp, fd, rfl, hO, hF, hg2⟩; have HO := Lib.hid hO; have HF := Lib.hid hF; have HG2 := Lib.hid hg2; obtain ⟨hcr, hfr⟩ := bcell hg2; have hsz2 := hg2.size; clear hO hF hg2)
        | (go_at_call 178; refine (reverse_c g cp (nd N) fd _ _ HO.out (by have := HND.out; omega)).mono ?_; rintro e w3 ⟨rfl, hO3, hG3⟩; have hcv := conv_run w3 _ g cp (nd N) _ (decL N) hO3 (decL_len N) (by intro j hj; rw [decL_get]; rw [decL_len] at hj; exact (HF.out _ (by omega)).symm); have HG3 := Lib.hid hG3; clear hO3 hG3))
      go_ret
      refine ⟨?_, gb_own (gb_trans HG.out HG2.out) HO.out (by simp) HG3.out⟩
      have : txt (sgn false (N : Int).toNat) = .string ⟨(decL N).toArray⟩ := by
        show Value.string ⟨(txtL ((N : Int).toNat : Int)).toArray⟩ = _
        rw [Int.toNat_natCast, txt_pos HV.out]
      rw [Int.toNat_natCast] at this
      rw [this]; rfl
    · go_enter Tryz.func119, Tryz.ntmps119
      go_wp2_with (first
        | (go_at_call 177; refine HD.out.mono ?_; rintro e w2 ⟨g, cp, fd, rfl, hO, hF, hg2⟩; have HO := Lib.hid hO; have HF := Lib.hid hF; have HG2 := Lib.hid hg2; obtain ⟨hcr, hfr⟩ := bcell hg2; have hsz2 := hg2.size; have hND := HND.out; clear hO hF hg2)
        | (at_builtin; refine wpList_app1 (k := .u8) (t := 115) (e := 5) (bytes := 1) Tryz.underlying115 info8 (by omega) rfl _ _ rfl _ (.slice (some ⟨g, 0, none⟩) (nd N) cp) (nd N) fd _ 45 rfl rfl HO.out rfl (by omega) hsz2 ?_))
      intro v' w3 hO' hG'
      obtain ⟨g', cp', rfl, hb', hs', hc', hm'⟩ : ∃ g' cp', v' = .slice (some ⟨g', 0, none⟩) (nd N + 1) cp' ∧ _ ≤ g' ∧ g' < w3.heap.size ∧ nd N + 1 ≤ cp' ∧ cp' ≤ maxLen := by
        rcases hO'.shape with ⟨_, h⟩ | h
        · omega
        · exact h
      have HO' := Lib.hid hO'; have HG' := Lib.hid (gb_own (gb_trans HG.out HG2.out) HO.out (by simp) hG')
      clear hO' hG' hcr hfr hc' hm'
      go_wp2_with (go_at_call 178; refine (reverse_c g' cp' (nd N + 1) _ _ _ HO'.out (by omega)).mono ?_; rintro e w4 ⟨rfl, hO4, hG4⟩; have hcv := conv_run w4 _ g' cp' (nd N + 1) _ (45 :: decL N) hO4 (by rw [List.length_cons, decL_len]) (neg_bytes HF.out); have HG4 := Lib.hid hG4; clear hO4 hG4)
      go_ret
      refine ⟨?_, gb_own HG'.out HO'.out (by simp) HG4.out⟩
      have : txt (sgn true (N : Int).toNat) = .string ⟨(45 :: decL N).toArray⟩ := by
        show Value.string ⟨(txtL (-((N : Int).toNat : Int))).toArray⟩ = _
        rw [Int.toNat_natCast, txt_neg HV.out]
      rw [Int.toNat_natCast] at this
      rw [this]; rfl
end Go.Proofs.YtdilncefhfbgeaaGreatDoor.Zd
namespace Go.Proofs.YtdilncefhfbgeaaGreatDoor.Zd
open Go.RowKit Mx

/-- Plain digits: one at least, no nought ahead of others. -/
def plain (l : List UInt8) : Bool := (l.all fun b => decide (48 ≤ b.toNat ∧ b.toNat ≤ 57)) && (decide (l = [48]) || (decide (l ≠ []) && decide (l.head? ≠ some 48)))

theorem idx_run (s : ByteArray) (k b : Nat) (h : k < s.data.toList.length) (hb : (s.data.toList[k]).toNat = b) : ∀ w : World, (Instr.index 9 (.string s) (.int .i64 (k : Int))).run Tryz.prog w = .ok (.int .u8 (b : Int)) w := by
  intro w
  have hs : s.data.toList.length = s.size := Array.length_toList
  rw [run_index_string w 9 s .i64 k Tryz.underlying9, dif_pos ⟨by omega, by omega⟩]
  have e : (s[((k : Int)).toNat]'(by omega)).toNat = b := by
    rw [← hb]; simp [ByteArray.getElem_eq_getElem_data]
  rw [e]

theorem toList_data (s : ByteArray) : s.toList = s.data.toList := ByteArray.toList_eq s

theorem byte_lt (x : UInt8) : x.toNat < 256 := x.toNat_lt

set_option maxHeartbeats 2000000 in
theorem plain_c (s : ByteArray) (w : World) (hs : s.data.toList.length ≤ 1000) : Calls Tryz.prog 127 #[.string s] w (fun e w' => e = .returned (.bool (plain s.data.toList)) ∧ w' = w) := by
  obtain ⟨n, hn⟩ : ∃ n, s.data.toList.length = n := ⟨_, rfl⟩
  have hsz : s.size = n := by rw [← hn]; exact (Array.length_toList).symm
  rw [hn] at hs
  have HN := Lib.hid hn
  clear hn
  go_enter Tryz.func127, Tryz.ntmps127
  go_wp2
  go_loopw [6] (fun i wr => ∃ k : Nat, k ≤ n ∧ i = .int .i64 k ∧ Hid (∀ j (hj : j < s.data.toList.length), j < k → 48 ≤ (s.data.toList[j]).toNat ∧ (s.data.toList[j]).toNat ≤ 57) ∧ wr = w) (fun i _ => n - (intOf i).toNat)
  case atStart => exact ⟨0, by omega, rfl, fun j _ h => by omega, rfl⟩
  case round =>
    obtain ⟨k, hk, rfl, HD, rfl⟩ := hrel
    by_cases hlt : k < n
    · obtain ⟨b, hb⟩ : ∃ b : Nat, (s.data.toList[k]'(by rw [HN.out]; exact hlt)).toNat = b := ⟨_, rfl⟩
      have hb2 : b < 256 := by rw [← hb]; exact byte_lt _
      have hix := idx_run s k b (by rw [HN.out]; exact hlt) hb
      have HB := Lib.hid hb
      clear hb
      have hbad : (b < 48 ∨ 57 < b) → plain s.data.toList = false := by
        intro h
        unfold plain
        have : (s.data.toList.all fun b => decide (48 ≤ b.toNat ∧ b.toNat ≤ 57)) = false := by
          rw [List.all_eq_false]
          exact ⟨_, List.getElem_mem (by rw [HN.out]; exact hlt), by rw [HB.out]; simp; omega⟩
        rw [this]; rfl
      have HBAD := Lib.hid hbad
      clear hbad
      by_cases h1 : b < 48
      · have d1 : decide ((b : Int) < 48) = true := decide_eq_true (by omega)
        go_wp2
        go_ret
        exact ⟨congrArg (fun b => Ending.returned (.bool b)) (HBAD.out (.inl h1)).symm, rfl⟩
      · have d1 : decide ((b : Int) < 48) = false := decide_eq_false (by omega)
        by_cases h2 : 57 < b
        · have d2 : decide ((57 : Int) < b) = true := decide_eq_true (by omega)
          go_wp2
          go_ret
          exact ⟨congrArg (fun b => Ending.returned (.bool b)) (HBAD.out (.inr h2)).symm, rfl⟩
        · have d2 : decide ((57 : Int) < b) = false := decide_eq_false (by omega)
          go_wp2
          go_roundw
          case rel =>
            refine ⟨k + 1, by omega, by go_num, fun j hj h => ?_, by first | rfl | trivial⟩
            rcases Nat.lt_or_ge j k with h | h
            · exact HD.out j hj h
            · obtain rfl : j = k := by omega
              rw [HB.out]; omega
          case measure => simp [intOf]; omega
    · obtain rfl : k = n := by omega
      have hall : (s.data.toList.all fun b => decide (48 ≤ b.toNat ∧ b.toNat ≤ 57)) = true := by
        rw [List.all_eq_true]
        intro x hx
        obtain ⟨j, hj, rfl⟩ := List.getElem_of_mem hx
        exact decide_eq_true (HD.out j hj (by rw [← HN.out]; exact hj))
      have hp : plain s.data.toList = (decide (s.data.toList = [48]) || (decide (s.data.toList ≠ []) && decide (s.data.toList.head? ≠ some 48))) := by
        unfold plain; rw [hall]; rfl
      have HP := Lib.hid hp
      clear hall hp
      by_cases hz : s.data.toList = [48]
      · have c1 : (s.toList == [48]) = true := by rw [toList_data, hz]; rfl
        have HZ := Lib.hid hz
        clear hz
        go_wp2
        go_ret
        exact ⟨congrArg (fun b => Ending.returned (.bool b)) (show true = plain s.data.toList by rw [HP.out, HZ.out]; rfl), by first | rfl | trivial⟩
      · have c1 : (s.toList == [48]) = false := by rw [toList_data]; exact beq_eq_false_iff_ne.2 hz
        by_cases h0 : k = 0
        · subst h0
          have hnil : s.data.toList = [] := List.eq_nil_of_length_eq_zero HN.out
          have c2 : s.toList.isEmpty = true := by rw [toList_data, hnil]; rfl
          have HZ := Lib.hid hnil
          clear hz hnil
          go_wp2
          go_ret
          exact ⟨congrArg (fun b => Ending.returned (.bool b)) (show false = plain s.data.toList by rw [HP.out, HZ.out]; rfl), by first | rfl | trivial⟩
        · have h0' : 0 < s.data.toList.length := by rw [HN.out]; omega
          have hnil : s.data.toList ≠ [] := List.ne_nil_of_length_pos h0'
          have c2 : s.toList.isEmpty = false := by rw [toList_data]; simpa using hnil
          have hpl : ∀ h : 0 < s.size, ((((s[0]'h).toNat : Nat) : Int) != 48) = plain s.data.toList := by
            intro h
            have e : s[0]'h = s.data.toList[0]'h0' := by simp [ByteArray.getElem_eq_getElem_data]
            rw [e, HP.out, decide_eq_false hz, decide_eq_true hnil, Bool.false_or, Bool.true_and, List.head?_eq_getElem?, List.getElem?_eq_getElem h0']
            generalize s.data.toList[0] = x
            by_cases hx : x = 48
            · subst hx; decide
            · rw [decide_eq_true (by simpa using hx)]
              exact bne_iff_ne.2 (fun e => hx (UInt8.toNat_inj.1 (by have : x.toNat = 48 := by omega
                                                                     rw [this]; rfl)))
          have HPL := Lib.hid hpl
          clear hz hnil hpl
          go_wp2
          go_ret
          exact ⟨congrArg (fun b => Ending.returned (.bool b)) (HPL.out _), by first | rfl | trivial⟩
end Go.Proofs.YtdilncefhfbgeaaGreatDoor.Zd
