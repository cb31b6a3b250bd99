/- Lists of steps that came in; a list of one's own that is written to; the document's Join. -/
import Derived.Test.YtljpgmhgnfnbkaaBAnc
import Derived.Test.YtljpgmhgnfnbkaaBRef1
import Derived.Deep.Slices
import Derived.ChangeArms
import Derived.OpenShut
import Derived.Deep.CutBlock
import Derived.Deep.DeepCutAuto
namespace Go.Proofs.Ytljpgmhgnfnbkaa
open Go.RowKit Mx

/-! ### Steps -/

def OpsAt (w : World) (p : Option Addr) (m : Nat) (D K V : Nat → Int) : Prop :=
  m = 0 ∨ ∃ g off, p = some ⟨g, off, none⟩ ∧ g < w.heap.size ∧ ∀ j, j < m → w.cell? ⟨g, off + j * 3, none⟩ = some (.int .i64 (D j)) ∧ w.cell? ⟨g, off + j * 3 + 1, none⟩ = some (.int .i64 (K j)) ∧ w.cell? ⟨g, off + j * 3 + 2, none⟩ = some (.int .i64 (V j))

theorem OpsAt.kept {w w' : World} {p : Option Addr} {m : Nat} {D K V : Nat → Int} (h : OpsAt w p m D K V) (hg : w.grownBy w' none) : OpsAt w' p m D K V := by
  rcases h with h | ⟨g, off, rfl, hl, hc⟩
  · exact .inl h
  · exact .inr ⟨g, off, rfl, Nat.lt_of_lt_of_le hl hg.size, fun j hj => ⟨hg.cell (hc j hj).1 (by simp), hg.cell (hc j hj).2.1 (by simp), hg.cell (hc j hj).2.2 (by simp)⟩⟩

section
open Go.ChangeShapes Go.WideShapes Go.Deep
variable {H : Type} {enc : TypeId × Value → H} {P : Program} {w : World} {base : Nat} {spare : Nat → Bool} {held : Bool}

theorem open_ops {t e : TypeId} {f0 f1 f2 : Field} {fuel : Nat} {v : Option Addr} {n c : Nat} {x : DataW H × List MemPlace} (ht : P.underlying t = some (.slice e)) (he : P.underlying e = some (.struct #[f0, f1, f2]))
    (ce : P.cellsOf e = 3) (o0 : f0.offset = 0) (o1 : f1.offset = 1) (o2 : f2.offset = 2) (c0 : P.cellsOf f0.type = 1) (c1 : P.cellsOf f1.type = 1) (c2 : P.cellsOf f2.type = 1)
    (t0 : P.underlying f0.type = some (.int .i64)) (t1 : P.underlying f1.type = some (.int .i64)) (t2 : P.underlying f2.type = some (.int .i64))
    (h : DataW.trod enc P w base spare held fuel t [.slice v n c] = some x) : n ≤ c ∧ c ≤ maxLen ∧ ∃ D K V : Nat → Int, OpsAt w v n D K V ∧ ∀ j, (-9223372036854775808 ≤ K j ∧ K j ≤ 9223372036854775807) ∧ (-9223372036854775808 ≤ V j ∧ V j ≤ 9223372036854775807) ∧ (-9223372036854775808 ≤ D j ∧ D j ≤ 9223372036854775807) := by
  rcases open_slice ht h with ⟨h0, -⟩ | ⟨a, len, cap, m, nn, Dd, Pl, hcs, hb, hl, hm, hmm, -, hx⟩
  · simp at h0
    obtain ⟨rfl, rfl, rfl⟩ := h0
    exact ⟨Nat.le_refl _, by omega, fun _ => 0, fun _ => 0, fun _ => 0, .inl rfl, fun j => by simp⟩
  · simp at hcs
    obtain ⟨rfl, rfl, rfl⟩ := hcs
    have hlm : n ≤ m := by rw [hmm]; split <;> omega
    have each : ∀ i, i < n → ∃ q : Int × Int × Int, w.cell? (a.add (i * 3)) = some (.int .i64 q.1) ∧ w.cell? (a.add (i * 3 + 1)) = some (.int .i64 q.2.1) ∧ w.cell? (a.add (i * 3 + 2)) = some (.int .i64 q.2.2) ∧
        (-9223372036854775808 ≤ q.1 ∧ q.1 ≤ 9223372036854775807) ∧ (-9223372036854775808 ≤ q.2.1 ∧ q.2.1 ≤ 9223372036854775807) ∧ (-9223372036854775808 ≤ q.2.2 ∧ q.2.2 ≤ 9223372036854775807) := by
      intro i hi
      obtain ⟨cs', h1, h2⟩ := hx i (by omega)
      rw [ce] at h1
      obtain ⟨_, hlen, hcell⟩ := World.cells?_some h1
      obtain ⟨xs, k, hk, hxy, _, hxl, hf⟩ := DataW.trod_struct he h2
      match xs, hxl, cs', hlen with
      | [y0, y1, y2], _, [v0, v1, v2], _ =>
        have g0 := hf 0 f0 rfl
        have g1 := hf 1 f1 rfl
        have g2 := hf 2 f2 rfl
        simp [o0, o1, o2, c0, c1, c2] at g0 g1 g2
        obtain ⟨n0, e0, -, b0⟩ := DataW.trod_int t0 g0
        obtain ⟨n1, e1, -, b1⟩ := DataW.trod_int t1 g1
        obtain ⟨n2, e2, -, b2⟩ := DataW.trod_int t2 g2
        simp at e0 e1 e2
        subst e0; subst e1; subst e2
        have k0 := hcell 0 (by omega)
        have k1 := hcell 1 (by omega)
        have k2 := hcell 2 (by omega)
        rw [add_add] at k0 k1 k2
        have b0 := bounds_i64 b0
        have b1 := bounds_i64 b1
        have b2 := bounds_i64 b2
        exact ⟨(n0, n1, n2), by simpa using k0, by simpa using k1, by simpa using k2, b0, b1, b2⟩
    refine ⟨hl, hm, ?_⟩
    obtain ⟨q, hq⟩ := choose_lt each
    by_cases h0 : n = 0
    · exact ⟨fun _ => 0, fun _ => 0, fun _ => 0, .inl h0, fun j => by simp⟩
    · have hs := (hq 0 (by omega)).1
      have hsp := World.cell?_spot hs
      have hlt := World.block_lt_of_cell? w _ hs
      obtain ⟨g, o, sp⟩ := a
      have hsp : sp = none := by simpa [Addr.add] using hsp
      subst hsp
      refine ⟨fun j => if j < n then (q j).1 else 0, fun j => if j < n then (q j).2.1 else 0, fun j => if j < n then (q j).2.2 else 0, .inr ⟨g, o, rfl, by simpa [Addr.add] using hlt, fun j hj => ?_⟩, fun j => ?_⟩
      · obtain ⟨e0, e1, e2, -⟩ := hq j hj
        rw [Addr.add_lit] at e0 e1 e2
        simp only [if_pos hj]
        exact ⟨e0, by rw [Nat.add_assoc]; exact e1, by rw [Nat.add_assoc]; exact e2⟩
      · by_cases hj : j < n
        · obtain ⟨-, -, -, e0, e1, e2⟩ := hq j hj
          simp only [if_pos hj]
          exact ⟨e1, e2, e0⟩
        · simp only [if_neg hj]; omega
end

/-! ### A list of one's own, written to -/

def RowN (w : World) (g n cap : Nat) (f : Nat → Nat) : Prop := ∃ cur T, w.heap[g]? = some (.cells cur T (0, 0)) ∧ cur.size = cap ∧ n ≤ cap ∧ ∀ j, j < n → cur[j]? = some (.int .i64 (f j))

section
variable {w w' : World} {g n cap : Nat} {f f' : Nat → Nat}
theorem RowN.lt (h : RowN w g n cap f) : g < w.heap.size := by
  obtain ⟨cur, T, hg, _⟩ := h
  exact (Array.getElem?_eq_some_iff.1 hg).1
theorem RowN.cell (h : RowN w g n cap f) {j : Nat} (hj : j < n) : w.cell? ⟨g, j, none⟩ = some (.int .i64 (f j)) := by
  obtain ⟨cur, T, hg, _, _, hc⟩ := h
  rw [cell_of_row w g j cur T (0, 0) hg]; exact hc j hj
theorem RowN.free (h : RowN w g n cap f) (j : Nat) : w.frozen? ⟨g, j, none⟩ = false := by
  obtain ⟨cur, T, hg, _⟩ := h
  simp [World.frozen?, hg]
theorem RowN.set (h : RowN w g n cap f) {j : Nat} (x : Nat) : RowN (w.setCell ⟨g, j, none⟩ (.int .i64 x)) g n cap (upd f j x) := by
  obtain ⟨cur, T, hg, hs, hn, hc⟩ := h
  refine ⟨cur.setIfInBounds j (.int .i64 x), T, ?_, by simpa using hs, hn, fun i hi => ?_⟩
  · simp only [World.setCell, Array.getElem?_modify, hg, if_true, Option.map_some]; rfl
  · rw [Array.getElem?_setIfInBounds]
    by_cases e : j = i
    · subst e; simp [upd, hs, show j < cap by omega]
    · rw [if_neg e, hc i hi]; simp [upd, Ne.symm e]
theorem RowN.kept {S : Nat → Prop} (h : RowN w g n cap f) (hg : Fr2 S w w') (hne : ¬ S g) : RowN w' g n cap f := by
  obtain ⟨cur, T, hh, r⟩ := h
  exact ⟨cur, T, by rw [hg.block g (Array.getElem?_eq_some_iff.1 hh).1 hne]; exact hh, r⟩
theorem RowN.congr (h : RowN w g n cap f) (e : ∀ j, j < n → f j = f' j) : RowN w g n cap f' := by
  obtain ⟨cur, T, h1, h2, h3, h4⟩ := h
  exact ⟨cur, T, h1, h2, h3, fun j hj => by rw [← e j hj]; exact h4 j hj⟩
end

def RJoinPost (g n cap : Nat) (f : Nat → Nat) (a b : Nat) (w : World) (e : Ending) (w' : World) : Prop :=
  e = .returned (.bool (decide (f a ≠ f b))) ∧ RowN w' g n cap (fun j => if f j = max (f a) (f b) then min (f a) (f b) else f j) ∧ w.grownBy w' (some g)

set_option maxRecDepth 100000 in
set_option maxHeartbeats 4000000 in
theorem RJoin_c (g n cap : Nat) (f : Nat → Nat) (a b : Nat) (w : World) (ha : a < n) (hb : b < n) (hn : n ≤ 65536) (h : RowN w g n cap f) : Calls Try.prog 43 #[.slice (some ⟨g, 0, none⟩) n cap, .int .i64 a, .int .i64 b] w (RJoinPost g n cap f a b w) := by
  have ca := h.cell ha
  have cb := h.cell hb
  have HR := Lib.hid h
  clear h
  go_enter Try.func43, Try.ntmps43
  by_cases he : f a = f b
  · have d1 : (((f a : Nat) : Int) == ((f b : Nat) : Int)) = true := by rw [he]; simp
    have HE := Lib.hid he
    clear he
    go_wp2_with fail
    go_ret
    exact ⟨by rw [decide_eq_false (by simp [HE.out])]; rfl, HR.out.congr (fun j _ => by have e := HE.out; split <;> omega), gb_refl _ _⟩
  · have d1 : (((f a : Nat) : Int) == ((f b : Nat) : Int)) = false := beq_eq_false_iff_ne.2 (by omega)
    have HE := Lib.hid he
    by_cases hlt0 : f b < f a
    · have d2 : decide (f b < f a) = true := decide_eq_true hlt0
      have HX : Hid (f b = min (f a) (f b)) := Lib.hid (by omega)
      have HY : Hid (f a = max (f a) (f b)) := Lib.hid (by omega)
      clear hlt0
      go_wp2_with fail
      clear ca cb
      go_loopw [9] (fun i wr => ∃ k : Nat, k ≤ n ∧ i = .int .i64 k ∧ Hid (RowN wr g n cap (fun j => if j < k ∧ f j = f a then f b else f j)) ∧ Hid (w.grownBy wr (some g))) (fun i _ => n - (intOf i).toNat)
      case atStart => exact ⟨0, by omega, rfl, Lib.hid (HR.out.congr (fun j _ => by simp)), gb_refl _ _⟩
      case round =>
        obtain ⟨k, hk, rfl, HK, HG⟩ := hrel
        by_cases hlt : k < n
        · have ck := HK.out.cell hlt
          have fk := HK.out.free k
          rw [if_neg (by omega)] at ck
          by_cases hy2 : f k = f a
          · have d2 : (((f k : Nat) : Int) == ((f a : Nat) : Int)) = true := by rw [hy2]; simp
            have HY2 := Lib.hid hy2
            clear hy2
            go_wp2_with fail
            go_roundw
            case rel => exact ⟨k + 1, by omega, by go_num, Lib.hid ((HK.out.set (f b)).congr (fun j hj => by
                simp only [upd]
                by_cases e : j = k
                · subst e; rw [if_pos rfl, if_pos ⟨by omega, HY2.out⟩]
                · rw [if_neg e]
                  by_cases e2 : j < k ∧ f j = f a
                  · rw [if_pos e2, if_pos ⟨by omega, e2.2⟩]
                  · rw [if_neg e2, if_neg (fun h => e2 ⟨by omega, h.2⟩)])), Lib.hid (gb_set HG.out _)⟩
            case measure => simp [intOf]; omega
          · have d2 : (((f k : Nat) : Int) == ((f a : Nat) : Int)) = false := beq_eq_false_iff_ne.2 (by omega)
            have HY2 := Lib.hid hy2
            clear hy2
            go_wp2_with fail
            go_roundw
            case rel => exact ⟨k + 1, by omega, by go_num, Lib.hid (HK.out.congr (fun j hj => by
                try dsimp only
                by_cases e : j = k
                · subst e; rw [if_neg (by omega), if_neg (fun h => HY2.out h.2)]
                · by_cases e2 : j < k ∧ f j = f a
                  · rw [if_pos e2, if_pos ⟨by omega, e2.2⟩]
                  · rw [if_neg e2, if_neg (fun h => e2 ⟨by omega, h.2⟩)])), HG⟩
            case measure => simp [intOf]; omega
        · obtain rfl : k = n := by omega
          go_wp2_with fail
          go_ret
          exact ⟨by rw [decide_eq_true HE.out]; rfl, HK.out.congr (fun j hj => by
            try dsimp only
            rw [← HX.out, ← HY.out]
            by_cases e : f j = f a
            · rw [if_pos ⟨hj, e⟩, if_pos e]
            · rw [if_neg (fun h => e h.2), if_neg e]), HG.out⟩
    · have d2 : decide (f b < f a) = false := decide_eq_false hlt0
      have HX : Hid (f a = min (f a) (f b)) := Lib.hid (by omega)
      have HY : Hid (f b = max (f a) (f b)) := Lib.hid (by omega)
      clear hlt0
      go_wp2_with fail
      clear ca cb
      go_loopw [9] (fun i wr => ∃ k : Nat, k ≤ n ∧ i = .int .i64 k ∧ Hid (RowN wr g n cap (fun j => if j < k ∧ f j = f b then f a else f j)) ∧ Hid (w.grownBy wr (some g))) (fun i _ => n - (intOf i).toNat)
      case atStart => exact ⟨0, by omega, rfl, Lib.hid (HR.out.congr (fun j _ => by simp)), gb_refl _ _⟩
      case round =>
        obtain ⟨k, hk, rfl, HK, HG⟩ := hrel
        by_cases hlt : k < n
        · have ck := HK.out.cell hlt
          have fk := HK.out.free k
          rw [if_neg (by omega)] at ck
          by_cases hy2 : f k = f b
          · have d2 : (((f k : Nat) : Int) == ((f b : Nat) : Int)) = true := by rw [hy2]; simp
            have HY2 := Lib.hid hy2
            clear hy2
            go_wp2_with fail
            go_roundw
            case rel => exact ⟨k + 1, by omega, by go_num, Lib.hid ((HK.out.set (f a)).congr (fun j hj => by
                simp only [upd]
                by_cases e : j = k
                · subst e; rw [if_pos rfl, if_pos ⟨by omega, HY2.out⟩]
                · rw [if_neg e]
                  by_cases e2 : j < k ∧ f j = f b
                  · rw [if_pos e2, if_pos ⟨by omega, e2.2⟩]
                  · rw [if_neg e2, if_neg (fun h => e2 ⟨by omega, h.2⟩)])), Lib.hid (gb_set HG.out _)⟩
            case measure => simp [intOf]; omega
          · have d2 : (((f k : Nat) : Int) == ((f b : Nat) : Int)) = false := beq_eq_false_iff_ne.2 (by omega)
            have HY2 := Lib.hid hy2
            clear hy2
            go_wp2_with fail
            go_roundw
            case rel => exact ⟨k + 1, by omega, by go_num, Lib.hid (HK.out.congr (fun j hj => by
                try dsimp only
                by_cases e : j = k
                · subst e; rw [if_neg (by omega), if_neg (fun h => HY2.out h.2)]
                · by_cases e2 : j < k ∧ f j = f b
                  · rw [if_pos e2, if_pos ⟨by omega, e2.2⟩]
                  · rw [if_neg e2, if_neg (fun h => e2 ⟨by omega, h.2⟩)])), HG⟩
            case measure => simp [intOf]; omega
        · obtain rfl : k = n := by omega
          go_wp2_with fail
          go_ret
          exact ⟨by rw [decide_eq_true HE.out]; rfl, HK.out.congr (fun j hj => by
            try dsimp only
            rw [← HX.out, ← HY.out]
            by_cases e : f j = f b
            · rw [if_pos ⟨hj, e⟩, if_pos e]
            · rw [if_neg (fun h => e h.2), if_neg e]), HG.out⟩
end Go.Proofs.Ytljpgmhgnfnbkaa
