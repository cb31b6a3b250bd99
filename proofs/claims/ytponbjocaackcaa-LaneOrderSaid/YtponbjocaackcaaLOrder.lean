/- The law on order, walked. -/
import Derived.Test.YtponbjocaackcaaLAnc
namespace Go.Proofs.Ytponbjocaackcaa
open Go.RowKit Go.Conc

def nv (j : Nat) : Value := .int .i64 (j : Nat)

theorem ltake_map {α β : Type} (f : α → β) (U S : List α) (p : Nat) : LTake (U.map f) (S.map f) p = ((LTake U S p).1.map f, (LTake U S p).2.1.map f, (LTake U S p).2.2.1.map f, (LTake U S p).2.2.2) := by
  by_cases hp : p < 4
  · cases U with
    | nil => rw [List.map_nil, ltake_empty, ltake_empty]; cases S <;> rfl
    | cons x U =>
      rw [List.map_cons, ltake_urgent hp, ltake_urgent hp]
      by_cases hs : S = []
      · subst hs; rfl
      · have : S.map f ≠ [] := by simpa using hs
        rw [if_neg hs, if_neg this]; rfl
  · rw [ltake_late hp, ltake_late hp]; cases S <;> rfl

theorem Drains.map {α β : Type} (f : α → β) {U S : List α} {p : Nat} {L : List α} (h : Drains U S p L) : Drains (U.map f) (S.map f) p (L.map f) := by
  induction h with
  | none hn => exact .none (by rw [ltake_map, hn]; rfl)
  | some hs _ ih => exact .some (by rw [ltake_map, hs]; rfl) (by rw [ltake_map]; exact ih)

theorem drains_allG {α : Type} : ∀ (n : Nat) (U S : List α) (p : Nat), U.length + S.length ≤ n → LGood S p → ∃ L, Drains U S p L
  | 0, U, S, p, h, hg => by
    have h1 : U = [] := List.eq_nil_of_length_eq_zero (by omega)
    have h2 : S = [] := List.eq_nil_of_length_eq_zero (by omega)
    subst h1; subst h2
    exact ⟨[], .none (by rw [ltake_empty]; rfl)⟩
  | n + 1, U, S, p, h, hg => by
    rcases hx : (LTake U S p).1 with _ | x
    · exact ⟨[], .none hx⟩
    · have := LTake.len hx
      obtain ⟨L, hL⟩ := drains_allG n (LTake U S p).2.1 (LTake U S p).2.2.1 (LTake U S p).2.2.2 (by omega) (LTake.good hg)
      exact ⟨x :: L, .some hx hL⟩

/-- In each lane rising, above a and b. -/
def Ord (P : Nat → Bool) (n : Nat) : Int → Int → List Nat → Prop
  | _, _, [] => True
  | a, b, x :: L => x < n ∧ if P x then a < x ∧ Ord P n x b L else b < x ∧ Ord P n a x L

def Lane1 (P : Nat → Bool) (n : Nat) (a : Int) (U : List Nat) : Prop := U.Pairwise (· < ·) ∧ ∀ x ∈ U, P x = true ∧ a < x ∧ x < n

theorem Lane1.tail {P : Nat → Bool} {n : Nat} {a : Int} {x : Nat} {U : List Nat} (h : Lane1 P n a (x :: U)) : Lane1 P n x U :=
  ⟨(List.pairwise_cons.1 h.1).2, fun y hy => ⟨(h.2 y (List.mem_cons_of_mem _ hy)).1, by have := (List.pairwise_cons.1 h.1).1 y hy; omega, (h.2 y (List.mem_cons_of_mem _ hy)).2.2⟩⟩

theorem drains_ord (P : Nat → Bool) (n : Nat) : ∀ {U S : List Nat} {p : Nat} {L : List Nat}, Drains U S p L → ∀ a b : Int, Lane1 P n a U → Lane1 (fun x => !P x) n b S → Ord P n a b L := by
  intro U S p L h
  induction h with
  | none _ => intro a b _ _; exact trivial
  | @some U S p x L hs hd ih =>
    intro a b hU hS
    have fromS : ∀ U', LTake U S p = (S.head?, U', S.tail, 0) → Lane1 P n a U' → Ord P n a b (x :: L) := by
      intro U' e hU'
      rw [e] at hs ih
      cases S with
      | nil => cases hs
      | cons y S =>
        simp at hs; subst hs
        have hy := hS.2 y (List.mem_cons_self ..)
        have hPy : P y = false := by simpa using hy.1
        have h2 := ih a y hU' hS.tail
        unfold Ord
        refine ⟨hy.2.2, ?_⟩
        rw [hPy]
        exact ⟨hy.2.1, h2⟩
    by_cases hp : p < 4
    · cases U with
      | nil => exact fromS [] ltake_empty hU
      | cons y U =>
        rw [ltake_urgent hp] at hs ih
        simp at hs; subst hs
        have hy := hU.2 y (List.mem_cons_self ..)
        have h2 := ih y b hU.tail hS
        unfold Ord
        refine ⟨hy.2.2, ?_⟩
        rw [hy.1]
        exact ⟨hy.2.1, h2⟩
    · exact fromS U (ltake_late hp) hU

/-- A list of truths that came in. -/
def BoolsAt (w : World) (p : Option Addr) (n : Nat) (B : Nat → Bool) : Prop := n = 0 ∨ ∃ g off, p = some ⟨g, off, none⟩ ∧ g < w.heap.size ∧ ∀ j, j < n → w.cell? ⟨g, off + j, none⟩ = some (.bool (B j))

theorem BoolsAt.kept {w w' : World} {p : Option Addr} {n : Nat} {B : Nat → Bool} (h : BoolsAt w p n B) (hg : w.grownBy w' none) : BoolsAt w' p n B := by
  rcases h with h | ⟨g, off, rfl, hl, hc⟩
  · exact .inl h
  · exact .inr ⟨g, off, rfl, Nat.lt_of_lt_of_le hl hg.size, fun j hj => hg.cell (hc j hj) (by simp)⟩

theorem lane1_range (P : Nat → Bool) (n : Nat) : Lane1 P n (-1) ((List.range n).filter P) :=
  ⟨List.Pairwise.filter _ List.pairwise_lt_range, fun x hx => by
    obtain ⟨h1, h2⟩ := List.mem_filter.1 hx
    exact ⟨h2, by omega, List.mem_range.1 h1⟩⟩

theorem filter_succ (P : Nat → Bool) (k : Nat) : (List.range (k + 1)).filter P = (List.range k).filter P ++ if P k then [k] else [] := by
  rw [List.range_succ, List.filter_append]
  cases h : P k <;> simp [h]

set_option maxRecDepth 100000 in
set_option maxHeartbeats 8000000 in
theorem order_yes (pa : Option Addr) (n c : Nat) (B : Nat → Bool) (w : World) (hn : n ≤ 60) (hnc : n ≤ c) (hb : BoolsAt w pa n B) : Calls Try.prog 4 #[.slice pa n c] w (ValPost (.bool true) w) := by
  have d1 : decide ((60 : Int) < n) = false := decide_eq_false (by omega)
  have d2 : decide (60 < n) = false := decide_eq_false (by omega)
  have HN := Lib.hid (New_c_int 60 (by omega) (by omega)); have HB := Lib.hid hb
  clear hb
  go_enter Try.func4, Try.ntmps4
  go_wp2_with fail
  refine (anchor_c _).mono ?_
  rintro e w0 ⟨rfl, hg0⟩
  have HG0 := Lib.hid hg0
  clear hg0
  go_wp2_with fail
  refine (HN.out _).mono ?_
  rintro e w1 ⟨q, u, v, rfl, hl, hq, hu, hv, hg⟩
  have HL := Lib.hid hl; have HG := Lib.hid (gb_trans HG0.out hg); have HQ := Lib.hid (show w.heap.size ≤ q ∧ w.heap.size ≤ u ∧ w.heap.size ≤ v by have := HG0.out.size; omega)
  clear hl hg hq hu hv d1 d2
  go_wp2_with fail
  go_loopw [25] (fun i wr => ∃ k : Nat, k ≤ n ∧ i = .int .i64 k ∧ Hid (LaneAt 54 wr q u v 60 (((List.range k).filter B).map nv) (((List.range k).filter fun x => !B x).map nv) 0 false) ∧ Hid (w.grownBy wr none)) (fun i _ => n - (intOf i).toNat)
  case atStart => exact ⟨0, by omega, rfl, HL, HG⟩
  case round =>
    obtain ⟨k, hk, rfl, HK, HGK⟩ := hrel
    by_cases hlt : k < n
    · obtain ⟨g, off, rfl, hgl, hc⟩ := (HB.out.kept HGK.out).resolve_left (by omega)
      have hck := hc k hlt
      have HC := Lib.hid (fun bb => Offer_c_int HK.out (k : Int) bb)
      have hl1 : ((List.range k).filter B).length ≤ k := by have := List.length_filter_le B (List.range k); simpa using this
      have hl2 : ((List.range k).filter fun x => !B x).length ≤ k := by have := List.length_filter_le (fun x => !B x) (List.range k); simpa using this
      have HF1 := Lib.hid (filter_succ B k); have HF2 := Lib.hid (filter_succ (fun x => !B x) k)
      have HO1 := Lib.hid (loffer_urgent (room := 60) (U := ((List.range k).filter B).map nv) (S := ((List.range k).filter fun x => !B x).map nv) (x := .int .i64 (k : Int)) (by simp; omega))
      have HO2 := Lib.hid (loffer_usual (room := 60) (U := ((List.range k).filter B).map nv) (S := ((List.range k).filter fun x => !B x).map nv) (x := .int .i64 (k : Int)) (by simp; omega))
      clear hl1 hl2 hc
      generalize B k = bb at *
      cases bb with
      | true =>
        go_wp2_with fail
        refine (HC.out true).mono ?_
        rintro e w3 ⟨rfl, hl3, hf3, -⟩
        rw [HO1.out] at hl3 ⊢
        have HL3 := Lib.hid hl3; have HG3 := Lib.hid (Fr2.after HGK.out hf3 (fun i hi => by have := HQ.out; omega))
        clear hl3 hf3
        go_wp2_with fail
        go_roundw
        case rel => exact ⟨k + 1, by omega, by go_num, Lib.hid (by rw [HF1.out, HF2.out]; simpa [nv] using HL3.out), HG3⟩
        case measure => simp [intOf]; omega
      | false =>
        go_wp2_with fail
        refine (HC.out false).mono ?_
        rintro e w3 ⟨rfl, hl3, hf3, -⟩
        rw [HO2.out] at hl3 ⊢
        have HL3 := Lib.hid hl3; have HG3 := Lib.hid (Fr2.after HGK.out hf3 (fun i hi => by have := HQ.out; omega))
        clear hl3 hf3
        go_wp2_with fail
        go_roundw
        case rel => exact ⟨k + 1, by omega, by go_num, Lib.hid (by rw [HF1.out, HF2.out]; simpa [nv] using HL3.out), HG3⟩
        case measure => simp [intOf]; omega
    · obtain rfl : k = n := by omega
      obtain ⟨L, hL⟩ := drains_allG _ ((List.range k).filter B) ((List.range k).filter fun x => !B x) 0 (Nat.le_refl _) LGood.nil
      have hord := drains_ord B k hL (-1) (-1) (lane1_range B k) (lane1_range (fun x => !B x) k)
      have hlen := Drains.len hL LGood.nil
      have hlk : L.length = k := by
        rw [hlen]
        have : ∀ l : List Nat, (l.filter B).length + (l.filter fun x => !B x).length = l.length := fun l => by
          induction l with
          | nil => rfl
          | cons a l ih => cases h : B a <;> simp [h] <;> omega
        rw [this]; simp
      have HC := Lib.hid (Drain_c_int HK.out _ (hL.map nv) (fun x hx => by obtain ⟨j, -, rfl⟩ := List.mem_map.1 hx; exact ⟨_, rfl⟩))
      have HORD := Lib.hid hord; have HLK := Lib.hid hlk
      clear hlt hL hord hlen hlk
      go_wp2_with fail
      refine HC.out.mono ?_
      rintro e w5 ⟨p, cc, rfl, ho, -, hf3⟩
      obtain ⟨p2, c2, he, hv, hcl, hcm⟩ := ho.is
      injection he with e1 e2 e3
      subst e1; subst e3
      have HV := Lib.hid hv; have HG3 := Lib.hid (Fr2.after HGK.out hf3 (fun i hi => by have := HQ.out; omega))
      have el : (L.map nv).length = k := by rw [List.length_map]; exact HLK.out
      rw [el] at hcl ⊢
      clear ho hv hf3 e2 el HC HK HGK
      go_wp2_with fail
      have hbx := heap_alloc_new w5 (.cells #[.int .i64 (-1), .int .i64 (-1)] 43)
      have hga := World.grownBy_alloc w5 (.cells #[.int .i64 (-1), .int .i64 (-1)] 43) none
      have hsz : w5.heap.size < (w5.alloc (.cells #[.int .i64 (-1), .int .i64 (-1)] 43)).heap.size := by simp
      generalize w5.alloc (.cells #[.int .i64 (-1), .int .i64 (-1)] 43) = W at *
      have HV := Lib.hid (HV.out.kept hga)
      have HG6 := Lib.hid (gb_trans HG3.out hga)
      have HLB : Hid (w.heap.size ≤ w5.heap.size) := Lib.hid HG3.out.size
      have HVB : Hid (∀ a, p = some a → L ≠ [] → a.block < w5.heap.size) := Lib.hid (fun a ha h0 => by
        obtain ⟨g, off, e, hl, -⟩ := (‹Hid (VAt w5 p (L.map nv))›.out).resolve_left (by simpa using h0)
        rw [ha] at e; injection e with e; subst e; exact hl)
      generalize w5.heap.size = lb at *
      have HBX := Lib.hid hbx; have HSZ := Lib.hid hsz
      clear hbx hga hsz
      go_loopw [41] (fun i wr => ∃ (j : Nat) (D R : List Nat) (a b : Int), j ≤ k ∧ i = .int .i64 j ∧ Hid (L = D ++ R ∧ D.length = j) ∧ Hid (Ord B k a b R) ∧ Hid (wr.heap[lb]? = some (.cells #[.int .i64 b, .int .i64 a] 43 (0, 0))) ∧ Hid (Fr2 (fun i => i = lb) W wr)) (fun i _ => k - (intOf i).toNat)
      case atStart => exact ⟨0, [], L, -1, -1, by omega, rfl, Lib.hid ⟨rfl, rfl⟩, HORD, HBX, Fr2.refl _ _⟩
      case round =>
        clear HBX
        obtain ⟨j, D, R, a, b, hj, rfl, HDR, HOR, HBX, HFR⟩ := hrel
        by_cases hlt : j < k
        · cases R with
          | nil => exact absurd HDR.out.1 (fun e => by have h1 := HLK.out; have h2 := HDR.out.2; rw [e] at h1; simp at h1; omega)
          | cons x R =>
            have hor := HOR.out
            unfold Ord at hor
            obtain ⟨hxk, hor⟩ := hor
            have hvx : (L.map nv)[j]? = some (.int .i64 (x : Nat)) := by
              rw [HDR.out.1, List.map_append, List.getElem?_append_right (by rw [List.length_map]; exact Nat.le_of_eq HDR.out.2), List.length_map, HDR.out.2]
              simp [nv]
            have hL0 : L ≠ [] := fun e => by have h1 := HLK.out; rw [e] at h1; simp at h1; omega
            obtain ⟨g, off, rfl, hgl, hc⟩ := HV.out.resolve_left (by simpa using hL0)
            have hgb := HVB.out _ rfl hL0
            have hcx : wr.cell? ⟨g, off + j, none⟩ = some (.int .i64 (x : Nat)) := by
              rw [← hc j _ hvx]
              exact World.cell?_of_block (w := W) (HFR.out.block g hgl (by have := hgb; simp at this; omega))
            obtain ⟨g2, off2, rfl, hgl2, hc2⟩ := HB.out.resolve_left (by omega)
            have hcb : wr.cell? ⟨g2, off2 + x, none⟩ = some (.bool (B x)) := by
              have hb1 := (HB.out.kept HG6.out).resolve_left (by omega)
              obtain ⟨g3, off3, e, hl3, hc3⟩ := hb1
              injection e with e; injection e with e1 e2; subst e1; subst e2
              rw [← hc3 x hxk]
              exact World.cell?_of_block (w := W) (HFR.out.block g2 hl3 (by have := HLB.out; omega))
            have d1 : decide ((x : Int) < 0) = false := decide_eq_false (by omega)
            have d2 : decide ((k : Int) ≤ (x : Int)) = false := decide_eq_false (by omega)
            have d2' : decide (k ≤ x) = false := decide_eq_false (by omega)
            obtain ⟨y0, y1, y2⟩ : wr.cell? ⟨lb, 0, none⟩ = some (.int .i64 b) ∧ wr.cell? ⟨lb, 1, none⟩ = some (.int .i64 a) ∧ ∀ o, wr.frozen? ⟨lb, o, none⟩ = false :=
              ⟨by rw [cell_of_row wr lb 0 _ _ (0, 0) HBX.out]; rfl, by rw [cell_of_row wr lb 1 _ _ (0, 0) HBX.out]; rfl, fun o => by simp [World.frozen?, HBX.out]⟩
            have z0 := y2 0
            have z1 := y2 1
            have HDX : Hid (L = (D ++ [x]) ++ R ∧ (D ++ [x]).length = j + 1) := Lib.hid ⟨by rw [HDR.out.1]; simp, by simp [HDR.out.2]⟩
            clear hvx hL0 hgl hc hgb hgl2 hc2 y2
            generalize B x = bx at *
            cases bx with
            | true =>
              obtain ⟨hax, hor⟩ := hor
              have d3 : decide ((x : Int) ≤ a) = false := decide_eq_false (by omega)
              have HO2 := Lib.hid hor
              clear hor hax
              go_wp2_with fail
              go_roundw
              case rel => exact ⟨j + 1, D ++ [x], R, x, b, by omega, by go_num, HDX, HO2, Lib.hid (set_cells (i := 1) HBX.out), Lib.hid (Fr2.setCell HFR.out rfl _)⟩
              case measure => simp [intOf]; omega
            | false =>
              obtain ⟨hax, hor⟩ := hor
              have d3 : decide ((x : Int) ≤ b) = false := decide_eq_false (by omega)
              have HO2 := Lib.hid hor
              clear hor hax
              go_wp2_with fail
              go_roundw
              case rel => exact ⟨j + 1, D ++ [x], R, a, x, by omega, by go_num, HDX, HO2, Lib.hid (set_cells (i := 0) HBX.out), Lib.hid (Fr2.setCell HFR.out rfl _)⟩
              case measure => simp [intOf]; omega
        · obtain rfl : j = k := by omega
          have hkk : ((j : Int) == (j : Int)) = true := by simp
          have HFIN := Lib.hid (Fr2.after HG6.out HFR.out (fun i hi => by have := HLB.out; omega))
          go_wp2_with fail
          go_ret
          exact ⟨rfl, HFIN.out⟩

set_option maxRecDepth 100000 in
theorem order_c (pa : Option Addr) (n c : Nat) (B : Nat → Bool) (w : World) (hnm : n < 9223372036854775808) (hnc : n ≤ c) (hb : BoolsAt w pa n B) : Calls Try.prog 4 #[.slice pa n c] w (ValPost (.bool true) w) := by
  by_cases hn : n ≤ 60
  · exact order_yes pa n c B w hn hnc hb
  · have d1 : decide ((60 : Int) < n) = true := decide_eq_true (by omega)
    have d2 : decide (60 < n) = true := decide_eq_true (by omega)
    clear hb
    go_enter Try.func4, Try.ntmps4
    go_wp2_with fail
    refine (anchor_c _).mono ?_
    rintro e w0 ⟨rfl, hg0⟩
    have HG0 := Lib.hid hg0
    clear hg0
    go_wp2_with fail
    go_ret
    exact ⟨rfl, HG0.out⟩
end Go.Proofs.Ytponbjocaackcaa
