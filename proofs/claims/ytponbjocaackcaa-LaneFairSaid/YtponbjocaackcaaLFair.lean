/- The law on fairness, walked. -/
import Derived.Test.YtponbjocaackcaaLAnc
import Derived.Test.YtponbjocaackcaaLDrainS
namespace Go.Proofs.Ytponbjocaackcaa
open Go.RowKit Go.Conc

def usualV : Value := .string ⟨#[117, 115, 117, 97, 108]⟩
def urgentV : Value := .string ⟨#[117, 114, 103, 101, 110, 116]⟩
def mineV : Value := .string ⟨#[109, 105, 110, 101]⟩

/-- How many came behind the last usual one; true: a usual one. -/
def cnt : Nat → List Bool → Nat
  | n, [] => n
  | n, b :: D => cnt (if b then 0 else n + 1) D

theorem cnt_app (n : Nat) (D : List Bool) (b : Bool) : cnt n (D ++ [b]) = if b then 0 else cnt n D + 1 := by
  induction D generalizing n with
  | nil => cases b <;> rfl
  | cons a D ih => simp only [List.cons_append, cnt]; exact ih _

theorem cnt_le (n : Nat) (D : List Bool) : cnt n D ≤ n + D.length := by
  induction D generalizing n with
  | nil => simp [cnt]
  | cons a D ih =>
    cases a with
    | true => have := ih 0; show cnt 0 D ≤ n + (D.length + 1); omega
    | false => have := ih (n + 1); show cnt (n + 1) D ≤ n + (D.length + 1); omega

def sV (b : Bool) : Value := if b then usualV else urgentV

theorem drains_fair : ∀ {U S : List Value} {p : Nat} {L : List Value}, Drains U S p L → ∀ a b, U = List.replicate b urgentV → S = List.replicate a usualV ++ [mineV] → p ≤ 4 → ∃ (D : List Bool) (R : List Value), L = D.map sV ++ mineV :: R ∧ cnt p D ≤ 4 := by
  intro U S p L h
  induction h with
  | @none U S p hn =>
    intro a b hU hS hp
    exfalso
    subst hU; subst hS
    by_cases h4 : p < 4
    · cases b with
      | zero => simp only [List.replicate_zero] at hn; rw [ltake_empty] at hn; cases a <;> simp [List.replicate_succ] at hn
      | succ b => rw [List.replicate_succ, ltake_urgent h4] at hn; cases hn
    · rw [ltake_late h4] at hn; cases a <;> simp [List.replicate_succ] at hn
  | @some U S p x L hs hd ih =>
    intro a b hU hS hp
    subst hU; subst hS
    have usual : (LTake (List.replicate b urgentV) (List.replicate a usualV ++ [mineV]) p) = ((List.replicate a usualV ++ [mineV]).head?, List.replicate b urgentV, (List.replicate a usualV ++ [mineV]).tail, 0) → ∃ (D : List Bool) (R : List Value), x :: L = D.map sV ++ mineV :: R ∧ cnt p D ≤ 4 := by
      intro e
      rw [e] at hs ih
      cases a with
      | zero =>
        simp at hs
        subst hs
        exact ⟨[], L, rfl, hp⟩
      | succ a =>
        simp [List.replicate_succ] at hs
        subst hs
        obtain ⟨D, R, e2, hc⟩ := ih a b rfl (by simp [List.replicate_succ]) (Nat.zero_le _)
        exact ⟨true :: D, R, by rw [e2]; rfl, hc⟩
    by_cases h4 : p < 4
    · cases b with
      | zero => exact usual (by simp only [List.replicate_zero]; exact ltake_empty)
      | succ b =>
        rw [List.replicate_succ, ltake_urgent h4] at hs ih
        simp at hs
        subst hs
        have hne : List.replicate a usualV ++ [mineV] ≠ [] := by simp
        rw [if_neg hne] at ih
        obtain ⟨D, R, e2, hc⟩ := ih a b rfl rfl (by show p + 1 ≤ 4; omega)
        exact ⟨false :: D, R, by rw [e2]; rfl, hc⟩
    · exact usual (ltake_late h4)

theorem sv_true : ∃ s : ByteArray, sV true = .string s ∧ (s.toList == [109, 105, 110, 101]) = false ∧ (s.toList == [117, 115, 117, 97, 108]) = true := ⟨⟨#[117, 115, 117, 97, 108]⟩, rfl, by kernel_rfl, by kernel_rfl⟩
theorem sv_false : ∃ s : ByteArray, sV false = .string s ∧ (s.toList == [109, 105, 110, 101]) = false ∧ (s.toList == [117, 115, 117, 97, 108]) = false := ⟨⟨#[117, 114, 103, 101, 110, 116]⟩, rfl, by kernel_rfl, by kernel_rfl⟩

theorem rep_succ (k : Nat) (x : Value) : List.replicate (k + 1) x = List.replicate k x ++ [x] := List.replicate_succ'

set_option maxRecDepth 100000 in
set_option maxHeartbeats 8000000 in
theorem fair_yes (a b : Nat) (ha : a ≤ 20) (hb : b ≤ 40) (w : World) : Calls Try.prog 5 #[.int .i64 a, .int .i64 b] w (ValPost (.bool true) w) := by
  have d1 : decide ((a : Int) < 0) = false := decide_eq_false (by omega)
  have d2 : decide ((20 : Int) < a) = false := decide_eq_false (by omega)
  have d3 : decide ((b : Int) < 0) = false := decide_eq_false (by omega)
  have d4 : decide ((40 : Int) < b) = false := decide_eq_false (by omega)
  have HN := Lib.hid (New_c_str 60 (by omega) (by omega))
  go_enter Try.func5, Try.ntmps5
  go_wp2_with fail
  refine (anchor_c _).mono ?_
  rintro e w0 ⟨rfl, hg0⟩
  have HG0 := Lib.hid hg0
  clear hg0
  go_wp2_with fail
  refine (HN.out _).mono ?_
  rintro e w1 ⟨q, u, v, rfl, hl, hq, hu, hv, hg⟩
  have HL := Lib.hid hl; have HG := Lib.hid (gb_trans HG0.out hg); have HQ := Lib.hid (show w.heap.size ≤ q ∧ w.heap.size ≤ u ∧ w.heap.size ≤ v by have := HG0.out.size; omega)
  clear hl hg hq hu hv d1 d2 d3 d4
  go_wp2_with fail
  go_loopw [33] (fun i wr => ∃ k : Nat, k ≤ a ∧ i = .int .i64 k ∧ Hid (LaneAt 58 wr q u v 60 [] (List.replicate k usualV) 0 false) ∧ Hid (w.grownBy wr none)) (fun i _ => a - (intOf i).toNat)
  case atStart => exact ⟨0, by omega, rfl, HL, HG⟩
  case round =>
    obtain ⟨k, hk, rfl, HK, HGK⟩ := hrel
    by_cases hlt : k < a
    · have HC := Lib.hid (Offer_c_str HK.out ⟨#[117, 115, 117, 97, 108]⟩ false)
      have HO := Lib.hid (loffer_usual (room := 60) (U := []) (S := List.replicate k usualV) (x := usualV) (by simp; omega))
      go_wp2_with fail
      refine HC.out.mono ?_
      rintro e w3 ⟨rfl, hl3, hf3, -⟩
      have e0 : (Value.string ⟨#[117, 115, 117, 97, 108]⟩) = usualV := rfl
      rw [e0, HO.out] at hl3
      have HL3 := Lib.hid hl3; have HG3 := Lib.hid (Fr2.after HGK.out hf3 (fun i hi => by have := HQ.out; omega))
      clear hl3 hf3 e0
      go_wp2_with fail
      go_roundw
      case rel => exact ⟨k + 1, by omega, by go_num, Lib.hid (by rw [rep_succ]; exact HL3.out), HG3⟩
      case measure => simp [intOf]; omega
    · obtain rfl : k = a := by omega
      have HC := Lib.hid (Offer_c_str HK.out ⟨#[109, 105, 110, 101]⟩ false)
      have HO := Lib.hid (loffer_usual (room := 60) (U := []) (S := List.replicate k usualV) (x := mineV) (by simp; omega))
      clear hlt
      go_wp2_with fail
      refine HC.out.mono ?_
      rintro e w3 ⟨rfl, hl3, hf3, -⟩
      have e0 : (Value.string ⟨#[109, 105, 110, 101]⟩) = mineV := rfl
      rw [e0, HO.out] at hl3
      have HL3 := Lib.hid hl3; have HG3 := Lib.hid (Fr2.after HGK.out hf3 (fun i hi => by have := HQ.out; omega))
      clear hl3 hf3 e0 HC HO HK HGK
      go_wp2_with fail
      go_loopw [41] (fun i wr => ∃ j : Nat, j ≤ b ∧ i = .int .i64 j ∧ Hid (LaneAt 58 wr q u v 60 (List.replicate j urgentV) (List.replicate k usualV ++ [mineV]) 0 false) ∧ Hid (w.grownBy wr none)) (fun i _ => b - (intOf i).toNat)
      case atStart => exact ⟨0, by omega, rfl, HL3, HG3⟩
      case round =>
        clear HL3 HG3
        obtain ⟨j, hj, rfl, HK, HGK⟩ := hrel
        by_cases hlt : j < b
        · have HC := Lib.hid (Offer_c_str HK.out ⟨#[117, 114, 103, 101, 110, 116]⟩ true)
          have HO := Lib.hid (loffer_urgent (room := 60) (U := List.replicate j urgentV) (S := List.replicate k usualV ++ [mineV]) (x := urgentV) (by simp; omega))
          go_wp2_with fail
          refine HC.out.mono ?_
          rintro e w4 ⟨rfl, hl3, hf3, -⟩
          have e0 : (Value.string ⟨#[117, 114, 103, 101, 110, 116]⟩) = urgentV := rfl
          rw [e0, HO.out] at hl3
          have HL3 := Lib.hid hl3; have HG3 := Lib.hid (Fr2.after HGK.out hf3 (fun i hi => by have := HQ.out; omega))
          clear hl3 hf3 e0
          go_wp2_with fail
          go_roundw
          case rel => exact ⟨j + 1, by omega, by go_num, Lib.hid (by rw [rep_succ]; exact HL3.out), HG3⟩
          case measure => simp [intOf]; omega
        · obtain rfl : j = b := by omega
          obtain ⟨L, hL⟩ := drains_all _ (List.replicate j urgentV) (List.replicate k usualV ++ [mineV]) 0 (Nat.le_refl _) HK.out.good
          have hlen := Drains.len hL HK.out.good
          obtain ⟨D, R, rfl, hcnt⟩ := drains_fair hL k j rfl rfl (by omega)
          have hD : D.length + 1 + R.length ≤ 61 := by simp at hlen; omega
          have hmem : ∀ x ∈ D.map sV ++ mineV :: R, ∃ s, x = Value.string s := fun x hx => by
            rcases hL.mem x hx with h | h
            · rw [List.eq_of_mem_replicate h]; exact ⟨_, rfl⟩
            · rcases List.mem_append.1 h with h | h
              · rw [List.eq_of_mem_replicate h]; exact ⟨_, rfl⟩
              · simp at h; rw [h]; exact ⟨_, rfl⟩
          have HC := Lib.hid (Drain_c_str HK.out _ hL hmem)
          have HCNT := Lib.hid hcnt; have HDL := Lib.hid hD
          clear hlt hL hlen hcnt hD hmem
          go_wp2_with fail
          refine HC.out.mono ?_
          rintro e w5 ⟨p, c, rfl, ho, -, hf3⟩
          obtain ⟨p2, c2, he, hv, -, -⟩ := ho.is
          injection he with e1 e2 e3
          subst e1; subst e3
          obtain ⟨g, off, rfl, hgl, hc⟩ := hv.resolve_left (by simp)
          have HG3 := Lib.hid (Fr2.after HGK.out hf3 (fun i hi => by have := HQ.out; omega))
          obtain ⟨n, hn⟩ : ∃ n, (D.map sV ++ mineV :: R).length = n := ⟨_, rfl⟩
          have hn2 : D.length < n := by rw [← hn]; simp
          have hcell : ∀ i, i < D.length → w5.cell? ⟨g, off + i, none⟩ = some (sV (D.getD i true)) := fun i hi => hc i _ (by rw [List.getElem?_append_left (by simpa using hi)]; simp [List.getD, hi])
          have hmine : w5.cell? ⟨g, off + D.length, none⟩ = some mineV := hc _ _ (by rw [List.getElem?_append_right (by simp)]; simp)
          have HN2 := Lib.hid hn2; have HCELL := Lib.hid hcell; have HMINE := Lib.hid hmine
          rw [hn]
          have HNN : Hid (n ≤ 61) := Lib.hid (by rw [← hn]; have := HDL.out; simp; omega)
          clear ho hv hc hf3 e2 hgl hn hn2 hcell hmine HC HK HGK
          have hn61 : n ≤ 61 := HNN.out
          go_wp2_with fail
          go_loopw [7, 49] (fun nv i wr => ∃ (i0 : Nat), i0 ≤ D.length ∧ i = .int .i64 i0 ∧ nv = .int .i64 (cnt 0 (D.take i0) : Nat) ∧ wr = w5) (fun _ i _ => n - (intOf i).toNat)
          case atStart => exact ⟨0, by omega, rfl, by simp [cnt], rfl⟩
          case round =>
            obtain ⟨i0, hi0, rfl, rfl, rfl⟩ := hrel
            have hin : i0 < n := by have := HN2.out; omega
            by_cases hlt : i0 < D.length
            · have hck := HCELL.out i0 hlt
              have ht : D.take (i0 + 1) = D.take i0 ++ [D.getD i0 true] := by
                rw [List.take_add_one]; simp [List.getD, hlt]
              have hcl := cnt_le 0 (D.take i0)
              have hcl2 : cnt 0 (D.take i0) ≤ 61 := by simp at hcl; omega
              have HT := Lib.hid (show cnt 0 (D.take (i0 + 1)) = if D.getD i0 true then 0 else cnt 0 (D.take i0) + 1 by rw [ht, cnt_app])
              clear ht hcl
              generalize cnt 0 (D.take i0) = cn at *
              generalize D.getD i0 true = bb at *
              cases bb with
              | true =>
                obtain ⟨sx, hsx, q1, q2⟩ := sv_true
                rw [hsx] at hck
                clear hsx
                go_wp2_with fail
                go_roundw
                case rel => exact ⟨i0 + 1, by omega, by go_num, by rw [HT.out]; rfl, trivial⟩
                case measure => simp [intOf]; omega
              | false =>
                obtain ⟨sx, hsx, q1, q2⟩ := sv_false
                rw [hsx] at hck
                clear hsx
                go_wp2_with fail
                go_roundw
                case rel => exact ⟨i0 + 1, by omega, by go_num, by rw [HT.out]; exact val_of (by simp), trivial⟩
                case measure => simp [intOf]; omega
            · obtain rfl : i0 = D.length := by omega
              have hck : wr.cell? ⟨g, off + D.length, none⟩ = some (.string ⟨#[109, 105, 110, 101]⟩) := HMINE.out
              have hc4 := HCNT.out
              rw [List.take_of_length_le (Nat.le_refl _)]
              generalize cnt 0 D = cn at *
              have d5 : decide ((cn : Int) ≤ 4) = true := decide_eq_true (by omega)
              have d6 : decide (cn ≤ 4) = true := decide_eq_true hc4
              generalize D.length = dl at *
              go_wp2_with fail
              go_ret
              exact ⟨rfl, HG3.out⟩

set_option maxRecDepth 100000 in
set_option maxHeartbeats 2000000 in
theorem fair_c (a b : Int) (w : World) : Calls Try.prog 5 #[.int .i64 a, .int .i64 b] w (ValPost (.bool true) w) := by
  by_cases h1 : a < 0
  · have d1 : decide (a < 0) = true := decide_eq_true h1
    go_enter Try.func5, Try.ntmps5
    go_wp2_with fail
    refine (anchor_c _).mono ?_
    rintro e w0 ⟨rfl, hg0⟩
    have HG0 := Lib.hid hg0
    clear hg0
    go_wp2_with fail
    go_ret
    exact ⟨rfl, HG0.out⟩
  have d1 : decide (a < 0) = false := decide_eq_false h1
  by_cases h2 : 20 < a
  · have d2 : decide (20 < a) = true := decide_eq_true h2
    go_enter Try.func5, Try.ntmps5
    go_wp2_with fail
    refine (anchor_c _).mono ?_
    rintro e w0 ⟨rfl, hg0⟩
    have HG0 := Lib.hid hg0
    clear hg0
    go_wp2_with fail
    go_ret
    exact ⟨rfl, HG0.out⟩
  have d2 : decide (20 < a) = false := decide_eq_false h2
  by_cases h3 : b < 0
  · have d3 : decide (b < 0) = true := decide_eq_true h3
    go_enter Try.func5, Try.ntmps5
    go_wp2_with fail
    refine (anchor_c _).mono ?_
    rintro e w0 ⟨rfl, hg0⟩
    have HG0 := Lib.hid hg0
    clear hg0
    go_wp2_with fail
    go_ret
    exact ⟨rfl, HG0.out⟩
  have d3 : decide (b < 0) = false := decide_eq_false h3
  by_cases h4 : 40 < b
  · have d4 : decide (40 < b) = true := decide_eq_true h4
    go_enter Try.func5, Try.ntmps5
    go_wp2_with fail
    refine (anchor_c _).mono ?_
    rintro e w0 ⟨rfl, hg0⟩
    have HG0 := Lib.hid hg0
    clear hg0
    go_wp2_with fail
    go_ret
    exact ⟨rfl, HG0.out⟩
  have ea : ((a.toNat : Nat) : Int) = a := Int.toNat_of_nonneg (by omega)
  have eb : ((b.toNat : Nat) : Int) = b := Int.toNat_of_nonneg (by omega)
  rw [← ea, ← eb]
  exact fair_yes a.toNat b.toNat (by omega) (by omega) w
end Go.Proofs.Ytponbjocaackcaa
