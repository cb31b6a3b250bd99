/- Lemmas. -/
import Derived.Test.YtijpelkjeejjfaaGreatDoorP19
set_option linter.unusedVariables false
set_option linter.unusedSimpArgs false
namespace Go.Proofs.YtijpelkjeejjfaaGreatDoor
open Go.RowKit

/-- What the document's token answers; l: what stands from there on. -/
def TokPost (l : List UInt8) (p : Nat) (w : World) (e : Ending) (w' : World) : Prop :=
  w.grownBy w' none ∧ e = if wrongE (firstE l).1 (l.take (firstE l).2) ≠ 0 then .returned (.tuple #[.int .i64 0, .int .i64 0, .int .i64 (wrongE (firstE l).1 (l.take (firstE l).2) : Nat)]) else .returned (.tuple #[.int .i64 ((firstE l).1 : Nat), .int .i64 ((p + (firstE l).2 : Nat) : Int), .int .i64 0])

theorem TokPost.bad {l : List UInt8} {p : Nat} {w w' : World} {k z n : Nat} (hf : firstE l = (k, z)) (hw : wrongE k (l.take z) = n) (hn : n ≠ 0) (hg : w.grownBy w' none) : TokPost l p w (.returned (.tuple #[.int .i64 0, .int .i64 0, .int .i64 (n : Int)])) w' := by
  refine ⟨hg, ?_⟩
  rw [hf]
  simp only
  rw [hw, if_pos hn]

theorem TokPost.good {l : List UInt8} {p q : Nat} {w w' : World} {k z : Nat} (hf : firstE l = (k, z)) (hw : wrongE k (l.take z) = 0) (hq : q = p + z) (hg : w.grownBy w' none) : TokPost l p w (.returned (.tuple #[.int .i64 (k : Int), .int .i64 (q : Int), .int .i64 0])) w' := by
  refine ⟨hg, ?_⟩
  rw [hf, hq]
  simp only
  rw [hw, if_neg (by simp)]

theorem tok_long {l r : List UInt8} {a : UInt8} {z : Nat} (hl : l = a :: r) (ha : isLet a = true) (hz : runN inW l = z) (h40 : 40 < z) : firstE l = (1, z) ∧ wrongE 1 (l.take z) = 20 := by
  have hlen : (l.take z).length = z := by rw [List.length_take]; have := runN_le inW l; omega
  have hk : keysL.contains (l.take z) = false := by
    rw [← Bool.not_eq_true]; intro h
    have := keysL_len _ h; omega
  refine ⟨?_, ?_⟩
  · rw [hl, firstE_cons, if_pos ha, ← hl, hz, hk]; rfl
  · unfold wrongE; rw [if_pos (.inr ⟨rfl, by omega⟩)]

theorem tok_word {l r : List UInt8} {a : UInt8} {z : Nat} {kk : Bool} (hl : l = a :: r) (ha : isLet a = true) (hz : runN inW l = z) (h40 : z ≤ 40) (hk : keysL.contains (l.take z) = kk) : firstE l = (if kk then 2 else 1, z) ∧ wrongE (if kk then 2 else 1) (l.take z) = 0 := by
  have hlen : (l.take z).length = z := by rw [List.length_take]; have := runN_le inW l; omega
  refine ⟨?_, ?_⟩
  · rw [hl, firstE_cons, if_pos ha, ← hl, hz, hk]
  · unfold wrongE; cases kk
    · rw [if_neg (by simp; omega), if_neg (by simp)]
    · simp

theorem tok_dig {l r : List UInt8} {a : UInt8} {z : Nat} (hl : l = a :: r) (ha : isLet a = false) (hd : isDig a = true) (hz : runN isDig l = z) : firstE l = (3, z) ∧ wrongE 3 (l.take z) = if 60 < z ∨ 1 < z ∧ a = 48 then 21 else 0 := by
  have hlen : (l.take z).length = z := by rw [List.length_take]; have := runN_le isDig l; omega
  have hz0 : 0 < z := by rw [← hz, hl]; simp [runN, hd]
  refine ⟨?_, ?_⟩
  · rw [hl, firstE_cons, if_neg (by simp [ha]), if_pos hd, ← hl, hz]
  · have hh : (l.take z).head? = some a := by
      obtain ⟨z, rfl⟩ : ∃ y, z = y + 1 := ⟨z - 1, by omega⟩
      rw [hl]; rfl
    unfold wrongE
    rw [hlen, hh, if_neg (by simp)]
    simp

theorem tok_sign {l r : List UInt8} {a : UInt8} {z : Nat} (hl : l = a :: r) (ha : isLet a = false) (hd : isDig a = false) (hz : signN l = z) : (z = 0 → firstE l = (0, 0) ∧ wrongE 0 (l.take 0) = 20) ∧ (0 < z → firstE l = (4, z) ∧ wrongE 4 (l.take z) = 0) := by
  refine ⟨fun h => ?_, fun h => ?_⟩
  · refine ⟨?_, by simp [wrongE]⟩
    rw [hl, firstE_cons, if_neg (by simp [ha]), if_neg (by simp [hd]), ← hl, hz, if_neg (by omega)]
  · refine ⟨?_, by simp [wrongE]⟩
    rw [hl, firstE_cons, if_neg (by simp [ha]), if_neg (by simp [hd]), ← hl, hz, if_pos h]

set_option maxRecDepth 100000 in
set_option maxHeartbeats 8000000 in
theorem rtoken_c (s : ByteArray) (p : Nat) (w : World) (hs : s.size ≤ 1000000) (hp : p < s.size) : Calls Tryz.prog 80 #[.string s, .int .i64 (p : Int)] w (TokPost (s.data.toList.drop p) p w) := by
  have hd := drop_at hp
  have HLE := Lib.hid (fun b W => rletter_c b W)
  have HDI := Lib.hid (fun b W => rdigit_c b W)
  have HL := Lib.hid (rletter_c s[p] w)
  have HD := Lib.hid (rdigit_c s[p] w)
  cases hx : isLet s[p]
  · rw [hx] at HL
    cases hy : isDig s[p]
    · rw [hy] at HD
      have HS := Lib.hid (rsign_c s p w hs hp)
      obtain ⟨z, hz⟩ : ∃ z, signN (s.data.toList.drop p) = z := ⟨_, rfl⟩
      rw [hz] at HS
      have hzl : z ≤ 2 := by rw [← hz]; exact signN_le2 _
      have HT := Lib.hid (tok_sign hd hx hy hz)
      clear hx hy hz hd HLE HDI
      by_cases hz0 : z = 0
      · have HR := Lib.hid (HT.out.1 hz0)
        subst hz0
        clear HT
        go_enter Tryz.func80, Tryz.ntmps80
        go_wp2_with fail
        refine HL.out.mono ?_
        rintro e w1 ⟨rfl, rfl⟩
        go_wp2_with fail
        refine HD.out.mono ?_
        rintro e w1 ⟨rfl, rfl⟩
        go_wp2_with fail
        refine HS.out.mono ?_
        rintro e w1 ⟨rfl, hg⟩
        have HG := Lib.hid hg
        clear hg
        go_wp2_with fail
        go_ret3
        exact TokPost.bad HR.out.1 HR.out.2 (by decide) HG.out
      · have HR := Lib.hid (HT.out.2 (by omega))
        have hw1 : IntKind.i64.wrap ((p : Int) + (z : Int)) = (p : Int) + (z : Int) := IntWalk.i64_in _ (by omega)
        have d1 : ((z : Int) == 0) = false := beq_eq_false_iff_ne.2 (by omega)
        have d1' : (z == 0) = false := beq_eq_false_iff_ne.2 hz0
        clear HT
        go_enter Tryz.func80, Tryz.ntmps80
        go_wp2_with fail
        refine HL.out.mono ?_
        rintro e w1 ⟨rfl, rfl⟩
        go_wp2_with fail
        refine HD.out.mono ?_
        rintro e w1 ⟨rfl, rfl⟩
        go_wp2_with fail
        refine HS.out.mono ?_
        rintro e w1 ⟨rfl, hg⟩
        have HG := Lib.hid hg
        clear hg
        go_wp2_with fail
        go_ret3
        exact TokPost.good (q := p + z) HR.out.1 HR.out.2 rfl HG.out
    · rw [hy] at HD
      obtain ⟨V, hV⟩ : ∃ V, p + runN isDig (s.data.toList.drop p) = V := ⟨_, rfl⟩
      have HV := Lib.hid hV
      have HT := Lib.hid (tok_dig hd hx hy rfl)
      clear hx hy hd hV
      go_enter Tryz.func80, Tryz.ntmps80
      go_wp2_with fail
      refine HL.out.mono ?_
      rintro e w1 ⟨rfl, rfl⟩
      go_wp2_with fail
      refine HD.out.mono ?_
      rintro e w1 ⟨rfl, rfl⟩
      go_wp2_with fail
      clear HL HD
      go_loopw [7] (fun i wr => ∃ q : Nat, p ≤ q ∧ q ≤ s.size ∧ i = .int .i64 q ∧ Hid (q + runN isDig (s.data.toList.drop q) = V) ∧ wr = w) (fun i _ => s.size - (intOf i).toNat)
      case atStart => exact ⟨p, Nat.le_refl _, by omega, rfl, HV, rfl⟩
      case round =>
        obtain ⟨q, hpq, hq, rfl, HVQ, rfl⟩ := hrel
        by_cases hlt : q < s.size
        · have d1 : decide ((q : Int) < (s.size : Int)) = true := decide_eq_true (by omega)
          have d1' : decide (q < s.size) = true := decide_eq_true hlt
          have hdq := drop_at hlt
          have HB := Lib.hid (HDI.out s[q] wr)
          cases hyq : isDig s[q]
          · rw [hyq] at HB
            have HQ : Hid (q = V) := Lib.hid (by rw [← HVQ.out, hdq]; simp [runN, hyq])
            clear hyq hdq
            go_wp2_with fail
            refine HB.out.mono ?_
            rintro e w1 ⟨rfl, rfl⟩
            clear d1 d1'
            obtain ⟨z, rfl⟩ : ∃ z, q = p + z := ⟨q - p, by omega⟩
            have HR : Hid (firstE (s.data.toList.drop p) = (3, z) ∧ wrongE 3 ((s.data.toList.drop p).take z) = if 60 < z ∨ 1 < z ∧ s[p] = 48 then 21 else 0) := Lib.hid (by
              have hz : runN isDig (s.data.toList.drop p) = z := by have h1 := HV.out; have h2 := HQ.out; omega
              have := HT.out
              rw [hz] at this; exact this)
            clear HQ HVQ HV HT
            by_cases h1 : 60 < z
            · have e1 : decide ((60 : Int) < (z : Int)) = true := decide_eq_true (by omega)
              have e1' : decide (60 < z) = true := decide_eq_true h1
              go_wp2_with fail
              go_ret3
              exact TokPost.bad HR.out.1 (by rw [HR.out.2, if_pos (.inl h1)]) (by decide) (gb_refl _ _)
            · have e1 : decide ((60 : Int) < (z : Int)) = false := decide_eq_false (by omega)
              have e1' : decide (60 < z) = false := decide_eq_false h1
              by_cases h2 : 1 < z
              · have e2 : decide ((1 : Int) < (z : Int)) = true := decide_eq_true (by omega)
                have e2' : decide (1 < z) = true := decide_eq_true h2
                by_cases h3 : s[p] = 48
                · have e3 : ((s[p].toNat : Int) == 48) = true := byte_eq 48 rfl h3
                  have HX : Hid (wrongE 3 ((s.data.toList.drop p).take z) = 21) := Lib.hid (by rw [HR.out.2, if_pos (.inr ⟨h2, h3⟩)])
                  clear h3
                  go_wp2_with fail
                  go_ret3
                  exact TokPost.bad HR.out.1 HX.out (by decide) (gb_refl _ _)
                · have e3 : ((s[p].toNat : Int) == 48) = false := byte_ne 48 rfl h3
                  have HX : Hid (wrongE 3 ((s.data.toList.drop p).take z) = 0) := Lib.hid (by rw [HR.out.2, if_neg (fun h => by rcases h with h | h; exact h1 h; exact h3 h.2)])
                  clear h3
                  go_wp2_with fail
                  go_ret3
                  exact TokPost.good (q := p + z) HR.out.1 HX.out rfl (gb_refl _ _)
              · have e2 : decide ((1 : Int) < (z : Int)) = false := decide_eq_false (by omega)
                have e2' : decide (1 < z) = false := decide_eq_false h2
                have HX : Hid (wrongE 3 ((s.data.toList.drop p).take z) = 0) := Lib.hid (by rw [HR.out.2, if_neg (by omega)])
                go_wp2_with fail
                go_ret3
                exact TokPost.good (q := p + z) HR.out.1 HX.out rfl (gb_refl _ _)
          · rw [hyq] at HB
            have HV2 : Hid (q + 1 + runN isDig (s.data.toList.drop (q + 1)) = V) := Lib.hid (by rw [← HVQ.out, hdq]; simp [runN, hyq]; omega)
            have hw1 : IntKind.i64.wrap ((q : Int) + 1) = (q : Int) + 1 := IntWalk.i64_in _ (by omega)
            clear hyq hdq
            go_wp2_with fail
            refine HB.out.mono ?_
            rintro e w1 ⟨rfl, rfl⟩
            go_wp2_with fail
            go_roundw
            case rel => exact ⟨q + 1, by omega, by omega, by go_num, HV2, by first | rfl | trivial⟩
            case measure => (simp [intOf] <;> omega)
        · have d1 : decide ((q : Int) < (s.size : Int)) = false := decide_eq_false (by omega)
          have d1' : decide (q < s.size) = false := decide_eq_false hlt
          have HQ : Hid (q = V) := Lib.hid (by rw [← HVQ.out, drop_end (by omega)]; rfl)
          obtain ⟨z, rfl⟩ : ∃ z, q = p + z := ⟨q - p, by omega⟩
          have HR : Hid (firstE (s.data.toList.drop p) = (3, z) ∧ wrongE 3 ((s.data.toList.drop p).take z) = if 60 < z ∨ 1 < z ∧ s[p] = 48 then 21 else 0) := Lib.hid (by
            have hz : runN isDig (s.data.toList.drop p) = z := by have h1 := HV.out; have h2 := HQ.out; omega
            have := HT.out
            rw [hz] at this; exact this)
          clear HQ HVQ HV HT
          by_cases h1 : 60 < z
          · have e1 : decide ((60 : Int) < (z : Int)) = true := decide_eq_true (by omega)
            have e1' : decide (60 < z) = true := decide_eq_true h1
            go_wp2_with fail
            go_ret3
            exact TokPost.bad HR.out.1 (by rw [HR.out.2, if_pos (.inl h1)]) (by decide) (gb_refl _ _)
          · have e1 : decide ((60 : Int) < (z : Int)) = false := decide_eq_false (by omega)
            have e1' : decide (60 < z) = false := decide_eq_false h1
            by_cases h2 : 1 < z
            · have e2 : decide ((1 : Int) < (z : Int)) = true := decide_eq_true (by omega)
              have e2' : decide (1 < z) = true := decide_eq_true h2
              by_cases h3 : s[p] = 48
              · have e3 : ((s[p].toNat : Int) == 48) = true := byte_eq 48 rfl h3
                have HX : Hid (wrongE 3 ((s.data.toList.drop p).take z) = 21) := Lib.hid (by rw [HR.out.2, if_pos (.inr ⟨h2, h3⟩)])
                clear h3
                go_wp2_with fail
                go_ret3
                exact TokPost.bad HR.out.1 HX.out (by decide) (gb_refl _ _)
              · have e3 : ((s[p].toNat : Int) == 48) = false := byte_ne 48 rfl h3
                have HX : Hid (wrongE 3 ((s.data.toList.drop p).take z) = 0) := Lib.hid (by rw [HR.out.2, if_neg (fun h => by rcases h with h | h; exact h1 h; exact h3 h.2)])
                clear h3
                go_wp2_with fail
                go_ret3
                exact TokPost.good (q := p + z) HR.out.1 HX.out rfl (gb_refl _ _)
            · have e2 : decide ((1 : Int) < (z : Int)) = false := decide_eq_false (by omega)
              have e2' : decide (1 < z) = false := decide_eq_false h2
              have HX : Hid (wrongE 3 ((s.data.toList.drop p).take z) = 0) := Lib.hid (by rw [HR.out.2, if_neg (by omega)])
              go_wp2_with fail
              go_ret3
              exact TokPost.good (q := p + z) HR.out.1 HX.out rfl (gb_refl _ _)
  · rw [hx] at HL
    obtain ⟨V, hV⟩ : ∃ V, p + runN inW (s.data.toList.drop p) = V := ⟨_, rfl⟩
    have HV := Lib.hid hV
    have HT : Hid (s.data.toList.drop p = s[p] :: s.data.toList.drop (p + 1) ∧ isLet s[p] = true) := Lib.hid ⟨hd, hx⟩
    clear hx hd hV HD
    go_enter Tryz.func80, Tryz.ntmps80
    go_wp2_with fail
    refine HL.out.mono ?_
    rintro e w1 ⟨rfl, rfl⟩
    go_wp2_with fail
    clear HL
    go_loopw [7] (fun i wr => ∃ q : Nat, p ≤ q ∧ q ≤ s.size ∧ i = .int .i64 q ∧ Hid (q + runN inW (s.data.toList.drop q) = V) ∧ wr = w) (fun i _ => s.size - (intOf i).toNat)
    case atStart => exact ⟨p, Nat.le_refl _, by omega, rfl, HV, rfl⟩
    case round =>
      obtain ⟨q, hpq, hq, rfl, HVQ, rfl⟩ := hrel
      by_cases hlt : q < s.size
      · have d1 : decide ((q : Int) < (s.size : Int)) = true := decide_eq_true (by omega)
        have d1' : decide (q < s.size) = true := decide_eq_true hlt
        have hdq := drop_at hlt
        have HBL := Lib.hid (HLE.out s[q] wr)
        have HBD := Lib.hid (HDI.out s[q] wr)
        have hw1 : IntKind.i64.wrap ((q : Int) + 1) = (q : Int) + 1 := IntWalk.i64_in _ (by omega)
        cases hxq : isLet s[q]
        · rw [hxq] at HBL
          cases hyq : isDig s[q]
          · rw [hyq] at HBD
            by_cases h95 : s[q] = 95
            · have d2 : ((s[q].toNat : Int) == 95) = true := byte_eq 95 rfl h95
              have HV2 : Hid (q + 1 + runN inW (s.data.toList.drop (q + 1)) = V) := Lib.hid (by rw [← HVQ.out, hdq]; simp [runN, inW, h95]; omega)
              clear hdq hxq hyq h95
              go_wp2_with fail
              refine HBL.out.mono ?_
              rintro e w1 ⟨rfl, rfl⟩
              go_wp2_with fail
              refine HBD.out.mono ?_
              rintro e w1 ⟨rfl, rfl⟩
              go_wp2_with fail
              go_roundw
              case rel => exact ⟨q + 1, by omega, by omega, by go_num, HV2, by first | rfl | trivial⟩
              case measure => (simp [intOf] <;> omega)
            · have d2 : ((s[q].toNat : Int) == 95) = false := byte_ne 95 rfl h95
              have HQ : Hid (q = V) := Lib.hid (by rw [← HVQ.out, hdq]; simp [runN, inW, hxq, hyq, h95])
              clear hdq hxq hyq h95
              go_wp2_with fail
              refine HBL.out.mono ?_
              rintro e w1 ⟨rfl, rfl⟩
              go_wp2_with fail
              refine HBD.out.mono ?_
              rintro e w1 ⟨rfl, rfl⟩
              obtain ⟨z, rfl⟩ : ∃ z, q = p + z := ⟨q - p, by omega⟩
              have hz : runN inW (s.data.toList.drop p) = z := by have h1 := HV.out; have h2 := HQ.out; omega
              by_cases h1 : 40 < z
              · have e1 : decide ((40 : Int) < (z : Int)) = true := decide_eq_true (by omega)
                have e1' : decide (40 < z) = true := decide_eq_true h1
                have HR := Lib.hid (tok_long HT.out.1 HT.out.2 hz h1)
                clear HQ HVQ HV HT hz
                go_wp2_with fail
                go_ret3
                exact TokPost.bad HR.out.1 HR.out.2 (by decide) (gb_refl _ _)
              · have e1 : decide ((40 : Int) < (z : Int)) = false := decide_eq_false (by omega)
                have e1' : decide (40 < z) = false := decide_eq_false h1
                have HK := Lib.hid (rkey_c (s.extract p (p + z)) wr)
                rw [ext_take] at HK
                have HR := Lib.hid (tok_word HT.out.1 HT.out.2 hz (by omega) (Eq.refl (keysL.contains ((s.data.toList.drop p).take z))))
                generalize keysL.contains ((s.data.toList.drop p).take z) = kk at *
                clear HQ HVQ HV HT hz
                cases kk
                · go_wp2_with fail
                  refine HK.out.mono ?_
                  rintro e w1 ⟨rfl, hg⟩
                  have HG := Lib.hid hg
                  clear hg
                  go_wp2_with fail
                  go_ret3
                  exact TokPost.good (q := p + z) HR.out.1 HR.out.2 rfl HG.out
                · go_wp2_with fail
                  refine HK.out.mono ?_
                  rintro e w1 ⟨rfl, hg⟩
                  have HG := Lib.hid hg
                  clear hg
                  go_wp2_with fail
                  go_ret3
                  exact TokPost.good (q := p + z) HR.out.1 HR.out.2 rfl HG.out
          · rw [hyq] at HBD
            have HV2 : Hid (q + 1 + runN inW (s.data.toList.drop (q + 1)) = V) := Lib.hid (by rw [← HVQ.out, hdq]; simp [runN, inW, hyq]; omega)
            clear hdq hxq hyq
            go_wp2_with fail
            refine HBL.out.mono ?_
            rintro e w1 ⟨rfl, rfl⟩
            go_wp2_with fail
            refine HBD.out.mono ?_
            rintro e w1 ⟨rfl, rfl⟩
            go_wp2_with fail
            go_roundw
            case rel => exact ⟨q + 1, by omega, by omega, by go_num, HV2, by first | rfl | trivial⟩
            case measure => (simp [intOf] <;> omega)
        · rw [hxq] at HBL
          have HV2 : Hid (q + 1 + runN inW (s.data.toList.drop (q + 1)) = V) := Lib.hid (by rw [← HVQ.out, hdq]; simp [runN, inW, hxq]; omega)
          clear hdq hxq
          go_wp2_with fail
          refine HBL.out.mono ?_
          rintro e w1 ⟨rfl, rfl⟩
          go_wp2_with fail
          go_roundw
          case rel => exact ⟨q + 1, by omega, by omega, by go_num, HV2, by first | rfl | trivial⟩
          case measure => (simp [intOf] <;> omega)
      · have d1 : decide ((q : Int) < (s.size : Int)) = false := decide_eq_false (by omega)
        have d1' : decide (q < s.size) = false := decide_eq_false hlt
        have HQ : Hid (q = V) := Lib.hid (by rw [← HVQ.out, drop_end (by omega)]; rfl)
        obtain ⟨z, rfl⟩ : ∃ z, q = p + z := ⟨q - p, by omega⟩
        have hz : runN inW (s.data.toList.drop p) = z := by have h1 := HV.out; have h2 := HQ.out; omega
        by_cases h1 : 40 < z
        · have e1 : decide ((40 : Int) < (z : Int)) = true := decide_eq_true (by omega)
          have e1' : decide (40 < z) = true := decide_eq_true h1
          have HR := Lib.hid (tok_long HT.out.1 HT.out.2 hz h1)
          clear HQ HVQ HV HT hz
          go_wp2_with fail
          go_ret3
          exact TokPost.bad HR.out.1 HR.out.2 (by decide) (gb_refl _ _)
        · have e1 : decide ((40 : Int) < (z : Int)) = false := decide_eq_false (by omega)
          have e1' : decide (40 < z) = false := decide_eq_false h1
          have HK := Lib.hid (rkey_c (s.extract p (p + z)) wr)
          rw [ext_take] at HK
          have HR := Lib.hid (tok_word HT.out.1 HT.out.2 hz (by omega) (Eq.refl (keysL.contains ((s.data.toList.drop p).take z))))
          generalize keysL.contains ((s.data.toList.drop p).take z) = kk at *
          clear HQ HVQ HV HT hz
          cases kk
          · go_wp2_with fail
            refine HK.out.mono ?_
            rintro e w1 ⟨rfl, hg⟩
            have HG := Lib.hid hg
            clear hg
            go_wp2_with fail
            go_ret3
            exact TokPost.good (q := p + z) HR.out.1 HR.out.2 rfl HG.out
          · go_wp2_with fail
            refine HK.out.mono ?_
            rintro e w1 ⟨rfl, hg⟩
            have HG := Lib.hid hg
            clear hg
            go_wp2_with fail
            go_ret3
            exact TokPost.good (q := p + z) HR.out.1 HR.out.2 rfl HG.out
end Go.Proofs.YtijpelkjeejjfaaGreatDoor
