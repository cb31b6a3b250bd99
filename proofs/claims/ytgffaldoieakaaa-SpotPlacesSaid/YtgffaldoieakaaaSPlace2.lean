/- Place. -/
import Derived.Test.YtgffaldoieakaaaSPlace
namespace Go.Proofs.Ytgffaldoieakaaa
open Go.RowKit

/-- At, at any number. -/
def AtAny (s : ByteArray) (pl : Int) (w : World) (e : Ending) (w' : World) : Prop :=
  w.grownBy w' none ∧ ((∃ j : Nat, j ≤ s.size ∧ pl = (j : Int) ∧ e = .returned (.tuple #[.agg #[.int .i64 ((atL (s.data.toList.take j)).1 : Nat), .int .i64 ((atL (s.data.toList.take j)).2 : Nat)], .int .i64 0])) ∨ ((pl < 0 ∨ (s.size : Int) < pl) ∧ e = .returned (.tuple #[.agg #[.int .i64 0, .int .i64 0], .int .i64 12])))

theorem at_any (s : ByteArray) (pl : Int) (w : World) (hs : s.size ≤ 300) : Calls Try.prog 9 #[.string s, .int .i64 pl] w (AtAny s pl w) := by
  by_cases h : pl < 0 ∨ (s.size : Int) < pl
  · refine (at_bad s pl w hs h).mono ?_
    rintro e w' ⟨he, hg⟩
    exact ⟨hg, .inr ⟨h, he⟩⟩
  · obtain ⟨j, rfl⟩ : ∃ j : Nat, pl = j := ⟨pl.toNat, by omega⟩
    refine (at_ok s j w hs (by omega)).mono ?_
    rintro e w' ⟨he, hg⟩
    exact ⟨hg, .inl ⟨j, by omega, rfl, he⟩⟩

def IsAt (s : ByteArray) (i : Nat) (l b : Int) : Prop := i ≤ s.size ∧ ((atL (s.data.toList.take i)).1 : Int) = l ∧ ((atL (s.data.toList.take i)).2 : Int) = b

def PlacePost (s : ByteArray) (l b : Int) (w : World) (e : Ending) (w' : World) : Prop :=
  w.grownBy w' none ∧ ((∃ i : Nat, IsAt s i l b ∧ e = .returned (.tuple #[.int .i64 (i : Nat), .int .i64 0])) ∨ ((∀ i, ¬ IsAt s i l b) ∧ e = .returned (.tuple #[.int .i64 0, .int .i64 12])))

set_option maxRecDepth 100000 in
set_option maxHeartbeats 4000000 in
theorem place_c (s : ByteArray) (l b : Int) (w : World) (hs : s.size ≤ 300) (h0 : -9223372036854775808 ≤ l) (h1 : l < 9223372036854775808) :
    Calls Try.prog 11 #[.string s, .agg #[.int .i64 l, .int .i64 b]] w (PlacePost s l b w) := by
  have HST := Lib.hid (fun W => start_c s l W hs h0 h1)
  have HAT := Lib.hid (fun pl W => at_any s pl W hs)
  have HB := Lib.hid (heap_alloc_new w (.cells #[.int .i64 l, .int .i64 b] 23))
  have HG := Lib.hid (World.grownBy_alloc w (.cells #[.int .i64 l, .int .i64 b] 23) none)
  have hL : s.data.toList.length = s.size := Array.length_toList
  have HL := Lib.hid hL
  obtain ⟨b0, b1, b2⟩ := cells2 HB.out
  clear h0 h1 hL b2
  go_enter Try.func11, Try.ntmps11
  go_wp2_with fail
  generalize w.alloc (.cells #[.int .i64 l, .int .i64 b] 23) = W1 at *
  refine (HST.out _).mono ?_
  rintro e w' ⟨hst, rfl⟩
  rcases hst with ⟨st, rfl, g1, g2, g3, g4, -, -⟩ | ⟨rfl, g1⟩
  · have HSTART : Hid (∀ i, IsAt s i l b → (st : Int) + b = i + 1) := Lib.hid fun i ⟨i1, i2, i3⟩ => by
      have := atL_start s.data.toList (i := i) (st := st) (by rw [HL.out]; exact i1) (by rw [HL.out]; exact g2) (by
        refine Prod.ext ?_ g4
        have : ((atL (s.data.toList.take st)).1 : Int) = ((atL (s.data.toList.take i)).1 : Int) := by rw [g3, i2]
        exact Int.ofNat.inj this)
      omega
    have hst3 : st ≤ 300 := by omega
    clear g1 g2 g3 g4
    go_wp2_with fail
    obtain ⟨pz, hpz⟩ : ∃ pz, wrap64 (wrap64 ((st : Int) + b) - 1) = pz := ⟨_, rfl⟩
    rw [hpz]
    have HPZ : Hid (∀ i, IsAt s i l b → pz = (i : Int)) := Lib.hid fun i hi => by
      have h1 := HSTART.out i hi
      have h2 : i ≤ s.size := hi.1
      rw [h1] at hpz
      have e1 : wrap64 ((i : Int) + 1) = (i : Int) + 1 := by unfold wrap64; omega
      have e2 : wrap64 ((i : Int) + 1 - 1) = (i : Int) + 1 - 1 := by unfold wrap64; omega
      rw [e1, e2] at hpz
      omega
    clear hpz HSTART hst3
    refine (HAT.out pz _).mono ?_
    rintro e w2 ⟨hg2, h2⟩
    have HG2 := Lib.hid (gb_trans HG.out hg2)
    have hb0 := hg2.cell b0 (by simp)
    have hb1 := hg2.cell b1 (by simp)
    rcases h2 with ⟨j, hj, rfl, rfl⟩ | ⟨hbad, rfl⟩
    · obtain ⟨⟨ln, by'⟩, hat⟩ : ∃ x, atL (s.data.toList.take j) = x := ⟨_, rfl⟩
      rw [hat]
      have HAJ := Lib.hid hat; have HJ := Lib.hid hj
      have HBX := Lib.hid (heap_alloc_new w2 (.cells #[.int .i64 (ln : Nat), .int .i64 (by' : Nat)] 23))
      obtain ⟨y0, y1, -⟩ := cells2 HBX.out
      have hga := World.grownBy_alloc w2 (.cells #[.int .i64 (ln : Nat), .int .i64 (by' : Nat)] 23) none
      have x0 := hga.cell hb0 (by simp)
      have x1 := hga.cell hb1 (by simp)
      have HG3 := Lib.hid (gb_trans HG2.out hga)
      simp only
      clear hga hat hj hg2 b0 b1 HST HAT HB
      by_cases q1 : (ln : Int) = l
      · by_cases q2 : (by' : Int) = b
        · subst q1; subst q2
          go_wp2_with fail
          go_ret2
          exact ⟨HG3.out, .inl ⟨j, ⟨HJ.out, by rw [HAJ.out], by rw [HAJ.out]⟩, rfl⟩⟩
        · subst q1
          have q3 : ((by' : Int) == b) = false := by simpa using q2
          have q4 : ¬ (b = (by' : Int)) := fun h => q2 h.symm
          have HNO : Hid (∀ i, ¬ IsAt s i (ln : Int) b) := Lib.hid fun i hi => by
            have h1 := HPZ.out i hi
            have : j = i := by omega
            subst this
            have := hi.2.2
            rw [HAJ.out] at this
            exact q2 this
          go_wp2_with fail
          go_ret2
          exact ⟨HG3.out, .inr ⟨HNO.out, rfl⟩⟩
      · have q3 : ((ln : Int) == l) = false := by simpa using q1
        have HNO : Hid (∀ i, ¬ IsAt s i l b) := Lib.hid fun i hi => by
          have h1 := HPZ.out i hi
          have : j = i := by omega
          subst this
          have := hi.2.1
          rw [HAJ.out] at this
          exact q1 this
        go_wp2_with fail
        go_ret2
        exact ⟨HG3.out, .inr ⟨HNO.out, rfl⟩⟩
    · have HNO : Hid (∀ i, ¬ IsAt s i l b) := Lib.hid fun i hi => by
        have h1 := HPZ.out i hi
        have := hi.1
        omega
      have HG3 := Lib.hid (gb_trans HG2.out (World.grownBy_alloc w2 (.cells #[.int .i64 0, .int .i64 0] 23) none))
      clear hbad hg2 HST HAT HB
      go_wp2_with fail
      go_ret2
      exact ⟨HG3.out, .inr ⟨HNO.out, rfl⟩⟩
  · have HNO : Hid (∀ i, ¬ IsAt s i l b) := Lib.hid fun i ⟨i1, i2, i3⟩ => by
      rcases g1 with g1 | ⟨-, g1⟩
      · have := (atL_pos s.data.toList i (by rw [HL.out]; exact i1)).1; omega
      · have := g1 i i1; omega
    clear g1
    go_wp2_with fail
    go_ret2
    exact ⟨HG.out, .inr ⟨HNO.out, rfl⟩⟩
end Go.Proofs.Ytgffaldoieakaaa
