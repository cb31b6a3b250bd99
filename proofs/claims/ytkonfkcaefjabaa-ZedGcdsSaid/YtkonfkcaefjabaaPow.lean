/- Int: powers. -/
import Derived.Test.YtkonfkcaefjabaaInt10
import Derived.Test.YtkonfkcaefjabaaInt6
import Derived.Test.YtkonfkcaefjabaaDm
import Derived.Test.YtkonfkcaefjabaaParse2
namespace Go.Proofs.Ytkonfkcaefjabaa
open Go.RowKit Mx

def PowPost (X n : Int) (w : World) (e : Ending) (w' : World) : Prop :=
  ∃ x E, e = .returned (.tuple #[x, .int .i64 E]) ∧ w.grownBy w' none ∧ ((n < 0 ∨ 1000 < n) → E = 12 ∧ IsInt w' x 0) ∧ (0 ≤ n → n ≤ 1000 → E = 0 ∧ IsInt w' x (X ^ n.toNat))

/-- What lies behind the rounds. -/
def PowRel (W : World) (X : Int) (x : Value) (q k : Nat) (wr : World) : Prop :=
  ∃ (s : Bool) (p : Option Addr) (n c : Nat), wr.heap[q]? = some (.cells #[.bool s, .slice p n c] 25 (0, 0)) ∧ IsInt wr (.agg #[.bool s, .slice p n c]) (X ^ k) ∧ IsInt wr x X ∧ W.grownBy wr (some q)

theorem pow_bad {X n : Int} {w w' : World} (hn : n < 0 ∨ 1000 < n) (hg : w.grownBy w' none) : PowPost X n w (.returned (.tuple #[.agg #[.bool false, .slice none 0 0], .int .i64 12])) w' :=
  ⟨_, _, rfl, hg, fun _ => ⟨rfl, zero_int _⟩, fun h1 h2 => by omega⟩

theorem zbox_alloc2 (w : World) (o1 o2 o3 : Obj) {w3 : World} (hg : ((w.alloc o1).alloc o2).grownBy w3 none) : (w3.alloc o3).heap[w.heap.size + 1]? = some o2 := by
  have t := top2 w o1 o2
  have h1 := (Array.getElem?_eq_some_iff.1 t).1
  have h2 := (hg.block _ h1 (by simp)).trans t
  have h3 := (Array.getElem?_eq_some_iff.1 h2).1
  exact ((World.grownBy_alloc w3 o3 none).block _ h3 (by simp)).trans h2

theorem zbox_alloc1 (w : World) (o1 o2 o3 : Obj) {w3 : World} (hg : ((w.alloc o1).alloc o2).grownBy w3 none) : (w3.alloc o3).heap[w.heap.size]? = some o1 := by
  have t := top1 w o1
  have t2 := ((World.grownBy_alloc (w.alloc o1) o2 none).block _ (Array.getElem?_eq_some_iff.1 t).1 (by simp)).trans t
  have h1 := (Array.getElem?_eq_some_iff.1 t2).1
  have h2 := (hg.block _ h1 (by simp)).trans t2
  have h3 := (Array.getElem?_eq_some_iff.1 h2).1
  exact ((World.grownBy_alloc w3 o3 none).block _ h3 (by simp)).trans h2

theorem gb_row {a b : World} {row : Option Nat} (h : a.grownBy b none) : a.grownBy b row := ⟨h.os, h.tape, h.output, h.size, fun k hk _ => h.block k hk (by simp)⟩

set_option maxHeartbeats 4000000 in
theorem Pow_c (x : Value) (X n : Int) (w : World) (hx : IsInt w x X) (hn1 : -9223372036854775808 ≤ n) (hn2 : n ≤ 9223372036854775807) (hX : X.natAbs < Lim) (hP : ∀ k : Nat, (k : Int) ≤ n → k ≤ 1000 → (X ^ k).natAbs < Lim) :
    Calls Try.prog 36 #[x, .int .i64 n] w (PowPost X n w) := by
  obtain ⟨s, p, l, c, rfl, HX⟩ := int_parts hx
  have hgb : w.grownBy ((w.alloc (.cells #[.bool s, .slice p l c] 25)).alloc (.cells #[.bool false, .slice none 0 0] 25)) none := gb_alloc (gb_alloc (gb_refl w none) _) _
  have HGB := Lib.hid hgb
  clear hx
  by_cases h0 : n < 0
  · have d1 : decide (n < 0) = true := decide_eq_true h0
    have HFIN := Lib.hid (pow_bad (X := X) (.inl h0) hgb)
    clear hX hP hgb
    go_enter Try.func36, Try.ntmps36
    go_wp2
    exact bodyPost_ret (v := .tuple #[.agg #[.bool false, .slice none 0 0], .int .i64 12]) (by simp [results, Try.results36, go_sem]) rfl HFIN.out
  · have d1 : decide (n < 0) = false := decide_eq_false h0
    by_cases h2 : 1000 < n
    · have d2 : decide (1000 < n) = true := decide_eq_true h2
      have HFIN := Lib.hid (pow_bad (X := X) (.inr h2) hgb)
      clear hX hP hgb
      go_enter Try.func36, Try.ntmps36
      go_wp2
      exact bodyPost_ret (v := .tuple #[.agg #[.bool false, .slice none 0 0], .int .i64 12]) (by simp [results, Try.results36, go_sem]) rfl HFIN.out
    · have d2 : decide (1000 < n) = false := decide_eq_false h2
      obtain ⟨m, rfl⟩ : ∃ m : Nat, n = m := ⟨n.toNat, by omega⟩
      have hm : m ≤ 1000 := by omega
      have HLX := Lib.hid hX
      have HLP := Lib.hid (fun (k : Nat) (h : k ≤ m) => hP k (by omega) (by omega))
      have HC := Lib.hid (From_c 1 ((w.alloc (.cells #[.bool s, .slice p l c] 25)).alloc (.cells #[.bool false, .slice none 0 0] 25)) (by omega) (by omega))
      clear hX hP hgb hn1 hn2
      go_enter Try.func36, Try.ntmps36
      go_wp2_with (go_at_call 16; refine HC.out.mono ?_; rintro e w3 ⟨x, rfl, hx, hg⟩; obtain ⟨s3, p3, n3, c3, hxe, HX3⟩ := int_parts hx; subst hxe; have HG3 := Lib.hid hg; clear hx hg)
      have hq0 : w.heap.size + 1 < w3.heap.size := by have := HG3.out.size; simp at this; omega
      have hB1 := zbox_alloc1 w _ _ (.cells #[.bool s3, .slice p3 n3 c3] 25) HG3.out
      have hB2 := zbox_alloc2 w _ _ (.cells #[.bool s3, .slice p3 n3 c3] 25) HG3.out
      have hga := gb_alloc HG3.out (.cells #[.bool s3, .slice p3 n3 c3] 25)
      have hwg := gb_trans HGB.out hga
      have hst : PowRel (w3.alloc (.cells #[.bool s3, .slice p3 n3 c3] 25)) X (.agg #[.bool s, .slice p l c]) w3.heap.size 0 (w3.alloc (.cells #[.bool s3, .slice p3 n3 c3] 25)) :=
        ⟨s3, p3, n3, c3, top1 _ _, by rw [Int.pow_zero]; exact HX3.out.kept (World.grownBy_alloc w3 _ none), HX.out.kept hwg, gb_refl _ _⟩
      have HST := Lib.hid hst; have HWG := Lib.hid hwg; have HB1 := Lib.hid hB1; have HB2 := Lib.hid hB2
      clear hst hwg hga hB1 hB2 HC HGB HX HX3 HG3
      go_loopw [16] (fun i wr => ∃ k : Nat, k ≤ m ∧ i = .int .i64 k ∧ Hid (PowRel (w3.alloc (.cells #[.bool s3, .slice p3 n3 c3] 25)) X (.agg #[.bool s, .slice p l c]) w3.heap.size k wr)) (fun i _ => m - (intOf i).toNat)
      case atStart => exact ⟨0, by omega, rfl, HST⟩
      case round =>
        clear HST
        obtain ⟨k, hk, rfl, HR⟩ := hrel
        obtain ⟨s4, p4, n4, c4, r1, r2, r3, r4⟩ := HR.out
        obtain ⟨q0, q1, q2⟩ := cells_of r1
        have hA1 := (r4.block _ (Array.getElem?_eq_some_iff.1 HB1.out).1 (by simp; omega)).trans HB1.out
        have hA2 := (r4.block _ (Array.getElem?_eq_some_iff.1 HB2.out).1 (by simp; omega)).trans HB2.out
        by_cases hlt : k < m
        · obtain ⟨a0, a1, a2⟩ := cells_of hA1
          have HM := Lib.hid (Mul_c _ _ (X ^ k) X wr r2 r3 (HLP.out k (by omega)) HLX.out)
          have R1 := Lib.hid r1; have R3 := Lib.hid r3; have R4 := Lib.hid r4
          clear r1 r2 r3 r4 hA1 hA2
          go_wp2_with (go_at_call 28; refine HM.out.mono ?_; rintro e w4 ⟨x, rfl, hx, hg⟩; obtain ⟨s5, p5, n5, c5, hxe, HX5⟩ := int_parts hx; subst hxe; have HG4 := Lib.hid hg; obtain ⟨z0, z1, z2⟩ := cells_of ((hg.block _ (Array.getElem?_eq_some_iff.1 R1.out).1 (by simp)).trans R1.out); clear hx hg)
          obtain ⟨b1, b2, b3⟩ := box_set R1.out HG4.out HX5.out
          go_roundw
          case rel => exact ⟨k + 1, by omega, by go_num, s5, p5, n5, c5, b2, by rw [Int.pow_succ]; exact b1, int_off R1.out HG4.out (R3.out.kept HG4.out), gb_trans (gb_trans R4.out (gb_row HG4.out)) b3⟩
          case measure => simp [intOf]; omega
        · obtain rfl : k = m := by omega
          obtain ⟨a0, a1, a2⟩ := cells_of hA2
          have hwr : w.grownBy wr none := below_gb (gb_new (gb_below HWG.out) (by omega) r4)
          have hfin := ret_box hA2 (gb_refl wr none) r2 hwr (by omega)
          obtain ⟨rc0, rc1⟩ := ret_cells (s := s4) (p := p4) (n := n4) (c := c4) hA2 (gb_refl wr none)
          have HFIN := Lib.hid hfin
          have RC := Lib.hid (And.intro rc0 rc1)
          clear r1 r2 r3 r4 hA1 hA2 hwr hfin rc0 rc1
          go_wp2_with fail
          obtain ⟨rc0, rc1⟩ := RC.out
          obtain ⟨x, e1, e2, e3⟩ := HFIN.out
          injection e1 with e1; subst e1
          exact bodyPost_ret (v := .tuple #[.agg #[.bool s4, .slice p4 n4 c4], .int .i64 0]) (by simp [results, Try.results36, go_sem, rc0, rc1]) rfl ⟨_, _, rfl, e3, fun h => by omega, fun _ _ => ⟨rfl, by rw [Int.toNat_natCast]; exact e2⟩⟩
end Go.Proofs.Ytkonfkcaefjabaa
