/- The document's number's text. -/
import Derived.Test.YtkonfkcaefjabaaRef1
import Derived.Test.YtkonfkcaefjabaaBounds
namespace Go.Proofs.Ytkonfkcaefjabaa
open Go.RowKit Mx

theorem conv1 (W : World) (Y : Int) (x : UInt8) (hx : (x.toNat : Int) = Y) : (convert 70 9 (.slice (some ⟨W.heap.size, 0, none⟩) 1 1)).run Try.prog (W.alloc (.cells #[.int .u8 Y] 5)) = .ok (.string ⟨#[x]⟩) (W.alloc (.cells #[.int .u8 Y] 5)) := by
  subst hx
  have := run_convert_bytes_back (P := Try.prog) (W.alloc (.cells #[.int .u8 (x.toNat : Int)] 5)) 70 9 5 ⟨W.heap.size, 0, none⟩ 1 [x] Try.underlying70 Try.underlying5 Try.underlying9 (fun j hj => by
    have hj0 : j = 0 := by simp at hj; omega
    subst hj0
    have hh := heap_alloc_new W (.cells #[.int .u8 (x.toNat : Int)] 5)
    rw [addr_add, cell_of_row _ W.heap.size (0 + 0) _ 5 (0, 0) hh]
    simp)
  exact this

theorem add_str (a : List UInt8) (x : UInt8) (ha : a.length ≤ 8000000) : ∀ W, (binOp .add 9 (.string ⟨a.toArray⟩) (.string ⟨#[x]⟩)).run Try.prog W = .ok (.string ⟨(a ++ [x]).toArray⟩) W := by
  intro W
  have h := run_string_add_lists (w := W) (P := Try.prog) a [x] (by omega) (by simp)
  have hu := Try.underlying9
  simp only [binOp]
  exact h

/-- The text so far. -/
def tx (neg : Bool) (N k : Nat) : List UInt8 := (if neg then [45] else []) ++ (decL N).take k

theorem tx_succ {neg : Bool} {N k : Nat} (hk : k < nd N) : tx neg N (k + 1) = tx neg N k ++ [UInt8.ofNat (48 + dig N (nd N - 1 - k))] := by
  unfold tx
  have hl : k < (decL N).length := by rw [decL_len]; exact hk
  rw [List.append_assoc]
  congr 1
  rw [List.take_add_one, List.getElem?_eq_getElem hl]
  congr 1
  simp [decL]

set_option maxRecDepth 100000 in
set_option maxHeartbeats 2000000 in
theorem Text_c (z : Value) (Z : Int) (w : World) (h : IsZ w z Z) (hZ : Z.natAbs < Lim) : Calls Try.prog 23 #[z] w (ValPost (txt Z) w) := by
  obtain ⟨s, p, n, c, rfl, HZ⟩ := z_parts h
  obtain ⟨hs, hnc, hcm, f, hat, hf, ht, hv⟩ := z_open h
  have hg := World.grownBy_alloc w (.cells #[.int .i64 s, .slice p n c] 31) none
  have HG := Lib.hid hg
  by_cases h0 : Z = 0
  · subst h0
    have hs0 : s = 0 := hs
    subst hs0
    clear h HZ hat hf ht hv hZ hcm hs
    rw [show txt 0 = .string ⟨#[48]⟩ from rfl]
    go_enter Try.func23, Try.ntmps23
    go_wp2
    go_ret
    exact ⟨rfl, HG.out⟩
  · have hN0 : Z.natAbs ≠ 0 := by omega
    have hn0 : 0 < n := (v10_pos ht).2 (by rw [hv]; exact hN0)
    have htop : f (n - 1) ≠ 0 := by rcases ht with h | h; omega; exact h
    obtain ⟨hnd, hdig⟩ := digits_of hf hn0 htop hv
    have hsm := nd_small hZ
    have hat := hat.grown hg (by simp)
    obtain ⟨g, off, rfl, hgs, hcell⟩ : ∃ g off, p = some ⟨g, off, none⟩ ∧ g < (w.alloc (.cells #[.int .i64 s, .slice p n c] 31)).heap.size ∧ ∀ j, j < n → (w.alloc (.cells #[.int .i64 s, .slice p n c] 31)).cell? ⟨g, off + j, none⟩ = some (.int .i64 (f j)) := by
      rcases hat with h | h
      · omega
      · exact h
    have HF := Lib.hid hf; have HDG := Lib.hid hdig; have HND := Lib.hid hnd; have HSM := Lib.hid hsm
    have HC := Lib.hid hcell
    have HSZ := Lib.hid (show n ≤ 6400000 by rw [hnd]; exact hsm)
    have hcm2 := hcm
    unfold maxLen at hcm2
    have hfin : ∀ ng, ng = decide (Z < 0) → txt Z = .string ⟨(tx ng Z.natAbs (nd Z.natAbs)).toArray⟩ := by
      intro ng hng
      unfold txt tx
      rw [show nd Z.natAbs = (decL Z.natAbs).length from (decL_len _).symm, List.take_length]
      by_cases hneg : Z < 0
      · rw [hng, decide_eq_true hneg]
        have := txt_neg hN0
        rw [show -((Z.natAbs : Nat) : Int) = Z by omega] at this
        rw [this]; rfl
      · rw [hng, decide_eq_false hneg]
        have := txt_pos hN0
        rw [show ((Z.natAbs : Nat) : Int) = Z by omega] at this
        rw [this]; rfl
    have HFIN := Lib.hid hfin
    have hne : (s == 0) = false := by
      apply beq_eq_false_iff_ne.2
      rw [hs]; unfold sg
      by_cases e : Z < 0
      · rw [if_pos e]; decide
      · rw [if_neg e, if_neg h0]; decide
    have hsn : decide (s < 0) = decide (Z < 0) := by
      rw [hs]; unfold sg
      by_cases e : Z < 0
      · rw [if_pos e]; simp [e]
      · rw [if_neg e, if_neg h0]; simp [e]
    generalize hN : Z.natAbs = N at *
    obtain ⟨ng, hng⟩ : ∃ ng, decide (Z < 0) = ng := ⟨_, rfl⟩
    rw [hng] at hsn
    have HNG := Lib.hid hng
    clear h HZ hat hf ht hv hdig hnd hsm hcell hfin hs hN hng hcm hZ
    go_enter Try.func23, Try.ntmps23
    cases ng
    · go_wp2
      go_loopw [3, 4] (fun t i wr => ∃ q : Nat, q ≤ n ∧ i = .int .i64 ((q : Int) - 1) ∧ t = .string ⟨(tx false N (n - q)).toArray⟩ ∧ Hid ((w.alloc (.cells #[.int .i64 s, .slice (some ⟨g, off, none⟩) n c] 31)).grownBy wr none)) (fun _ i _ => (intOf i + 1).toNat)
      case atStart => exact ⟨n, Nat.le_refl _, rfl, by rw [Nat.sub_self]; rfl, gb_refl _ _⟩
      case round =>
        obtain ⟨q, hq, rfl, rfl, HR⟩ := hrel
        have hbox := zcells_of ((HR.out.block _ (by simp) (by simp)).trans (top1 w (.cells #[.int .i64 s, .slice (some ⟨g, off, none⟩) n c] 31)))
        obtain ⟨x0, x1, -⟩ := hbox
        by_cases hlt : 0 < q
        · have hi0 : (0 : Int) ≤ (q : Int) - 1 := by omega
          obtain ⟨y, hy⟩ : ∃ y, f (q - 1) = y := ⟨_, rfl⟩
          have hfq := HF.out (q - 1) (by omega)
          have hcl := HR.out.cell (HC.out (q - 1) (by omega)) (by simp)
          rw [hy] at hfq hcl
          have HYQ := Lib.hid hy
          clear hy
          obtain ⟨x, hx⟩ : ∃ x : UInt8, UInt8.ofNat (48 + y) = x := ⟨_, rfl⟩
          have hx8 : x.toNat = 48 + y := by rw [← hx]; simp; omega
          have hcv := fun W => conv1 W (48 + (y : Int)) x (by omega)
          have hlen : (tx false N (n - q)).length ≤ 8000000 := by have := HSZ.out; unfold tx; split <;> simp <;> omega
          have htx : tx false N (n - (q - 1)) = tx false N (n - q) ++ [x] := by
            rw [show n - (q - 1) = n - q + 1 by omega, tx_succ (by rw [← HND.out]; omega), ← HDG.out (nd N - 1 - (n - q)) (by rw [← HND.out]; omega), ← HND.out, show n - 1 - (n - q) = q - 1 by omega, HYQ.out, hx]
          have HTX := Lib.hid htx
          have hl2 : ¬ 9223372036854775807 < (tx false N (n - q)).length + 1 := by omega
          clear hx8 hlen htx hx
          go_wp2
          go_roundw
          case rel => exact ⟨q - 1, by omega, by go_num, by rw [HTX.out, ByteArray.mk_append_mk], gb_trans HR.out (World.grownBy_alloc _ _ none)⟩
          case measure => simp [intOf]; omega
        · obtain rfl : q = 0 := by omega
          have HT := Lib.hid (HFIN.out false HNG.out.symm)
          rw [HND.out] 
          go_wp2
          go_ret
          exact ⟨congrArg (fun v => Ending.returned v) HT.out.symm, gb_trans HG.out HR.out⟩
    · go_wp2
      go_loopw [3, 4] (fun t i wr => ∃ q : Nat, q ≤ n ∧ i = .int .i64 ((q : Int) - 1) ∧ t = .string ⟨(tx true N (n - q)).toArray⟩ ∧ Hid ((w.alloc (.cells #[.int .i64 s, .slice (some ⟨g, off, none⟩) n c] 31)).grownBy wr none)) (fun _ i _ => (intOf i + 1).toNat)
      case atStart => exact ⟨n, Nat.le_refl _, rfl, by rw [Nat.sub_self]; rfl, gb_refl _ _⟩
      case round =>
        obtain ⟨q, hq, rfl, rfl, HR⟩ := hrel
        have hbox := zcells_of ((HR.out.block _ (by simp) (by simp)).trans (top1 w (.cells #[.int .i64 s, .slice (some ⟨g, off, none⟩) n c] 31)))
        obtain ⟨x0, x1, -⟩ := hbox
        by_cases hlt : 0 < q
        · have hi0 : (0 : Int) ≤ (q : Int) - 1 := by omega
          obtain ⟨y, hy⟩ : ∃ y, f (q - 1) = y := ⟨_, rfl⟩
          have hfq := HF.out (q - 1) (by omega)
          have hcl := HR.out.cell (HC.out (q - 1) (by omega)) (by simp)
          rw [hy] at hfq hcl
          have HYQ := Lib.hid hy
          clear hy
          obtain ⟨x, hx⟩ : ∃ x : UInt8, UInt8.ofNat (48 + y) = x := ⟨_, rfl⟩
          have hx8 : x.toNat = 48 + y := by rw [← hx]; simp; omega
          have hcv := fun W => conv1 W (48 + (y : Int)) x (by omega)
          have hlen : (tx true N (n - q)).length ≤ 8000000 := by have := HSZ.out; unfold tx; split <;> simp <;> omega
          have htx : tx true N (n - (q - 1)) = tx true N (n - q) ++ [x] := by
            rw [show n - (q - 1) = n - q + 1 by omega, tx_succ (by rw [← HND.out]; omega), ← HDG.out (nd N - 1 - (n - q)) (by rw [← HND.out]; omega), ← HND.out, show n - 1 - (n - q) = q - 1 by omega, HYQ.out, hx]
          have HTX := Lib.hid htx
          have hl2 : ¬ 9223372036854775807 < (tx true N (n - q)).length + 1 := by omega
          clear hx8 hlen htx hx
          go_wp2
          go_roundw
          case rel => exact ⟨q - 1, by omega, by go_num, by rw [HTX.out, ByteArray.mk_append_mk], gb_trans HR.out (World.grownBy_alloc _ _ none)⟩
          case measure => simp [intOf]; omega
        · obtain rfl : q = 0 := by omega
          have HT := Lib.hid (HFIN.out true HNG.out.symm)
          rw [HND.out] 
          go_wp2
          go_ret
          exact ⟨congrArg (fun v => Ending.returned v) HT.out.symm, gb_trans HG.out HR.out⟩
end Go.Proofs.Ytkonfkcaefjabaa
