/- What a node may be: eachBelow, rightNode, rightNodes. -/
import Derived.Test.YtdfegmdmappefaaDoorUBack
namespace Go.Proofs.YtdfegmdmappefaaDoor
open Go.RowKit

def okB (n : Nat) (l : List Int) : Bool := l.all fun k => decide (0 ≤ k ∧ k < (n : Int))
theorem okB_true {n : Nat} {l : List Int} (h : ∀ k ∈ l, 0 ≤ k ∧ k < (n : Int)) : okB n l = true := by
  unfold okB; rw [List.all_eq_true]; exact fun k hk => decide_eq_true (h k hk)
theorem okB_false {n : Nat} {l : List Int} {j : Nat} {x : Int} (hx : l[j]? = some x) (h : ¬ (0 ≤ x ∧ x < (n : Int))) : okB n l = false := by
  unfold okB; rw [List.all_eq_false]; exact ⟨x, List.mem_of_getElem? hx, by simpa using h⟩
theorem okB_iff {n : Nat} {l : List Int} : okB n l = true ↔ ∀ k ∈ l, 0 ≤ k ∧ k < (n : Int) := by
  unfold okB; rw [List.all_eq_true]; exact forall₂_congr fun k _ => decide_eq_true_iff

set_option maxRecDepth 100000 in
set_option maxHeartbeats 4000000 in
theorem eachBelow_c (n : Nat) (l : List Int) (p : Option Addr) (c : Nat) (w : World) (hn : n ≤ 1000000) (hl : l.length ≤ 1000000) (h : VAt w p (intsV l)) :
    Calls Tryd.prog 46 #[.int .i64 (n : Int), .slice p l.length c] w (ValPost (.bool (okB n l)) w) := by
  obtain ⟨m, hm⟩ : ∃ m, l.length = m := ⟨_, rfl⟩
  have HM := Lib.hid hm
  have HV := Lib.hid h
  rw [hm] at hl ⊢
  clear hm h
  go_enter Tryd.func46, Tryd.ntmps46
  go_wp2_with fail
  go_loopw [9] (fun v wr => ∃ k : Nat, k ≤ m ∧ v = .int .i64 k ∧ wr = w ∧ Hid (∀ (j : Nat) (x : Int), j < k → l[j]? = some x → 0 ≤ x ∧ x < (n : Int))) (fun v _ => m - (intOf v).toNat)
  case atStart => exact ⟨0, Nat.zero_le _, rfl, rfl, Lib.hid (fun j x h => by omega)⟩
  case round =>
    obtain ⟨k, hk, rfl, rfl, HK⟩ := hrel
    by_cases hlt : k < m
    · have d1 : decide ((k : Int) < (m : Int)) = true := decide_eq_true (by omega)
      have d1' : decide (k < m) = true := decide_eq_true hlt
      obtain ⟨x, hx⟩ : ∃ x, l[k]? = some x := ⟨l[k]'(by rw [HM.out]; exact hlt), List.getElem?_eq_getElem _⟩
      obtain ⟨g, off, rfl, hgl, c0⟩ := kid_at HV.out hx
      have HX := Lib.hid hx
      clear hx
      by_cases h0 : x < 0
      · have d2 : decide (x < 0) = true := decide_eq_true h0
        go_wp2_with fail
        go_ret
        exact ⟨by rw [okB_false HX.out (by omega)]; rfl, gb_refl _ _⟩
      · have d2 : decide (x < 0) = false := decide_eq_false h0
        by_cases h1 : (n : Int) ≤ x
        · have d3 : decide ((n : Int) ≤ x) = true := decide_eq_true h1
          go_wp2_with fail
          go_ret
          exact ⟨by rw [okB_false HX.out (by omega)]; rfl, gb_refl _ _⟩
        · have d3 : decide ((n : Int) ≤ x) = false := decide_eq_false h1
          go_wp2_with fail
          go_roundw
          case rel => exact ⟨k + 1, by omega, by go_num, by first | rfl | trivial, Lib.hid (fun j y hj hy => by
            by_cases e : j = k
            · subst e; rw [HX.out] at hy; cases hy; omega
            · exact HK.out j y (by omega) hy)⟩
          case measure => (simp [intOf] <;> omega)
    · obtain rfl : k = m := by omega
      go_wp2_with fail
      go_ret
      exact ⟨by rw [okB_true fun y hy => by
        obtain ⟨j, hj⟩ := List.getElem?_of_mem hy
        have := (List.getElem?_eq_some_iff.1 hj).1
        rw [HM.out] at this
        exact HK.out j y this hj]; rfl, gb_refl _ _⟩

set_option maxRecDepth 100000 in
set_option maxHeartbeats 8000000 in
theorem rightNode_c {m : Nat} (N : List Nd) (K : Nat → Option Addr × Nat) (hf : Forms m N) (hN : N.length ≤ 1000) (pt pn : Option Addr) (mt ct cn n : Nat) (hn : n < N.length) (w : World) (hw : NodesAt w pn N K) :
    Calls Tryd.prog 53 #[.agg #[.slice pt mt ct, .slice pn N.length cn], .int .i64 (n : Int)] w (ValPost (.bool true) w) := by
  obtain ⟨x, hx⟩ : ∃ x, N[n]? = some x := ⟨N[n], List.getElem?_eq_getElem _⟩
  obtain ⟨f1, f2, f3, f4, f5⟩ := hf.2.1 n x hx
  have hll : x.kids.length ≤ 1000 := by
    have h1 := sz_le hf hn
    have h2 := kids_len hf hx
    omega
  obtain ⟨g, off, rfl, hgl, c0, c1, c2⟩ := node_at hw hx
  have HKK := Lib.hid (hw.2 n x hx)
  have HE := Lib.hid (fun W p c h => eachBelow_c n x.kids p c W (by omega) (by omega) h)
  have HOK := Lib.hid (okB_true f5)
  obtain ⟨M, hM⟩ : ∃ M, N.length = M := ⟨_, rfl⟩
  rw [hM] at hn ⊢
  have d1 : decide (n < M) = true := decide_eq_true hn
  have d1' : decide ((n : Int) < (M : Int)) = true := decide_eq_true (by omega)
  have H3 := Lib.hid f3
  obtain ⟨kd, hkd⟩ : ∃ kd, x.kind = kd := ⟨_, rfl⟩
  obtain ⟨tk, htk⟩ : ∃ tk, x.tok = tk := ⟨_, rfl⟩
  obtain ⟨kl, hkl⟩ : ∃ kl, x.kids.length = kl := ⟨_, rfl⟩
  obtain ⟨kq, hkq⟩ : ∃ kq, (K n).1 = kq := ⟨_, rfl⟩
  obtain ⟨kc, hkc⟩ : ∃ kc, (K n).2 = kc := ⟨_, rfl⟩
  rw [hkd] at f1 f2 f4 H3 c0
  rw [htk] at f4 c1
  rw [hkl] at HE c2 hll
  rw [hkq] at HKK c2
  rw [hkc] at c2
  have H30 : Hid (kd = 19 → kl = 0) := Lib.hid (fun h => by rw [← hkl, (H3.out h).1]; rfl)
  clear f3 f5 hkd htk hkl hkq hkc hx hw hM H3
  go_enter Tryd.func53, Tryd.ntmps53
  by_cases h19 : kd = 19
  · subst h19
    have hk0 := H30.out rfl
    subst hk0
    go_wp2_with fail
    go_ret
    exact ⟨rfl, gb_alloc (World.grownBy_alloc w _ none) _⟩
  · have d2 : (kd == 19) = false := beq_eq_false_iff_ne.2 h19
    have d3 : decide (1 ≤ kd) = true := decide_eq_true f1
    have d4 : decide (kd < 19) = true := decide_eq_true (by omega)
    have ht := f4 h19
    subst ht
    go_wp2_with fail
    have hgA := gb_alloc (World.grownBy_alloc w (.cells #[.slice pt mt ct, .slice (some ⟨g, off, none⟩) M cn] 25) none) (.cells #[.int .i64 kd, .int .i64 (-1), .slice kq kl kc] 56)
    refine (HE.out _ kq kc (HKK.out.kept hgA)).mono ?_
    rintro e w1 ⟨rfl, hg⟩
    rw [HOK.out]
    have HG := Lib.hid (gb_trans hgA hg)
    clear hgA hg
    go_wp2_with fail
    go_ret
    exact ⟨rfl, HG.out⟩

theorem cells_tree {w : World} {b : Nat} {a c : Value} {T : TypeId} (h : w.heap[b]? = some (.cells #[a, c] T (0, 0))) : w.cell? ⟨b, 0, none⟩ = some a ∧ w.cell? ⟨b, 1, none⟩ = some c := ⟨(cells2 h).1, (cells2 h).2.1⟩

set_option maxRecDepth 100000 in
set_option maxHeartbeats 8000000 in
theorem rightNodes_c {m : Nat} (N : List Nd) (K : Nat → Option Addr × Nat) (hf : Forms m N) (hN : N.length ≤ 1000) (pt pn : Option Addr) (mt ct cn : Nat) (w : World) (hw : NodesAt w pn N K) :
    Calls Tryd.prog 33 #[.agg #[.slice pt mt ct, .slice pn N.length cn]] w (ValPost (.bool true) w) := by
  have HR := Lib.hid (fun n hn W h => rightNode_c N K hf hN pt pn mt ct cn n hn W h)
  have HW := Lib.hid hw
  obtain ⟨M, hM⟩ : ∃ M, N.length = M := ⟨_, rfl⟩
  rw [hM] at HR hN ⊢
  clear hM hw
  go_enter Tryd.func33, Tryd.ntmps33
  go_wp2_with fail
  have hA := heap_alloc_new w (.cells #[.slice pt mt ct, .slice pn M cn] 25)
  have hgA := World.grownBy_alloc w (.cells #[.slice pt mt ct, .slice pn M cn] 25) none
  generalize (w.alloc (.cells #[.slice pt mt ct, .slice pn M cn] 25)) = W at *
  obtain ⟨b, hb⟩ : ∃ b, w.heap.size = b := ⟨_, rfl⟩
  rw [hb] at hA ⊢
  have HA := Lib.hid hA; have HGA := Lib.hid hgA
  clear hA hgA hb
  go_loopw [7] (fun v wr => ∃ k : Nat, k ≤ M ∧ v = .int .i64 k ∧ Hid (W.grownBy wr none)) (fun v _ => M - (intOf v).toNat)
  case atStart => exact ⟨0, Nat.zero_le _, rfl, Lib.hid (gb_refl _ _)⟩
  case round =>
    obtain ⟨k, hk, rfl, HG⟩ := hrel
    by_cases hlt : k < M
    · have d1 : decide ((k : Int) < (M : Int)) = true := decide_eq_true (by omega)
      have d1' : decide (k < M) = true := decide_eq_true hlt
      obtain ⟨a0, a1⟩ := cells_tree (bx HG.out HA.out)
      go_wp2_with fail
      refine (HR.out k hlt wr (HW.out.kept (gb_trans HGA.out HG.out))).mono ?_
      rintro e w2 ⟨rfl, hg2⟩
      have HG2 := Lib.hid (gb_trans HG.out hg2)
      clear hg2 HG a0 a1
      go_wp2_with fail
      go_roundw
      case rel => exact ⟨k + 1, by omega, by go_num, HG2⟩
      case measure => (simp [intOf] <;> omega)
    · obtain rfl : k = M := by omega
      go_wp2_with fail
      go_ret
      exact ⟨rfl, gb_trans HGA.out HG.out⟩
end Go.Proofs.YtdfegmdmappefaaDoor
